/- Holds of the program. -/
import Derived.Test.YtcmkoffamolgmaaH1
namespace Go.Proofs.Ytcmkoffamolgmaa
open Go Go.RowKit M
set_option linter.unusedSimpArgs false
set_option linter.unusedVariables false

/-- Whether a condition holds; false where there is none. -/
def hdB (val : RK → Int) (ns : List Nd) : Bool := match treeOf nmB ns with
  | none => false
  | some t => if checkF nmB ns = 0 then t.ev val else false
theorem zeroFnB (w : World) : (zeroValue 53).run Try.prog w = .ok .nilFunc w := Try.zeroValue53 w
theorem infoFnB : (Try.prog.info? 53).map (·.size) = some 1 := by kernel_rfl
theorem ld_cd {b o : Nat} {v : Value} (w : World) (h : w.cell? ⟨b, o, none⟩ = some v) : (Instr.loadAt 23 (.pointer (some ⟨b, o, none⟩))).run Try.prog w = .ok v w := by simp [go_sem, h]
section
variable {bw bs bS : Nat} {I : World → Prop} {val : RK → Int} {R : List RK}
set_option maxRecDepth 100000 in
set_option maxHeartbeats 4000000 in
theorem holds_any (V : ValW bw bs bS I val R) (ad : Option Addr) (cap : Nat) (ns : List Nd) (hs : ∀ n ∈ ns, n.nm.size ≤ maxLen) (hn : ns.length ≤ 16777216) (w : World) (hT : Nds w ad ns) (hI : I w) (hna : ∀ b o, ad = some ⟨b, o, none⟩ → b ≠ bs) (hR : checkF nmB ns = 0 → ∀ t, treeOf nmB ns = some t → ∀ th nm v, InT th nm v t → rkOf th nm ∈ R) :
    Calls Try.prog 9 #[.slice ad ns.length cap, .func (.func 10) #[] #[.pointer (some ⟨bw, 0, none⟩), .pointer (some ⟨bs, 0, none⟩), .pointer (some ⟨bS, 0, none⟩)]] w fun e w' => e = .returned (.tuple #[.bool (hdB val ns), .int .i64 (checkF nmB ns)]) ∧ I w' ∧ One w w' bs := by
  have cC := fun W h => check_any ad cap ns hs hn W h
  have hls := V.lt w hI
  obtain ⟨A, hA⟩ : ∃ A : Ending → World → Prop, (fun e w' => e = .returned (.tuple #[.bool (hdB val ns), .int .i64 (checkF nmB ns)]) ∧ I w' ∧ One w w' bs) = A := ⟨_, rfl⟩
  have HT : Hid (Nds w ad ns) := hT
  have HI : Hid (I w) := hI
  by_cases hz : checkF nmB ns = 0
  · have hz0 : ((0 : Int) != 0) = false := rfl
    obtain ⟨t, ht⟩ : ∃ t, treeOf nmB ns = some t := by
      cases ht : treeOf nmB ns with
      | none => unfold checkF at hz; rw [ht] at hz; cases hz
      | some t => exact ⟨t, rfl⟩
    obtain ⟨hAt, hsz, hl1, hl2⟩ := tree_at ht
    have HA : Hid (∀ w', I w' → One w w' bs → A (.returned (.tuple #[.bool (t.ev val), .int .i64 0])) w') := by
      rw [← hA]; intro w' h1 h2
      refine ⟨?_, h1, h2⟩
      unfold hdB; rw [ht]; simp only [if_pos hz]; rw [hz]
    rw [hA]
    rw [hz] at cC
    have HD : Hid (∀ bc bv bh, HlA bc bv bh bw bs bS ad cap ns I (ns.length - 1) (t.ev val)) := (by
      intro bc bv bh
      have := hold_tree (bc := bc) (bv := bv) (bh := bh) (ad := ad) (cap := cap) V t 0 hAt (hR hz t ht)
      unfold Tr.root at this
      rw [hsz, Nat.zero_add] at this
      exact this)
    have hl3 : ((ns.length - 1 : Nat) : Int) = (ns.length : Int) - 1 := by omega
    clear hA hAt hsz ht hz hR hT hI
    generalize t.ev val = x at *
    have t1 : True := trivial
    have t2 : True := trivial
    have t3 : True := trivial
    have t4 : True := trivial
    have t5 : True := trivial
    have t6 : True := trivial
    go_enter Try.func9, Try.ntmps9
    go_wp2_with (first
      | (clear t1; refine wpList_box1 rfl 23 _ rfl (.slice ad ns.length cap) rfl rfl ?_; intro W1 bc F1 C1; have B1 := F1.trans (Below.refl _ w) (Nat.le_refl _); have hbc : w.heap.size ≤ bc := Nat.le_of_eq F1.at'.symm; clear F1)
      | (clear t2; refine wpList_box1 rfl 40 _ rfl (.func (.func 10) #[] #[.pointer (some ⟨bw, 0, none⟩), .pointer (some ⟨bs, 0, none⟩), .pointer (some ⟨bS, 0, none⟩)]) rfl rfl ?_; intro W2 bv F2 D2; have C2 := C1.fresh F2; have B2 := F2.trans B1 B1.size; have hbv : w.heap.size ≤ bv := (by have := B1.size; have := F2.at'; omega); have hcd : bc ≠ bv := (by have := C1.lt; have := F2.at'; omega); clear F2 C1 B1; have c2 := C2.cell 0)
      | (clear t3; go_at_call 14; refine (cC _ (HT.out.below B2)).mono ?_; rintro e W3 ⟨rfl, B3x⟩; have C3 := C2.grown B3x; have D3 := D2.grown B3x; have B3 := Below.then B2 B3x; clear C2 D2 B2 B3x)
      | (clear t4; refine wpList_alloc1 rfl 53 rfl .nilFunc rfl zeroFnB ?_; intro W4 bh F4 P4; have C4 := C3.fresh F4; have D4 := D3.fresh F4; have B4 := F4.trans B3 B3.size; have hch : bc ≠ bh := (by have := C3.lt; have := F4.at'; omega); have hdh : bv ≠ bh := (by have := D3.lt; have := F4.at'; omega); have hbh : w.heap.size ≤ bh := (by have := B3.size; have := F4.at'; omega); clear F4 C3 D3 B3)
      | (clear t5; refine wpList_store1 rfl 53 _ _ rfl rfl (.func (.func 20) #[] #[.pointer (some ⟨bc, 0, none⟩), .pointer (some ⟨bv, 0, none⟩), .pointer (some ⟨bh, 0, none⟩)]) rfl P4 (by simp) infoFnB rfl ?_; intro W5 U5 P5; have C5 := C4.upd U5 hch; have D5 := D4.upd U5 hdh; have B5 := U5.trans B4 hbh; have c5 := C5.cell 0; have p5 := P5.cell 0; have hW5 : HlW W5 bc bv bh bw bs bS ad cap ns I := ⟨C5.cell 0, D5.cell 0, P5.cell 0, HT.out.below B5, V.below _ _ HI.out B5, (by omega), (by omega), (by omega), hna⟩)
      | (clear t6; go_at_call 20; have cD := HD.out bc bv bh W5 hW5; rw [hl3] at cD; refine cD.mono ?_; rintro e W6 ⟨rfl, hW6, O6⟩))
    exact HA.out _ hW6.i ((One.of_below B5 bs).trans O6)
  · have hne : (checkF nmB ns != 0) = true := by simpa using hz
    have HA : Hid (∀ w', Below w.heap.size w w' → A (.returned (.tuple #[.bool false, .int .i64 (checkF nmB ns)])) w') := by
      rw [← hA]; intro w' h1
      refine ⟨?_, V.below _ _ hI h1, One.of_below h1 _⟩
      have : hdB val ns = false := by unfold hdB; cases treeOf nmB ns with | none => rfl | some t => simp only [if_neg hz]
      rw [this]
    rw [hA]
    clear hA hz hR hT hI
    generalize checkF nmB ns = z at *
    have t1 : True := trivial
    have t2 : True := trivial
    go_enter Try.func9, Try.ntmps9
    go_wp2_with (first
      | (clear t1; refine wpList_box1 rfl 23 _ rfl (.slice ad ns.length cap) rfl rfl ?_; intro W1 bc F1 C1; have B1 := F1.trans (Below.refl _ w) (Nat.le_refl _); clear F1)
      | (clear t2; refine wpList_box1 rfl 40 _ rfl (.func (.func 10) #[] #[.pointer (some ⟨bw, 0, none⟩), .pointer (some ⟨bs, 0, none⟩), .pointer (some ⟨bS, 0, none⟩)]) rfl rfl ?_; intro W2 bv F2 D2; have C2 := C1.fresh F2; have B2 := F2.trans B1 B1.size; clear F2 C1 B1; have c2 := C2.cell 0)
      | (go_at_call 14; refine (cC _ (HT.out.below B2)).mono ?_; rintro e W3 ⟨rfl, B3⟩))
    exact HA.out _ (Below.then B2 B3)
end
end Go.Proofs.Ytcmkoffamolgmaa
