/- inwards; Plain. -/
import Derived.Test.YtjnbhcakfenbhaaP3
namespace Go.Proofs.Ytjnbhcakfenbhaa
open Go.RowKit M
set_option linter.unusedSimpArgs false
set_option linter.unusedVariables false

theorem zeroFnN (w : World) : (zeroValue 70).run Try.prog w = .ok .nilFunc w := Try.zeroValue70 w
theorem zeroFnIB (w : World) : (zeroValue 71).run Try.prog w = .ok .nilFunc w := Try.zeroValue71 w
theorem zeroC (w : World) : (zeroValue 23).run Try.prog w = .ok (.slice none 0 0) w := Try.zeroValue23 w
theorem infoFnN : (Try.prog.info? 70).map (·.size) = some 1 := by kernel_rfl
theorem infoFnIB : (Try.prog.info? 71).map (·.size) = some 1 := by kernel_rfl
theorem nds_low {w : World} {ad : Option Addr} {ns : List Nd} (hT : Nds w ad ns) (h : 1 ≤ ns.length) : ∀ b o m, ad = some ⟨b, o, m⟩ → b < w.heap.size := fun b o m e => by
  obtain ⟨b', o', e', h2, _⟩ := hT 0 ns[0] (List.getElem?_eq_getElem (by omega))
  rw [e] at e'
  cases e'
  exact h2

set_option maxRecDepth 100000 in
set_option maxHeartbeats 1000000 in
theorem inwards_any (ad : Option Addr) (cap : Nat) (ns : List Nd) (t : Tr) (ht : treeOf nmB ns = some t) (w : World) (hT : Nds w ad ns) :
    Calls Try.prog 27 #[.slice ad ns.length cap] w fun e w' => (∃ v, e = .returned v ∧ w'.ownsRow w.heap.size 52 6 v ((plT false t).nodes 0).length (cellsL ((plT false t).nodes 0))) ∧ Below w.heap.size w w' := by
  obtain ⟨hA, hsz, hl1, hl2⟩ := tree_at ht
  have hmf : ∀ (fn : Fn) (first cap : Array Value) (w : World), (Instr.makeFunc fn first cap).run Try.prog w = .ok (.func fn first cap) w := fun _ _ _ _ => rfl
  have HP : Hid (∀ bc bo ba bp, PutA w.heap.size bc bo ba bp ad cap ns (ns.length - 1) false (plT false t)) := (by
    intro bc bo ba bp
    have := put_tree (B := w.heap.size) (bc := bc) (bo := bo) (ba := ba) (bp := bp) (ad := ad) (cap := cap) hl2 t 0 false hA
    unfold Tr.root at this
    rw [hsz, Nat.zero_add] at this
    exact this)
  have HZ : Hid ((plT false t).sz ≤ 8000) := (by show _ ≤ _; have := plT_sz t false; omega)
  have HT : Hid (Nds w ad ns) := hT
  have HLow : Hid (∀ b o m, ad = some ⟨b, o, m⟩ → b < w.heap.size) := nds_low hT hl1
  clear hA hsz ht hT
  go_enter Try.func27, Try.ntmps27
  go_wp2_with (first
    | (refine wpList_box1 rfl 23 _ rfl (.slice ad ns.length cap) rfl rfl ?_; intro W1 bc F1 C1; have B1 := F1.trans (Below.refl _ w) (Nat.le_refl _); clear F1)
    | (refine wpList_alloc1 rfl 23 rfl (.slice none 0 0) rfl zeroC ?_; intro W2 bo F2 D2; have C2 := C1.fresh F2; have B2 := F2.trans B1 B1.size; have hcd : bc ≠ bo := (by have := C1.lt; have := F2.at'; omega); have hbo : w.heap.size ≤ bo := (by have := B1.size; have := F2.at'; omega); clear F2 C1 B1)
    | (refine wpList_alloc1 rfl 70 rfl .nilFunc rfl zeroFnN ?_; intro W3 ba F3 A3; have C3 := C2.fresh F3; have D3 := D2.fresh F3; have B3 := F3.trans B2 B2.size; have hba : w.heap.size ≤ ba := (by have := B2.size; have := F3.at'; omega); clear F3 C2 D2 B2)
    | (refine wpList_store1 rfl 70 _ _ rfl rfl (.func (.func 38) #[] #[.pointer (some ⟨bo, 0, none⟩)]) rfl A3 (by simp) infoFnN rfl ?_; intro W4 U4 A4; have C4 := C3.upd U4 (C3.ne A3 (by decide)); have D4 := D3.upd U4 (D3.ne A3 (by decide)); have B4 := U4.trans B3 hba; clear U4 C3 D3 B3 A3)
    | (refine wpList_alloc1 rfl 71 rfl .nilFunc rfl zeroFnIB ?_; intro W5 bp F5 P5; have C5 := C4.fresh F5; have D5 := D4.fresh F5; have A5 := A4.fresh F5; have B5 := F5.trans B4 B4.size; have hbp : w.heap.size ≤ bp := (by have := B4.size; have := F5.at'; omega); clear F5 C4 D4 B4 A4)
    | (refine wpList_store1 rfl 71 _ _ rfl rfl (.func (.func 39) #[] #[.pointer (some ⟨bc, 0, none⟩), .pointer (some ⟨bp, 0, none⟩), .pointer (some ⟨ba, 0, none⟩)]) rfl P5 (by simp) infoFnIB rfl ?_; intro W6 U6 P6; have C6 := C5.upd U6 (C5.ne P5 (by decide)); have D6 := D5.upd U6 (D5.ne P5 (by decide)); have A6 := A5.upd U6 (A5.ne P5 (by decide)); have B6 := U6.trans B5 hbp; have HW6 : Hid (PutW W6 w.heap.size bc bo ba bp ad cap ns [] (.slice none 0 0)) := ⟨C6, A6, P6, D6, World.ownsRow_nil _ _ _ _, HT.out.below B6, HLow.out, hcd, B6.size, hbo⟩; have cc : W6.cell? ⟨bc, 0, none⟩ = some (.slice ad ns.length cap) := C6.cell 0; have cp : W6.cell? ⟨bp, 0, none⟩ = some (.func (.func 39) #[] #[.pointer (some ⟨bc, 0, none⟩), .pointer (some ⟨bp, 0, none⟩), .pointer (some ⟨ba, 0, none⟩)]) := P6.cell 0; clear U6 C5 D5 B5 A5 P5 C6 D6 A6 P6)
    | (go_at_call 39; have cD := HP.out bc bo ba bp W6 [] (.slice none 0 0) HW6.out (by have := HZ.out; simp; omega); rw [show ((ns.length - 1 : Nat) : Int) = (ns.length : Int) - 1 by omega] at cD; refine cD.mono ?_; rintro e W7 ⟨rfl, v7, P7, S7⟩; have B7 : Hid (Below w.heap.size w W7) := B6.trans (S7.below (by intro b e; cases e; exact hbo) (by intro b e; cases e) B6.size); have c7 : W7.cell? ⟨bo, 0, none⟩ = some v7 := P7.o.cell 0; have O7 : Hid (W7.ownsRow w.heap.size 52 6 v7 _ _) := P7.own; clear cD P7 S7 B6 HW6))
  go_ret
  exact ⟨⟨v7, rfl, O7.out⟩, B7.out⟩
end Go.Proofs.Ytjnbhcakfenbhaa
