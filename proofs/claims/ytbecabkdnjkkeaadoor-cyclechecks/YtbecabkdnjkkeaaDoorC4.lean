/- checked of the program. -/
import Derived.Test.YtbecabkdnjkkeaaDoorC3
namespace Go.Proofs.YtbecabkdnjkkeaaDoor
open Go Go.RowKit M
set_option linter.unusedSimpArgs false
set_option linter.unusedVariables false

/-- What checked answers. -/
def ChkA (w : World) (L : List ByteArray) (e : Ending) (w' : World) : Prop :=
  ∃ v, e = .returned (.tuple #[v, .int .i64 ((chk L).1 : Int), .int .i64 (chk L).2]) ∧ ((chk L).2 = 0 → w'.ownsRow w.heap.size 3 1 v L.length ((L.map nuF).flatMap natE)) ∧ Below w.heap.size w w'
theorem ok_hit {ns : List Nat} {n k x e : Nat} (hn : ns.length = n) (hx : ns[prv n k]? = some x) (he : ns[k]? = some e) : okB ns k = (toF x == frF e) := by
  unfold okB; rw [hn, List.getD_eq_getElem?_getD, List.getD_eq_getElem?_getD, hx, he]; rfl
theorem own_seg {W : World} {B t n k c : Nat} {a : Option Addr} {cs : List Value} (h : W.ownsRow B t k (.slice a n c) n cs) : Seg W a cs := by
  obtain ⟨a', c', e, hs, _⟩ := own_row h
  cases e; exact hs
set_option maxRecDepth 100000 in
set_option maxHeartbeats 8000000 in
theorem checked_any (L : List ByteArray) (n c : Nat) (a : Option Addr) (hl : L.length = n) (hn : n ≤ 8796093022208) (w : World) (hE : EdAt w) (hS : Seg w a (L.flatMap strE)) :
    Calls Tryd.prog 13 #[.slice a n c] w (ChkA w L) := by
  have hC := fun (h : n ≤ 1048576) W hE hS => numbersOf_any L n c a hl h W hE hS
  have HL : Hid (L.length = n) := hl
  have HE : Hid (EdAt w) := hE
  have HS : Hid (Seg w a (L.flatMap strE)) := hS
  obtain ⟨A, hA⟩ : ∃ A, ChkA w L = A := ⟨_, rfl⟩
  have HA1 : Hid (∀ (v : Value) (i : Nat) (e : Int) w', chk L = (i, e) → e ≠ 0 → Below w.heap.size w w' → A (.returned (.tuple #[v, .int .i64 (i : Int), .int .i64 e])) w') := by
    rw [← hA]; intro v i e w' h1 h2 h3
    exact ⟨v, by rw [h1], fun h => absurd (by rw [h1] at h; exact h) h2, h3⟩
  have HA2 : Hid (∀ (v : Value) w', chk L = (0, 0) → w'.ownsRow w.heap.size 3 1 v n ((L.map nuF).flatMap natE) → Below w.heap.size w w' → A (.returned (.tuple #[v, .int .i64 0, .int .i64 0])) w') := by
    rw [← hA]; intro v w' h1 h2 h3
    exact ⟨v, by rw [h1]; rfl, fun _ => by rw [hl]; exact h2, h3⟩
  rw [hA]
  clear hA hE hS hl
  by_cases h16 : 16 < n
  · have h16I : (16 : Int) < n := by omega
    have HK := chk_long (L := L) (by rw [HL.out]; exact h16)
    clear hC
    go_enter Tryd.func13, Tryd.ntmps13
    go_wp2
    exact bodyPost_ret (v := .tuple #[.slice none 0 0, .int .i64 0, .int .i64 1]) (by simp [results, Tryd.results13, go_sem]) rfl (HA1.out _ 0 1 _ HK (by decide) (Below.refl _ _))
  · have h16I : (n : Int) ≤ 16 := by omega
    have h16N : n ≤ 16 := by omega
    have hC' := hC (by omega)
    have hb0 : badN L ≤ n := by have := (fst_le (badP L) L.length 0).1; unfold badN; rw [HL.out] at *; omega
    clear hC h16
    by_cases hb : badN L < n
    · have HK : Hid (chk L = (badN L, 260)) := chk_bad (by rw [HL.out]; exact h16N) (by rw [HL.out]; exact hb)
      have hC2 : ∀ W, EdAt W → Seg W a (L.flatMap strE) → Calls Tryd.prog 23 #[.slice a n c] W fun e w' => ∃ v, e = .returned (.tuple #[v, .int .i64 (badN L : Int)]) ∧ Below W.heap.size W w' := fun W h1 h2 =>
        (hC' W h1 h2).mono fun e w' ⟨v, h3, _, _, h4⟩ => ⟨v, by rw [h3, if_pos (by rw [HL.out]; exact hb)], h4⟩
      clear hC' hb hb0
      generalize badN L = q at *
      have tb : True := trivial
      go_enter Tryd.func13, Tryd.ntmps13
      go_wp2_with (first
        | (clear tb; go_at_call 23; refine (hC2 _ HE.out HS.out).mono ?_; rintro e W1 ⟨v, rfl, B1⟩))
      exact bodyPost_ret (v := .tuple #[.slice none 0 0, .int .i64 (q : Int), .int .i64 260]) (by simp [results, Tryd.results13, go_sem]) rfl (HA1.out _ q 260 _ HK.out (by decide) B1)
    · have hbn : badN L = n := by omega
      have HG : Hid (∀ s ∈ L, nuF s < 18) := all_good (by rw [HL.out]; exact hbn)
      have hC2 : ∀ W, EdAt W → Seg W a (L.flatMap strE) → Calls Tryd.prog 23 #[.slice a n c] W fun e w' => ∃ v, e = .returned (.tuple #[v, .int .i64 (-1)]) ∧ w'.ownsRow W.heap.size 3 1 v n ((L.map nuF).flatMap natE) ∧ Below W.heap.size W w' := fun W h1 h2 =>
        (hC' W h1 h2).mono fun e w' ⟨v, h3, _, h5, h4⟩ => ⟨v, by rw [h3, if_neg (by rw [HL.out]; omega)], by have := h5 (by rw [HL.out]; exact hbn); rwa [HL.out] at this, h4⟩
      have HBN : Hid (badN L = L.length) := by rw [HL.out]; exact hbn
      have HNL : Hid ((L.map nuF).length = n) := by show _ = _; rw [List.length_map]; exact HL.out
      have HV : Hid (∀ x ∈ L.map nuF, x < 18) := fun x hx => by obtain ⟨s, hs, rfl⟩ := List.mem_map.1 hx; exact HG.out s hs
      have HK1 : Hid (∀ q, misN (L.map nuF) = q → q < n → chk L = (q, 260)) := fun q h1 h2 => by
        have := chk_mis (L := L) (by rw [HL.out]; exact h16N) HBN.out (by rw [h1, HL.out]; exact h2)
        rw [h1] at this; exact this
      have HK2 : Hid (misN (L.map nuF) = n → (n < 2 ∨ cntF outF (L.map nuF) < 2 ∨ cntF awF (L.map nuF) < 2) → chk L = (0, 260)) := fun h1 h2 =>
        chk_few (by rw [HL.out]; exact h16N) HBN.out (by rw [h1, HL.out]) (by rw [HL.out]; exact h2)
      have HK3 : Hid (misN (L.map nuF) = n → ¬ (n < 2 ∨ cntF outF (L.map nuF) < 2 ∨ cntF awF (L.map nuF) < 2) → chk L = (0, 0)) := fun h1 h2 =>
        chk_ok (by rw [HL.out]; exact h16N) HBN.out (by rw [h1, HL.out]) (by rw [HL.out]; exact h2)
      clear hC' hb hb0 hbn HBN
      generalize L.map nuF = ns at *
      have tb : True := trivial
      go_enter Tryd.func13, Tryd.ntmps13
      go_wp2_with (first
        | (clear tb; go_at_call 23; refine (hC2 _ HE.out HS.out).mono ?_; rintro e W1 ⟨v, rfl, O1, B1⟩; obtain ⟨a5, c5, rfl⟩ := own_form O1))
      clear hC2
      have HB1 : Hid (Below w.heap.size w W1) := B1
      have HO1 : Hid (W1.ownsRow w.heap.size 3 1 (.slice a5 n c5) n (ns.flatMap natE)) := O1
      have HE1 : Hid (EdAt W1) := HE.out.below B1
      clear B1 O1
      go_loopw [22] (fun i wr => ∃ k : Nat, k ≤ n ∧ i = .int .i64 (k : Int) ∧ Hid (Below W1.heap.size W1 wr) ∧ Hid (FstAt (fun i => !okB ns i) n k)) (fun i _ => n - (intOf i).toNat)
      case atStart => exact ⟨0, Nat.zero_le _, rfl, Below.refl _ _, FstAt.zero _ _⟩
      case round =>
        obtain ⟨k, hk, rfl, HB, HF⟩ := hrel
        by_cases hlt : k < n
        · have hki : (k : Int) < n := by omega
          have hA := fun W => ahead_any n k c5 a5 hlt (by omega) W
          have hpN : prv n k < n := prv_lt (by omega)
          have hpI : (prv n k : Int) < n := by omega
          obtain ⟨e, he⟩ : ∃ e, ns[k]? = some e := ⟨_, List.getElem?_eq_getElem (by rw [HNL.out]; exact hlt)⟩
          obtain ⟨x, hx⟩ : ∃ x, ns[prv n k]? = some x := ⟨_, List.getElem?_eq_getElem (by rw [HNL.out]; exact hpN)⟩
          have HO := own_below HO1.out HB.out
          obtain ⟨b1, o1, rfl, hb1, hc⟩ := seg_cell (own_seg HO) (nat_at he)
          have hcp : wr.cell? ⟨b1, o1 + prv n k, none⟩ = some (.int .i64 (x : Int)) := by
            obtain ⟨b2, o2, h1, _, h2⟩ := seg_cell (own_seg HO) (nat_at hx)
            cases h1; exact h2
          have HOK : Hid (okB ns k = (toF x == frF e)) := ok_hit HNL.out hx he
          have heN : e < 18 := HV.out e (List.mem_of_getElem? he)
          have hxN : x < 18 := HV.out x (List.mem_of_getElem? hx)
          have heI : (e : Int) < 18 := by omega
          have hxI : (x : Int) < 18 := by omega
          obtain ⟨_, _, g2, _, _⟩ := (HE1.out.below HB.out).cells heN
          obtain ⟨_, _, _, h3, _⟩ := (HE1.out.below HB.out).cells hxN
          clear he hx HO
          generalize prv n k = p at *
          generalize toF x = tx at *
          generalize frF e = fe at *
          replace hA := fun W (h : Below wr.heap.size wr W) => (hA W).mono fun e w' ⟨h1, h2⟩ => (⟨h1, by rw [h2]; exact Below.refl _ _⟩ : _ ∧ Below W.heap.size W w')
          by_cases hq : tx = fe
          · subst hq
            have hne : (tx != tx) = false := by simp
            have HN : Hid (FstAt (fun i => !okB ns i) n (k + 1)) := HF.out.next hlt (by rw [HOK.out]; simp)
            clear HOK HF
            go_wp2
            refine grow_allW (by kernel_rfl) (by kernel_rfl) ?_
            refine WG.put rfl (v := .slice (some ⟨b1, o1, none⟩) n c5) (fun w => by first | rfl | (go_simp; done) | (simp [go_sem]; done) | (simp [execOp, go_sem]; done)) ?_
            simp only [Act.put, List.setIfInBounds_toArray, List.set_cons_succ, List.set_cons_zero]
            refine WG.put rfl (v := .slice (some ⟨b1, o1, none⟩) n c5) (fun w => by first | rfl | (go_simp; done) | (simp [go_sem]; done) | (simp [execOp, go_sem]; done)) ?_
            simp only [Act.put, List.setIfInBounds_toArray, List.set_cons_succ, List.set_cons_zero]
            refine WG.put rfl (v := .int .i64 (k : Int)) (fun w => by first | rfl | (go_simp; done) | (simp [go_sem]; done) | (simp [execOp, go_sem]; done)) ?_
            simp only [Act.put, List.setIfInBounds_toArray, List.set_cons_succ, List.set_cons_zero]
            refine WG.call rfl (v := .int .i64 (p : Int)) (fun w hw => hA w hw) (fun w => by first | rfl | (go_simp; done) | (simp [go_sem]; done)) ?_
            simp only [Act.put, List.setIfInBounds_toArray, List.set_cons_succ, List.set_cons_zero]
            refine WG.put rfl (v := .pointer (some ⟨b1, o1 + p, none⟩)) (fun w => by first | rfl | (go_simp; done) | (simp [go_sem, hpI, hpN]; done) | (simp [execOp, go_sem, hpI, hpN]; done)) ?_
            simp only [Act.put, List.setIfInBounds_toArray, List.set_cons_succ, List.set_cons_zero]
            refine WG.cell rfl 3 _ rfl rfl hcp (fun w h => by simp [go_sem, h]) ?_
            simp only [Act.put, List.setIfInBounds_toArray, List.set_cons_succ, List.set_cons_zero]
            refine WG.put rfl (v := .pointer (some ⟨0, x * 5, none⟩)) (fun w => by first | rfl | (go_simp; done) | (simp [go_sem, hxI, hxN]; done) | (simp [execOp, go_sem, hxI, hxN]; done)) ?_
            simp only [Act.put, List.setIfInBounds_toArray, List.set_cons_succ, List.set_cons_zero]
            refine WG.put rfl (v := .pointer (some ⟨0, x * 5 + 3, none⟩)) (fun w => by first | rfl | (go_simp; done) | (simp [go_sem]; done) | (simp [execOp, go_sem]; done)) ?_
            simp only [Act.put, List.setIfInBounds_toArray, List.set_cons_succ, List.set_cons_zero]
            refine WG.cell rfl 3 _ rfl rfl h3 (fun w h => by simp [go_sem, h]) ?_
            simp only [Act.put, List.setIfInBounds_toArray, List.set_cons_succ, List.set_cons_zero]
            refine WG.put rfl (v := .int .i64 (e : Int)) (fun w => by first | rfl | (go_simp; done) | (simp [go_sem]; done) | (simp [execOp, go_sem]; done)) ?_
            simp only [Act.put, List.setIfInBounds_toArray, List.set_cons_succ, List.set_cons_zero]
            refine WG.put rfl (v := .pointer (some ⟨0, e * 5, none⟩)) (fun w => by first | rfl | (go_simp; done) | (simp [go_sem, heI, heN]; done) | (simp [execOp, go_sem, heI, heN]; done)) ?_
            simp only [Act.put, List.setIfInBounds_toArray, List.set_cons_succ, List.set_cons_zero]
            refine WG.put rfl (v := .pointer (some ⟨0, e * 5 + 2, none⟩)) (fun w => by first | rfl | (go_simp; done) | (simp [go_sem]; done) | (simp [execOp, go_sem]; done)) ?_
            simp only [Act.put, List.setIfInBounds_toArray, List.set_cons_succ, List.set_cons_zero]
            refine WG.cell rfl 3 _ rfl rfl g2 (fun w h => by simp [go_sem, h]) ?_
            simp only [Act.put, List.setIfInBounds_toArray, List.set_cons_succ, List.set_cons_zero]
            refine WG.put rfl (v := .bool false) (fun w => by first | rfl | (go_simp; done) | (simp [go_sem, hne]; done) | (simp [execOp, go_sem, hne]; done)) ?_
            simp only [Act.put, List.setIfInBounds_toArray, List.set_cons_succ, List.set_cons_zero]
            refine WG.nil ?_
            intro w5 B5
            go_wp2
            go_roundw
            case rel => exact ⟨k + 1, by omega, by go_num, Below.then HB.out B5, HN⟩
            case measure => simp [intOf]; omega
          · have hne : (tx != fe) = true := by simpa using hq
            have HN : Hid (misN ns = k) := by
              show fst' _ _ _ = _; rw [HNL.out]; exact HF.out.hit hlt (by rw [HOK.out]; simpa using hq)
            clear HOK HF hq
            go_wp2
            refine grow_allW (by kernel_rfl) (by kernel_rfl) ?_
            refine WG.put rfl (v := .slice (some ⟨b1, o1, none⟩) n c5) (fun w => by first | rfl | (go_simp; done) | (simp [go_sem]; done) | (simp [execOp, go_sem]; done)) ?_
            simp only [Act.put, List.setIfInBounds_toArray, List.set_cons_succ, List.set_cons_zero]
            refine WG.put rfl (v := .slice (some ⟨b1, o1, none⟩) n c5) (fun w => by first | rfl | (go_simp; done) | (simp [go_sem]; done) | (simp [execOp, go_sem]; done)) ?_
            simp only [Act.put, List.setIfInBounds_toArray, List.set_cons_succ, List.set_cons_zero]
            refine WG.put rfl (v := .int .i64 (k : Int)) (fun w => by first | rfl | (go_simp; done) | (simp [go_sem]; done) | (simp [execOp, go_sem]; done)) ?_
            simp only [Act.put, List.setIfInBounds_toArray, List.set_cons_succ, List.set_cons_zero]
            refine WG.call rfl (v := .int .i64 (p : Int)) (fun w hw => hA w hw) (fun w => by first | rfl | (go_simp; done) | (simp [go_sem]; done)) ?_
            simp only [Act.put, List.setIfInBounds_toArray, List.set_cons_succ, List.set_cons_zero]
            refine WG.put rfl (v := .pointer (some ⟨b1, o1 + p, none⟩)) (fun w => by first | rfl | (go_simp; done) | (simp [go_sem, hpI, hpN]; done) | (simp [execOp, go_sem, hpI, hpN]; done)) ?_
            simp only [Act.put, List.setIfInBounds_toArray, List.set_cons_succ, List.set_cons_zero]
            refine WG.cell rfl 3 _ rfl rfl hcp (fun w h => by simp [go_sem, h]) ?_
            simp only [Act.put, List.setIfInBounds_toArray, List.set_cons_succ, List.set_cons_zero]
            refine WG.put rfl (v := .pointer (some ⟨0, x * 5, none⟩)) (fun w => by first | rfl | (go_simp; done) | (simp [go_sem, hxI, hxN]; done) | (simp [execOp, go_sem, hxI, hxN]; done)) ?_
            simp only [Act.put, List.setIfInBounds_toArray, List.set_cons_succ, List.set_cons_zero]
            refine WG.put rfl (v := .pointer (some ⟨0, x * 5 + 3, none⟩)) (fun w => by first | rfl | (go_simp; done) | (simp [go_sem]; done) | (simp [execOp, go_sem]; done)) ?_
            simp only [Act.put, List.setIfInBounds_toArray, List.set_cons_succ, List.set_cons_zero]
            refine WG.cell rfl 3 _ rfl rfl h3 (fun w h => by simp [go_sem, h]) ?_
            simp only [Act.put, List.setIfInBounds_toArray, List.set_cons_succ, List.set_cons_zero]
            refine WG.put rfl (v := .int .i64 (e : Int)) (fun w => by first | rfl | (go_simp; done) | (simp [go_sem]; done) | (simp [execOp, go_sem]; done)) ?_
            simp only [Act.put, List.setIfInBounds_toArray, List.set_cons_succ, List.set_cons_zero]
            refine WG.put rfl (v := .pointer (some ⟨0, e * 5, none⟩)) (fun w => by first | rfl | (go_simp; done) | (simp [go_sem, heI, heN]; done) | (simp [execOp, go_sem, heI, heN]; done)) ?_
            simp only [Act.put, List.setIfInBounds_toArray, List.set_cons_succ, List.set_cons_zero]
            refine WG.put rfl (v := .pointer (some ⟨0, e * 5 + 2, none⟩)) (fun w => by first | rfl | (go_simp; done) | (simp [go_sem]; done) | (simp [execOp, go_sem]; done)) ?_
            simp only [Act.put, List.setIfInBounds_toArray, List.set_cons_succ, List.set_cons_zero]
            refine WG.cell rfl 3 _ rfl rfl g2 (fun w h => by simp [go_sem, h]) ?_
            simp only [Act.put, List.setIfInBounds_toArray, List.set_cons_succ, List.set_cons_zero]
            refine WG.put rfl (v := .bool true) (fun w => by first | rfl | (go_simp; done) | (simp [go_sem, hne]; done) | (simp [execOp, go_sem, hne]; done)) ?_
            simp only [Act.put, List.setIfInBounds_toArray, List.set_cons_succ, List.set_cons_zero]
            refine WG.nil ?_
            intro w5 B5
            go_wp2
            exact bodyPost_ret (v := .tuple #[.slice none 0 0, .int .i64 (k : Int), .int .i64 260]) (by simp [results, Tryd.results13, go_sem]) rfl (HA1.out _ k 260 _ (HK1.out k HN.out hlt) (by decide) (Below.then HB1.out (Below.then HB.out B5)))
        · have e : k = n := by omega
          subst e
          have HM : Hid (misN ns = k) := by show fst' _ _ _ = _; rw [HNL.out]; exact HF.out.done (Nat.le_refl _)
          have HO := own_below HO1.out HB.out
          have HS2 := own_seg HO
          have hk1 := count_goesOut ns k c5 a5 HNL.out (by omega) HV.out wr (HE1.out.below HB.out) HS2
          have hk2 := count_leadsAway ns k c5 a5 HNL.out (by omega) HV.out wr (HE1.out.below HB.out) HS2
          have HBA : Hid (Below w.heap.size w wr) := Below.then HB1.out HB.out
          have HOO : Hid (wr.ownsRow w.heap.size 3 1 (.slice a5 k c5) k (ns.flatMap natE)) := HO
          have HKa := HK2.out HM.out
          have HKb := HK3.out HM.out
          clear HO HS2 HK1 HK2 HK3 HM
          generalize cntF outF ns = x at *
          generalize cntF awF ns = y at *
          have HKA : Hid (k < 2 ∨ x < 2 ∨ y < 2 → chk L = (0, 260)) := HKa
          have HKB : Hid (¬ (k < 2 ∨ x < 2 ∨ y < 2) → chk L = (0, 0)) := HKb
          clear HKa HKb hlt
          by_cases q1 : k < 2
          · have q1I : (k : Int) < 2 := by omega
            have d1 : decide ((k : Int) < 2) = true := by simpa using q1I
            clear hk1 hk2 q1I
            have HZ := HKA.out (Or.inl q1)
            clear q1
            go_wp2
            exact bodyPost_ret (v := .tuple #[.slice none 0 0, .int .i64 0, .int .i64 260]) (by simp [results, Tryd.results13, go_sem]) rfl (HA1.out _ 0 260 _ HZ (by decide) HBA.out)
          · have d1 : decide ((k : Int) < 2) = false := by simpa using (show ¬ ((k : Int) < 2) by omega)
            by_cases q2 : x < 2
            · have d2 : decide ((x : Int) < 2) = true := by simpa using (show ((x : Int) < 2) by omega)
              have HZ := HKA.out (Or.inr (Or.inl q2))
              clear q1 q2 hk2
              go_wp2_with (first
                | (go_at_call 25; refine hk1.mono ?_; rintro e' w' ⟨rfl, hw'⟩; replace hw' := hw'.symm; subst hw'))
              exact bodyPost_ret (v := .tuple #[.slice none 0 0, .int .i64 0, .int .i64 260]) (by simp [results, Tryd.results13, go_sem]) rfl (HA1.out _ 0 260 _ HZ (by decide) HBA.out)
            · have d2 : decide ((x : Int) < 2) = false := by simpa using (show ¬ ((x : Int) < 2) by omega)
              by_cases q3 : y < 2
              · have d3 : decide ((y : Int) < 2) = true := by simpa using (show ((y : Int) < 2) by omega)
                have HZ := HKA.out (Or.inr (Or.inr q3))
                clear q1 q2 q3
                have tb : True := trivial
                go_wp2_with (first
                  | (clear tb; go_at_call 25; refine hk1.mono ?_; rintro e' w' ⟨rfl, hw'⟩; replace hw' := hw'.symm; subst hw')
                  | (go_at_call 25; refine hk2.mono ?_; rintro e' w' ⟨rfl, hw'⟩; replace hw' := hw'.symm; subst hw'))
                exact bodyPost_ret (v := .tuple #[.slice none 0 0, .int .i64 0, .int .i64 260]) (by simp [results, Tryd.results13, go_sem]) rfl (HA1.out _ 0 260 _ HZ (by decide) HBA.out)
              · have d3 : decide ((y : Int) < 2) = false := by simpa using (show ¬ ((y : Int) < 2) by omega)
                have HZ := HKB.out (by omega)
                clear q1 q2 q3
                have tb : True := trivial
                go_wp2_with (first
                  | (clear tb; go_at_call 25; refine hk1.mono ?_; rintro e' w' ⟨rfl, hw'⟩; replace hw' := hw'.symm; subst hw')
                  | (go_at_call 25; refine hk2.mono ?_; rintro e' w' ⟨rfl, hw'⟩; replace hw' := hw'.symm; subst hw'))
                exact bodyPost_ret (v := .tuple #[.slice a5 k c5, .int .i64 0, .int .i64 0]) (by simp [results, Tryd.results13, go_sem]) rfl (HA2.out _ _ HZ HOO.out HBA.out)
end Go.Proofs.YtbecabkdnjkkeaaDoor
