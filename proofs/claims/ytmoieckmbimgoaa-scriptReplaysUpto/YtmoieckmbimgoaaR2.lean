/- Replay, of the reference. -/
import Derived.Test.YtmoieckmbimgoaaR1
namespace Go.Proofs.Ytmoieckmbimgoaa
open Go.RowKit M
set_option linter.unusedSimpArgs false
set_option linter.unusedVariables false

set_option maxRecDepth 100000 in
set_option maxHeartbeats 8000000 in
theorem rreplay_any (g : GR) (hf : g.Few) (bn bg : Nat) (S : ByteArray) (hS1 : S.size ≤ 1) (ks : List PK) (n : Nat) (hn0 : ks.length = n) (hn : n ≤ 2000) (al : Option Addr) (cl : Nat) (w : World) (hM : MG w g bn bg) (hL : Seg w al (ks.flatMap pkL)) :
    Calls Try.prog 8 #[.agg (mcL S g bn bg).toArray, .slice al n cl] w fun e w' => RepA w (S :: stsF (stepM g) S ks) (tkF (stepM g) S ks) e w' := by
  have hS := fun W s k (hs : s.size ≤ 1099511627776) (h : MG W g bn bg) => rstep_any g hf s hs bn bg k S (fnV 21 bn bg (holB g 1)) (fnV 23 bn bg (holB g 4)) W h
  have HMC : Hid (mcL S g bn bg = [.string S, fnV 21 bn bg (holB g 1), fnV 22 bn bg (holB g 2), fnV 23 bn bg (holB g 4)]) := rfl
  have hml : (mcL S g bn bg).length = 4 := rfl
  have hv0 : (mcL S g bn bg)[0]? = some (.string S) := rfl
  rw [← HMC.out] at hS
  generalize mcL S g bn bg = mc at hS hml hv0 ⊢
  clear HMC
  have HMl : Hid (mc.length = 4) := hml
  have HV0 : Hid (mc[0]? = some (.string S)) := hv0
  have HM : Hid (MG w g bn bg) := hM
  have HL : Hid (Seg w al (ks.flatMap pkL)) := hL
  have HS1 : Hid (S.size ≤ 1) := hS1
  have HKN : Hid (ks.length = n) := hn0
  have hsz : ∀ s k, (stepM g s k).1.size ≤ 1 := stepM_size g
  generalize stepM g = f at hS hsz ⊢
  have HSZ : Hid (∀ s k, (f s k).1.size ≤ 1) := hsz
  obtain ⟨A, hA⟩ : ∃ A, RepA w (S :: stsF f S ks) (tkF f S ks) = A := ⟨_, rfl⟩
  have HA : Hid (∀ v1 v2 w', w'.ownsRow w.heap.size 9 1 v1 (n + 1) ((S :: stsF f S ks).flatMap strE) → w'.ownsRow w.heap.size 4 1 v2 n ((tkF f S ks).flatMap bolE) → Below w.heap.size w w' → A (.returned (.tuple #[v1, v2])) w') := by
    rw [← hA]; exact fun v1 v2 w' h1 h2 h3 => ⟨v1, v2, rfl, by rw [List.length_cons, sts_len, hn0]; exact h1, by rw [tk_len, hn0]; exact h2, h3⟩
  rw [hA]
  clear hA hM hf hml hv0 hL hS1 hn0 hsz
  have t1 : True := trivial
  have t2 : True := trivial
  go_enter Try.func8, Try.ntmps8
  go_wp2_with (first
    | (clear t1; refine wpList_boxS rfl 32 _ rfl mc rfl ?_; intro W1 b1 F1 C1; have B1 := F_b F1; have y0 : W1.cell? ⟨b1, 0, none⟩ = some (.string S) := (C1.cell 0).trans HV0.out; clear F1)
    | (clear t2; refine wpList_build1E eStr rfl _ rfl (.string S) rfl rfl ?_; intro W2 b2 F2 C2; have D2 := F_b F2; have P2 : W2.ownsRow W1.heap.size 9 1 (.slice (some ⟨b2, 0, none⟩) 1 1) 1 [.string S] := own_is C2 (Nat.le_of_eq F2.at'.symm) rfl (by omega); clear F2))
  have HC1 : Hid (IsS W1 b1 32 mc) := C1
  have HB1 : Hid (Below w.heap.size w W1) := B1
  have HP3 : Hid (W2.ownsRow W1.heap.size 9 1 (.slice (some ⟨b2, 0, none⟩) 1 1) 1 [.string S] ∧ Below W1.heap.size W1 W2) := ⟨P2, D2⟩
  clear C1 B1 P2 D2 y0 C2
  go_loopw [6, 7, 8] (fun v6 v7 v21 wr => ∃ (i : Nat), i ≤ n ∧ v21 = .int .i64 (i : Int) ∧ (∃ a6 c6, v6 = .slice a6 (i + 1) c6) ∧ (∃ a7 c7, v7 = .slice a7 i c7) ∧ Hid (wr.ownsRow W1.heap.size 9 1 v6 (i + 1) ((S :: stsF f S (ks.take i)).flatMap strE)) ∧ Hid (wr.ownsRow W1.heap.size 4 1 v7 i ((tkF f S (ks.take i)).flatMap bolE)) ∧ Hid (Below W1.heap.size W1 wr)) (fun _ _ v21 _ => n - (intOf v21).toNat)
  case atStart => exact ⟨0, Nat.zero_le _, rfl, ⟨_, _, rfl⟩, ⟨_, _, rfl⟩, HP3.out.1, own_nil _ _ _ _, HP3.out.2⟩
  case round =>
    obtain ⟨i, hi, rfl, ⟨a6, c6, rfl⟩, ⟨a7, c7, rfl⟩, HO6, HO7, HB⟩ := hrel
    have HBB : Hid (Below w.heap.size w wr) := Below.then HB1.out HB.out
    by_cases hlt : i < n
    · have hki : (i : Int) < n := by omega
      obtain ⟨k, hk⟩ : ∃ q, ks[i]? = some q := ⟨_, List.getElem?_eq_getElem (by rw [HKN.out]; exact hlt)⟩
      have HTK : Hid (ks.take (i + 1) = ks.take i ++ [k]) := take_at hk
      obtain ⟨bl, ol, ea, hbl0, rg0⟩ := pk_range HL.out hk
      subst ea
      obtain ⟨s, hs0⟩ : ∃ s, s = lastS f S (ks.take i) := ⟨_, rfl⟩
      have HSL : Hid (s = lastS f S (ks.take i)) := hs0
      obtain ⟨a6', c6', ev6, sg6, _⟩ := own_row HO6.out
      cases ev6
      have hg6 : (S :: stsF f S (ks.take i))[i]? = some s := by rw [sts_get _ _ _ (by rw [List.length_take, HKN.out]; omega), List.take_take, Nat.min_self, ← hs0]
      obtain ⟨b6, o6, ea6, hb6, y6⟩ := sg6 i _ (str_at hg6)
      subst ea6
      have hss : s.size ≤ 1 := by rw [HSL.out]; exact last_size HSZ.out _ _ HS1.out
      have hS' := fun W (h : MG W g bn bg) => hS W s k (Nat.le_trans hss (by decide)) h
      have HNX : Hid (∀ b, (f s k).2 = b → lastS f S (ks.take (i + 1)) = (if b then (f s k).1 else s) ∧ (S :: stsF f S (ks.take (i + 1))) = (S :: stsF f S (ks.take i)) ++ [if b then (f s k).1 else s] ∧ tkF f S (ks.take (i + 1)) = tkF f S (ks.take i) ++ [b]) := by
        intro b hb
        rw [HTK.out, last_snoc, sts_snoc, tk_snoc, ← HSL.out]
        subst hb
        exact ⟨rfl, rfl, rfl⟩
      have rg := range_below rg0 hbl0 HBB.out
      have hblr : bl < wr.heap.size := Nat.lt_of_lt_of_le hbl0 HBB.out.size
      have CC := HC1.out.grown HB.out
      have hii : (i : Int) < (i : Int) + 1 := by omega
      have hi1 : ((i : Int) + 1) = ((i + 1 : Nat) : Int) := by omega
      clear hk rg0 hg6 sg6 hs0 hi1
      cases hb : (f s k).2 with
      | true =>
        obtain ⟨e1, e2, e3⟩ := HNX.out _ hb
        rw [hb] at hS'
        obtain ⟨r1, hr1⟩ : ∃ r, (f s k).1 = r := ⟨_, rfl⟩
        rw [hr1] at hS' e1 e2
        have E2 : Hid ((S :: stsF f S (ks.take (i + 1))) = (S :: stsF f S (ks.take i)) ++ [r1]) := e2
        have E3 : Hid (tkF f S (ks.take (i + 1)) = tkF f S (ks.take i) ++ [true]) := e3
        clear e1 e2 e3 hr1 hb HNX hss
        have t7 : True := trivial
        have t8 : True := trivial
        have t9 : True := trivial
        have t10 : True := trivial
        go_wp2_with fail
        refine grow_allW (by kernel_rfl) (by kernel_rfl) ?_
        refine WG.row rfl 32 _ rfl rfl CC mc rfl _ Try.underlying32 rfl (by rw [HMl.out]; exact infoMc) ?_
        simp only [Act.put, List.setIfInBounds_toArray, List.set_cons_succ, List.set_cons_zero]
        refine WG.put rfl (v := (.string s)) (fun w => by first | rfl | (go_simp; done) | (simp [go_sem]; done) | (simp [execOp, go_sem]; done)) ?_
        simp only [Act.put, List.setIfInBounds_toArray, List.set_cons_succ, List.set_cons_zero]
        refine WG.put rfl (v := (.slice (some ⟨bl, ol, none⟩) n cl)) (fun w => by first | rfl | (go_simp; done) | (simp [go_sem]; done) | (simp [execOp, go_sem]; done)) ?_
        simp only [Act.put, List.setIfInBounds_toArray, List.set_cons_succ, List.set_cons_zero]
        refine WG.put rfl (v := (.int .i64 (i : Int))) (fun w => by first | rfl | (go_simp; done) | (simp [go_sem]; done) | (simp [execOp, go_sem]; done)) ?_
        simp only [Act.put, List.setIfInBounds_toArray, List.set_cons_succ, List.set_cons_zero]
        refine WG.put rfl (v := (.pointer (some ⟨bl, ol + i * 3, none⟩))) (fun w => by first | rfl | (go_simp; done) | (simp [go_sem, hki]; done) | (simp [execOp, go_sem, hki]; done)) ?_
        simp only [Act.put, List.setIfInBounds_toArray, List.set_cons_succ, List.set_cons_zero]
        refine WG.range rfl 35 _ rfl rfl (pkL k) hblr rg _ Try.underlying35 rfl infoPk ?_
        simp only [Act.put, List.setIfInBounds_toArray, List.set_cons_succ, List.set_cons_zero]
        refine WG.call rfl (f := 25) (args := #[.agg mc.toArray, .string s, .agg (pkL k).toArray]) (v := (.tuple #[.string r1, .bool true])) (fun W hW => hS' W (HM.out.below (Below.then HBB.out hW))) (fun w => by first | rfl | (go_simp; done) | (simp [execOp, go_sem]; done)) ?_
        simp only [Act.put, List.setIfInBounds_toArray, List.set_cons_succ, List.set_cons_zero]
        refine WG.put rfl (v := (.tuple #[.string r1, .bool true])) (fun w => by first | rfl | (go_simp; done) | (simp [go_sem]; done) | (simp [execOp, go_sem]; done)) ?_
        simp only [Act.put, List.setIfInBounds_toArray, List.set_cons_succ, List.set_cons_zero]
        refine WG.put rfl (v := (.string r1)) (fun w => by first | rfl | (go_simp; done) | (simp [go_sem]; done) | (simp [execOp, go_sem]; done)) ?_
        simp only [Act.put, List.setIfInBounds_toArray, List.set_cons_succ, List.set_cons_zero]
        refine WG.put rfl (v := (.bool true)) (fun w => by first | rfl | (go_simp; done) | (simp [go_sem]; done) | (simp [execOp, go_sem]; done)) ?_
        simp only [Act.put, List.setIfInBounds_toArray, List.set_cons_succ, List.set_cons_zero]
        refine WG.put rfl (v := (.string r1)) (fun w => by first | rfl | (go_simp; done) | (simp [go_sem]; done) | (simp [execOp, go_sem]; done)) ?_
        simp only [Act.put, List.setIfInBounds_toArray, List.set_cons_succ, List.set_cons_zero]
        refine WG.put rfl (v := (.bool true)) (fun w => by first | rfl | (go_simp; done) | (simp [go_sem]; done) | (simp [execOp, go_sem]; done)) ?_
        simp only [Act.put, List.setIfInBounds_toArray, List.set_cons_succ, List.set_cons_zero]
        refine WG.nil ?_
        intro W6 B6
        have O6 := own_below HO6.out B6
        have Q6 := own_below HO7.out B6
        have R6 := Below.then HB.out B6
        clear CC rg B6 y6
        go_wp2_with (first
          | (clear t7; refine wpList_build1E eStr rfl _ rfl (.string r1) rfl rfl ?_; intro W7 b7 F7 C7; have O7 := own_below O6 (F_b F7); have Q7 := own_below Q6 (F_b F7); have R7 := Below.then R6 (F_b F7); clear F7 O6 Q6 R6)
          | (clear t8; at_builtin; refine wpList_appM eStr rfl _ _ rfl W1.heap.size _ (i + 1) _ rfl O7 _ 1 [.string r1] rfl (row_isS C7) rfl (str_one1 _) (by omega) R7.size ?_; intro v8 W8 O8 G8; have R8 := grown_below R7 R7.size O7 G8; have Q8 := own_grow Q7 O7 G8 (by decide); clear G8 C7 O7 Q7 R7)
          | (clear t9; refine wpList_build1E eBool rfl _ rfl (.bool true) rfl rfl ?_; intro W9 b9 F9 C9; have O9 := own_below O8 (F_b F9); have Q9 := own_below Q8 (F_b F9); have R9 := Below.then R8 (F_b F9); clear F9 O8 Q8 R8)
          | (clear t10; at_builtin; refine wpList_appM eBool rfl _ _ rfl W1.heap.size _ i _ rfl Q9 _ 1 [.bool true] rfl (row_isS C9) rfl (bol_one1 _) (by omega) R9.size ?_; intro v10 W10 Q10 G10; have R10 := grown_below R9 R9.size Q9 G10; have O10 := own_grow O9 Q9 G10 (by decide); clear G10 C9 O9 Q9 R9))
        have HO2 : Hid (W10.ownsRow W1.heap.size 9 1 v8 (i + 1 + 1) ((S :: stsF f S (ks.take (i + 1))).flatMap strE)) := (by
          show World.ownsRow _ _ _ _ _ _ _
          rw [E2.out, str_snoc]; exact O10)
        have HQ2 : Hid (W10.ownsRow W1.heap.size 4 1 v10 (i + 1) ((tkF f S (ks.take (i + 1))).flatMap bolE)) := (by
          show World.ownsRow _ _ _ _ _ _ _
          rw [E3.out, bol_snoc]; exact Q10)
        clear O10 Q10
        obtain ⟨x8, y8, ev8⟩ := own_form HO2.out
        subst ev8
        obtain ⟨x10, y10, ev10⟩ := own_form HQ2.out
        subst ev10
        go_wp2_with fail
        go_roundw
        case rel => exact ⟨i + 1, by omega, by go_num, ⟨_, _, rfl⟩, ⟨_, _, rfl⟩, HO2, HQ2, R10⟩
        case measure => simp [intOf]; omega
      | false =>
        obtain ⟨e1, e2, e3⟩ := HNX.out _ hb
        rw [hb] at hS'
        obtain ⟨r1, hr1⟩ : ∃ r, (f s k).1 = r := ⟨_, rfl⟩
        rw [hr1] at hS' e1 e2
        have E2 : Hid ((S :: stsF f S (ks.take (i + 1))) = (S :: stsF f S (ks.take i)) ++ [s]) := e2
        have E3 : Hid (tkF f S (ks.take (i + 1)) = tkF f S (ks.take i) ++ [false]) := e3
        clear e1 e2 e3 hr1 hb HNX hss
        have t7 : True := trivial
        have t8 : True := trivial
        have t9 : True := trivial
        have t10 : True := trivial
        go_wp2_with fail
        refine grow_allW (by kernel_rfl) (by kernel_rfl) ?_
        refine WG.row rfl 32 _ rfl rfl CC mc rfl _ Try.underlying32 rfl (by rw [HMl.out]; exact infoMc) ?_
        simp only [Act.put, List.setIfInBounds_toArray, List.set_cons_succ, List.set_cons_zero]
        refine WG.put rfl (v := (.string s)) (fun w => by first | rfl | (go_simp; done) | (simp [go_sem]; done) | (simp [execOp, go_sem]; done)) ?_
        simp only [Act.put, List.setIfInBounds_toArray, List.set_cons_succ, List.set_cons_zero]
        refine WG.put rfl (v := (.slice (some ⟨bl, ol, none⟩) n cl)) (fun w => by first | rfl | (go_simp; done) | (simp [go_sem]; done) | (simp [execOp, go_sem]; done)) ?_
        simp only [Act.put, List.setIfInBounds_toArray, List.set_cons_succ, List.set_cons_zero]
        refine WG.put rfl (v := (.int .i64 (i : Int))) (fun w => by first | rfl | (go_simp; done) | (simp [go_sem]; done) | (simp [execOp, go_sem]; done)) ?_
        simp only [Act.put, List.setIfInBounds_toArray, List.set_cons_succ, List.set_cons_zero]
        refine WG.put rfl (v := (.pointer (some ⟨bl, ol + i * 3, none⟩))) (fun w => by first | rfl | (go_simp; done) | (simp [go_sem, hki]; done) | (simp [execOp, go_sem, hki]; done)) ?_
        simp only [Act.put, List.setIfInBounds_toArray, List.set_cons_succ, List.set_cons_zero]
        refine WG.range rfl 35 _ rfl rfl (pkL k) hblr rg _ Try.underlying35 rfl infoPk ?_
        simp only [Act.put, List.setIfInBounds_toArray, List.set_cons_succ, List.set_cons_zero]
        refine WG.call rfl (f := 25) (args := #[.agg mc.toArray, .string s, .agg (pkL k).toArray]) (v := (.tuple #[.string r1, .bool false])) (fun W hW => hS' W (HM.out.below (Below.then HBB.out hW))) (fun w => by first | rfl | (go_simp; done) | (simp [execOp, go_sem]; done)) ?_
        simp only [Act.put, List.setIfInBounds_toArray, List.set_cons_succ, List.set_cons_zero]
        refine WG.put rfl (v := (.tuple #[.string r1, .bool false])) (fun w => by first | rfl | (go_simp; done) | (simp [go_sem]; done) | (simp [execOp, go_sem]; done)) ?_
        simp only [Act.put, List.setIfInBounds_toArray, List.set_cons_succ, List.set_cons_zero]
        refine WG.put rfl (v := (.string r1)) (fun w => by first | rfl | (go_simp; done) | (simp [go_sem]; done) | (simp [execOp, go_sem]; done)) ?_
        simp only [Act.put, List.setIfInBounds_toArray, List.set_cons_succ, List.set_cons_zero]
        refine WG.put rfl (v := (.bool false)) (fun w => by first | rfl | (go_simp; done) | (simp [go_sem]; done) | (simp [execOp, go_sem]; done)) ?_
        simp only [Act.put, List.setIfInBounds_toArray, List.set_cons_succ, List.set_cons_zero]
        refine WG.put rfl (v := (.string r1)) (fun w => by first | rfl | (go_simp; done) | (simp [go_sem]; done) | (simp [execOp, go_sem]; done)) ?_
        simp only [Act.put, List.setIfInBounds_toArray, List.set_cons_succ, List.set_cons_zero]
        refine WG.put rfl (v := (.bool false)) (fun w => by first | rfl | (go_simp; done) | (simp [go_sem]; done) | (simp [execOp, go_sem]; done)) ?_
        simp only [Act.put, List.setIfInBounds_toArray, List.set_cons_succ, List.set_cons_zero]
        refine WG.nil ?_
        intro W6 B6
        have O6 := own_below HO6.out B6
        have Q6 := own_below HO7.out B6
        have R6 := Below.then HB.out B6
        clear CC rg B6 y6
        go_wp2_with (first
          | (clear t7; refine wpList_build1E eStr rfl _ rfl (.string s) rfl rfl ?_; intro W7 b7 F7 C7; have O7 := own_below O6 (F_b F7); have Q7 := own_below Q6 (F_b F7); have R7 := Below.then R6 (F_b F7); clear F7 O6 Q6 R6)
          | (clear t8; at_builtin; refine wpList_appM eStr rfl _ _ rfl W1.heap.size _ (i + 1) _ rfl O7 _ 1 [.string s] rfl (row_isS C7) rfl (str_one1 _) (by omega) R7.size ?_; intro v8 W8 O8 G8; have R8 := grown_below R7 R7.size O7 G8; have Q8 := own_grow Q7 O7 G8 (by decide); clear G8 C7 O7 Q7 R7)
          | (clear t9; refine wpList_build1E eBool rfl _ rfl (.bool false) rfl rfl ?_; intro W9 b9 F9 C9; have O9 := own_below O8 (F_b F9); have Q9 := own_below Q8 (F_b F9); have R9 := Below.then R8 (F_b F9); clear F9 O8 Q8 R8)
          | (clear t10; at_builtin; refine wpList_appM eBool rfl _ _ rfl W1.heap.size _ i _ rfl Q9 _ 1 [.bool false] rfl (row_isS C9) rfl (bol_one1 _) (by omega) R9.size ?_; intro v10 W10 Q10 G10; have R10 := grown_below R9 R9.size Q9 G10; have O10 := own_grow O9 Q9 G10 (by decide); clear G10 C9 O9 Q9 R9))
        have HO2 : Hid (W10.ownsRow W1.heap.size 9 1 v8 (i + 1 + 1) ((S :: stsF f S (ks.take (i + 1))).flatMap strE)) := (by
          show World.ownsRow _ _ _ _ _ _ _
          rw [E2.out, str_snoc]; exact O10)
        have HQ2 : Hid (W10.ownsRow W1.heap.size 4 1 v10 (i + 1) ((tkF f S (ks.take (i + 1))).flatMap bolE)) := (by
          show World.ownsRow _ _ _ _ _ _ _
          rw [E3.out, bol_snoc]; exact Q10)
        clear O10 Q10
        obtain ⟨x8, y8, ev8⟩ := own_form HO2.out
        subst ev8
        obtain ⟨x10, y10, ev10⟩ := own_form HQ2.out
        subst ev10
        go_wp2_with fail
        go_roundw
        case rel => exact ⟨i + 1, by omega, by go_num, ⟨_, _, rfl⟩, ⟨_, _, rfl⟩, HO2, HQ2, R10⟩
        case measure => simp [intOf]; omega
    · have e : i = n := by omega
      subst e
      have hki : ¬ (i : Int) < i := by omega
      have HT : Hid (ks.take i = ks) := (by show ks.take i = ks; rw [← HKN.out]; exact List.take_length)
      have HO2 : Hid (wr.ownsRow W1.heap.size 9 1 (.slice a6 (i + 1) c6) (i + 1) ((S :: stsF f S ks).flatMap strE)) := (by have := HO6.out; rw [HT.out] at this; exact this)
      have HQ2 : Hid (wr.ownsRow W1.heap.size 4 1 (.slice a7 i c7) i ((tkF f S ks).flatMap bolE)) := (by have := HO7.out; rw [HT.out] at this; exact this)
      go_wp2_with fail
      exact HA.out _ _ _ (own_raise HO2.out HB1.out.size) (own_raise HQ2.out HB1.out.size) HBB.out
end Go.Proofs.Ytmoieckmbimgoaa
