/- Outcome, of both. -/
import Derived.Test.YtmoieckmbimgoaaR2
namespace Go.Proofs.Ytmoieckmbimgoaa
open Go.RowKit M
set_option linter.unusedSimpArgs false
set_option linter.unusedVariables false

theorem wrapN (n : Nat) (h : n ≤ 2000) : IntKind.i64.wrap (n : Int) = (n : Int) := by rw [IntKind.wrap_i64]; omega
theorem grow_tailW {id : Nat} {Q : Exit → Act → World → Prop} {a : Act} {W : World} {l : List Oper} (n : Nat) (hm : Try.prog.follows .mixedOrders = true) (hB : Region.lexTailB .any l.toArray n = true)
    (h : WG l.toArray W (fun a' => ∀ w', Below W.heap.size W w' → wpList Try.prog l.toArray Q (l.drop n) a' w') (l.take n) a) : (Code.region id l.toArray true).wp Try.prog Q a W := grow_tail n hm hB h.out
set_option maxRecDepth 100000 in
set_option maxHeartbeats 8000000 in
theorem soutcome_any (g : GR) (hf : g.Few) (bn bg : Nat) (S : ByteArray) (hS1 : S.size ≤ 1) (ks : List PK) (n : Nat) (hn0 : ks.length = n) (hn : n ≤ 2000) (al : Option Addr) (cl : Nat) (w : World) (hM : MG w g bn bg) (hL : Seg w al (ks.flatMap pkL)) :
    Calls Try.prog 9 #[.agg (mcL S g bn bg).toArray, .slice al n cl] w fun e w' => e = .returned (.tuple #[.agg (finL (endM g (lastS (stepM g) S ks))).toArray, .bool (isEnd (endM g (lastS (stepM g) S ks)))]) ∧ Below w.heap.size w w' := by
  have hR := fun W (h : MG W g bn bg) (hl : Seg W al (ks.flatMap pkL)) => sreplay_any g hf bn bg S hS1 ks n hn0 hn al cl W h hl
  have hsz : (lastS (stepM g) S ks).size ≤ 1 := last_size (stepM_size g) ks S hS1
  have hE := fun W (h : MG W g bn bg) => send_any g hf (lastS (stepM g) S ks) (Nat.le_trans hsz (by decide)) bn bg S (fnV 21 bn bg (holB g 1)) (fnV 22 bn bg (holB g 2)) W h
  have HG : Hid ((S :: stsF (stepM g) S ks)[n]? = some (lastS (stepM g) S ks)) := by show _ = _; rw [sts_get _ _ _ (by omega), ← hn0, List.take_length]
  have HLN : Hid ((S :: stsF (stepM g) S ks).length = n + 1) := by show _ = _; rw [List.length_cons, sts_len, hn0]
  have HEL : Hid ((endM g (lastS (stepM g) S ks)).length ≤ 48) := endM_len g _
  have HMC : Hid (mcL S g bn bg = [.string S, fnV 21 bn bg (holB g 1), fnV 22 bn bg (holB g 2), fnV 23 bn bg (holB g 4)]) := rfl
  have hml : (mcL S g bn bg).length = 4 := rfl
  rw [← HMC.out] at hE
  generalize mcL S g bn bg = mc at hE hR hml ⊢
  clear HMC
  have HMl : Hid (mc.length = 4) := hml
  have HM : Hid (MG w g bn bg) := hM
  have HL : Hid (Seg w al (ks.flatMap pkL)) := hL
  obtain ⟨s, hs⟩ : ∃ s, lastS (stepM g) S ks = s := ⟨_, rfl⟩
  rw [hs] at hE HG HEL ⊢
  obtain ⟨E, hEe⟩ : ∃ E, endM g s = E := ⟨_, rfl⟩
  rw [hEe] at hE HEL ⊢
  obtain ⟨ie, hie⟩ : ∃ i, isEnd E = i := ⟨_, rfl⟩
  rw [hie] at hE ⊢
  obtain ⟨N, hN⟩ : ∃ N, n + 1 = N := ⟨_, rfl⟩
  have hN1 : (N : Int) - 1 = (n : Int) := by omega
  have hnN : (n : Int) < N := by omega
  rw [hN] at HLN
  have HR : Hid (∀ W, MG W g bn bg → Seg W al (ks.flatMap pkL) → Calls Try.prog 7 #[.agg mc.toArray, .slice al n cl] W fun e w' => ∃ v1 v2, e = .returned (.tuple #[v1, v2]) ∧ w'.ownsRow W.heap.size 9 1 v1 N ((S :: stsF (stepM g) S ks).flatMap strE) ∧ w'.ownsRow W.heap.size 4 1 v2 (tkF (stepM g) S ks).length ((tkF (stepM g) S ks).flatMap bolE) ∧ Below W.heap.size W w') := by
    intro W h1 h2
    have := hR W h1 h2
    unfold RepA at this
    rw [HLN.out] at this
    exact this
  generalize stsF (stepM g) S ks = sts at HG HLN HR
  generalize tkF (stepM g) S ks = tks at HR
  have hN2 : N ≤ 2001 := by omega
  clear hR hM hf hml hL hS1 hn0 hsz hs hEe hie hN
  have t1 : True := trivial
  have t2 : True := trivial
  have t3 : True := trivial
  go_enter Try.func9, Try.ntmps9
  go_wp2_with (first
    | (clear t1; refine wpList_boxS rfl 32 _ rfl mc rfl ?_; intro W1 b1 F1 C1; have B1 := F_b F1; clear F1)
    | (clear t2; refine wpList_allocS rfl 42 rfl (finL []) zeroFin ?_; intro W2 b2 F2 K2; have B2 := Below.then B1 (F_b F2); have C2 := C1.fresh F2; have hb2 : w.heap.size ≤ b2 := Nat.le_trans B1.size (Nat.le_of_eq F2.at'.symm); clear F2 C1)
    | (clear t3; refine wpList_loadW rfl 32 _ rfl rfl C2 _ Try.underlying32 rfl (by rw [HMl.out]; exact infoMc) ?_)
    | (go_at_call 7; refine (HR.out _ (HM.out.below B2) (HL.out.below B2)).mono ?_; rintro e W3 ⟨v1, v2, rfl, O3, Q3, D3⟩; have B3 := Below.then B2 D3; have C3 := C2.grown D3; have K3 := K2.grown D3; obtain ⟨a6, c6, ev6, sg6, _⟩ := own_row O3; subst ev6; obtain ⟨b6, o6, ea6, hb6, y6⟩ := sg6 n _ (str_at HG.out); subst ea6; clear O3 Q3 D3 C2 K2 sg6))
  refine grow_tailW 10 (by kernel_rfl) (by kernel_rfl) ?_
  refine WG.row rfl 32 _ rfl rfl C3 mc rfl _ Try.underlying32 rfl (by rw [HMl.out]; exact infoMc) ?_
  simp only [Act.put, List.setIfInBounds_toArray, List.set_cons_succ, List.set_cons_zero]
  refine WG.put rfl (v := (.slice (some ⟨b6, o6, none⟩) N c6)) (fun w => by first | rfl | (go_simp; done) | (simp [go_sem]; done) | (simp [execOp, go_sem]; done)) ?_
  simp only [Act.put, List.setIfInBounds_toArray, List.set_cons_succ, List.set_cons_zero]
  refine WG.put rfl (v := (.slice (some ⟨b6, o6, none⟩) N c6)) (fun w => by first | rfl | (go_simp; done) | (simp [go_sem]; done) | (simp [execOp, go_sem]; done)) ?_
  simp only [Act.put, List.setIfInBounds_toArray, List.set_cons_succ, List.set_cons_zero]
  refine WG.put rfl (v := (.int .i64 (N : Int))) (fun w => by first | rfl | (go_simp; done) | (simp [go_sem]; done) | (simp [execOp, go_sem]; done)) ?_
  simp only [Act.put, List.setIfInBounds_toArray, List.set_cons_succ, List.set_cons_zero]
  refine WG.put rfl (v := (.int .i64 (n : Int))) (fun w => by first | rfl | (go_simp; done) | (simp [go_sem, hN1, wrapN n hn]; done) | (simp [execOp, go_sem, hN1, wrapN n hn]; done)) ?_
  simp only [Act.put, List.setIfInBounds_toArray, List.set_cons_succ, List.set_cons_zero]
  refine WG.put rfl (v := (.pointer (some ⟨b6, o6 + n, none⟩))) (fun w => by first | rfl | (go_simp; done) | (simp [go_sem, hnN]; done) | (simp [execOp, go_sem, hnN]; done)) ?_
  simp only [Act.put, List.setIfInBounds_toArray, List.set_cons_succ, List.set_cons_zero]
  refine WG.cell rfl 9 _ rfl rfl y6 (fun w h => by simp [go_sem, h]) ?_
  simp only [Act.put, List.setIfInBounds_toArray, List.set_cons_succ, List.set_cons_zero]
  refine WG.call rfl (f := 26) (args := #[.agg mc.toArray, .string s]) (v := (.tuple #[.agg (finL E).toArray, .bool ie])) (fun W hW => hE W (HM.out.below (Below.then B3 hW))) (fun w => by first | rfl | (go_simp; done) | (simp [execOp, go_sem]; done)) ?_
  simp only [Act.put, List.setIfInBounds_toArray, List.set_cons_succ, List.set_cons_zero]
  refine WG.put rfl (v := (.agg (finL E).toArray)) (fun w => by first | rfl | (go_simp; done) | (simp [go_sem]; done) | (simp [execOp, go_sem]; done)) ?_
  simp only [Act.put, List.setIfInBounds_toArray, List.set_cons_succ, List.set_cons_zero]
  refine WG.put rfl (v := (.bool ie)) (fun w => by first | rfl | (go_simp; done) | (simp [go_sem]; done) | (simp [execOp, go_sem]; done)) ?_
  simp only [Act.put, List.setIfInBounds_toArray, List.set_cons_succ, List.set_cons_zero]
  refine WG.nil ?_
  intro W6 B6
  have K6 := K3.grown B6
  have V6 := Below.then B3 B6
  clear C3 K3 B6 y6
  simp only [List.drop_succ_cons, List.drop_zero]
  refine wpList_storeW rfl 42 _ _ rfl rfl (finL E) rfl K6 (len_fin _ HEL.out) (info_fin _ HEL.out) (finL_one _) ?_
  intro W7 U7 K7
  have V7 := U7.trans V6 hb2
  clear K6 U7
  simp only [Act.put, List.setIfInBounds_toArray, List.set_cons_succ, List.set_cons_zero]
  go_wp2_with fail
  exact ret_ST rfl rfl rfl K7 _ Try.underlying42 rfl (info_fin _ HEL.out) _ rfl ⟨rfl, V7⟩
set_option maxRecDepth 100000 in
set_option maxHeartbeats 8000000 in
theorem routcome_any (g : GR) (hf : g.Few) (bn bg : Nat) (S : ByteArray) (hS1 : S.size ≤ 1) (ks : List PK) (n : Nat) (hn0 : ks.length = n) (hn : n ≤ 2000) (al : Option Addr) (cl : Nat) (w : World) (hM : MG w g bn bg) (hL : Seg w al (ks.flatMap pkL)) :
    Calls Try.prog 10 #[.agg (mcL S g bn bg).toArray, .slice al n cl] w fun e w' => e = .returned (.tuple #[.agg (finL (endM g (lastS (stepM g) S ks))).toArray, .bool (isEnd (endM g (lastS (stepM g) S ks)))]) ∧ Below w.heap.size w w' := by
  have hR := fun W (h : MG W g bn bg) (hl : Seg W al (ks.flatMap pkL)) => rreplay_any g hf bn bg S hS1 ks n hn0 hn al cl W h hl
  have hsz : (lastS (stepM g) S ks).size ≤ 1 := last_size (stepM_size g) ks S hS1
  have hE := fun W (h : MG W g bn bg) => rend_any g hf (lastS (stepM g) S ks) (Nat.le_trans hsz (by decide)) bn bg S (fnV 21 bn bg (holB g 1)) (fnV 22 bn bg (holB g 2)) W h
  have HG : Hid ((S :: stsF (stepM g) S ks)[n]? = some (lastS (stepM g) S ks)) := by show _ = _; rw [sts_get _ _ _ (by omega), ← hn0, List.take_length]
  have HLN : Hid ((S :: stsF (stepM g) S ks).length = n + 1) := by show _ = _; rw [List.length_cons, sts_len, hn0]
  have HEL : Hid ((endM g (lastS (stepM g) S ks)).length ≤ 48) := endM_len g _
  have HMC : Hid (mcL S g bn bg = [.string S, fnV 21 bn bg (holB g 1), fnV 22 bn bg (holB g 2), fnV 23 bn bg (holB g 4)]) := rfl
  have hml : (mcL S g bn bg).length = 4 := rfl
  rw [← HMC.out] at hE
  generalize mcL S g bn bg = mc at hE hR hml ⊢
  clear HMC
  have HMl : Hid (mc.length = 4) := hml
  have HM : Hid (MG w g bn bg) := hM
  have HL : Hid (Seg w al (ks.flatMap pkL)) := hL
  obtain ⟨s, hs⟩ : ∃ s, lastS (stepM g) S ks = s := ⟨_, rfl⟩
  rw [hs] at hE HG HEL ⊢
  obtain ⟨E, hEe⟩ : ∃ E, endM g s = E := ⟨_, rfl⟩
  rw [hEe] at hE HEL ⊢
  obtain ⟨ie, hie⟩ : ∃ i, isEnd E = i := ⟨_, rfl⟩
  rw [hie] at hE ⊢
  obtain ⟨N, hN⟩ : ∃ N, n + 1 = N := ⟨_, rfl⟩
  have hN1 : (N : Int) - 1 = (n : Int) := by omega
  have hnN : (n : Int) < N := by omega
  rw [hN] at HLN
  have HR : Hid (∀ W, MG W g bn bg → Seg W al (ks.flatMap pkL) → Calls Try.prog 8 #[.agg mc.toArray, .slice al n cl] W fun e w' => ∃ v1 v2, e = .returned (.tuple #[v1, v2]) ∧ w'.ownsRow W.heap.size 9 1 v1 N ((S :: stsF (stepM g) S ks).flatMap strE) ∧ w'.ownsRow W.heap.size 4 1 v2 (tkF (stepM g) S ks).length ((tkF (stepM g) S ks).flatMap bolE) ∧ Below W.heap.size W w') := by
    intro W h1 h2
    have := hR W h1 h2
    unfold RepA at this
    rw [HLN.out] at this
    exact this
  generalize stsF (stepM g) S ks = sts at HG HLN HR
  generalize tkF (stepM g) S ks = tks at HR
  have hN2 : N ≤ 2001 := by omega
  clear hR hM hf hml hL hS1 hn0 hsz hs hEe hie hN
  have t1 : True := trivial
  have t2 : True := trivial
  have t3 : True := trivial
  go_enter Try.func10, Try.ntmps10
  go_wp2_with (first
    | (clear t1; refine wpList_boxS rfl 32 _ rfl mc rfl ?_; intro W1 b1 F1 C1; have B1 := F_b F1; clear F1)
    | (clear t2; refine wpList_allocS rfl 42 rfl (finL []) zeroFin ?_; intro W2 b2 F2 K2; have B2 := Below.then B1 (F_b F2); have C2 := C1.fresh F2; have hb2 : w.heap.size ≤ b2 := Nat.le_trans B1.size (Nat.le_of_eq F2.at'.symm); clear F2 C1)
    | (clear t3; refine wpList_loadW rfl 32 _ rfl rfl C2 _ Try.underlying32 rfl (by rw [HMl.out]; exact infoMc) ?_)
    | (go_at_call 8; refine (HR.out _ (HM.out.below B2) (HL.out.below B2)).mono ?_; rintro e W3 ⟨v1, v2, rfl, O3, Q3, D3⟩; have B3 := Below.then B2 D3; have C3 := C2.grown D3; have K3 := K2.grown D3; obtain ⟨a6, c6, ev6, sg6, _⟩ := own_row O3; subst ev6; obtain ⟨b6, o6, ea6, hb6, y6⟩ := sg6 n _ (str_at HG.out); subst ea6; clear O3 Q3 D3 C2 K2 sg6))
  refine grow_tailW 10 (by kernel_rfl) (by kernel_rfl) ?_
  refine WG.row rfl 32 _ rfl rfl C3 mc rfl _ Try.underlying32 rfl (by rw [HMl.out]; exact infoMc) ?_
  simp only [Act.put, List.setIfInBounds_toArray, List.set_cons_succ, List.set_cons_zero]
  refine WG.put rfl (v := (.slice (some ⟨b6, o6, none⟩) N c6)) (fun w => by first | rfl | (go_simp; done) | (simp [go_sem]; done) | (simp [execOp, go_sem]; done)) ?_
  simp only [Act.put, List.setIfInBounds_toArray, List.set_cons_succ, List.set_cons_zero]
  refine WG.put rfl (v := (.slice (some ⟨b6, o6, none⟩) N c6)) (fun w => by first | rfl | (go_simp; done) | (simp [go_sem]; done) | (simp [execOp, go_sem]; done)) ?_
  simp only [Act.put, List.setIfInBounds_toArray, List.set_cons_succ, List.set_cons_zero]
  refine WG.put rfl (v := (.int .i64 (N : Int))) (fun w => by first | rfl | (go_simp; done) | (simp [go_sem]; done) | (simp [execOp, go_sem]; done)) ?_
  simp only [Act.put, List.setIfInBounds_toArray, List.set_cons_succ, List.set_cons_zero]
  refine WG.put rfl (v := (.int .i64 (n : Int))) (fun w => by first | rfl | (go_simp; done) | (simp [go_sem, hN1, wrapN n hn]; done) | (simp [execOp, go_sem, hN1, wrapN n hn]; done)) ?_
  simp only [Act.put, List.setIfInBounds_toArray, List.set_cons_succ, List.set_cons_zero]
  refine WG.put rfl (v := (.pointer (some ⟨b6, o6 + n, none⟩))) (fun w => by first | rfl | (go_simp; done) | (simp [go_sem, hnN]; done) | (simp [execOp, go_sem, hnN]; done)) ?_
  simp only [Act.put, List.setIfInBounds_toArray, List.set_cons_succ, List.set_cons_zero]
  refine WG.cell rfl 9 _ rfl rfl y6 (fun w h => by simp [go_sem, h]) ?_
  simp only [Act.put, List.setIfInBounds_toArray, List.set_cons_succ, List.set_cons_zero]
  refine WG.call rfl (f := 27) (args := #[.agg mc.toArray, .string s]) (v := (.tuple #[.agg (finL E).toArray, .bool ie])) (fun W hW => hE W (HM.out.below (Below.then B3 hW))) (fun w => by first | rfl | (go_simp; done) | (simp [execOp, go_sem]; done)) ?_
  simp only [Act.put, List.setIfInBounds_toArray, List.set_cons_succ, List.set_cons_zero]
  refine WG.put rfl (v := (.agg (finL E).toArray)) (fun w => by first | rfl | (go_simp; done) | (simp [go_sem]; done) | (simp [execOp, go_sem]; done)) ?_
  simp only [Act.put, List.setIfInBounds_toArray, List.set_cons_succ, List.set_cons_zero]
  refine WG.put rfl (v := (.bool ie)) (fun w => by first | rfl | (go_simp; done) | (simp [go_sem]; done) | (simp [execOp, go_sem]; done)) ?_
  simp only [Act.put, List.setIfInBounds_toArray, List.set_cons_succ, List.set_cons_zero]
  refine WG.nil ?_
  intro W6 B6
  have K6 := K3.grown B6
  have V6 := Below.then B3 B6
  clear C3 K3 B6 y6
  simp only [List.drop_succ_cons, List.drop_zero]
  refine wpList_storeW rfl 42 _ _ rfl rfl (finL E) rfl K6 (len_fin _ HEL.out) (info_fin _ HEL.out) (finL_one _) ?_
  intro W7 U7 K7
  have V7 := U7.trans V6 hb2
  clear K6 U7
  simp only [Act.put, List.setIfInBounds_toArray, List.set_cons_succ, List.set_cons_zero]
  go_wp2_with fail
  exact ret_ST rfl rfl rfl K7 _ Try.underlying42 rfl (info_fin _ HEL.out) _ rfl ⟨rfl, V7⟩
end Go.Proofs.Ytmoieckmbimgoaa
