/- The reference's Finish. -/
import Derived.Test.YtmoieckmbimgoaaG9
namespace Go.Proofs.Ytmoieckmbimgoaa
open Go.RowKit M
set_option linter.unusedSimpArgs false
set_option linter.unusedVariables false

theorem range_below {w W : World} {b o : Nat} {cs : List Value} (h : w.rangeAt b o cs) (hb : b < w.heap.size) (hB : Below w.heap.size w W) : W.rangeAt b o cs := fun j v hv => (hB.cell (p := ⟨b, o + j, none⟩) hb).trans (h j v hv)
set_option maxRecDepth 100000 in
set_option maxHeartbeats 8000000 in
theorem rfinish_any (g : GR) (hf : g.Few) (T : ByteArray) (hT : T.size ≤ 1099511627776) (most : Int) (hmost : most ≤ 3000) (bn bg : Nat) (S : ByteArray) (w : World) (hM : MG w g bn bg) :
    Calls Try.prog 19 #[.agg (mcL S g bn bg).toArray, .string T, .int .i64 most] w fun e w' => FinA w (finM g most.toNat T) e w' := by
  have hE := fun W s (hs : s.size ≤ 1099511627776) (h : MG W g bn bg) => rend_any g hf s hs bn bg S (fnV 21 bn bg (holB g 1)) (fnV 22 bn bg (holB g 2)) W h
  have hP := fun W s (hs : s.size ≤ 1099511627776) (h : MG W g bn bg) => picks_any g hf s hs bn bg W h
  have hS := fun W s k (hs : s.size ≤ 1099511627776) (h : MG W g bn bg) => rstep_any g hf s hs bn bg k S (fnV 21 bn bg (holB g 1)) (fnV 23 bn bg (holB g 4)) W h
  have HMC : Hid (mcL S g bn bg = [.string S, fnV 21 bn bg (holB g 1), fnV 22 bn bg (holB g 2), fnV 23 bn bg (holB g 4)]) := rfl
  have hml : (mcL S g bn bg).length = 4 := rfl
  have hv1 : (mcL S g bn bg)[1]? = some (fnV 21 bn bg (holB g 1)) := rfl
  rw [← HMC.out] at hE hS
  generalize mcL S g bn bg = mc at hE hS hml hv1 ⊢
  clear HMC
  have HV1 : Hid (mc[1]? = some (fnV 21 bn bg (holB g 1))) := hv1
  have HMl : Hid (mc.length = 4) := hml
  have HM : Hid (MG w g bn bg) := hM
  have HT : Hid (T.size ≤ 1099511627776) := hT
  obtain ⟨A, hA⟩ : ∃ A, FinA w (finM g most.toNat T) = A := ⟨_, rfl⟩
  have HA : Hid (∀ v w' d s, finM g most.toNat T = (d, s) → w'.ownsRow w.heap.size 35 3 v d.length (d.flatMap pkL) → Below w.heap.size w w' → A (.returned (.tuple #[v, .string s])) w') := by rw [← hA]; exact fun v w' d s h1 h2 h3 => FinA.mk h1 h2 h3
  rw [hA]
  clear hA hM hf hT hml hv1
  have t1 : True := trivial
  go_enter Try.func19, Try.ntmps19
  go_wp2_with (first
    | (clear t1; refine wpList_boxS rfl 32 _ rfl mc rfl ?_; intro W1 b1 F1 C1; have B1 := F_b F1; clear F1))
  have HC1 : Hid (IsS W1 b1 32 mc) := C1
  have HB1 : Hid (Below w.heap.size w W1) := B1
  clear C1 B1
  go_loopw [1, 8] (fun sv v wr => ∃ (d : List PK) (s : ByteArray) (n : Nat), n = d.length ∧ sv = .string s ∧ (∃ av cv, v = .slice av n cv) ∧ Hid (s.size ≤ 1099511627776) ∧ Hid (n ≤ most.toNat) ∧ Hid (FinTo g most.toNat T d s) ∧ Hid (wr.ownsRow W1.heap.size 35 3 v n (d.flatMap pkL)) ∧ Hid (Below W1.heap.size W1 wr)) (fun _ v _ => most.toNat - lenV v)
  case atStart => exact ⟨[], T, 0, rfl, rfl, ⟨_, _, rfl⟩, HT, Nat.zero_le _, (by show finM _ _ _ = _; simp), own_nil _ _ _ _, Below.refl _ _⟩
  case round =>
    obtain ⟨d, s, n, hn, rfl, ⟨av, cv, rfl⟩, HS, HN, HF, HO, HB⟩ := hrel
    have HNl : Hid (n = d.length) := hn
    clear hn
    have HBB : Hid (Below w.heap.size w wr) := Below.then HB1.out HB.out
    have CC := HC1.out.grown HB.out
    by_cases hlt : (n : Int) < most
    · have hn3 : n ≤ 3000 := by omega
      have hE' := fun W (h : MG W g bn bg) => hE W s HS.out h
      have HEL : Hid ((endM g s).length ≤ 48) := endM_len g s
      cases he : isEnd (endM g s) with
      | true =>
        have HZ : Hid (finM g most.toNat T = (d, s)) := HF.out.done (fin_end he)
        rw [he] at hE'
        clear he
        have t2 : True := trivial
        have t3 : True := trivial
        have t4 : True := trivial
        have t5 : True := trivial
        have t6 : True := trivial
        have t7 : True := trivial
        have t8 : True := trivial
        have t9 : True := trivial
        have t10 : True := trivial
        have t11 : True := trivial
        have t12 : True := trivial
        go_wp2_with (first
          | (clear t2; refine wpList_loadW rfl 32 _ rfl rfl CC _ Try.underlying32 rfl (by rw [HMl.out]; exact infoMc) ?_)
          | (go_at_call 27; refine (hE' _ (HM.out.below HBB.out)).mono ?_; rintro e W2 ⟨rfl, B2⟩; have O2 := own_below HO.out B2; have V2 := Below.then HBB.out B2; have R2 := Below.then HB.out B2; clear B2)
          | (clear t3; refine wpList_allocS rfl 42 rfl (finL []) zeroFin ?_; intro W3 b3 F3 K3; have O3 := own_below O2 (F_b F3); have V3 := Below.then V2 (F_b F3); have R3 := Below.then R2 (F_b F3); have hb3 : w.heap.size ≤ b3 := Nat.le_trans V2.size (Nat.le_of_eq F3.at'.symm); have hc3 : W1.heap.size ≤ b3 := Nat.le_trans R2.size (Nat.le_of_eq F3.at'.symm); clear F3 O2 V2 R2)
          | (clear t4; refine wpList_storeW rfl 42 _ _ rfl rfl (finL (endM g s)) rfl K3 (len_fin _ HEL.out) (info_fin _ HEL.out) (finL_one _) ?_; intro W4 U4 K4; have O4 := own_updT O3 K3 U4 (by decide); have V4 := U4.trans V3 hb3; have R4 := U4.trans R3 hc3; clear K3 U4 O3 V3 R3))
        exact HA.out _ _ d s HZ.out (by rw [← HNl.out]; exact own_raise O4 HB1.out.size) V4
      | false =>
        rw [he] at hE'
        cases h1 : holB g 1 with
        | false =>
          have HZ : Hid (finM g most.toNat T = (d, s)) := HF.out.done (fin_none (by unfold picksM; rw [h1]; rfl))
          have HVF : Hid (mc[1]? = some .nilFunc) := by have := HV1.out; rw [h1] at this; exact this
          have e2 := fun w => eql_nil w 28 _ _ _ Try.underlying28
          clear he h1
          have t2 : True := trivial
          have t3 : True := trivial
          have t4 : True := trivial
          have t5 : True := trivial
          have t6 : True := trivial
          have t7 : True := trivial
          have t8 : True := trivial
          have t9 : True := trivial
          have t10 : True := trivial
          have t11 : True := trivial
          have t12 : True := trivial
          go_wp2_with (first
            | (clear t2; refine wpList_loadW rfl 32 _ rfl rfl CC _ Try.underlying32 rfl (by rw [HMl.out]; exact infoMc) ?_)
            | (go_at_call 27; refine (hE' _ (HM.out.below HBB.out)).mono ?_; rintro e W2 ⟨rfl, B2⟩; have O2 := own_below HO.out B2; have V2 := Below.then HBB.out B2; have R2 := Below.then HB.out B2; clear B2)
            | (clear t3; refine wpList_allocS rfl 42 rfl (finL []) zeroFin ?_; intro W3 b3 F3 K3; have O3 := own_below O2 (F_b F3); have V3 := Below.then V2 (F_b F3); have R3 := Below.then R2 (F_b F3); have hb3 : w.heap.size ≤ b3 := Nat.le_trans V2.size (Nat.le_of_eq F3.at'.symm); have hc3 : W1.heap.size ≤ b3 := Nat.le_trans R2.size (Nat.le_of_eq F3.at'.symm); clear F3 O2 V2 R2)
            | (clear t4; refine wpList_storeW rfl 42 _ _ rfl rfl (finL (endM g s)) rfl K3 (len_fin _ HEL.out) (info_fin _ HEL.out) (finL_one _) ?_; intro W4 U4 K4; have O4 := own_updT O3 K3 U4 (by decide); have V4 := U4.trans V3 hb3; have R4 := U4.trans R3 hc3; have yv : W4.cell? ⟨b1, 1, none⟩ = some .nilFunc := ((HC1.out.grown R4).cell 1).trans HVF.out; clear K3 U4 O3 V3 R3))
          exact HA.out _ _ d s HZ.out (by rw [← HNl.out]; exact own_raise O4 HB1.out.size) V4
        | true =>
          have HVF : Hid (mc[1]? = some (.func (.func 21) #[] #[.pointer (some ⟨bn, 0, none⟩), .pointer (some ⟨bg, 0, none⟩)])) := by have := HV1.out; rw [h1] at this; exact this
          have e2 := fun w => eql_fn w 28 _ _ _ (.func 21) #[.pointer (some ⟨bn, 0, none⟩), .pointer (some ⟨bg, 0, none⟩)] Try.underlying28
          have hPM : picksM g s = picksG g s := by unfold picksM; rw [h1]; rfl
          have hP' := fun W (h : MG W g bn bg) => hP W s HS.out h
          rw [← hPM] at hP'
          clear hPM h1
          cases hp : picksM g s with
          | nil =>
            have HZ : Hid (finM g most.toNat T = (d, s)) := HF.out.done (fin_none hp)
            rw [hp] at hP'
            replace hP' : ∀ W, MG W g bn bg → Calls Try.prog 21 #[.string s, .pointer (some ⟨bn, 0, none⟩), .pointer (some ⟨bg, 0, none⟩)] W fun e w' => ∃ v, e = .returned v ∧ w'.ownsRow W.heap.size 35 3 v 0 [] ∧ Below W.heap.size W w' := hP'
            clear he hp
            have t2 : True := trivial
            have t3 : True := trivial
            have t4 : True := trivial
            have t5 : True := trivial
            have t6 : True := trivial
            have t7 : True := trivial
            have t8 : True := trivial
            have t9 : True := trivial
            have t10 : True := trivial
            have t11 : True := trivial
            have t12 : True := trivial
            go_wp2_with (first
              | (clear t2; refine wpList_loadW rfl 32 _ rfl rfl CC _ Try.underlying32 rfl (by rw [HMl.out]; exact infoMc) ?_)
              | (go_at_call 27; refine (hE' _ (HM.out.below HBB.out)).mono ?_; rintro e W2 ⟨rfl, B2⟩; have O2 := own_below HO.out B2; have V2 := Below.then HBB.out B2; have R2 := Below.then HB.out B2; clear B2)
              | (clear t3; refine wpList_allocS rfl 42 rfl (finL []) zeroFin ?_; intro W3 b3 F3 K3; have O3 := own_below O2 (F_b F3); have V3 := Below.then V2 (F_b F3); have R3 := Below.then R2 (F_b F3); have hb3 : w.heap.size ≤ b3 := Nat.le_trans V2.size (Nat.le_of_eq F3.at'.symm); have hc3 : W1.heap.size ≤ b3 := Nat.le_trans R2.size (Nat.le_of_eq F3.at'.symm); clear F3 O2 V2 R2)
              | (clear t4; refine wpList_storeW rfl 42 _ _ rfl rfl (finL (endM g s)) rfl K3 (len_fin _ HEL.out) (info_fin _ HEL.out) (finL_one _) ?_; intro W4 U4 K4; have O4 := own_updT O3 K3 U4 (by decide); have V4 := U4.trans V3 hb3; have R4 := U4.trans R3 hc3; have yv : W4.cell? ⟨b1, 1, none⟩ = some (.func (.func 21) #[] #[.pointer (some ⟨bn, 0, none⟩), .pointer (some ⟨bg, 0, none⟩)]) := ((HC1.out.grown R4).cell 1).trans HVF.out; clear K3 U4 O3 V3 R3)
              | (go_at_call 21; refine (hP' _ (HM.out.below V4)).mono ?_; rintro e W5 ⟨v5, rfl, P5, B5⟩; obtain ⟨a5, c5, ev5, sg, _⟩ := own_row P5; subst ev5; have O5 := own_below O4 B5; have V5 := Below.then V4 B5; have R5 := Below.then R4 B5; clear B5 O4 yv P5 sg))
            exact HA.out _ _ d s HZ.out (by rw [← HNl.out]; exact own_raise O5 HB1.out.size) V5
          | cons k ks =>
            rw [hp] at hP'
            have HK : Hid ((k :: ks)[0]? = some k) := rfl
            obtain ⟨m, hm⟩ : ∃ m, (k :: ks).length = m := ⟨_, rfl⟩
            have hm0 : 0 < (m : Int) := by rw [← hm]; simp
            have hm1 : ((m : Int) == 0) = false := by simp only [beq_eq_false_iff_ne, ne_eq]; omega
            have hmz : ¬ (m = 0) := by omega
            rw [hm] at hP'
            clear hm
            have hS' := fun W (h : MG W g bn bg) => hS W s k HS.out h
            cases hs : (stepM g s k).2 with
            | false =>
              have HZ : Hid (finM g most.toNat T = (d, s)) := HF.out.done (fin_stuck hp hs)
              rw [hs] at hS'
              obtain ⟨s2, hs2⟩ : ∃ x, (stepM g s k).1 = x := ⟨_, rfl⟩
              rw [hs2] at hS'
              clear he hp hs hs2
              generalize k :: ks = L at hP' HK
              have t2 : True := trivial
              have t3 : True := trivial
              have t4 : True := trivial
              have t5 : True := trivial
              have t6 : True := trivial
              have t7 : True := trivial
              have t8 : True := trivial
              have t9 : True := trivial
              have t10 : True := trivial
              have t11 : True := trivial
              have t12 : True := trivial
              go_wp2_with (first
                | (clear t2; refine wpList_loadW rfl 32 _ rfl rfl CC _ Try.underlying32 rfl (by rw [HMl.out]; exact infoMc) ?_)
                | (go_at_call 27; refine (hE' _ (HM.out.below HBB.out)).mono ?_; rintro e W2 ⟨rfl, B2⟩; have O2 := own_below HO.out B2; have V2 := Below.then HBB.out B2; have R2 := Below.then HB.out B2; clear B2)
                | (clear t3; refine wpList_allocS rfl 42 rfl (finL []) zeroFin ?_; intro W3 b3 F3 K3; have O3 := own_below O2 (F_b F3); have V3 := Below.then V2 (F_b F3); have R3 := Below.then R2 (F_b F3); have hb3 : w.heap.size ≤ b3 := Nat.le_trans V2.size (Nat.le_of_eq F3.at'.symm); have hc3 : W1.heap.size ≤ b3 := Nat.le_trans R2.size (Nat.le_of_eq F3.at'.symm); clear F3 O2 V2 R2)
                | (clear t4; refine wpList_storeW rfl 42 _ _ rfl rfl (finL (endM g s)) rfl K3 (len_fin _ HEL.out) (info_fin _ HEL.out) (finL_one _) ?_; intro W4 U4 K4; have O4 := own_updT O3 K3 U4 (by decide); have V4 := U4.trans V3 hb3; have R4 := U4.trans R3 hc3; have yv : W4.cell? ⟨b1, 1, none⟩ = some (.func (.func 21) #[] #[.pointer (some ⟨bn, 0, none⟩), .pointer (some ⟨bg, 0, none⟩)]) := ((HC1.out.grown R4).cell 1).trans HVF.out; clear K3 U4 O3 V3 R3)
                | (go_at_call 21; refine (hP' _ (HM.out.below V4)).mono ?_; rintro e W5 ⟨v5, rfl, P5, B5⟩; obtain ⟨a5, c5, ev5, sg, _⟩ := own_row P5; subst ev5; obtain ⟨b7, o7, ea, hb7, rg⟩ := pk_range sg HK.out; subst ea; have ro : W5.rangeAt b7 o7 (pkL k) := (by simpa using rg); clear rg; have O5 := own_below O4 B5; have V5 := Below.then V4 B5; have R5 := Below.then R4 B5; clear B5 O4 yv P5 sg))
              have CC5 := HC1.out.grown R5
              refine grow_allW (by kernel_rfl) (by kernel_rfl) ?_
              refine WG.row rfl 32 _ rfl rfl CC5 mc rfl _ Try.underlying32 rfl (by rw [HMl.out]; exact infoMc) ?_
              simp only [Act.put, List.setIfInBounds_toArray, List.set_cons_succ, List.set_cons_zero]
              refine WG.put rfl (v := (.string s)) (fun w => by first | rfl | (go_simp; done) | (simp [go_sem]; done) | (simp [execOp, go_sem]; done)) ?_
              simp only [Act.put, List.setIfInBounds_toArray, List.set_cons_succ, List.set_cons_zero]
              refine WG.put rfl (v := (.slice (some ⟨b7, o7, none⟩) m c5)) (fun w => by first | rfl | (go_simp; done) | (simp [go_sem]; done) | (simp [execOp, go_sem]; done)) ?_
              simp only [Act.put, List.setIfInBounds_toArray, List.set_cons_succ, List.set_cons_zero]
              refine WG.put rfl (v := (.pointer (some ⟨b7, o7, none⟩))) (fun w => by first | rfl | (go_simp; done) | (simp [go_sem, hmz]; done) | (simp [execOp, go_sem, hmz]; done)) ?_
              simp only [Act.put, List.setIfInBounds_toArray, List.set_cons_succ, List.set_cons_zero]
              refine WG.range rfl 35 _ rfl rfl (pkL k) hb7 ro _ Try.underlying35 rfl infoPk ?_
              simp only [Act.put, List.setIfInBounds_toArray, List.set_cons_succ, List.set_cons_zero]
              refine WG.call rfl (f := 25) (args := #[.agg mc.toArray, .string s, .agg (pkL k).toArray]) (v := (.tuple #[.string s2, .bool false])) (fun W hW => hS' W (HM.out.below (Below.then V5 hW))) (fun w => by first | rfl | (go_simp; done) | (simp [execOp, go_sem]; done)) ?_
              simp only [Act.put, List.setIfInBounds_toArray, List.set_cons_succ, List.set_cons_zero]
              refine WG.put rfl (v := (.tuple #[.string s2, .bool false])) (fun w => by first | rfl | (go_simp; done) | (simp [go_sem]; done) | (simp [execOp, go_sem]; done)) ?_
              simp only [Act.put, List.setIfInBounds_toArray, List.set_cons_succ, List.set_cons_zero]
              refine WG.put rfl (v := (.string s2)) (fun w => by first | rfl | (go_simp; done) | (simp [go_sem]; done) | (simp [execOp, go_sem]; done)) ?_
              simp only [Act.put, List.setIfInBounds_toArray, List.set_cons_succ, List.set_cons_zero]
              refine WG.put rfl (v := (.bool false)) (fun w => by first | rfl | (go_simp; done) | (simp [go_sem]; done) | (simp [execOp, go_sem]; done)) ?_
              simp only [Act.put, List.setIfInBounds_toArray, List.set_cons_succ, List.set_cons_zero]
              refine WG.put rfl (v := (.string s2)) (fun w => by first | rfl | (go_simp; done) | (simp [go_sem]; done) | (simp [execOp, go_sem]; done)) ?_
              simp only [Act.put, List.setIfInBounds_toArray, List.set_cons_succ, List.set_cons_zero]
              refine WG.put rfl (v := (.bool false)) (fun w => by first | rfl | (go_simp; done) | (simp [go_sem]; done) | (simp [execOp, go_sem]; done)) ?_
              simp only [Act.put, List.setIfInBounds_toArray, List.set_cons_succ, List.set_cons_zero]
              refine WG.nil ?_
              intro W8 B8
              have O8 := own_below O5 B8
              have V8 := Below.then V5 B8
              have R8 := Below.then R5 B8
              have rp := range_below ro hb7 B8
              clear CC5 O5 ro B8
              go_wp2_with fail
              exact HA.out _ _ d s HZ.out (by rw [← HNl.out]; exact own_raise O8 HB1.out.size) V8
            | true =>
              have HF2 : Hid (FinTo g most.toNat T (d ++ [k]) (stepM g s k).1) := HF.out.on (by rw [← HNl.out]; omega) he hp hs
              have HS2 : Hid ((stepM g s k).1.size ≤ 1099511627776) := Nat.le_trans (stepM_size g s k) (by decide)
              rw [hs] at hS'
              obtain ⟨s2, hs2⟩ : ∃ x, (stepM g s k).1 = x := ⟨_, rfl⟩
              rw [hs2] at hS' HF2 HS2
              clear he hp hs hs2
              generalize k :: ks = L at hP' HK
              have t2 : True := trivial
              have t3 : True := trivial
              have t4 : True := trivial
              have t5 : True := trivial
              have t6 : True := trivial
              have t7 : True := trivial
              have t8 : True := trivial
              have t9 : True := trivial
              have t10 : True := trivial
              have t11 : True := trivial
              have t12 : True := trivial
              go_wp2_with (first
                | (clear t2; refine wpList_loadW rfl 32 _ rfl rfl CC _ Try.underlying32 rfl (by rw [HMl.out]; exact infoMc) ?_)
                | (go_at_call 27; refine (hE' _ (HM.out.below HBB.out)).mono ?_; rintro e W2 ⟨rfl, B2⟩; have O2 := own_below HO.out B2; have V2 := Below.then HBB.out B2; have R2 := Below.then HB.out B2; clear B2)
                | (clear t3; refine wpList_allocS rfl 42 rfl (finL []) zeroFin ?_; intro W3 b3 F3 K3; have O3 := own_below O2 (F_b F3); have V3 := Below.then V2 (F_b F3); have R3 := Below.then R2 (F_b F3); have hb3 : w.heap.size ≤ b3 := Nat.le_trans V2.size (Nat.le_of_eq F3.at'.symm); have hc3 : W1.heap.size ≤ b3 := Nat.le_trans R2.size (Nat.le_of_eq F3.at'.symm); clear F3 O2 V2 R2)
                | (clear t4; refine wpList_storeW rfl 42 _ _ rfl rfl (finL (endM g s)) rfl K3 (len_fin _ HEL.out) (info_fin _ HEL.out) (finL_one _) ?_; intro W4 U4 K4; have O4 := own_updT O3 K3 U4 (by decide); have V4 := U4.trans V3 hb3; have R4 := U4.trans R3 hc3; have yv : W4.cell? ⟨b1, 1, none⟩ = some (.func (.func 21) #[] #[.pointer (some ⟨bn, 0, none⟩), .pointer (some ⟨bg, 0, none⟩)]) := ((HC1.out.grown R4).cell 1).trans HVF.out; clear K3 U4 O3 V3 R3)
                | (go_at_call 21; refine (hP' _ (HM.out.below V4)).mono ?_; rintro e W5 ⟨v5, rfl, P5, B5⟩; obtain ⟨a5, c5, ev5, sg, _⟩ := own_row P5; subst ev5; obtain ⟨b7, o7, ea, hb7, rg⟩ := pk_range sg HK.out; subst ea; have ro : W5.rangeAt b7 o7 (pkL k) := (by simpa using rg); clear rg; have O5 := own_below O4 B5; have V5 := Below.then V4 B5; have R5 := Below.then R4 B5; clear B5 O4 yv P5 sg))
              have CC5 := HC1.out.grown R5
              refine grow_allW (by kernel_rfl) (by kernel_rfl) ?_
              refine WG.row rfl 32 _ rfl rfl CC5 mc rfl _ Try.underlying32 rfl (by rw [HMl.out]; exact infoMc) ?_
              simp only [Act.put, List.setIfInBounds_toArray, List.set_cons_succ, List.set_cons_zero]
              refine WG.put rfl (v := (.string s)) (fun w => by first | rfl | (go_simp; done) | (simp [go_sem]; done) | (simp [execOp, go_sem]; done)) ?_
              simp only [Act.put, List.setIfInBounds_toArray, List.set_cons_succ, List.set_cons_zero]
              refine WG.put rfl (v := (.slice (some ⟨b7, o7, none⟩) m c5)) (fun w => by first | rfl | (go_simp; done) | (simp [go_sem]; done) | (simp [execOp, go_sem]; done)) ?_
              simp only [Act.put, List.setIfInBounds_toArray, List.set_cons_succ, List.set_cons_zero]
              refine WG.put rfl (v := (.pointer (some ⟨b7, o7, none⟩))) (fun w => by first | rfl | (go_simp; done) | (simp [go_sem, hmz]; done) | (simp [execOp, go_sem, hmz]; done)) ?_
              simp only [Act.put, List.setIfInBounds_toArray, List.set_cons_succ, List.set_cons_zero]
              refine WG.range rfl 35 _ rfl rfl (pkL k) hb7 ro _ Try.underlying35 rfl infoPk ?_
              simp only [Act.put, List.setIfInBounds_toArray, List.set_cons_succ, List.set_cons_zero]
              refine WG.call rfl (f := 25) (args := #[.agg mc.toArray, .string s, .agg (pkL k).toArray]) (v := (.tuple #[.string s2, .bool true])) (fun W hW => hS' W (HM.out.below (Below.then V5 hW))) (fun w => by first | rfl | (go_simp; done) | (simp [execOp, go_sem]; done)) ?_
              simp only [Act.put, List.setIfInBounds_toArray, List.set_cons_succ, List.set_cons_zero]
              refine WG.put rfl (v := (.tuple #[.string s2, .bool true])) (fun w => by first | rfl | (go_simp; done) | (simp [go_sem]; done) | (simp [execOp, go_sem]; done)) ?_
              simp only [Act.put, List.setIfInBounds_toArray, List.set_cons_succ, List.set_cons_zero]
              refine WG.put rfl (v := (.string s2)) (fun w => by first | rfl | (go_simp; done) | (simp [go_sem]; done) | (simp [execOp, go_sem]; done)) ?_
              simp only [Act.put, List.setIfInBounds_toArray, List.set_cons_succ, List.set_cons_zero]
              refine WG.put rfl (v := (.bool true)) (fun w => by first | rfl | (go_simp; done) | (simp [go_sem]; done) | (simp [execOp, go_sem]; done)) ?_
              simp only [Act.put, List.setIfInBounds_toArray, List.set_cons_succ, List.set_cons_zero]
              refine WG.put rfl (v := (.string s2)) (fun w => by first | rfl | (go_simp; done) | (simp [go_sem]; done) | (simp [execOp, go_sem]; done)) ?_
              simp only [Act.put, List.setIfInBounds_toArray, List.set_cons_succ, List.set_cons_zero]
              refine WG.put rfl (v := (.bool true)) (fun w => by first | rfl | (go_simp; done) | (simp [go_sem]; done) | (simp [execOp, go_sem]; done)) ?_
              simp only [Act.put, List.setIfInBounds_toArray, List.set_cons_succ, List.set_cons_zero]
              refine WG.nil ?_
              intro W8 B8
              have O8 := own_below O5 B8
              have V8 := Below.then V5 B8
              have R8 := Below.then R5 B8
              have rp := range_below ro hb7 B8
              clear CC5 O5 ro B8
              go_wp2_with (first
                | (clear t10; refine wpList_load_mid rfl 35 _ rfl b7 o7 rfl (pkL k) _ rp Try.underlying35 rfl infoPk ?_)
                | (clear t11; refine wpList_build1P rfl _ rfl k rfl ?_; intro W9 b9 F9 C9; have R9 := Below.then R8 (F_b F9); have O9 := own_below O8 (F_b F9); clear F9)
                | (clear t12; at_builtin; refine wpList_appM ePk rfl _ _ rfl W1.heap.size _ n _ rfl O9 _ 1 (pkL k) rfl (row_isS C9) rfl (pk_oneC _) (by omega) R9.size ?_; intro v10 W10 O10 G10; have R10 := grown_below R9 R9.size O9 G10; clear G10 C9 O9))
              have HO2 : Hid (W10.ownsRow W1.heap.size 35 3 v10 (n + 1) ((d ++ [k]).flatMap pkL)) := (by
                show World.ownsRow _ _ _ _ _ _ _
                rw [List.flatMap_append, List.flatMap_singleton]; exact O10)
              clear O10
              obtain ⟨a10, c10, ev10⟩ := own_form HO2.out
              subst ev10
              go_wp2_with fail
              go_roundw
              case rel => exact ⟨d ++ [k], s2, n + 1, by rw [List.length_append, List.length_singleton, HNl.out], rfl, ⟨_, _, rfl⟩, HS2, (by show n + 1 ≤ most.toNat; omega), HF2, HO2, R10⟩
              case measure => simp only [lenV]; omega
    · have HZ : Hid (finM g most.toNat T = (d, s)) := HF.out.done (by rw [show most.toNat - d.length = 0 by rw [← HNl.out]; omega]; rfl)
      go_wp2_with fail
      exact HA.out _ _ d s HZ.out (by rw [← HNl.out]; exact own_raise HO.out HB1.out.size) HBB.out
end Go.Proofs.Ytmoieckmbimgoaa
