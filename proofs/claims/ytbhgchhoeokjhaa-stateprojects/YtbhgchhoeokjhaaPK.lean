/- Project of the reference. -/
import Derived.Test.YtbhgchhoeokjhaaPP1
namespace Go.Proofs.Ytbhgchhoeokjhaa
open Go Go.RowKit M
set_option linter.unusedSimpArgs false
set_option linter.unusedVariables false

set_option maxRecDepth 100000 in
set_option maxHeartbeats 4000000 in
theorem rproject_any (a ak : Option Addr) (cap ck : Nat) (l : List FS) (ks : List Int) (hn : l.length ≤ 8000) (hkn : ks.length ≤ 4611686018427387903) (w : World) (hS : Seg w a (flatF l)) (hK : NumS w ak ks) :
    Calls Try.prog 25 #[.slice a l.length cap, .slice ak ks.length ck] w fun e w' => ∃ v, e = .returned (.tuple #[v, .int .i64 (prjE l ks)]) ∧ OwnL w' w.heap.size v (prjL l ks) ∧ Below w.heap.size w w' := by
  have hR := rrises_any a cap l (by omega) w hS
  have hsz : ((l.length : Nat) : Int) ≤ 8000 := by omega
  have hkz : ((ks.length : Nat) : Int) ≤ 4611686018427387903 := by omega
  cases hb : setB l with
  | false =>
    have HE : Hid (prjE l ks = 100) := prjE_100 hb
    have HL : Hid (prjL l ks = []) := prjL_bad (by rw [prjE_100 hb]; decide)
    rw [hb] at hR
    clear hS hK hb
    go_enter Try.func25, Try.ntmps25
    go_wp2_with (first
      | (go_at_call 17; refine hR.mono ?_; rintro e w1 ⟨rfl, B1⟩; clear hR))
    go_ret2
    exact ⟨.slice none 0 0, by rw [HE.out]; rfl, by rw [HL.out]; exact World.ownsRow_nil _ _ _ _, B1⟩
  | true =>
    have hset := (setB_set l).1 hb
    rw [hb] at hR
    by_cases h48 : 48 < ks.length
    · have HE : Hid (prjE l ks = 1) := prjE_1 hb h48
      have HL : Hid (prjL l ks = []) := prjL_bad (by rw [prjE_1 hb h48]; decide)
      have h48I : (48 : Int) < (ks.length : Int) := by omega
      clear hS hK hb hset
      go_enter Try.func25, Try.ntmps25
      go_wp2_with (first
        | (go_at_call 17; refine hR.mono ?_; rintro e w1 ⟨rfl, B1⟩; clear hR))
      go_ret2
      exact ⟨.slice none 0 0, by rw [HE.out]; rfl, by rw [HL.out]; exact World.ownsRow_nil _ _ _ _, B1⟩
    · have h48I : ¬ ((48 : Int) < (ks.length : Int)) := by omega
      have D4 : Hid ((l.all fun x => inB ks x.n) = false → prjE l ks = 4 ∧ prjL l ks = []) := fun h => ⟨prjE_4 hb h48 h, prjL_bad (by rw [prjE_4 hb h48 h]; decide)⟩
      have D0 : Hid ((l.all fun x => inB ks x.n) = true → prjE l ks = 0 ∧ prjL l ks = setF (l.map (prjF ks))) := fun h => ⟨prjE_0 hb h48 h, prjL_ok (prjE_0 hb h48 h)⟩
      have HSet : Hid (IsSet l) := hset
      have HS : Hid (Seg w a (flatF l)) := hS
      have HKN : Hid (NumS w ak ks) := hK
      have hk48' : ks.length ≤ 48 := by omega
      have hkz2 : ((ks.length : Nat) : Int) ≤ 48 := by omega
      clear hS hK hb hset h48 hkz hkn
      go_enter Try.func25, Try.ntmps25
      go_wp2_with (first
        | (go_at_call 17; refine hR.mono ?_; rintro e w1 ⟨rfl, B1⟩; clear hR))
      go_loopw [6, 7] (fun v p wr => ∃ i : Nat, i ≤ l.length ∧ p = .int .i64 (i : Int) ∧ Hid (OwnL wr w.heap.size v ((l.take i).map (prjF ks))) ∧ Below w.heap.size w wr ∧ Hid (∀ j, j < i → inB ks (l.getD j FS.zero).n = true)) (fun _ p _ => l.length - (intOf p).toNat)
      case atStart => exact ⟨0, Nat.zero_le _, rfl, World.ownsRow_nil _ _ _ _, B1, fun j hj => absurd hj (Nat.not_lt_zero _)⟩
      case round =>
        obtain ⟨i, hi, rfl, HO, BR, HA⟩ := hrel
        have hsR := BR.size
        by_cases hlt : i < l.length
        · obtain ⟨b, o, rfl, HB0, HX0⟩ := seg_elem HS.out i hlt
          have HXo : ∀ W, Below w.heap.size w W → W.rangeAt b (o + i * 49) (encF (l.getD i FS.zero)) := fun W h j v hv => (h.cell (p := ⟨b, o + i * 49 + j, none⟩) HB0).trans (HX0 j v hv)
          have HT : Hid ((l.take (i + 1)).map (prjF ks) = (l.take i).map (prjF ks) ++ [prjF ks (l.getD i FS.zero)]) := by show _ = _; rw [take_snocF l i hlt, List.map_append]; rfl
          have hXn : (l.getD i FS.zero).n ≤ 48 := okF_le (by rw [getD_at l i hlt]; exact HSet.out.2 _ (List.getElem_mem hlt))
          have HNo : Hid (inB ks (l.getD i FS.zero).n = false → (l.all fun x => inB ks x.n) = false) := fun h => all_noF hlt h
          have HA' : Hid (inB ks (l.getD i FS.zero).n = true → ∀ j, j < i + 1 → inB ks (l.getD j FS.zero).n = true) := fun h j hj => by
            rcases Nat.lt_succ_iff_lt_or_eq.1 hj with h' | h'
            · exact HA.out j h'
            · rw [h']; exact h
          have hiX : (i : Int) < (l.length : Int) := by omega
          have hml : ((l.take i).map (prjF ks)).length ≤ i := by rw [List.length_map, List.length_take]; omega
          obtain ⟨ao, co, hv3⟩ := own_form HO.out
          subst hv3
          generalize (l.take i).map (prjF ks) = out at *
          have HPd : Hid (prjF ks (l.getD i FS.zero) = mkF (ks.length : Int) (ks.map fun k => (l.getD i FS.zero).v.getD k.toNat 0)) := rfl
          generalize l.getD i FS.zero = X at *
          clear HX0 HA
          have ta : True := trivial
          go_wp2_with (first
            | (refine wpList_buildNF rfl _ rfl (ks.length : Int) rfl ?_)
            | (clear ta; refine wpList_allocS rfl _ rfl (encF FS.zero) zeroF ?_; intro w3 b8 F3 I3; have hb8' : wr.heap.size ≤ b8 := (by rw [F3.at']; exact Nat.le_refl _); have ts : True := trivial)
            | (clear ts; refine wpList_storeF rfl _ _ rfl rfl rfl I3 ?_; intro w4 U4 I4; have B4 : Below wr.heap.size wr w4 := U4.trans (fresh_b F3) (by rw [F3.at']; exact Nat.le_refl _)))
          have hlt8 : b8 < w4.heap.size := I4.lt
          clear F3 I3 U4
          go_loopw [9] (fun q wq => ∃ k : Nat, k ≤ ks.length ∧ q = .int .i64 (k : Int) ∧ IsS wq b8 25 (encF (mkF (ks.length : Int) ((ks.take k).map fun k => X.v.getD k.toNat 0))) ∧ Below wr.heap.size wr wq ∧ Hid (∀ j, j < k → 0 ≤ ks.getD j 0 ∧ ks.getD j 0 < X.n)) (fun q _ => ks.length - (intOf q).toNat)
          case atStart => exact ⟨0, Nat.zero_le _, rfl, by simpa using I4, B4, fun j hj => absurd hj (Nat.not_lt_zero _)⟩
          case round =>
            rename World => wq
            obtain ⟨k, hk, rfl, IQ, BQ, HIN⟩ := hrel
            clear I4 B4
            have B0Q := Below.then BR BQ
            by_cases hklt : k < ks.length
            · obtain ⟨bk, ok, rfl, HBK, cK⟩ := NumS.at (HKN.out.below B0Q) k hklt
              have cN : wq.cell? ⟨b, o + i * 49, none⟩ = some (.int .i64 X.n) := by have := HXo wq B0Q 0 (.int .i64 X.n) rfl; rwa [Nat.add_zero] at this
              have hiK : (k : Int) < (ks.length : Int) := by omega
              have HNo2 : Hid (¬ (0 ≤ ks.getD k 0 ∧ ks.getD k 0 < X.n) → inB ks X.n = false) := fun h => inB_no hklt h
              have HIN2 : Hid ((0 ≤ ks.getD k 0 ∧ ks.getD k 0 < X.n) → ∀ j, j < k + 1 → 0 ≤ ks.getD j 0 ∧ ks.getD j 0 < X.n) := fun h j hj => by
                rcases Nat.lt_succ_iff_lt_or_eq.1 hj with h' | h'
                · exact HIN.out j h'
                · rw [h']; exact h
              have HPT : Hid ((ks.take (k + 1)).map (fun k => X.v.getD k.toNat 0) = (ks.take k).map (fun k => X.v.getD k.toNat 0) ++ [X.v.getD (ks.getD k 0).toNat 0]) := prj_take ks X k hklt
              generalize ks.getD k 0 = z at *
              by_cases hz1 : z < 0
              · have HF := D4.out (HNo.out (HNo2.out (by omega)))
                have HE : Hid (prjE l ks = 4) := HF.1
                have HL : Hid (prjL l ks = []) := HF.2
                clear HF HNo2 HIN2 HPT HIN
                go_wp2
                refine grow_allW (by kernel_rfl) (by kernel_rfl) ?_
                refine WG.put rfl (v := .slice (some ⟨bk, ok, none⟩) ks.length ck) (fun w => by first | rfl | (go_simp; done) | (simp [go_sem]; done)) ?_
                simp only [Act.put, List.setIfInBounds_toArray, List.set_cons_succ, List.set_cons_zero]
                refine WG.put rfl (v := .int .i64 (k : Int)) (fun w => by first | rfl | (go_simp; done) | (simp [go_sem]; done)) ?_
                simp only [Act.put, List.setIfInBounds_toArray, List.set_cons_succ, List.set_cons_zero]
                refine WG.put rfl (v := .pointer (some ⟨bk, ok + k, none⟩)) (fun w => by first | rfl | (go_simp; done) | (simp [go_sem, hiK]; done)) ?_
                simp only [Act.put, List.setIfInBounds_toArray, List.set_cons_succ, List.set_cons_zero]
                refine WG.cell rfl 3 _ rfl rfl cK ld3 ?_
                simp only [Act.put, List.setIfInBounds_toArray, List.set_cons_succ, List.set_cons_zero]
                refine WG.put rfl (v := .bool true) (fun w => by first | rfl | (go_simp; done) | (simp [go_sem, hz1]; done)) ?_
                simp only [Act.put, List.setIfInBounds_toArray, List.set_cons_succ, List.set_cons_zero]
                refine WG.put rfl (v := .bool true) (fun w => by first | rfl | (go_simp; done) | (simp [go_sem]; done)) ?_
                simp only [Act.put, List.setIfInBounds_toArray, List.set_cons_succ, List.set_cons_zero]
                refine WG.skip rfl ?_
                simp only [Act.put, List.setIfInBounds_toArray, List.set_cons_succ, List.set_cons_zero]
                refine WG.skip rfl ?_
                simp only [Act.put, List.setIfInBounds_toArray, List.set_cons_succ, List.set_cons_zero]
                refine WG.skip rfl ?_
                simp only [Act.put, List.setIfInBounds_toArray, List.set_cons_succ, List.set_cons_zero]
                refine WG.skip rfl ?_
                simp only [Act.put, List.setIfInBounds_toArray, List.set_cons_succ, List.set_cons_zero]
                refine WG.skip rfl ?_
                simp only [Act.put, List.setIfInBounds_toArray, List.set_cons_succ, List.set_cons_zero]
                refine WG.skip rfl ?_
                simp only [Act.put, List.setIfInBounds_toArray, List.set_cons_succ, List.set_cons_zero]
                refine WG.skip rfl ?_
                simp only [Act.put, List.setIfInBounds_toArray, List.set_cons_succ, List.set_cons_zero]
                refine WG.skip rfl ?_
                simp only [Act.put, List.setIfInBounds_toArray, List.set_cons_succ, List.set_cons_zero]
                refine WG.skip rfl ?_
                simp only [Act.put, List.setIfInBounds_toArray, List.set_cons_succ, List.set_cons_zero]
                refine WG.skip rfl ?_
                simp only [Act.put, List.setIfInBounds_toArray, List.set_cons_succ, List.set_cons_zero]
                refine WG.put rfl (v := .bool true) (fun w => by first | rfl | (go_simp; done) | (simp [go_sem]; done)) ?_
                simp only [Act.put, List.setIfInBounds_toArray, List.set_cons_succ, List.set_cons_zero]
                refine WG.nil ?_
                intro w6 B6
                clear cK cN
                go_wp2
                go_ret2
                exact ⟨.slice none 0 0, by rw [HE.out]; rfl, by rw [HL.out]; exact World.ownsRow_nil _ _ _ _, Below.then B0Q B6⟩
              · by_cases hz2 : X.n ≤ z
                · have HF := D4.out (HNo.out (HNo2.out (by omega)))
                  have HE : Hid (prjE l ks = 4) := HF.1
                  have HL : Hid (prjL l ks = []) := HF.2
                  clear HF HNo2 HIN2 HPT HIN
                  go_wp2
                  refine grow_allW (by kernel_rfl) (by kernel_rfl) ?_
                  refine WG.put rfl (v := .slice (some ⟨bk, ok, none⟩) ks.length ck) (fun w => by first | rfl | (go_simp; done) | (simp [go_sem]; done)) ?_
                  simp only [Act.put, List.setIfInBounds_toArray, List.set_cons_succ, List.set_cons_zero]
                  refine WG.put rfl (v := .int .i64 (k : Int)) (fun w => by first | rfl | (go_simp; done) | (simp [go_sem]; done)) ?_
                  simp only [Act.put, List.setIfInBounds_toArray, List.set_cons_succ, List.set_cons_zero]
                  refine WG.put rfl (v := .pointer (some ⟨bk, ok + k, none⟩)) (fun w => by first | rfl | (go_simp; done) | (simp [go_sem, hiK]; done)) ?_
                  simp only [Act.put, List.setIfInBounds_toArray, List.set_cons_succ, List.set_cons_zero]
                  refine WG.cell rfl 3 _ rfl rfl cK ld3 ?_
                  simp only [Act.put, List.setIfInBounds_toArray, List.set_cons_succ, List.set_cons_zero]
                  refine WG.put rfl (v := .bool false) (fun w => by first | rfl | (go_simp; done) | (simp [go_sem, hz1]; done)) ?_
                  simp only [Act.put, List.setIfInBounds_toArray, List.set_cons_succ, List.set_cons_zero]
                  refine WG.put rfl (v := .bool false) (fun w => by first | rfl | (go_simp; done) | (simp [go_sem]; done)) ?_
                  simp only [Act.put, List.setIfInBounds_toArray, List.set_cons_succ, List.set_cons_zero]
                  refine WG.put rfl (v := .slice (some ⟨bk, ok, none⟩) ks.length ck) (fun w => by first | rfl | (go_simp; done) | (simp [go_sem]; done)) ?_
                  simp only [Act.put, List.setIfInBounds_toArray, List.set_cons_succ, List.set_cons_zero]
                  refine WG.put rfl (v := .int .i64 (k : Int)) (fun w => by first | rfl | (go_simp; done) | (simp [go_sem]; done)) ?_
                  simp only [Act.put, List.setIfInBounds_toArray, List.set_cons_succ, List.set_cons_zero]
                  refine WG.put rfl (v := .pointer (some ⟨bk, ok + k, none⟩)) (fun w => by first | rfl | (go_simp; done) | (simp [go_sem, hiK]; done)) ?_
                  simp only [Act.put, List.setIfInBounds_toArray, List.set_cons_succ, List.set_cons_zero]
                  refine WG.cell rfl 3 _ rfl rfl cK ld3 ?_
                  simp only [Act.put, List.setIfInBounds_toArray, List.set_cons_succ, List.set_cons_zero]
                  refine WG.put rfl (v := .slice (some ⟨b, o, none⟩) l.length cap) (fun w => by first | rfl | (go_simp; done) | (simp [go_sem]; done)) ?_
                  simp only [Act.put, List.setIfInBounds_toArray, List.set_cons_succ, List.set_cons_zero]
                  refine WG.put rfl (v := .int .i64 (i : Int)) (fun w => by first | rfl | (go_simp; done) | (simp [go_sem]; done)) ?_
                  simp only [Act.put, List.setIfInBounds_toArray, List.set_cons_succ, List.set_cons_zero]
                  refine WG.put rfl (v := .pointer (some ⟨b, o + i * 49, none⟩)) (fun w => by first | rfl | (go_simp; done) | (simp [go_sem, hiX]; done)) ?_
                  simp only [Act.put, List.setIfInBounds_toArray, List.set_cons_succ, List.set_cons_zero]
                  refine WG.put rfl (v := .pointer (some ⟨b, o + i * 49, none⟩)) (fun w => by first | rfl | (go_simp; done) | (simp [go_sem]; done)) ?_
                  simp only [Act.put, List.setIfInBounds_toArray, List.set_cons_succ, List.set_cons_zero]
                  refine WG.cell rfl 3 _ rfl rfl cN ld3 ?_
                  simp only [Act.put, List.setIfInBounds_toArray, List.set_cons_succ, List.set_cons_zero]
                  refine WG.put rfl (v := .bool true) (fun w => by first | rfl | (go_simp; done) | (simp [go_sem, hz2]; done)) ?_
                  simp only [Act.put, List.setIfInBounds_toArray, List.set_cons_succ, List.set_cons_zero]
                  refine WG.put rfl (v := .bool true) (fun w => by first | rfl | (go_simp; done) | (simp [go_sem]; done)) ?_
                  simp only [Act.put, List.setIfInBounds_toArray, List.set_cons_succ, List.set_cons_zero]
                  refine WG.nil ?_
                  intro w6 B6
                  clear cK cN
                  go_wp2
                  go_ret2
                  exact ⟨.slice none 0 0, by rw [HE.out]; rfl, by rw [HL.out]; exact World.ownsRow_nil _ _ _ _, Below.then B0Q B6⟩
                · have HIN3 : Hid (∀ j, j < k + 1 → 0 ≤ ks.getD j 0 ∧ ks.getD j 0 < X.n) := HIN2.out (by omega)
                  obtain ⟨zN, rfl⟩ : ∃ zN : Nat, z = (zN : Int) := ⟨z.toNat, by omega⟩
                  have hz48 : (zN : Int) < 48 := by omega
                  have hk48 : (k : Int) < 48 := by omega
                  have hlm : ((ks.take k).map (fun k => X.v.getD k.toNat 0)).length = k := by rw [List.length_map, List.length_take]; omega
                  have HSe : Hid ((encF (mkF (ks.length : Int) ((ks.take k).map fun k => X.v.getD k.toNat 0))).set (1 + k) (.int .i64 (X.v.getD zN 0)) = encF (mkF (ks.length : Int) ((ks.take (k + 1)).map fun k => X.v.getD k.toNat 0))) := by
                    show _ = _
                    rw [HPT.out, Int.toNat_natCast]
                    have := encF_set (ks.length : Int) ((ks.take k).map fun k => X.v.getD k.toNat 0) (X.v.getD zN 0) (by omega)
                    rw [hlm] at this
                    exact this
                  have hcV : ∀ W, Below w.heap.size w W → W.cell? ⟨b, o + i * 49 + 1 + zN, none⟩ = some (.int .i64 (X.v.getD zN 0)) := fun W hB => by
                    have := HXo W hB (zN + 1) _ (encF_get X zN (by omega))
                    rw [Nat.add_assoc (o + i * 49) 1 zN, Nat.add_comm 1 zN]; exact this
                  generalize X.v.getD zN 0 = y at *
                  clear HNo2 HIN2 HPT HIN hlm
                  go_wp2
                  refine grow_allW (by kernel_rfl) (by kernel_rfl) ?_
                  refine WG.put rfl (v := .slice (some ⟨bk, ok, none⟩) ks.length ck) (fun w => by first | rfl | (go_simp; done) | (simp [go_sem]; done)) ?_
                  simp only [Act.put, List.setIfInBounds_toArray, List.set_cons_succ, List.set_cons_zero]
                  refine WG.put rfl (v := .int .i64 (k : Int)) (fun w => by first | rfl | (go_simp; done) | (simp [go_sem]; done)) ?_
                  simp only [Act.put, List.setIfInBounds_toArray, List.set_cons_succ, List.set_cons_zero]
                  refine WG.put rfl (v := .pointer (some ⟨bk, ok + k, none⟩)) (fun w => by first | rfl | (go_simp; done) | (simp [go_sem, hiK]; done)) ?_
                  simp only [Act.put, List.setIfInBounds_toArray, List.set_cons_succ, List.set_cons_zero]
                  refine WG.cell rfl 3 _ rfl rfl cK ld3 ?_
                  simp only [Act.put, List.setIfInBounds_toArray, List.set_cons_succ, List.set_cons_zero]
                  refine WG.put rfl (v := .bool false) (fun w => by first | rfl | (go_simp; done) | (simp [go_sem, hz1]; done)) ?_
                  simp only [Act.put, List.setIfInBounds_toArray, List.set_cons_succ, List.set_cons_zero]
                  refine WG.put rfl (v := .bool false) (fun w => by first | rfl | (go_simp; done) | (simp [go_sem]; done)) ?_
                  simp only [Act.put, List.setIfInBounds_toArray, List.set_cons_succ, List.set_cons_zero]
                  refine WG.put rfl (v := .slice (some ⟨bk, ok, none⟩) ks.length ck) (fun w => by first | rfl | (go_simp; done) | (simp [go_sem]; done)) ?_
                  simp only [Act.put, List.setIfInBounds_toArray, List.set_cons_succ, List.set_cons_zero]
                  refine WG.put rfl (v := .int .i64 (k : Int)) (fun w => by first | rfl | (go_simp; done) | (simp [go_sem]; done)) ?_
                  simp only [Act.put, List.setIfInBounds_toArray, List.set_cons_succ, List.set_cons_zero]
                  refine WG.put rfl (v := .pointer (some ⟨bk, ok + k, none⟩)) (fun w => by first | rfl | (go_simp; done) | (simp [go_sem, hiK]; done)) ?_
                  simp only [Act.put, List.setIfInBounds_toArray, List.set_cons_succ, List.set_cons_zero]
                  refine WG.cell rfl 3 _ rfl rfl cK ld3 ?_
                  simp only [Act.put, List.setIfInBounds_toArray, List.set_cons_succ, List.set_cons_zero]
                  refine WG.put rfl (v := .slice (some ⟨b, o, none⟩) l.length cap) (fun w => by first | rfl | (go_simp; done) | (simp [go_sem]; done)) ?_
                  simp only [Act.put, List.setIfInBounds_toArray, List.set_cons_succ, List.set_cons_zero]
                  refine WG.put rfl (v := .int .i64 (i : Int)) (fun w => by first | rfl | (go_simp; done) | (simp [go_sem]; done)) ?_
                  simp only [Act.put, List.setIfInBounds_toArray, List.set_cons_succ, List.set_cons_zero]
                  refine WG.put rfl (v := .pointer (some ⟨b, o + i * 49, none⟩)) (fun w => by first | rfl | (go_simp; done) | (simp [go_sem, hiX]; done)) ?_
                  simp only [Act.put, List.setIfInBounds_toArray, List.set_cons_succ, List.set_cons_zero]
                  refine WG.put rfl (v := .pointer (some ⟨b, o + i * 49, none⟩)) (fun w => by first | rfl | (go_simp; done) | (simp [go_sem]; done)) ?_
                  simp only [Act.put, List.setIfInBounds_toArray, List.set_cons_succ, List.set_cons_zero]
                  refine WG.cell rfl 3 _ rfl rfl cN ld3 ?_
                  simp only [Act.put, List.setIfInBounds_toArray, List.set_cons_succ, List.set_cons_zero]
                  refine WG.put rfl (v := .bool false) (fun w => by first | rfl | (go_simp; done) | (simp [go_sem, hz2]; done)) ?_
                  simp only [Act.put, List.setIfInBounds_toArray, List.set_cons_succ, List.set_cons_zero]
                  refine WG.put rfl (v := .bool false) (fun w => by first | rfl | (go_simp; done) | (simp [go_sem]; done)) ?_
                  simp only [Act.put, List.setIfInBounds_toArray, List.set_cons_succ, List.set_cons_zero]
                  refine WG.nil ?_
                  intro w6 B6
                  have cK6 : w6.cell? ⟨bk, ok + k, none⟩ = some (.int .i64 (zN : Int)) := (B6.cell (p := ⟨bk, ok + k, none⟩) HBK).trans cK
                  have cV6 := hcV w6 (Below.then B0Q B6)
                  have IQ6 := IQ.grown B6
                  have BQ6 := Below.then BQ B6
                  clear cK cN hcV IQ hz1 hz2
                  go_wp2
                  refine grow_tailW 13 (by kernel_rfl) (by kernel_rfl) ?_
                  simp only [List.take_succ_cons, List.take_zero, List.drop_succ_cons, List.drop_zero]
                  refine WG.put rfl (v := .int .i64 (k : Int)) (fun w => by first | rfl | (go_simp; done) | (simp [go_sem]; done)) ?_
                  simp only [Act.put, List.setIfInBounds_toArray, List.set_cons_succ, List.set_cons_zero]
                  refine WG.put rfl (v := .slice (some ⟨b, o, none⟩) l.length cap) (fun w => by first | rfl | (go_simp; done) | (simp [go_sem]; done)) ?_
                  simp only [Act.put, List.setIfInBounds_toArray, List.set_cons_succ, List.set_cons_zero]
                  refine WG.put rfl (v := .int .i64 (i : Int)) (fun w => by first | rfl | (go_simp; done) | (simp [go_sem]; done)) ?_
                  simp only [Act.put, List.setIfInBounds_toArray, List.set_cons_succ, List.set_cons_zero]
                  refine WG.put rfl (v := .slice (some ⟨bk, ok, none⟩) ks.length ck) (fun w => by first | rfl | (go_simp; done) | (simp [go_sem]; done)) ?_
                  simp only [Act.put, List.setIfInBounds_toArray, List.set_cons_succ, List.set_cons_zero]
                  refine WG.put rfl (v := .int .i64 (k : Int)) (fun w => by first | rfl | (go_simp; done) | (simp [go_sem]; done)) ?_
                  simp only [Act.put, List.setIfInBounds_toArray, List.set_cons_succ, List.set_cons_zero]
                  refine WG.put rfl (v := .pointer (some ⟨bk, ok + k, none⟩)) (fun w => by first | rfl | (go_simp; done) | (simp [go_sem, hiK]; done)) ?_
                  simp only [Act.put, List.setIfInBounds_toArray, List.set_cons_succ, List.set_cons_zero]
                  refine WG.cell rfl 3 _ rfl rfl cK6 ld3 ?_
                  simp only [Act.put, List.setIfInBounds_toArray, List.set_cons_succ, List.set_cons_zero]
                  refine WG.put rfl (v := .pointer (some ⟨b, o + i * 49, none⟩)) (fun w => by first | rfl | (go_simp; done) | (simp [go_sem, hiX]; done)) ?_
                  simp only [Act.put, List.setIfInBounds_toArray, List.set_cons_succ, List.set_cons_zero]
                  refine WG.put rfl (v := .pointer (some ⟨b, o + i * 49 + 1, none⟩)) (fun w => by first | rfl | (go_simp; done) | (simp [go_sem]; done)) ?_
                  simp only [Act.put, List.setIfInBounds_toArray, List.set_cons_succ, List.set_cons_zero]
                  refine WG.put rfl (v := .pointer (some ⟨b, o + i * 49 + 1 + zN, none⟩)) (fun w => by first | rfl | (go_simp; done) | (simp [go_sem, hz48]; done)) ?_
                  simp only [Act.put, List.setIfInBounds_toArray, List.set_cons_succ, List.set_cons_zero]
                  refine WG.cell rfl 2 _ rfl rfl cV6 ld2 ?_
                  simp only [Act.put, List.setIfInBounds_toArray, List.set_cons_succ, List.set_cons_zero]
                  refine WG.put rfl (v := .pointer (some ⟨b8, 1, none⟩)) (fun w => by first | rfl | (go_simp; done) | (simp [go_sem]; done)) ?_
                  simp only [Act.put, List.setIfInBounds_toArray, List.set_cons_succ, List.set_cons_zero]
                  refine WG.put rfl (v := .pointer (some ⟨b8, 1 + k, none⟩)) (fun w => by first | rfl | (go_simp; done) | (simp [go_sem, hk48]; done)) ?_
                  simp only [Act.put, List.setIfInBounds_toArray, List.set_cons_succ, List.set_cons_zero]
                  refine WG.nil ?_
                  intro w7 B7
                  have IQ7 := IQ6.grown B7
                  have BQ7 := Below.then BQ6 B7
                  clear cK6 cV6 IQ6
                  refine wpList_store1 rfl 2 _ _ rfl rfl (.int .i64 y) rfl IQ7 (by rw [encF_len]; omega) info2 rfl ?_
                  intro w8 U8 I8
                  rw [HSe.out] at I8
                  have BQ8 : Below wr.heap.size wr w8 := U8.trans BQ7 hb8'
                  clear IQ7
                  go_wp2
                  go_roundw
                  case rel => exact ⟨k + 1, by omega, by go_num, I8, BQ8, HIN3⟩
                  case measure => simp [intOf]; omega
            · have e : k = ks.length := by omega
              have HAll : Hid (∀ j, j < i + 1 → inB ks (l.getD j FS.zero).n = true) := HA'.out (inB_yes fun j hj => HIN.out j (by omega))
              rw [e, List.take_length, ← HPd.out] at IQ
              subst e
              have OQ := own_belowW HO.out BQ
              have hsQ := B0Q.size
              clear HIN HNo hklt
              have tb : True := trivial
              generalize prjF ks X = Y at *
              go_wp2_with (first
                | (refine wpList_loadF rfl _ rfl rfl IQ ?_)
                | (clear tb; refine wpList_buildF rfl _ rfl Y rfl ?_; intro w9 b9 F9 I9; have O9 := own_belowW OQ (fresh_b F9); have hs9 := (fresh_b F9).size)
                | (at_builtin; refine wpList_appF rfl _ _ rfl w.heap.size _ out rfl O9 b9 Y rfl I9 (by omega) (by omega) ?_; intro v10 w10 O10 G10))
              have B10 : Below w.heap.size w w10 := grown_below (Below.then B0Q (fresh_b F9)) O9 (by omega) G10
              go_roundw
              case rel => exact ⟨i + 1, by omega, by go_num, by rw [HT.out]; exact O10, B10, HAll⟩
              case measure => simp [intOf]; omega
        · have e : i = l.length := by omega
          subst e
          have HF := D0.out (all_yesF HA.out)
          have HE : Hid (prjE l ks = 0) := HF.1
          have HL : Hid (prjL l ks = setF (l.map (prjF ks))) := HF.2
          have hO := HO.out
          rw [List.take_length] at hO
          obtain ⟨a3, c3, hv3, S3⟩ := own_seg hO
          rw [List.length_map] at hv3
          subst hv3
          have hso := rsort_any a3 c3 (l.map (prjF ks)) (by rw [List.length_map]; omega) wr S3
          rw [List.length_map] at hso
          clear HO HF hlt
          go_wp2_with (first
            | (go_at_call 10; refine hso.mono ?_; rintro e w6 ⟨v6, rfl, O6, B6⟩))
          go_ret2
          exact ⟨v6, by rw [HE.out]; rfl, by rw [HL.out]; exact own_base O6 hsR, Below.then BR B6⟩
end Go.Proofs.Ytbhgchhoeokjhaa
