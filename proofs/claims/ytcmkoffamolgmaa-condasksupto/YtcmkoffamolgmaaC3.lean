/- makes. -/
import Derived.Test.YtcmkoffamolgmaaC2
import Derived.Test.YtcmkoffamolgmaaG0
namespace Go.Proofs.Ytcmkoffamolgmaa
open Go.RowKit M
set_option linter.unusedSimpArgs false
set_option linter.unusedVariables false

/-- Beginnings stand at or ahead of their nodes. -/
def Bnd (f : List Int) (i : Nat) : Prop := ∀ j, j < i → ∃ k : Nat, f[j]? = some (k : Int) ∧ k ≤ j
theorem run_bnd {f : List Int} {i : Nat} {n : Nd} {k : Int} (hb : Bnd f i) (h : runF f i n = some k) : ∃ q : Nat, k = (q : Int) ∧ q ≤ i := by
  unfold runF at h
  split at h
  · split at h
    · cases h
    · rename_i h1
      obtain ⟨q, hq, hl⟩ := hb (i - 1) (by omega)
      rw [hq] at h; cases h
      exact ⟨q, rfl, by omega⟩
  · split at h
    · split at h
      · cases h
      · rename_i h1
        obtain ⟨q, hq, hl⟩ := hb (i - 1) (by omega)
        rw [hq] at h
        dsimp only at h
        split at h
        · cases h
        · rename_i h2
          obtain ⟨p, hp, hl2⟩ := hb ((q : Int) - 1).toNat (by omega)
          rw [hp] at h; cases h
          exact ⟨p, rfl, by omega⟩
    · cases h
      exact ⟨i, rfl, Nat.le_refl _⟩
theorem Bnd.set {f : List Int} {i : Nat} (hb : Bnd f i) (hi : i < f.length) {q : Nat} (hq : q ≤ i) : Bnd (f.set i (q : Int)) (i + 1) := fun j hj => by
  by_cases h : j = i
  · subst h; exact ⟨q, by simp [hi], hq⟩
  · obtain ⟨k, hk, hl⟩ := hb j (by omega)
    exact ⟨k, by rw [List.getElem?_set_ne (fun e => h e.symm)]; exact hk, hl⟩
theorem ints_of {w : World} {g : Nat} {f : List Int} (h : IsS w g 3 (intsL f)) : Ints w g f := ⟨h.lt, fun j k hk => by rw [h.cell]; exact intsL_get hk⟩
set_option maxRecDepth 100000 in
set_option maxHeartbeats 2000000 in
theorem makes_any (a : Option Addr) (cap : Nat) (ns : List Nd) (hs : ∀ n ∈ ns, n.nm.size ≤ maxLen) (hn : ns.length ≤ 16777216) (w : World) (hT : Nds w a ns) :
    Calls Try.prog 23 #[.slice a ns.length cap] w fun e w' => e = .returned (.bool (treeOf nmB ns).isSome) ∧ Below w.heap.size w w' := by
  by_cases hl : ns.length < 1 ∨ 1024 < ns.length
  · have HV : Hid ((treeOf nmB ns).isSome = false) := (by show _ = _; unfold treeOf; rw [if_pos hl]; rfl)
    by_cases h0 : ns.length = 0
    · rw [h0]
      clear hl hT hs hn
      go_enter Try.func23, Try.ntmps23
      go_wp2_with fail
      go_ret
      exact ⟨ret_bool HV.out.symm, Below.refl _ _⟩
    · have h1 : ((ns.length : Int) == 0) = false := beq_eq_false_iff_ne.2 (by omega)
      have h2 : (1024 : Int) < ns.length := by omega
      clear hl hT hs
      go_enter Try.func23, Try.ntmps23
      go_wp2_with fail
      go_ret
      exact ⟨ret_bool HV.out.symm, Below.refl _ _⟩
  · have h1 : ((ns.length : Int) == 0) = false := beq_eq_false_iff_ne.2 (by omega)
    have h2 : (ns.length : Int) ≤ 1024 := by omega
    have hl1 : 1 ≤ ns.length := by omega
    have HS : Hid (∀ n ∈ ns, n.nm.size ≤ maxLen) := hs
    obtain ⟨V, hV⟩ : ∃ V, (treeOf nmB ns).isSome = V := ⟨_, rfl⟩
    rw [hV]
    have HV : Hid ((treeOf nmB ns).isSome = V) := hV
    have HT : Hid (Nds w a ns) := hT
    clear hl hs hV hT
    go_enter Try.func23, Try.ntmps23
    go_wp2_with (first
      | (refine wpList_makeI rfl _ _ rfl ns.length hn rfl rfl ?_; intro W1 g F1 G1; have B1 := F1.trans (Below.refl _ w) (Nat.le_refl _); have hg : w.heap.size ≤ g := Nat.le_of_eq F1.at'.symm; clear F1))
    go_loopw [4, 5, 6, 7, 21] (fun _ _ _ _ i wr => ∃ (j : Nat) (f : List Int) (st : List Tr), j ≤ ns.length ∧ i = .int .i64 (j : Int) ∧ f.length = ns.length ∧ Hid (upTo nmB ns j = some st) ∧ Hid (Begins f st j) ∧ Hid (Bnd f j) ∧ IsS wr g 3 (intsL f) ∧ Hid (Below w.heap.size w wr)) (fun _ _ _ _ i _ => ns.length - (intOf i).toNat)
    case atStart => exact ⟨0, List.replicate ns.length 0, [], by omega, rfl, by simp, rfl, rfl, fun j hj => absurd hj (Nat.not_lt_zero _), G1, B1⟩
    case round =>
      obtain ⟨j, f, st, hj, rfl, hfl, HU, HBg, HBn, G2, HB⟩ := hrel
      clear G1 B1
      have hwr := HB.out.size
      by_cases hlt : j < ns.length
      · have hi : (j : Int) < ns.length := by omega
        obtain ⟨nd, hg'⟩ : ∃ nd, ns[j]? = some nd := ⟨_, List.getElem?_eq_getElem hlt⟩
        have hgs := HS.out nd (List.mem_of_getElem? hg')
        obtain ⟨b, o, rfl, hb, hrg⟩ := HT.out.below HB.out j nd hg'
        have HST := upTo_succ hg' HU.out
        have HND : Hid (ns[j]? = some nd) := hg'
        clear hg'
        cases hfd : fieldsB nmB nd with
        | false =>
          have HF : Hid (V = false) := (by show V = false; rw [← HV.out, upTo_none (HST.trans (step_fields hfd))]; rfl)
          clear HST HV
          go_wp2_with (first
          | (refine wpList_load_mid rfl 46 _ rfl b _ rfl (ndL nd) _ hrg Try.underlying46 rfl infoNd ?_)
          | (refine wpList_allocS rfl 46 rfl (ndL noNd) Try.zeroValue46 ?_; intro W2 b5 F2 M2; have G3 := G2.fresh F2; have B2 : Hid (Below w.heap.size w W2) := F2.trans HB.out HB.out.size; have hb5 : w.heap.size ≤ b5 := Nat.le_trans hwr (Nat.le_of_eq F2.at'.symm); have hne : g ≠ b5 := (by have := G2.lt; have := F2.at'; omega); clear F2)
          | (refine wpList_storeS rfl 46 _ _ rfl rfl (ndL nd) rfl M2 (by simp [noNd, ndL]) infoNd (nd_one nd) ?_; intro W3 U3 M3x; have M3 : IsS W3 b5 46 (ndL nd) := M3x; have G4 := G3.upd U3 hne; have B3 : Hid (Below w.heap.size w W3) := U3.trans B2.out hb5; clear U3 M3x G3 B2 M2)
          | (refine wpList_loadP rfl 46 _ rfl rfl M3 6 (ndL nd) rfl _ Try.underlying46 rfl infoNd ?_)
          | (go_at_call 32; have cf := fields_any nd hgs W3; rw [hfd] at cf; refine cf.mono ?_; clear cf; rintro e W4 ⟨rfl, B4⟩; have M4 := M3.grown B4; have G5 := G4.grown B4; have B5 : Hid (Below w.heap.size w W4) := B3.out.trans (B4.mono B3.out.size); clear B4 M3 G4))
          go_ret
          exact ⟨ret_bool HF.out.symm, B5.out⟩
        | true =>
          go_wp2_with (first
          | (refine wpList_load_mid rfl 46 _ rfl b _ rfl (ndL nd) _ hrg Try.underlying46 rfl infoNd ?_)
          | (refine wpList_allocS rfl 46 rfl (ndL noNd) Try.zeroValue46 ?_; intro W2 b5 F2 M2; have G3 := G2.fresh F2; have B2 : Hid (Below w.heap.size w W2) := F2.trans HB.out HB.out.size; have hb5 : w.heap.size ≤ b5 := Nat.le_trans hwr (Nat.le_of_eq F2.at'.symm); have hne : g ≠ b5 := (by have := G2.lt; have := F2.at'; omega); clear F2)
          | (refine wpList_storeS rfl 46 _ _ rfl rfl (ndL nd) rfl M2 (by simp [noNd, ndL]) infoNd (nd_one nd) ?_; intro W3 U3 M3x; have M3 : IsS W3 b5 46 (ndL nd) := M3x; have G4 := G3.upd U3 hne; have B3 : Hid (Below w.heap.size w W3) := U3.trans B2.out hb5; clear U3 M3x G3 B2 M2)
          | (refine wpList_loadP rfl 46 _ rfl rfl M3 6 (ndL nd) rfl _ Try.underlying46 rfl infoNd ?_)
          | (go_at_call 32; have cf := fields_any nd hgs W3; rw [hfd] at cf; refine cf.mono ?_; clear cf; rintro e W4 ⟨rfl, B4⟩; have M4 := M3.grown B4; have G5 := G4.grown B4; have B5 : Hid (Below w.heap.size w W4) := B3.out.trans (B4.mono B3.out.size); clear B4 M3 G4))
          obtain ⟨R, hR⟩ : ∃ R, runF f j nd = R := ⟨_, rfl⟩
          have hji : (j : Int) ≤ ns.length := by omega
          have hF5 := ints_of G5
          refine grow_allW (by kernel_rfl) (by kernel_rfl) ?_
          refine WG.put rfl (v := .slice (some ⟨g, 0, none⟩) ns.length ns.length) (fun w => by first | rfl | (go_simp; done) | (simp [go_sem]; done)) ?_
          simp only [Act.put, List.setIfInBounds_toArray, List.set_cons_succ, List.set_cons_zero]
          refine WG.put rfl (v := .int .i64 (j : Int)) (fun w => by first | rfl | (go_simp; done) | (simp [go_sem]; done)) ?_
          simp only [Act.put, List.setIfInBounds_toArray, List.set_cons_succ, List.set_cons_zero]
          refine WG.put rfl (v := .slice (some ⟨g, 0, none⟩) j ns.length) (fun w => by first | rfl | (go_simp; done) | (simp [go_sem, hj, hji]; done)) ?_
          simp only [Act.put, List.setIfInBounds_toArray, List.set_cons_succ, List.set_cons_zero]
          refine WG.row rfl 46 _ rfl rfl M4 (ndL nd) rfl _ Try.underlying46 rfl infoNd ?_
          simp only [Act.put, List.setIfInBounds_toArray, List.set_cons_succ, List.set_cons_zero]
          refine WG.call rfl (f := 33) (args := #[.slice (some ⟨g, 0, none⟩) j ns.length, .agg (ndL nd).toArray]) (v := runV R) (fun w' hB' => by have := run_any nd g ns.length j (by omega) f HBn.out w' (hF5.below hB'); rw [hR] at this; exact this) (fun w => by first | rfl | (go_simp; done) | (simp [go_sem]; done)) ?_
          simp only [Act.put, List.setIfInBounds_toArray, List.set_cons_succ, List.set_cons_zero]
          rcases R with _ | k
          · have HF : Hid (V = false) := (by show V = false; rw [← HV.out, upTo_none (HST.trans (step_run_none HBg.out hR))]; rfl)
            clear HST HV
            dsimp only [runV]
            refine WG.put rfl (v := .tuple #[.int .i64 0, .bool false]) (fun w => by first | rfl | (go_simp; done) | (simp [go_sem]; done)) ?_
            simp only [Act.put, List.setIfInBounds_toArray, List.set_cons_succ, List.set_cons_zero]
            refine WG.put rfl (v := .int .i64 0) (fun w => by first | rfl | (go_simp; done) | (simp [go_sem]; done)) ?_
            simp only [Act.put, List.setIfInBounds_toArray, List.set_cons_succ, List.set_cons_zero]
            refine WG.put rfl (v := .bool false) (fun w => by first | rfl | (go_simp; done) | (simp [go_sem]; done)) ?_
            simp only [Act.put, List.setIfInBounds_toArray, List.set_cons_succ, List.set_cons_zero]
            refine WG.put rfl (v := .int .i64 0) (fun w => by first | rfl | (go_simp; done) | (simp [go_sem]; done)) ?_
            simp only [Act.put, List.setIfInBounds_toArray, List.set_cons_succ, List.set_cons_zero]
            refine WG.put rfl (v := .bool false) (fun w => by first | rfl | (go_simp; done) | (simp [go_sem]; done)) ?_
            simp only [Act.put, List.setIfInBounds_toArray, List.set_cons_succ, List.set_cons_zero]
            refine WG.nil ?_
            intro W6 B6
            have G6 := G5.grown B6
            have B7 : Hid (Below w.heap.size w W6) := B5.out.trans (B6.mono B5.out.size)
            clear B6 G5 B5 hF5 M4
            go_wp2_with fail
            go_ret
            exact ⟨ret_bool HF.out.symm, B7.out⟩
          · obtain ⟨q, rfl, hq⟩ := run_bnd HBn.out hR
            obtain ⟨st', hst, HBg'⟩ := step_run_some HBg.out (by omega) hfd hR
            have HU' : Hid (upTo nmB ns (j + 1) = some st') := HST.trans hst
            have HB2 : Hid (Begins (f.set j (q : Int)) st' (j + 1)) := HBg'
            have HB3 : Hid (Bnd (f.set j (q : Int)) (j + 1)) := HBn.out.set (by omega) hq
            clear HST hst HBg'
            dsimp only [runV]
            refine WG.put rfl (v := .tuple #[.int .i64 (q : Int), .bool true]) (fun w => by first | rfl | (go_simp; done) | (simp [go_sem]; done)) ?_
            simp only [Act.put, List.setIfInBounds_toArray, List.set_cons_succ, List.set_cons_zero]
            refine WG.put rfl (v := .int .i64 (q : Int)) (fun w => by first | rfl | (go_simp; done) | (simp [go_sem]; done)) ?_
            simp only [Act.put, List.setIfInBounds_toArray, List.set_cons_succ, List.set_cons_zero]
            refine WG.put rfl (v := .bool true) (fun w => by first | rfl | (go_simp; done) | (simp [go_sem]; done)) ?_
            simp only [Act.put, List.setIfInBounds_toArray, List.set_cons_succ, List.set_cons_zero]
            refine WG.put rfl (v := .int .i64 (q : Int)) (fun w => by first | rfl | (go_simp; done) | (simp [go_sem]; done)) ?_
            simp only [Act.put, List.setIfInBounds_toArray, List.set_cons_succ, List.set_cons_zero]
            refine WG.put rfl (v := .bool true) (fun w => by first | rfl | (go_simp; done) | (simp [go_sem]; done)) ?_
            simp only [Act.put, List.setIfInBounds_toArray, List.set_cons_succ, List.set_cons_zero]
            refine WG.nil ?_
            intro W6 B6
            have G6 := G5.grown B6
            have B7 : Hid (Below w.heap.size w W6) := B5.out.trans (B6.mono B5.out.size)
            clear B6 G5 B5 hF5 M4
            have hlen : j < (intsL f).length := by rw [intsL_len]; omega
            clear hR
            go_wp2_with (first
              | (refine wpList_store1 rfl 3 _ _ rfl rfl (.int .i64 (q : Int)) rfl G6 hlen info3 rfl ?_; intro W7 U7 G7; rw [intsL_set] at G7; have B8 : Hid (Below w.heap.size w W7) := U7.trans B7.out hg; clear U7 G6 B7))
            go_roundw
            case rel => exact ⟨j + 1, f.set j (q : Int), st', by omega, by go_num, by simpa using hfl, HU', HB2, HB3, G7, B8⟩
            case measure => simp [intOf]; omega
      · have hjn : j = ns.length := by omega
        subst hjn
        have hi : ¬ ((ns.length : Int) < ns.length) := by omega
        obtain ⟨k, hk, _⟩ := HBn.out (ns.length - 1) (by omega)
        have ck : wr.cell? ⟨g, ns.length - 1, none⟩ = some (.int .i64 (k : Int)) := (ints_of G2).2 _ _ hk
        have HE : Hid (V = ((k : Int) == 0)) := (by
          show V = _
          rw [← HV.out, treeOf_end hl1 (by omega) HU.out, Bool.eq_iff_iff]
          have := HBg.out.one hl1 hk
          simp [this])
        clear HV HU HBg HBn HT HS hk hi hlt hfl
        generalize ns.length = L at *
        obtain ⟨z, rfl⟩ : ∃ z, L = z + 1 := ⟨L - 1, by omega⟩
        have ck' : wr.cell? ⟨g, z, none⟩ = some (.int .i64 (k : Int)) := ck
        clear ck h1
        go_wp2_with fail
        go_ret
        exact ⟨ret_bool HE.out.symm, HB.out⟩
end Go.Proofs.Ytcmkoffamolgmaa
