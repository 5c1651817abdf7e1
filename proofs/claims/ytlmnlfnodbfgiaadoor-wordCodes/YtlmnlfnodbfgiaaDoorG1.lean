/- WordCodes: the law's walk. -/
import Derived.Test.YtlmnlfnodbfgiaaDoorF3
import Derived.Test.YtlmnlfnodbfgiaaDoorZ8
namespace Go.Proofs.YtlmnlfnodbfgiaaDoor
open Go.RowKit M
set_option linter.unusedSimpArgs false
set_option linter.unusedVariables false

/-- A slice's numbers, where they lie. -/
def Nums (w : World) (a : Option Addr) (zs : List Int) : Prop := ∀ j, j < zs.length → ∃ b off, a = some ⟨b, off, none⟩ ∧ w.cell? ⟨b, off + j, none⟩ = some (.int .i64 (zs.getD j 0))
theorem Nums.below {w w' : World} {a : Option Addr} {zs : List Int} (h : Nums w a zs) (hb : Below w.heap.size w w') : Nums w' a zs := fun j hj => by
  obtain ⟨b, off, rfl, hc⟩ := h j hj
  exact ⟨b, off, rfl, (hb.cell (p := ⟨b, off + j, none⟩) (World.block_lt_of_cell? w _ hc)).trans hc⟩

/-- Codes, one behind the other. -/
def flat (zs : List Int) : List UInt8 := zs.flatMap putL
theorem flat_snoc (zs : List Int) (k : Nat) (h : k < zs.length) : flat (zs.take (k + 1)) = flat (zs.take k) ++ putL (zs.getD k 0) := by
  unfold flat
  rw [List.take_succ_eq_append_getElem h, List.flatMap_append, List.getD_eq_getElem?_getD, List.getElem?_eq_getElem h]; simp
theorem flat_len (zs : List Int) (hz : ∀ z ∈ zs, -9223372036854775808 ≤ z ∧ z ≤ 9223372036854775807) : (flat zs).length ≤ 10 * zs.length := by
  induction zs with
  | nil => simp [flat]
  | cons z r ih =>
      have h1 := putL_len (hz z (by simp)).1 (hz z (by simp)).2
      have h2 := ih (fun y hy => hz y (by simp [hy]))
      unfold flat at h2 ⊢
      rw [List.flatMap_cons, List.length_append, List.length_cons]; omega
theorem flat_split (zs : List Int) (k : Nat) (h : k < zs.length) : flat zs = flat (zs.take k) ++ (putL (zs.getD k 0) ++ flat (zs.drop (k + 1))) := by
  unfold flat
  have e : zs = zs.take k ++ (zs[k] :: zs.drop (k + 1)) := by rw [← List.drop_eq_getElem_cons h, List.take_append_drop]
  have hg : zs.getD k 0 = zs[k] := by rw [List.getD_eq_getElem?_getD, List.getElem?_eq_getElem h]; rfl
  rw [hg, ← List.flatMap_cons, ← List.flatMap_append, ← e]
theorem takeA_put {l r : List UInt8} {v : Int} (h0 : -9223372036854775808 ≤ v) (h1 : v ≤ 9223372036854775807) : takeA ⟨(l ++ (putL v ++ r)).toArray⟩ (l.length : Int) = some (v, (putL v).length) := by
  unfold takeA
  have hp := (putL_len h0 h1).1
  rw [if_neg (by rw [size_mk]; rw [List.length_append, List.length_append]; omega)]
  show takeO (((l ++ (putL v ++ r))).drop ((l.length : Int)).toNat) = _
  rw [Int.toNat_natCast, List.drop_left]
  exact takeO_put h0 h1 r

theorem takeA_some {s : ByteArray} {at' : Int} {v : Int} {n : Nat} (h : takeA s at' = some (v, n)) :
    ∃ a : Nat, at' = (a : Int) ∧ a < s.size ∧ 1 ≤ n ∧ n ≤ s.size - a ∧ (-9223372036854775808 ≤ v ∧ v ≤ 9223372036854775807) ∧ ((ByteArray.mk (putL v).toArray).toList == (s.extract a (a + n)).toList) = true := by
  unfold takeA at h
  by_cases hc : at' < 0 ∨ (s.size : Int) ≤ at'
  · rw [if_pos hc] at h; cases h
  · rw [if_neg hc] at h
    obtain ⟨hv, hn, r, hr⟩ := put_takeO h
    have hl := sizeL s
    have hp := (putL_len hv.1 hv.2).1
    have hlen := congrArg List.length hr
    rw [List.length_drop, List.length_append, ← hl] at hlen
    refine ⟨at'.toNat, by omega, by omega, by omega, by omega, hv, ?_⟩
    rw [beq_iff_eq, toL, toL, exL]
    show putL v = _
    rw [List.drop_take, hr, show at'.toNat + n - at'.toNat = (putL v).length by omega, List.take_left]

set_option maxRecDepth 100000 in
set_option maxHeartbeats 4000000 in
theorem codes_any (a : Option Addr) (cap len : Nat) (zs : List Int) (hlen : zs.length = len) (hlm : len ≤ 9223372036854775807) (hz : ∀ z ∈ zs, -9223372036854775808 ≤ z ∧ z ≤ 9223372036854775807)
    (s : ByteArray) (hs : s.size ≤ 140737488355328) (at' : Int) (w : World) (hT : Tabs w) (hN : Nums w a zs) :
    Calls Tryd.prog 6 #[.slice a len cap, .string s, .int .i64 at'] w fun e w' => e = .returned (.bool true) ∧ Below w.heap.size w w' := by
  have hW := works_any w hT
  have hTs := fun W => take_any s at' (by unfold maxLen; omega) W
  have HN : Hid (Nums w a zs) := hN
  have HZ : Hid (∀ z ∈ zs, -9223372036854775808 ≤ z ∧ z ≤ 9223372036854775807) := hz
  have HLE : Hid (zs.length = len) := hlen
  clear hN hz hlen
  go_enter Tryd.func6, Tryd.ntmps6
  go_wp2_with (go_at_call 13; refine hW.mono ?_; rintro e w1 ⟨rfl, B1⟩; clear hW)
  go_loopw [7, 8] (fun al i wr => ∃ k : Nat, k ≤ len ∧ k ≤ 1000 ∧ i = .int .i64 (k : Int) ∧ al = .string ⟨(flat (zs.take k)).toArray⟩ ∧ Below w.heap.size w wr) (fun _ i _ => 1000 - (intOf i).toNat)
  case atStart => exact ⟨0, by omega, by omega, rfl, rfl, B1⟩
  case round =>
    obtain ⟨k, hk, hk1, rfl, rfl, B2⟩ := hrel
    by_cases hlt : k < len ∧ k < 1000
    · obtain ⟨hkl, hkt⟩ := hlt
      have hkz : k < zs.length := by rw [HLE.out]; exact hkl
      obtain ⟨b, off, rfl, hc⟩ := (HN.out.below B2) k hkz
      have hzk := HZ.out (zs.getD k 0) (by rw [List.getD_eq_getElem?_getD, List.getElem?_eq_getElem hkz]; exact List.getElem_mem hkz)
      have hP := fun W => put_any (zs.getD k 0) hzk.1 hzk.2 W
      have hpl := putL_len hzk.1 hzk.2
      have hfl := flat_len (zs.take k) (fun z hm => HZ.out z (List.mem_of_mem_take hm))
      have hfs := flat_snoc zs k hkz
      have htk : (zs.take k).length ≤ k := List.length_take_le _ _
      obtain ⟨z, hze⟩ : ∃ z, zs.getD k 0 = z := ⟨_, rfl⟩
      obtain ⟨F, hF⟩ : ∃ F, flat (zs.take k) = F := ⟨_, rfl⟩
      obtain ⟨F', hF'⟩ : ∃ F', flat (zs.take (k + 1)) = F' := ⟨_, rfl⟩
      rw [hze] at hc hP hfs hpl
      rw [hF] at hfl hfs ⊢
      rw [hF'] at hfs
      have hadd : ∀ W, (Op.stringOp .add ⟨F.toArray⟩ ⟨(putL z).toArray⟩).run Tryd.prog W = .ok (.string ⟨F'.toArray⟩) W := fun W => by
        rw [run_string_add_sum W _ _ (by rw [size_mk, size_mk]; omega), add_mk, ← hfs]
      have HF' : Hid (flat (zs.take (k + 1)) = F') := hF'
      clear hze hF hF' hfs hfl htk hpl hzk
      go_wp2_with (go_at_call 18; refine (hP _).mono ?_; rintro e w3 ⟨rfl, B3⟩)
      go_roundw
      case rel => exact ⟨k + 1, by omega, by omega, by go_num, by rw [HF'.out], B2.trans (B3.mono B2.size)⟩
      case measure => simp [intOf]; omega
    · have hkn : k = min len 1000 := by omega
      have hlts : ¬ (k < len ∧ k < 1000) := hlt
      obtain ⟨Z, hZ⟩ : ∃ Z, zs.take k = Z := ⟨_, rfl⟩
      have HZl : Hid (Z.length = k) := by show Z.length = k; rw [← hZ, List.length_take, HLE.out]; omega
      have HZb : Hid (∀ z ∈ Z, -9223372036854775808 ≤ z ∧ z ≤ 9223372036854775807) := fun z hm => HZ.out z (by rw [← hZ] at hm; exact List.mem_of_mem_take hm)
      have HZg : Hid (∀ j, j < k → zs.getD j 0 = Z.getD j 0) := fun j hj => by
        rw [← hZ, List.getD_eq_getElem?_getD, List.getD_eq_getElem?_getD, List.getElem?_take_of_lt hj]
      have hfl := flat_len Z HZb.out
      rw [HZl.out] at hfl
      obtain ⟨F, hF⟩ : ∃ F, flat Z = F := ⟨_, rfl⟩
      rw [hZ, hF]
      have HFe : Hid (flat Z = F) := hF
      rw [hF] at hfl
      obtain ⟨S, hS⟩ : ∃ S, s.data.toList = S := ⟨_, rfl⟩
      have hsS : s = ⟨S.toArray⟩ := by rw [← hS]
      have hSl : S.length = s.size := by rw [← hS]; exact (sizeL s).symm
      have hadd : ∀ W, (Op.stringOp .add ⟨F.toArray⟩ s).run Tryd.prog W = .ok (.string ⟨(F ++ S).toArray⟩) W := fun W => by
        rw [hsS, run_string_add_sum W _ _ (by rw [size_mk, size_mk]; omega), add_mk]
      have hFsz : (ByteArray.mk F.toArray).size = F.length := size_mk F
      clear hZ hF hsS hkn hlt
      have hex : ((k : Int) < len ∧ ¬ (k : Int) < 1000) ∨ ¬ (k : Int) < len := by omega
      have HSl : Hid (S.length = s.size) := hSl
      clear hSl hS
      rcases hex with ⟨hx1, hx2⟩ | hx1
      all_goals
        go_wp2
        go_loopw [9, 10] (fun fr i wr => ∃ j : Nat, j ≤ k ∧ i = .int .i64 (j : Int) ∧ fr = .int .i64 ((flat (Z.take j)).length : Int) ∧ Below w.heap.size w wr) (fun _ i _ => 1000 - (intOf i).toNat)
        case atStart => exact ⟨0, by omega, rfl, rfl, B2⟩
        case round =>
          obtain ⟨j, hj, rfl, rfl, B3⟩ := hrel
          by_cases hjk : j < k
          · have hjl : (j : Int) < len := by omega
            have hjt : (j : Int) < 1000 := by omega
            have hjz : j < zs.length := by rw [HLE.out]; omega
            have hjZ : j < Z.length := by rw [HZl.out]; exact hjk
            obtain ⟨b, off, rfl, hc⟩ := (HN.out.below B3) j hjz
            rw [HZg.out j hjk] at hc
            have hzk := HZb.out (Z.getD j 0) (by rw [List.getD_eq_getElem?_getD, List.getElem?_eq_getElem hjZ]; exact List.getElem_mem hjZ)
            have hpl := putL_len hzk.1 hzk.2
            have hsp := flat_split Z j hjZ
            have hfs := flat_snoc Z j hjZ
            have htk := takeA_put (l := flat (Z.take j)) (r := flat (Z.drop (j + 1)) ++ S) hzk.1 hzk.2
            rw [HFe.out] at hsp
            rw [← List.append_assoc (putL (Z.getD j 0)), ← List.append_assoc, ← hsp] at htk
            obtain ⟨z, hze⟩ : ∃ z, Z.getD j 0 = z := ⟨_, rfl⟩
            rw [hze] at hc hpl hfs htk
            obtain ⟨m, hm⟩ : ∃ m, (flat (Z.take j)).length = m := ⟨_, rfl⟩
            obtain ⟨q, hq⟩ : ∃ q, (putL z).length = q := ⟨_, rfl⟩
            have hmq : (flat (Z.take (j + 1))).length = m + q := by rw [hfs, List.length_append, hm, hq]
            have hTk := fun W => take_any ⟨(F ++ S).toArray⟩ (m : Int) (by rw [size_mk, List.length_append]; unfold maxLen; have := HSl.out; omega) W
            rw [hm, hq] at htk
            rw [htk] at hTk
            have hTk' : ∀ W, Calls Tryd.prog 19 #[.string ⟨(F ++ S).toArray⟩, .int .i64 (m : Int)] W fun e w' => e = .returned (.tuple #[.int .i64 z, .int .i64 (q : Int), .int .i64 0]) ∧ w' = W := hTk
            have hml : m ≤ F.length := by rw [hsp, List.length_append, hm]; omega
            rw [hq] at hpl
            rw [hm]
            have HMQ : Hid ((flat (Z.take (j + 1))).length = m + q) := hmq
            clear hzk hsp hfs htk hze hm hq hmq hTk
            go_wp2_with (first
              | (go_at_call 19; refine (hTk' _).mono ?_; rintro e w' ⟨rfl, hw'⟩; replace hw' := hw'.symm; subst hw')
              | (go_at_call 17; refine (num_any _ _).mono ?_; rintro e w' ⟨rfl, hw'⟩; replace hw' := hw'.symm; subst hw'))
            go_roundw
            case rel => exact ⟨j + 1, by omega, by go_num, by rw [HMQ.out]; go_num, B3⟩
            case measure => simp [intOf]; omega
          · have hje : j = k := by omega
            subst hje
            have hfe : (flat (Z.take j)).length = F.length := by rw [List.take_of_length_le (by rw [HZl.out]; omega), HFe.out]
            rw [hfe]
            clear hfe
            cases ho : takeA s at' with
            | none =>
                rw [ho] at hTs
                have hTs' : ∀ W, Calls Tryd.prog 19 #[.string s, .int .i64 at'] W fun e w' => e = .returned (.tuple #[.int .i64 0, .int .i64 0, .int .i64 40]) ∧ w' = W := hTs
                clear hTs ho
                go_wp2_with (first
                  | (go_at_call 19; refine (hTs' _).mono ?_; rintro e w' ⟨rfl, hw'⟩; replace hw' := hw'.symm; subst hw')
                  | (go_at_call 17; refine (num_any _ _).mono ?_; rintro e w' ⟨rfl, hw'⟩; replace hw' := hw'.symm; subst hw'))
                go_ret
                exact ⟨rfl, B3⟩
            | some p =>
                obtain ⟨v, n⟩ := p
                rw [ho] at hTs
                have hTs' : ∀ W, Calls Tryd.prog 19 #[.string s, .int .i64 at'] W fun e w' => e = .returned (.tuple #[.int .i64 v, .int .i64 (n : Int), .int .i64 0]) ∧ w' = W := hTs
                obtain ⟨a0, hae, ha0, hn1, hna, hvb, heq⟩ := takeA_some ho
                subst hae
                have hP := fun W => put_any v hvb.1 hvb.2 W
                have hx0 : (0 : Int) ≤ (a0 : Int) := by omega
                have hxn : (1 : Int) ≤ (n : Int) := by omega
                have hxa : (a0 : Int) < s.size := by omega
                have hxs : (n : Int) ≤ (s.size : Int) - (a0 : Int) := by omega
                have heq' : putL v = (s.extract a0 (a0 + n)).toList := by
                  rw [beq_iff_eq, toL] at heq; exact heq
                have hw1 : IntKind.i64.wrap ((s.size : Int) - (a0 : Int)) = (s.size : Int) - (a0 : Int) := by rw [IntKind.wrap_i64]; omega
                have hw2 : IntKind.i64.wrap ((a0 : Int) + (n : Int)) = (a0 : Int) + (n : Int) := by rw [IntKind.wrap_i64]; omega
                have hc1 : 0 ≤ (a0 : Int) + (n : Int) := by omega
                have hc2 : (a0 : Int) + (n : Int) ≤ (s.size : Int) := by omega
                have hc3 : (a0 : Int) ≤ (a0 : Int) + (n : Int) := by omega
                have hc4 : ((a0 : Int) + (n : Int)).toNat = a0 + n := by omega
                have HX : Hid (putL v = (s.extract a0 (a0 + n)).toList ∧ ((a0 : Int) + (n : Int)).toNat = a0 + n ∧ IntKind.i64.wrap ((s.size : Int) - (a0 : Int)) = (s.size : Int) - (a0 : Int) ∧ IntKind.i64.wrap ((a0 : Int) + (n : Int)) = (a0 : Int) + (n : Int)) := ⟨heq', hc4, hw1, hw2⟩
                clear hTs ho hvb heq heq' hc4 hw1 hw2
                go_wp2_with (first
                  | (go_at_call 19; refine (hTs' _).mono ?_; rintro e w' ⟨rfl, hw'⟩; replace hw' := hw'.symm; subst hw')
                  | (go_at_call 17; refine (num_any _ _).mono ?_; rintro e w' ⟨rfl, hw'⟩; replace hw' := hw'.symm; subst hw'))
                obtain ⟨heq', hc4, hw1, hw2⟩ := HX.out
                refine grow_all (by kernel_rfl) (by kernel_rfl) ?_
                refine wpG_put rfl (v := .int .i64 (a0 : Int)) (fun w => by first | rfl | (go_simp; done) | (simp [execOp, go_sem, hx0, hxn, hxa, hxs, heq', hw1, hw2, hc1, hc2, hc3, hc4]; done)) ?_
                try simp only [Act.put, List.setIfInBounds_toArray, List.set_cons_succ, List.set_cons_zero]
                refine wpG_put rfl (v := .bool true) (fun w => by first | rfl | (go_simp; done) | (simp [execOp, go_sem, hx0, hxn, hxa, hxs, heq', hw1, hw2, hc1, hc2, hc3, hc4]; done)) ?_
                try simp only [Act.put, List.setIfInBounds_toArray, List.set_cons_succ, List.set_cons_zero]
                refine wpG_put rfl (v := .bool true) (fun w => by first | rfl | (go_simp; done) | (simp [execOp, go_sem, hx0, hxn, hxa, hxs, heq', hw1, hw2, hc1, hc2, hc3, hc4]; done)) ?_
                try simp only [Act.put, List.setIfInBounds_toArray, List.set_cons_succ, List.set_cons_zero]
                refine wpG_put rfl (v := .int .i64 (n : Int)) (fun w => by first | rfl | (go_simp; done) | (simp [execOp, go_sem, hx0, hxn, hxa, hxs, heq', hw1, hw2, hc1, hc2, hc3, hc4]; done)) ?_
                try simp only [Act.put, List.setIfInBounds_toArray, List.set_cons_succ, List.set_cons_zero]
                refine wpG_put rfl (v := .bool true) (fun w => by first | rfl | (go_simp; done) | (simp [execOp, go_sem, hx0, hxn, hxa, hxs, heq', hw1, hw2, hc1, hc2, hc3, hc4]; done)) ?_
                try simp only [Act.put, List.setIfInBounds_toArray, List.set_cons_succ, List.set_cons_zero]
                refine wpG_put rfl (v := .bool true) (fun w => by first | rfl | (go_simp; done) | (simp [execOp, go_sem, hx0, hxn, hxa, hxs, heq', hw1, hw2, hc1, hc2, hc3, hc4]; done)) ?_
                try simp only [Act.put, List.setIfInBounds_toArray, List.set_cons_succ, List.set_cons_zero]
                refine wpG_put rfl (v := .bool true) (fun w => by first | rfl | (go_simp; done) | (simp [execOp, go_sem, hx0, hxn, hxa, hxs, heq', hw1, hw2, hc1, hc2, hc3, hc4]; done)) ?_
                try simp only [Act.put, List.setIfInBounds_toArray, List.set_cons_succ, List.set_cons_zero]
                refine wpG_put rfl (v := .int .i64 (a0 : Int)) (fun w => by first | rfl | (go_simp; done) | (simp [execOp, go_sem, hx0, hxn, hxa, hxs, heq', hw1, hw2, hc1, hc2, hc3, hc4]; done)) ?_
                try simp only [Act.put, List.setIfInBounds_toArray, List.set_cons_succ, List.set_cons_zero]
                refine wpG_put rfl (v := .string s) (fun w => by first | rfl | (go_simp; done) | (simp [execOp, go_sem, hx0, hxn, hxa, hxs, heq', hw1, hw2, hc1, hc2, hc3, hc4]; done)) ?_
                try simp only [Act.put, List.setIfInBounds_toArray, List.set_cons_succ, List.set_cons_zero]
                refine wpG_put rfl (v := .int .i64 (s.size : Int)) (fun w => by first | rfl | (go_simp; done) | (simp [execOp, go_sem, hx0, hxn, hxa, hxs, heq', hw1, hw2, hc1, hc2, hc3, hc4]; done)) ?_
                try simp only [Act.put, List.setIfInBounds_toArray, List.set_cons_succ, List.set_cons_zero]
                refine wpG_put rfl (v := .bool true) (fun w => by first | rfl | (go_simp; done) | (simp [execOp, go_sem, hx0, hxn, hxa, hxs, heq', hw1, hw2, hc1, hc2, hc3, hc4]; done)) ?_
                try simp only [Act.put, List.setIfInBounds_toArray, List.set_cons_succ, List.set_cons_zero]
                refine wpG_put rfl (v := .bool true) (fun w => by first | rfl | (go_simp; done) | (simp [execOp, go_sem, hx0, hxn, hxa, hxs, heq', hw1, hw2, hc1, hc2, hc3, hc4]; done)) ?_
                try simp only [Act.put, List.setIfInBounds_toArray, List.set_cons_succ, List.set_cons_zero]
                refine wpG_put rfl (v := .bool true) (fun w => by first | rfl | (go_simp; done) | (simp [execOp, go_sem, hx0, hxn, hxa, hxs, heq', hw1, hw2, hc1, hc2, hc3, hc4]; done)) ?_
                try simp only [Act.put, List.setIfInBounds_toArray, List.set_cons_succ, List.set_cons_zero]
                refine wpG_put rfl (v := .int .i64 (n : Int)) (fun w => by first | rfl | (go_simp; done) | (simp [execOp, go_sem, hx0, hxn, hxa, hxs, heq', hw1, hw2, hc1, hc2, hc3, hc4]; done)) ?_
                try simp only [Act.put, List.setIfInBounds_toArray, List.set_cons_succ, List.set_cons_zero]
                refine wpG_put rfl (v := .string s) (fun w => by first | rfl | (go_simp; done) | (simp [execOp, go_sem, hx0, hxn, hxa, hxs, heq', hw1, hw2, hc1, hc2, hc3, hc4]; done)) ?_
                try simp only [Act.put, List.setIfInBounds_toArray, List.set_cons_succ, List.set_cons_zero]
                refine wpG_put rfl (v := .int .i64 (s.size : Int)) (fun w => by first | rfl | (go_simp; done) | (simp [execOp, go_sem, hx0, hxn, hxa, hxs, heq', hw1, hw2, hc1, hc2, hc3, hc4]; done)) ?_
                try simp only [Act.put, List.setIfInBounds_toArray, List.set_cons_succ, List.set_cons_zero]
                refine wpG_put rfl (v := .int .i64 (a0 : Int)) (fun w => by first | rfl | (go_simp; done) | (simp [execOp, go_sem, hx0, hxn, hxa, hxs, heq', hw1, hw2, hc1, hc2, hc3, hc4]; done)) ?_
                try simp only [Act.put, List.setIfInBounds_toArray, List.set_cons_succ, List.set_cons_zero]
                refine wpG_put rfl (v := .int .i64 ((s.size : Int) - (a0 : Int))) (fun w => by first | rfl | (go_simp; done) | (simp [execOp, go_sem, hx0, hxn, hxa, hxs, heq', hw1, hw2, hc1, hc2, hc3, hc4]; done)) ?_
                try simp only [Act.put, List.setIfInBounds_toArray, List.set_cons_succ, List.set_cons_zero]
                refine wpG_put rfl (v := .bool true) (fun w => by first | rfl | (go_simp; done) | (simp [execOp, go_sem, hx0, hxn, hxa, hxs, heq', hw1, hw2, hc1, hc2, hc3, hc4]; done)) ?_
                try simp only [Act.put, List.setIfInBounds_toArray, List.set_cons_succ, List.set_cons_zero]
                refine wpG_put rfl (v := .bool true) (fun w => by first | rfl | (go_simp; done) | (simp [execOp, go_sem, hx0, hxn, hxa, hxs, heq', hw1, hw2, hc1, hc2, hc3, hc4]; done)) ?_
                try simp only [Act.put, List.setIfInBounds_toArray, List.set_cons_succ, List.set_cons_zero]
                refine wpG_put rfl (v := .bool true) (fun w => by first | rfl | (go_simp; done) | (simp [execOp, go_sem, hx0, hxn, hxa, hxs, heq', hw1, hw2, hc1, hc2, hc3, hc4]; done)) ?_
                try simp only [Act.put, List.setIfInBounds_toArray, List.set_cons_succ, List.set_cons_zero]
                refine wpG_put rfl (v := .int .i64 v) (fun w => by first | rfl | (go_simp; done) | (simp [execOp, go_sem, hx0, hxn, hxa, hxs, heq', hw1, hw2, hc1, hc2, hc3, hc4]; done)) ?_
                try simp only [Act.put, List.setIfInBounds_toArray, List.set_cons_succ, List.set_cons_zero]
                refine wpG_call rfl (fun W _ => hP W) (fun w => by first | rfl | (go_simp; done)) ?_
                try simp only [Act.put, List.setIfInBounds_toArray, List.set_cons_succ, List.set_cons_zero]
                refine wpG_put rfl (v := .string s) (fun w => by first | rfl | (go_simp; done) | (simp [execOp, go_sem, hx0, hxn, hxa, hxs, heq', hw1, hw2, hc1, hc2, hc3, hc4]; done)) ?_
                try simp only [Act.put, List.setIfInBounds_toArray, List.set_cons_succ, List.set_cons_zero]
                refine wpG_put rfl (v := .int .i64 (a0 : Int)) (fun w => by first | rfl | (go_simp; done) | (simp [execOp, go_sem, hx0, hxn, hxa, hxs, heq', hw1, hw2, hc1, hc2, hc3, hc4]; done)) ?_
                try simp only [Act.put, List.setIfInBounds_toArray, List.set_cons_succ, List.set_cons_zero]
                refine wpG_put rfl (v := .int .i64 (a0 : Int)) (fun w => by first | rfl | (go_simp; done) | (simp [execOp, go_sem, hx0, hxn, hxa, hxs, heq', hw1, hw2, hc1, hc2, hc3, hc4]; done)) ?_
                try simp only [Act.put, List.setIfInBounds_toArray, List.set_cons_succ, List.set_cons_zero]
                refine wpG_put rfl (v := .int .i64 (n : Int)) (fun w => by first | rfl | (go_simp; done) | (simp [execOp, go_sem, hx0, hxn, hxa, hxs, heq', hw1, hw2, hc1, hc2, hc3, hc4]; done)) ?_
                try simp only [Act.put, List.setIfInBounds_toArray, List.set_cons_succ, List.set_cons_zero]
                refine wpG_put rfl (v := .int .i64 ((a0 : Int) + (n : Int))) (fun w => by first | rfl | (go_simp; done) | (simp [execOp, go_sem, hx0, hxn, hxa, hxs, heq', hw1, hw2, hc1, hc2, hc3, hc4]; done)) ?_
                try simp only [Act.put, List.setIfInBounds_toArray, List.set_cons_succ, List.set_cons_zero]
                refine wpG_put rfl (v := .string (s.extract a0 (a0 + n))) (fun w => by first | rfl | (go_simp; done) | (simp [execOp, go_sem, hx0, hxn, hxa, hxs, heq', hw1, hw2, hc1, hc2, hc3, hc4]; done)) ?_
                try simp only [Act.put, List.setIfInBounds_toArray, List.set_cons_succ, List.set_cons_zero]
                refine wpG_put rfl (v := .bool true) (fun w => by first | rfl | (go_simp; done) | (simp [execOp, go_sem, hx0, hxn, hxa, hxs, heq', hw1, hw2, hc1, hc2, hc3, hc4]; done)) ?_
                try simp only [Act.put, List.setIfInBounds_toArray, List.set_cons_succ, List.set_cons_zero]
                refine wpG_put rfl (v := .bool true) (fun w => by first | rfl | (go_simp; done) | (simp [execOp, go_sem, hx0, hxn, hxa, hxs, heq', hw1, hw2, hc1, hc2, hc3, hc4]; done)) ?_
                try simp only [Act.put, List.setIfInBounds_toArray, List.set_cons_succ, List.set_cons_zero]
                refine wpG_put rfl (v := .bool true) (fun w => by first | rfl | (go_simp; done) | (simp [execOp, go_sem, hx0, hxn, hxa, hxs, heq', hw1, hw2, hc1, hc2, hc3, hc4]; done)) ?_
                try simp only [Act.put, List.setIfInBounds_toArray, List.set_cons_succ, List.set_cons_zero]
                refine wpG_nil ?_
                intro w5 B5
                go_wp2
                go_ret
                exact ⟨rfl, B3.trans (B5.mono B3.size)⟩
end Go.Proofs.YtlmnlfnodbfgiaaDoor
