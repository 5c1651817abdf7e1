/- Decode of the program and of the reference. -/
import Derived.Test.YtbhgchhoeokjhabDoorCE
namespace Go.Proofs.YtbhgchhoeokjhabDoor
open Go.RowKit M
set_option linter.unusedSimpArgs false
set_option linter.unusedVariables false

theorem ret_ST {w : World} {b t k : Nat} {cs : List Value} {fn : Func} {p : Tmp} {R : Ending → World → Prop} {a : Act} (h : fn.results = #[.cell p t, .tmp k]) (hp : a.tmps.getD p undef = .pointer (some ⟨b, 0, none⟩))
    (hd : a.defers = []) (hc : IsS w b t cs) (d : TypeDesc) (hu : Tryd.prog.underlying t = some d) (hr : (match d with | .struct _ => true | .array _ _ => true | _ => false) = true) (hi : (Tryd.prog.info? t).map (·.size) = some cs.length) (v : Value) (hv : a.tmps.getD k undef = v) (hR : R (.returned (.tuple #[.agg cs.toArray, v])) w) : bodyPost Tryd.prog fn R .ret a w := by
  have hc' : w.heap[b]? = some (.cells cs.toArray t (0, 0)) := hc
  have hp' : a.tmps[p]?.getD undef = .pointer (some ⟨b, 0, none⟩) := by simpa using hp
  have hv' : a.tmps[k]?.getD undef = v := by simpa using hv
  refine ⟨hd, .tuple #[.agg cs.toArray, v], ?_, hR⟩
  simp [results, h, hp', hv', asAddr, run_loadVar_row w b t t cs.toArray (0, 0) d hc' hu (by cases d <;> simp_all) (by simpa using hi)]
theorem putL_get : ∀ (vs cs : List Value) (o j : Nat), o + vs.length ≤ cs.length → (putL cs o vs)[j]? = if o ≤ j ∧ j < o + vs.length then vs[j - o]? else cs[j]?
  | [], cs, o, j, h => by rw [if_neg (by simp only [List.length_nil]; omega)]; rfl
  | v :: vs, cs, o, j, h => by
    show (putL (cs.set o v) (o + 1) vs)[j]? = _
    simp only [List.length_cons] at *
    rw [putL_get vs (cs.set o v) (o + 1) j (by rw [List.length_set]; omega)]
    by_cases h1 : o + 1 ≤ j ∧ j < o + 1 + vs.length
    · rw [if_pos h1, if_pos (by omega), show j - o = (j - (o + 1)) + 1 by omega]; rfl
    · rw [if_neg h1]
      by_cases h2 : j = o
      · subst h2
        rw [if_pos (by omega), List.getElem?_set_self (by omega), Nat.sub_self]; rfl
      · rw [if_neg (by omega), List.getElem?_set_ne (by omega)]
theorem putL_all {cs vs : List Value} (h : vs.length = cs.length) : putL cs 0 vs = vs := by
  refine List.ext_getElem? fun j => ?_
  rw [putL_get _ _ _ _ (by omega)]
  by_cases hj : j < vs.length
  · rw [if_pos (by omega)]; rfl
  · rw [if_neg (by omega), List.getElem?_eq_none (by omega), List.getElem?_eq_none (by omega)]
section
variable {w : World} {b : Nat} {x z : FS} {ops : Array Oper} {rest : List Oper} {op : Oper} {a : Act} {Q : Exit → Act → World → Prop}
theorem wpList_build0F (hgd : op.guard = none) (ho : op.op = .build 27 #[]) (h : wpList Tryd.prog ops Q rest (a.put op.dst (.agg (encF FS.zero).toArray)) w) : wpList Tryd.prog ops Q (op :: rest) a w := by
  refine wpList_plain hgd fun K hK => ?_
  unfold Oper.wp
  rw [run_build0 ho]
  exact hK _ _ h
theorem wpList_buildNF (hgd : op.guard = none) (y : Operand) (ho : op.op = .build 27 #[(0, y)]) (n : Int) (hy : a.eval y = .int .i64 n) (h : wpList Tryd.prog ops Q rest (a.put op.dst (.agg (encF (mkF n [])).toArray)) w) : wpList Tryd.prog ops Q (op :: rest) a w := by
  refine wpList_plain hgd fun K hK => ?_
  unfold Oper.wp
  rw [run_buildN ho hy]
  exact hK _ _ h
theorem wpList_storeF (hgd : op.guard = none) (y u : Operand) (ho : op.op = .store 27 y u) (hy : a.eval y = .pointer (some ⟨b, 0, none⟩)) (hu : a.eval u = .agg (encF z).toArray) (hc : IsS w b 27 (encF x))
    (h : ∀ W, Upd w W b → IsS W b 27 (encF z) → wpList Tryd.prog ops Q rest (a.put op.dst undef) W) : wpList Tryd.prog ops Q (op :: rest) a w :=
  wpList_storeS hgd 27 y u ho hy (encF z) hu hc (by rw [encF_len, encF_len]; omega) (infoFx z) (encF_one z) fun W U I => h W U (by rw [putL_all (by rw [encF_len, encF_len])] at I; exact I)
end
theorem takeA_ok {s : ByteArray} {p : Nat} {v : Int} {n : Nat} (h : takeA s (p : Int) = some (v, n)) : p < s.size ∧ n ≤ s.size - p ∧ -9223372036854775808 ≤ v ∧ v ≤ 9223372036854775807 := by
  unfold takeA at h
  by_cases hc : (p : Int) < 0 ∨ (s.size : Int) ≤ p
  · rw [if_pos hc] at h; cases h
  · rw [if_neg hc] at h
    obtain ⟨hv, hn, r, hr⟩ := put_takeO h
    have hlen := congrArg List.length hr
    rw [List.length_drop, List.length_append] at hlen
    have hs : s.data.toList.length = s.size := by simp
    rw [hs] at hlen
    refine ⟨by omega, by omega, hv⟩
theorem decV_none {s : ByteArray} (h : decO s = none) : decV s = .tuple #[.agg (encF FS.zero).toArray, .int .i64 5] := by unfold decV; rw [h]
theorem decV_some {s : ByteArray} {f : FS} (h : decO s = some f) : decV s = .tuple #[.agg (encF f).toArray, .int .i64 0] := by unfold decV; rw [h]
theorem decO_0 {s : ByteArray} (h : takeA s 0 = none) : decO s = none := by unfold decO; rw [h]
theorem decO_1 {s : ByteArray} {n : Int} {k : Nat} (h : takeA s 0 = some (n, k)) (h' : ¬ (0 ≤ n ∧ n ≤ 48)) : decO s = none := by unfold decO; rw [h]; simp only; rw [if_neg h']
theorem decO_2 {s : ByteArray} {N k : Nat} (h : takeA s 0 = some ((N : Int), k)) (h' : N ≤ 48) (hm : manyA s N k = none) : decO s = none := by unfold decO; rw [h]; simp only; rw [if_pos (by omega), Int.toNat_natCast, hm]
theorem decO_3 {s : ByteArray} {N k e : Nat} {vs : List Int} (h : takeA s 0 = some ((N : Int), k)) (h' : N ≤ 48) (hm : manyA s N k = some (vs, e)) : decO s = if e = s.size then some (mkF (N : Int) vs) else none := by unfold decO; rw [h]; simp only; rw [if_pos (by omega), Int.toNat_natCast, hm]
/-- What is taken yet. -/
def Got (s : ByteArray) (N p0 k p : Nat) (vs : List Int) : Prop := manyA s N p0 = match manyA s (N - k) p with | none => none | some (us, e) => some (vs ++ us, e)
theorem Got.start (s : ByteArray) (N p0 : Nat) : Got s N p0 0 p0 [] := by
  unfold Got; rw [Nat.sub_zero]
  cases manyA s N p0 with
  | none => rfl
  | some q => rfl
theorem Got.bad {s : ByteArray} {N p0 k p : Nat} {vs : List Int} (h : Got s N p0 k p vs) (hk : k < N) (ht : takeA s (p : Int) = none) : manyA s N p0 = none := by
  unfold Got at h
  rw [h, show N - k = (N - k - 1) + 1 by omega, manyA, ht]
theorem Got.next {s : ByteArray} {N p0 k p : Nat} {vs : List Int} (h : Got s N p0 k p vs) (hk : k < N) {v : Int} {n : Nat} (ht : takeA s (p : Int) = some (v, n)) : Got s N p0 (k + 1) (p + n) (vs ++ [v]) := by
  unfold Got at *
  rw [h, show N - k = (N - (k + 1)) + 1 by omega, manyA, ht]
  simp only
  generalize manyA s (N - (k + 1)) (p + n) = m
  cases m with
  | none => rfl
  | some q => simp
theorem Got.end' {s : ByteArray} {N p0 p : Nat} {vs : List Int} (h : Got s N p0 N p vs) : manyA s N p0 = some (vs, p) := by
  unfold Got at h
  rw [h, Nat.sub_self, manyA]; simp

set_option maxRecDepth 100000 in
set_option maxHeartbeats 2000000 in
theorem decode_any (s : ByteArray) (hs : s.size ≤ maxLen) (w : World) :
    Calls Tryd.prog 18 #[.string s] w fun e w' => e = .returned (decV s) ∧ Below w.heap.size w w' := by
  have hT := fun p W => take_any s p hs W
  unfold maxLen at hs
  cases h0 : takeA s 0 with
  | none =>
    have HV : Hid (decV s = .tuple #[.agg (encF FS.zero).toArray, .int .i64 5]) := decV_none (decO_0 h0)
    have hT0 := hT 0
    rw [h0] at hT0
    simp only [takeV] at hT0
    clear hT h0
    have tk : True := trivial
    go_enter Tryd.func18, Tryd.ntmps18
    go_wp2_with (first
      | (clear tk; refine wpList_allocS rfl _ rfl (encF FS.zero) zeroF ?_; intro w1 b1 F1 I1)
      | (go_at_call 33; refine (hT0 _).mono ?_; rintro e w' ⟨rfl, hw'⟩; replace hw' := hw'.symm; subst hw')
      | (refine wpList_build0F rfl rfl ?_)
      | (refine wpList_storeF rfl _ _ rfl rfl rfl I1 ?_; intro w2 U2 I2))
    exact ret_ST rfl rfl rfl I2 _ Tryd.underlying27 rfl (infoFx _) _ rfl ⟨congrArg Ending.returned HV.out.symm, Below.trans (fresh_b F1) (U2.trans (Below.refl _ _) (by rw [F1.at']; exact Nat.le_refl _))⟩
  | some q =>
    obtain ⟨n, p0⟩ := q
    have hb0 := takeA_ok (p := 0) h0
    have hT0 := hT 0
    rw [h0] at hT0
    simp only [takeV] at hT0
    by_cases hr : 0 ≤ n ∧ n ≤ 48
    · obtain ⟨N, rfl⟩ : ∃ N : Nat, n = (N : Int) := ⟨n.toNat, by omega⟩
      have hN : N ≤ 48 := by omega
      have D2 : Hid (manyA s N p0 = none → decV s = .tuple #[.agg (encF FS.zero).toArray, .int .i64 5]) := fun h => decV_none (decO_2 h0 hN h)
      have D3 : Hid (∀ vs e, manyA s N p0 = some (vs, e) → decO s = if e = s.size then some (mkF (N : Int) vs) else none) := fun vs e h => decO_3 h0 hN h
      have hp0 : p0 ≤ s.size := by omega
      clear h0 hr hb0
      have h1 : ¬ ((N : Int) < 0) := by omega
      have h2 : ¬ ((48 : Int) < N) := by omega
      have tk : True := trivial
      have tl : True := trivial
      go_enter Tryd.func18, Tryd.ntmps18
      go_wp2_with (first
        | (clear tk; refine wpList_allocS rfl _ rfl (encF FS.zero) zeroF ?_; intro w1 b1 F1 I1; have hb1 : w.heap.size ≤ b1 := (by rw [F1.at']; exact Nat.le_refl _))
        | (go_at_call 33; refine (hT0 _).mono ?_; rintro e w' ⟨rfl, hw'⟩; replace hw' := hw'.symm; subst hw')
        | (refine wpList_buildNF rfl _ rfl (N : Int) rfl ?_)
        | (clear tl; refine wpList_allocS rfl _ rfl (encF FS.zero) zeroF ?_; intro w2 b2 F2 I2; have J2 := I1.fresh F2; have hb2 : w1.heap.size ≤ b2 := (by rw [F2.at']; exact Nat.le_refl _))
        | (refine wpList_storeF rfl _ _ rfl rfl rfl I2 ?_; intro w3 U3 I3; have J3 := J2.upd U3 (by have := I1.lt; omega); have c3 : w3.cell? ⟨b2, 0, none⟩ = some (.int .i64 (N : Int)) := I3.cell 0))
      have B3 : Below w.heap.size w w3 := by
        have hs1 := (fresh_b F1).size
        exact Below.trans (Below.then (fresh_b F1) (fresh_b F2)) (U3.trans (Below.refl _ _) (by omega))
      have hne : b1 ≠ b2 := by have := I1.lt; omega
      have hs1 := (fresh_b F1).size
      have hb2' : w.heap.size ≤ b2 := by omega
      go_loopw [5, 33] (fun q i wr => ∃ (k p : Nat) (vs : List Int), k ≤ N ∧ p ≤ s.size ∧ vs.length = k ∧ i = .int .i64 (k : Int) ∧ q = .int .i64 (p : Int) ∧ IsS wr b2 27 (encF (mkF (N : Int) vs)) ∧ IsS wr b1 27 (encF FS.zero) ∧ Below w.heap.size w wr ∧ Hid (Got s N p0 k p vs)) (fun q i _ => N - (intOf i).toNat)
      case atStart => exact ⟨0, p0, [], Nat.zero_le _, hp0, rfl, rfl, rfl, I3, J3, B3, Got.start _ _ _⟩
      case round =>
        obtain ⟨k, p, vs, hk, hp, hvs, rfl, rfl, IR, JR, BR, HG⟩ := hrel
        have cR : wr.cell? ⟨b2, 0, none⟩ = some (.int .i64 (N : Int)) := IR.cell 0
        clear I3 J3 B3 c3 I2 J2 U3 F2 F1 hp0
        by_cases hlt : k < N
        · have hTp := hT (p : Int)
          cases hp1 : takeA s (p : Int) with
          | none =>
            have HV := D2.out (HG.out.bad hlt hp1)
            have HV' : Hid (decV s = .tuple #[.agg (encF FS.zero).toArray, .int .i64 5]) := HV
            rw [hp1] at hTp
            simp only [takeV] at hTp
            clear HV HG hp1 D2 D3 hT hT0 hvs
            go_wp2_with (first
              | (go_at_call 33; refine (hTp _).mono ?_; rintro e w' ⟨rfl, hw'⟩; replace hw' := hw'.symm; subst hw')
              | (refine wpList_build0F rfl rfl ?_)
              | (refine wpList_storeF rfl _ _ rfl rfl rfl JR ?_; intro w5 U5 I5))
            exact ret_ST rfl rfl rfl I5 _ Tryd.underlying27 rfl (infoFx _) _ rfl ⟨congrArg Ending.returned HV'.out.symm, Below.trans BR (U5.trans (Below.refl _ _) hb1)⟩
          | some q =>
            obtain ⟨v, n⟩ := q
            have hb := takeA_ok hp1
            have HG' : Hid (Got s N p0 (k + 1) (p + n) (vs ++ [v])) := HG.out.next hlt hp1
            rw [hp1] at hTp
            simp only [takeV] at hTp
            have hset : (encF (mkF (N : Int) vs)).set (1 + k) (.int .i64 v) = encF (mkF (N : Int) (vs ++ [v])) := by rw [← hvs]; exact encF_set _ _ _ (by omega)
            have HSet := (show Hid _ from hset)
            have hvs' : Hid ((vs ++ [v]).length = k + 1) := by show _ = _; simp [hvs]
            have hpn : p + n ≤ s.size := by omega
            clear HG hp1 D2 D3 hT hT0 hvs hset hb
            go_wp2_with (first
              | (go_at_call 33; refine (hTp _).mono ?_; rintro e w' ⟨rfl, hw'⟩; replace hw' := hw'.symm; subst hw')
              | (refine wpList_store1 rfl 2 _ _ rfl rfl (.int .i64 v) rfl IR (by rw [encF_len]; omega) info2 rfl ?_; intro w5 U5 I5; rw [HSet.out] at I5; have J5 := JR.upd U5 hne))
            go_roundw
            case rel => exact ⟨k + 1, p + n, vs ++ [v], by omega, hpn, hvs'.out, by go_num, by go_num, I5, J5, Below.trans BR (U5.trans (Below.refl _ _) hb2'), HG'⟩
            case measure => simp [intOf]; omega
        · have e : k = N := by omega
          subst e
          have HD := D3.out _ _ HG.out.end'
          by_cases he : p = s.size
          · have HV' : Hid (decV s = .tuple #[.agg (encF (mkF (k : Int) vs)).toArray, .int .i64 0]) := decV_some (by rw [HD, if_pos he])
            have hneq : ((p : Int) != (s.size : Int)) = false := by simp [he]
            clear HD HG D2 D3 hT hT0 hvs he
            go_wp2_with (first
              | (refine wpList_loadF rfl _ rfl rfl IR ?_)
              | (refine wpList_storeF rfl _ _ rfl rfl rfl JR ?_; intro w5 U5 I5))
            exact ret_ST rfl rfl rfl I5 _ Tryd.underlying27 rfl (infoFx _) _ rfl ⟨congrArg Ending.returned HV'.out.symm, Below.trans BR (U5.trans (Below.refl _ _) hb1)⟩
          · have HV' : Hid (decV s = .tuple #[.agg (encF FS.zero).toArray, .int .i64 5]) := decV_none (by rw [HD, if_neg he])
            have hneq : ((p : Int) != (s.size : Int)) = true := by simp; omega
            clear HD HG D2 D3 hT hT0 hvs he
            go_wp2_with (first
              | (refine wpList_build0F rfl rfl ?_)
              | (refine wpList_storeF rfl _ _ rfl rfl rfl JR ?_; intro w5 U5 I5))
            exact ret_ST rfl rfl rfl I5 _ Tryd.underlying27 rfl (infoFx _) _ rfl ⟨congrArg Ending.returned HV'.out.symm, Below.trans BR (U5.trans (Below.refl _ _) hb1)⟩
    · have HV : Hid (decV s = .tuple #[.agg (encF FS.zero).toArray, .int .i64 5]) := decV_none (decO_1 h0 hr)
      clear hT h0 hb0
      by_cases h1 : n < 0
      all_goals
        (try (have h1' : 48 < n := by omega))
        have tk : True := trivial
        go_enter Tryd.func18, Tryd.ntmps18
        go_wp2_with (first
          | (clear tk; refine wpList_allocS rfl _ rfl (encF FS.zero) zeroF ?_; intro w1 b1 F1 I1)
          | (go_at_call 33; refine (hT0 _).mono ?_; rintro e w' ⟨rfl, hw'⟩; replace hw' := hw'.symm; subst hw')
          | (refine wpList_build0F rfl rfl ?_)
          | (refine wpList_storeF rfl _ _ rfl rfl rfl I1 ?_; intro w2 U2 I2))
        exact ret_ST rfl rfl rfl I2 _ Tryd.underlying27 rfl (infoFx _) _ rfl ⟨congrArg Ending.returned HV.out.symm, Below.trans (fresh_b F1) (U2.trans (Below.refl _ _) (by rw [F1.at']; exact Nat.le_refl _))⟩

end Go.Proofs.YtbhgchhoeokjhabDoor
