/- Project of the program, whole. -/
import Derived.Test.YtbhgchhoeokjhabDoorPJ
namespace Go.Proofs.YtbhgchhoeokjhabDoor
open Go Go.RowKit M
set_option linter.unusedSimpArgs false
set_option linter.unusedVariables false

/-- What is projected yet. -/
def prjK (ks : List Int) (l : List FS) (k : Nat) : List FS := (l.take k).map (prjF ks) ++ List.replicate (l.length - k) FS.zero
theorem prjK_len (ks : List Int) (l : List FS) (k : Nat) (hk : k ≤ l.length) : (prjK ks l k).length = l.length := by
  unfold prjK; rw [List.length_append, List.length_map, List.length_take, List.length_replicate]; omega
theorem prjK_set (ks : List Int) (l : List FS) (k : Nat) (hk : k < l.length) : (prjK ks l k).set k (prjF ks (l.getD k FS.zero)) = prjK ks l (k + 1) := by
  unfold prjK
  have hl : ((l.take k).map (prjF ks)).length = k := by rw [List.length_map, List.length_take]; omega
  rw [List.set_append_right _ _ (by omega), hl, Nat.sub_self, show l.length - k = (l.length - (k + 1)) + 1 by omega, List.replicate_succ, List.set_cons_zero, List.take_succ_eq_append_getElem hk, List.map_append, List.append_assoc, getD_at l k hk]
  rfl
theorem prjK_end (ks : List Int) (l : List FS) : prjK ks l l.length = l.map (prjF ks) := by unfold prjK; simp
theorem row_full {l : List FS} : RowC (flatF l) l := by unfold RowC; rw [List.take_of_length_le (by rw [flatF_len]; exact Nat.le_refl _)]
theorem okF_le {x : FS} (h : okF x = true) : x.n ≤ 48 := by obtain ⟨N, h1, h2⟩ := okF_n h; omega

set_option maxRecDepth 100000 in
set_option maxHeartbeats 4000000 in
theorem project_any (a ak : Option Addr) (cap ck : Nat) (l : List FS) (ks : List Int) (hn : l.length ≤ 8000) (hkn : ks.length ≤ 4611686018427387903) (w : World) (hS : Seg w a (flatF l)) (hK : NumS w ak ks) :
    Calls Tryd.prog 19 #[.slice a l.length cap, .slice ak ks.length ck] w fun e w' => ∃ v, e = .returned (.tuple #[v, .int .i64 (prjE l ks)]) ∧ OwnL w' w.heap.size v (prjL l ks) ∧ Below w.heap.size w w' := by
  have hR := rises_any a cap l (by omega) w hS
  have hsz : ((l.length : Nat) : Int) ≤ 8000 := by omega
  have hkz : ((ks.length : Nat) : Int) ≤ 4611686018427387903 := by omega
  cases hb : setB l with
  | false =>
    have HE : Hid (prjE l ks = 100) := prjE_100 hb
    have HL : Hid (prjL l ks = []) := prjL_bad (by rw [prjE_100 hb]; decide)
    rw [hb] at hR
    clear hS hK hb
    go_enter Tryd.func19, Tryd.ntmps19
    go_wp2_with (first
      | (go_at_call 12; refine hR.mono ?_; rintro e w1 ⟨rfl, B1⟩; clear hR))
    go_ret2
    exact ⟨.slice none 0 0, by rw [HE.out]; rfl, by rw [HL.out]; exact World.ownsRow_nil _ _ _ _, B1⟩
  | true =>
    have hset := (setB_set l).1 hb
    rw [hb] at hR
    by_cases h48 : 48 < ks.length
    · have HE : Hid (prjE l ks = 1) := prjE_1 hb h48
      have HL : Hid (prjL l ks = []) := prjL_bad (by rw [prjE_1 hb h48]; decide)
      have h48I : (48 : Int) < (ks.length : Int) := by omega
      clear hS hK hb hset
      go_enter Tryd.func19, Tryd.ntmps19
      go_wp2_with (first
        | (go_at_call 12; refine hR.mono ?_; rintro e w1 ⟨rfl, B1⟩; clear hR))
      go_ret2
      exact ⟨.slice none 0 0, by rw [HE.out]; rfl, by rw [HL.out]; exact World.ownsRow_nil _ _ _ _, B1⟩
    · have h48I : ¬ ((48 : Int) < (ks.length : Int)) := by omega
      by_cases hall : 0 < l.length ∧ inB ks (l.getD 0 FS.zero).n = false
      · obtain ⟨h0, hin⟩ := hall
        have hna : (l.all fun x => inB ks x.n) = false := by rw [inB_all hset h0]; exact hin
        have HE : Hid (prjE l ks = 4) := prjE_4 hb h48 hna
        have HL : Hid (prjL l ks = []) := prjL_bad (by rw [prjE_4 hb h48 hna]; decide)
        obtain ⟨b, o, rfl, HB, HX⟩ := seg_elem hS 0 h0
        have hW := fun W (h : NumS W ak ks) => within_any ak ck ks hkn (l.getD 0 FS.zero).n W h
        rw [hin] at hW
        have h0I : (0 : Int) < (l.length : Int) := by omega
        have hC : ∀ W, Below w.heap.size w W → W.cell? ⟨b, o, none⟩ = some (.int .i64 (l.getD 0 FS.zero).n) := fun W hB => by
          have := HX 0 (.int .i64 (l.getD 0 FS.zero).n) rfl
          exact (hB.cell (p := ⟨b, o, none⟩) HB).trans (by simpa using this)
        generalize (l.getD 0 FS.zero).n = n0 at *
        clear hS hb hset hna hin HX
        go_enter Tryd.func19, Tryd.ntmps19
        go_wp2_with (first
          | (go_at_call 12; refine hR.mono ?_; rintro e w1 ⟨rfl, B1⟩; clear hR; have c0 := hC _ B1)
          | (go_at_call 34; refine (hW _ (hK.below B1)).mono ?_; rintro e w' ⟨rfl, hw'⟩; replace hw' := hw'.symm; subst hw'))
        go_ret2
        exact ⟨.slice none 0 0, by rw [HE.out]; rfl, by rw [HL.out]; exact World.ownsRow_nil _ _ _ _, B1⟩
      · have hya : (l.all fun x => inB ks x.n) = true := by
          by_cases h0 : 0 < l.length
          · rw [inB_all hset h0]
            cases hq : inB ks (l.getD 0 FS.zero).n with
            | true => rfl
            | false => exact absurd ⟨h0, hq⟩ hall
          · have : l = [] := List.length_eq_zero_iff.1 (by omega)
            rw [this]; rfl
        have hE := prjE_0 hb h48 hya
        have HE : Hid (prjE l ks = 0) := hE
        have HL : Hid (prjL l ks = setF (l.map (prjF ks))) := prjL_ok hE
        have hpart := fun (j : Nat) (hj : j < l.length) W (h : NumS W ak ks) => part_any (l.getD j FS.zero) ak ck ks (by omega) (okF_le (by rw [getD_at l j hj]; exact hset.2 _ (List.getElem_mem hj))) (by
          rw [List.all_eq_true] at hya
          rw [getD_at l j hj]; exact hya _ (List.getElem_mem hj)) W h
        have hn0 := fun W (h : NumS W ak ks) => within_any ak ck ks hkn (l.getD 0 FS.zero).n W h
        have hfirst : 0 < l.length → inB ks (l.getD 0 FS.zero).n = true := fun h0 => by rw [← inB_all hset h0]; exact hya
        have HS : Hid (Seg w a (flatF l)) := hS
        have HKN : Hid (NumS w ak ks) := hK
        have hsort := fun (g : Nat) W (I : IsS W g 27 (flatF (l.map (prjF ks)))) => sort_any (some ⟨g, 0, none⟩) l.length (l.map (prjF ks)) (by rw [List.length_map]; omega) W (by have := seg_row I row_full 0 (l.map (prjF ks)) (by rw [List.drop_zero, List.take_length]); rwa [Nat.zero_mul] at this)
        simp only [List.length_map] at hsort
        have HIn : Hid (IsSet l) := hset
        clear hS hK hb hset hya hE hall h48
        have tm : True := trivial
        by_cases h0 : 0 < l.length
        · obtain ⟨b, o, rfl, HB0, HX0⟩ := seg_elem HS.out 0 h0
          have hin0 := hfirst h0
          rw [hin0] at hn0
          have h0I : (0 : Int) < (l.length : Int) := by omega
          have hC : ∀ W, Below w.heap.size w W → W.cell? ⟨b, o, none⟩ = some (.int .i64 (l.getD 0 FS.zero).n) := fun W hB => by
            have := HX0 0 (.int .i64 (l.getD 0 FS.zero).n) rfl
            exact (hB.cell (p := ⟨b, o, none⟩) HB0).trans (by simpa using this)
          generalize (l.getD 0 FS.zero).n = n0 at *
          clear HX0 hfirst hin0
          go_enter Tryd.func19, Tryd.ntmps19
          go_wp2_with (first
            | (go_at_call 12; refine hR.mono ?_; rintro e w1 ⟨rfl, B1⟩; clear hR; have c0 := hC _ B1)
            | (go_at_call 34; refine (hn0 _ (HKN.out.below B1)).mono ?_; rintro e w' ⟨rfl, hw'⟩; replace hw' := hw'.symm; subst hw')
            | (clear tm; refine wpList_makeF rfl _ _ rfl l.length (by omega) rfl rfl ?_; intro w2 g F2 I2))
          clear hC c0 hn0
          have B2 := Below.then B1 (fresh_b F2)
          have hg : w.heap.size ≤ g := by have := B1.size; rw [F2.at']; omega
          have hR2 : RowC (flatF (List.replicate l.length FS.zero)) (prjK ks l 0) := by have : prjK ks l 0 = List.replicate l.length FS.zero := (by unfold prjK; simp); rw [this]; exact row_full
          have hl2 : (flatF (List.replicate l.length FS.zero)).length = l.length * 49 := by rw [flatF_len, List.length_replicate]
          generalize flatF (List.replicate l.length FS.zero) = z0 at *
          go_loopw [32] (fun i wr => ∃ (k : Nat) (cs : List Value), k ≤ l.length ∧ i = .int .i64 (k : Int) ∧ cs.length = l.length * 49 ∧ IsS wr g 27 cs ∧ RowC cs (prjK ks l k) ∧ Below w.heap.size w wr) (fun i _ => l.length - (intOf i).toNat)
          case atStart => exact ⟨0, z0, Nat.zero_le _, rfl, hl2, I2, hR2, B2⟩
          case round =>
            obtain ⟨k, cs, hk, rfl, hcs, IR, RR, BR⟩ := hrel
            clear I2 hR2 B2 hl2 F2 B1
            by_cases hlt : k < l.length
            · obtain ⟨b', o', ha', HB, HX⟩ := seg_elem (HS.out.below BR) k hlt
              cases ha'
              have hp := hpart k hlt
              have RS := RR.set k (by rw [prjK_len ks l k hk]; exact hlt) (prjF ks (l.getD k FS.zero))
              rw [prjK_set ks l k hlt] at RS
              have hkb : k * 49 + 49 ≤ cs.length := by rw [hcs]; have : (k + 1) * 49 ≤ l.length * 49 := Nat.mul_le_mul_right _ (by omega); omega
              have hiX : (k : Int) < (l.length : Int) := by omega
              generalize prjF ks (l.getD k FS.zero) = Y at *
              generalize l.getD k FS.zero = X at *
              clear hpart RR hsort
              have ta : True := trivial
              go_wp2_with (first
                | (refine wpList_loadE (x := X) rfl _ rfl rfl HX ?_)
                | (clear ta; refine wpList_allocS rfl _ rfl (encF FS.zero) zeroF ?_; intro w3 b4 F3 I3; have ts : True := trivial)
                | (clear ts; refine wpList_storeF rfl _ _ rfl rfl rfl I3 ?_; intro w4 U4 I4; have B4 : Below wr.heap.size wr w4 := U4.trans (fresh_b F3) (by rw [F3.at']; exact Nat.le_refl _); have BW4 := Below.then BR B4)
                | (refine wpList_loadF rfl _ rfl rfl I4 ?_)
                | (go_at_call 35; refine (hp _ (HKN.out.below BW4)).mono ?_; rintro e w5 ⟨rfl, B5⟩; have IR5 := IR.grown (Below.then B4 B5))
                | (refine wpList_storeE (x := Y) rfl _ _ rfl rfl rfl IR5 hkb ?_; intro w6 U6 I6))
              go_roundw
              case rel => exact ⟨k + 1, _, by omega, by go_num, by rw [putL_len']; exact hcs, I6, RS, U6.trans (Below.then BW4 B5) hg⟩
              case measure => simp [intOf]; omega
            · have e : k = l.length := by omega
              subst e
              rw [prjK_end] at RR
              have hcsF : cs = flatF (l.map (prjF ks)) := by
                have := RR
                unfold RowC at this
                rw [List.length_map, List.take_of_length_le (by omega)] at this
                exact this
              subst hcsF
              have hso := hsort g wr IR
              have hszR := BR.size
              clear hsort hpart RR hlt
              go_wp2_with (first
                | (go_at_call 7; refine hso.mono ?_; rintro e w6 ⟨v6, rfl, O6, B6⟩))
              go_ret2
              exact ⟨v6, by rw [HE.out]; rfl, by rw [HL.out]; exact own_base O6 hszR, Below.then BR B6⟩
        · have h0I : ¬ ((0 : Int) < (l.length : Int)) := by omega
          clear hfirst hn0
          go_enter Tryd.func19, Tryd.ntmps19
          go_wp2_with (first
            | (go_at_call 12; refine hR.mono ?_; rintro e w1 ⟨rfl, B1⟩; clear hR)
            | (clear tm; refine wpList_makeF rfl _ _ rfl l.length (by omega) rfl rfl ?_; intro w2 g F2 I2))
          have B2 := Below.then B1 (fresh_b F2)
          have hg : w.heap.size ≤ g := by have := B1.size; rw [F2.at']; omega
          have hR2 : RowC (flatF (List.replicate l.length FS.zero)) (prjK ks l 0) := by have : prjK ks l 0 = List.replicate l.length FS.zero := (by unfold prjK; simp); rw [this]; exact row_full
          have hl2 : (flatF (List.replicate l.length FS.zero)).length = l.length * 49 := by rw [flatF_len, List.length_replicate]
          generalize flatF (List.replicate l.length FS.zero) = z0 at *
          go_loopw [32] (fun i wr => ∃ (k : Nat) (cs : List Value), k ≤ l.length ∧ i = .int .i64 (k : Int) ∧ cs.length = l.length * 49 ∧ IsS wr g 27 cs ∧ RowC cs (prjK ks l k) ∧ Below w.heap.size w wr) (fun i _ => l.length - (intOf i).toNat)
          case atStart => exact ⟨0, z0, Nat.zero_le _, rfl, hl2, I2, hR2, B2⟩
          case round =>
            obtain ⟨k, cs, hk, rfl, hcs, IR, RR, BR⟩ := hrel
            clear I2 hR2 B2 hl2 F2 B1
            by_cases hlt : k < l.length
            · obtain ⟨b', o', ha', HB, HX⟩ := seg_elem (HS.out.below BR) k hlt
              subst ha'
              have hp := hpart k hlt
              have RS := RR.set k (by rw [prjK_len ks l k hk]; exact hlt) (prjF ks (l.getD k FS.zero))
              rw [prjK_set ks l k hlt] at RS
              have hkb : k * 49 + 49 ≤ cs.length := by rw [hcs]; have : (k + 1) * 49 ≤ l.length * 49 := Nat.mul_le_mul_right _ (by omega); omega
              have hiX : (k : Int) < (l.length : Int) := by omega
              generalize prjF ks (l.getD k FS.zero) = Y at *
              generalize l.getD k FS.zero = X at *
              clear hpart RR hsort
              have ta : True := trivial
              go_wp2_with (first
                | (refine wpList_loadE (x := X) rfl _ rfl rfl HX ?_)
                | (clear ta; refine wpList_allocS rfl _ rfl (encF FS.zero) zeroF ?_; intro w3 b4 F3 I3; have ts : True := trivial)
                | (clear ts; refine wpList_storeF rfl _ _ rfl rfl rfl I3 ?_; intro w4 U4 I4; have B4 : Below wr.heap.size wr w4 := U4.trans (fresh_b F3) (by rw [F3.at']; exact Nat.le_refl _); have BW4 := Below.then BR B4)
                | (refine wpList_loadF rfl _ rfl rfl I4 ?_)
                | (go_at_call 35; refine (hp _ (HKN.out.below BW4)).mono ?_; rintro e w5 ⟨rfl, B5⟩; have IR5 := IR.grown (Below.then B4 B5))
                | (refine wpList_storeE (x := Y) rfl _ _ rfl rfl rfl IR5 hkb ?_; intro w6 U6 I6))
              go_roundw
              case rel => exact ⟨k + 1, _, by omega, by go_num, by rw [putL_len']; exact hcs, I6, RS, U6.trans (Below.then BW4 B5) hg⟩
              case measure => simp [intOf]; omega
            · have e : k = l.length := by omega
              subst e
              rw [prjK_end] at RR
              have hcsF : cs = flatF (l.map (prjF ks)) := by
                have := RR
                unfold RowC at this
                rw [List.length_map, List.take_of_length_le (by omega)] at this
                exact this
              subst hcsF
              have hso := hsort g wr IR
              have hszR := BR.size
              clear hsort hpart RR hlt
              go_wp2_with (first
                | (go_at_call 7; refine hso.mono ?_; rintro e w6 ⟨v6, rfl, O6, B6⟩))
              go_ret2
              exact ⟨v6, by rw [HE.out]; rfl, by rw [HL.out]; exact own_base O6 hszR, Below.then BR B6⟩
end Go.Proofs.YtbhgchhoeokjhabDoor
