/- RelMakes, the tied card: at every relation, number, list of pairs and two sets the law returns true and leaves its arguments as they were, where the library's table math/bits.deBruijn64tab holds at the call what the program's text lays there. -/
import Derived.Test.YtkccckjiemijeaaDoorCB
namespace Go.Proofs.YtkccckjiemijeaaDoor
open Go.ChangeShapes Go.WideShapes Go.ChangeAt Go.RowKit M
set_option linter.unusedSimpArgs false
set_option linter.unusedVariables false

def zOf : Value → Int
  | .int _ z => z
  | _ => 0

set_option maxRecDepth 100000 in
theorem relMakes_lifted (os : Os) (started : os.Started) (H : Type) (enc : TypeId × Value → H) :
    ReturnsInHanded {} Tryd.checked os 3 .any (fun w args => (Rows.relMakesSpec.pre enc Tryd.prog Tryd.f3 [] false w args ∧ laidMetH Tryd.prog Rows.relMakesRow.laid w) ∧ sizedMet enc Tryd.prog Tryd.f3 (OpenSpec.ofChange Rows.relMakesSpec) false w args)
      (Rows.relMakesSpec.post enc Tryd.prog Tryd.f3 false true false false) := by
  refine returnsInHanded_of_change_and (C := Tryd.checked) (X := fun w _ => laidMetH Tryd.prog Rows.relMakesRow.laid w) (fun _ _ _ hh h => h.of_heap hh) own started (by kernel_rfl) Tryd.func3
    (ChangeSpec.witness_shaped (enc := enc) (C := Tryd.checked) (os := os) (X := fun w _ => laidMetH Tryd.prog Rows.relMakesRow.laid w) false (World.doorLaid Tryd.prog 400 os) #[relv 0 void, .int .i64 0, .slice none 0 0, .int .u64 0, .int .u64 0] 8 rfl (World.shaped_of_RefB (by kernel_rfl) (by kernel_rfl)) (by kernel_rfl) (by kernel_rfl) (by kernel_rfl) (door_met os _)) ?_
  intro W base args ds gs before hval0 hW _ hsz0 hL _
  have hval : ∀ (j : Nat) t v, Tryd.f3.params[j]? = some t → args[j]? = some v → Value.okWide Tryd.prog W .any base t v := hval0
  have hsz : (DataW.weightsEach Tryd.prog (Tryd.f3.params.toList ++ Rows.relMakesSpec.plain.varTypes Tryd.prog) (ds ++ gs)).all (· ≤ reachBytes) = true := hsz0
  have hW' := hW
  obtain ⟨p, q, hA0, hV, rfl, hfz, hnd⟩ := hW
  have hA : DataW.TrodAll enc Tryd.prog W 0 (fun _ => true) true Tryd.f3.params.toList args.toList ds p := hA0
  rw [Tryd.params3] at hA hval hsz
  obtain ⟨v0, vs0, d0, ds0, p0, q0, hargs, rfl, rfl, h0, r0⟩ := trodAll_cons hA
  obtain ⟨v1, vs1, d1, ds1, p1, q1, rfl, rfl, rfl, h1, r1⟩ := trodAll_cons r0
  obtain ⟨v2, vs2, d2, ds2, p2, q2, rfl, rfl, rfl, h2, r2⟩ := trodAll_cons r1
  obtain ⟨v3, vs3, d3, ds3, p3, q3, rfl, rfl, rfl, h3, r3⟩ := trodAll_cons r2
  obtain ⟨v4, vs4, d4, ds4, p4, q4, rfl, rfl, rfl, h4, r4⟩ := trodAll_cons r3
  obtain ⟨rfl, rfl, rfl⟩ := trodAll_nil r4
  obtain rfl : args = #[v0, v1, v2, v3, v4] := by cases args; simp_all
  obtain ⟨rfl, rfl⟩ := trodVars_none hV
  have k0 := h0
  have lt0 : ∀ x ∈ p0, x.block < W.heap.size := by obtain ⟨m, hm⟩ := k0; exact DataW.trod_lt m _ _ _ hm
  obtain ⟨rn, rf, rfl, hrf⟩ := open_rel (hval 0 25 v0 rfl rfl) h0
  obtain ⟨n, rfl, rfl, rfl, w1⟩ := open_int Tryd.underlying3 (hval 1 3 v1 rfl rfl) h1
  obtain ⟨a0, len0, cap0, rfl⟩ := okWide_slice Tryd.underlying26 (hval 2 26 v2 rfl rfl)
  have k2 := h2
  have lt2 : ∀ x ∈ p2, x.block < W.heap.size := by obtain ⟨m, hm⟩ := k2; exact DataW.trod_lt m _ _ _ hm
  obtain ⟨b3, rfl, rfl, rfl, w3⟩ := open_int Tryd.underlying27 (hval 3 27 v3 rfl rfl) h3
  obtain ⟨b4, rfl, rfl, rfl, w4⟩ := open_int Tryd.underlying27 (hval 4 27 v4 rfl rfl) h4
  have bd3 := bounds_u64 w3
  have bd4 := bounds_u64 w4
  obtain ⟨f, rfl⟩ := Int.eq_ofNat_of_zero_le (show 0 ≤ b3 by omega)
  obtain ⟨t, rfl⟩ := Int.eq_ofNat_of_zero_le (show 0 ≤ b4 by omega)
  have hT := tab_of_laid hL
  have fin : Calls Tryd.prog 3 #[relv rn rf, .int .i64 n, .slice a0 len0 cap0, .int .u64 f, .int .u64 t] W fun e w' => e = .returned (.bool true) ∧ Below W.heap.size W w' := by
    obtain ⟨fuel, hf⟩ := h2
    rcases _root_.Go.Deep.open_slice_pairs Tryd.underlying26 Tryd.underlying29 cells29 rfl rfl cells3 cells3 hf with ⟨hcs, _⟩ | ⟨x, l, c, m, m', V0, V1, D0, D1, P0, P1, hcs, _, hl, hm, hz, hd, hcell⟩
    · simp [Value.cells] at hcs
      obtain ⟨rfl, rfl, rfl⟩ := hcs
      exact relMakes_none rn rf n f t W hrf (by omega) (by omega) hT
    · simp [Value.cells] at hcs
      obtain ⟨rfl, rfl, rfl⟩ := hcs
      simp only [if_true] at hz
      simp only [Prod.mk.injEq] at hd
      have hreach : len0 * 16 ≤ 140737488351232 := by
        have h5 := hsz
        rw [hd.1] at h5
        have := sized_slice h5 (j := 2) (t := 26) (e := 29) rfl rfl Tryd.underlying26
        rw [bytes29] at this
        simp only [List.length_map, List.length_range, reachBytes] at this
        omega
      obtain ⟨L, hLd⟩ : ∃ L, (List.range len0).map (fun i => (zOf (V0 i), zOf (V1 i))) = L := ⟨_, rfl⟩
      have hlen : L.length = len0 := by rw [← hLd]; simp
      have key := relMakes_some rn rf n x (some x) rfl L cap0 f t W hrf (by omega) (by omega) hT (by rw [hlen]; exact hreach)
        (fun j hj => by
          rw [hlen] at hj
          obtain ⟨c0, c1, t0, t1⟩ := hcell j (by omega)
          obtain ⟨z0, e0, _, _⟩ := DataW.trod_int Tryd.underlying3 t0
          obtain ⟨z1, e1, _, _⟩ := DataW.trod_int Tryd.underlying3 t1
          simp only [List.cons.injEq, and_true] at e0 e1
          have c00 := (hcell 0 (by omega)).1
          obtain ⟨b, off, spot⟩ := x
          have hspot : spot = none := by simpa [Addr.add] using World.cell?_spot c00
          subst hspot
          refine ⟨b, off, rfl, ?_, ?_⟩
          · rw [Addr.add_mid] at c0
            rw [c0, e0, ← hLd]
            simp [List.getD_eq_getElem?_getD, hj, e0, zOf]
          · rw [Addr.add_mid, ← Nat.add_assoc] at c1
            rw [c1, e1, ← hLd]
            simp [List.getD_eq_getElem?_getD, hj, e1, zOf])
      rw [hlen] at key
      exact key
  clear hA0 hval0
  refine fin.mono fun e W' ⟨he, bel⟩ => ?_
  subst he
  exact ⟨_, rfl, _, _, _, [], _, [], hW', trodAll_mk1 (shut_bool Tryd.underlying4 _),
    (trodAll_cons_mk (Below.trod laidOut (by kernel_rfl) (of_decide_eq_true (by kernel_rfl)) k0 bel lt0) (trodAll_cons_mk (shut_int Tryd.underlying3 w1) (trodAll_cons_mk (Below.trod laidOut (by kernel_rfl) (of_decide_eq_true (by kernel_rfl)) k2 bel lt2)
      (trodAll_cons_mk (shut_int Tryd.underlying27 w3) (trodAll_cons_mk (shut_int Tryd.underlying27 w4) trodAll_mk0))))), rfl, bel.frame _, fun h => by cases h⟩

theorem relMakes_said : Rows.RelMakesSaid :=
  OpenClaim.holds_of_wide 3 Tryd.f3 rfl rfl rfl rfl rfl rfl rfl ⟨rfl, rfl, rfl, rfl, rfl⟩ rfl rfl rfl rfl rfl (by kernel_rfl) Tryd.func3 (by kernel_rfl)
    (of_decide_eq_true (by kernel_rfl)) (by unfold Func.isWrapper; first | (rw [if_pos (by decide +kernel)]; kernel_rfl) | (rw [if_neg (by decide +kernel)]; exact ⟨rfl, rfl⟩))
    (fun os started H enc _ => relMakes_lifted os started H enc)

theorem relMakes_holds : Rows.RelMakesCardSaid :=
  Claim7.holds_tied_plain_at .later [] [.data] true (true, "4059ff687261fa2e96134aa52340d38a1ed6aa176810fa227fa81ffc2a1e0e3a") false
    relMakes_said (fun _ h => by cases h) (by kernel_rfl) (fun _ h => by cases h) relMakes_row_tie rfl ⟨rfl, rfl⟩ (by kernel_rfl) rfl
    (fun f fn hf hfn => by
      obtain rfl : f = 3 := Option.some.inj ((show Tryd.prog.funcNamed "weir/weirlaw02.RelMakes" = some 3 by kernel_rfl).symm.trans hf) |>.symm
      obtain rfl : fn = Tryd.f3 := (Option.some.inj (Tryd.func3.symm.trans hfn)).symm
      exact ⟨by kernel_rfl, fun j t ht => by
        rw [Tryd.params3] at ht
        have hm : t ∈ [25, 3, 26, 27, 27] := by simpa using Array.mem_of_getElem? ht
        have hall : ([25, 3, 26, 27, 27].all fun u => !Tryd.prog.wantsStandIn u) = true := by kernel_rfl
        exact (show Tryd.prog.wantsStandIn t = false by simpa using List.all_eq_true.1 hall t hm)⟩)
    (by kernel_rfl)
#print axioms relMakes_holds
end Go.Proofs.YtkccckjiemijeaaDoor
