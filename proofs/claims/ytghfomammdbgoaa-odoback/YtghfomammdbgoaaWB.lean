/- OdoBack: for every kind of space, every two numbers and every list the law returns true and leaves its arguments as they were; no condition. -/
import Derived.Test.YtghfomammdbgoaaC5
import Derived.Test.YtghfomammdbgoaaChecked
import Derived.ProofKit
import Derived.SizedLaws
import Derived.Lib.RowBridge
import Derived.ChangeOld
namespace Go.Proofs.Ytghfomammdbgoaa
open Go.ChangeShapes Go.WideShapes Go.ChangeAt Go.RowKit K
set_option linter.unusedSimpArgs false
set_option linter.unusedVariables false

theorem own : ownKnob Try.prog.godebug = none := by kernel_rfl
theorem laidOut : laidOutB Try.prog = true := by kernel_rfl
theorem cells3 : Try.prog.cellsOf 3 = 1 := by kernel_rfl
theorem cells22 : Try.prog.cellsOf 22 = 1 := by kernel_rfl
theorem cells24 : Try.prog.cellsOf 24 = 3 := by kernel_rfl
theorem bytes3 : Try.prog.bytesOf 3 = 8 := by kernel_rfl

/-- Of a struct's weights: those of its fields. -/
theorem sized_part {H : Type} {P : Program} {ts : List TypeId} {ds : List (DataW H)} (h : (DataW.weightsEach P ts ds).all (· ≤ reachBytes) = true) {j : Nat} {t : TypeId} {parts : List (DataW H)} {fs : Array Field}
    (ht : ts[j]? = some t) (hd : ds[j]? = some (.agg parts)) (hu : P.underlying t = some (.struct fs)) : (DataW.weightsEach P (fs.toList.map (·.type)) parts).all (· ≤ reachBytes) = true := by
  rw [List.all_eq_true] at h ⊢
  intro n hn
  refine h n (DataW.weights_mem_each ht hd n ?_)
  rw [DataW.weights.eq_6, hu]
  exact hn

theorem open_nums {H : Type} {enc : TypeId × Value → H} {W : World} {fuel : Nat} {cs : List Value} {x : DataW H × List MemPlace} (h : DataW.trod enc Try.prog W 0 (fun _ => true) true fuel 22 cs = some x) :
    ∃ a zs cap, cs = [.slice a zs.length cap] ∧ Nums W a zs ∧ (a = none → zs = []) ∧ (∀ z ∈ zs, z < 9223372036854775808) ∧ (zs = [] ∨ ∃ sp, x.1 = .slice (lits .i64 zs) sp) := by
  rcases open_ints Try.underlying22 Try.underlying3 cells3 h with ⟨hcs, _⟩ | ⟨x', l, c, zs, hcs, _, hl, hm, hz, hd, hcell, hwz⟩
  · exact ⟨none, [], 0, hcs, fun j hj => absurd hj (by simp), fun _ => rfl, fun z hz => (by cases hz), .inl rfl⟩
  · simp only [if_true] at hz
    have hlen : (zs.take l).length = l := by rw [List.length_take]; omega
    refine ⟨some x', zs.take l, c, by rw [hlen]; exact hcs, fun j hj => ?_, fun e => (by cases e), fun z hzm => ?_, .inr ⟨lits .i64 (zs.drop l), by rw [hd]⟩⟩
    · rw [hlen] at hj
      obtain ⟨b, off, rfl, hc⟩ := _root_.Go.ints_at hcell (show 0 < zs.length by omega)
      refine ⟨b, off, rfl, ?_⟩
      have := hc j (by omega)
      rw [this]
      simp [List.getD_eq_getElem?_getD, List.getElem?_take, hj]
    · have := hwz z (List.mem_of_mem_take hzm)
      first | (have h9 := bounds_i64 this; omega) | (rw [IntKind.wrap_i64] at this; omega)

theorem len_slice {H : Type} {ts : List TypeId} {ds : List (DataW H)} (h : (DataW.weightsEach Try.prog ts ds).all (· ≤ reachBytes) = true) {j : Nat} {zs : List Int} (ht : ts[j]? = some 22) {d : DataW H} (hj : ds[j]? = some d) (hd : zs = [] ∨ ∃ sp, d = .slice (lits .i64 zs) sp) : zs.length ≤ 1152921504606846976 := by
  rcases hd with rfl | ⟨sp, rfl⟩
  · simp
  · have := sized_slice h ht hj Try.underlying22
    rw [bytes3] at this
    simp only [lits, List.length_map, reachBytes] at this
    omega

theorem nat_of_u64 {n : Int} (h : (Lit.int .u64 n).wf = true) : ∃ k : Nat, n = (k : Int) := by
  refine ⟨n.toNat, ?_⟩
  have : 0 ≤ n := by
    first
      | (have h9 := bounds_u64 h; omega)
      | (simp [Lit.wf, IntKind.wrap_u64] at h; omega)
      | (trace_state; fail)
  omega

theorem take_one {cs : Array Value} {v : Value} {i : Nat} (h : List.take 1 (List.drop i cs.toList) = [v]) : cs[i]? = some v := by
  have := congrArg List.head? h
  simp [List.head?_take, List.head?_drop] at this
  simpa using this

set_option maxHeartbeats 800000 in
set_option maxRecDepth 100000 in
theorem odoBack_lifted (os : Os) (started : os.Started) (H : Type) (enc : TypeId × Value → H) :
    ReturnsInHanded {} Try.checked os 5 .any (Rows.odoBackSpec.pre6 enc Try.prog Try.f5 Rows.odoBackRow.domain false) (Rows.odoBackSpec.post enc Try.prog Try.f5 false true false false) := by
  refine returnsInHanded_of_change_sized (C := Try.checked) own started (by kernel_rfl) Try.func5
    (ChangeSpec.witness6 (enc := enc) (C := Try.checked) false ⟨#[], #[.agg #[.int .i64 0, .slice none 0 0, .int .i64 0], .int .u64 0, .int .u64 0, .slice none 0 0], []⟩ 8 (by kernel_rfl) (by kernel_rfl) (by kernel_rfl) (by kernel_rfl)) ?_
  intro W base args ds gs before hval0 hW _ hsz0 _
  have hsz : (DataW.weightsEach Try.prog (Try.f5.params.toList ++ Rows.odoBackSpec.plain.varTypes Try.prog) (ds ++ gs)).all (· ≤ reachBytes) = true := hsz0
  clear hsz0
  have hval : ∀ (j : Nat) t v, Try.f5.params[j]? = some t → args[j]? = some v → Value.okWide Try.prog W .any base t v := hval0
  have hW' := hW
  obtain ⟨p, q, hA0, hV, rfl, _, _⟩ := hW
  have hA : DataW.TrodAll enc Try.prog W 0 (fun _ => true) true Try.f5.params.toList args.toList ds p := hA0
  rw [Try.params5] at hA hval hsz
  obtain ⟨v0, vs0, d0, ds0, p0, q0, hargs, rfl, rfl, h0, r0⟩ := trodAll_cons hA
  obtain ⟨v1, vs1, d1, ds1, p1, q1, rfl, rfl, rfl, h1, r1⟩ := trodAll_cons r0
  obtain ⟨v2, vs2, d2, ds2, p2, q2, rfl, rfl, rfl, h2, r2⟩ := trodAll_cons r1
  obtain ⟨v3, vs3, d3, ds3, p3, q3, rfl, rfl, rfl, h3, r3⟩ := trodAll_cons r2
  obtain ⟨rfl, rfl, rfl⟩ := trodAll_nil r3
  obtain rfl : args = #[v0, v1, v2, v3] := by cases args; simp_all
  obtain ⟨rfl, rfl⟩ := trodVars_none hV
  obtain ⟨cs, rfl, hcs⟩ := okWide_struct Try.underlying24 (hval 0 24 v0 rfl rfl)
  obtain ⟨a3, len3, cap3, rfl⟩ := okWide_slice Try.underlying22 (hval 3 22 v3 rfl rfl)
  have k0 := h0
  have lt0 : ∀ x ∈ p0, x.block < W.heap.size := by obtain ⟨m, hm⟩ := k0; exact DataW.trod_lt m _ _ _ hm
  have k3 := h3
  have lt3 : ∀ x ∈ p3, x.block < W.heap.size := by obtain ⟨m, hm⟩ := k3; exact DataW.trod_lt m _ _ _ hm
  obtain ⟨b1, rfl, rfl, rfl, w1⟩ := open_int Try.underlying25 (hval 1 25 v1 rfl rfl) h1
  obtain ⟨b2, rfl, rfl, rfl, w2⟩ := open_int Try.underlying25 (hval 2 25 v2 rfl rfl) h2
  obtain ⟨P, rfl⟩ := nat_of_u64 w1
  obtain ⟨Q, rfl⟩ := nat_of_u64 w2
  have fin : Calls Try.prog 5 #[.agg cs, .int .u64 (P : Nat), .int .u64 (Q : Nat), .slice a3 len3 cap3] W fun e w' => e = .returned (.bool true) ∧ Below W.heap.size W w' := by
    obtain ⟨fu3, hf3⟩ := h3
    obtain ⟨a, xs, c, e3, N3, n3, s3, hd3⟩ := open_nums hf3
    simp [Value.cells] at e3
    obtain ⟨rfl, rfl, rfl⟩ := e3
    obtain ⟨fu0, hf0⟩ := h0
    obtain ⟨ys, n, _, hx, _, hyl, hall⟩ := DataW.trod_struct Try.underlying24 hf0
    simp only [Prod.mk.injEq] at hx
    match ys, hyl, hx, hall with
    | [y0, y1, y2], _, hx, hall =>
      have g0 : DataW.trod enc Try.prog W 0 (fun _ => true) true n 3 (List.take (Try.prog.cellsOf 3) (List.drop 0 cs.toList)) = some y0 := hall 0 _ rfl
      have g1 : DataW.trod enc Try.prog W 0 (fun _ => true) true n 22 (List.take (Try.prog.cellsOf 22) (List.drop 1 cs.toList)) = some y1 := hall 1 _ rfl
      have g2 : DataW.trod enc Try.prog W 0 (fun _ => true) true n 3 (List.take (Try.prog.cellsOf 3) (List.drop 2 cs.toList)) = some y2 := hall 2 _ rfl
      rw [cells3] at g0 g2
      rw [cells22] at g1
      obtain ⟨K, e0, _, _⟩ := DataW.trod_int Try.underlying3 g0
      obtain ⟨a1, zs, c1, e1, N1, n1, s1, hd1⟩ := open_nums g1
      obtain ⟨N, e2, _, _⟩ := DataW.trod_int Try.underlying3 g2
      have q0 := take_one e0
      have q1 := take_one e1
      have q2 := take_one e2
      rw [cells24] at hcs
      obtain rfl : cs = #[.int .i64 K, .slice a1 zs.length c1, .int .i64 N] := by
        apply Array.ext
        · simpa using hcs
        · intro i hi hi2
          have hi3 : i < 3 := by omega
          rcases (by omega : i = 0 ∨ i = 1 ∨ i = 2) with rfl | rfl | rfl
          · rw [Array.getElem?_eq_getElem hi] at q0; simpa using q0
          · rw [Array.getElem?_eq_getElem hi] at q1; simpa using q1
          · rw [Array.getElem?_eq_getElem hi] at q2; simpa using q2
      have hpart := sized_part hsz (j := 0) (t := 24) (parts := [y0.1, y1.1, y2.1]) rfl (by rw [hx.1]; rfl) Try.underlying24
      exact back_all K N a1 c1 zs P Q a3 cap3 xs W N1 n1 (len_slice hpart (j := 1) rfl rfl hd1) s1 N3 n3 (len_slice hsz (j := 3) rfl rfl hd3)
  clear hA0 hval0
  refine fin.mono fun e W' ⟨he, bel⟩ => ?_
  subst he
  exact ⟨_, rfl, _, _, _, [], _, [], hW', trodAll_mk1 (shut_bool Try.underlying4 _), (trodAll_cons_mk (Below.trod laidOut (by kernel_rfl) (of_decide_eq_true (by kernel_rfl)) k0 bel lt0) (trodAll_cons_mk (shut_int Try.underlying25 w1) (trodAll_cons_mk (shut_int Try.underlying25 w2) (trodAll_cons_mk (Below.trod laidOut (by kernel_rfl) (of_decide_eq_true (by kernel_rfl)) k3 bel lt3) trodAll_mk0)))), rfl, bel.frame _, fun h => by cases h⟩

theorem odoBack_holds : Rows.OdoBackSaid :=
  OpenClaim.holds_of_wide 5 Try.f5 rfl rfl rfl rfl rfl rfl rfl ⟨rfl, rfl, rfl, rfl, rfl⟩ rfl rfl rfl rfl rfl (by kernel_rfl) Try.func5 (by kernel_rfl)
    (of_decide_eq_true (by kernel_rfl)) (by unfold Func.isWrapper; first | (rw [if_pos (by decide +kernel)]; kernel_rfl) | (rw [if_neg (by decide +kernel)]; exact ⟨rfl, rfl⟩))
    (fun os started H enc _ => odoBack_lifted os started H enc)
#print axioms odoBack_holds
end Go.Proofs.Ytghfomammdbgoaa
