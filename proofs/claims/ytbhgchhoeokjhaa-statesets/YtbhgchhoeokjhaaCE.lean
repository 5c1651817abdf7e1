/- Code of the reference; Decode in plain mathematics; struct literals of final states. -/
import Derived.Test.YtbhgchhoeokjhaaCD
namespace Go.Proofs.Ytbhgchhoeokjhaa
open Go.RowKit M
set_option linter.unusedSimpArgs false
set_option linter.unusedVariables false

set_option maxRecDepth 100000 in
set_option maxHeartbeats 2000000 in
theorem rcode_any (x : FS) (hx : Wf x) (w : World) :
    Calls Try.prog 27 #[.agg (encF x).toArray] w fun e w' => e = .returned (codeV x) ∧ Below w.heap.size w w' := by
  have hC := fun W => rcheck_any x W
  cases hok : okF x with
  | false =>
    have hck : ckF x = 4 := by unfold ckF; rw [hok]; rfl
    have HV : Hid (codeV x = .tuple #[.string ⟨#[]⟩, .int .i64 4]) := by show _ = _; unfold codeV codeF; rw [hok, hck]; rfl
    rw [hck] at hC
    have tk : True := trivial
    clear hok hck hx
    go_enter Try.func27, Try.ntmps27
    go_wp2_with (first
      | (clear tk; refine wpList_boxS rfl _ _ rfl (encF x) rfl ?_; intro W b F I)
      | (refine wpList_loadF rfl _ rfl rfl I ?_)
      | (go_at_call 13; refine (hC _).mono ?_; rintro e w1 ⟨rfl, B1⟩))
    go_ret2
    exact ⟨congrArg Ending.returned HV.out.symm, Below.then (fresh_b F) B1⟩
  | true =>
    have hck : ckF x = 0 := by unfold ckF; rw [hok]; rfl
    obtain ⟨N, hN, hN'⟩ := okF_n hok
    have HV : Hid (codeV x = .tuple #[.string ⟨(codeK N x.v N).toArray⟩, .int .i64 0]) := by
      show _ = _
      unfold codeV codeF; rw [hok, hck, if_pos rfl, hN]; rfl
    rw [hck] at hC
    have h0 : ∀ w b, IsS w b 25 (encF x) → w.cell? ⟨b, 0, none⟩ = some (.int .i64 (N : Int)) := fun w b I => by rw [← hN]; exact I.cell 0
    have hv : ∀ w b, IsS w b 25 (encF x) → ∀ j, j < 48 → w.cell? ⟨b, 1 + j, none⟩ = some (.int .i64 (x.v.getD j 0)) := fun w b I j hj => by
      rw [I.cell, show 1 + j = j + 1 by omega, encF_get x _ (by omega)]
    have hP0 := fun W => rput_any (N : Int) (by omega) (by omega) W
    have HK0 : Hid ((⟨(M.putL (N : Int)).toArray⟩ : ByteArray) = ⟨(codeK N x.v 0).toArray⟩) := by show _ = _; rw [codeK_zero]
    clear hok hck hN
    obtain ⟨S, hS⟩ : ∃ S : Nat → ByteArray, ∀ k, (⟨(codeK N x.v k).toArray⟩ : ByteArray) = S k := ⟨_, fun _ => rfl⟩
    have hSz : ∀ k, (S k).size ≤ 490 := fun k => by rw [← hS]; have := codeK_len x hx N k hN'; simpa [ByteArray.size] using this
    rw [hS] at HK0 HV
    generalize (⟨(M.putL (N : Int)).toArray⟩ : ByteArray) = p0 at *
    have tk : True := trivial
    go_enter Try.func27, Try.ntmps27
    go_wp2_with (first
      | (clear tk; refine wpList_boxS rfl _ _ rfl (encF x) rfl ?_; intro W b F I)
      | (refine wpList_loadF rfl _ rfl rfl I ?_)
      | (go_at_call 13; refine (hC _).mono ?_; rintro e w1 ⟨rfl, B1⟩; have I1 := I.grown B1; have c0 := h0 _ _ I1; clear hC)
      | (go_at_call 44; refine (hP0 _).mono ?_; rintro e w3 ⟨rfl, B3⟩; have I3 := I1.grown B3; clear hP0))
    clear c0 I1
    have B03 : Below w.heap.size w w3 := Below.then (Below.then (fresh_b F) B1) B3
    go_loopw [4, 5] (fun s i wr => ∃ k : Nat, k ≤ N ∧ i = .int .i64 (k : Int) ∧ s = .string (S k) ∧ Below w3.heap.size w3 wr) (fun _ i _ => N - (intOf i).toNat)
    case atStart => exact ⟨0, Nat.zero_le _, rfl, by rw [← HK0.out], Below.refl _ _⟩
    case round =>
      obtain ⟨k, hk, rfl, rfl, BR⟩ := hrel
      have IR := I3.grown BR
      have cR := h0 _ _ IR
      by_cases hlt : k < N
      · have ck := hv _ _ IR k (by omega)
        have hyb := hx.at k
        have HS : (S k) ++ (⟨(M.putL (x.v.getD k 0)).toArray⟩ : ByteArray) = S (k + 1) := by
          rw [← hS, ← hS, codeK_succ N x.v k (by rw [x.h]; omega)]
          apply ByteArray.ext; simp
        generalize hy : x.v.getD k 0 = y at *
        clear hy hS
        have hP := fun W => rput_any y hyb.1 hyb.2 W
        have hq1 : (⟨(M.putL y).toArray⟩ : ByteArray).size ≤ 10 := by have := (M.putL_len hyb.1 hyb.2).2; simpa [ByteArray.size] using this
        have hk1 := hSz k
        generalize (⟨(M.putL y).toArray⟩ : ByteArray) = q at *
        go_wp2_with (first
          | (go_at_call 44; refine (hP _).mono ?_; rintro e w5 ⟨rfl, B5⟩; clear hP))
        have B7 : Below w3.heap.size w3 w5 := Below.then BR B5
        go_roundw
        case rel => exact ⟨k + 1, by omega, by go_num, by first | rfl | rw [← HS], B7⟩
        case measure => simp [intOf]; omega
      · have e : k = N := by omega
        subst e
        go_wp2
        go_ret2
        exact ⟨congrArg Ending.returned HV.out.symm, Below.then B03 BR⟩

/-- A final state of some values. -/
def mkF (n : Int) (vs : List Int) : FS := ⟨n, (vs ++ List.replicate 48 0).take 48, by simp⟩
theorem mkF_nil : mkF 0 [] = FS.zero := FS.eq rfl (by simp [mkF, FS.zero])
theorem mkF_getD (n : Int) (vs : List Int) (j : Nat) (hj : j < 48) : (mkF n vs).v.getD j 0 = vs.getD j 0 := by
  unfold mkF
  simp only [List.getD_eq_getElem?_getD, List.getElem?_take, if_pos hj]
  by_cases h : j < vs.length
  · rw [List.getElem?_append_left h]
  · rw [List.getElem?_append_right (by omega), List.getElem?_eq_none (l := vs) (by omega), List.getElem?_replicate, if_pos (by omega)]; rfl
theorem encF_ext {a : List Value} {y : FS} (hl : a.length = 49) (h0 : a[0]? = some (.int .i64 y.n)) (h : ∀ j, j < 48 → a[j + 1]? = some (.int .i64 (y.v.getD j 0))) : a = encF y := by
  refine List.ext_getElem? fun i => ?_
  cases i with
  | zero => exact h0
  | succ j =>
    by_cases hj : j < 48
    · rw [h j hj, encF_get y j hj]
    · rw [List.getElem?_eq_none (by omega), List.getElem?_eq_none (by rw [encF_len]; omega)]
theorem encF_set (n : Int) (vs : List Int) (v : Int) (h : vs.length < 48) : (encF (mkF n vs)).set (1 + vs.length) (.int .i64 v) = encF (mkF n (vs ++ [v])) := by
  refine encF_ext (by rw [List.length_set, encF_len]) (by rw [List.getElem?_set_ne (by omega)]; rfl) fun j hj => ?_
  rw [mkF_getD _ _ _ hj]
  by_cases e : j = vs.length
  · subst e
    rw [Nat.add_comm 1, List.getElem?_set_self (by rw [encF_len]; omega)]
    simp
  · rw [List.getElem?_set_ne (by omega), encF_get _ _ hj, mkF_getD _ _ _ hj]
    congr 2
    rw [List.getD_eq_getElem?_getD, List.getD_eq_getElem?_getD]
    by_cases h' : j < vs.length
    · rw [List.getElem?_append_left h']
    · rw [List.getElem?_eq_none (by omega), List.getElem?_append_right (by omega), List.getElem?_eq_none (by simp; omega)]
/-- So many values are taken from a place on. -/
def manyA (s : ByteArray) : Nat → Nat → Option (List Int × Nat)
  | 0, p => some ([], p)
  | k + 1, p => match takeA s (p : Int) with
    | none => none
    | some (v, n) => match manyA s k (p + n) with
      | none => none
      | some (vs, e) => some (v :: vs, e)
/-- The final state that has a code. -/
def decO (s : ByteArray) : Option FS :=
  match takeA s 0 with
  | none => none
  | some (n, k) => if 0 ≤ n ∧ n ≤ 48 then
      match manyA s n.toNat k with
      | none => none
      | some (vs, e) => if e = s.size then some (mkF n vs) else none
    else none
def decV (s : ByteArray) : Value := match decO s with
  | none => .tuple #[.agg (encF FS.zero).toArray, .int .i64 5]
  | some f => .tuple #[.agg (encF f).toArray, .int .i64 0]
section
variable {w : World} {ops : Array Oper} {rest : List Oper} {op : Oper} {a : Act} {Q : Exit → Act → World → Prop}
theorem run_build0 (ho : op.op = .build 25 #[]) : (execOp a.eval op).run Try.prog w = .ok (.value (.agg (encF FS.zero).toArray)) w := by
  have h : Try.t25.zero = some (.agg (encF FS.zero).toArray) := by kernel_rfl
  unfold execOp
  simp [ho, go_sem, zeroValue, h]
theorem run_buildN {x : Operand} {n : Int} (ho : op.op = .build 25 #[(0, x)]) (hx : a.eval x = .int .i64 n) : (execOp a.eval op).run Try.prog w = .ok (.value (.agg (encF (mkF n [])).toArray)) w := by
  have h : Try.t25.zero = some (.agg (encF FS.zero).toArray) := by kernel_rfl
  generalize a.eval = ev at hx ⊢
  unfold execOp
  have e1 : ¬ (encF FS.zero = []) := by intro e; have := encF_len FS.zero; rw [e] at this; simp at this
  have e2 : (encF FS.zero).set 0 (.int .i64 n) = encF (mkF n []) := by unfold encF; simp [mkF, FS.zero]
  simp [ho, hx, go_sem, zeroValue, h, e1, e2]
end
end Go.Proofs.Ytbhgchhoeokjhaa
