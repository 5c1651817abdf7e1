/- StateCodes: the law. -/
import Derived.Test.YtbhgchhoeokjhaaDC
import Derived.Test.YtbhgchhoeokjhaaEQ
namespace Go.Proofs.Ytbhgchhoeokjhaa
open Go.RowKit M
set_option linter.unusedSimpArgs false
set_option linter.unusedVariables false

section
variable {w W : World} {b : Nat} {x y : FS} {ops : Array Oper} {rest : List Oper} {op : Oper} {a : Act} {Q : Exit → Act → World → Prop}
theorem wpList_runV (hw : Region.wanted op (yielded ops a.tmps) = true) {v : Value} (hr : (execOp a.eval op).run Try.prog w = .ok (.value v) W) (h : wpList Try.prog ops Q rest (a.put op.dst v) W) : wpList Try.prog ops Q (op :: rest) a w := by
  refine wpList_step fun K hK => ?_
  simp only [hw, if_true]
  unfold Oper.wp
  rw [hr]
  exact hK _ _ h
theorem exec_loadF (p : Operand) (ho : op.op = .load 25 p) (hp : a.eval p = .pointer (some ⟨b, 0, none⟩)) (hc : IsS w b 25 (encF x)) : (execOp a.eval op).run Try.prog w = .ok (.value (.agg (encF x).toArray)) w := by
  have hr := run_loadAt_mid (P := Try.prog) w b 0 25 _ _ (hc.range 0 49) Try.underlying25 rfl (by rw [whole]; exact infoFx x)
  rw [whole] at hr
  unfold execOp
  simp only [ho, hp, Sem.run_bind, hr, Result.andThen_ok, Sem.run_pure]
theorem wpList_loadGF (hw : Region.wanted op (yielded ops a.tmps) = true) (p : Operand) (ho : op.op = .load 25 p) (hp : a.eval p = .pointer (some ⟨b, 0, none⟩)) (hc : IsS w b 25 (encF x))
    (h : wpList Try.prog ops Q rest (a.put op.dst (.agg (encF x).toArray)) w) : wpList Try.prog ops Q (op :: rest) a w := wpList_runV hw (exec_loadF p ho hp hc) h
theorem wpList_eqGF (hw : Region.wanted op (yielded ops a.tmps) = true) (p q : Operand) (ho : op.op = .binOp .eql 25 p q 25) (hx : a.eval p = .agg (encF x).toArray) (hy : a.eval q = .agg (encF y).toArray) (h : wpList Try.prog ops Q rest (a.put op.dst (.bool (decide (x = y)))) w) : wpList Try.prog ops Q (op :: rest) a w := wpList_runV hw (exec_eqF ho hx hy) h
end
theorem num_any (e : Int) (w : World) : Calls Try.prog 11 #[.int .i64 e] w fun x w' => x = .returned (.int .i64 e) ∧ w' = w := by
  go_enter Try.func11, Try.ntmps11
  go_wp2
  go_ret
  exact ⟨rfl, rfl⟩
theorem decV_form (s : ByteArray) : ∃ (f : FS) (e : Int), decV s = .tuple #[.agg (encF f).toArray, .int .i64 e] := by
  unfold decV
  cases decO s with
  | none => exact ⟨_, _, rfl⟩
  | some f => exact ⟨_, _, rfl⟩
set_option maxRecDepth 100000 in
set_option maxHeartbeats 2000000 in
theorem codes_any (x : FS) (hx : Wf x) (s : ByteArray) (hs : s.size ≤ maxLen) (w : World) :
    Calls Try.prog 6 #[.agg (encF x).toArray, .string s] w fun e w' => e = .returned (.bool true) ∧ Below w.heap.size w w' := by
  have h1 := fun W => code_any x hx W
  have h2 := fun W => rcode_any x hx W
  have h3 := fun W => decode_any s hs W
  have h4 := fun W => rdecode_any s hs W
  obtain ⟨f, g, hd⟩ := decV_form s
  simp only [hd] at h3 h4
  simp only [codeV] at h1 h2
  generalize (⟨(codeF x).toArray⟩ : ByteArray) = a at *
  generalize ckF x = e0 at *
  clear hd hs hx
  have tk : True := trivial
  have tl : True := trivial
  go_enter Try.func6, Try.ntmps6
  go_wp2_with (first
    | (clear tk; refine wpList_boxS rfl _ _ rfl (encF x) rfl ?_; intro w1 b1 F1 I1)
    | (go_at_call 26; refine (h1 _).mono ?_; rintro e w2 ⟨rfl, B2⟩; have I2 := I1.grown B2; clear h1)
    | (go_at_call 27; refine (h2 _).mono ?_; rintro e w3 ⟨rfl, B3⟩; have I3 := I2.grown B3; clear h2)
    | (go_at_call 28; refine (h3 _).mono ?_; rintro e w4 ⟨rfl, B4⟩; clear h3)
    | (clear tl; have tm : True := trivial; refine wpList_allocS rfl _ rfl (encF FS.zero) zeroF ?_; intro w5 b5 F5 I5; have ts : True := trivial)
    | (clear ts; refine wpList_storeF rfl _ _ rfl rfl rfl I5 ?_; intro w6 U6 I6; have B6 : Below w4.heap.size w4 w6 := U6.trans (fresh_b F5) (by rw [F5.at']; exact Nat.le_refl _))
    | (go_at_call 29; refine (h4 _).mono ?_; rintro e w7 ⟨rfl, B7⟩; have I7 := I6.grown B7; clear h4)
    | (clear tm; refine wpList_allocS rfl _ rfl (encF FS.zero) zeroF ?_; intro w8 b8 F8 I8; have ts : True := trivial)
    | (clear ts; refine wpList_storeF rfl _ _ rfl rfl rfl I8 ?_; intro w9 U9 I9; have J9 := (I7.fresh F8).upd U9 (by have := I7.lt; rw [F8.at']; omega); have B9 : Below w7.heap.size w7 w9 := U9.trans (fresh_b F8) (by rw [F8.at']; exact Nat.le_refl _); have tf : True := trivial)
    | (go_at_call 11; refine (num_any _ _).mono ?_; rintro e w' ⟨rfl, hw'⟩; replace hw' := hw'.symm; subst hw')
    | (refine wpList_loadGF (by rfl) _ rfl rfl J9 ?_)
    | (refine wpList_loadGF (by rfl) _ rfl rfl I9 ?_)
    | (refine wpList_eqGF (by rfl) _ _ rfl rfl rfl ?_)
    | (refine wpList_loadF rfl _ rfl rfl I1 ?_)
    | (refine wpList_loadF rfl _ rfl rfl I2 ?_))
  go_ret
  exact ⟨rfl, Below.then (Below.then (Below.then (Below.then (Below.then (Below.then (fresh_b F1) B2) B3) B4) B6) B7) B9⟩
end Go.Proofs.Ytbhgchhoeokjhaa
