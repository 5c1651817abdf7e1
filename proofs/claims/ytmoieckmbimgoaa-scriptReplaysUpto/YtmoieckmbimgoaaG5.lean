/- The end of a table's machine. -/
import Derived.Test.YtmoieckmbimgoaaG2
namespace Go.Proofs.Ytmoieckmbimgoaa
open Go.RowKit M
set_option linter.unusedSimpArgs false
set_option linter.unusedVariables false

def arr1 (n : Int) : List Value := .int .i64 n :: List.replicate 47 (.int .i64 0)
theorem fin1 (n : Int) : finL [n] = .int .i64 1 :: arr1 n := rfl
theorem len_fin (l : List Int) (h : l.length ≤ 48) : (finL l).length = (finL []).length := by rw [finL_len h, finL_len (vs := []) (by simp)]
theorem info_fin (l : List Int) (h : l.length ≤ 48) : (Try.prog.info? 42).map (·.size) = some (finL l).length := by rw [finL_len h]; exact infoFin
theorem build_arr (n : Int) (w : World) {op : Oper} {a : Act} {x : Operand} (ho : op.op = .build 40 #[(0, x)]) (hx : a.eval x = .int .i64 n) : (execOp a.eval op).run Try.prog w = .ok (.value (.agg (arr1 n).toArray)) w := by
  have h : Try.t40.zero = some (.agg (List.replicate 48 (Value.int .i64 0)).toArray) := by kernel_rfl
  generalize a.eval = ev at hx ⊢
  unfold execOp
  simp [ho, hx, go_sem, zeroValue, h, arr1]
theorem fold_fin (n : Int) : List.foldl (fun (cs : Array Value) (x : Value × Nat) => cs.setIfInBounds (1 + x.snd) x.fst) ((finL []).set 0 (Value.int IntKind.i64 1)).toArray (arr1 n).zipIdx = (finL [n]).toArray := by kernel_rfl
set_option maxRecDepth 100000 in
theorem build_fin1 (n : Int) (w : World) {op : Oper} {a : Act} {x : Operand} (ho : op.op = .build 42 #[(0, .const (.int .i64 1)), (1, x)]) (hx : a.eval x = .agg (arr1 n).toArray) : (execOp a.eval op).run Try.prog w = .ok (.value (.agg (finL [n]).toArray)) w := by
  have h : Try.t42.zero = some (.agg (finL []).toArray) := by kernel_rfl
  have hc : a.eval (.const (.int .i64 1)) = .int .i64 1 := rfl
  generalize a.eval = ev at hx hc ⊢
  have e1 : ¬ (finL [] = []) := by intro e; have := finL_len (vs := []) (by simp); rw [e] at this; simp at this
  have e2 : (arr1 n).length = 48 := by simp [arr1]
  have e3 : (finL []).length = 49 := finL_len (by simp)
  unfold execOp
  simp only [ho]
  simp [hx, hc, go_sem, zeroValue, h, e1, e2, e3]
  exact fold_fin n
section
variable {w : World} {ops : Array Oper} {rest : List Oper} {op : Oper} {a : Act} {Q : Exit → Act → World → Prop}
theorem wpList_arr1 (hgd : op.guard = none) (x : Operand) (ho : op.op = .build 40 #[(0, x)]) (n : Int) (hx : a.eval x = .int .i64 n) (h : wpList Try.prog ops Q rest (a.put op.dst (.agg (arr1 n).toArray)) w) : wpList Try.prog ops Q (op :: rest) a w := by
  refine wpList_plain hgd fun K hK => ?_
  unfold Oper.wp
  rw [build_arr n w ho hx]
  exact hK _ _ h
theorem wpList_fin1 (hgd : op.guard = none) (x : Operand) (ho : op.op = .build 42 #[(0, .const (.int .i64 1)), (1, x)]) (n : Int) (hx : a.eval x = .agg (arr1 n).toArray) (h : wpList Try.prog ops Q rest (a.put op.dst (.agg (finL [n]).toArray)) w) : wpList Try.prog ops Q (op :: rest) a w := by
  refine wpList_plain hgd fun K hK => ?_
  unfold Oper.wp
  rw [build_fin1 n w ho hx]
  exact hK _ _ h
end
/-- The final state of a state's text, if it ends. -/
def endB (g : GR) (n : Nat) : Bool := !(bits BinOp.and IntKind.u64 (g.ends / 2 ^ n) 1 == 0)
def endG (g : GR) (T : ByteArray) : List Int := match numG g T with | none => [] | some n => if 63 < (n : Int) then [] else if endB g n then [(n : Int)] else []
theorem endG_len (g : GR) (T : ByteArray) : (endG g T).length ≤ 48 := by
  unfold endG; split
  · simp
  · split
    · simp
    · split <;> simp
def isEnd (l : List Int) : Bool := !l.isEmpty
set_option maxRecDepth 100000 in
set_option maxHeartbeats 4000000 in
theorem end_any (g : GR) (hf : g.Few) (T : ByteArray) (hT : T.size ≤ 1099511627776) (bn bg : Nat) (w : World) (hM : MG w g bn bg) :
    Calls Try.prog 23 #[.string T, .pointer (some ⟨bn, 0, none⟩), .pointer (some ⟨bg, 0, none⟩)] w fun e w' => e = .returned (.tuple #[.agg (finL (endG g T)).toArray, .bool (isEnd (endG g T))]) ∧ Below w.heap.size w w' := by
  have hN := fun W (h : GB W g bg) => num_any g hf T hT bg W h
  have HM : Hid (MG w g bn bg) := hM
  have yf : w.cell? ⟨bn, 0, none⟩ = _ := hM.f.cell 0
  simp only [List.getElem?_cons_zero] at yf
  obtain ⟨a, c, hS, hR⟩ := hM.t.ex
  have y1 := hS.cell 1
  simp only [List.getElem?_cons_zero, List.getElem?_cons_succ] at y1
  obtain ⟨E, hE⟩ : ∃ E, g.ends = E := ⟨_, rfl⟩
  rw [hE] at y1
  cases hn : numG g T with
  | none =>
    have e : endG g T = [] := by unfold endG; rw [hn]
    have en : numI g T = -1 := by unfold numI; rw [hn]
    rw [e]
    rw [en] at hN
    clear hM hf hT en hn hS hR e hE
    have ee : isEnd [] = false := rfl
    rw [ee]
    clear ee
    have t1 : True := trivial
    have t2 : True := trivial
    have t3 : True := trivial
    have t4 : True := trivial
    have t5 : True := trivial
    go_enter Try.func23, Try.ntmps23
    go_wp2_with (first
      | (clear t1; refine wpList_allocS rfl 42 rfl (finL []) zeroFin ?_; intro W1 b1 F1 C1; have B1 := F_b F1; have yf1 := cell_grow yf B1; have hb1 : w.heap.size ≤ b1 := Nat.le_of_eq F1.at'.symm; clear F1)
      | (go_at_call 20; refine (hN _ (HM.out.t.below B1)).mono ?_; rintro e W2 ⟨rfl, B2⟩; have B3 := Below.then B1 B2; have C2 := C1.grown B2; have z1 := cell_grow y1 B3; clear C1 B1 B2 yf1)
      | (clear t2; refine wpList_b0Fin rfl rfl ?_)
      | (clear t5; refine wpList_storeW rfl 42 _ _ rfl rfl (finL []) rfl C2 (len_fin _ (by simp)) (info_fin _ (by simp)) (finL_one _) ?_; intro W4 U4 C4; have B4 := U4.trans B3 hb1; clear C2 U4))
    exact ret_ST rfl rfl rfl C4 _ Try.underlying42 rfl (info_fin _ (by simp)) _ rfl ⟨rfl, B4⟩
  | some n =>
    have en : numI g T = n := by unfold numI; rw [hn]
    have hlt : n < 200 := Nat.lt_of_lt_of_le (num_lt hn) hf.t
    rw [en] at hN
    have c0 : ((n : Int) < 0) = False := eq_false (by omega)
    by_cases h63 : 63 < (n : Int)
    · have e : endG g T = [] := by unfold endG; rw [hn]; simp only [h63, if_true]
      have c1 : (63 < (n : Int)) = True := eq_true h63
      rw [e]
      have ee : isEnd [] = false := rfl
      rw [ee]
      clear hM hf hT en hn hS hR e hE ee h63
      have t1 : True := trivial
      have t2 : True := trivial
      have t3 : True := trivial
      have t4 : True := trivial
      have t5 : True := trivial
      go_enter Try.func23, Try.ntmps23
      go_wp2_with (first
        | (clear t1; refine wpList_allocS rfl 42 rfl (finL []) zeroFin ?_; intro W1 b1 F1 C1; have B1 := F_b F1; have yf1 := cell_grow yf B1; have hb1 : w.heap.size ≤ b1 := Nat.le_of_eq F1.at'.symm; clear F1)
        | (go_at_call 20; refine (hN _ (HM.out.t.below B1)).mono ?_; rintro e W2 ⟨rfl, B2⟩; have B3 := Below.then B1 B2; have C2 := C1.grown B2; have z1 := cell_grow y1 B3; clear C1 B1 B2 yf1)
        | (clear t2; refine wpList_b0Fin rfl rfl ?_)
        | (clear t5; refine wpList_storeW rfl 42 _ _ rfl rfl (finL []) rfl C2 (len_fin _ (by simp)) (info_fin _ (by simp)) (finL_one _) ?_; intro W4 U4 C4; have B4 := U4.trans B3 hb1; clear C2 U4))
      exact ret_ST rfl rfl rfl C4 _ Try.underlying42 rfl (info_fin _ (by simp)) _ rfl ⟨rfl, B4⟩
    · have c1 : (63 < (n : Int)) = False := eq_false h63
      cases hb : endB g n with
      | false =>
        have e : endG g T = [] := by unfold endG; rw [hn]; simp only [h63, if_false, hb]; rfl
        have c2 : (bits BinOp.and IntKind.u64 (E / 2 ^ n) 1 == 0) = true := by unfold endB at hb; rw [hE] at hb; simpa using hb
        rw [e]
        have ee : isEnd [] = false := rfl
        rw [ee]
        clear hM hf hT en hn hS hR e hE ee hb
        have t1 : True := trivial
        have t2 : True := trivial
        have t3 : True := trivial
        have t4 : True := trivial
        have t5 : True := trivial
        go_enter Try.func23, Try.ntmps23
        go_wp2_with (first
          | (clear t1; refine wpList_allocS rfl 42 rfl (finL []) zeroFin ?_; intro W1 b1 F1 C1; have B1 := F_b F1; have yf1 := cell_grow yf B1; have hb1 : w.heap.size ≤ b1 := Nat.le_of_eq F1.at'.symm; clear F1)
          | (go_at_call 20; refine (hN _ (HM.out.t.below B1)).mono ?_; rintro e W2 ⟨rfl, B2⟩; have B3 := Below.then B1 B2; have C2 := C1.grown B2; have z1 := cell_grow y1 B3; clear C1 B1 B2 yf1)
          | (clear t2; refine wpList_b0Fin rfl rfl ?_)
          | (clear t5; refine wpList_storeW rfl 42 _ _ rfl rfl (finL []) rfl C2 (len_fin _ (by simp)) (info_fin _ (by simp)) (finL_one _) ?_; intro W4 U4 C4; have B4 := U4.trans B3 hb1; clear C2 U4))
        exact ret_ST rfl rfl rfl C4 _ Try.underlying42 rfl (info_fin _ (by simp)) _ rfl ⟨rfl, B4⟩
      | true =>
        have e : endG g T = [(n : Int)] := by unfold endG; rw [hn]; simp only [h63, if_false, hb, if_true]
        have c2 : (bits BinOp.and IntKind.u64 (E / 2 ^ n) 1 == 0) = false := by unfold endB at hb; rw [hE] at hb; simpa using hb
        rw [e]
        have ee : isEnd [(n : Int)] = true := rfl
        rw [ee]
        clear hM hf hT en hn hS hR e hE ee hb
        have t1 : True := trivial
        have t2 : True := trivial
        have t3 : True := trivial
        have t4 : True := trivial
        have t5 : True := trivial
        go_enter Try.func23, Try.ntmps23
        go_wp2_with (first
          | (clear t1; refine wpList_allocS rfl 42 rfl (finL []) zeroFin ?_; intro W1 b1 F1 C1; have B1 := F_b F1; have yf1 := cell_grow yf B1; have hb1 : w.heap.size ≤ b1 := Nat.le_of_eq F1.at'.symm; clear F1)
          | (go_at_call 20; refine (hN _ (HM.out.t.below B1)).mono ?_; rintro e W2 ⟨rfl, B2⟩; have B3 := Below.then B1 B2; have C2 := C1.grown B2; have z1 := cell_grow y1 B3; clear C1 B1 B2 yf1)
          | (clear t2; refine wpList_arr1 rfl _ rfl (n : Int) rfl ?_)
          | (clear t3; refine wpList_fin1 rfl _ rfl (n : Int) rfl ?_)
          | (clear t5; refine wpList_storeW rfl 42 _ _ rfl rfl (finL [(n : Int)]) rfl C2 (len_fin _ (by simp)) (info_fin _ (by simp)) (finL_one _) ?_; intro W4 U4 C4; have B4 := U4.trans B3 hb1; clear C2 U4))
        exact ret_ST rfl rfl rfl C4 _ Try.underlying42 rfl (info_fin _ (by simp)) _ rfl ⟨rfl, B4⟩
end Go.Proofs.Ytmoieckmbimgoaa
