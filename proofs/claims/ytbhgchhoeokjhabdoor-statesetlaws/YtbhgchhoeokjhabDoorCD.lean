/- Code of the program. -/
import Derived.Test.YtbhgchhoeokjhabDoorBU
import Derived.Test.YtbhgchhoeokjhabDoorQD
namespace Go.Proofs.YtbhgchhoeokjhabDoor
open Go.RowKit M
set_option linter.unusedSimpArgs false
set_option linter.unusedVariables false

/-- Values that an int64 holds. -/
def Wf (x : FS) : Prop := ∀ v ∈ x.v, -9223372036854775808 ≤ v ∧ v ≤ 9223372036854775807
theorem Wf.at {x : FS} (h : Wf x) (j : Nat) : -9223372036854775808 ≤ x.v.getD j 0 ∧ x.v.getD j 0 ≤ 9223372036854775807 := by
  rw [List.getD_eq_getElem?_getD]
  cases hq : x.v[j]? with
  | none => simp
  | some v => simpa using h v (List.mem_of_getElem? hq)
/-- The code of the first values. -/
def codeK (N : Nat) (l : List Int) (k : Nat) : List UInt8 := M.putL (N : Int) ++ (l.take k).flatMap M.putL
theorem codeK_zero (N : Nat) (l : List Int) : codeK N l 0 = M.putL (N : Int) := by simp [codeK]
theorem codeK_succ (N : Nat) (l : List Int) (k : Nat) (h : k < l.length) : codeK N l (k + 1) = codeK N l k ++ M.putL (l.getD k 0) := by
  unfold codeK
  rw [List.take_succ_eq_append_getElem h, List.flatMap_append, List.append_assoc]
  simp [h]
theorem flat_put_len (l : List Int) (h : ∀ v ∈ l, -9223372036854775808 ≤ v ∧ v ≤ 9223372036854775807) : (l.flatMap M.putL).length ≤ 10 * l.length := by
  induction l with
  | nil => simp
  | cons v l ih =>
    have h1 := (M.putL_len (h v (by simp)).1 (h v (by simp)).2).2
    have h2 := ih fun u hu => h u (by simp [hu])
    rw [List.flatMap_cons, List.length_append, List.length_cons]; omega
theorem codeK_len (x : FS) (hx : Wf x) (N k : Nat) (hN : N ≤ 48) : (codeK N x.v k).length ≤ 490 := by
  unfold codeK
  rw [List.length_append]
  have h1 := (M.putL_len (v := (N : Int)) (by omega) (by omega)).2
  have h2 := flat_put_len (x.v.take k) fun v hv => hx v (List.mem_of_mem_take hv)
  rw [List.length_take, x.h] at h2
  omega
/-- What Code answers. -/
def codeF (x : FS) : List UInt8 := if okF x then codeK x.n.toNat x.v x.n.toNat else []
def codeV (x : FS) : Value := .tuple #[.string ⟨(codeF x).toArray⟩, .int .i64 (ckF x)]
theorem okF_n {x : FS} (h : okF x = true) : ∃ N : Nat, x.n = (N : Int) ∧ N ≤ 48 := by
  unfold okF at h
  simp only [Bool.and_eq_true, decide_eq_true_eq] at h
  exact ⟨x.n.toNat, by omega, by omega⟩
theorem build_grown {T e : TypeId} {B b : Nat} {bs : List Value} {w w' : World} (h : Lib.IsBuilder T e B b bs w) (hB : Below w.heap.size w w') : Lib.IsBuilder T e B b bs w' := by
  rcases h with ⟨h1, v, h2, h3, h4⟩ | ⟨h1, v, h2, h3, h4⟩
  · exact .inl ⟨h1, v, (hB.block b (Array.getElem?_eq_some_iff.1 h2).1).trans h2, own_belowW h3 hB, h4⟩
  · exact .inr ⟨h1, v, (hB.block b (Array.getElem?_eq_some_iff.1 h2).1).trans h2, own_belowW h3 hB, h4⟩
theorem build_new {W : World} {B b : Nat} (hB : B ≤ b) (I : IsS W b 60 [.pointer none, .slice none 0 0]) : Lib.IsBuilder 60 5 B b (Lib.byteCells []) W :=
  .inl ⟨hB, _, I, World.ownsRow_nil _ _ _ _, by intro e; cases e⟩
theorem zeroB (w : World) : (zeroValue 60).run Tryd.prog w = .ok (.agg [.pointer none, .slice none 0 0].toArray) w := by
  have h : Tryd.t60.zero = some (.agg [.pointer none, .slice none 0 0].toArray) := by kernel_rfl
  simp [go_sem, zeroValue, h]
theorem fresh_b {w W : World} {b : Nat} (F : Fresh w W b) : Below w.heap.size w W := F.below.mono (by rw [F.at']; exact Nat.le_refl _)
section
variable {w : World} {b : Nat} {x : FS} {ops : Array Oper} {rest : List Oper} {op : Oper} {a : Act} {Q : Exit → Act → World → Prop}
theorem whole (x : FS) : ((encF x).drop 0).take 49 = encF x := by rw [List.drop_zero, List.take_of_length_le (by rw [encF_len]; exact Nat.le_refl _)]
theorem wpList_loadF (hgd : op.guard = none) (y : Operand) (ho : op.op = .load 27 y) (hx : a.eval y = .pointer (some ⟨b, 0, none⟩)) (hc : IsS w b 27 (encF x))
    (h : wpList Tryd.prog ops Q rest (a.put op.dst (.agg (encF x).toArray)) w) : wpList Tryd.prog ops Q (op :: rest) a w := by
  refine wpList_loadS hgd 27 y ho hx hc 49 _ Tryd.underlying27 rfl ?_ ?_
  · rw [whole]; exact infoFx x
  · rw [whole]; exact h
end
set_option maxRecDepth 100000 in
set_option maxHeartbeats 2000000 in
theorem code_any (x : FS) (hx : Wf x) (w : World) :
    Calls Tryd.prog 17 #[.agg (encF x).toArray] w fun e w' => e = .returned (codeV x) ∧ Below w.heap.size w w' := by
  have hC := fun W => check_any x W
  cases hok : okF x with
  | false =>
    have hck : ckF x = 4 := by unfold ckF; rw [hok]; rfl
    have HV : Hid (codeV x = .tuple #[.string ⟨#[]⟩, .int .i64 4]) := by show _ = _; unfold codeV codeF; rw [hok, hck]; rfl
    rw [hck] at hC
    have tk : True := trivial
    clear hok hck hx
    go_enter Tryd.func17, Tryd.ntmps17
    go_wp2_with (first
      | (clear tk; refine wpList_boxS rfl _ _ rfl (encF x) rfl ?_; intro W b F I)
      | (refine wpList_loadF rfl _ rfl rfl I ?_)
      | (go_at_call 15; refine (hC _).mono ?_; rintro e w1 ⟨rfl, B1⟩))
    go_ret2
    exact ⟨congrArg Ending.returned HV.out.symm, Below.then (fresh_b F) B1⟩
  | true =>
    have hck : ckF x = 0 := by unfold ckF; rw [hok]; rfl
    obtain ⟨N, hN, hN'⟩ := okF_n hok
    have HV : Hid (codeV x = .tuple #[.string ⟨(codeK N x.v N).toArray⟩, .int .i64 0]) := by
      show _ = _
      unfold codeV codeF; rw [hok, hck, if_pos rfl, hN]; rfl
    rw [hck] at hC
    have h0 : ∀ w b, IsS w b 27 (encF x) → w.cell? ⟨b, 0, none⟩ = some (.int .i64 (N : Int)) := fun w b I => by rw [← hN]; exact I.cell 0
    have hv : ∀ w b, IsS w b 27 (encF x) → ∀ j, j < 48 → w.cell? ⟨b, 1 + j, none⟩ = some (.int .i64 (x.v.getD j 0)) := fun w b I j hj => by
      rw [I.cell, show 1 + j = j + 1 by omega, encF_get x _ (by omega)]
    have hrun : ∀ w b, (Instr.sliceAt 25 (.pointer (some ⟨b, 1, none⟩)) none (some (.int .i64 (N : Int))) none).run Tryd.prog w = .ok (.slice (some ⟨b, 1, none⟩) N 48) w := fun w b => run_upto w b N hN'
    have hP0 := fun W => put_any (N : Int) (by omega) (by omega) W
    have HK0 : Hid (codeK N x.v 0 = M.putL (N : Int)) := codeK_zero _ _
    have hlen := fun k => codeK_len x hx N k hN'
    have hpl : (M.putL (N : Int)).length ≤ 490 := by rw [← codeK_zero N x.v]; exact hlen 0
    clear hok hck hN
    generalize hq : M.putL (N : Int) = p0 at *
    clear hq
    have tk : True := trivial
    have tl : True := trivial
    have tw : True := trivial
    go_enter Tryd.func17, Tryd.ntmps17
    go_wp2_with (first
      | (clear tk; refine wpList_boxS rfl _ _ rfl (encF x) rfl ?_; intro W b F I)
      | (refine wpList_loadF rfl _ rfl rfl I ?_)
      | (go_at_call 15; refine (hC _).mono ?_; rintro e w1 ⟨rfl, B1⟩; have I1 := I.grown B1; have c0 := h0 _ _ I1; clear hC)
      | (clear tl; refine wpList_allocS rfl _ rfl [.pointer none, .slice none 0 0] zeroB ?_; intro w2 b2 F2 N2; have B2 := fresh_b F2; have I2 := I1.grown B2; have c2 := h0 _ _ I2; have hb2 : w1.heap.size ≤ b2 := (by rw [F2.at']; exact Nat.le_refl _); have L2 := build_new hb2 N2)
      | (go_at_call 31; refine (hP0 _).mono ?_; rintro e w3 ⟨rfl, B3⟩; have L3 := build_grown L2 B3; have I3 := I2.grown B3; clear hP0)
      | (go_at_call 30; refine (writeString_any w1.heap.size b2 [] ⟨p0.toArray⟩ _ L3 (by simp [ByteArray.size]; omega) (by have := B2.size; have := B3.size; omega)).mono ?_; rintro e w4 ⟨rfl, L4, B4⟩; have I4 := I3.below B4 I1.lt; have c4 := h0 _ _ I4; have B14 : Below w1.heap.size w1 w4 := ((B2.trans (B3.mono B2.size)).trans B4)))
    have H4 : Hid (Lib.IsBuilder 60 5 w1.heap.size b2 (Lib.byteCells (codeK N x.v 0)) w4) := by show Lib.IsBuilder _ _ _ _ _ _; rw [HK0.out]; exact L4
    clear L4 L3 L2 I3 I2 c0 c2 c4 N2 F2 hb2 B2 B3 B4 HK0 hpl
    go_loopw [19] (fun i wr => ∃ k : Nat, k ≤ N ∧ i = .int .i64 (k : Int) ∧ Hid (Lib.IsBuilder 60 5 w1.heap.size b2 (Lib.byteCells (codeK N x.v k)) wr) ∧ Below w1.heap.size w1 wr) (fun i _ => N - (intOf i).toNat)
    case atStart => exact ⟨0, Nat.zero_le _, rfl, H4, B14⟩
    case round =>
      obtain ⟨k, hk, rfl, HL, BR⟩ := hrel
      have IR := I1.below BR I1.lt
      have hsR := BR.size
      by_cases hlt : k < N
      · have ck := hv _ _ IR k (by omega)
        have hyb := hx.at k
        have HS : Hid (codeK N x.v (k + 1) = codeK N x.v k ++ M.putL (x.v.getD k 0)) := codeK_succ N x.v k (by rw [x.h]; omega)
        have hl1 := hlen (k + 1)
        rw [HS.out, List.length_append] at hl1
        generalize hy : x.v.getD k 0 = y at *
        clear hy
        have hP := fun W => put_any y hyb.1 hyb.2 W
        obtain ⟨q, hq⟩ : ∃ q, M.putL y = q := ⟨_, rfl⟩
        simp only [hq] at hP
        rw [hq] at HS hl1
        clear hq
        go_wp2_with (first
          | (go_at_call 31; refine (hP _).mono ?_; rintro e w5 ⟨rfl, B5⟩; have L5 := build_grown HL.out B5; clear hP)
          | (go_at_call 30; refine (writeString_any w1.heap.size b2 (codeK N x.v k) ⟨q.toArray⟩ _ L5 (by simp [ByteArray.size]; omega) (by have := B5.size; omega)).mono ?_; rintro e w6 ⟨rfl, L6, B6⟩))
        have B7 : Below w1.heap.size w1 w6 := (BR.trans (B5.mono hsR)).trans B6
        go_roundw
        case rel => exact ⟨k + 1, by omega, by go_num, by show Lib.IsBuilder _ _ _ _ _ _; rw [HS.out]; exact L6, B7⟩
        case measure => simp [intOf]; omega
      · have e : k = N := by omega
        subst e
        go_wp2_with (first
          | (go_at_call 32; refine (Tryd.Builder_String_any w1.heap.size b2 _ _ HL.out hsR).mono ?_; rintro e w7 ⟨rfl, B7⟩))
        go_ret2
        exact ⟨congrArg Ending.returned HV.out.symm, Below.then (Below.then (fresh_b F) B1) (BR.trans B7)⟩

end Go.Proofs.YtbhgchhoeokjhabDoor
