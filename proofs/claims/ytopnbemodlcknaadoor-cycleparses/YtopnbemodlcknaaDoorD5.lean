/- word.Parse. -/
import Derived.Test.YtopnbemodlcknaaDoorD4
namespace Go.Proofs.YtopnbemodlcknaaDoor
open Go.RowKit M
set_option linter.unusedSimpArgs false
set_option linter.unusedVariables false

/-- What Parse answers. -/
def parseV (p : Int × Nat) : Value := .tuple #[.int .i64 p.1, .int .i64 (p.2 : Int)]
/-- What Next answers. -/
def nextV (p : Int × Nat × Nat) : Value := .tuple #[.int .i64 p.1, .int .i64 (p.2.1 : Int), .int .i64 (p.2.2 : Int)]
/-- Next at a place. -/
def nextA (s : ByteArray) (at' : Int) : Int × Nat × Nat := if at' < 0 ∨ (s.size : Int) < at' then (0, 0, 40) else nextO (s.data.toList.drop at'.toNat)

theorem digF_len (l : List UInt8) : (digF l).length ≤ l.length := by
  unfold digF bodyF
  split
  · have := dl_len 16 ((l.drop (sgn l)).drop 2)
    rw [List.length_drop, List.length_drop] at this
    show (dl 16 _).length ≤ _
    omega
  · have := dl_len 10 (l.drop (sgn l))
    rw [List.length_drop] at this
    show (dl 10 _).length ≤ _
    omega

set_option maxRecDepth 100000 in
set_option maxHeartbeats 2000000 in
theorem parse_any (s : ByteArray) (hs : s.size ≤ maxLen) (w : World) :
    Calls Tryd.prog 51 #[.string s] w fun e w' => e = .returned (parseV (parseO s.data.toList)) ∧ Below w.heap.size w w' := by
  have hC := fun w => cut_any s hs w
  have hsz := sizeL s
  obtain ⟨l, hl⟩ : ∃ l, s.data.toList = l := ⟨_, rfl⟩
  rw [hl] at hC hsz ⊢
  have hdl := digF_len l
  have hll := lenF_le l
  unfold maxLen at hs
  have hb := baseF_cases l
  obtain ⟨m, hm⟩ : ∃ m, minusB l = m := ⟨_, rfl⟩
  obtain ⟨base, hbase⟩ : ∃ b, baseF l = b := ⟨_, rfl⟩
  obtain ⟨n, hn⟩ : ∃ n, lenF l = n := ⟨_, rfl⟩
  rw [hm, hbase, hn] at hC
  rw [hbase] at hb
  have HC : Hid (∀ w, Calls Tryd.prog 58 #[.string s] w fun e w' => (∃ D : ByteArray, e = .returned (numV m base D n) ∧ D.data.toList = digF l) ∧ Below w.heap.size w w') := hC
  have HB : Hid (base = 10 ∨ base = 16) := hb
  have HO : Hid (parseO l = if digF l = [] ∨ n ≠ l.length then (0, 40) else pNum (valF m (val base (digF l)))) := by
    show parseO l = _
    unfold parseO numF
    rw [hm, hbase, hn]
  have HSZ : Hid (s.size = l.length) := hsz
  have HDL : Hid ((digF l).length ≤ l.length) := hdl
  rw [hn, ← hsz] at hll
  clear hm hbase hn hC hb hl hsz hdl
  go_enter Tryd.func51, Tryd.ntmps51
  go_wp2_with (first
    | (go_at_call 58; refine (HC.out _).mono ?_; rintro e W1 ⟨⟨D, rfl, hD⟩, Bel⟩; have HD : Hid (D.data.toList = digF l) := hD; clear hD)
    | (refine wpList_allocN rfl rfl ?_; intro W2 b F2 N2; have hb2 : w.heap.size ≤ b := Nat.le_trans Bel.size (Nat.le_of_eq F2.at'.symm); replace Bel := F2.trans Bel Bel.size; clear F2)
    | (refine wpList_storeN rfl _ _ rfl rfl rfl N2 ?_; intro W3 U3 N3; replace Bel := U3.trans Bel hb2; clear U3 N2; have cD := N3.cD; have cL := N3.cL; refine Hid.out ?_))
  refine Lib.hid ?_
  have hDs : D.size ≤ maxLen := by have h1 := HDL.out; rw [← HD.out] at h1; have h2 := sizeL D; have h3 := HSZ.out; unfold maxLen; omega
  have hV := fun w => value_any m base D n hDs HB.out w
  rw [HD.out] at hV
  by_cases hE : D.data.toList = []
  · have hE' : D.toList.isEmpty = true := emp_t hE
    have HR : Hid (parseO l = (0, 40)) := by show parseO l = _; rw [HO.out, if_pos (Or.inl (HD.out.symm.trans hE))]
    clear hE HO
    go_wp2
    go_ret2
    exact ⟨by rw [HR.out]; rfl, Bel⟩
  have hE' : D.toList.isEmpty = false := emp_f hE
  have HE : Hid (digF l ≠ []) := fun h => hE (HD.out.trans h)
  clear hE
  by_cases hn : n = s.size
  · have hn' : ((n : Int) == (s.size : Int)) = true := by simp; omega
    have HR : Hid (parseO l = pNum (valF m (val base (digF l)))) := by
      show parseO l = _
      rw [HO.out, if_neg (by rw [← HSZ.out]; exact fun h => h.elim HE.out (fun h => h hn))]
    clear HO hn
    cases hv : valF m (val base (digF l)) with
    | none =>
        rw [hv] at hV HR
        have hV' : ∀ w, Calls Tryd.prog 59 #[numV m base D n] w fun e w' => e = .returned (.tuple #[.int .i64 0, .int .i64 41]) ∧ Below w.heap.size w w' := hV
        clear hv hV
        go_wp2_with (first
          | (refine wpList_loadN rfl _ rfl rfl N3 ?_)
          | (go_at_call 59; refine (hV' _).mono ?_; rintro e W4 ⟨rfl, hb4⟩; clear hV'; replace Bel := Bel.trans (hb4.mono Bel.size); clear hb4))
        go_ret2
        exact ⟨by rw [HR.out]; rfl, Bel⟩
    | some v =>
        rw [hv] at hV HR
        have hV' : ∀ w, Calls Tryd.prog 59 #[numV m base D n] w fun e w' => e = .returned (.tuple #[.int .i64 v, .int .i64 0]) ∧ Below w.heap.size w w' := hV
        clear hv hV
        go_wp2_with (first
          | (refine wpList_loadN rfl _ rfl rfl N3 ?_)
          | (go_at_call 59; refine (hV' _).mono ?_; rintro e W4 ⟨rfl, hb4⟩; clear hV'; replace Bel := Bel.trans (hb4.mono Bel.size); clear hb4))
        go_ret2
        exact ⟨by rw [HR.out]; rfl, Bel⟩
  · have hn' : ((n : Int) == (s.size : Int)) = false := by simp; omega
    have HR : Hid (parseO l = (0, 40)) := by show parseO l = _; rw [HO.out, if_pos (Or.inr (by rw [← HSZ.out]; exact hn))]
    clear HO hn
    go_wp2
    go_ret2
    exact ⟨by rw [HR.out]; rfl, Bel⟩

end Go.Proofs.YtopnbemodlcknaaDoor
