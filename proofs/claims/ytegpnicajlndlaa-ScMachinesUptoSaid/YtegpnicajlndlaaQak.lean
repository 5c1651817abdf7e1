/- PW, FO, PR -/
import Derived.Test.YtegpnicajlndlaaQaj
import Derived.Test.YtegpnicajlndlaaQag
namespace Go.Proofs.Ytegpnicajlndlaa
open Go.RowKit M
set_option linter.unusedSimpArgs false
set_option linter.unusedVariables false
def eaxAt (regs : List ByteArray) (i : Int) : Bool := match regs[i.toNat]? with
 | some s => s.toList == [69, 65, 88]
 | none => false
def opOk (o : Op5) (regs : List ByteArray) (nl : Nat) : Bool :=
 uOk o.kind && (uImm o.kind || o.imm == 0) && numOk o.reg (uReg o.kind || o.kind == 8) regs.length && numOk o.src (uSrc o.kind) regs.length && numOk o.loc (uLoc o.kind) nl && (!(o.kind == 8) || eaxAt regs o.reg)
theorem four {W : World} {b t : Nat} {v0 v1 v2 v3 : Value} (h : IsS W b t [v0, v1, v2, v3]) : W.cell? ⟨b, 0, none⟩ = some v0 ∧ W.cell? ⟨b, 1, none⟩ = some v1 ∧ W.cell? ⟨b, 2, none⟩ = some v2 ∧ W.cell? ⟨b, 3, none⟩ = some v3 := ⟨h.cell 0, h.cell 1, h.cell 2, h.cell 3⟩
theorem five {W : World} {b t : Nat} {v0 v1 v2 v3 v4 : Value} (h : IsS W b t [v0, v1, v2, v3, v4]) : W.cell? ⟨b, 0, none⟩ = some v0 ∧ W.cell? ⟨b, 1, none⟩ = some v1 ∧ W.cell? ⟨b, 2, none⟩ = some v2 ∧ W.cell? ⟨b, 3, none⟩ = some v3 ∧ W.cell? ⟨b, 4, none⟩ = some v4 := ⟨h.cell 0, h.cell 1, h.cell 2, h.cell 3, h.cell 4⟩
set_option maxRecDepth 100000 in
set_option maxHeartbeats 8000000 in
theorem vop_plain (k reg src loc imm : Int) (b0 b1 b2 b3 ok : Bool) (h8 : (k == 8) = false) (a1 : Option Addr) (nr c1 : Nat) (a2 : Option Addr) (nl c2 : Nat) (w : World)
    (cU : ∀ w, Calls Try.prog 125 #[.int .i64 k] w fun en w' => en = .returned (.tuple #[.agg #[.bool b0, .bool b1, .bool b2, .bool b3], .bool ok]) ∧ Below w.heap.size w w') :
    Calls Try.prog 111 #[.agg #[.int .i64 k, .int .i64 reg, .int .i64 src, .int .i64 loc, .int .i64 imm], .slice a1 nr c1, .slice a2 nl c2] w fun en w' => en = .returned (.bool (ok && (b3 || imm == 0) && numOk reg b0 nr && numOk src b1 nr && numOk loc b2 nl)) ∧ Below w.heap.size w w' := by
 obtain ⟨n1, hn1⟩ : ∃ n, numOk reg b0 nr = n := ⟨_, rfl⟩
 obtain ⟨n2, hn2⟩ : ∃ n, numOk src b1 nr = n := ⟨_, rfl⟩
 obtain ⟨n3, hn3⟩ : ∃ n, numOk loc b2 nl = n := ⟨_, rfl⟩
 have k1 := fun w => validNumber_any reg b0 nr w
 have k2 := fun w => validNumber_any src b1 nr w
 have k3 := fun w => validNumber_any loc b2 nl w
 rw [hn1] at k1 ⊢
 rw [hn2] at k2 ⊢
 rw [hn3] at k3 ⊢
 clear hn1 hn2 hn3
 have t1 : True := trivial
 have t2 : True := trivial
 have t3 : True := trivial
 have t5 : True := trivial
 have t6 : True := trivial
 have t7 : True := trivial
 cases ok <;> cases b3 <;> cases b0 <;> (try cases n1) <;> (try cases n2)
 all_goals
  go_enter Try.func111, Try.ntmps111
  go_wp2_with (first
   | (clear t1; refine wpList_boxS rfl 63 _ rfl [.int .i64 k, .int .i64 reg, .int .i64 src, .int .i64 loc, .int .i64 imm] rfl ?_; intro W1 bb F1 C1; have B1 : Below w.heap.size w W1 := F1.trans (Below.refl _ w) (Nat.le_refl _); obtain ⟨x0, x1, x2, x3, x4⟩ := five C1; clear F1)
   | (clear t5; go_at_call 125; refine (cU _).mono ?_; rintro en W2 ⟨rfl, B2x⟩; have C2 := C1.grown B2x; have B2 := Below.then B1 B2x; clear B2x cU C1 x0 x1 x2 x3 x4)
   | (clear t2; refine wpList_allocS rfl 178 rfl [.bool false, .bool false, .bool false, .bool false] Try.zeroValue178 ?_; intro W3 b3 F3 D3; have C3 := C2.fresh F3; have B3 := F3.trans B2 B2.size; have h3 : w.heap.size ≤ b3 := Nat.le_trans B2.size (Nat.le_of_eq F3.at'.symm); have n13 : bb ≠ b3 := (by have := C2.lt; have := F3.at'; omega); clear F3 C2)
   | (clear t3; refine wpList_storeS rfl 178 _ _ rfl rfl [_, _, _, _] rfl D3 (by simp) infoUse (by simp [Value.oneCell']) ?_; intro W4 U4 D4x; have C4 := C3.upd U4 n13; have B4 := U4.trans B3 h3; obtain ⟨x0, x1, x2, x3, x4⟩ := five C4; obtain ⟨y0, y1, y2, y3⟩ := four D4x; clear U4 C3 D3 D4x)
   | (clear t6; go_at_call 126; refine (k1 _).mono ?_; rintro en w' ⟨rfl, hw⟩; replace hw := hw.symm; subst hw)
   | (clear t7; go_at_call 126; refine (k2 _).mono ?_; rintro en w' ⟨rfl, hw⟩; replace hw := hw.symm; subst hw)
   | (go_at_call 126; refine (k3 _).mono ?_; rintro en w' ⟨rfl, hw⟩; replace hw := hw.symm; subst hw))
  all_goals
   go_ret
   refine ⟨ret_bool ?_, B4⟩
   clear x0 x1 x2 x3 x4 y0 y1 y2 y3 k1 k2 k3 C4 B1 B2 B3 B4
   first | rfl | (cases n3 <;> cases hz : (imm == 0) <;> first | rfl | (simp_all [bne]; done))
set_option maxRecDepth 100000 in
set_option maxHeartbeats 8000000 in
theorem vop_cmp (reg src loc imm : Int) (regs : List ByteArray) (hr : regs.length ≤ 1048576) (a1 : Option Addr) (c1 : Nat) (a2 : Option Addr) (nl c2 : Nat) (w : World) (hs : Seg w a1 (regs.flatMap strE)) :
    Calls Try.prog 111 #[.agg #[.int .i64 8, .int .i64 reg, .int .i64 src, .int .i64 loc, .int .i64 imm], .slice a1 regs.length c1, .slice a2 nl c2] w fun en w' => en = .returned (.bool ((imm == 0) && numOk reg true regs.length && numOk src true regs.length && numOk loc true nl && eaxAt regs reg)) ∧ Below w.heap.size w w' := by
 have cU : ∀ w, Calls Try.prog 125 #[.int .i64 8] w fun en w' => en = .returned (.tuple #[.agg #[.bool false, .bool true, .bool true, .bool false], .bool true]) ∧ Below w.heap.size w w' := fun w => usesOf_any 8 w
 obtain ⟨nr, hnr⟩ : ∃ n, regs.length = n := ⟨_, rfl⟩
 have HNR : Hid (regs.length = nr) := hnr
 rw [hnr] at hr ⊢
 clear hnr
 obtain ⟨n1, hn1⟩ : ∃ n, numOk reg true nr = n := ⟨_, rfl⟩
 obtain ⟨n2, hn2⟩ : ∃ n, numOk src true nr = n := ⟨_, rfl⟩
 obtain ⟨n3, hn3⟩ : ∃ n, numOk loc true nl = n := ⟨_, rfl⟩
 have k1 := fun w => validNumber_any reg true nr w
 have k2 := fun w => validNumber_any src true nr w
 have k3 := fun w => validNumber_any loc true nl w
 rw [hn1] at k1 ⊢
 rw [hn2] at k2 ⊢
 rw [hn3] at k3 ⊢
 have HN1 : Hid (numOk reg true nr = n1) := hn1
 have HS : Hid (Seg w a1 (regs.flatMap strE)) := hs
 clear hn1 hn2 hn3 hs
 obtain ⟨ea, hea⟩ : ∃ e, eaxAt regs reg = e := ⟨_, rfl⟩
 have HEA : Hid (eaxAt regs reg = ea) := hea
 rw [hea]
 clear hea
 have t1 : True := trivial
 have t2 : True := trivial
 have t3 : True := trivial
 have t5 : True := trivial
 have t6 : True := trivial
 have t7 : True := trivial
 cases n1 with
 | false =>
  go_enter Try.func111, Try.ntmps111
  go_wp2_with (first
   | (clear t1; refine wpList_boxS rfl 63 _ rfl [.int .i64 8, .int .i64 reg, .int .i64 src, .int .i64 loc, .int .i64 imm] rfl ?_; intro W1 bb F1 C1; have B1 : Below w.heap.size w W1 := F1.trans (Below.refl _ w) (Nat.le_refl _); obtain ⟨x0, x1, x2, x3, x4⟩ := five C1; clear F1)
   | (clear t5; go_at_call 125; refine (cU _).mono ?_; rintro en W2 ⟨rfl, B2x⟩; have C2 := C1.grown B2x; have B2 := Below.then B1 B2x; clear B2x cU C1 x0 x1 x2 x3 x4)
   | (clear t2; refine wpList_allocS rfl 178 rfl [.bool false, .bool false, .bool false, .bool false] Try.zeroValue178 ?_; intro W3 b3 F3 D3; have C3 := C2.fresh F3; have B3 := F3.trans B2 B2.size; have h3 : w.heap.size ≤ b3 := Nat.le_trans B2.size (Nat.le_of_eq F3.at'.symm); have n13 : bb ≠ b3 := (by have := C2.lt; have := F3.at'; omega); clear F3 C2)
   | (clear t3; refine wpList_storeS rfl 178 _ _ rfl rfl [_, _, _, _] rfl D3 (by simp) infoUse (by simp [Value.oneCell']) ?_; intro W4 U4 D4x; have C4 := C3.upd U4 n13; have B4 := U4.trans B3 h3; obtain ⟨x0, x1, x2, x3, x4⟩ := five C4; obtain ⟨y0, y1, y2, y3⟩ := four D4x; clear U4 C3 D3 D4x)
   | (clear t6; go_at_call 126; refine (k1 _).mono ?_; rintro en w' ⟨rfl, hw⟩; replace hw := hw.symm; subst hw)
   | (clear t7; go_at_call 126; refine (k2 _).mono ?_; rintro en w' ⟨rfl, hw⟩; replace hw := hw.symm; subst hw)
   | (go_at_call 126; refine (k3 _).mono ?_; rintro en w' ⟨rfl, hw⟩; replace hw := hw.symm; subst hw))
  all_goals
   go_ret
   refine ⟨ret_bool ?_, B4⟩
   clear x0 x1 x2 x3 x4 y0 y1 y2 y3 k1 k2 k3 C4 B1 B2 B3 B4
   first | rfl | (cases hz : (imm == 0) <;> first | rfl | (simp_all [bne]; done))
 | true =>
  have hin : 0 ≤ reg ∧ reg < nr := by have := HN1.out; simp [numOk] at this; exact this
  obtain ⟨r, rfl⟩ : ∃ r : Nat, reg = r := ⟨reg.toNat, by omega⟩
  have hlt : r < nr := by omega
  have hli : (r : Int) < nr := by omega
  obtain ⟨S, hS⟩ : ∃ S, regs[r]? = some S := ⟨_, List.getElem?_eq_getElem (by rw [HNR.out]; exact hlt)⟩
  obtain ⟨bq, oq, rfl, hbq, hcq⟩ := HS.out.str hS
  have hes : (S.toList == [69, 65, 88]) = ea := by have := HEA.out; simp only [eaxAt, Int.toNat_natCast, hS] at this; exact this
  clear hin hS
  cases n2 <;> cases ea
  all_goals
   go_enter Try.func111, Try.ntmps111
   go_wp2_with (first
    | (clear t1; refine wpList_boxS rfl 63 _ rfl [.int .i64 8, .int .i64 (r : Int), .int .i64 src, .int .i64 loc, .int .i64 imm] rfl ?_; intro W1 bb F1 C1; have B1 : Below w.heap.size w W1 := F1.trans (Below.refl _ w) (Nat.le_refl _); obtain ⟨x0, x1, x2, x3, x4⟩ := five C1; clear F1)
    | (clear t5; go_at_call 125; refine (cU _).mono ?_; rintro en W2 ⟨rfl, B2x⟩; have C2 := C1.grown B2x; have B2 := Below.then B1 B2x; clear B2x cU C1 x0 x1 x2 x3 x4)
    | (clear t2; refine wpList_allocS rfl 178 rfl [.bool false, .bool false, .bool false, .bool false] Try.zeroValue178 ?_; intro W3 b3 F3 D3; have C3 := C2.fresh F3; have B3 := F3.trans B2 B2.size; have h3 : w.heap.size ≤ b3 := Nat.le_trans B2.size (Nat.le_of_eq F3.at'.symm); have n13 : bb ≠ b3 := (by have := C2.lt; have := F3.at'; omega); clear F3 C2)
    | (clear t3; refine wpList_storeS rfl 178 _ _ rfl rfl [_, _, _, _] rfl D3 (by simp) infoUse (by simp [Value.oneCell']) ?_; intro W4 U4 D4x; have C4 := C3.upd U4 n13; have B4 := U4.trans B3 h3; have hcq4 : W4.cell? ⟨bq, oq + r, none⟩ = some (.string S) := (by rw [B4.cell (p := ⟨bq, oq + r, none⟩) hbq]; exact hcq); obtain ⟨x0, x1, x2, x3, x4⟩ := five C4; obtain ⟨y0, y1, y2, y3⟩ := four D4x; clear U4 C3 D3 D4x)
    | (clear t6; go_at_call 126; refine (k1 _).mono ?_; rintro en w' ⟨rfl, hw⟩; replace hw := hw.symm; subst hw)
    | (clear t7; go_at_call 126; refine (k2 _).mono ?_; rintro en w' ⟨rfl, hw⟩; replace hw := hw.symm; subst hw)
    | (go_at_call 126; refine (k3 _).mono ?_; rintro en w' ⟨rfl, hw⟩; replace hw := hw.symm; subst hw))
   all_goals
    go_ret
    refine ⟨ret_bool ?_, B4⟩
    clear x0 x1 x2 x3 x4 y0 y1 y2 y3 k1 k2 k3 C4 B1 B2 B3 B4 hcq4 hcq
    first | rfl | (cases n3 <;> cases hz : (imm == 0) <;> first | rfl | (simp_all [bne]; done))
theorem validOp_any (o : Op5) (regs : List ByteArray) (hr : regs.length ≤ 1048576) (a1 : Option Addr) (c1 : Nat) (a2 : Option Addr) (nl c2 : Nat) (w : World) (hs : Seg w a1 (regs.flatMap strE)) :
    Calls Try.prog 111 #[.agg (op5L o).toArray, .slice a1 regs.length c1, .slice a2 nl c2] w fun en w' => en = .returned (.bool (opOk o regs nl)) ∧ Below w.heap.size w w' := by
 obtain ⟨k, reg, src, loc, imm⟩ := o
 by_cases h8 : k = 8
 · subst h8
   refine (vop_cmp reg src loc imm regs hr a1 c1 a2 nl c2 w hs).mono ?_
   rintro en w' ⟨rfl, hB⟩
   refine ⟨ret_bool ?_, hB⟩
   simp [opOk, uOk, uImm, uReg, uSrc, uLoc]
 · have h8' : (k == 8) = false := by simpa using h8
   refine (vop_plain k reg src loc imm (uReg k) (uSrc k) (uLoc k) (uImm k) (uOk k) h8' a1 regs.length c1 a2 nl c2 w (fun w => usesOf_any k w)).mono ?_
   rintro en w' ⟨rfl, hB⟩
   refine ⟨ret_bool ?_, hB⟩
   simp [opOk, h8']
def allR (rs : List (List ByteArray)) (ri : List (List Int)) (k : Nat) : List Int := ((List.range k).map fun i => padTo (rs.getD i []).length (ri.getD i [])).flatten
theorem allR_next (rs : List (List ByteArray)) (ri : List (List Int)) (k : Nat) : allR rs ri (k + 1) = allR rs ri k ++ padTo (rs.getD k []).length (ri.getD k []) := by
 unfold allR; rw [List.range_succ, List.map_append, List.flatten_append]; simp
theorem take48 (A : List Int) : (A.take 48).length ≤ 48 := by rw [List.length_take]; omega
theorem fin48 {A : List Int} : (Try.prog.info? 80).map (·.size) = some (finL (A.take 48)).length := by rw [finL_len (take48 A)]; exact infoFin
def sLt (a b : ByteArray) : Bool := Op.bytesLess a.toList b.toList
def RisTo (kb : ByteArray → Bool) (l : List ByteArray) (j : Nat) : Prop := ∀ i s, i < j → l[i]? = some s → kb s = true ∧ ∀ s', 0 < i → l[i - 1]? = some s' → sLt s' s = true
noncomputable def risB (kb : ByteArray → Bool) (l : List ByteArray) : Bool := @decide (RisTo kb l l.length) (Classical.propDecidable _)
theorem ris_t {kb : ByteArray → Bool} {l : List ByteArray} (h : RisTo kb l l.length) : risB kb l = true := by unfold risB; exact @decide_eq_true _ (Classical.propDecidable _) h
theorem ris_f {kb : ByteArray → Bool} {l : List ByteArray} (h : ¬ RisTo kb l l.length) : risB kb l = false := by unfold risB; exact @decide_eq_false _ (Classical.propDecidable _) h
theorem ris_iff {kb : ByteArray → Bool} {l : List ByteArray} : risB kb l = true ↔ RisTo kb l l.length := by unfold risB; exact @decide_eq_true_iff _ (Classical.propDecidable _)
theorem ris_zero (kb : ByteArray → Bool) (l : List ByteArray) : RisTo kb l 0 := fun i s h => absurd h (by omega)
theorem ris_next {kb : ByteArray → Bool} {l : List ByteArray} {j : Nat} {g : ByteArray} (h : RisTo kb l j) (hg : l[j]? = some g) (hk : kb g = true) (hl : ∀ s', 0 < j → l[j - 1]? = some s' → sLt s' g = true) : RisTo kb l (j + 1) := fun i s hi hs => by
 rcases Nat.lt_or_ge i j with h' | h'
 · exact h i s h' hs
 · have : i = j := by omega
   subst this
   rw [hg] at hs; cases hs
   exact ⟨hk, hl⟩
theorem ris_not_k {kb : ByteArray → Bool} {l : List ByteArray} {j : Nat} {g : ByteArray} (hg : l[j]? = some g) (hk : kb g = false) : ¬ RisTo kb l l.length := fun h => by
 have := (h j g (List.getElem?_eq_some_iff.1 hg).1 hg).1
 rw [hk] at this; cases this
theorem ris_not_l {kb : ByteArray → Bool} {l : List ByteArray} {j : Nat} {g g' : ByteArray} (hg : l[j]? = some g) (h0 : 0 < j) (hg' : l[j - 1]? = some g') (hk : sLt g' g = false) : ¬ RisTo kb l l.length := fun h => by
 have := (h j g (List.getElem?_eq_some_iff.1 hg).1 hg).2 g' h0 hg'
 rw [hk] at this; cases this
theorem ris_parts (kb : ByteArray → Bool) (l : List ByteArray) : RisTo kb l l.length ↔ RisTo (fun _ => true) l l.length ∧ ∀ s ∈ l, kb s = true := by
 constructor
 · intro h
   refine ⟨fun i s hi hs => ⟨rfl, (h i s hi hs).2⟩, fun s hs => ?_⟩
   obtain ⟨i, hi⟩ := List.getElem?_of_mem hs
   exact (h i s (List.getElem?_eq_some_iff.1 hi).1 hi).1
 · rintro ⟨h1, h2⟩ i s hi hs
   exact ⟨h2 s (List.mem_of_getElem? hs), (h1 i s hi hs).2⟩
set_option maxRecDepth 100000 in
set_option maxHeartbeats 4000000 in
theorem rising_reg (l : List ByteArray) (hl : l.length ≤ 1048576) (a : Option Addr) (c : Nat) (w : World) (hs : Seg w a (l.flatMap strE)) :
    Calls Try.prog 79 #[.slice a l.length c, .func (.func 109) #[] #[]] w fun en w' => en = .returned (.bool (risB regB l)) ∧ w' = w := by
 obtain ⟨nn, hnn⟩ : ∃ n, l.length = n := ⟨_, rfl⟩
 have HN : Hid (l.length = nn) := hnn
 have HS : Hid (Seg w a (l.flatMap strE)) := hs
 rw [hnn] at hl ⊢
 clear hnn hs
 go_enter Try.func79, Try.ntmps79
 go_wp2_with fail
 go_loop [9] (fun i => ∃ j : Nat, j ≤ nn ∧ i = .int .i64 j ∧ Hid (RisTo regB l j)) (fun i => nn - (intOf i).toNat)
 case atStart => exact ⟨0, Nat.zero_le _, rfl, ris_zero _ _⟩
 case round =>
  obtain ⟨j, hj, rfl, HR⟩ := hrel
  by_cases hlt : j < nn
  · have hji : (j : Int) < nn := by omega
    obtain ⟨g, hg⟩ : ∃ g, l[j]? = some g := ⟨_, List.getElem?_eq_getElem (by rw [HN.out]; exact hlt)⟩
    have HG : Hid (l[j]? = some g) := hg
    obtain ⟨b, o, rfl, hb, hc⟩ := HS.out.str hg
    obtain ⟨kg, hkg⟩ : ∃ k, regB g = k := ⟨_, rfl⟩
    have cK : ∀ w, Calls Try.prog 109 #[.string g] w fun e w' => e = .returned (.bool (regB g)) ∧ w' = w := fun w => register_any g w
    have HK : Hid (regB g = kg) := hkg
    rw [show regB g = kg from hkg] at cK
    clear hg hkg
    cases kg with
    | false =>
     have HF : Hid (risB regB l = false) := ris_f (ris_not_k HG.out HK.out)
     go_wp2_with (go_at_call 109; refine (cK _).mono ?_; rintro en w' ⟨rfl, hw⟩; replace hw := hw.symm; subst hw)
     go_ret
     exact ⟨by rw [HF.out]; rfl, rfl⟩
    | true =>
     by_cases h0 : j = 0
     · have HX : Hid (RisTo regB l (j + 1)) := ris_next HR.out HG.out HK.out (fun _ h => absurd h (by omega))
       have hj0 : ¬ (0 : Int) < j := by omega
       clear h0
       go_wp2_with (go_at_call 109; refine (cK _).mono ?_; rintro en w' ⟨rfl, hw⟩; replace hw := hw.symm; subst hw)
       go_round
       case rel => exact ⟨j + 1, by omega, by go_num, HX⟩
       case measure => simp [intOf]; omega
     · have hj0 : (0 : Int) < j := by omega
       have hj1 : 0 < j := by omega
       obtain ⟨g', hg'⟩ : ∃ g, l[j - 1]? = some g := ⟨_, List.getElem?_eq_getElem (by rw [HN.out]; omega)⟩
       have HG' : Hid (l[j - 1]? = some g') := hg'
       obtain ⟨b', o', e', hb', hc'⟩ := HS.out.str hg'
       cases e'
       obtain ⟨q, hq⟩ : ∃ q, Op.bytesLess g'.toList g.toList = q := ⟨_, rfl⟩
       have HQ : Hid (sLt g' g = q) := hq
       clear hg'
       cases q with
       | false =>
        have HF : Hid (risB regB l = false) := ris_f (ris_not_l HG.out hj1 HG'.out HQ.out)
        go_wp2_with (go_at_call 109; refine (cK _).mono ?_; rintro en w' ⟨rfl, hw⟩; replace hw := hw.symm; subst hw)
        go_ret
        exact ⟨by rw [HF.out]; rfl, rfl⟩
       | true =>
        have HX : Hid (RisTo regB l (j + 1)) := ris_next HR.out HG.out HK.out (fun s' _ h => by rw [HG'.out] at h; cases h; exact HQ.out)
        go_wp2_with (go_at_call 109; refine (cK _).mono ?_; rintro en w' ⟨rfl, hw⟩; replace hw := hw.symm; subst hw)
        go_round
        case rel => exact ⟨j + 1, by omega, by go_num, HX⟩
        case measure => simp [intOf]; omega
  · have hji : ¬ (j : Int) < nn := by omega
    have HT : Hid (risB regB l = true) := (by
     refine ris_t ?_
     have := HR.out
     rw [show j = l.length by rw [HN.out]; omega] at this
     exact this)
    go_wp2_with fail
    go_ret
    exact ⟨by rw [HT.out]; rfl, rfl⟩
def nameK (s : ByteArray) : Bool := nameB s.data.toList
set_option maxRecDepth 100000 in
set_option maxHeartbeats 4000000 in
theorem rising_name (l : List ByteArray) (hl : l.length ≤ 1048576) (hz : ∀ s ∈ l, s.size ≤ maxLen) (a : Option Addr) (c : Nat) (w : World) (hs : Seg w a (l.flatMap strE)) :
    Calls Try.prog 79 #[.slice a l.length c, .func (.func 80) #[] #[]] w fun en w' => en = .returned (.bool (risB nameK l)) ∧ w' = w := by
 obtain ⟨nn, hnn⟩ : ∃ n, l.length = n := ⟨_, rfl⟩
 have HN : Hid (l.length = nn) := hnn
 have HZ : Hid (∀ s ∈ l, s.size ≤ maxLen) := hz
 have HS : Hid (Seg w a (l.flatMap strE)) := hs
 rw [hnn] at hl ⊢
 clear hnn hs hz
 go_enter Try.func79, Try.ntmps79
 go_wp2_with fail
 go_loop [9] (fun i => ∃ j : Nat, j ≤ nn ∧ i = .int .i64 j ∧ Hid (RisTo nameK l j)) (fun i => nn - (intOf i).toNat)
 case atStart => exact ⟨0, Nat.zero_le _, rfl, ris_zero _ _⟩
 case round =>
  obtain ⟨j, hj, rfl, HR⟩ := hrel
  by_cases hlt : j < nn
  · have hji : (j : Int) < nn := by omega
    obtain ⟨g, hg⟩ : ∃ g, l[j]? = some g := ⟨_, List.getElem?_eq_getElem (by rw [HN.out]; exact hlt)⟩
    have HG : Hid (l[j]? = some g) := hg
    obtain ⟨b, o, rfl, hb, hc⟩ := HS.out.str hg
    obtain ⟨kg, hkg⟩ : ∃ k, nameK g = k := ⟨_, rfl⟩
    have cK : ∀ w, Calls Try.prog 80 #[.string g] w fun e w' => e = .returned (.bool (nameK g)) ∧ w' = w := fun w => name_any g (HZ.out g (List.mem_of_getElem? HG.out)) w
    have HK : Hid (nameK g = kg) := hkg
    rw [show nameK g = kg from hkg] at cK
    clear hg hkg
    cases kg with
    | false =>
     have HF : Hid (risB nameK l = false) := ris_f (ris_not_k HG.out HK.out)
     go_wp2_with (go_at_call 80; refine (cK _).mono ?_; rintro en w' ⟨rfl, hw⟩; replace hw := hw.symm; subst hw)
     go_ret
     exact ⟨by rw [HF.out]; rfl, rfl⟩
    | true =>
     by_cases h0 : j = 0
     · have HX : Hid (RisTo nameK l (j + 1)) := ris_next HR.out HG.out HK.out (fun _ h => absurd h (by omega))
       have hj0 : ¬ (0 : Int) < j := by omega
       clear h0
       go_wp2_with (go_at_call 80; refine (cK _).mono ?_; rintro en w' ⟨rfl, hw⟩; replace hw := hw.symm; subst hw)
       go_round
       case rel => exact ⟨j + 1, by omega, by go_num, HX⟩
       case measure => simp [intOf]; omega
     · have hj0 : (0 : Int) < j := by omega
       have hj1 : 0 < j := by omega
       obtain ⟨g', hg'⟩ : ∃ g, l[j - 1]? = some g := ⟨_, List.getElem?_eq_getElem (by rw [HN.out]; omega)⟩
       have HG' : Hid (l[j - 1]? = some g') := hg'
       obtain ⟨b', o', e', hb', hc'⟩ := HS.out.str hg'
       cases e'
       obtain ⟨q, hq⟩ : ∃ q, Op.bytesLess g'.toList g.toList = q := ⟨_, rfl⟩
       have HQ : Hid (sLt g' g = q) := hq
       clear hg'
       cases q with
       | false =>
        have HF : Hid (risB nameK l = false) := ris_f (ris_not_l HG.out hj1 HG'.out HQ.out)
        go_wp2_with (go_at_call 80; refine (cK _).mono ?_; rintro en w' ⟨rfl, hw⟩; replace hw := hw.symm; subst hw)
        go_ret
        exact ⟨by rw [HF.out]; rfl, rfl⟩
       | true =>
        have HX : Hid (RisTo nameK l (j + 1)) := ris_next HR.out HG.out HK.out (fun s' _ h => by rw [HG'.out] at h; cases h; exact HQ.out)
        go_wp2_with (go_at_call 80; refine (cK _).mono ?_; rintro en w' ⟨rfl, hw⟩; replace hw := hw.symm; subst hw)
        go_round
        case rel => exact ⟨j + 1, by omega, by go_num, HX⟩
        case measure => simp [intOf]; omega
  · have hji : ¬ (j : Int) < nn := by omega
    have HT : Hid (risB nameK l = true) := (by
     refine ris_t ?_
     have := HR.out
     rw [show j = l.length by rw [HN.out]; omega] at this
     exact this)
    go_wp2_with fail
    go_ret
    exact ⟨by rw [HT.out]; rfl, rfl⟩
end Go.Proofs.Ytegpnicajlndlaa
