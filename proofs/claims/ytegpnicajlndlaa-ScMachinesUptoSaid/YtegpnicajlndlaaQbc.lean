/- CR1, CR2 -/
import Derived.Test.YtegpnicajlndlaaCS6
import Derived.Test.YtegpnicajlndlaaQap
namespace Go.Proofs.Ytegpnicajlndlaa
open Go.RowKit M
set_option linter.unusedSimpArgs false
set_option linter.unusedVariables false
theorem isS_one {w W : World} {b k t t' : Nat} {cs cs' : List Value} (h : IsS w k t cs) (hr : IsS w b t' cs') (ht : t ≠ t') (O : One w W b) : IsS W k t cs := by
 have hne : k ≠ b := fun e => by subst e; exact ht (isS_ty h hr)
 exact (O.block k h.lt hne).trans h
def RdS (w : World) (b : Nat) (T : ByteArray) (r : RD) : Prop := IsS w b 152 [.string T, .int .i64 (r.at' : Int), .bool r.bad]
theorem info4 : (Try.prog.info? 4).map (·.size) = some 1 := by kernel_rfl
theorem info3x : (Try.prog.info? 3).map (·.size) = some 1 := by kernel_rfl
theorem valR_at {T : ByteArray} {r : RD} (h : r.at' ≤ T.size) : (valR T r).2.at' ≤ T.size := by
 unfold valR
 cases ht : takeA T (r.at' : Int) with
 | none => exact h
 | some p => obtain ⟨v, n⟩ := p; exact (takeA_cut ht).2.2.1
theorem numR_at {T : ByteArray} {r : RD} {lo hi : Int} (h : r.at' ≤ T.size) : (numR T lo hi r).2.at' ≤ T.size := by
 unfold numR
 split
 · exact valR_at h
 · exact valR_at h
set_option maxRecDepth 100000 in
set_option maxHeartbeats 4000000 in
theorem value_any (T : ByteArray) (hT : T.size ≤ 1099511627776) (r : RD) (hr : r.at' ≤ T.size) (b : Nat) (w : World) (hI0 : RdS w b T r) :
    Calls Try.prog 117 #[.pointer (some ⟨b, 0, none⟩)] w fun e w' => e = .returned (.int .i64 (valR T r).1) ∧ RdS w' b T (valR T r).2 ∧ One w w' b := by
 obtain ⟨p, q⟩ := r
 have hI : IsS w b 152 [.string T, .int .i64 (p : Int), .bool q] := hI0
 have hTk := fun W => (take_any T (p : Int) (by unfold maxLen; omega) W).mono (R' := fun e w' => e = .returned (takeV (takeA T (p : Int))) ∧ Below W.heap.size W w') fun e w' ⟨h1, h2⟩ => ⟨h1, by rw [h2]; exact Below.refl _ _⟩
 have hp : (p : Int) ≤ 1099511627776 := by have : p ≤ T.size := hr; omega
 have ta : True := trivial
 have tb : True := trivial
 cases ht : takeA T (p : Int) with
 | none =>
  have HV : Hid (valR T ⟨p, q⟩ = (0, ⟨p, true⟩)) := by show _ = _; unfold valR; simp only [ht]
  rw [ht] at hTk
  simp only [takeV] at hTk
  clear ht hI0 hr
  go_enter Try.func117, Try.ntmps117
  go_wp2_with fail
  refine grow_allW (by kernel_rfl) (by kernel_rfl) ?_
  refine WG.pu rfl (v := (.pointer (some ⟨b, 0, none⟩))) ?_; simp only [sP]
  refine WG.pu rfl (v := (.pointer (some ⟨b, 0, none⟩))) ?_; simp only [sP]
  refine WG.pu rfl (v := (.pointer (some ⟨b, 0, none⟩))) ?_; simp only [sP]
  refine WG.load1 rfl 9 _ rfl rfl (hI) (v := (.string T)) rfl (fun w h => by simp [go_sem, h]) ?_; simp only [sP]
  refine WG.pu rfl (v := (.pointer (some ⟨b, 0, none⟩))) ?_; simp only [sP]
  refine WG.pu rfl (v := (.pointer (some ⟨b, 0, none⟩))) ?_; simp only [sP]
  refine WG.pu rfl (v := (.pointer (some ⟨b, 1, none⟩))) ?_; simp only [sP]
  refine WG.load1 rfl 3 _ rfl rfl (hI) (v := (.int .i64 (p : Int))) rfl (fun w h => by simp [go_sem, h]) ?_; simp only [sP]
  refine WG.call rfl (f := 128) (v := (.tuple #[.int .i64 0, .int .i64 ((0 : Nat) : Int), .int .i64 40])) (fun W _ => hTk W) (fun w => by first | rfl | (go_simp; done) | (simp [execOp, go_sem]; done)) ?_; simp only [sP]
  refine WG.pu rfl (v := (.tuple #[.int .i64 0, .int .i64 ((0 : Nat) : Int), .int .i64 40])) ?_; simp only [sP]
  refine WG.pu rfl (v := (.int .i64 0)) ?_; simp only [sP]
  refine WG.pu rfl (v := (.int .i64 ((0 : Nat) : Int))) ?_; simp only [sP]
  refine WG.pu rfl (v := (.int .i64 40)) ?_; simp only [sP]
  refine WG.pu rfl (v := (.int .i64 0)) ?_; simp only [sP]
  refine WG.pu rfl (v := (.int .i64 ((0 : Nat) : Int))) ?_; simp only [sP]
  refine WG.pu rfl (v := (.int .i64 40)) ?_; simp only [sP]
  refine WG.nil ?_
  intro W1 B1
  have I1 := hI.grown B1
  go_wp2_with (first
   | (clear ta; refine wpList_store1 rfl 4 _ _ rfl rfl (.bool true) rfl I1 (by simp) info4 rfl ?_; intro W2 U2 I2x; have I2 : IsS W2 b 152 [.string T, .int .i64 (p : Int), .bool true] := I2x; obtain ⟨y0, y1, y2⟩ := three_cells I2; clear I2x)
   | (clear tb; refine wpList_store1 rfl 3 _ _ rfl rfl (.int .i64 (p : Int)) rfl I2 (by simp) info3x rfl ?_; intro W3 U3 I3x; have I3 : IsS W3 b 152 [.string T, .int .i64 (p : Int), .bool true] := I3x; clear I3x))
  go_ret
  rw [HV.out]
  exact ⟨rfl, I3, One.trans (One.of_below B1 b) ((One.of_upd U2).trans (One.of_upd U3))⟩
 | some t =>
  obtain ⟨v, m⟩ := t
  have hm := (takeA_cut ht).2.2.1
  have hmI : (p : Int) + (m : Int) ≤ 1099511627776 := by omega
  have HV : Hid (valR T ⟨p, q⟩ = (v, ⟨p + m, q⟩)) := by show _ = _; unfold valR; simp only [ht]
  rw [ht] at hTk
  simp only [takeV] at hTk
  clear ht hI0 hr hm
  go_enter Try.func117, Try.ntmps117
  go_wp2_with fail
  refine grow_allW (by kernel_rfl) (by kernel_rfl) ?_
  refine WG.pu rfl (v := (.pointer (some ⟨b, 0, none⟩))) ?_; simp only [sP]
  refine WG.pu rfl (v := (.pointer (some ⟨b, 0, none⟩))) ?_; simp only [sP]
  refine WG.pu rfl (v := (.pointer (some ⟨b, 0, none⟩))) ?_; simp only [sP]
  refine WG.load1 rfl 9 _ rfl rfl (hI) (v := (.string T)) rfl (fun w h => by simp [go_sem, h]) ?_; simp only [sP]
  refine WG.pu rfl (v := (.pointer (some ⟨b, 0, none⟩))) ?_; simp only [sP]
  refine WG.pu rfl (v := (.pointer (some ⟨b, 0, none⟩))) ?_; simp only [sP]
  refine WG.pu rfl (v := (.pointer (some ⟨b, 1, none⟩))) ?_; simp only [sP]
  refine WG.load1 rfl 3 _ rfl rfl (hI) (v := (.int .i64 (p : Int))) rfl (fun w h => by simp [go_sem, h]) ?_; simp only [sP]
  refine WG.call rfl (f := 128) (v := (.tuple #[.int .i64 v, .int .i64 (m : Int), .int .i64 0])) (fun W _ => hTk W) (fun w => by first | rfl | (go_simp; done) | (simp [execOp, go_sem]; done)) ?_; simp only [sP]
  refine WG.pu rfl (v := (.tuple #[.int .i64 v, .int .i64 (m : Int), .int .i64 0])) ?_; simp only [sP]
  refine WG.pu rfl (v := (.int .i64 v)) ?_; simp only [sP]
  refine WG.pu rfl (v := (.int .i64 (m : Int))) ?_; simp only [sP]
  refine WG.pu rfl (v := (.int .i64 0)) ?_; simp only [sP]
  refine WG.pu rfl (v := (.int .i64 v)) ?_; simp only [sP]
  refine WG.pu rfl (v := (.int .i64 (m : Int))) ?_; simp only [sP]
  refine WG.pu rfl (v := (.int .i64 0)) ?_; simp only [sP]
  refine WG.nil ?_
  intro W1 B1
  have I1 := hI.grown B1
  obtain ⟨y0, y1, y2⟩ := three_cells I1
  go_wp2_with (first
   | (clear tb; refine wpList_store1 rfl 3 _ _ rfl rfl (.int .i64 ((p : Int) + (m : Int))) rfl I1 (by simp) info3x rfl ?_; intro W3 U3 I3x; have I3 : IsS W3 b 152 [.string T, .int .i64 ((p : Int) + (m : Int)), .bool q] := I3x; clear I3x))
  go_ret
  rw [HV.out]
  exact ⟨rfl, (by show IsS _ _ _ _; rw [show ((p + m : Nat) : Int) = (p : Int) + (m : Int) by omega]; exact I3), One.trans (One.of_below B1 b) (One.of_upd U3)⟩
set_option maxRecDepth 100000 in
set_option maxHeartbeats 4000000 in
theorem rnum_any (T : ByteArray) (hT : T.size ≤ 1099511627776) (r : RD) (hr : r.at' ≤ T.size) (lo hi : Int) (b : Nat) (w : World) (hI0 : RdS w b T r) :
    Calls Try.prog 93 #[.pointer (some ⟨b, 0, none⟩), .int .i64 lo, .int .i64 hi] w fun e w' => e = .returned (.int .i64 (numR T lo hi r).1) ∧ RdS w' b T (numR T lo hi r).2 ∧ One w w' b := by
 have hval := value_any T hT r hr b w hI0
 obtain ⟨v, hv⟩ : ∃ v, v = (valR T r).1 := ⟨_, rfl⟩
 obtain ⟨q, hq⟩ : ∃ v, v = (valR T r).2 := ⟨_, rfl⟩
 by_cases hok : lo ≤ v ∧ v ≤ hi
 · have HV : Hid (numR T lo hi r = (v, q)) := by show _ = _; unfold numR; rw [← hv, if_pos hok, hv, hq]
   rw [← hv, ← hq] at hval
   have hw := fun W => within64_any v lo hi W
   rw [decide_eq_true hok] at hw
   clear hv hq
   go_enter Try.func93, Try.ntmps93
   go_wp2_with (first
    | (go_at_call 117; refine hval.mono ?_; rintro e W1 ⟨rfl, I1, O1⟩)
    | (go_at_call 118; refine (hw _).mono ?_; rintro e w' ⟨rfl, hw'⟩; replace hw' := hw'.symm; subst hw'))
   go_ret
   rw [HV.out]
   exact ⟨rfl, I1, O1⟩
 · have HV : Hid (numR T lo hi r = (0, ⟨q.at', true⟩)) := by show _ = _; unfold numR; rw [← hv, if_neg hok, hq]
   rw [← hv, ← hq] at hval
   have hw := fun W => within64_any v lo hi W
   rw [decide_eq_false hok] at hw
   clear hv hq hok
   go_enter Try.func93, Try.ntmps93
   go_wp2_with (first
    | (go_at_call 117; refine hval.mono ?_; rintro e W1 ⟨rfl, I1, O1⟩; have I1' : IsS W1 b 152 [.string T, .int .i64 (q.at' : Int), .bool q.bad] := I1)
    | (go_at_call 118; refine (hw _).mono ?_; rintro e w' ⟨rfl, hw'⟩; replace hw' := hw'.symm; subst hw')
    | (refine wpList_store1 rfl 4 _ _ rfl rfl (.bool true) rfl I1' (by simp) info4 rfl ?_; intro W2 U2 I2x; have I2 : IsS W2 b 152 [.string T, .int .i64 (q.at' : Int), .bool true] := I2x))
   go_ret
   rw [HV.out]
   exact ⟨rfl, I2, O1.trans (One.of_upd U2)⟩
theorem valsR_at {T : ByteArray} {r : RD} (h : r.at' ≤ T.size) : ∀ k, (valsR T r k).2.at' ≤ T.size
 | 0 => h
 | k + 1 => valR_at (valsR_at h k)
theorem wrsR_at {T : ByteArray} {nl : Nat} {r : RD} (h : r.at' ≤ T.size) : ∀ k, (wrsR T nl r k).2.at' ≤ T.size
 | 0 => h
 | k + 1 => valR_at (numR_at (wrsR_at h k))
theorem bufR_at {T : ByteArray} {nl : Nat} {r : RD} (h : r.at' ≤ T.size) : (bufR T nl r).2.at' ≤ T.size := wrsR_at (numR_at h) _
theorem numR_range {T : ByteArray} {lo hi : Int} {r : RD} (h : lo ≤ 0 ∧ 0 ≤ hi) : lo ≤ (numR T lo hi r).1 ∧ (numR T lo hi r).1 ≤ hi := by
 unfold numR
 split
 · assumption
 · exact h
theorem fill_set {α : Type} (f : α → Value) (l : List α) (x z : α) (n k : Nat) (hl : l.length = k) (hk : k < n) : ((l ++ List.replicate (n - k) z).map f).set k (f x) = ((l ++ [x]) ++ List.replicate (n - (k + 1)) z).map f := by
 have e : n - k = (n - (k + 1)) + 1 := by omega
 rw [e, List.replicate_succ, List.map_append, List.map_append, List.map_append, List.map_cons, List.set_append_right _ _ (by rw [List.length_map, hl]; exact Nat.le_refl _)]
 simp [hl]
theorem wr_set (l rest : List (Int × Int)) (z : Int × Int) (a b : Int) (k : Nat) (hl : l.length = k) : (((l ++ z :: rest).flatMap wrE).set (k * 2) (.int .i64 a)).set (k * 2 + 1) (.int .i64 b) = ((l ++ (a, b) :: rest).flatMap wrE) := by
 induction l generalizing k with
 | nil => subst hl; obtain ⟨z1, z2⟩ := z; simp [wrE]
 | cons y l ih =>
  cases k with
  | zero => simp at hl
  | succ k =>
   have := ih k (by simpa using hl)
   obtain ⟨y1, y2⟩ := y
   rw [List.cons_append, List.flatMap_cons, List.cons_append, List.flatMap_cons, ← this, show (k + 1) * 2 = k * 2 + 1 + 1 by omega]
   simp [wrE]
theorem wr_len (l : List (Int × Int)) : (l.flatMap wrE).length = 2 * l.length := by
 induction l with
 | nil => rfl
 | cons x l ih => rw [List.flatMap_cons, List.length_append, ih, List.length_cons]; simp [wrE]; omega
theorem One.updNew {w W W' : World} {b g : Nat} (h : One w W b) (U : Upd W W' g) (hg : w.heap.size ≤ g) : One w W' b :=
 ⟨U.os.trans h.os, U.tape.trans h.tape, U.output.trans h.output, by rw [U.size]; exact h.size, fun k hk hb => (U.block k (by omega)).trans (h.block k hk hb)⟩
theorem One.fresh {w W W' : World} {b g : Nat} (h : One w W b) (F : Fresh W W' g) : One w W' b := h.trans (One.of_below (F_b F) b)
theorem eWr2 : Elt 50 48 2 (.agg #[.int .i64 0, .int .i64 0]) 16 := ⟨Try.underlying48, info_parts (by kernel_rfl), rfl, by decide, by decide⟩
theorem made_two (n : Nat) : madeCells #[Value.int .i64 0, .int .i64 0] (n * 2) = ((List.replicate n ((0 : Int), (0 : Int))).flatMap wrE).toArray := by
 have e : (List.replicate n ((0 : Int), (0 : Int))).flatMap wrE = List.replicate (2 * n) (.int .i64 0) := by
  induction n with
  | zero => rfl
  | succ n ih => rw [List.replicate_succ, List.flatMap_cons, ih, show 2 * (n + 1) = 2 * n + 1 + 1 by omega, List.replicate_succ, List.replicate_succ]; rfl
 rw [e]
 apply Array.ext_getElem?
 intro t
 by_cases ht : t < n * 2
 · have h2 : t < 2 * n := by omega
   rcases Nat.mod_two_eq_zero_or_one t with h | h <;> simp [madeCells, ht, h, h2]
 · rw [Array.getElem?_eq_none (by simp [size_madeCells]; omega), Array.getElem?_eq_none (by simp; omega)]
theorem exec_make2 {w : World} {op : Oper} {a : Act} (l c : Operand) (ho : op.op = .makeSlice 48 l c) (n : Nat) (hn : n ≤ 1048576) (hl : a.eval l = .int .i64 (n : Int)) (hc : a.eval c = .int .i64 (n : Int)) :
    (execOp a.eval op).run Try.prog w = .ok (.value (.slice (some ⟨w.heap.size, 0, none⟩) n n)) (w.alloc (.cells ((List.replicate n ((0 : Int), (0 : Int))).flatMap wrE).toArray 50)) := by
 obtain ⟨i0, hi, hz0, hz1, hz2⟩ := eWr2.info
 have hb : (16 : Int) * (n : Int) ≤ 281474976710656 := by omega
 have hr := run_make (P := Try.prog) w 48 50 i0 _ eWr2.und hi hz0 .i64 .i64 n n (by omega) (by omega) (by rw [hz2]; exact hb) (by omega)
 unfold execOp
 simp only [ho, hl, hc, Sem.run_bind, hr, Result.andThen_ok, Sem.run_pure, hz1, Int.toNat_natCast, Value.cells, made_two]
theorem wpList_make2 {w : World} {ops : Array Oper} {rest : List Oper} {op : Oper} {a : Act} {Q : Exit → Act → World → Prop} (hgd : op.guard = none) (l c : Operand) (ho : op.op = .makeSlice 48 l c) (n : Nat) (hn : n ≤ 1048576) (hl : a.eval l = .int .i64 (n : Int)) (hc : a.eval c = .int .i64 (n : Int))
    (h : ∀ W b, Fresh w W b → IsS W b 50 ((List.replicate n ((0 : Int), (0 : Int))).flatMap wrE) → wpList Try.prog ops Q rest (a.put op.dst (.slice (some ⟨b, 0, none⟩) n n)) W) : wpList Try.prog ops Q (op :: rest) a w := by
 refine wpList_plain hgd fun K hK => ?_
 unfold Oper.wp
 rw [exec_make2 l c ho n hn hl hc]
 exact hK _ _ (h _ _ (Fresh.alloc w _) (IsS.new w _ _))
set_option maxRecDepth 100000 in
set_option maxHeartbeats 4000000 in
theorem values_any (T : ByteArray) (hT : T.size ≤ 1099511627776) (r : RD) (hr : r.at' ≤ T.size) (n : Nat) (hn : n ≤ 1048576) (b : Nat) (w : World) (hI0 : RdS w b T r) :
    Calls Try.prog 94 #[.pointer (some ⟨b, 0, none⟩), .int .i64 (n : Int)] w fun e w' => ∃ g, e = .returned (.slice (some ⟨g, 0, none⟩) n n) ∧ w.heap.size ≤ g ∧ IsS w' g 2 ((valsR T r n).1.map (.int .i64)) ∧ RdS w' b T (valsR T r n).2 ∧ One w w' b := by
 have hnI : (n : Int) ≤ 1048576 := by omega
 have HI : Hid (RdS w b T r) := hI0
 have hv := fun k W (h : RdS W b T (valsR T r k).2) => value_any T hT (valsR T r k).2 (valsR_at hr k) b W h
 clear hI0
 have ta : True := trivial
 go_enter Try.func94, Try.ntmps94
 go_wp2_with (first
  | (clear ta; refine wpList_make1 eInt rfl rfl _ _ rfl n hn rfl rfl ?_; intro W1 g F1 I1; have B1 := F_b F1; have hg : w.heap.size ≤ g := Nat.le_of_eq F1.at'.symm; have HR1 : Hid (RdS W1 b T (valsR T r 0).2) := HI.out.fresh F1; clear F1))
 have HI1 : Hid (IsS W1 g 2 (((valsR T r 0).1 ++ List.replicate (n - 0) 0).map (.int .i64))) := by show IsS _ _ _ _; rw [List.map_append, List.map_replicate]; exact I1
 have HO1 : Hid (One w W1 b) := One.of_below B1 b
 clear I1 B1
 go_loopw [11] (fun i wr => ∃ k : Nat, k ≤ n ∧ i = .int .i64 (k : Int) ∧ Hid (RdS wr b T (valsR T r k).2) ∧ Hid (IsS wr g 2 (((valsR T r k).1 ++ List.replicate (n - k) 0).map (.int .i64))) ∧ Hid (One w wr b)) (fun i _ => n - (intOf i).toNat)
 case atStart => exact ⟨0, by omega, rfl, HR1, HI1, HO1⟩
 case round =>
  obtain ⟨k, hk, rfl, HR, HG, HO⟩ := hrel
  by_cases hlt : k < n
  · have hki : (k : Int) < n := by omega
    have hvk := hv k wr HR.out
    have HX : Hid (valsR T r (k + 1) = ((valsR T r k).1 ++ [(valR T (valsR T r k).2).1], (valR T (valsR T r k).2).2)) := rfl
    have hlen : (valsR T r k).1.length = k := (valsR_cut T r k).2
    obtain ⟨v, ev⟩ : ∃ v, v = (valR T (valsR T r k).2).1 := ⟨_, rfl⟩
    obtain ⟨q, eq⟩ : ∃ v, v = (valR T (valsR T r k).2).2 := ⟨_, rfl⟩
    obtain ⟨L, eL⟩ : ∃ v, v = (valsR T r k).1 := ⟨_, rfl⟩
    rw [← ev, ← eq] at hvk HX
    rw [← eL] at HX hlen
    have HRk : Hid (RdS wr b T (valsR T r k).2) := HR
    have HGk : Hid (IsS wr g 2 ((L ++ List.replicate (n - k) 0).map (.int .i64))) := by rw [eL]; exact HG
    have HLN : Hid (L.length = k) := hlen
    have HLL : Hid (k < ((L ++ List.replicate (n - k) 0).map (Value.int .i64)).length) := by show _ < _; simp; omega
    clear ev eq eL hlen HG HR
    have tb : True := trivial
    have tc : True := trivial
    go_wp2_with (first
     | (clear tb; go_at_call 117; refine hvk.mono ?_; rintro e W2 ⟨rfl, R2, O2⟩; have G2 := isS_one HGk.out HRk.out (by decide) O2)
     | (clear tc; refine wpList_store1 rfl 2 _ _ rfl rfl (.int .i64 v) rfl G2 HLL.out info2' rfl ?_; intro W3 U3 G3; have R3 := R2.upd U3 (fun e => by subst e; exact absurd (isS_ty R2 G2) (by decide))))
    go_roundw
    case rel =>
     refine ⟨k + 1, by omega, by go_num, (by show RdS _ _ _ _; rw [HX.out]; exact R3), ?_, ?_⟩
     · show IsS _ _ _ _
       rw [HX.out, ← fill_set (Value.int .i64) L v 0 n k HLN.out hlt]
       exact G3
     · exact (HO.out.trans O2).updNew U3 hg
    case measure => simp [intOf]; omega
  · obtain rfl : k = n := by omega
    have hki : ¬ (k : Int) < k := by omega
    go_wp2_with fail
    go_ret
    refine ⟨g, rfl, hg, ?_, HR.out, HO.out⟩
    have := HG.out
    rw [Nat.sub_self, List.replicate_zero, List.append_nil] at this
    exact this
set_option maxRecDepth 100000 in
set_option maxHeartbeats 4000000 in
theorem writes_any (T : ByteArray) (hT : T.size ≤ 1099511627776) (r : RD) (hr : r.at' ≤ T.size) (nl : Nat) (hnl : nl ≤ 1048576) (b : Nat) (w : World) (hI0 : RdS w b T r) :
    Calls Try.prog 95 #[.pointer (some ⟨b, 0, none⟩), .int .i64 (nl : Int)] w fun e w' => ∃ g, e = .returned (.slice (some ⟨g, 0, none⟩) (bufR T nl r).1.length (bufR T nl r).1.length) ∧ w.heap.size ≤ g ∧ IsS w' g 50 ((bufR T nl r).1.flatMap wrE) ∧ RdS w' b T (bufR T nl r).2 ∧ One w w' b := by
 have hnlI : (nl : Int) ≤ 1048576 := by omega
 have HI : Hid (RdS w b T r) := hI0
 have hnum := rnum_any T hT r hr 0 64 b w hI0
 have hrg := numR_range (T := T) (lo := 0) (hi := 64) (r := r) (by omega)
 have hr2 := numR_at (T := T) (lo := 0) (hi := 64) hr
 have HBF : Hid (bufR T nl r = wrsR T nl (numR T 0 64 r).2 (numR T 0 64 r).1.toNat) := rfl
 obtain ⟨n, en⟩ : ∃ n : Nat, (numR T 0 64 r).1 = (n : Int) := ⟨(numR T 0 64 r).1.toNat, by omega⟩
 obtain ⟨r2, er2⟩ : ∃ q, q = (numR T 0 64 r).2 := ⟨_, rfl⟩
 rw [en, ← er2, Int.toNat_natCast] at HBF
 rw [en, ← er2] at hnum
 rw [← er2] at hr2
 have hn64 : n ≤ 64 := by omega
 have hnI : (n : Int) ≤ 64 := by omega
 have hv := fun q hq W (h : RdS W b T q) => value_any T hT q hq b W h
 have hN := fun q hq W (h : RdS W b T q) => rnum_any T hT q hq 0 ((nl : Int) - 1) b W h
 obtain ⟨R, eR⟩ : ∃ R, R = wrsR T nl r2 n := ⟨_, rfl⟩
 have hRl : R.1.length = n := by rw [eR]; exact (wrsR_cut T nl r2 n).2.1
 rw [HBF.out, ← eR]
 rw [hRl]
 have HR : Hid (R = wrsR T nl r2 n) := eR
 have HAT : Hid (∀ k, (wrsR T nl r2 k).2.at' ≤ T.size) := wrsR_at hr2
 clear hI0 en er2 hrg HBF eR hRl hr2
 have ta : True := trivial
 have tb : True := trivial
 go_enter Try.func95, Try.ntmps95
 go_wp2_with (first
  | (clear tb; go_at_call 93; refine hnum.mono ?_; rintro e W0 ⟨rfl, R0, O0⟩)
  | (clear ta; refine wpList_make2 rfl _ _ rfl n (by omega) rfl rfl ?_; intro W1 g F1 I1; have hg : w.heap.size ≤ g := Nat.le_trans O0.size (Nat.le_of_eq F1.at'.symm); have HR1 : Hid (RdS W1 b T (wrsR T nl r2 0).2) := R0.fresh F1; have HO1 : Hid (One w W1 b) := O0.fresh F1; clear F1))
 have HI1 : Hid (IsS W1 g 50 (((wrsR T nl r2 0).1 ++ List.replicate (n - 0) (0, 0)).flatMap wrE)) := by show IsS _ _ _ _; exact I1
 clear I1
 go_loopw [12] (fun i wr => ∃ k : Nat, k ≤ n ∧ i = .int .i64 (k : Int) ∧ Hid (RdS wr b T (wrsR T nl r2 k).2) ∧ Hid (IsS wr g 50 (((wrsR T nl r2 k).1 ++ List.replicate (n - k) (0, 0)).flatMap wrE)) ∧ Hid (One w wr b)) (fun i _ => n - (intOf i).toNat)
 case atStart => exact ⟨0, by omega, rfl, HR1, HI1, HO1⟩
 case round =>
  obtain ⟨k, hk, rfl, HRk, HG, HO⟩ := hrel
  by_cases hlt : k < n
  · have hki : (k : Int) < n := by omega
    have hNk := hN _ (HAT.out k) wr HRk.out
    have hat2 : (numR T 0 ((nl : Int) - 1) (wrsR T nl r2 k).2).2.at' ≤ T.size := numR_at (HAT.out k)
    have HX : Hid (wrsR T nl r2 (k + 1) = ((wrsR T nl r2 k).1 ++ [((numR T 0 ((nl : Int) - 1) (wrsR T nl r2 k).2).1, (valR T (numR T 0 ((nl : Int) - 1) (wrsR T nl r2 k).2).2).1)], (valR T (numR T 0 ((nl : Int) - 1) (wrsR T nl r2 k).2).2).2)) := rfl
    have hlen : (wrsR T nl r2 k).1.length = k := (wrsR_cut T nl r2 k).2.1
    obtain ⟨x, ex⟩ : ∃ v, v = (numR T 0 ((nl : Int) - 1) (wrsR T nl r2 k).2).1 := ⟨_, rfl⟩
    obtain ⟨q, eq⟩ : ∃ v, v = (numR T 0 ((nl : Int) - 1) (wrsR T nl r2 k).2).2 := ⟨_, rfl⟩
    rw [← ex, ← eq] at hNk HX
    rw [← eq] at hat2
    have hvk := fun W (h : RdS W b T q) => hv q hat2 W h
    obtain ⟨v, ev⟩ : ∃ v, v = (valR T q).1 := ⟨_, rfl⟩
    obtain ⟨q2, eq2⟩ : ∃ v, v = (valR T q).2 := ⟨_, rfl⟩
    obtain ⟨L, eL⟩ : ∃ v, v = (wrsR T nl r2 k).1 := ⟨_, rfl⟩
    rw [← ev, ← eq2] at HX
    simp only [← ev, ← eq2] at hvk
    rw [← eL] at HX hlen
    have HGk : Hid (IsS wr g 50 ((L ++ List.replicate (n - k) (0, 0)).flatMap wrE)) := by rw [eL]; exact HG
    have HLN : Hid (L.length = k) := hlen
    have HLL : Hid (k * 2 + 1 < ((L ++ List.replicate (n - k) (0, 0)).flatMap wrE).length) := by show _ < _; rw [wr_len]; simp; omega
    clear ex eq ev eq2 eL hlen HG hat2 hv hN
    have tc : True := trivial
    have td : True := trivial
    have te : True := trivial
    have tf : True := trivial
    go_wp2_with (first
     | (clear tc; go_at_call 93; refine hNk.mono ?_; rintro e W2 ⟨rfl, R2, O2⟩; have G2 := isS_one HGk.out HRk.out (by decide) O2)
     | (clear td; refine wpList_store1 rfl 3 _ _ rfl rfl (.int .i64 x) rfl G2 (by have := HLL.out; omega) info3x rfl ?_; intro W3 U3 G3; have R3 := R2.upd U3 (fun e => by subst e; exact absurd (isS_ty R2 G2) (by decide)); have O3 := (HO.out.trans O2).updNew U3 hg)
     | (clear te; go_at_call 117; refine (hvk _ R3).mono ?_; rintro e W4 ⟨rfl, R4, O4⟩; have G4 := isS_one G3 R3 (by decide) O4)
     | (clear tf; refine wpList_store1 rfl 2 _ _ rfl rfl (.int .i64 v) rfl G4 (by have := HLL.out; rw [List.length_set]; omega) info2' rfl ?_; intro W5 U5 G5; have R5 := R4.upd U5 (fun e => by subst e; exact absurd (isS_ty R4 G4) (by decide)); have O5 := (O3.trans O4).updNew U5 hg))
    go_roundw
    case rel =>
     refine ⟨k + 1, by omega, by go_num, (by show RdS _ _ _ _; rw [HX.out]; exact R5), ?_, O5⟩
     show IsS _ _ _ _
     rw [HX.out]
     have e : n - k = (n - (k + 1)) + 1 := by omega
     rw [e, List.replicate_succ] at G5
     rw [wr_set L _ _ x v k HLN.out] at G5
     simpa using G5
    case measure => simp [intOf]; omega
  · obtain rfl : k = n := by omega
    have hki : ¬ (k : Int) < k := by omega
    go_wp2_with fail
    go_ret
    rw [HR.out]
    refine ⟨g, rfl, hg, ?_, HRk.out, HO.out⟩
    have := HG.out
    rw [Nat.sub_self, List.replicate_zero, List.append_nil] at this
    exact this
end Go.Proofs.Ytegpnicajlndlaa
