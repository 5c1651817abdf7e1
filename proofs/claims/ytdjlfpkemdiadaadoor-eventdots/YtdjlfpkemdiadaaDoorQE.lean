/- Several texts in one: E0, E1, E2, E3, E4. -/
import Derived.Test.YtdjlfpkemdiadaaDoorQG
import Derived.Test.YtdjlfpkemdiadaaDoorGD17
import Derived.Test.YtdjlfpkemdiadaaDoorQF
import Derived.Test.YtdjlfpkemdiadaaDoorFG17
import Derived.Test.YtdjlfpkemdiadaaDoorFH0
import Derived.Test.YtdjlfpkemdiadaaDoorPgOP
import Derived.Test.YtdjlfpkemdiadaaDoorChecked
import Derived.Test.YtdjlfpkemdiadaaDoorTie
import Derived.Test.YtdjlfpkemdiadaaDoorCards
import Derived.ChangeMaps5
import Derived.ChangeOld
import Derived.Deep.DeepHandedRow
import Derived.JoinedCond
import Derived.LaidMore
import Derived.Lib.LaidTab
import Derived.Lib.RowBridge
import Derived.OpenShut
import Derived.ProofKit
import Derived.SevenTiedAt
import Derived.SizedLaws
import Derived.Stop.Joined
import Derived.Stop.LaidErr
/- How many events a program has where tries fail, and how they follow each other: plain mathematics. -/
namespace Go.Proofs.YtdjlfpkemdiadaaDoor
open Go Go.RowKit M
set_option linter.unusedSimpArgs false
set_option linter.unusedVariables false

/-- How many of n bits from the k-th on are set. -/
def cnt (f : Nat) : Nat → Nat → Nat
  | _, 0 => 0
  | k, n + 1 => (if f.testBit k then 1 else 0) + cnt f (k + 1) n
theorem cnt_add (f : Nat) : ∀ (n m k : Nat), cnt f k (n + m) = cnt f k n + cnt f (k + n) m
  | 0, m, k => by rw [Nat.zero_add, Nat.add_zero]; simp [cnt]
  | n + 1, m, k => by
    have e : n + 1 + m = (n + m) + 1 := by omega
    have e2 : k + 1 + n = k + (n + 1) := by omega
    rw [e]
    show _ + cnt f (k + 1) (n + m) = _ + cnt f (k + 1) n + _
    rw [cnt_add f n m (k + 1), e2]
    omega
theorem cnt_zero (f : Nat) : ∀ (n k : Nat), (∀ j, k ≤ j → f.testBit j = false) → cnt f k n = 0
  | 0, k, h => rfl
  | n + 1, k, h => by unfold cnt; rw [h k (Nat.le_refl _), cnt_zero f n (k + 1) (fun j hj => h j (by omega))]; simp
theorem cnt_le (f : Nat) : ∀ (n k : Nat), cnt f k n ≤ n
  | 0, k => Nat.le_refl _
  | n + 1, k => by unfold cnt; have := cnt_le f n (k + 1); split <;> omega
theorem cnt_snoc (f n : Nat) : cnt f 0 (n + 1) = cnt f 0 n + (if f.testBit n then 1 else 0) := by
  rw [cnt_add f n 1 0, Nat.zero_add]; simp [cnt]
/-- The weight of an instruction is its events, failing or not. -/
theorem md_len (o : Op5) (t i : Int) (f k : Nat) : ((mdL o t i (flB f o k)).length : Int) + (cnt f k (trC [o]) : Int) = evOf o.kind := by
  by_cases h8 : o.kind = 8
  · have e1 : trC [o] = 1 := by simp [trC, h8]
    rw [e1]
    unfold mdL flB evOf
    cases hb : f.testBit k <;> simp [h8, cnt, hb]
  · have e1 : trC [o] = 0 := by simp [trC, h8]
    rw [e1]
    unfold mdL flB evOf
    by_cases h3 : o.kind = 3
    · simp [h3, cnt]
    · by_cases h4 : o.kind = 4
      · simp [h4, cnt]
      · by_cases h5 : o.kind = 5
        · simp [h5, cnt]
        · by_cases h6 : o.kind = 6
          · simp [h6, cnt]
          · by_cases h7 : o.kind = 7
            · simp [h7, cnt]
            · by_cases h9 : o.kind = 9
              · simp [h9, cnt]
              · simp [h3, h4, h5, h6, h7, h8, h9, cnt]
theorem ops_len (f t : Nat) : ∀ (os : List Op5) (i k : Nat), ((opsE f t i k os).length : Int) + (cnt f k (trC os) : Int) = evLP os
  | [], i, k => by simp [opsE, evLP, trC, cnt]
  | o :: os, i, k => by
    have h1 := md_len o t i f k
    have h2 := ops_len f t os (i + 1) (k + trC [o])
    have h3 : trC (o :: os) = trC [o] + trC os := by rw [show o :: os = [o] ++ os from rfl, trC_app]
    rw [h3, cnt_add]
    show ((mdL o t i (flB f o k) ++ opsE f t (i + 1) (k + trC [o]) os).length : Int) + _ = evOf o.kind + evLP os
    rw [List.length_append]
    omega
theorem ths_len (f : Nat) : ∀ (r : List (List Op5)) (t k : Nat), ((thsE f t k r).length : Int) + (cnt f k (trC r.flatten) : Int) = evLP r.flatten
  | [], t, k => by simp [thsE, evLP, trC, cnt]
  | os :: r, t, k => by
    have h1 := ops_len f t os 0 k
    have h2 := ths_len f r (t + 1) (k + trC os)
    rw [List.flatten_cons, trC_app, cnt_add, evL_app]
    show ((opsE f t 0 k os ++ thsE f (t + 1) (k + trC os) r).length : Int) + _ = _
    rw [List.length_append]
    omega
theorem evE_len (p : PG) (f : Nat) : ((evE p f).length : Int) + (cnt f 0 (trC p.threads.flatten) : Int) = eventsV p := by
  have h := ths_len f p.threads 0 0
  unfold evE eventsV
  rw [List.length_append, inE_len]
  omega
/-- Behind one another in a thread their indices do not fall. -/
def Ordd (a b : EV) : Prop := oneB a b = true → a.idx ≤ b.idx
theorem md_in {o : Op5} {t i : Int} {fl : Bool} {e : EV} (h : e ∈ mdL o t i fl) : e.thr = t ∧ e.idx = i := by
  unfold mdL at h
  (repeat' split at h) <;> simp at h <;> first | (subst h; exact ⟨rfl, rfl⟩) | (rcases h with rfl | rfl <;> exact ⟨rfl, rfl⟩)
theorem ops_in {f t : Nat} {e : EV} : ∀ (os : List Op5) (i k : Nat), e ∈ opsE f t i k os → e.thr = t ∧ (i : Int) ≤ e.idx
  | [], i, k, h => by simp [opsE] at h
  | o :: os, i, k, h => by
    rcases List.mem_append.1 (show e ∈ mdL o t i (flB f o k) ++ opsE f t (i + 1) (k + trC [o]) os from h) with h | h
    · obtain ⟨h1, h2⟩ := md_in h; exact ⟨h1, by omega⟩
    · obtain ⟨h1, h2⟩ := ops_in os _ _ h; exact ⟨h1, by omega⟩
theorem ths_in {f : Nat} {e : EV} : ∀ (r : List (List Op5)) (t k : Nat), e ∈ thsE f t k r → (t : Int) ≤ e.thr
  | [], t, k, h => by simp [thsE] at h
  | os :: r, t, k, h => by
    rcases List.mem_append.1 (show e ∈ opsE f t 0 k os ++ thsE f (t + 1) (k + trC os) r from h) with h | h
    · have := (ops_in os _ _ h).1; omega
    · have := ths_in r _ _ h; omega
theorem one_thr {a b : EV} (h : oneB a b = true) : a.thr = b.thr ∧ a.thr ≠ -1 := by
  unfold oneB at h
  simpa using h
theorem md_ord (o : Op5) (t i : Int) (fl : Bool) : (mdL o t i fl).Pairwise Ordd := by
  unfold mdL
  (repeat' split) <;> simp [Ordd]
theorem ops_ord (f t : Nat) : ∀ (os : List Op5) (i k : Nat), (opsE f t i k os).Pairwise Ordd
  | [], i, k => List.Pairwise.nil
  | o :: os, i, k => by
    show (mdL o t i (flB f o k) ++ opsE f t (i + 1) (k + trC [o]) os).Pairwise Ordd
    rw [List.pairwise_append]
    refine ⟨md_ord _ _ _ _, ops_ord f t os _ _, fun a ha b hb _ => ?_⟩
    have h1 := (md_in ha).2
    have h2 := (ops_in os _ _ hb).2
    omega
theorem ths_ord (f : Nat) : ∀ (r : List (List Op5)) (t k : Nat), (thsE f t k r).Pairwise Ordd
  | [], t, k => List.Pairwise.nil
  | os :: r, t, k => by
    show (opsE f t 0 k os ++ thsE f (t + 1) (k + trC os) r).Pairwise Ordd
    rw [List.pairwise_append]
    refine ⟨ops_ord _ _ _ _ _, ths_ord f r _ _, fun a ha b hb h => ?_⟩
    have h1 := (ops_in os _ _ ha).1
    have h2 := ths_in r _ _ hb
    have h3 := (one_thr h).1
    omega
theorem in_thr {n : Nat} {e : EV} (h : e ∈ inE n) : e.thr = -1 := by
  unfold inE at h
  obtain ⟨i, _, rfl⟩ := List.mem_map.1 h
  rfl
theorem ev_ord (p : PG) (f : Nat) : (evE p f).Pairwise Ordd := by
  unfold evE
  rw [List.pairwise_append]
  refine ⟨?_, ths_ord _ _ _ _, fun a ha b hb h => absurd (in_thr ha) (one_thr h).2⟩
  exact List.pairwise_iff_forall_sublist.2 fun {a b} hs h => absurd (in_thr (hs.subset (by simp))) (one_thr h).2
theorem ev_rise {p : PG} {f a b : Nat} {x y : EV} (hx : (evE p f)[a]? = some x) (hy : (evE p f)[b]? = some y) (hab : a < b) (h : oneB x y = true) : x.idx ≤ y.idx := by
  obtain ⟨h1, e1⟩ := List.getElem?_eq_some_iff.1 hx
  obtain ⟨h2, e2⟩ := List.getElem?_eq_some_iff.1 hy
  have := List.pairwise_iff_getElem.1 (ev_ord p f) a b h1 h2 hab
  rw [e1, e2] at this
  exact this h
/-- All the bits of a number. -/
theorem cnt_all {f n m : Nat} (hf : f < 2 ^ n) (hn : n ≤ m) : cnt f 0 m = cnt f 0 n := by
  obtain ⟨d, rfl⟩ : ∃ d, m = n + d := ⟨m - n, by omega⟩
  rw [cnt_add, cnt_zero f d (0 + n) (fun j hj => Nat.testBit_lt_two_pow (Nat.lt_of_lt_of_le hf (Nat.pow_le_pow_right (by omega) (by omega))))]
  omega
theorem val_ev {p : PG} (h : validV p = 0) : eventsV p ≤ 64 := by
  unfold validV at h
  repeat' split at h
  all_goals first | omega | skip
end Go.Proofs.YtdjlfpkemdiadaaDoor
/- The law's example: a locked instruction alone. -/
namespace Go.Proofs.YtdjlfpkemdiadaaDoor
open Go Go.RowKit M
set_option linter.unusedSimpArgs false
set_option linter.unusedVariables false

def sEAX : ByteArray := ⟨#[69, 65, 88]⟩
def sX : ByteArray := ⟨#[120]⟩
def exQ : PG := ⟨[[⟨7, 0, 0, 0, 0⟩]], [[sEAX]], [sX], [[0]], [0]⟩
theorem exQ_few : exQ.Few := by
  constructor <;> first | (simp [exQ]; done) | skip
  · intro l hl s hs
    simp [exQ] at hl
    subst hl
    simp at hs
    subst hs
    unfold maxLen
    decide
  · intro s hs
    simp [exQ] at hs
    subst hs
    unfold maxLen
    decide
theorem exQ_valid : validV exQ = 0 := by
  have hR : RegsTo exQ.regs exQ.regInit exQ.regs.length := fun i x q hi hx hq => by
    have hi : i < 1 := hi
    obtain rfl : i = 0 := by omega
    simp [exQ] at hx hq
    subst hx hq
    refine ⟨rfl, fun j s hj hs => ?_⟩
    have hj : j < 1 := hj
    obtain rfl : j = 0 := by omega
    simp at hs
    subst hs
    exact ⟨by decide, fun s' h0 => absurd h0 (by omega)⟩
  have hL : RisTo nameK exQ.locs exQ.locs.length := fun j s hj hs => by
    have hj : j < 1 := hj
    obtain rfl : j = 0 := by omega
    simp [exQ] at hs
    subst hs
    exact ⟨by decide, fun s' h0 => absurd h0 (by omega)⟩
  have hO : OpsTo exQ.threads exQ.regs exQ.locs.length exQ.threads.length := fun i l x hi hl hx o ho => by
    have hi : i < 1 := hi
    obtain rfl : i = 0 := by omega
    simp [exQ] at hl hx
    subst hl hx
    simp at ho
    subst ho
    show opOk _ _ 1 = true
    decide
  have hM : ¬ Many exQ.regs exQ.regs.length := fun ⟨i, x, hi, hx, h8⟩ => by
    have hi : i < 1 := hi
    obtain rfl : i = 0 := by omega
    simp [exQ] at hx
    subst hx
    simp at h8
  have he : regsErr exQ = 0 := by
    unfold regsErr
    rw [if_neg (by simp [exQ]), if_neg (fun h => h hR), if_neg hM]
  unfold validV
  rw [if_neg (by simp [exQ]), if_neg (fun h => h he), if_neg (by rw [ris_t hL]; simp [exQ])]
  rw [if_neg (by simp [exQ]), if_neg (by rw [opsB_t hO]; simp)]
  rfl
def exEv : List EV := [⟨1, -1, 0, 0, false⟩, ⟨3, 0, 0, 0, true⟩, ⟨2, 0, 0, 0, true⟩]
theorem exQ_ev : evE exQ 0 = exEv := by simp [evE, inE, thsE, opsE, mdL, flB, exQ, exEv, trC]
theorem exQ_ls : lsL exQ 0 = exEv ∧ lsE exQ 0 = 0 := by
  constructor
  · unfold lsL; rw [if_neg (fun h => h exQ_valid), if_neg (by simp), exQ_ev]
  · unfold lsE; rw [if_neg (fun h => h exQ_valid), if_neg (by simp)]
theorem ex_short : shL exEv = exEv := rfl
/-- The relation of the locked instruction's two events. -/
def rwF : Nat → Nat := fun i => if i = 1 then 4 else 0
theorem ex_rmw : prF 3 (stQ 5 exEv) = rwF := by
  funext a
  refine Nat.eq_of_testBit_eq fun b => ?_
  rw [prF_bit]
  unfold rwF
  by_cases ha : a < 3
  · by_cases hb : b < 3
    · rcases (by omega : a = 0 ∨ a = 1 ∨ a = 2) with rfl | rfl | rfl <;> rcases (by omega : b = 0 ∨ b = 1 ∨ b = 2) with rfl | rfl | rfl <;> decide
    · have h4 : ∀ n : Nat, n < 8 → n.testBit b = false := fun n hn => Nat.testBit_lt_two_pow (Nat.lt_of_lt_of_le hn (Nat.pow_le_pow_right (n := 2) (by omega) (show 3 ≤ b by omega)))
      rw [h4 _ (by split <;> omega)]
      simp [hb]
  · rw [if_neg (by omega)]; simp [ha]
theorem ex_text : txT exQ.locs ⟨2, 0, 0, 0, true⟩ = ⟨#[48, 58, 48, 58, 87, 120, 42]⟩ := by decide +kernel
theorem exec_opLit {w : World} {op : Oper} {a : Act} (ho : op.op = .build 58 #[(0, .const (.int .i64 7))]) : (execOp a.eval op).run Tryd.prog w = .ok (.value (.agg (op5L ⟨7, 0, 0, 0, 0⟩).toArray)) w := by
  have h : Tryd.t58.zero = some (.agg #[.int .i64 0, .int .i64 0, .int .i64 0, .int .i64 0, .int .i64 0]) := by kernel_rfl
  have hc : a.eval (.const (.int .i64 7)) = .int .i64 7 := rfl
  generalize a.eval = ev at hc ⊢
  unfold execOp op5L
  simp [ho, hc, go_sem, zeroValue, h]
theorem exec_buildOp1 {w : World} {op : Oper} {a : Act} {x : Operand} (ho : op.op = .buildSlice 59 1 #[(0, x)]) (o1 : Op5) (hx : a.eval x = .agg (op5L o1).toArray) :
    (execOp a.eval op).run Tryd.prog w = .ok (.value (.slice (some ⟨w.heap.size, 0, none⟩) 1 1)) (w.alloc (.cells (op5L o1).toArray 58)) := by
  obtain ⟨i, hi, hz, hk, _⟩ := eOp.info
  generalize a.eval = ev at hx ⊢
  unfold execOp
  simp only [ho, hx]
  simp [Instr.buildSlice, Instr.fill, run_underlying eOp.und, sizeOf, typeInfo, zeroValue, hi, hk, hz, hx, Value.cells, op5L, newRow, show Array.range 5 = #[0, 1, 2, 3, 4] from rfl]
def slc (g m : Nat) : Value := .slice (some ⟨g, 0, none⟩) m m
theorem wpList_build {w : World} {ops : Array Oper} {rest : List Oper} {op : Oper} {a : Act} {Q : Exit → Act → World → Prop} {n t : Nat} {cs : List Value} (hgd : op.guard = none) (hr : (execOp a.eval op).run Tryd.prog w = .ok (.value (.slice (some ⟨w.heap.size, 0, none⟩) n n)) (w.alloc (.cells cs.toArray t)))
    (h : ∀ W b, Fresh w W b → IsS W b t cs → wpList Tryd.prog ops Q rest (a.put op.dst (slc b n)) W) : wpList Tryd.prog ops Q (op :: rest) a w := by
  refine wpList_plain hgd fun K hK => ?_
  unfold Oper.wp
  rw [hr]
  exact hK _ _ (h _ _ (Fresh.alloc w _) (IsS.new w t cs))
theorem wpList_valueX {w : World} {ops : Array Oper} {rest : List Oper} {op : Oper} {a : Act} {Q : Exit → Act → World → Prop} {v : Value} (hgd : op.guard = none) (hr : (execOp a.eval op).run Tryd.prog w = .ok (.value v) w) (h : wpList Tryd.prog ops Q rest (a.put op.dst v) w) : wpList Tryd.prog ops Q (op :: rest) a w := by
  refine wpList_plain hgd fun K hK => ?_
  unfold Oper.wp
  rw [hr]
  exact hK _ _ h
theorem rows1 {α : Type} {W : World} {g t : Nat} {u : Value} {enc : α → List Value} {xs : List α} (I : IsS W g t [u]) (hu : RowV W u xs.length (xs.flatMap enc)) : RowsV W (slc g 1) enc [xs] := by
  refine ⟨[u], rfl, row_isS I, fun j x l hx hl => ?_⟩
  obtain rfl : j = 0 := by have := (List.getElem?_eq_some_iff.1 hx).1; simp at this; omega
  simp at hx hl; subst hx hl; exact hu
theorem build_pg1 {w : World} {op : Oper} {a : Act} {x0 x1 x2 x3 x4 : Operand} {g0 g1 g2 g3 g4 : Nat} (ho : op.op = .build 28 #[(0, x0), (1, x1), (2, x2), (3, x3), (4, x4)]) (h0 : a.eval x0 = slc g0 1) (h1 : a.eval x1 = slc g1 1) (h2 : a.eval x2 = slc g2 1) (h3 : a.eval x3 = slc g3 1) (h4 : a.eval x4 = slc g4 1) : (execOp a.eval op).run Tryd.prog w = .ok (.value (.agg [slc g0 1, slc g1 1, slc g2 1, slc g3 1, slc g4 1].toArray)) w := by
  have h : Tryd.t28.zero = some (.agg #[.slice none 0 0, .slice none 0 0, .slice none 0 0, .slice none 0 0, .slice none 0 0]) := by kernel_rfl
  generalize a.eval = ev at h0 h1 h2 h3 h4 ⊢
  unfold slc at *
  unfold execOp
  simp [ho, h0, h1, h2, h3, h4, go_sem, zeroValue, h]
theorem ex_pgv {W : World} {g5 g6 g7 g8 g9 g10 g11 g12 : Nat} (j5 : IsS W g5 58 (op5L ⟨7, 0, 0, 0, 0⟩)) (j6 : IsS W g6 59 [slc g5 1]) (j7 : IsS W g7 9 [.string sEAX]) (j8 : IsS W g8 24 [slc g7 1]) (j9 : IsS W g9 9 [.string sX]) (j10 : IsS W g10 2 [.int .i64 0]) (j11 : IsS W g11 26 [slc g10 1]) (j12 : IsS W g12 2 [.int .i64 0]) :
    PGV W (slc g6 1) (slc g8 1) (slc g9 1) (slc g11 1) (slc g12 1) exQ :=
  ⟨rows1 (xs := ([⟨7, 0, 0, 0, 0⟩] : List Op5)) (enc := op5L) j6 (row_isS j5), rows1 (xs := [sEAX]) (enc := strE) j8 (row_isS j7), row_isS j9, rows1 (xs := [(0 : Int)]) (enc := intE) j11 (row_isS j10), row_isS j12⟩
theorem own_seg {W : World} {B t s n c : Nat} {a : Option Addr} {xs : List Value} (h : W.ownsRow B t s (.slice a n c) n xs) : Seg W a xs := by
  obtain ⟨a', c', e, sg, _⟩ := own_row h
  cases e
  exact sg
theorem seg_ev {w : World} {a : Option Addr} {l : List EV} (h : Seg w a (l.flatMap evL)) {i : Nat} {r : EV} (hr : l[i]? = some r) : ∃ b o, a = some ⟨b, o, none⟩ ∧ b < w.heap.size ∧ w.rangeAt b (o + i * 5) (evL r) := by
  obtain ⟨b, o, e, hb, _⟩ := h _ _ (ev_at l i r hr 0 _ rfl)
  refine ⟨b, o, e, hb, fun j v hv => ?_⟩
  obtain ⟨b', o', e', _, h2⟩ := h _ _ (ev_at l i r hr j v hv)
  rw [e] at e'; cases e'
  rw [Nat.add_assoc]; exact h2
section
variable {ops : Array Oper} {W : World} {Q : Act → Prop} {rest : List Oper} {op : Oper} {a : Act}
theorem eqlE (w : World) : (binOp .eql 46 (.agg (evL ⟨3, 0, 0, 0, true⟩).toArray) (.agg (evL ⟨3, 0, 0, 0, true⟩).toArray)).run Tryd.prog w = .ok (.bool true) w := by kernel_rfl
theorem eqGuardE (op : BinOp) (x y : Operand) (c d : Array Value) (w : World) : (eqGuard op 46 x y (.agg c) (.agg d)).run Tryd.prog w = .ok () w :=
  run_eqGuard_agg w op 46 x y _ _ (by kernel_rfl)
theorem WG.eqEv (hw : Region.wanted op (yielded ops a.tmps) = true) (x y : Operand) (ho : op.op = .binOp .eql 46 x y 46) (hx : a.eval x = .agg (evL ⟨3, 0, 0, 0, true⟩).toArray) (hy : a.eval y = .agg (evL ⟨3, 0, 0, 0, true⟩).toArray)
    (h : WG ops W Q rest (a.put op.dst (.bool true))) : WG ops W Q (op :: rest) a := by
  refine WG.put hw (fun w => ?_) h
  unfold execOp
  simp only [ho, hx, hy, Sem.run_bind, eqGuardE, eqlE w, Result.andThen_ok, Sem.run_pure]
theorem WG.eqR (hw : Region.wanted op (yielded ops a.tmps) = true) (x y : Operand) (ho : op.op = .binOp .eql 43 x y 43) {n : Int} {f : Nat → Nat} (hx : a.eval x = relv n f) (hy : a.eval y = relv n f)
    (h : WG ops W Q rest (a.put op.dst (.bool true))) : WG ops W Q (op :: rest) a := by
  refine WG.put hw (fun w => ?_) h
  unfold execOp
  have h1 := eqlR n f w
  have h2 := eqGuardR .eql x y n n f f w
  simp [ho, hx, hy, Sem.run_bind, h1, h2]
end
theorem exec_evLit {w : World} {op : Oper} {a : Act} (ho : op.op = .build 46 #[(0, .const (.int .i64 3)), (4, .const (.bool true))]) : (execOp a.eval op).run Tryd.prog w = .ok (.value (.agg (evL ⟨3, 0, 0, 0, true⟩).toArray)) w := by
  have h : Tryd.t46.zero = some (.agg #[.int .i64 0, .int .i64 0, .int .i64 0, .int .i64 0, .bool false]) := by kernel_rfl
  have hc : a.eval (.const (.int .i64 3)) = .int .i64 3 := rfl
  have hd : a.eval (.const (.bool true)) = .bool true := rfl
  generalize a.eval = ev at hc hd ⊢
  unfold execOp evL
  simp [ho, hc, hd, go_sem, zeroValue, h]
def arr64 : Value := .agg ((List.range 64).map fun i => Value.int .u64 (rwF i : Nat)).toArray
set_option maxRecDepth 100000 in
set_option maxHeartbeats 8000000 in
theorem awake_any (w : World) (hT : TabAt w) (hT10 : Tab10 w) : Calls Tryd.prog 6 #[] w fun e w' => e = .returned (.bool true) ∧ Below w.heap.size w w' := by
  have hLs := fun W (vt vr vl vi vj : Value) (h : PGV W vt vr vl vi vj exQ) => list_any exQ exQ_few 0 (by decide) vt vr vl vi vj W h
  unfold LsA at hLs
  simp only [exQ_ls.1, exQ_ls.2] at hLs
  have hTx := fun W (vt vr vl vi vj : Value) (h : PGV W vt vr vl vi vj exQ) (ht : Tab10 W) => text_ev exQ (fun s hs => by simp [exQ] at hs; subst hs; decide) ⟨2, 0, 0, 0, true⟩ ⟨by decide, by decide, by decide, by decide⟩ vt vr vl vi vj W h ht
  rw [ex_text] at hTx
  have hRm := fun W (a : Option Addr) (c : Nat) (ht : TabAt W) (h : Seg W a (exEv.flatMap evL)) => rmw_x (l := exEv) (a := a) (c := c) ht (by decide) h
  rw [ex_short] at hRm
  have e3 : exEv.length = 3 := rfl
  rw [e3] at hLs hRm
  rw [ex_rmw] at hRm
  have HLs : Hid _ := hLs
  have HTx : Hid _ := hTx
  have HRm : Hid _ := hRm
  clear hLs hTx hRm
  have HT : Hid (TabAt w) := hT
  have HT10 : Hid (Tab10 w) := hT10
  clear hT hT10 e3
  have ts : True := trivial
  have tt : True := trivial
  go_enter Tryd.func6, Tryd.ntmps6
  refine wp_seq_k fun K0 hK0 => ?_
  refine wp_region_lit ?_
  refine wpList_valueX rfl (v := .bool false) rfl ?_
  refine hK0 _ _ ?_
  clear hK0 K0
  refine wp_seq_k fun K1 hK1 => ?_
  simp only [Act.put, List.setIfInBounds_toArray, List.set_cons_succ, List.set_cons_zero]
  refine wp_region_lit ?_
  refine wpList_valueX rfl (v := .agg (op5L ⟨7, 0, 0, 0, 0⟩).toArray) (exec_opLit rfl) ?_
  simp only [Act.put, List.setIfInBounds_toArray, List.set_cons_succ, List.set_cons_zero]
  refine wpList_build rfl (exec_buildOp1 rfl ⟨7, 0, 0, 0, 0⟩ rfl) ?_
  intro W5 g5 F5 J5x
  simp only [Act.put, List.setIfInBounds_toArray, List.set_cons_succ, List.set_cons_zero]
  have J5 : IsS W5 g5 58 (op5L ⟨7, 0, 0, 0, 0⟩) := J5x
  have B5 := F_b F5
  clear F5 J5x
  refine wpList_build rfl (exec_build1 eOps _ rfl (slc g5 1) rfl rfl) ?_
  intro W6 g6 F6 J6x
  simp only [Act.put, List.setIfInBounds_toArray, List.set_cons_succ, List.set_cons_zero]
  have J6 : IsS W6 g6 59 [slc g5 1] := J6x
  replace J5 := J5.fresh F6
  have B6 := Below.then B5 (F_b F6)
  clear F6 J6x B5
  refine wpList_build rfl (exec_build1 eStr _ rfl (.string sEAX) rfl rfl) ?_
  intro W7 g7 F7 J7x
  simp only [Act.put, List.setIfInBounds_toArray, List.set_cons_succ, List.set_cons_zero]
  have J7 : IsS W7 g7 9 [.string sEAX] := J7x
  replace J5 := J5.fresh F7
  replace J6 := J6.fresh F7
  have B7 := Below.then B6 (F_b F7)
  clear F7 J7x B6
  refine wpList_build rfl (exec_build1 eStrs _ rfl (slc g7 1) rfl rfl) ?_
  intro W8 g8 F8 J8x
  simp only [Act.put, List.setIfInBounds_toArray, List.set_cons_succ, List.set_cons_zero]
  have J8 : IsS W8 g8 24 [slc g7 1] := J8x
  replace J5 := J5.fresh F8
  replace J6 := J6.fresh F8
  replace J7 := J7.fresh F8
  have B8 := Below.then B7 (F_b F8)
  clear F8 J8x B7
  refine wpList_build rfl (exec_build1 eStr _ rfl (.string sX) rfl rfl) ?_
  intro W9 g9 F9 J9x
  simp only [Act.put, List.setIfInBounds_toArray, List.set_cons_succ, List.set_cons_zero]
  have J9 : IsS W9 g9 9 [.string sX] := J9x
  replace J5 := J5.fresh F9
  replace J6 := J6.fresh F9
  replace J7 := J7.fresh F9
  replace J8 := J8.fresh F9
  have B9 := Below.then B8 (F_b F9)
  clear F9 J9x B8
  refine wpList_build rfl (exec_build1 eIntP _ rfl (.int .i64 0) rfl rfl) ?_
  intro W10 g10 F10 J10x
  simp only [Act.put, List.setIfInBounds_toArray, List.set_cons_succ, List.set_cons_zero]
  have J10 : IsS W10 g10 2 [.int .i64 0] := J10x
  replace J5 := J5.fresh F10
  replace J6 := J6.fresh F10
  replace J7 := J7.fresh F10
  replace J8 := J8.fresh F10
  replace J9 := J9.fresh F10
  have B10 := Below.then B9 (F_b F10)
  clear F10 J10x B9
  refine wpList_build rfl (exec_build1 eInts _ rfl (slc g10 1) rfl rfl) ?_
  intro W11 g11 F11 J11x
  simp only [Act.put, List.setIfInBounds_toArray, List.set_cons_succ, List.set_cons_zero]
  have J11 : IsS W11 g11 26 [slc g10 1] := J11x
  replace J5 := J5.fresh F11
  replace J6 := J6.fresh F11
  replace J7 := J7.fresh F11
  replace J8 := J8.fresh F11
  replace J9 := J9.fresh F11
  replace J10 := J10.fresh F11
  have B11 := Below.then B10 (F_b F11)
  clear F11 J11x B10
  refine wpList_build rfl (exec_build1 eIntP _ rfl (.int .i64 0) rfl rfl) ?_
  intro W12 g12 F12 J12x
  simp only [Act.put, List.setIfInBounds_toArray, List.set_cons_succ, List.set_cons_zero]
  have J12 : IsS W12 g12 2 [.int .i64 0] := J12x
  replace J5 := J5.fresh F12
  replace J6 := J6.fresh F12
  replace J7 := J7.fresh F12
  replace J8 := J8.fresh F12
  replace J9 := J9.fresh F12
  replace J10 := J10.fresh F12
  replace J11 := J11.fresh F12
  have B12 := Below.then B11 (F_b F12)
  clear F12 J12x B11
  refine wpList_valueX rfl (build_pg1 rfl rfl rfl rfl rfl rfl) ?_
  simp only [Act.put, List.setIfInBounds_toArray, List.set_cons_succ, List.set_cons_zero]
  have hP := ex_pgv J5 J6 J7 J8 J9 J10 J11 J12
  clear J5 J6 J7 J8 J9 J10 J11 J12
  refine wpList_allocS rfl 28 rfl [.slice none 0 0, .slice none 0 0, .slice none 0 0, .slice none 0 0, .slice none 0 0] Tryd.zeroValue28 ?_
  intro W13 b1 F13 P13
  simp only [Act.put, List.setIfInBounds_toArray, List.set_cons_succ, List.set_cons_zero]
  have B13 := F_b F13
  have hb1 : Hid (W12.heap.size ≤ b1) := Nat.le_of_eq F13.at'.symm
  clear F13
  refine wpList_storeW rfl 28 _ _ rfl rfl [slc g6 1, slc g8 1, slc g9 1, slc g11 1, slc g12 1] rfl P13 rfl infoPg (by intro v hv; simp only [List.mem_cons, List.not_mem_nil, or_false] at hv; rcases hv with rfl | rfl | rfl | rfl | rfl <;> rfl) ?_
  intro W14 U14 P14
  have B14 : Below W12.heap.size W12 W14 := U14.trans B13 hb1.out
  have hP14 := hP.below B14
  have B014 := Below.then B12 B14
  clear U14 P13 B13 B12 hP B14 hb1
  refine hK1 _ _ ?_
  clear hK1 K1
  go_wp2_with (first
    | (clear ts; refine wpList_loadW rfl 28 _ rfl rfl P14 _ Tryd.underlying28 rfl infoPg ?_)
    | (clear tt; go_at_call 9; refine (HLs.out _ _ _ _ _ _ hP14).mono ?_; rintro e W15 ⟨v15, rfl, O15, B15⟩; have hP15 := hP14.below B15; have P15 := P14.grown B15; have B015 := Below.then B014 B15; obtain ⟨a15, c15, rfl⟩ := own_form O15; clear HLs))
  obtain ⟨g15, o15, rfl, hg15, HE1⟩ := seg_ev (own_seg O15) (show exEv[1]? = some ⟨3, 0, 0, 0, true⟩ from rfl)
  obtain ⟨_, _, e15, _, HE2⟩ := seg_ev (own_seg O15) (show exEv[2]? = some ⟨2, 0, 0, 0, true⟩ from rfl)
  cases e15
  have hS15 := own_seg O15
  refine grow_allW (by kernel_rfl) (by kernel_rfl) ?_
  refine WG.put rfl (v := .int .i64 0) (fun w => by first | rfl | (go_simp; done) | (simp [go_sem]; done) | (simp [execOp, go_sem]; done)) ?_
  simp only [Act.put, List.setIfInBounds_toArray, List.set_cons_succ, List.set_cons_zero]
  refine WG.put rfl (v := .bool true) (fun w => by first | rfl | (go_simp; done) | (simp [go_sem]; done) | (simp [execOp, go_sem]; done)) ?_
  simp only [Act.put, List.setIfInBounds_toArray, List.set_cons_succ, List.set_cons_zero]
  refine WG.put rfl (v := .bool true) (fun w => by first | rfl | (go_simp; done) | (simp [go_sem]; done) | (simp [execOp, go_sem]; done)) ?_
  simp only [Act.put, List.setIfInBounds_toArray, List.set_cons_succ, List.set_cons_zero]
  refine WG.put rfl (v := .slice (some ⟨g15, o15, none⟩) 3 c15) (fun w => by first | rfl | (go_simp; done) | (simp [go_sem]; done) | (simp [execOp, go_sem]; done)) ?_
  simp only [Act.put, List.setIfInBounds_toArray, List.set_cons_succ, List.set_cons_zero]
  refine WG.put rfl (v := .int .i64 3) (fun w => by first | rfl | (go_simp; done) | (simp [go_sem]; done) | (simp [execOp, go_sem]; done)) ?_
  simp only [Act.put, List.setIfInBounds_toArray, List.set_cons_succ, List.set_cons_zero]
  refine WG.put rfl (v := .bool true) (fun w => by first | rfl | (go_simp; done) | (simp [go_sem]; done) | (simp [execOp, go_sem]; done)) ?_
  simp only [Act.put, List.setIfInBounds_toArray, List.set_cons_succ, List.set_cons_zero]
  refine WG.put rfl (v := .bool true) (fun w => by first | rfl | (go_simp; done) | (simp [go_sem]; done) | (simp [execOp, go_sem]; done)) ?_
  simp only [Act.put, List.setIfInBounds_toArray, List.set_cons_succ, List.set_cons_zero]
  refine WG.put rfl (v := .bool true) (fun w => by first | rfl | (go_simp; done) | (simp [go_sem]; done) | (simp [execOp, go_sem]; done)) ?_
  simp only [Act.put, List.setIfInBounds_toArray, List.set_cons_succ, List.set_cons_zero]
  refine WG.put rfl (v := .slice (some ⟨g15, o15, none⟩) 3 c15) (fun w => by first | rfl | (go_simp; done) | (simp [go_sem]; done) | (simp [execOp, go_sem]; done)) ?_
  simp only [Act.put, List.setIfInBounds_toArray, List.set_cons_succ, List.set_cons_zero]
  refine WG.put rfl (v := .pointer (some ⟨g15, o15 + 1 * 5, none⟩)) (fun w => by first | rfl | (go_simp; done) | (simp [go_sem]; done) | (simp [execOp, go_sem]; done)) ?_
  simp only [Act.put, List.setIfInBounds_toArray, List.set_cons_succ, List.set_cons_zero]
  refine WG.range rfl 46 _ rfl rfl (evL ⟨3, 0, 0, 0, true⟩) hg15 HE1 _ Tryd.underlying46 rfl infoEv ?_
  simp only [Act.put, List.setIfInBounds_toArray, List.set_cons_succ, List.set_cons_zero]
  refine WG.put rfl (v := .agg (evL ⟨3, 0, 0, 0, true⟩).toArray) (fun w => exec_evLit rfl) ?_
  simp only [Act.put, List.setIfInBounds_toArray, List.set_cons_succ, List.set_cons_zero]
  refine WG.eqEv rfl _ _ rfl rfl rfl ?_
  simp only [Act.put, List.setIfInBounds_toArray, List.set_cons_succ, List.set_cons_zero]
  refine WG.put rfl (v := .bool true) (fun w => by first | rfl | (go_simp; done) | (simp [go_sem]; done) | (simp [execOp, go_sem]; done)) ?_
  simp only [Act.put, List.setIfInBounds_toArray, List.set_cons_succ, List.set_cons_zero]
  refine WG.put rfl (v := .bool true) (fun w => by first | rfl | (go_simp; done) | (simp [go_sem]; done) | (simp [execOp, go_sem]; done)) ?_
  simp only [Act.put, List.setIfInBounds_toArray, List.set_cons_succ, List.set_cons_zero]
  refine WG.put rfl (v := .slice (some ⟨g15, o15, none⟩) 3 c15) (fun w => by first | rfl | (go_simp; done) | (simp [go_sem]; done) | (simp [execOp, go_sem]; done)) ?_
  simp only [Act.put, List.setIfInBounds_toArray, List.set_cons_succ, List.set_cons_zero]
  refine WG.call rfl (v := relv 3 rwF) (fun W B => HRm.out W _ c15 ((HT.out.below B015).below B) (hS15.below B)) (fun w => by first | rfl | (go_simp; done) | (simp [go_sem]; done) | (simp [execOp, go_sem]; done)) ?_
  simp only [Act.put, List.setIfInBounds_toArray, List.set_cons_succ, List.set_cons_zero]
  refine WG.put rfl (v := arr64) (fun w => by first | rfl | kernel_rfl) ?_
  simp only [Act.put, List.setIfInBounds_toArray, List.set_cons_succ, List.set_cons_zero]
  refine WG.put rfl (v := relv 3 rwF) (fun w => by first | rfl | kernel_rfl) ?_
  simp only [Act.put, List.setIfInBounds_toArray, List.set_cons_succ, List.set_cons_zero]
  refine WG.eqR rfl _ _ rfl rfl rfl ?_
  simp only [Act.put, List.setIfInBounds_toArray, List.set_cons_succ, List.set_cons_zero]
  refine WG.put rfl (v := .bool true) (fun w => by first | rfl | (go_simp; done) | (simp [go_sem]; done) | (simp [execOp, go_sem]; done)) ?_
  simp only [Act.put, List.setIfInBounds_toArray, List.set_cons_succ, List.set_cons_zero]
  refine WG.put rfl (v := .bool true) (fun w => by first | rfl | (go_simp; done) | (simp [go_sem]; done) | (simp [execOp, go_sem]; done)) ?_
  simp only [Act.put, List.setIfInBounds_toArray, List.set_cons_succ, List.set_cons_zero]
  refine WG.row rfl 28 _ rfl rfl P15 _ rfl _ Tryd.underlying28 rfl infoPg ?_
  simp only [Act.put, List.setIfInBounds_toArray, List.set_cons_succ, List.set_cons_zero]
  refine WG.put rfl (v := .slice (some ⟨g15, o15, none⟩) 3 c15) (fun w => by first | rfl | (go_simp; done) | (simp [go_sem]; done) | (simp [execOp, go_sem]; done)) ?_
  simp only [Act.put, List.setIfInBounds_toArray, List.set_cons_succ, List.set_cons_zero]
  refine WG.put rfl (v := .pointer (some ⟨g15, o15 + 2 * 5, none⟩)) (fun w => by first | rfl | (go_simp; done) | (simp [go_sem]; done) | (simp [execOp, go_sem]; done)) ?_
  simp only [Act.put, List.setIfInBounds_toArray, List.set_cons_succ, List.set_cons_zero]
  refine WG.range rfl 46 _ rfl rfl (evL ⟨2, 0, 0, 0, true⟩) hg15 HE2 _ Tryd.underlying46 rfl infoEv ?_
  simp only [Act.put, List.setIfInBounds_toArray, List.set_cons_succ, List.set_cons_zero]
  refine WG.call rfl (v := .string ⟨#[48, 58, 48, 58, 87, 120, 42]⟩) (fun W B => HTx.out W _ _ _ _ _ (hP15.below B) ((HT10.out.below B015).below B)) (fun w => by first | rfl | (go_simp; done) | (simp [go_sem]; done) | (simp [execOp, go_sem]; done)) ?_
  simp only [Act.put, List.setIfInBounds_toArray, List.set_cons_succ, List.set_cons_zero]
  refine WG.put rfl (v := .bool true) (fun w => by first | rfl | (go_simp; done) | (simp [go_sem]; done) | (simp [execOp, go_sem]; done)) ?_
  simp only [Act.put, List.setIfInBounds_toArray, List.set_cons_succ, List.set_cons_zero]
  refine WG.put rfl (v := .bool true) (fun w => by first | rfl | (go_simp; done) | (simp [go_sem]; done) | (simp [execOp, go_sem]; done)) ?_
  simp only [Act.put, List.setIfInBounds_toArray, List.set_cons_succ, List.set_cons_zero]
  refine WG.put rfl (v := .bool true) (fun w => by first | rfl | (go_simp; done) | (simp [go_sem]; done) | (simp [execOp, go_sem]; done)) ?_
  simp only [Act.put, List.setIfInBounds_toArray, List.set_cons_succ, List.set_cons_zero]
  refine WG.nil ?_
  intro w5 B5
  go_wp2
  go_ret
  exact ⟨rfl, Below.then B015 B5⟩
end Go.Proofs.YtdjlfpkemdiadaaDoor
/- Steps on words of 64 bits. -/
namespace Go.Proofs.YtdjlfpkemdiadaaDoor
open Go Go.RowKit M
set_option linter.unusedSimpArgs false
set_option linter.unusedVariables false

theorem exec_cvt {w : World} {op : Oper} {a : Act} {x : Operand} {k : Nat} (ho : op.op = .convert 3 36 x) (hx : a.eval x = .int .i64 (k : Int)) (hk : k < 9223372036854775808) : (execOp a.eval op).run Tryd.prog w = .ok (.value (.int .u64 (k : Int))) w := by
  have h2 : IntKind.u64.wrap (k : Int) = (k : Int) := by rw [IntKind.wrap_u64]; omega
  generalize a.eval = ev at *
  unfold execOp
  simp [ho, hx, go_sem, h2]
theorem exec_cvb {w : World} {op : Oper} {a : Act} {x : Operand} {k : Nat} (ho : op.op = .convert 29 3 x) (hx : a.eval x = .int .u64 (k : Int)) (hk : k < 9223372036854775808) : (execOp a.eval op).run Tryd.prog w = .ok (.value (.int .i64 (k : Int))) w := by
  have h2 : IntKind.i64.wrap (k : Int) = (k : Int) := by rw [IntKind.wrap_i64]; omega
  generalize a.eval = ev at *
  unfold execOp
  simp [ho, hx, go_sem, h2]
theorem exec_shr {w : World} {op : Oper} {a : Act} {x y : Operand} {X k : Nat} (ho : op.op = .binOp .shr 29 x y 36) (hx : a.eval x = .int .u64 (X : Int)) (hy : a.eval y = .int .u64 (k : Int)) (hX : X < 18446744073709551616) (hk : k < 64) : (execOp a.eval op).run Tryd.prog w = .ok (.value (.int .u64 ((X >>> k : Nat) : Int))) w := by
  have h1 := shr_cast X k
  generalize X >>> k = q at *
  generalize a.eval = ev at *
  unfold execOp
  simp [ho, hx, hy, go_sem, hk, h1]
theorem exec_shl1 {w : World} {op : Oper} {a : Act} {y : Operand} {k : Nat} (ho : op.op = .binOp .shl 29 (.const (.int .u64 1)) y 36) (hy : a.eval y = .int .u64 (k : Int)) (hk : k < 64) : (execOp a.eval op).run Tryd.prog w = .ok (.value (.int .u64 ((2 ^ k : Nat) : Int))) w := by
  have hc : a.eval (.const (.int .u64 1)) = .int .u64 1 := rfl
  have h3 : IntKind.u64.wrap ((2 : Int) ^ k) = (2 : Int) ^ k := by
    have h4 : 2 ^ k ≤ 2 ^ 63 := Nat.pow_le_pow_right (by omega) (by omega)
    have e : (2 : Int) ^ k = ((2 ^ k : Nat) : Int) := by simp
    rw [e, IntKind.wrap_u64]
    generalize 2 ^ k = q at *
    omega
  generalize a.eval = ev at *
  unfold execOp
  simp [ho, hc, hy, go_sem, hk, h3]
theorem exec_and1 {w : World} {op : Oper} {a : Act} {x : Operand} {X k : Nat} (ho : op.op = .binOp .and 29 x (.const (.int .u64 1)) 29) (hx : a.eval x = .int .u64 ((X >>> k : Nat) : Int)) (hX : X < 18446744073709551616) : (execOp a.eval op).run Tryd.prog w = .ok (.value (.int .u64 (if X.testBit k then 1 else 0))) w := by
  have hc : a.eval (.const (.int .u64 1)) = .int .u64 1 := rfl
  have h1 := bit_and1 X k hX
  generalize X >>> k = q at *
  generalize a.eval = ev at *
  unfold execOp
  simp only [ho, hc, hx]
  simp [go_sem, h1]
theorem exec_andN {w : World} {op : Oper} {a : Act} {x y : Operand} {X Y : Nat} (ho : op.op = .binOp .and 29 x y 29) (hx : a.eval x = .int .u64 (X : Int)) (hy : a.eval y = .int .u64 (Y : Int)) (hX : X < 18446744073709551616) (hY : Y < 18446744073709551616) : (execOp a.eval op).run Tryd.prog w = .ok (.value (.int .u64 ((X &&& Y : Nat) : Int))) w := by
  have h1 := u64_and_nat X Y hX hY
  generalize X &&& Y = q at *
  generalize a.eval = ev at *
  unfold execOp
  simp only [ho, hx, hy]
  simp [go_sem, h1]
end Go.Proofs.YtdjlfpkemdiadaaDoor
/- The law EventShapes. -/
namespace Go.Proofs.YtdjlfpkemdiadaaDoor
open Go Go.RowKit M
set_option linter.unusedSimpArgs false
set_option linter.unusedVariables false

theorem exec_sub1 {w : World} {op : Oper} {a : Act} {x : Operand} {X : Nat} (ho : op.op = .binOp .sub 29 x (.const (.int .u64 1)) 29) (hx : a.eval x = .int .u64 (X : Int)) (h1 : 1 ≤ X) (hX : X < 18446744073709551616) : (execOp a.eval op).run Tryd.prog w = .ok (.value (.int .u64 ((X - 1 : Nat) : Int))) w := by
  have hc : a.eval (.const (.int .u64 1)) = .int .u64 1 := rfl
  have h3 : IntKind.u64.wrap ((X : Int) - 1) = ((X - 1 : Nat) : Int) := by rw [IntKind.wrap_u64]; omega
  generalize a.eval = ev at *
  generalize X - 1 = q at *
  unfold execOp
  simp [ho, hc, hx, go_sem, h3]
theorem try_wt : ∀ l : List Op5, 2 * (trC l : Int) ≤ evLP l
  | [] => by simp [trC, evLP]
  | o :: l => by
    have h1 := try_wt l
    have h2 : trC (o :: l) = trC [o] + trC l := by rw [show o :: l = [o] ++ l from rfl, trC_app]
    have h3 : 2 * (trC [o] : Int) ≤ evOf o.kind := by
      by_cases h : o.kind = 8
      · simp [trC, h, evOf]
      · have : trC [o] = 0 := by simp [trC, h]
        have := (evOf_bd o.kind).1
        omega
    show _ ≤ evOf o.kind + evLP l
    omega
theorem pg_one {w : World} {p : PG} {vt vr vl vi vj : Value} (h : PGV w vt vr vl vi vj p) : ∀ v ∈ [vt, vr, vl, vi, vj], v.oneCell' = true := by
  obtain ⟨_, _, h1, _⟩ := h.t
  obtain ⟨_, _, h2, _⟩ := h.r
  obtain ⟨_, _, h4, _⟩ := h.i
  obtain ⟨_, _, e1, _⟩ := h1
  obtain ⟨_, _, e2, _⟩ := h2
  obtain ⟨_, _, e3, _⟩ := h.l
  obtain ⟨_, _, e4, _⟩ := h4
  obtain ⟨_, _, e5, _⟩ := h.j
  subst e1 e2 e3 e4 e5
  simp [Value.oneCell']
section
variable {w : World} {b t : Nat} {cs : List Value} {ops : Array Oper} {rest : List Oper} {op : Oper} {a : Act} {Q : Exit → Act → World → Prop}
theorem wpList_runX (hw : Region.wanted op (yielded ops a.tmps) = true) {v : Value} (hr : (execOp a.eval op).run Tryd.prog w = .ok (.value v) w) (h : wpList Tryd.prog ops Q rest (a.put op.dst v) w) : wpList Tryd.prog ops Q (op :: rest) a w := by
  refine wpList_step fun K hK => ?_
  rw [if_pos hw]
  unfold Oper.wp
  rw [hr]
  exact hK _ _ h
theorem wpList_loadWG (hw : Region.wanted op (yielded ops a.tmps) = true) (ty : TypeId) (x : Operand) (ho : op.op = .load ty x) (hx : a.eval x = .pointer (some ⟨b, 0, none⟩)) (hc : IsS w b t cs) (d : TypeDesc)
    (hu : Tryd.prog.underlying ty = some d) (hd : d.isRow = true) (hi : (Tryd.prog.info? ty).map (·.size) = some cs.length)
    (h : wpList Tryd.prog ops Q rest (a.put op.dst (.agg cs.toArray)) w) : wpList Tryd.prog ops Q (op :: rest) a w := by
  have hr := hc.range 0 cs.length
  rw [List.drop_zero, List.take_length] at hr
  have hl := run_loadAt_mid (P := Tryd.prog) w b 0 ty cs d hr hu hd hi
  refine wpList_runX hw ?_ h
  unfold execOp
  simp only [ho, hx, Sem.run_bind, hl, Result.andThen_ok, Sem.run_pure]
end
def b2 (X k : Nat) : Nat := if X.testBit k then 1 else 0
theorem exec_bit {w : World} {op : Oper} {a : Act} {x : Operand} {X k : Nat} (ho : op.op = .binOp .and 29 x (.const (.int .u64 1)) 29) (hx : a.eval x = .int .u64 ((X >>> k : Nat) : Int)) (hX : X < 18446744073709551616) : (execOp a.eval op).run Tryd.prog w = .ok (.value (.int .u64 ((b2 X k : Nat) : Int))) w := by
  have h := exec_and1 (w := w) ho hx hX
  have e : (if X.testBit k then (1 : Int) else 0) = ((b2 X k : Nat) : Int) := by unfold b2; split <;> rfl
  rw [e] at h; exact h
theorem exec_addI {w : World} {op : Oper} {a : Act} {x y : Operand} {m n : Nat} (ho : op.op = .binOp .add 3 x y 3) (hx : a.eval x = .int .i64 (m : Int)) (hy : a.eval y = .int .i64 (n : Int)) (h : m + n < 9223372036854775808) : (execOp a.eval op).run Tryd.prog w = .ok (.value (.int .i64 ((m + n : Nat) : Int))) w := by
  have h3 : IntKind.i64.wrap ((m : Int) + (n : Int)) = ((m + n : Nat) : Int) := by rw [IntKind.wrap_i64]; omega
  generalize m + n = q at *
  generalize a.eval = ev at *
  unfold execOp
  simp [ho, hx, hy, go_sem, h3]
theorem cnt_next (f n : Nat) : cnt f 0 n + b2 f n = cnt f 0 (n + 1) := by rw [cnt_snoc]; rfl
theorem cnt_step (F k : Nat) (hF : F < 18446744073709551616) (hk : k < 64) : wrap64 (((cnt F 0 k : Nat) : Int) + wrap64 (bits .and .u64 ((F : Int) / 2 ^ k) 1)) = ((cnt F 0 (k + 1) : Nat) : Int) := by
  rw [shr_cast, bit_and1 F k hF, cnt_snoc]
  have h := cnt_le F k 0
  cases hb : F.testBit k
  · simp only [Bool.false_eq_true, if_false]
    unfold wrap64
    omega
  · simp only [if_true]
    unfold wrap64
    omega
theorem evA_at {l : List EV} {i : Nat} (h : i < l.length) : l[i]? = some (evA l i) := by
  rw [List.getElem?_eq_getElem h]
  unfold evA
  simp [h]
set_option maxRecDepth 100000 in
set_option maxHeartbeats 16000000 in
theorem eventShapes_any (p : PG) (hf : p.Few) (f : Nat) (hff : f < 18446744073709551616) (vt vr vl vi vj : Value) (w : World) (hp : PGV w vt vr vl vi vj p) (hT : TabAt w) (hT10 : Tab10 w) :
    Calls Tryd.prog 3 #[.agg #[vt, vr, vl, vi, vj], .int .u64 (f : Int)] w fun e w' => e = .returned (.bool true) ∧ Below w.heap.size w w' := by
  have cT := fun W h => tries_any p hf vt vr vl vi vj W h
  have cV := fun W h => valid_any p hf vt vr vl vi vj W h
  have cE := fun W h => events_any p hf vt vr vl vi vj W h
  have HP : Hid (PGV w vt vr vl vi vj p) := hp
  have HT : Hid (TabAt w) := hT
  have HT10 : Hid (Tab10 w) := hT10
  have hPl : ∀ v ∈ [vt, vr, vl, vi, vj], v.oneCell' = true := pg_one hp
  by_cases hv : validV p = 0
  · obtain ⟨K, hK⟩ : ∃ K, trC p.threads.flatten = K := ⟨_, rfl⟩
    have h64 := val_ev hv
    have hK32 : K ≤ 32 := by
      have h1 := try_wt p.threads.flatten
      rw [hK] at h1
      unfold eventsV at h64
      omega
    have hTr : trA p = (K : Int) := by unfold trA; rw [if_pos hv, hK]
    obtain ⟨F, hF⟩ : ∃ F, f &&& (2 ^ K - 1) = F := ⟨_, rfl⟩
    have hFK : F < 2 ^ K := by rw [← hF, Nat.and_two_pow_sub_one_eq_mod]; exact Nat.mod_lt _ (Nat.pow_pos (by omega))
    have hF64 : F < 18446744073709551616 := Nat.lt_of_lt_of_le hFK (Nat.le_trans (Nat.pow_le_pow_right (n := 2) (by omega) (show K ≤ 64 by omega)) (by decide))
    have hsh : F >>> K = 0 := by rw [Nat.shiftRight_eq_div_pow]; exact Nat.div_eq_of_lt hFK
    have hLs : lsL p F = evE p F := by unfold lsL; rw [if_neg (fun h => h hv), hK, if_neg (by rw [hsh]; simp)]
    have hLe : lsE p F = 0 := by unfold lsE; rw [if_neg (fun h => h hv), hK, if_neg (by rw [hsh]; simp)]
    have cL := fun W h => list_any p hf F hF64 vt vr vl vi vj W h
    unfold LsA at cL
    simp only [hLs, hLe] at cL
    have hlen := evE_len p F
    rw [hK] at hlen
    have HRI : Hid (∀ a b x y, (evE p F)[a]? = some x → (evE p F)[b]? = some y → a < b → oneB x y = true → x.idx ≤ y.idx) := fun a b x y h1 h2 h3 h4 => ev_rise h1 h2 h3 h4
    have hca : cnt F 0 64 = cnt F 0 K := cnt_all hFK (by omega)
    rw [← hca] at hlen
    rw [hTr, hv] at cT
    simp only [hTr, hv] at cT cV
    generalize evE p F = L at *
    obtain ⟨N, hN⟩ : ∃ N, L.length = N := ⟨_, rfl⟩
    rw [hN] at hlen
    have hN64 : N ≤ 64 := by omega
    have HF : Hid (f &&& (2 ^ K - 1) = F) := hF
    have HPl : Hid (∀ v ∈ [vt, vr, vl, vi, vj], v.oneCell' = true) := hPl
    have hK63 : (K : Int) < 64 := by omega
    have hpw : Hid (2 ^ K < 18446744073709551616) := Nat.lt_of_lt_of_le (Nat.pow_lt_pow_right (a := 2) (by omega) (show K < 64 by omega)) (by decide)
    have HcL : Hid _ := cL
    have HcE : Hid _ := cE
    have HcT : Hid _ := cT
    have HcV : Hid _ := cV
    clear hF hPl hp hT hT10 hv hTr hLs hLe hca hsh hK cL cE cT cV
    have t1 : True := trivial
    have t2 : True := trivial
    have t3 : True := trivial
    have t4 : True := trivial
    have t5 : True := trivial
    have t6 : True := trivial
    go_enter Tryd.func3, Tryd.ntmps3
    go_upto_region 10 with (first
      | (clear t1; refine wpList_boxS rfl 28 _ rfl [vt, vr, vl, vi, vj] rfl ?_; intro W1 b1 F1 P1; have B1 := F_b F1; clear F1)
      | (clear t2; go_at_call 6; refine (awake_any _ (HT.out.below B1) (HT10.out.below B1)).mono ?_; rintro e W2 ⟨rfl, B2x⟩; have P2 := P1.grown B2x; have B2 := Below.then B1 B2x; clear P1 B1 B2x)
      | (clear t3; refine wpList_loadW rfl 28 _ rfl rfl P2 _ Tryd.underlying28 rfl infoPg ?_)
      | (clear t4; go_at_call 7; refine (HcT.out _ (HP.out.below B2)).mono ?_; rintro e W3 ⟨rfl, B3x⟩; have P3 := P2.grown B3x; have B3 := Below.then B2 B3x; clear P2 B2 B3x HcT)
      | (clear t5; refine wpList_loadW rfl 28 _ rfl rfl P3 _ Tryd.underlying28 rfl infoPg ?_)
      | (clear t6; go_at_call 8; refine (HcV.out _ (HP.out.below B3)).mono ?_; rintro e W4 ⟨rfl, B4x⟩; have P4 := P3.grown B4x; have B4 := Below.then B3 B4x; clear P3 B3 B4x HcV))
    refine grow_region ?_
    refine WG.put rfl (v := .int .u64 (f : Int)) (fun w => by first | rfl | (go_simp; done) | (simp [go_sem]; done) | (simp [execOp, go_sem]; done)) ?_
    simp only [Act.put, List.setIfInBounds_toArray, List.set_cons_succ, List.set_cons_zero]
    refine WG.put rfl (v := .int .i64 (K : Int)) (fun w => by first | rfl | (go_simp; done) | (simp [go_sem]; done) | (simp [execOp, go_sem]; done)) ?_
    simp only [Act.put, List.setIfInBounds_toArray, List.set_cons_succ, List.set_cons_zero]
    refine WG.put rfl (fun w => exec_cvt rfl rfl (by omega)) ?_
    simp only [Act.put, List.setIfInBounds_toArray, List.set_cons_succ, List.set_cons_zero]
    refine WG.put rfl (fun w => exec_shl1 rfl rfl (by omega)) ?_
    simp only [Act.put, List.setIfInBounds_toArray, List.set_cons_succ, List.set_cons_zero]
    refine WG.put rfl (fun w => exec_sub1 (X := 2 ^ K) rfl rfl Nat.one_le_two_pow hpw.out) ?_
    simp only [Act.put, List.setIfInBounds_toArray, List.set_cons_succ, List.set_cons_zero]
    refine WG.put rfl (v := .int .u64 (F : Int)) (fun w => by rw [← HF.out]; exact exec_andN (X := f) (Y := 2 ^ K - 1) rfl rfl rfl hff (Nat.lt_of_le_of_lt (Nat.sub_le _ _) hpw.out)) ?_
    simp only [Act.put, List.setIfInBounds_toArray, List.set_cons_succ, List.set_cons_zero]
    refine WG.put rfl (v := .int .u64 (F : Int)) (fun w => by first | rfl | (go_simp; done) | (simp [go_sem]; done) | (simp [execOp, go_sem]; done)) ?_
    simp only [Act.put, List.setIfInBounds_toArray, List.set_cons_succ, List.set_cons_zero]
    refine WG.nil ?_
    intro w5 B5
    have P5 := P4.grown B5
    have B05 := Below.then B4 B5
    clear P4 B4 B5
    go_wp2
    go_loopw [8, 9] (fun o i wr => ∃ k : Nat, k ≤ 64 ∧ i = .int .i64 (k : Int) ∧ o = .int .i64 ((cnt F 0 k : Nat) : Int) ∧ Hid (Below w5.heap.size w5 wr)) (fun _ i _ => 64 - (intOf i).toNat)
    case atStart => exact ⟨0, by omega, rfl, rfl, Below.refl _ _⟩
    case round =>
      obtain ⟨k, hk, rfl, rfl, HB⟩ := hrel
      have hcl := cnt_le F k 0
      by_cases hlt : k < 64
      · have hki : (k : Int) < 64 := by omega
        have hb1 : b2 F k ≤ 1 := by unfold b2; split <;> omega
        have HST : Hid (wrap64 (((cnt F 0 k : Nat) : Int) + wrap64 (bits .and .u64 ((F : Int) / 2 ^ k) 1)) = ((cnt F 0 (k + 1) : Nat) : Int)) := cnt_step F k hF64 hlt
        go_wp2
        go_roundw
        case rel => exact ⟨k + 1, by omega, by go_num, by rw [HST.out], HB.out⟩
        case measure => simp [intOf]; omega
      · have e : k = 64 := by omega
        subst e
        have P6 := P5.grown HB.out
        have B06 := Below.then B05 HB.out
        clear hlt P5 B05 HB
        obtain ⟨c, hc⟩ : ∃ c, cnt F 0 64 = c := ⟨_, rfl⟩
        rw [hc] at hlen hcl ⊢
        have hsub : eventsV p - (c : Int) = (N : Int) := by omega
        have hwr : IntKind.i64.wrap (N : Int) = (N : Int) := by rw [IntKind.wrap_i64]; omega
        have hNI : ¬ ((64 : Int) < (N : Int)) := by omega
        have HNL : Hid (L.length = N) := hN
        have HcL2 : Hid (∀ W, PGV W vt vr vl vi vj p → Calls Tryd.prog 9 #[.agg #[vt, vr, vl, vi, vj], .int .u64 (F : Int)] W fun e w' => ∃ v, e = .returned (.tuple #[v, .int .i64 0]) ∧ w'.ownsRow W.heap.size 46 5 v N (L.flatMap evL) ∧ Below W.heap.size W w') := fun W h => by have := HcL.out W h; rw [hN] at this; exact this
        have hshL : shL L = L := by unfold shL; rw [if_pos (by omega)]
        have HPo : Hid (∀ W a c', Seg W a (L.flatMap evL) → Calls Tryd.prog 11 #[.slice a N c'] W fun e w' => e = .returned (relv N (prF N (stQ 1 L))) ∧ Below W.heap.size W w') := fun W a c' h => by have := po_x (l := L) (a := a) (c := c') (w := W) (by omega) h; rw [hshL, hN] at this; exact this
        have HIn : Hid (∀ W a c', Seg W a (L.flatMap evL) → Calls Tryd.prog 12 #[.slice a N c'] W fun e w' => e = .returned (relv N (prF N (stQ 3 L))) ∧ Below W.heap.size W w') := fun W a c' h => by have := int_x (l := L) (a := a) (c := c') (w := W) (by omega) h; rw [hshL, hN] at this; exact this
        have HEx : Hid (∀ W a c', Seg W a (L.flatMap evL) → Calls Tryd.prog 13 #[.slice a N c'] W fun e w' => e = .returned (relv N (prF N (stQ 4 L))) ∧ Below W.heap.size W w') := fun W a c' h => by have := ext_x (l := L) (a := a) (c := c') (w := W) (by omega) h; rw [hshL, hN] at this; exact this
        have HX1 : Hid (∀ a, prF N (stQ 1 L) a < 18446744073709551616) := fun a => prF_lt N hN64 _ a
        have HX3 : Hid (∀ a, prF N (stQ 3 L) a < 18446744073709551616) := fun a => prF_lt N hN64 _ a
        have HX4 : Hid (∀ a, prF N (stQ 4 L) a < 18446744073709551616) := fun a => prF_lt N hN64 _ a
        clear HcL hc hcl hshL hN
        generalize eventsV p = E at *
        have u1 : True := trivial
        have u2 : True := trivial
        have u3 : True := trivial
        have u4 : True := trivial
        have u5 : True := trivial
        have u6 : True := trivial
        have u7 : True := trivial
        have u8 : True := trivial
        have u9 : True := trivial
        have u10 : True := trivial
        have u11 : True := trivial
        have u12 : True := trivial
        have u13 : True := trivial
        have u14 : True := trivial
        have u15 : True := trivial
        have u16 : True := trivial
        have u17 : True := trivial
        have u18 : True := trivial
        have u19 : True := trivial
        go_wp2_with (first
          | (clear u1; refine wpList_loadW rfl 28 _ rfl rfl P6 _ Tryd.underlying28 rfl infoPg ?_)
          | (clear u2; go_at_call 9; refine (HcL2.out _ (HP.out.below B06)).mono ?_; rintro e W7 ⟨v7, rfl, O7, B7x⟩; obtain ⟨a7, c7, rfl⟩ := own_form O7; have P7 := P6.grown B7x; have B7 := Below.then B06 B7x; clear P6 B06 B7x HcL2)
          | (clear u3; refine wpList_loadWG ?_ 28 _ rfl rfl P7 _ Tryd.underlying28 rfl infoPg ?_)
          | (clear u4; go_at_call 10; refine (HcE.out _ (HP.out.below B7)).mono ?_; rintro e W8 ⟨rfl, B8x⟩; have S8 := (own_seg O7).below B8x; have B8 := Below.then B7 B8x; clear P7 B7 B8x HcE O7)
          | (clear u5; go_at_call 11; refine (HPo.out _ a7 c7 S8).mono ?_; rintro e W9 ⟨rfl, B9x⟩; have S9 := S8.below B9x; have B9 := Below.then B8 B9x; clear S8 B8 B9x HPo)
          | (clear u6; go_at_call 12; refine (HIn.out _ a7 c7 S9).mono ?_; rintro e W10 ⟨rfl, B10x⟩; have S10 := S9.below B10x; have B10 := Below.then B9 B10x; clear S9 B9 B10x HIn)
          | (clear u7; go_at_call 13; refine (HEx.out _ a7 c7 S10).mono ?_; rintro e W11 ⟨rfl, B11x⟩; have S11 := S10.below B11x; have B11 := Below.then B10 B11x; clear S10 B10 B11x HEx)
          | (clear u8; refine wpList_allocR rfl rfl ?_; intro W12 p1 F12 r1; have Z12 := F_b F12; have hp1 : Hid (W11.heap.size ≤ p1) := Nat.le_of_eq F12.at'.symm; have hl1 : Hid (p1 < W12.heap.size) := r1.lt; clear F12)
          | (clear u9; refine wpList_allocR rfl rfl ?_; intro W13 p2 F13 r2; have Z13 := Below.then Z12 (F_b F13); have hp2 : Hid (p1 < p2) := Nat.lt_of_lt_of_le hl1.out (Nat.le_of_eq F13.at'.symm); have hl2 : Hid (p2 < W13.heap.size) := r2.lt; have q1 := r1.grown (F_b F13); clear F13 r1 Z12)
          | (clear u10; refine wpList_allocR rfl rfl ?_; intro W14 p3 F14 r3; have Z14 := Below.then Z13 (F_b F14); have hp3 : Hid (p2 < p3) := Nat.lt_of_lt_of_le hl2.out (Nat.le_of_eq F14.at'.symm); have q2 := r2.grown (F_b F14); have s1 := q1.grown (F_b F14); clear F14 r2 q1 Z13)
          | (clear u11; refine wpList_storeR rfl _ _ rfl rfl rfl s1 ?_; intro W15 U15 k1; have Z15 := U15.trans Z14 hp1.out; have k2 := q2.upd U15 (by have := hp2.out; omega); have k3 := r3.upd U15 (by have := hp2.out; have := hp3.out; omega); clear U15 Z14 s1 q2 r3)
          | (clear u12; refine wpList_storeR rfl _ _ rfl rfl rfl k2 ?_; intro W16 U16 m2; have Z16 := U16.trans Z15 (by have := hp1.out; have := hp2.out; omega); have m1 := k1.upd U16 (by have := hp2.out; omega); have m3 := k3.upd U16 (by have := hp3.out; omega); clear U16 Z15 k1 k2 k3)
          | (clear u13; refine wpList_storeR rfl _ _ rfl rfl rfl m3 ?_; intro W17 U17 n3; have Z17 := U17.trans Z16 (by have := hp1.out; have := hp2.out; have := hp3.out; omega); have n1 : Hid (IsR W17 p1 N (prF N (stQ 1 L))) := m1.upd U17 (by have := hp2.out; have := hp3.out; omega); have n2 : Hid (IsR W17 p2 N (prF N (stQ 3 L))) := m2.upd U17 (by have := hp3.out; omega); have n4 : Hid (IsR W17 p3 N (prF N (stQ 4 L))) := n3; have S17 : Hid (Seg W17 a7 (L.flatMap evL)) := S11.below Z17; have B17 : Hid (Below w.heap.size w W17) := Below.then B11 Z17; clear U17 Z16 Z17 m1 m2 m3 n3 S11 B11))
        go_loopw [14] (fun i wr => ∃ a : Nat, a ≤ N ∧ i = .int .i64 (a : Int) ∧ Hid (Below W17.heap.size W17 wr)) (fun i _ => N - (intOf i).toNat)
        case atStart => exact ⟨0, Nat.zero_le _, rfl, Below.refl _ _⟩
        case round =>
          obtain ⟨a, ha, rfl, HB⟩ := hrel
          by_cases hlt : a < N
          · have hai : (a : Int) < N := by omega
            have ha64 : (a : Int) < 64 := by omega
            obtain ⟨WO, eWO⟩ : ∃ W, W = wr := ⟨_, rfl⟩
            subst eWO
            go_wp2
            go_loopw [15] (fun i wr => ∃ b : Nat, b ≤ N ∧ i = .int .i64 (b : Int) ∧ Hid (Below WO.heap.size WO wr)) (fun i _ => N - (intOf i).toNat)
            case atStart => exact ⟨0, Nat.zero_le _, rfl, Below.refl _ _⟩
            case round =>
              obtain ⟨b, hb, rfl, HBb⟩ := hrel
              have BB : Hid (Below W17.heap.size W17 wr) := Below.then HB.out HBb.out
              by_cases hlt2 : b < N
              · have hbi : (b : Int) < N := by omega
                have hb64 : b < 64 := by omega
                have hx := evA_at (l := L) (i := a) (by rw [HNL.out]; exact hlt)
                have hy := evA_at (l := L) (i := b) (by rw [HNL.out]; exact hlt2)
                have ht1 : (prF N (stQ 1 L) a).testBit b = (oneB (evA L a) (evA L b) && decide (a < b)) := by rw [prF_bit]; simp [hlt, hlt2, stQ]
                have ht3 : (prF N (stQ 3 L) a).testBit b = oneB (evA L a) (evA L b) := by rw [prF_bit]; simp [hlt, hlt2, stQ]
                have ht4 : (prF N (stQ 4 L) a).testBit b = !oneB (evA L a) (evA L b) := by rw [prF_bit]; simp [hlt, hlt2, stQ]
                have c1 : wr.cell? ⟨p1, 1 + a, none⟩ = some (.int .u64 ((prF N (stQ 1 L) a : Nat) : Int)) := (n1.out.grown BB.out).row a (by omega)
                have c2 : wr.cell? ⟨p2, 1 + a, none⟩ = some (.int .u64 ((prF N (stQ 3 L) a : Nat) : Int)) := (n2.out.grown BB.out).row a (by omega)
                have c3 : wr.cell? ⟨p3, 1 + a, none⟩ = some (.int .u64 ((prF N (stQ 4 L) a : Nat) : Int)) := (n4.out.grown BB.out).row a (by omega)
                have hX1 := HX1.out a
                have hX3 := HX3.out a
                have hX4 := HX4.out a
                obtain ⟨gl, ol, rfl, hgl, hEx⟩ := seg_ev (S17.out.below BB.out) hx
                obtain ⟨_, _, e2, _, hEy⟩ := seg_ev (S17.out.below BB.out) hy
                cases e2
                have HRx : Hid (a < b → oneB (evA L a) (evA L b) = true → (evA L a).idx ≤ (evA L b).idx) := fun h1 h2 => HRI.out a b _ _ hx hy h1 h2
                have d1 : wr.cell? ⟨gl, ol + a * 5 + 1, none⟩ = some (.int .i64 (evA L a).thr) := hEx 1 _ rfl
                have d2 : wr.cell? ⟨gl, ol + b * 5 + 1, none⟩ = some (.int .i64 (evA L b).thr) := hEy 1 _ rfl
                have d3 : wr.cell? ⟨gl, ol + a * 5 + 2, none⟩ = some (.int .i64 (evA L a).idx) := hEx 2 _ rfl
                have d4 : wr.cell? ⟨gl, ol + b * 5 + 2, none⟩ = some (.int .i64 (evA L b).idx) := hEy 2 _ rfl
                generalize prF N (stQ 1 L) a = X1 at *
                generalize prF N (stQ 3 L) a = X3 at *
                generalize prF N (stQ 4 L) a = X4 at *
                clear hx hy hEx hEy
                cases ho : oneB (evA L a) (evA L b) with
                | false =>
                  rw [ho] at ht1 ht3 ht4
                  have v1 : ((b2 X1 b : Nat) : Int) = 0 := by unfold b2; rw [ht1]; rfl
                  have v3 : ((b2 X3 b : Nat) : Int) = 0 := by unfold b2; rw [ht3]; rfl
                  have v4 : ((b2 X4 b : Nat) : Int) = 1 := by unfold b2; rw [ht4]; rfl
                  go_wp2
                  refine grow_allW (by kernel_rfl) (by kernel_rfl) ?_
                  refine WG.put rfl (v := .int .i64 (a : Int)) (fun w => by first | rfl | (go_simp; done) | (simp [go_sem]; done) | (simp [execOp, go_sem]; done)) ?_
                  simp only [Act.put, List.setIfInBounds_toArray, List.set_cons_succ, List.set_cons_zero]
                  refine WG.put rfl (v := .pointer (some ⟨p1, 1, none⟩)) (fun w => by first | rfl | (go_simp; done) | (simp [go_sem]; done) | (simp [execOp, go_sem]; done)) ?_
                  simp only [Act.put, List.setIfInBounds_toArray, List.set_cons_succ, List.set_cons_zero]
                  refine WG.put rfl (v := .pointer (some ⟨p1, 1 + a, none⟩)) (fun w => by first | rfl | (go_simp; done) | (simp [go_sem, ha64]; done) | (simp [execOp, go_sem, ha64]; done)) ?_
                  simp only [Act.put, List.setIfInBounds_toArray, List.set_cons_succ, List.set_cons_zero]
                  refine WG.cell rfl 29 _ rfl rfl c1 (fun w h => by simp [go_sem, h]) ?_
                  simp only [Act.put, List.setIfInBounds_toArray, List.set_cons_succ, List.set_cons_zero]
                  refine WG.put rfl (v := .int .i64 (b : Int)) (fun w => by first | rfl | (go_simp; done) | (simp [go_sem]; done) | (simp [execOp, go_sem]; done)) ?_
                  simp only [Act.put, List.setIfInBounds_toArray, List.set_cons_succ, List.set_cons_zero]
                  refine WG.put rfl (fun w => exec_cvt rfl rfl (by omega)) ?_
                  simp only [Act.put, List.setIfInBounds_toArray, List.set_cons_succ, List.set_cons_zero]
                  refine WG.put rfl (fun w => exec_shr (X := X1) rfl rfl rfl hX1 hb64) ?_
                  simp only [Act.put, List.setIfInBounds_toArray, List.set_cons_succ, List.set_cons_zero]
                  refine WG.put rfl (v := .int .u64 0) (fun w => (exec_bit (X := X1) rfl rfl hX1).trans (by rw [v1]))  ?_
                  simp only [Act.put, List.setIfInBounds_toArray, List.set_cons_succ, List.set_cons_zero]
                  refine WG.put rfl (v := .int .i64 (a : Int)) (fun w => by first | rfl | (go_simp; done) | (simp [go_sem]; done) | (simp [execOp, go_sem]; done)) ?_
                  simp only [Act.put, List.setIfInBounds_toArray, List.set_cons_succ, List.set_cons_zero]
                  refine WG.put rfl (v := .pointer (some ⟨p2, 1, none⟩)) (fun w => by first | rfl | (go_simp; done) | (simp [go_sem]; done) | (simp [execOp, go_sem]; done)) ?_
                  simp only [Act.put, List.setIfInBounds_toArray, List.set_cons_succ, List.set_cons_zero]
                  refine WG.put rfl (v := .pointer (some ⟨p2, 1 + a, none⟩)) (fun w => by first | rfl | (go_simp; done) | (simp [go_sem, ha64]; done) | (simp [execOp, go_sem, ha64]; done)) ?_
                  simp only [Act.put, List.setIfInBounds_toArray, List.set_cons_succ, List.set_cons_zero]
                  refine WG.cell rfl 29 _ rfl rfl c2 (fun w h => by simp [go_sem, h]) ?_
                  simp only [Act.put, List.setIfInBounds_toArray, List.set_cons_succ, List.set_cons_zero]
                  refine WG.put rfl (v := .int .i64 (b : Int)) (fun w => by first | rfl | (go_simp; done) | (simp [go_sem]; done) | (simp [execOp, go_sem]; done)) ?_
                  simp only [Act.put, List.setIfInBounds_toArray, List.set_cons_succ, List.set_cons_zero]
                  refine WG.put rfl (fun w => exec_cvt rfl rfl (by omega)) ?_
                  simp only [Act.put, List.setIfInBounds_toArray, List.set_cons_succ, List.set_cons_zero]
                  refine WG.put rfl (fun w => exec_shr (X := X3) rfl rfl rfl hX3 hb64) ?_
                  simp only [Act.put, List.setIfInBounds_toArray, List.set_cons_succ, List.set_cons_zero]
                  refine WG.put rfl (v := .int .u64 0) (fun w => (exec_bit (X := X3) rfl rfl hX3).trans (by rw [v3]))  ?_
                  simp only [Act.put, List.setIfInBounds_toArray, List.set_cons_succ, List.set_cons_zero]
                  refine WG.put rfl (v := .int .i64 (a : Int)) (fun w => by first | rfl | (go_simp; done) | (simp [go_sem]; done) | (simp [execOp, go_sem]; done)) ?_
                  simp only [Act.put, List.setIfInBounds_toArray, List.set_cons_succ, List.set_cons_zero]
                  refine WG.put rfl (v := .pointer (some ⟨p3, 1, none⟩)) (fun w => by first | rfl | (go_simp; done) | (simp [go_sem]; done) | (simp [execOp, go_sem]; done)) ?_
                  simp only [Act.put, List.setIfInBounds_toArray, List.set_cons_succ, List.set_cons_zero]
                  refine WG.put rfl (v := .pointer (some ⟨p3, 1 + a, none⟩)) (fun w => by first | rfl | (go_simp; done) | (simp [go_sem, ha64]; done) | (simp [execOp, go_sem, ha64]; done)) ?_
                  simp only [Act.put, List.setIfInBounds_toArray, List.set_cons_succ, List.set_cons_zero]
                  refine WG.cell rfl 29 _ rfl rfl c3 (fun w h => by simp [go_sem, h]) ?_
                  simp only [Act.put, List.setIfInBounds_toArray, List.set_cons_succ, List.set_cons_zero]
                  refine WG.put rfl (v := .int .i64 (b : Int)) (fun w => by first | rfl | (go_simp; done) | (simp [go_sem]; done) | (simp [execOp, go_sem]; done)) ?_
                  simp only [Act.put, List.setIfInBounds_toArray, List.set_cons_succ, List.set_cons_zero]
                  refine WG.put rfl (fun w => exec_cvt rfl rfl (by omega)) ?_
                  simp only [Act.put, List.setIfInBounds_toArray, List.set_cons_succ, List.set_cons_zero]
                  refine WG.put rfl (fun w => exec_shr (X := X4) rfl rfl rfl hX4 hb64) ?_
                  simp only [Act.put, List.setIfInBounds_toArray, List.set_cons_succ, List.set_cons_zero]
                  refine WG.put rfl (v := .int .u64 1) (fun w => (exec_bit (X := X4) rfl rfl hX4).trans (by rw [v4]))  ?_
                  simp only [Act.put, List.setIfInBounds_toArray, List.set_cons_succ, List.set_cons_zero]
                  refine WG.put rfl (v := .int .u64 0) (fun w => by first | rfl | (go_simp; done) | (simp [go_sem]; done) | (simp [execOp, go_sem]; done)) ?_
                  simp only [Act.put, List.setIfInBounds_toArray, List.set_cons_succ, List.set_cons_zero]
                  refine WG.put rfl (v := .int .u64 0) (fun w => by first | rfl | (go_simp; done) | (simp [go_sem]; done) | (simp [execOp, go_sem]; done)) ?_
                  simp only [Act.put, List.setIfInBounds_toArray, List.set_cons_succ, List.set_cons_zero]
                  refine WG.put rfl (v := .int .u64 1) (fun w => by first | rfl | (go_simp; done) | (simp [go_sem]; done) | (simp [execOp, go_sem]; done)) ?_
                  simp only [Act.put, List.setIfInBounds_toArray, List.set_cons_succ, List.set_cons_zero]
                  refine WG.nil ?_
                  intro w18 B18
                  go_wp2
                  refine grow_allW (by kernel_rfl) (by kernel_rfl) ?_
                  refine WG.put rfl (v := .int .u64 0) (fun w => by first | rfl | (go_simp; done) | (simp [go_sem]; done) | (simp [execOp, go_sem]; done)) ?_
                  simp only [Act.put, List.setIfInBounds_toArray, List.set_cons_succ, List.set_cons_zero]
                  refine WG.put rfl (v := .int .u64 1) (fun w => by first | rfl | (go_simp; done) | (simp [go_sem]; done) | (simp [execOp, go_sem]; done)) ?_
                  simp only [Act.put, List.setIfInBounds_toArray, List.set_cons_succ, List.set_cons_zero]
                  refine WG.put rfl (v := .int .u64 1) (fun w => by first | rfl | (go_simp; done) | (simp [go_sem]; done) | (simp [execOp, go_sem]; done)) ?_
                  simp only [Act.put, List.setIfInBounds_toArray, List.set_cons_succ, List.set_cons_zero]
                  refine WG.put rfl (v := .bool false) (fun w => by first | rfl | (go_simp; done) | (simp [go_sem]; done) | (simp [execOp, go_sem]; done)) ?_
                  simp only [Act.put, List.setIfInBounds_toArray, List.set_cons_succ, List.set_cons_zero]
                  refine WG.put rfl (v := .bool false) (fun w => by first | rfl | (go_simp; done) | (simp [go_sem]; done) | (simp [execOp, go_sem]; done)) ?_
                  simp only [Act.put, List.setIfInBounds_toArray, List.set_cons_succ, List.set_cons_zero]
                  refine WG.put rfl (v := .int .u64 0) (fun w => by first | rfl | (go_simp; done) | (simp [go_sem]; done) | (simp [execOp, go_sem]; done)) ?_
                  simp only [Act.put, List.setIfInBounds_toArray, List.set_cons_succ, List.set_cons_zero]
                  refine WG.put rfl (v := .bool false) (fun w => by first | rfl | (go_simp; done) | (simp [go_sem]; done) | (simp [execOp, go_sem]; done)) ?_
                  simp only [Act.put, List.setIfInBounds_toArray, List.set_cons_succ, List.set_cons_zero]
                  refine WG.put rfl (v := .bool false) (fun w => by first | rfl | (go_simp; done) | (simp [go_sem]; done) | (simp [execOp, go_sem]; done)) ?_
                  simp only [Act.put, List.setIfInBounds_toArray, List.set_cons_succ, List.set_cons_zero]
                  refine WG.skip rfl ?_
                  simp only [Act.put, List.setIfInBounds_toArray, List.set_cons_succ, List.set_cons_zero]
                  refine WG.skip rfl ?_
                  simp only [Act.put, List.setIfInBounds_toArray, List.set_cons_succ, List.set_cons_zero]
                  refine WG.skip rfl ?_
                  simp only [Act.put, List.setIfInBounds_toArray, List.set_cons_succ, List.set_cons_zero]
                  refine WG.skip rfl ?_
                  simp only [Act.put, List.setIfInBounds_toArray, List.set_cons_succ, List.set_cons_zero]
                  refine WG.skip rfl ?_
                  simp only [Act.put, List.setIfInBounds_toArray, List.set_cons_succ, List.set_cons_zero]
                  refine WG.skip rfl ?_
                  simp only [Act.put, List.setIfInBounds_toArray, List.set_cons_succ, List.set_cons_zero]
                  refine WG.skip rfl ?_
                  simp only [Act.put, List.setIfInBounds_toArray, List.set_cons_succ, List.set_cons_zero]
                  refine WG.skip rfl ?_
                  simp only [Act.put, List.setIfInBounds_toArray, List.set_cons_succ, List.set_cons_zero]
                  refine WG.skip rfl ?_
                  simp only [Act.put, List.setIfInBounds_toArray, List.set_cons_succ, List.set_cons_zero]
                  refine WG.skip rfl ?_
                  simp only [Act.put, List.setIfInBounds_toArray, List.set_cons_succ, List.set_cons_zero]
                  refine WG.skip rfl ?_
                  simp only [Act.put, List.setIfInBounds_toArray, List.set_cons_succ, List.set_cons_zero]
                  refine WG.skip rfl ?_
                  simp only [Act.put, List.setIfInBounds_toArray, List.set_cons_succ, List.set_cons_zero]
                  refine WG.skip rfl ?_
                  simp only [Act.put, List.setIfInBounds_toArray, List.set_cons_succ, List.set_cons_zero]
                  refine WG.skip rfl ?_
                  simp only [Act.put, List.setIfInBounds_toArray, List.set_cons_succ, List.set_cons_zero]
                  refine WG.skip rfl ?_
                  simp only [Act.put, List.setIfInBounds_toArray, List.set_cons_succ, List.set_cons_zero]
                  refine WG.skip rfl ?_
                  simp only [Act.put, List.setIfInBounds_toArray, List.set_cons_succ, List.set_cons_zero]
                  refine WG.skip rfl ?_
                  simp only [Act.put, List.setIfInBounds_toArray, List.set_cons_succ, List.set_cons_zero]
                  refine WG.skip rfl ?_
                  simp only [Act.put, List.setIfInBounds_toArray, List.set_cons_succ, List.set_cons_zero]
                  refine WG.skip rfl ?_
                  simp only [Act.put, List.setIfInBounds_toArray, List.set_cons_succ, List.set_cons_zero]
                  refine WG.skip rfl ?_
                  simp only [Act.put, List.setIfInBounds_toArray, List.set_cons_succ, List.set_cons_zero]
                  refine WG.skip rfl ?_
                  simp only [Act.put, List.setIfInBounds_toArray, List.set_cons_succ, List.set_cons_zero]
                  refine WG.skip rfl ?_
                  simp only [Act.put, List.setIfInBounds_toArray, List.set_cons_succ, List.set_cons_zero]
                  refine WG.skip rfl ?_
                  simp only [Act.put, List.setIfInBounds_toArray, List.set_cons_succ, List.set_cons_zero]
                  refine WG.skip rfl ?_
                  simp only [Act.put, List.setIfInBounds_toArray, List.set_cons_succ, List.set_cons_zero]
                  refine WG.skip rfl ?_
                  simp only [Act.put, List.setIfInBounds_toArray, List.set_cons_succ, List.set_cons_zero]
                  refine WG.skip rfl ?_
                  simp only [Act.put, List.setIfInBounds_toArray, List.set_cons_succ, List.set_cons_zero]
                  refine WG.skip rfl ?_
                  simp only [Act.put, List.setIfInBounds_toArray, List.set_cons_succ, List.set_cons_zero]
                  refine WG.skip rfl ?_
                  simp only [Act.put, List.setIfInBounds_toArray, List.set_cons_succ, List.set_cons_zero]
                  refine WG.skip rfl ?_
                  simp only [Act.put, List.setIfInBounds_toArray, List.set_cons_succ, List.set_cons_zero]
                  refine WG.skip rfl ?_
                  simp only [Act.put, List.setIfInBounds_toArray, List.set_cons_succ, List.set_cons_zero]
                  refine WG.skip rfl ?_
                  simp only [Act.put, List.setIfInBounds_toArray, List.set_cons_succ, List.set_cons_zero]
                  refine WG.skip rfl ?_
                  simp only [Act.put, List.setIfInBounds_toArray, List.set_cons_succ, List.set_cons_zero]
                  refine WG.skip rfl ?_
                  simp only [Act.put, List.setIfInBounds_toArray, List.set_cons_succ, List.set_cons_zero]
                  refine WG.put rfl (v := .bool false) (fun w => by first | rfl | (go_simp; done) | (simp [go_sem]; done) | (simp [execOp, go_sem]; done)) ?_
                  simp only [Act.put, List.setIfInBounds_toArray, List.set_cons_succ, List.set_cons_zero]
                  refine WG.put rfl (v := .bool false) (fun w => by first | rfl | (go_simp; done) | (simp [go_sem]; done) | (simp [execOp, go_sem]; done)) ?_
                  simp only [Act.put, List.setIfInBounds_toArray, List.set_cons_succ, List.set_cons_zero]
                  refine WG.put rfl (v := .bool false) (fun w => by first | rfl | (go_simp; done) | (simp [go_sem]; done) | (simp [execOp, go_sem]; done)) ?_
                  simp only [Act.put, List.setIfInBounds_toArray, List.set_cons_succ, List.set_cons_zero]
                  refine WG.put rfl (v := .int .u64 0) (fun w => by first | rfl | (go_simp; done) | (simp [go_sem]; done) | (simp [execOp, go_sem]; done)) ?_
                  simp only [Act.put, List.setIfInBounds_toArray, List.set_cons_succ, List.set_cons_zero]
                  refine WG.put rfl (v := .bool true) (fun w => by first | rfl | (go_simp; done) | (simp [go_sem]; done) | (simp [execOp, go_sem]; done)) ?_
                  simp only [Act.put, List.setIfInBounds_toArray, List.set_cons_succ, List.set_cons_zero]
                  refine WG.put rfl (v := .bool true) (fun w => by first | rfl | (go_simp; done) | (simp [go_sem]; done) | (simp [execOp, go_sem]; done)) ?_
                  simp only [Act.put, List.setIfInBounds_toArray, List.set_cons_succ, List.set_cons_zero]
                  refine WG.put rfl (v := .int .u64 0) (fun w => by first | rfl | (go_simp; done) | (simp [go_sem]; done) | (simp [execOp, go_sem]; done)) ?_
                  simp only [Act.put, List.setIfInBounds_toArray, List.set_cons_succ, List.set_cons_zero]
                  refine WG.put rfl (v := .bool false) (fun w => by first | rfl | (go_simp; done) | (simp [go_sem]; done) | (simp [execOp, go_sem]; done)) ?_
                  simp only [Act.put, List.setIfInBounds_toArray, List.set_cons_succ, List.set_cons_zero]
                  refine WG.put rfl (v := .bool false) (fun w => by first | rfl | (go_simp; done) | (simp [go_sem]; done) | (simp [execOp, go_sem]; done)) ?_
                  simp only [Act.put, List.setIfInBounds_toArray, List.set_cons_succ, List.set_cons_zero]
                  refine WG.put rfl (v := .bool false) (fun w => by first | rfl | (go_simp; done) | (simp [go_sem]; done) | (simp [execOp, go_sem]; done)) ?_
                  simp only [Act.put, List.setIfInBounds_toArray, List.set_cons_succ, List.set_cons_zero]
                  refine WG.skip rfl ?_
                  simp only [Act.put, List.setIfInBounds_toArray, List.set_cons_succ, List.set_cons_zero]
                  refine WG.skip rfl ?_
                  simp only [Act.put, List.setIfInBounds_toArray, List.set_cons_succ, List.set_cons_zero]
                  refine WG.skip rfl ?_
                  simp only [Act.put, List.setIfInBounds_toArray, List.set_cons_succ, List.set_cons_zero]
                  refine WG.put rfl (v := .bool false) (fun w => by first | rfl | (go_simp; done) | (simp [go_sem]; done) | (simp [execOp, go_sem]; done)) ?_
                  simp only [Act.put, List.setIfInBounds_toArray, List.set_cons_succ, List.set_cons_zero]
                  refine WG.put rfl (v := .bool false) (fun w => by first | rfl | (go_simp; done) | (simp [go_sem]; done) | (simp [execOp, go_sem]; done)) ?_
                  simp only [Act.put, List.setIfInBounds_toArray, List.set_cons_succ, List.set_cons_zero]
                  refine WG.nil ?_
                  intro w19 B19
                  have BN := Below.then (Below.then HBb.out B18) B19
                  go_wp2
                  go_roundw
                  case rel => exact ⟨b + 1, by omega, by go_num, BN⟩
                  case measure => simp [intOf]; omega
                | true =>
                  rw [ho] at ht1 ht3 ht4
                  have hth : (evA L a).thr = (evA L b).thr := (one_thr ho).1
                  have v3 : ((b2 X3 b : Nat) : Int) = 1 := by unfold b2; rw [ht3]; rfl
                  have v4 : ((b2 X4 b : Nat) : Int) = 0 := by unfold b2; rw [ht4]; rfl
                  by_cases hab : a < b
                  · have v1 : ((b2 X1 b : Nat) : Int) = 1 := by unfold b2; rw [ht1]; simp [hab]
                    have hxi := HRx.out hab ho
                    have hne : ((evA L a).thr != (evA L b).thr) = false := by simp [hth]
                    have hgt : ¬ ((evA L b).idx < (evA L a).idx) := by omega
                    have hge : ¬ ((b : Int) ≤ (a : Int)) := by omega
                    go_wp2
                    refine grow_allW (by kernel_rfl) (by kernel_rfl) ?_
                    refine WG.put rfl (v := .int .i64 (a : Int)) (fun w => by first | rfl | (go_simp; done) | (simp [go_sem]; done) | (simp [execOp, go_sem]; done)) ?_
                    simp only [Act.put, List.setIfInBounds_toArray, List.set_cons_succ, List.set_cons_zero]
                    refine WG.put rfl (v := .pointer (some ⟨p1, 1, none⟩)) (fun w => by first | rfl | (go_simp; done) | (simp [go_sem]; done) | (simp [execOp, go_sem]; done)) ?_
                    simp only [Act.put, List.setIfInBounds_toArray, List.set_cons_succ, List.set_cons_zero]
                    refine WG.put rfl (v := .pointer (some ⟨p1, 1 + a, none⟩)) (fun w => by first | rfl | (go_simp; done) | (simp [go_sem, ha64]; done) | (simp [execOp, go_sem, ha64]; done)) ?_
                    simp only [Act.put, List.setIfInBounds_toArray, List.set_cons_succ, List.set_cons_zero]
                    refine WG.cell rfl 29 _ rfl rfl c1 (fun w h => by simp [go_sem, h]) ?_
                    simp only [Act.put, List.setIfInBounds_toArray, List.set_cons_succ, List.set_cons_zero]
                    refine WG.put rfl (v := .int .i64 (b : Int)) (fun w => by first | rfl | (go_simp; done) | (simp [go_sem]; done) | (simp [execOp, go_sem]; done)) ?_
                    simp only [Act.put, List.setIfInBounds_toArray, List.set_cons_succ, List.set_cons_zero]
                    refine WG.put rfl (fun w => exec_cvt rfl rfl (by omega)) ?_
                    simp only [Act.put, List.setIfInBounds_toArray, List.set_cons_succ, List.set_cons_zero]
                    refine WG.put rfl (fun w => exec_shr (X := X1) rfl rfl rfl hX1 hb64) ?_
                    simp only [Act.put, List.setIfInBounds_toArray, List.set_cons_succ, List.set_cons_zero]
                    refine WG.put rfl (v := .int .u64 1) (fun w => (exec_bit (X := X1) rfl rfl hX1).trans (by rw [v1]))  ?_
                    simp only [Act.put, List.setIfInBounds_toArray, List.set_cons_succ, List.set_cons_zero]
                    refine WG.put rfl (v := .int .i64 (a : Int)) (fun w => by first | rfl | (go_simp; done) | (simp [go_sem]; done) | (simp [execOp, go_sem]; done)) ?_
                    simp only [Act.put, List.setIfInBounds_toArray, List.set_cons_succ, List.set_cons_zero]
                    refine WG.put rfl (v := .pointer (some ⟨p2, 1, none⟩)) (fun w => by first | rfl | (go_simp; done) | (simp [go_sem]; done) | (simp [execOp, go_sem]; done)) ?_
                    simp only [Act.put, List.setIfInBounds_toArray, List.set_cons_succ, List.set_cons_zero]
                    refine WG.put rfl (v := .pointer (some ⟨p2, 1 + a, none⟩)) (fun w => by first | rfl | (go_simp; done) | (simp [go_sem, ha64]; done) | (simp [execOp, go_sem, ha64]; done)) ?_
                    simp only [Act.put, List.setIfInBounds_toArray, List.set_cons_succ, List.set_cons_zero]
                    refine WG.cell rfl 29 _ rfl rfl c2 (fun w h => by simp [go_sem, h]) ?_
                    simp only [Act.put, List.setIfInBounds_toArray, List.set_cons_succ, List.set_cons_zero]
                    refine WG.put rfl (v := .int .i64 (b : Int)) (fun w => by first | rfl | (go_simp; done) | (simp [go_sem]; done) | (simp [execOp, go_sem]; done)) ?_
                    simp only [Act.put, List.setIfInBounds_toArray, List.set_cons_succ, List.set_cons_zero]
                    refine WG.put rfl (fun w => exec_cvt rfl rfl (by omega)) ?_
                    simp only [Act.put, List.setIfInBounds_toArray, List.set_cons_succ, List.set_cons_zero]
                    refine WG.put rfl (fun w => exec_shr (X := X3) rfl rfl rfl hX3 hb64) ?_
                    simp only [Act.put, List.setIfInBounds_toArray, List.set_cons_succ, List.set_cons_zero]
                    refine WG.put rfl (v := .int .u64 1) (fun w => (exec_bit (X := X3) rfl rfl hX3).trans (by rw [v3]))  ?_
                    simp only [Act.put, List.setIfInBounds_toArray, List.set_cons_succ, List.set_cons_zero]
                    refine WG.put rfl (v := .int .i64 (a : Int)) (fun w => by first | rfl | (go_simp; done) | (simp [go_sem]; done) | (simp [execOp, go_sem]; done)) ?_
                    simp only [Act.put, List.setIfInBounds_toArray, List.set_cons_succ, List.set_cons_zero]
                    refine WG.put rfl (v := .pointer (some ⟨p3, 1, none⟩)) (fun w => by first | rfl | (go_simp; done) | (simp [go_sem]; done) | (simp [execOp, go_sem]; done)) ?_
                    simp only [Act.put, List.setIfInBounds_toArray, List.set_cons_succ, List.set_cons_zero]
                    refine WG.put rfl (v := .pointer (some ⟨p3, 1 + a, none⟩)) (fun w => by first | rfl | (go_simp; done) | (simp [go_sem, ha64]; done) | (simp [execOp, go_sem, ha64]; done)) ?_
                    simp only [Act.put, List.setIfInBounds_toArray, List.set_cons_succ, List.set_cons_zero]
                    refine WG.cell rfl 29 _ rfl rfl c3 (fun w h => by simp [go_sem, h]) ?_
                    simp only [Act.put, List.setIfInBounds_toArray, List.set_cons_succ, List.set_cons_zero]
                    refine WG.put rfl (v := .int .i64 (b : Int)) (fun w => by first | rfl | (go_simp; done) | (simp [go_sem]; done) | (simp [execOp, go_sem]; done)) ?_
                    simp only [Act.put, List.setIfInBounds_toArray, List.set_cons_succ, List.set_cons_zero]
                    refine WG.put rfl (fun w => exec_cvt rfl rfl (by omega)) ?_
                    simp only [Act.put, List.setIfInBounds_toArray, List.set_cons_succ, List.set_cons_zero]
                    refine WG.put rfl (fun w => exec_shr (X := X4) rfl rfl rfl hX4 hb64) ?_
                    simp only [Act.put, List.setIfInBounds_toArray, List.set_cons_succ, List.set_cons_zero]
                    refine WG.put rfl (v := .int .u64 0) (fun w => (exec_bit (X := X4) rfl rfl hX4).trans (by rw [v4]))  ?_
                    simp only [Act.put, List.setIfInBounds_toArray, List.set_cons_succ, List.set_cons_zero]
                    refine WG.put rfl (v := .int .u64 1) (fun w => by first | rfl | (go_simp; done) | (simp [go_sem]; done) | (simp [execOp, go_sem]; done)) ?_
                    simp only [Act.put, List.setIfInBounds_toArray, List.set_cons_succ, List.set_cons_zero]
                    refine WG.put rfl (v := .int .u64 1) (fun w => by first | rfl | (go_simp; done) | (simp [go_sem]; done) | (simp [execOp, go_sem]; done)) ?_
                    simp only [Act.put, List.setIfInBounds_toArray, List.set_cons_succ, List.set_cons_zero]
                    refine WG.put rfl (v := .int .u64 0) (fun w => by first | rfl | (go_simp; done) | (simp [go_sem]; done) | (simp [execOp, go_sem]; done)) ?_
                    simp only [Act.put, List.setIfInBounds_toArray, List.set_cons_succ, List.set_cons_zero]
                    refine WG.nil ?_
                    intro w18 B18
                    have e1 := cell_grow d1 B18
                    have e2 := cell_grow d2 B18
                    have e3 := cell_grow d3 B18
                    have e4 := cell_grow d4 B18
                    go_wp2
                    refine grow_allW (by kernel_rfl) (by kernel_rfl) ?_
                    refine WG.put rfl (v := .int .u64 1) (fun w => by first | rfl | (go_simp; done) | (simp [go_sem]; done) | (simp [execOp, go_sem]; done)) ?_
                    simp only [Act.put, List.setIfInBounds_toArray, List.set_cons_succ, List.set_cons_zero]
                    refine WG.put rfl (v := .int .u64 0) (fun w => by first | rfl | (go_simp; done) | (simp [go_sem]; done) | (simp [execOp, go_sem]; done)) ?_
                    simp only [Act.put, List.setIfInBounds_toArray, List.set_cons_succ, List.set_cons_zero]
                    refine WG.put rfl (v := .int .u64 1) (fun w => by first | rfl | (go_simp; done) | (simp [go_sem]; done) | (simp [execOp, go_sem]; done)) ?_
                    simp only [Act.put, List.setIfInBounds_toArray, List.set_cons_succ, List.set_cons_zero]
                    refine WG.put rfl (v := .bool false) (fun w => by first | rfl | (go_simp; done) | (simp [go_sem]; done) | (simp [execOp, go_sem]; done)) ?_
                    simp only [Act.put, List.setIfInBounds_toArray, List.set_cons_succ, List.set_cons_zero]
                    refine WG.put rfl (v := .bool false) (fun w => by first | rfl | (go_simp; done) | (simp [go_sem]; done) | (simp [execOp, go_sem]; done)) ?_
                    simp only [Act.put, List.setIfInBounds_toArray, List.set_cons_succ, List.set_cons_zero]
                    refine WG.put rfl (v := .int .u64 1) (fun w => by first | rfl | (go_simp; done) | (simp [go_sem]; done) | (simp [execOp, go_sem]; done)) ?_
                    simp only [Act.put, List.setIfInBounds_toArray, List.set_cons_succ, List.set_cons_zero]
                    refine WG.put rfl (v := .bool true) (fun w => by first | rfl | (go_simp; done) | (simp [go_sem]; done) | (simp [execOp, go_sem]; done)) ?_
                    simp only [Act.put, List.setIfInBounds_toArray, List.set_cons_succ, List.set_cons_zero]
                    refine WG.put rfl (v := .bool true) (fun w => by first | rfl | (go_simp; done) | (simp [go_sem]; done) | (simp [execOp, go_sem]; done)) ?_
                    simp only [Act.put, List.setIfInBounds_toArray, List.set_cons_succ, List.set_cons_zero]
                    refine WG.put rfl (v := .int .i64 (a : Int)) (fun w => by first | rfl | (go_simp; done) | (simp [go_sem]; done) | (simp [execOp, go_sem]; done)) ?_
                    simp only [Act.put, List.setIfInBounds_toArray, List.set_cons_succ, List.set_cons_zero]
                    refine WG.put rfl (v := .int .i64 (b : Int)) (fun w => by first | rfl | (go_simp; done) | (simp [go_sem]; done) | (simp [execOp, go_sem]; done)) ?_
                    simp only [Act.put, List.setIfInBounds_toArray, List.set_cons_succ, List.set_cons_zero]
                    refine WG.put rfl (v := .bool false) (fun w => by first | rfl | (go_simp; done) | (simp [go_sem, hge]; done) | (simp [execOp, go_sem, hge]; done)) ?_
                    simp only [Act.put, List.setIfInBounds_toArray, List.set_cons_succ, List.set_cons_zero]
                    refine WG.put rfl (v := .bool false) (fun w => by first | rfl | (go_simp; done) | (simp [go_sem]; done) | (simp [execOp, go_sem]; done)) ?_
                    simp only [Act.put, List.setIfInBounds_toArray, List.set_cons_succ, List.set_cons_zero]
                    refine WG.put rfl (v := .int .u64 1) (fun w => by first | rfl | (go_simp; done) | (simp [go_sem]; done) | (simp [execOp, go_sem]; done)) ?_
                    simp only [Act.put, List.setIfInBounds_toArray, List.set_cons_succ, List.set_cons_zero]
                    refine WG.put rfl (v := .bool false) (fun w => by first | rfl | (go_simp; done) | (simp [go_sem]; done) | (simp [execOp, go_sem]; done)) ?_
                    simp only [Act.put, List.setIfInBounds_toArray, List.set_cons_succ, List.set_cons_zero]
                    refine WG.put rfl (v := .bool false) (fun w => by first | rfl | (go_simp; done) | (simp [go_sem]; done) | (simp [execOp, go_sem]; done)) ?_
                    simp only [Act.put, List.setIfInBounds_toArray, List.set_cons_succ, List.set_cons_zero]
                    refine WG.put rfl (v := .bool false) (fun w => by first | rfl | (go_simp; done) | (simp [go_sem]; done) | (simp [execOp, go_sem]; done)) ?_
                    simp only [Act.put, List.setIfInBounds_toArray, List.set_cons_succ, List.set_cons_zero]
                    refine WG.put rfl (v := .slice (some ⟨gl, ol, none⟩) N c7) (fun w => by first | rfl | (go_simp; done) | (simp [go_sem]; done) | (simp [execOp, go_sem]; done)) ?_
                    simp only [Act.put, List.setIfInBounds_toArray, List.set_cons_succ, List.set_cons_zero]
                    refine WG.put rfl (v := .int .i64 (a : Int)) (fun w => by first | rfl | (go_simp; done) | (simp [go_sem]; done) | (simp [execOp, go_sem]; done)) ?_
                    simp only [Act.put, List.setIfInBounds_toArray, List.set_cons_succ, List.set_cons_zero]
                    refine WG.put rfl (v := .pointer (some ⟨gl, ol + a * 5, none⟩)) (fun w => by first | rfl | (go_simp; done) | (simp [go_sem, hai]; done) | (simp [execOp, go_sem, hai]; done)) ?_
                    simp only [Act.put, List.setIfInBounds_toArray, List.set_cons_succ, List.set_cons_zero]
                    refine WG.put rfl (v := .pointer (some ⟨gl, ol + a * 5 + 1, none⟩)) (fun w => by first | rfl | (go_simp; done) | (simp [go_sem]; done) | (simp [execOp, go_sem]; done)) ?_
                    simp only [Act.put, List.setIfInBounds_toArray, List.set_cons_succ, List.set_cons_zero]
                    refine WG.cell rfl 3 _ rfl rfl e1 (fun w h => by simp [go_sem, h]) ?_
                    simp only [Act.put, List.setIfInBounds_toArray, List.set_cons_succ, List.set_cons_zero]
                    refine WG.put rfl (v := .slice (some ⟨gl, ol, none⟩) N c7) (fun w => by first | rfl | (go_simp; done) | (simp [go_sem]; done) | (simp [execOp, go_sem]; done)) ?_
                    simp only [Act.put, List.setIfInBounds_toArray, List.set_cons_succ, List.set_cons_zero]
                    refine WG.put rfl (v := .int .i64 (b : Int)) (fun w => by first | rfl | (go_simp; done) | (simp [go_sem]; done) | (simp [execOp, go_sem]; done)) ?_
                    simp only [Act.put, List.setIfInBounds_toArray, List.set_cons_succ, List.set_cons_zero]
                    refine WG.put rfl (v := .pointer (some ⟨gl, ol + b * 5, none⟩)) (fun w => by first | rfl | (go_simp; done) | (simp [go_sem, hbi]; done) | (simp [execOp, go_sem, hbi]; done)) ?_
                    simp only [Act.put, List.setIfInBounds_toArray, List.set_cons_succ, List.set_cons_zero]
                    refine WG.put rfl (v := .pointer (some ⟨gl, ol + b * 5 + 1, none⟩)) (fun w => by first | rfl | (go_simp; done) | (simp [go_sem]; done) | (simp [execOp, go_sem]; done)) ?_
                    simp only [Act.put, List.setIfInBounds_toArray, List.set_cons_succ, List.set_cons_zero]
                    refine WG.cell rfl 3 _ rfl rfl e2 (fun w h => by simp [go_sem, h]) ?_
                    simp only [Act.put, List.setIfInBounds_toArray, List.set_cons_succ, List.set_cons_zero]
                    refine WG.put rfl (v := .bool false) (fun w => by first | rfl | (go_simp; done) | (simp [go_sem, hth]; done) | (simp [execOp, go_sem, hth]; done)) ?_
                    simp only [Act.put, List.setIfInBounds_toArray, List.set_cons_succ, List.set_cons_zero]
                    refine WG.put rfl (v := .bool false) (fun w => by first | rfl | (go_simp; done) | (simp [go_sem]; done) | (simp [execOp, go_sem]; done)) ?_
                    simp only [Act.put, List.setIfInBounds_toArray, List.set_cons_succ, List.set_cons_zero]
                    refine WG.put rfl (v := .bool false) (fun w => by first | rfl | (go_simp; done) | (simp [go_sem]; done) | (simp [execOp, go_sem]; done)) ?_
                    simp only [Act.put, List.setIfInBounds_toArray, List.set_cons_succ, List.set_cons_zero]
                    refine WG.put rfl (v := .slice (some ⟨gl, ol, none⟩) N c7) (fun w => by first | rfl | (go_simp; done) | (simp [go_sem]; done) | (simp [execOp, go_sem]; done)) ?_
                    simp only [Act.put, List.setIfInBounds_toArray, List.set_cons_succ, List.set_cons_zero]
                    refine WG.put rfl (v := .int .i64 (a : Int)) (fun w => by first | rfl | (go_simp; done) | (simp [go_sem]; done) | (simp [execOp, go_sem]; done)) ?_
                    simp only [Act.put, List.setIfInBounds_toArray, List.set_cons_succ, List.set_cons_zero]
                    refine WG.put rfl (v := .pointer (some ⟨gl, ol + a * 5, none⟩)) (fun w => by first | rfl | (go_simp; done) | (simp [go_sem, hai]; done) | (simp [execOp, go_sem, hai]; done)) ?_
                    simp only [Act.put, List.setIfInBounds_toArray, List.set_cons_succ, List.set_cons_zero]
                    refine WG.put rfl (v := .pointer (some ⟨gl, ol + a * 5 + 2, none⟩)) (fun w => by first | rfl | (go_simp; done) | (simp [go_sem]; done) | (simp [execOp, go_sem]; done)) ?_
                    simp only [Act.put, List.setIfInBounds_toArray, List.set_cons_succ, List.set_cons_zero]
                    refine WG.cell rfl 3 _ rfl rfl e3 (fun w h => by simp [go_sem, h]) ?_
                    simp only [Act.put, List.setIfInBounds_toArray, List.set_cons_succ, List.set_cons_zero]
                    refine WG.put rfl (v := .slice (some ⟨gl, ol, none⟩) N c7) (fun w => by first | rfl | (go_simp; done) | (simp [go_sem]; done) | (simp [execOp, go_sem]; done)) ?_
                    simp only [Act.put, List.setIfInBounds_toArray, List.set_cons_succ, List.set_cons_zero]
                    refine WG.put rfl (v := .int .i64 (b : Int)) (fun w => by first | rfl | (go_simp; done) | (simp [go_sem]; done) | (simp [execOp, go_sem]; done)) ?_
                    simp only [Act.put, List.setIfInBounds_toArray, List.set_cons_succ, List.set_cons_zero]
                    refine WG.put rfl (v := .pointer (some ⟨gl, ol + b * 5, none⟩)) (fun w => by first | rfl | (go_simp; done) | (simp [go_sem, hbi]; done) | (simp [execOp, go_sem, hbi]; done)) ?_
                    simp only [Act.put, List.setIfInBounds_toArray, List.set_cons_succ, List.set_cons_zero]
                    refine WG.put rfl (v := .pointer (some ⟨gl, ol + b * 5 + 2, none⟩)) (fun w => by first | rfl | (go_simp; done) | (simp [go_sem]; done) | (simp [execOp, go_sem]; done)) ?_
                    simp only [Act.put, List.setIfInBounds_toArray, List.set_cons_succ, List.set_cons_zero]
                    refine WG.cell rfl 3 _ rfl rfl e4 (fun w h => by simp [go_sem, h]) ?_
                    simp only [Act.put, List.setIfInBounds_toArray, List.set_cons_succ, List.set_cons_zero]
                    refine WG.put rfl (v := .bool false) (fun w => by first | rfl | (go_simp; done) | (simp [go_sem, hgt]; done) | (simp [execOp, go_sem, hgt]; done)) ?_
                    simp only [Act.put, List.setIfInBounds_toArray, List.set_cons_succ, List.set_cons_zero]
                    refine WG.put rfl (v := .bool false) (fun w => by first | rfl | (go_simp; done) | (simp [go_sem]; done) | (simp [execOp, go_sem]; done)) ?_
                    simp only [Act.put, List.setIfInBounds_toArray, List.set_cons_succ, List.set_cons_zero]
                    refine WG.put rfl (v := .bool false) (fun w => by first | rfl | (go_simp; done) | (simp [go_sem]; done) | (simp [execOp, go_sem]; done)) ?_
                    simp only [Act.put, List.setIfInBounds_toArray, List.set_cons_succ, List.set_cons_zero]
                    refine WG.put rfl (v := .bool false) (fun w => by first | rfl | (go_simp; done) | (simp [go_sem]; done) | (simp [execOp, go_sem]; done)) ?_
                    simp only [Act.put, List.setIfInBounds_toArray, List.set_cons_succ, List.set_cons_zero]
                    refine WG.put rfl (v := .bool false) (fun w => by first | rfl | (go_simp; done) | (simp [go_sem]; done) | (simp [execOp, go_sem]; done)) ?_
                    simp only [Act.put, List.setIfInBounds_toArray, List.set_cons_succ, List.set_cons_zero]
                    refine WG.put rfl (v := .int .u64 1) (fun w => by first | rfl | (go_simp; done) | (simp [go_sem]; done) | (simp [execOp, go_sem]; done)) ?_
                    simp only [Act.put, List.setIfInBounds_toArray, List.set_cons_succ, List.set_cons_zero]
                    refine WG.put rfl (v := .bool false) (fun w => by first | rfl | (go_simp; done) | (simp [go_sem]; done) | (simp [execOp, go_sem]; done)) ?_
                    simp only [Act.put, List.setIfInBounds_toArray, List.set_cons_succ, List.set_cons_zero]
                    refine WG.put rfl (v := .bool false) (fun w => by first | rfl | (go_simp; done) | (simp [go_sem]; done) | (simp [execOp, go_sem]; done)) ?_
                    simp only [Act.put, List.setIfInBounds_toArray, List.set_cons_succ, List.set_cons_zero]
                    refine WG.skip rfl ?_
                    simp only [Act.put, List.setIfInBounds_toArray, List.set_cons_succ, List.set_cons_zero]
                    refine WG.skip rfl ?_
                    simp only [Act.put, List.setIfInBounds_toArray, List.set_cons_succ, List.set_cons_zero]
                    refine WG.put rfl (v := .bool false) (fun w => by first | rfl | (go_simp; done) | (simp [go_sem]; done) | (simp [execOp, go_sem]; done)) ?_
                    simp only [Act.put, List.setIfInBounds_toArray, List.set_cons_succ, List.set_cons_zero]
                    refine WG.put rfl (v := .bool false) (fun w => by first | rfl | (go_simp; done) | (simp [go_sem]; done) | (simp [execOp, go_sem]; done)) ?_
                    simp only [Act.put, List.setIfInBounds_toArray, List.set_cons_succ, List.set_cons_zero]
                    refine WG.skip rfl ?_
                    simp only [Act.put, List.setIfInBounds_toArray, List.set_cons_succ, List.set_cons_zero]
                    refine WG.skip rfl ?_
                    simp only [Act.put, List.setIfInBounds_toArray, List.set_cons_succ, List.set_cons_zero]
                    refine WG.skip rfl ?_
                    simp only [Act.put, List.setIfInBounds_toArray, List.set_cons_succ, List.set_cons_zero]
                    refine WG.put rfl (v := .bool false) (fun w => by first | rfl | (go_simp; done) | (simp [go_sem]; done) | (simp [execOp, go_sem]; done)) ?_
                    simp only [Act.put, List.setIfInBounds_toArray, List.set_cons_succ, List.set_cons_zero]
                    refine WG.put rfl (v := .bool false) (fun w => by first | rfl | (go_simp; done) | (simp [go_sem]; done) | (simp [execOp, go_sem]; done)) ?_
                    simp only [Act.put, List.setIfInBounds_toArray, List.set_cons_succ, List.set_cons_zero]
                    refine WG.nil ?_
                    intro w19 B19
                    have BN := Below.then (Below.then HBb.out B18) B19
                    go_wp2
                    go_roundw
                    case rel => exact ⟨b + 1, by omega, by go_num, BN⟩
                    case measure => simp [intOf]; omega
                  · have v1 : ((b2 X1 b : Nat) : Int) = 0 := by unfold b2; rw [ht1]; simp [hab]
                    have hlss : ¬ ((a : Int) < (b : Int)) := by omega
                    go_wp2
                    refine grow_allW (by kernel_rfl) (by kernel_rfl) ?_
                    refine WG.put rfl (v := .int .i64 (a : Int)) (fun w => by first | rfl | (go_simp; done) | (simp [go_sem]; done) | (simp [execOp, go_sem]; done)) ?_
                    simp only [Act.put, List.setIfInBounds_toArray, List.set_cons_succ, List.set_cons_zero]
                    refine WG.put rfl (v := .pointer (some ⟨p1, 1, none⟩)) (fun w => by first | rfl | (go_simp; done) | (simp [go_sem]; done) | (simp [execOp, go_sem]; done)) ?_
                    simp only [Act.put, List.setIfInBounds_toArray, List.set_cons_succ, List.set_cons_zero]
                    refine WG.put rfl (v := .pointer (some ⟨p1, 1 + a, none⟩)) (fun w => by first | rfl | (go_simp; done) | (simp [go_sem, ha64]; done) | (simp [execOp, go_sem, ha64]; done)) ?_
                    simp only [Act.put, List.setIfInBounds_toArray, List.set_cons_succ, List.set_cons_zero]
                    refine WG.cell rfl 29 _ rfl rfl c1 (fun w h => by simp [go_sem, h]) ?_
                    simp only [Act.put, List.setIfInBounds_toArray, List.set_cons_succ, List.set_cons_zero]
                    refine WG.put rfl (v := .int .i64 (b : Int)) (fun w => by first | rfl | (go_simp; done) | (simp [go_sem]; done) | (simp [execOp, go_sem]; done)) ?_
                    simp only [Act.put, List.setIfInBounds_toArray, List.set_cons_succ, List.set_cons_zero]
                    refine WG.put rfl (fun w => exec_cvt rfl rfl (by omega)) ?_
                    simp only [Act.put, List.setIfInBounds_toArray, List.set_cons_succ, List.set_cons_zero]
                    refine WG.put rfl (fun w => exec_shr (X := X1) rfl rfl rfl hX1 hb64) ?_
                    simp only [Act.put, List.setIfInBounds_toArray, List.set_cons_succ, List.set_cons_zero]
                    refine WG.put rfl (v := .int .u64 0) (fun w => (exec_bit (X := X1) rfl rfl hX1).trans (by rw [v1]))  ?_
                    simp only [Act.put, List.setIfInBounds_toArray, List.set_cons_succ, List.set_cons_zero]
                    refine WG.put rfl (v := .int .i64 (a : Int)) (fun w => by first | rfl | (go_simp; done) | (simp [go_sem]; done) | (simp [execOp, go_sem]; done)) ?_
                    simp only [Act.put, List.setIfInBounds_toArray, List.set_cons_succ, List.set_cons_zero]
                    refine WG.put rfl (v := .pointer (some ⟨p2, 1, none⟩)) (fun w => by first | rfl | (go_simp; done) | (simp [go_sem]; done) | (simp [execOp, go_sem]; done)) ?_
                    simp only [Act.put, List.setIfInBounds_toArray, List.set_cons_succ, List.set_cons_zero]
                    refine WG.put rfl (v := .pointer (some ⟨p2, 1 + a, none⟩)) (fun w => by first | rfl | (go_simp; done) | (simp [go_sem, ha64]; done) | (simp [execOp, go_sem, ha64]; done)) ?_
                    simp only [Act.put, List.setIfInBounds_toArray, List.set_cons_succ, List.set_cons_zero]
                    refine WG.cell rfl 29 _ rfl rfl c2 (fun w h => by simp [go_sem, h]) ?_
                    simp only [Act.put, List.setIfInBounds_toArray, List.set_cons_succ, List.set_cons_zero]
                    refine WG.put rfl (v := .int .i64 (b : Int)) (fun w => by first | rfl | (go_simp; done) | (simp [go_sem]; done) | (simp [execOp, go_sem]; done)) ?_
                    simp only [Act.put, List.setIfInBounds_toArray, List.set_cons_succ, List.set_cons_zero]
                    refine WG.put rfl (fun w => exec_cvt rfl rfl (by omega)) ?_
                    simp only [Act.put, List.setIfInBounds_toArray, List.set_cons_succ, List.set_cons_zero]
                    refine WG.put rfl (fun w => exec_shr (X := X3) rfl rfl rfl hX3 hb64) ?_
                    simp only [Act.put, List.setIfInBounds_toArray, List.set_cons_succ, List.set_cons_zero]
                    refine WG.put rfl (v := .int .u64 1) (fun w => (exec_bit (X := X3) rfl rfl hX3).trans (by rw [v3]))  ?_
                    simp only [Act.put, List.setIfInBounds_toArray, List.set_cons_succ, List.set_cons_zero]
                    refine WG.put rfl (v := .int .i64 (a : Int)) (fun w => by first | rfl | (go_simp; done) | (simp [go_sem]; done) | (simp [execOp, go_sem]; done)) ?_
                    simp only [Act.put, List.setIfInBounds_toArray, List.set_cons_succ, List.set_cons_zero]
                    refine WG.put rfl (v := .pointer (some ⟨p3, 1, none⟩)) (fun w => by first | rfl | (go_simp; done) | (simp [go_sem]; done) | (simp [execOp, go_sem]; done)) ?_
                    simp only [Act.put, List.setIfInBounds_toArray, List.set_cons_succ, List.set_cons_zero]
                    refine WG.put rfl (v := .pointer (some ⟨p3, 1 + a, none⟩)) (fun w => by first | rfl | (go_simp; done) | (simp [go_sem, ha64]; done) | (simp [execOp, go_sem, ha64]; done)) ?_
                    simp only [Act.put, List.setIfInBounds_toArray, List.set_cons_succ, List.set_cons_zero]
                    refine WG.cell rfl 29 _ rfl rfl c3 (fun w h => by simp [go_sem, h]) ?_
                    simp only [Act.put, List.setIfInBounds_toArray, List.set_cons_succ, List.set_cons_zero]
                    refine WG.put rfl (v := .int .i64 (b : Int)) (fun w => by first | rfl | (go_simp; done) | (simp [go_sem]; done) | (simp [execOp, go_sem]; done)) ?_
                    simp only [Act.put, List.setIfInBounds_toArray, List.set_cons_succ, List.set_cons_zero]
                    refine WG.put rfl (fun w => exec_cvt rfl rfl (by omega)) ?_
                    simp only [Act.put, List.setIfInBounds_toArray, List.set_cons_succ, List.set_cons_zero]
                    refine WG.put rfl (fun w => exec_shr (X := X4) rfl rfl rfl hX4 hb64) ?_
                    simp only [Act.put, List.setIfInBounds_toArray, List.set_cons_succ, List.set_cons_zero]
                    refine WG.put rfl (v := .int .u64 0) (fun w => (exec_bit (X := X4) rfl rfl hX4).trans (by rw [v4]))  ?_
                    simp only [Act.put, List.setIfInBounds_toArray, List.set_cons_succ, List.set_cons_zero]
                    refine WG.put rfl (v := .int .u64 0) (fun w => by first | rfl | (go_simp; done) | (simp [go_sem]; done) | (simp [execOp, go_sem]; done)) ?_
                    simp only [Act.put, List.setIfInBounds_toArray, List.set_cons_succ, List.set_cons_zero]
                    refine WG.put rfl (v := .int .u64 1) (fun w => by first | rfl | (go_simp; done) | (simp [go_sem]; done) | (simp [execOp, go_sem]; done)) ?_
                    simp only [Act.put, List.setIfInBounds_toArray, List.set_cons_succ, List.set_cons_zero]
                    refine WG.put rfl (v := .int .u64 0) (fun w => by first | rfl | (go_simp; done) | (simp [go_sem]; done) | (simp [execOp, go_sem]; done)) ?_
                    simp only [Act.put, List.setIfInBounds_toArray, List.set_cons_succ, List.set_cons_zero]
                    refine WG.nil ?_
                    intro w18 B18
                    go_wp2
                    refine grow_allW (by kernel_rfl) (by kernel_rfl) ?_
                    refine WG.put rfl (v := .int .u64 1) (fun w => by first | rfl | (go_simp; done) | (simp [go_sem]; done) | (simp [execOp, go_sem]; done)) ?_
                    simp only [Act.put, List.setIfInBounds_toArray, List.set_cons_succ, List.set_cons_zero]
                    refine WG.put rfl (v := .int .u64 0) (fun w => by first | rfl | (go_simp; done) | (simp [go_sem]; done) | (simp [execOp, go_sem]; done)) ?_
                    simp only [Act.put, List.setIfInBounds_toArray, List.set_cons_succ, List.set_cons_zero]
                    refine WG.put rfl (v := .int .u64 1) (fun w => by first | rfl | (go_simp; done) | (simp [go_sem]; done) | (simp [execOp, go_sem]; done)) ?_
                    simp only [Act.put, List.setIfInBounds_toArray, List.set_cons_succ, List.set_cons_zero]
                    refine WG.put rfl (v := .bool false) (fun w => by first | rfl | (go_simp; done) | (simp [go_sem]; done) | (simp [execOp, go_sem]; done)) ?_
                    simp only [Act.put, List.setIfInBounds_toArray, List.set_cons_succ, List.set_cons_zero]
                    refine WG.put rfl (v := .bool false) (fun w => by first | rfl | (go_simp; done) | (simp [go_sem]; done) | (simp [execOp, go_sem]; done)) ?_
                    simp only [Act.put, List.setIfInBounds_toArray, List.set_cons_succ, List.set_cons_zero]
                    refine WG.put rfl (v := .int .u64 0) (fun w => by first | rfl | (go_simp; done) | (simp [go_sem]; done) | (simp [execOp, go_sem]; done)) ?_
                    simp only [Act.put, List.setIfInBounds_toArray, List.set_cons_succ, List.set_cons_zero]
                    refine WG.put rfl (v := .bool false) (fun w => by first | rfl | (go_simp; done) | (simp [go_sem]; done) | (simp [execOp, go_sem]; done)) ?_
                    simp only [Act.put, List.setIfInBounds_toArray, List.set_cons_succ, List.set_cons_zero]
                    refine WG.put rfl (v := .bool false) (fun w => by first | rfl | (go_simp; done) | (simp [go_sem]; done) | (simp [execOp, go_sem]; done)) ?_
                    simp only [Act.put, List.setIfInBounds_toArray, List.set_cons_succ, List.set_cons_zero]
                    refine WG.skip rfl ?_
                    simp only [Act.put, List.setIfInBounds_toArray, List.set_cons_succ, List.set_cons_zero]
                    refine WG.skip rfl ?_
                    simp only [Act.put, List.setIfInBounds_toArray, List.set_cons_succ, List.set_cons_zero]
                    refine WG.skip rfl ?_
                    simp only [Act.put, List.setIfInBounds_toArray, List.set_cons_succ, List.set_cons_zero]
                    refine WG.skip rfl ?_
                    simp only [Act.put, List.setIfInBounds_toArray, List.set_cons_succ, List.set_cons_zero]
                    refine WG.skip rfl ?_
                    simp only [Act.put, List.setIfInBounds_toArray, List.set_cons_succ, List.set_cons_zero]
                    refine WG.skip rfl ?_
                    simp only [Act.put, List.setIfInBounds_toArray, List.set_cons_succ, List.set_cons_zero]
                    refine WG.skip rfl ?_
                    simp only [Act.put, List.setIfInBounds_toArray, List.set_cons_succ, List.set_cons_zero]
                    refine WG.skip rfl ?_
                    simp only [Act.put, List.setIfInBounds_toArray, List.set_cons_succ, List.set_cons_zero]
                    refine WG.skip rfl ?_
                    simp only [Act.put, List.setIfInBounds_toArray, List.set_cons_succ, List.set_cons_zero]
                    refine WG.skip rfl ?_
                    simp only [Act.put, List.setIfInBounds_toArray, List.set_cons_succ, List.set_cons_zero]
                    refine WG.skip rfl ?_
                    simp only [Act.put, List.setIfInBounds_toArray, List.set_cons_succ, List.set_cons_zero]
                    refine WG.skip rfl ?_
                    simp only [Act.put, List.setIfInBounds_toArray, List.set_cons_succ, List.set_cons_zero]
                    refine WG.skip rfl ?_
                    simp only [Act.put, List.setIfInBounds_toArray, List.set_cons_succ, List.set_cons_zero]
                    refine WG.skip rfl ?_
                    simp only [Act.put, List.setIfInBounds_toArray, List.set_cons_succ, List.set_cons_zero]
                    refine WG.skip rfl ?_
                    simp only [Act.put, List.setIfInBounds_toArray, List.set_cons_succ, List.set_cons_zero]
                    refine WG.skip rfl ?_
                    simp only [Act.put, List.setIfInBounds_toArray, List.set_cons_succ, List.set_cons_zero]
                    refine WG.skip rfl ?_
                    simp only [Act.put, List.setIfInBounds_toArray, List.set_cons_succ, List.set_cons_zero]
                    refine WG.skip rfl ?_
                    simp only [Act.put, List.setIfInBounds_toArray, List.set_cons_succ, List.set_cons_zero]
                    refine WG.skip rfl ?_
                    simp only [Act.put, List.setIfInBounds_toArray, List.set_cons_succ, List.set_cons_zero]
                    refine WG.skip rfl ?_
                    simp only [Act.put, List.setIfInBounds_toArray, List.set_cons_succ, List.set_cons_zero]
                    refine WG.skip rfl ?_
                    simp only [Act.put, List.setIfInBounds_toArray, List.set_cons_succ, List.set_cons_zero]
                    refine WG.skip rfl ?_
                    simp only [Act.put, List.setIfInBounds_toArray, List.set_cons_succ, List.set_cons_zero]
                    refine WG.skip rfl ?_
                    simp only [Act.put, List.setIfInBounds_toArray, List.set_cons_succ, List.set_cons_zero]
                    refine WG.skip rfl ?_
                    simp only [Act.put, List.setIfInBounds_toArray, List.set_cons_succ, List.set_cons_zero]
                    refine WG.skip rfl ?_
                    simp only [Act.put, List.setIfInBounds_toArray, List.set_cons_succ, List.set_cons_zero]
                    refine WG.skip rfl ?_
                    simp only [Act.put, List.setIfInBounds_toArray, List.set_cons_succ, List.set_cons_zero]
                    refine WG.skip rfl ?_
                    simp only [Act.put, List.setIfInBounds_toArray, List.set_cons_succ, List.set_cons_zero]
                    refine WG.skip rfl ?_
                    simp only [Act.put, List.setIfInBounds_toArray, List.set_cons_succ, List.set_cons_zero]
                    refine WG.skip rfl ?_
                    simp only [Act.put, List.setIfInBounds_toArray, List.set_cons_succ, List.set_cons_zero]
                    refine WG.skip rfl ?_
                    simp only [Act.put, List.setIfInBounds_toArray, List.set_cons_succ, List.set_cons_zero]
                    refine WG.skip rfl ?_
                    simp only [Act.put, List.setIfInBounds_toArray, List.set_cons_succ, List.set_cons_zero]
                    refine WG.skip rfl ?_
                    simp only [Act.put, List.setIfInBounds_toArray, List.set_cons_succ, List.set_cons_zero]
                    refine WG.skip rfl ?_
                    simp only [Act.put, List.setIfInBounds_toArray, List.set_cons_succ, List.set_cons_zero]
                    refine WG.put rfl (v := .bool false) (fun w => by first | rfl | (go_simp; done) | (simp [go_sem]; done) | (simp [execOp, go_sem]; done)) ?_
                    simp only [Act.put, List.setIfInBounds_toArray, List.set_cons_succ, List.set_cons_zero]
                    refine WG.put rfl (v := .bool false) (fun w => by first | rfl | (go_simp; done) | (simp [go_sem]; done) | (simp [execOp, go_sem]; done)) ?_
                    simp only [Act.put, List.setIfInBounds_toArray, List.set_cons_succ, List.set_cons_zero]
                    refine WG.put rfl (v := .bool false) (fun w => by first | rfl | (go_simp; done) | (simp [go_sem]; done) | (simp [execOp, go_sem]; done)) ?_
                    simp only [Act.put, List.setIfInBounds_toArray, List.set_cons_succ, List.set_cons_zero]
                    refine WG.put rfl (v := .int .u64 0) (fun w => by first | rfl | (go_simp; done) | (simp [go_sem]; done) | (simp [execOp, go_sem]; done)) ?_
                    simp only [Act.put, List.setIfInBounds_toArray, List.set_cons_succ, List.set_cons_zero]
                    refine WG.put rfl (v := .bool true) (fun w => by first | rfl | (go_simp; done) | (simp [go_sem]; done) | (simp [execOp, go_sem]; done)) ?_
                    simp only [Act.put, List.setIfInBounds_toArray, List.set_cons_succ, List.set_cons_zero]
                    refine WG.put rfl (v := .bool true) (fun w => by first | rfl | (go_simp; done) | (simp [go_sem]; done) | (simp [execOp, go_sem]; done)) ?_
                    simp only [Act.put, List.setIfInBounds_toArray, List.set_cons_succ, List.set_cons_zero]
                    refine WG.put rfl (v := .int .u64 1) (fun w => by first | rfl | (go_simp; done) | (simp [go_sem]; done) | (simp [execOp, go_sem]; done)) ?_
                    simp only [Act.put, List.setIfInBounds_toArray, List.set_cons_succ, List.set_cons_zero]
                    refine WG.put rfl (v := .bool true) (fun w => by first | rfl | (go_simp; done) | (simp [go_sem]; done) | (simp [execOp, go_sem]; done)) ?_
                    simp only [Act.put, List.setIfInBounds_toArray, List.set_cons_succ, List.set_cons_zero]
                    refine WG.put rfl (v := .bool true) (fun w => by first | rfl | (go_simp; done) | (simp [go_sem]; done) | (simp [execOp, go_sem]; done)) ?_
                    simp only [Act.put, List.setIfInBounds_toArray, List.set_cons_succ, List.set_cons_zero]
                    refine WG.put rfl (v := .bool true) (fun w => by first | rfl | (go_simp; done) | (simp [go_sem]; done) | (simp [execOp, go_sem]; done)) ?_
                    simp only [Act.put, List.setIfInBounds_toArray, List.set_cons_succ, List.set_cons_zero]
                    refine WG.put rfl (v := .int .i64 (a : Int)) (fun w => by first | rfl | (go_simp; done) | (simp [go_sem]; done) | (simp [execOp, go_sem]; done)) ?_
                    simp only [Act.put, List.setIfInBounds_toArray, List.set_cons_succ, List.set_cons_zero]
                    refine WG.put rfl (v := .int .i64 (b : Int)) (fun w => by first | rfl | (go_simp; done) | (simp [go_sem]; done) | (simp [execOp, go_sem]; done)) ?_
                    simp only [Act.put, List.setIfInBounds_toArray, List.set_cons_succ, List.set_cons_zero]
                    refine WG.put rfl (v := .bool false) (fun w => by first | rfl | (go_simp; done) | (simp [go_sem, hlss]; done) | (simp [execOp, go_sem, hlss]; done)) ?_
                    simp only [Act.put, List.setIfInBounds_toArray, List.set_cons_succ, List.set_cons_zero]
                    refine WG.put rfl (v := .bool false) (fun w => by first | rfl | (go_simp; done) | (simp [go_sem]; done) | (simp [execOp, go_sem]; done)) ?_
                    simp only [Act.put, List.setIfInBounds_toArray, List.set_cons_succ, List.set_cons_zero]
                    refine WG.put rfl (v := .bool false) (fun w => by first | rfl | (go_simp; done) | (simp [go_sem]; done) | (simp [execOp, go_sem]; done)) ?_
                    simp only [Act.put, List.setIfInBounds_toArray, List.set_cons_succ, List.set_cons_zero]
                    refine WG.nil ?_
                    intro w19 B19
                    have BN := Below.then (Below.then HBb.out B18) B19
                    go_wp2
                    go_roundw
                    case rel => exact ⟨b + 1, by omega, by go_num, BN⟩
                    case measure => simp [intOf]; omega
              · have e : b = N := by omega
                subst e
                have hbi : ¬ ((b : Int) < b) := by omega
                go_wp2
                go_roundw
                case rel => exact ⟨a + 1, by omega, by go_num, Below.then HB.out HBb.out⟩
                case measure => simp [intOf]; omega
          · have e : a = N := by omega
            subst e
            have hai : ¬ ((a : Int) < a) := by omega
            have c1 : wr.cell? ⟨p1, 0, none⟩ = some (.int .i64 (a : Int)) := (n1.out.grown HB.out).n
            have c2 : wr.cell? ⟨p2, 0, none⟩ = some (.int .i64 (a : Int)) := (n2.out.grown HB.out).n
            have c3 : wr.cell? ⟨p3, 0, none⟩ = some (.int .i64 (a : Int)) := (n4.out.grown HB.out).n
            go_wp2
            go_ret
            exact ⟨rfl, Below.then B17.out HB.out⟩

  · have hN : trA p = 0 := by unfold trA; rw [if_neg hv]
    have hne : (validV p != 0) = true := by simpa using hv
    have hee : (validV p != validV p) = false := by simp
    rw [hN] at cT
    obtain ⟨z, hz⟩ : ∃ z, validV p = z := ⟨_, rfl⟩
    rw [hz] at hne hee
    simp only [hN, hz] at cT cV
    have HPl : Hid (∀ v ∈ [vt, vr, vl, vi, vj], v.oneCell' = true) := hPl
    have HcT : Hid _ := cT
    have HcV : Hid _ := cV
    clear hz hv hN hPl hp hT hT10 cE cT cV
    have t1 : True := trivial
    have t2 : True := trivial
    have t3 : True := trivial
    have t4 : True := trivial
    have t5 : True := trivial
    have t6 : True := trivial
    go_enter Tryd.func3, Tryd.ntmps3
    go_wp2_with (first
      | (clear t1; refine wpList_boxS rfl 28 _ rfl [vt, vr, vl, vi, vj] rfl ?_; intro W1 b1 F1 P1; have B1 := F_b F1; clear F1)
      | (clear t2; go_at_call 6; refine (awake_any _ (HT.out.below B1) (HT10.out.below B1)).mono ?_; rintro e W2 ⟨rfl, B2x⟩; have P2 := P1.grown B2x; have B2 := Below.then B1 B2x; clear P1 B1 B2x)
      | (clear t3; refine wpList_loadW rfl 28 _ rfl rfl P2 _ Tryd.underlying28 rfl infoPg ?_)
      | (clear t4; go_at_call 7; refine (HcT.out _ (HP.out.below B2)).mono ?_; rintro e W3 ⟨rfl, B3x⟩; have P3 := P2.grown B3x; have B3 := Below.then B2 B3x; clear P2 B2 B3x HcT)
      | (clear t5; refine wpList_loadW rfl 28 _ rfl rfl P3 _ Tryd.underlying28 rfl infoPg ?_)
      | (clear t6; go_at_call 8; refine (HcV.out _ (HP.out.below B3)).mono ?_; rintro e W4 ⟨rfl, B4x⟩; have B4 := Below.then B3 B4x; clear P3 B3 B4x HcV))
    go_ret
    exact ⟨rfl, B4⟩
end Go.Proofs.YtdjlfpkemdiadaaDoor
/- EventShapes, the tied card of the second form: for every program and every set that hold, their texts' letters and all, at most 1048576 values the law returns true and leaves its arguments as they were, where the library's tables that the row lists hold at the call what the program's text lays there. -/
namespace Go.Proofs.YtdjlfpkemdiadaaDoor
open Go.ChangeShapes Go.WideShapes Go.ChangeAt Go.RowKit M
set_option linter.unusedSimpArgs false
set_option linter.unusedVariables false

theorem own : ownKnob Tryd.prog.godebug = none := by kernel_rfl
theorem laidOut : laidOutB Tryd.prog = true := by kernel_rfl
theorem cells4 : Tryd.prog.cellsOf 4 = 1 := by kernel_rfl
theorem set_nat {f : Int} (h : (Lit.int .u64 f).wf = true) : ∃ n : Nat, f = (n : Int) ∧ n < 18446744073709551616 := by
  have b1 : (decide (IntKind.u64.min ≤ f) && decide (f ≤ IntKind.u64.max)) = true := h
  rw [Bool.and_eq_true, decide_eq_true_iff, decide_eq_true_iff] at b1
  have m : IntKind.u64.min = 0 := by decide
  have M : IntKind.u64.max = 18446744073709551615 := by decide
  exact ⟨f.toNat, by omega, by omega⟩
theorem le_sum {xs : List ByteArray} {s : ByteArray} (h : s ∈ xs) : s.size ≤ (xs.map fun s => s.size).sum := by
  induction xs with
  | nil => cases h
  | cons x xs ih =>
    rw [List.map_cons, List.sum_cons]
    rcases List.mem_cons.1 h with rfl | h
    · omega
    · have := ih h; omega
theorem gTen : Tryd.prog.globalNamed "internal/strconv.uint64pow10" = some 0 := by kernel_rfl
theorem tTen : (Tryd.prog.globals[0]?).map (·.type) = some 133 := by kernel_rfl
theorem cellsTen : Tryd.prog.cellsOf 133 = 20 := by kernel_rfl
theorem cellsU : Tryd.prog.cellsOf 29 = 1 := by kernel_rfl
theorem ten_of_met {W : World} {rest : List (String × DataW Unit)} (h1 : laidMet Tryd.prog (("internal/strconv.uint64pow10", Lib.tabData .u64 Lib.pow10Tab) :: rest) W) : Tab10 W :=
  Lib.tabIs_of_head gTen tTen Tryd.underlying133 Tryd.underlying29 cellsU cellsTen h1
theorem gTab : Tryd.prog.globalNamed "math/bits.deBruijn64tab" = some 1 := by kernel_rfl
theorem tTab : (Tryd.prog.globals[1]?).map (·.type) = some 137 := by kernel_rfl
theorem cells5 : Tryd.prog.cellsOf 5 = 1 := by kernel_rfl
theorem cellsTb : Tryd.prog.cellsOf 137 = 64 := by kernel_rfl
theorem tab_of_met {W : World} {rest : List (String × DataW Unit)} (h1 : laidMet Tryd.prog (("math/bits.deBruijn64tab", Lib.tabData .u8 (Lib.deBruijn64tab.map fun n : Nat => (n : Int))) :: rest) W) : TabAt W := by
  have h2 := Lib.tabIs_of_head gTab tTab Tryd.underlying137 Tryd.underlying5 cells5 cellsTb h1
  intro j hj
  have h3 := h2.cell gTab j (by rw [List.length_map]; exact hj)
  rw [h3]
  have hl : j < Lib.deBruijn64tab.length := hj
  simp [hl]
theorem tab_of_laid {W : World} (h : laidMetH Tryd.prog Rows.eventShapesUptoRow.laid W) : TabAt W := by
  rw [MakeChecks.laidMetH_plain _ _ _ (by kernel_rfl)] at h
  exact tab_of_met (laidMet.tail h)
theorem ten_of_laid {W : World} (h : laidMetH Tryd.prog Rows.eventShapesUptoRow.laid W) : Tab10 W := by
  rw [MakeChecks.laidMetH_plain _ _ _ (by kernel_rfl)] at h
  exact ten_of_met (laidMet.tail (laidMet.tail h))
section
variable {H : Type} {enc : TypeId × Value → H} {W : World}
/-- A program, read. -/
theorem open_pg (fuel : Nat) (cs : List Value) (x : DataW H × List MemPlace) (hbk : Rows.uptoBulk x.1 ≤ 1048576) (h : DataW.trod enc Tryd.prog W 0 (fun _ => true) true fuel 28 cs = some x) :
    ∃ (p : PG) (vt vr vl vi vj : Value), cs = [vt, vr, vl, vi, vj] ∧ p.Few ∧ PGV W vt vr vl vi vj p ∧ ∀ s ∈ p.locs, s.size ≤ 1048576 := by
  obtain ⟨ys, n, _, hx, hcl, hyl, hall⟩ := DataW.trod_struct Tryd.underlying28 h
  rw [cellsPg] at hcl
  match ys, hyl, hx, hall with
  | [y0, y1, y2, y3, y4], _, hx, hall =>
    have g0 : DataW.trod enc Tryd.prog W 0 (fun _ => true) true n 22 (List.take (Tryd.prog.cellsOf 22) (List.drop 0 cs)) = some y0 := hall 0 _ rfl
    have g1 : DataW.trod enc Tryd.prog W 0 (fun _ => true) true n 23 (List.take (Tryd.prog.cellsOf 23) (List.drop 1 cs)) = some y1 := hall 1 _ rfl
    have g2 : DataW.trod enc Tryd.prog W 0 (fun _ => true) true n 24 (List.take (Tryd.prog.cellsOf 24) (List.drop 2 cs)) = some y2 := hall 2 _ rfl
    have g3 : DataW.trod enc Tryd.prog W 0 (fun _ => true) true n 25 (List.take (Tryd.prog.cellsOf 25) (List.drop 3 cs)) = some y3 := hall 3 _ rfl
    have g4 : DataW.trod enc Tryd.prog W 0 (fun _ => true) true n 26 (List.take (Tryd.prog.cellsOf 26) (List.drop 4 cs)) = some y4 := hall 4 _ rfl
    rw [cellsSSO] at g0
    rw [cellsSSS] at g1
    rw [cellsSS] at g2
    rw [cellsSSI] at g3
    rw [cellsSI] at g4
    have bm : ∀ y ∈ [y0, y1, y2, y3, y4], Rows.uptoBulk y.1 ≤ 1048576 := fun y hy => by
      have := bulk_mem ([y0, y1, y2, y3, y4].map (·.1)) y.1 (List.mem_map.2 ⟨y, hy, rfl⟩)
      rw [hx] at hbk
      simp only [Rows.uptoBulk] at hbk
      omega
    have b0 := bm y0 (by simp)
    have b1 := bm y1 (by simp)
    have b2 := bm y2 (by simp)
    have b3 := bm y3 (by simp)
    have b4 := bm y4 (by simp)
    obtain ⟨at', xt, ct, e0, s0, p0, l0, m0, n0⟩ := open_sl (none, 0, []) Tryd.underlying22 cellsSO (by decide) rowE (fun _ => rfl) (RowP W op5L fun _ => True) (fun g => g.2.2.length) (open_row ⟨0, 0, 0, 0, 0⟩ Tryd.underlying59 cellsOp (by decide) op5L (fun _ => rfl) (fun _ => True) open_op1) g0
    obtain ⟨ar, xr, cr, e1, s1, p1, l1, m1, n1⟩ := open_sl (none, 0, []) Tryd.underlying23 cellsSS (by decide) rowE (fun _ => rfl) (RowP W strE fun s => s.size ≤ maxLen) (fun g => g.2.2.length) (open_row ⟨#[]⟩ Tryd.underlying24 cells9 (by decide) strE (fun _ => rfl) (fun s => s.size ≤ maxLen) open_str1) g1
    obtain ⟨al, xl, cl, e2, s2, p2, l2, m2, n2⟩ := open_sl ⟨#[]⟩ Tryd.underlying24 cells9 (by decide) strE (fun _ => rfl) (fun s => s.size ≤ maxLen) (fun s => s.size) open_str2 g2
    obtain ⟨ai, xi, ci, e3, s3, p3, l3, m3, n3⟩ := open_sl (none, 0, []) Tryd.underlying25 cellsSI (by decide) rowE (fun _ => rfl) (RowP W intE fun _ => True) (fun g => g.2.2.length) (open_row 0 Tryd.underlying26 cells2 (by decide) intE (fun _ => rfl) (fun _ => True) open_int1) g3
    obtain ⟨aj, xj, cj, e4, s4, p4, l4, _, n4⟩ := open_sl 0 Tryd.underlying26 cells2 (by decide) intE (fun _ => rfl) (fun _ => True) (fun _ => 1) open_int1 g4
    refine ⟨⟨xt.map (·.2.2), xr.map (·.2.2), xl, xi.map (·.2.2), xj⟩, .slice at' (xt.map (·.2.2)).length ct, .slice ar (xr.map (·.2.2)).length cr, .slice al xl.length cl, .slice ai (xi.map (·.2.2)).length ci, .slice aj xj.length cj, ?_, ?_, ?_, ?_⟩
    · simp only [List.length_map]
      exact list5 hcl (take_one e0) (take_one e1) (take_one e2) (take_one e3) (take_one e4)
    · have fl : ∀ {β : Type} (xs : List (RowA β)), (xs.map (·.2.2)).flatten.length = (xs.map fun g => g.2.2.length).sum := fun xs => by rw [List.length_flatten, List.map_map]; rfl
      refine ⟨?_, ?_, ?_, ?_, ?_, ?_, ?_, ?_, ?_, ?_⟩
      · show (xt.map _).length ≤ _; rw [List.length_map]; omega
      · show (xt.map (·.2.2)).flatten.length ≤ _; rw [fl]; exact Nat.le_trans m0 b0
      · show (xr.map _).length ≤ _; rw [List.length_map]; omega
      · show (xr.map (·.2.2)).flatten.length ≤ _; rw [fl]; exact Nat.le_trans m1 b1
      · show xl.length ≤ _; omega
      · show (xi.map _).length ≤ _; rw [List.length_map]; omega
      · show (xi.map (·.2.2)).flatten.length ≤ _; rw [fl]; exact Nat.le_trans m3 b3
      · show xj.length ≤ _; omega
      · intro l hl s hs
        obtain ⟨g, hg, rfl⟩ := List.mem_map.1 hl
        exact (p1 g hg).2.2 s hs
      · exact fun s hs => p2 s hs
    · exact ⟨rows_of s0 p0 n0, rows_of s1 p1 n1, ⟨al, cl, rfl, s2, n2⟩, rows_of s3 p3 n3, ⟨aj, cj, rfl, s4, n4⟩⟩
    · intro s hs
      have h1 : s.size ≤ (xl.map fun s => s.size).sum := le_sum hs
      exact Nat.le_trans h1 (Nat.le_trans m2 b2)
end
set_option maxRecDepth 100000 in
set_option maxHeartbeats 800000 in
theorem contract (H : Type) (enc : TypeId × Value → H) (W : World) (base : Nat) (args : Array Value) (ds gs : List (DataW H)) (before : List MemPlace)
    (hval0 : ∀ (j : Nat) t v, Tryd.f3.params[j]? = some t → args[j]? = some v → Value.okWide Tryd.prog W .any base t v)
    (hW : DataW.Whole enc Tryd.prog Tryd.f3.params.toList Rows.eventShapesSpec.vars false W args.toList ds gs before) (hk : Rows.uptoSmall H (ds ++ gs) = true) (hL : laidMetH Tryd.prog Rows.eventShapesUptoRow.laid W) :
    Calls Tryd.prog 3 args W fun e W' => ∃ v, e = .returned v ∧ Rows.eventShapesSpec.post enc Tryd.prog Tryd.f3 false true false false W args v W' := by
  have hval : ∀ (j : Nat) t v, Tryd.f3.params[j]? = some t → args[j]? = some v → Value.okWide Tryd.prog W .any base t v := hval0
  have hW' := hW
  obtain ⟨p, q, hA0, hV, rfl, hfz, hnd⟩ := hW
  have hA : DataW.TrodAll enc Tryd.prog W 0 (fun _ => true) true Tryd.f3.params.toList args.toList ds p := hA0
  rw [Tryd.params3] at hA hval
  obtain ⟨v0, vs0, d0, ds0, p0, q0, hargs, rfl, rfl, h0, r0⟩ := trodAll_cons hA
  obtain ⟨v1, vs1, d1, ds1, p1, q1, rfl, rfl, rfl, h1, r1⟩ := trodAll_cons r0
  obtain ⟨rfl, rfl, rfl⟩ := trodAll_nil r1
  obtain rfl : args = #[v0, v1] := by cases args; simp_all
  obtain ⟨rfl, rfl⟩ := trodVars_none hV
  obtain ⟨c0, rfl, _⟩ := okWide_struct Tryd.underlying28 (hval 0 28 v0 rfl rfl)
  obtain ⟨fz, rfl, rfl, rfl, w1⟩ := open_int Tryd.underlying30 (hval 1 30 v1 rfl rfl) h1
  have k0 := h0
  have lt0 : ∀ x ∈ p0, x.block < W.heap.size := by obtain ⟨m, hm⟩ := k0; exact DataW.trod_lt m _ _ _ hm
  simp only [List.append_nil] at hk
  have hbk : Rows.uptoBulk d0 ≤ 1048576 := by
    have h := of_decide_eq_true hk
    simp only [Rows.uptoBulkAll] at h
    omega
  have hTab := ten_of_laid hL
  have hTb := tab_of_laid hL
  obtain ⟨f, rfl, hf64⟩ : ∃ f : Nat, fz = (f : Int) ∧ f < 18446744073709551616 := set_nat w1
  have fin : Calls Tryd.prog 3 #[.agg c0, .int .u64 (f : Int)] W fun e w' => e = .returned (.bool true) ∧ Below W.heap.size W w' := by
    obtain ⟨fu, hf⟩ := h0
    obtain ⟨pg, vt, vr, vl, vi, vj, e0, few, hp, hsz⟩ := open_pg _ _ _ hbk hf
    have e0' : c0 = #[vt, vr, vl, vi, vj] := by simp [Value.cells] at e0; rw [← Array.toArray_toList (xs := c0), e0]
    rw [e0']
    exact eventShapes_any pg few f hf64 vt vr vl vi vj W hp hTb hTab
  clear hA0 hval0
  refine fin.mono fun e W' ⟨he, bel⟩ => ?_
  subst he
  exact ⟨_, rfl, _, _, _, [], _, [], hW', trodAll_mk1 (shut_bool Tryd.underlying4 _), (trodAll_cons_mk (Below.trod laidOut (by kernel_rfl) (of_decide_eq_true (by kernel_rfl)) k0 bel lt0) (trodAll_cons_mk (shut_int Tryd.underlying30 w1) trodAll_mk0)), rfl, bel.frame _, fun h => by cases h⟩

theorem door_met (os : Os) (args : Array Value) : laidMet Tryd.prog Rows.eventShapesUptoRow.laid ((World.doorLaid Tryd.prog 400 os).forCall (fun _ _ => 0) ⟨#[], args, []⟩).memory :=
  laidMet_of_run' 8 (by kernel_rfl) (by kernel_rfl)
theorem reads (os : Os) {H : Type} (enc : TypeId × Value → H) : ∃ places, DataW.whole enc Tryd.prog ((World.doorLaid Tryd.prog 400 os).forCall (fun _ _ => 0) ⟨#[], #[.agg #[.slice none 0 0, .slice none 0 0, .slice none 0 0, .slice none 0 0, .slice none 0 0], .int .u64 0], []⟩).memory Tryd.f3.params.toList Rows.eventShapesSpec.vars false #[Value.agg #[.slice none 0 0, .slice none 0 0, .slice none 0 0, .slice none 0 0, .slice none 0 0], .int .u64 0].toList 8 = some ([.agg [.nil, .nil, .nil, .nil, .nil], .lit (.int .u64 0)], [], places) :=
  ⟨[], by kernel_rfl⟩
set_option maxRecDepth 100000 in
theorem liftedUpto (os : Os) (started : os.Started) (H : Type) (enc : TypeId × Value → H) (F : Stop.Interp) :
    ReturnsInHanded {} Tryd.checked os 3 .any ((Rows.OpenSpec.upto Rows.eventShapesSpec).preRow enc Tryd.prog Tryd.f3 Rows.eventShapesUptoRow.domain false Rows.eventShapesUptoRow.laid) (((Rows.OpenSpec.upto Rows.eventShapesSpec).at F).post enc Tryd.prog Tryd.f3 false true false false) := by
  obtain ⟨places, hx⟩ := reads os enc
  refine returnsInHanded_of_row (C := Tryd.checked) (s := Rows.OpenSpec.upto Rows.eventShapesSpec) own started (by kernel_rfl) Tryd.func3
    (witness_row_at (enc := enc) (C := Tryd.checked) false (World.doorLaid Tryd.prog 400 os) #[.agg #[.slice none 0 0, .slice none 0 0, .slice none 0 0, .slice none 0 0, .slice none 0 0], .int .u64 0] rfl (by kernel_rfl) (by kernel_rfl) (by kernel_rfl)
      (OpenSpec.preRow_of_cond 8 hx (by kernel_rfl) (fun k hk => by cases hk; kernel_rfl) (by kernel_rfl) (door_met os _))) ?_
  intro W base args ds gs before hval hW _ hcond _ hL _ _
  exact contract H enc W base args ds gs before hval hW (hcond _ rfl) hL
theorem saidUpto : Rows.EventShapesUptoSaid :=
  OpenClaim.holds_of_cond 3 Tryd.f3 rfl rfl rfl rfl rfl rfl rfl ⟨rfl, rfl, rfl, rfl, rfl⟩ rfl rfl rfl rfl rfl (by kernel_rfl) Tryd.func3 (by kernel_rfl)
    (of_decide_eq_true (by kernel_rfl)) (by unfold Func.isWrapper; first | (rw [if_pos (by decide +kernel)]; kernel_rfl) | (rw [if_neg (by decide +kernel)]; exact ⟨rfl, rfl⟩))
    (fun os started H enc _ F => by rw [OpenClaim.pre_eq_preRow]; exact liftedUpto os started H enc F)
theorem plain (f : FuncId) (fn : Func) (hf : Tryd.pinned.checked.prog.funcNamed "weir/weirlaw17.EventShapes" = some f) (hfn : Tryd.pinned.checked.prog.funcs[f]? = some fn) :
    false = Tryd.pinned.checked.prog.looks [] ∧ ∀ (j : Nat) t, fn.params[j]? = some t → Tryd.pinned.checked.prog.wantsStandIn t = false := by
  obtain rfl : f = 3 := Option.some.inj ((show Tryd.prog.funcNamed "weir/weirlaw17.EventShapes" = some 3 by kernel_rfl).symm.trans hf) |>.symm
  obtain rfl : fn = Tryd.f3 := (Option.some.inj (Tryd.func3.symm.trans hfn)).symm
  refine ⟨by kernel_rfl, fun j t ht => ?_⟩
  rw [Tryd.params3] at ht
  have hm : t ∈ [28, 30] := by simpa using Array.mem_of_getElem? ht
  have hall : ([28, 30].all fun u => !Tryd.prog.wantsStandIn u) = true := by kernel_rfl
  exact (show Tryd.prog.wantsStandIn t = false by simpa using List.all_eq_true.1 hall t hm)
theorem eventShapes_holds : Rows.EventShapesUptoCardSaid :=
  Claim7.holds_tied_plain_at .later [] _ _ _ _ saidUpto (fun _ h => by cases h) (by kernel_rfl) (fun _ h => by cases h) eventShapesUpto_row_tie rfl ⟨rfl, rfl⟩ (by kernel_rfl) rfl plain (by kernel_rfl)
#print axioms eventShapes_holds
end Go.Proofs.YtdjlfpkemdiadaaDoor
