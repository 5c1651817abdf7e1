/- Fr in plain mathematics; an execution in memory. -/
import Derived.Test.YtdjlfpkemdiadaaDoorEI17
namespace Go.Proofs.YtdjlfpkemdiadaaDoor
open Go.RowKit Go.Shelf M
set_option linter.unusedSimpArgs false
set_option linter.unusedVariables false

theorem mem_edges {N : Nat} {f : Nat → Nat} {a b : Nat} : (a, b) ∈ edgesL N f ↔ a < N ∧ b < 64 ∧ (f a).testBit b = true := by
  simp only [edgesL, List.mem_flatMap, List.mem_range, List.mem_map, Prod.mk.injEq, mem_lst]
  constructor
  · rintro ⟨a', h1, b', ⟨h2, h3⟩, rfl, rfl⟩; exact ⟨h1, h2, h3⟩
  · rintro ⟨h1, h2, h3⟩; exact ⟨a, h1, b, ⟨h2, h3⟩, rfl, rfl⟩
/-- Which writes come behind what a read reads. -/
def frQ (N : Nat) (rf co : Nat → Nat) (r b : Nat) : Bool := decide (r ≠ b) && (List.range N).any (fun w => (rf w).testBit r && (co w).testBit b)
def frF (N : Nat) (rf co : Nat → Nat) : Nat → Nat := prF N (frQ N rf co)
theorem frQ_iff (N : Nat) (rf co : Nat → Nat) (r b : Nat) : frQ N rf co r b = true ↔ r ≠ b ∧ ∃ w, w < N ∧ (rf w).testBit r = true ∧ (co w).testBit b = true := by
  unfold frQ
  simp [List.any_eq_true]
theorem bit_lt64 {F : Nat → Nat} (h : Wf F) {a b : Nat} (hb : (F a).testBit b = true) : b < 64 := by
  by_cases hlt : b < 64
  · exact hlt
  · rw [Nat.testBit_lt_two_pow (Nat.lt_of_lt_of_le (h a) (Nat.pow_le_pow_right (n := 2) (by omega) (show 64 ≤ b by omega)))] at hb
    cases hb
theorem tu_bit {N : Nat} (F : Nat → Nat) (j a : Nat) (hj : j < 64) : (tuF (edgesL N F) j).testBit a = true ↔ a < N ∧ (F a).testBit j = true := by
  rw [tuF_bit, decide_eq_true_eq, mem_edges]
  exact ⟨fun h => ⟨h.1, h.2.2⟩, fun h => ⟨h.1, hj, h.2⟩⟩
theorem co_bit {N : Nat} {F : Nat → Nat} (G : Nat → Nat) (j b : Nat) (hF : Wf F) : (coF G (edgesL N F) j).testBit b = true ↔ j < N ∧ ∃ c, (F j).testBit c = true ∧ (G c).testBit b = true := by
  rw [coF_bit]
  constructor
  · rintro ⟨c, h1, h2⟩
    obtain ⟨h3, _, h4⟩ := mem_edges.1 h1
    exact ⟨h3, c, h4, h2⟩
  · rintro ⟨h1, c, h2, h3⟩
    exact ⟨c, mem_edges.2 ⟨h1, bit_lt64 hF h2, h2⟩, h3⟩
theorem right_tu {N : Nat} {F : Nat → Nat} (hN : N ≤ 64) (hF : Right N F) : Right N (tuF (edgesL N F)) := by
  refine right_bits (fun i => tuF_lt _ (fun e he => ?_) i) (fun a b ha h => ?_)
  · obtain ⟨x, y⟩ := e
    have := (mem_edges.1 he).1
    show x < 64
    omega
  · obtain ⟨h1, h2⟩ := (tu_bit F a b ha).1 h
    exact ⟨(right_le hF (by omega) h2).2, h1⟩
theorem right_co {N : Nat} {F G : Nat → Nat} (hN : N ≤ 64) (hF : Right N F) (hG : Right N G) : Right N (coF G (edgesL N F)) := by
  refine right_bits (fun i => coF_lt hG.wf _ i) (fun a b ha h => ?_)
  obtain ⟨h1, c, h2, h3⟩ := (co_bit G a b hF.wf).1 h
  have h4 := (right_le hF ha h2).2
  exact ⟨h1, (right_le hG (by omega) h3).2⟩
theorem right_rf (N : Nat) (hN : N ≤ 64) (fr : List Int) (k : Nat) (hk : k ≤ N) : Right N (rfF N fr k) :=
  right_bits (fun i => rfF_lt N fr k i (by omega)) (fun a b ha h => by obtain ⟨h1, h2, _⟩ := (rfF_bit N fr k a b).1 h; exact ⟨h1, by omega⟩)
theorem odF_bits (N : Nat) (a b : Nat) : ∀ (ls : List (List Int)) (F : Nat → Nat), (∀ a b, (F a).testBit b = true → a < N ∧ b < N) → (odF N ls F a).testBit b = true → a < N ∧ b < N
  | [], F, hF, h => hF a b h
  | l :: ls, F, hF, h => odF_bits N a b ls (coB N F l).1 (fun a b h => by
      rcases (coB_bit N F a b l).1 h with h | ⟨h1, h2, _⟩
      · exact hF a b h
      · exact ⟨h1, h2⟩) h
theorem right_od (N : Nat) (hN : N ≤ 64) (od : List (List Int)) : Right N (odF N od void) :=
  right_bits (odF_wf N hN od _ (fun i => by simp [void])) (fun a b _ h => odF_bits N a b od void (fun a b h => by simp [void] at h) h)
theorem right_on (N : Nat) (hN : N ≤ 64) : Right N (onF 18446744073709551615 N) := by
  refine right_bits (fun i => ?_) (fun a b ha h => ?_)
  · unfold onF; split
    · exact Nat.lt_of_le_of_lt Nat.and_le_left (by decide)
    · decide
  · unfold onF at h
    split at h
    · rename_i h1
      rw [Nat.testBit_and, Nat.testBit_two_pow, Bool.and_eq_true, decide_eq_true_eq] at h
      omega
    · simp at h
theorem on_bit (N a b : Nat) (hb : b < 64) : (onF 18446744073709551615 N a).testBit b = (decide (a < N) && decide (a = b)) := by
  unfold onF
  by_cases h : a < N
  · rw [if_pos h, Nat.testBit_and, Nat.testBit_two_pow, show (18446744073709551615 : Nat) = 2 ^ 64 - 1 by decide, Nat.testBit_two_pow_sub_one]
    simp [h, hb]
  · rw [if_neg h]; simp [h]
/-- What the program's road comes to. -/
theorem fr_same {N : Nat} (hN : N ≤ 64) {rf co : Nat → Nat} (h1 : Right N rf) (h2 : Right N co) (a : Nat) (ha : a < 64) :
    opF notN (coF co (edgesL N (tuF (edgesL N rf)))) (onF 18446744073709551615 N) a = frF N rf co a := by
  refine rows_ext (n := N) (fun a b ha => ?_) a ha
  unfold opF notN
  rw [Nat.testBit_and]
  by_cases hb : b < 64
  · rw [testBit_not _ _ ((right_on N hN).wf a) hb, on_bit N a b hb, Bool.eq_iff_iff]
    simp only [Bool.and_eq_true, co_bit co a b (right_tu hN h1).wf, Bool.not_eq_true', decide_eq_true_eq, frQ_iff, Bool.and_eq_false_iff, decide_eq_false_iff_not]
    constructor
    · rintro ⟨⟨h3, c, h4, h5⟩, h6⟩
      obtain ⟨h7, h8⟩ := (tu_bit rf a c ha).1 h4
      refine ⟨⟨h3, (right_le h2 (by omega) h5).2⟩, ?_, c, h7, h8, h5⟩
      rcases h6 with h6 | h6
      · exact absurd h3 h6
      · exact h6
    · rintro ⟨⟨h3, h4⟩, h5, c, h6, h7, h8⟩
      exact ⟨⟨h3, c, (tu_bit rf a c ha).2 ⟨h6, h7⟩, h8⟩, .inr h5⟩
  · have e1 : (coF co (edgesL N (tuF (edgesL N rf))) a).testBit b = false := by
      cases h : (coF co (edgesL N (tuF (edgesL N rf))) a).testBit b
      · rfl
      · exact absurd (bit_lt64 (right_co hN (right_tu hN h1) h2).wf h) hb
    rw [e1]
    have : ¬ b < N := by omega
    simp [this]
/-- The reference's road, row by row: from the first n writes. -/
def frA (rf co : Nat → Nat) : Nat → Nat → Nat
  | 0, _ => 0
  | n + 1, a => if (rf n).testBit a then frA rf co n a ||| notN (co n) (2 ^ a) else frA rf co n a
def frS (N : Nat) (rf co : Nat → Nat) (w k : Nat) : Nat → Nat := fun a => if a < N then (if a < k then frA rf co (w + 1) a else frA rf co w a) else 0
theorem frA_lt (rf co : Nat → Nat) (hc : Wf co) (a : Nat) : ∀ n, frA rf co n a < 18446744073709551616
  | 0 => by show 0 < _; decide
  | n + 1 => by
    show (if _ then _ else _) < _
    split
    · exact or_lt64 (frA_lt rf co hc a n) (Nat.lt_of_le_of_lt Nat.and_le_left (hc n))
    · exact frA_lt rf co hc a n
theorem frA_bit (rf co : Nat → Nat) (a b : Nat) (ha : a < 64) (hb : b < 64) : ∀ n, (frA rf co n a).testBit b = true ↔ a ≠ b ∧ ∃ w, w < n ∧ (rf w).testBit a = true ∧ (co w).testBit b = true
  | 0 => by simp [frA]
  | n + 1 => by
    have ih := frA_bit rf co a b ha hb n
    show (if _ then _ else _ : Nat).testBit b = true ↔ _
    by_cases h : (rf n).testBit a = true
    · rw [if_pos h, Nat.testBit_or, Bool.or_eq_true, ih]
      unfold notN
      rw [Nat.testBit_and, testBit_not _ _ (pow_lt a ha) hb, Nat.testBit_two_pow]
      simp only [Bool.and_eq_true, Bool.not_eq_true', decide_eq_false_iff_not]
      constructor
      · rintro (⟨h1, w, h2, h3⟩ | ⟨h1, h2⟩)
        · exact ⟨h1, w, by omega, h3⟩
        · exact ⟨h2, n, by omega, h, h1⟩
      · rintro ⟨h1, w, h2, h3, h4⟩
        by_cases e : w = n
        · subst e; exact .inr ⟨h4, h1⟩
        · exact .inl ⟨h1, w, by omega, h3, h4⟩
    · rw [if_neg h, ih]
      constructor
      · rintro ⟨h1, w, h2, h3⟩; exact ⟨h1, w, by omega, h3⟩
      · rintro ⟨h1, w, h2, h3, h4⟩
        refine ⟨h1, w, ?_, h3, h4⟩
        have : w ≠ n := fun e => by subst e; exact h h3
        omega
theorem frS_start (N : Nat) (rf co : Nat → Nat) (a : Nat) : frS N rf co 0 0 a = 0 := by unfold frS; split <;> rfl
theorem frS_next (N : Nat) (rf co : Nat → Nat) (w a : Nat) : frS N rf co w N a = frS N rf co (w + 1) 0 a := by
  unfold frS
  by_cases h : a < N
  · rw [if_pos h, if_pos h, if_pos h, if_neg (by omega)]
  · rw [if_neg h, if_neg h]
theorem frS_at (N : Nat) (rf co : Nat → Nat) (w k : Nat) (hk : k < N) : frS N rf co w k k = frA rf co w k := by unfold frS; rw [if_pos hk, if_neg (by omega)]
theorem frS_yes (N : Nat) (rf co : Nat → Nat) (w k a : Nat) (hk : k < N) (h : (rf w).testBit k = true) : upd (frS N rf co w k) k (frA rf co w k ||| notN (co w) (2 ^ k)) a = frS N rf co w (k + 1) a := by
  unfold upd
  by_cases e : a = k
  · subst e
    rw [if_pos rfl]
    unfold frS
    rw [if_pos hk, if_pos (by omega)]
    show _ = if _ then _ else _
    rw [if_pos h]
  · rw [if_neg e]
    unfold frS
    by_cases ha : a < N
    · rw [if_pos ha, if_pos ha]
      by_cases h2 : a < k
      · rw [if_pos h2, if_pos (by omega)]
      · rw [if_neg h2, if_neg (by omega)]
    · rw [if_neg ha, if_neg ha]
theorem frS_no (N : Nat) (rf co : Nat → Nat) (w k a : Nat) (h : (rf w).testBit k = false) : frS N rf co w k a = frS N rf co w (k + 1) a := by
  unfold frS
  by_cases ha : a < N
  · rw [if_pos ha, if_pos ha]
    by_cases e : a = k
    · subst e
      rw [if_neg (by omega), if_pos (by omega)]
      show _ = if _ then _ else _
      rw [h]; rfl
    · by_cases h2 : a < k
      · rw [if_pos h2, if_pos (by omega)]
      · rw [if_neg h2, if_neg (by omega)]
  · rw [if_neg ha, if_neg ha]
theorem frS_end (N : Nat) (hN : N ≤ 64) (rf co : Nat → Nat) (h2 : Right N co) (a : Nat) (ha : a < 64) : frS N rf co N 0 a = frF N rf co a := by
  refine rows_ext (n := N) (fun a b ha => ?_) a ha
  unfold frS
  by_cases h : a < N
  · rw [if_pos h, if_neg (by omega)]
    by_cases hb : b < 64
    · rw [Bool.eq_iff_iff, frA_bit rf co a b ha hb]
      simp only [Bool.and_eq_true, decide_eq_true_eq, frQ_iff]
      constructor
      · rintro ⟨h1, w, h3, h4, h5⟩
        exact ⟨⟨h, (right_le h2 (by omega) h5).2⟩, h1, w, h3, h4, h5⟩
      · rintro ⟨_, h1⟩; exact h1
    · have : ¬ b < N := by omega
      rw [Nat.testBit_lt_two_pow (Nat.lt_of_lt_of_le (frA_lt rf co h2.wf a N) (Nat.pow_le_pow_right (n := 2) (by omega) (show 64 ≤ b by omega)))]
      simp [this]
  · rw [if_neg h]; simp [h]
/-- An execution in memory. -/
structure XE (w : World) (cs : List Value) (ne : Nat) (fr : List Int) (od : List (List Int)) : Prop where
  len : cs.length = 5
  ex : ∃ ae ce af cf ao co, cs[0]? = some (.slice ae ne ce) ∧ cs[2]? = some (.slice af fr.length cf) ∧ cs[3]? = some (.slice ao od.length co) ∧ fr.length ≤ cf ∧ Seg w af (fr.flatMap intE) ∧ RowsV w (.slice ao od.length co) intE od
  one : ∀ v ∈ cs, v.oneCell' = true
  b0 : ne ≤ 9223372036854775807
  b1 : fr.length ≤ 9223372036854775807
  b2 : od.length ≤ 9223372036854775807
  b3 : ∀ l ∈ od, l.length ≤ 9223372036854775807
theorem XE.below {w W : World} {cs : List Value} {ne : Nat} {fr : List Int} {od : List (List Int)} (h : XE w cs ne fr od) (hB : Below w.heap.size w W) : XE W cs ne fr od := by
  obtain ⟨ae, ce, af, cf, ao, co, h0, h2, h3, h4, h5, h6⟩ := h.ex
  exact ⟨h.len, ⟨ae, ce, af, cf, ao, co, h0, h2, h3, h4, h5.below hB, h6.below hB⟩, h.one, h.b0, h.b1, h.b2, h.b3⟩
def rfX (ne : Nat) (fr : List Int) : Nat → Nat := rfF (shN ne) fr (min fr.length (shN ne))
def coX (ne : Nat) (od : List (List Int)) : Nat → Nat := odF (shN ne) od void
section
variable {w : World} {cs : List Value} {ne : Nat} {fr : List Int} {od : List (List Int)}
theorem rf_x (h : XE w cs ne fr od) : Calls Tryd.prog 15 #[.agg cs.toArray] w fun e w' => e = .returned (relv (shN ne) (rfX ne fr)) ∧ Below w.heap.size w w' := by
  obtain ⟨ae, ce, af, cf, ao, co, h0, h2, h3, h4, h5, h6⟩ := h.ex
  exact rf_any cs ae af ne ce _ cf fr w h.len h0 h2 h.b0 rfl h.b1 h4 h5
theorem rrf_x (h : XE w cs ne fr od) : Calls Tryd.prog 56 #[.agg cs.toArray] w fun e w' => e = .returned (relv (shN ne) (rfX ne fr)) ∧ Below w.heap.size w w' := by
  obtain ⟨ae, ce, af, cf, ao, co, h0, h2, h3, h4, h5, h6⟩ := h.ex
  exact rrf_any cs ae af ne ce _ cf fr w h.len h0 h2 h.b0 rfl h.b1 h5
theorem co_x (h : XE w cs ne fr od) : Calls Tryd.prog 16 #[.agg cs.toArray] w fun e w' => e = .returned (relv (shN ne) (coX ne od)) ∧ Below w.heap.size w w' := by
  obtain ⟨ae, ce, af, cf, ao, co, h0, h2, h3, h4, h5, h6⟩ := h.ex
  exact co_any cs ae ao ne ce _ co od w h0 h3 h.b0 rfl h.b2 h.b3 h6
theorem rco_x (h : XE w cs ne fr od) : Calls Tryd.prog 57 #[.agg cs.toArray] w fun e w' => e = .returned (relv (shN ne) (coX ne od)) ∧ Below w.heap.size w w' := by
  obtain ⟨ae, ce, af, cf, ao, co, h0, h2, h3, h4, h5, h6⟩ := h.ex
  exact rco_any cs ae ao ne ce _ co od w h0 h3 h.b0 rfl h.b2 h.b3 h6
theorem right_rfX (ne : Nat) (fr : List Int) : Right (shN ne) (rfX ne fr) := right_rf _ (shN_le ne) fr _ (Nat.min_le_right _ _)
theorem right_coX (ne : Nat) (od : List (List Int)) : Right (shN ne) (coX ne od) := right_od _ (shN_le ne) od
theorem inv_R {N : Nat} {F : Nat → Nat} (hN : N ≤ 64) (hF : Right N F) : AnsV 39 #[relv N F] (relv N (tuF (edgesL N F))) := fun W hT => by
  have := inv_any N F W hF.wf hT
  rwa [right_nN hF hN, right_nF hF hN, Int.toNat_natCast] at this
theorem on_R (N : Nat) (hN : N ≤ 64) : AnsV 41 #[.int .i64 (N : Int), .int .u64 18446744073709551615] (relv N (onF 18446744073709551615 N)) := fun W hT => by
  have := on_any N 18446744073709551615 W (by decide)
  unfold onV at this
  rwa [if_pos (by omega), Int.toNat_natCast] at this
end
end Go.Proofs.YtdjlfpkemdiadaaDoor
