/- The laws of relations: what the calls of RelLaws answer. -/
import Derived.Test.YtkccckjiemijeabDoorV3
namespace Go.Proofs.YtkccckjiemijeabDoor
open Go.RowKit Go.Shelf M P
set_option linter.unusedSimpArgs false
set_option linter.unusedVariables false

theorem row_ext {N : Nat} {A B : Nat → Nat} (hN : N ≤ 64) (hA : Right N A) (hB : Right N B) (h : ∀ a b, a < 64 → b < 64 → (Bt A a b ↔ Bt B a b)) (j : Nat) (hj : j < 64) : A j = B j := by
  apply Nat.eq_of_testBit_eq
  intro b
  by_cases hb : b < 64
  · have := h j b hj hb
    unfold Bt at this
    cases h1 : (A j).testBit b <;> cases h2 : (B j).testBit b <;> simp_all
  · rw [testBit_high (hA.wf j) hb, testBit_high (hB.wf j) hb]
theorem and_bits (F G : Nat → Nat) (a b : Nat) : Bt (opF andN F G) a b ↔ Bt F a b ∧ Bt G a b := by
  unfold Bt opF andN
  rw [Nat.testBit_and, Bool.and_eq_true]
theorem sub_bits {F G : Nat → Nat} (hG : Wf G) (a b : Nat) (hb : b < 64) : Bt (opF notN F G) a b ↔ Bt F a b ∧ ¬ Bt G a b := by
  unfold Bt opF notN
  rw [Nat.testBit_and, Bool.and_eq_true, testBit_not _ _ (hG a) hb]
  simp
theorem right_sub {N : Nat} {F G : Nat → Nat} (hF : Right N F) : Right N (opF notN F G) := by
  refine right_bits (fun i => Nat.lt_of_le_of_lt Nat.and_le_left (hF.wf i)) (fun a b ha h => ?_)
  unfold opF notN at h
  rw [Nat.testBit_and, Bool.and_eq_true] at h
  exact right_le hF ha h.1
/-- The other pairs. -/
def noF (N : Nat) (F : Nat → Nat) : Nat → Nat := upTo (xoN N) F void N
theorem no_bits {N : Nat} {F : Nat → Nat} (hN : N ≤ 64) (hF : Right N F) (a b : Nat) (ha : a < 64) (hb : b < 64) : Bt (noF N F) a b ↔ (a < N ∧ b < N) ∧ ¬ Bt F a b := by
  unfold noF upTo xoN Bt
  dsimp only
  by_cases h : a < N
  · rw [if_pos h, Nat.testBit_xor, testBit_bel _ _ hb]
    by_cases h2 : b < N
    · have : decide ((b : Int) < (N : Int)) = true := decide_eq_true (by omega)
      rw [this]
      cases (F a).testBit b <;> simp [h, h2]
    · have : decide ((b : Int) < (N : Int)) = false := decide_eq_false (by omega)
      rw [this]
      cases h3 : (F a).testBit b
      · simp [h2]
      · have := right_le hF ha h3; omega
  · rw [if_neg h]
    constructor
    · intro h3
      have := right_le hF ha h3; omega
    · intro h3; omega
theorem right_no {N : Nat} {F : Nat → Nat} (hN : N ≤ 64) (hF : Right N F) : Right N (noF N F) := by
  have hw : Wf (noF N F) := fun i => by
    unfold noF upTo xoN
    split
    · exact Nat.xor_lt_two_pow (n := 64) (hF.wf i) (bel_lt _)
    · exact hF.wf i
  refine ⟨hw, fun a ha b hb h => ?_⟩
  exact ((no_bits hN hF a b ha hb).1 h).1
theorem tu_bits {N : Nat} {F : Nat → Nat} (hF : Right N F) (a b : Nat) (ha : a < 64) (hb : b < 64) : Bt (tuF (edgesL N F)) a b ↔ Bt F b a := by
  unfold Bt
  rw [tuF_bit, decide_eq_true_eq]
  constructor
  · intro h; exact (mem_edges.1 h).2.2
  · intro h; exact mem_edges.2 ⟨(right_le hF hb h).1, ha, h⟩
theorem id_bits (N a b : Nat) (hN : N ≤ 64) : Bt (idF N) a b ↔ a = b ∧ a < N := idF_bit N a b hN
theorem void_bits (a b : Nat) : ¬ Bt void a b := by unfold Bt void; simp
theorem right_void' (N : Nat) : Right N void := right_void N

theorem count_or : ∀ (p q : Nat → Bool) (l : List Nat), (l.filter fun i => p i || q i).length + (l.filter fun i => p i && q i).length = (l.filter p).length + (l.filter q).length
  | p, q, [] => rfl
  | p, q, x :: l => by
    have := count_or p q l
    cases h1 : p x <;> cases h2 : q x <;> simp [List.filter_cons, h1, h2] <;> omega
theorem lst_or (x y : Nat) : (lst (x ||| y)).length + (lst (x &&& y)).length = (lst x).length + (lst y).length := by
  unfold lst
  have := count_or (fun i => x.testBit i) (fun i => y.testBit i) (List.range 64)
  have e1 : (fun i => (x ||| y).testBit i) = (fun i => x.testBit i || y.testBit i) := by funext i; rw [Nat.testBit_or]
  have e2 : (fun i => (x &&& y).testBit i) = (fun i => x.testBit i && y.testBit i) := by funext i; rw [Nat.testBit_and]
  rw [e1, e2]
  exact this
theorem edges_or (F G : Nat → Nat) : ∀ k, (edgesL k (opF orN F G)).length + (edgesL k (opF andN F G)).length = (edgesL k F).length + (edgesL k G).length
  | 0 => by simp [edgesL]
  | k + 1 => by
    have h1 := edges_or F G k
    have h2 := lst_or (F k) (G k)
    simp only [edgesL_succ, List.length_append, List.length_map]
    unfold opF orN andN at *
    omega
theorem dom_rng {N : Nat} {F : Nat → Nat} (hN : N ≤ 64) (hF : Right N F) : dom (tuF (edgesL N F)) N = rng F 64 := by
  have key : ∀ K, K ≤ 64 → ∀ b, (rng F K).testBit b = true ↔ ∃ a, a < K ∧ (F a).testBit b = true := by
    intro K
    induction K with
    | zero => intro _ b; simp [rng]
    | succ K ih =>
      intro hK b
      unfold rng
      rw [Nat.testBit_or, Bool.or_eq_true, ih (by omega)]
      constructor
      · rintro (⟨a, h1, h2⟩ | h)
        · exact ⟨a, by omega, h2⟩
        · exact ⟨K, by omega, h⟩
      · rintro ⟨a, h1, h2⟩
        by_cases e : a = K
        · subst e; exact Or.inr h2
        · exact Or.inl ⟨a, by omega, h2⟩
  apply Nat.eq_of_testBit_eq
  intro b
  rw [Bool.eq_iff_iff, key 64 (Nat.le_refl _)]
  unfold dom
  rw [rowB_bit, Bool.and_eq_true, decide_eq_true_eq, decide_eq_true_eq]
  constructor
  · rintro ⟨h1, h2⟩
    obtain ⟨a, ha⟩ := Nat.exists_testBit_of_ne_zero h2
    rw [tuF_bit, decide_eq_true_eq] at ha
    obtain ⟨k1, k2, k3⟩ := mem_edges.1 ha
    exact ⟨a, by omega, k3⟩
  · rintro ⟨a, h1, h2⟩
    obtain ⟨k1, k2⟩ := right_le hF h1 h2
    refine ⟨k2, fun h0 => ?_⟩
    have : (tuF (edgesL N F) b).testBit a = true := by
      rw [tuF_bit, decide_eq_true_eq]
      exact mem_edges.2 ⟨k1, by omega, h2⟩
    rw [h0, Nat.zero_testBit] at this
    cases this

set_option maxRecDepth 100000 in
theorem allS_any : AnsV 12 #[] (.int .u64 18446744073709551615) := fun w _ => by
  go_enter Tryd.func12, Tryd.ntmps12
  go_wp2
  go_ret
  exact ⟨rfl, Below.refl _ _⟩
theorem on_id (N : Nat) (hN : N ≤ 64) (j : Nat) (hj : j < 64) : onF 18446744073709551615 N j = idF N j := by
  unfold idF onF
  split
  · rename_i h
    apply Nat.eq_of_testBit_eq
    intro b
    rw [Nat.testBit_and, Nat.testBit_and, Nat.testBit_two_pow]
    by_cases hb : j = b
    · subst hb
      rw [testBit_bel _ _ hj]
      have : (18446744073709551615 : Nat).testBit j = true := by
        rw [show (18446744073709551615 : Nat) = 2 ^ 64 - 1 from rfl, Nat.testBit_two_pow_sub_one]; simpa using hj
      simp [this, h]
    · simp [hb]
  · rfl
theorem on_R (N : Nat) (hN : N ≤ 64) : AnsV 11 #[.int .i64 (N : Int), .int .u64 18446744073709551615] (relv N (idF N)) := fun W _ => by
  have := on_any N 18446744073709551615 W (by decide)
  unfold onV at this
  rw [if_pos ⟨by omega, by omega⟩, Int.toNat_natCast, relv_congr rfl (on_id N hN)] at this
  exact this

/-- An answer, told by another function with the same rows. -/
theorem AnsV.rows {N : Nat} {fn : Nat} {args : Array Value} {A B : Nat → Nat} (h : AnsV fn args (relv N A)) (e : ∀ j, j < 64 → A j = B j) : AnsV fn args (relv N B) := by
  rwa [relv_congr rfl e] at h
theorem not_N {N : Nat} {F : Nat → Nat} (hN : N ≤ 64) (hF : Right N F) : AnsV 15 #[relv N F] (relv N (noF N F)) := not_R hN hF
theorem not_not {N : Nat} {F : Nat → Nat} (hN : N ≤ 64) (hF : Right N F) : AnsV 15 #[relv N (noF N F)] (relv N F) := by
  refine (not_N hN (right_no hN hF)).rows (row_ext hN (right_no hN (right_no hN hF)) hF (fun a b ha hb => ?_))
  rw [no_bits hN (right_no hN hF) a b ha hb, no_bits hN hF a b ha hb]
  constructor
  · rintro ⟨h1, h2⟩
    exact Classical.byContradiction fun h3 => h2 ⟨h1, h3⟩
  · intro h; exact ⟨right_le hF ha h, fun h2 => h2.2 h⟩
theorem meet_no {N : Nat} {F : Nat → Nat} (hN : N ≤ 64) (hF : Right N F) : AnsV 14 #[relv N F, relv N (noF N F)] (relv N void) := by
  refine (meet_R hN hF (right_no hN hF)).rows (row_ext hN (right_and hF) (right_void N) (fun a b ha hb => ?_))
  rw [and_bits, no_bits hN hF a b ha hb]
  exact ⟨fun h => (h.2.2 h.1).elim, fun h => (void_bits a b h).elim⟩
theorem comp_one {N : Nat} {F : Nat → Nat} (hN : N ≤ 64) (hF : Right N F) : AnsV 18 #[relv N F, relv N (idF N)] (relv N F) := by
  refine (comp_R hN hF (right_id N hN)).rows (row_ext hN (right_co hF (right_id N hN)) hF (fun a b ha hb => ?_))
  rw [co_bits hF a b ha]
  constructor
  · rintro ⟨c, h1, h2, h3⟩
    obtain ⟨rfl, _⟩ := (id_bits N c b hN).1 h3
    exact h2
  · intro h; exact ⟨b, hb, h, (id_bits N b b hN).2 ⟨rfl, (right_le hF ha h).2⟩⟩
theorem one_comp {N : Nat} {F : Nat → Nat} (hN : N ≤ 64) (hF : Right N F) : AnsV 18 #[relv N (idF N), relv N F] (relv N F) := by
  refine (comp_R hN (right_id N hN) hF).rows (row_ext hN (right_co (right_id N hN) hF) hF (fun a b ha hb => ?_))
  rw [co_bits (right_id N hN) a b ha]
  constructor
  · rintro ⟨c, h1, h2, h3⟩
    obtain ⟨rfl, _⟩ := (id_bits N a c hN).1 h2
    exact h3
  · intro h; exact ⟨a, ha, (id_bits N a a hN).2 ⟨rfl, (right_le hF ha h).1⟩, h⟩
theorem comp_void {N : Nat} {F : Nat → Nat} (hN : N ≤ 64) (hF : Right N F) : AnsV 18 #[relv N F, relv N void] (relv N void) := by
  refine (comp_R hN hF (right_void N)).rows (row_ext hN (right_co hF (right_void N)) (right_void N) (fun a b ha hb => ?_))
  rw [co_bits hF a b ha]
  exact ⟨fun ⟨c, _, _, h⟩ => (void_bits c b h).elim, fun h => (void_bits a b h).elim⟩
theorem inv_inv {N : Nat} {F : Nat → Nat} (hN : N ≤ 64) (hF : Right N F) : AnsV 19 #[relv N (tuF (edgesL N F))] (relv N F) := by
  have hI := right_tu hN hF
  refine (inv_R hN hI).rows (row_ext hN (right_tu hN hI) hF (fun a b ha hb => ?_))
  rw [tu_bits hI a b ha hb, tu_bits hF b a hb ha]
theorem dom_inv {N : Nat} {F : Nat → Nat} (hN : N ≤ 64) (hF : Right N F) : AnsV 20 #[relv N (tuF (edgesL N F))] (.int .u64 (rng F 64 : Nat)) := by
  have := dom_R hN (right_tu hN hF)
  rwa [dom_rng hN hF] at this
theorem union_back {N : Nat} {F G : Nat → Nat} (hN : N ≤ 64) (hF : Right N F) (hG : Right N G) : AnsV 13 #[relv N G, relv N F] (relv N (opF orN F G)) :=
  (union_R hN hG hF).rows (row_ext hN (right_or hG hF) (right_or hF hG) (fun a b _ _ => by rw [or_bits, or_bits]; exact Or.comm))
theorem meet_back {N : Nat} {F G : Nat → Nat} (hN : N ≤ 64) (hF : Right N F) (hG : Right N G) : AnsV 14 #[relv N G, relv N F] (relv N (opF andN F G)) :=
  (meet_R hN hG hF).rows (row_ext hN (right_and hG) (right_and hF) (fun a b _ _ => by rw [and_bits, and_bits]; exact And.comm))
theorem morgan {N : Nat} {F G : Nat → Nat} (hN : N ≤ 64) (hF : Right N F) (hG : Right N G) : AnsV 14 #[relv N (noF N F), relv N (noF N G)] (relv N (noF N (opF orN F G))) := by
  refine (meet_R hN (right_no hN hF) (right_no hN hG)).rows (row_ext hN (right_and (right_no hN hF)) (right_no hN (right_or hF hG)) (fun a b ha hb => ?_))
  rw [and_bits, no_bits hN hF a b ha hb, no_bits hN hG a b ha hb, no_bits hN (right_or hF hG) a b ha hb, or_bits]
  constructor
  · rintro ⟨⟨h1, h2⟩, _, h3⟩; exact ⟨h1, fun h => h.elim h2 h3⟩
  · rintro ⟨h1, h2⟩; exact ⟨⟨h1, fun h => h2 (Or.inl h)⟩, h1, fun h => h2 (Or.inr h)⟩
theorem minus_no {N : Nat} {F G : Nat → Nat} (hN : N ≤ 64) (hF : Right N F) (hG : Right N G) : AnsV 14 #[relv N F, relv N (noF N G)] (relv N (opF notN F G)) := by
  refine (meet_R hN hF (right_no hN hG)).rows (row_ext hN (right_and hF) (right_sub hF) (fun a b ha hb => ?_))
  rw [and_bits, no_bits hN hG a b ha hb, sub_bits hG.wf a b hb]
  exact ⟨fun h => ⟨h.1, h.2.2⟩, fun h => ⟨h.1, right_le hF ha h.1, h.2⟩⟩
theorem inv_comp {N : Nat} {F G : Nat → Nat} (hN : N ≤ 64) (hF : Right N F) (hG : Right N G) : AnsV 18 #[relv N (tuF (edgesL N G)), relv N (tuF (edgesL N F))] (relv N (tuF (edgesL N (coF G (edgesL N F))))) := by
  have hI := right_tu hN hF
  have hJ := right_tu hN hG
  refine (comp_R hN hJ hI).rows (row_ext hN (right_co hJ hI) (right_tu hN (right_co hF hG)) (fun a b ha hb => ?_))
  rw [co_bits hJ a b ha, tu_bits (right_co hF hG) a b ha hb, co_bits hF b a hb]
  constructor
  · rintro ⟨c, h1, h2, h3⟩; exact ⟨c, h1, (tu_bits hF c b h1 hb).1 h3, (tu_bits hG a c ha h1).1 h2⟩
  · rintro ⟨c, h1, h2, h3⟩; exact ⟨c, h1, (tu_bits hG a c ha h1).2 h3, (tu_bits hF c b h1 hb).2 h2⟩
theorem union_assoc {N : Nat} {F G H : Nat → Nat} (hN : N ≤ 64) (hF : Right N F) (hG : Right N G) (hH : Right N H) : AnsV 13 #[relv N F, relv N (opF orN G H)] (relv N (opF orN (opF orN F G) H)) :=
  (union_R hN hF (right_or hG hH)).rows (row_ext hN (right_or hF (right_or hG hH)) (right_or (right_or hF hG) hH) (fun a b _ _ => by rw [or_bits, or_bits, or_bits, or_bits]; exact or_assoc.symm))
theorem meet_spread {N : Nat} {F G H : Nat → Nat} (hN : N ≤ 64) (hF : Right N F) : AnsV 13 #[relv N (opF andN F G), relv N (opF andN F H)] (relv N (opF andN F (opF orN G H))) :=
  (union_R hN (right_and hF) (right_and hF)).rows (row_ext hN (right_or (right_and hF) (right_and hF)) (right_and hF) (fun a b _ _ => by
    rw [or_bits, and_bits, and_bits, and_bits, or_bits]
    exact ⟨fun h => h.elim (fun h => ⟨h.1, Or.inl h.2⟩) (fun h => ⟨h.1, Or.inr h.2⟩), fun h => h.2.elim (fun h2 => Or.inl ⟨h.1, h2⟩) (fun h2 => Or.inr ⟨h.1, h2⟩)⟩))
theorem comp_assoc {N : Nat} {F G H : Nat → Nat} (hN : N ≤ 64) (hF : Right N F) (hG : Right N G) (hH : Right N H) : AnsV 18 #[relv N F, relv N (coF H (edgesL N G))] (relv N (coF H (edgesL N (coF G (edgesL N F))))) := by
  have h1 := right_co hG hH
  have h2 := right_co hF hG
  refine (comp_R hN hF h1).rows (row_ext hN (right_co hF h1) (right_co h2 hH) (fun a b ha hb => ?_))
  rw [co_bits hF a b ha, co_bits h2 a b ha]
  constructor
  · rintro ⟨c, k1, k2, k3⟩
    obtain ⟨d, j1, j2, j3⟩ := (co_bits hG c b k1).1 k3
    exact ⟨d, j1, (co_bits hF a d ha).2 ⟨c, k1, k2, j2⟩, j3⟩
  · rintro ⟨d, k1, k2, k3⟩
    obtain ⟨c, j1, j2, j3⟩ := (co_bits hF a d ha).1 k2
    exact ⟨c, j1, j2, (co_bits hG c b j1).2 ⟨d, k1, j3, k3⟩⟩
theorem comp_spread {N : Nat} {F G H : Nat → Nat} (hN : N ≤ 64) (hF : Right N F) (hG : Right N G) (hH : Right N H) : AnsV 13 #[relv N (coF G (edgesL N F)), relv N (coF H (edgesL N F))] (relv N (coF (opF orN G H) (edgesL N F))) := by
  refine (union_R hN (right_co hF hG) (right_co hF hH)).rows (row_ext hN (right_or (right_co hF hG) (right_co hF hH)) (right_co hF (right_or hG hH)) (fun a b ha hb => ?_))
  rw [or_bits, co_bits hF a b ha, co_bits hF a b ha, co_bits hF a b ha]
  constructor
  · rintro (⟨c, h1, h2, h3⟩ | ⟨c, h1, h2, h3⟩)
    · exact ⟨c, h1, h2, (or_bits _ _ _ _).2 (Or.inl h3)⟩
    · exact ⟨c, h1, h2, (or_bits _ _ _ _).2 (Or.inr h3)⟩
  · rintro ⟨c, h1, h2, h3⟩
    rcases (or_bits _ _ _ _).1 h3 with h3 | h3
    · exact Or.inl ⟨c, h1, h2, h3⟩
    · exact Or.inr ⟨c, h1, h2, h3⟩
end Go.Proofs.YtkccckjiemijeabDoor
