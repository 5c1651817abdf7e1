/- The least transitive relation: what the calls of RelLeast answer. -/
import Derived.Test.YtkccckjiemijeabDoorV2
import Derived.Test.YtkccckjiemijeabDoorY6
namespace Go.Proofs.YtkccckjiemijeabDoor
open Go.RowKit Go.Shelf M P
set_option linter.unusedSimpArgs false
set_option linter.unusedVariables false

theorem or_absorb {A B : Nat → Nat} (h : ∀ a b, a < 64 → Bt B a b → Bt A a b) (j : Nat) (hj : j < 64) : opF orN A B j = A j := by
  unfold opF orN
  apply Nat.eq_of_testBit_eq
  intro b
  rw [Nat.testBit_or]
  have := h j b hj
  unfold Bt at this
  cases h1 : (A j).testBit b <;> cases h2 : (B j).testBit b <;> simp_all
def Tr (T : Nat → Nat) : Prop := ∀ a b c, a < 64 → b < 64 → Bt T a b → Bt T b c → Bt T a c
theorem clo_self {N : Nat} {T : Nat → Nat} (hN : N ≤ 64) (hR : Right N T) (h : Tr T) : Clo T T :=
  ⟨fun _ _ _ h => h, h, fun S hS _ a b ha hb => hS a b ha (by have := (right_le hR ha hb).2; omega) hb⟩
theorem wsh_self {N : Nat} {T : Nat → Nat} (hN : N ≤ 64) (hR : Right N T) (h : Tr T) (j : Nat) (hj : j < 64) : wsh T N j = T j := by
  have in' : ∀ a b, a < 64 → Bt T a b → b < 64 := fun a b ha hb => by have := (right_le hR ha hb).2; omega
  have hW := right_wsh hN hR N (Nat.le_refl _)
  exact (wsh_clo hN (fun a b ha hb => right_le hR ha hb)).eq in' (clo_self hN hR h) (fun a b ha hb => by have := (right_le hW ha hb).2; omega) in' j hj
theorem wsh_tr {N : Nat} {F : Nat → Nat} (hN : N ≤ 64) (hR : Right N F) : Tr (wsh F N) := (wsh_clo hN (fun a b ha hb => right_le hR ha hb)).trans
theorem tra_iff {N : Nat} {T : Nat → Nat} (hN : N ≤ 64) (hR : Right N T) : tra N T = true ↔ Tr T := by
  unfold tra
  rw [rowsEq_iff]
  constructor
  · intro h a b c ha hb h1 h2
    have : Bt (nxt N T) a c := (nxt_bits hR a c ha).2 (Or.inr ⟨b, hb, h1, h2⟩)
    unfold Bt at this ⊢
    rwa [h a ha] at this
  · intro h a ha
    refine or_absorb (fun a b ha hb => ?_) a ha
    obtain ⟨c, h1, h2, h3⟩ := (co_bits hR a b ha).1 hb
    exact h a c b ha h1 h2 h3
theorem star_tr {N : Nat} {T : Nat → Nat} (hN : N ≤ 64) (h : Tr T) : Tr (opF orN T (idF N)) := by
  intro a b c ha hb h1 h2
  rw [or_bits] at h1 h2 ⊢
  rcases h1 with h1 | h1
  · rcases h2 with h2 | h2
    · exact Or.inl (h a b c ha hb h1 h2)
    · obtain ⟨rfl, _⟩ := (idF_bit N b c hN).1 h2
      exact Or.inl h1
  · obtain ⟨rfl, _⟩ := (idF_bit N a b hN).1 h1
    exact h2
theorem wsh_le {N : Nat} {F T : Nat → Nat} (hN : N ≤ 64) (hR : Right N F) (hT : Tr T) (hRT : Right N T) (h : ∀ a b, a < 64 → Bt F a b → Bt T a b) (a b : Nat) (ha : a < 64) (hb : Bt (wsh F N) a b) : Bt T a b := by
  have := (wsh_clo hN (fun a b ha hb => right_le hR ha hb)).least (fun a b => a < 64 ∧ b < 64 ∧ Bt T a b) (fun a b h1 h2 h3 => ⟨h1, h2, h a b h1 h3⟩) (fun a b c ⟨h1, h2, h3⟩ ⟨_, h5, h6⟩ => ⟨h1, h5, hT a b c h1 h2 h3 h6⟩) a b ha hb
  exact this.2.2
theorem wsh_ge {N : Nat} {F : Nat → Nat} (hN : N ≤ 64) (hR : Right N F) (a b : Nat) (ha : a < 64) (hb : Bt F a b) : Bt (wsh F N) a b := wsh_has F N a b hb

theorem plus_R {N : Nat} {F : Nat → Nat} (hN : N ≤ 64) (hF : Right N F) : AnsV 22 #[relv N F] (relv N (wsh F N)) := by
  have := plus_any N F hF.wf
  rwa [right_nN hF hN, right_nF hF hN, Int.toNat_natCast] at this
theorem plus_same {N : Nat} {F : Nat → Nat} (hN : N ≤ 64) (hF : Right N F) (h : Tr F) : AnsV 22 #[relv N F] (relv N F) := by
  have := plus_R hN hF
  rwa [relv_congr rfl (fun j hj => wsh_self hN hF h j hj)] at this
theorem star_R {N : Nat} {F : Nat → Nat} (hN : N ≤ 64) (hF : Right N F) : AnsV 24 #[relv N F] (relv N (opF orN (wsh F N) (idF N))) := by
  have := star_any N F hF.wf
  rwa [right_nN hF hN, right_nF hF hN, Int.toNat_natCast] at this
theorem opt_R {N : Nat} {F : Nat → Nat} (hN : N ≤ 64) (hF : Right N F) : AnsV 25 #[relv N F] (relv N (opF orN F (idF N))) := by
  have := opt_any N F hF.wf
  rwa [right_nN hF hN, right_nF hF hN, Int.toNat_natCast] at this
theorem trans_R {N : Nat} {F : Nat → Nat} (hN : N ≤ 64) (hF : Right N F) : AnsV 23 #[relv N F] (.bool (tra N F)) := by
  have := transitive_any N F hF.wf
  rwa [right_nN hF hN, right_nF hF hN, Int.toNat_natCast] at this
theorem acyc_R {N : Nat} {F : Nat → Nat} (hN : N ≤ 64) (hF : Right N F) : AnsV 28 #[relv N F] (.bool (acyc N F)) := by
  have := acyclic_any N F hF.wf
  rwa [right_nN hF hN, right_nF hF hN, Int.toNat_natCast] at this
theorem inv_R {N : Nat} {F : Nat → Nat} (hN : N ≤ 64) (hF : Right N F) : AnsV 19 #[relv N F] (relv N (tuF (edgesL N F))) := fun W hT => by
  have := inv_any N F W hF.wf hT
  rwa [right_nN hF hN, right_nF hF hN, Int.toNat_natCast] at this
theorem not_R {N : Nat} {F : Nat → Nat} (hN : N ≤ 64) (hF : Right N F) : AnsV 15 #[relv N F] (relv N (upTo (xoN N) F void N)) := fun W hT => by
  have := not_any N F W hF.wf
  rwa [right_nN hF hN, right_nF hF hN, Int.toNat_natCast] at this
theorem count_R {N : Nat} {F : Nat → Nat} (hN : N ≤ 64) (hF : Right N F) : AnsV 17 #[relv N F] (.int .i64 ((edgesL 64 F).length : Nat)) := fun W hT => by
  have := count_any N F W hF.wf
  rwa [right_nF hF hN] at this
theorem dom_R {N : Nat} {F : Nat → Nat} (hN : N ≤ 64) (hF : Right N F) : AnsV 20 #[relv N F] (.int .u64 (dom F N : Nat)) := by
  have := domain_any N F hF.wf
  rwa [right_nN hF hN, right_nF hF hN, Int.toNat_natCast] at this
theorem rng_R {N : Nat} {F : Nat → Nat} (hN : N ≤ 64) (hF : Right N F) : AnsV 21 #[relv N F] (.int .u64 (rng F 64 : Nat)) := by
  have := range_any N F hF.wf
  rwa [right_nF hF hN] at this
theorem union_same {N : Nat} {F G : Nat → Nat} (hN : N ≤ 64) (hF : Right N F) (hG : Right N G) (h : ∀ a b, a < 64 → Bt G a b → Bt F a b) : AnsV 13 #[relv N F, relv N G] (relv N F) := by
  have := union_R hN hF hG
  rwa [relv_congr rfl (fun j hj => or_absorb h j hj)] at this
theorem star_star {N : Nat} {F : Nat → Nat} (hN : N ≤ 64) (hF : Right N F) : AnsV 24 #[relv N (opF orN (wsh F N) (idF N))] (relv N (opF orN (wsh F N) (idF N))) := by
  have hS := right_or (right_wsh hN hF N (Nat.le_refl _)) (right_id N hN)
  have := star_R hN hS
  have ht := star_tr hN (wsh_tr hN hF)
  have e : ∀ j, j < 64 → opF orN (wsh (opF orN (wsh F N) (idF N)) N) (idF N) j = opF orN (wsh F N) (idF N) j := fun j hj => by
    have h1 : opF orN (wsh (opF orN (wsh F N) (idF N)) N) (idF N) j = opF orN (opF orN (wsh F N) (idF N)) (idF N) j := by
      show orN (wsh (opF orN (wsh F N) (idF N)) N j) (idF N j) = orN (opF orN (wsh F N) (idF N) j) (idF N j)
      rw [wsh_self hN hS ht j hj]
    rw [h1]
    exact or_absorb (fun a b _ hb => (or_bits _ _ a b).2 (Or.inr hb)) j hj
  rwa [relv_congr rfl e] at this

section
variable {ops : Array Oper} {W : World} {Q : Act → Prop} {rest : List Oper} {op : Oper} {a : Act}
theorem wpG_eqRR (hw : Region.wanted op (yielded ops a.tmps) = true) (x y : Operand) (ho : op.op = .binOp .eql 25 x y 25) {n : Int} {f : Nat → Nat} (hx : a.eval x = relv n f) (hy : a.eval y = relv n f)
    (h : wpG Tryd.prog ops W Q rest (a.put op.dst (.bool true))) : wpG Tryd.prog ops W Q (op :: rest) a := by
  refine wpG_eqR hw x y ho hx hy ?_
  rw [(rowsEq_iff f f).2 (fun _ _ => rfl)]
  exact h
theorem neqG (n : Int) (f g : Nat → Nat) (w : World) : (binOp .neq 25 (relv n f) (relv n g)).run Tryd.prog w = .ok (.bool (!rowsEq f g)) w := by
  have := equalRG n f g w
  unfold relv
  rw [run_neq_struct, this]; rfl
theorem wpG_neR (hw : Region.wanted op (yielded ops a.tmps) = true) (x y : Operand) (ho : op.op = .binOp .neq 25 x y 25) {n : Int} {f g : Nat → Nat} (hx : a.eval x = relv n f) (hy : a.eval y = relv n g)
    (h : wpG Tryd.prog ops W Q rest (a.put op.dst (.bool (!rowsEq f g)))) : wpG Tryd.prog ops W Q (op :: rest) a := by
  refine wpG_put hw (fun w => ?_) h
  unfold execOp
  have h1 := neqG n f g w
  have h2 := eqGuardR .neq x y n n f g w
  simp [ho, hx, hy, Sem.run_bind, h1, h2]
theorem wpG_neRR (hw : Region.wanted op (yielded ops a.tmps) = true) (x y : Operand) (ho : op.op = .binOp .neq 25 x y 25) {n : Int} {f : Nat → Nat} (hx : a.eval x = relv n f) (hy : a.eval y = relv n f)
    (h : wpG Tryd.prog ops W Q rest (a.put op.dst (.bool false))) : wpG Tryd.prog ops W Q (op :: rest) a := by
  refine wpG_neR hw x y ho hx hy ?_
  rw [(rowsEq_iff f f).2 (fun _ _ => rfl)]
  exact h
end
end Go.Proofs.YtkccckjiemijeabDoor
