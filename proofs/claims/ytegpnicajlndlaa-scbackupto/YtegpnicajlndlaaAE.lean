/- Where an append lays a row: the old block, or a new one; rows that are apart. -/
import Derived.Test.YtegpnicajlndlaaQau
import Derived.Test.YtegpnicajlndlaaCP
import Derived.Test.YtegpnicajlndlaaQav
namespace Go.Proofs.Ytegpnicajlndlaa
open Go.RowKit M
set_option linter.unusedSimpArgs false
set_option linter.unusedVariables false

/-- Where a row lies behind an append: in the block where it lay, or in a new one. -/
def Where (w : World) (v v' : Value) : Prop := v'.ownBlock = v.ownBlock ∨ ∃ g, v'.ownBlock = some g ∧ w.heap.size ≤ g
theorem app_whereE {w w' : World} {t T k by' : Nat} {z : Value} (E : Elt t T k z by') {B n m : Nat} {v v' : Value} {xs cs : List Value} {ad : Addr} {c : Nat} {ty : TypeId} (hown : w.ownsRow B t k v n xs) (hm : 0 < m) (hl : cs.length = m * k) (hnews : ∀ j y, cs[j]? = some y → w.cell? (ad.add j) = some y) (h1 : ∀ x ∈ cs, x.oneCell' = true) (hn : n + m ≤ 4194304)
    (hr : (Builtin.append_ #[T, T] ty #[v, .slice (some ad) m c]).run Try.prog w = .ok v' w') : Where w v v' := by
  obtain ⟨i0, hi, hz, hs, hby⟩ := E.info
  have hfew := E.few
  have hl1 : cs.length = m * i0.size := by rw [hl, hs]
  have hb : ∀ q, q ≤ 4194304 → q * i0.bytes ≤ 140737488355328 := fun q hq => by rw [hby]; exact Nat.le_trans (Nat.mul_le_mul hq hfew) (by decide)
  rcases hown.2 with ⟨rfl, hn0⟩ | ⟨g, cap, cur, rfl, hbg, hgc, hnc, hcm, hcs, htake⟩
  · have h2 := run_append_nil (P := Try.prog) w T ty t i0 _ E.und hi hz ad m c cs hl1 hnews hm (by omega) (Nat.le_trans (hb m (by omega)) (by decide))
    rw [hr] at h2
    injection h2 with e1 e2
    rw [e1]
    exact .inr ⟨w.heap.size, rfl, Nat.le_refl _⟩
  · by_cases hroom : n + m ≤ cap
    · have h2 := run_append_room (P := Try.prog) w T ty t i0 E.und hi g n cap cur hgc ad m c cs hl1 hnews h1 hroom (by rw [hs, hcs, hl, ← Nat.add_mul]; exact Nat.mul_le_mul_right _ hroom)
      rw [hr] at h2
      injection h2 with e1 e2
      rw [e1]
      exact .inl rfl
    · have h2 := run_append_grow (P := Try.prog) w T ty t i0 _ E.und hi hz ⟨g, 0, none⟩ n cap xs (by rw [hs]; exact hown.1) (hown.cells (g := g) rfl) ad m c cs hl1 hnews (by omega) (by omega) (growslice_fits (by omega) (hb _ hn))
      rw [hr] at h2
      injection h2 with e1 e2
      rw [e1]
      exact .inr ⟨w.heap.size, rfl, Nat.le_refl _⟩
section
variable {w : World} {ops : Array Oper} {rest : List Oper} {op : Oper} {a : Act} {Q : Exit → Act → World → Prop} {t T k by' : Nat} {z : Value}
theorem wpList_appW (E : Elt t T k z by') (hgd : op.guard = none) (s x : Operand) (ho : op.op = .call { callee := .builtin .append, args := #[s, x], argTypes := #[T, T] })
    (B : Nat) (v : Value) (n : Nat) (xs : List Value) (hs : a.eval s = v) (hown : w.ownsRow B t k v n xs) (b : Nat) (cs : List Value) (hx : a.eval x = .slice (some ⟨b, 0, none⟩) 1 1) (I : IsS w b t cs) (hl : cs.length = k) (h1 : ∀ x ∈ cs, x.oneCell' = true) (hn : n + 1 ≤ 4194304) (hB : B ≤ w.heap.size)
    (h : ∀ v' w', w'.ownsRow B t k v' (n + 1) (xs ++ cs) → w.grownBy w' v.ownBlock → Where w v v' → wpList Try.prog ops Q rest (a.put op.dst v') w') : wpList Try.prog ops Q (op :: rest) a w := by
  refine wpList_plain hgd fun K hK => ?_
  obtain ⟨v', w', hr, h2, h3⟩ := run_appM E B v n xs hown _ 1 cs (row_isS (n := 1) (c := 1) I) (by rw [hl, Nat.one_mul]) h1 hn hB op.type
  have h4 := app_whereE E hown (by omega) (by rw [hl, Nat.one_mul]) (ad := ⟨b, 0, none⟩) (fun j y hj => by rw [Addr.add_mid, Nat.zero_add, I.cell]; exact hj) h1 hn hr
  unfold Oper.wp
  rw [exec_app s x ho hs hx hr]
  exact hK _ _ (h v' w' h2 h3 h4)
end
/-- Two rows of one's own do not lie in one block. -/
def Apart (u v : Value) : Prop := ∀ k, u.ownBlock = some k → v.ownBlock ≠ some k
theorem Apart.symm {u v : Value} (h : Apart u v) : Apart v u := fun k hk e => h k e hk
theorem own_apart {w w' : World} {B t s n B' t' s' n' : Nat} {v u : Value} {xs ys : List Value} (h : w.ownsRow B t s v n xs) (hu : w.ownsRow B' t' s' u n' ys) (hd : Apart u v) (hg : w.grownBy w' v.ownBlock) : w'.ownsRow B' t' s' u n' ys :=
  own_same hu fun k hk => hg.block k (own_lt hu hk).2 (fun e => hd k hk e.symm)
theorem Where.apart {w : World} {B t s n : Nat} {v v' u : Value} {xs : List Value} (h : Where w v v') (hu : w.ownsRow B t s u n xs) (hd : Apart u v) : Apart u v' := fun k hk e => by
  rcases h with h | ⟨g, h, hg⟩
  · exact hd k hk (by rw [← h]; exact e)
  · rw [h] at e
    cases e
    have := (own_lt hu hk).2
    omega
theorem apart_nil (v : Value) (n c : Nat) : Apart (.slice none n c) v := fun k hk => by cases hk
end Go.Proofs.Ytegpnicajlndlaa
