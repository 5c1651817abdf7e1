/- The reference's reader of conditions: its cells; bad, fail. -/
import Derived.Test.YtjnbhcakfenbhaaDoorV9
namespace Go.Proofs.YtjnbhcakfenbhaaDoor
open Go.RowKit Go.Shelf M
set_option linter.unusedSimpArgs false
set_option linter.unusedVariables false

def fltL : Option (Int × Int × Int) → List Value
  | none => [.int .i64 0, .int .i64 0, .int .i64 0]
  | some x => [.int .i64 x.1, .int .i64 x.2.1, .int .i64 x.2.2]
theorem fltL_len (F : Option (Int × Int × Int)) : (fltL F).length = 3 := by cases F <;> rfl
theorem fltL_one (F : Option (Int × Int × Int)) : ∀ v ∈ fltL F, v.oneCell' = true := by cases F <;> simp [fltL, Value.oneCell']
/-- The reader's own cells. -/
def rrL (a : Option Addr) (n cap : Nat) (k : Nat) (t : GT) (d : Int) (v : Value) (F : Option (Int × Int × Int)) : List Value :=
  .slice a n cap :: .int .i64 (k : Int) :: (gtL t ++ .int .i64 d :: v :: fltL F)
theorem rrL_len {a : Option Addr} {n cap k : Nat} {t : GT} {d : Int} {v : Value} {F : Option (Int × Int × Int)} : (rrL a n cap k t d v F).length = 14 := by simp [rrL, gtL, fltL_len]
/-- The reference's reader of tokens that lie below a bound, above which all its own lies. -/
structure RC (gs : List GT) (a : Option Addr) (cap base br k0 : Nat) (W : World) (σ : CS) : Prop where
  ex : ∃ (v : Value) (t : GT), IsS W br 75 (rrL a gs.length cap σ.k t σ.deep v σ.F) ∧ W.ownsRow base 52 6 v σ.nodes.length (cellsL σ.nodes) ∧ (k0 < σ.k → t = gAt gs (σ.k - 1))
  toks : Toks W a gs
  tb : ∀ b o, a = some ⟨b, o, none⟩ → b < base
  bb : base ≤ br
  sz : base ≤ W.heap.size
  len : σ.nodes.length ≤ 1024
  from' : k0 ≤ σ.k
  k : σ.k ≤ gs.length
  code : ∀ x, σ.F = some x → x.2.2 ≠ 0
section
variable {gs : List GT} {a : Option Addr} {cap base br k0 : Nat} {w W W' : World} {σ σ' : CS}
theorem RC.lt (h : RC gs a cap base br k0 W σ) : br < W.heap.size := by obtain ⟨v, t, h1, _⟩ := h.ex; exact h1.lt
/-- Memory that came behind changes nothing. -/
theorem RC.grown (h : RC gs a cap base br k0 W σ) (B : Below W.heap.size W W') : RC gs a cap base br k0 W' σ := by
  obtain ⟨v, t, h1, h2, h3⟩ := h.ex
  exact ⟨⟨v, t, h1.grown B, own_grN h2 B, h3⟩, toks_low h.toks h.tb (below_lower B h.sz), h.tb, h.bb, Nat.le_trans h.sz B.size, h.len, h.from', h.k, h.code⟩
/-- The reader's block is turned. -/
theorem RC.turn (h : RC gs a cap base br k0 W σ) (T : Turn W W' br) {v : Value} {t t' : GT} (hv : IsS W br 75 (rrL a gs.length cap σ.k t σ.deep v σ.F)) (hn : σ'.nodes = σ.nodes) (hf : k0 ≤ σ'.k) (hk : σ'.k ≤ gs.length) (hc : ∀ x, σ'.F = some x → x.2.2 ≠ 0)
    (hl : k0 < σ'.k → t' = gAt gs (σ'.k - 1)) (hR : IsS W' br 75 (rrL a gs.length cap σ'.k t' σ'.deep v σ'.F)) : RC gs a cap base br k0 W' σ' := by
  obtain ⟨v0, t0, h1, h2, h3⟩ := h.ex
  have e : v0 = v := by
    have e1 : W.cell? ⟨br, 10, none⟩ = some v0 := h1.cell 10
    have e2 : W.cell? ⟨br, 10, none⟩ = some v := hv.cell 10
    rw [e1] at e2
    injection e2
  subst e
  have hB : Below base W W' := Turn.below (Below.refl _ _) h.bb h.sz T
  refine ⟨⟨v0, t', hR, ?_, hl⟩, toks_low h.toks h.tb hB, h.tb, h.bb, Nat.le_trans h.sz T.size, ?_, hf, hk, hc⟩
  · rw [hn]
    exact own_turnN h2 h1 (by decide) T
  · rw [hn]; exact h.len
end
/-- What a step of the reader's comes to. -/
structure OutR (gs : List GT) (a : Option Addr) (cap base br k0 : Nat) (w : World) (σ : CS) (v : Value) (en : Ending) (w' : World) : Prop where
  en : en = .returned v
  st : RC gs a cap base br k0 w' σ
  bel : Below base w w'
/-- The same, and no block but the reader's has turned. -/
structure OutT (gs : List GT) (a : Option Addr) (cap base br k0 : Nat) (w : World) (σ : CS) (v : Value) (en : Ending) (w' : World) : Prop where
  en : en = .returned v
  st : RC gs a cap base br k0 w' σ
  bel : Below base w w'
  tn : Turn w w' br
section
variable {gs : List GT} {a : Option Addr} {cap base br k0 : Nat}
set_option maxRecDepth 100000 in
set_option maxHeartbeats 1000000 in
theorem rbad_any (σ : CS) (w : World) (hP : RC gs a cap base br k0 w σ) :
    Calls Tryd.prog 35 #[.pointer (some ⟨br, 0, none⟩)] w fun en w' => en = .returned (.bool σ.F.isSome) ∧ w' = w := by
  obtain ⟨v, t, R, _, _⟩ := hP.ex
  have hc := hP.code
  cases hF : σ.F with
  | none =>
    rw [hF] at R
    have c13 : w.cell? ⟨br, 13, none⟩ = some (.int .i64 0) := R.cell 13
    clear R hc hF
    go_enter Tryd.func35, Tryd.ntmps35
    go_wp2_with fail
    go_ret
    exact ⟨rfl, rfl⟩
  | some x =>
    rw [hF] at R
    have hx := hc x hF
    obtain ⟨x1, x2, x3⟩ := x
    dsimp only at hx
    have c13 : w.cell? ⟨br, 13, none⟩ = some (.int .i64 x3) := R.cell 13
    have hx' : (x3 == 0) = false := by simpa using hx
    clear R hc hF hx
    go_enter Tryd.func35, Tryd.ntmps35
    go_wp2_with fail
    go_ret
    exact ⟨ret_bool (by simp [bne, hx']), rfl⟩
set_option maxRecDepth 100000 in
set_option maxHeartbeats 1000000 in
theorem rfail_any (σ : CS) (g : GT) (e : Int) (he : e ≠ 0) (w : World) (hP : RC gs a cap base br k0 w σ) :
    Calls Tryd.prog 68 #[.pointer (some ⟨br, 0, none⟩), .agg (gtL g).toArray, .int .i64 e] w fun en w' => OutT gs a cap base br k0 w (failC σ g e) (.tuple #[]) en w' := by
  have cB := fun W hP => rbad_any (gs := gs) (a := a) (cap := cap) (base := base) (br := br) (k0 := k0) σ W hP
  have hlt := hP.lt
  have hbb := hP.bb
  have hsz := hP.sz
  cases hF : σ.F with
  | none =>
    rw [hF] at cB
    have e2 : failC σ g e = CS.mk (CS.k σ) (CS.deep σ) (CS.nodes σ) (some (g.line, g.col, e)) := by unfold failC; rw [if_neg (by rw [hF]; simp)]
    rw [e2]
    clear e2
    go_enter Tryd.func68, Tryd.ntmps68
    go_wp2_with (first
      | (refine wpList_boxS rfl 37 _ rfl (gtL g) rfl ?_; intro W1 b1 F1 N1; have B1 := F1.trans (Below.refl _ w) (Nat.le_refl _); have hb1 : w.heap.size ≤ b1 := Nat.le_of_eq F1.at'.symm; have P1 := hP.grown B1; clear F1)
      | (go_at_call 35; refine (cB _ P1).mono ?_; rintro en W2 ⟨rfl, hW⟩; replace hW := hW.symm; subst hW; have c3 : W1.cell? ⟨b1, 3, none⟩ = some (.int .i64 g.line) := N1.cell 3; have c4 : W1.cell? ⟨b1, 4, none⟩ = some (.int .i64 g.col) := N1.cell 4; obtain ⟨v, t, R1, O1, L1⟩ := P1.ex; clear cB)
      | (refine wpList_storeS rfl 43 _ _ rfl rfl (fltL (some (g.line, g.col, e))) rfl R1 (by rw [rrL_len]; simp [fltL]) (by kernel_rfl) (fltL_one _) ?_; intro W3 U3 R3x; have P3 : RC gs a cap base br k0 W3 (CS.mk (CS.k σ) (CS.deep σ) (CS.nodes σ) (some (g.line, g.col, e))) := P1.turn (Turn.of_upd U3) R1 rfl hP.from' hP.k (fun x hx => (by cases hx; exact he)) L1 (by rw [hF] at R3x; exact R3x); have B3 := U3.trans (below_lower B1 hsz) hbb))
    exact ⟨rfl, .tuple #[], (by simp [results, Tryd.results68, go_sem]), rfl, P3, B3, (Turn.of_below B1 br).trans (Turn.of_upd U3)⟩
  | some x =>
    rw [hF] at cB
    have e2 : failC σ g e = σ := by unfold failC; rw [if_pos (by rw [hF]; simp)]
    rw [e2]
    clear e2
    go_enter Tryd.func68, Tryd.ntmps68
    go_wp2_with (first
      | (refine wpList_boxS rfl 37 _ rfl (gtL g) rfl ?_; intro W1 b1 F1 N1; have B1 := F1.trans (Below.refl _ w) (Nat.le_refl _); have P1 := hP.grown B1; clear F1)
      | (go_at_call 35; refine (cB _ P1).mono ?_; rintro en W2 ⟨rfl, hW⟩; replace hW := hW.symm; subst hW; clear cB))
    exact ⟨rfl, .tuple #[], (by simp [results, Tryd.results68, go_sem]), rfl, P1, below_lower B1 hsz, Turn.of_below B1 br⟩
end
end Go.Proofs.YtjnbhcakfenbhaaDoor
