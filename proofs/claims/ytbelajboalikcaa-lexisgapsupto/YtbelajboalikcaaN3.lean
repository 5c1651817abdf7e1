/- What LexisBack rests on: plain mathematics. -/
import Derived.Test.YtbelajboalikcaaN2
import Derived.Test.YtbelajboalikcaaB2
namespace Go.Proofs.Ytbelajboalikcaa
open M
set_option linter.unusedSimpArgs false
set_option linter.unusedVariables false

theorem bare_eq {ts : List Tok} {gs : List GT} (h : ts.map key = gs.map fun g => (g.kind.toNat, g.text.data.toList)) (hk : ∀ g ∈ gs, 0 ≤ g.kind) : (ts.map toG).map bareG = gs.map bareG := by
  induction gs generalizing ts with
  | nil =>
    cases ts with
    | nil => rfl
    | cons a b => simp at h
  | cons g gs ih =>
    cases ts with
    | nil => simp at h
    | cons t ts =>
      simp only [List.map_cons, List.cons.injEq, key, Prod.mk.injEq] at h ⊢
      obtain ⟨⟨h1, h2⟩, h3⟩ := h
      refine ⟨?_, ih h3 (fun x hx => hk x (List.mem_cons_of_mem _ hx))⟩
      have hk0 := hk g (List.mem_cons_self ..)
      have e1 : ((t.kind : Nat) : Int) = g.kind := by rw [h1]; omega
      have e2 : (⟨t.text.toArray⟩ : ByteArray) = g.text := by
        rw [h2]
      show (⟨(t.kind : Int), ⟨t.text.toArray⟩, 0, 0, 0, 0, 0⟩ : GT) = ⟨g.kind, g.text, 0, 0, 0, 0, 0⟩
      rw [e1, e2]
/-- What is written says the tokens again. -/
theorem back_write {gs : List GT} {out : List UInt8} (h : wrTo gs gs.length = some out) (hl : out.length ≤ 1048576) : ∃ ts : List Tok, rounds out = ts.map Rd.tok ∧ (ts.map toG).map bareG = gs.map bareG ∧ ts.length = gs.length := by
  obtain ⟨h1, h2⟩ := wr_ok gs gs.length out h
  have hC : ∀ g ∈ gs, ∃ C, Whole (ownF g.kind g.text.data.toList) C ∧ (C.kind : Int) = g.kind ∧ C.text = g.text.data.toList := fun g hg => by
    obtain ⟨i, hi, rfl⟩ := List.mem_iff_getElem.1 hg
    exact says_whole (h1 i _ hi (List.getElem?_eq_getElem hi))
  have hps : ∃ ps : List (List UInt8 × Piece), ps.map (·.1) = gs.map (fun g => ownF g.kind g.text.data.toList) ∧ (∀ x ∈ ps, Whole x.1 x.2) ∧ (ps.map fun x => (x.2.kind, x.2.text)) = gs.map fun g => (g.kind.toNat, g.text.data.toList) := by
    clear h h1 h2 hl
    induction gs with
    | nil => exact ⟨[], rfl, fun x hx => (by cases hx), rfl⟩
    | cons g gs ih =>
      obtain ⟨ps, p1, p2, p3⟩ := ih (fun x hx => hC x (List.mem_cons_of_mem _ hx))
      obtain ⟨C, c1, c2, c3⟩ := hC g (List.mem_cons_self ..)
      refine ⟨(ownF g.kind g.text.data.toList, C) :: ps, by rw [List.map_cons, p1]; rfl, fun x hx => ?_, ?_⟩
      · rcases List.mem_cons.1 hx with rfl | hx
        · exact c1
        · exact p2 x hx
      · rw [List.map_cons, p3, List.map_cons, ← c2, c3]
        simp
  obtain ⟨ps, p1, p2, p3⟩ := hps
  have ho := h2 hl
  rw [List.take_of_length_le (Nat.le_refl _), ← p1] at ho
  obtain ⟨ts, t1, t2⟩ := rounds_join ps p2 (by rw [← ho]; exact hl)
  rw [← ho] at t1
  rw [p3] at t2
  refine ⟨ts, t1, bare_eq t2 (fun g hg => ?_), ?_⟩
  · obtain ⟨C, _, c2, _⟩ := hC g hg
    omega
  · have := congrArg List.length t2
    simpa using this
/-- Each token of a text, alone. -/
theorem back_own {l : List UInt8} {ts : List Tok} (h : rounds l = ts.map Rd.tok) {t : Tok} (ht : t ∈ ts) : t.at' < t.fin ∧ t.fin ≤ l.length ∧ l.length ≤ 1048576 ∧ rounds ((l.drop t.at').take (t.fin - t.at')) = [.tok ⟨t.kind, t.text, t.value, 1, 1, 0, t.fin - t.at'⟩] ∧ ownF (t.kind : Int) t.text = (l.drop t.at').take (t.fin - t.at') := by
  have hl : l.length ≤ 1048576 := by
    by_cases hb : 1048576 < l.length
    · rw [show rounds l = [.long] from if_pos hb] at h
      cases ts with
      | nil => cases ht
      | cons a b => simp at h
    · omega
  unfold rounds at h
  rw [if_neg (by omega)] at h
  obtain ⟨_, h2, h3, C, hW, c1, c2, c3⟩ := (go_places _ _ _ _ _ h).1 t ht
  have hlen : ((l.drop t.at').take (t.fin - t.at')).length = t.fin - t.at' := by rw [List.length_take, List.length_drop]; omega
  refine ⟨h2, h3, hl, ?_, ?_⟩
  · rw [rounds_one hW (by omega), c1, c2, c3, hlen]
  · rw [← c1, ← c2, hW.own]
/-- What a text says can be written, unless that is too long. -/
theorem back_all {l : List UInt8} {ts : List Tok} (h : rounds l = ts.map Rd.tok) : ∃ out, wrTo (ts.map toG) (ts.map toG).length = some out ∧ out.length ≤ 2 * l.length ∧ ts.length ≤ l.length ∧ ts.length ≤ 1048576 := by
  by_cases hb : 1048576 < l.length
  · rw [show rounds l = [.long] from if_pos hb] at h
    cases ts with
    | nil => simp at h
    | cons a b => simp at h
  · have h' := h
    unfold rounds at h'
    rw [if_neg hb] at h'
    obtain ⟨g1, g2, g3⟩ := go_places _ _ _ _ _ h'
    have hsay : ∀ g ∈ ts.map toG, saysF (ownF g.kind g.text.data.toList) g.kind g.text.data.toList = true := fun g hg => by
      obtain ⟨t, ht, rfl⟩ := List.mem_map.1 hg
      obtain ⟨_, h2, h3, C, hW, c1, c2, c3⟩ := g1 t ht
      have hlen : ((l.drop t.at').take (t.fin - t.at')).length = t.fin - t.at' := by rw [List.length_take, List.length_drop]; omega
      have := whole_says hW (by omega)
      rw [c1, c2] at this
      simpa [toG] using this
    obtain ⟨out, ho⟩ := wr_all (ts.map toG) hsay (ts.map toG).length (Nat.le_refl _)
    have hle := wr_le (ts.map toG) _ out (Nat.le_refl _) ho
    rw [List.take_of_length_le (Nat.le_refl _), List.map_map, List.length_map] at hle
    have hsum : (ts.map ((fun g => (ownF g.kind g.text.data.toList).length) ∘ toG)) = ts.map fun t => t.fin - t.at' := by
      apply List.map_congr_left
      intro t ht
      obtain ⟨_, h2, h3, C, hW, c1, c2, c3⟩ := g1 t ht
      have hlen : ((l.drop t.at').take (t.fin - t.at')).length = t.fin - t.at' := by rw [List.length_take, List.length_drop]; omega
      have := hW.own
      rw [c1, c2] at this
      simp only [Function.comp, toG]
      rw [this, hlen]
    rw [hsum] at hle
    exact ⟨out, ho, by omega, by omega, by omega⟩

theorem go_shape : ∀ (f : Nat) (l : List UInt8) (p : Nat) (q : Nat × Nat), ∃ (ts : List Tok) (er : Option Rd), goF f l p q = ts.map Rd.tok ++ er.toList ∧ (∀ t, er ≠ some (.tok t)) ∧ ts.length ≤ l.length - p
  | 0, l, p, q => ⟨[], none, rfl, fun t e => (by cases e), by simp⟩
  | f + 1, l, p, q => by
    obtain ⟨n, hn⟩ : ∃ n, (blkF (l.drop p)).1 = n := ⟨_, rfl⟩
    by_cases hcl : (blkF (l.drop p)).2 = true
    · by_cases hm : l.length ≤ p + n
      · exact ⟨[], none, go_end hn hcl hm, fun t e => (by cases e), by simp⟩
      · obtain ⟨C, hC⟩ : ∃ C, cutF (l.drop (p + n)) = C := ⟨_, rfl⟩
        by_cases hw : C.wrong = 0
        · obtain ⟨ts, er, h1, h2, h3⟩ := go_shape f l (p + n + C.length) (spotF (spotF q ((l.drop p).take n)) ((l.drop (p + n)).take C.length))
          have hps := cut_pos (l := l.drop (p + n)) (by rw [hC]; exact hw)
          rw [hC] at hps
          refine ⟨_ :: ts, er, by rw [go_tok (n := n) (m := p + n) hn hcl rfl (by omega) rfl hC rfl hw, h1]; rfl, h2, by rw [List.length_cons]; omega⟩
        · exact ⟨[], some _, go_wrong (n := n) (m := p + n) hn hcl rfl (by omega) rfl hC rfl hw, fun t e => (by cases e), by simp⟩
    · exact ⟨[], some _, go_com hn (by simpa using hcl) rfl, fun t e => (by cases e), by simp⟩
theorem shape (l : List UInt8) : ∃ (ts : List Tok) (er : Option Rd), rounds l = ts.map Rd.tok ++ er.toList ∧ (∀ t, er ≠ some (.tok t)) ∧ ts.length ≤ 1048576 := by
  unfold rounds
  split
  · exact ⟨[], some .long, rfl, fun t e => (by cases e), by simp⟩
  · obtain ⟨ts, er, h1, h2, h3⟩ := go_shape (l.length + 1) l 0 (1, 1)
    exact ⟨ts, er, h1, h2, by omega⟩
end Go.Proofs.Ytbelajboalikcaa
