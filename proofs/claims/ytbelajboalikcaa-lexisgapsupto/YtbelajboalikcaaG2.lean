/- Blanks and closed comments ahead of tokens mean nothing: plain mathematics. -/
import Derived.Test.YtbelajboalikcaaG1
import Derived.Test.YtbelajboalikcaaN3
namespace Go.Proofs.Ytbelajboalikcaa.Gp
open Go.Proofs.Ytbelajboalikcaa M
set_option linter.unusedSimpArgs false
set_option linter.unusedVariables false

/-- Blanks alone, with comments that are closed, of which some are open already. -/
def gapF : List UInt8 → Nat → Bool
  | [], d => decide (d = 0)
  | [a], d => decide (d = 0) && blkN a.toNat
  | a :: b :: r, d =>
    if a.toNat = 40 ∧ b.toNat = 42 then gapF r (d + 1)
    else if 0 < d ∧ a.toNat = 42 ∧ b.toNat = 41 then gapF r (d - 1)
    else if d = 0 ∧ blkN a.toNat = false then false
    else gapF (b :: r) d
theorem gapF_two (a b : UInt8) (r : List UInt8) (d : Nat) : gapF (a :: b :: r) d = if a.toNat = 40 ∧ b.toNat = 42 then gapF r (d + 1)
    else if 0 < d ∧ a.toNat = 42 ∧ b.toNat = 41 then gapF r (d - 1)
    else if d = 0 ∧ blkN a.toNat = false then false
    else gapF (b :: r) d := by
  conv => lhs; unfold gapF
theorem gap_com : ∀ (n : Nat) (l : List UInt8), l.length ≤ n → ∀ d, 0 < d → gapF l d = true → ∃ k, k ≤ l.length ∧ gapF (l.drop k) 0 = true ∧ ∀ r, comF (l ++ r) d = some k
  | _, [], _, d, hd, h => by simp [gapF] at h; omega
  | _, [a], _, d, hd, h => by simp [gapF] at h; omega
  | 0, _ :: _ :: _, hn, _, _, _ => by simp at hn
  | n + 1, a :: b :: r, hn, d, hd, h => by
    have hn' : r.length ≤ n := by simp at hn; omega
    rw [gapF_two] at h
    by_cases h1 : a.toNat = 40 ∧ b.toNat = 42
    · rw [if_pos h1] at h
      obtain ⟨k, k1, k2, k3⟩ := gap_com n r hn' (d + 1) (by omega) h
      refine ⟨k + 2, by simp; omega, by simpa using k2, fun x => ?_⟩
      rw [List.cons_append, List.cons_append, comF_two, if_pos h1, k3]; rfl
    · rw [if_neg h1] at h
      by_cases h2 : a.toNat = 42 ∧ b.toNat = 41
      · rw [if_pos ⟨hd, h2⟩] at h
        by_cases h3 : d = 1
        · subst h3
          refine ⟨2, by simp, by simpa using h, fun x => ?_⟩
          rw [List.cons_append, List.cons_append, comF_two, if_neg h1, if_pos h2, if_pos rfl]
        · obtain ⟨k, k1, k2, k3⟩ := gap_com n r hn' (d - 1) (by omega) h
          refine ⟨k + 2, by simp; omega, by simpa using k2, fun x => ?_⟩
          rw [List.cons_append, List.cons_append, comF_two, if_neg h1, if_pos h2, if_neg h3, k3]; rfl
      · rw [if_neg (fun h => h2 h.2), if_neg (fun h => by omega)] at h
        obtain ⟨k, k1, k2, k3⟩ := gap_com n (b :: r) (by simp at hn ⊢; omega) d hd h
        refine ⟨k + 1, by simp at k1 ⊢; omega, by simpa using k2, fun x => ?_⟩
        have := k3 x
        rw [List.cons_append] at this
        rw [List.cons_append, List.cons_append, comF_two, if_neg h1, if_neg h2, this]; rfl
/-- A gap is passed over. -/
theorem gap_blk : ∀ (n : Nat) (l : List UInt8), l.length ≤ n → gapF l 0 = true → ∀ r, blkF (l ++ r) = (l.length + (blkF r).1, (blkF r).2)
  | _, [], _, _, r => by simp
  | 0, _ :: _, hn, _, _ => by simp at hn
  | n + 1, [c], hn, h, r => by
    have hb : blkN c.toNat = true := by simpa [gapF] using h
    rw [List.cons_append, blkF_blank hb]
    simp; omega
  | n + 1, c :: b :: t, hn, h, r => by
    rw [gapF_two] at h
    by_cases h1 : c.toNat = 40 ∧ b.toNat = 42
    · rw [if_pos h1] at h
      obtain ⟨k, k1, k2, k3⟩ := gap_com _ t (Nat.le_refl _) 1 (by omega) h
      have hb : blkN c.toNat = false := by rw [h1.1]; decide
      have ho : opB (c :: (b :: t ++ r)) = true := by simp [opB, h1]
      have hd : (b :: t ++ r).drop (1 + k) = t.drop k ++ r := by
        rw [Nat.add_comm, List.cons_append, List.drop_succ_cons, List.drop_append_of_le_length k1]
      rw [List.cons_append, blkF_com hb ho (by simpa using k3 r), hd, gap_blk n (t.drop k) (by simp at hn ⊢; omega) k2 r]
      simp; omega
    · rw [if_neg h1, if_neg (fun h => by omega)] at h
      by_cases hb : blkN c.toNat = true
      · rw [if_neg (fun h => by rw [hb] at h; exact absurd h.2 (by decide))] at h
        rw [List.cons_append, blkF_blank hb, gap_blk n (b :: t) (by simp at hn ⊢; omega) h r]
        simp; omega
      · rw [if_pos ⟨rfl, by simpa using hb⟩] at h; cases h
theorem gap_sep {g : List UInt8} (h : gapF g 0 = true) (x : List UInt8) : SepG (g ++ 32 :: x) := by
  have blk : ∀ c : UInt8, blkN c.toNat = true → c = 32 ∨ c = 9 ∨ c = 10 ∨ c = 13 := fun c hc => by
    have : c.toNat = 32 ∨ c.toNat = 9 ∨ c.toNat = 10 ∨ c.toNat = 13 := by simpa [blkN] using hc
    rcases this with h | h | h | h
    · exact .inl (UInt8.toNat_inj.1 h)
    · exact .inr (.inl (UInt8.toNat_inj.1 h))
    · exact .inr (.inr (.inl (UInt8.toNat_inj.1 h)))
    · exact .inr (.inr (.inr (UInt8.toNat_inj.1 h)))
  match g, h with
  | [], _ => exact .inr ⟨32, x, rfl, .inl rfl⟩
  | [c], h =>
    have hb : blkN c.toNat = true := by simpa [gapF] using h
    refine .inr ⟨c, _, rfl, ?_⟩
    rcases blk c hb with h | h | h | h <;> simp [h]
  | c :: b :: t, h =>
    refine .inr ⟨c, _, rfl, ?_⟩
    rw [gapF_two] at h
    by_cases h1 : c.toNat = 40 ∧ b.toNat = 42
    · have : c = 40 := UInt8.toNat_inj.1 h1.1
      simp [this]
    · rw [if_neg h1, if_neg (fun h => by omega)] at h
      by_cases hb : blkN c.toNat = true
      · rcases blk c hb with h | h | h | h <;> simp [h]
      · rw [if_pos ⟨rfl, by simpa using hb⟩] at h; cases h
theorem whole_behind {b r : List UInt8} {C : Piece} (h : Whole b C) (hr : SepG r) : cutF (b ++ r) = C ∧ Stopped (b ++ r) := by
  have e : b ++ [] = b := List.append_nil b
  have h1 : (cutF (b ++ [])).wrong = 0 := by rw [e, h.cut]; exact h.ok
  have h2 : (cutF (b ++ [])).length = b.length := by rw [e, h.cut]; exact h.len
  exact ⟨(Gp.cut_same hr h1 h2).trans (by rw [e, h.cut]), Gp.stop_same (r1 := []) h.ne hr (by rw [e]; exact h.stop)⟩
/-- A token stands behind a gap. -/
theorem go_gap {f : Nat} {t : List UInt8} {p : Nat} {q : Nat × Nat} {b r : List UInt8} {C : Piece} {lead : List UInt8} (hl : ∀ x, Stopped x → blkF (lead ++ x) = (lead.length, true)) (hd : t.drop p = lead ++ (b ++ r)) (hW : Whole b C) (hr : SepG r) :
    ∃ z u : Nat × Nat, goF (f + 1) t p q = .tok ⟨C.kind, C.text, C.value, z.1, z.2, p + lead.length, p + lead.length + b.length⟩ :: goF f t (p + lead.length + b.length) u := by
  obtain ⟨hc, hs⟩ := whole_behind hW hr
  have hblk : blkF (t.drop p) = (lead.length, true) := by rw [hd]; exact hl _ hs
  have hbl : 0 < b.length := List.length_pos_iff.2 hW.ne
  have hlen : p + lead.length < t.length := by
    have := congrArg List.length hd
    simp at this
    omega
  have hd2 : t.drop (p + lead.length) = b ++ r := by
    rw [← List.drop_drop, hd]; simp
  refine ⟨spotF q ((t.drop p).take lead.length), spotF (spotF q ((t.drop p).take lead.length)) ((t.drop (p + lead.length)).take C.length), ?_⟩
  rw [go_tok (n := lead.length) (m := p + lead.length) (by rw [hblk]) (by rw [hblk]) rfl hlen rfl (by rw [hd2]; exact hc) rfl hW.ok, hW.len]

/-- Some texts, each with a gap and a blank ahead; and those behind the last one. -/
def jg (g : List UInt8) (bs : List (List UInt8)) : List UInt8 := bs.flatMap fun b => g ++ 32 :: b
theorem jg_sep {g : List UInt8} (hg : gapF g 0 = true) (bs : List (List UInt8)) : SepG (jg g bs ++ 32 :: g) := by
  cases bs with
  | nil => exact .inr ⟨32, g, rfl, .inl rfl⟩
  | cons b bs =>
    have := gap_sep hg (b ++ (jg g bs ++ 32 :: g))
    rw [jg, List.flatMap_cons, ← jg]
    simpa using this
theorem go_joinG {g : List UInt8} (hg : gapF g 0 = true) : ∀ (ps : List (List UInt8 × Piece)) (f : Nat) (t : List UInt8) (p : Nat) (q : Nat × Nat), (∀ x ∈ ps, Whole x.1 x.2) → t.drop p = jg g (ps.map (·.1)) ++ 32 :: g → ps.length < f → ∃ ts : List Tok, goF f t p q = ts.map Rd.tok ∧ ts.map key = ps.map fun x => (x.2.kind, x.2.text)
  | [], f, t, p, q, _, hd, hf => by
    obtain ⟨k, rfl⟩ : ∃ k, f = k + 1 := ⟨f - 1, by omega⟩
    have hd' : t.drop p = 32 :: g := hd
    have hle : t.length = p + (g.length + 1) := by have := congrArg List.length hd'; simp at this; omega
    have hb := gap_blk _ g (Nat.le_refl _) hg []
    rw [List.append_nil] at hb
    have hblk : blkF (t.drop p) = (g.length + 1, true) := by rw [hd', blkF_blank (by decide), hb]; simp [blkF_nil]
    exact ⟨[], go_end (n := g.length + 1) (by rw [hblk]) (by rw [hblk]) (by omega), rfl⟩
  | x :: ps, f, t, p, q, hW, hd, hf => by
    obtain ⟨k, rfl⟩ : ∃ k, f = k + 1 := ⟨f - 1, by omega⟩
    have hx := hW x (List.mem_cons_self ..)
    have hd' : t.drop p = (g ++ [32]) ++ (x.1 ++ (jg g (ps.map (·.1)) ++ 32 :: g)) := by
      rw [hd, List.map_cons, jg, List.flatMap_cons, ← jg]; simp
    have hl : ∀ y, Stopped y → blkF ((g ++ [32]) ++ y) = ((g ++ [32]).length, true) := fun y hy => by
      rw [List.append_assoc, gap_blk _ g (Nat.le_refl _) hg, show ([32] ++ y : List UInt8) = 32 :: y from rfl, blkF_blank (by decide), blkF_stopped hy]
      simp
    obtain ⟨z, u, hG⟩ := go_gap (f := k) (q := q) hl hd' hx (jg_sep hg _)
    have hd2 : t.drop (p + (g ++ [32]).length + x.1.length) = jg g (ps.map (·.1)) ++ 32 :: g := by
      rw [← List.drop_drop, ← List.drop_drop, hd', List.drop_left, List.drop_left]
    obtain ⟨ts, h1, h2⟩ := go_joinG hg ps k t _ u (fun y hy => hW y (List.mem_cons_of_mem _ hy)) hd2 (by simp at hf; omega)
    exact ⟨_ :: ts, by rw [hG, h1]; rfl, by rw [List.map_cons, h2]; rfl⟩
theorem jg_len (g : List UInt8) (bs : List (List UInt8)) : (jg g bs).length = bs.length * (g.length + 1) + (bs.map List.length).sum := by
  induction bs with
  | nil => simp [jg]
  | cons b bs ih =>
    have : jg g (b :: bs) = (g ++ 32 :: b) ++ jg g bs := rfl
    rw [this, List.length_append, ih]
    simp [Nat.succ_mul]; omega
/-- With gaps put ahead of each token and behind the last one, the same tokens come. -/
theorem gaps_back {l g : List UInt8} {ts : List Tok} (hr : rounds l = ts.map Rd.tok) (hg : gapF g 0 = true) (hl : l.length + (ts.length + 1) * (g.length + 1) ≤ 1048576) :
    ∃ us : List Tok, rounds (jg g (ts.map fun t => (l.drop t.at').take (t.fin - t.at')) ++ 32 :: g) = us.map Rd.tok ∧ (us.map toG).map bareG = (ts.map toG).map bareG ∧ us.length = ts.length ∧ (jg g (ts.map fun t => (l.drop t.at').take (t.fin - t.at')) ++ 32 :: g).length ≤ 1048576 := by
  have h := hr
  unfold rounds at h
  have hl0 : l.length ≤ 1048576 := by omega
  rw [if_neg (by omega)] at h
  obtain ⟨g1, g2, g3⟩ := go_places _ _ _ _ _ h
  have hlen : (jg g (ts.map fun t => (l.drop t.at').take (t.fin - t.at')) ++ 32 :: g).length ≤ 1048576 := by
    rw [List.length_append, jg_len, List.map_map, List.length_map, List.length_cons]
    have e : ts.map (List.length ∘ fun t => (l.drop t.at').take (t.fin - t.at')) = ts.map fun t => t.fin - t.at' := by
      apply List.map_congr_left
      intro t ht
      obtain ⟨_, h2, h3, _⟩ := g1 t ht
      simp only [Function.comp, List.length_take, List.length_drop]
      omega
    rw [e]
    rw [Nat.succ_mul] at hl
    omega
  have hps : ∃ ps : List (List UInt8 × Piece), ps.map (·.1) = (ts.map fun t => (l.drop t.at').take (t.fin - t.at')) ∧ (∀ x ∈ ps, Whole x.1 x.2) ∧ (ps.map fun x => (x.2.kind, x.2.text)) = ts.map key := by
    have g1' : ∀ t ∈ ts, ∃ C, Whole ((l.drop t.at').take (t.fin - t.at')) C ∧ C.kind = t.kind ∧ C.text = t.text := fun t ht => by
      obtain ⟨_, _, _, C, a, b, c, _⟩ := g1 t ht
      exact ⟨C, a, b, c⟩
    clear h hr hl g1 g2 g3 hlen
    induction ts with
    | nil => exact ⟨[], rfl, fun x hx => (by cases hx), rfl⟩
    | cons t ts ih =>
      obtain ⟨ps, p1, p2, p3⟩ := ih (fun x hx => g1' x (List.mem_cons_of_mem _ hx))
      obtain ⟨C, c1, c2, c3⟩ := g1' t (List.mem_cons_self ..)
      refine ⟨(_, C) :: ps, by rw [List.map_cons, p1]; rfl, fun x hx => ?_, ?_⟩
      · rcases List.mem_cons.1 hx with rfl | hx
        · exact c1
        · exact p2 x hx
      · rw [List.map_cons, p3, List.map_cons, key, c2, c3]
  obtain ⟨ps, p1, p2, p3⟩ := hps
  have hpl : ps.length = ts.length := by have := congrArg List.length p1; simpa using this
  rw [← p1] at hlen
  have hfl : ps.length < (jg g (ps.map (·.1)) ++ 32 :: g).length + 1 := by
    rw [List.length_append, jg_len, List.length_map, Nat.mul_add]; omega
  obtain ⟨us, u1, u2⟩ := go_joinG hg ps _ (jg g (ps.map (·.1)) ++ 32 :: g) 0 (1, 1) p2 rfl hfl
  rw [p3] at u2
  refine ⟨us, ?_, ?_, ?_, by rw [← p1]; exact hlen⟩
  · rw [← p1]
    unfold rounds
    rw [if_neg (by omega)]
    exact u1
  · refine bare_eq (u2.trans ?_) (fun x hx => ?_)
    · rw [List.map_map]
      apply List.map_congr_left
      intro t ht
      simp [key, toG]
    · obtain ⟨t, _, rfl⟩ := List.mem_map.1 hx
      simp [toG]
  · have := congrArg List.length u2
    simpa using this
/-- Each token lies at the place that is told of its first byte. -/
theorem go_spots : ∀ (f : Nat) (l : List UInt8) (p : Nat) (q : Nat × Nat) (ts : List Tok), q = spotF (1, 1) (l.take p) → goF f l p q = ts.map Rd.tok → ∀ t ∈ ts, (t.line, t.col) = spotF (1, 1) (l.take t.at')
  | 0, l, p, q, ts, _, h => by
    have : ts = [] := by
      have h' : ([] : List Rd) = ts.map Rd.tok := h
      cases ts with
      | nil => rfl
      | cons a b => simp at h'
    subst this
    exact fun t ht => (by cases ht)
  | f + 1, l, p, q, ts, hq, h => by
    obtain ⟨n, hn⟩ : ∃ n, (blkF (l.drop p)).1 = n := ⟨_, rfl⟩
    by_cases hcl : (blkF (l.drop p)).2 = true
    · by_cases hm : l.length ≤ p + n
      · rw [go_end hn hcl hm] at h
        cases ts with
        | nil => exact fun t ht => (by cases ht)
        | cons a b => simp at h
      · obtain ⟨C, hC⟩ : ∃ C, cutF (l.drop (p + n)) = C := ⟨_, rfl⟩
        by_cases hw : C.wrong = 0
        · have sp : ∀ a k, spotF (spotF (1, 1) (l.take a)) ((l.drop a).take k) = spotF (1, 1) (l.take (a + k)) := fun a k => by
            rw [← spot_app, List.take_add]
          rw [go_tok (n := n) (m := p + n) hn hcl rfl (by omega) rfl hC rfl hw, hq, sp, sp] at h
          cases ts with
          | nil => simp at h
          | cons t ts =>
            simp only [List.map_cons, List.cons.injEq, Rd.tok.injEq] at h
            obtain ⟨rfl, h2⟩ := h
            have ih := go_spots f l _ _ ts rfl h2
            intro t ht
            rcases List.mem_cons.1 ht with rfl | ht
            · rfl
            · exact ih t ht
        · rw [go_wrong (n := n) (m := p + n) hn hcl rfl (by omega) rfl hC rfl hw] at h
          cases ts with
          | nil => simp at h
          | cons t ts => simp at h
    · rw [go_com hn (by simpa using hcl) rfl] at h
      cases ts with
      | nil => simp at h
      | cons t ts => simp at h
theorem spots {l : List UInt8} {ts : List Tok} (hr : rounds l = ts.map Rd.tok) : ∀ t ∈ ts, (t.line, t.col) = spotF (1, 1) (l.take t.at') := by
  intro t ht
  have hl : l.length ≤ 1048576 := by
    by_cases hb : 1048576 < l.length
    · rw [show rounds l = [.long] from if_pos hb] at hr
      cases ts with
      | nil => cases ht
      | cons a b => simp at hr
    · omega
  unfold rounds at hr
  rw [if_neg (by omega)] at hr
  exact go_spots _ l 0 (1, 1) ts rfl hr t ht
end Go.Proofs.Ytbelajboalikcaa.Gp
