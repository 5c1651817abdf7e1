/- RelRound: round or in order: the mathematics, Parts, Restrict, forward and the law. -/
import Derived.Test.YtkccckjiemijeabDoorN6
import Derived.Deep.LoopGhost
namespace Go.Proofs.YtkccckjiemijeabDoor
open Go.RowKit Go.Shelf M P
set_option linter.unusedSimpArgs false
set_option linter.unusedVariables false

/-! A relation has a round just where its closure leads back: plain mathematics over rings, ways and closures. -/

/-- G is F the other way about. -/
def Inv (R G : Nat → Nat) : Prop := ∀ c b, c < 64 → b < 64 → ((G c).testBit b = true ↔ (R b).testBit c = true)

/-- What a round is: each of its steps a pair, no number twice. -/
structure RoundAt (R : Nat → Nat) (o : List Nat) : Prop where
  pos : 1 ≤ o.length
  lt : ∀ i, i < o.length → o.getD i 0 < 64
  step : ∀ i, i < o.length → (R (o.getD i 0)).testBit (o.getD ((i + 1) % o.length) 0) = true
  apart : ∀ i j, i < j → j < o.length → o.getD i 0 ≠ o.getD j 0

theorem two_pow_bit {a b : Nat} : (2 ^ a).testBit b = true ↔ b = a := by
  rw [Nat.testBit_two_pow]; simp; exact eq_comm

theorem way_round {R G : Nat → Nat} (hG : Wf G) (hinv : Inv R G) {a : Nat} (ha : a < 64) {l o : List Nat} (hr : ringsF R G a 65 0 (2 ^ a) [] = some l) (hw : WayAt R a l o) (hl : o.length = l.length) : RoundAt R o := by
  obtain ⟨hat, hne, hlast⟩ := rings_start R G hG a ha l hr
  have hpos := hw.pos
  have hin : ∀ i, i < o.length → (l.getD (if i = 0 then 0 else l.length - i) 0).testBit (o.getD i 0) = true := by
    intro i hi
    by_cases h0 : i = 0
    · subst h0; rw [if_pos rfl, hat.first, hw.first]; exact two_pow_bit.2 rfl
    · rw [if_neg h0]
      have := (hw.bit (i - 1) (by omega)).2
      rw [show i - 1 + 1 = i by omega] at this
      exact this
  refine ⟨hpos, hw.lt, fun i hi => ?_, fun i j hij hj e => ?_⟩
  · by_cases hlt : i + 1 < o.length
    · rw [Nat.mod_eq_of_lt hlt]; exact (hw.bit i hlt).1
    · have hie : i = o.length - 1 := by omega
      have hmod : (i + 1) % o.length = 0 := by rw [show i + 1 = o.length by omega]; exact Nat.mod_self _
      rw [hmod, hw.first]
      by_cases h1 : o.length = 1
      · have hi0 : i = 0 := by omega
        subst hi0
        rw [hw.first]
        have hl1 : l.length = 1 := by omega
        rw [hl1, show 1 - 1 = 0 from rfl, hat.first] at hlast
        refine Classical.byContradiction fun h => hlast ?_
        apply Nat.eq_of_testBit_eq
        intro k
        rw [Nat.testBit_and, Nat.zero_testBit]
        by_cases hk : k = a
        · subst hk; simp only [Bool.not_eq_true] at h; rw [h]; rfl
        · have : (2 ^ a).testBit k = false := by
            cases e : (2 ^ a).testBit k with
            | false => rfl
            | true => exact absurd (two_pow_bit.1 e) hk
          rw [this, Bool.and_false]
      · have h2 := hin i hi
        rw [if_neg (by omega), show l.length - i = 0 + 1 by omega] at h2
        obtain ⟨c, hc, hcr, hcg⟩ := hat.step 0 (by omega) _ (hw.lt i hi) h2
        rw [hat.first] at hcr
        obtain rfl := two_pow_bit.1 hcr
        exact (hinv c (o.getD i 0) hc (hw.lt i hi)).1 hcg
  · have h1 := hin i (by omega)
    have h2 := hin j hj
    rw [e] at h1
    rw [if_neg (by omega)] at h2
    by_cases h0 : i = 0
    · rw [if_pos h0] at h1
      have := hat.apart 0 (l.length - j) (by omega) (by omega) _ (hw.lt j hj) h1
      rw [h2] at this; cases this
    · rw [if_neg h0] at h1
      have := hat.apart (l.length - j) (l.length - i) (by omega) (by omega) _ (hw.lt j hj) h2
      rw [h1] at this; cases this

theorem bestA_some {rg : Nat → Option (List Nat)} : ∀ {N : Nat} {p : Nat × List Nat}, bestA rg N = some p → p.1 < N ∧ rg p.1 = some p.2
  | 0, p, h => by cases h
  | k + 1, p, h => by
      unfold bestA at h
      cases hb : bestA rg k with
      | none =>
          cases hk : rg k with
          | none => rw [hb, hk] at h; cases h
          | some l =>
              rw [hb, hk] at h
              obtain rfl := Option.some.inj h
              exact ⟨Nat.lt_succ_self k, hk⟩
      | some q =>
          have ih := bestA_some hb
          cases hk : rg k with
          | none =>
              rw [hb, hk] at h
              obtain rfl := Option.some.inj h
              exact ⟨by omega, ih.2⟩
          | some l =>
              rw [hb, hk] at h
              dsimp only at h
              by_cases hc : l.length < q.2.length
              · rw [if_pos hc] at h
                obtain rfl := Option.some.inj h
                exact ⟨Nat.lt_succ_self k, hk⟩
              · rw [if_neg hc] at h
                obtain rfl := Option.some.inj h
                exact ⟨by omega, ih.2⟩
theorem bestA_none {rg : Nat → Option (List Nat)} : ∀ {N : Nat}, bestA rg N = none → ∀ a, a < N → rg a = none
  | 0, _, a, ha => by omega
  | k + 1, h, a, ha => by
      unfold bestA at h
      cases hb : bestA rg k with
      | none =>
          cases hk : rg k with
          | none =>
              by_cases e : a = k
              · rw [e]; exact hk
              · exact bestA_none hb a (by omega)
          | some l => rw [hb, hk] at h; cases h
      | some q =>
          cases hk : rg k with
          | none => rw [hb, hk] at h; cases h
          | some l =>
              rw [hb, hk] at h
              dsimp only at h
              split at h <;> cases h

/-- Where no ring is stepped into, what has been seen is closed: all that lead to it are in it. -/
theorem rings_none {R G : Nat → Nat} (hG : Wf G) {a : Nat} : ∀ (k seen ring : Nat) (home : List Nat), seen < 18446744073709551616 → ring < 18446744073709551616 →
    65 ≤ (lst seen).length + k → (∀ i, i < 64 → ring.testBit i = true → seen.testBit i = false) →
    (∀ c b, c < 64 → b < 64 → seen.testBit c = true → (G c).testBit b = true → (seen ||| ring).testBit b = true) → (seen ||| ring).testBit a = true → R a &&& seen = 0 →
    ringsF R G a k seen ring home = none → ∃ S, S.testBit a = true ∧ R a &&& S = 0 ∧ ∀ c b, c < 64 → b < 64 → S.testBit c = true → (G c).testBit b = true → S.testBit b = true
  | 0, seen, ring, home, hs, hr, hk, hd, hcl, ha, hR, h => by have := lst_len_le seen; omega
  | k + 1, seen, ring, home, hs, hr, hk, hd, hcl, ha, hR, h => by
      unfold ringsF at h
      by_cases h0 : ring = 0
      · subst h0
        rw [Nat.or_zero] at ha hcl
        exact ⟨seen, ha, hR, hcl⟩
      · rw [if_neg h0] at h
        by_cases h1 : R a &&& ring ≠ 0
        · rw [if_pos h1] at h; cases h
        · rw [if_neg h1] at h
          have h1' : R a &&& ring = 0 := Classical.byContradiction h1
          have hsr : seen ||| ring < 18446744073709551616 := by
            have : seen ||| ring < 2 ^ 64 := Nat.or_lt_two_pow hs hr
            exact this
          have hor := orF_lt hG (lst ring)
          have hlen := lst_more hr h0 hd
          refine rings_none hG k (seen ||| ring) (notN (orF G (lst ring)) (seen ||| ring)) (home ++ [ring]) hsr (Nat.lt_of_le_of_lt Nat.and_le_left hor) (by omega) (fun i hi h => not_apart hsr i hi h) ?_ ?_ ?_ h
          · intro c b hc hb hsc hgc
            rw [Nat.testBit_or, Bool.or_eq_true]
            by_cases hb' : (seen ||| ring).testBit b = true
            · exact Or.inl hb'
            · right
              rw [Nat.testBit_or, Bool.or_eq_true] at hsc
              rcases hsc with hsc | hsc
              · exact absurd (hcl c b hc hb hsc hgc) hb'
              · unfold notN
                rw [Nat.testBit_and, Bool.and_eq_true]
                refine ⟨(orF_bit G (lst ring) b).2 ⟨c, mem_lst.2 ⟨hc, hsc⟩, hgc⟩, ?_⟩
                have hsr' : seen ||| ring < 2 ^ 64 := hsr
                have e : (18446744073709551615 : Nat) - (seen ||| ring) = 2 ^ 64 - ((seen ||| ring) + 1) := by omega
                rw [e, Nat.testBit_two_pow_sub_succ hsr']
                simp only [Bool.not_eq_true] at hb'
                rw [hb']; simp [hb]
          · rw [Nat.testBit_or, Bool.or_eq_true]; exact Or.inl ha
          · rw [Nat.and_or_distrib_left, hR, h1']; rfl

theorem rings_none_start {R G : Nat → Nat} (hG : Wf G) {a : Nat} (ha : a < 64) (h : ringsF R G a 65 0 (2 ^ a) [] = none) :
    ∃ S, S.testBit a = true ∧ R a &&& S = 0 ∧ ∀ c b, c < 64 → b < 64 → S.testBit c = true → (G c).testBit b = true → S.testBit b = true := by
  refine rings_none hG 65 0 (2 ^ a) [] (by decide) ?_ (by omega) (fun i _ _ => Nat.zero_testBit i) (fun c b _ _ h => by rw [Nat.zero_testBit] at h; cases h) ?_ (Nat.and_zero _) h
  · exact Nat.lt_of_lt_of_le (Nat.pow_lt_pow_right (by omega) ha) (by decide)
  · rw [Nat.zero_or]; exact two_pow_bit.2 rfl

/-- Where a has no rings nothing leads back to it. -/
theorem no_way_back {N : Nat} {R G : Nat → Nat} (hN : N ≤ 64) (hin : In N R) (hG : Wf G) (hinv : Inv R G) {a : Nat} (ha : a < 64) (h : ringsF R G a 65 0 (2 ^ a) [] = none) : ¬ Bt (wsh R N) a a := by
  obtain ⟨S, hSa, hRS, hcl⟩ := rings_none_start hG ha h
  intro hb
  -- what leads into S steps into S
  have hc := wsh_clo hN hin
  have key : ∀ x y, x < 64 → Bt (wsh R N) x y → (S.testBit y = true → ∃ z, z < 64 ∧ (R x).testBit z = true ∧ S.testBit z = true) ∧ (S.testBit y = true → S.testBit x = true) := by
    intro x y hx hxy
    have := hc.least (fun x y => x < 64 ∧ y < 64 ∧ ((S.testBit y = true → ∃ z, z < 64 ∧ (R x).testBit z = true ∧ S.testBit z = true) ∧ (S.testBit y = true → S.testBit x = true)))
      (fun x y hx hy hxy => ⟨hx, hy, fun hy' => ⟨y, hy, hxy, hy'⟩, fun hy' => hcl y x hy hx hy' ((hinv y x hy hx).2 hxy)⟩)
      (fun x y z ⟨h1, h2, h3, h4⟩ ⟨h5, h6, h7, h8⟩ => ⟨h1, h6, fun hz => h3 (h8 hz), fun hz => h4 (h8 hz)⟩) x y hx hxy
    exact this.2.2
  obtain ⟨z, hz, hrz, hsz⟩ := (key a a ha hb).1 hSa
  have : (R a &&& S).testBit z = true := by rw [Nat.testBit_and, hrz, hsz]; rfl
  rw [hRS, Nat.zero_testBit] at this
  cases this

/-- A round leads back. -/
theorem round_back {N : Nat} {R : Nat → Nat} (hN : N ≤ 64) (hin : In N R) {o : List Nat} (h : RoundAt R o) : Bt (wsh R N) (o.getD 0 0) (o.getD 0 0) := by
  have hc := wsh_clo hN hin
  have h0 := h.lt 0 h.pos
  have key : ∀ i, i < o.length → Bt (wsh R N) (o.getD 0 0) (o.getD ((i + 1) % o.length) 0) := by
    intro i
    induction i with
    | zero => intro hi; exact hc.has _ _ h0 (h.step 0 hi)
    | succ i ih =>
        intro hi
        have h1 := ih (by omega)
        rw [Nat.mod_eq_of_lt hi] at h1
        exact hc.trans _ _ _ h0 (h.lt (i + 1) hi) h1 (hc.has _ _ (h.lt (i + 1) hi) (h.step (i + 1) hi))
  have hp := h.pos
  have := key (o.length - 1) (by omega)
  rw [show o.length - 1 + 1 = o.length by omega, Nat.mod_self] at this
  exact this

/-! Parts: the sets of numbers that lead to one another. -/

/-- Those that lead to one another, themselves among them. -/
def bothF (N : Nat) (F : Nat → Nat) : Nat → Nat := opF andN (opF orN (wsh F N) (idF N)) (tuF (edgesL N (opF orN (wsh F N) (idF N))))
theorem bothF_bit {N : Nat} {F : Nat → Nat} (hN : N ≤ 64) (hF : Right N F) {a b : Nat} (ha : a < N) (hb : b < 64) :
    (bothF N F a).testBit b = true ↔ (Bt (wsh F N) a b ∨ a = b) ∧ (Bt (wsh F N) b a ∨ a = b) ∧ b < N := by
  have hS : ∀ x y, (opF orN (wsh F N) (idF N) x).testBit y = true ↔ Bt (wsh F N) x y ∨ (x = y ∧ x < N) := fun x y => by
    unfold opF orN Bt
    rw [Nat.testBit_or, Bool.or_eq_true, idF_bit N x y hN]
  unfold bothF
  show (andN (opF orN (wsh F N) (idF N) a) _).testBit b = true ↔ _
  unfold andN
  rw [Nat.testBit_and, Bool.and_eq_true, hS, tuF_bit, decide_eq_true_eq, mem_edges, hS]
  constructor
  · rintro ⟨h1, h2, h3, h4⟩
    refine ⟨h1.elim Or.inl (fun h => Or.inr h.1), h4.elim Or.inl (fun h => Or.inr h.1.symm), h2⟩
  · rintro ⟨h1, h2, h3⟩
    refine ⟨h1.elim Or.inl (fun h => Or.inr ⟨h, ha⟩), h3, by omega, h2.elim Or.inl (fun h => Or.inr ⟨h.symm, h3⟩)⟩
theorem bothF_right {N : Nat} {F : Nat → Nat} (hN : N ≤ 64) (hF : Right N F) : Right N (bothF N F) := right_and (right_or (right_wsh hN hF N (Nat.le_refl _)) (right_id N hN))

/-- The parts that begin below k. -/
def ptn (B : Nat → Nat) (k : Nat) : List Nat := ((List.range k).filter fun a => decide (Lib.ctz 64 (B a) = a)).map B
theorem ptn_yes {B : Nat → Nat} {k : Nat} (h : Lib.ctz 64 (B k) = k) : ptn B (k + 1) = ptn B k ++ [B k] := by
  unfold ptn; rw [List.range_succ, List.filter_append]; simp [h]
theorem ptn_no {B : Nat → Nat} {k : Nat} (h : ¬ Lib.ctz 64 (B k) = k) : ptn B (k + 1) = ptn B k := by
  unfold ptn; rw [List.range_succ, List.filter_append]; simp [h]
theorem ptn_len (B : Nat → Nat) (k : Nat) : (ptn B k).length ≤ k := by
  unfold ptn; rw [List.length_map]
  exact Nat.le_trans (List.length_filter_le _ _) (by simp)

theorem info31 : (Tryd.prog.info? 31).map (fun i => (i.zero, i.size, i.bytes)) = some (some (.int .u64 0), 1, 8) := by kernel_rfl
theorem own31_cells {W : World} {base n D : Nat} {v : Value} {xs : List Value} (h : W.ownsRow base 31 1 v n xs) (e : v.ownBlock = some D) : ∃ cur fz, W.heap[D]? = some (.cells cur 31 fz) := by
  rcases h.2 with ⟨rfl, _⟩ | ⟨g, cap, cur, rfl, _, hh, _⟩
  · cases e
  · cases e
    exact ⟨_, _, hh⟩
theorem isR_append31 {W W' : World} {base k b : Nat} {v : Value} {xs : List Value} {n : Int} {f : Nat → Nat} (own : W.ownsRow base 31 1 v k xs) (g : W.grownBy W' v.ownBlock) (r : IsR W b n f) : IsR W' b n f := by
  refine (g.block b r.lt (fun e => ?_)).trans r
  obtain ⟨cur, fz, hc⟩ := own31_cells own e.symm
  rw [show W.heap[b]? = _ from r] at hc
  cases hc

set_option maxRecDepth 100000 in
set_option maxHeartbeats 2000000 in
theorem parts_any {N : Nat} {F : Nat → Nat} (hN : N ≤ 64) (hF : Right N F) (w : World) (hT : TabAt w) :
    Calls Tryd.prog 30 #[relv N F] w fun e w' => Below w.heap.size w w' ∧ ∃ v, e = .returned v ∧ w'.ownsRow w.heap.size 31 1 v (ptn (bothF N F) N).length (encU (ptn (bothF N F) N)) := by
  have hSr : Right N (opF orN (wsh F N) (idF N)) := right_or (right_wsh hN hF N (Nat.le_refl _)) (right_id N hN)
  have a24 : AnsV 24 #[relv N F] (relv N (opF orN (wsh F N) (idF N))) := star_R hN hF
  have a19 : AnsV 19 #[relv N (opF orN (wsh F N) (idF N))] (relv N (tuF (edgesL N (opF orN (wsh F N) (idF N))))) := inv_R hN hSr
  have a14 : AnsV 14 #[relv N (opF orN (wsh F N) (idF N)), relv N (tuF (edgesL N (opF orN (wsh F N) (idF N))))] (relv N (bothF N F)) := meet_R hN hSr (right_tu hN hSr)
  have hBr := bothF_right hN hF
  have hB0 : Hid (∀ a, a < N → bothF N F a ≠ 0) := fun a ha e => by
    have := (bothF_bit hN hF ha (show a < 64 by omega)).2 ⟨Or.inr rfl, Or.inr rfl, ha⟩
    rw [e, Nat.zero_testBit] at this; cases this
  generalize bothF N F = B at *
  generalize tuF (edgesL N (opF orN (wsh F N) (idF N))) = G at *
  generalize opF orN (wsh F N) (idF N) = S at *
  obtain ⟨i0, hi, hz0, hz1, hz2⟩ := info_parts info31
  have HW : Hid (Wf B) := hBr.wf
  have H24 : Hid (AnsV 24 #[relv N F] (relv N S)) := a24
  clear hBr hSr a24
  go_enter Tryd.func30, Tryd.ntmps30
  go_wp2_with (first
    | (refine wpList_boxR rfl _ rfl rfl ?_; intro W1 b1 F1 r1; have B1 := Fresh.trans (Below.refl _ w) (Nat.le_refl _) F1; clear F1)
    | (refine wpList_loadR rfl _ rfl rfl r1 ?_)
    | (go_at_call 24; refine (H24.out _ (hT.below B1)).mono ?_; rintro e w' ⟨rfl, hw'⟩; replace r1 := r1.grown hw'; replace B1 := B1.trans (hw'.mono B1.size); clear hw')
    | (refine wpList_allocR rfl rfl ?_; intro W3 b3 F3 r3; have hb3 : w.heap.size ≤ b3 := (by rw [F3.at']; exact B1.size); replace B1 := Fresh.trans B1 B1.size F3; clear F3)
    | (refine wpList_storeR rfl _ _ rfl rfl rfl r3 ?_; intro w5 U4 q3; replace B1 := U4.trans B1 hb3; clear U4 r3; have r3 := q3; clear q3))
  have tW := hT.below B1
  refine grow_make 4 _ (MadeR w5) (by kernel_rfl) (by kernel_rfl) rfl rfl (madeR_grown w5) (madeR_make rfl w5) ?_
  simp only [List.take_succ_cons, List.take_zero, List.drop_succ_cons, List.drop_zero]
  refine wpG_loadR rfl _ rfl rfl r3 ?_
  refine wpG_loadR rfl _ rfl rfl r3 ?_
  try simp only [Act.put, List.setIfInBounds_toArray, List.set_cons_succ, List.set_cons_zero]
  refine wpG_call tW rfl a19 (fun w => by first | rfl | (go_simp; done)) ?_
  refine wpG_call tW rfl a14 (fun w => by first | rfl | (go_simp; done)) ?_
  refine wpG_nil ?_
  rintro v W6 ⟨hW6, b7, rfl, hb7, r7⟩
  try simp only [Act.put, List.setIfInBounds_toArray, List.set_cons_succ, List.set_cons_zero]
  have hb7' : w.heap.size ≤ b7 := by have := B1.size; omega
  replace B1 := B1.trans (hW6.mono B1.size)
  clear hW6 tW hb7 a19 a14 r3 hb3
  refine wpList_storeR rfl _ _ rfl rfl rfl r7 ?_
  intro W7 U7 q7
  replace B1 := U7.trans B1 hb7'
  clear U7 r7
  have r7 := q7
  clear q7
  have cn7 := r7.n
  go_wp2
  go_loopg [5, 15] N (fun g h c wr => ∃ k : Nat, g + k = N ∧ c = .int .i64 (k : Nat) ∧ wr.ownsRow w.heap.size 31 1 h (ptn B k).length (encU (ptn B k)) ∧ IsR wr b7 N B ∧ Below w.heap.size w wr)
  case atStart => exact ⟨0, by simp, rfl, World.ownsRow_nil _ _ _ _, r7, B1⟩
  case round =>
    clear r7 B1 cn7
    obtain ⟨k, hgk, rfl, own, r7, BB⟩ := hrel
    have hBs := BB.size
    by_cases hk : k < N
    · have hki : (k : Int) < (N : Int) := by omega
      have hk64 : (k : Int) < 64 := by omega
      have hrow := r7.row k (by omega)
      have hl := fun W hT' => lowest_any (B k) W (HW.out k) (hB0.out k hk) hT'
      have hpl := ptn_len B k
      obtain ⟨g, rfl⟩ : ∃ g, gk = g + 1 := ⟨gk - 1, by omega⟩
      by_cases hc : Lib.ctz 64 (B k) = k
      · have hci : ((Lib.ctz 64 (B k) : Nat) : Int) = (k : Int) := by omega
        have HP : Hid (ptn B (k + 1) = ptn B k ++ [B k]) := ptn_yes hc
        have own8 := own.alloc (.cells #[.int .u64 (B k : Nat)] 31)
        have hnews : Hid (∀ j u, ([.int .u64 (B k : Nat)] : List Value)[j]? = some u → (wr.alloc (.cells #[.int .u64 (B k : Nat)] 31)).cell? ((⟨wr.heap.size, 0, none⟩ : Addr).add j) = some u) := fun j u hj => by
          cases j with
          | zero => simp at hj; subst hj; exact (Boxed.new wr 31 _).cell
          | succ j => simp at hj
        obtain ⟨q, hq⟩ : ∃ q : Int, ((Lib.ctz 64 (B k) : Nat) : Int) = q := ⟨_, rfl⟩
        rw [hq] at hl
        have hqe : (q == (k : Int)) = true := by rw [← hq, hci]; simp
        clear hc hci hq
        go_wp2_with (first
          | (go_at_call 48; refine (hl _ (hT.below BB)).mono ?_; rintro e w' ⟨rfl, hw'⟩; replace hw' := hw'.symm; subst hw')
          | (at_builtin; refine wpList_append_own _ rfl _ _ 44 rfl w.heap.size 31 i0 (.int .u64 0) 1 8 Tryd.underlying44 hi hz0 hz1 hz2 rfl (by decide) _ (ptn B k).length (encU (ptn B k)) rfl own8 ⟨wr.heap.size, 0, none⟩ 1 1 [.int .u64 (B k : Nat)] rfl rfl hnews.out (by simp [Value.oneCell']) (by unfold maxLen; omega) (by omega) (by simp; omega) ?_; intro v1 wa own1 grow1 hif1; clear hif1; have r7' := isR_append31 own8 grow1 (r7.alloc _); have BC : Below w.heap.size w wa := (BB.alloc hBs _).grown grow1 (by simp; omega) (fun k hk => (own.lt k hk).1)))
        go_roundg g
        case measure => omega
        case rel => exact ⟨k + 1, by omega, by go_num, by rw [HP.out]; simpa [encU] using own1, r7', BC⟩
      · have HP : Hid (ptn B (k + 1) = ptn B k) := ptn_no hc
        obtain ⟨q, hq⟩ : ∃ q : Int, ((Lib.ctz 64 (B k) : Nat) : Int) = q := ⟨_, rfl⟩
        rw [hq] at hl
        have hqe : (q == (k : Int)) = false := by rw [← hq]; simp; omega
        clear hc hq
        go_wp2_with (first
          | (go_at_call 48; refine (hl _ (hT.below BB)).mono ?_; rintro e w' ⟨rfl, hw'⟩; replace hw' := hw'.symm; subst hw'))
        go_roundg g
        case measure => omega
        case rel => exact ⟨k + 1, by omega, by go_num, by rw [HP.out]; exact own, r7, BB⟩
    · have hki : ¬ (k : Int) < (N : Int) := by omega
      have hke : k = N := by omega
      subst hke
      go_wp2
      go_ret
      exact ⟨BB, u5, rfl, own⟩

/-! Round or in order, in plain mathematics: the parts are single numbers just where no way leads back; the least order goes forward; a round is there just where one leads back. -/

theorem in_of_right {N : Nat} {F : Nat → Nat} (hF : Right N F) : In N F := fun a b ha hb => right_le hF ha hb
theorem inv_tu {N : Nat} {F : Nat → Nat} (hF : Right N F) : Inv F (tuF (edgesL N F)) := fun c b hc hb => by
  rw [tuF_bit, decide_eq_true_eq, mem_edges]
  exact ⟨fun h => h.2.2, fun h => ⟨(right_le hF hb h).1, hc, h⟩⟩
theorem acyc_iff {N : Nat} {F : Nat → Nat} : acyc N F = true ↔ ∀ a, a < N → ¬ Bt (wsh F N) a a := by
  unfold acyc irr Bt
  rw [List.all_eq_true]
  constructor
  · intro h a ha hb
    have := h a (by simpa using ha)
    rw [hb] at this; simp at this
  · intro h a ha
    have := h a (by simpa using ha)
    simpa using this
theorem irr_iff {N : Nat} {F : Nat → Nat} : irr N F = true ↔ ∀ a, a < N → ¬ (F a).testBit a = true := by
  unfold irr
  rw [List.all_eq_true]
  constructor
  · intro h a ha hb
    have := h a (by simpa using ha)
    rw [hb] at this; simp at this
  · intro h a ha
    have := h a (by simpa using ha)
    simpa using this

theorem ptn_full {B : Nat → Nat} {N : Nat} : (ptn B N).length = N ↔ ∀ a, a < N → Lib.ctz 64 (B a) = a := by
  unfold ptn
  rw [List.length_map]
  constructor
  · intro h a ha
    have h2 : ((List.range N).filter fun a => decide (Lib.ctz 64 (B a) = a)).length = (List.range N).length := by rw [h]; simp
    have h3 := (List.length_filter_eq_length_iff.1 h2) a (by simpa using ha)
    simpa using h3
  · intro h
    rw [List.filter_eq_self.2 (fun a ha => by simpa using h a (by simpa using ha))]; simp

theorem parts_acyc {N : Nat} {F : Nat → Nat} (hN : N ≤ 64) (hF : Right N F) : acyc N F = (decide ((ptn (bothF N F) N).length = N) && irr N F) := by
  have hc := wsh_clo hN (in_of_right hF)
  have hBw := (bothF_right hN hF).wf
  rw [Bool.eq_iff_iff, Bool.and_eq_true, decide_eq_true_eq, ptn_full, irr_iff]
  constructor
  · intro h
    rw [acyc_iff] at h
    refine ⟨fun a ha => ?_, fun a ha hb => h a ha (hc.has a a (by omega) hb)⟩
    have hself := (bothF_bit hN hF ha (show a < 64 by omega)).2 ⟨Or.inr rfl, Or.inr rfl, ha⟩
    have hne : bothF N F a ≠ 0 := fun e => by rw [e, Nat.zero_testBit] at hself; cases hself
    obtain ⟨h1, h2, h3⟩ := ctz_bits hne (hBw a)
    obtain ⟨k1, k2, k3⟩ := (bothF_bit hN hF ha h1).1 h2
    rcases k1 with k1 | k1
    · rcases k2 with k2 | k2
      · exact absurd (hc.trans a _ a (by omega) h1 k1 k2) (h a ha)
      · exact k2.symm
    · exact k1.symm
  · rintro ⟨hp, hi⟩
    rw [acyc_iff]
    intro a ha hb
    -- the way back steps to another number first
    have key : ∀ x y, x < 64 → Bt (wsh F N) x y → ∃ z, z < N ∧ (F x).testBit z = true ∧ (z = y ∨ Bt (wsh F N) z y) := by
      intro x y hx hxy
      have := hc.least (fun x y => x < 64 ∧ y < 64 ∧ Bt (wsh F N) x y ∧ ∃ z, z < N ∧ (F x).testBit z = true ∧ (z = y ∨ Bt (wsh F N) z y))
        (fun x y hx hy hxy => ⟨hx, hy, hc.has x y hx hxy, y, (right_le hF hx hxy).2, hxy, Or.inl rfl⟩)
        (fun x y z ⟨h1, h2, h3, u, hu, hxu, huy⟩ ⟨h4, h5, h6, _⟩ => ⟨h1, h5, hc.trans x y z h1 h2 h3 h6, u, hu, hxu, Or.inr (by
          rcases huy with rfl | huy
          · exact h6
          · exact hc.trans u y z (by omega) h2 huy h6)⟩) x y hx hxy
      exact this.2.2.2
    obtain ⟨z, hz, haz, hza⟩ := key a a (by omega) hb
    have hne : z ≠ a := fun e => by subst e; exact hi z hz haz
    have hza' : Bt (wsh F N) z a := hza.resolve_left hne
    have haz' : Bt (wsh F N) a z := hc.has a z (by omega) haz
    have h1 := (bothF_bit hN hF ha (show z < 64 by omega)).2 ⟨Or.inl haz', Or.inl hza', hz⟩
    have h2 := (bothF_bit hN hF hz (show a < 64 by omega)).2 ⟨Or.inl hza', Or.inl haz', ha⟩
    rcases Nat.lt_or_ge z a with hlt | hge
    · have hp2 := hp a ha
      have hn : bothF N F a ≠ 0 := fun e => by rw [e, Nat.zero_testBit] at h1; cases h1
      have := (ctz_bits hn (hBw a)).2.2 z (by rw [hp2]; exact hlt)
      rw [h1] at this; cases this
    · have hp2 := hp z hz
      have hn : bothF N F z ≠ 0 := fun e => by rw [e, Nat.zero_testBit] at h2; cases h2
      have := (ctz_bits hn (hBw z)).2.2 a (by rw [hp2]; omega)
      rw [h2] at this; cases this

/-- Cycle finds one just where a way leads back. -/
theorem best_acyc {N : Nat} {F : Nat → Nat} (hN : N ≤ 64) (hF : Right N F) :
    (bestA (fun a => ringsF F (tuF (edgesL N F)) a 65 0 (2 ^ a) []) N).isSome = !acyc N F := by
  have hG : Wf (tuF (edgesL N F)) := (right_tu hN hF).wf
  cases hb : bestA (fun a => ringsF F (tuF (edgesL N F)) a 65 0 (2 ^ a) []) N with
  | none =>
      have h := bestA_none hb
      have : acyc N F = true := acyc_iff.2 fun a ha => no_way_back hN (in_of_right hF) hG (inv_tu hF) (by omega) (h a ha)
      rw [this]; rfl
  | some p =>
      obtain ⟨h1, h2⟩ := bestA_some hb
      have : acyc N F = false := by
        rw [Bool.eq_false_iff]
        intro h
        have h3 := acyc_iff.1 h p.1 h1
        refine h3 ?_
        -- the rings lead back
        obtain ⟨hat, hne, hlast⟩ := rings_start F _ hG p.1 (by omega) p.2 h2
        have hc := wsh_clo hN (in_of_right hF)
        have key : ∀ i, i < p.2.length → ∀ b, b < 64 → (p.2.getD i 0).testBit b = true → b = p.1 ∨ Bt (wsh F N) b p.1 := by
          intro i
          induction i with
          | zero => intro hi b hb' hbit; rw [hat.first] at hbit; exact Or.inl (two_pow_bit.1 hbit)
          | succ i ih =>
              intro hi b hb' hbit
              obtain ⟨c, hc', hcr, hcg⟩ := hat.step i hi b hb' hbit
              have hbc := hc.has b c hb' ((inv_tu hF c b hc' hb').1 hcg)
              rcases ih (by omega) c hc' hcr with rfl | h4
              · exact Or.inr hbc
              · exact Or.inr (hc.trans b c _ hb' hc' hbc h4)
        obtain ⟨b, hbb⟩ : ∃ b, (F p.1 &&& p.2.getD (p.2.length - 1) 0).testBit b = true := by
          refine Classical.byContradiction fun hno => hlast ?_
          apply Nat.eq_of_testBit_eq
          intro i
          rw [Nat.zero_testBit]
          cases e : (F p.1 &&& p.2.getD (p.2.length - 1) 0).testBit i with
          | false => rfl
          | true => exact absurd ⟨i, e⟩ hno
        rw [Nat.testBit_and, Bool.and_eq_true] at hbb
        have hlen : 1 ≤ p.2.length := by
          cases e : p.2 with
          | nil => exact absurd e hne
          | cons a t => simp
        have hb64 := (right_le hF (show p.1 < 64 by omega) hbb.1).2
        have hs := hc.has p.1 b (by omega) hbb.1
        rcases key (p.2.length - 1) (by omega) b (by omega) hbb.2 with rfl | h5
        · exact hs
        · exact hc.trans p.1 b p.1 (by omega) (by omega) hs h5
      rw [this]; rfl

/-- The order that is laid goes forward. -/
theorem grd_good {G : Nat → Nat} : ∀ (k s : Nat), s < 18446744073709551616 → (lst s).length = k → Goes G s →
    (grd G k s).length = k ∧ (∀ x ∈ grd G k s, x < 64 ∧ s.testBit x = true) ∧ ∀ i j, i < j → j < k → (grd G k s).getD i 0 ≠ (grd G k s).getD j 0 ∧ (G ((grd G k s).getD i 0)).testBit ((grd G k s).getD j 0) = false
  | 0, s, hs, hl, hg => ⟨rfl, fun x hx => by simp [grd] at hx, fun i j _ hj => by omega⟩
  | k + 1, s, hs, hl, hg => by
      have hs0 : s ≠ 0 := fun e => by rw [e, lst_zero] at hl; simp at hl
      obtain ⟨m, hm, hfm⟩ := hg.some hs hs0
      cases hf : (lst s).find? (frees G s) with
      | none => exact absurd hfm (by rw [List.find?_eq_none] at hf; exact hf m hm)
      | some a =>
          have ha := mem_lst.1 (List.mem_of_find?_eq_some hf)
          have hfr : frees G s a = true := List.find?_some hf
          have he : grd G (k + 1) s = a :: grd G k (clr s a) := by
            show (match (lst s).find? (frees G s) with
              | some a => a :: grd G k (clr s a)
              | none => []) = _
            rw [hf]
          have hcl := lst_clr_len s a hs ha.1 ha.2
          obtain ⟨h1, h2, h3⟩ := grd_good k (clr s a) (clr_lt s a hs) (by omega) (hg.clr hs a ha.1)
          have hin : ∀ x ∈ grd G k (clr s a), x < 64 ∧ s.testBit x = true ∧ x ≠ a := fun x hx => by
            obtain ⟨k1, k2⟩ := h2 x hx
            rw [clr_bit s a x hs ha.1, Bool.and_eq_true, decide_eq_true_eq] at k2
            exact ⟨k1, k2.1, k2.2⟩
          have hmem : ∀ j, j < k → (grd G k (clr s a)).getD j 0 ∈ grd G k (clr s a) := fun j hj => by
            rw [List.getD_eq_getElem?_getD, List.getElem?_eq_getElem (by rw [h1]; exact hj)]
            exact List.getElem_mem _
          rw [he]
          refine ⟨by simp [h1], fun x hx => ?_, fun i j hij hj => ?_⟩
          · rcases List.mem_cons.1 hx with rfl | hx
            · exact ha
            · exact ⟨(hin x hx).1, (hin x hx).2.1⟩
          · obtain ⟨j, rfl⟩ : ∃ j', j = j' + 1 := ⟨j - 1, by omega⟩
            rw [List.getD_cons_succ]
            have hj' := hin _ (hmem j (by omega))
            cases i with
            | zero =>
                rw [List.getD_cons_zero]
                refine ⟨fun e => hj'.2.2 e.symm, ?_⟩
                unfold frees at hfr
                rw [decide_eq_true_eq] at hfr
                have := congrArg (fun z => z.testBit ((grd G k (clr s a)).getD j 0)) hfr
                simp only [Nat.testBit_and, Nat.zero_testBit, hj'.2.1, Bool.and_true] at this
                exact this
            | succ i =>
                rw [List.getD_cons_succ]
                exact h3 i j (by omega) (by omega)

/-- What goes forward. -/
structure Fwd (N : Nat) (F : Nat → Nat) (o : List Nat) : Prop where
  len : o.length = N
  lt : ∀ i, i < N → o.getD i 0 < N
  apart : ∀ i j, i < j → j < N → o.getD i 0 ≠ o.getD j 0
  none : ∀ i j, i < j → j < N → (F (o.getD j 0)).testBit (o.getD i 0) = false
  self : ∀ i, i < N → (F (o.getD i 0)).testBit (o.getD i 0) = false
theorem ord_fwd {N : Nat} {F : Nat → Nat} (hN : N ≤ 64) (hF : Right N F) (h : acyc N F = true) : Fwd N F (ordL N F) := by
  have hb : bel (N : Int) < 18446744073709551616 := bel_lt _
  have hl : (lst (bel (N : Int))).length = N := by rw [lst_bel N hN]; simp
  obtain ⟨h1, h2, h3⟩ := grd_good N (bel (N : Int)) hb hl (goes_of hN hF h _)
  have hlt : ∀ i, i < N → (ordL N F).getD i 0 < N := fun i hi => by
    have hm : (ordL N F).getD i 0 ∈ ordL N F := by
      unfold ordL
      rw [List.getD_eq_getElem?_getD, List.getElem?_eq_getElem (by rw [h1]; exact hi)]
      exact List.getElem_mem _
    obtain ⟨k1, k2⟩ := h2 _ hm
    have : (ordL N F).getD i 0 ∈ lst (bel (N : Int)) := mem_lst.2 ⟨k1, k2⟩
    rw [lst_bel N hN] at this
    simpa using this
  refine ⟨h1, hlt, fun i j hij hj => (h3 i j hij hj).1, fun i j hij hj => ?_, fun i hi => ?_⟩
  · have := (h3 i j hij hj).2
    cases e : (F ((ordL N F).getD j 0)).testBit ((ordL N F).getD i 0) with
    | false => rfl
    | true =>
        have h5 := (inv_tu hF ((ordL N F).getD i 0) ((ordL N F).getD j 0) (by have := hlt i (by omega); omega) (by have := hlt j hj; omega)).2 e
        unfold ordL at h5
        rw [h5] at this; cases this
  · cases e : (F ((ordL N F).getD i 0)).testBit ((ordL N F).getD i 0) with
    | false => rfl
    | true => exact absurd (wsh_has F N _ _ e) (acyc_iff.1 h _ (hlt i hi))

/-! Restrict; the law's forward. -/

theorem crF_wf (s t N : Nat) : Wf (crF s t N N 0) := fun i => by
  unfold crF
  split
  · exact crRow_lt _ _ _ _
  · split
    · exact crRow_lt _ _ _ _
    · omega
theorem crF_bit {s t N j b : Nat} (h : (crF s t N N 0 j).testBit b = true) : j < N ∧ s.testBit j = true ∧ t.testBit b = true ∧ (bel (N : Int)).testBit b = true := by
  unfold crF at h
  by_cases h1 : j < N
  · rw [if_pos h1] at h
    unfold crRow at h
    by_cases h2 : s.testBit j = true
    · rw [if_pos h2, Nat.testBit_and, Bool.and_eq_true] at h; exact ⟨h1, h2, h⟩
    · rw [if_neg h2, Nat.zero_testBit] at h; cases h
  · rw [if_neg h1, crRow_zero] at h
    simp at h
theorem crF_right {s t N : Nat} (hN : N ≤ 64) : Right N (crF s t N N 0) := ⟨crF_wf s t N, fun a _ b hb h => by
  obtain ⟨h1, _, _, h4⟩ := crF_bit h
  refine ⟨h1, ?_⟩
  have : b ∈ lst (bel (N : Int)) := mem_lst.2 ⟨hb, h4⟩
  rw [lst_bel N hN] at this
  simpa using this⟩
theorem cross_R {N : Nat} (hN : N ≤ 64) (s t : Nat) (hs : s < 18446744073709551616) (ht : t < 18446744073709551616) : AnsV 56 #[.int .i64 (N : Int), .int .u64 (s : Nat), .int .u64 (t : Nat)] (relv N (crF s t N N 0)) := fun W hT => by
  have := cross_any (N : Int) s t W hs ht hT
  have e : crV (N : Int) s t = relv N (crF s t N N 0) := by unfold crV; rw [if_pos (by omega)]; rfl
  rwa [e] at this

set_option maxRecDepth 100000 in
set_option maxHeartbeats 1000000 in
theorem restrict_R {N : Nat} {F : Nat → Nat} (hN : N ≤ 64) (hF : Right N F) (s t : Nat) (hs : s < 18446744073709551616) (ht : t < 18446744073709551616) :
    AnsV 49 #[relv N F, .int .u64 (s : Nat), .int .u64 (t : Nat)] (relv N (opF andN F (crF s t N N 0))) := fun w hT => by
  have a56 := cross_R hN s t hs ht
  have a14 : AnsV 14 #[relv N F, relv N (crF s t N N 0)] (relv N (opF andN F (crF s t N N 0))) := meet_R hN hF (crF_right hN)
  generalize opF andN F (crF s t N N 0) = X at *
  generalize crF s t N N 0 = C at *
  go_enter Tryd.func49, Tryd.ntmps49
  go_wp2_with (first
    | (refine wpList_boxR rfl _ rfl rfl ?_; intro W1 b3 F1 r3; have B1 := Fresh.trans (Below.refl _ w) (Nat.le_refl _) F1; clear F1)
    | (refine wpList_allocR rfl rfl ?_; intro W2 b6 F2 r6; have hb6 : w.heap.size ≤ b6 := (by rw [F2.at']; exact B1.size); replace B1 := Fresh.trans B1 B1.size F2; replace r3 := r3.fresh F2; clear F2))
  have tW := hT.below B1
  refine grow_tail 7 (by kernel_rfl) (by kernel_rfl) ?_
  simp only [List.take_succ_cons, List.take_zero, List.drop_succ_cons, List.drop_zero]
  refine wpG_loadR rfl _ rfl rfl r3 ?_
  refine wpG_put rfl (v := .pointer (some ⟨b3, 0, none⟩)) (fun w => by go_simp; done) ?_
  try simp only [Act.put, List.setIfInBounds_toArray, List.set_cons_succ, List.set_cons_zero]
  refine wpG_loadN rfl _ rfl rfl r3 ?_
  refine wpG_put rfl (v := .int .u64 (s : Nat)) (fun w => by first | rfl | (go_simp; done)) ?_
  refine wpG_put rfl (v := .int .u64 (t : Nat)) (fun w => by first | rfl | (go_simp; done)) ?_
  try simp only [Act.put, List.setIfInBounds_toArray, List.set_cons_succ, List.set_cons_zero]
  refine wpG_call tW rfl a56 (fun w => by first | rfl | (go_simp; done)) ?_
  try simp only [Act.put, List.setIfInBounds_toArray, List.set_cons_succ, List.set_cons_zero]
  refine wpG_call tW rfl a14 (fun w => by first | rfl | (go_simp; done)) ?_
  try simp only [Act.put, List.setIfInBounds_toArray, List.set_cons_succ, List.set_cons_zero]
  refine wpG_nil ?_
  intro W3 hW3
  replace r6 := r6.grown hW3
  replace B1 := B1.trans (hW3.mono B1.size)
  refine wpList_storeR rfl _ _ rfl rfl rfl r6 ?_
  intro W4 U4 r7
  replace B1 := U4.trans B1 hb6
  go_wp2
  exact ret_R rfl rfl rfl r7 ⟨rfl, B1⟩

/-- The numbers that have come. -/
def snN (o : List Nat) : Nat → Nat
  | 0 => 0
  | k + 1 => snN o k ||| 2 ^ o.getD k 0
theorem snN_bit (o : List Nat) (x : Nat) : ∀ k, (snN o k).testBit x = true ↔ ∃ i, i < k ∧ o.getD i 0 = x
  | 0 => by simp [snN]
  | k + 1 => by
      rw [snN, Nat.testBit_or, Bool.or_eq_true, snN_bit o x k, two_pow_bit]
      constructor
      · rintro (⟨i, h1, h2⟩ | h)
        · exact ⟨i, by omega, h2⟩
        · exact ⟨k, by omega, h.symm⟩
      · rintro ⟨i, h1, h2⟩
        by_cases e : i = k
        · subst e; exact Or.inr h2.symm
        · exact Or.inl ⟨i, by omega, h2⟩
theorem snN_lt {o : List Nat} {k : Nat} (h : ∀ i, i < k → o.getD i 0 < 64) : snN o k < 18446744073709551616 := by
  induction k with
  | zero => exact (by decide : (0 : Nat) < 18446744073709551616)
  | succ k ih =>
      have h2 : 2 ^ o.getD k 0 < 2 ^ 64 := Nat.pow_lt_pow_right (by omega) (h k (by omega))
      exact Nat.or_lt_two_pow (n := 64) (ih fun i hi => h i (by omega)) h2
theorem rng_zero {X : Nat → Nat} (h : ∀ i, i < 64 → X i = 0) : ∀ k, k ≤ 64 → rng X k = 0
  | 0, _ => rfl
  | k + 1, hk => by rw [rng, rng_zero h k (by omega), h k (by omega)]; rfl
/-- Nothing that has come is stepped into. -/
theorem fwd_range {N : Nat} {F : Nat → Nat} (hN : N ≤ 64) (hF : Right N F) {o : List Nat} (h : Fwd N F o) {k : Nat} (hk : k < N) : rng (opF andN F (crF (2 ^ o.getD k 0) (snN o k) N N 0)) 64 = 0 := by
  refine rng_zero (fun i hi => ?_) 64 (Nat.le_refl _)
  apply Nat.eq_of_testBit_eq
  intro b
  rw [Nat.zero_testBit]
  unfold opF andN
  rw [Nat.testBit_and]
  cases h1 : (F i).testBit b with
  | false => rfl
  | true =>
      cases h2 : (crF (2 ^ o.getD k 0) (snN o k) N N 0 i).testBit b with
      | false => rfl
      | true =>
          obtain ⟨_, h3, h4, _⟩ := crF_bit h2
          obtain rfl := two_pow_bit.1 h3
          obtain ⟨j, hj, rfl⟩ := (snN_bit o b k).1 h4
          rw [h.none j k hj hk] at h1; cases h1

theorem shr_zero {s a : Nat} (hs : s < 18446744073709551616) (h : s.testBit a = false) : bits .and .u64 (((s / 2 ^ a : Nat) : Int)) 1 = 0 := by
  have hlt : s / 2 ^ a < 18446744073709551616 := Nat.lt_of_le_of_lt (Nat.div_le_self _ _) hs
  have := u64_and_nat (s / 2 ^ a) 1 hlt (by decide)
  rw [show ((1 : Nat) : Int) = 1 from rfl] at this
  rw [this, Nat.and_one_is_mod]
  have h2 : s.testBit a = decide (s / 2 ^ a % 2 = 1) := by rw [Nat.testBit_eq_decide_div_mod_eq]
  rw [h2, decide_eq_false_iff_not] at h
  omega
theorem shr_one {s a : Nat} (hs : s < 18446744073709551616) (h : s.testBit a = true) : bits .and .u64 (((s / 2 ^ a : Nat) : Int)) 1 = 1 := by
  have hlt : s / 2 ^ a < 18446744073709551616 := Nat.lt_of_le_of_lt (Nat.div_le_self _ _) hs
  have := u64_and_nat (s / 2 ^ a) 1 hlt (by decide)
  rw [show ((1 : Nat) : Int) = 1 from rfl] at this
  rw [this, Nat.and_one_is_mod]
  have h2 : s.testBit a = decide (s / 2 ^ a % 2 = 1) := by rw [Nat.testBit_eq_decide_div_mod_eq]
  rw [h2, decide_eq_true_eq] at h
  omega

/-! The law's forward: an order in which all pairs go forward. -/

theorem add_pl (b o j : Nat) : (⟨b, o, none⟩ : Addr).add j = ⟨b, o + j, none⟩ := by
  unfold Addr.add
  split
  · rename_i h; subst h; rfl
  · rfl
theorem own_cell {W : World} {base g cap : Nat} {o : List Nat} (h : W.ownsRow base 3 1 (.slice (some ⟨g, 0, none⟩) o.length cap) o.length (encI o)) (i : Nat) (hi : i < o.length) : W.cell? ⟨g, i, none⟩ = some (.int .i64 (o.getD i 0 : Nat)) := by
  have := h.cells (g := g) rfl i (.int .i64 (o.getD i 0 : Nat)) (by simp [encI, hi])
  rw [add_pl, Nat.zero_add] at this; exact this
theorem has_R {N : Nat} {F : Nat → Nat} (hN : N ≤ 64) (hF : Right N F) (a b : Nat) (ha : a < N) (hb : b < N) : AnsV 29 #[relv N F, .int .i64 (a : Int), .int .i64 (b : Int)] (.bool ((F a).testBit b)) := fun W _ => by
  have := has_rel (N : Int) F a b W hF.wf
  have e : hasE (nN (N : Int) F) (nF (N : Int) F) a b = (F a).testBit b := by
    rw [right_nN hF hN, right_nF hF hN]
    unfold hasE
    have h1 : decide (0 ≤ (a : Int) ∧ (a : Int) < (N : Int)) = true := decide_eq_true (by omega)
    have h2 : decide (0 ≤ (b : Int) ∧ (b : Int) < (N : Int)) = true := decide_eq_true (by omega)
    rw [h1, h2]; rfl
  rwa [e] at this

set_option maxRecDepth 100000 in
set_option maxHeartbeats 4000000 in
theorem forward_any {N : Nat} {F : Nat → Nat} (hN : N ≤ 64) (hF : Right N F) (o : List Nat) (hO : Fwd N F o) (base : Nat) (v : Value) (w : World) (hT : TabAt w) (own : w.ownsRow base 3 1 v o.length (encI o)) :
    Calls Tryd.prog 32 #[relv N F, v] w fun e w' => e = .returned (.bool true) ∧ Below w.heap.size w w' := by
  obtain ⟨ad, cap, rfl, hcell⟩ : ∃ ad cap, v = .slice ad o.length cap ∧ ∀ i, i < o.length → ∃ g, ad = some ⟨g, 0, none⟩ ∧ w.cell? ⟨g, i, none⟩ = some (.int .i64 (o.getD i 0 : Nat)) := by
    rcases own.2 with ⟨rfl, h0⟩ | ⟨g, cap, cur, rfl, _, _, _⟩
    · exact ⟨none, 0, by rw [h0], fun i hi => by omega⟩
    · exact ⟨some ⟨g, 0, none⟩, cap, rfl, fun i hi => ⟨g, rfl, own_cell own i hi⟩⟩
  have HC : Hid (∀ i, i < o.length → ∃ g, ad = some ⟨g, 0, none⟩ ∧ w.cell? ⟨g, i, none⟩ = some (.int .i64 (o.getD i 0 : Nat))) := hcell
  have hlen := hO.len
  have HO : Hid (Fwd N F o) := hO
  rw [hlen]
  have HLen : Hid (o.length = N) := hlen
  have HF : Hid (Right N F) := hF
  clear own hcell hO hlen hF
  go_enter Tryd.func32, Tryd.ntmps32
  go_wp2_with (first
    | (refine wpList_boxR rfl _ rfl rfl ?_; intro W1 b2 F1 r2; have B1 := Fresh.trans (Below.refl _ w) (Nat.le_refl _) F1; clear F1; have cn := r2.n))
  go_loopg [5, 6] N (fun g s c wr => ∃ k : Nat, g + k = N ∧ c = .int .i64 (k : Nat) ∧ s = .int .u64 (snN o k : Nat) ∧ IsR wr b2 N F ∧ Below w.heap.size w wr)
  case atStart => exact ⟨0, by simp, rfl, rfl, r2, B1⟩
  case round =>
    clear r2 B1 cn
    obtain ⟨k, hgk, rfl, rfl, r2, BB⟩ := hrel
    by_cases hk : k < N
    · have hki : (k : Int) < (N : Int) := by omega
      obtain ⟨gb, rfl, hc0⟩ := HC.out k (by rw [HLen.out]; exact hk)
      have hc : wr.cell? ⟨gb, k, none⟩ = some (.int .i64 (o.getD k 0 : Nat)) := (BB.cell (p := ⟨gb, k, none⟩) (World.block_lt_of_cell? w _ hc0)).trans hc0
      have haN := HO.out.lt k hk
      have hsl : snN o k < 18446744073709551616 := snN_lt (fun i hi => by have := HO.out.lt i (by omega); omega)
      have hnot : (snN o k).testBit (o.getD k 0) = false := by
        cases e : (snN o k).testBit (o.getD k 0) with
        | false => rfl
        | true =>
            obtain ⟨i, hi, h2⟩ := (snN_bit o _ k).1 e
            exact absurd h2 (HO.out.apart i k hi hk)
      have hp2 : 2 ^ o.getD k 0 < 18446744073709551616 := pow_lt _ (by omega)
      have a49 := restrict_R hN HF.out (2 ^ o.getD k 0) (snN o k) hp2 hsl
      have a21 : AnsV 21 #[relv N (opF andN F (crF (2 ^ o.getD k 0) (snN o k) N N 0))] (.int .u64 ((0 : Nat) : Int)) := by
        have := rng_R hN (right_and (G := crF (2 ^ o.getD k 0) (snN o k) N N 0) HF.out)
        rwa [fwd_range hN HF.out HO.out hk] at this
      have a29 : AnsV 29 #[relv N F, .int .i64 ((o.getD k 0 : Nat) : Int), .int .i64 ((o.getD k 0 : Nat) : Int)] (.bool false) := by
        have := has_R hN HF.out (o.getD k 0) (o.getD k 0) haN haN
        rwa [HO.out.self k hk] at this
      have hand := shr_zero hsl hnot
      have hsn : snN o (k + 1) = snN o k ||| 2 ^ o.getD k 0 := rfl
      have hor := u64_or_nat (snN o k) (2 ^ o.getD k 0) hsl hp2
      have HSN : Hid (snN o (k + 1) = snN o k ||| 2 ^ o.getD k 0) := hsn
      obtain ⟨g, rfl⟩ : ∃ g, gk = g + 1 := ⟨gk - 1, by omega⟩
      generalize opF andN F (crF (2 ^ o.getD k 0) (snN o k) N N 0) = X at *
      obtain ⟨a, hae⟩ : ∃ a, o.getD k 0 = a := ⟨_, rfl⟩
      rw [hae] at hc haN hnot hp2 a49 a29 hand hor HSN
      obtain ⟨s, hse⟩ : ∃ s, snN o k = s := ⟨_, rfl⟩
      rw [hse] at hsl hnot a49 hand hor HSN ⊢
      have hai : (a : Int) < (N : Int) := by omega
      have ha0 : (0 : Int) ≤ (a : Int) := by omega
      have ha64 : a < 64 := by omega
      obtain ⟨pw, hpw⟩ : ∃ pw : Int, pw = ((2 ^ a : Nat) : Int) := ⟨_, rfl⟩
      have hpow : IntKind.u64.wrap ((2 : Int) ^ a) = pw := by rw [hpw, wrap_pow a ha64]
      obtain ⟨y, hy⟩ : ∃ y : Int, y = ((s / 2 ^ a : Nat) : Int) := ⟨_, rfl⟩
      have hdiv : (s : Int) / (2 : Int) ^ a = y := by rw [hy, Int.natCast_ediv, Int.natCast_pow]; rfl
      obtain ⟨t, hte⟩ : ∃ t : Int, t = ((s ||| 2 ^ a : Nat) : Int) := ⟨_, rfl⟩
      rw [← hpw] at a49 hor
      rw [← hy] at hand
      rw [← hte] at hor
      have HTE : Hid (t = ((s ||| 2 ^ a : Nat) : Int)) := hte
      clear hpw hy hte hp2
      have tW := hT.below BB
      clear hae hse hsn hnot
      go_wp2
      refine grow_all (by kernel_rfl) (by kernel_rfl) ?_
      refine wpG_put rfl (v := .int .i64 (a : Int)) (fun w => by first | rfl | (go_simp; done) | (simp [execOp, go_sem, hai, ha0, hand, hpow, hdiv]; done)) ?_
      try simp only [Act.put, List.setIfInBounds_toArray, List.set_cons_succ, List.set_cons_zero]
      refine wpG_put rfl (v := .bool false) (fun w => by first | rfl | (go_simp; done) | (simp [execOp, go_sem, hai, ha0, hand, hpow, hdiv]; done)) ?_
      try simp only [Act.put, List.setIfInBounds_toArray, List.set_cons_succ, List.set_cons_zero]
      refine wpG_put rfl (v := .bool false) (fun w => by first | rfl | (go_simp; done) | (simp [execOp, go_sem, hai, ha0, hand, hpow, hdiv]; done)) ?_
      try simp only [Act.put, List.setIfInBounds_toArray, List.set_cons_succ, List.set_cons_zero]
      refine wpG_put rfl (v := .int .i64 (a : Int)) (fun w => by first | rfl | (go_simp; done) | (simp [execOp, go_sem, hai, ha0, hand, hpow, hdiv]; done)) ?_
      try simp only [Act.put, List.setIfInBounds_toArray, List.set_cons_succ, List.set_cons_zero]
      refine wpG_put rfl (v := .pointer (some ⟨b2, 0, none⟩)) (fun w => by first | rfl | (go_simp; done) | (simp [execOp, go_sem, hai, ha0, hand, hpow, hdiv]; done)) ?_
      try simp only [Act.put, List.setIfInBounds_toArray, List.set_cons_succ, List.set_cons_zero]
      refine wpG_loadN rfl _ rfl rfl r2 ?_
      try simp only [Act.put, List.setIfInBounds_toArray, List.set_cons_succ, List.set_cons_zero]
      refine wpG_put rfl (v := .bool false) (fun w => by first | rfl | (go_simp; done) | (simp [execOp, go_sem, hai, ha0, hand, hpow, hdiv]; done)) ?_
      try simp only [Act.put, List.setIfInBounds_toArray, List.set_cons_succ, List.set_cons_zero]
      refine wpG_put rfl (v := .bool false) (fun w => by first | rfl | (go_simp; done) | (simp [execOp, go_sem, hai, ha0, hand, hpow, hdiv]; done)) ?_
      try simp only [Act.put, List.setIfInBounds_toArray, List.set_cons_succ, List.set_cons_zero]
      refine wpG_put rfl (v := .bool false) (fun w => by first | rfl | (go_simp; done) | (simp [execOp, go_sem, hai, ha0, hand, hpow, hdiv]; done)) ?_
      try simp only [Act.put, List.setIfInBounds_toArray, List.set_cons_succ, List.set_cons_zero]
      refine wpG_put rfl (v := .int .u64 (s : Int)) (fun w => by first | rfl | (go_simp; done) | (simp [execOp, go_sem, hai, ha0, hand, hpow, hdiv]; done)) ?_
      try simp only [Act.put, List.setIfInBounds_toArray, List.set_cons_succ, List.set_cons_zero]
      refine wpG_put rfl (v := .int .i64 (a : Int)) (fun w => by first | rfl | (go_simp; done) | (simp [execOp, go_sem, hai, ha0, hand, hpow, hdiv]; done)) ?_
      try simp only [Act.put, List.setIfInBounds_toArray, List.set_cons_succ, List.set_cons_zero]
      refine wpG_put rfl (v := .int .u64 y) (fun w => by first | rfl | (go_simp; done) | (simp [execOp, go_sem, hai, ha0, hand, hpow, hdiv]; done)) ?_
      try simp only [Act.put, List.setIfInBounds_toArray, List.set_cons_succ, List.set_cons_zero]
      refine wpG_put rfl (v := .int .u64 0) (fun w => by first | rfl | (go_simp; done) | (simp [execOp, go_sem, hai, ha0, hand, hpow, hdiv]; done)) ?_
      try simp only [Act.put, List.setIfInBounds_toArray, List.set_cons_succ, List.set_cons_zero]
      refine wpG_put rfl (v := .bool false) (fun w => by first | rfl | (go_simp; done) | (simp [execOp, go_sem, hai, ha0, hand, hpow, hdiv]; done)) ?_
      try simp only [Act.put, List.setIfInBounds_toArray, List.set_cons_succ, List.set_cons_zero]
      refine wpG_put rfl (v := .bool false) (fun w => by first | rfl | (go_simp; done) | (simp [execOp, go_sem, hai, ha0, hand, hpow, hdiv]; done)) ?_
      try simp only [Act.put, List.setIfInBounds_toArray, List.set_cons_succ, List.set_cons_zero]
      refine wpG_put rfl (v := .bool false) (fun w => by first | rfl | (go_simp; done) | (simp [execOp, go_sem, hai, ha0, hand, hpow, hdiv]; done)) ?_
      try simp only [Act.put, List.setIfInBounds_toArray, List.set_cons_succ, List.set_cons_zero]
      refine wpG_loadR rfl _ rfl rfl r2 ?_
      try simp only [Act.put, List.setIfInBounds_toArray, List.set_cons_succ, List.set_cons_zero]
      refine wpG_put rfl (v := .int .i64 (a : Int)) (fun w => by first | rfl | (go_simp; done) | (simp [execOp, go_sem, hai, ha0, hand, hpow, hdiv]; done)) ?_
      try simp only [Act.put, List.setIfInBounds_toArray, List.set_cons_succ, List.set_cons_zero]
      refine wpG_put rfl (v := .int .u64 pw) (fun w => by first | rfl | (go_simp; done) | (simp [execOp, go_sem, hai, ha0, hand, hpow, hdiv]; done)) ?_
      try simp only [Act.put, List.setIfInBounds_toArray, List.set_cons_succ, List.set_cons_zero]
      refine wpG_put rfl (v := .int .u64 (s : Int)) (fun w => by first | rfl | (go_simp; done) | (simp [execOp, go_sem, hai, ha0, hand, hpow, hdiv]; done)) ?_
      try simp only [Act.put, List.setIfInBounds_toArray, List.set_cons_succ, List.set_cons_zero]
      refine wpG_call tW rfl a49 (fun w => by first | rfl | (go_simp; done)) ?_
      try simp only [Act.put, List.setIfInBounds_toArray, List.set_cons_succ, List.set_cons_zero]
      refine wpG_call tW rfl a21 (fun w => by first | rfl | (go_simp; done)) ?_
      try simp only [Act.put, List.setIfInBounds_toArray, List.set_cons_succ, List.set_cons_zero]
      refine wpG_put rfl (v := .bool false) (fun w => by first | rfl | (go_simp; done) | (simp [execOp, go_sem, hai, ha0, hand, hpow, hdiv]; done)) ?_
      try simp only [Act.put, List.setIfInBounds_toArray, List.set_cons_succ, List.set_cons_zero]
      refine wpG_put rfl (v := .bool false) (fun w => by first | rfl | (go_simp; done) | (simp [execOp, go_sem, hai, ha0, hand, hpow, hdiv]; done)) ?_
      try simp only [Act.put, List.setIfInBounds_toArray, List.set_cons_succ, List.set_cons_zero]
      refine wpG_put rfl (v := .bool false) (fun w => by first | rfl | (go_simp; done) | (simp [execOp, go_sem, hai, ha0, hand, hpow, hdiv]; done)) ?_
      try simp only [Act.put, List.setIfInBounds_toArray, List.set_cons_succ, List.set_cons_zero]
      refine wpG_loadR rfl _ rfl rfl r2 ?_
      try simp only [Act.put, List.setIfInBounds_toArray, List.set_cons_succ, List.set_cons_zero]
      refine wpG_put rfl (v := .int .i64 (a : Int)) (fun w => by first | rfl | (go_simp; done) | (simp [execOp, go_sem, hai, ha0, hand, hpow, hdiv]; done)) ?_
      try simp only [Act.put, List.setIfInBounds_toArray, List.set_cons_succ, List.set_cons_zero]
      refine wpG_put rfl (v := .int .i64 (a : Int)) (fun w => by first | rfl | (go_simp; done) | (simp [execOp, go_sem, hai, ha0, hand, hpow, hdiv]; done)) ?_
      try simp only [Act.put, List.setIfInBounds_toArray, List.set_cons_succ, List.set_cons_zero]
      refine wpG_call tW rfl a29 (fun w => by first | rfl | (go_simp; done)) ?_
      try simp only [Act.put, List.setIfInBounds_toArray, List.set_cons_succ, List.set_cons_zero]
      refine wpG_put rfl (v := .bool false) (fun w => by first | rfl | (go_simp; done) | (simp [execOp, go_sem, hai, ha0, hand, hpow, hdiv]; done)) ?_
      try simp only [Act.put, List.setIfInBounds_toArray, List.set_cons_succ, List.set_cons_zero]
      refine wpG_nil ?_
      intro w5 B5
      replace r2 := r2.grown B5
      replace BB := BB.trans (B5.mono BB.size)
      have hc5 : w5.cell? ⟨gb, k, none⟩ = some (.int .i64 (a : Nat)) := (B5.cell (p := ⟨gb, k, none⟩) (World.block_lt_of_cell? wr _ hc)).trans hc
      clear B5 hc
      go_wp2
      go_roundg g
      case measure => omega
      case rel => exact ⟨k + 1, by omega, by go_num, by rw [HSN.out, ← HTE.out], r2, BB⟩
    · have hki : ¬ (k : Int) < (N : Int) := by omega
      go_wp2
      go_ret
      exact ⟨rfl, BB⟩

/-! RelRound: the law's walk. -/

theorem own31_len {W : World} {base k : Nat} {v : Value} {xs : List Value} (h : W.ownsRow base 31 1 v k xs) : ∃ ad cap, v = .slice ad k cap := by
  rcases h.2 with ⟨rfl, h0⟩ | ⟨g, cap, cur, rfl, _, _, _⟩
  · exact ⟨none, 0, by rw [h0]⟩
  · exact ⟨_, cap, rfl⟩
theorem own3_len {W : World} {base k : Nat} {v : Value} {xs : List Value} (h : W.ownsRow base 3 1 v k xs) : ∃ ad cap, v = .slice ad k cap := by
  rcases h.2 with ⟨rfl, h0⟩ | ⟨g, cap, cur, rfl, _, _, _⟩
  · exact ⟨none, 0, by rw [h0]⟩
  · exact ⟨_, cap, rfl⟩

set_option maxRecDepth 100000 in
set_option maxHeartbeats 2000000 in
theorem relRound_wrong (n : Int) (f : Nat → Nat) (w : World) (hf : Wf f) (hr : rightB n f = false) (hT : TabAt w) :
    Calls Tryd.prog 5 #[relv n f] w fun e w' => e = .returned (.bool true) ∧ Below w.heap.size w w' := by
  have a8 : Hid (AnsV 8 #[] (.bool true)) := works_any
  have a9 : Hid (∀ z W, Calls Tryd.prog 9 #[.int .i64 z] W fun e w' => e = .returned (.int .i64 z) ∧ w' = W) := fun z W => num_any z W
  have a10 : Hid (∀ W, Calls Tryd.prog 10 #[relv n f] W fun e w' => e = .returned (.int .i64 20) ∧ Below W.heap.size W w') := fun W => by
    have := check_any n f W hf
    unfold checkN at this
    rwa [hr] at this
  clear hr hf
  go_enter Tryd.func5, Tryd.ntmps5
  go_wp2_with (first
    | (refine wpList_boxR rfl _ rfl rfl ?_; intro W1 b1 F1 r1; have B1 := Fresh.trans (Below.refl _ w) (Nat.le_refl _) F1; clear F1)
    | (go_at_call 8; refine (a8.out _ (hT.below B1)).mono ?_; rintro e w' ⟨rfl, hw'⟩; replace r1 := r1.grown hw'; replace B1 := B1.trans (hw'.mono B1.size); clear hw')
    | (refine wpList_loadR rfl _ rfl rfl r1 ?_)
    | (refine wpList_loadRg rfl _ rfl rfl r1 ?_)
    | (go_at_call 10; refine (a10.out _).mono ?_; rintro e w' ⟨rfl, hw'⟩; replace r1 := r1.grown hw'; replace B1 := B1.trans (hw'.mono B1.size); clear hw')
    | (go_at_call 9; refine (a9.out _ _).mono ?_; rintro e w' ⟨rfl, hw'⟩; replace hw' := hw'.symm; subst hw'))
  go_ret
  exact ⟨rfl, B1⟩

set_option maxRecDepth 100000 in
set_option maxHeartbeats 4000000 in
theorem relRound_straight (N : Nat) (F : Nat → Nat) (w : World) (hN : N ≤ 64) (hF : Right N F) (hac : acyc N F = true) (hT : TabAt w) :
    Calls Tryd.prog 5 #[relv N F] w fun e w' => e = .returned (.bool true) ∧ Below w.heap.size w w' := by
  have a8 : Hid (AnsV 8 #[] (.bool true)) := works_any
  have a9 : Hid (∀ z W, Calls Tryd.prog 9 #[.int .i64 z] W fun e w' => e = .returned (.int .i64 z) ∧ w' = W) := fun z W => num_any z W
  have a10 : Hid (∀ W, Calls Tryd.prog 10 #[relv N F] W fun e w' => e = .returned (.int .i64 0) ∧ Below W.heap.size W w') := fun W => by
    have := check_any N F W hF.wf
    unfold checkN at this
    rwa [if_pos (right_is hF hN)] at this
  have a28 : Hid (AnsV 28 #[relv N F] (.bool true)) := by
    have := acyc_R hN hF
    rwa [hac] at this
  have a31 : Hid (AnsV 31 #[relv N F] (.bool (irr N F))) := by
    have := irreflexive_any N F hF.wf
    rwa [right_nN hF hN, right_nF hF hN, Int.toNat_natCast] at this
  have a30 : Hid (∀ W, TabAt W → Calls Tryd.prog 30 #[relv N F] W fun e w' => Below W.heap.size W w' ∧ ∃ v, e = .returned v ∧ w'.ownsRow W.heap.size 31 1 v (ptn (bothF N F) N).length (encU (ptn (bothF N F) N))) := fun W h => parts_any hN hF W h
  have a26 : Hid (∀ W, TabAt W → Calls Tryd.prog 26 #[relv N F] W (CycleAns F (bestA (fun a => ringsF F (tuF (edgesL N F)) a 65 0 (2 ^ a) []) N) W)) := fun W h => by
    have := cycle_any N F hF.wf N (right_nN hF hN) W h
    rwa [right_nF hF hN] at this
  have a27 : Hid (∀ W, TabAt W → Calls Tryd.prog 27 #[relv N F] W (ExtAns (acyc N F) (ordL N F) W)) := fun W h => by
    have := extend_any N F hF.wf W h
    rwa [right_nN hF hN, right_nF hF hN, Int.toNat_natCast] at this
  have hpa := parts_acyc hN hF
  have hbe := best_acyc hN hF
  rw [hac] at hpa hbe
  have hno : bestA (fun a => ringsF F (tuF (edgesL N F)) a 65 0 (2 ^ a) []) N = none := by
    cases h : bestA (fun a => ringsF F (tuF (edgesL N F)) a 65 0 (2 ^ a) []) N with
    | none => rfl
    | some p => rw [h] at hbe; cases hbe
  rw [hno] at a26
  rw [hac] at a27
  have hfw := ord_fwd hN hF hac
  have a32 : Hid (∀ (base : Nat) (v : Value) (W : World), TabAt W → W.ownsRow base 3 1 v (ordL N F).length (encI (ordL N F)) → Calls Tryd.prog 32 #[relv N F, v] W fun e w' => e = .returned (.bool true) ∧ Below W.heap.size W w') := fun base v W h own => forward_any hN hF (ordL N F) hfw base v W h own
  symm at hpa
  rw [Bool.and_eq_true, decide_eq_true_eq] at hpa
  obtain ⟨hpl, hirr⟩ := hpa
  rw [hirr] at a31
  have a30' : Hid (∀ W, TabAt W → Calls Tryd.prog 30 #[relv N F] W fun e w' => Below W.heap.size W w' ∧ ∃ ad cap, e = .returned (.slice ad N cap)) := fun W h => (a30.out W h).mono fun e w' ⟨h1, v, h2, h3⟩ => by
    obtain ⟨ad, cap, rfl⟩ := own31_len h3
    refine ⟨h1, ad, cap, ?_⟩
    rw [h2, hpl]
  have a26' : Hid (∀ W, TabAt W → Calls Tryd.prog 26 #[relv N F] W fun e w' => e = .returned (.tuple #[.slice none 0 0, .bool false]) ∧ Below W.heap.size W w') := fun W h => (a26.out W h).mono fun e w' ⟨h1, v, h2, h3⟩ => by
    have h4 : v = .slice none 0 0 := h3
    exact ⟨by rw [h2, h4]; rfl, h1⟩
  have a27' : Hid (∀ W, TabAt W → Calls Tryd.prog 27 #[relv N F] W fun e w' => Below W.heap.size W w' ∧ ∃ ad cap, e = .returned (.tuple #[.slice ad (ordL N F).length cap, .bool true]) ∧ w'.ownsRow W.heap.size 3 1 (.slice ad (ordL N F).length cap) (ordL N F).length (encI (ordL N F))) := fun W h => (a27.out W h).mono fun e w' ⟨h1, h2⟩ => by
    rcases h2 with ⟨h2, _⟩ | ⟨_, v, h2, h3⟩
    · cases h2
    · obtain ⟨ad, cap, rfl⟩ := own3_len h3
      exact ⟨h1, ad, cap, h2, h3⟩
  have hoi : (((N : Nat) : Int) == (N : Int)) = true := by simp
  obtain ⟨L, hL⟩ : ∃ L, (ordL N F).length = L := ⟨_, rfl⟩
  rw [hL] at a27' a32
  generalize encI (ordL N F) = cs at *
  clear a26 a27 a30 hF hac hpl hirr hbe hno hfw hL
  go_enter Tryd.func5, Tryd.ntmps5
  go_wp2_with (first
    | (refine wpList_boxR rfl _ rfl rfl ?_; intro W1 b1 F1 r1; have B1 := Fresh.trans (Below.refl _ w) (Nat.le_refl _) F1; clear F1)
    | (go_at_call 8; refine (a8.out _ (hT.below B1)).mono ?_; rintro e w' ⟨rfl, hw'⟩; replace r1 := r1.grown hw'; replace B1 := B1.trans (hw'.mono B1.size); clear hw')
    | (refine wpList_loadR rfl _ rfl rfl r1 ?_)
    | (refine wpList_loadRg rfl _ rfl rfl r1 ?_)
    | (go_at_call 10; refine (a10.out _).mono ?_; rintro e w' ⟨rfl, hw'⟩; replace r1 := r1.grown hw'; replace B1 := B1.trans (hw'.mono B1.size); clear hw')
    | (go_at_call 9; refine (a9.out _ _).mono ?_; rintro e w' ⟨rfl, hw'⟩; replace hw' := hw'.symm; subst hw')
    | (go_at_call 26; refine (a26'.out _ (hT.below B1)).mono ?_; rintro e w' ⟨rfl, hw'⟩; replace r1 := r1.grown hw'; replace B1 := B1.trans (hw'.mono B1.size); clear hw')
    | (go_at_call 27; refine (a27'.out _ (hT.below B1)).mono ?_; rintro e w' ⟨hw', ad, cap, rfl, own⟩; replace r1 := r1.grown hw'; replace B1 := B1.trans (hw'.mono B1.size); clear hw')
    | (go_at_call 28; refine (a28.out _ (hT.below B1)).mono ?_; rintro e w' ⟨rfl, hw'⟩; replace r1 := r1.grown hw'; replace B1 := B1.trans (hw'.mono B1.size); replace own := own_below own hw'; clear hw'))
  refine wp_loop_rounds 1 ?_
  rw [rounds_succ]
  go_wp2_with (first
    | (refine wpList_loadR rfl _ rfl rfl r1 ?_)
    | (refine wpList_loadRg rfl _ rfl rfl r1 ?_)
    | (go_at_call 30; refine (a30'.out _ (hT.below B1)).mono ?_; rintro e w' ⟨hw', ad2, cap2, rfl⟩; replace r1 := r1.grown hw'; replace B1 := B1.trans (hw'.mono B1.size); replace own := own_below own hw'; clear hw'; have cn := r1.n)
    | (go_at_call 31; refine (a31.out _ (hT.below B1)).mono ?_; rintro e w' ⟨rfl, hw'⟩; replace r1 := r1.grown hw'; replace B1 := B1.trans (hw'.mono B1.size); replace own := own_below own hw'; clear hw')
    | (go_at_call 32; refine (a32.out _ _ _ (hT.below B1) own).mono ?_; rintro e w' ⟨rfl, hw'⟩; replace r1 := r1.grown hw'; replace B1 := B1.trans (hw'.mono B1.size); clear hw'))
  go_ret
  exact ⟨rfl, B1⟩

set_option maxRecDepth 100000 in
set_option maxHeartbeats 4000000 in
theorem relRound_round (N : Nat) (F : Nat → Nat) (w : World) (hN : N ≤ 64) (hF : Right N F) (hac : acyc N F = false) (hT : TabAt w) :
    Calls Tryd.prog 5 #[relv N F] w fun e w' => e = .returned (.bool true) ∧ Below w.heap.size w w' := by
  have a8 : Hid (AnsV 8 #[] (.bool true)) := works_any
  have a9 : Hid (∀ z W, Calls Tryd.prog 9 #[.int .i64 z] W fun e w' => e = .returned (.int .i64 z) ∧ w' = W) := fun z W => num_any z W
  have a10 : Hid (∀ W, Calls Tryd.prog 10 #[relv N F] W fun e w' => e = .returned (.int .i64 0) ∧ Below W.heap.size W w') := fun W => by
    have := check_any N F W hF.wf
    unfold checkN at this
    rwa [if_pos (right_is hF hN)] at this
  have a28 : Hid (AnsV 28 #[relv N F] (.bool false)) := by
    have := acyc_R hN hF
    rwa [hac] at this
  have a31 : Hid (AnsV 31 #[relv N F] (.bool (irr N F))) := by
    have := irreflexive_any N F hF.wf
    rwa [right_nN hF hN, right_nF hF hN, Int.toNat_natCast] at this
  have a30 : Hid (∀ W, TabAt W → Calls Tryd.prog 30 #[relv N F] W fun e w' => Below W.heap.size W w' ∧ ∃ v, e = .returned v ∧ w'.ownsRow W.heap.size 31 1 v (ptn (bothF N F) N).length (encU (ptn (bothF N F) N))) := fun W h => parts_any hN hF W h
  have a26 : Hid (∀ W, TabAt W → Calls Tryd.prog 26 #[relv N F] W (CycleAns F (bestA (fun a => ringsF F (tuF (edgesL N F)) a 65 0 (2 ^ a) []) N) W)) := fun W h => by
    have := cycle_any N F hF.wf N (right_nN hF hN) W h
    rwa [right_nF hF hN] at this
  have a27 : Hid (∀ W, TabAt W → Calls Tryd.prog 27 #[relv N F] W (ExtAns (acyc N F) (ordL N F) W)) := fun W h => by
    have := extend_any N F hF.wf W h
    rwa [right_nN hF hN, right_nF hF hN, Int.toNat_natCast] at this
  have hpa := parts_acyc hN hF
  have hbe := best_acyc hN hF
  rw [hac] at hpa hbe
  have hG : Wf (tuF (edgesL N F)) := (right_tu hN hF).wf
  have a26' : Hid (∀ W, TabAt W → Calls Tryd.prog 26 #[relv N F] W fun e w' => Below W.heap.size W w' ∧ ∃ o g cap, (RoundAt F o ∧ o.length ≤ 65) ∧ e = .returned (.tuple #[.slice (some ⟨g, 0, none⟩) o.length cap, .bool true]) ∧ ∀ i, i < o.length → w'.cell? ⟨g, i, none⟩ = some (.int .i64 (o.getD i 0 : Nat))) := fun W h => (a26.out W h).mono fun e w' ⟨h1, v, h2, h3⟩ => by
    cases hb : bestA (fun a => ringsF F (tuF (edgesL N F)) a 65 0 (2 ^ a) []) N with
    | none => rw [hb] at hbe; cases hbe
    | some p =>
        rw [hb] at h2 h3
        obtain ⟨hp1, hp2⟩ := bestA_some hb
        obtain ⟨o, k1, k2, k3⟩ := h3
        have hR := way_round hG (inv_tu hF) (by omega) hp2 k1 k2
        obtain ⟨g, cap, rfl⟩ := own_some k3 (by have := hR.pos; omega)
        exact ⟨h1, o, g, cap, ⟨hR, by have := ringsF_len _ _ _ _ _ hp2; simp at this; omega⟩, h2, fun i hi => own_cell k3 i hi⟩
  have a27' : Hid (∀ W, TabAt W → Calls Tryd.prog 27 #[relv N F] W fun e w' => e = .returned (.tuple #[.slice none 0 0, .bool false]) ∧ Below W.heap.size W w') := fun W h => (a27.out W h).mono fun e w' ⟨h1, h2⟩ => by
    rcases h2 with ⟨_, h2⟩ | ⟨h2, _⟩
    · exact ⟨h2, h1⟩
    · rw [hac] at h2; cases h2
  have a30' : Hid (∀ W, TabAt W → Calls Tryd.prog 30 #[relv N F] W fun e w' => Below W.heap.size W w' ∧ ∃ ad cap, e = .returned (.slice ad (ptn (bothF N F) N).length cap)) := fun W h => (a30.out W h).mono fun e w' ⟨h1, v, h2, h3⟩ => by
    obtain ⟨ad, cap, rfl⟩ := own31_len h3
    exact ⟨h1, ad, cap, h2⟩
  obtain ⟨P, hP⟩ : ∃ P, (ptn (bothF N F) N).length = P := ⟨_, rfl⟩
  rw [hP] at a30' hpa
  obtain ⟨I, hI⟩ : ∃ I, irr N F = I := ⟨_, rfl⟩
  rw [hI] at a31 hpa
  have HPA : Hid (false = (decide (P = N) && I)) := hpa
  have HF : Hid (Right N F) := hF
  clear a26 a27 a30 hF hac hbe hG hP hI hpa
  go_enter Tryd.func5, Tryd.ntmps5
  go_wp2_with (first
    | (refine wpList_boxR rfl _ rfl rfl ?_; intro W1 b1 F1 r1; have B1 := Fresh.trans (Below.refl _ w) (Nat.le_refl _) F1; clear F1)
    | (go_at_call 8; refine (a8.out _ (hT.below B1)).mono ?_; rintro e w' ⟨rfl, hw'⟩; replace r1 := r1.grown hw'; replace B1 := B1.trans (hw'.mono B1.size); clear hw')
    | (refine wpList_loadR rfl _ rfl rfl r1 ?_)
    | (refine wpList_loadRg rfl _ rfl rfl r1 ?_)
    | (go_at_call 10; refine (a10.out _).mono ?_; rintro e w' ⟨rfl, hw'⟩; replace r1 := r1.grown hw'; replace B1 := B1.trans (hw'.mono B1.size); clear hw')
    | (go_at_call 9; refine (a9.out _ _).mono ?_; rintro e w' ⟨rfl, hw'⟩; replace hw' := hw'.symm; subst hw')
    | (go_at_call 26; refine (a26'.out _ (hT.below B1)).mono ?_; rintro e w' ⟨hw', o, g, cap, ⟨hR, hle65⟩, rfl, hcs⟩; have HR : Hid (RoundAt F o) := hR; have HC : Hid (∀ i, i < o.length → w'.cell? ⟨g, i, none⟩ = some (.int .i64 (o.getD i 0 : Nat))) := hcs; have hpos := hR.pos; have hposi : (0 : Int) < (o.length : Int) := (by omega); clear hR hcs; replace r1 := r1.grown hw'; replace B1 := B1.trans (hw'.mono B1.size); have BC := Below.refl w'.heap.size w'; clear hw')
    | (go_at_call 27; refine (a27'.out _ (hT.below B1)).mono ?_; rintro e w'' ⟨rfl, hw'⟩; replace r1 := r1.grown hw'; replace B1 := B1.trans (hw'.mono B1.size); replace BC := BC.trans (hw'.mono BC.size); clear hw')
    | (go_at_call 28; refine (a28.out _ (hT.below B1)).mono ?_; rintro e w'' ⟨rfl, hw'⟩; replace r1 := r1.grown hw'; replace B1 := B1.trans (hw'.mono B1.size); replace BC := BC.trans (hw'.mono BC.size); clear hw'))
  · rename_i hh
    exfalso
    have hd : decide (0 < o.length) = true := decide_eq_true (by omega)
    rw [hd] at hh
    cases hh
  obtain ⟨L, hLe⟩ : ∃ L, o.length = L := ⟨_, rfl⟩
  rw [hLe] at hposi hle65 hpos ⊢
  have HLe : Hid (o.length = L) := hLe
  clear hLe
  go_loopg [7, 8] L (fun gg s c wr => ∃ k : Nat, gg + k = L ∧ c = .int .i64 (k : Nat) ∧ s = .int .u64 (snN o k : Nat) ∧ IsR wr b1 N F ∧ Below w.heap.size w wr ∧ Below w'.heap.size w' wr)
  case atStart => exact ⟨0, by simp, rfl, rfl, r1, B1, BC⟩
  case round =>
    clear r1 B1 BC
    obtain ⟨k, hgk, rfl, rfl, r1, B1, BC⟩ := hrel
    by_cases hk : k < L
    · have hko : k < o.length := by rw [HLe.out]; exact hk
      have hsl : snN o k < 18446744073709551616 := snN_lt (fun i hi => HR.out.lt i (by omega))
      have hx64 := HR.out.lt k hko
      have hmlt : (k + 1) % o.length < o.length := Nat.mod_lt _ (by omega)
      have hst := HR.out.step k hko
      have hxz := right_le HF.out hx64 hst
      have hnot : (snN o k).testBit (o.getD k 0) = false := by
        cases e : (snN o k).testBit (o.getD k 0) with
        | false => rfl
        | true =>
            obtain ⟨i, hi, h2⟩ := (snN_bit o _ k).1 e
            exact absurd h2 (HR.out.apart i k hi hko)
      have hp2 : 2 ^ o.getD k 0 < 18446744073709551616 := pow_lt _ hx64
      have a29 : AnsV 29 #[relv N F, .int .i64 ((o.getD k 0 : Nat) : Int), .int .i64 ((o.getD ((k + 1) % o.length) 0 : Nat) : Int)] (.bool true) := by
        have := has_R hN HF.out (o.getD k 0) (o.getD ((k + 1) % o.length) 0) hxz.1 hxz.2
        rwa [hst] at this
      have hand := shr_zero hsl hnot
      have hor := u64_or_nat (snN o k) (2 ^ o.getD k 0) hsl hp2
      have HSN : Hid (snN o (k + 1) = snN o k ||| 2 ^ o.getD k 0) := rfl
      have hcx : ∀ W, Below wr.heap.size wr W → W.cell? ⟨g, k, none⟩ = some (.int .i64 (o.getD k 0 : Nat)) := fun W hb =>
        ((BC.trans (hb.mono BC.size)).cell (p := ⟨g, k, none⟩) (World.block_lt_of_cell? w' _ (HC.out k hko))).trans (HC.out k hko)
      have hcz : ∀ W, Below wr.heap.size wr W → W.cell? ⟨g, (k + 1) % o.length, none⟩ = some (.int .i64 (o.getD ((k + 1) % o.length) 0 : Nat)) := fun W hb =>
        ((BC.trans (hb.mono BC.size)).cell (p := ⟨g, (k + 1) % o.length, none⟩) (World.block_lt_of_cell? w' _ (HC.out _ hmlt))).trans (HC.out _ hmlt)
      obtain ⟨x, hxe⟩ : ∃ x, o.getD k 0 = x := ⟨_, rfl⟩
      obtain ⟨z, hze⟩ : ∃ z, o.getD ((k + 1) % o.length) 0 = z := ⟨_, rfl⟩
      rw [hxe] at hx64 hnot hp2 a29 hand hor HSN hcx
      rw [hze] at a29 hcz
      obtain ⟨s, hse⟩ : ∃ s, snN o k = s := ⟨_, rfl⟩
      rw [hse] at hsl hnot hand hor HSN ⊢
      obtain ⟨m, hme⟩ : ∃ m, (k + 1) % o.length = m := ⟨_, rfl⟩
      rw [hme] at hmlt hcz
      rw [HLe.out] at hme hmlt
      have hrem : ((k : Int) + 1).tmod (L : Int) = (m : Int) := by rw [Int.tmod_eq_emod_of_nonneg (by omega), ← hme]; rfl
      have hLn : L ≠ 0 := by omega
      have hx : Hid (∀ W, Below wr.heap.size wr W → W.cell? ⟨g, k, none⟩ = some (.int .i64 (x : Nat))) := hcx
      have hz : Hid (∀ W, Below wr.heap.size wr W → W.cell? ⟨g, m, none⟩ = some (.int .i64 (z : Nat))) := hcz
      have hkL : (k : Int) < (L : Int) := by omega
      have hmL : (m : Int) < (L : Int) := by omega
      have hk1 : IntKind.i64.wrap ((k : Int) + 1) = (k : Int) + 1 := by rw [IntKind.wrap_i64]; omega
      have hk0 : (0 : Int) ≤ (k : Int) := by omega
      have hm0 : (0 : Int) ≤ (m : Int) := by omega
      have hL0 : (L : Int) ≠ 0 := by omega
      obtain ⟨pw, hpw⟩ : ∃ pw : Int, pw = ((2 ^ x : Nat) : Int) := ⟨_, rfl⟩
      have hpow : IntKind.u64.wrap ((2 : Int) ^ x) = pw := by rw [hpw, wrap_pow x hx64]
      obtain ⟨y, hy⟩ : ∃ y : Int, y = ((s / 2 ^ x : Nat) : Int) := ⟨_, rfl⟩
      have hdiv : (s : Int) / (2 : Int) ^ x = y := by rw [hy, Int.natCast_ediv, Int.natCast_pow]; rfl
      obtain ⟨t, hte⟩ : ∃ t : Int, t = ((s ||| 2 ^ x : Nat) : Int) := ⟨_, rfl⟩
      rw [← hpw] at hor
      rw [← hy] at hand
      rw [← hte] at hor
      have HTE : Hid (t = ((s ||| 2 ^ x : Nat) : Int)) := hte
      have tW := hT.below B1
      obtain ⟨gg, rfl⟩ : ∃ gg, gk = gg + 1 := ⟨gk - 1, by omega⟩
      clear hpw hy hte hp2 hcx hcz hxe hze hse hme hst hxz hnot hpos hko
      go_wp2
      refine grow_all (by kernel_rfl) (by kernel_rfl) ?_
      refine wpG_loadR rfl _ rfl rfl r1 ?_
      try simp only [Act.put, List.setIfInBounds_toArray, List.set_cons_succ, List.set_cons_zero]
      refine wpG_put rfl (v := .slice (some ⟨g, 0, none⟩) L cap) (fun w => by first | rfl | (go_simp; done) | (simp [execOp, go_sem, hkL, hmL, hand, hpow, hdiv, hrem, hk1, hk0, hL0, hm0, hLn]; done)) ?_
      try simp only [Act.put, List.setIfInBounds_toArray, List.set_cons_succ, List.set_cons_zero]
      refine wpG_put rfl (v := .int .i64 (k : Int)) (fun w => by first | rfl | (go_simp; done) | (simp [execOp, go_sem, hkL, hmL, hand, hpow, hdiv, hrem, hk1, hk0, hL0, hm0, hLn]; done)) ?_
      try simp only [Act.put, List.setIfInBounds_toArray, List.set_cons_succ, List.set_cons_zero]
      refine wpG_put rfl (v := .pointer (some ⟨g, k, none⟩)) (fun w => by first | rfl | (go_simp; done) | (simp [execOp, go_sem, hkL, hmL, hand, hpow, hdiv, hrem, hk1, hk0, hL0, hm0, hLn]; done)) ?_
      try simp only [Act.put, List.setIfInBounds_toArray, List.set_cons_succ, List.set_cons_zero]
      refine wpG_value rfl (v := .int .i64 (x : Int)) (fun w hb => by have := hx.out w hb; simp [execOp, go_sem, this]; done) ?_
      try simp only [Act.put, List.setIfInBounds_toArray, List.set_cons_succ, List.set_cons_zero]
      refine wpG_put rfl (v := .slice (some ⟨g, 0, none⟩) L cap) (fun w => by first | rfl | (go_simp; done) | (simp [execOp, go_sem, hkL, hmL, hand, hpow, hdiv, hrem, hk1, hk0, hL0, hm0, hLn]; done)) ?_
      try simp only [Act.put, List.setIfInBounds_toArray, List.set_cons_succ, List.set_cons_zero]
      refine wpG_put rfl (v := .int .i64 (k : Int)) (fun w => by first | rfl | (go_simp; done) | (simp [execOp, go_sem, hkL, hmL, hand, hpow, hdiv, hrem, hk1, hk0, hL0, hm0, hLn]; done)) ?_
      try simp only [Act.put, List.setIfInBounds_toArray, List.set_cons_succ, List.set_cons_zero]
      refine wpG_put rfl (v := .int .i64 ((k : Int) + 1)) (fun w => by first | rfl | (go_simp; done) | (simp [execOp, go_sem, hkL, hmL, hand, hpow, hdiv, hrem, hk1, hk0, hL0, hm0, hLn]; done)) ?_
      try simp only [Act.put, List.setIfInBounds_toArray, List.set_cons_succ, List.set_cons_zero]
      refine wpG_put rfl (v := .slice (some ⟨g, 0, none⟩) L cap) (fun w => by first | rfl | (go_simp; done) | (simp [execOp, go_sem, hkL, hmL, hand, hpow, hdiv, hrem, hk1, hk0, hL0, hm0, hLn]; done)) ?_
      try simp only [Act.put, List.setIfInBounds_toArray, List.set_cons_succ, List.set_cons_zero]
      refine wpG_put rfl (v := .int .i64 (L : Int)) (fun w => by first | rfl | (go_simp; done) | (simp [execOp, go_sem, hkL, hmL, hand, hpow, hdiv, hrem, hk1, hk0, hL0, hm0, hLn]; done)) ?_
      try simp only [Act.put, List.setIfInBounds_toArray, List.set_cons_succ, List.set_cons_zero]
      refine wpG_put rfl (v := .int .i64 (m : Int)) (fun w => by first | rfl | (go_simp; done) | (simp [execOp, go_sem, hkL, hmL, hand, hpow, hdiv, hrem, hk1, hk0, hL0, hm0, hLn]; done)) ?_
      try simp only [Act.put, List.setIfInBounds_toArray, List.set_cons_succ, List.set_cons_zero]
      refine wpG_put rfl (v := .pointer (some ⟨g, m, none⟩)) (fun w => by first | rfl | (go_simp; done) | (simp [execOp, go_sem, hkL, hmL, hand, hpow, hdiv, hrem, hk1, hk0, hL0, hm0, hLn]; done)) ?_
      try simp only [Act.put, List.setIfInBounds_toArray, List.set_cons_succ, List.set_cons_zero]
      refine wpG_value rfl (v := .int .i64 (z : Int)) (fun w hb => by have := hz.out w hb; simp [execOp, go_sem, this]; done) ?_
      try simp only [Act.put, List.setIfInBounds_toArray, List.set_cons_succ, List.set_cons_zero]
      refine wpG_call tW rfl a29 (fun w => by first | rfl | (go_simp; done)) ?_
      try simp only [Act.put, List.setIfInBounds_toArray, List.set_cons_succ, List.set_cons_zero]
      refine wpG_put rfl (v := .bool false) (fun w => by first | rfl | (go_simp; done) | (simp [execOp, go_sem, hkL, hmL, hand, hpow, hdiv, hrem, hk1, hk0, hL0, hm0, hLn]; done)) ?_
      try simp only [Act.put, List.setIfInBounds_toArray, List.set_cons_succ, List.set_cons_zero]
      refine wpG_put rfl (v := .bool false) (fun w => by first | rfl | (go_simp; done) | (simp [execOp, go_sem, hkL, hmL, hand, hpow, hdiv, hrem, hk1, hk0, hL0, hm0, hLn]; done)) ?_
      try simp only [Act.put, List.setIfInBounds_toArray, List.set_cons_succ, List.set_cons_zero]
      refine wpG_put rfl (v := .int .u64 (s : Int)) (fun w => by first | rfl | (go_simp; done) | (simp [execOp, go_sem, hkL, hmL, hand, hpow, hdiv, hrem, hk1, hk0, hL0, hm0, hLn]; done)) ?_
      try simp only [Act.put, List.setIfInBounds_toArray, List.set_cons_succ, List.set_cons_zero]
      refine wpG_put rfl (v := .slice (some ⟨g, 0, none⟩) L cap) (fun w => by first | rfl | (go_simp; done) | (simp [execOp, go_sem, hkL, hmL, hand, hpow, hdiv, hrem, hk1, hk0, hL0, hm0, hLn]; done)) ?_
      try simp only [Act.put, List.setIfInBounds_toArray, List.set_cons_succ, List.set_cons_zero]
      refine wpG_put rfl (v := .int .i64 (k : Int)) (fun w => by first | rfl | (go_simp; done) | (simp [execOp, go_sem, hkL, hmL, hand, hpow, hdiv, hrem, hk1, hk0, hL0, hm0, hLn]; done)) ?_
      try simp only [Act.put, List.setIfInBounds_toArray, List.set_cons_succ, List.set_cons_zero]
      refine wpG_put rfl (v := .pointer (some ⟨g, k, none⟩)) (fun w => by first | rfl | (go_simp; done) | (simp [execOp, go_sem, hkL, hmL, hand, hpow, hdiv, hrem, hk1, hk0, hL0, hm0, hLn]; done)) ?_
      try simp only [Act.put, List.setIfInBounds_toArray, List.set_cons_succ, List.set_cons_zero]
      refine wpG_value rfl (v := .int .i64 (x : Int)) (fun w hb => by have := hx.out w hb; simp [execOp, go_sem, this]; done) ?_
      try simp only [Act.put, List.setIfInBounds_toArray, List.set_cons_succ, List.set_cons_zero]
      refine wpG_put rfl (v := .int .u64 y) (fun w => by first | rfl | (go_simp; done) | (simp [execOp, go_sem, hkL, hmL, hand, hpow, hdiv, hrem, hk1, hk0, hL0, hm0, hLn]; done)) ?_
      try simp only [Act.put, List.setIfInBounds_toArray, List.set_cons_succ, List.set_cons_zero]
      refine wpG_put rfl (v := .int .u64 0) (fun w => by first | rfl | (go_simp; done) | (simp [execOp, go_sem, hkL, hmL, hand, hpow, hdiv, hrem, hk1, hk0, hL0, hm0, hLn]; done)) ?_
      try simp only [Act.put, List.setIfInBounds_toArray, List.set_cons_succ, List.set_cons_zero]
      refine wpG_put rfl (v := .bool false) (fun w => by first | rfl | (go_simp; done) | (simp [execOp, go_sem, hkL, hmL, hand, hpow, hdiv, hrem, hk1, hk0, hL0, hm0, hLn]; done)) ?_
      try simp only [Act.put, List.setIfInBounds_toArray, List.set_cons_succ, List.set_cons_zero]
      refine wpG_put rfl (v := .bool false) (fun w => by first | rfl | (go_simp; done) | (simp [execOp, go_sem, hkL, hmL, hand, hpow, hdiv, hrem, hk1, hk0, hL0, hm0, hLn]; done)) ?_
      try simp only [Act.put, List.setIfInBounds_toArray, List.set_cons_succ, List.set_cons_zero]
      refine wpG_nil ?_
      intro w5 B5
      replace r1 := r1.grown B5
      replace B1 := B1.trans (B5.mono B1.size)
      replace BC := BC.trans (B5.mono BC.size)
      have hc5 := hx.out w5 B5
      clear B5
      go_wp2
      go_roundg gg
      case measure => omega
      case rel => exact ⟨k + 1, by omega, by go_num, by rw [HSN.out, ← HTE.out], r1, B1, BC⟩
    · have hki : ¬ (k : Int) < (L : Int) := by omega
      have hPN : ((P : Int) == (N : Int)) = decide (P = N) := by rw [Bool.eq_iff_iff]; simp; omega
      by_cases hP : P = N
      · have hI : I = false := by
          have h1 := HPA.out
          rw [decide_eq_true hP, Bool.true_and] at h1
          exact h1.symm
        have hPe : ((P : Int) == (N : Int)) = true := by rw [hPN]; exact decide_eq_true hP
        rw [hI] at a31
        clear hPN hP hI HPA
        go_wp2_with (first
          | (refine wpList_loadR rfl _ rfl rfl r1 ?_)
          | (refine wpList_loadRg rfl _ rfl rfl r1 ?_)
          | (go_at_call 30; refine (a30'.out _ (hT.below B1)).mono ?_; rintro e w7 ⟨hw', ad2, cap2, rfl⟩; replace r1 := r1.grown hw'; replace B1 := B1.trans (hw'.mono B1.size); clear hw'; have cn := r1.n)
          | (go_at_call 31; refine (a31.out _ (hT.below B1)).mono ?_; rintro e w7 ⟨rfl, hw'⟩; replace r1 := r1.grown hw'; replace B1 := B1.trans (hw'.mono B1.size); clear hw'))
        go_ret
        exact ⟨rfl, B1⟩
      · have hPe : ((P : Int) == (N : Int)) = false := by rw [hPN]; exact decide_eq_false hP
        clear hPN hP HPA
        go_wp2_with (first
          | (refine wpList_loadR rfl _ rfl rfl r1 ?_)
          | (go_at_call 30; refine (a30'.out _ (hT.below B1)).mono ?_; rintro e w7 ⟨hw', ad2, cap2, rfl⟩; replace r1 := r1.grown hw'; replace B1 := B1.trans (hw'.mono B1.size); clear hw'; have cn := r1.n))
        go_ret
        exact ⟨rfl, B1⟩

theorem relRound_any (n : Int) (f : Nat → Nat) (w : World) (hf : Wf f) (hT : TabAt w) :
    Calls Tryd.prog 5 #[relv n f] w fun e w' => e = .returned (.bool true) ∧ Below w.heap.size w w' := by
  cases h1 : rightB n f
  · exact relRound_wrong n f w hf h1 hT
  · obtain ⟨N, k1, k2, k3⟩ := n_right' n f hf
    rw [show nN n f = n from if_pos h1] at k1
    rw [show nF n f = f from if_pos h1] at k3
    subst k1
    cases hac : acyc N f
    · exact relRound_round N f w k2 k3 hac hT
    · exact relRound_straight N f w k2 k3 hac hT

end Go.Proofs.YtkccckjiemijeabDoor
