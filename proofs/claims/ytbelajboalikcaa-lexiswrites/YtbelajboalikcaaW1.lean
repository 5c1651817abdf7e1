/- own, says. -/
import Derived.Test.YtbelajboalikcaaW0
namespace Go.Proofs.Ytbelajboalikcaa
open Go.RowKit Go.Shelf M
set_option linter.unusedSimpArgs false
set_option linter.unusedVariables false

/-- A token as a caller hands it in. -/
structure GT where
  kind : Int
  text : ByteArray
  value : Int
  line : Int
  col : Int
  at' : Int
  fin : Int
def gtL (g : GT) : List Value := [.int .i64 g.kind, .string g.text, .int .i64 g.value, .int .i64 g.line, .int .i64 g.col, .int .i64 g.at', .int .i64 g.fin]
theorem gt_one (g : GT) : ∀ v ∈ gtL g, v.oneCell' = true := by simp [gtL, Value.oneCell']
/-- A token's own bytes. -/
def ownF (k : Int) (tx : List UInt8) : List UInt8 := if k = 3 then 34 :: (tx ++ [34]) else tx
/-- Whether a text's first token is this one. -/
def saysF (l : List UInt8) (k : Int) (tx : List UInt8) : Bool := match rounds l with
  | .tok t :: _ => decide ((t.kind : Int) = k ∧ t.text = tx)
  | _ => false

set_option maxRecDepth 100000 in
set_option maxHeartbeats 1000000 in
theorem own_any (g : GT) (hs : g.text.size < 2305843009213693952) (w : World) : Calls Try.prog 40 #[.agg (gtL g).toArray] w fun e w' => (∃ t : ByteArray, e = .returned (.string t) ∧ t.data.toList = ownF g.kind g.text.data.toList ∧ t.size ≤ g.text.size + 2) ∧ Below w.heap.size w w' := by
  obtain ⟨k, tx, v, a, b, c, d⟩ := g
  dsimp only [gtL] at hs ⊢
  by_cases hk : k = 3
  · have HO : Hid (ownF k tx.data.toList = 34 :: (tx.data.toList ++ [34])) := if_pos hk
    have hk' : ((k : Int) == 3) = true := by simp [hk]
    clear hk
    go_enter Try.func40, Try.ntmps40
    go_wp2_with (first
      | (refine wpList_boxS rfl 38 _ rfl (gtL ⟨k, tx, v, a, b, c, d⟩) rfl ?_; intro W1 b1 F1 N1; have B1 := F1.trans (Below.refl _ w) (Nat.le_refl _); have c0 : W1.cell? ⟨b1, 0, none⟩ = some (.int .i64 k) := N1.cell 0; have c1 : W1.cell? ⟨b1, 1, none⟩ = some (.string tx) := N1.cell 1))
    go_ret
    refine ⟨⟨_, rfl, ?_, ?_⟩, B1⟩
    · rw [HO.out]; simp
    · simp [show (ByteArray.mk #[34]).size = 1 from rfl]; omega
  · have HO : Hid (ownF k tx.data.toList = tx.data.toList) := if_neg hk
    have hk' : ((k : Int) == 3) = false := by simpa using hk
    clear hk
    go_enter Try.func40, Try.ntmps40
    go_wp2_with (first
      | (refine wpList_boxS rfl 38 _ rfl (gtL ⟨k, tx, v, a, b, c, d⟩) rfl ?_; intro W1 b1 F1 N1; have B1 := F1.trans (Below.refl _ w) (Nat.le_refl _); have c0 : W1.cell? ⟨b1, 0, none⟩ = some (.int .i64 k) := N1.cell 0; have c1 : W1.cell? ⟨b1, 1, none⟩ = some (.string tx) := N1.cell 1))
    go_ret
    exact ⟨⟨tx, rfl, HO.out.symm, by omega⟩, B1⟩

/-- What a lexer answers first. -/
def First (l : List UInt8) (en : Ending) : Prop :=
  (∃ t r, rounds l = .tok t :: r ∧ 1 ≤ t.kind ∧ en = .returned (.tuple #[tokV t, .nilIface])) ∨
  (rounds l = [] ∧ ∃ t : Tok, t.kind = 0 ∧ en = .returned (.tuple #[tokV t, .nilIface])) ∨
  ((rounds l ≠ [] ∧ ∀ t r, rounds l ≠ .tok t :: r) ∧ ∃ ty u, en = .returned (.tuple #[tokV noTok, .iface ty u]))
theorem first_any (s : ByteArray) (hs : s.size < 4611686018427387904) (b : Nat) (w : World) (hL : IsS w b 66 (lexL s 0 (1, 1) 0)) :
    Calls Try.prog 15 #[.pointer (some ⟨b, 0, none⟩)] w fun en w' => First s.data.toList en ∧ Turn w w' b := by
  by_cases hl : 1048576 < s.size
  · have hr : rounds s.data.toList = [.long] := if_pos (by rw [← sizeL]; exact hl)
    refine (next_long s hs hl b 0 1 1 0 w hL).mono ?_
    rintro en w' ⟨⟨rfl, _⟩, T⟩
    exact ⟨.inr (.inr ⟨⟨by rw [hr]; simp, fun t r => by rw [hr]; simp⟩, _, _, rfl⟩), T⟩
  · have hl' : s.size ≤ 1048576 := by omega
    have hr : rounds s.data.toList = goF (s.size + 1) s.data.toList 0 (1, 1) := by unfold rounds; rw [← sizeL, if_neg hl]
    obtain ⟨n1, hn⟩ : ∃ n1, (blkF (s.data.toList.drop 0)).1 = n1 := ⟨_, rfl⟩
    obtain ⟨⟨z1, z2⟩, hz⟩ : ∃ z, spotF (1, 1) ((s.data.toList.drop 0).take n1) = z := ⟨_, rfl⟩
    have hnle := blkF_le (s.data.toList.drop 0)
    rw [hn, List.length_drop, ← sizeL] at hnle
    have hzle := spot_le ((s.data.toList.drop 0).take n1) (1, 1)
    rw [hz, List.length_take, List.length_drop, ← sizeL] at hzle
    have hzb : z1 ≤ 1 + n1 ∧ z2 ≤ 1 + n1 := by simp at hzle; omega
    cases hcl : (blkF (s.data.toList.drop 0)).2 with
    | false =>
      refine (next_com s hl' b 0 1 1 n1 z1 z2 (by omega) (by omega) (by omega) hn hcl hz n1 (by omega) w hL).mono ?_
      rintro en w' ⟨⟨⟨g, rfl, _, _⟩, _⟩, T⟩
      exact ⟨.inr (.inr ⟨⟨by rw [hr, go_com hn hcl hz]; simp, fun t r => by rw [hr, go_com hn hcl hz]; simp⟩, _, _, rfl⟩), T⟩
    | true =>
      by_cases hme : n1 = s.size
      · refine (next_end s hl' b 0 1 1 n1 z1 z2 (by omega) (by omega) (by omega) hn hcl hz n1 (by omega) hme w hL).mono ?_
        rintro en w' ⟨⟨rfl, _⟩, T⟩
        exact ⟨.inr (.inl ⟨by rw [hr, go_end hn hcl (by rw [← sizeL]; omega)], _, rfl, rfl⟩), T⟩
      · obtain ⟨⟨kd, tx, vl, ln, wg⟩, hC⟩ : ∃ C, cutF (s.data.toList.drop n1) = C := ⟨_, rfl⟩
        obtain ⟨⟨u1, u2⟩, hu⟩ : ∃ u, spotF (z1, z2) ((s.data.toList.drop n1).take ln) = u := ⟨_, rfl⟩
        by_cases hw : wg = 0
        · subst hw
          have hps := cut_pos (l := s.data.toList.drop n1) (by rw [hC])
          rw [hC] at hps
          refine (next_tok s hl' b 0 1 1 n1 z1 z2 (by omega) (by omega) (by omega) hn hcl hz n1 (by omega) (by omega) kd tx vl ln 0 u1 u2 (n1 + ln) hC hu rfl (by omega) (by omega) rfl w hL).mono ?_
          rintro en w' ⟨⟨rfl, _⟩, T⟩
          exact ⟨.inl ⟨_, _, by rw [hr, go_tok (m := n1) hn hcl (by omega) (by rw [← sizeL]; omega) hz hC hu rfl], hps.2, rfl⟩, T⟩
        · refine (next_wrong s hl' b 0 1 1 n1 z1 z2 (by omega) (by omega) (by omega) hn hcl hz n1 (by omega) (by omega) kd tx vl ln wg u1 u2 (n1 + ln) hC hu rfl (by omega) (by omega) hw w hL).mono ?_
          rintro en w' ⟨⟨⟨g, rfl, _, _⟩, _⟩, T⟩
          exact ⟨.inr (.inr ⟨⟨by rw [hr, go_wrong (m := n1) hn hcl (by omega) (by rw [← sizeL]; omega) hz hC hu hw]; simp, fun t r => by rw [hr, go_wrong (m := n1) hn hcl (by omega) (by rw [← sizeL]; omega) hz hC hu hw]; simp⟩, _, _, rfl⟩), T⟩

theorem says_tok {l : List UInt8} {t : Tok} {r : List Rd} (h : rounds l = .tok t :: r) (k : Int) (tx : List UInt8) : saysF l k tx = decide ((t.kind : Int) = k ∧ t.text = tx) := by unfold saysF; rw [h]
theorem says_nil {l : List UInt8} (h : rounds l = []) (k : Int) (tx : List UInt8) : saysF l k tx = false := by unfold saysF; rw [h]
theorem says_bad {l : List UInt8} (h : ∀ t r, rounds l ≠ .tok t :: r) (k : Int) (tx : List UInt8) : saysF l k tx = false := by
  unfold saysF
  split
  · rename_i t r e; exact absurd e (h t r)
  · rfl
theorem str_eq (a b : ByteArray) : (a.toList == b.toList) = decide (a.data.toList = b.data.toList) := by
  rw [toL, toL, Bool.eq_iff_iff]; simp

theorem first_tok {s : ByteArray} (hs : s.size < 4611686018427387904) {t : Tok} {r : List Rd} (hr : rounds s.data.toList = .tok t :: r) (b : Nat) (w : World) (hL : IsS w b 66 (lexL s 0 (1, 1) 0)) :
    Calls Try.prog 15 #[.pointer (some ⟨b, 0, none⟩)] w fun en w' => (en = .returned (.tuple #[tokV t, .nilIface]) ∧ 1 ≤ t.kind) ∧ Turn w w' b := by
  refine (first_any s hs b w hL).mono ?_
  rintro en w' ⟨⟨t', r', h, hk, rfl⟩ | ⟨h, _⟩ | ⟨h, _⟩, T⟩
  · rw [hr] at h
    cases h
    exact ⟨⟨rfl, hk⟩, T⟩
  · rw [hr] at h; cases h
  · exact absurd hr (h.2 _ _)
theorem first_nil {s : ByteArray} (hs : s.size < 4611686018427387904) (hr : rounds s.data.toList = []) (b : Nat) (w : World) (hL : IsS w b 66 (lexL s 0 (1, 1) 0)) :
    Calls Try.prog 15 #[.pointer (some ⟨b, 0, none⟩)] w fun en w' => (∃ tx v a b' c d, en = .returned (.tuple #[tokV ⟨0, tx, v, a, b', c, d⟩, .nilIface])) ∧ Turn w w' b := by
  refine (first_any s hs b w hL).mono ?_
  rintro en w' ⟨⟨t', r', h, hk, rfl⟩ | ⟨h, ⟨k, tx, v, a, b, c, d⟩, hk, rfl⟩ | ⟨h, ty, u, rfl⟩, T⟩
  · rw [hr] at h; cases h
  · subst hk; exact ⟨⟨_, _, _, _, _, _, rfl⟩, T⟩
  · exact absurd hr h.1
theorem first_bad {s : ByteArray} (hs : s.size < 4611686018427387904) {x : Rd} {r : List Rd} (hr : rounds s.data.toList = x :: r) (hx : ∀ t, x ≠ .tok t) (b : Nat) (w : World) (hL : IsS w b 66 (lexL s 0 (1, 1) 0)) :
    Calls Try.prog 15 #[.pointer (some ⟨b, 0, none⟩)] w fun en w' => (∃ ty u, en = .returned (.tuple #[tokV noTok, .iface ty u])) ∧ Turn w w' b := by
  refine (first_any s hs b w hL).mono ?_
  rintro en w' ⟨⟨t', r', h, hk, rfl⟩ | ⟨h, _⟩ | ⟨h, ty, u, rfl⟩, T⟩
  · rw [hr] at h; cases h; exact absurd rfl (hx _)
  · rw [hr] at h; cases h
  · exact ⟨⟨ty, u, rfl⟩, T⟩

set_option maxRecDepth 100000 in
set_option maxHeartbeats 2000000 in
theorem says_t (s : ByteArray) (hs : s.size < 4611686018427387904) (k : Int) (tx : ByteArray) (v a b c d : Int) (w : World) (t : Tok) (r : List Rd) (hr : rounds s.data.toList = .tok t :: r) : Calls Try.prog 41 #[.string s, .agg (gtL ⟨k, tx, v, a, b, c, d⟩).toArray] w fun e w' => e = .returned (.bool (saysF s.data.toList k tx.data.toList)) ∧ Below w.heap.size w w' := by
  have cN := fun w => new_any s w
  have cF := fun (b : Nat) (w : World) (h : IsS w b 66 (lexL s 0 (1, 1) 0)) => first_tok hs hr b w h
  have HS : Hid (saysF s.data.toList k tx.data.toList = decide ((t.kind : Int) = k ∧ t.text = tx.data.toList)) := says_tok hr k _
  clear hr
  dsimp only [gtL]
  go_enter Try.func41, Try.ntmps41
  go_wp2_with (first
    | (refine wpList_boxS rfl 38 _ rfl (gtL ⟨k, tx, v, a, b, c, d⟩) rfl ?_; intro W1 b1 F1 N1; have B1 := F1.trans (Below.refl _ w) (Nat.le_refl _); clear F1)
    | (go_at_call 9; refine (cN _).mono ?_; rintro e W2 ⟨⟨bl, rfl, hbl, L2⟩, B2⟩; have N2 := N1.grown B2; have B3 := B1.trans (B2.mono B1.size); have hblw : w.heap.size ≤ bl := Nat.le_trans B1.size hbl; have hn1 : b1 ≠ bl := (by have := N1.lt; omega); clear B1 B2 N1)
    | (go_at_call 15; refine (cF bl _ L2).mono ?_; rintro en W3 ⟨⟨rfl, hk⟩, T3⟩; have N3 := N2.turn T3 hn1; have B4 := Turn.below B3 hblw B3.size T3; clear T3 N2 B3 cF cN)
    | (refine wpList_allocS rfl 38 rfl (tokL noTok) Try.zeroValue38 ?_; intro W4 b4 F4 M4; have N4 := N3.fresh F4; have B5 := F4.trans B4 B4.size; have hb4 : w.heap.size ≤ b4 := Nat.le_trans B4.size (Nat.le_of_eq F4.at'.symm); have hn4 : b1 ≠ b4 := (by have := N3.lt; have := F4.at'; omega); clear F4 N3 B4; refine Hid.out ?_))
  refine Lib.hid ?_
  refine wpList_storeS rfl 38 _ _ rfl rfl (tokL t) rfl M4 (by simp [tokL, noTok]) info38 (tok_one _) ?_
  intro W5 U5 M5x
  have M5 : IsS W5 b4 38 (tokL t) := M5x
  have N5 := N4.upd U5 hn4
  have B6 := U5.trans B5 hb4
  have c0 : W5.cell? ⟨b1, 0, none⟩ = some (.int .i64 k) := N5.cell 0
  have c1 : W5.cell? ⟨b1, 1, none⟩ = some (.string tx) := N5.cell 1
  have d0 : W5.cell? ⟨b4, 0, none⟩ = some (.int .i64 (t.kind : Int)) := M5.cell 0
  have d1 : W5.cell? ⟨b4, 1, none⟩ = some (.string ⟨t.text.toArray⟩) := M5.cell 1
  clear M5x U5 M4 N4 B5 M5 N5
  have x0 : ((t.kind : Int) == 0) = false := by simp; omega
  have x0' : ((t.kind : Int) != 0) = true := by simp; omega
  by_cases hkk : (t.kind : Int) = k
  · have y : ((t.kind : Int) == k) = true := by simpa using hkk
    have HS2 : Hid (saysF s.data.toList k tx.data.toList = decide (t.text = tx.data.toList)) := (by show _ = _; rw [HS.out, Bool.eq_iff_iff]; simp [hkk])
    clear hkk HS
    go_wp2_with fail
    go_ret
    exact ⟨ret_bool (by rw [HS2.out, toL, Bool.eq_iff_iff]; simp), B6⟩
  · have y : ((t.kind : Int) == k) = false := by simpa using hkk
    have HS2 : Hid (saysF s.data.toList k tx.data.toList = false) := (by show _ = _; rw [HS.out]; exact decide_eq_false (fun h => hkk h.1))
    clear hkk HS
    go_wp2_with fail
    go_ret
    exact ⟨ret_bool (by rw [HS2.out]), B6⟩
set_option maxRecDepth 100000 in
set_option maxHeartbeats 2000000 in
theorem says_n (s : ByteArray) (hs : s.size < 4611686018427387904) (k : Int) (tx : ByteArray) (v a b c d : Int) (w : World) (hr : rounds s.data.toList = []) : Calls Try.prog 41 #[.string s, .agg (gtL ⟨k, tx, v, a, b, c, d⟩).toArray] w fun e w' => e = .returned (.bool (saysF s.data.toList k tx.data.toList)) ∧ Below w.heap.size w w' := by
  have cN := fun w => new_any s w
  have cF := fun (b : Nat) (w : World) (h : IsS w b 66 (lexL s 0 (1, 1) 0)) => first_nil hs hr b w h
  have HS : Hid (saysF s.data.toList k tx.data.toList = false) := says_nil hr k _
  clear hr
  dsimp only [gtL]
  go_enter Try.func41, Try.ntmps41
  go_wp2_with (first
    | (refine wpList_boxS rfl 38 _ rfl (gtL ⟨k, tx, v, a, b, c, d⟩) rfl ?_; intro W1 b1 F1 N1; have B1 := F1.trans (Below.refl _ w) (Nat.le_refl _); clear F1)
    | (go_at_call 9; refine (cN _).mono ?_; rintro e W2 ⟨⟨bl, rfl, hbl, L2⟩, B2⟩; have N2 := N1.grown B2; have B3 := B1.trans (B2.mono B1.size); have hblw : w.heap.size ≤ bl := Nat.le_trans B1.size hbl; have hn1 : b1 ≠ bl := (by have := N1.lt; omega); clear B1 B2 N1)
    | (go_at_call 15; refine (cF bl _ L2).mono ?_; rintro en W3 ⟨⟨e1, e2, e3, e4, e5, e6, rfl⟩, T3⟩; have N3 := N2.turn T3 hn1; have B4 := Turn.below B3 hblw B3.size T3; clear T3 N2 B3 cF cN)
    | (refine wpList_allocS rfl 38 rfl (tokL noTok) Try.zeroValue38 ?_; intro W4 b4 F4 M4; have N4 := N3.fresh F4; have B5 := F4.trans B4 B4.size; have hb4 : w.heap.size ≤ b4 := Nat.le_trans B4.size (Nat.le_of_eq F4.at'.symm); have hn4 : b1 ≠ b4 := (by have := N3.lt; have := F4.at'; omega); clear F4 N3 B4; refine Hid.out ?_))
  refine Lib.hid ?_
  refine wpList_storeS rfl 38 _ _ rfl rfl (tokL (Tok.mk 0 e1 e2 e3 e4 e5 e6)) rfl M4 (by simp [tokL, noTok]) info38 (tok_one _) ?_
  intro W5 U5 M5x
  have M5 : IsS W5 b4 38 (tokL (Tok.mk 0 e1 e2 e3 e4 e5 e6)) := M5x
  have N5 := N4.upd U5 hn4
  have B6 := U5.trans B5 hb4
  have c0 : W5.cell? ⟨b1, 0, none⟩ = some (.int .i64 k) := N5.cell 0
  have c1 : W5.cell? ⟨b1, 1, none⟩ = some (.string tx) := N5.cell 1
  have d0 : W5.cell? ⟨b4, 0, none⟩ = some (.int .i64 ((Tok.mk 0 e1 e2 e3 e4 e5 e6).kind : Int)) := M5.cell 0
  have d1 : W5.cell? ⟨b4, 1, none⟩ = some (.string ⟨(Tok.mk 0 e1 e2 e3 e4 e5 e6).text.toArray⟩) := M5.cell 1
  clear M5x U5 M4 N4 B5 M5 N5
  go_wp2_with fail
  go_ret
  exact ⟨ret_bool (by rw [HS.out]), B6⟩
set_option maxRecDepth 100000 in
set_option maxHeartbeats 2000000 in
theorem says_b (s : ByteArray) (hs : s.size < 4611686018427387904) (k : Int) (tx : ByteArray) (v a b c d : Int) (w : World) (x : Rd) (r : List Rd) (hr : rounds s.data.toList = x :: r) (hx : ∀ t, x ≠ .tok t) : Calls Try.prog 41 #[.string s, .agg (gtL ⟨k, tx, v, a, b, c, d⟩).toArray] w fun e w' => e = .returned (.bool (saysF s.data.toList k tx.data.toList)) ∧ Below w.heap.size w w' := by
  have cN := fun w => new_any s w
  have cF := fun (b : Nat) (w : World) (h : IsS w b 66 (lexL s 0 (1, 1) 0)) => first_bad hs hr hx b w h
  have HS : Hid (saysF s.data.toList k tx.data.toList = false) := says_bad (fun t r' e => by rw [hr] at e; cases e; exact hx _ rfl) k _
  clear hr hx
  dsimp only [gtL]
  go_enter Try.func41, Try.ntmps41
  go_wp2_with (first
    | (refine wpList_boxS rfl 38 _ rfl (gtL ⟨k, tx, v, a, b, c, d⟩) rfl ?_; intro W1 b1 F1 N1; have B1 := F1.trans (Below.refl _ w) (Nat.le_refl _); clear F1)
    | (go_at_call 9; refine (cN _).mono ?_; rintro e W2 ⟨⟨bl, rfl, hbl, L2⟩, B2⟩; have N2 := N1.grown B2; have B3 := B1.trans (B2.mono B1.size); have hblw : w.heap.size ≤ bl := Nat.le_trans B1.size hbl; have hn1 : b1 ≠ bl := (by have := N1.lt; omega); clear B1 B2 N1)
    | (go_at_call 15; refine (cF bl _ L2).mono ?_; rintro en W3 ⟨⟨ty, u, rfl⟩, T3⟩; have N3 := N2.turn T3 hn1; have B4 := Turn.below B3 hblw B3.size T3; clear T3 N2 B3 cF cN)
    | (refine wpList_allocS rfl 38 rfl (tokL noTok) Try.zeroValue38 ?_; intro W4 b4 F4 M4; have N4 := N3.fresh F4; have B5 := F4.trans B4 B4.size; have hb4 : w.heap.size ≤ b4 := Nat.le_trans B4.size (Nat.le_of_eq F4.at'.symm); have hn4 : b1 ≠ b4 := (by have := N3.lt; have := F4.at'; omega); clear F4 N3 B4; refine Hid.out ?_))
  refine Lib.hid ?_
  refine wpList_storeS rfl 38 _ _ rfl rfl (tokL noTok) rfl M4 (by simp [tokL, noTok]) info38 (tok_one _) ?_
  intro W5 U5 M5x
  have M5 : IsS W5 b4 38 (tokL noTok) := M5x
  have N5 := N4.upd U5 hn4
  have B6 := U5.trans B5 hb4
  have c0 : W5.cell? ⟨b1, 0, none⟩ = some (.int .i64 k) := N5.cell 0
  have c1 : W5.cell? ⟨b1, 1, none⟩ = some (.string tx) := N5.cell 1
  have d0 : W5.cell? ⟨b4, 0, none⟩ = some (.int .i64 (noTok.kind : Int)) := M5.cell 0
  have d1 : W5.cell? ⟨b4, 1, none⟩ = some (.string ⟨noTok.text.toArray⟩) := M5.cell 1
  clear M5x U5 M4 N4 B5 M5 N5
  go_wp2_with fail
  go_ret
  exact ⟨ret_bool (by rw [HS.out]), B6⟩
theorem says_any (s : ByteArray) (hs : s.size < 4611686018427387904) (g : GT) (w : World) : Calls Try.prog 41 #[.string s, .agg (gtL g).toArray] w fun e w' => e = .returned (.bool (saysF s.data.toList g.kind g.text.data.toList)) ∧ Below w.heap.size w w' := by
  obtain ⟨k, tx, v, a, b, c, d⟩ := g
  cases hr : rounds s.data.toList with
  | nil => exact says_n s hs k tx v a b c d w hr
  | cons x r =>
    cases x with
    | tok t => exact says_t s hs k tx v a b c d w t r hr
    | pos x y e => exact says_b s hs k tx v a b c d w _ r hr (fun t h => by cases h)
    | long => exact says_b s hs k tx v a b c d w _ r hr (fun t h => by cases h)
end Go.Proofs.Ytbelajboalikcaa
