/- Several texts in one: X6, PA. -/
import Derived.Test.YtjnbhcakfenbhaaGreatDoorQai
import Derived.Test.YtjnbhcakfenbhaaGreatDoorQbc
import Derived.Test.YtjnbhcakfenbhaaGreatDoorQbd
import Derived.Test.YtjnbhcakfenbhaaGreatDoorQbg
/- The reference's Place; the law LexisPlaces. -/
namespace Go.Proofs.YtjnbhcakfenbhaaGreatDoor
open Go.RowKit M
set_option linter.unusedSimpArgs false
set_option linter.unusedVariables false

/-- What Place answers. -/
def placeV (s : ByteArray) (p : Int) : Value := if 0 ≤ p ∧ p ≤ s.size then .tuple #[.int .i64 ((spotF (1, 1) (s.data.toList.take p.toNat)).1 : Nat), .int .i64 ((spotF (1, 1) (s.data.toList.take p.toNat)).2 : Nat), .bool true] else .tuple #[.int .i64 0, .int .i64 0, .bool false]

set_option maxRecDepth 100000 in
set_option maxHeartbeats 1000000 in
theorem place_any (s : ByteArray) (hs : s.size < 4611686018427387904) (p : Int) (w : World) : Calls Tryz.prog 15 #[.string s, .int .i64 p] w fun e w' => e = .returned (placeV s p) ∧ Below w.heap.size w w' := by
  by_cases h : 0 ≤ p ∧ p ≤ s.size
  · obtain ⟨q, rfl⟩ : ∃ q : Nat, p = q := ⟨p.toNat, by omega⟩
    refine (place_in s hs q (by omega) w).mono ?_
    rintro e w' ⟨rfl, hB⟩
    exact ⟨by unfold placeV; rw [if_pos h]; rfl, hB⟩
  · have hE : Hid (placeV s p = .tuple #[.int .i64 0, .int .i64 0, .bool false]) := if_neg h
    by_cases h1 : p < 0
    · clear h
      go_enter Tryz.func15, Tryz.ntmps15
      go_wp2
      go_ret3
      exact ⟨by rw [hE.out]; rfl, Below.refl _ _⟩
    · have h2 : (s.size : Int) < p := by omega
      clear h
      go_enter Tryz.func15, Tryz.ntmps15
      go_wp2
      go_ret3
      exact ⟨by rw [hE.out]; rfl, Below.refl _ _⟩

theorem spot_snoc (s : ByteArray) (n : Nat) (h : n < s.size) (p : Nat × Nat) : spotF p (s.data.toList.take (n + 1)) = stepP (spotF p (s.data.toList.take n)) s[n] := by
  rw [List.take_succ_eq_append_getElem (by simpa using h), spot_app]; rfl

set_option maxRecDepth 100000 in
set_option maxHeartbeats 1000000 in
theorem rplace_any (s : ByteArray) (hs : s.size < 4611686018427387904) (p : Int) (w : World) : Calls Tryz.prog 18 #[.string s, .int .i64 p] w fun e w' => e = .returned (placeV s p) ∧ w' = w := by
  by_cases h : 0 ≤ p ∧ p ≤ s.size
  · obtain ⟨q, rfl⟩ : ∃ q : Nat, p = q := ⟨p.toNat, by omega⟩
    have hE : Hid (placeV s q = .tuple #[.int .i64 ((spotF (1, 1) (s.data.toList.take q)).1 : Nat), .int .i64 ((spotF (1, 1) (s.data.toList.take q)).2 : Nat), .bool true]) := if_pos h
    have h1 : ¬ ((q : Int) < 0) := by omega
    have h2 : ¬ ((s.size : Int) < q) := by omega
    have h2' : ¬ (s.size < q) := by omega
    have hq : q ≤ s.size := by omega
    clear h
    go_enter Tryz.func18, Tryz.ntmps18
    go_wp2
    go_loop [7, 8, 9] (fun l c i => ∃ k a b : Nat, k ≤ q ∧ i = .int .i64 (k : Int) ∧ l = .int .i64 (a : Int) ∧ c = .int .i64 (b : Int) ∧ a < 4611686018427387905 + k ∧ b < 4611686018427387905 + k ∧ Hid (spotF (1, 1) (s.data.toList.take k) = (a, b))) (fun _ _ i => q - (intOf i).toNat)
    case atStart => exact ⟨0, 1, 1, by omega, rfl, rfl, rfl, by omega, by omega, rfl⟩
    case round =>
      obtain ⟨k, a, b, hk, rfl, rfl, rfl, ha, hb, HK⟩ := hrel
      by_cases hlt : k < q
      · have hks : k < s.size := by omega
        have hi : (k : Int) < q := by omega
        have hi2 : (k : Int) < s.size := by omega
        by_cases h10 : s[k].toNat = 10
        · have x : ((s[k].toNat : Int) == 10) = true := by simp; omega
          have HN : Hid (spotF (1, 1) (s.data.toList.take (k + 1)) = (a + 1, 1)) := (by show spotF _ _ = _; rw [spot_snoc s k hks, HK.out]; exact if_pos h10)
          clear h10 HK
          go_wp2
          go_round
          case rel => exact ⟨k + 1, a + 1, 1, by omega, by go_num, by go_num, rfl, by omega, by omega, HN⟩
          case measure => simp [intOf]; omega
        · have x : ((s[k].toNat : Int) == 10) = false := by simp; omega
          have HN : Hid (spotF (1, 1) (s.data.toList.take (k + 1)) = (a, b + 1)) := (by show spotF _ _ = _; rw [spot_snoc s k hks, HK.out]; exact if_neg h10)
          clear h10 HK
          go_wp2
          go_round
          case rel => exact ⟨k + 1, a, b + 1, by omega, by go_num, rfl, by go_num, by omega, by omega, HN⟩
          case measure => simp [intOf]; omega
      · obtain rfl : k = q := by omega
        rw [HK.out] at hE
        go_wp2
        go_ret3
        exact ⟨by rw [hE.out]; rfl, rfl⟩
  · have hE : Hid (placeV s p = .tuple #[.int .i64 0, .int .i64 0, .bool false]) := if_neg h
    by_cases h1 : p < 0
    · clear h
      go_enter Tryz.func18, Tryz.ntmps18
      go_wp2
      go_ret3
      exact ⟨by rw [hE.out]; rfl, rfl⟩
    · have h2 : (s.size : Int) < p := by omega
      clear h
      go_enter Tryz.func18, Tryz.ntmps18
      go_wp2
      go_ret3
      exact ⟨by rw [hE.out]; rfl, rfl⟩

theorem placeV_eq (s : ByteArray) (p : Int) : ∃ a b : Int, ∃ c : Bool, placeV s p = .tuple #[.int .i64 a, .int .i64 b, .bool c] := by
  unfold placeV
  split
  · exact ⟨_, _, _, rfl⟩
  · exact ⟨_, _, _, rfl⟩

end Go.Proofs.YtjnbhcakfenbhaaGreatDoor
/- cond.Parse. -/
namespace Go.Proofs.YtjnbhcakfenbhaaGreatDoor
open Go.RowKit M
set_option linter.unusedSimpArgs false
set_option linter.unusedVariables false

def endT (L C : Int) (n : Nat) : GT := ⟨0, ⟨#[]⟩, 0, L, C, n, n⟩
/-- What is read of tokens with an end behind them: the nodes and what is wrong. -/
def parseN (gs : List GT) : List Nd := if (takeR gs 0).F.isSome = true then [] else if (gAt gs (takeR gs 0).k).kind = 0 then (takeR gs 0).nodes else []
def parseF (gs : List GT) : Option (Int × Int × Int) := if (takeR gs 0).F.isSome = true then (takeR gs 0).F else if (gAt gs (takeR gs 0).k).kind = 0 then none else some ((gAt gs (takeR gs 0).k).line, (gAt gs (takeR gs 0).k).col, 70)
theorem gAt_last (us : List GT) (g : GT) : gAt (us ++ [g]) us.length = g := by unfold gAt; simp
theorem own_snocG {W : World} {B n : Nat} {v : Value} {us : List GT} {g : GT} (h : W.ownsRow B 49 7 v (n + [g].length) (cellsG us ++ cellsG [g])) : W.ownsRow B 49 7 v (n + 1) (cellsG (us ++ [g])) := by
  have e : cellsG (us ++ [g]) = cellsG us ++ cellsG [g] := by simp [cellsG]
  rw [e]; exact h
theorem toks_snocG {W : World} {B n g c : Nat} {us : List GT} {x : GT} (h : W.ownsRow B 49 7 (.slice (some ⟨g, 0, none⟩) (n + 1) c) (n + 1) (cellsG (us ++ [x]))) (hn : us.length = n) : Toks W (some ⟨g, 0, none⟩) (us ++ [x]) := by
  obtain ⟨a', c', e', T'⟩ := own_toks h (by rw [List.length_append, hn]; rfl)
  injection e' with h1 h2 h3; subst h1; exact T'
theorem own_raise {W : World} {B B' t s n : Nat} {v : Value} {xs : List Value} (h : W.ownsRow B' t s v n xs) (hb : B ≤ B') : W.ownsRow B t s v n xs := by
  refine ⟨h.1, ?_⟩
  rcases h.2 with hn | ⟨g, cap, cur, rfl, hg, rest⟩
  · exact Or.inl hn
  · exact Or.inr ⟨g, cap, cur, rfl, Nat.le_trans hb hg, rest⟩
theorem ownN_nil (W : World) (B : Nat) : W.ownsRow B 62 6 (.slice none 0 0) ([] : List Nd).length (cellsL []) := ⟨rfl, .inl ⟨rfl, rfl⟩⟩
theorem run_boxP {op : Oper} {a : Act} {w : World} (x : Operand) (ho : op.op = .box 54 x) (cs : List Value) (hx : a.eval x = .agg cs.toArray) :
    ∃ v W, (execOp a.eval op).run Tryz.prog w = .ok (.value v) W ∧ (∃ b, v = .pointer (some ⟨b, 0, none⟩) ∧ Fresh w W b ∧ IsS W b 54 cs) := by
  refine ⟨_, _, ?_, _, rfl, Fresh.alloc w (.cells cs.toArray 54), IsS.new w 54 cs⟩
  unfold execOp
  simp only [ho, hx]
  have hb : (Instr.box 54 (.agg cs.toArray)).run Tryz.prog w = .ok (.pointer (some ⟨w.heap.size, 0, none⟩)) (w.alloc (.cells cs.toArray 54)) := by
    simp [go_sem, Value.cells]
  simp only [Sem.run_bind, hb, Result.andThen_ok, Sem.run_pure]
/-- What Parse answers. -/
structure ParseP (N : List Nd) (F : Option (Int × Int × Int)) (w : World) (en : Ending) (w' : World) : Prop where
  ans : ∃ v ev, en = .returned (.tuple #[v, ev]) ∧ w'.ownsRow w.heap.size 62 6 v N.length (cellsL N) ∧ FaultIs F ev w'
  few : N.length ≤ 1024
  bel : Below w.heap.size w w'
set_option maxRecDepth 100000 in
set_option maxHeartbeats 4000000 in
/-- The lexer's error is Parse's. -/
theorem pparse_lex (s : ByteArray) (F : Option (Int × Int × Int)) (w : World)
    (cA : Calls Tryz.prog 14 #[.string s] w fun en w' => (∃ t u, en = .returned (.tuple #[.slice none 0 0, .iface t u]) ∧ FaultIs F (.iface t u) w') ∧ Below w.heap.size w w') :
    Calls Tryz.prog 5 #[.string s] w fun en w' => ParseP [] F w en w' := by
  go_enter Tryz.func5, Tryz.ntmps5
  go_wp2_with (go_at_call 14; refine cA.mono ?_; rintro en W1 ⟨⟨t, u, rfl, FI⟩, B1⟩; clear cA)
  go_ret2
  exact ⟨⟨_, _, rfl, ownN_nil _ _, FI⟩, by simp, B1⟩
set_option maxRecDepth 100000 in
set_option maxHeartbeats 8000000 in
theorem pparse_any (s : ByteArray) (us : List GT) (hus : us.length ≤ 1048576) (htx : ∀ g ∈ us, g.text.size ≤ maxLen) (hsz : s.size < 4611686018427387904) (L C : Int) (w : World) (hE : EType w)
    (cA : Calls Tryz.prog 14 #[.string s] w fun en w' => (∃ v, en = .returned (.tuple #[v, .nilIface]) ∧ w'.ownsRow w.heap.size 49 7 v us.length (cellsG us)) ∧ Below w.heap.size w w')
    (cL : ∀ W, Calls Tryz.prog 15 #[.string s, .int .i64 (s.size : Int)] W fun en w' => en = .returned (.tuple #[.int .i64 L, .int .i64 C, .bool true]) ∧ Below W.heap.size W w') :
    Calls Tryz.prog 5 #[.string s] w fun en w' => ParseP (parseN (us ++ [endT L C s.size])) (parseF (us ++ [endT L C s.size])) w en w' := by
  obtain ⟨x, hx⟩ : ∃ x, endT L C s.size = x := ⟨_, rfl⟩
  have HX : Hid (gtL x = [.int .i64 0, .string ⟨#[]⟩, .int .i64 0, .int .i64 L, .int .i64 C, .int .i64 (s.size : Int), .int .i64 (s.size : Int)]) := (by show gtL x = _; rw [← hx]; rfl)
  have hxk : x.kind = 0 := by rw [← hx]; rfl
  have hxt : x.text.size ≤ maxLen := by rw [← hx]; exact Nat.zero_le _
  rw [hx]
  clear hx
  obtain ⟨n, hn⟩ : ∃ n, us.length = n := ⟨_, rfl⟩
  have HN : Hid (us.length = n) := hn
  obtain ⟨gs, hgs⟩ : ∃ gs, us ++ [x] = gs := ⟨_, rfl⟩
  have HG : Hid (us ++ [x] = gs) := hgs
  have HGL : Hid (gs.length = n + 1) := (by show gs.length = _; rw [← hgs, List.length_append, hn]; rfl)
  have hf : Few gs := ⟨by rw [HGL.out]; omega, fun g hg => by
    rw [← hgs] at hg
    rcases List.mem_append.1 hg with h | h
    · exact htx g h
    · rw [List.mem_singleton.1 h]; exact hxt⟩
  have hk : (takeR gs 0).k ≤ n := takeR_un (by rw [← hgs, ← hn, gAt_last]; exact hxk) (Nat.zero_le _)
  have cT : ∀ W g c, Toks W (some ⟨g, 0, none⟩) gs → g < W.heap.size → Calls Tryz.prog 16 #[.slice (some ⟨g, 0, none⟩) (n + 1) c, .int .i64 0] W fun en W' => TakeP gs 0 W en W' := fun W g c h1 h2 => by
    have := take_any (cap := c) hf 0 (Nat.zero_le _) W h1 (fun b o e => by cases e; exact h2)
    rw [HGL.out] at this
    exact this
  rw [hn] at cA
  rw [hgs]
  have hn' : n ≤ 1048576 := by omega
  clear hn hgs hus htx hf hxt hxk
  have hsI : ((s.size : Nat) : Int) < 4611686018427387904 := by omega
  have t1 : True := trivial
  have t2 : True := trivial
  have t3 : True := trivial
  have t4 : True := trivial
  cases hF : (takeR gs 0).F with
  | some f =>
    have HN2 : Hid (parseN gs = []) := (by show parseN gs = _; unfold parseN; rw [hF]; rfl)
    have HF2 : Hid (parseF gs = some f) := (by show parseF gs = _; unfold parseF; rw [hF]; rfl)
    go_enter Tryz.func5, Tryz.ntmps5
    go_wp2_with (first
      | (clear t1; go_at_call 14; refine cA.mono ?_; rintro en W1 ⟨⟨v1, rfl, O1⟩, B1⟩; have hs1 : w.heap.size ≤ W1.heap.size := B1.size; obtain ⟨a1, c1, rfl⟩ := own_formN O1; clear cA)
      | (clear t2; go_at_call 15; refine (cL _).mono ?_; rintro en W2 ⟨rfl, B2x⟩; have B2 := Below.then B1 B2x; have O2 := own_grN O1 B2x; clear cL B2x O1)
      | (clear t3; refine wpList_buildG rfl _ rfl x (by rw [HX.out]; rfl) ?_; intro W3 b3 F3 I3; have B3 := F3.trans B2 B2.size; have O3 := own_grN O2 (F3.trans (Below.refl _ W2) (Nat.le_refl _)); clear F3 O2)
      | (clear t4; at_builtin; refine wpList_appTs rfl _ _ rfl w.heap.size _ n (cellsG us) rfl O3 (some ⟨b3, 0, none⟩) 1 [x] rfl (toks_one I3) (fun e => by cases e) (by simp only [List.length_cons, List.length_nil]; omega) B3.size ?_; intro v4 W4 O4x G4; have B4 := grown_below B3 B3.size O3 G4; have O4 := own_snocG O4x; obtain ⟨g, c4, rfl, hc4⟩ := own_some O4; have TA4 : Toks W4 (some ⟨g, 0, none⟩) gs := (by rw [← HG.out]; exact toks_snocG O4 HN.out); have hg4 : g < W4.heap.size := own_lt O4; clear G4 O3 I3 O4 O4x)
      | (go_at_call 16; refine (cT _ g c4 TA4 hg4).mono ?_; rintro en W5 P5; obtain ⟨bp, rfl, hbp, I5⟩ := P5.bad f hF; have B5 := Below.then B4 P5.bel; clear P5 cT TA4))
    go_ret2
    refine ⟨⟨_, _, rfl, ?_, ?_⟩, ?_, B5⟩
    · rw [HN2.out]; exact ownN_nil _ _
    · rw [HF2.out]
      exact fun V hV => fault_pos bp f.1 f.2.1 f.2.2 V ((hE.below B5).below hV) (IsS.grown I5 hV)
    · rw [HN2.out]; simp
  | none =>
    obtain ⟨k, hkk⟩ : ∃ k, (takeR gs 0).k = k := ⟨_, rfl⟩
    have HK : Hid ((takeR gs 0).k = k) := hkk
    rw [hkk] at hk
    have hkI : (k : Int) < (n : Int) + 1 := by omega
    obtain ⟨tk, htk⟩ : ∃ tk, gs[k]? = some tk := ⟨_, List.getElem?_eq_getElem (by rw [HGL.out]; omega)⟩
    have htg : gAt gs k = tk := by unfold gAt; rw [htk]; rfl
    have t5 : True := trivial
    have t6 : True := trivial
    have t7 : True := trivial
    by_cases hz : tk.kind = 0
    · have HN2 : Hid (parseN gs = (takeR gs 0).nodes) := (by show parseN gs = _; unfold parseN; rw [hF, hkk, htg, if_neg (by simp), if_pos hz])
      have HF2 : Hid (parseF gs = none) := (by show parseF gs = _; unfold parseF; rw [hF, hkk, htg, if_neg (by simp), if_pos hz])
      have hzb : (tk.kind == 0) = true := by simpa using hz
      clear hkk htg
      go_enter Tryz.func5, Tryz.ntmps5
      go_wp2_with (first
        | (clear t1; go_at_call 14; refine cA.mono ?_; rintro en W1 ⟨⟨v1, rfl, O1⟩, B1⟩; have hs1 : w.heap.size ≤ W1.heap.size := B1.size; obtain ⟨a1, c1, rfl⟩ := own_formN O1; clear cA)
        | (clear t2; go_at_call 15; refine (cL _).mono ?_; rintro en W2 ⟨rfl, B2x⟩; have B2 := Below.then B1 B2x; have O2 := own_grN O1 B2x; clear cL B2x O1)
        | (clear t3; refine wpList_buildG rfl _ rfl x (by rw [HX.out]; rfl) ?_; intro W3 b3 F3 I3; have B3 := F3.trans B2 B2.size; have O3 := own_grN O2 (F3.trans (Below.refl _ W2) (Nat.le_refl _)); clear F3 O2)
        | (clear t4; at_builtin; refine wpList_appTs rfl _ _ rfl w.heap.size _ n (cellsG us) rfl O3 (some ⟨b3, 0, none⟩) 1 [x] rfl (toks_one I3) (fun e => by cases e) (by simp only [List.length_cons, List.length_nil]; omega) B3.size ?_; intro v4 W4 O4x G4; have B4 := grown_below B3 B3.size O3 G4; have O4 := own_snocG O4x; obtain ⟨g, c4, rfl, hc4⟩ := own_some O4; have TA4 : Toks W4 (some ⟨g, 0, none⟩) gs := (by rw [← HG.out]; exact toks_snocG O4 HN.out); have hg4 : g < W4.heap.size := own_lt O4; clear G4 O3 I3 O4 O4x)
        | (go_at_call 16; refine (cT _ g c4 TA4 hg4).mono ?_; rintro en W5 P5; obtain ⟨v5, rfl, O5x, h1024⟩ := P5.good hF; have B5 := Below.then B4 P5.bel; have O5 := own_raise O5x B4.size; obtain ⟨b', o', e', hb5, r5x⟩ := (TA4.below P5.bel) k tk htk; cases e'; rw [Nat.zero_add] at r5x; rw [HK.out]; obtain ⟨a5, c5, rfl⟩ := own_formN O5; clear P5 cT TA4 O5x)
        | (clear t5; refine wpList_load_mid rfl 49 _ rfl g (k * 7) rfl (gtL tk) _ r5x Tryz.underlying49 rfl infoTok ?_)
        | (clear t6; refine wpList_allocS rfl 49 rfl (gtL noGT) Tryz.zeroValue49 ?_; intro W6 b6 F6 I6; have B6 := F6.trans B5 B5.size; have h6 : w.heap.size ≤ b6 := Nat.le_trans B5.size (Nat.le_of_eq F6.at'.symm); have h65 : W5.heap.size ≤ b6 := Nat.le_of_eq F6.at'.symm; have Q6 : Below W5.heap.size W5 W6 := F6.trans (Below.refl _ W5) (Nat.le_refl _); clear F6)
        | (clear t7; refine wpList_storeS rfl 49 _ _ rfl rfl (gtL tk) rfl I6 (by simp [gtL]) infoTok (gt_one _) ?_; intro W7 U7 I7x; have I7 : IsS W7 b6 49 (gtL tk) := I7x; have B7 := U7.trans B6 h6; have Q7 := U7.trans Q6 h65; have O7 := own_grN O5 Q7; have k7 : W7.cell? ⟨b6, 0, none⟩ = some (.int .i64 tk.kind) := I7.cell 0; clear U7 I6 I7x Q6 Q7 O5))
      go_ret2
      refine ⟨⟨_, _, rfl, ?_, ?_⟩, ?_, B7⟩
      · rw [HN2.out]; exact O7
      · rw [HF2.out]; exact fun V hV => fault_nil V
      · rw [HN2.out]; exact h1024
    · have HN2 : Hid (parseN gs = []) := (by show parseN gs = _; unfold parseN; rw [hF, hkk, htg, if_neg (by simp), if_neg hz])
      have HF2 : Hid (parseF gs = some (tk.line, tk.col, 70)) := (by show parseF gs = _; unfold parseF; rw [hF, hkk, htg, if_neg (by simp), if_neg hz])
      have hzb : (tk.kind == 0) = false := by simpa using hz
      clear hkk htg hz
      go_enter Tryz.func5, Tryz.ntmps5
      go_wp2_with (first
        | (clear t1; go_at_call 14; refine cA.mono ?_; rintro en W1 ⟨⟨v1, rfl, O1⟩, B1⟩; have hs1 : w.heap.size ≤ W1.heap.size := B1.size; obtain ⟨a1, c1, rfl⟩ := own_formN O1; clear cA)
        | (clear t2; go_at_call 15; refine (cL _).mono ?_; rintro en W2 ⟨rfl, B2x⟩; have B2 := Below.then B1 B2x; have O2 := own_grN O1 B2x; clear cL B2x O1)
        | (clear t3; refine wpList_buildG rfl _ rfl x (by rw [HX.out]; rfl) ?_; intro W3 b3 F3 I3; have B3 := F3.trans B2 B2.size; have O3 := own_grN O2 (F3.trans (Below.refl _ W2) (Nat.le_refl _)); clear F3 O2)
        | (clear t4; at_builtin; refine wpList_appTs rfl _ _ rfl w.heap.size _ n (cellsG us) rfl O3 (some ⟨b3, 0, none⟩) 1 [x] rfl (toks_one I3) (fun e => by cases e) (by simp only [List.length_cons, List.length_nil]; omega) B3.size ?_; intro v4 W4 O4x G4; have B4 := grown_below B3 B3.size O3 G4; have O4 := own_snocG O4x; obtain ⟨g, c4, rfl, hc4⟩ := own_some O4; have TA4 : Toks W4 (some ⟨g, 0, none⟩) gs := (by rw [← HG.out]; exact toks_snocG O4 HN.out); have hg4 : g < W4.heap.size := own_lt O4; clear G4 O3 I3 O4 O4x)
        | (go_at_call 16; refine (cT _ g c4 TA4 hg4).mono ?_; rintro en W5 P5; obtain ⟨v5, rfl, O5x, h1024⟩ := P5.good hF; have B5 := Below.then B4 P5.bel; have O5 := own_raise O5x B4.size; obtain ⟨b', o', e', hb5, r5x⟩ := (TA4.below P5.bel) k tk htk; cases e'; rw [Nat.zero_add] at r5x; rw [HK.out]; obtain ⟨a5, c5, rfl⟩ := own_formN O5; clear P5 cT TA4 O5x)
        | (clear t5; refine wpList_load_mid rfl 49 _ rfl g (k * 7) rfl (gtL tk) _ r5x Tryz.underlying49 rfl infoTok ?_)
        | (clear t6; refine wpList_allocS rfl 49 rfl (gtL noGT) Tryz.zeroValue49 ?_; intro W6 b6 F6 I6; have B6 := F6.trans B5 B5.size; have h6 : w.heap.size ≤ b6 := Nat.le_trans B5.size (Nat.le_of_eq F6.at'.symm); have h65 : W5.heap.size ≤ b6 := Nat.le_of_eq F6.at'.symm; have Q6 : Below W5.heap.size W5 W6 := F6.trans (Below.refl _ W5) (Nat.le_refl _); clear F6)
        | (clear t7; refine wpList_storeS rfl 49 _ _ rfl rfl (gtL tk) rfl I6 (by simp [gtL]) infoTok (gt_one _) ?_; intro W7 U7 I7x; have I7 : IsS W7 b6 49 (gtL tk) := I7x; have B7 := U7.trans B6 h6; have Q7 := U7.trans Q6 h65; have O7 := own_grN O5 Q7; have k7 : W7.cell? ⟨b6, 0, none⟩ = some (.int .i64 tk.kind) := I7.cell 0; clear U7 I6 I7x Q6 Q7 O5 r5x hb5 h65 hkI hk htk HX HN HG HGL hsI hn' hg4 hc4 hF HK))
      clear k7
      refine (wpIn_wide (n := 0)).1 ?_
      refine region_headC (fun w => IsS w b6 49 (gtL tk)) 9 (by kernel_rfl) (by decide) ?_
      replace I7 : IsS ({ W7 with drawn := W7.drawn + 1 } : World) b6 49 (gtL tk) := I7
      refine atC_take (fun _ => trivial) (headed_of (by kernel_rfl)) 8 rfl (by kernel_rfl) (fun c a w h => h) (v := .slice none 0 0) (.inl ⟨rfl, fun w hc => ?y8⟩) I7 ?_
      case y8 => (first | rfl | (simp [execOp, go_sem]; done))
      simp only [Act.put, List.getElem_toArray, List.getElem_cons_zero, List.getElem_cons_succ, List.setIfInBounds_toArray, List.set_cons_succ, List.set_cons_zero]
      refine atC_take (fun _ => trivial) (headed_of (by kernel_rfl)) 0 rfl (by kernel_rfl) (fun c a w h => h) (v := .pointer (some ⟨b6, 3, none⟩)) (.inl ⟨rfl, fun w hc => ?y0⟩) I7 ?_
      case y0 => (first | rfl | (simp [execOp, go_sem]; done))
      simp only [Act.put, List.getElem_toArray, List.getElem_cons_zero, List.getElem_cons_succ, List.setIfInBounds_toArray, List.set_cons_succ, List.set_cons_zero]
      refine atC_take (fun _ => trivial) (headed_of (by kernel_rfl)) 1 rfl (by kernel_rfl) (fun c a w h => h) (v := .int .i64 tk.line) (.inl ⟨rfl, fun w hc => ?y1⟩) I7 ?_
      case y1 => (have h := IsS.cell hc 3; simp [gtL] at h; simp [execOp, go_sem, h])
      simp only [Act.put, List.getElem_toArray, List.getElem_cons_zero, List.getElem_cons_succ, List.setIfInBounds_toArray, List.set_cons_succ, List.set_cons_zero]
      refine atC_take (fun _ => trivial) (headed_of (by kernel_rfl)) 2 rfl (by kernel_rfl) (fun c a w h => h) (v := .pointer (some ⟨b6, 4, none⟩)) (.inl ⟨rfl, fun w hc => ?y2⟩) I7 ?_
      case y2 => (first | rfl | (simp [execOp, go_sem]; done))
      simp only [Act.put, List.getElem_toArray, List.getElem_cons_zero, List.getElem_cons_succ, List.setIfInBounds_toArray, List.set_cons_succ, List.set_cons_zero]
      refine atC_take (fun _ => trivial) (headed_of (by kernel_rfl)) 3 rfl (by kernel_rfl) (fun c a w h => h) (v := .int .i64 tk.col) (.inl ⟨rfl, fun w hc => ?y3⟩) I7 ?_
      case y3 => (have h := IsS.cell hc 4; simp [gtL] at h; simp [execOp, go_sem, h])
      simp only [Act.put, List.getElem_toArray, List.getElem_cons_zero, List.getElem_cons_succ, List.setIfInBounds_toArray, List.set_cons_succ, List.set_cons_zero]
      refine atC_take (fun _ => trivial) (headed_of (by kernel_rfl)) 4 rfl (by kernel_rfl) (fun c a w h => h) (v := .iface 37 (.int .i64 70)) (.inl ⟨rfl, fun w hc => ?y4⟩) I7 ?_
      case y4 => (first | rfl | (simp [execOp, go_sem]; done))
      simp only [Act.put, List.getElem_toArray, List.getElem_cons_zero, List.getElem_cons_succ, List.setIfInBounds_toArray, List.set_cons_succ, List.set_cons_zero]
      refine atC_take (fun _ => trivial) (headed_of (by kernel_rfl)) 5 rfl (by kernel_rfl) (fun c a w h => h) (v := .agg (psL tk.line tk.col 70).toArray) (.inl ⟨rfl, fun w hc => ?y5⟩) I7 ?_
      case y5 => (first | rfl | (simp [execOp, go_sem, psL]; done))
      simp only [Act.put, List.getElem_toArray, List.getElem_cons_zero, List.getElem_cons_succ, List.setIfInBounds_toArray, List.set_cons_succ, List.set_cons_zero]
      refine atC_ex (fun _ => trivial) 6 rfl (by kernel_rfl) (fun c h => by cases h) rfl (R := fun v w' => ∃ b, v = .pointer (some ⟨b, 0, none⟩) ∧ Fresh ({ W7 with drawn := W7.drawn + 1 } : World) w' b ∧ IsS w' b 54 (psL tk.line tk.col 70)) (run_boxP _ rfl (psL tk.line tk.col 70) rfl) ?_
      rintro v8 W8 ⟨b9, rfl, F9, I9⟩
      have B9 : Below w.heap.size w W8 := F9.trans (below_drew B7) B7.size
      have I7' := I7.fresh F9
      refine ⟨I7', ?_⟩
      simp only [Act.put, List.getElem_toArray, List.getElem_cons_zero, List.getElem_cons_succ, List.setIfInBounds_toArray, List.set_cons_succ, List.set_cons_zero]
      refine atC_take (fun _ => trivial) (headed_of (by kernel_rfl)) 7 rfl (by kernel_rfl) (fun c a w h => h) (v := .iface 52 (.pointer (some ⟨b9, 0, none⟩))) (.inl ⟨rfl, fun w hc => ?y7⟩) I7' ?_
      case y7 => (first | rfl | (simp [execOp, go_sem]; done))
      simp only [Act.put, List.getElem_toArray, List.getElem_cons_zero, List.getElem_cons_succ, List.setIfInBounds_toArray, List.set_cons_succ, List.set_cons_zero]
      clear I7 I7' F9 O7
      refine atC_end (by kernel_rfl) ?_
      simp only [List.drop_succ_cons, List.drop_zero]
      gi_wp2_with fail
      go_wp2_with fail
      go_ret2
      refine ⟨⟨_, _, rfl, ?_, ?_⟩, ?_, B9⟩
      · rw [HN2.out]; exact ownN_nil _ _
      · rw [HF2.out]
        exact fun V hV => fault_pos b9 tk.line tk.col 70 V ((hE.below B9).below hV) (IsS.grown I9 hV)
      · rw [HN2.out]; simp
end Go.Proofs.YtjnbhcakfenbhaaGreatDoor
