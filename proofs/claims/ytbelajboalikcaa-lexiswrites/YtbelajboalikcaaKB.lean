/- Several texts in one: K8, K9, K10. -/
import Derived.Test.YtbelajboalikcaaK7
/- LexisTokens: the law. -/
namespace Go.Proofs.Ytbelajboalikcaa
open Go.RowKit Go.Shelf M
set_option linter.unusedSimpArgs false
set_option linter.unusedVariables false

/-- The four lexers of the law. -/
structure LX (w W : World) (a b c d : Nat) (s o : ByteArray) (u1 u2 u3 u4 : LS) : Prop where
  A : PLex W a s u1
  B : PLex W b o u2
  C : RLex W c s u3
  D : RLex W d o u4
  G : Below w.heap.size w W
  ha : w.heap.size ≤ a
  hb : w.heap.size ≤ b
  hc : w.heap.size ≤ c
  hd : w.heap.size ≤ d
  nab : a ≠ b
  nac : a ≠ c
  nad : a ≠ d
  nbc : b ≠ c
  nbd : b ≠ d
  ncd : c ≠ d
/-- A block that is none of theirs. -/
structure NW (w : World) (a b c d x : Nat) : Prop where
  a : x ≠ a
  b : x ≠ b
  c : x ≠ c
  d : x ≠ d
  hx : w.heap.size ≤ x
section
variable {w W W' : World} {a b c d x : Nat} {s o : ByteArray} {u1 u2 u3 u4 u : LS}
theorem LX.grow (h : LX w W a b c d s o u1 u2 u3 u4) (B : Below W.heap.size W W') : LX w W' a b c d s o u1 u2 u3 u4 :=
  ⟨h.A.grown B, h.B.grown B, h.C.grown B, h.D.grown B, Below.then h.G B, h.ha, h.hb, h.hc, h.hd, h.nab, h.nac, h.nad, h.nbc, h.nbd, h.ncd⟩
theorem LX.fresh (h : LX w W a b c d s o u1 u2 u3 u4) (F : Fresh W W' x) : LX w W' a b c d s o u1 u2 u3 u4 ∧ NW w a b c d x := by
  have e := F.at'
  refine ⟨h.grow (F.trans (Below.refl _ _) (Nat.le_refl _)), ?_, ?_, ?_, ?_, ?_⟩
  · have := h.A.lt; omega
  · have := h.B.lt; omega
  · have := h.C.lt; omega
  · have := h.D.lt; omega
  · have := h.G.size; omega
theorem LX.own (h : LX w W a b c d s o u1 u2 u3 u4) (U : Upd W W' x) (n : NW w a b c d x) : LX w W' a b c d s o u1 u2 u3 u4 :=
  ⟨h.A.upd U (Ne.symm n.a), h.B.upd U (Ne.symm n.b), h.C.upd U (Ne.symm n.c), h.D.upd U (Ne.symm n.d), U.trans h.G n.hx, h.ha, h.hb, h.hc, h.hd, h.nab, h.nac, h.nad, h.nbc, h.nbd, h.ncd⟩
theorem LX.turnA (h : LX w W a b c d s o u1 u2 u3 u4) (T : Turn W W' a) (P : PLex W' a s u) : LX w W' a b c d s o u u2 u3 u4 :=
  ⟨P, h.B.turn T (Ne.symm h.nab), h.C.turn T (Ne.symm h.nac), h.D.turn T (Ne.symm h.nad), Turn.below h.G h.ha h.G.size T, h.ha, h.hb, h.hc, h.hd, h.nab, h.nac, h.nad, h.nbc, h.nbd, h.ncd⟩
theorem LX.turnB (h : LX w W a b c d s o u1 u2 u3 u4) (T : Turn W W' b) (P : PLex W' b o u) : LX w W' a b c d s o u1 u u3 u4 :=
  ⟨h.A.turn T h.nab, P, h.C.turn T (Ne.symm h.nbc), h.D.turn T (Ne.symm h.nbd), Turn.below h.G h.hb h.G.size T, h.ha, h.hb, h.hc, h.hd, h.nab, h.nac, h.nad, h.nbc, h.nbd, h.ncd⟩
theorem LX.turnC (h : LX w W a b c d s o u1 u2 u3 u4) (T : Turn W W' c) (P : RLex W' c s u) : LX w W' a b c d s o u1 u2 u u4 :=
  ⟨h.A.turn T h.nac, h.B.turn T h.nbc, P, h.D.turn T (Ne.symm h.ncd), Turn.below h.G h.hc h.G.size T, h.ha, h.hb, h.hc, h.hd, h.nab, h.nac, h.nad, h.nbc, h.nbd, h.ncd⟩
theorem LX.turnD (h : LX w W a b c d s o u1 u2 u3 u4) (T : Turn W W' d) (P : RLex W' d o u) : LX w W' a b c d s o u1 u2 u3 u :=
  ⟨h.A.turn T h.nad, h.B.turn T h.nbd, h.C.turn T h.ncd, P, Turn.below h.G h.hd h.G.size T, h.ha, h.hb, h.hc, h.hd, h.nab, h.nac, h.nad, h.nbc, h.nbd, h.ncd⟩
end
theorem errO_lt {r : Option Rd} {v : Value} {W : World} {n : Nat} (h : ErrI r v W) (ho : ErrO v (fun k => n ≤ k)) : ErrO v (fun k => n ≤ k ∧ k < W.heap.size) := by
  cases r with
  | none => have h' : v = .nilIface := h; subst h'; trivial
  | some r =>
    cases r with
    | tok t => exact (h : False).elim
    | long => have h' : v = .iface 52 (.int .i64 1) := h; subst h'; trivial
    | pos x y e => obtain ⟨g, rfl, hg⟩ := (show ErrV (.pos x y e) v W from h); exact ⟨ho, hg.lt⟩
theorem neq38 (t : Tok) (w : World) : (binOp .neq 38 (.agg (tokL t).toArray) (.agg (tokL t).toArray)).run Try.prog w = .ok (.bool false) w := by simp [go_sem, tokL]
theorem neq30 (F : Int × Int × Int) (w : World) : (binOp .neq 30 (.agg (fL F).toArray) (.agg (fL F).toArray)).run Try.prog w = .ok (.bool false) w := by simp [go_sem, fL]
/-- What All and the reference's Tokens answer, as slices of tokens. -/
theorem allG0 {s : ByteArray} (hs : s.size < 4611686018427387904) {ts : List Tok} (hr : rounds s.data.toList = ts.map Rd.tok ++ (LS.ok 0).rd.toList) (hl : ts.length ≤ 1048576) (w : World) :
    Calls Try.prog 10 #[.string s] w fun e w' => (∃ a c, e = .returned (.tuple #[.slice a (ts.map toG).length c, .nilIface]) ∧ Toks w' a (ts.map toG)) ∧ Below w.heap.size w w' := by
  refine (all_any s hs ts none hr (fun _ h => by cases h) hl w).mono ?_
  rintro e w' ⟨h, B⟩
  refine ⟨?_, B⟩
  obtain ⟨v, rfl, hv⟩ := (show ∃ v, e = .returned (.tuple #[v, .nilIface]) ∧ w'.ownsRow w.heap.size 38 7 v ts.length (cellsT ts) from h)
  rw [cellsT_G] at hv
  obtain ⟨a, c, rfl, ht⟩ := own_toks hv (by rw [List.length_map])
  exact ⟨a, c, rfl, ht⟩
theorem allG1 {s : ByteArray} (hs : s.size < 4611686018427387904) {ts : List Tok} {st : LS} (hr : rounds s.data.toList = ts.map Rd.tok ++ st.rd.toList) (hl : ts.length ≤ 1048576) (hne : st.F.2.2 ≠ 0) (w : World) :
    Calls Try.prog 10 #[.string s] w fun e w' => (∃ ev, e = .returned (.tuple #[.slice none 0 0, ev]) ∧ ErrI st.rd ev w' ∧ ErrO ev (fun k => 0 ≤ k)) ∧ Below w.heap.size w w' := by
  refine (all_any s hs ts st.rd hr (rd_not st) hl w).mono ?_
  rintro e w' ⟨h, B⟩
  refine ⟨?_, B⟩
  cases st with
  | ok p => exact absurd rfl hne
  | bad x y e' =>
    obtain ⟨ev, rfl, he⟩ := (show ∃ ev, e = .returned (.tuple #[.slice none 0 0, ev]) ∧ ErrV (.pos x y e') ev w' from h)
    obtain ⟨g, rfl, hg⟩ := he
    exact ⟨_, rfl, ⟨g, rfl, hg⟩, Nat.zero_le _⟩
  | long =>
    obtain ⟨ev, rfl, he⟩ := (show ∃ ev, e = .returned (.tuple #[.slice none 0 0, ev]) ∧ ErrV .long ev w' from h)
    have he' : ev = .iface 52 (.int .i64 1) := he
    subst he'
    exact ⟨_, rfl, rfl, trivial⟩
theorem refG {s : ByteArray} (hs : s.size < 4611686018427387904) {ts : List Tok} {st : LS} (hr : rounds s.data.toList = ts.map Rd.tok ++ st.rd.toList) (w : World) :
    Calls Try.prog 11 #[.string s] w fun e w' => (∃ a c, e = .returned (.tuple #[.slice a (ts.map toG).length c, .agg (fL st.F).toArray]) ∧ Toks w' a (ts.map toG)) ∧ Below w.heap.size w w' := by
  refine (rtokens_any s hs ts st.rd hr (rd_not st) w).mono ?_
  rintro e w' ⟨⟨v, rfl, hv⟩, B⟩
  rw [cellsT_G] at hv
  obtain ⟨a, c, rfl, ht⟩ := own_toks hv (by rw [List.length_map])
  exact ⟨⟨a, c, by rw [fOf_rd], ht⟩, B⟩
theorem dec_ex (l : List UInt8) : ∃ (ts : List Tok) (st : LS), rounds l = ts.map Rd.tok ++ st.rd.toList ∧ ts.length ≤ 1048576 ∧ (st.rd = none ∨ st.F.2.2 ≠ 0) := by
  have key : ∀ (g : Nat) (us : List Tok) (st : LS), TokJ l us g st → ∃ (ts : List Tok) (st' : LS), rounds l = ts.map Rd.tok ++ st'.rd.toList ∧ ts.length ≤ 1048576 ∧ (st'.rd = none ∨ st'.F.2.2 ≠ 0) := by
    intro g
    induction g using Nat.strongRecOn with
    | ind g ih =>
      intro us st h
      obtain ⟨st', t, hst, hgd⟩ := step_ex (tokJ_good h).1
      rcases tokJ_step h hst with ⟨g', _, _, hg, h'⟩ | ⟨hex, hr⟩
      · exact ih g' hg _ _ h'
      · refine ⟨us, st', hr, (tokJ_good h).2, ?_⟩
        rcases hex with h | ⟨h, _⟩
        · exact .inr h
        · refine .inl ?_
          cases st' with
          | ok p => rfl
          | bad x y e => exact absurd h (by intro e'; have := hgd.1; simp [LS.F] at e'; omega)
          | long => exact absurd h (by decide)
  exact key _ _ _ (tokJ_start l)

end Go.Proofs.Ytbelajboalikcaa
/- LexisTokens: the law where all goes well. -/
namespace Go.Proofs.Ytbelajboalikcaa
open Go.RowKit Go.Shelf M
set_option linter.unusedSimpArgs false
set_option linter.unusedVariables false

set_option maxRecDepth 100000 in
set_option maxHeartbeats 8000000 in
theorem tokens_ok (s o : ByteArray) (hs : s.size < 2305843009213693952) (ho : o.size < 2305843009213693952) (ts : List Tok) (hr : rounds s.data.toList = ts.map Rd.tok ++ (LS.ok 0).rd.toList) (hl : ts.length ≤ 1048576) (w : World) :
    Calls Try.prog 3 #[.string s, .string o] w fun e w' => e = .returned (.bool true) ∧ Below w.heap.size w w' := by
  have cN1 := fun w => pnew_any s w
  have cN2 := fun w => pnew_any o w
  have cR1 := fun w => rnewS_any s (by omega) w
  have cR2 := fun w => rnewS_any o (by omega) w
  have cA := fun w => allG0 (by omega) hr hl w
  have cT := fun w => refG (by omega) hr w
  obtain ⟨G, hG⟩ : ∃ G, ts.map toG = G := ⟨_, rfl⟩
  have hGl : G.length ≤ 1048576 := (by rw [← hG, List.length_map]; exact hl)
  rw [hG] at cA cT
  clear hG hr
  have hs1 : Hid (s.size < 4611686018427387904) := (by show _ < _; omega)
  have ho1 : Hid (o.size < 4611686018427387904) := (by show _ < _; omega)
  go_enter Try.func3, Try.ntmps3
  go_wp2_with (first
    | (go_at_call 9; refine (cN1 _).mono ?_; rintro e V1 ⟨⟨a, rfl, ha, A1⟩, B1⟩; clear cN1)
    | (go_at_call 9; refine (cN2 _).mono ?_; rintro e V2 ⟨⟨b, rfl, hb2, D2⟩, B2x⟩; have A2 := A1.grown B2x; have hb : w.heap.size ≤ b := Nat.le_trans B1.size hb2; have nab : a ≠ b := (by have := A1.lt; omega); have B2 := Below.then B1 B2x; clear B2x B1 A1 hb2 cN2)
    | (go_at_call 10; refine (cA _).mono ?_; rintro e V3 ⟨⟨al, cl, rfl, TL⟩, B3x⟩; have A3 := A2.grown B3x; have D3 := D2.grown B3x; have B3 := Below.then B2 B3x; clear B3x A2 D2 B2 cA)
    | (go_at_call 11; refine (cT _).mono ?_; rintro e V4 ⟨⟨aw, cw, rfl, TW⟩, B4x⟩; have A4 := A3.grown B4x; have D4 := D3.grown B4x; have B4 := Below.then B3 B4x; have TL4 := TL.below B4x; clear B4x A3 D3 B3 TL cT)
    | (refine wpList_allocS rfl 30 rfl (fL (0, 0, 0)) Try.zeroValue30 ?_; intro V5 x10 F5 S5; have y10 : V4.heap.size ≤ x10 := Nat.le_of_eq F5.at'.symm; have BF : Below V4.heap.size V4 V5 := F5.trans (Below.refl _ _) (Nat.le_refl _); clear F5)
    | (refine wpList_storeS rfl 30 _ _ rfl rfl (fL (0, 0, 0)) rfl S5 (by simp [fL]) info30 (fL_one _) ?_; intro V6 U6 S6x; have S6 : IsS V6 x10 30 (fL (0, 0, 0)) := S6x; have BG : Below V4.heap.size V4 V6 := U6.trans BF y10; have A6 := A4.grown BG; have D6 := D4.grown BG; have B6 := Below.then B4 BG; have TL6 := TL4.below BG; have TW6 := TW.below BG; clear U6 S6x S5 BF BG A4 D4 B4 TL4 TW; have c2 : V6.cell? ⟨x10, 2, none⟩ = some (.int .i64 0) := S6.cell 2)
    | (go_at_call 13; refine (same_any al aw cl cw G hGl _ TL6 TW6).mono ?_; rintro e V7 ⟨rfl, B7x⟩; have A7 := A6.grown B7x; have D7 := D6.grown B7x; have B7 := Below.then B6 B7x; clear B7x A6 D6 B6 TL6 TW6 S6 c2)
    | (go_at_call 14; refine (cR1 _).mono ?_; rintro e V8 ⟨⟨c, rfl, hc2, C8⟩, B8x⟩; have A8 := A7.grown B8x; have D8 := D7.grown B8x; have hc : w.heap.size ≤ c := Nat.le_trans B7.size hc2; have nac : a ≠ c := (by have := A7.lt; omega); have nbc : b ≠ c := (by have := D7.lt; omega); have B8 := Below.then B7 B8x; clear B8x B7 A7 D7 hc2 cR1)
    | (go_at_call 14; refine (cR2 _).mono ?_; rintro e V9 ⟨⟨d, rfl, hd2, H9⟩, B9x⟩; have LX9 : LX w V9 a b c d s o (LS.start s.data.toList) (LS.start o.data.toList) (LS.start s.data.toList) (LS.start o.data.toList) := ⟨A8.grown B9x, D8.grown B9x, C8.grown B9x, H9, Below.then B8 B9x, ha, hb, hc, Nat.le_trans B8.size hd2, nab, nac, (by have := A8.lt; omega), nbc, (by have := D8.lt; omega), (by have := C8.lt; omega)⟩; clear B9x B8 A8 D8 C8 H9 hd2 cR2))
  have gs1 := start_good s.data.toList
  have gs2 := start_good o.data.toList
  go_loopw [13, 14, 15, 16, 17, 18, 19, 20, 21] (fun i _ _ _ _ _ _ _ _ wr => ∃ (j : Nat) (u1 u2 : LS), j ≤ G.length + 4 ∧ i = .int .i64 (j : Int) ∧ Hid (u1.good s.data.toList) ∧ Hid (u2.good o.data.toList) ∧ LX w wr a b c d s o u1 u2 u1 u2) (fun i _ _ _ _ _ _ _ _ _ => G.length + 4 - (intOf i).toNat)
  case atStart => exact ⟨0, _, _, by omega, rfl, gs1, gs2, LX9⟩
  case round =>
    obtain ⟨j, u1, u2, hj, rfl, hg1, hg2, L0⟩ := hrel
    clear LX9 gs1 gs2
    by_cases hlt : j < G.length + 4
    · have hi : (j : Int) < (G.length : Int) + 4 := by omega
      obtain ⟨v1, t1, hs1', hgo1⟩ := step_ex hg1.out
      obtain ⟨v2, t2, hs2', hgo2⟩ := step_ex hg2.out
      have g1' : Hid (v1.good s.data.toList) := hgo1
      have g2' : Hid (v2.good o.data.toList) := hgo2
      have cA := fun W (h : PLex W a s u1) => pnext_any s hs1.out a u1 v1 t1 hg1.out hs1' W h
      have cB := fun W (h : PLex W b o u2) => pnext_any o ho1.out b u2 v2 t2 hg2.out hs2' W h
      have cC := fun W (h : RLex W c s u1) => rnextS_any s c u1 v1 t1 hg1.out hs1' W h
      have cD := fun W (h : RLex W d o u2) => rnextS_any o d u2 v2 t2 hg2.out hs2' W h
      have la := L0.A.lt
      have lb := L0.B.lt
      have lc := L0.C.lt
      have ld := L0.D.lt
      clear hs1' hs2' hgo1 hgo2 hg1 hg2
      go_wp2_with (first
        | (go_at_call 15; refine (cA _ L0.A).mono ?_; rintro e X1 ⟨⟨ev1, rfl, E1_1, E1x⟩, P1, T1⟩; have E1O := errO_lt E1_1 E1x; have L1 := L0.turnA T1 P1; have g1 : wr.heap.size ≤ X1.heap.size := T1.size; clear L0 P1 T1 E1x)
        | (refine wpList_allocS rfl 38 rfl (tokL noTok) Try.zeroValue38 ?_; intro X2 x14 F2 S14_2; obtain ⟨L2, N14⟩ := L1.fresh F2; have y14 : X1.heap.size ≤ x14 := Nat.le_of_eq F2.at'.symm; have E1_2 := errI_keep E1_1 E1O (Keep.of_below (F2.trans (Below.refl _ _) (Nat.le_refl _))); have g2 : X1.heap.size ≤ X2.heap.size := (by have := F2.size; omega); clear L1 E1_1 F2)
        | (refine wpList_storeS rfl 38 _ _ rfl rfl (tokL t1) rfl S14_2 (by simp [tokL, fL, noTok]) info38 (tok_one _) ?_; intro X3 U3 S14x; have S14_3 : IsS X3 x14 38 (tokL t1) := S14x; have L3 := L2.own U3 N14; have E1_3 := errI_keep E1_2 E1O (Keep.of_upd U3 (by intro h; have := h.1; have := h.2; omega)); have g3 : X2.heap.size ≤ X3.heap.size := (by have := U3.size; omega); clear L2 S14_2 E1_2 U3 S14x)
        | (go_at_call 16; refine (cC _ L3.C).mono ?_; rintro e X4 ⟨rfl, P4, T4⟩; have L4 := L3.turnC T4 P4; have S14_4 := S14_3.turn T4 N14.c; have E1_4 := errI_keep E1_3 E1O (Keep.of_turn T4 (by intro h; have := h.1; have := h.2; omega)); have g4 : X3.heap.size ≤ X4.heap.size := T4.size; clear L3 S14_3 E1_3 P4 T4)
        | (refine wpList_allocS rfl 38 rfl (tokL noTok) Try.zeroValue38 ?_; intro X5 x16 F5 S16_5; obtain ⟨L5, N16⟩ := L4.fresh F5; have q16_14 : x16 ≠ x14 := (by have := S14_4.lt; have := F5.at'; omega); have q14_16 := Ne.symm q16_14; have y16 : X4.heap.size ≤ x16 := Nat.le_of_eq F5.at'.symm; have S14_5 := S14_4.fresh F5; have E1_5 := errI_keep E1_4 E1O (Keep.of_below (F5.trans (Below.refl _ _) (Nat.le_refl _))); have g5 : X4.heap.size ≤ X5.heap.size := (by have := F5.size; omega); clear L4 S14_4 E1_4 F5)
        | (refine wpList_allocS rfl 30 rfl (fL (0, 0, 0)) Try.zeroValue30 ?_; intro X6 x17 F6 S17_6; obtain ⟨L6, N17⟩ := L5.fresh F6; have q17_14 : x17 ≠ x14 := (by have := S14_5.lt; have := F6.at'; omega); have q14_17 := Ne.symm q17_14; have q17_16 : x17 ≠ x16 := (by have := S16_5.lt; have := F6.at'; omega); have q16_17 := Ne.symm q17_16; have y17 : X5.heap.size ≤ x17 := Nat.le_of_eq F6.at'.symm; have S14_6 := S14_5.fresh F6; have S16_6 := S16_5.fresh F6; have E1_6 := errI_keep E1_5 E1O (Keep.of_below (F6.trans (Below.refl _ _) (Nat.le_refl _))); have g6 : X5.heap.size ≤ X6.heap.size := (by have := F6.size; omega); clear L5 S14_5 S16_5 E1_5 F6)
        | (refine wpList_storeS rfl 38 _ _ rfl rfl (tokL t1) rfl S16_6 (by simp [tokL, fL, noTok]) info38 (tok_one _) ?_; intro X7 U7 S16x; have S16_7 : IsS X7 x16 38 (tokL t1) := S16x; have L7 := L6.own U7 N16; have S14_7 := S14_6.upd U7 q14_16; have S17_7 := S17_6.upd U7 q17_16; have E1_7 := errI_keep E1_6 E1O (Keep.of_upd U7 (by intro h; have := h.1; have := h.2; omega)); have g7 : X6.heap.size ≤ X7.heap.size := (by have := U7.size; omega); clear L6 S14_6 S16_6 S17_6 E1_6 U7 S16x)
        | (refine wpList_storeS rfl 30 _ _ rfl rfl (fL v1.F) rfl S17_7 (by simp [tokL, fL, noTok]) info30 (fL_one _) ?_; intro X8 U8 S17x; have S17_8 : IsS X8 x17 30 (fL v1.F) := S17x; have L8 := L7.own U8 N17; have S14_8 := S14_7.upd U8 q14_17; have S16_8 := S16_7.upd U8 q16_17; have E1_8 := errI_keep E1_7 E1O (Keep.of_upd U8 (by intro h; have := h.1; have := h.2; omega)); have g8 : X7.heap.size ≤ X8.heap.size := (by have := U8.size; omega); clear L7 S14_7 S16_7 S17_7 E1_7 U8 S17x)
        | (go_at_call 15; refine (cB _ L8.B).mono ?_; rintro e X9 ⟨⟨ev2, rfl, E2_9, E2x⟩, P9, T9⟩; have E2O := errO_lt E2_9 E2x; have L9 := L8.turnB T9 P9; have S14_9 := S14_8.turn T9 N14.b; have S16_9 := S16_8.turn T9 N16.b; have S17_9 := S17_8.turn T9 N17.b; have E1_9 := errI_keep E1_8 E1O (Keep.of_turn T9 (by intro h; have := h.1; have := h.2; omega)); have g9 : X8.heap.size ≤ X9.heap.size := T9.size; clear L8 S14_8 S16_8 S17_8 E1_8 P9 T9 E2x)
        | (refine wpList_allocS rfl 38 rfl (tokL noTok) Try.zeroValue38 ?_; intro X10 x18 F10 S18_10; obtain ⟨L10, N18⟩ := L9.fresh F10; have q18_14 : x18 ≠ x14 := (by have := S14_9.lt; have := F10.at'; omega); have q14_18 := Ne.symm q18_14; have q18_16 : x18 ≠ x16 := (by have := S16_9.lt; have := F10.at'; omega); have q16_18 := Ne.symm q18_16; have q18_17 : x18 ≠ x17 := (by have := S17_9.lt; have := F10.at'; omega); have q17_18 := Ne.symm q18_17; have y18 : X9.heap.size ≤ x18 := Nat.le_of_eq F10.at'.symm; have S14_10 := S14_9.fresh F10; have S16_10 := S16_9.fresh F10; have S17_10 := S17_9.fresh F10; have E1_10 := errI_keep E1_9 E1O (Keep.of_below (F10.trans (Below.refl _ _) (Nat.le_refl _))); have E2_10 := errI_keep E2_9 E2O (Keep.of_below (F10.trans (Below.refl _ _) (Nat.le_refl _))); have g10 : X9.heap.size ≤ X10.heap.size := (by have := F10.size; omega); clear L9 S14_9 S16_9 S17_9 E1_9 E2_9 F10)
        | (refine wpList_storeS rfl 38 _ _ rfl rfl (tokL t2) rfl S18_10 (by simp [tokL, fL, noTok]) info38 (tok_one _) ?_; intro X11 U11 S18x; have S18_11 : IsS X11 x18 38 (tokL t2) := S18x; have L11 := L10.own U11 N18; have S14_11 := S14_10.upd U11 q14_18; have S16_11 := S16_10.upd U11 q16_18; have S17_11 := S17_10.upd U11 q17_18; have E1_11 := errI_keep E1_10 E1O (Keep.of_upd U11 (by intro h; have := h.1; have := h.2; omega)); have E2_11 := errI_keep E2_10 E2O (Keep.of_upd U11 (by intro h; have := h.1; have := h.2; omega)); have g11 : X10.heap.size ≤ X11.heap.size := (by have := U11.size; omega); clear L10 S14_10 S16_10 S17_10 S18_10 E1_10 E2_10 U11 S18x)
        | (go_at_call 16; refine (cD _ L11.D).mono ?_; rintro e X12 ⟨rfl, P12, T12⟩; have L12 := L11.turnD T12 P12; have S14_12 := S14_11.turn T12 N14.d; have S16_12 := S16_11.turn T12 N16.d; have S17_12 := S17_11.turn T12 N17.d; have S18_12 := S18_11.turn T12 N18.d; have E1_12 := errI_keep E1_11 E1O (Keep.of_turn T12 (by intro h; have := h.1; have := h.2; omega)); have E2_12 := errI_keep E2_11 E2O (Keep.of_turn T12 (by intro h; have := h.1; have := h.2; omega)); have g12 : X11.heap.size ≤ X12.heap.size := T12.size; clear L11 S14_11 S16_11 S17_11 S18_11 E1_11 E2_11 P12 T12)
        | (refine wpList_allocS rfl 38 rfl (tokL noTok) Try.zeroValue38 ?_; intro X13 x20 F13 S20_13; obtain ⟨L13, N20⟩ := L12.fresh F13; have q20_14 : x20 ≠ x14 := (by have := S14_12.lt; have := F13.at'; omega); have q14_20 := Ne.symm q20_14; have q20_16 : x20 ≠ x16 := (by have := S16_12.lt; have := F13.at'; omega); have q16_20 := Ne.symm q20_16; have q20_17 : x20 ≠ x17 := (by have := S17_12.lt; have := F13.at'; omega); have q17_20 := Ne.symm q20_17; have q20_18 : x20 ≠ x18 := (by have := S18_12.lt; have := F13.at'; omega); have q18_20 := Ne.symm q20_18; have y20 : X12.heap.size ≤ x20 := Nat.le_of_eq F13.at'.symm; have S14_13 := S14_12.fresh F13; have S16_13 := S16_12.fresh F13; have S17_13 := S17_12.fresh F13; have S18_13 := S18_12.fresh F13; have E1_13 := errI_keep E1_12 E1O (Keep.of_below (F13.trans (Below.refl _ _) (Nat.le_refl _))); have E2_13 := errI_keep E2_12 E2O (Keep.of_below (F13.trans (Below.refl _ _) (Nat.le_refl _))); have g13 : X12.heap.size ≤ X13.heap.size := (by have := F13.size; omega); clear L12 S14_12 S16_12 S17_12 S18_12 E1_12 E2_12 F13)
        | (refine wpList_allocS rfl 30 rfl (fL (0, 0, 0)) Try.zeroValue30 ?_; intro X14 x21 F14 S21_14; obtain ⟨L14, N21⟩ := L13.fresh F14; have q21_14 : x21 ≠ x14 := (by have := S14_13.lt; have := F14.at'; omega); have q14_21 := Ne.symm q21_14; have q21_16 : x21 ≠ x16 := (by have := S16_13.lt; have := F14.at'; omega); have q16_21 := Ne.symm q21_16; have q21_17 : x21 ≠ x17 := (by have := S17_13.lt; have := F14.at'; omega); have q17_21 := Ne.symm q21_17; have q21_18 : x21 ≠ x18 := (by have := S18_13.lt; have := F14.at'; omega); have q18_21 := Ne.symm q21_18; have q21_20 : x21 ≠ x20 := (by have := S20_13.lt; have := F14.at'; omega); have q20_21 := Ne.symm q21_20; have y21 : X13.heap.size ≤ x21 := Nat.le_of_eq F14.at'.symm; have S14_14 := S14_13.fresh F14; have S16_14 := S16_13.fresh F14; have S17_14 := S17_13.fresh F14; have S18_14 := S18_13.fresh F14; have S20_14 := S20_13.fresh F14; have E1_14 := errI_keep E1_13 E1O (Keep.of_below (F14.trans (Below.refl _ _) (Nat.le_refl _))); have E2_14 := errI_keep E2_13 E2O (Keep.of_below (F14.trans (Below.refl _ _) (Nat.le_refl _))); have g14 : X13.heap.size ≤ X14.heap.size := (by have := F14.size; omega); clear L13 S14_13 S16_13 S17_13 S18_13 S20_13 E1_13 E2_13 F14)
        | (refine wpList_storeS rfl 38 _ _ rfl rfl (tokL t2) rfl S20_14 (by simp [tokL, fL, noTok]) info38 (tok_one _) ?_; intro X15 U15 S20x; have S20_15 : IsS X15 x20 38 (tokL t2) := S20x; have L15 := L14.own U15 N20; have S14_15 := S14_14.upd U15 q14_20; have S16_15 := S16_14.upd U15 q16_20; have S17_15 := S17_14.upd U15 q17_20; have S18_15 := S18_14.upd U15 q18_20; have S21_15 := S21_14.upd U15 q21_20; have E1_15 := errI_keep E1_14 E1O (Keep.of_upd U15 (by intro h; have := h.1; have := h.2; omega)); have E2_15 := errI_keep E2_14 E2O (Keep.of_upd U15 (by intro h; have := h.1; have := h.2; omega)); have g15 : X14.heap.size ≤ X15.heap.size := (by have := U15.size; omega); clear L14 S14_14 S16_14 S17_14 S18_14 S20_14 S21_14 E1_14 E2_14 U15 S20x)
        | (refine wpList_storeS rfl 30 _ _ rfl rfl (fL v2.F) rfl S21_15 (by simp [tokL, fL, noTok]) info30 (fL_one _) ?_; intro X16 U16 S21x; have S21_16 : IsS X16 x21 30 (fL v2.F) := S21x; have L16 := L15.own U16 N21; have S14_16 := S14_15.upd U16 q14_21; have S16_16 := S16_15.upd U16 q16_21; have S17_16 := S17_15.upd U16 q17_21; have S18_16 := S18_15.upd U16 q18_21; have S20_16 := S20_15.upd U16 q20_21; have E1_16 := errI_keep E1_15 E1O (Keep.of_upd U16 (by intro h; have := h.1; have := h.2; omega)); have E2_16 := errI_keep E2_15 E2O (Keep.of_upd U16 (by intro h; have := h.1; have := h.2; omega)); have g16 : X15.heap.size ≤ X16.heap.size := (by have := U16.size; omega); clear L15 S14_15 S16_15 S17_15 S18_15 S20_15 S21_15 E1_15 E2_15 U16 S21x))
      refine grow_all (by kernel_rfl) (by kernel_rfl) ?_
      refine wpG_loadP rfl 38 _ rfl rfl S14_16 7 (tokL t1) rfl _ Try.underlying38 rfl info38 ?_
      simp only [Act.put, List.setIfInBounds_toArray, List.set_cons_succ, List.set_cons_zero]
      refine wpG_loadP rfl 38 _ rfl rfl S16_16 7 (tokL t1) rfl _ Try.underlying38 rfl info38 ?_
      simp only [Act.put, List.setIfInBounds_toArray, List.set_cons_succ, List.set_cons_zero]
      refine wpG_put rfl (v := .bool false) (fun w => by first | rfl | (go_simp; done) | (simp [go_sem, tokL]; done)) ?_
      simp only [Act.put, List.setIfInBounds_toArray, List.set_cons_succ, List.set_cons_zero]
      refine wpG_put rfl (v := .bool false) (fun w => by first | rfl | (go_simp; done) | (simp [go_sem]; done)) ?_
      simp only [Act.put, List.setIfInBounds_toArray, List.set_cons_succ, List.set_cons_zero]
      refine wpG_put rfl (v := ev1) (fun w => by first | rfl | (go_simp; done) | (simp [go_sem]; done)) ?_
      simp only [Act.put, List.setIfInBounds_toArray, List.set_cons_succ, List.set_cons_zero]
      refine wpG_call rfl (f := 12) (args := #[ev1]) (v := .agg (fL v1.F).toArray) (fun w hw => seen_any v1 ev1 w (errI_keep E1_16 E1O (Keep.of_below hw))) (fun w => by first | rfl | (go_simp; done)) ?_
      simp only [Act.put, List.setIfInBounds_toArray, List.set_cons_succ, List.set_cons_zero]
      refine wpG_loadP rfl 30 _ rfl rfl S17_16 3 (fL v1.F) rfl _ Try.underlying30 rfl info30 ?_
      simp only [Act.put, List.setIfInBounds_toArray, List.set_cons_succ, List.set_cons_zero]
      refine wpG_put rfl (v := .bool false) (fun w => by first | rfl | (go_simp; done) | (simp [go_sem, fL]; done)) ?_
      simp only [Act.put, List.setIfInBounds_toArray, List.set_cons_succ, List.set_cons_zero]
      refine wpG_put rfl (v := .bool false) (fun w => by first | rfl | (go_simp; done) | (simp [go_sem]; done)) ?_
      simp only [Act.put, List.setIfInBounds_toArray, List.set_cons_succ, List.set_cons_zero]
      refine wpG_put rfl (v := .bool false) (fun w => by first | rfl | (go_simp; done) | (simp [go_sem]; done)) ?_
      simp only [Act.put, List.setIfInBounds_toArray, List.set_cons_succ, List.set_cons_zero]
      refine wpG_loadP rfl 38 _ rfl rfl S18_16 7 (tokL t2) rfl _ Try.underlying38 rfl info38 ?_
      simp only [Act.put, List.setIfInBounds_toArray, List.set_cons_succ, List.set_cons_zero]
      refine wpG_loadP rfl 38 _ rfl rfl S20_16 7 (tokL t2) rfl _ Try.underlying38 rfl info38 ?_
      simp only [Act.put, List.setIfInBounds_toArray, List.set_cons_succ, List.set_cons_zero]
      refine wpG_put rfl (v := .bool false) (fun w => by first | rfl | (go_simp; done) | (simp [go_sem, tokL]; done)) ?_
      simp only [Act.put, List.setIfInBounds_toArray, List.set_cons_succ, List.set_cons_zero]
      refine wpG_put rfl (v := .bool false) (fun w => by first | rfl | (go_simp; done) | (simp [go_sem]; done)) ?_
      simp only [Act.put, List.setIfInBounds_toArray, List.set_cons_succ, List.set_cons_zero]
      refine wpG_put rfl (v := .bool false) (fun w => by first | rfl | (go_simp; done) | (simp [go_sem]; done)) ?_
      simp only [Act.put, List.setIfInBounds_toArray, List.set_cons_succ, List.set_cons_zero]
      refine wpG_put rfl (v := ev2) (fun w => by first | rfl | (go_simp; done) | (simp [go_sem]; done)) ?_
      simp only [Act.put, List.setIfInBounds_toArray, List.set_cons_succ, List.set_cons_zero]
      refine wpG_call rfl (f := 12) (args := #[ev2]) (v := .agg (fL v2.F).toArray) (fun w hw => seen_any v2 ev2 w (errI_keep E2_16 E2O (Keep.of_below hw))) (fun w => by first | rfl | (go_simp; done)) ?_
      simp only [Act.put, List.setIfInBounds_toArray, List.set_cons_succ, List.set_cons_zero]
      refine wpG_loadP rfl 30 _ rfl rfl S21_16 3 (fL v2.F) rfl _ Try.underlying30 rfl info30 ?_
      simp only [Act.put, List.setIfInBounds_toArray, List.set_cons_succ, List.set_cons_zero]
      refine wpG_put rfl (v := .bool false) (fun w => by first | rfl | (go_simp; done) | (simp [go_sem, fL]; done)) ?_
      simp only [Act.put, List.setIfInBounds_toArray, List.set_cons_succ, List.set_cons_zero]
      refine wpG_put rfl (v := .bool false) (fun w => by first | rfl | (go_simp; done) | (simp [go_sem]; done)) ?_
      simp only [Act.put, List.setIfInBounds_toArray, List.set_cons_succ, List.set_cons_zero]
      refine wpG_nil ?_
      intro WZ BZ
      have LZ := L16.grow BZ
      clear BZ L16 S14_16 S16_16 S17_16 S18_16 S20_16 S21_16 E1_16 E2_16 E1O E2O
      go_wp2_with fail
      go_roundw
      case rel => exact ⟨j + 1, v1, v2, by omega, by go_num, g1', g2', LZ⟩
      case measure => simp [intOf]; omega
    · have hi : ¬ (j : Int) < (G.length : Int) + 4 := by omega
      go_wp2_with fail
      go_ret
      exact ⟨rfl, L0.G⟩
end Go.Proofs.Ytbelajboalikcaa
/- LexisTokens: the law. -/
namespace Go.Proofs.Ytbelajboalikcaa
open Go.RowKit Go.Shelf M
set_option linter.unusedSimpArgs false
set_option linter.unusedVariables false

set_option maxRecDepth 100000 in
set_option maxHeartbeats 8000000 in
theorem tokens_bad (s o : ByteArray) (hs : s.size < 2305843009213693952) (ho : o.size < 2305843009213693952) (ts : List Tok) (st : LS) (hr : rounds s.data.toList = ts.map Rd.tok ++ st.rd.toList) (hl : ts.length ≤ 1048576) (hst : st.F.2.2 ≠ 0) (w : World) :
    Calls Try.prog 3 #[.string s, .string o] w fun e w' => e = .returned (.bool true) ∧ Below w.heap.size w w' := by
  have cN1 := fun w => pnew_any s w
  have cN2 := fun w => pnew_any o w
  have cR1 := fun w => rnewS_any s (by omega) w
  have cR2 := fun w => rnewS_any o (by omega) w
  have cA := fun w => allG1 (by omega) hr hl hst w
  have cT := fun w => refG (by omega) hr w
  obtain ⟨G, hG⟩ : ∃ G, ts.map toG = G := ⟨_, rfl⟩
  have hGl : G.length ≤ 1048576 := (by rw [← hG, List.length_map]; exact hl)
  rw [hG] at cT
  clear hG hr
  have hs1 : Hid (s.size < 4611686018427387904) := (by show _ < _; omega)
  have ho1 : Hid (o.size < 4611686018427387904) := (by show _ < _; omega)
  obtain ⟨⟨F1, F2, F3⟩, hF⟩ : ∃ F, st.F = F := ⟨_, rfl⟩
  rw [hF] at cT hst
  have h30 : (F3 == 0) = false := (by simpa using hst)
  have h31 : (F3 != 0) = true := (by simpa using hst)
  have HF : Hid (st.F = (F1, F2, F3)) := hF
  clear hF hst
  go_enter Try.func3, Try.ntmps3
  go_wp2_with (first
    | (go_at_call 9; refine (cN1 _).mono ?_; rintro e V1 ⟨⟨a, rfl, ha, A1⟩, B1⟩; clear cN1)
    | (go_at_call 9; refine (cN2 _).mono ?_; rintro e V2 ⟨⟨b, rfl, hb2, D2⟩, B2x⟩; have A2 := A1.grown B2x; have hb : w.heap.size ≤ b := Nat.le_trans B1.size hb2; have nab : a ≠ b := (by have := A1.lt; omega); have B2 := Below.then B1 B2x; clear B2x B1 A1 hb2 cN2)
    | (go_at_call 10; refine (cA _).mono ?_; rintro e V3 ⟨⟨ev, rfl, E3, EOx⟩, B3x⟩; have A3 := A2.grown B3x; have D3 := D2.grown B3x; have B3 := Below.then B2 B3x; have EO := errO_lt E3 EOx; clear B3x A2 D2 B2 cA EOx)
    | (go_at_call 11; refine (cT _).mono ?_; rintro e V4 ⟨⟨aw, cw, rfl, TW⟩, B4x⟩; have A4 := A3.grown B4x; have D4 := D3.grown B4x; have B4 := Below.then B3 B4x; have E4 := errI_keep E3 EO (Keep.of_below B4x); clear B4x A3 D3 B3 E3 cT TW)
    | (refine wpList_allocS rfl 30 rfl (fL (0, 0, 0)) Try.zeroValue30 ?_; intro V5 x10 F5 S5; have y10 : V4.heap.size ≤ x10 := Nat.le_of_eq F5.at'.symm; have BF : Below V4.heap.size V4 V5 := F5.trans (Below.refl _ _) (Nat.le_refl _); clear F5)
    | (refine wpList_storeS rfl 30 _ _ rfl rfl (fL (F1, F2, F3)) rfl S5 (by simp [fL]) info30 (fL_one _) ?_; intro V6 U6 S6x; have S6 : IsS V6 x10 30 (fL (F1, F2, F3)) := S6x; have BG : Below V4.heap.size V4 V6 := U6.trans BF y10; have A6 := A4.grown BG; have D6 := D4.grown BG; have B6 := Below.then B4 BG; have E6 := errI_keep E4 EO (Keep.of_below BG); clear U6 S6x S5 BF BG A4 D4 B4 E4; have c2 : V6.cell? ⟨x10, 2, none⟩ = some (.int .i64 F3) := S6.cell 2))
  refine grow_all (by kernel_rfl) (by kernel_rfl) ?_
  refine wpG_put rfl (v := .slice none 0 0) (fun w => by first | rfl | (go_simp; done) | (simp [go_sem]; done)) ?_
  simp only [Act.put, List.setIfInBounds_toArray, List.set_cons_succ, List.set_cons_zero]
  refine wpG_put rfl (v := .int .i64 0) (fun w => by first | rfl | (go_simp; done) | (simp [go_sem]; done)) ?_
  simp only [Act.put, List.setIfInBounds_toArray, List.set_cons_succ, List.set_cons_zero]
  refine wpG_put rfl (v := .bool false) (fun w => by first | rfl | (go_simp; done) | (simp [go_sem]; done)) ?_
  simp only [Act.put, List.setIfInBounds_toArray, List.set_cons_succ, List.set_cons_zero]
  refine wpG_put rfl (v := .bool false) (fun w => by first | rfl | (go_simp; done) | (simp [go_sem]; done)) ?_
  simp only [Act.put, List.setIfInBounds_toArray, List.set_cons_succ, List.set_cons_zero]
  refine wpG_put rfl (v := ev) (fun w => by first | rfl | (go_simp; done) | (simp [go_sem]; done)) ?_
  simp only [Act.put, List.setIfInBounds_toArray, List.set_cons_succ, List.set_cons_zero]
  refine wpG_call rfl (f := 12) (args := #[ev]) (v := .agg (fL (F1, F2, F3)).toArray) (fun w hw => by have := seen_any st ev w (errI_keep E6 EO (Keep.of_below hw)); rw [HF.out] at this; exact this) (fun w => by first | rfl | (go_simp; done)) ?_
  simp only [Act.put, List.setIfInBounds_toArray, List.set_cons_succ, List.set_cons_zero]
  refine wpG_loadP rfl 30 _ rfl rfl S6 3 (fL (F1, F2, F3)) rfl _ Try.underlying30 rfl info30 ?_
  simp only [Act.put, List.setIfInBounds_toArray, List.set_cons_succ, List.set_cons_zero]
  refine wpG_put rfl (v := .bool false) (fun w => by first | rfl | (go_simp; done) | (simp [go_sem, fL]; done)) ?_
  simp only [Act.put, List.setIfInBounds_toArray, List.set_cons_succ, List.set_cons_zero]
  refine wpG_put rfl (v := .bool false) (fun w => by first | rfl | (go_simp; done) | (simp [go_sem]; done)) ?_
  simp only [Act.put, List.setIfInBounds_toArray, List.set_cons_succ, List.set_cons_zero]
  refine wpG_nil ?_
  intro V7 B7x
  have A7 := A6.grown B7x
  have D7 := D6.grown B7x
  have B7 := Below.then B6 B7x
  clear B7x A6 D6 B6 S6 c2 E6 EO HF
  go_wp2_with (first
    | (go_at_call 14; refine (cR1 _).mono ?_; rintro e V8 ⟨⟨c, rfl, hc2, C8⟩, B8x⟩; have A8 := A7.grown B8x; have D8 := D7.grown B8x; have hc : w.heap.size ≤ c := Nat.le_trans B7.size hc2; have nac : a ≠ c := (by have := A7.lt; omega); have nbc : b ≠ c := (by have := D7.lt; omega); have B8 := Below.then B7 B8x; clear B8x B7 A7 D7 hc2 cR1)
    | (go_at_call 14; refine (cR2 _).mono ?_; rintro e V9 ⟨⟨d, rfl, hd2, H9⟩, B9x⟩; have LX9 : LX w V9 a b c d s o (LS.start s.data.toList) (LS.start o.data.toList) (LS.start s.data.toList) (LS.start o.data.toList) := ⟨A8.grown B9x, D8.grown B9x, C8.grown B9x, H9, Below.then B8 B9x, ha, hb, hc, Nat.le_trans B8.size hd2, nab, nac, (by have := A8.lt; omega), nbc, (by have := D8.lt; omega), (by have := C8.lt; omega)⟩; clear B9x B8 A8 D8 C8 H9 hd2 cR2))
  have gs1 := start_good s.data.toList
  have gs2 := start_good o.data.toList
  go_loopw [13, 14, 15, 16, 17, 18, 19, 20, 21] (fun i _ _ _ _ _ _ _ _ wr => ∃ (j : Nat) (u1 u2 : LS), j ≤ G.length + 4 ∧ i = .int .i64 (j : Int) ∧ Hid (u1.good s.data.toList) ∧ Hid (u2.good o.data.toList) ∧ LX w wr a b c d s o u1 u2 u1 u2) (fun i _ _ _ _ _ _ _ _ _ => G.length + 4 - (intOf i).toNat)
  case atStart => exact ⟨0, _, _, by omega, rfl, gs1, gs2, LX9⟩
  case round =>
    obtain ⟨j, u1, u2, hj, rfl, hg1, hg2, L0⟩ := hrel
    clear LX9 gs1 gs2
    by_cases hlt : j < G.length + 4
    · have hi : (j : Int) < (G.length : Int) + 4 := by omega
      obtain ⟨v1, t1, hs1', hgo1⟩ := step_ex hg1.out
      obtain ⟨v2, t2, hs2', hgo2⟩ := step_ex hg2.out
      have g1' : Hid (v1.good s.data.toList) := hgo1
      have g2' : Hid (v2.good o.data.toList) := hgo2
      have cA := fun W (h : PLex W a s u1) => pnext_any s hs1.out a u1 v1 t1 hg1.out hs1' W h
      have cB := fun W (h : PLex W b o u2) => pnext_any o ho1.out b u2 v2 t2 hg2.out hs2' W h
      have cC := fun W (h : RLex W c s u1) => rnextS_any s c u1 v1 t1 hg1.out hs1' W h
      have cD := fun W (h : RLex W d o u2) => rnextS_any o d u2 v2 t2 hg2.out hs2' W h
      have la := L0.A.lt
      have lb := L0.B.lt
      have lc := L0.C.lt
      have ld := L0.D.lt
      clear hs1' hs2' hgo1 hgo2 hg1 hg2
      go_wp2_with (first
        | (go_at_call 15; refine (cA _ L0.A).mono ?_; rintro e X1 ⟨⟨ev1, rfl, E1_1, E1x⟩, P1, T1⟩; have E1O := errO_lt E1_1 E1x; have L1 := L0.turnA T1 P1; have g1 : wr.heap.size ≤ X1.heap.size := T1.size; clear L0 P1 T1 E1x)
        | (refine wpList_allocS rfl 38 rfl (tokL noTok) Try.zeroValue38 ?_; intro X2 x14 F2 S14_2; obtain ⟨L2, N14⟩ := L1.fresh F2; have y14 : X1.heap.size ≤ x14 := Nat.le_of_eq F2.at'.symm; have E1_2 := errI_keep E1_1 E1O (Keep.of_below (F2.trans (Below.refl _ _) (Nat.le_refl _))); have g2 : X1.heap.size ≤ X2.heap.size := (by have := F2.size; omega); clear L1 E1_1 F2)
        | (refine wpList_storeS rfl 38 _ _ rfl rfl (tokL t1) rfl S14_2 (by simp [tokL, fL, noTok]) info38 (tok_one _) ?_; intro X3 U3 S14x; have S14_3 : IsS X3 x14 38 (tokL t1) := S14x; have L3 := L2.own U3 N14; have E1_3 := errI_keep E1_2 E1O (Keep.of_upd U3 (by intro h; have := h.1; have := h.2; omega)); have g3 : X2.heap.size ≤ X3.heap.size := (by have := U3.size; omega); clear L2 S14_2 E1_2 U3 S14x)
        | (go_at_call 16; refine (cC _ L3.C).mono ?_; rintro e X4 ⟨rfl, P4, T4⟩; have L4 := L3.turnC T4 P4; have S14_4 := S14_3.turn T4 N14.c; have E1_4 := errI_keep E1_3 E1O (Keep.of_turn T4 (by intro h; have := h.1; have := h.2; omega)); have g4 : X3.heap.size ≤ X4.heap.size := T4.size; clear L3 S14_3 E1_3 P4 T4)
        | (refine wpList_allocS rfl 38 rfl (tokL noTok) Try.zeroValue38 ?_; intro X5 x16 F5 S16_5; obtain ⟨L5, N16⟩ := L4.fresh F5; have q16_14 : x16 ≠ x14 := (by have := S14_4.lt; have := F5.at'; omega); have q14_16 := Ne.symm q16_14; have y16 : X4.heap.size ≤ x16 := Nat.le_of_eq F5.at'.symm; have S14_5 := S14_4.fresh F5; have E1_5 := errI_keep E1_4 E1O (Keep.of_below (F5.trans (Below.refl _ _) (Nat.le_refl _))); have g5 : X4.heap.size ≤ X5.heap.size := (by have := F5.size; omega); clear L4 S14_4 E1_4 F5)
        | (refine wpList_allocS rfl 30 rfl (fL (0, 0, 0)) Try.zeroValue30 ?_; intro X6 x17 F6 S17_6; obtain ⟨L6, N17⟩ := L5.fresh F6; have q17_14 : x17 ≠ x14 := (by have := S14_5.lt; have := F6.at'; omega); have q14_17 := Ne.symm q17_14; have q17_16 : x17 ≠ x16 := (by have := S16_5.lt; have := F6.at'; omega); have q16_17 := Ne.symm q17_16; have y17 : X5.heap.size ≤ x17 := Nat.le_of_eq F6.at'.symm; have S14_6 := S14_5.fresh F6; have S16_6 := S16_5.fresh F6; have E1_6 := errI_keep E1_5 E1O (Keep.of_below (F6.trans (Below.refl _ _) (Nat.le_refl _))); have g6 : X5.heap.size ≤ X6.heap.size := (by have := F6.size; omega); clear L5 S14_5 S16_5 E1_5 F6)
        | (refine wpList_storeS rfl 38 _ _ rfl rfl (tokL t1) rfl S16_6 (by simp [tokL, fL, noTok]) info38 (tok_one _) ?_; intro X7 U7 S16x; have S16_7 : IsS X7 x16 38 (tokL t1) := S16x; have L7 := L6.own U7 N16; have S14_7 := S14_6.upd U7 q14_16; have S17_7 := S17_6.upd U7 q17_16; have E1_7 := errI_keep E1_6 E1O (Keep.of_upd U7 (by intro h; have := h.1; have := h.2; omega)); have g7 : X6.heap.size ≤ X7.heap.size := (by have := U7.size; omega); clear L6 S14_6 S16_6 S17_6 E1_6 U7 S16x)
        | (refine wpList_storeS rfl 30 _ _ rfl rfl (fL v1.F) rfl S17_7 (by simp [tokL, fL, noTok]) info30 (fL_one _) ?_; intro X8 U8 S17x; have S17_8 : IsS X8 x17 30 (fL v1.F) := S17x; have L8 := L7.own U8 N17; have S14_8 := S14_7.upd U8 q14_17; have S16_8 := S16_7.upd U8 q16_17; have E1_8 := errI_keep E1_7 E1O (Keep.of_upd U8 (by intro h; have := h.1; have := h.2; omega)); have g8 : X7.heap.size ≤ X8.heap.size := (by have := U8.size; omega); clear L7 S14_7 S16_7 S17_7 E1_7 U8 S17x)
        | (go_at_call 15; refine (cB _ L8.B).mono ?_; rintro e X9 ⟨⟨ev2, rfl, E2_9, E2x⟩, P9, T9⟩; have E2O := errO_lt E2_9 E2x; have L9 := L8.turnB T9 P9; have S14_9 := S14_8.turn T9 N14.b; have S16_9 := S16_8.turn T9 N16.b; have S17_9 := S17_8.turn T9 N17.b; have E1_9 := errI_keep E1_8 E1O (Keep.of_turn T9 (by intro h; have := h.1; have := h.2; omega)); have g9 : X8.heap.size ≤ X9.heap.size := T9.size; clear L8 S14_8 S16_8 S17_8 E1_8 P9 T9 E2x)
        | (refine wpList_allocS rfl 38 rfl (tokL noTok) Try.zeroValue38 ?_; intro X10 x18 F10 S18_10; obtain ⟨L10, N18⟩ := L9.fresh F10; have q18_14 : x18 ≠ x14 := (by have := S14_9.lt; have := F10.at'; omega); have q14_18 := Ne.symm q18_14; have q18_16 : x18 ≠ x16 := (by have := S16_9.lt; have := F10.at'; omega); have q16_18 := Ne.symm q18_16; have q18_17 : x18 ≠ x17 := (by have := S17_9.lt; have := F10.at'; omega); have q17_18 := Ne.symm q18_17; have y18 : X9.heap.size ≤ x18 := Nat.le_of_eq F10.at'.symm; have S14_10 := S14_9.fresh F10; have S16_10 := S16_9.fresh F10; have S17_10 := S17_9.fresh F10; have E1_10 := errI_keep E1_9 E1O (Keep.of_below (F10.trans (Below.refl _ _) (Nat.le_refl _))); have E2_10 := errI_keep E2_9 E2O (Keep.of_below (F10.trans (Below.refl _ _) (Nat.le_refl _))); have g10 : X9.heap.size ≤ X10.heap.size := (by have := F10.size; omega); clear L9 S14_9 S16_9 S17_9 E1_9 E2_9 F10)
        | (refine wpList_storeS rfl 38 _ _ rfl rfl (tokL t2) rfl S18_10 (by simp [tokL, fL, noTok]) info38 (tok_one _) ?_; intro X11 U11 S18x; have S18_11 : IsS X11 x18 38 (tokL t2) := S18x; have L11 := L10.own U11 N18; have S14_11 := S14_10.upd U11 q14_18; have S16_11 := S16_10.upd U11 q16_18; have S17_11 := S17_10.upd U11 q17_18; have E1_11 := errI_keep E1_10 E1O (Keep.of_upd U11 (by intro h; have := h.1; have := h.2; omega)); have E2_11 := errI_keep E2_10 E2O (Keep.of_upd U11 (by intro h; have := h.1; have := h.2; omega)); have g11 : X10.heap.size ≤ X11.heap.size := (by have := U11.size; omega); clear L10 S14_10 S16_10 S17_10 S18_10 E1_10 E2_10 U11 S18x)
        | (go_at_call 16; refine (cD _ L11.D).mono ?_; rintro e X12 ⟨rfl, P12, T12⟩; have L12 := L11.turnD T12 P12; have S14_12 := S14_11.turn T12 N14.d; have S16_12 := S16_11.turn T12 N16.d; have S17_12 := S17_11.turn T12 N17.d; have S18_12 := S18_11.turn T12 N18.d; have E1_12 := errI_keep E1_11 E1O (Keep.of_turn T12 (by intro h; have := h.1; have := h.2; omega)); have E2_12 := errI_keep E2_11 E2O (Keep.of_turn T12 (by intro h; have := h.1; have := h.2; omega)); have g12 : X11.heap.size ≤ X12.heap.size := T12.size; clear L11 S14_11 S16_11 S17_11 S18_11 E1_11 E2_11 P12 T12)
        | (refine wpList_allocS rfl 38 rfl (tokL noTok) Try.zeroValue38 ?_; intro X13 x20 F13 S20_13; obtain ⟨L13, N20⟩ := L12.fresh F13; have q20_14 : x20 ≠ x14 := (by have := S14_12.lt; have := F13.at'; omega); have q14_20 := Ne.symm q20_14; have q20_16 : x20 ≠ x16 := (by have := S16_12.lt; have := F13.at'; omega); have q16_20 := Ne.symm q20_16; have q20_17 : x20 ≠ x17 := (by have := S17_12.lt; have := F13.at'; omega); have q17_20 := Ne.symm q20_17; have q20_18 : x20 ≠ x18 := (by have := S18_12.lt; have := F13.at'; omega); have q18_20 := Ne.symm q20_18; have y20 : X12.heap.size ≤ x20 := Nat.le_of_eq F13.at'.symm; have S14_13 := S14_12.fresh F13; have S16_13 := S16_12.fresh F13; have S17_13 := S17_12.fresh F13; have S18_13 := S18_12.fresh F13; have E1_13 := errI_keep E1_12 E1O (Keep.of_below (F13.trans (Below.refl _ _) (Nat.le_refl _))); have E2_13 := errI_keep E2_12 E2O (Keep.of_below (F13.trans (Below.refl _ _) (Nat.le_refl _))); have g13 : X12.heap.size ≤ X13.heap.size := (by have := F13.size; omega); clear L12 S14_12 S16_12 S17_12 S18_12 E1_12 E2_12 F13)
        | (refine wpList_allocS rfl 30 rfl (fL (0, 0, 0)) Try.zeroValue30 ?_; intro X14 x21 F14 S21_14; obtain ⟨L14, N21⟩ := L13.fresh F14; have q21_14 : x21 ≠ x14 := (by have := S14_13.lt; have := F14.at'; omega); have q14_21 := Ne.symm q21_14; have q21_16 : x21 ≠ x16 := (by have := S16_13.lt; have := F14.at'; omega); have q16_21 := Ne.symm q21_16; have q21_17 : x21 ≠ x17 := (by have := S17_13.lt; have := F14.at'; omega); have q17_21 := Ne.symm q21_17; have q21_18 : x21 ≠ x18 := (by have := S18_13.lt; have := F14.at'; omega); have q18_21 := Ne.symm q21_18; have q21_20 : x21 ≠ x20 := (by have := S20_13.lt; have := F14.at'; omega); have q20_21 := Ne.symm q21_20; have y21 : X13.heap.size ≤ x21 := Nat.le_of_eq F14.at'.symm; have S14_14 := S14_13.fresh F14; have S16_14 := S16_13.fresh F14; have S17_14 := S17_13.fresh F14; have S18_14 := S18_13.fresh F14; have S20_14 := S20_13.fresh F14; have E1_14 := errI_keep E1_13 E1O (Keep.of_below (F14.trans (Below.refl _ _) (Nat.le_refl _))); have E2_14 := errI_keep E2_13 E2O (Keep.of_below (F14.trans (Below.refl _ _) (Nat.le_refl _))); have g14 : X13.heap.size ≤ X14.heap.size := (by have := F14.size; omega); clear L13 S14_13 S16_13 S17_13 S18_13 S20_13 E1_13 E2_13 F14)
        | (refine wpList_storeS rfl 38 _ _ rfl rfl (tokL t2) rfl S20_14 (by simp [tokL, fL, noTok]) info38 (tok_one _) ?_; intro X15 U15 S20x; have S20_15 : IsS X15 x20 38 (tokL t2) := S20x; have L15 := L14.own U15 N20; have S14_15 := S14_14.upd U15 q14_20; have S16_15 := S16_14.upd U15 q16_20; have S17_15 := S17_14.upd U15 q17_20; have S18_15 := S18_14.upd U15 q18_20; have S21_15 := S21_14.upd U15 q21_20; have E1_15 := errI_keep E1_14 E1O (Keep.of_upd U15 (by intro h; have := h.1; have := h.2; omega)); have E2_15 := errI_keep E2_14 E2O (Keep.of_upd U15 (by intro h; have := h.1; have := h.2; omega)); have g15 : X14.heap.size ≤ X15.heap.size := (by have := U15.size; omega); clear L14 S14_14 S16_14 S17_14 S18_14 S20_14 S21_14 E1_14 E2_14 U15 S20x)
        | (refine wpList_storeS rfl 30 _ _ rfl rfl (fL v2.F) rfl S21_15 (by simp [tokL, fL, noTok]) info30 (fL_one _) ?_; intro X16 U16 S21x; have S21_16 : IsS X16 x21 30 (fL v2.F) := S21x; have L16 := L15.own U16 N21; have S14_16 := S14_15.upd U16 q14_21; have S16_16 := S16_15.upd U16 q16_21; have S17_16 := S17_15.upd U16 q17_21; have S18_16 := S18_15.upd U16 q18_21; have S20_16 := S20_15.upd U16 q20_21; have E1_16 := errI_keep E1_15 E1O (Keep.of_upd U16 (by intro h; have := h.1; have := h.2; omega)); have E2_16 := errI_keep E2_15 E2O (Keep.of_upd U16 (by intro h; have := h.1; have := h.2; omega)); have g16 : X15.heap.size ≤ X16.heap.size := (by have := U16.size; omega); clear L15 S14_15 S16_15 S17_15 S18_15 S20_15 S21_15 E1_15 E2_15 U16 S21x))
      refine grow_all (by kernel_rfl) (by kernel_rfl) ?_
      refine wpG_loadP rfl 38 _ rfl rfl S14_16 7 (tokL t1) rfl _ Try.underlying38 rfl info38 ?_
      simp only [Act.put, List.setIfInBounds_toArray, List.set_cons_succ, List.set_cons_zero]
      refine wpG_loadP rfl 38 _ rfl rfl S16_16 7 (tokL t1) rfl _ Try.underlying38 rfl info38 ?_
      simp only [Act.put, List.setIfInBounds_toArray, List.set_cons_succ, List.set_cons_zero]
      refine wpG_put rfl (v := .bool false) (fun w => by first | rfl | (go_simp; done) | (simp [go_sem, tokL]; done)) ?_
      simp only [Act.put, List.setIfInBounds_toArray, List.set_cons_succ, List.set_cons_zero]
      refine wpG_put rfl (v := .bool false) (fun w => by first | rfl | (go_simp; done) | (simp [go_sem]; done)) ?_
      simp only [Act.put, List.setIfInBounds_toArray, List.set_cons_succ, List.set_cons_zero]
      refine wpG_put rfl (v := ev1) (fun w => by first | rfl | (go_simp; done) | (simp [go_sem]; done)) ?_
      simp only [Act.put, List.setIfInBounds_toArray, List.set_cons_succ, List.set_cons_zero]
      refine wpG_call rfl (f := 12) (args := #[ev1]) (v := .agg (fL v1.F).toArray) (fun w hw => seen_any v1 ev1 w (errI_keep E1_16 E1O (Keep.of_below hw))) (fun w => by first | rfl | (go_simp; done)) ?_
      simp only [Act.put, List.setIfInBounds_toArray, List.set_cons_succ, List.set_cons_zero]
      refine wpG_loadP rfl 30 _ rfl rfl S17_16 3 (fL v1.F) rfl _ Try.underlying30 rfl info30 ?_
      simp only [Act.put, List.setIfInBounds_toArray, List.set_cons_succ, List.set_cons_zero]
      refine wpG_put rfl (v := .bool false) (fun w => by first | rfl | (go_simp; done) | (simp [go_sem, fL]; done)) ?_
      simp only [Act.put, List.setIfInBounds_toArray, List.set_cons_succ, List.set_cons_zero]
      refine wpG_put rfl (v := .bool false) (fun w => by first | rfl | (go_simp; done) | (simp [go_sem]; done)) ?_
      simp only [Act.put, List.setIfInBounds_toArray, List.set_cons_succ, List.set_cons_zero]
      refine wpG_put rfl (v := .bool false) (fun w => by first | rfl | (go_simp; done) | (simp [go_sem]; done)) ?_
      simp only [Act.put, List.setIfInBounds_toArray, List.set_cons_succ, List.set_cons_zero]
      refine wpG_loadP rfl 38 _ rfl rfl S18_16 7 (tokL t2) rfl _ Try.underlying38 rfl info38 ?_
      simp only [Act.put, List.setIfInBounds_toArray, List.set_cons_succ, List.set_cons_zero]
      refine wpG_loadP rfl 38 _ rfl rfl S20_16 7 (tokL t2) rfl _ Try.underlying38 rfl info38 ?_
      simp only [Act.put, List.setIfInBounds_toArray, List.set_cons_succ, List.set_cons_zero]
      refine wpG_put rfl (v := .bool false) (fun w => by first | rfl | (go_simp; done) | (simp [go_sem, tokL]; done)) ?_
      simp only [Act.put, List.setIfInBounds_toArray, List.set_cons_succ, List.set_cons_zero]
      refine wpG_put rfl (v := .bool false) (fun w => by first | rfl | (go_simp; done) | (simp [go_sem]; done)) ?_
      simp only [Act.put, List.setIfInBounds_toArray, List.set_cons_succ, List.set_cons_zero]
      refine wpG_put rfl (v := .bool false) (fun w => by first | rfl | (go_simp; done) | (simp [go_sem]; done)) ?_
      simp only [Act.put, List.setIfInBounds_toArray, List.set_cons_succ, List.set_cons_zero]
      refine wpG_put rfl (v := ev2) (fun w => by first | rfl | (go_simp; done) | (simp [go_sem]; done)) ?_
      simp only [Act.put, List.setIfInBounds_toArray, List.set_cons_succ, List.set_cons_zero]
      refine wpG_call rfl (f := 12) (args := #[ev2]) (v := .agg (fL v2.F).toArray) (fun w hw => seen_any v2 ev2 w (errI_keep E2_16 E2O (Keep.of_below hw))) (fun w => by first | rfl | (go_simp; done)) ?_
      simp only [Act.put, List.setIfInBounds_toArray, List.set_cons_succ, List.set_cons_zero]
      refine wpG_loadP rfl 30 _ rfl rfl S21_16 3 (fL v2.F) rfl _ Try.underlying30 rfl info30 ?_
      simp only [Act.put, List.setIfInBounds_toArray, List.set_cons_succ, List.set_cons_zero]
      refine wpG_put rfl (v := .bool false) (fun w => by first | rfl | (go_simp; done) | (simp [go_sem, fL]; done)) ?_
      simp only [Act.put, List.setIfInBounds_toArray, List.set_cons_succ, List.set_cons_zero]
      refine wpG_put rfl (v := .bool false) (fun w => by first | rfl | (go_simp; done) | (simp [go_sem]; done)) ?_
      simp only [Act.put, List.setIfInBounds_toArray, List.set_cons_succ, List.set_cons_zero]
      refine wpG_nil ?_
      intro WZ BZ
      have LZ := L16.grow BZ
      clear BZ L16 S14_16 S16_16 S17_16 S18_16 S20_16 S21_16 E1_16 E2_16 E1O E2O
      go_wp2_with fail
      go_roundw
      case rel => exact ⟨j + 1, v1, v2, by omega, by go_num, g1', g2', LZ⟩
      case measure => simp [intOf]; omega
    · have hi : ¬ (j : Int) < (G.length : Int) + 4 := by omega
      go_wp2_with fail
      go_ret
      exact ⟨rfl, L0.G⟩

theorem tokens_law (s o : ByteArray) (hs : s.size < 2305843009213693952) (ho : o.size < 2305843009213693952) (w : World) :
    Calls Try.prog 3 #[.string s, .string o] w fun e w' => e = .returned (.bool true) ∧ Below w.heap.size w w' := by
  obtain ⟨ts, st, hr, hl, h⟩ := dec_ex s.data.toList
  rcases h with h | h
  · exact tokens_ok s o hs ho ts (by rw [hr, h]; rfl) hl w
  · exact tokens_bad s o hs ho ts st hr hl h w
end Go.Proofs.Ytbelajboalikcaa
