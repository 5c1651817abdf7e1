/- The reference's Tokens. -/
import Derived.Test.YtopnbemodlcknaaDoorLxKA
import Derived.Test.YtopnbemodlcknaaDoorLxAB
namespace Go.Proofs.YtopnbemodlcknaaDoor.Lx
open Go.RowKit Go.Shelf M
attribute [local go_sem] Oper.semAt_some
set_option linter.unusedSimpArgs false
set_option linter.unusedVariables false

def fOf : Option Rd → Int × Int × Int
  | some (.pos x y e) => ((x : Int), (y : Int), (e : Int))
  | some .long => (-1, 0, 1)
  | _ => (0, 0, 0)
theorem fOf_rd (st : LS) : fOf st.rd = st.F := by cases st <;> rfl
theorem rd_not (st : LS) (t : Tok) : st.rd ≠ some (.tok t) := by cases st <;> simp [LS.rd]
theorem dec_unique : ∀ {us ts : List Tok} {r r' : Option Rd}, (∀ t, r ≠ some (.tok t)) → (∀ t, r' ≠ some (.tok t)) → us.map Rd.tok ++ r'.toList = ts.map Rd.tok ++ r.toList → us = ts ∧ r' = r
  | [], [], r, r', _, _, h => by
    refine ⟨rfl, ?_⟩
    cases r <;> cases r' <;> simp_all
  | [], t :: ts, r, r', h1, h2, h => by
    cases r' with
    | none => simp at h
    | some x => simp at h; exact absurd (by rw [h.1]) (h2 t)
  | u :: us, [], r, r', h1, h2, h => by
    cases r with
    | none => simp at h
    | some x => simp at h; exact absurd (by rw [← h.1]) (h1 u)
  | u :: us, t :: ts, r, r', h1, h2, h => by
    simp only [List.map_cons, List.cons_append, List.cons.injEq, Rd.tok.injEq] at h
    obtain ⟨e1, e2⟩ := dec_unique h1 h2 h.2
    exact ⟨by rw [h.1, e1], e2⟩
/-- Where the reference's Tokens stands. -/
def TokJ (l : List UInt8) (us : List Tok) (g : Nat) : LS → Prop
  | .ok p => p ≤ l.length ∧ l.length ≤ 1048576 ∧ us.length ≤ p ∧ g + p = l.length + 1 ∧ ∃ f, l.length < p + f ∧ rounds l = us.map Rd.tok ++ goF f l p (spotF (1, 1) (l.take p))
  | .long => 1048576 < l.length ∧ us = []
  | .bad _ _ _ => False
theorem tokJ_good {l : List UInt8} {us : List Tok} {g : Nat} {st : LS} (h : TokJ l us g st) : st.good l ∧ us.length ≤ 1048576 := by
  cases st with
  | ok p => exact ⟨⟨h.1, h.2.1⟩, by have := h.1; have := h.2.1; have := h.2.2.1; omega⟩
  | long => exact ⟨h.1, by rw [h.2]; decide⟩
  | bad x y e => exact h.elim
theorem tokJ_start (l : List UInt8) : TokJ l [] (l.length + 1) (LS.start l) := by
  unfold LS.start
  split
  · exact ⟨‹_›, rfl⟩
  · rename_i h
    refine ⟨Nat.zero_le _, by omega, Nat.le_refl _, rfl, l.length + 1, by omega, ?_⟩
    unfold rounds
    rw [if_neg h]
    rfl
theorem tokJ_step {l : List UInt8} {us : List Tok} {g : Nat} {st st' : LS} {t : Tok} (h : TokJ l us g st) (hs : Step l st st' t) :
    (∃ g', st'.F = (0, 0, 0) ∧ 1 ≤ t.kind ∧ g' < g ∧ TokJ l (us ++ [t]) g' st') ∨ ((st'.F.2.2 ≠ 0 ∨ (st'.F = (0, 0, 0) ∧ t.kind = 0)) ∧ rounds l = us.map Rd.tok ++ st'.rd.toList) := by
  cases st with
  | bad x y e => exact h.elim
  | long =>
    cases hs
    refine .inr ⟨.inl (by decide), ?_⟩
    unfold rounds
    rw [if_pos h.1, h.2]
    rfl
  | ok p =>
    obtain ⟨h1, h2, h3, h4, f, hf, hr⟩ := h
    rcases go_step hs hf h1 with ⟨k, f', rfl, hk, hf', hkd, e⟩ | ⟨k, rfl, hkd, e⟩ | ⟨x, y, e', rfl, he, e⟩
    · have hg := step_good (st := .ok p) ⟨h1, h2⟩ hs
      refine .inl ⟨l.length + 1 - k, rfl, hkd, by have := hg.1; omega, hg.1, h2, by rw [List.length_append]; simp; omega, by have := hg.1; omega, f', by omega, ?_⟩
      rw [hr, e]
      simp
    · exact .inr ⟨.inr ⟨rfl, hkd⟩, by rw [hr, e]; rfl⟩
    · exact .inr ⟨.inl (by show (e' : Int) ≠ 0; omega), by rw [hr, e]; rfl⟩
theorem RLex.is {w : World} {b : Nat} {s : ByteArray} {st : LS} (h : RLex w b s st) : ∃ cs, IsS w b 68 cs := by
  cases st with
  | ok p => obtain ⟨_, _, h⟩ := h; exact ⟨_, h⟩
  | bad x y e => obtain ⟨_, _, _, h⟩ := h; exact ⟨_, h⟩
  | long => obtain ⟨_, _, _, h⟩ := h; exact ⟨_, h⟩
theorem PLex.is {w : World} {b : Nat} {s : ByteArray} {st : LS} (h : PLex w b s st) : ∃ cs, IsS w b 78 cs := by
  cases st with
  | ok p => exact ⟨_, h⟩
  | bad x y e => obtain ⟨_, h⟩ := h; exact ⟨_, h⟩
  | long => obtain ⟨_, _, _, h⟩ := h; exact ⟨_, h⟩
theorem own_turn {W W' : World} {base n b t : Nat} {v : Value} {xs cs : List Value} (h : W.ownsRow base 44 7 v n xs) (hc : IsS W b t cs) (ht : t ≠ 44) (T : Turn W W' b) : W'.ownsRow base 44 7 v n xs :=
  own_keep h (Keep.of_turn (O := fun k => k ≠ b) T (fun h => h rfl)) (fun g hg e => own_ne h hc ht (by rw [hg, e]))
theorem isS_grownBy {W W' : World} {base n b t : Nat} {v : Value} {xs cs : List Value} (h : W.ownsRow base 44 7 v n xs) (hc : IsS W b t cs) (ht : t ≠ 44) (hg : W.grownBy W' v.ownBlock) : IsS W' b t cs :=
  (hg.block b hc.lt (Ne.symm (own_ne h hc ht))).trans hc

set_option maxRecDepth 100000 in
theorem ret_TS {w : World} {b t k : Nat} {cs : List Value} {fn : Func} {p : Tmp} {R : Ending → World → Prop} {a : Act} (h : fn.results = #[.tmp k, .cell p t]) (hp : a.tmps.getD p undef = .pointer (some ⟨b, 0, none⟩))
    (hd : a.defers = []) (hc : IsS w b t cs) (d : TypeDesc) (hu : Tryd.prog.underlying t = some d) (hr : (match d with | .struct _ => true | .array _ _ => true | _ => false) = true) (hi : (Tryd.prog.info? t).map (·.size) = some cs.length) (v : Value) (hv : a.tmps.getD k undef = v) (hR : R (.returned (.tuple #[v, .agg cs.toArray])) w) : bodyPost Tryd.prog fn R .ret a w := by
  have hc' : w.heap[b]? = some (.cells cs.toArray t (0, 0)) := hc
  have hp' : a.tmps[p]?.getD undef = .pointer (some ⟨b, 0, none⟩) := by simpa using hp
  have hv' : a.tmps[k]?.getD undef = v := by simpa using hv
  refine ⟨hd, .tuple #[v, .agg cs.toArray], ?_, hR⟩
  simp [results, h, hp', hv', asAddr, run_loadVar_row w b t t cs.toArray (0, 0) d hc' hu (by cases d <;> simp_all) (by simpa using hi)]
/-- What stands in a round of Tokens. -/
structure RT (w W : World) (b b3 : Nat) (s : ByteArray) (st : LS) (v : Value) (n : Nat) (us : List Tok) : Prop where
  L : RLex W b s st
  O : W.ownsRow w.heap.size 44 7 v n (cellsT us)
  N : IsS W b3 32 (fL (0, 0, 0))
  B : Below w.heap.size w W
  hb : w.heap.size ≤ b
  h3 : w.heap.size ≤ b3
  hn : b3 ≠ b
section
variable {w W W' : World} {b b3 b6 n : Nat} {s : ByteArray} {st st' : LS} {v : Value} {us : List Tok}
theorem RT.turnL (h : RT w W b b3 s st v n us) (T : Turn W W' b) (L : RLex W' b s st') : RT w W' b b3 s st' v n us := by
  obtain ⟨cs, hcs⟩ := h.L.is
  exact ⟨L, own_turn h.O hcs (by decide) T, h.N.turnL T h.hn, Turn.below h.B h.hb h.B.size T, h.hb, h.h3, h.hn⟩
theorem RT.fresh (h : RT w W b b3 s st v n us) (F : Fresh W W' b6) : RT w W' b b3 s st v n us ∧ v.ownBlock ≠ some b6 ∧ w.heap.size ≤ b6 := by
  have e := F.at'
  have hB : Below W.heap.size W W' := F.trans (Below.refl _ _) (Nat.le_refl _)
  refine ⟨⟨h.L.grown hB, own_belowW h.O hB, h.N.fresh F, Below.then h.B hB, h.hb, h.h3, h.hn⟩, fun hg => ?_, ?_⟩
  · have := (h.O.lt _ hg).2
    omega
  · have := h.B.size
    omega
theorem RT.upd (h : RT w W b b3 s st v n us) (U : Upd W W' b6) (h1 : v.ownBlock ≠ some b6) (h2 : b ≠ b6) (h3' : b3 ≠ b6) (h4 : w.heap.size ≤ b6) : RT w W' b b3 s st v n us :=
  ⟨h.L.upd U h2, own_updN h.O U h1, h.N.upd U h3', U.trans h.B h4, h.hb, h.h3, h.hn⟩
theorem RT.app {v' : Value} {n' : Nat} {us' : List Tok} (h : RT w W b b3 s st v n us) (hg : W.grownBy W' v.ownBlock) (O : W'.ownsRow w.heap.size 44 7 v' n' (cellsT us')) : RT w W' b b3 s st v' n' us' := by
  obtain ⟨cs, hcs⟩ := h.L.is
  refine ⟨h.L.move fun o ho => (hg.block b hcs.lt (Ne.symm (own_ne h.O hcs (by decide)))).trans ho, O, isS_grownBy h.O h.N (by decide) hg, h.B.grown hg h.B.size (fun k hk => (h.O.lt k hk).1), h.hb, h.h3, h.hn⟩
end

set_option maxRecDepth 100000 in
set_option maxHeartbeats 4000000 in
theorem rtokens_any (s : ByteArray) (hs : s.size < 4611686018427387904) (ts : List Tok) (er : Option Rd) (hr : rounds s.data.toList = ts.map Rd.tok ++ er.toList) (hne : ∀ t, er ≠ some (.tok t)) (w : World) :
    Calls Tryd.prog 12 #[.string s] w fun e w' => (∃ v, e = .returned (.tuple #[v, .agg (fL (fOf er)).toArray]) ∧ w'.ownsRow w.heap.size 44 7 v ts.length (cellsT ts)) ∧ Below w.heap.size w w' := by
  obtain ⟨i0, hi, hz0, hz1, hz2⟩ := parts38
  have HR : Hid (∀ (us : List Tok) (st : LS), rounds s.data.toList = us.map Rd.tok ++ st.rd.toList → us = ts ∧ st.F = fOf er) := fun us st h => by
    rw [hr] at h
    obtain ⟨e1, e2⟩ := dec_unique (rd_not st) hne h
    exact ⟨e1.symm, by rw [← fOf_rd, e2]⟩
  clear hr hne
  have cN := fun w => rnewS_any s hs w
  go_enter Tryd.func12, Tryd.ntmps12
  go_wp2_with (first
    | (refine wpList_allocS rfl 32 rfl (fL (0, 0, 0)) Tryd.zeroValue32 ?_; intro W1 b3 F1 N1; have hb3 : w.heap.size ≤ b3 := Nat.le_of_eq F1.at'.symm; have B1 := F1.trans (Below.refl _ w) (Nat.le_refl _); clear F1)
    | (go_at_call 16; refine (cN _).mono ?_; rintro e W2 ⟨⟨b, rfl, hb, L2⟩, B2x⟩; have R2 : RT w W2 b b3 s (LS.start s.data.toList) (.slice none 0 0) 0 [] := ⟨L2, World.ownsRow_nil _ _ _ _, N1.grown B2x, Below.then B1 B2x, Nat.le_trans B1.size hb, hb3, (by have := N1.lt; omega)⟩; clear B2x B1 N1 cN hb L2))
  go_loopg [5, 6, 7] (s.data.toList.length + 1) (fun g v _ _ wr => ∃ (us : List Tok) (st : LS) (n : Nat), Hid (us.length = n) ∧ Hid (TokJ s.data.toList us g st) ∧ RT w wr b b3 s st v n us)
  case atStart => exact ⟨[], _, 0, rfl, tokJ_start _, R2⟩
  case round =>
    obtain ⟨us, st, UL, HU, HJ, R⟩ := hrel
    clear R2
    have hgd := tokJ_good HJ.out
    obtain ⟨st', t, hst, _⟩ := step_ex hgd.1
    have cX := rnextS_any s b st st' t hgd.1 hst wr R.L
    have hul : UL ≤ 1048576 := (by rw [← HU.out]; exact hgd.2)
    have hcase := tokJ_step HJ.out hst
    obtain ⟨a0, c0, rfl⟩ := own_form R.O
    clear HJ hgd hst
    obtain ⟨⟨G1, G2, G3⟩, hG⟩ : ∃ G, st'.F = G := ⟨_, rfl⟩
    rw [hG] at cX hcase
    obtain ⟨kd, tx, vl, ln, cl, pt, fn⟩ := t
    rcases hcase with ⟨g', hF, hk, hg', HJ⟩ | ⟨hex, hrd⟩
    · cases hF
      have HJ2 : Hid (TokJ s.data.toList (us ++ [⟨kd, tx, vl, ln, cl, pt, fn⟩]) g' st') := HJ
      have hk0 : ((kd : Int) == 0) = false := (by simp; dsimp only at hk; omega)
      clear hk HJ hG
      go_wp2_with (first
        | (go_at_call 17; refine cX.mono ?_; rintro e W3 ⟨rfl, L3, T3⟩; have R3 := R.turnL T3 L3; clear T3 L3 R cX)
        | (refine wpList_allocS rfl 44 rfl (tokL noTok) Tryd.zeroValue44 ?_; intro W4 b6 F4 N6; obtain ⟨R4, o6, h6⟩ := R3.fresh F4; have d6 : b ≠ b6 := (by have := R3.L.lt; have := F4.at'; omega); have e6 : b3 ≠ b6 := (by have := R3.N.lt; have := F4.at'; omega); clear F4 R3)
        | (refine wpList_allocS rfl 32 rfl (fL (0, 0, 0)) Tryd.zeroValue32 ?_; intro W5 b7 F5 N7; obtain ⟨R5, o7, h7⟩ := R4.fresh F5; have d7 : b ≠ b7 := (by have := R4.L.lt; have := F5.at'; omega); have e7 : b3 ≠ b7 := (by have := R4.N.lt; have := F5.at'; omega); have h67 : b6 ≠ b7 := (by have := N6.lt; have := F5.at'; omega); have M6 := N6.fresh F5; clear F5 R4 N6)
        | (refine wpList_storeS rfl 44 _ _ rfl rfl (tokL ⟨kd, tx, vl, ln, cl, pt, fn⟩) rfl M6 (by simp [tokL, noTok]) info38 (tok_one _) ?_; intro W6 U6 P6x; have P6 : IsS W6 b6 44 (tokL ⟨kd, tx, vl, ln, cl, pt, fn⟩) := P6x; have R6 := R5.upd U6 o6 d6 e6 h6; have P7 := N7.upd U6 (Ne.symm h67); clear U6 P6x M6 N7 R5)
        | (refine wpList_storeS rfl 32 _ _ rfl rfl (fL (0, 0, 0)) rfl P7 (by simp [fL]) info30 (fL_one _) ?_; intro W7 U7 Q7x; have Q7 : IsS W7 b7 32 (fL (0, 0, 0)) := Q7x; have R7 := R6.upd U7 o7 d7 e7 h7; have Q6 := P6.upd U7 h67; clear U7 Q7x P7 P6 R6; have c2 : W7.cell? ⟨b7, 2, none⟩ = some (.int .i64 0) := Q7.cell 2; have c0' : W7.cell? ⟨b6, 0, none⟩ = some (.int .i64 (kd : Int)) := Q6.cell 0)
        | (refine wpList_loadP rfl 44 _ rfl rfl Q6 7 (tokL ⟨kd, tx, vl, ln, cl, pt, fn⟩) rfl _ Tryd.underlying44 rfl info38 ?_)
        | (refine wpList_buildG rfl _ rfl (toG ⟨kd, tx, vl, ln, cl, pt, fn⟩) rfl ?_; intro W8 b8 F8 N8; obtain ⟨R8, o8, h8⟩ := R7.fresh F8; clear F8 R7 c2 c0' Q6 Q7; refine Hid.out ?_))
      refine Lib.hid ?_
      have hw8 := R8.B.size
      refine wpList_append_own _ rfl _ _ 40 rfl w.heap.size 44 i0 (.agg (tokL noTok).toArray) 7 64 Tryd.underlying40 hi hz0 hz1 hz2 rfl (by decide) _ _ _ rfl R8.O ⟨b8, 0, none⟩ 1 1 (tokL ⟨kd, tx, vl, ln, cl, pt, fn⟩) rfl rfl (fun j u hj => by rw [Addr.add_mid, Nat.zero_add, N8.cell]; exact hj) (tok_one _) (by unfold maxLen; omega) (by omega) hw8 ?_
      intro v' W9 own9 hgr _
      rw [← cellsT_snoc] at own9
      have R9 := R8.app hgr own9
      obtain ⟨a1, c1, rfl⟩ := own_form own9
      have HU2 : Hid ((us ++ [(⟨kd, tx, vl, ln, cl, pt, fn⟩ : Tok)]).length = UL + 1) := (by show _ = _; rw [List.length_append, HU.out]; rfl)
      clear own9 hgr R8 N8 HU
      go_wp2_with fail
      go_roundg g'
      case measure => exact hg'
      case rel => exact ⟨us ++ [⟨kd, tx, vl, ln, cl, pt, fn⟩], st', UL + 1, HU2, HJ2, R9⟩
    · obtain ⟨hus, hF⟩ := HR.out us st' hrd
      have HUS : Hid (us = ts) := hus
      have HF : Hid (fOf er = (G1, G2, G3)) := (by show _ = _; rw [← hF, hG])
      have hex2 : ((G3 != 0) = true ∧ (G3 == 0) = false) ∨ ((G3 != 0) = false ∧ ((kd : Int) == 0) = true) := (by
        rcases hex with h | ⟨h1, h2⟩
        · exact .inl ⟨by simpa using h, by simpa using h⟩
        · refine .inr ⟨?_, ?_⟩
          · cases h1; rfl
          · dsimp only at h2; rw [h2]; rfl)
      clear hex hrd hus hF hG
      rcases hex2 with ⟨hx, hx2⟩ | ⟨hx, hx2⟩
      all_goals
        go_wp2_with (first
          | (go_at_call 17; refine cX.mono ?_; rintro e W3 ⟨rfl, L3, T3⟩; have R3 := R.turnL T3 L3; clear T3 L3 R cX)
          | (refine wpList_allocS rfl 44 rfl (tokL noTok) Tryd.zeroValue44 ?_; intro W4 b6 F4 N6; obtain ⟨R4, o6, h6⟩ := R3.fresh F4; have d6 : b ≠ b6 := (by have := R3.L.lt; have := F4.at'; omega); have e6 : b3 ≠ b6 := (by have := R3.N.lt; have := F4.at'; omega); clear F4 R3)
          | (refine wpList_allocS rfl 32 rfl (fL (0, 0, 0)) Tryd.zeroValue32 ?_; intro W5 b7 F5 N7; obtain ⟨R5, o7, h7⟩ := R4.fresh F5; have d7 : b ≠ b7 := (by have := R4.L.lt; have := F5.at'; omega); have e7 : b3 ≠ b7 := (by have := R4.N.lt; have := F5.at'; omega); have h67 : b6 ≠ b7 := (by have := N6.lt; have := F5.at'; omega); have M6 := N6.fresh F5; clear F5 R4 N6)
          | (refine wpList_storeS rfl 44 _ _ rfl rfl (tokL ⟨kd, tx, vl, ln, cl, pt, fn⟩) rfl M6 (by simp [tokL, noTok]) info38 (tok_one _) ?_; intro W6 U6 P6x; have P6 : IsS W6 b6 44 (tokL ⟨kd, tx, vl, ln, cl, pt, fn⟩) := P6x; have R6 := R5.upd U6 o6 d6 e6 h6; have P7 := N7.upd U6 (Ne.symm h67); clear U6 P6x M6 N7 R5)
          | (refine wpList_storeS rfl 32 _ _ rfl rfl (fL (G1, G2, G3)) rfl P7 (by simp [fL]) info30 (fL_one _) ?_; intro W7 U7 Q7x; have Q7 : IsS W7 b7 32 (fL (G1, G2, G3)) := Q7x; have R7 := R6.upd U7 o7 d7 e7 h7; have Q6 := P6.upd U7 h67; clear U7 Q7x P7 P6 R6; have c2 : W7.cell? ⟨b7, 2, none⟩ = some (.int .i64 G3) := Q7.cell 2; have c0' : W7.cell? ⟨b6, 0, none⟩ = some (.int .i64 (kd : Int)) := Q6.cell 0))
        refine grow_tail 3 (by kernel_rfl) (by kernel_rfl) ?_
        simp only [List.take_succ_cons, List.take_zero, List.drop_succ_cons, List.drop_zero]
        refine wpG_put rfl (v := .slice a0 UL c0) (fun w => by first | rfl | (go_simp; done)) ?_
        simp only [Act.put, List.setIfInBounds_toArray, List.set_cons_succ, List.set_cons_zero]
        refine wpG_loadP rfl 32 _ rfl rfl Q7 3 (fL (G1, G2, G3)) rfl _ Tryd.underlying32 rfl info30 ?_
        simp only [Act.put, List.setIfInBounds_toArray, List.set_cons_succ, List.set_cons_zero]
        refine wpG_put rfl (v := .slice a0 UL c0) (fun w => by first | rfl | (go_simp; done)) ?_
        simp only [Act.put, List.setIfInBounds_toArray, List.set_cons_succ, List.set_cons_zero]
        refine wpG_nil ?_
        intro W8 B8
        have N8 := R7.N.grown B8
        have O8 := own_belowW R7.O B8
        have BB := Below.then R7.B B8
        have g3 := R7.h3
        clear B8 Q6 Q7 c2 c0'
        go_wp2_with (first
          | (refine wpList_storeS rfl 32 _ _ rfl rfl (fL (G1, G2, G3)) rfl N8 (by simp [fL]) info30 (fL_one _) ?_; intro V9 U9 NZx; have NZ : IsS V9 b3 32 (fL (G1, G2, G3)) := NZx; have OZ := own_updN O8 U9 (own_ne O8 N8 (by decide)); have BZ := U9.trans BB g3; clear U9 N8 BB NZx O8 R7))
        refine ret_TS rfl rfl rfl NZ _ Tryd.underlying32 rfl info30 _ rfl ⟨⟨.slice a0 UL c0, ?_, ?_⟩, BZ⟩
        · rw [HF.out]; rfl
        · rw [← HUS.out, HU.out]; exact OZ
end Go.Proofs.YtopnbemodlcknaaDoor.Lx
