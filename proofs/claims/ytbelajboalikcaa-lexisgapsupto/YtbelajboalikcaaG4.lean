/- The law LexisGaps. -/
import Derived.Test.YtbelajboalikcaaG3
import Derived.Test.YtbelajboalikcaaLB0
import Derived.Lib.BufSteps
import Derived.WalkSpells
namespace Go.Proofs.Ytbelajboalikcaa.Gp
open Go.RowKit Go.Shelf Go.Proofs.Ytbelajboalikcaa M
set_option linter.unusedSimpArgs false
set_option linter.unusedVariables false

theorem info5' : (Try.prog.info? 5).map (fun i => (i.zero, i.size, i.bytes)) = some (some (.int .u8 0), 1, 1) := by kernel_rfl
theorem parts5 : ∃ i, Try.prog.info? 5 = some i ∧ i.zero = some (.int .u8 0) ∧ i.size = 1 ∧ i.bytes = 1 := by
  have h := info5'
  cases hq : Try.prog.info? 5 with
  | none => rw [hq] at h; simp at h
  | some i =>
    rw [hq] at h
    simp only [Option.map_some, Option.some.injEq, Prod.mk.injEq] at h
    exact ⟨i, rfl, h.1, h.2.1, h.2.2⟩
theorem und61 : Try.prog.underlying 61 = some (.slice 5) := Try.underlying61
theorem und5 : Try.prog.underlying 5 = some (.int .u8) := Try.underlying5

theorem allOk_of {s : ByteArray} {ts : List Tok} {G : List GT} (hs : s.size < 4611686018427387904) (hr : rounds s.data.toList = ts.map Rd.tok) (hG : ts.map toG = G) (hl : ts.length ≤ 1048576) : AllOk s G := fun w => by
  refine (all_any s hs ts none (by rw [hr]; simp) (fun t e => by cases e) hl w).mono ?_
  rintro e w' ⟨⟨v, rfl, hown⟩, hB⟩
  rw [cellsT_G, hG] at hown
  obtain ⟨a, c, rfl, hT⟩ := own_toks hown (by rw [← hG]; simp)
  exact ⟨⟨a, c, rfl, hT⟩, hB⟩
theorem allBad_of {s : ByteArray} {ts : List Tok} {r : Rd} (hs : s.size < 4611686018427387904) (hr : rounds s.data.toList = ts.map Rd.tok ++ (some r).toList) (hne : ∀ t, some r ≠ some (.tok t)) (hl : ts.length ≤ 1048576) : AllBad s := fun w => by
  refine (all_any s hs ts (some r) hr hne hl w).mono ?_
  rintro e w' ⟨⟨v, rfl, hE⟩, hB⟩
  obtain ⟨ty, u, rfl, _⟩ := errV_some hE
  exact ⟨⟨ty, u, rfl⟩, hB⟩
theorem bareOk_of {G BB : List GT} (hBB : G.map bareG = BB) (hl : G.length ≤ 1048576) : BareOk G BB := fun w a c hT => by
  refine (lbare_any a c G hl w hT).mono ?_
  rintro e w' ⟨⟨v, rfl, hown⟩, hB⟩
  rw [hBB] at hown
  obtain ⟨a', c', rfl, hT'⟩ := own_toks hown (by rw [← hBB]; simp)
  exact ⟨⟨a', c', rfl, hT'⟩, hB⟩
theorem sameOk_of {BB : List GT} (hl : BB.length ≤ 1048576) : SameOk BB := fun w a b c d h1 h2 => same_any a b c d BB hl w h1 h2

theorem buf_below {B : Nat} {v : Value} {n : Nat} {xs : List Value} {W0 w w' : World} (h : Lib.OwnBuf B 5 v n xs W0 w) (hB : Below w.heap.size w w') : Lib.OwnBuf B 5 v n xs W0 w' := by
  refine ⟨?_, h.2.1.trans (hB.mono h.2.2), Nat.le_trans h.2.2 hB.size⟩
  refine ⟨h.1.1, ?_⟩
  rcases h.1.2 with hn | ⟨g, cap, cur, fz, rfl, hb, hg, rest⟩
  · exact .inl hn
  · exact .inr ⟨g, cap, cur, fz, rfl, hb, (hB.block g (Array.getElem?_eq_some_iff.1 hg).1).trans hg, rest⟩
theorem buf_string {B : Nat} {v : Value} {n : Nat} {l : List UInt8} {W0 w : World} (h : Lib.OwnBuf B 5 v n (Lib.byteCells l) W0 w) : ∃ a c, v = .slice a l.length c ∧ (convert 61 9 (.slice a l.length c)).run Try.prog w = .ok (.string ⟨l.toArray⟩) w := by
  have hlen : l.length = n := by have := h.1.1; rw [Lib.byteCells_length] at this; omega
  subst hlen
  rcases h.1.2 with ⟨rfl, h0⟩ | ⟨g, cap, cur, fz, rfl, hb, hg, _, hc, _, hsz, ht⟩
  · have : l = [] := List.eq_nil_of_length_eq_zero h0
    subst this
    exact ⟨none, 0, rfl, run_convert_bytes_nil w 61 5 und61 und5 0 0 9 Try.underlying9⟩
  · refine ⟨some ⟨g, 0, none⟩, cap, rfl, run_convert_bytes_back w 61 9 5 ⟨g, 0, none⟩ cap l und61 und5 Try.underlying9 (fun j hj => ?_)⟩
    exact h.1.cells (g := g) rfl j _ (by simp [Lib.byteCells, List.getElem?_eq_getElem hj])
theorem jg_app (g : List UInt8) (a b : List (List UInt8)) : jg g (a ++ b) = jg g a ++ jg g b := by simp [jg]
theorem jg_step {g : List UInt8} {bs : List (List UInt8)} {j : Nat} {b : List UInt8} (h : bs[j]? = some b) : jg g (bs.take (j + 1)) = jg g (bs.take j) ++ (g ++ 32 :: b) := by
  have hlt := (List.getElem?_eq_some_iff.1 h).1
  have e : bs[j] = b := by rw [List.getElem?_eq_getElem hlt] at h; exact Option.some.inj h
  rw [List.take_succ_eq_append_getElem hlt, jg_app, e]
  simp [jg]
theorem jg_le (g : List UInt8) (bs : List (List UInt8)) (j : Nat) : (jg g (bs.take j)).length ≤ (jg g bs).length := by
  conv => rhs; rw [← List.take_append_drop j bs, jg_app]
  simp

set_option maxRecDepth 100000 in
set_option maxHeartbeats 8000000 in
theorem gaps_e (s g : ByteArray) (w : World) (cA : Hid (AllBad s)) :
    Calls Try.prog 8 #[.string s, .string g] w fun e w' => e = .returned (.bool true) ∧ Below w.heap.size w w' := by
  go_enter Try.func8, Try.ntmps8
  go_wp2_with (first
    | (go_at_call 24; refine (awake_any _).mono ?_; rintro e W1 ⟨rfl, B1⟩; have H1 : Hid (Below w.heap.size w W1) := B1; clear B1)
    | (go_at_call 10; refine (cA.out _).mono ?_; rintro e W2 ⟨⟨ty, u, rfl⟩, B2⟩; have H2 : Hid (Below w.heap.size w W2) := H1.out.trans (B2.mono H1.out.size); clear B2))
  go_ret
  exact ⟨rfl, H2.out⟩
set_option maxRecDepth 100000 in
set_option maxHeartbeats 8000000 in
theorem gaps_n (s g : ByteArray) (w : World) (G : List GT) (cA : Hid (AllOk s G)) (cG : ∀ w, Calls Try.prog 26 #[.string g] w fun e w' => e = .returned (.bool false) ∧ w' = w) :
    Calls Try.prog 8 #[.string s, .string g] w fun e w' => e = .returned (.bool true) ∧ Below w.heap.size w w' := by
  go_enter Try.func8, Try.ntmps8
  go_wp2_with (first
    | (go_at_call 24; refine (awake_any _).mono ?_; rintro e W1 ⟨rfl, B1⟩; have H1 : Hid (Below w.heap.size w W1) := B1; clear B1)
    | (go_at_call 10; refine (cA.out _).mono ?_; rintro e W2 ⟨⟨a1, c1, rfl, T1⟩, B2⟩; have H2 : Hid (Below w.heap.size w W2) := H1.out.trans (B2.mono H1.out.size); clear B2)
    | (go_at_call 26; refine (cG _).mono ?_; rintro e w' ⟨rfl, hw'⟩; replace hw' := hw'.symm; subst hw'))
  go_ret
  exact ⟨rfl, H2.out⟩
set_option maxRecDepth 100000 in
set_option maxHeartbeats 8000000 in
theorem gaps_l (s g : ByteArray) (w : World) (n m P : Nat) (hs : s.size ≤ 1048576) (G : List GT) (hn : G.length = n) (hm : g.size = m) (hP : IntKind.i64.wrap (((n : Int) + 1) * ((m : Int) + 1)) = (P : Int)) (hPl : P ≤ 4611686018427387904) (hbig : (1048576 : Int) < s.size + P) (hn2 : n ≤ 1048576) (hm2 : m ≤ 1048576) (cA : Hid (AllOk s G)) (cG : ∀ w, Calls Try.prog 26 #[.string g] w fun e w' => e = .returned (.bool true) ∧ w' = w) :
    Calls Try.prog 8 #[.string s, .string g] w fun e w' => e = .returned (.bool true) ∧ Below w.heap.size w w' := by
  go_enter Try.func8, Try.ntmps8
  go_wp2_with (first
    | (go_at_call 24; refine (awake_any _).mono ?_; rintro e W1 ⟨rfl, B1⟩; have H1 : Hid (Below w.heap.size w W1) := B1; clear B1)
    | (go_at_call 10; refine (cA.out _).mono ?_; rintro e W2 ⟨⟨a1, c1, rfl, T1⟩, B2⟩; have H2 : Hid (Below w.heap.size w W2) := H1.out.trans (B2.mono H1.out.size); clear B2)
    | (go_at_call 26; refine (cG _).mono ?_; rintro e w' ⟨rfl, hw'⟩; replace hw' := hw'.symm; subst hw'))
  go_ret
  exact ⟨rfl, H2.out⟩

set_option maxRecDepth 100000 in
set_option maxHeartbeats 8000000 in
theorem gaps_ok (s g : ByteArray) (w : World) (n m P : Nat) (hs : s.size ≤ 1048576) (G : List GT) (hn : G.length = n) (hm : g.size = m) (hP : IntKind.i64.wrap (((n : Int) + 1) * ((m : Int) + 1)) = (P : Int)) (hPl : P ≤ 1048576) (hbig : ¬ (1048576 : Int) < s.size + P) (hn2 : n ≤ 1048576) (hm2 : m ≤ 1048576) (cA : Hid (AllOk s G)) (cG : ∀ w, Calls Try.prog 26 #[.string g] w fun e w' => e = .returned (.bool true) ∧ w' = w)
    (bs : List (List UInt8)) (hbs : bs.length = n)
    (cT : Hid (∀ (j : Nat) (x : GT), G[j]? = some x → ∃ (k v l1 c1 : Int) (tx : ByteArray) (p r : Nat), p < r ∧ r ≤ s.size ∧ x = ⟨k, tx, v, l1, c1, (p : Int), (r : Int)⟩ ∧ bs[j]? = some (s.extract p r).data.toList ∧ ∀ w, Calls Try.prog 18 #[.string s, .int .i64 (p : Int)] w fun e w' => e = .returned (.tuple #[.int .i64 l1, .int .i64 c1, .bool true]) ∧ Below w.heap.size w w'))
    (hL : (jg g.data.toList bs ++ 32 :: g.data.toList).length ≤ 1048576)
    (G3 B2 : List GT) (cA3 : Hid (AllOk ⟨(jg g.data.toList bs ++ 32 :: g.data.toList).toArray⟩ G3)) (cB3 : Hid (BareOk G3 B2)) (cB2 : Hid (BareOk G B2)) (cS2 : Hid (SameOk B2)) :
    Calls Try.prog 8 #[.string s, .string g] w fun e w' => e = .returned (.bool true) ∧ Below w.heap.size w w' := by
  obtain ⟨i5, hi5, hz5, hsz5, hby5⟩ := parts5
  have tA : True := trivial
  have HL : Hid ((jg g.data.toList bs ++ 32 :: g.data.toList).length ≤ 1048576) := hL
  have hbn : bs.length = n := hbs
  clear hL
  go_enter Try.func8, Try.ntmps8
  go_wp2_with (first
    | (go_at_call 24; refine (awake_any _).mono ?_; rintro e W1 ⟨rfl, B1⟩; have H1 : Hid (Below w.heap.size w W1) := B1; clear B1)
    | (go_at_call 10; clear tA; refine (cA.out _).mono ?_; rintro e W2 ⟨⟨am, cm, rfl, T1⟩, B2⟩; have H2 : Hid (Below w.heap.size w W2) := H1.out.trans (B2.mono H1.out.size); have UM : Hid (Toks W2 am G) := T1; clear B2 T1)
    | (go_at_call 26; refine (cG _).mono ?_; rintro e w' ⟨rfl, hw'⟩; replace hw' := hw'.symm; subst hw'))
  clear hP hbig cG cA
  go_loopw [7, 8, 9, 10, 11] (fun b i _ _ _ wr => ∃ j : Nat, j ≤ n ∧ i = .int .i64 (j : Int) ∧ Hid (Lib.OwnBuf W2.heap.size 5 b (jg g.data.toList (bs.take j)).length (Lib.byteCells (jg g.data.toList (bs.take j))) W2 wr)) (fun _ i _ _ _ _ => n - (intOf i).toNat)
  case atStart => exact ⟨0, by omega, rfl, World.ownsRowF_nil _ _ _ _, Below.refl _ _, Nat.le_refl _⟩
  case round =>
    obtain ⟨j, hj, rfl, HB⟩ := hrel
    by_cases hlt : j < n
    · have hi1 : (j : Int) < n := by omega
      obtain ⟨x, hx⟩ : ∃ x, G[j]? = some x := ⟨_, List.getElem?_eq_getElem (by omega)⟩
      obtain ⟨k, v, l1, c1, tx, p, r, hpr, hrs, rfl, hbj, cPl⟩ := cT.out j x hx
      obtain ⟨bm, om, rfl, hbm, hrm⟩ := UM.out.below (HB.out.2.1) j _ hx
      obtain ⟨L, hLL⟩ : ∃ L, jg g.data.toList (bs.take j) = L := ⟨_, rfl⟩
      rw [hLL] at HB
      have hst := jg_step (g := g.data.toList) hbj
      rw [hLL] at hst
      have HN : Hid (jg g.data.toList (bs.take (j + 1)) = L ++ (g.data.toList ++ 32 :: (s.extract p r).data.toList)) := hst
      have hle := jg_le g.data.toList bs (j + 1)
      rw [hst] at hle
      have hL1 := HL.out
      simp only [List.length_append, List.length_cons, ← sizeL] at hle hL1
      have x3 : wr.cell? ⟨bm, om + j * 7 + 3, none⟩ = some (.int .i64 l1) := hrm 3 _ rfl
      have x4 : wr.cell? ⟨bm, om + j * 7 + 4, none⟩ = some (.int .i64 c1) := hrm 4 _ rfl
      have x5 : wr.cell? ⟨bm, om + j * 7 + 5, none⟩ = some (.int .i64 (p : Int)) := hrm 5 _ rfl
      have x6 : wr.cell? ⟨bm, om + j * 7 + 6, none⟩ = some (.int .i64 (r : Int)) := hrm 6 _ rfl
      have y4 : (p : Int) ≤ r := by omega
      have y5 : (r : Int) ≤ s.size := by omega
      have HX : Hid (G[j]? = some ⟨k, tx, v, l1, c1, (p : Int), (r : Int)⟩) := hx
      clear hx hLL hst hbj hrm
      go_wp2_with (first
        | (go_at_call 18; refine (cPl _).mono ?_; rintro e W3 ⟨rfl, B3⟩; clear cPl; have z3 := cell_grow x3 B3; have z4 := cell_grow x4 B3; have z5 := cell_grow x5 B3; have z6 := cell_grow x6 B3; have OB := buf_below HB.out B3; clear x3 x4 x5 x6 B3 HB)
        | (refine Lib.wpList_append_text rfl _ _ 61 9 rfl W2.heap.size 5 i5 und61 Try.underlying9 hi5 hz5 hsz5 hby5 _ _ _ rfl W2 OB g rfl (by omega) ?_; intro v4 W4 OB4; clear OB z3 z4 z5 z6)
        | (refine Lib.wpList_append_byte rfl (.tmp 87) (.tmp 88) 61 rfl W2.heap.size 5 i5 und61 hi5 hz5 hsz5 hby5 v4 _ _ rfl W2 W4 32 OB4 rfl (by omega) ?_; intro v5 W5 OB5; clear OB4))
      obtain ⟨bm', om', e', hbm', hrm'⟩ := UM.out.below OB5.2.1 j _ HX.out
      cases e'
      have q5 : W5.cell? ⟨bm, om + j * 7 + 5, none⟩ = some (.int .i64 (p : Int)) := hrm' 5 _ rfl
      have q6 : W5.cell? ⟨bm, om + j * 7 + 6, none⟩ = some (.int .i64 (r : Int)) := hrm' 6 _ rfl
      clear hrm' hbm'
      refine grow_tail 13 (by kernel_rfl) (by kernel_rfl) ?_
      simp only [List.take_succ_cons, List.take_zero, List.drop_succ_cons, List.drop_zero]
      refine wpG_put rfl (v := v5) (fun w => by first | rfl | (go_simp; done)) ?_
      refine wpG_put rfl (v := .string s) (fun w => by first | rfl | (go_simp; done)) ?_
      refine wpG_put rfl (v := .slice (some ⟨bm, om, none⟩) n cm) (fun w => by first | rfl | (go_simp; done)) ?_
      refine wpG_put rfl (v := .int .i64 (j : Int)) (fun w => by first | rfl | (go_simp; done)) ?_
      simp only [Act.put, List.setIfInBounds_toArray, List.set_cons_succ, List.set_cons_zero]
      refine wpG_put rfl (v := .pointer (some ⟨bm, om + j * 7, none⟩)) (fun w => by first | rfl | (go_simp; done)) ?_
      refine wpG_put rfl (v := .pointer (some ⟨bm, om + j * 7 + 5, none⟩)) (fun w => by first | rfl | (go_simp; done)) ?_
      simp only [Act.put, List.setIfInBounds_toArray, List.set_cons_succ, List.set_cons_zero]
      refine wpG_cell rfl 3 _ rfl rfl q5 (fun w hc => by go_simp) ?_
      refine wpG_put rfl (v := .slice (some ⟨bm, om, none⟩) n cm) (fun w => by first | rfl | (go_simp; done)) ?_
      refine wpG_put rfl (v := .int .i64 (j : Int)) (fun w => by first | rfl | (go_simp; done)) ?_
      simp only [Act.put, List.setIfInBounds_toArray, List.set_cons_succ, List.set_cons_zero]
      refine wpG_put rfl (v := .pointer (some ⟨bm, om + j * 7, none⟩)) (fun w => by first | rfl | (go_simp; done)) ?_
      refine wpG_put rfl (v := .pointer (some ⟨bm, om + j * 7 + 6, none⟩)) (fun w => by first | rfl | (go_simp; done)) ?_
      simp only [Act.put, List.setIfInBounds_toArray, List.set_cons_succ, List.set_cons_zero]
      refine wpG_cell rfl 3 _ rfl rfl q6 (fun w hc => by go_simp) ?_
      refine wpG_put rfl (v := .string (s.extract p r)) (fun w => by first | rfl | (go_simp; done)) ?_
      simp only [Act.put, List.setIfInBounds_toArray, List.set_cons_succ, List.set_cons_zero]
      refine wpG_nil ?_
      intro W6 B6
      have OB6 := buf_below OB5 B6
      clear q5 q6 OB5 B6
      refine Lib.wpList_append_text rfl _ _ 61 9 rfl W2.heap.size 5 i5 und61 Try.underlying9 hi5 hz5 hsz5 hby5 _ _ _ rfl W2 OB6 (s.extract p r) rfl (by omega) ?_
      intro v7 W7 OB7
      clear OB6
      have HO : Hid (Lib.OwnBuf W2.heap.size 5 v7 (jg g.data.toList (bs.take (j + 1))).length (Lib.byteCells (jg g.data.toList (bs.take (j + 1)))) W2 W7) := (by
        rw [HN.out]
        have e1 : (L ++ (g.data.toList ++ 32 :: (s.extract p r).data.toList)).length = L.length + g.size + 1 + (s.extract p r).size := by simp only [List.length_append, List.length_cons, ← sizeL]; omega
        have e2 : Lib.byteCells (L ++ (g.data.toList ++ 32 :: (s.extract p r).data.toList)) = Lib.byteCells L ++ Lib.strCells g ++ [.int .u8 32] ++ Lib.strCells (s.extract p r) := by simp [Lib.byteCells, Lib.strCells]
        rw [e1, e2]
        exact OB7)
      clear OB7
      simp only [Act.put, List.setIfInBounds_toArray, List.set_cons_succ, List.set_cons_zero]
      go_wp2_with fail
      go_roundw
      case rel => exact ⟨j + 1, by omega, by go_num, HO⟩
      case measure => simp [intOf]; omega
    · have hjn : j = n := by omega
      have v1 : ¬ ((j : Int) < n) := by omega
      have eb : bs.take j = bs := List.take_of_length_le (by omega)
      rw [eb] at HB
      have OB := HB.out
      have H3 : Hid (Below w.heap.size w wr) := H2.out.trans (OB.2.1.mono H2.out.size)
      have T3 : Hid (Toks wr am G) := UM.out.below OB.2.1
      obtain ⟨L, hLL⟩ : ∃ L, jg g.data.toList bs = L := ⟨_, rfl⟩
      rw [hLL] at OB cA3 HL
      have hL1 := HL.out
      simp only [List.length_append, List.length_cons, ← sizeL] at hL1
      have T2 : Hid (Toks W2 am G) := UM
      clear hLL HB eb UM cT hlt
      have tB3 : True := trivial
      go_wp2_with (first
        | (refine Lib.wpList_append_byte rfl (.tmp 104) (.tmp 105) 61 rfl W2.heap.size 5 i5 und61 hi5 hz5 hsz5 hby5 _ _ _ rfl W2 wr 32 OB rfl (by omega) ?_; intro v5 W5 OB5; clear OB)
        | (refine Lib.wpList_append_text rfl (.tmp 107) (.tmp 108) 61 9 rfl W2.heap.size 5 i5 und61 Try.underlying9 hi5 hz5 hsz5 hby5 v5 _ _ rfl W2 OB5 g rfl (by omega) ?_; intro v6 W6 OB6; clear OB5; refine Hid.out ?_))
      have e2 : Lib.byteCells L ++ [.int .u8 32] ++ Lib.strCells g = Lib.byteCells (L ++ 32 :: g.data.toList) := by simp [Lib.byteCells, Lib.strCells]
      rw [e2] at OB6
      have H6 : Hid (Below w.heap.size w W6) := H2.out.trans (OB6.2.1.mono H2.out.size)
      have T6 : Hid (Toks W6 am G) := T2.out.below OB6.2.1
      obtain ⟨a6, c6, rfl, hconv⟩ := buf_string OB6
      clear OB6 e2 T3 H3 HL hL1
      obtain ⟨n6, hn6⟩ : ∃ n6, (L ++ 32 :: g.data.toList).length = n6 := ⟨_, rfl⟩
      rw [hn6] at hconv ⊢
      clear hn6
      generalize L ++ 32 :: g.data.toList = L6 at *
      refine Lib.hid ?_
      try simp only [Act.put, List.setIfInBounds_toArray, List.set_cons_succ, List.set_cons_zero]
      go_wp2_with (first
        | (go_at_call 10; refine (cA3.out _).mono ?_; rintro e W14 ⟨⟨a4, c4, rfl, T4⟩, B14⟩; have H14 : Hid (Below w.heap.size w W14) := H6.out.trans (B14.mono H6.out.size); have U4 : Hid (Toks W14 a4 G3) := T4; have T14 : Hid (Toks W14 am G) := T6.out.below B14; clear B14 T4)
        | (go_at_call 25; clear tB3; refine (cB3.out _ _ _ U4.out).mono ?_; rintro e W15 ⟨⟨a5, c5, rfl, T5⟩, B15⟩; have H15 : Hid (Below w.heap.size w W15) := H14.out.trans (B15.mono H14.out.size); have U5 : Hid (Toks W15 a5 B2) := T5; have T15 : Hid (Toks W15 am G) := T14.out.below B15; clear B15 T5)
        | (go_at_call 25; refine ((hn ▸ cB2.out _ am cm T15.out)).mono ?_; rintro e W16 ⟨⟨a6, c6, rfl, T6⟩, B16⟩; have H16 : Hid (Below w.heap.size w W16) := H15.out.trans (B16.mono H15.out.size); have U6 : Hid (Toks W16 a6 B2) := T6; have U7 : Hid (Toks W16 a5 B2) := U5.out.below B16; clear B16 T6)
        | (go_at_call 13; refine (cS2.out _ _ _ _ _ U7.out U6.out).mono ?_; rintro e W17 ⟨rfl, B17⟩; have H17 : Hid (Below w.heap.size w W17) := H16.out.trans (B17.mono H16.out.size); clear B17))
      go_ret
      exact ⟨rfl, H17.out⟩
end Go.Proofs.Ytbelajboalikcaa.Gp
