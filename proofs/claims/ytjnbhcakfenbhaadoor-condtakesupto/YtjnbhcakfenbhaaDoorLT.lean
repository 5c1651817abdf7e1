/- The law CondTakes. -/
import Derived.Test.YtjnbhcakfenbhaaDoorTK
import Derived.Test.YtjnbhcakfenbhaaDoorWE
namespace Go.Proofs.YtjnbhcakfenbhaaDoor
open Go.RowKit M
set_option linter.unusedSimpArgs false
set_option linter.unusedVariables false

def g77 : GT := ⟨77, ⟨#[]⟩, 0, 0, 0, 0, 0⟩
/-- An error is told so, whatever has grown. -/
def FaultIs (F : Option (Int × Int × Int)) (ev : Value) (w : World) : Prop := ∀ W, Below w.heap.size w W → Calls Tryd.prog 15 #[ev] W fun en w' => en = .returned (.agg (fltL F).toArray) ∧ Below W.heap.size W w'
theorem FaultIs.grown {F : Option (Int × Int × Int)} {ev : Value} {w w' : World} (h : FaultIs F ev w) (B : Below w.heap.size w w') : FaultIs F ev w' := fun W hB => h W (Below.then B hB)
theorem cellsN_at : ∀ (gs : List Nd) (j : Nat) (g : Nd), gs[j]? = some g → ∀ (i : Nat) (v : Value), (ndL g)[i]? = some v → (cellsL gs)[j * 6 + i]? = some v
  | [], j, g, h, i, v, hv => by simp at h
  | x :: gs, 0, g, h, i, v, hv => by
    simp at h; subst h
    have hi : i < (ndL x).length := (List.getElem?_eq_some_iff.1 hv).1
    show (ndL x ++ cellsL gs)[0 * 6 + i]? = some v
    rw [Nat.zero_mul, Nat.zero_add, List.getElem?_append_left hi]; exact hv
  | x :: gs, j + 1, g, h, i, v, hv => by
    have := cellsN_at gs j g (by simpa using h) i v hv
    show (ndL x ++ cellsL gs)[(j + 1) * 6 + i]? = some v
    have e : (ndL x).length = 6 := rfl
    rw [List.getElem?_append_right (by omega), e, show (j + 1) * 6 + i - 6 = j * 6 + i by omega]
    exact this
theorem nds_ownR {W : World} {B : Nat} {v : Value} {out : List Nd} (h : W.ownsRow B 52 6 v out.length (cellsL out)) : ∃ a c, v = .slice a out.length c ∧ Nds W a out := by
  rcases h.2 with ⟨rfl, h0⟩ | ⟨g, cap, cur, rfl, hg, hh, rest⟩
  · refine ⟨none, 0, by rw [h0], fun j x hx => ?_⟩
    have := (List.getElem?_eq_some_iff.1 hx).1
    omega
  · refine ⟨_, cap, rfl, fun j x hx => ⟨g, 0, rfl, (Array.getElem?_eq_some_iff.1 hh).1, fun i u hu => ?_⟩⟩
    have hc := cellsN_at out j x hx i u hu
    rw [cell_of_row W g _ cur 52 (0, 0) hh, Nat.zero_add]
    rw [← rest.2.2.2, List.getElem?_take] at hc
    split at hc
    · simpa using hc
    · cases hc
theorem toks_one {W : World} {b : Nat} {g : GT} (h : IsS W b 37 (gtL g)) : Toks W (some ⟨b, 0, none⟩) [g] := fun j x hx => by
  cases j with
  | zero =>
    simp at hx; subst hx
    exact ⟨b, 0, rfl, h.lt, fun i v hv => by rw [Nat.zero_mul, Nat.add_zero, Nat.zero_add, h.cell]; exact hv⟩
  | succ j => simp at hx
theorem toks_pre {W : World} {a : Option Addr} {gs hs : List GT} (h : Toks W a (gs ++ hs)) : Toks W a gs := fun j x hx => h j x (by rw [List.getElem?_append_left (List.getElem?_eq_some_iff.1 hx).1]; exact hx)
theorem own_lt {W : World} {B t s g n c m : Nat} {xs : List Value} (h : W.ownsRow B t s (.slice (some ⟨g, 0, none⟩) n c) m xs) : g < W.heap.size := by
  rcases h.2 with ⟨e, _⟩ | ⟨g', cap, cur, e, _, hh, _⟩
  · cases e
  · cases e; exact (Array.getElem?_eq_some_iff.1 hh).1
theorem own77 {W : World} {B n : Nat} {v : Value} {gs : List GT} (h : W.ownsRow B 37 7 v (n + [g77].length) (cellsG gs ++ cellsG [g77])) : W.ownsRow B 37 7 v (n + 1) (cellsG (gs ++ [g77])) := by
  have e : cellsG (gs ++ [g77]) = cellsG gs ++ cellsG [g77] := by simp [cellsG]
  rw [e]; exact h
theorem toks77 {W : World} {B n g c : Nat} {gs : List GT} (h : W.ownsRow B 37 7 (.slice (some ⟨g, 0, none⟩) (n + 1) c) (n + 1) (cellsG (gs ++ [g77]))) (hn : gs.length = n) : Toks W (some ⟨g, 0, none⟩) (gs ++ [g77]) := by
  obtain ⟨a', c', e', T'⟩ := own_toks h (by rw [List.length_append, hn]; rfl)
  injection e' with h1 h2 h3; subst h1; exact T'
theorem own_rng {W : World} {B t s n c m : Nat} {a : Option Addr} {xs : List Value} (h : W.ownsRow B t s (.slice a n c) m xs) : ∀ b o, a = some ⟨b, o, none⟩ → B ≤ b ∧ b < W.heap.size := fun b o e => by
  subst e
  rcases h.2 with ⟨e, _⟩ | ⟨g', cap, cur, e, hb, hh, _⟩
  · cases e
  · cases e; exact ⟨hb, (Array.getElem?_eq_some_iff.1 hh).1⟩
theorem own_plain {W : World} {B t s n c m : Nat} {a : Option Addr} {xs : List Value} (h : W.ownsRow B t s (.slice a n c) m xs) : ∀ ad, a = some ad → ∃ b o, ad = ⟨b, o, none⟩ := fun ad e => by
  subst e
  rcases h.2 with ⟨e, _⟩ | ⟨g', cap, cur, e, hb, hh, _⟩
  · cases e
  · cases e; exact ⟨_, _, rfl⟩
theorem nds_step {W W' : World} {ad : Option Addr} {ns : List Nd} {row row' : Option Nat} (h : Nds W ad ns) (S : Step none row row' W W') (hne : ∀ b o, ad = some ⟨b, o, none⟩ → some b ≠ row) : Nds W' ad ns := fun j x hx => by
  obtain ⟨b, o, e, hb, hr⟩ := h j x hx
  refine ⟨b, o, e, Nat.lt_of_lt_of_le hb S.size, fun i v hv => ?_⟩
  rw [World.cell?_of_block (a := ⟨b, o + j * 6 + i, none⟩) (S.block b hb (by simp) (hne b o e))]
  exact hr i v hv
theorem below_stepR {B : Nat} {w0 W W' : World} {row row' : Option Nat} (h : Below B w0 W) (hB : B ≤ W.heap.size) (S : Step none row row' W W') (hr : ∀ q, row = some q → B ≤ q) : Below B w0 W' :=
  ⟨S.os.trans h.os, S.tape.trans h.tape, S.output.trans h.output, Nat.le_trans h.size S.size, fun k hk => (S.block k (Nat.lt_of_lt_of_le hk hB) (by simp) (fun e => by have := hr k e.symm; omega)).trans (h.block k hk)⟩
theorem putFlt (F G : Option (Int × Int × Int)) : putL (fltL F) 0 (fltL G) = fltL G := by cases F <;> cases G <;> rfl
theorem ldF {b o : Nat} {v : Value} (w : World) (h : w.cell? ⟨b, o, none⟩ = some v) : (Instr.loadAt 3 (.pointer (some ⟨b, o, none⟩))).run Tryd.prog w = .ok v w := by simp [go_sem, h]
theorem infoFl : (Tryd.prog.info? 43).map (·.size) = some 3 := by kernel_rfl
theorem neqF (F : Option (Int × Int × Int)) (w : World) : (binOp .neq 43 (.agg (fltL F).toArray) (.agg (fltL F).toArray)).run Tryd.prog w = .ok (.bool false) w := by cases F <;> simp [go_sem, fltL]
theorem neqG (g : GT) (w : World) : (binOp .neq 37 (.agg (gtL g).toArray) (.agg (gtL g).toArray)).run Tryd.prog w = .ok (.bool false) w := by simp [go_sem, gtL]
set_option maxRecDepth 100000 in
set_option maxHeartbeats 4000000 in
theorem takes_core (gs : List GT) (a : Option Addr) (cap : Nat) (at' : Int) (nodes : List Nd) (K : Int) (F : Option (Int × Int × Int)) (hl : gs.length ≤ 2097152) (hnil : a = none → cap = 0) (w : World) (hT : Toks w a gs)
    (cP : ∀ W g c, Below w.heap.size w W → Toks W (some ⟨g, 0, none⟩) gs → g < W.heap.size → Calls Tryd.prog 12 #[.slice (some ⟨g, 0, none⟩) gs.length c, .int .i64 at'] W fun en W' => (∃ v ev, en = .returned (.tuple #[v, .int .i64 K, ev]) ∧ W'.ownsRow W.heap.size 52 6 v nodes.length (cellsL nodes) ∧ FaultIs F ev W') ∧ Below W.heap.size W W' ∧ nodes.length ≤ 1024)
    (cR : ∀ W, Below w.heap.size w W → Calls Tryd.prog 13 #[.slice a gs.length cap, .int .i64 at'] W fun en W' => (∃ v, en = .returned (.tuple #[v, .int .i64 K, .agg (fltL F).toArray]) ∧ W'.ownsRow W.heap.size 52 6 v nodes.length (cellsL nodes)) ∧ Below W.heap.size W W') :
    Calls Tryd.prog 4 #[.slice a gs.length cap, .int .i64 at'] w fun en w' => en = .returned (.bool true) ∧ Below w.heap.size w w' := by
  obtain ⟨n, hn⟩ : ∃ n, gs.length = n := ⟨_, rfl⟩
  have HN : Hid (gs.length = n) := hn
  have t1 : True := trivial
  have t2 : True := trivial
  have t3 : True := trivial
  have t4 : True := trivial
  have t5 : True := trivial
  have t6 : True := trivial
  rw [hn] at cP cR ⊢
  have hl' : n ≤ 2097152 := by omega
  have hT' := hT
  clear hn hl
  go_enter Tryd.func4, Tryd.ntmps4
  go_wp2_with (first
    | (clear t1; refine wpList_build0 rfl rfl ?_; intro W1 v1 hs1 B1 O1; have T1 := hT.below B1; clear hT)
    | (clear t2; at_builtin; refine wpList_appTs rfl _ _ rfl w.heap.size v1 0 [] rfl O1 a cap gs (by rw [HN.out]; rfl) T1 hnil (by have := HN.out; omega) hs1 ?_; intro v2 W2 O2x G2; have B2 := grown_below B1 hs1 O1 G2; have hs2 : w.heap.size ≤ W2.heap.size := B2.size; have O2 : W2.ownsRow w.heap.size 37 7 v2 n (cellsG gs) := (by have := O2x; rw [HN.out] at this; simpa using this); clear O2x G2 O1 T1 hs1 B1)
    | (clear t3; refine wpList_buildG rfl _ rfl g77 rfl ?_; intro W3 b3 F3 I3; have B3 := F3.trans B2 hs2; have O3 := own_grN O2 (F3.trans (Below.refl _ W2) (Nat.le_refl _)); clear F3 O2 B2 hs2)
    | (clear t4; at_builtin; refine wpList_appTs rfl _ _ rfl w.heap.size v2 n (cellsG gs) rfl O3 (some ⟨b3, 0, none⟩) 1 [g77] rfl (toks_one I3) (fun e => by cases e) (by simp only [List.length_cons, List.length_nil]; omega) B3.size ?_; intro v4 W4 O4x G4; have B4 := grown_below B3 B3.size O3 G4; have O4 : W4.ownsRow w.heap.size 37 7 v4 (n + 1) (cellsG (gs ++ [g77])) := own77 O4x; obtain ⟨g, c4, rfl, hc4⟩ := own_some O4; have TA4 : Toks W4 (some ⟨g, 0, none⟩) (gs ++ [g77]) := toks77 O4 HN.out; have hg4 : g < W4.heap.size := own_lt O4; have hcI : ((n : Nat) : Int) ≤ (c4 : Int) := (by omega); clear G4 O3 I3 B3 O4 O4x)
    | (clear t5; go_at_call 12; refine (cP _ g c4 B4 (toks_pre TA4) hg4).mono ?_; rintro en W5 ⟨⟨v5, ev5, rfl, O5, FI5⟩, B5x, hnl⟩; have B5 := Below.then B4 B5x; have TA5 := TA4.below B5x; have hg5 : g < W5.heap.size := Nat.lt_of_lt_of_le hg4 B5x.size; obtain ⟨a5, c5, rfl, N5⟩ := nds_ownR O5; have hq5 := own_rng O5; have hz45 : W4.heap.size ≤ W5.heap.size := B5x.size; have hz04 : w.heap.size ≤ W4.heap.size := B4.size; clear B5x TA4)
    | (clear t6; go_at_call 12; refine (cP _ g c4 B5 (toks_pre TA5) hg5).mono ?_; rintro en W6 ⟨⟨v6, ev6, rfl, O6, FI6⟩, B6x, _⟩; have B6 := Below.then B5 B6x; have TA6 := TA5.below B6x; have hg6 : g < W6.heap.size := Nat.lt_of_lt_of_le hg5 B6x.size; obtain ⟨a6, c6, rfl, N6⟩ := nds_ownR O6; have hq6 := own_rng O6; have hz56 : W5.heap.size ≤ W6.heap.size := B6x.size; have N56 := N5.below B6x; have O56 := own_grN O5 B6x; have FI56 := FI5.grown B6x; clear B6x TA5 FI6 cP N5 O5 FI5)
    | (go_at_call 13; refine (cR _ B6).mono ?_; rintro en W7 ⟨⟨v7, rfl, O7⟩, B7x⟩; have B7 := Below.then B6 B7x; have TA7 := TA6.below B7x; obtain ⟨a7, c7, rfl, N7⟩ := nds_ownR O7; have hq7 := own_rng O7; have hz67 : W6.heap.size ≤ W7.heap.size := B7x.size; have N57 := N56.below B7x; have O57 := own_grN O56 B7x; have FI57 := FI56.grown B7x; have N67 := N6.below B7x; have O67 := own_grN O6 B7x; clear B7x TA6 cR N56 O56 FI56 N6 O7 O6)
    | (refine wpList_allocS rfl 43 rfl (fltL none) Tryd.zeroValue43 ?_; intro W8 b8 F8 C8; have P8 : Below W7.heap.size W7 W8 := F8.trans (Below.refl _ W7) (Nat.le_refl _); have h8 : W7.heap.size ≤ b8 := Nat.le_of_eq F8.at'.symm; clear F8)
    | (refine wpList_storeS rfl 43 _ _ rfl rfl (fltL F) rfl C8 (by rw [fltL_len, fltL_len]; decide) (by rw [fltL_len]; exact infoFl) (fltL_one _) ?_; intro W9 U9 C9x; have C9 : IsS W9 b8 43 (fltL F) := (by rw [putFlt] at C9x; exact C9x); have P9 : Below W7.heap.size W7 W9 := U9.trans P8 h8; have B9 := Below.then B7 P9; have TA9 := TA7.below P9; have N59 := N57.below P9; have N69 := N67.below P9; have N79 := N7.below P9; have O59 := own_grN O57 P9; have O69 := own_grN O67 P9; have FI9 := FI57.grown P9; clear U9 C9x C8 P8 TA7 N57 N67 N7 O57 FI57 O67))
  have c77 : W9.cell? ⟨g, n * 7, none⟩ = some (.int .i64 77) := (by
    obtain ⟨b', o', e', _, r'⟩ := TA9 n g77 (by rw [← HN.out]; simp)
    cases e'
    have := r' 0 _ rfl
    rw [Nat.zero_add, Nat.add_zero] at this
    exact this)
  refine grow_allW (by kernel_rfl) (by kernel_rfl) ?_
  refine WG.put rfl (v := .slice a5 nodes.length c5) (fun w => by first | rfl | (go_simp; done) | (simp [go_sem]; done)) ?_
  simp only [Act.put, List.setIfInBounds_toArray, List.set_cons_succ, List.set_cons_zero]
  refine WG.put rfl (v := .slice a7 nodes.length c7) (fun w => by first | rfl | (go_simp; done) | (simp [go_sem]; done)) ?_
  simp only [Act.put, List.setIfInBounds_toArray, List.set_cons_succ, List.set_cons_zero]
  refine WG.call rfl (f := 14) (args := #[.slice a5 nodes.length c5, .slice a7 nodes.length c7]) (v := .bool true) (fun W hW => same_any _ _ _ _ nodes (by omega) W (N59.below hW) (N79.below hW)) (fun w => by first | rfl | (go_simp; done)) ?_
  simp only [Act.put, List.setIfInBounds_toArray, List.set_cons_succ, List.set_cons_zero]
  refine WG.put rfl (v := .bool false) (fun w => by first | rfl | (go_simp; done) | (simp [go_sem]; done)) ?_
  simp only [Act.put, List.setIfInBounds_toArray, List.set_cons_succ, List.set_cons_zero]
  refine WG.put rfl (v := .bool false) (fun w => by first | rfl | (go_simp; done) | (simp [go_sem]; done)) ?_
  simp only [Act.put, List.setIfInBounds_toArray, List.set_cons_succ, List.set_cons_zero]
  refine WG.put rfl (v := .slice a6 nodes.length c6) (fun w => by first | rfl | (go_simp; done) | (simp [go_sem]; done)) ?_
  simp only [Act.put, List.setIfInBounds_toArray, List.set_cons_succ, List.set_cons_zero]
  refine WG.put rfl (v := .slice a7 nodes.length c7) (fun w => by first | rfl | (go_simp; done) | (simp [go_sem]; done)) ?_
  simp only [Act.put, List.setIfInBounds_toArray, List.set_cons_succ, List.set_cons_zero]
  refine WG.call rfl (f := 14) (args := #[.slice a6 nodes.length c6, .slice a7 nodes.length c7]) (v := .bool true) (fun W hW => same_any _ _ _ _ nodes (by omega) W (N69.below hW) (N79.below hW)) (fun w => by first | rfl | (go_simp; done)) ?_
  simp only [Act.put, List.setIfInBounds_toArray, List.set_cons_succ, List.set_cons_zero]
  refine WG.put rfl (v := .bool false) (fun w => by first | rfl | (go_simp; done) | (simp [go_sem]; done)) ?_
  simp only [Act.put, List.setIfInBounds_toArray, List.set_cons_succ, List.set_cons_zero]
  refine WG.put rfl (v := .bool false) (fun w => by first | rfl | (go_simp; done) | (simp [go_sem]; done)) ?_
  simp only [Act.put, List.setIfInBounds_toArray, List.set_cons_succ, List.set_cons_zero]
  refine WG.put rfl (v := .bool false) (fun w => by first | rfl | (go_simp; done) | (simp [go_sem]; done)) ?_
  simp only [Act.put, List.setIfInBounds_toArray, List.set_cons_succ, List.set_cons_zero]
  refine WG.put rfl (v := .int .i64 K) (fun w => by first | rfl | (go_simp; done) | (simp [go_sem]; done)) ?_
  simp only [Act.put, List.setIfInBounds_toArray, List.set_cons_succ, List.set_cons_zero]
  refine WG.put rfl (v := .int .i64 K) (fun w => by first | rfl | (go_simp; done) | (simp [go_sem]; done)) ?_
  simp only [Act.put, List.setIfInBounds_toArray, List.set_cons_succ, List.set_cons_zero]
  refine WG.put rfl (v := .bool false) (fun w => by first | rfl | (go_simp; done) | (simp [go_sem]; done) | (simp [execOp, go_sem]; done)) ?_
  simp only [Act.put, List.setIfInBounds_toArray, List.set_cons_succ, List.set_cons_zero]
  refine WG.put rfl (v := .bool false) (fun w => by first | rfl | (go_simp; done) | (simp [go_sem]; done)) ?_
  simp only [Act.put, List.setIfInBounds_toArray, List.set_cons_succ, List.set_cons_zero]
  refine WG.put rfl (v := .bool false) (fun w => by first | rfl | (go_simp; done) | (simp [go_sem]; done)) ?_
  simp only [Act.put, List.setIfInBounds_toArray, List.set_cons_succ, List.set_cons_zero]
  refine WG.put rfl (v := ev5) (fun w => by first | rfl | (go_simp; done) | (simp [go_sem]; done)) ?_
  simp only [Act.put, List.setIfInBounds_toArray, List.set_cons_succ, List.set_cons_zero]
  refine WG.call rfl (f := 15) (args := #[ev5]) (v := .agg (fltL F).toArray) (fun W hW => FI9 W hW) (fun w => by first | rfl | (go_simp; done)) ?_
  simp only [Act.put, List.setIfInBounds_toArray, List.set_cons_succ, List.set_cons_zero]
  refine WG.row rfl 43 _ rfl rfl C9 (fltL F) rfl _ Tryd.underlying43 rfl (by rw [fltL_len]; exact infoFl) ?_
  simp only [Act.put, List.setIfInBounds_toArray, List.set_cons_succ, List.set_cons_zero]
  refine WG.put rfl (v := .bool false) (fun w => by simp [execOp, go_sem]; cases F <;> simp [go_sem, fltL]) ?_
  simp only [Act.put, List.setIfInBounds_toArray, List.set_cons_succ, List.set_cons_zero]
  refine WG.put rfl (v := .bool false) (fun w => by first | rfl | (go_simp; done) | (simp [go_sem]; done)) ?_
  simp only [Act.put, List.setIfInBounds_toArray, List.set_cons_succ, List.set_cons_zero]
  refine WG.put rfl (v := .bool false) (fun w => by first | rfl | (go_simp; done) | (simp [go_sem]; done)) ?_
  simp only [Act.put, List.setIfInBounds_toArray, List.set_cons_succ, List.set_cons_zero]
  refine WG.put rfl (v := .slice (some ⟨g, 0, none⟩) (n + 1) c4) (fun w => by first | rfl | (go_simp; done) | (simp [go_sem]; done)) ?_
  simp only [Act.put, List.setIfInBounds_toArray, List.set_cons_succ, List.set_cons_zero]
  refine WG.put rfl (v := .slice a n cap) (fun w => by first | rfl | (go_simp; done) | (simp [go_sem]; done)) ?_
  simp only [Act.put, List.setIfInBounds_toArray, List.set_cons_succ, List.set_cons_zero]
  refine WG.put rfl (v := .int .i64 (n : Int)) (fun w => by first | rfl | (go_simp; done) | (simp [go_sem]; done)) ?_
  simp only [Act.put, List.setIfInBounds_toArray, List.set_cons_succ, List.set_cons_zero]
  refine WG.put rfl (v := .pointer (some ⟨g, n * 7, none⟩)) (fun w => by first | rfl | (go_simp; done) | (simp [go_sem]; done) | (simp [execOp, go_sem]; done) | (simp [execOp, go_sem]; intro h; exact absurd h (by omega))) ?_
  simp only [Act.put, List.setIfInBounds_toArray, List.set_cons_succ, List.set_cons_zero]
  refine WG.put rfl (v := .pointer (some ⟨g, n * 7, none⟩)) (fun w => by first | rfl | (go_simp; done) | (simp [go_sem]; done) | (simp [execOp, go_sem]; done)) ?_
  simp only [Act.put, List.setIfInBounds_toArray, List.set_cons_succ, List.set_cons_zero]
  refine WG.cell rfl 3 _ rfl rfl (v := .int .i64 77) c77 (fun w h => ldF w h) ?_
  simp only [Act.put, List.setIfInBounds_toArray, List.set_cons_succ, List.set_cons_zero]
  refine WG.put rfl (v := .bool false) (fun w => by first | rfl | (go_simp; done) | (simp [go_sem]; done)) ?_
  simp only [Act.put, List.setIfInBounds_toArray, List.set_cons_succ, List.set_cons_zero]
  refine WG.put rfl (v := .bool false) (fun w => by first | rfl | (go_simp; done) | (simp [go_sem]; done)) ?_
  simp only [Act.put, List.setIfInBounds_toArray, List.set_cons_succ, List.set_cons_zero]
  refine WG.nil ?_
  intro W10 hW10
  have B10 := Below.then B9 hW10
  have TA10 := TA9.below hW10
  have T10 := hT'.below B10
  have N6t := N69.below hW10
  have N7t := N79.below hW10
  have O5t := own_grN O59 hW10
  have hq5' : ∀ q, (Value.slice a5 nodes.length c5).ownBlock = some q → w.heap.size ≤ q ∧ q < W5.heap.size := fun q e => (by
    cases a5 with
    | none => cases e
    | some ad =>
      simp [Value.ownBlock] at e
      have hp := own_plain O59
      obtain ⟨b, o, eb⟩ := hp ad rfl
      subst eb
      have := hq5 b o rfl
      simp at e
      omega)
  have hs4 : W4.heap.size ≤ W10.heap.size := Nat.le_trans (Nat.le_trans hz45 (Nat.le_trans hz56 hz67)) (Nat.le_trans P9.size hW10.size)
  clear N59 N69 N79 O59 O69 TA9 FI9 C9 c77 hW10 hT' P9 B9 h8
  go_wp2_with fail
  go_loopw [15] (fun i wr => ∃ j : Nat, j ≤ n ∧ i = .int .i64 (j : Int) ∧ Hid (Below W10.heap.size W10 wr)) (fun i _ => n - (intOf i).toNat)
  case atStart => exact ⟨0, by omega, rfl, Below.refl _ _⟩
  case round =>
    obtain ⟨j, hj, rfl, HB⟩ := hrel
    by_cases hlt : j < n
    · have hi : (j : Int) < n := by omega
      have hi2 : (j : Int) < (n : Int) + 1 := by omega
      obtain ⟨x, hx⟩ : ∃ x, gs[j]? = some x := ⟨_, List.getElem?_eq_getElem (by rw [HN.out]; exact hlt)⟩
      obtain ⟨b', o', e1, hb1, hr1⟩ := (TA10.below HB.out) j x (by rw [List.getElem?_append_left (by rw [HN.out]; exact hlt)]; exact hx)
      cases e1
      rw [Nat.zero_add] at hr1
      obtain ⟨b, o, rfl, hb2, hr2⟩ := (T10.below HB.out) j x hx
      clear hx
      go_wp2_with fail
      refine grow_allW (by kernel_rfl) (by kernel_rfl) ?_
      refine WG.put rfl (v := .slice (some ⟨g, 0, none⟩) (n + 1) c4) (fun w => by first | rfl | (go_simp; done) | (simp [go_sem]; done)) ?_
      simp only [Act.put, List.setIfInBounds_toArray, List.set_cons_succ, List.set_cons_zero]
      refine WG.put rfl (v := .int .i64 (j : Int)) (fun w => by first | rfl | (go_simp; done) | (simp [go_sem]; done)) ?_
      simp only [Act.put, List.setIfInBounds_toArray, List.set_cons_succ, List.set_cons_zero]
      refine WG.put rfl (v := .pointer (some ⟨g, j * 7, none⟩)) (fun w => by first | rfl | (go_simp; done) | (simp [go_sem]; done) | (simp [execOp, go_sem]; done) | (simp [execOp, go_sem]; intro h; exact absurd h (by omega))) ?_
      simp only [Act.put, List.setIfInBounds_toArray, List.set_cons_succ, List.set_cons_zero]
      refine WG.range rfl 37 _ rfl rfl (gtL x) hb1 hr1 _ Tryd.underlying37 rfl infoTok ?_
      simp only [Act.put, List.setIfInBounds_toArray, List.set_cons_succ, List.set_cons_zero]
      refine WG.put rfl (v := .slice (some ⟨b, o, none⟩) n cap) (fun w => by first | rfl | (go_simp; done) | (simp [go_sem]; done)) ?_
      simp only [Act.put, List.setIfInBounds_toArray, List.set_cons_succ, List.set_cons_zero]
      refine WG.put rfl (v := .int .i64 (j : Int)) (fun w => by first | rfl | (go_simp; done) | (simp [go_sem]; done)) ?_
      simp only [Act.put, List.setIfInBounds_toArray, List.set_cons_succ, List.set_cons_zero]
      refine WG.put rfl (v := .pointer (some ⟨b, o + j * 7, none⟩)) (fun w => by first | rfl | (go_simp; done) | (simp [go_sem]; done) | (simp [execOp, go_sem]; done) | (simp [execOp, go_sem]; intro h; exact absurd h (by omega))) ?_
      simp only [Act.put, List.setIfInBounds_toArray, List.set_cons_succ, List.set_cons_zero]
      refine WG.range rfl 37 _ rfl rfl (gtL x) hb2 hr2 _ Tryd.underlying37 rfl infoTok ?_
      simp only [Act.put, List.setIfInBounds_toArray, List.set_cons_succ, List.set_cons_zero]
      refine WG.put rfl (v := .bool false) (fun w => by simp [execOp, go_sem, gtL]) ?_
      simp only [Act.put, List.setIfInBounds_toArray, List.set_cons_succ, List.set_cons_zero]
      refine WG.nil ?_
      intro W3 B3
      have B4z : Hid (Below W10.heap.size W10 W3) := Below.then HB.out B3
      go_wp2_with fail
      go_roundw
      case rel => exact ⟨j + 1, by omega, by go_num, B4z⟩
      case measure => simp [intOf]; omega
    · have hi : ¬ (j : Int) < n := by omega
      have cS := spoil_any W4.heap.size (.slice a5 nodes.length c5) nodes.length (by omega) wr _ (own_grN O5t HB.out) (Nat.le_trans hs4 HB.out.size)
      have BL : Below w.heap.size w wr := Below.then B10 HB.out
      have Na := N6t.below HB.out
      have Nb := N7t.below HB.out
      clear HB
      go_wp2_with (first
        | (go_at_call 16; refine cS.mono ?_; rintro en W11 ⟨rfl, row, S11⟩; have B11 : Below w.heap.size w W11 := below_stepR BL BL.size S11 (fun q e => (hq5' q e).1); have Nc := nds_step Na S11 (fun b o e e2 => (by have := hq6 b o e; have := hq5' b e2.symm; omega)); have Nd' := nds_step Nb S11 (fun b o e e2 => (by have := hq7 b o e; have := hq5' b e2.symm; omega)); clear cS S11 Na Nb)
        | (go_at_call 14; refine (same_any _ _ _ _ nodes (by omega) _ Nc Nd').mono ?_; rintro en W12 ⟨rfl, B12x⟩; have B12 := Below.then B11 B12x; clear B12x))
      go_ret
      exact ⟨rfl, B12⟩
end Go.Proofs.YtjnbhcakfenbhaaDoor
