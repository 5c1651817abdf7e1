/- Several texts in one: SP, TK. -/
import Derived.Test.YtjnbhcakfenbhaaGreatDoorQak
import Derived.Test.YtjnbhcakfenbhaaGreatDoorQbc
import Derived.Test.YtjnbhcakfenbhaaGreatDoorQau
import Derived.Laws.AppendOwnNone
/- spoil. -/
namespace Go.Proofs.YtjnbhcakfenbhaaGreatDoor
open Go.RowKit M
set_option linter.unusedSimpArgs false
set_option linter.unusedVariables false

theorem own_some {W : World} {base e s n : Nat} {v : Value} {xs : List Value} (h : W.ownsRow base e s v (n + 1) xs) : ∃ g cap, v = .slice (some ⟨g, 0, none⟩) (n + 1) cap ∧ n + 1 ≤ cap := by
  rcases h.2 with ⟨rfl, h⟩ | ⟨g', cap', cur, rfl, _, _, h, _⟩
  · omega
  · exact ⟨_, _, rfl, h⟩
theorem run_appX {w : World} (B : Nat) (v : Value) (n : Nat) (xs : List Value) (hown : w.ownsRow B 62 6 v n xs) (b c : Nat) (nd : Nd) (hb : IsS w b 62 (ndL nd)) (hn : n ≤ 33554432) (hB : B ≤ w.heap.size) (ty : TypeId) :
    ∃ v' w', (Builtin.append_ #[23, 23] ty #[v, .slice (some ⟨b, 0, none⟩) 1 c]).run Tryz.prog w = .ok v' w' ∧ w'.ownsRow B 62 6 v' (n + 1) (xs ++ ndL nd) ∧ Step none v.ownBlock v'.ownBlock w w' := by
  obtain ⟨i0, hi, hz, hs, hby⟩ := partsN
  have hnews : ∀ j u, (ndL nd)[j]? = some u → w.cell? ((⟨b, 0, none⟩ : Addr).add j) = some u := fun j u hj => by rw [Addr.add_mid, Nat.zero_add, hb.cell]; exact hj
  obtain ⟨v', w', hr, ho, hg, _⟩ := run_append_own (P := Tryz.prog) w B 23 ty 62 i0 (.agg (ndL noNd).toArray) 6 56 Tryz.underlying23 hi hz hs hby rfl (by decide) v n xs hown ⟨b, 0, none⟩ 1 c (ndL nd) rfl hnews (nd_one nd) (by unfold maxLen; omega) (by omega) hB
  refine ⟨v', w', hr, ho, hg.os, hg.tape, hg.output, hg.size, fun k hk _ h2 => hg.block k hk h2, ?_⟩
  rcases hown.2 with ⟨rfl, hn0⟩ | ⟨g, cap, cur, rfl, hbg, hgc, hnc, hcm, hcs, htake⟩
  · have h2 := run_append_nil (P := Tryz.prog) w 23 ty 62 i0 _ Tryz.underlying23 hi hz ⟨b, 0, none⟩ 1 c (ndL nd) (by rw [hs]; rfl) hnews (by omega) (by omega) (by rw [hby]; omega)
    rw [hr] at h2
    injection h2 with e1 e2
    rw [e1]
    exact .inr ⟨w.heap.size, rfl, Nat.le_refl _⟩
  · by_cases hroom : n + 1 ≤ cap
    · have h2 := run_append_room (P := Tryz.prog) w 23 ty 62 i0 Tryz.underlying23 hi g n cap cur hgc ⟨b, 0, none⟩ 1 c (ndL nd) (by rw [hs]; rfl) hnews (nd_one nd) hroom (by rw [hs, hcs]; show n * 6 + 6 ≤ cap * 6; omega)
      rw [hr] at h2
      injection h2 with e1 e2
      rw [e1]
      exact .inl rfl
    · have h2 := run_append_grow (P := Tryz.prog) w 23 ty 62 i0 _ Tryz.underlying23 hi hz ⟨g, 0, none⟩ n cap xs (by rw [hs]; exact hown.1) (hown.cells (g := g) rfl) ⟨b, 0, none⟩ 1 c (ndL nd) (by rw [hs]; rfl) hnews (by omega) (by omega) (growslice_fits (by omega) (by rw [hby]; omega))
      rw [hr] at h2
      injection h2 with e1 e2
      rw [e1]
      exact .inr ⟨w.heap.size, rfl, Nat.le_refl _⟩
theorem wpList_appX {w : World} {ops : Array Oper} {rest : List Oper} {op : Oper} {a : Act} {Q : Exit → Act → World → Prop} (hgd : op.guard = none) (s x : Operand) (ho : op.op = .call { callee := .builtin .append, args := #[s, x], argTypes := #[23, 23] })
    (B : Nat) (v : Value) (n : Nat) (xs : List Value) (hs : a.eval s = v) (hown : w.ownsRow B 62 6 v n xs) (b c : Nat) (nd : Nd) (hx : a.eval x = .slice (some ⟨b, 0, none⟩) 1 c) (hb : IsS w b 62 (ndL nd)) (hn : n ≤ 33554432) (hB : B ≤ w.heap.size)
    (h : ∀ v' w', (∃ ys, w'.ownsRow B 62 6 v' (n + 1) ys) → Step none v.ownBlock v'.ownBlock w w' → wpList Tryz.prog ops Q rest (a.put op.dst v') w') : wpList Tryz.prog ops Q (op :: rest) a w := by
  refine wpList_plain hgd fun K hK => ?_
  obtain ⟨v', w', hr, h1, h2⟩ := run_appX B v n xs hown b c nd hb hn hB op.type
  unfold Oper.wp execOp
  simp only [ho, resolve, invoke, builtin, Sem.run_bind, Sem.run_pure, Result.andThen_ok, List.map_toArray, List.map_cons, List.map_nil, hs, hx, hr]
  exact hK _ _ (h v' w' ⟨_, h1⟩ h2)
def n99 : Nd := ⟨99, 0, 0, 0, noName, 0⟩
def n98 : Nd := ⟨98, 0, 0, 0, noName, 0⟩
theorem putL_len : ∀ (vs cs : List Value) (o : Nat), (putL cs o vs).length = cs.length
  | [], cs, o => rfl
  | v :: vs, cs, o => by show (putL (cs.set o v) (o + 1) vs).length = _; rw [putL_len vs]; simp
/-- A node of a row of one's own is written over. -/
theorem own_put {W W' : World} {B n g cap j : Nat} {xs : List Value} (h : W.ownsRow B 62 6 (.slice (some ⟨g, 0, none⟩) n cap) n xs) : ∃ cs, IsS W g 62 cs ∧ cs.length = cap * 6 ∧ n ≤ cap ∧ (∀ W' cs', IsS W' g 62 cs' → cs'.length = cap * 6 → ∃ ys, W'.ownsRow B 62 6 (.slice (some ⟨g, 0, none⟩) n cap) n ys) := by
  rcases h.2 with ⟨h', _⟩ | ⟨g', cap', cur, h', hb, hg, hnc, hcm, hcs, htake⟩
  · cases h'
  · cases h'
    refine ⟨cur.toList, by simpa [IsS] using hg, by simpa using hcs, hnc, fun W' cs' hI hl => ⟨cs'.take (n * 6), ?_, .inr ⟨g, cap, cs'.toArray, rfl, hb, hI, hnc, hcm, by simpa using hl, by simp⟩⟩⟩
    rw [List.length_take, hl]
    have : n * 6 ≤ cap * 6 := Nat.mul_le_mul_right _ hnc
    omega

set_option maxRecDepth 100000 in
set_option maxHeartbeats 2000000 in
theorem spoil_any (B : Nat) (v : Value) (n : Nat) (hn : n ≤ 8388608) (w : World) (xs : List Value) (hown : w.ownsRow B 62 6 v n xs) (hB : B ≤ w.heap.size) :
    Calls Tryz.prog 9 #[v] w fun e w' => e = .returned (.tuple #[]) ∧ ∃ row, Step none v.ownBlock row w w' := by
  obtain ⟨a0, c0, rfl⟩ := own_formN hown
  have HO : Hid (w.ownsRow B 62 6 (.slice a0 n c0) n xs) := hown
  clear hown
  go_enter Tryz.func9, Tryz.ntmps9
  go_wp2_with fail
  go_loopw [2] (fun i wr => ∃ j : Nat, j ≤ n ∧ i = .int .i64 (j : Int) ∧ Hid (∃ ys, wr.ownsRow B 62 6 (.slice a0 n c0) n ys) ∧ Hid (Step none (Value.slice a0 n c0).ownBlock (Value.slice a0 n c0).ownBlock w wr)) (fun i _ => n - (intOf i).toNat)
  case atStart => exact ⟨0, by omega, rfl, ⟨xs, HO.out⟩, Step.of_below (Below.refl _ _)⟩
  case round =>
    obtain ⟨j, hj, rfl, HY, HS⟩ := hrel
    by_cases hlt : j < n
    · have hi : (j : Int) < n := by omega
      obtain ⟨ys, hy⟩ := HY.out
      obtain ⟨m, rfl⟩ : ∃ m, n = m + 1 := ⟨n - 1, by omega⟩
      obtain ⟨g, c1, e0, hkc⟩ := own_some hy
      cases e0
      obtain ⟨cs, hI, hcl, hnc, hback⟩ := own_put (W' := wr) (j := j) hy
      have HBK : Hid (∀ W' cs', IsS W' g 62 cs' → cs'.length = c0 * 6 → ∃ ys, W'.ownsRow B 62 6 (.slice (some ⟨g, 0, none⟩) (m + 1) c0) (m + 1) ys) := hback
      have HCL : Hid (cs.length = c0 * 6) := hcl
      clear hback hcl hy HY
      go_wp2_with (first
        | (refine wpList_storeS rfl 62 _ _ rfl rfl (ndL n99) rfl hI (by have := HCL.out; simp [ndL]; omega) infoNd (nd_one _) ?_; intro W3 U3 I3; have HY3 : Hid (∃ ys, W3.ownsRow B 62 6 (.slice (some ⟨g, 0, none⟩) (m + 1) c0) (m + 1) ys) := HBK.out W3 _ I3 (by rw [putL_len]; exact HCL.out); have S3 : Hid (Step none (Value.slice (some ⟨g, 0, none⟩) (m + 1) c0).ownBlock (Value.slice (some ⟨g, 0, none⟩) (m + 1) c0).ownBlock w W3) := HS.out.comp ⟨U3.os, U3.tape, U3.output, Nat.le_of_eq U3.size.symm, fun k _ _ hk => U3.block k (fun e => hk (by rw [e]; rfl)), .inl rfl⟩; clear U3 I3 hI))
      go_roundw
      case rel => exact ⟨j + 1, by omega, by go_num, HY3, S3⟩
      case measure => simp [intOf]; omega
    · have hi : ¬ (j : Int) < n := by omega
      go_wp2_with fail
      clear hi hlt hj HO
      go_loopw [0, 3] (fun v i wx => ∃ q : Nat, q ≤ 20 ∧ i = .int .i64 (q : Int) ∧ Hid (∃ ys, wx.ownsRow B 62 6 v (n + q) ys) ∧ Hid (Step none (Value.slice a0 n c0).ownBlock v.ownBlock w wx)) (fun _ i _ => 20 - (intOf i).toNat)
      case atStart => exact ⟨0, by omega, rfl, HY.out, HS⟩
      case round =>
        obtain ⟨q, hq, rfl, HY2, HS2⟩ := hrel
        clear HY HS
        by_cases hlt2 : q < 20
        · have hi2 : (q : Int) < 20 := by omega
          obtain ⟨ys, hy⟩ := HY2.out
          obtain ⟨a1, c1, rfl⟩ := own_formN hy
          have HY3 : Hid (wr.ownsRow B 62 6 (.slice a1 (n + q) c1) (n + q) ys) := hy
          have hBx : B ≤ wr.heap.size := Nat.le_trans hB HS2.out.size
          clear hy HY2
          go_wp2_with (first
            | (refine wpList_buildN rfl _ rfl n98 rfl ?_; intro W5 b5 F5 N5; have B5 := F5.trans (Below.refl _ wr) (Nat.le_refl _); have HY5 : Hid (W5.ownsRow B 62 6 (.slice a1 (n + q) c1) (n + q) ys) := own_grN HY3.out B5; have S5 : Hid (Step none (Value.slice a0 n c0).ownBlock (Value.slice a1 (n + q) c1).ownBlock w W5) := HS2.out.comp (Step.of_below B5); have hB5 : B ≤ W5.heap.size := Nat.le_trans hBx B5.size; clear F5 B5 HY3 HS2)
            | (at_builtin; refine wpList_appX rfl _ _ rfl B (.slice a1 (n + q) c1) (n + q) ys rfl HY5.out b5 1 n98 rfl N5 (by omega) hB5 ?_; intro v6 W6 O6 S6; have HY6 : Hid (∃ ys, W6.ownsRow B 62 6 v6 (n + (q + 1)) ys) := O6; have S7 : Hid (Step none (Value.slice a0 n c0).ownBlock v6.ownBlock w W6) := S5.out.comp S6; clear O6 S6 HY5 S5 N5))
          go_roundw
          case rel => exact ⟨q + 1, by omega, by go_num, HY6, S7⟩
          case measure => simp [intOf]; omega
        · have hi2 : ¬ (q : Int) < 20 := by omega
          go_wp2_with fail
          refine ⟨rfl, .tuple #[], (by simp [results, Tryz.results9, go_sem]), rfl, ⟨_, HS2.out⟩⟩
end Go.Proofs.YtjnbhcakfenbhaaGreatDoor
/- Rows of tokens of one's own. -/
namespace Go.Proofs.YtjnbhcakfenbhaaGreatDoor
open Go.RowKit M
set_option linter.unusedSimpArgs false
set_option linter.unusedVariables false

theorem info38' : (Tryz.prog.info? 49).map (fun i => (i.zero, i.size, i.bytes)) = some (some (.agg (gtL noGT).toArray), 7, 64) := by kernel_rfl
theorem parts38 : ∃ i, Tryz.prog.info? 49 = some i ∧ i.zero = some (.agg (gtL noGT).toArray) ∧ i.size = 7 ∧ i.bytes = 64 := by
  have h := info38'
  cases hq : Tryz.prog.info? 49 with
  | none => rw [hq] at h; simp at h
  | some i =>
    rw [hq] at h
    simp only [Option.map_some, Option.some.injEq, Prod.mk.injEq] at h
    exact ⟨i, rfl, h.1, h.2.1, h.2.2⟩
def cellsG (gs : List GT) : List Value := gs.flatMap gtL
theorem cellsG_snoc (gs : List GT) (g : GT) : cellsG (gs ++ [g]) = cellsG gs ++ gtL g := by simp [cellsG]
theorem cellsG_len (gs : List GT) : (cellsG gs).length = gs.length * 7 := by
  induction gs with
  | nil => rfl
  | cons t ts ih => simp only [cellsG, List.flatMap_cons, List.length_append, List.length_cons] at *; rw [ih]; simp [gtL]; omega
theorem cellsG_at : ∀ (gs : List GT) (j : Nat) (g : GT), gs[j]? = some g → ∀ (i : Nat) (v : Value), (gtL g)[i]? = some v → (cellsG gs)[j * 7 + i]? = some v
  | [], j, g, h, i, v, hv => by simp at h
  | x :: gs, 0, g, h, i, v, hv => by
    simp at h; subst h
    have hi : i < (gtL x).length := (List.getElem?_eq_some_iff.1 hv).1
    show (gtL x ++ cellsG gs)[0 * 7 + i]? = some v
    rw [Nat.zero_mul, Nat.zero_add, List.getElem?_append_left hi]; exact hv
  | x :: gs, j + 1, g, h, i, v, hv => by
    have := cellsG_at gs j g (by simpa using h) i v hv
    show (gtL x ++ cellsG gs)[(j + 1) * 7 + i]? = some v
    have e : (gtL x).length = 7 := rfl
    rw [List.getElem?_append_right (by omega), e, show (j + 1) * 7 + i - 7 = j * 7 + i by omega]
    exact this
theorem own_toks {W : World} {base n : Nat} {v : Value} {gs : List GT} (h : W.ownsRow base 49 7 v n (cellsG gs)) (hn : gs.length = n) : ∃ a cap, v = .slice a gs.length cap ∧ Toks W a gs := by
  rcases h.2 with ⟨rfl, h0⟩ | ⟨g, cap, cur, rfl, hg, hh, rest⟩
  · refine ⟨none, 0, by rw [hn, h0], fun j x hx => ?_⟩
    have := (List.getElem?_eq_some_iff.1 hx).1
    omega
  · refine ⟨_, cap, by rw [hn], fun j x hx => ⟨g, 0, rfl, (Array.getElem?_eq_some_iff.1 hh).1, fun i u hu => ?_⟩⟩
    have hc := cellsG_at gs j x hx i u hu
    rw [cell_of_row W g _ cur 49 (0, 0) hh, Nat.zero_add]
    rw [← rest.2.2.2, List.getElem?_take] at hc
    split at hc
    · simpa using hc
    · cases hc
theorem wpList_buildG {w : World} {ops : Array Oper} {rest : List Oper} {op : Oper} {a : Act} {Q : Exit → Act → World → Prop} (hgd : op.guard = none) (x : Operand) (ho : op.op = .buildSlice 43 1 #[(0, x)]) (g : GT) (hx : a.eval x = .agg (gtL g).toArray)
    (h : ∀ W b, Fresh w W b → IsS W b 49 (gtL g) → wpList Tryz.prog ops Q rest (a.put op.dst (.slice (some ⟨b, 0, none⟩) 1 1)) W) : wpList Tryz.prog ops Q (op :: rest) a w := by
  refine wpList_plain hgd fun K hK => ?_
  have hr : (execOp a.eval op).run Tryz.prog w = .ok (.value (.slice (some ⟨w.heap.size, 0, none⟩) 1 1)) (w.alloc (.cells (gtL g).toArray 49)) := by
    generalize a.eval = ev at hx ⊢
    unfold execOp
    simp [ho, hx, go_sem, Value.cells, gtL]
  unfold Oper.wp
  rw [hr]
  exact hK _ _ (h _ _ (Fresh.alloc w _) (IsS.new w 49 _))
theorem toks_cells {w : World} {b o : Nat} {gs : List GT} (h : Toks w (some ⟨b, o, none⟩) gs) : ∀ j v, (cellsG gs)[j]? = some v → w.cell? ⟨b, o + j, none⟩ = some v := fun j v hv => by
  have hj := (List.getElem?_eq_some_iff.1 hv).1
  rw [cellsG_len] at hj
  obtain ⟨n, hn⟩ : ∃ n, gs[j / 7]? = some n := ⟨_, List.getElem?_eq_getElem (by omega)⟩
  obtain ⟨b', o', e, _, hr⟩ := h _ n hn
  cases e
  have hm : j % 7 < (gtL n).length := by show j % 7 < 7; omega
  have hu : (gtL n)[j % 7]? = some (gtL n)[j % 7] := List.getElem?_eq_getElem hm
  have := cellsG_at gs _ n hn _ _ hu
  rw [show j / 7 * 7 + j % 7 = j by omega, hv] at this
  have e2 := hr (j % 7) _ hu
  rw [show o + j / 7 * 7 + j % 7 = o + j by omega] at e2
  rw [e2, this]
theorem cellsG_one (gs : List GT) : ∀ v ∈ cellsG gs, v.oneCell' = true := fun v hv => by
  obtain ⟨g, _, hg⟩ := List.mem_flatMap.1 hv
  exact gt_one g v hg
section
variable {w : World} {ops : Array Oper} {rest : List Oper} {op : Oper} {a : Act} {Q : Exit → Act → World → Prop}
/-- A list of tokens put behind a row of one's own. -/
theorem run_appTs (B : Nat) (v : Value) (n : Nat) (xs : List Value) (hown : w.ownsRow B 49 7 v n xs) (ad : Option Addr) (cap : Nat) (gs : List GT) (hT : Toks w ad gs) (hnil : ad = none → cap = 0) (hn : n + gs.length ≤ 4194304) (hB : B ≤ w.heap.size) (ty : TypeId) :
    ∃ v' w', (Builtin.append_ #[43, 43] ty #[v, .slice ad gs.length cap]).run Tryz.prog w = .ok v' w' ∧ w'.ownsRow B 49 7 v' (n + gs.length) (xs ++ cellsG gs) ∧ w.grownBy w' v.ownBlock := by
  obtain ⟨i0, hi, hz, hs, hby⟩ := parts38
  cases ad with
  | none =>
    have hg : gs = [] := by
      cases gs with
      | nil => rfl
      | cons g gs => obtain ⟨_, _, e, _⟩ := hT 0 g rfl; cases e
    subst hg
    rw [hnil rfl]
    refine ⟨v, w, run_append_owned_none (P := Tryz.prog) (w := w) B 43 ty 49 i0 7 Tryz.underlying43 hi v n xs hown, ?_, ⟨rfl, rfl, rfl, Nat.le_refl _, fun _ _ _ => rfl⟩⟩
    simpa [cellsG] using hown
  | some x =>
    have hnews : ∀ j u, (cellsG gs)[j]? = some u → w.cell? (x.add j) = some u := fun j u hj => by
      have hlt := (List.getElem?_eq_some_iff.1 hj).1
      rw [cellsG_len] at hlt
      obtain ⟨g0, hg0⟩ : ∃ g, gs[0]? = some g := ⟨_, List.getElem?_eq_getElem (by omega)⟩
      obtain ⟨b, o, e, _⟩ := hT 0 g0 hg0
      cases e
      rw [Addr.add_mid]
      exact toks_cells hT j u hj
    obtain ⟨v', w', hr, ho, hg, _⟩ := run_append_own (P := Tryz.prog) w B 43 ty 49 i0 (.agg (gtL noGT).toArray) 7 64 Tryz.underlying43 hi hz hs hby rfl (by decide) v n xs hown x gs.length cap (cellsG gs) (cellsG_len gs) hnews (cellsG_one gs) (by unfold maxLen; omega) (by omega) hB
    exact ⟨v', w', hr, ho, hg⟩
theorem wpList_appTs (hgd : op.guard = none) (s x : Operand) (ho : op.op = .call { callee := .builtin .append, args := #[s, x], argTypes := #[43, 43] })
    (B : Nat) (v : Value) (n : Nat) (xs : List Value) (hs : a.eval s = v) (hown : w.ownsRow B 49 7 v n xs) (ad : Option Addr) (cap : Nat) (gs : List GT) (hx : a.eval x = .slice ad gs.length cap) (hT : Toks w ad gs) (hnil : ad = none → cap = 0) (hn : n + gs.length ≤ 4194304) (hB : B ≤ w.heap.size)
    (h : ∀ v' w', w'.ownsRow B 49 7 v' (n + gs.length) (xs ++ cellsG gs) → w.grownBy w' v.ownBlock → wpList Tryz.prog ops Q rest (a.put op.dst v') w') : wpList Tryz.prog ops Q (op :: rest) a w := by
  refine wpList_plain hgd fun K hK => ?_
  obtain ⟨v', w', hr, h1, h2⟩ := run_appTs B v n xs hown ad cap gs hT hnil hn hB op.type
  unfold Oper.wp execOp
  simp only [ho, resolve, invoke, builtin, Sem.run_bind, Sem.run_pure, Result.andThen_ok, List.map_toArray, List.map_cons, List.map_nil, hs, hx, hr]
  exact hK _ _ (h v' w' h1 h2)
theorem wpList_build0 (hgd : op.guard = none) (ho : op.op = .buildSlice 43 0 #[])
    (h : ∀ W v, w.heap.size ≤ W.heap.size → Below w.heap.size w W → W.ownsRow w.heap.size 49 7 v 0 [] → wpList Tryz.prog ops Q rest (a.put op.dst v) W) : wpList Tryz.prog ops Q (op :: rest) a w := by
  refine wpList_plain hgd fun K hK => ?_
  have hr : (execOp a.eval op).run Tryz.prog w = .ok (.value (.slice (some ⟨w.heap.size, 0, none⟩) 0 0)) (w.alloc (.cells #[] 49)) := by
    unfold execOp
    simp [ho, go_sem, Value.cells]
  unfold Oper.wp
  rw [hr]
  have F := Fresh.alloc w (.cells #[] 49)
  refine hK _ _ (h _ _ F.below.size F.below ⟨rfl, .inr ⟨w.heap.size, 0, #[], rfl, Nat.le_refl _, heap_alloc_last w _, Nat.le_refl _, by unfold maxLen; omega, rfl, rfl⟩⟩)
end
theorem grown_below {B : Nat} {w0 w w' : World} {v : Value} {n : Nat} {xs : List Value} {t s : Nat} (h : Below B w0 w) (hB : B ≤ w.heap.size) (ho : w.ownsRow B t s v n xs) (hg : w.grownBy w' v.ownBlock) : Below B w0 w' := by
  refine ⟨hg.os.trans h.os, hg.tape.trans h.tape, hg.output.trans h.output, Nat.le_trans h.size hg.size, fun k hk => (hg.block k (Nat.lt_of_lt_of_le hk hB) (fun e => ?_)).trans (h.block k hk)⟩
  rcases ho.2 with ⟨rfl, _⟩ | ⟨g, cap, cur, rfl, hb, _⟩
  · cases e
  · simp [Value.ownBlock] at e; omega
end Go.Proofs.YtjnbhcakfenbhaaGreatDoor
