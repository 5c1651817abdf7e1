/- Sort of the reference. -/
import Derived.Test.YtbhgchhoeokjhaaSO
import Derived.Test.YtbhgchhoeokjhaaA1
import Derived.Test.YtbhgchhoeokjhaaGT
namespace Go.Proofs.Ytbhgchhoeokjhaa
open Go Go.RowKit M
set_option linter.unusedSimpArgs false
set_option linter.unusedVariables false

theorem own_open {w : World} {B n : Nat} {v : Value} {l : List FS} (h : OwnL w B v l) (hn : l.length = n) (h0 : 0 < n) :
    ∃ g cap cs, v = .slice (some ⟨g, 0, none⟩) n cap ∧ B ≤ g ∧ IsS w g 25 cs ∧ RowC cs l ∧ n ≤ cap ∧ cap ≤ maxLen ∧ cs.length = cap * 49 := by
  subst hn
  rcases h.2 with ⟨hv, h1⟩ | ⟨g, cap, cur, hv, hg, hh, hc, hm, hs, ht⟩
  · omega
  · exact ⟨g, cap, cur.toList, hv, hg, by unfold IsS; rw [hh], ht, hc, hm, by simpa using hs⟩
def sfA (g i cap : Nat) : Addr := if cap = i then ⟨g, 0, none⟩ else ⟨g, i * 49, none⟩
theorem exec_sfrom {w : World} {op : Oper} {a : Act} {x y : Operand} {g i n cap : Nat} (ho : op.op = .slice 22 x (some y) none none) (hx : a.eval x = .slice (some ⟨g, 0, none⟩) n cap) (hy : a.eval y = .int .i64 (i : Int)) (h : i ≤ n) (hc : n ≤ cap) (hm : cap ≤ maxLen) :
    (execOp a.eval op).run Try.prog w = .ok (.value (.slice (some (sfA g i cap)) (n - i) (cap - i))) w := by
  unfold maxLen at hm
  have h1 : (0 : Int) ≤ (i : Int) ∧ (i : Int) ≤ (cap : Int) := by omega
  have hs : ¬ ((i : Int) < 0) := by omega
  have h2 : i ≤ cap := by omega
  generalize a.eval = ev at hx hy ⊢
  unfold execOp
  by_cases h3 : cap = i
  · simp [ho, hx, hy, go_sem, Instr.sliceAt, h1, h, h2, h3, hc, sfA]
  · simp [ho, hx, hy, go_sem, Instr.sliceAt, h1, h, h2, h3, hc, sfA]
theorem run_copyF (w : World) (ty : TypeId) (g o dLen dCap : Nat) (ad : Addr) (a : Option Addr) (sLen sCap : Nat) (vs cs : List Value) (I : IsS w g 25 cs) (hsrc : Seg w a vs) (hl : vs.length = Nat.min sLen dLen * 49) (hfit : o + vs.length ≤ cs.length) (h1 : ∀ v ∈ vs, v.oneCell' = true) (had : vs = [] ∨ ad = ⟨g, o, none⟩) :
    ∃ x, (Builtin.copy_ #[22, 22] ty #[.slice (some ad) dLen dCap, .slice a sLen sCap]).run Try.prog w = .ok x (w.setCells g o vs) := by
  obtain ⟨i0, hi, _, hs, _⟩ := eFin.info
  cases vs with
  | nil =>
    have h0 : Nat.min sLen dLen = 0 := by simp at hl; omega
    have hl : ∀ (x : Addr), (loadCells x 0).run Try.prog w = .ok #[] w := fun x => by simpa using run_loadCells_list (P := Try.prog) w x [] (by simp)
    refine ⟨goInt 0, ?_⟩
    cases a <;> simp [Builtin.copy_, run_underlying Try.underlying22, Builtin.lenOf, Builtin.firstCells, sizeOf, typeInfo, hi, hs, h0, storeCells, hl, World.setCells]
  | cons v0 vs0 =>
    have had' : ad = ⟨g, o, none⟩ := by rcases had with h | h; cases h; exact h
    subst had'
    obtain ⟨b, p, rfl, _, _⟩ := hsrc 0 v0 rfl
    generalize hvs : v0 :: vs0 = vs at *
    have hld := run_loadCells_list (P := Try.prog) w ⟨b, p, none⟩ vs (fun j v hv => by
      rw [Addr.add_mid]
      obtain ⟨b', p', e, _, h⟩ := hsrc j v hv
      cases e; exact h)
    have hst := run_storeCells_cells (P := Try.prog) g o vs 0 w (fun j hj => by rw [Nat.add_zero, I.cell, List.getElem?_eq_getElem (by omega)]; rfl) (fun j hj => by rw [Nat.add_zero]; exact I.frozen _) h1
    simp only [Nat.add_zero] at hst
    rw [hl] at hld
    refine ⟨goInt (Nat.min sLen dLen), ?_⟩
    simp [Builtin.copy_, run_underlying Try.underlying22, Builtin.lenOf, Builtin.firstCells, sizeOf, typeInfo, hi, hs, hld, hst]
theorem RowC.shift {cs : List Value} {l m : List FS} (h : RowC cs l) (j : Nat) (hj : j + m.length = l.length) : RowC (putL cs (j * 49) (flatF m)) (l.take j ++ m) := by
  have hl := h.len
  have hm := flatF_len m
  unfold RowC
  have e1 : (l.take j ++ m).length = l.length := by rw [List.length_append, List.length_take]; omega
  rw [e1, flatF_append, ← flatF_take, ← h, List.take_take, Nat.min_eq_left (by rw [← hj, Nat.add_mul]; omega)]
  have hl2 : j * 49 + m.length * 49 = l.length * 49 := by rw [← Nat.add_mul, hj]
  refine List.ext_getElem? fun t => ?_
  rw [List.getElem?_take]
  have hcl : (cs.take (j * 49)).length = j * 49 := by rw [List.length_take]; omega
  by_cases ht : t < l.length * 49
  · rw [if_pos ht, putL_get _ _ _ _ (by omega)]
    by_cases h1 : j * 49 ≤ t
    · rw [if_pos (by omega), List.getElem?_append_right (by omega), hcl]
    · rw [if_neg (by omega), List.getElem?_append_left (by omega), List.getElem?_take, if_pos (by omega)]
  · rw [if_neg ht, List.getElem?_eq_none (by rw [List.length_append, hcl]; omega)]
theorem set_mid (l m : List FS) (k : Nat) (h : k < l.length) (x : FS) : (l.take (k + 1) ++ m).set k x = l.take k ++ x :: m := by
  rw [List.set_append_left _ _ (by rw [List.length_take]; omega), List.take_succ_eq_append_getElem h]
  have hl : (l.take k).length = k := by rw [List.length_take]; omega
  rw [List.set_append_right _ _ (by omega), hl, Nat.sub_self]
  simp
theorem seg_row {w : World} {g : Nat} {cs : List Value} {l : List FS} (I : IsS w g 25 cs) (h : RowC cs l) (k : Nat) (m : List FS) (hm : (l.drop k).take m.length = m) : Seg w (some ⟨g, k * 49, none⟩) (flatF m) := fun j v hv => by
  refine ⟨g, k * 49, rfl, I.lt, ?_⟩
  rw [I.cell]
  have hj := (List.getElem?_eq_some_iff.1 hv).1
  rw [flatF_len] at hj
  rw [← hm, ← flatF_take, List.getElem?_take, if_pos hj, ← flatF_drop, List.getElem?_drop, ← h, List.getElem?_take] at hv
  by_cases hk : k * 49 + j < l.length * 49
  · rw [if_pos hk] at hv; exact hv
  · rw [if_neg hk] at hv; cases hv
section
variable {w : World} {g o : Nat} {cs vs : List Value} {ops : Array Oper} {rest : List Oper} {op : Oper} {a : Act} {Q : Exit → Act → World → Prop}
theorem wpList_copyF (hgd : op.guard = none) (d s : Operand) (ho : op.op = .call { callee := .builtin .copy, args := #[d, s], argTypes := #[22, 22] }) (dLen dCap : Nat) (ad : Addr) (sa : Option Addr) (sLen sCap : Nat)
    (hd : a.eval d = .slice (some ad) dLen dCap) (hs : a.eval s = .slice sa sLen sCap) (I : IsS w g 25 cs) (hsrc : Seg w sa vs) (hl : vs.length = Nat.min sLen dLen * 49) (hfit : o + vs.length ≤ cs.length) (h1 : ∀ v ∈ vs, v.oneCell' = true) (had : vs = [] ∨ ad = ⟨g, o, none⟩)
    (h : ∀ W x, Upd w W g → IsS W g 25 (putL cs o vs) → wpList Try.prog ops Q rest (a.put op.dst x) W) : wpList Try.prog ops Q (op :: rest) a w := by
  refine wpList_plain hgd fun K hK => ?_
  obtain ⟨x, hr⟩ := run_copyF w op.type g o dLen dCap ad sa sLen sCap vs cs I hsrc hl hfit h1 had
  unfold Oper.wp execOp
  simp only [ho, resolve, invoke, builtin, Sem.run_bind, Sem.run_pure, Result.andThen_ok, List.map_toArray, List.map_cons, List.map_nil, hd, hs, hr]
  exact hK _ _ (h _ x (Upd.setCells g vs o w) (IsS.setL vs o cs w I))
end

set_option maxRecDepth 100000 in
set_option maxHeartbeats 4000000 in
theorem rsort_any (a : Option Addr) (cap : Nat) (l : List FS) (hn : l.length < 4194304) (w : World) (hS : Seg w a (flatF l)) :
    Calls Try.prog 10 #[.slice a l.length cap] w fun e w' => ∃ v, e = .returned v ∧ OwnL w' w.heap.size v (setF l) ∧ Below w.heap.size w w' := by
  have hsz : ((l.length : Nat) : Int) ≤ 4194304 := by omega
  go_enter Try.func10, Try.ntmps10
  go_wp2
  go_loopw [3, 4] (fun v p wr => ∃ i : Nat, i ≤ l.length ∧ p = .int .i64 (i : Int) ∧ Hid (OwnL wr w.heap.size v (setF (l.take i))) ∧ Below w.heap.size w wr) (fun _ p _ => l.length - (intOf p).toNat)
  case atStart => exact ⟨0, Nat.zero_le _, rfl, World.ownsRow_nil _ _ _ _, Below.refl _ _⟩
  case round =>
    obtain ⟨i, hi, rfl, HO, BR⟩ := hrel
    have hsR := BR.size
    by_cases hlt : i < l.length
    · obtain ⟨b, o, rfl, HB0, HX0⟩ := seg_at hS i hlt
      rw [← getD_at l i hlt] at HX0
      have hC := fun W => rcheck_any (l.getD i FS.zero) W
      have HT : Hid (setF (l.take (i + 1)) = if okF (l.getD i FS.zero) then insF (l.getD i FS.zero) (setF (l.take i)) else setF (l.take i)) := setF_take (take_snocF l i hlt)
      have hiX : (i : Int) < (l.length : Int) := by omega
      generalize hXd : l.getD i FS.zero = X at *
      have HXo : ∀ W, Below w.heap.size w W → W.rangeAt b (o + i * 49) (encF X) := fun W h j v hv => (h.cell (p := ⟨b, o + i * 49 + j, none⟩) HB0).trans (HX0 j v hv)
      have HX := HXo wr BR
      have HB : b < wr.heap.size := by omega
      have hfl : (setF (l.take i)).length ≤ i := Nat.le_trans (setF_len _) (by rw [List.length_take]; omega)
      clear HX0 hXd hS
      cases hok : okF X with
      | false =>
        have hck : ((ckF X) != 0) = true := by unfold ckF; rw [hok]; rfl
        have HF : Hid (setF (l.take (i + 1)) = setF (l.take i)) := by show _ = _; rw [HT.out, hok]; rfl
        clear HT
        go_wp2_with (first
          | (refine wpList_loadE (x := X) rfl _ rfl rfl HX ?_)
          | (go_at_call 13; refine (hC _).mono ?_; rintro e w5 ⟨rfl, B5⟩))
        go_roundw
        case rel => exact ⟨i + 1, by omega, by go_num, by rw [HF.out]; exact own_belowW HO.out B5, Below.then BR B5⟩
        case measure => simp [intOf]; omega
      | true =>
        have hck : ((ckF X) != 0) = false := by unfold ckF; rw [hok]; rfl
        have HF : Hid (setF (l.take (i + 1)) = insF X (setF (l.take i))) := by show _ = _; rw [HT.out, hok]; rfl
        have HRis : Hid (Ris (setF (l.take i))) := setF_ris _
        obtain ⟨ao, co, hv3⟩ := own_form HO.out
        subst hv3
        generalize hout : setF (l.take i) = out at *
        obtain ⟨m, hml⟩ : ∃ m, out.length = m := ⟨_, rfl⟩
        have HO' : Hid (OwnL wr w.heap.size (.slice ao m co) out) := by rw [← hml]; exact HO
        rw [hml]
        rw [hml] at hfl
        have HML : Hid (out.length = m) := hml
        clear HT HO hout hml
        go_wp2_with (first
          | (refine wpList_loadE (x := X) rfl _ rfl rfl HX ?_)
          | (go_at_call 13; refine (hC _).mono ?_; rintro e w5 ⟨rfl, B5⟩))
        have B05 := Below.then BR B5
        have O5 := own_belowW HO'.out B5
        have HSO : Hid (Seg w5 ao (flatF out)) := by
          obtain ⟨a', c', e, s⟩ := own_seg (l := out) (by have := O5; exact this)
          cases e; exact s
        clear hC HX B5 HO' BR
        go_loopw [5] (fun q wq => ∃ k : Nat, k ≤ m ∧ q = .int .i64 (k : Int) ∧ Below w5.heap.size w5 wq ∧ Hid (∀ j, k ≤ j → j < out.length → ltF X (out.getD j FS.zero))) (fun q _ => (intOf q).toNat)
        case atStart => exact ⟨m, Nat.le_refl _, rfl, Below.refl _ _, fun j h1 h2 => absurd h2 (by have := HML.out; omega)⟩
        case round =>
          rename World => wq
          obtain ⟨k, hk, rfl, BQ, HG⟩ := hrel
          have hml := HML.out
          have hsQ := BQ.size
          have B0Q := Below.then B05 BQ
          have HX := HXo wq B0Q
          have HB : b < wq.heap.size := by have := B0Q.size; omega
          by_cases hk0 : 0 < k
          · obtain ⟨b2, o2, hao, HBY, HY⟩ := seg_at (HSO.out.below BQ) (k - 1) (by omega)
            subst hao
            rw [← getD_at out (k - 1) (by omega)] at HY
            have hK := fun W => rcompare_ans (out.getD (k - 1) FS.zero) X W
            have HIA := fun h => insF_at X out k HRis.out (by omega) HG.out h
            have HG1 : Hid (ltF X (out.getD (k - 1) FS.zero) → ∀ j, k - 1 ≤ j → j < out.length → ltF X (out.getD j FS.zero)) := fun h j h1 h2 => by
              by_cases e : j = k - 1
              · subst e; exact h
              · exact HG.out j (by omega) h2
            obtain ⟨k1, hk1⟩ : ∃ k1, k - 1 = k1 := ⟨_, rfl⟩
            rw [hk1] at HY hK HIA HG1
            have hwr : IntKind.i64.wrap ((k : Int) - 1) = (k1 : Int) := by rw [show (k : Int) - 1 = (k1 : Int) by omega]; exact wrap_len (by omega)
            have hiY : (k1 : Int) < (m : Int) := by omega
            have hkN : 0 < k := hk0
            generalize out.getD k1 FS.zero = Y at *
            have hcN := cmpF_neg Y X
            generalize hcd : cmpF Y X = c at *
            by_cases hgt0 : 0 < c
            · have hgt : 0 < c := hgt0
              have HG2 : Hid (∀ j, k1 ≤ j → j < out.length → ltF X (out.getD j FS.zero)) := HG1.out (by unfold ltF; omega)
              clear HG HG1 HIA hcN hcd
              go_wp2
              refine grow_allW (by kernel_rfl) (by kernel_rfl) ?_
              refine WG.put rfl (v := .int .i64 (k : Int)) (fun w => by first | rfl | (go_simp; done) | (simp [go_sem]; done)) ?_
              simp only [Act.put, List.setIfInBounds_toArray, List.set_cons_succ, List.set_cons_zero]
              refine WG.put rfl (v := .bool true) (fun w => by first | rfl | (go_simp; done) | (simp [go_sem, hkN]; done)) ?_
              simp only [Act.put, List.setIfInBounds_toArray, List.set_cons_succ, List.set_cons_zero]
              refine WG.put rfl (v := .bool true) (fun w => by first | rfl | (go_simp; done) | (simp [go_sem]; done)) ?_
              simp only [Act.put, List.setIfInBounds_toArray, List.set_cons_succ, List.set_cons_zero]
              refine WG.put rfl (v := .slice (some ⟨b2, o2, none⟩) m co) (fun w => by first | rfl | (go_simp; done) | (simp [go_sem]; done)) ?_
              simp only [Act.put, List.setIfInBounds_toArray, List.set_cons_succ, List.set_cons_zero]
              refine WG.put rfl (v := .int .i64 (k : Int)) (fun w => by first | rfl | (go_simp; done) | (simp [go_sem]; done)) ?_
              simp only [Act.put, List.setIfInBounds_toArray, List.set_cons_succ, List.set_cons_zero]
              refine WG.put rfl (v := .int .i64 (k1 : Int)) (fun w => by first | rfl | (go_simp; done) | (simp [go_sem, hwr]; done)) ?_
              simp only [Act.put, List.setIfInBounds_toArray, List.set_cons_succ, List.set_cons_zero]
              refine WG.put rfl (v := .pointer (some ⟨b2, o2 + k1 * 49, none⟩)) (fun w => by first | rfl | (go_simp; done) | (simp [go_sem, hiY]; done)) ?_
              simp only [Act.put, List.setIfInBounds_toArray, List.set_cons_succ, List.set_cons_zero]
              refine WG.elem (x := Y) rfl _ rfl rfl HBY HY ?_
              simp only [Act.put, List.setIfInBounds_toArray, List.set_cons_succ, List.set_cons_zero]
              refine WG.put rfl (v := .slice (some ⟨b, o, none⟩) l.length cap) (fun w => by first | rfl | (go_simp; done) | (simp [go_sem]; done)) ?_
              simp only [Act.put, List.setIfInBounds_toArray, List.set_cons_succ, List.set_cons_zero]
              refine WG.put rfl (v := .int .i64 (i : Int)) (fun w => by first | rfl | (go_simp; done) | (simp [go_sem]; done)) ?_
              simp only [Act.put, List.setIfInBounds_toArray, List.set_cons_succ, List.set_cons_zero]
              refine WG.put rfl (v := .pointer (some ⟨b, o + i * 49, none⟩)) (fun w => by first | rfl | (go_simp; done) | (simp [go_sem, hiX]; done)) ?_
              simp only [Act.put, List.setIfInBounds_toArray, List.set_cons_succ, List.set_cons_zero]
              refine WG.elem (x := X) rfl _ rfl rfl HB HX ?_
              simp only [Act.put, List.setIfInBounds_toArray, List.set_cons_succ, List.set_cons_zero]
              refine WG.call rfl (v := .int .i64 c) (fun w _ => hK w) (fun w => by first | rfl | (go_simp; done) | (simp [go_sem]; done)) ?_
              simp only [Act.put, List.setIfInBounds_toArray, List.set_cons_succ, List.set_cons_zero]
              refine WG.put rfl (v := .bool true) (fun w => by first | rfl | (go_simp; done) | (simp [go_sem, hgt]; done)) ?_
              simp only [Act.put, List.setIfInBounds_toArray, List.set_cons_succ, List.set_cons_zero]
              refine WG.put rfl (v := .bool true) (fun w => by first | rfl | (go_simp; done) | (simp [go_sem]; done)) ?_
              simp only [Act.put, List.setIfInBounds_toArray, List.set_cons_succ, List.set_cons_zero]
              refine WG.nil ?_
              intro w6 B6
              have BQ6 := Below.then BQ B6
              clear HX HY HB HBY hK
              go_wp2
              go_roundw
              case rel => exact ⟨k1, by omega, by first | rfl | rw [hwr], BQ6, HG2⟩
              case measure => simp [intOf, hwr]; omega
            · have hgt : ¬ (0 < c) := hgt0
              have HI0 := HIA (fun _ h => by unfold ltF at h; omega)
              by_cases hxy0 : Y = X
              · have hxy : decide (Y = X) = true := by simpa using hxy0
                have HI1 : Hid (setF (l.take (i + 1)) = out) := by show _ = _; rw [HF.out, HI0, if_pos ⟨hk0, hxy0⟩]
                clear HG HG1 HIA hcN hcd HI0 hxy0
                go_wp2
                refine grow_allW (by kernel_rfl) (by kernel_rfl) ?_
                refine WG.put rfl (v := .int .i64 (k : Int)) (fun w => by first | rfl | (go_simp; done) | (simp [go_sem]; done)) ?_
                simp only [Act.put, List.setIfInBounds_toArray, List.set_cons_succ, List.set_cons_zero]
                refine WG.put rfl (v := .bool true) (fun w => by first | rfl | (go_simp; done) | (simp [go_sem, hkN]; done)) ?_
                simp only [Act.put, List.setIfInBounds_toArray, List.set_cons_succ, List.set_cons_zero]
                refine WG.put rfl (v := .bool true) (fun w => by first | rfl | (go_simp; done) | (simp [go_sem]; done)) ?_
                simp only [Act.put, List.setIfInBounds_toArray, List.set_cons_succ, List.set_cons_zero]
                refine WG.put rfl (v := .slice (some ⟨b2, o2, none⟩) m co) (fun w => by first | rfl | (go_simp; done) | (simp [go_sem]; done)) ?_
                simp only [Act.put, List.setIfInBounds_toArray, List.set_cons_succ, List.set_cons_zero]
                refine WG.put rfl (v := .int .i64 (k : Int)) (fun w => by first | rfl | (go_simp; done) | (simp [go_sem]; done)) ?_
                simp only [Act.put, List.setIfInBounds_toArray, List.set_cons_succ, List.set_cons_zero]
                refine WG.put rfl (v := .int .i64 (k1 : Int)) (fun w => by first | rfl | (go_simp; done) | (simp [go_sem, hwr]; done)) ?_
                simp only [Act.put, List.setIfInBounds_toArray, List.set_cons_succ, List.set_cons_zero]
                refine WG.put rfl (v := .pointer (some ⟨b2, o2 + k1 * 49, none⟩)) (fun w => by first | rfl | (go_simp; done) | (simp [go_sem, hiY]; done)) ?_
                simp only [Act.put, List.setIfInBounds_toArray, List.set_cons_succ, List.set_cons_zero]
                refine WG.elem (x := Y) rfl _ rfl rfl HBY HY ?_
                simp only [Act.put, List.setIfInBounds_toArray, List.set_cons_succ, List.set_cons_zero]
                refine WG.put rfl (v := .slice (some ⟨b, o, none⟩) l.length cap) (fun w => by first | rfl | (go_simp; done) | (simp [go_sem]; done)) ?_
                simp only [Act.put, List.setIfInBounds_toArray, List.set_cons_succ, List.set_cons_zero]
                refine WG.put rfl (v := .int .i64 (i : Int)) (fun w => by first | rfl | (go_simp; done) | (simp [go_sem]; done)) ?_
                simp only [Act.put, List.setIfInBounds_toArray, List.set_cons_succ, List.set_cons_zero]
                refine WG.put rfl (v := .pointer (some ⟨b, o + i * 49, none⟩)) (fun w => by first | rfl | (go_simp; done) | (simp [go_sem, hiX]; done)) ?_
                simp only [Act.put, List.setIfInBounds_toArray, List.set_cons_succ, List.set_cons_zero]
                refine WG.elem (x := X) rfl _ rfl rfl HB HX ?_
                simp only [Act.put, List.setIfInBounds_toArray, List.set_cons_succ, List.set_cons_zero]
                refine WG.call rfl (v := .int .i64 c) (fun w _ => hK w) (fun w => by first | rfl | (go_simp; done) | (simp [go_sem]; done)) ?_
                simp only [Act.put, List.setIfInBounds_toArray, List.set_cons_succ, List.set_cons_zero]
                refine WG.put rfl (v := .bool false) (fun w => by first | rfl | (go_simp; done) | (simp [go_sem, hgt]; done)) ?_
                simp only [Act.put, List.setIfInBounds_toArray, List.set_cons_succ, List.set_cons_zero]
                refine WG.put rfl (v := .bool false) (fun w => by first | rfl | (go_simp; done) | (simp [go_sem]; done)) ?_
                simp only [Act.put, List.setIfInBounds_toArray, List.set_cons_succ, List.set_cons_zero]
                refine WG.nil ?_
                intro w6 B6
                have HX6 := HXo w6 (Below.then B0Q B6)
                have HB6 : b < w6.heap.size := Nat.lt_of_lt_of_le HB B6.size
                have HBY6 : b2 < w6.heap.size := Nat.lt_of_lt_of_le HBY B6.size
                have HY6 : w6.rangeAt b2 (o2 + k1 * 49) (encF Y) := fun j v hv => (B6.cell (p := ⟨b2, o2 + k1 * 49 + j, none⟩) HBY).trans (HY j v hv)
                have BQ6 := Below.then BQ B6
                clear HX HY HB HBY hK
                go_wp2
                refine grow_allW (by kernel_rfl) (by kernel_rfl) ?_
                refine WG.put rfl (v := .int .i64 (k : Int)) (fun w => by first | rfl | (go_simp; done) | (simp [go_sem]; done)) ?_
                simp only [Act.put, List.setIfInBounds_toArray, List.set_cons_succ, List.set_cons_zero]
                refine WG.put rfl (v := .bool true) (fun w => by first | rfl | (go_simp; done) | (simp [go_sem, hkN]; done)) ?_
                simp only [Act.put, List.setIfInBounds_toArray, List.set_cons_succ, List.set_cons_zero]
                refine WG.put rfl (v := .bool true) (fun w => by first | rfl | (go_simp; done) | (simp [go_sem]; done)) ?_
                simp only [Act.put, List.setIfInBounds_toArray, List.set_cons_succ, List.set_cons_zero]
                refine WG.put rfl (v := .slice (some ⟨b2, o2, none⟩) m co) (fun w => by first | rfl | (go_simp; done) | (simp [go_sem]; done)) ?_
                simp only [Act.put, List.setIfInBounds_toArray, List.set_cons_succ, List.set_cons_zero]
                refine WG.put rfl (v := .int .i64 (k : Int)) (fun w => by first | rfl | (go_simp; done) | (simp [go_sem]; done)) ?_
                simp only [Act.put, List.setIfInBounds_toArray, List.set_cons_succ, List.set_cons_zero]
                refine WG.put rfl (v := .int .i64 (k1 : Int)) (fun w => by first | rfl | (go_simp; done) | (simp [go_sem, hwr]; done)) ?_
                simp only [Act.put, List.setIfInBounds_toArray, List.set_cons_succ, List.set_cons_zero]
                refine WG.put rfl (v := .pointer (some ⟨b2, o2 + k1 * 49, none⟩)) (fun w => by first | rfl | (go_simp; done) | (simp [go_sem, hiY]; done)) ?_
                simp only [Act.put, List.setIfInBounds_toArray, List.set_cons_succ, List.set_cons_zero]
                refine WG.elem (x := Y) rfl _ rfl rfl HBY6 HY6 ?_
                simp only [Act.put, List.setIfInBounds_toArray, List.set_cons_succ, List.set_cons_zero]
                refine WG.put rfl (v := .slice (some ⟨b, o, none⟩) l.length cap) (fun w => by first | rfl | (go_simp; done) | (simp [go_sem]; done)) ?_
                simp only [Act.put, List.setIfInBounds_toArray, List.set_cons_succ, List.set_cons_zero]
                refine WG.put rfl (v := .int .i64 (i : Int)) (fun w => by first | rfl | (go_simp; done) | (simp [go_sem]; done)) ?_
                simp only [Act.put, List.setIfInBounds_toArray, List.set_cons_succ, List.set_cons_zero]
                refine WG.put rfl (v := .pointer (some ⟨b, o + i * 49, none⟩)) (fun w => by first | rfl | (go_simp; done) | (simp [go_sem, hiX]; done)) ?_
                simp only [Act.put, List.setIfInBounds_toArray, List.set_cons_succ, List.set_cons_zero]
                refine WG.elem (x := X) rfl _ rfl rfl HB6 HX6 ?_
                simp only [Act.put, List.setIfInBounds_toArray, List.set_cons_succ, List.set_cons_zero]
                refine WG.eqF rfl _ _ rfl rfl rfl true hxy ?_
                simp only [Act.put, List.setIfInBounds_toArray, List.set_cons_succ, List.set_cons_zero]
                refine WG.put rfl (v := .bool true) (fun w => by first | rfl | (go_simp; done) | (simp [go_sem]; done)) ?_
                simp only [Act.put, List.setIfInBounds_toArray, List.set_cons_succ, List.set_cons_zero]
                refine WG.nil ?_
                intro w7 B7
                have BQ7 := Below.then BQ6 B7
                clear HX6 HY6
                go_wp2
                go_roundw
                case rel => exact ⟨i + 1, by omega, by go_num, by rw [HI1.out]; have := own_belowW O5 BQ7; rw [← hml] at this; rw [← hml]; exact this, Below.then B05 BQ7⟩
                case measure => simp [intOf]; omega
              · have hxy : decide (Y = X) = false := by simpa using hxy0
                have HIns : Hid (setF (l.take (i + 1)) = out.take k ++ X :: out.drop k) := by show _ = _; rw [HF.out, HI0, if_neg (fun h => hxy0 h.2)]
                clear HG HG1 HIA hcN hcd HI0 hxy0
                go_wp2
                refine grow_allW (by kernel_rfl) (by kernel_rfl) ?_
                refine WG.put rfl (v := .int .i64 (k : Int)) (fun w => by first | rfl | (go_simp; done) | (simp [go_sem]; done)) ?_
                simp only [Act.put, List.setIfInBounds_toArray, List.set_cons_succ, List.set_cons_zero]
                refine WG.put rfl (v := .bool true) (fun w => by first | rfl | (go_simp; done) | (simp [go_sem, hkN]; done)) ?_
                simp only [Act.put, List.setIfInBounds_toArray, List.set_cons_succ, List.set_cons_zero]
                refine WG.put rfl (v := .bool true) (fun w => by first | rfl | (go_simp; done) | (simp [go_sem]; done)) ?_
                simp only [Act.put, List.setIfInBounds_toArray, List.set_cons_succ, List.set_cons_zero]
                refine WG.put rfl (v := .slice (some ⟨b2, o2, none⟩) m co) (fun w => by first | rfl | (go_simp; done) | (simp [go_sem]; done)) ?_
                simp only [Act.put, List.setIfInBounds_toArray, List.set_cons_succ, List.set_cons_zero]
                refine WG.put rfl (v := .int .i64 (k : Int)) (fun w => by first | rfl | (go_simp; done) | (simp [go_sem]; done)) ?_
                simp only [Act.put, List.setIfInBounds_toArray, List.set_cons_succ, List.set_cons_zero]
                refine WG.put rfl (v := .int .i64 (k1 : Int)) (fun w => by first | rfl | (go_simp; done) | (simp [go_sem, hwr]; done)) ?_
                simp only [Act.put, List.setIfInBounds_toArray, List.set_cons_succ, List.set_cons_zero]
                refine WG.put rfl (v := .pointer (some ⟨b2, o2 + k1 * 49, none⟩)) (fun w => by first | rfl | (go_simp; done) | (simp [go_sem, hiY]; done)) ?_
                simp only [Act.put, List.setIfInBounds_toArray, List.set_cons_succ, List.set_cons_zero]
                refine WG.elem (x := Y) rfl _ rfl rfl HBY HY ?_
                simp only [Act.put, List.setIfInBounds_toArray, List.set_cons_succ, List.set_cons_zero]
                refine WG.put rfl (v := .slice (some ⟨b, o, none⟩) l.length cap) (fun w => by first | rfl | (go_simp; done) | (simp [go_sem]; done)) ?_
                simp only [Act.put, List.setIfInBounds_toArray, List.set_cons_succ, List.set_cons_zero]
                refine WG.put rfl (v := .int .i64 (i : Int)) (fun w => by first | rfl | (go_simp; done) | (simp [go_sem]; done)) ?_
                simp only [Act.put, List.setIfInBounds_toArray, List.set_cons_succ, List.set_cons_zero]
                refine WG.put rfl (v := .pointer (some ⟨b, o + i * 49, none⟩)) (fun w => by first | rfl | (go_simp; done) | (simp [go_sem, hiX]; done)) ?_
                simp only [Act.put, List.setIfInBounds_toArray, List.set_cons_succ, List.set_cons_zero]
                refine WG.elem (x := X) rfl _ rfl rfl HB HX ?_
                simp only [Act.put, List.setIfInBounds_toArray, List.set_cons_succ, List.set_cons_zero]
                refine WG.call rfl (v := .int .i64 c) (fun w _ => hK w) (fun w => by first | rfl | (go_simp; done) | (simp [go_sem]; done)) ?_
                simp only [Act.put, List.setIfInBounds_toArray, List.set_cons_succ, List.set_cons_zero]
                refine WG.put rfl (v := .bool false) (fun w => by first | rfl | (go_simp; done) | (simp [go_sem, hgt]; done)) ?_
                simp only [Act.put, List.setIfInBounds_toArray, List.set_cons_succ, List.set_cons_zero]
                refine WG.put rfl (v := .bool false) (fun w => by first | rfl | (go_simp; done) | (simp [go_sem]; done)) ?_
                simp only [Act.put, List.setIfInBounds_toArray, List.set_cons_succ, List.set_cons_zero]
                refine WG.nil ?_
                intro w6 B6
                have HX6 := HXo w6 (Below.then B0Q B6)
                have HB6 : b < w6.heap.size := Nat.lt_of_lt_of_le HB B6.size
                have HBY6 : b2 < w6.heap.size := Nat.lt_of_lt_of_le HBY B6.size
                have HY6 : w6.rangeAt b2 (o2 + k1 * 49) (encF Y) := fun j v hv => (B6.cell (p := ⟨b2, o2 + k1 * 49 + j, none⟩) HBY).trans (HY j v hv)
                have BQ6 := Below.then BQ B6
                clear HX HY HB HBY hK
                go_wp2
                refine grow_allW (by kernel_rfl) (by kernel_rfl) ?_
                refine WG.put rfl (v := .int .i64 (k : Int)) (fun w => by first | rfl | (go_simp; done) | (simp [go_sem]; done)) ?_
                simp only [Act.put, List.setIfInBounds_toArray, List.set_cons_succ, List.set_cons_zero]
                refine WG.put rfl (v := .bool true) (fun w => by first | rfl | (go_simp; done) | (simp [go_sem, hkN]; done)) ?_
                simp only [Act.put, List.setIfInBounds_toArray, List.set_cons_succ, List.set_cons_zero]
                refine WG.put rfl (v := .bool true) (fun w => by first | rfl | (go_simp; done) | (simp [go_sem]; done)) ?_
                simp only [Act.put, List.setIfInBounds_toArray, List.set_cons_succ, List.set_cons_zero]
                refine WG.put rfl (v := .slice (some ⟨b2, o2, none⟩) m co) (fun w => by first | rfl | (go_simp; done) | (simp [go_sem]; done)) ?_
                simp only [Act.put, List.setIfInBounds_toArray, List.set_cons_succ, List.set_cons_zero]
                refine WG.put rfl (v := .int .i64 (k : Int)) (fun w => by first | rfl | (go_simp; done) | (simp [go_sem]; done)) ?_
                simp only [Act.put, List.setIfInBounds_toArray, List.set_cons_succ, List.set_cons_zero]
                refine WG.put rfl (v := .int .i64 (k1 : Int)) (fun w => by first | rfl | (go_simp; done) | (simp [go_sem, hwr]; done)) ?_
                simp only [Act.put, List.setIfInBounds_toArray, List.set_cons_succ, List.set_cons_zero]
                refine WG.put rfl (v := .pointer (some ⟨b2, o2 + k1 * 49, none⟩)) (fun w => by first | rfl | (go_simp; done) | (simp [go_sem, hiY]; done)) ?_
                simp only [Act.put, List.setIfInBounds_toArray, List.set_cons_succ, List.set_cons_zero]
                refine WG.elem (x := Y) rfl _ rfl rfl HBY6 HY6 ?_
                simp only [Act.put, List.setIfInBounds_toArray, List.set_cons_succ, List.set_cons_zero]
                refine WG.put rfl (v := .slice (some ⟨b, o, none⟩) l.length cap) (fun w => by first | rfl | (go_simp; done) | (simp [go_sem]; done)) ?_
                simp only [Act.put, List.setIfInBounds_toArray, List.set_cons_succ, List.set_cons_zero]
                refine WG.put rfl (v := .int .i64 (i : Int)) (fun w => by first | rfl | (go_simp; done) | (simp [go_sem]; done)) ?_
                simp only [Act.put, List.setIfInBounds_toArray, List.set_cons_succ, List.set_cons_zero]
                refine WG.put rfl (v := .pointer (some ⟨b, o + i * 49, none⟩)) (fun w => by first | rfl | (go_simp; done) | (simp [go_sem, hiX]; done)) ?_
                simp only [Act.put, List.setIfInBounds_toArray, List.set_cons_succ, List.set_cons_zero]
                refine WG.elem (x := X) rfl _ rfl rfl HB6 HX6 ?_
                simp only [Act.put, List.setIfInBounds_toArray, List.set_cons_succ, List.set_cons_zero]
                refine WG.eqF rfl _ _ rfl rfl rfl false hxy ?_
                simp only [Act.put, List.setIfInBounds_toArray, List.set_cons_succ, List.set_cons_zero]
                refine WG.put rfl (v := .bool false) (fun w => by first | rfl | (go_simp; done) | (simp [go_sem]; done)) ?_
                simp only [Act.put, List.setIfInBounds_toArray, List.set_cons_succ, List.set_cons_zero]
                refine WG.nil ?_
                intro w7 B7
                have BQ7 := Below.then BQ6 B7
                have O7 : OwnL w7 w.heap.size (.slice (some ⟨b2, o2, none⟩) m co) out := own_belowW O5 BQ7
                have B07 := Below.then B05 BQ7
                clear HX6 HY6 hwr hiY hxy hgt
                have tb : True := trivial
                go_wp2_with (first
                  | (refine wpList_build0F rfl rfl ?_)
                  | (clear tb; refine wpList_buildF rfl _ rfl FS.zero rfl ?_; intro w8 b8 F8 I8; have O8 := own_belowW O7 (fresh_b F8); have B8 := Below.trans B07 ((fresh_b F8).mono (by have := B07.size; omega)))
                  | (at_builtin; refine wpList_appF rfl _ _ rfl w.heap.size _ out rfl O8 b8 FS.zero rfl I8 (by omega) (by have := B8.size; omega) ?_; intro v9 w9 O9 G9; have B9 : Below w.heap.size w w9 := grown_below B8 O8 (by have := B8.size; omega) G9; obtain ⟨g, cap6, cs6, hv9, hg, I9, R9, hc6, hm6, hs6⟩ := own_open O9 (n := m + 1) (by rw [List.length_append, hml]; rfl) (by omega); subst hv9))
                clear O8 O7 I8 F8 G9
                have HR0 := R9.shift (m := out.drop k) (k + 1) (by rw [List.length_append, List.length_drop, hml]; simp; omega)
                have HSrc : Seg w9 (some ⟨g, k * 49, none⟩) (flatF (out.drop k)) := seg_row I9 R9 k (out.drop k) (by rw [List.drop_append_of_le_length (by omega), List.take_left])
                have hdl : (out.drop k).length = m - k := by rw [List.length_drop, hml]
                have HSet : Hid (((out ++ [FS.zero]).take (k + 1) ++ out.drop k).set k X = setF (l.take (i + 1))) := by
                  show _ = _
                  rw [set_mid _ _ _ (by rw [List.length_append, hml]; simp; omega), HIns.out, List.take_append_of_le_length (by omega)]
                have hLl : ((out ++ [FS.zero]).take (k + 1) ++ out.drop k).length = m + 1 := by rw [List.length_append, List.length_take, List.length_append, hdl, hml]; simp; omega
                have HX9 : w9.rangeAt b (o + i * 49) (encF X) := HXo w9 B9
                have hk1I : IntKind.i64.wrap ((k : Int) + 1) = (k : Int) + 1 := wrap_len (n := k + 1) (by omega)
                have hfl9 : (k + 1) * 49 + (flatF (out.drop k)).length ≤ cs6.length := by rw [flatF_len, hdl, hs6, ← Nat.add_mul]; exact Nat.mul_le_mul_right _ (by omega)
                have hm49 : (flatF (out.drop k)).length = Nat.min (m + 1 - k) (m + 1 - (k + 1)) * 49 := by rw [flatF_len, hdl]; congr 1; show m - k = min (m + 1 - k) (m + 1 - (k + 1)); omega
                have hk6 : k < cap6 := by omega
                have hsf : sfA g k cap6 = ⟨g, k * 49, none⟩ := by unfold sfA; rw [if_neg (by omega)]
                have had : flatF (out.drop k) = [] ∨ sfA g (k + 1) cap6 = ⟨g, (k + 1) * 49, none⟩ := by
                  by_cases hkc : cap6 = k + 1
                  · left
                    rw [List.drop_eq_nil_of_le (by omega)]; rfl
                  · right; unfold sfA; rw [if_neg hkc]
                have hb9 : k * 49 + 49 ≤ cs6.length := by rw [hs6]; have : (k + 1) * 49 ≤ cap6 * 49 := Nat.mul_le_mul_right _ (by omega); omega
                refine grow_tailW 7 (by kernel_rfl) (by kernel_rfl) ?_
                simp only [List.take_succ_cons, List.take_zero, List.drop_succ_cons, List.drop_zero]
                refine WG.put rfl (v := .slice (some ⟨g, 0, none⟩) (m + 1) cap6) (fun w => by first | rfl | (go_simp; done) | (simp [go_sem]; done)) ?_
                simp only [Act.put, List.setIfInBounds_toArray, List.set_cons_succ, List.set_cons_zero]
                refine WG.put rfl (v := .int .i64 (k : Int)) (fun w => by first | rfl | (go_simp; done) | (simp [go_sem]; done)) ?_
                simp only [Act.put, List.setIfInBounds_toArray, List.set_cons_succ, List.set_cons_zero]
                refine WG.put rfl (v := .int .i64 ((k : Int) + 1)) (fun w => by first | rfl | (go_simp; done) | (simp [go_sem, hk1I]; done)) ?_
                simp only [Act.put, List.setIfInBounds_toArray, List.set_cons_succ, List.set_cons_zero]
                refine WG.put rfl (v := .slice (some (sfA g (k + 1) cap6)) (m + 1 - (k + 1)) (cap6 - (k + 1))) (fun w => exec_sfrom (i := k + 1) rfl rfl rfl (by omega) hc6 hm6) ?_
                simp only [Act.put, List.setIfInBounds_toArray, List.set_cons_succ, List.set_cons_zero]
                refine WG.put rfl (v := .slice (some ⟨g, 0, none⟩) (m + 1) cap6) (fun w => by first | rfl | (go_simp; done) | (simp [go_sem]; done)) ?_
                simp only [Act.put, List.setIfInBounds_toArray, List.set_cons_succ, List.set_cons_zero]
                refine WG.put rfl (v := .int .i64 (k : Int)) (fun w => by first | rfl | (go_simp; done) | (simp [go_sem]; done)) ?_
                simp only [Act.put, List.setIfInBounds_toArray, List.set_cons_succ, List.set_cons_zero]
                refine WG.put rfl (v := .slice (some (sfA g k cap6)) (m + 1 - k) (cap6 - k)) (fun w => exec_sfrom rfl rfl rfl (by omega) hc6 hm6) ?_
                simp only [Act.put, List.setIfInBounds_toArray, List.set_cons_succ, List.set_cons_zero]
                refine WG.nil ?_
                intro wA BA
                have IA := I9.grown BA
                have HSA := HSrc.below BA
                rw [hsf]
                have B10 := Below.trans B9 (BA.mono (by have := B9.size; omega))
                refine wpList_copyF rfl _ _ rfl _ _ _ _ _ _ rfl rfl IA HSA hm49 hfl9 (flatF_one _) had ?_
                intro wC xC UC IC
                have BC : Below w.heap.size w wC := UC.trans B10 hg
                have HXC : wC.rangeAt b (o + i * 49) (encF X) := HXo wC BC
                have hbC : k * 49 + 49 ≤ (putL cs6 ((k + 1) * 49) (flatF (out.drop k))).length := by rw [putL_len']; exact hb9
                have hiK : (k : Int) < ((m + 1 : Nat) : Int) := by omega
                have hiK2 : (k : Int) < (m : Int) + 1 := by omega
                have hkm1 : k < m + 1 := by omega
                have hcl : (putL (putL cs6 ((k + 1) * 49) (flatF (out.drop k))) (k * 49) (encF X)).length = cap6 * 49 := by rw [putL_len', putL_len']; exact hs6
                have HRF := HR0.set k (by rw [hLl]; omega) X
                clear HSrc HSA hm49 hfl9 had hsf HX9 IA I9 R9 hk1I
                generalize putL cs6 ((k + 1) * 49) (flatF (out.drop k)) = csC at *
                go_wp2_with (first
                  | (refine wpList_loadE (x := X) rfl _ rfl rfl HXC ?_)
                  | (refine wpList_storeE (x := X) rfl _ _ rfl rfl rfl IC hbC ?_; intro wD UD ID))
                have BD : Below w.heap.size w wD := UD.trans BC hg
                have OD := own_of_row (B := w.heap.size) (cap := cap6) hg ID HRF (by rw [List.length_set, hLl]; exact hc6) hm6 hcl
                rw [List.length_set, hLl, HSet.out] at OD
                go_roundw
                case rel => exact ⟨i + 1, by omega, by go_num, OD, BD⟩
                case measure => simp [intOf]; omega
          · have hkN : ¬ (0 < k) := hk0
            have e0 : k = 0 := by omega
            have HIns : Hid (setF (l.take (i + 1)) = out.take k ++ X :: out.drop k) := by
              show _ = _
              rw [HF.out, insF_at X out k HRis.out (by omega) HG.out (fun h => absurd h hk0), if_neg (fun h => hk0 h.1)]
            clear HG e0
            go_wp2
            refine grow_allW (by kernel_rfl) (by kernel_rfl) ?_
            refine WG.put rfl (v := .int .i64 (k : Int)) (fun w => by first | rfl | (go_simp; done) | (simp [go_sem]; done)) ?_
            simp only [Act.put, List.setIfInBounds_toArray, List.set_cons_succ, List.set_cons_zero]
            refine WG.put rfl (v := .bool false) (fun w => by first | rfl | (go_simp; done) | (simp [go_sem, hkN]; done)) ?_
            simp only [Act.put, List.setIfInBounds_toArray, List.set_cons_succ, List.set_cons_zero]
            refine WG.put rfl (v := .bool false) (fun w => by first | rfl | (go_simp; done) | (simp [go_sem]; done)) ?_
            simp only [Act.put, List.setIfInBounds_toArray, List.set_cons_succ, List.set_cons_zero]
            refine WG.skip rfl ?_
            simp only [Act.put, List.setIfInBounds_toArray, List.set_cons_succ, List.set_cons_zero]
            refine WG.skip rfl ?_
            simp only [Act.put, List.setIfInBounds_toArray, List.set_cons_succ, List.set_cons_zero]
            refine WG.skip rfl ?_
            simp only [Act.put, List.setIfInBounds_toArray, List.set_cons_succ, List.set_cons_zero]
            refine WG.skip rfl ?_
            simp only [Act.put, List.setIfInBounds_toArray, List.set_cons_succ, List.set_cons_zero]
            refine WG.skip rfl ?_
            simp only [Act.put, List.setIfInBounds_toArray, List.set_cons_succ, List.set_cons_zero]
            refine WG.skip rfl ?_
            simp only [Act.put, List.setIfInBounds_toArray, List.set_cons_succ, List.set_cons_zero]
            refine WG.skip rfl ?_
            simp only [Act.put, List.setIfInBounds_toArray, List.set_cons_succ, List.set_cons_zero]
            refine WG.skip rfl ?_
            simp only [Act.put, List.setIfInBounds_toArray, List.set_cons_succ, List.set_cons_zero]
            refine WG.skip rfl ?_
            simp only [Act.put, List.setIfInBounds_toArray, List.set_cons_succ, List.set_cons_zero]
            refine WG.skip rfl ?_
            simp only [Act.put, List.setIfInBounds_toArray, List.set_cons_succ, List.set_cons_zero]
            refine WG.skip rfl ?_
            simp only [Act.put, List.setIfInBounds_toArray, List.set_cons_succ, List.set_cons_zero]
            refine WG.put rfl (v := .bool false) (fun w => by first | rfl | (go_simp; done) | (simp [go_sem]; done)) ?_
            simp only [Act.put, List.setIfInBounds_toArray, List.set_cons_succ, List.set_cons_zero]
            refine WG.nil ?_
            intro w6 B6
            have BQ6 := Below.then BQ B6
            clear HX HB
            go_wp2
            refine grow_allW (by kernel_rfl) (by kernel_rfl) ?_
            refine WG.put rfl (v := .int .i64 (k : Int)) (fun w => by first | rfl | (go_simp; done) | (simp [go_sem]; done)) ?_
            simp only [Act.put, List.setIfInBounds_toArray, List.set_cons_succ, List.set_cons_zero]
            refine WG.put rfl (v := .bool false) (fun w => by first | rfl | (go_simp; done) | (simp [go_sem, hkN]; done)) ?_
            simp only [Act.put, List.setIfInBounds_toArray, List.set_cons_succ, List.set_cons_zero]
            refine WG.put rfl (v := .bool false) (fun w => by first | rfl | (go_simp; done) | (simp [go_sem]; done)) ?_
            simp only [Act.put, List.setIfInBounds_toArray, List.set_cons_succ, List.set_cons_zero]
            refine WG.skip rfl ?_
            simp only [Act.put, List.setIfInBounds_toArray, List.set_cons_succ, List.set_cons_zero]
            refine WG.skip rfl ?_
            simp only [Act.put, List.setIfInBounds_toArray, List.set_cons_succ, List.set_cons_zero]
            refine WG.skip rfl ?_
            simp only [Act.put, List.setIfInBounds_toArray, List.set_cons_succ, List.set_cons_zero]
            refine WG.skip rfl ?_
            simp only [Act.put, List.setIfInBounds_toArray, List.set_cons_succ, List.set_cons_zero]
            refine WG.skip rfl ?_
            simp only [Act.put, List.setIfInBounds_toArray, List.set_cons_succ, List.set_cons_zero]
            refine WG.skip rfl ?_
            simp only [Act.put, List.setIfInBounds_toArray, List.set_cons_succ, List.set_cons_zero]
            refine WG.skip rfl ?_
            simp only [Act.put, List.setIfInBounds_toArray, List.set_cons_succ, List.set_cons_zero]
            refine WG.skip rfl ?_
            simp only [Act.put, List.setIfInBounds_toArray, List.set_cons_succ, List.set_cons_zero]
            refine WG.skip rfl ?_
            simp only [Act.put, List.setIfInBounds_toArray, List.set_cons_succ, List.set_cons_zero]
            refine WG.skip rfl ?_
            simp only [Act.put, List.setIfInBounds_toArray, List.set_cons_succ, List.set_cons_zero]
            refine WG.put rfl (v := .bool false) (fun w => by first | rfl | (go_simp; done) | (simp [go_sem]; done)) ?_
            simp only [Act.put, List.setIfInBounds_toArray, List.set_cons_succ, List.set_cons_zero]
            refine WG.nil ?_
            intro w7 B7
            have BQ7 := Below.then BQ6 B7
            have O7 : OwnL w7 w.heap.size (.slice ao m co) out := own_belowW O5 BQ7
            have B07 := Below.then B05 BQ7
            have tb : True := trivial
            go_wp2_with (first
              | (refine wpList_build0F rfl rfl ?_)
              | (clear tb; refine wpList_buildF rfl _ rfl FS.zero rfl ?_; intro w8 b8 F8 I8; have O8 := own_belowW O7 (fresh_b F8); have B8 := Below.trans B07 ((fresh_b F8).mono (by have := B07.size; omega)))
              | (at_builtin; refine wpList_appF rfl _ _ rfl w.heap.size _ out rfl O8 b8 FS.zero rfl I8 (by omega) (by have := B8.size; omega) ?_; intro v9 w9 O9 G9; have B9 : Below w.heap.size w w9 := grown_below B8 O8 (by have := B8.size; omega) G9; obtain ⟨g, cap6, cs6, hv9, hg, I9, R9, hc6, hm6, hs6⟩ := own_open O9 (n := m + 1) (by rw [List.length_append, hml]; rfl) (by omega); subst hv9))
            clear O8 O7 I8 F8 G9
            have HR0 := R9.shift (m := out.drop k) (k + 1) (by rw [List.length_append, List.length_drop, hml]; simp; omega)
            have HSrc : Seg w9 (some ⟨g, k * 49, none⟩) (flatF (out.drop k)) := seg_row I9 R9 k (out.drop k) (by rw [List.drop_append_of_le_length (by omega), List.take_left])
            have hdl : (out.drop k).length = m - k := by rw [List.length_drop, hml]
            have HSet : Hid (((out ++ [FS.zero]).take (k + 1) ++ out.drop k).set k X = setF (l.take (i + 1))) := by
              show _ = _
              rw [set_mid _ _ _ (by rw [List.length_append, hml]; simp; omega), HIns.out, List.take_append_of_le_length (by omega)]
            have hLl : ((out ++ [FS.zero]).take (k + 1) ++ out.drop k).length = m + 1 := by rw [List.length_append, List.length_take, List.length_append, hdl, hml]; simp; omega
            have HX9 : w9.rangeAt b (o + i * 49) (encF X) := HXo w9 B9
            have hk1I : IntKind.i64.wrap ((k : Int) + 1) = (k : Int) + 1 := wrap_len (n := k + 1) (by omega)
            have hfl9 : (k + 1) * 49 + (flatF (out.drop k)).length ≤ cs6.length := by rw [flatF_len, hdl, hs6, ← Nat.add_mul]; exact Nat.mul_le_mul_right _ (by omega)
            have hm49 : (flatF (out.drop k)).length = Nat.min (m + 1 - k) (m + 1 - (k + 1)) * 49 := by rw [flatF_len, hdl]; congr 1; show m - k = min (m + 1 - k) (m + 1 - (k + 1)); omega
            have hk6 : k < cap6 := by omega
            have hsf : sfA g k cap6 = ⟨g, k * 49, none⟩ := by unfold sfA; rw [if_neg (by omega)]
            have had : flatF (out.drop k) = [] ∨ sfA g (k + 1) cap6 = ⟨g, (k + 1) * 49, none⟩ := by
              by_cases hkc : cap6 = k + 1
              · left
                rw [List.drop_eq_nil_of_le (by omega)]; rfl
              · right; unfold sfA; rw [if_neg hkc]
            have hb9 : k * 49 + 49 ≤ cs6.length := by rw [hs6]; have : (k + 1) * 49 ≤ cap6 * 49 := Nat.mul_le_mul_right _ (by omega); omega
            refine grow_tailW 7 (by kernel_rfl) (by kernel_rfl) ?_
            simp only [List.take_succ_cons, List.take_zero, List.drop_succ_cons, List.drop_zero]
            refine WG.put rfl (v := .slice (some ⟨g, 0, none⟩) (m + 1) cap6) (fun w => by first | rfl | (go_simp; done) | (simp [go_sem]; done)) ?_
            simp only [Act.put, List.setIfInBounds_toArray, List.set_cons_succ, List.set_cons_zero]
            refine WG.put rfl (v := .int .i64 (k : Int)) (fun w => by first | rfl | (go_simp; done) | (simp [go_sem]; done)) ?_
            simp only [Act.put, List.setIfInBounds_toArray, List.set_cons_succ, List.set_cons_zero]
            refine WG.put rfl (v := .int .i64 ((k : Int) + 1)) (fun w => by first | rfl | (go_simp; done) | (simp [go_sem, hk1I]; done)) ?_
            simp only [Act.put, List.setIfInBounds_toArray, List.set_cons_succ, List.set_cons_zero]
            refine WG.put rfl (v := .slice (some (sfA g (k + 1) cap6)) (m + 1 - (k + 1)) (cap6 - (k + 1))) (fun w => exec_sfrom (i := k + 1) rfl rfl rfl (by omega) hc6 hm6) ?_
            simp only [Act.put, List.setIfInBounds_toArray, List.set_cons_succ, List.set_cons_zero]
            refine WG.put rfl (v := .slice (some ⟨g, 0, none⟩) (m + 1) cap6) (fun w => by first | rfl | (go_simp; done) | (simp [go_sem]; done)) ?_
            simp only [Act.put, List.setIfInBounds_toArray, List.set_cons_succ, List.set_cons_zero]
            refine WG.put rfl (v := .int .i64 (k : Int)) (fun w => by first | rfl | (go_simp; done) | (simp [go_sem]; done)) ?_
            simp only [Act.put, List.setIfInBounds_toArray, List.set_cons_succ, List.set_cons_zero]
            refine WG.put rfl (v := .slice (some (sfA g k cap6)) (m + 1 - k) (cap6 - k)) (fun w => exec_sfrom rfl rfl rfl (by omega) hc6 hm6) ?_
            simp only [Act.put, List.setIfInBounds_toArray, List.set_cons_succ, List.set_cons_zero]
            refine WG.nil ?_
            intro wA BA
            have IA := I9.grown BA
            have HSA := HSrc.below BA
            rw [hsf]
            have B10 := Below.trans B9 (BA.mono (by have := B9.size; omega))
            refine wpList_copyF rfl _ _ rfl _ _ _ _ _ _ rfl rfl IA HSA hm49 hfl9 (flatF_one _) had ?_
            intro wC xC UC IC
            have BC : Below w.heap.size w wC := UC.trans B10 hg
            have HXC : wC.rangeAt b (o + i * 49) (encF X) := HXo wC BC
            have hbC : k * 49 + 49 ≤ (putL cs6 ((k + 1) * 49) (flatF (out.drop k))).length := by rw [putL_len']; exact hb9
            have hiK : (k : Int) < ((m + 1 : Nat) : Int) := by omega
            have hiK2 : (k : Int) < (m : Int) + 1 := by omega
            have hkm1 : k < m + 1 := by omega
            have hcl : (putL (putL cs6 ((k + 1) * 49) (flatF (out.drop k))) (k * 49) (encF X)).length = cap6 * 49 := by rw [putL_len', putL_len']; exact hs6
            have HRF := HR0.set k (by rw [hLl]; omega) X
            clear HSrc HSA hm49 hfl9 had hsf HX9 IA I9 R9 hk1I
            generalize putL cs6 ((k + 1) * 49) (flatF (out.drop k)) = csC at *
            go_wp2_with (first
              | (refine wpList_loadE (x := X) rfl _ rfl rfl HXC ?_)
              | (refine wpList_storeE (x := X) rfl _ _ rfl rfl rfl IC hbC ?_; intro wD UD ID))
            have BD : Below w.heap.size w wD := UD.trans BC hg
            have OD := own_of_row (B := w.heap.size) (cap := cap6) hg ID HRF (by rw [List.length_set, hLl]; exact hc6) hm6 hcl
            rw [List.length_set, hLl, HSet.out] at OD
            go_roundw
            case rel => exact ⟨i + 1, by omega, by go_num, OD, BD⟩
            case measure => simp [intOf]; omega
    · have e : i = l.length := by omega
      subst e
      have hO := HO.out
      rw [List.take_length] at hO
      obtain ⟨a3, c3, hv3⟩ := own_form hO
      subst hv3
      clear HO hS hlt
      go_wp2
      go_ret
      exact ⟨_, rfl, hO, BR⟩
end Go.Proofs.Ytbhgchhoeokjhaa
