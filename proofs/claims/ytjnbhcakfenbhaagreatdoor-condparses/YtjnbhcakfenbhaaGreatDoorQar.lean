/- Several texts in one: V3, V4. -/
import Derived.Test.YtjnbhcakfenbhaaGreatDoorQaq
/- thread: what a number's digits say as a thread. -/
namespace Go.Proofs.YtjnbhcakfenbhaaGreatDoor
open Go.RowKit Go.Shelf M
set_option linter.unusedSimpArgs false
set_option linter.unusedVariables false

def thrV (g : GT) : Option Nat := if g.kind = 2 then thrF g.text.data.toList else none
def thrR : Option Nat → Value
  | some n => .tuple #[.int .i64 (n : Int), .bool true]
  | none => .tuple #[.int .i64 0, .bool false]
theorem wpList_convB {w : World} {ops : Array Oper} {rest : List Oper} {op : Oper} {a : Act} {Q : Exit → Act → World → Prop} (hgd : op.guard = none) (x : Operand) (ho : op.op = .convert 9 70 x) (s : ByteArray) (hx : a.eval x = .string s)
    (h : ∀ W b cap, Below w.heap.size w W → w.heap.size ≤ b → (∀ j (hj : j < s.size), W.cell? ⟨b, j, none⟩ = some (.int .u8 (s[j].toNat : Int))) → wpList Tryz.prog ops Q rest (a.put op.dst (.slice (some ⟨b, 0, none⟩) s.size cap)) W) : wpList Tryz.prog ops Q (op :: rest) a w := by
  refine wpList_plain hgd fun K hK => ?_
  unfold Oper.wp execOp
  have hr := run_bytes_of_string (P := Tryz.prog) w 9 70 5 s Tryz.underlying9 Tryz.underlying70 Tryz.underlying5
  simp only [ho, hx, Sem.run_bind, hr, Result.andThen_ok, Sem.run_pure]
  refine hK _ _ (h _ w.heap.size _ ?_ (Nat.le_refl _) ?_)
  · exact ((below_drew (Below.refl _ w)).alloc (Nat.le_refl _) _)
  · intro j hj
    have hb := heap_alloc_last w.drew (.cells (bytesRow s (grownCap w s.size 0 5)) 5 ((bytesRow s (grownCap w s.size 0 5)).size, (bytesRow s (grownCap w s.size 0 5)).size + 1))
    have e : w.drew.heap.size = w.heap.size := rfl
    rw [e] at hb
    rw [cell_of_row _ w.heap.size j _ 5 _ hb]
    unfold bytesRow
    rw [Array.getElem?_append_left (by simpa using hj), Array.getElem?_map, Array.getElem?_eq_getElem (by simpa using hj)]
    rfl
theorem digs_split : ∀ (l : List UInt8) (n : Nat), digs l n = match l with | [] => some n | c :: r => if 48 ≤ c.toNat ∧ c.toNat ≤ 57 then digs r (10 * n + (c.toNat - 48)) else none := fun l n => by cases l <;> rfl
theorem drop_cons_at (s : ByteArray) (j : Nat) (h : j < s.size) : s.data.toList.drop j = s[j] :: s.data.toList.drop (j + 1) := by
  rw [List.drop_eq_getElem_cons (by simpa using h)]; rfl
theorem ret_thr {r : Option Nat} {v : Value} (h : thrR r = v) : Ending.returned v = .returned (thrR r) := by rw [h]
set_option maxRecDepth 100000 in
set_option maxHeartbeats 2000000 in
theorem thread_any (g : GT) (hgs : g.text.size ≤ maxLen) (w : World) : Calls Tryz.prog 154 #[.agg (gtL g).toArray] w fun en w' => en = .returned (thrR (thrV g)) ∧ Below w.heap.size w w' := by
  obtain ⟨kd, tx, vl, ln, cl, pt, fn⟩ := g
  dsimp only at hgs
  unfold maxLen at hgs
  have hsz := sizeL tx
  by_cases hk : kd = 2
  · by_cases hl : 1 ≤ tx.size ∧ tx.size ≤ 4
    · have hk' : (kd != 2) = false := (by simp [hk])
      have hl1 : ¬ ((tx.size : Int) < 1) := by omega
      have hl2 : ¬ ((4 : Int) < tx.size) := by omega
      have hl4 := hl.2
      have HV : Hid (thrV ⟨kd, tx, vl, ln, cl, pt, fn⟩ = digs tx.data.toList 0) := (by
        show _ = _
        unfold thrV thrF
        rw [if_pos hk, if_neg (by rw [← hsz]; omega)])
      generalize thrV ⟨kd, tx, vl, ln, cl, pt, fn⟩ = R at *
      clear hk hsz hl
      go_enter Tryz.func154, Tryz.ntmps154
      go_wp2_with (first
        | (refine wpList_boxS rfl 49 _ rfl (gtL ⟨kd, tx, vl, ln, cl, pt, fn⟩) rfl ?_; intro W1 b1 F1 N1; have B1 := F1.trans (Below.refl _ w) (Nat.le_refl _); have c0 : W1.cell? ⟨b1, 0, none⟩ = some (.int .i64 kd) := N1.cell 0; have c1 : W1.cell? ⟨b1, 1, none⟩ = some (.string tx) := N1.cell 1; clear F1)
        | (refine wpList_convB rfl _ rfl tx rfl ?_; intro W2 b2 cap2 B2x h2 hc2; have B2 := Below.then B1 B2x; clear B2x c0 c1 N1 B1 h2))
      go_loop [4, 6, 26] (fun n _ i => ∃ j m : Nat, j ≤ tx.size ∧ m < 10 ^ j ∧ i = .int .i64 (j : Int) ∧ n = .int .i64 (m : Int) ∧ Hid (digs tx.data.toList 0 = digs (tx.data.toList.drop j) m)) (fun _ _ i => tx.size - (intOf i).toNat)
      case atStart => exact ⟨0, 0, Nat.zero_le _, by decide, rfl, rfl, rfl⟩
      case round =>
        obtain ⟨j, m, hj, hm, rfl, rfl, HD⟩ := hrel
        have hm2 : m < 10000 := Nat.lt_of_lt_of_le hm (by
          have : j ≤ 4 := by omega
          have := Nat.pow_le_pow_right (show 0 < 10 by decide) this
          simpa using this)
        by_cases hlt : j < tx.size
        · have hi : (j : Int) < tx.size := by omega
          have hcj := hc2 j hlt
          have hd := digs_split (tx.data.toList.drop j) m
          rw [drop_cons_at tx j hlt] at hd
          dsimp only at hd
          have hd2 := HD.out
          rw [drop_cons_at tx j hlt] at hd2
          rw [hd] at hd2
          by_cases hdg : 48 ≤ tx[j].toNat ∧ tx[j].toNat ≤ 57
          · rw [if_pos hdg] at hd2
            have HD2 : Hid (digs tx.data.toList 0 = digs (tx.data.toList.drop (j + 1)) (10 * m + (tx[j].toNat - 48))) := hd2
            have q1 : ¬ ((tx[j].toNat : Int) < 48) := by omega
            have q2 : ¬ ((57 : Int) < tx[j].toNat) := by omega
            have hm3 : 10 * m + (tx[j].toNat - 48) < 10 ^ (j + 1) := (by rw [Nat.pow_succ]; omega)
            have hz : (10 : Int) * m + ((tx[j].toNat : Int) - 48) = ((10 * m + (tx[j].toNat - 48) : Nat) : Int) := (by omega)
            have HZ : Hid ((10 : Int) * m + ((tx[j].toNat : Int) - 48) = ((10 * m + (tx[j].toNat - 48) : Nat) : Int)) := hz
            clear hd hd2 HD hz hm
            go_wp2_with fail
            refine ⟨⟨j + 1, 10 * m + (tx[j].toNat - 48), by omega, hm3, by go_num, by rw [HZ.out], HD2⟩, ?_⟩
            simp [intOf]; omega
          · rw [if_neg hdg] at hd2
            have HN : Hid (R = none) := (by show _ = _; rw [HV.out, hd2])
            clear hd hd2 HD HV
            have hq : ((tx[j].toNat : Int) < 48) ∨ (¬ ((tx[j].toNat : Int) < 48) ∧ (57 : Int) < tx[j].toNat) := by omega
            rcases hq with q1 | ⟨q1, q2⟩
            all_goals go_wp2_with fail
            all_goals go_ret2
            all_goals exact ⟨ret_thr (by rw [HN.out]; rfl), B2⟩
        · have hje : j = tx.size := by omega
          subst hje
          have HN : Hid (R = some m) := (by
            show _ = _
            rw [HV.out, HD.out, List.drop_eq_nil_of_le (by rw [← sizeL]; exact Nat.le_refl _)]
            rfl)
          clear HD HV hc2
          go_wp2_with fail
          go_ret2
          exact ⟨ret_thr (by rw [HN.out]; rfl), B2⟩
    · have hk' : (kd != 2) = false := (by simp [hk])
      have HN : Hid (thrV ⟨kd, tx, vl, ln, cl, pt, fn⟩ = none) := (by
        show _ = _
        unfold thrV thrF
        rw [if_pos hk, if_pos (by rw [← hsz]; omega)])
      generalize thrV ⟨kd, tx, vl, ln, cl, pt, fn⟩ = R at *
      clear hk hsz
      have hq : ((tx.size : Int) < 1) ∨ (¬ ((tx.size : Int) < 1) ∧ (4 : Int) < tx.size) := by omega
      clear hl
      rcases hq with q1 | ⟨q1, q2⟩
      all_goals
        go_enter Tryz.func154, Tryz.ntmps154
        go_wp2_with (first
          | (refine wpList_boxS rfl 49 _ rfl (gtL ⟨kd, tx, vl, ln, cl, pt, fn⟩) rfl ?_; intro W1 b1 F1 N1; have B1 := F1.trans (Below.refl _ w) (Nat.le_refl _); have c0 : W1.cell? ⟨b1, 0, none⟩ = some (.int .i64 kd) := N1.cell 0; have c1 : W1.cell? ⟨b1, 1, none⟩ = some (.string tx) := N1.cell 1; clear F1))
        go_ret2
        exact ⟨ret_thr (by rw [HN.out]; rfl), B1⟩
  · have hk' : (kd != 2) = true := (by simpa using hk)
    have HN : Hid (thrV ⟨kd, tx, vl, ln, cl, pt, fn⟩ = none) := if_neg hk
    generalize thrV ⟨kd, tx, vl, ln, cl, pt, fn⟩ = R at *
    clear hk
    go_enter Tryz.func154, Tryz.ntmps154
    go_wp2_with (first
      | (refine wpList_boxS rfl 49 _ rfl (gtL ⟨kd, tx, vl, ln, cl, pt, fn⟩) rfl ?_; intro W1 b1 F1 N1; have B1 := F1.trans (Below.refl _ w) (Nat.le_refl _); have c0 : W1.cell? ⟨b1, 0, none⟩ = some (.int .i64 kd) := N1.cell 0; have c1 : W1.cell? ⟨b1, 1, none⟩ = some (.string tx) := N1.cell 1; clear F1))
    go_ret2
    exact ⟨ret_thr (by rw [HN.out]; rfl), B1⟩
end Go.Proofs.YtjnbhcakfenbhaaGreatDoor
/- ref, seesTrue. -/
namespace Go.Proofs.YtjnbhcakfenbhaaGreatDoor
open Go.RowKit Go.Shelf M
set_option linter.unusedSimpArgs false
set_option linter.unusedVariables false

def rfL (t : Int) (n : ByteArray) : List Value := [.int .i64 t, .string n]
theorem rf_one (t : Int) (n : ByteArray) : ∀ v ∈ rfL t n, v.oneCell' = true := by simp [rfL, Value.oneCell']
theorem infoRf : (Tryz.prog.info? 60).map (·.size) = some 2 := by kernel_rfl
theorem thr_eq {gs : List GT} {σ : CS} : thrQ gs σ = thrV (gAt gs σ.k) := by
  unfold thrQ thrV
  by_cases h : σ.k < gs.length
  · simp [h]
  · rw [gAt_none (by omega)]
    simp [noGT, h]
theorem few_at {gs : List GT} (hn : Few gs) (k : Nat) : (gAt gs k).text.size ≤ maxLen := by
  by_cases h : k < gs.length
  · refine hn.2 _ ?_
    unfold gAt
    rw [List.getElem?_eq_getElem h]
    exact List.getElem_mem h
  · rw [gAt_none (by omega)]
    decide
section
variable {gs : List GT} {a : Option Addr} {cap base br : Nat}
theorem cnext_any (hn : Few gs) (σ : CS) (ok : Ok gs σ) (on : Nat) (ho : on ≤ 4) (w : World) (hP : PC gs a cap base br w σ) :
    Calls Tryz.prog 109 #[.pointer (some ⟨br, 0, none⟩), .int .i64 (on : Int)] w fun e w' => e = .returned (.agg (gtL (gAt gs (σ.k + on))).toArray) ∧ Below w.heap.size w w' := by
  obtain ⟨v, d, h1, h2, h3, h4⟩ := hP.ex
  exact next_any a cap σ.k d on v gs hn.1 ok.k ho br w hP.toks h3
theorem csees_any (hn : Few gs) (σ : CS) (ok : Ok gs σ) (x : ByteArray) (w : World) (hP : PC gs a cap base br w σ) :
    Calls Tryz.prog 85 #[.pointer (some ⟨br, 0, none⟩), .string x] w fun e w' => e = .returned (.bool (isT gs σ 0 4 x.data.toList)) ∧ Below w.heap.size w w' := by
  obtain ⟨v, d, h1, h2, h3, h4⟩ := hP.ex
  rw [isT_sees ok.F]
  exact sees_any a cap σ.k d v gs hn.1 ok.k x br w hP.toks h3
theorem PC.updT {W W' : World} {σ : CS} {c t : Nat} {cs : List Value} (h : PC gs a cap base br W σ) (U : Upd W W' c) (hc : IsS W c t cs) (h1 : c ≠ br) (h2 : base ≤ c) (ht : t ≠ 62 := by decide) : PC gs a cap base br W' σ := by
  obtain ⟨v, d, e1, e2, h3, h4⟩ := h.ex
  have B : Below base W W' := U.trans (Below.refl _ _) h2
  exact ⟨⟨v, d, e1, e2, h3.upd U (Ne.symm h1), own_updF h4 U (own_neN h4 hc ht)⟩, toks_low h.toks h.tb B, h.tb, h.bb, by rw [U.size]; exact h.sz, h.len⟩
theorem ok_of {σ σ' : CS} (ok : Ok gs σ) (h : On gs σ σ') (hF : σ'.F = none) : Ok gs σ' := ⟨hF, h.len ok.k⟩
set_option maxRecDepth 100000 in
set_option maxHeartbeats 2000000 in
theorem cref_any (hn : Few gs) (σ : CS) (ok : Ok gs σ) (w : World) (hP : PC gs a cap base br w σ) :
    Calls Tryz.prog 138 #[.pointer (some ⟨br, 0, none⟩)] w fun en w' => OutC gs a cap base br w (refC gs σ) (.agg (rfL (refT gs σ) (refN gs σ)).toArray) en w' := by
  have hkb : σ.k ≤ 1099511627776 := Nat.le_trans ok.k hn.1
  have cS := fun W hP => csees_any (a := a) (cap := cap) (base := base) (br := br) hn σ ok ⟨#[91]⟩ W hP
  cases hB : isT gs σ 0 4 [91] with
  | true =>
    rw [show isT gs σ 0 4 (ByteArray.data ⟨#[91]⟩).toList = true from hB] at cS
    have hlt := (isT_lt hB).2
    have et : takeC gs σ = CS.mk (CS.k σ + 1) (CS.deep σ) (CS.nodes σ) none := take_more ok.F (by omega)
    have e1 : refC gs σ = signC gs (nameC gs (takeC gs σ)) [93] := by unfold refC; rw [hB]; rfl
    have e2 : refT gs σ = -1 := by unfold refT; rw [hB]; rfl
    have e3 : refN gs σ = nameX gs (takeC gs σ) := by unfold refN; rw [hB]; rfl
    rw [e1, e2, e3, et]
    have ok1 : Ok gs (CS.mk (CS.k σ + 1) (CS.deep σ) (CS.nodes σ) none) := ⟨rfl, by show σ.k + 1 ≤ _; omega⟩
    have cN := fun W hP => cname_any (a := a) (cap := cap) (base := base) (br := br) hn _ ok1 W hP
    clear et e1 e2 e3 hB
    rcases F_or (nameC gs (CS.mk (CS.k σ + 1) (CS.deep σ) (CS.nodes σ) none)) with g1 | ⟨x, u1⟩
    · have ok2 := ok_of ok1 (on_name gs _) g1
      have cG := fun W hP => csign_any (a := a) (cap := cap) (base := base) (br := br) hn _ ok2 ⟨#[93]⟩ W hP
      rcases F_or (signC gs (nameC gs (CS.mk (CS.k σ + 1) (CS.deep σ) (CS.nodes σ) none)) [93]) with g2 | ⟨x, u2⟩
      · skip
        go_enter Tryz.func138, Tryz.ntmps138
        go_wp2_with (first
          | (refine wpList_allocS rfl 60 rfl (rfL 0 noName) Tryz.zeroValue60 ?_; intro W0 b0 F0 N0; have P0 := hP.fresh F0; have B0 : Below base w W0 := below_lower (F0.trans (Below.refl _ w) (Nat.le_refl _)) hP.sz; have h0 : w.heap.size ≤ b0 := Nat.le_of_eq F0.at'.symm; have hb0 : b0 ≠ br := (by have := hP.lt; omega); clear F0)
          | (go_at_call 85; refine (cS _ P0).mono ?_; rintro en W1 ⟨rfl, B1x⟩; have P1 := P0.grown B1x; have B1 := B0.trans (below_lower B1x P0.sz); have N1 := N0.grown B1x; clear B1x cS; obtain ⟨v2, d2, e2, f2, R2, _⟩ := P1.ex; have c2 : World.cell? _ ⟨br, 1, none⟩ = some (.int .i64 (CS.k σ : Int)) := R2.cell 1)
          | (refine wpList_store1 rfl 3 _ _ rfl rfl (.int .i64 ((CS.k σ : Int) + 1)) rfl R2 (by simp [rdL]) info3 rfl ?_; intro W2 U2 R2x; have P2 : PC gs a cap base br W2 (CS.mk (CS.k σ + 1) (CS.deep σ) (CS.nodes σ) none) := P1.turn (σ' := (CS.mk (CS.k σ + 1) (CS.deep σ) (CS.nodes σ) none)) (Turn.of_upd U2) R2 rfl e2 f2 (by simpa [rdL] using R2x); have B2 : Below base w W2 := Turn.below B1 hP.bb P1.sz (Turn.of_upd U2); have N2 := N1.upd U2 hb0; clear U2 R2x R2 c2 e2 f2)
          | (go_at_call 153; refine (cN _ P2).mono ?_; rintro en W3 ⟨O3, T3⟩; obtain ⟨rfl, P3⟩ := O3.goes g1; have B3 := B2.trans O3.bel; have N3 := N2.turn T3 hb0; clear O3 T3 cN)
          | (go_at_call 112; refine (cG _ P3).mono ?_; rintro en W4 ⟨O4, T4⟩; obtain ⟨rfl, P4⟩ := O4.goes g2; have B4 := B3.trans O4.bel; have N4 := N3.turn T4 hb0; clear O4 T4 cG)
          | (have NN := N4; refine wpList_storeS rfl 60 _ _ rfl rfl (rfL (-1) (nameX gs (CS.mk (CS.k σ + 1) (CS.deep σ) (CS.nodes σ) none))) rfl NN (by simp [rfL]) infoRf (rf_one _ _) ?_; intro W99 U99 N99x; have N99 : IsS W99 b0 60 (rfL (-1) (nameX gs (CS.mk (CS.k σ + 1) (CS.deep σ) (CS.nodes σ) none))) := N99x; have P99 := PC.updT P4 U99 NN hb0 (Nat.le_trans hP.sz h0); have B99 : Below base w W99 := U99.trans B4 (by have := hP.sz; omega)))
        exact ret_S (cs := rfL (-1) (nameX gs (CS.mk (CS.k σ + 1) (CS.deep σ) (CS.nodes σ) none))) rfl rfl rfl N99 _ Tryz.underlying60 rfl infoRf (OutC.ret g2 P99 B99)
      · skip
        go_enter Tryz.func138, Tryz.ntmps138
        go_wp2_with (first
          | (refine wpList_allocS rfl 60 rfl (rfL 0 noName) Tryz.zeroValue60 ?_; intro W0 b0 F0 N0; have P0 := hP.fresh F0; have B0 : Below base w W0 := below_lower (F0.trans (Below.refl _ w) (Nat.le_refl _)) hP.sz; have h0 : w.heap.size ≤ b0 := Nat.le_of_eq F0.at'.symm; have hb0 : b0 ≠ br := (by have := hP.lt; omega); clear F0)
          | (go_at_call 85; refine (cS _ P0).mono ?_; rintro en W1 ⟨rfl, B1x⟩; have P1 := P0.grown B1x; have B1 := B0.trans (below_lower B1x P0.sz); have N1 := N0.grown B1x; clear B1x cS; obtain ⟨v2, d2, e2, f2, R2, _⟩ := P1.ex; have c2 : World.cell? _ ⟨br, 1, none⟩ = some (.int .i64 (CS.k σ : Int)) := R2.cell 1)
          | (refine wpList_store1 rfl 3 _ _ rfl rfl (.int .i64 ((CS.k σ : Int) + 1)) rfl R2 (by simp [rdL]) info3 rfl ?_; intro W2 U2 R2x; have P2 : PC gs a cap base br W2 (CS.mk (CS.k σ + 1) (CS.deep σ) (CS.nodes σ) none) := P1.turn (σ' := (CS.mk (CS.k σ + 1) (CS.deep σ) (CS.nodes σ) none)) (Turn.of_upd U2) R2 rfl e2 f2 (by simpa [rdL] using R2x); have B2 : Below base w W2 := Turn.below B1 hP.bb P1.sz (Turn.of_upd U2); have N2 := N1.upd U2 hb0; clear U2 R2x R2 c2 e2 f2)
          | (go_at_call 153; refine (cN _ P2).mono ?_; rintro en W3 ⟨O3, T3⟩; obtain ⟨rfl, P3⟩ := O3.goes g1; have B3 := B2.trans O3.bel; have N3 := N2.turn T3 hb0; clear O3 T3 cN)
          | (go_at_call 112; refine (cG _ P3).mono ?_; rintro en W4 ⟨O4, T4⟩; have B4 := B3.trans O4.bel; obtain ⟨bp, rfl, hb, hI⟩ := O4.ups _ u2; clear O4 T4 cG))
        exact ⟨rfl, OutC.thrown (u2) ⟨bp, rfl, Nat.le_trans B3.size hb, hI⟩ B4⟩
    · skip
      go_enter Tryz.func138, Tryz.ntmps138
      go_wp2_with (first
        | (refine wpList_allocS rfl 60 rfl (rfL 0 noName) Tryz.zeroValue60 ?_; intro W0 b0 F0 N0; have P0 := hP.fresh F0; have B0 : Below base w W0 := below_lower (F0.trans (Below.refl _ w) (Nat.le_refl _)) hP.sz; have h0 : w.heap.size ≤ b0 := Nat.le_of_eq F0.at'.symm; have hb0 : b0 ≠ br := (by have := hP.lt; omega); clear F0)
        | (go_at_call 85; refine (cS _ P0).mono ?_; rintro en W1 ⟨rfl, B1x⟩; have P1 := P0.grown B1x; have B1 := B0.trans (below_lower B1x P0.sz); have N1 := N0.grown B1x; clear B1x cS; obtain ⟨v2, d2, e2, f2, R2, _⟩ := P1.ex; have c2 : World.cell? _ ⟨br, 1, none⟩ = some (.int .i64 (CS.k σ : Int)) := R2.cell 1)
        | (refine wpList_store1 rfl 3 _ _ rfl rfl (.int .i64 ((CS.k σ : Int) + 1)) rfl R2 (by simp [rdL]) info3 rfl ?_; intro W2 U2 R2x; have P2 : PC gs a cap base br W2 (CS.mk (CS.k σ + 1) (CS.deep σ) (CS.nodes σ) none) := P1.turn (σ' := (CS.mk (CS.k σ + 1) (CS.deep σ) (CS.nodes σ) none)) (Turn.of_upd U2) R2 rfl e2 f2 (by simpa [rdL] using R2x); have B2 : Below base w W2 := Turn.below B1 hP.bb P1.sz (Turn.of_upd U2); have N2 := N1.upd U2 hb0; clear U2 R2x R2 c2 e2 f2)
        | (go_at_call 153; refine (cN _ P2).mono ?_; rintro en W3 ⟨O3, T3⟩; have B3 := B2.trans O3.bel; obtain ⟨bp, rfl, hb, hI⟩ := O3.ups _ u1; clear O3 T3 cN))
      exact ⟨rfl, OutC.thrown ((on_sign gs _ _).F _ u1) ⟨bp, rfl, Nat.le_trans B2.size hb, hI⟩ B3⟩
  | false =>
    rw [show isT gs σ 0 4 (ByteArray.data ⟨#[91]⟩).toList = false from hB] at cS
    have cX := fun W hP => cnext_any (a := a) (cap := cap) (base := base) (br := br) hn σ ok 0 (by omega) W hP
    have cT := fun W => thread_any (gAt gs σ.k) (few_at hn σ.k) W
    rw [← thr_eq] at cT
    cases hq : thrQ gs σ with
    | none =>
      rw [hq] at cT
      dsimp only [thrR] at cT
      have e1 : refC gs σ = nameC gs σ := by unfold refC; rw [hB, hq]; rfl
      have e2 : refT gs σ = -1 := by unfold refT; rw [hB, hq]; rfl
      have e3 : refN gs σ = nameX gs σ := by unfold refN; rw [hB, hq]; rfl
      rw [e1, e2, e3]
      have cN := fun W hP => cname_any (a := a) (cap := cap) (base := base) (br := br) hn σ ok W hP
      clear e1 e2 e3 hB hq
      rcases F_or (nameC gs σ) with g1 | ⟨x, u1⟩
      · skip
        go_enter Tryz.func138, Tryz.ntmps138
        go_wp2_with (first
          | (refine wpList_allocS rfl 60 rfl (rfL 0 noName) Tryz.zeroValue60 ?_; intro W0 b0 F0 N0; have P0 := hP.fresh F0; have B0 : Below base w W0 := below_lower (F0.trans (Below.refl _ w) (Nat.le_refl _)) hP.sz; have h0 : w.heap.size ≤ b0 := Nat.le_of_eq F0.at'.symm; have hb0 : b0 ≠ br := (by have := hP.lt; omega); clear F0)
          | (go_at_call 85; refine (cS _ P0).mono ?_; rintro en W1 ⟨rfl, B1x⟩; have P1 := P0.grown B1x; have B1 := B0.trans (below_lower B1x P0.sz); have N1 := N0.grown B1x; clear B1x cS)
          | (go_at_call 109; refine (cX _ P1).mono ?_; rintro en W2 ⟨rfl, B2x⟩; have P2 := P1.grown B2x; have B2 := B1.trans (below_lower B2x P1.sz); have N2 := N1.grown B2x; clear B2x cX)
          | (go_at_call 154; refine (cT _).mono ?_; rintro en W3 ⟨rfl, B3x⟩; have P3 := P2.grown B3x; have B3 := B2.trans (below_lower B3x P2.sz); have N3 := N2.grown B3x; clear B3x cT)
          | (go_at_call 153; refine (cN _ P3).mono ?_; rintro en W4 ⟨O4, T4⟩; obtain ⟨rfl, P4⟩ := O4.goes g1; have B4 := B3.trans O4.bel; have N4 := N3.turn T4 hb0; clear O4 T4 cN)
          | (have NN := N4; refine wpList_storeS rfl 60 _ _ rfl rfl (rfL (-1) (nameX gs σ)) rfl NN (by simp [rfL]) infoRf (rf_one _ _) ?_; intro W99 U99 N99x; have N99 : IsS W99 b0 60 (rfL (-1) (nameX gs σ)) := N99x; have P99 := PC.updT P4 U99 NN hb0 (Nat.le_trans hP.sz h0); have B99 : Below base w W99 := U99.trans B4 (by have := hP.sz; omega)))
        exact ret_S (cs := rfL (-1) (nameX gs σ)) rfl rfl rfl N99 _ Tryz.underlying60 rfl infoRf (OutC.ret g1 P99 B99)
      · skip
        go_enter Tryz.func138, Tryz.ntmps138
        go_wp2_with (first
          | (refine wpList_allocS rfl 60 rfl (rfL 0 noName) Tryz.zeroValue60 ?_; intro W0 b0 F0 N0; have P0 := hP.fresh F0; have B0 : Below base w W0 := below_lower (F0.trans (Below.refl _ w) (Nat.le_refl _)) hP.sz; have h0 : w.heap.size ≤ b0 := Nat.le_of_eq F0.at'.symm; have hb0 : b0 ≠ br := (by have := hP.lt; omega); clear F0)
          | (go_at_call 85; refine (cS _ P0).mono ?_; rintro en W1 ⟨rfl, B1x⟩; have P1 := P0.grown B1x; have B1 := B0.trans (below_lower B1x P0.sz); have N1 := N0.grown B1x; clear B1x cS)
          | (go_at_call 109; refine (cX _ P1).mono ?_; rintro en W2 ⟨rfl, B2x⟩; have P2 := P1.grown B2x; have B2 := B1.trans (below_lower B2x P1.sz); have N2 := N1.grown B2x; clear B2x cX)
          | (go_at_call 154; refine (cT _).mono ?_; rintro en W3 ⟨rfl, B3x⟩; have P3 := P2.grown B3x; have B3 := B2.trans (below_lower B3x P2.sz); have N3 := N2.grown B3x; clear B3x cT)
          | (go_at_call 153; refine (cN _ P3).mono ?_; rintro en W4 ⟨O4, T4⟩; have B4 := B3.trans O4.bel; obtain ⟨bp, rfl, hb, hI⟩ := O4.ups _ u1; clear O4 T4 cN))
        exact ⟨rfl, OutC.thrown (u1) ⟨bp, rfl, Nat.le_trans B3.size hb, hI⟩ B4⟩
    | some n =>
      rw [hq] at cT
      dsimp only [thrR] at cT
      have hlt : σ.k < gs.length := (by
        unfold thrQ at hq
        split at hq
        · rename_i h; exact h.1
        · cases hq)
      have et : takeC gs σ = CS.mk (CS.k σ + 1) (CS.deep σ) (CS.nodes σ) none := take_more ok.F hlt
      have e1 : refC gs σ = nameC gs (signC gs (takeC gs σ) [58]) := by unfold refC; rw [hB, hq]; rfl
      have e2 : refT gs σ = n := by unfold refT; rw [hB, hq]; rfl
      have e3 : refN gs σ = nameX gs (signC gs (takeC gs σ) [58]) := by unfold refN; rw [hB, hq]; rfl
      rw [e1, e2, e3, et]
      have ok1 : Ok gs (CS.mk (CS.k σ + 1) (CS.deep σ) (CS.nodes σ) none) := ⟨rfl, by show σ.k + 1 ≤ _; omega⟩
      have cG := fun W hP => csign_any (a := a) (cap := cap) (base := base) (br := br) hn _ ok1 ⟨#[58]⟩ W hP
      clear et e1 e2 e3 hB hq
      rcases F_or (signC gs (CS.mk (CS.k σ + 1) (CS.deep σ) (CS.nodes σ) none) [58]) with g1 | ⟨x, u1⟩
      · have ok2 := ok_of ok1 (on_sign gs _ _) g1
        have cN := fun W hP => cname_any (a := a) (cap := cap) (base := base) (br := br) hn _ ok2 W hP
        rcases F_or (nameC gs (signC gs (CS.mk (CS.k σ + 1) (CS.deep σ) (CS.nodes σ) none) [58])) with g2 | ⟨x, u2⟩
        · skip
          go_enter Tryz.func138, Tryz.ntmps138
          go_wp2_with (first
            | (refine wpList_allocS rfl 60 rfl (rfL 0 noName) Tryz.zeroValue60 ?_; intro W0 b0 F0 N0; have P0 := hP.fresh F0; have B0 : Below base w W0 := below_lower (F0.trans (Below.refl _ w) (Nat.le_refl _)) hP.sz; have h0 : w.heap.size ≤ b0 := Nat.le_of_eq F0.at'.symm; have hb0 : b0 ≠ br := (by have := hP.lt; omega); clear F0)
            | (go_at_call 85; refine (cS _ P0).mono ?_; rintro en W1 ⟨rfl, B1x⟩; have P1 := P0.grown B1x; have B1 := B0.trans (below_lower B1x P0.sz); have N1 := N0.grown B1x; clear B1x cS)
            | (go_at_call 109; refine (cX _ P1).mono ?_; rintro en W2 ⟨rfl, B2x⟩; have P2 := P1.grown B2x; have B2 := B1.trans (below_lower B2x P1.sz); have N2 := N1.grown B2x; clear B2x cX)
            | (go_at_call 154; refine (cT _).mono ?_; rintro en W3 ⟨rfl, B3x⟩; have P3 := P2.grown B3x; have B3 := B2.trans (below_lower B3x P2.sz); have N3 := N2.grown B3x; clear B3x cT; obtain ⟨v4, d4, e4, f4, R4, _⟩ := P3.ex; have c4 : World.cell? _ ⟨br, 1, none⟩ = some (.int .i64 (CS.k σ : Int)) := R4.cell 1)
            | (refine wpList_store1 rfl 3 _ _ rfl rfl (.int .i64 ((CS.k σ : Int) + 1)) rfl R4 (by simp [rdL]) info3 rfl ?_; intro W4 U4 R4x; have P4 : PC gs a cap base br W4 (CS.mk (CS.k σ + 1) (CS.deep σ) (CS.nodes σ) none) := P3.turn (σ' := (CS.mk (CS.k σ + 1) (CS.deep σ) (CS.nodes σ) none)) (Turn.of_upd U4) R4 rfl e4 f4 (by simpa [rdL] using R4x); have B4 : Below base w W4 := Turn.below B3 hP.bb P3.sz (Turn.of_upd U4); have N4 := N3.upd U4 hb0; clear U4 R4x R4 c4 e4 f4)
            | (go_at_call 112; refine (cG _ P4).mono ?_; rintro en W5 ⟨O5, T5⟩; obtain ⟨rfl, P5⟩ := O5.goes g1; have B5 := B4.trans O5.bel; have N5 := N4.turn T5 hb0; clear O5 T5 cG)
            | (go_at_call 153; refine (cN _ P5).mono ?_; rintro en W6 ⟨O6, T6⟩; obtain ⟨rfl, P6⟩ := O6.goes g2; have B6 := B5.trans O6.bel; have N6 := N5.turn T6 hb0; clear O6 T6 cN)
            | (have NN := N6; refine wpList_storeS rfl 60 _ _ rfl rfl (rfL (n : Int) (nameX gs (signC gs (CS.mk (CS.k σ + 1) (CS.deep σ) (CS.nodes σ) none) [58]))) rfl NN (by simp [rfL]) infoRf (rf_one _ _) ?_; intro W99 U99 N99x; have N99 : IsS W99 b0 60 (rfL (n : Int) (nameX gs (signC gs (CS.mk (CS.k σ + 1) (CS.deep σ) (CS.nodes σ) none) [58]))) := N99x; have P99 := PC.updT P6 U99 NN hb0 (Nat.le_trans hP.sz h0); have B99 : Below base w W99 := U99.trans B6 (by have := hP.sz; omega)))
          exact ret_S (cs := rfL (n : Int) (nameX gs (signC gs (CS.mk (CS.k σ + 1) (CS.deep σ) (CS.nodes σ) none) [58]))) rfl rfl rfl N99 _ Tryz.underlying60 rfl infoRf (OutC.ret g2 P99 B99)
        · skip
          go_enter Tryz.func138, Tryz.ntmps138
          go_wp2_with (first
            | (refine wpList_allocS rfl 60 rfl (rfL 0 noName) Tryz.zeroValue60 ?_; intro W0 b0 F0 N0; have P0 := hP.fresh F0; have B0 : Below base w W0 := below_lower (F0.trans (Below.refl _ w) (Nat.le_refl _)) hP.sz; have h0 : w.heap.size ≤ b0 := Nat.le_of_eq F0.at'.symm; have hb0 : b0 ≠ br := (by have := hP.lt; omega); clear F0)
            | (go_at_call 85; refine (cS _ P0).mono ?_; rintro en W1 ⟨rfl, B1x⟩; have P1 := P0.grown B1x; have B1 := B0.trans (below_lower B1x P0.sz); have N1 := N0.grown B1x; clear B1x cS)
            | (go_at_call 109; refine (cX _ P1).mono ?_; rintro en W2 ⟨rfl, B2x⟩; have P2 := P1.grown B2x; have B2 := B1.trans (below_lower B2x P1.sz); have N2 := N1.grown B2x; clear B2x cX)
            | (go_at_call 154; refine (cT _).mono ?_; rintro en W3 ⟨rfl, B3x⟩; have P3 := P2.grown B3x; have B3 := B2.trans (below_lower B3x P2.sz); have N3 := N2.grown B3x; clear B3x cT; obtain ⟨v4, d4, e4, f4, R4, _⟩ := P3.ex; have c4 : World.cell? _ ⟨br, 1, none⟩ = some (.int .i64 (CS.k σ : Int)) := R4.cell 1)
            | (refine wpList_store1 rfl 3 _ _ rfl rfl (.int .i64 ((CS.k σ : Int) + 1)) rfl R4 (by simp [rdL]) info3 rfl ?_; intro W4 U4 R4x; have P4 : PC gs a cap base br W4 (CS.mk (CS.k σ + 1) (CS.deep σ) (CS.nodes σ) none) := P3.turn (σ' := (CS.mk (CS.k σ + 1) (CS.deep σ) (CS.nodes σ) none)) (Turn.of_upd U4) R4 rfl e4 f4 (by simpa [rdL] using R4x); have B4 : Below base w W4 := Turn.below B3 hP.bb P3.sz (Turn.of_upd U4); have N4 := N3.upd U4 hb0; clear U4 R4x R4 c4 e4 f4)
            | (go_at_call 112; refine (cG _ P4).mono ?_; rintro en W5 ⟨O5, T5⟩; obtain ⟨rfl, P5⟩ := O5.goes g1; have B5 := B4.trans O5.bel; have N5 := N4.turn T5 hb0; clear O5 T5 cG)
            | (go_at_call 153; refine (cN _ P5).mono ?_; rintro en W6 ⟨O6, T6⟩; have B6 := B5.trans O6.bel; obtain ⟨bp, rfl, hb, hI⟩ := O6.ups _ u2; clear O6 T6 cN))
          exact ⟨rfl, OutC.thrown (u2) ⟨bp, rfl, Nat.le_trans B5.size hb, hI⟩ B6⟩
      · skip
        go_enter Tryz.func138, Tryz.ntmps138
        go_wp2_with (first
          | (refine wpList_allocS rfl 60 rfl (rfL 0 noName) Tryz.zeroValue60 ?_; intro W0 b0 F0 N0; have P0 := hP.fresh F0; have B0 : Below base w W0 := below_lower (F0.trans (Below.refl _ w) (Nat.le_refl _)) hP.sz; have h0 : w.heap.size ≤ b0 := Nat.le_of_eq F0.at'.symm; have hb0 : b0 ≠ br := (by have := hP.lt; omega); clear F0)
          | (go_at_call 85; refine (cS _ P0).mono ?_; rintro en W1 ⟨rfl, B1x⟩; have P1 := P0.grown B1x; have B1 := B0.trans (below_lower B1x P0.sz); have N1 := N0.grown B1x; clear B1x cS)
          | (go_at_call 109; refine (cX _ P1).mono ?_; rintro en W2 ⟨rfl, B2x⟩; have P2 := P1.grown B2x; have B2 := B1.trans (below_lower B2x P1.sz); have N2 := N1.grown B2x; clear B2x cX)
          | (go_at_call 154; refine (cT _).mono ?_; rintro en W3 ⟨rfl, B3x⟩; have P3 := P2.grown B3x; have B3 := B2.trans (below_lower B3x P2.sz); have N3 := N2.grown B3x; clear B3x cT; obtain ⟨v4, d4, e4, f4, R4, _⟩ := P3.ex; have c4 : World.cell? _ ⟨br, 1, none⟩ = some (.int .i64 (CS.k σ : Int)) := R4.cell 1)
          | (refine wpList_store1 rfl 3 _ _ rfl rfl (.int .i64 ((CS.k σ : Int) + 1)) rfl R4 (by simp [rdL]) info3 rfl ?_; intro W4 U4 R4x; have P4 : PC gs a cap base br W4 (CS.mk (CS.k σ + 1) (CS.deep σ) (CS.nodes σ) none) := P3.turn (σ' := (CS.mk (CS.k σ + 1) (CS.deep σ) (CS.nodes σ) none)) (Turn.of_upd U4) R4 rfl e4 f4 (by simpa [rdL] using R4x); have B4 : Below base w W4 := Turn.below B3 hP.bb P3.sz (Turn.of_upd U4); have N4 := N3.upd U4 hb0; clear U4 R4x R4 c4 e4 f4)
          | (go_at_call 112; refine (cG _ P4).mono ?_; rintro en W5 ⟨O5, T5⟩; have B5 := B4.trans O5.bel; obtain ⟨bp, rfl, hb, hI⟩ := O5.ups _ u1; clear O5 T5 cG))
        exact ⟨rfl, OutC.thrown ((on_name gs _).F _ u1) ⟨bp, rfl, Nat.le_trans B4.size hb, hI⟩ B5⟩
set_option maxRecDepth 100000 in
set_option maxHeartbeats 2000000 in
theorem cseesTrue_any (hn : Few gs) (σ : CS) (ok : Ok gs σ) (w : World) (hP : PC gs a cap base br w σ) :
    Calls Tryz.prog 113 #[.pointer (some ⟨br, 0, none⟩)] w fun en w' => en = .returned (.bool (isT gs σ 0 1 wTrue && !isT gs σ 1 4 [61])) ∧ Below w.heap.size w w' := by
  have cX := cnext_any hn σ ok 0 (by omega) w hP
  have cY := fun W hP => cnext_any (a := a) (cap := cap) (base := base) (br := br) hn σ ok 1 (by omega) W hP
  have cI := fun W => isSign_any (gAt gs (σ.k + 1)) ⟨#[61]⟩ W
  have e1 : isT gs σ 1 4 [61] = decide ((gAt gs (σ.k + 1)).kind = 4 ∧ (gAt gs (σ.k + 1)).text.data.toList = (ByteArray.data ⟨#[61]⟩).toList) := by
    unfold isT
    rw [ok.F]
    by_cases h : σ.k + 1 < gs.length
    · have : decide (σ.k + 1 < gs.length) = true := by simpa using h
      rw [this, Bool.eq_iff_iff]; simp
    · rw [gAt_none (by omega), Bool.eq_iff_iff]; simp [noGT]
  rw [← e1] at cI
  have e0 : isT gs σ 0 1 wTrue = (((gAt gs (σ.k + 0)).kind == 1) && ((gAt gs (σ.k + 0)).text.toList == [116, 114, 117, 101])) := by
    unfold isT
    rw [ok.F, toL]
    by_cases h : σ.k + 0 < gs.length
    · have : decide (σ.k + 0 < gs.length) = true := by simpa using h
      rw [this]; rfl
    · rw [gAt_none (by omega), Bool.eq_iff_iff]; simp [noGT]
  rw [e0]
  generalize isT gs σ 1 4 [61] = q at *
  generalize gAt gs (σ.k + 0) = t at *
  generalize gAt gs (σ.k + 1) = t1 at *
  clear e0 e1
  obtain ⟨kd, tx, vl, ln, cl, pt, fn⟩ := t
  dsimp only
  cases h1 : (kd == 1) <;> cases h2 : (tx.toList == [116, 114, 117, 101])
  all_goals
    go_enter Tryz.func113, Tryz.ntmps113
    go_wp2_with (first
      | (go_at_call 109; refine cX.mono ?_; rintro en W1 ⟨rfl, B1⟩; have P1 := hP.grown B1; clear cX)
      | (refine wpList_allocS rfl 49 rfl (gtL noGT) Tryz.zeroValue49 ?_; intro W2 b3 F2 M2; have P2 := P1.fresh F2; have B2 := F2.trans B1 B1.size; have h3 : w.heap.size ≤ b3 := Nat.le_trans B1.size (Nat.le_of_eq F2.at'.symm); have hne : b3 ≠ br := (by have := hP.lt; omega); have hbz : base ≤ b3 := Nat.le_trans hP.sz h3; have hz2 : W1.heap.size ≤ b3 := Nat.le_of_eq F2.at'.symm; clear F2)
      | (refine wpList_storeS rfl 49 _ _ rfl rfl (gtL ⟨kd, tx, vl, ln, cl, pt, fn⟩) rfl M2 (by simp [gtL, noGT]) infoTok (gt_one _) ?_; intro W3 U3 M3x; have M3 : IsS W3 b3 49 (gtL ⟨kd, tx, vl, ln, cl, pt, fn⟩) := M3x; have P3 := PC.updT P2 U3 M2 hne hbz; have B3 := U3.trans B2 h3; have m0 : W3.cell? ⟨b3, 0, none⟩ = some (.int .i64 kd) := M3.cell 0; have m1 : W3.cell? ⟨b3, 1, none⟩ = some (.string tx) := M3.cell 1; clear U3 M3x M2 P2)
      | (go_at_call 109; refine (cY _ P3).mono ?_; rintro en W4 ⟨rfl, B4x⟩; have B4 := Below.then B3 B4x; clear cY B4x)
      | (go_at_call 108; refine (cI _).mono ?_; rintro en W5 ⟨rfl, B5x⟩; have B5 := Below.then B4 B5x; clear cI B5x))
  all_goals go_ret
  all_goals first | exact ⟨ret_bool (by simp), B5⟩ | exact ⟨ret_bool (by simp), B3⟩
end
end Go.Proofs.YtjnbhcakfenbhaaGreatDoor
