/- slices.Grow, Concat and Compare at []int. -/
import Derived.Test.YtbecabkdnjkkeaaDoorC4
import Derived.Laws.AppendOwn
import Derived.Lib.LazyBuf
namespace Go.Proofs.YtbecabkdnjkkeaaDoor
open Go Go.RowKit M
set_option linter.unusedSimpArgs false
set_option linter.unusedVariables false

theorem flat_at {α : Type} {ls : List (List α)} {i k : Nat} {l : List α} (h : ls[i]? = some l) (hk : k ≤ l.length) : ((ls.take i).flatten ++ l.take k).length ≤ ls.flatten.length := by
  obtain ⟨hi, e⟩ := List.getElem?_eq_some_iff.1 h
  have e2 : ls = ls.take i ++ l :: ls.drop (i + 1) := by rw [← e]; simp
  have e3 : ls.flatten = (ls.take i).flatten ++ (l ++ (ls.drop (i + 1)).flatten) := by
    conv => lhs; rw [e2]
    simp
  rw [e3]; simp; omega
theorem flat_takeN {α : Type} {ls : List (List α)} {i : Nat} {l : List α} (h : ls[i]? = some l) : (ls.take (i + 1)).flatten = (ls.take i).flatten ++ l := by rw [take_at h]; simp
theorem own_cls {w : World} {B g t n c : Nat} {cs xs : List Value} (hg : B ≤ g) (I : IsS w g t cs) (ht : cs.take n = xs) (hc : n ≤ c) (hm : c ≤ maxLen) (hs : cs.length = c) : w.ownsRow B t 1 (.slice (some ⟨g, 0, none⟩) n c) n xs := by
  refine ⟨?_, .inr ⟨g, c, cs.toArray, rfl, hg, I, hc, hm, by simp [hs], by rw [Nat.mul_one]; simpa using ht⟩⟩
  rw [← ht, List.length_take]; omega
theorem run_append_zero {P : Program} {w : World} (t u ty e : TypeId) (i : TypeInfo) (z : Value) (kk : IntKind) (ht : P.underlying t = some (.slice e)) (hu : P.underlying u = some (.int kk)) (hi : P.info? e = some i) (hz : i.zero = some z) (hsz : i.size = 1) (hby : i.bytes = 8) (hzc : z.cells = #[z])
    (n : Nat) (h0 : 0 < n) (hn : n ≤ 1048576) :
    (Builtin.append_ #[t, u] ty #[.slice none 0 0, .int .i64 (n : Int)]).run P w =
      .ok (.slice (some ⟨w.heap.size, 0, none⟩) n (grownCap w n 0 e)) (w.drew.alloc (.cells (Builtin.zeroCells #[z] n ++ Builtin.zeroCells #[z] (grownCap w n 0 e - n)) e)) := by
  have hn0 : n ≠ 0 := by omega
  have hw : IntKind.i64.wrap (n : Int) = (n : Int) := by rw [IntKind.wrap_i64]; omega
  have h1 : ¬ ((n : Int) < 0) := by omega
  have h2 : ¬ ((281474976710656 : Int) < (n : Int) * 8) := by omega
  have h63' : ¬ (9223372036854775807 < (n : Int)) := by omega
  have h48' : ¬ (281474976710656 < Builtin.nextslicecap n 0 * 8) := by rw [nextslicecap_zero h0]; omega
  simp [Builtin.append_, run_underlying ht, run_underlying hu, sizeOf, typeInfo, zeroValue, hi, hz, Builtin.lenOf, hn0, hw, h1, h2, h63', h48', hsz, hby, hzc, Question.forced, run_firstCells_none, newRow, grownCap, asInt, asIntOf]
theorem zeros_size (z : Value) (n : Nat) : (Builtin.zeroCells #[z] n).size = n := by simp [Builtin.zeroCells]
theorem wpList_app0 {w : World} {ops : Array Oper} {rest : List Oper} {op : Oper} {a : Act} {Q : Exit → Act → World → Prop} (hgd : op.guard = none) (s x : Operand) (ho : op.op = .call { callee := .builtin .append, args := #[s, x], argTypes := #[37, 3] }) (n : Nat) (h0 : 0 < n) (hn : n ≤ 1048576) (hs : a.eval s = .slice none 0 0) (hx : a.eval x = .int .i64 (n : Int))
    (h : ∀ W b c, Below w.heap.size w W → w.heap.size ≤ b → n ≤ c → c ≤ maxLen → (∃ cs, IsS W b 3 cs ∧ cs.length = c) → wpList Tryd.prog ops Q rest (a.put op.dst (.slice (some ⟨b, 0, none⟩) n c)) W) : wpList Tryd.prog ops Q (op :: rest) a w := by
  obtain ⟨i0, hi, hz, hsz, hby⟩ := eInt.info
  refine wpList_plain hgd fun K hK => ?_
  have hr := run_append_zero (P := Tryd.prog) (w := w) 37 3 op.type 3 i0 (.int .i64 0) .i64 Tryd.underlying37 Tryd.underlying3 hi hz hsz hby rfl n h0 hn
  have hge := grownCap_ge w n 0 3
  unfold Oper.wp
  have he : (execOp a.eval op).run Tryd.prog w = .ok (.value (.slice (some ⟨w.heap.size, 0, none⟩) n (grownCap w n 0 3))) (w.drew.alloc (.cells (Builtin.zeroCells #[.int .i64 0] n ++ Builtin.zeroCells #[.int .i64 0] (grownCap w n 0 3 - n)) 3)) := by
    unfold execOp
    simp only [ho, resolve, invoke, builtin, Sem.run_bind, Sem.run_pure, Result.andThen_ok, List.map_toArray, List.map_cons, List.map_nil, hs, hx, hr]
  rw [he]
  have hsz2 : (Builtin.zeroCells #[Value.int .i64 0] n ++ Builtin.zeroCells #[Value.int .i64 0] (grownCap w n 0 3 - n)).size = grownCap w n 0 3 := by rw [Array.size_append, zeros_size, zeros_size]; omega
  generalize (Builtin.zeroCells #[Value.int .i64 0] n ++ Builtin.zeroCells #[Value.int .i64 0] (grownCap w n 0 3 - n)) = A at *
  refine hK _ _ (h _ _ _ ?_ (Nat.le_refl _) hge (grownCap_le_maxLen w n 0 3 (by unfold maxLen; omega)) ⟨A.toList, ?_, ?_⟩)
  · exact (Fresh.alloc w.drew _).trans (below_drew (Below.refl _ w)) (Nat.le_refl _)
  · have := IsS.new w.drew 3 A.toList
    rw [Array.toArray_toList] at this
    exact this
  · rw [Array.length_toList]; exact hsz2
set_option maxRecDepth 100000 in
set_option maxHeartbeats 4000000 in
theorem grow_nil (n : Nat) (hn : n ≤ 1048576) (w : World) : Calls Tryd.prog 31 #[.slice none 0 0, .int .i64 (n : Int)] w fun e w' => ∃ v, e = .returned v ∧ w'.ownsRow w.heap.size 3 1 v 0 [] ∧ Below w.heap.size w w' := by
  have hneg : ¬ ((n : Int) < 0) := by omega
  have hnI : (n : Int) ≤ 1048576 := by omega
  by_cases h0 : 0 < n
  · have hpos : (0 : Int) < (n : Int) := by omega
    go_enter Tryd.func31, Tryd.ntmps31
    go_wp2_with (first
      | (at_builtin; refine wpList_app0 rfl _ _ rfl n h0 hn rfl rfl ?_; intro W b c B1 hb hc hm hI))
    go_ret
    obtain ⟨cs, hcs, hl⟩ := hI
    exact ⟨_, rfl, own_cls hb hcs rfl (Nat.zero_le _) hm hl, B1⟩
  · have e : n = 0 := by omega
    subst e
    go_enter Tryd.func31, Tryd.ntmps31
    go_wp2
    go_ret
    exact ⟨_, rfl, own_nil _ _ _ _, Below.refl _ _⟩
set_option maxRecDepth 100000 in
set_option maxHeartbeats 4000000 in
theorem concat_any (xss : List (List Int)) (n c : Nat) (a : Option Addr) (hl : xss.length = n) (hn : n ≤ 1048576) (hf : xss.flatten.length ≤ 1048576) (w : World) (hR : RowsV w (.slice a n c) intE xss) :
    Calls Tryd.prog 28 #[.slice a n c] w fun e w' => ∃ v, e = .returned v ∧ w'.ownsRow w.heap.size 3 1 v xss.flatten.length (xss.flatten.flatMap intE) ∧ Below w.heap.size w w' := by
  have HR : Hid (RowsV w (.slice a n c) intE xss) := hR
  have HL : Hid (xss.length = n) := hl
  have HF : Hid (xss.flatten.length ≤ 1048576) := hf
  clear hR hl
  have hfl : ∀ (k : Nat) (q : List Int), xss[k]? = some q → ((xss.take k).flatten.length + q.length ≤ 1048576 ∧ (xss.take (k + 1)).flatten = (xss.take k).flatten ++ q) := fun k q h => by
    have := flat_at h (Nat.le_refl _)
    rw [List.take_length, List.length_append] at this
    exact ⟨by have := HF.out; omega, flat_takeN h⟩
  have HFL : Hid (∀ (k : Nat) (q : List Int), xss[k]? = some q → ((xss.take k).flatten.length + q.length ≤ 1048576 ∧ (xss.take (k + 1)).flatten = (xss.take k).flatten ++ q)) := hfl
  clear hfl
  go_enter Tryd.func28, Tryd.ntmps28
  go_wp2
  go_loopw [3, 11] (fun z i wr => ∃ k m : Nat, k ≤ n ∧ m ≤ 1048576 ∧ i = .int .i64 (k : Int) ∧ z = .int .i64 (m : Int) ∧ Hid ((xss.take k).flatten.length = m) ∧ wr = w) (fun _ i _ => n - (intOf i).toNat)
  case atStart => exact ⟨0, 0, Nat.zero_le _, Nat.zero_le _, rfl, rfl, rfl, rfl⟩
  case round =>
    obtain ⟨k, m, hk, hm, rfl, rfl, HM, rfl⟩ := hrel
    by_cases hlt : k < n
    · have hki : (k : Int) < n := by omega
      obtain ⟨q, hq⟩ : ∃ q, xss[k]? = some q := ⟨_, List.getElem?_eq_getElem (by rw [HL.out]; exact hlt)⟩
      obtain ⟨b, o, a', c', rfl, hb, hc, hseg, hnil⟩ := HR.out.at k q hq
      obtain ⟨h1, h2⟩ := HFL.out k q hq
      obtain ⟨ql, hql⟩ : ∃ l, q.length = l := ⟨_, rfl⟩
      rw [HM.out, hql] at h1
      have HM2 : Hid ((xss.take (k + 1)).flatten.length = m + ql) := by show _ = _; rw [h2, List.length_append, HM.out, hql]
      rw [hql] at hc
      have hi1 : (m : Int) + (ql : Int) ≤ 1048576 := by omega
      have hi2 : ¬ ((m : Int) + (ql : Int) < 0) := by omega
      clear hq hseg hnil h2 hql
      go_wp2
      go_roundw
      case rel => exact ⟨k + 1, m + ql, by omega, h1, by go_num, by go_num, HM2, trivial⟩
      case measure => simp [intOf]; omega
    · have ek : k = n := by omega
      subst ek
      have hki : ¬ ((k : Int) < k) := by omega
      have hgr := grow_nil m hm wr
      clear HM
      go_wp2_with (first
        | (go_at_call 31; refine hgr.mono ?_; rintro e W1 ⟨v1, rfl, O1, B1⟩; clear hgr))
      have HO1 : Hid (W1.ownsRow wr.heap.size 3 1 v1 0 []) := O1
      obtain ⟨WR, eW⟩ : ∃ W, W = wr := ⟨_, rfl⟩
      subst eW
      clear O1
      go_loopw [6, 27] (fun v i wr => ∃ j : Nat, j ≤ k ∧ i = .int .i64 (j : Int) ∧ Hid (wr.ownsRow WR.heap.size 3 1 v (xss.take j).flatten.length ((xss.take j).flatten.flatMap intE)) ∧ Below WR.heap.size WR wr) (fun _ i _ => k - (intOf i).toNat)
      case atStart => exact ⟨0, Nat.zero_le _, rfl, by show World.ownsRow _ _ _ _ _ _ _; rw [List.take_zero]; exact HO1.out, B1⟩
      case round =>
        obtain ⟨j, hj, rfl, HO, BR⟩ := hrel
        by_cases hlj : j < k
        · have hji : (j : Int) < k := by omega
          obtain ⟨q, hq⟩ : ∃ q, xss[j]? = some q := ⟨_, List.getElem?_eq_getElem (by rw [HL.out]; exact hlj)⟩
          obtain ⟨b, o, a', c', rfl, hb, hc, hseg, hnil⟩ := (HR.out.below BR).at j q hq
          obtain ⟨h1, h2⟩ := HFL.out j q hq
          have HRV : Hid (RowV wr (.slice a' q.length c') q.length (q.flatMap intE)) := ⟨a', c', rfl, hseg, hnil⟩
          have HQ : Hid ((xss.take (j + 1)).flatten = (xss.take j).flatten ++ q) := h2
          generalize (xss.take j).flatten = acc at *
          obtain ⟨av, cv, hv⟩ := own_form HO.out
          subst hv
          obtain ⟨ql, hql⟩ : ∃ l, q.length = l := ⟨_, rfl⟩
          obtain ⟨al, hal⟩ : ∃ l, acc.length = l := ⟨_, rfl⟩
          rw [hql] at hc h1 HRV
          rw [hal] at h1 HO ⊢
          have HQL : Hid (q.length = ql) := hql
          have HAL : Hid (acc.length = al) := hal
          clear hq hseg hnil h2 hql hal
          have hsz := BR.size
          go_wp2_with (first
            | (at_builtin; refine wpList_appM eInt rfl _ _ rfl WR.heap.size (.slice av al cv) al (acc.flatMap intE) rfl HO.out (.slice a' ql c') ql (q.flatMap intE) rfl HRV.out (by rw [int_len, HQL.out]) (int_one q) (by omega) hsz ?_; intro v2 W2 O2 G2; have B2 := grown_below BR hsz HO.out G2))
          go_roundw
          case rel => exact ⟨j + 1, by omega, by go_num, by show World.ownsRow _ _ _ _ _ _ _; rw [HQ.out, List.length_append, HAL.out, HQL.out, List.flatMap_append]; exact O2, B2⟩
          case measure => simp [intOf]; omega
        · have ej : j = k := by omega
          subst ej
          have hji : ¬ ((j : Int) < j) := by omega
          rw [List.take_of_length_le (by rw [HL.out]; exact Nat.le_refl _)] at HO
          have hO := HO.out
          rw [List.length_flatten] at hO
          have HO' : Hid (wr.ownsRow WR.heap.size 3 1 _ (xss.map List.length).sum (xss.flatten.flatMap intE)) := hO
          clear HO hO
          go_wp2
          go_ret
          exact ⟨_, rfl, HO'.out, BR⟩
def cmpI (x y : Int) : Int := if x < y then -1 else if y < x then 1 else 0
set_option maxRecDepth 100000 in
theorem cmpNnan_any (x : Int) (w : World) : Calls Tryd.prog 33 #[.int .i64 x] w fun e w' => e = .returned (.bool false) ∧ w' = w := by
  have h : (x != x) = false := by simp
  go_enter Tryd.func33, Tryd.ntmps33
  go_wp2
  go_ret
  first | exact ⟨rfl, rfl⟩ | exact ⟨by simp, rfl⟩
set_option maxRecDepth 100000 in
theorem cmpN_any (x y : Int) (w : World) : Calls Tryd.prog 32 #[.int .i64 x, .int .i64 y] w fun e w' => e = .returned (.int .i64 (cmpI x y)) ∧ w' = w := by
  by_cases h1 : x < y
  · have hd : decide (x < y) = true := by simpa using h1
    have HC : Hid (cmpI x y = -1) := by show _ = _; unfold cmpI; rw [if_pos h1]
    clear h1
    go_enter Tryd.func32, Tryd.ntmps32
    go_wp2_with (go_at_call 33; refine (cmpNnan_any _ _).mono ?_; rintro e w' ⟨rfl, hw'⟩; replace hw' := hw'.symm; subst hw')
    go_ret
    exact ⟨ret_int HC.out.symm, rfl⟩
  · have hd : decide (x < y) = false := by simpa using h1
    by_cases h2 : y < x
    · have hd2 : decide (y < x) = true := by simpa using h2
      have HC : Hid (cmpI x y = 1) := by show _ = _; unfold cmpI; rw [if_neg h1, if_pos h2]
      clear h1 h2
      go_enter Tryd.func32, Tryd.ntmps32
      go_wp2_with (go_at_call 33; refine (cmpNnan_any _ _).mono ?_; rintro e w' ⟨rfl, hw'⟩; replace hw' := hw'.symm; subst hw')
      go_ret
      exact ⟨ret_int HC.out.symm, rfl⟩
    · have hd2 : decide (y < x) = false := by simpa using h2
      have HC : Hid (cmpI x y = 0) := by show _ = _; unfold cmpI; rw [if_neg h1, if_neg h2]
      clear h1 h2
      go_enter Tryd.func32, Tryd.ntmps32
      go_wp2_with (go_at_call 33; refine (cmpNnan_any _ _).mono ?_; rintro e w' ⟨rfl, hw'⟩; replace hw' := hw'.symm; subst hw')
      go_ret
      exact ⟨ret_int HC.out.symm, rfl⟩
set_option maxRecDepth 100000 in
set_option maxHeartbeats 4000000 in
theorem scompare_any (l m : List Nat) (n c1 c2 : Nat) (a1 a2 : Option Addr) (hl : l.length = n) (hm : m.length = n) (hn : n ≤ 1048576) (w : World) (h1 : Seg w a1 (l.flatMap natE)) (h2 : Seg w a2 (m.flatMap natE)) :
    Calls Tryd.prog 29 #[.slice a1 n c1, .slice a2 n c2] w fun e w' => ∃ z : Int, e = .returned (.int .i64 z) ∧ decide (z < 0) = lexF l m ∧ w' = w := by
  have hC := fun x y W => cmpN_any x y W
  have H1 : Hid (Seg w a1 (l.flatMap natE)) := h1
  have H2 : Hid (Seg w a2 (m.flatMap natE)) := h2
  have HL : Hid (l.length = n) := hl
  have HM : Hid (m.length = n) := hm
  have hnI : (n : Int) ≤ 1048576 := by omega
  clear h1 h2 hl hm
  go_enter Tryd.func29, Tryd.ntmps29
  go_wp2
  go_loop [11] (fun i => ∃ k : Nat, k ≤ n ∧ i = .int .i64 (k : Int) ∧ Hid (LexAt l m k)) (fun i => n - (intOf i).toNat)
  case atStart => exact ⟨0, Nat.zero_le _, rfl, LexAt.zero _ _⟩
  case round =>
    obtain ⟨k, hk, rfl, HE⟩ := hrel
    by_cases hlt : k < n
    · have hki : (k : Int) < n := by omega
      obtain ⟨x, hx⟩ : ∃ e, l[k]? = some e := ⟨_, List.getElem?_eq_getElem (by rw [HL.out]; exact hlt)⟩
      obtain ⟨y, hy⟩ : ∃ e, m[k]? = some e := ⟨_, List.getElem?_eq_getElem (by rw [HM.out]; exact hlt)⟩
      obtain ⟨b1, o1, rfl, hb1, ca⟩ := seg_cell H1.out (nat_at hx)
      obtain ⟨b2, o2, rfl, hb2, cb⟩ := seg_cell H2.out (nat_at hy)
      have HNe : Hid (x ≠ y → lexF l m = decide (x < y)) := fun h => HE.out.ne hx hy h
      have HNx : Hid (x = y → LexAt l m (k + 1)) := fun h => by subst h; exact HE.out.next hx hy
      have hxy := hC (x : Int) (y : Int)
      have HK : Hid (cmpI (x : Int) (y : Int) = if (x : Int) < y then -1 else if (y : Int) < x then 1 else 0) := rfl
      clear HE hC hx hy
      by_cases g1 : x < y
      · rw [HK.out, if_pos (by omega)] at hxy
        have HZ : Hid (lexF l m = true) := by show _ = _; rw [HNe.out (by omega)]; exact decide_eq_true g1
        clear HNe HNx HK g1
        go_wp2_with (go_at_call 32; refine (hxy _).mono ?_; rintro e w' ⟨rfl, hw'⟩; replace hw' := hw'.symm; subst hw')
        go_ret
        exact ⟨_, rfl, by rw [HZ.out]; rfl, rfl⟩
      · by_cases g2 : y < x
        · rw [HK.out, if_neg (by omega), if_pos (by omega)] at hxy
          have HZ : Hid (lexF l m = false) := by show _ = _; rw [HNe.out (by omega)]; exact decide_eq_false g1
          clear HNe HNx HK g1 g2
          go_wp2_with (go_at_call 32; refine (hxy _).mono ?_; rintro e w' ⟨rfl, hw'⟩; replace hw' := hw'.symm; subst hw')
          go_ret
          exact ⟨_, rfl, by rw [HZ.out]; rfl, rfl⟩
        · rw [HK.out, if_neg (by omega), if_neg (by omega)] at hxy
          have HE2 : Hid (LexAt l m (k + 1)) := HNx.out (by omega)
          clear HNe HNx HK g1 g2
          go_wp2_with (go_at_call 32; refine (hxy _).mono ?_; rintro e w' ⟨rfl, hw'⟩; replace hw' := hw'.symm; subst hw')
          go_round
          case rel => exact ⟨k + 1, by omega, by go_num, HE2⟩
          case measure => simp [intOf]; omega
    · have e : k = n := by omega
      subst e
      have HE2 : Hid (lexF l m = false) := HE.out.done (by rw [HL.out]; exact Nat.le_refl _)
      clear hC hlt HE
      go_wp2
      go_ret
      exact ⟨_, rfl, by rw [HE2.out]; rfl, rfl⟩
end Go.Proofs.YtbecabkdnjkkeaaDoor
