/- namesOf, numbersOf, count of the program. -/
import Derived.Test.YtbecabkdnjkkeaaDoorC2
namespace Go.Proofs.YtbecabkdnjkkeaaDoor
open Go Go.RowKit M
set_option linter.unusedSimpArgs false
set_option linter.unusedVariables false

theorem str_one1 (s : ByteArray) : ∀ v ∈ [Value.string s], v.oneCell' = true := by simp [Value.oneCell']
theorem int_one1 (s : Int) : ∀ v ∈ [Value.int .i64 s], v.oneCell' = true := by simp [Value.oneCell']
theorem str_snoc (l : List ByteArray) (s : ByteArray) : (l ++ [s]).flatMap strE = l.flatMap strE ++ [.string s] := by rw [List.flatMap_append, List.flatMap_singleton]; rfl
theorem nat_snoc (l : List Nat) (s : Nat) : (l ++ [s]).flatMap natE = l.flatMap natE ++ [.int .i64 (s : Int)] := by rw [List.flatMap_append, List.flatMap_singleton]; rfl
theorem own_is {W : World} {B b t n : Nat} {cs : List Value} (h : IsS W b t cs) (hb : B ≤ b) (hn : cs.length = n) (hm : n ≤ 4194304) : W.ownsRow B t 1 (.slice (some ⟨b, 0, none⟩) n n) n cs := by
  refine ⟨by omega, .inr ⟨b, n, cs.toArray, rfl, hb, h, Nat.le_refl _, by unfold maxLen; omega, by simp [hn], ?_⟩⟩
  rw [Nat.mul_one]
  have : cs.take n = cs := List.take_of_length_le (by omega)
  simpa using this
theorem made_one (z : Value) (n : Nat) : madeCells #[z] (n * 1) = (List.replicate n z).toArray := by
  apply Array.ext_getElem?
  intro t
  by_cases ht : t < n
  · have h1 : t < n * 1 := by omega
    simp [madeCells, ht, Nat.mod_one]
  · rw [Array.getElem?_eq_none (by simp [size_madeCells]; omega), Array.getElem?_eq_none (by simp; omega)]
section
variable {w : World} {ops : Array Oper} {rest : List Oper} {op : Oper} {a : Act} {Q : Exit → Act → World → Prop} {t T by' : Nat} {z : Value}
theorem exec_make1 (E : Elt t T 1 z by') (hz : z.cells = #[z]) (l c : Operand) (ho : op.op = .makeSlice T l c) (n : Nat) (hn : n ≤ 1048576) (hl : a.eval l = .int .i64 (n : Int)) (hc : a.eval c = .int .i64 (n : Int)) :
    (execOp a.eval op).run Tryd.prog w = .ok (.value (.slice (some ⟨w.heap.size, 0, none⟩) n n)) (w.alloc (.cells (List.replicate n z).toArray t)) := by
  obtain ⟨i0, hi, hz0, hz1, hz2⟩ := E.info
  have hfew := E.few
  have hb : (by' : Int) * (n : Int) ≤ 281474976710656 := by
    have h : by' * n ≤ 1024 * 1048576 := Nat.mul_le_mul hfew hn
    rw [← Int.natCast_mul]
    omega
  have hr := run_make (P := Tryd.prog) w T t i0 _ E.und hi hz0 .i64 .i64 n n (by omega) (by omega) (by rw [hz2]; exact hb) (by omega)
  unfold execOp
  simp only [ho, hl, hc, Sem.run_bind, hr, Result.andThen_ok, Sem.run_pure, hz1, Int.toNat_natCast, hz, made_one]
theorem wpList_make1 (E : Elt t T 1 z by') (hz : z.cells = #[z]) (hgd : op.guard = none) (l c : Operand) (ho : op.op = .makeSlice T l c) (n : Nat) (hn : n ≤ 1048576) (hl : a.eval l = .int .i64 (n : Int)) (hc : a.eval c = .int .i64 (n : Int))
    (h : ∀ W b, Fresh w W b → IsS W b t (List.replicate n z) → wpList Tryd.prog ops Q rest (a.put op.dst (.slice (some ⟨b, 0, none⟩) n n)) W) : wpList Tryd.prog ops Q (op :: rest) a w := by
  refine wpList_plain hgd fun K hK => ?_
  unfold Oper.wp
  rw [exec_make1 E hz l c ho n hn hl hc]
  exact hK _ _ (h _ _ (Fresh.alloc w _) (IsS.new w _ _))
end
theorem seg_cell {w : World} {a : Option Addr} {cs : List Value} (h : Seg w a cs) {j : Nat} {v : Value} (hv : cs[j]? = some v) : ∃ b o, a = some ⟨b, o, none⟩ ∧ b < w.heap.size ∧ w.cell? ⟨b, o + j, none⟩ = some v := h j v hv
/-- The names of the first so many. -/
def partS (ns : List Nat) (k n : Nat) : List Value := ((ns.take k).map nmF).flatMap strE ++ List.replicate (n - k) (.string ⟨#[]⟩)
theorem map_str (l : List Nat) : (l.map nmF).flatMap strE = l.map fun e => Value.string (nmF e) := by
  rw [show (l.map nmF).flatMap strE = (l.map nmF).map Value.string from flat1 _ _, List.map_map]; rfl
theorem partS_len {ns : List Nat} {k n : Nat} (h : ns.length = n) (hk : k ≤ n) : (partS ns k n).length = n := by
  unfold partS; rw [map_str, List.length_append, List.length_map, List.length_take, List.length_replicate]; omega
theorem partS_set {ns : List Nat} {k n e : Nat} (h : ns.length = n) (hk : k < n) (he : ns[k]? = some e) : (partS ns k n).set k (.string (nmF e)) = partS ns (k + 1) n := by
  unfold partS
  rw [map_str, map_str, take_at he, List.map_append]
  have hl : ((ns.take k).map fun e => Value.string (nmF e)).length = k := by rw [List.length_map, List.length_take]; omega
  generalize (ns.take k).map (fun e => Value.string (nmF e)) = X at *
  rw [show n - k = (n - (k + 1)) + 1 by omega, List.replicate_succ, List.append_assoc]
  subst hl
  exact (List.set_append_right _ _ (Nat.le_refl _)).trans (by rw [Nat.sub_self]; rfl)
theorem partS_all {ns : List Nat} {n : Nat} (h : ns.length = n) : partS ns n n = (ns.map nmF).flatMap strE := by
  unfold partS; rw [Nat.sub_self, List.take_of_length_le (by omega), List.replicate_zero, List.append_nil]
set_option maxRecDepth 100000 in
set_option maxHeartbeats 4000000 in
theorem namesOf_any (ns : List Nat) (n c : Nat) (a : Option Addr) (hl : ns.length = n) (hn : n ≤ 1048576) (hv : ∀ x ∈ ns, x < 18) (w : World) (hE : EdAt w) (hS : Seg w a (ns.flatMap natE)) :
    Calls Tryd.prog 19 #[.slice a n c] w fun e w' => ∃ v, e = .returned v ∧ w'.ownsRow w.heap.size 9 1 v n ((ns.map nmF).flatMap strE) ∧ Below w.heap.size w w' := by
  have HL : Hid (ns.length = n) := hl
  have HE : Hid (EdAt w) := hE
  have HS : Hid (Seg w a (ns.flatMap natE)) := hS
  have HV : Hid (∀ x ∈ ns, x < 18) := hv
  have hnI : (n : Int) ≤ 1048576 := by omega
  clear hl hE hS hv
  go_enter Tryd.func19, Tryd.ntmps19
  have ta : True := trivial
  go_wp2_with (first
    | (clear ta; refine wpList_make1 eStr rfl rfl _ _ rfl n hn rfl rfl ?_; intro W1 b F1 I1))
  have HB1 : Hid (Below w.heap.size w W1) := F_b F1
  have hb : w.heap.size ≤ b := by rw [F1.at']; exact Nat.le_refl _
  have HI1 : Hid (IsS W1 b 9 (partS ns 0 n)) := I1
  clear I1 F1
  go_loopw [11] (fun i wr => ∃ k : Nat, k ≤ n ∧ i = .int .i64 (k : Int) ∧ Hid (Below w.heap.size w wr) ∧ Hid (IsS wr b 9 (partS ns k n))) (fun i _ => n - (intOf i).toNat)
  case atStart => exact ⟨0, Nat.zero_le _, rfl, HB1, HI1⟩
  case round =>
    obtain ⟨k, hk, rfl, HB, HI⟩ := hrel
    by_cases hlt : k < n
    · have hki : (k : Int) < n := by omega
      obtain ⟨e, he⟩ : ∃ e, ns[k]? = some e := ⟨_, List.getElem?_eq_getElem (by rw [HL.out]; exact hlt)⟩
      obtain ⟨b1, o1, rfl, hb1, hc⟩ := seg_cell (HS.out.below HB.out) (nat_at he)
      have he18 : e < 18 := HV.out e (List.mem_of_getElem? he)
      have heI : (e : Int) < 18 := by omega
      obtain ⟨h0, _, _, _, _⟩ := (HE.out.below HB.out).cells he18
      have HP : Hid ((partS ns k n).set k (.string (nmF e)) = partS ns (k + 1) n) := partS_set HL.out hlt he
      have hpl : k < (partS ns k n).length := by rw [partS_len HL.out (by omega)]; exact hlt
      have I := HI.out
      clear he
      generalize nmF e = s at *
      go_wp2_with (first
        | (refine wpList_store1 rfl _ _ _ rfl rfl (.string s) rfl I hpl info9 rfl ?_; intro W2 U2 I2))
      go_roundw
      case rel => exact ⟨k + 1, by omega, by go_num, U2.trans HB.out hb, by rw [← HP.out]; exact I2⟩
      case measure => simp [intOf]; omega
    · have e : k = n := by omega
      subst e
      have I := HI.out
      rw [partS_all HL.out] at I
      go_wp2
      go_ret
      exact ⟨_, rfl, own_is I hb (by rw [str_len, List.length_map, HL.out, Nat.mul_one]) (by omega), HB.out⟩
/-- What numbersOf answers. -/
def NumA (w : World) (L : List ByteArray) (e : Ending) (w' : World) : Prop :=
  ∃ v, e = .returned (.tuple #[v, .int .i64 (if badN L < L.length then (badN L : Int) else -1)]) ∧ (badN L < L.length → v = .slice none 0 0) ∧ (badN L = L.length → w'.ownsRow w.heap.size 3 1 v L.length ((L.map nuF).flatMap natE)) ∧ Below w.heap.size w w'
theorem bad_hit {s : ByteArray} {L : List ByteArray} {k : Nat} (hs : L[k]? = some s) (h : nuF s = 18) : badP L k = true := by
  unfold badP; rw [List.getD_eq_getElem?_getD, hs]; simp [h]
theorem bad_miss {s : ByteArray} {L : List ByteArray} {k : Nat} (hs : L[k]? = some s) (h : nuF s < 18) : badP L k = false := by
  unfold badP; rw [List.getD_eq_getElem?_getD, hs]; simp; omega
set_option maxRecDepth 100000 in
set_option maxHeartbeats 4000000 in
theorem numbersOf_any (L : List ByteArray) (n c : Nat) (a : Option Addr) (hl : L.length = n) (hn : n ≤ 1048576) (w : World) (hE : EdAt w) (hS : Seg w a (L.flatMap strE)) :
    Calls Tryd.prog 23 #[.slice a n c] w (NumA w L) := by
  have hC := fun s W h => numberOf_any s W h
  have HL : Hid (L.length = n) := hl
  have HE : Hid (EdAt w) := hE
  have HS : Hid (Seg w a (L.flatMap strE)) := hS
  have hnI : (n : Int) ≤ 1048576 := by omega
  obtain ⟨A, hA⟩ : ∃ A, NumA w L = A := ⟨_, rfl⟩
  have HA1 : Hid (∀ k w', badN L = k → k < n → Below w.heap.size w w' → A (.returned (.tuple #[.slice none 0 0, .int .i64 (k : Int)])) w') := by
    rw [← hA]; intro k w' h1 h2 h3
    exact ⟨_, by rw [if_pos (by omega), h1], fun _ => rfl, fun h => by omega, h3⟩
  have HA2 : Hid (∀ v w', badN L = n → w'.ownsRow w.heap.size 3 1 v n ((L.map nuF).flatMap natE) → Below w.heap.size w w' → A (.returned (.tuple #[v, .int .i64 (-1)])) w') := by
    rw [← hA]; intro v w' h1 h2 h3
    exact ⟨v, by rw [if_neg (by omega)], fun h => by omega, fun _ => by rw [hl]; exact h2, h3⟩
  rw [hA]
  clear hA hE hS hl
  go_enter Tryd.func23, Tryd.ntmps23
  go_wp2
  go_loopw [4, 11] (fun v4 i wr => ∃ k : Nat, k ≤ n ∧ i = .int .i64 (k : Int) ∧ (∃ a4 c4, v4 = .slice a4 k c4) ∧ Hid (Below w.heap.size w wr) ∧ Hid (wr.ownsRow w.heap.size 3 1 v4 k (((L.take k).map nuF).flatMap natE)) ∧ Hid (FstAt (badP L) n k)) (fun _ i _ => n - (intOf i).toNat)
  case atStart => exact ⟨0, Nat.zero_le _, rfl, ⟨_, _, rfl⟩, Below.refl _ _, own_nil _ _ _ _, FstAt.zero _ _⟩
  case round =>
    obtain ⟨k, hk, rfl, ⟨a4, c4, rfl⟩, HB, HO, HF⟩ := hrel
    by_cases hlt : k < n
    · have hki : (k : Int) < n := by omega
      obtain ⟨s, hs⟩ : ∃ s, L[k]? = some s := ⟨_, List.getElem?_eq_getElem (by rw [HL.out]; exact hlt)⟩
      obtain ⟨b1, o1, rfl, hb1, hc⟩ := seg_cell (HS.out.below HB.out) (str_at hs)
      have HR : Hid (EdAt wr) := HE.out.below HB.out
      by_cases hq : nuF s < 18
      · have HN : Hid (FstAt (badP L) n (k + 1)) := HF.out.next hlt (bad_miss hs hq)
        have HM : Hid (((L.take (k + 1)).map nuF).flatMap natE = ((L.take k).map nuF).flatMap natE ++ [.int .i64 (nuF s : Int)]) := by
          show _ = _; rw [take_at hs, List.map_append, List.map_cons, List.map_nil, nat_snoc]
        have hV : ∀ W, EdAt W → Calls Tryd.prog 30 #[.string s] W fun e w' => e = .returned (.tuple #[.int .i64 (nuF s : Int), .bool true]) ∧ Below W.heap.size W w' := fun W h => by
          have := hC s W h
          rwa [noV_yes rfl hq] at this
        clear hs hq hC
        generalize nuF s = u at *
        have tb : True := trivial
        have tc : True := trivial
        have td : True := trivial
        go_wp2_with (first
          | (clear tb; go_at_call 30; refine (hV _ HR.out).mono ?_; rintro e W1 ⟨rfl, B1⟩; have O1 := own_below HO.out B1; have BB1 := Below.then HB.out B1)
          | (clear tc; refine wpList_build1E eInt rfl _ rfl (.int .i64 (u : Int)) rfl rfl ?_; intro W2 b2 F2 I2; have O2 := own_below O1 (F_b F2); have BB2 := Below.then BB1 (F_b F2))
          | (clear td; at_builtin; refine wpList_appM eInt rfl _ _ rfl w.heap.size _ k _ rfl O2 _ 1 _ rfl (row_isS I2) rfl (int_one1 _) (by omega) BB2.size ?_; intro v3 W3 O3 G3))
        have O3' := O3
        rw [← HM.out] at O3'
        obtain ⟨a5, c5, rfl⟩ := own_form O3
        go_roundw
        case rel => exact ⟨k + 1, by omega, by go_num, ⟨_, _, rfl⟩, grown_below BB2 BB2.size O2 G3, O3', HN⟩
        case measure => simp [intOf]; omega
      · have h18 : nuF s = 18 := Nat.le_antisymm (nu_le s) (by omega)
        have HN : Hid (badN L = k) := by
          show fst' _ _ _ = _; rw [HL.out]; exact HF.out.hit hlt (bad_hit hs h18)
        have hV : ∀ W, EdAt W → Calls Tryd.prog 30 #[.string s] W fun e w' => e = .returned (.tuple #[.int .i64 0, .bool false]) ∧ Below W.heap.size W w' := fun W h => by
          have := hC s W h
          rwa [noV_no h18] at this
        clear hs hq hC h18
        have tb : True := trivial
        go_wp2_with (first
          | (clear tb; go_at_call 30; refine (hV _ HR.out).mono ?_; rintro e W1 ⟨rfl, B1⟩; have BB1 := Below.then HB.out B1))
        exact HA1.out k _ HN.out hlt BB1
    · have e : k = n := by omega
      subst e
      have HN : Hid (badN L = k) := by
        show fst' _ _ _ = _; rw [HL.out]; exact HF.out.done (Nat.le_refl _)
      have O := HO.out
      rw [List.take_of_length_le (by rw [HL.out]; exact Nat.le_refl _)] at O
      go_wp2
      exact HA2.out _ _ HN.out O HB.out
set_option maxRecDepth 100000 in
set_option maxHeartbeats 4000000 in
theorem count_goesOut (ns : List Nat) (n c : Nat) (a : Option Addr) (hl : ns.length = n) (hn : n ≤ 1048576) (hv : ∀ x ∈ ns, x < 18) (w : World) (hE : EdAt w) (hS : Seg w a (ns.flatMap natE)) :
    Calls Tryd.prog 25 #[.slice a n c, .func (.func 26) #[] #[]] w fun e w' => e = .returned (.int .i64 (cntF outF ns : Int)) ∧ w' = w := by
  have HC := fun (x : Nat) (h : x < 18) => goesOut_any h w hE
  have HL : Hid (ns.length = n) := hl
  have HS : Hid (Seg w a (ns.flatMap natE)) := hS
  have HV : Hid (∀ x ∈ ns, x < 18) := hv
  have hnI : (n : Int) ≤ 1048576 := by omega
  clear hl hE hS hv
  go_enter Tryd.func25, Tryd.ntmps25
  go_wp2
  go_loop [5, 10] (fun q i => ∃ k : Nat, k ≤ n ∧ i = .int .i64 (k : Int) ∧ q = .int .i64 (cntF outF (ns.take k) : Int)) (fun _ i => n - (intOf i).toNat)
  case atStart => exact ⟨0, Nat.zero_le _, rfl, by rw [List.take_zero]; rfl⟩
  case round =>
    obtain ⟨k, hk, rfl, rfl⟩ := hrel
    by_cases hlt : k < n
    · have hki : (k : Int) < n := by omega
      obtain ⟨e, he⟩ : ∃ e, ns[k]? = some e := ⟨_, List.getElem?_eq_getElem (by rw [HL.out]; exact hlt)⟩
      obtain ⟨b1, o1, rfl, hb1, hc⟩ := seg_cell HS.out (nat_at he)
      have hf := HC e (HV.out e (List.mem_of_getElem? he))
      have HM : Hid (cntF outF (ns.take (k + 1)) = cntF outF (ns.take k) + if outF e then 1 else 0) := by
        show _ = _; rw [take_at he, cnt_snoc]
      have hle : cntF outF (ns.take k) ≤ k := Nat.le_trans (cnt_le _ _) (List.length_take_le _ _)
      have hleI : (cntF outF (ns.take k) : Int) ≤ 1048576 := by omega
      clear he HC
      generalize cntF outF (ns.take k) = q at *
      cases hx : outF e with
      | true =>
        rw [hx] at hf
        have HM1 : Hid (cntF outF (ns.take (k + 1)) = q + 1) := HM.out.trans (by rw [hx]; rfl)
        clear hx HM
        go_wp2_with (first
          | (go_at_call 26; refine hf.mono ?_; rintro e' w' ⟨rfl, hw'⟩; replace hw' := hw'.symm; subst hw'))
        go_round
        case rel => exact ⟨k + 1, by omega, by go_num, by rw [HM1.out]; go_num⟩
        case measure => simp [intOf]; omega
      | false =>
        rw [hx] at hf
        have HM1 : Hid (cntF outF (ns.take (k + 1)) = q) := HM.out.trans (by rw [hx]; rfl)
        clear hx HM
        go_wp2_with (first
          | (go_at_call 26; refine hf.mono ?_; rintro e' w' ⟨rfl, hw'⟩; replace hw' := hw'.symm; subst hw'))
        go_round
        case rel => exact ⟨k + 1, by omega, by go_num, by rw [HM1.out]⟩
        case measure => simp [intOf]; omega
    · have e : k = n := by omega
      subst e
      have HM : Hid (cntF outF (ns.take k) = cntF outF ns) := by show _ = _; rw [List.take_of_length_le (by rw [HL.out]; exact Nat.le_refl _)]
      clear HC
      generalize cntF outF (ns.take k) = q at *
      go_wp2
      go_ret
      exact ⟨ret_int (by rw [HM.out]), rfl⟩
set_option maxRecDepth 100000 in
set_option maxHeartbeats 4000000 in
theorem count_leadsAway (ns : List Nat) (n c : Nat) (a : Option Addr) (hl : ns.length = n) (hn : n ≤ 1048576) (hv : ∀ x ∈ ns, x < 18) (w : World) (hE : EdAt w) (hS : Seg w a (ns.flatMap natE)) :
    Calls Tryd.prog 25 #[.slice a n c, .func (.func 27) #[] #[]] w fun e w' => e = .returned (.int .i64 (cntF awF ns : Int)) ∧ w' = w := by
  have HC := fun (x : Nat) (h : x < 18) => leadsAway_any h w hE
  have HL : Hid (ns.length = n) := hl
  have HS : Hid (Seg w a (ns.flatMap natE)) := hS
  have HV : Hid (∀ x ∈ ns, x < 18) := hv
  have hnI : (n : Int) ≤ 1048576 := by omega
  clear hl hE hS hv
  go_enter Tryd.func25, Tryd.ntmps25
  go_wp2
  go_loop [5, 10] (fun q i => ∃ k : Nat, k ≤ n ∧ i = .int .i64 (k : Int) ∧ q = .int .i64 (cntF awF (ns.take k) : Int)) (fun _ i => n - (intOf i).toNat)
  case atStart => exact ⟨0, Nat.zero_le _, rfl, by rw [List.take_zero]; rfl⟩
  case round =>
    obtain ⟨k, hk, rfl, rfl⟩ := hrel
    by_cases hlt : k < n
    · have hki : (k : Int) < n := by omega
      obtain ⟨e, he⟩ : ∃ e, ns[k]? = some e := ⟨_, List.getElem?_eq_getElem (by rw [HL.out]; exact hlt)⟩
      obtain ⟨b1, o1, rfl, hb1, hc⟩ := seg_cell HS.out (nat_at he)
      have hf := HC e (HV.out e (List.mem_of_getElem? he))
      have HM : Hid (cntF awF (ns.take (k + 1)) = cntF awF (ns.take k) + if awF e then 1 else 0) := by
        show _ = _; rw [take_at he, cnt_snoc]
      have hle : cntF awF (ns.take k) ≤ k := Nat.le_trans (cnt_le _ _) (List.length_take_le _ _)
      have hleI : (cntF awF (ns.take k) : Int) ≤ 1048576 := by omega
      clear he HC
      generalize cntF awF (ns.take k) = q at *
      cases hx : awF e with
      | true =>
        rw [hx] at hf
        have HM1 : Hid (cntF awF (ns.take (k + 1)) = q + 1) := HM.out.trans (by rw [hx]; rfl)
        clear hx HM
        go_wp2_with (first
          | (go_at_call 27; refine hf.mono ?_; rintro e' w' ⟨rfl, hw'⟩; replace hw' := hw'.symm; subst hw'))
        go_round
        case rel => exact ⟨k + 1, by omega, by go_num, by rw [HM1.out]; go_num⟩
        case measure => simp [intOf]; omega
      | false =>
        rw [hx] at hf
        have HM1 : Hid (cntF awF (ns.take (k + 1)) = q) := HM.out.trans (by rw [hx]; rfl)
        clear hx HM
        go_wp2_with (first
          | (go_at_call 27; refine hf.mono ?_; rintro e' w' ⟨rfl, hw'⟩; replace hw' := hw'.symm; subst hw'))
        go_round
        case rel => exact ⟨k + 1, by omega, by go_num, by rw [HM1.out]⟩
        case measure => simp [intOf]; omega
    · have e : k = n := by omega
      subst e
      have HM : Hid (cntF awF (ns.take k) = cntF awF ns) := by show _ = _; rw [List.take_of_length_le (by rw [HL.out]; exact Nat.le_refl _)]
      clear HC
      generalize cntF awF (ns.take k) = q at *
      go_wp2
      go_ret
      exact ⟨ret_int (by rw [HM.out]), rfl⟩
end Go.Proofs.YtbecabkdnjkkeaaDoor
