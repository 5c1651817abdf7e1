/- canonical, Check, Canon of the program. -/
import Derived.Test.YtbecabkdnjkkeaaDoorC5
namespace Go.Proofs.YtbecabkdnjkkeaaDoor
open Go Go.RowKit M
set_option linter.unusedSimpArgs false
set_option linter.unusedVariables false

theorem grow_tailW {id : Nat} {Q : Exit → Act → World → Prop} {a : Act} {W : World} {l : List Oper} (n : Nat) (hm : Tryd.prog.follows .mixedOrders = true) (hB : Region.lexTailB .any l.toArray n = true)
    (h : WG l.toArray W (fun a' => ∀ w', Below W.heap.size W w' → wpList Tryd.prog l.toArray Q (l.drop n) a' w') (l.take n) a) : (Code.region id l.toArray true).wp Tryd.prog Q a W := grow_tail n hm hB h.out
section
variable {w : World} {ops : Array Oper} {rest : List Oper} {op : Oper} {a : Act} {Q : Exit → Act → World → Prop} {t T k by' : Nat} {z : Value}
theorem exec_build2v (E : Elt t T 1 z by') (x y : Operand) (ho : op.op = .buildSlice T 2 #[(0, x), (1, y)]) (u v : Value) (hx : a.eval x = u) (hy : a.eval y = v) (hc : u.oneCell' = true) (hd : v.oneCell' = true) : (execOp a.eval op).run Tryd.prog w = .ok (.value (.slice (some ⟨w.heap.size, 0, none⟩) 2 2)) (w.alloc (.cells #[u, v] t)) := by
  obtain ⟨i, hi, hz, hk, _⟩ := E.info
  have hcu := one_cells hc
  have hcv := one_cells hd
  generalize a.eval = ev at hx hy ⊢
  unfold execOp
  simp only [ho, hx]
  simp [Instr.buildSlice, Instr.fill, run_underlying E.und, sizeOf, typeInfo, zeroValue, hi, hk, hz, hx, hy, hcu, hcv, newRow, show Array.range 2 = #[0, 1] from rfl]
theorem wpList_build2v (E : Elt t T 1 z by') (hgd : op.guard = none) (x y : Operand) (ho : op.op = .buildSlice T 2 #[(0, x), (1, y)]) (u v : Value) (hx : a.eval x = u) (hy : a.eval y = v) (hc : u.oneCell' = true) (hd : v.oneCell' = true)
    (h : ∀ W b, Fresh w W b → IsS W b t [u, v] → wpList Tryd.prog ops Q rest (a.put op.dst (.slice (some ⟨b, 0, none⟩) 2 2)) W) : wpList Tryd.prog ops Q (op :: rest) a w := by
  refine wpList_plain hgd fun K hK => ?_
  unfold Oper.wp
  rw [exec_build2v E x y ho u v hx hy hc hd]
  exact hK _ _ (h _ _ (Fresh.alloc w _) (IsS.new w _ _))
end
theorem eIntss : Elt 37 58 1 (.slice none 0 0) 24 := ⟨Tryd.underlying58, info_parts (by kernel_rfl), rfl, by decide, by decide⟩
theorem seg_dropN {W : World} {g o k : Nat} {cs : List Value} (h : Seg W (some ⟨g, o, none⟩) cs) : Seg W (some ⟨g, o + k, none⟩) (cs.drop k) := fun j v hv => by
  rw [List.getElem?_drop] at hv
  obtain ⟨b, o', e, h2, h3⟩ := h _ v hv
  cases e
  exact ⟨g, o + k, rfl, h2, by rw [Nat.add_assoc]; exact h3⟩
theorem seg_takeN {W : World} {a : Option Addr} {cs : List Value} (h : Seg W a cs) (n : Nat) : Seg W a (cs.take n) := fun j v hv => by
  rw [List.getElem?_take] at hv
  split at hv
  · exact h j v hv
  · cases hv
theorem nat_map (l : List Nat) : l.flatMap natE = l.map fun n : Nat => Value.int .i64 (n : Int) := flat1 _ l
theorem nat_drop (l : List Nat) (k : Nat) : (l.flatMap natE).drop k = (l.drop k).flatMap natE := by rw [nat_map, nat_map, List.map_drop]
theorem nat_take (l : List Nat) (k : Nat) : (l.flatMap natE).take k = (l.take k).flatMap natE := by rw [nat_map, nat_map, List.map_take]
theorem nat_len (l : List Nat) : (l.flatMap natE).length = l.length := by rw [nat_map, List.length_map]
def castL (l : List Nat) : List Int := l.map fun n : Nat => (n : Int)
theorem rows_two {w : World} {b : Nat} {u v : Value} {xs ys : List Nat} (hI : IsS w b 37 [u, v]) (hu : RowV w u xs.length (xs.flatMap natE)) (hv : RowV w v ys.length (ys.flatMap natE)) : RowsV w (.slice (some ⟨b, 0, none⟩) 2 2) intE [castL xs, castL ys] := by
  rw [nat_int] at hu hv
  refine ⟨[u, v], rfl, row_isS hI, fun j u' zs hj hz => ?_⟩
  match j with
  | 0 => simp at hj hz; subst hj hz; unfold castL; rw [List.length_map]; exact hu
  | 1 => simp at hj hz; subst hj hz; unfold castL; rw [List.length_map]; exact hv
  | j + 2 => simp at hj
/-- Concat of two. -/
theorem concat2_any (xs ys : List Nat) (n b : Nat) (hn : (xs ++ ys).length = n) (h16 : n ≤ 1048576) (w : World) (u v : Value) (hI : IsS w b 37 [u, v]) (hu : RowV w u xs.length (xs.flatMap natE)) (hv : RowV w v ys.length (ys.flatMap natE)) :
    Calls Tryd.prog 28 #[.slice (some ⟨b, 0, none⟩) 2 2] w fun e w' => ∃ v, e = .returned v ∧ w'.ownsRow w.heap.size 3 1 v n ((xs ++ ys).flatMap natE) ∧ Below w.heap.size w w' := by
  have hf : [castL xs, castL ys].flatten = castL (xs ++ ys) := by simp [castL]
  have hl : (castL (xs ++ ys)).length = n := by unfold castL; rw [List.length_map]; exact hn
  have := concat_any [castL xs, castL ys] 2 2 (some ⟨b, 0, none⟩) rfl (by decide) (by rw [hf, hl]; exact h16) w (rows_two hI hu hv)
  rw [hf, hl] at this
  rw [nat_int (xs ++ ys)]
  exact this
/-- The best so far, in memory. -/
def BestV (w : World) (B : Nat) (v : Value) (n : Nat) : Option (List Nat) → Prop
  | none => v = .slice none 0 0
  | some b => ∃ g c, v = .slice (some ⟨g, 0, none⟩) n c ∧ w.ownsRow B 3 1 v n (b.flatMap natE)
theorem BestV.below {w W : World} {B n : Nat} {v : Value} {o : Option (List Nat)} (h : BestV w B v n o) (hB : Below w.heap.size w W) : BestV W B v n o := by
  cases o with
  | none => exact h
  | some b => obtain ⟨g, c, e, h2⟩ := h; exact ⟨g, c, e, own_below h2 hB⟩
theorem own_openN {W : World} {B t s n : Nat} {v : Value} {xs : List Value} (h : W.ownsRow B t s v n xs) (h0 : 0 < n) : ∃ g c, v = .slice (some ⟨g, 0, none⟩) n c := by
  rcases h.2 with ⟨h1, h2⟩ | ⟨g, cap, cur, hv, hg, hh, hc, _⟩
  · omega
  · exact ⟨g, cap, hv⟩
theorem own_formC {W : World} {B t s n : Nat} {v : Value} {xs : List Value} (h : W.ownsRow B t s v n xs) : ∃ a c, n ≤ c ∧ v = .slice a n c := by
  rcases h.2 with ⟨h1, h2⟩ | ⟨g, cap, cur, hv, hg, hh, hc, _⟩
  · exact ⟨none, 0, by omega, by rw [h1, h2]⟩
  · exact ⟨_, cap, hc, hv⟩
theorem best_row {w : World} {B n : Nat} {v : Value} {o : Option (List Nat)} {cn : List Nat} (h : BestV w B v n o) (e : cn = o.getD []) (hn : n ≤ 1048576) : ∃ a c m, v = .slice a m c ∧ Seg w a (cn.flatMap natE) ∧ cn.length = m ∧ m ≤ 1048576 := by
  cases o with
  | none => exact ⟨none, 0, 0, h, by rw [e]; exact Seg.nil _ _, by rw [e]; rfl, by omega⟩
  | some b =>
    obtain ⟨g, c, rfl, h2⟩ := h
    have e2 : cn = b := e
    subst e2
    have := h2.1
    rw [nat_len, Nat.mul_one] at this
    exact ⟨_, c, n, rfl, own_seg h2, this, hn⟩
set_option maxRecDepth 100000 in
set_option maxHeartbeats 8000000 in
theorem canonical_any (ns : List Nat) (n c : Nat) (a : Option Addr) (hl : ns.length = n) (hn : n ≤ 1048576) (hc : n ≤ c) (hv : ∀ x ∈ ns, x < 18) (w : World) (hE : EdAt w) (hS : Seg w a (ns.flatMap natE)) :
    Calls Tryd.prog 20 #[.slice a n c] w fun e w' => ∃ v, e = .returned v ∧ BestV w' w.heap.size v n (bst ns n) ∧ Below w.heap.size w w' := by
  have HL : Hid (ns.length = n) := hl
  have HE : Hid (EdAt w) := hE
  have HS : Hid (Seg w a (ns.flatMap natE)) := hS
  have HV : Hid (∀ x ∈ ns, x < 18) := hv
  have hnI : (n : Int) ≤ 1048576 := by omega
  clear hl hE hS hv
  go_enter Tryd.func20, Tryd.ntmps20
  go_wp2
  go_loopw [3, 8] (fun v i wr => ∃ k : Nat, k ≤ n ∧ i = .int .i64 (k : Int) ∧ Hid (Below w.heap.size w wr) ∧ Hid (BestV wr w.heap.size v n (bst ns k))) (fun _ i _ => n - (intOf i).toNat)
  case atStart => exact ⟨0, Nat.zero_le _, rfl, Below.refl _ _, (rfl : _ = _)⟩
  case round =>
    obtain ⟨k, hk, rfl, HB, HF⟩ := hrel
    rename_i v3
    by_cases hlt : k < n
    · have hki : (k : Int) < n := by omega
      have hA := fun W => ahead_any n k c a hlt (by omega) W
      have hpN : prv n k < n := prv_lt (by omega)
      have hpI : (prv n k : Int) < n := by omega
      obtain ⟨x, hx⟩ : ∃ x, ns[prv n k]? = some x := ⟨_, List.getElem?_eq_getElem (by rw [HL.out]; exact hpN)⟩
      obtain ⟨b1, o1, rfl, hb1, hc1⟩ := seg_cell (HS.out.below HB.out) (nat_at hx)
      have hxN : x < 18 := HV.out x (List.mem_of_getElem? hx)
      have hG := goesOut_any hxN wr (HE.out.below HB.out)
      have HX : Hid (ns.getD (prv ns.length k) 0 = x) := by show _ = _; rw [HL.out, List.getD_eq_getElem?_getD, hx]; rfl
      clear hx
      generalize prv n k = p at *
      cases ho : outF x with
      | false =>
        have HK : Hid (bst ns (k + 1) = bst ns k) := bst_no (by rw [HX.out]; exact ho)
        rw [ho] at hG
        go_wp2_with (first
          | (go_at_call 24; refine (hA _).mono ?_; rintro e' w' ⟨rfl, hw'⟩; replace hw' := hw'.symm; subst hw')
          | (go_at_call 26; refine hG.mono ?_; rintro e' w' ⟨rfl, hw'⟩; replace hw' := hw'.symm; subst hw'))
        go_roundw
        case rel => exact ⟨k + 1, by omega, by go_num, HB, by rw [HK.out]; exact HF⟩
        case measure => simp [intOf]; omega
      | true =>
        rw [ho] at hG
        go_wp2_with (first
          | (go_at_call 24; refine (hA _).mono ?_; rintro e' w' ⟨rfl, hw'⟩; replace hw' := hw'.symm; subst hw')
          | (go_at_call 26; refine hG.mono ?_; rintro e' w' ⟨rfl, hw'⟩; replace hw' := hw'.symm; subst hw'))
        have HSR : Hid (Seg wr (some ⟨b1, o1, none⟩) (ns.flatMap natE)) := HS.out.below HB.out
        have hkn : (k : Int) ≤ n := by omega
        have hknN : k ≤ n := hk
        have hkcN : k ≤ c := by omega
        have hkc : (k : Int) ≤ c := by omega
        have hnc : (n : Int) ≤ c := by omega
        have hck : ¬ c = k := by omega
        have hck2 : ¬ (c - k = 0) := by omega
        refine grow_tailW 6 (by kernel_rfl) (by kernel_rfl) ?_
        refine WG.put rfl (v := .slice (some ⟨b1, o1, none⟩) n c) (fun w => by first | rfl | (go_simp; done) | (simp [go_sem]; done) | (simp [execOp, go_sem]; done)) ?_
        simp only [Act.put, List.setIfInBounds_toArray, List.set_cons_succ, List.set_cons_zero]
        refine WG.put rfl (v := .int .i64 (k : Int)) (fun w => by first | rfl | (go_simp; done) | (simp [go_sem]; done) | (simp [execOp, go_sem]; done)) ?_
        simp only [Act.put, List.setIfInBounds_toArray, List.set_cons_succ, List.set_cons_zero]
        refine WG.put rfl (v := .slice (some ⟨b1, o1 + k, none⟩) (n - k) (c - k)) (fun w => by first | rfl | (go_simp; done) | (simp [go_sem, hkn, hknN, hkcN, hkc, hnc, hck, hc, hck2]; done) | (simp [execOp, go_sem, hkn, hknN, hkcN, hkc, hnc, hck, hc, hck2]; done)) ?_
        simp only [Act.put, List.setIfInBounds_toArray, List.set_cons_succ, List.set_cons_zero]
        refine WG.put rfl (v := .slice (some ⟨b1, o1, none⟩) n c) (fun w => by first | rfl | (go_simp; done) | (simp [go_sem]; done) | (simp [execOp, go_sem]; done)) ?_
        simp only [Act.put, List.setIfInBounds_toArray, List.set_cons_succ, List.set_cons_zero]
        refine WG.put rfl (v := .int .i64 (k : Int)) (fun w => by first | rfl | (go_simp; done) | (simp [go_sem]; done) | (simp [execOp, go_sem]; done)) ?_
        simp only [Act.put, List.setIfInBounds_toArray, List.set_cons_succ, List.set_cons_zero]
        refine WG.put rfl (v := .slice (some ⟨b1, o1, none⟩) k c) (fun w => by first | rfl | (go_simp; done) | (simp [go_sem, hkn, hknN, hkcN, hkc, hnc, hck, hc, hck2]; done) | (simp [execOp, go_sem, hkn, hknN, hkcN, hkc, hnc, hck, hc, hck2]; done)) ?_
        simp only [Act.put, List.setIfInBounds_toArray, List.set_cons_succ, List.set_cons_zero]
        refine WG.nil ?_
        intro W5 B5
        simp only [List.drop_succ_cons, List.drop_zero]
        refine wpList_build2v eIntss rfl _ _ rfl (.slice (some ⟨b1, o1 + k, none⟩) (n - k) (c - k)) (.slice (some ⟨b1, o1, none⟩) k c) rfl rfl rfl rfl ?_
        intro W6 b6 F6 I6
        simp only [Act.put, List.setIfInBounds_toArray, List.set_cons_succ, List.set_cons_zero]
        have HB6 : Hid (Below w.heap.size w W6) := Below.then (Below.then HB.out B5) (F_b F6)
        have HS6 : Seg W6 (some ⟨b1, o1, none⟩) (ns.flatMap natE) := (HSR.out.below B5).below (F_b F6)
        have h1 : (ns.drop k).length = n - k := by rw [List.length_drop, HL.out]
        have h2 : (ns.take k).length = k := by rw [List.length_take, HL.out]; omega
        have hcc := concat2_any (ns.drop k) (ns.take k) n b6 (by rw [List.length_append, h1, h2]; omega) hn W6 _ _ I6 (by rw [h1, ← nat_drop]; exact ⟨_, _, rfl, seg_dropN HS6, fun e => by cases e⟩) (by rw [h2, ← nat_take]; exact ⟨_, _, rfl, seg_takeN HS6 _, fun e => by cases e⟩)
        change Calls _ _ _ _ (fun e w' => ∃ v, e = .returned v ∧ w'.ownsRow W6.heap.size 3 1 v n ((turnN ns k).flatMap natE) ∧ Below W6.heap.size W6 w') at hcc
        have HF6 : Hid (BestV W6 w.heap.size u3 n (bst ns k)) := (HF.out.below B5).below (F_b F6)
        have HTL : Hid ((turnN ns k).length = n) := by show _ = _; rw [turn_len, HL.out]
        have HKF : Hid (bst ns k = none → bst ns (k + 1) = some (turnN ns k)) := fun e => bst_first (by rw [HX.out]; exact ho) e
        have HKL : Hid (∀ b, bst ns k = some b → lexF (turnN ns k) b = true → bst ns (k + 1) = some (turnN ns k)) := fun b e h => bst_less (by rw [HX.out]; exact ho) e h
        have HKK : Hid (∀ b, bst ns k = some b → lexF (turnN ns k) b = false → bst ns (k + 1) = some b) := fun b e h => bst_keep (by rw [HX.out]; exact ho) e h
        have HBL : Hid (∀ b, bst ns k = some b → b.length = n) := fun b e => by rw [(bst_in k b e).1, HL.out]
        clear h1 h2 HS6 I6 F6 hnI hkn hknN hkcN hkc hnc hck hck2 hc1 hA hG HF HB B5 HSR HX
        generalize turnN ns k = tn at *
        have h0n : 0 < n := by omega
        cases hb : bst ns k with
        | none =>
          have e3 : u3 = .slice none 0 0 := by have := HF6.out; rw [hb] at this; exact this
          subst e3
          have HK := HKF.out hb
          have HKn : Hid (bst ns (k + 1) = some tn) := HK
          clear HK HKF HKL HKK HBL HF6 hb
          have hq : ∀ w, (binOp .eql 37 (.slice none 0 0) (.slice none 0 0)).run Tryd.prog w = .ok (.bool true) w := fun w => Lib.run_eql_slice_nil w _ _ none 0 0 0 0 Tryd.underlying37
          have t1 : True := trivial
          go_wp2_with (first
            | (clear t1; go_at_call 28; refine hcc.mono ?_; rintro e W7 ⟨v7, rfl, O7, B7⟩; obtain ⟨g7, c7, rfl⟩ := own_openN O7 h0n))
          go_roundw
          case rel => exact ⟨k + 1, by omega, by go_num, Below.then HB6.out B7, by rw [HKn.out]; exact ⟨_, _, rfl, own_raise O7 HB6.out.size⟩⟩
          case measure => simp [intOf]; omega
        | some b =>
          have hbv := HF6.out
          rw [hb] at hbv
          obtain ⟨g3, c3, rfl, O3⟩ := hbv
          have HO3 : Hid (W6.ownsRow w.heap.size 3 1 (.slice (some ⟨g3, 0, none⟩) n c3) n (b.flatMap natE)) := O3
          have hbl := HBL.out b hb
          have hq : ∀ w, (binOp .eql 37 (.slice (some ⟨g3, 0, none⟩) n c3) (.slice none 0 0)).run Tryd.prog w = .ok (.bool false) w := fun w => Lib.run_eql_slice_nil w _ _ (some ⟨g3, 0, none⟩) n c3 0 0 Tryd.underlying37
          have hcmp := fun W (cc gg : Nat) h1 h2 => scompare_any tn b n cc c3 (some ⟨gg, 0, none⟩) (some ⟨g3, 0, none⟩) HTL.out hbl hn W h1 h2
          cases hlx : lexF tn b with
          | true =>
            have HKn : Hid (bst ns (k + 1) = some tn) := HKL.out b hb hlx
            simp only [hlx] at hcmp
            clear HKF HKL HKK HBL HF6 hb hbl hlx O3
            have t1 : True := trivial
            have t2 : True := trivial
            go_wp2_with (first
              | (clear t1; go_at_call 28; refine hcc.mono ?_; rintro e W7 ⟨v7, rfl, O7, B7⟩; obtain ⟨g7, c7, rfl⟩ := own_openN O7 h0n)
              | (clear t2; go_at_call 29; refine (hcmp _ c7 g7 (own_seg O7) (own_seg (own_below HO3.out B7))).mono ?_; rintro e' w' ⟨z, rfl, hz, hw'⟩; replace hw' := hw'.symm; subst hw'))
            go_roundw
            case rel => exact ⟨k + 1, by omega, by go_num, Below.then HB6.out B7, by rw [HKn.out]; exact ⟨_, _, rfl, own_raise O7 HB6.out.size⟩⟩
            case measure => simp [intOf]; omega
          | false =>
            have HKn : Hid (bst ns (k + 1) = some b) := HKK.out b hb hlx
            simp only [hlx] at hcmp
            clear HKF HKL HKK HBL HF6 hb hbl hlx O3
            have t1 : True := trivial
            have t2 : True := trivial
            go_wp2_with (first
              | (clear t1; go_at_call 28; refine hcc.mono ?_; rintro e W7 ⟨v7, rfl, O7, B7⟩; obtain ⟨g7, c7, rfl⟩ := own_openN O7 h0n)
              | (clear t2; go_at_call 29; refine (hcmp _ c7 g7 (own_seg O7) (own_seg (own_below HO3.out B7))).mono ?_; rintro e' w' ⟨z, rfl, hz, hw'⟩; replace hw' := hw'.symm; subst hw'))
            go_roundw
            case rel => exact ⟨k + 1, by omega, by go_num, Below.then HB6.out B7, by rw [HKn.out]; exact ⟨_, _, rfl, own_below HO3.out B7⟩⟩
            case measure => simp [intOf]; omega
    · have e : k = n := by omega
      subst e
      go_wp2
      go_ret
      exact ⟨_, rfl, HF.out, HB.out⟩
set_option maxRecDepth 100000 in
set_option maxHeartbeats 4000000 in
theorem check_any (L : List ByteArray) (n c : Nat) (a : Option Addr) (hl : L.length = n) (hn : n ≤ 8796093022208) (w : World) (hE : EdAt w) (hS : Seg w a (L.flatMap strE)) :
    Calls Tryd.prog 5 #[.slice a n c] w fun e w' => e = .returned (.tuple #[.int .i64 ((chk L).1 : Int), .int .i64 (chk L).2]) ∧ Below w.heap.size w w' := by
  have hC := checked_any L n c a hl hn w hE hS
  unfold ChkA at hC
  generalize (chk L).1 = i at *
  generalize (chk L).2 = z at *
  go_enter Tryd.func5, Tryd.ntmps5
  go_wp2_with (first
    | (go_at_call 13; refine hC.mono ?_; rintro e W1 ⟨v, rfl, _, B1⟩))
  exact bodyPost_ret (v := .tuple #[.int .i64 (i : Int), .int .i64 z]) (by simp [results, Tryd.results5, go_sem]) rfl ⟨rfl, B1⟩
/-- What Canon answers. -/
def CanA (w : World) (L : List ByteArray) (e : Ending) (w' : World) : Prop :=
  ∃ v, e = .returned (.tuple #[v, .int .i64 (chk L).2]) ∧ w'.ownsRow w.heap.size 9 1 v (canS L).length ((canS L).flatMap strE) ∧ Below w.heap.size w w'
theorem bst_lt {L : List ByteArray} (h : ∀ s ∈ L, nuF s < 18) : ∀ x ∈ canN L, x < 18 := by
  unfold canN
  cases hb : bst (L.map nuF) L.length with
  | none => intro x hx; cases hx
  | some b =>
    intro x hx
    obtain ⟨s, hs, rfl⟩ := List.mem_map.1 ((bst_in _ _ hb).2 x hx)
    exact h s hs
set_option maxRecDepth 100000 in
set_option maxHeartbeats 4000000 in
theorem canon_any (L : List ByteArray) (n c : Nat) (a : Option Addr) (hl : L.length = n) (hn : n ≤ 8796093022208) (w : World) (hE : EdAt w) (hS : Seg w a (L.flatMap strE)) :
    Calls Tryd.prog 7 #[.slice a n c] w (CanA w L) := by
  have hC := checked_any L n c a hl hn w hE hS
  unfold ChkA at hC
  have HE : Hid (EdAt w) := hE
  clear hE hS
  by_cases hz : (chk L).2 = 0
  · obtain ⟨h16, h2, hlt⟩ := chk_zero hz
    have HCS : Hid (canS L = (canN L).map nmF) := if_pos hz
    have HNL : Hid ((L.map nuF).length = n) := by show _ = _; rw [List.length_map]; exact hl
    have HV : Hid (∀ x ∈ L.map nuF, x < 18) := fun x hx => by obtain ⟨s, hs, rfl⟩ := List.mem_map.1 hx; exact hlt s hs
    have HV2 : Hid (∀ x ∈ canN L, x < 18) := bst_lt hlt
    obtain ⟨A, hA⟩ : ∃ A, CanA w L = A := ⟨_, rfl⟩
    have HA : Hid (∀ v w', w'.ownsRow w.heap.size 9 1 v (canN L).length (((canN L).map nmF).flatMap strE) → Below w.heap.size w w' → A (.returned (.tuple #[v, .int .i64 0])) w') := by
      rw [← hA]; intro v w' h1 h2
      exact ⟨v, by rw [hz], by rw [HCS.out, List.length_map]; exact h1, h2⟩
    rw [hA]
    have HCN : Hid (canN L = (bst (L.map nuF) n).getD []) := by show _ = _; unfold canN; rw [hl]
    rw [hl] at hC h16
    clear hA HCS hl h2 hlt
    have hC2 : Calls Tryd.prog 13 #[.slice a n c] w fun e w' => ∃ v, e = .returned (.tuple #[v, .int .i64 ((chk L).1 : Int), .int .i64 0]) ∧ w'.ownsRow w.heap.size 3 1 v n ((L.map nuF).flatMap natE) ∧ Below w.heap.size w w' :=
      hC.mono fun e w' ⟨v, h1, h2, h3⟩ => ⟨v, by rw [h1, hz], h2 hz, h3⟩
    clear hC hz
    generalize (chk L).1 = i at *
    generalize L.map nuF = ns at *
    generalize canN L = cn at *
    have hz0 : ((0 : Int) != 0) = false := rfl
    have t1 : True := trivial
    have t2 : True := trivial
    have t3 : True := trivial
    go_enter Tryd.func7, Tryd.ntmps7
    go_wp2_with (first
      | (clear t1; go_at_call 13; refine hC2.mono ?_; rintro e W1 ⟨v, rfl, O1, B1⟩; obtain ⟨a1, c1, hcc, rfl⟩ := own_formC O1)
      | (clear t2; go_at_call 20; refine (canonical_any ns n c1 a1 HNL.out (by omega) hcc HV.out W1 (HE.out.below B1) (own_seg O1)).mono ?_; rintro e W2 ⟨v2, rfl, F2, B2⟩; obtain ⟨a2, c2, m2, rfl, S2, L2, hm2⟩ := best_row F2 HCN.out (by omega); have B02 := Below.then B1 B2)
      | (clear t3; go_at_call 19; refine (namesOf_any cn m2 c2 a2 L2 hm2 HV2.out W2 (HE.out.below B02) S2).mono ?_; rintro e W3 ⟨v3, rfl, O3, B3⟩))
    exact (HA.out _ _ (by rw [L2]; exact own_raise O3 B02.size) (Below.then B02 B3))
  · have hne : ((chk L).2 != 0) = true := by simpa using hz
    have HCS : Hid (canS L = []) := if_neg hz
    obtain ⟨A, hA⟩ : ∃ A, CanA w L = A := ⟨_, rfl⟩
    have HA : Hid (∀ w', Below w.heap.size w w' → A (.returned (.tuple #[.slice none 0 0, .int .i64 (chk L).2])) w') := by
      rw [← hA]; intro w' h2
      exact ⟨_, rfl, by rw [HCS.out]; exact own_nil _ _ _ _, h2⟩
    rw [hA]
    clear hA HCS hz hl
    generalize (chk L).1 = i at *
    generalize (chk L).2 = z at *
    go_enter Tryd.func7, Tryd.ntmps7
    go_wp2_with (first
      | (go_at_call 13; refine hC.mono ?_; rintro e W1 ⟨v, rfl, _, B1⟩))
    exact HA.out _ B1
end Go.Proofs.YtbecabkdnjkkeaaDoor
