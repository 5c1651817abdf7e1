/- What the laws' helpers answer: Same of the same, Lent, Back, Spoil, few. -/
import Derived.Test.YtbhgchhoeokjhaaRS
namespace Go.Proofs.Ytbhgchhoeokjhaa
open Go Go.RowKit M
set_option linter.unusedSimpArgs false
set_option linter.unusedVariables false

theorem seg_elem {w : World} {a : Option Addr} {l : List FS} (h : Seg w a (flatF l)) (j : Nat) (hj : j < l.length) : ∃ b o, a = some ⟨b, o, none⟩ ∧ b < w.heap.size ∧ w.rangeAt b (o + j * 49) (encF (l.getD j FS.zero)) := by
  rw [getD_at l j hj]; exact seg_at h j hj
set_option maxRecDepth 100000 in
set_option maxHeartbeats 2000000 in
theorem same_same (a1 a2 : Option Addr) (c1 c2 : Nat) (l : List FS) (hn : l.length ≤ 4611686018427387903) (w : World) (h1 : Seg w a1 (flatF l)) (h2 : Seg w a2 (flatF l)) :
    Calls Try.prog 18 #[.slice a1 l.length c1, .slice a2 l.length c2] w fun e w' => e = .returned (.bool true) ∧ Below w.heap.size w w' := by
  have hsz : ((l.length : Nat) : Int) ≤ 4611686018427387903 := by omega
  go_enter Try.func18, Try.ntmps18
  go_wp2
  go_loopw [5] (fun i wr => ∃ k : Nat, k ≤ l.length ∧ i = .int .i64 (k : Int) ∧ Below w.heap.size w wr) (fun i _ => l.length - (intOf i).toNat)
  case atStart => exact ⟨0, Nat.zero_le _, rfl, Below.refl _ _⟩
  case round =>
    obtain ⟨k, hk, rfl, BR⟩ := hrel
    by_cases hlt : k < l.length
    · obtain ⟨b1, o1, rfl, HB1, HX1⟩ := seg_elem (h1.below BR) k hlt
      obtain ⟨b2, o2, rfl, HB2, HX2⟩ := seg_elem (h2.below BR) k hlt
      have hiX : (k : Int) < (l.length : Int) := by omega
      generalize l.getD k FS.zero = X at *
      clear h1 h2
      go_wp2
      refine grow_allW (by kernel_rfl) (by kernel_rfl) ?_
      refine WG.put rfl (v := .slice (some ⟨b1, o1, none⟩) l.length c1) (fun w => by first | rfl | (go_simp; done) | (simp [go_sem]; done)) ?_
      simp only [Act.put, List.setIfInBounds_toArray, List.set_cons_succ, List.set_cons_zero]
      refine WG.put rfl (v := .int .i64 (k : Int)) (fun w => by first | rfl | (go_simp; done) | (simp [go_sem]; done)) ?_
      simp only [Act.put, List.setIfInBounds_toArray, List.set_cons_succ, List.set_cons_zero]
      refine WG.put rfl (v := .pointer (some ⟨b1, o1 + k * 49, none⟩)) (fun w => by first | rfl | (go_simp; done) | (simp [go_sem, hiX]; done)) ?_
      simp only [Act.put, List.setIfInBounds_toArray, List.set_cons_succ, List.set_cons_zero]
      refine WG.elem (x := X) rfl _ rfl rfl HB1 HX1 ?_
      simp only [Act.put, List.setIfInBounds_toArray, List.set_cons_succ, List.set_cons_zero]
      refine WG.put rfl (v := .slice (some ⟨b2, o2, none⟩) l.length c2) (fun w => by first | rfl | (go_simp; done) | (simp [go_sem]; done)) ?_
      simp only [Act.put, List.setIfInBounds_toArray, List.set_cons_succ, List.set_cons_zero]
      refine WG.put rfl (v := .int .i64 (k : Int)) (fun w => by first | rfl | (go_simp; done) | (simp [go_sem]; done)) ?_
      simp only [Act.put, List.setIfInBounds_toArray, List.set_cons_succ, List.set_cons_zero]
      refine WG.put rfl (v := .pointer (some ⟨b2, o2 + k * 49, none⟩)) (fun w => by first | rfl | (go_simp; done) | (simp [go_sem, hiX]; done)) ?_
      simp only [Act.put, List.setIfInBounds_toArray, List.set_cons_succ, List.set_cons_zero]
      refine WG.elem (x := X) rfl _ rfl rfl HB2 HX2 ?_
      simp only [Act.put, List.setIfInBounds_toArray, List.set_cons_succ, List.set_cons_zero]
      refine WG.neqF rfl _ _ rfl rfl rfl false (by simp) ?_
      simp only [Act.put, List.setIfInBounds_toArray, List.set_cons_succ, List.set_cons_zero]
      refine WG.nil ?_
      intro w5 B5
      clear HX1 HX2
      go_wp2
      go_roundw
      case rel => exact ⟨k + 1, by omega, by go_num, Below.then BR B5⟩
      case measure => simp [intOf]; omega
    · have e : k = l.length := by omega
      subst e
      clear h1 h2 hlt
      go_wp2
      go_ret
      exact ⟨rfl, BR⟩
theorem few_any (a1 a2 : Option Addr) (n1 n2 c1 c2 : Nat) (h1 : n1 ≤ 4611686018427387903) (h2 : n2 ≤ 4611686018427387903) (w : World) :
    Calls Try.prog 7 #[.slice a1 n1 c1, .slice a2 n2 c2] w fun e w' => e = .returned (.bool (decide (n1 + n2 ≤ 4000))) ∧ w' = w := by
  have g1 : (n1 : Int) ≤ 4611686018427387903 := by omega
  have g2 : (n2 : Int) ≤ 4611686018427387903 := by omega
  by_cases h : n1 + n2 ≤ 4000
  · have hd : (n1 : Int) + (n2 : Int) ≤ 4000 := by omega
    rw [decide_eq_true h]
    go_enter Try.func7, Try.ntmps7
    go_wp2
    go_ret
    exact ⟨ret_bool (by first | rfl | (simp; done) | (simp; omega)), rfl⟩
  · have hd : ¬ ((n1 : Int) + (n2 : Int) ≤ 4000) := by omega
    rw [decide_eq_false h]
    go_enter Try.func7, Try.ntmps7
    go_wp2
    go_ret
    exact ⟨ret_bool (by first | rfl | (simp; done) | (simp; omega)), rfl⟩
/-- The holder's mark. -/
def m7 : FS := mkF (-7) []
/-- A list that is lent: in memory of its own, with its holder's mark behind it. -/
def Lnt (w : World) (g : Nat) (l : List FS) : Prop := IsS w g 25 (flatF (l ++ [m7]))
theorem lnt_row {w : World} {g : Nat} {l : List FS} (h : Lnt w g l) : RowC (flatF (l ++ [m7])) (l ++ [m7]) := by
  unfold RowC; rw [List.take_of_length_le (by rw [flatF_len]; exact Nat.le_refl _)]
theorem lnt_seg {w : World} {g : Nat} {l : List FS} (h : Lnt w g l) : Seg w (some ⟨g, 0, none⟩) (flatF l) := by
  have := seg_row h (lnt_row h) 0 l (by rw [List.drop_zero, List.take_left])
  rwa [Nat.zero_mul] at this
theorem encF_N (x : FS) (n : Int) (h : x.v = FS.zero.v) : (encF x).set 0 (.int .i64 n) = encF (mkF n []) := by unfold encF; rw [h]; simp [mkF, FS.zero]
theorem made_flat (n : Nat) (x : FS) : madeCells (encF x).toArray (n * 49) = (flatF (List.replicate n x)).toArray := by
  apply Array.ext_getElem?
  intro t
  have hzl : (encF x).length = 49 := encF_len _
  by_cases ht : t < n * 49
  · have h1 : t / 49 < (List.replicate n x).length := by rw [List.length_replicate]; omega
    have e2 : (flatF (List.replicate n x))[t]? = (encF x)[t % 49]? := by
      have e3 : (List.replicate n x)[t / 49] = x := List.getElem_replicate _
      have e5 := flatF_at _ _ h1
      rw [e3] at e5
      rw [← e5, List.getElem?_take, if_pos (Nat.mod_lt _ (by decide)), List.getElem?_drop]
      congr 1; omega
    have e4 : (flatF (List.replicate n x)).toArray[t]? = (flatF (List.replicate n x))[t]? := by simp
    rw [e4, e2]
    have hm : t % 49 < (encF x).length := by rw [hzl]; exact Nat.mod_lt _ (by decide)
    rw [List.getElem?_eq_getElem hm]
    simp [madeCells, ht, hzl]
    rw [List.getElem?_eq_getElem hm]; rfl
  · rw [Array.getElem?_eq_none (by simp [size_madeCells]; omega), Array.getElem?_eq_none (by simp [flatF_len]; omega)]
theorem wpList_makeF {w : World} {ops : Array Oper} {rest : List Oper} {op : Oper} {a : Act} {Q : Exit → Act → World → Prop} (hgd : op.guard = none) (l c : Operand) (ho : op.op = .makeSlice 22 l c) (n : Nat) (hn : n ≤ 16777216) (hl : a.eval l = .int .i64 (n : Int)) (hc : a.eval c = .int .i64 (n : Int))
    (h : ∀ W b, Fresh w W b → IsS W b 25 (flatF (List.replicate n FS.zero)) → wpList Try.prog ops Q rest (a.put op.dst (.slice (some ⟨b, 0, none⟩) n n)) W) : wpList Try.prog ops Q (op :: rest) a w := by
  obtain ⟨i0, hi, hz0, hz1, hz2⟩ := eFin.info
  refine wpList_plain hgd fun K hK => ?_
  have hr := run_make (P := Try.prog) w 22 25 i0 _ Try.underlying22 hi hz0 .i64 .i64 n n (by omega) (by omega) (by rw [hz2]; omega) (by omega)
  unfold Oper.wp execOp
  simp only [ho, hl, hc, Sem.run_bind, hr, Result.andThen_ok, Sem.run_pure, hz1, Int.toNat_natCast]
  have hcells : (madeCells (Value.agg (encF FS.zero).toArray).cells (n * 49)) = (flatF (List.replicate n FS.zero)).toArray := made_flat n FS.zero
  rw [hcells]
  exact hK _ _ (h _ _ (Fresh.alloc w _) (IsS.new w _ _))
set_option maxRecDepth 100000 in
set_option maxHeartbeats 2000000 in
theorem lent_any (a : Option Addr) (cap : Nat) (l : List FS) (hn : l.length ≤ 8000) (w : World) (hS : Seg w a (flatF l)) :
    Calls Try.prog 8 #[.slice a l.length cap] w fun e w' => (∃ g, e = .returned (.slice (some ⟨g, 0, none⟩) l.length (l.length + 1)) ∧ w.heap.size ≤ g ∧ Lnt w' g l) ∧ Below w.heap.size w w' := by
  obtain ⟨n, hln⟩ : ∃ n, l.length = n := ⟨_, rfl⟩
  have hnI : (n : Int) ≤ 8000 := by omega
  have hfl := flatF_len l
  have hR0 : RowC (flatF (List.replicate (n + 1) FS.zero)) (List.replicate (n + 1) FS.zero) := by unfold RowC; rw [List.take_of_length_le (by rw [flatF_len]; exact Nat.le_refl _)]
  have hcell : (putL (flatF (List.replicate (n + 1) FS.zero)) 0 (flatF l)).set (n * 49) (.int .i64 (-7)) = flatF (l ++ [m7]) := by
    have hz : (flatF (List.replicate (n + 1) FS.zero)).length = (n + 1) * 49 := by rw [flatF_len, List.length_replicate]
    refine List.ext_getElem? fun t => ?_
    have hm : (flatF (l ++ [m7])).length = (n + 1) * 49 := by rw [flatF_len, List.length_append, hln]; rfl
    rw [flatF_append, flatF_sing]
    have e7 : encF m7 = (encF FS.zero).set 0 (.int .i64 (-7)) := by unfold m7; rw [encF_N FS.zero (-7) rfl]
    by_cases ht : t < n * 49
    · rw [List.getElem?_set_ne (by omega), putL_get _ _ _ _ (by rw [hz, hfl, hln]; omega), if_pos (by rw [hfl, hln]; omega), List.getElem?_append_left (by rw [hfl, hln]; exact ht), Nat.sub_zero]
    · rw [List.getElem?_append_right (by rw [hfl, hln]; omega), hfl, hln, e7]
      by_cases h0 : t = n * 49
      · subst h0
        rw [List.getElem?_set_self (by rw [putL_len', hz]; omega), Nat.sub_self, List.getElem?_set_self (by rw [encF_len]; omega)]
      · rw [List.getElem?_set_ne (by omega), putL_get _ _ _ _ (by rw [hz, hfl, hln]; omega), if_neg (by rw [hfl, hln]; omega), List.getElem?_set_ne (by omega)]
        by_cases h1 : t < (n + 1) * 49
        · have e1 : t / 49 = n := by omega
          have := hR0.at n (by rw [List.length_replicate]; omega)
          have e2 : (List.replicate (n + 1) FS.zero).getD n FS.zero = FS.zero := by simp
          rw [e2] at this
          rw [← this, List.getElem?_take, if_pos (by omega), List.getElem?_drop]
          congr 1; omega
        · rw [List.getElem?_eq_none (by rw [hz]; omega), List.getElem?_eq_none (by rw [encF_len]; omega)]
  have hl1 : (flatF l).length = Nat.min n (n + 1) * 49 := by rw [hfl, hln]; show n * 49 = min n (n + 1) * 49; rw [Nat.min_eq_left (by omega)]
  have hl2 : 0 + (flatF l).length ≤ (flatF (List.replicate (n + 1) FS.zero)).length := by rw [hfl, flatF_len, List.length_replicate, hln]; omega
  have hbd : n * 49 < (putL (flatF (List.replicate (n + 1) FS.zero)) 0 (flatF l)).length := by rw [putL_len', flatF_len, List.length_replicate]; omega
  have hup : ∀ (w : World) (g : Nat), (Instr.sliceAt 22 (.slice (some ⟨g, 0, none⟩) (n + 1) (n + 1)) none (some (.int .i64 (n : Int))) none).run Try.prog w = .ok (.slice (some ⟨g, 0, none⟩) n (n + 1)) w := fun w g => run_supto w g n (n + 1) (n + 1) (by omega) (by omega) (by unfold maxLen; omega)
  rw [hln]
  have hS' : Hid (Seg w a (flatF l)) := hS
  have HCell := (show Hid _ from hcell)
  clear hln hS hR0 hcell hfl
  obtain ⟨z0, hz0⟩ : ∃ z0, flatF (List.replicate (n + 1) FS.zero) = z0 := ⟨_, rfl⟩
  rw [hz0] at hl2 hbd HCell
  have HZ0 : Hid (flatF (List.replicate (n + 1) FS.zero) = z0) := hz0
  clear hz0
  have hnN : n < n + 1 := by omega
  have tc : True := trivial
  go_enter Try.func8, Try.ntmps8
  go_wp2_with (first
    | (refine wpList_makeF rfl _ _ rfl (n + 1) (by omega) rfl rfl ?_; intro w1 g F1 I1; rw [HZ0.out] at I1; have S1 : Seg w1 a (flatF l) := hS'.out.below (fresh_b F1); have hg : w.heap.size ≤ g := (by rw [F1.at']; exact Nat.le_refl _))
    | (refine wpList_copyF rfl _ _ rfl (n + 1) (n + 1) ⟨g, 0, none⟩ a n cap rfl rfl I1 S1 hl1 hl2 (flatF_one _) (.inr rfl) ?_; intro w2 x2 U2 I2)
    | (clear tc; refine wpList_store1 rfl 3 _ _ rfl rfl (.int .i64 (-7)) rfl I2 hbd info3 rfl ?_; intro w3 U3 I3; rw [HCell.out] at I3))
  go_ret
  exact ⟨⟨g, rfl, hg, I3⟩, Below.trans (U2.trans (fresh_b F1) hg) (U3.trans (Below.refl _ _) hg)⟩

set_option maxRecDepth 100000 in
set_option maxHeartbeats 2000000 in
theorem back_any (a : Option Addr) (cap : Nat) (l : List FS) (hn : l.length ≤ 8000) (g : Nat) (w : World) (hL : Lnt w g l) (hS : Seg w a (flatF l)) :
    Calls Try.prog 19 #[.slice (some ⟨g, 0, none⟩) l.length (l.length + 1), .slice a l.length cap] w fun e w' => e = .returned (.bool true) ∧ Below w.heap.size w w' := by
  have hsm := same_same (some ⟨g, 0, none⟩) a (l.length + 1) cap l (by omega) w (lnt_seg hL) hS
  obtain ⟨n, hln⟩ : ∃ n, l.length = n := ⟨_, rfl⟩
  have hc7 : ∀ W, Below w.heap.size w W → W.cell? ⟨g, n * 49, none⟩ = some (.int .i64 (-7)) := fun W hB => by
    have hI := IsS.grown hL hB
    have := (lnt_row hL).range hI n (by rw [List.length_append, hln]; simp)
    have e : (l ++ [m7]).getD n FS.zero = m7 := by rw [← hln]; simp
    rw [e] at this
    have h := this 0 (.int .i64 (-7)) rfl
    rwa [Nat.add_zero] at h
  have hup : ∀ (w : World), (Instr.sliceAt 22 (.slice (some ⟨g, 0, none⟩) n (n + 1)) none (some (.int .i64 ((n : Int) + 1))) none).run Try.prog w = .ok (.slice (some ⟨g, 0, none⟩) (n + 1) (n + 1)) w := fun w => by
    have h1 : (0 : Int) ≤ (n : Int) + 1 := by omega
    have h2 : ((n : Int) + 1).toNat = n + 1 := by omega
    have h3 : ¬ ((n : Int) + 1 < 0) := by omega
    simp [go_sem, Instr.sliceAt, h1, h2, h3]
  have hnI : (n : Int) ≤ 8000 := by omega
  rw [hln] at hsm ⊢
  clear hL hS hn hln
  have hi7 : (n : Int) < (n : Int) + 1 := by omega
  have hiN : n < n + 1 := by omega
  go_enter Try.func19, Try.ntmps19
  go_wp2_with (first
    | (go_at_call 18; refine hsm.mono ?_; rintro e w1 ⟨rfl, B1⟩; have c7 := hc7 _ B1))
  go_ret
  exact ⟨rfl, B1⟩
/-- Where an append lays a row: the old block, or a new one. -/
theorem app_where {w w' : World} {B : Nat} {v v' : Value} {l : List FS} {x : FS} {b : Nat} {ty : TypeId} (hown : OwnL w B v l) (I : IsS w b 25 (encF x)) (hn : l.length < 4194304)
    (hr : (Builtin.append_ #[22, 22] ty #[v, .slice (some ⟨b, 0, none⟩) 1 1]).run Try.prog w = .ok v' w') : v'.ownBlock = v.ownBlock ∨ ∃ g, v'.ownBlock = some g ∧ w.heap.size ≤ g := by
  obtain ⟨i0, hi, hz, hs, hby⟩ := eFin.info
  have hnews : ∀ j y, (encF x)[j]? = some y → w.cell? ((⟨b, 0, none⟩ : Addr).add j) = some y := fun j y hj => by rw [Addr.add_mid, Nat.zero_add, I.cell]; exact hj
  have hl1 : (encF x).length = 1 * i0.size := by rw [encF_len, hs]
  rcases hown.2 with ⟨rfl, hn0⟩ | ⟨g, cap, cur, rfl, hbg, hgc, hnc, hcm, hcs, htake⟩
  · have h2 := run_append_nil (P := Try.prog) w 22 ty 25 i0 _ Try.underlying22 hi hz ⟨b, 0, none⟩ 1 1 (encF x) hl1 hnews (by omega) (by omega) (by rw [hby]; omega)
    rw [hr] at h2
    injection h2 with e1 e2
    rw [e1]
    exact .inr ⟨w.heap.size, rfl, Nat.le_refl _⟩
  · by_cases hroom : l.length + 1 ≤ cap
    · have h2 := run_append_room (P := Try.prog) w 22 ty 25 i0 Try.underlying22 hi g l.length cap cur hgc ⟨b, 0, none⟩ 1 1 (encF x) hl1 hnews (encF_one x) hroom (by rw [hs, hcs, encF_len]; have : (l.length + 1) * 49 ≤ cap * 49 := Nat.mul_le_mul_right _ hroom; omega)
      rw [hr] at h2
      injection h2 with e1 e2
      rw [e1]
      exact .inl rfl
    · have h2 := run_append_grow (P := Try.prog) w 22 ty 25 i0 _ Try.underlying22 hi hz ⟨g, 0, none⟩ l.length cap (flatF l) (by rw [hs]; exact hown.1) (hown.cells (g := g) rfl) ⟨b, 0, none⟩ 1 1 (encF x) hl1 hnews (by omega) (by omega) (growslice_fits (by omega) (by rw [hby]; omega))
      rw [hr] at h2
      injection h2 with e1 e2
      rw [e1]
      exact .inr ⟨w.heap.size, rfl, Nat.le_refl _⟩
theorem wpList_appW {w : World} {ops : Array Oper} {rest : List Oper} {op : Oper} {a : Act} {Q : Exit → Act → World → Prop} (hgd : op.guard = none) (s x : Operand) (ho : op.op = .call { callee := .builtin .append, args := #[s, x], argTypes := #[22, 22] })
    (B : Nat) (v : Value) (l : List FS) (hs : a.eval s = v) (hown : OwnL w B v l) (b : Nat) (f : FS) (hx : a.eval x = .slice (some ⟨b, 0, none⟩) 1 1) (I : IsS w b 25 (encF f)) (hn : l.length < 4194304) (hB : B ≤ w.heap.size)
    (h : ∀ v' w', OwnL w' B v' (l ++ [f]) → w.grownBy w' v.ownBlock → (v'.ownBlock = v.ownBlock ∨ ∃ g, v'.ownBlock = some g ∧ w.heap.size ≤ g) → wpList Try.prog ops Q rest (a.put op.dst v') w') : wpList Try.prog ops Q (op :: rest) a w := by
  refine wpList_plain hgd fun K hK => ?_
  obtain ⟨v', w', hr, h2, h3⟩ := run_appM eFin B v l.length (flatF l) hown _ 1 (flatF [f]) (row_new w b f I) (by rw [flatF_len]; rfl) (flatF_one _) (by omega) hB op.type
  have h4 := app_where hown I hn hr
  have h2' : OwnL w' B v' (l ++ [f]) := by unfold OwnL; rw [List.length_append, flatF_append]; exact h2
  unfold Oper.wp
  rw [exec_app s x ho hs hx hr]
  exact hK _ _ (h v' w' h2' h3 h4)
theorem grown_refl (w : World) (r : Option Nat) : w.grownBy w r := ⟨rfl, rfl, rfl, Nat.le_refl _, fun _ _ _ => rfl⟩
theorem grown_comp {w w1 w2 : World} {r r1 : Option Nat} (h : w.grownBy w1 r) (h1 : w1.grownBy w2 r1) (hr : r1 = r ∨ ∃ g, r1 = some g ∧ w.heap.size ≤ g) : w.grownBy w2 r :=
  ⟨h1.os.trans h.os, h1.tape.trans h.tape, h1.output.trans h.output, Nat.le_trans h.size h1.size, fun k hk hne => (h1.block k (Nat.lt_of_lt_of_le hk h.size) (fun e => by
    rcases hr with hr | ⟨g, hg, hgs⟩
    · exact hne (e.trans hr)
    · rw [hg] at e; injection e with e; omega)).trans (h.block k hk hne)⟩
theorem grown_of_below {w w' : World} {r : Option Nat} (h : Below w.heap.size w w') : w.grownBy w' r := ⟨h.os, h.tape, h.output, h.size, fun k hk _ => h.block k hk⟩
theorem grown_of_upd {w w' : World} {g : Nat} (U : Upd w w' g) : w.grownBy w' (some g) := ⟨U.os, U.tape, U.output, Nat.le_of_eq U.size.symm, fun k _ hne => U.block k (fun e => hne (by rw [e]))⟩
theorem putN {cs : List Value} {l : List FS} (h : RowC cs l) (i : Nat) (hi : i < l.length) (n : Int) : ∃ x, RowC (cs.set (i * 49) (.int .i64 n)) (l.set i x) := by
  refine ⟨⟨n, (l.getD i FS.zero).v, (l.getD i FS.zero).h⟩, ?_⟩
  have h2 := h.set i hi ⟨n, (l.getD i FS.zero).v, (l.getD i FS.zero).h⟩
  have hl := h.len
  have e : putL cs (i * 49) (encF ⟨n, (l.getD i FS.zero).v, (l.getD i FS.zero).h⟩) = cs.set (i * 49) (.int .i64 n) := by
    refine List.ext_getElem? fun t => ?_
    rw [putL_get _ _ _ _ (by rw [encF_len]; omega), encF_len]
    have ha := h.at i hi
    by_cases h1 : i * 49 ≤ t ∧ t < i * 49 + 49
    · rw [if_pos h1]
      by_cases h0 : t = i * 49
      · subst h0
        rw [Nat.sub_self, List.getElem?_set_self (by omega)]; rfl
      · rw [List.getElem?_set_ne (by omega)]
        have e1 : cs[t]? = (encF (l.getD i FS.zero))[t - i * 49]? := by
          rw [← ha, List.getElem?_take, if_pos (by omega), List.getElem?_drop]; congr 1; omega
        rw [e1]
        obtain ⟨j, hj⟩ : ∃ j, t - i * 49 = j + 1 := ⟨t - i * 49 - 1, by omega⟩
        rw [hj]; rfl
    · rw [if_neg h1, List.getElem?_set_ne (by omega)]
  rw [e] at h2
  exact h2

set_option maxRecDepth 100000 in
set_option maxHeartbeats 2000000 in
theorem spoil_any {w : World} {B : Nat} {v : Value} {l : List FS} (hown : OwnL w B v l) (hB : B ≤ w.heap.size) (hn : l.length ≤ 8000) :
    Calls Try.prog 20 #[v] w fun e w' => e = .returned (.tuple #[]) ∧ w.grownBy w' v.ownBlock := by
  obtain ⟨n, hln⟩ : ∃ n, l.length = n := ⟨_, rfl⟩
  obtain ⟨a, c, hv⟩ := own_form hown
  rw [hln] at hv
  subst hv
  have HO : Hid (OwnL w B (.slice a n c) l) := hown
  have hnI : (n : Int) ≤ 8000 := by omega
  have HLN : Hid (l.length = n) := hln
  clear hown hn
  go_enter Try.func20, Try.ntmps20
  go_wp2
  go_loopw [2] (fun i wr => ∃ (k : Nat) (L : List FS), k ≤ n ∧ i = .int .i64 (k : Int) ∧ L.length = n ∧ Hid (OwnL wr B (.slice a n c) L) ∧ w.grownBy wr (Value.slice a n c).ownBlock) (fun i _ => n - (intOf i).toNat)
  case atStart => exact ⟨0, l, Nat.zero_le _, rfl, hln, HO, grown_refl _ _⟩
  case round =>
    obtain ⟨k, L, hk, rfl, hL, HOR, GR⟩ := hrel
    by_cases hlt : k < n
    · obtain ⟨g, cap, cs, hv, hg, I, R, hc, hm, hs⟩ := own_open HOR.out hL (by omega)
      cases hv
      obtain ⟨x, hx⟩ := putN R k (by omega) (-9)
      have hkb : k * 49 < cs.length := by rw [hs]; have : (k + 1) * 49 ≤ c * 49 := Nat.mul_le_mul_right _ (by omega); omega
      have hiX : (k : Int) < (n : Int) := by omega
      clear HO HOR R
      go_wp2_with (first
        | (refine wpList_store1 rfl 3 _ _ rfl rfl (.int .i64 (-9)) rfl I hkb info3 rfl ?_; intro w3 U3 I3))
      have O3 := own_of_row (B := B) (cap := c) hg I3 hx (by rw [List.length_set, hL]; exact hc) hm (by rw [List.length_set]; exact hs)
      rw [List.length_set, hL] at O3
      go_roundw
      case rel => exact ⟨k + 1, L.set k x, by omega, by go_num, by rw [List.length_set]; exact hL, O3, grown_comp GR (grown_of_upd U3) (.inl rfl)⟩
      case measure => simp [intOf]; omega
    · have e : k = n := by omega
      subst e
      clear HO hlt
      go_wp2
      have hz1 := GR.size
      go_loopw [0, 3] (fun u j wr2 => ∃ (q : Nat) (L2 : List FS), q ≤ 12 ∧ j = .int .i64 (q : Int) ∧ L2.length = k + q ∧ Hid (OwnL wr2 B u L2) ∧ w.grownBy wr2 (Value.slice a k c).ownBlock ∧ Hid (u.ownBlock = (Value.slice a k c).ownBlock ∨ ∃ g, u.ownBlock = some g ∧ w.heap.size ≤ g)) (fun _ j _ => 12 - (intOf j).toNat)
      case atStart => exact ⟨0, L, Nat.zero_le _, rfl, hL, HOR, GR, .inl rfl⟩
      case round =>
        obtain ⟨q, L2, hq, rfl, hL2, HO2, G2, HW⟩ := hrel
        by_cases hlt2 : q < 12
        · obtain ⟨a3, c3, hv3⟩ := own_form HO2.out
          rw [hL2] at hv3
          subst hv3
          have hz2 := G2.size
          clear HOR
          go_wp2_with (first
            | (refine wpList_buildNF rfl _ rfl (-8) rfl ?_)
            | (refine wpList_buildF rfl _ rfl (mkF (-8) []) rfl ?_; intro w6 b6 F6 I6; have O6 := own_belowW HO2.out (fresh_b F6); have hz6 := (fresh_b F6).size)
            | (at_builtin; refine wpList_appW rfl _ _ rfl B _ L2 rfl O6 b6 (mkF (-8) []) rfl I6 (by omega) (by omega) ?_; intro v7 w7 O7 G7 W7))
          have G8 : w.grownBy w7 (Value.slice a k c).ownBlock := grown_comp (grown_comp G2 (grown_of_below (r := (Value.slice a k c).ownBlock) (fresh_b F6)) (.inl rfl)) G7 HW.out
          have W8 : v7.ownBlock = (Value.slice a k c).ownBlock ∨ ∃ g, v7.ownBlock = some g ∧ w.heap.size ≤ g := by
            rcases W7 with h | ⟨g, h, h'⟩
            · rw [h]; exact HW.out
            · exact .inr ⟨g, h, by omega⟩
          go_roundw
          case rel => exact ⟨q + 1, L2 ++ [mkF (-8) []], by omega, by go_num, by rw [List.length_append, hL2]; rfl, O7, G8, W8⟩
          case measure => simp [intOf]; omega
        · obtain ⟨a3, c3, hv3⟩ := own_form HO2.out
          subst hv3
          clear HOR
          have e : q = 12 := by omega
          subst e
          go_wp2
          go_end0
          exact ⟨rfl, G2⟩
end Go.Proofs.Ytbhgchhoeokjhaa
