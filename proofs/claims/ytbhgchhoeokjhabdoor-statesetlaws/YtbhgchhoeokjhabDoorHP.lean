/- What the laws' helpers answer: Same of the same, Lent, Back, Spoil, few. -/
import Derived.Test.YtbhgchhoeokjhabDoorRS
namespace Go.Proofs.YtbhgchhoeokjhabDoor
open Go Go.RowKit M
set_option linter.unusedSimpArgs false
set_option linter.unusedVariables false

theorem seg_elem {w : World} {a : Option Addr} {l : List FS} (h : Seg w a (flatF l)) (j : Nat) (hj : j < l.length) : ∃ b o, a = some ⟨b, o, none⟩ ∧ b < w.heap.size ∧ w.rangeAt b (o + j * 49) (encF (l.getD j FS.zero)) := by
  rw [getD_at l j hj]; exact seg_at h j hj
set_option maxRecDepth 100000 in
set_option maxHeartbeats 2000000 in
theorem same_same (a1 a2 : Option Addr) (c1 c2 : Nat) (l : List FS) (hn : l.length ≤ 4611686018427387903) (w : World) (h1 : Seg w a1 (flatF l)) (h2 : Seg w a2 (flatF l)) :
    Calls Tryd.prog 11 #[.slice a1 l.length c1, .slice a2 l.length c2] w fun e w' => e = .returned (.bool true) ∧ Below w.heap.size w w' := by
  have hsz : ((l.length : Nat) : Int) ≤ 4611686018427387903 := by omega
  go_enter Tryd.func11, Tryd.ntmps11
  go_wp2
  go_loopw [5] (fun i wr => ∃ k : Nat, k ≤ l.length ∧ i = .int .i64 (k : Int) ∧ Below w.heap.size w wr) (fun i _ => l.length - (intOf i).toNat)
  case atStart => exact ⟨0, Nat.zero_le _, rfl, Below.refl _ _⟩
  case round =>
    obtain ⟨k, hk, rfl, BR⟩ := hrel
    by_cases hlt : k < l.length
    · obtain ⟨b1, o1, rfl, HB1, HX1⟩ := seg_elem (h1.below BR) k hlt
      obtain ⟨b2, o2, rfl, HB2, HX2⟩ := seg_elem (h2.below BR) k hlt
      have hiX : (k : Int) < (l.length : Int) := by omega
      generalize l.getD k FS.zero = X at *
      clear h1 h2
      go_wp2
      refine grow_allW (by kernel_rfl) (by kernel_rfl) ?_
      refine WG.put rfl (v := .slice (some ⟨b1, o1, none⟩) l.length c1) (fun w => by first | rfl | (go_simp; done) | (simp [go_sem]; done)) ?_
      simp only [Act.put, List.setIfInBounds_toArray, List.set_cons_succ, List.set_cons_zero]
      refine WG.put rfl (v := .int .i64 (k : Int)) (fun w => by first | rfl | (go_simp; done) | (simp [go_sem]; done)) ?_
      simp only [Act.put, List.setIfInBounds_toArray, List.set_cons_succ, List.set_cons_zero]
      refine WG.put rfl (v := .pointer (some ⟨b1, o1 + k * 49, none⟩)) (fun w => by first | rfl | (go_simp; done) | (simp [go_sem, hiX]; done)) ?_
      simp only [Act.put, List.setIfInBounds_toArray, List.set_cons_succ, List.set_cons_zero]
      refine WG.elem (x := X) rfl _ rfl rfl HB1 HX1 ?_
      simp only [Act.put, List.setIfInBounds_toArray, List.set_cons_succ, List.set_cons_zero]
      refine WG.put rfl (v := .slice (some ⟨b2, o2, none⟩) l.length c2) (fun w => by first | rfl | (go_simp; done) | (simp [go_sem]; done)) ?_
      simp only [Act.put, List.setIfInBounds_toArray, List.set_cons_succ, List.set_cons_zero]
      refine WG.put rfl (v := .int .i64 (k : Int)) (fun w => by first | rfl | (go_simp; done) | (simp [go_sem]; done)) ?_
      simp only [Act.put, List.setIfInBounds_toArray, List.set_cons_succ, List.set_cons_zero]
      refine WG.put rfl (v := .pointer (some ⟨b2, o2 + k * 49, none⟩)) (fun w => by first | rfl | (go_simp; done) | (simp [go_sem, hiX]; done)) ?_
      simp only [Act.put, List.setIfInBounds_toArray, List.set_cons_succ, List.set_cons_zero]
      refine WG.elem (x := X) rfl _ rfl rfl HB2 HX2 ?_
      simp only [Act.put, List.setIfInBounds_toArray, List.set_cons_succ, List.set_cons_zero]
      refine WG.neqF rfl _ _ rfl rfl rfl false (by simp) ?_
      simp only [Act.put, List.setIfInBounds_toArray, List.set_cons_succ, List.set_cons_zero]
      refine WG.nil ?_
      intro w5 B5
      clear HX1 HX2
      go_wp2
      go_roundw
      case rel => exact ⟨k + 1, by omega, by go_num, Below.then BR B5⟩
      case measure => simp [intOf]; omega
    · have e : k = l.length := by omega
      subst e
      clear h1 h2 hlt
      go_wp2
      go_ret
      exact ⟨rfl, BR⟩
/-- The holder's mark. -/
def m7 : FS := mkF (-7) []
/-- A list that is lent: in memory of its own, with its holder's mark behind it. -/
def Lnt (w : World) (g : Nat) (l : List FS) : Prop := IsS w g 27 (flatF (l ++ [m7]))
theorem lnt_row {w : World} {g : Nat} {l : List FS} (h : Lnt w g l) : RowC (flatF (l ++ [m7])) (l ++ [m7]) := by
  unfold RowC; rw [List.take_of_length_le (by rw [flatF_len]; exact Nat.le_refl _)]
theorem lnt_seg {w : World} {g : Nat} {l : List FS} (h : Lnt w g l) : Seg w (some ⟨g, 0, none⟩) (flatF l) := by
  have := seg_row h (lnt_row h) 0 l (by rw [List.drop_zero, List.take_left])
  rwa [Nat.zero_mul] at this
theorem encF_N (x : FS) (n : Int) (h : x.v = FS.zero.v) : (encF x).set 0 (.int .i64 n) = encF (mkF n []) := by unfold encF; rw [h]; simp [mkF, FS.zero]
theorem made_flat (n : Nat) (x : FS) : madeCells (encF x).toArray (n * 49) = (flatF (List.replicate n x)).toArray := by
  apply Array.ext_getElem?
  intro t
  have hzl : (encF x).length = 49 := encF_len _
  by_cases ht : t < n * 49
  · have h1 : t / 49 < (List.replicate n x).length := by rw [List.length_replicate]; omega
    have e2 : (flatF (List.replicate n x))[t]? = (encF x)[t % 49]? := by
      have e3 : (List.replicate n x)[t / 49] = x := List.getElem_replicate _
      have e5 := flatF_at _ _ h1
      rw [e3] at e5
      rw [← e5, List.getElem?_take, if_pos (Nat.mod_lt _ (by decide)), List.getElem?_drop]
      congr 1; omega
    have e4 : (flatF (List.replicate n x)).toArray[t]? = (flatF (List.replicate n x))[t]? := by simp
    rw [e4, e2]
    have hm : t % 49 < (encF x).length := by rw [hzl]; exact Nat.mod_lt _ (by decide)
    rw [List.getElem?_eq_getElem hm]
    simp [madeCells, ht, hzl]
    rw [List.getElem?_eq_getElem hm]; rfl
  · rw [Array.getElem?_eq_none (by simp [size_madeCells]; omega), Array.getElem?_eq_none (by simp [flatF_len]; omega)]
theorem wpList_makeF {w : World} {ops : Array Oper} {rest : List Oper} {op : Oper} {a : Act} {Q : Exit → Act → World → Prop} (hgd : op.guard = none) (l c : Operand) (ho : op.op = .makeSlice 22 l c) (n : Nat) (hn : n ≤ 16777216) (hl : a.eval l = .int .i64 (n : Int)) (hc : a.eval c = .int .i64 (n : Int))
    (h : ∀ W b, Fresh w W b → IsS W b 27 (flatF (List.replicate n FS.zero)) → wpList Tryd.prog ops Q rest (a.put op.dst (.slice (some ⟨b, 0, none⟩) n n)) W) : wpList Tryd.prog ops Q (op :: rest) a w := by
  obtain ⟨i0, hi, hz0, hz1, hz2⟩ := eFin.info
  refine wpList_plain hgd fun K hK => ?_
  have hr := run_make (P := Tryd.prog) w 22 27 i0 _ Tryd.underlying22 hi hz0 .i64 .i64 n n (by omega) (by omega) (by rw [hz2]; omega) (by omega)
  unfold Oper.wp execOp
  simp only [ho, hl, hc, Sem.run_bind, hr, Result.andThen_ok, Sem.run_pure, hz1, Int.toNat_natCast]
  have hcells : (madeCells (Value.agg (encF FS.zero).toArray).cells (n * 49)) = (flatF (List.replicate n FS.zero)).toArray := made_flat n FS.zero
  rw [hcells]
  exact hK _ _ (h _ _ (Fresh.alloc w _) (IsS.new w _ _))
/-- Where an append lays a row: the old block, or a new one. -/
theorem app_where {w w' : World} {B : Nat} {v v' : Value} {l : List FS} {x : FS} {b : Nat} {ty : TypeId} (hown : OwnL w B v l) (I : IsS w b 27 (encF x)) (hn : l.length < 4194304)
    (hr : (Builtin.append_ #[22, 22] ty #[v, .slice (some ⟨b, 0, none⟩) 1 1]).run Tryd.prog w = .ok v' w') : v'.ownBlock = v.ownBlock ∨ ∃ g, v'.ownBlock = some g ∧ w.heap.size ≤ g := by
  obtain ⟨i0, hi, hz, hs, hby⟩ := eFin.info
  have hnews : ∀ j y, (encF x)[j]? = some y → w.cell? ((⟨b, 0, none⟩ : Addr).add j) = some y := fun j y hj => by rw [Addr.add_mid, Nat.zero_add, I.cell]; exact hj
  have hl1 : (encF x).length = 1 * i0.size := by rw [encF_len, hs]
  rcases hown.2 with ⟨rfl, hn0⟩ | ⟨g, cap, cur, rfl, hbg, hgc, hnc, hcm, hcs, htake⟩
  · have h2 := run_append_nil (P := Tryd.prog) w 22 ty 27 i0 _ Tryd.underlying22 hi hz ⟨b, 0, none⟩ 1 1 (encF x) hl1 hnews (by omega) (by omega) (by rw [hby]; omega)
    rw [hr] at h2
    injection h2 with e1 e2
    rw [e1]
    exact .inr ⟨w.heap.size, rfl, Nat.le_refl _⟩
  · by_cases hroom : l.length + 1 ≤ cap
    · have h2 := run_append_room (P := Tryd.prog) w 22 ty 27 i0 Tryd.underlying22 hi g l.length cap cur hgc ⟨b, 0, none⟩ 1 1 (encF x) hl1 hnews (encF_one x) hroom (by rw [hs, hcs, encF_len]; have : (l.length + 1) * 49 ≤ cap * 49 := Nat.mul_le_mul_right _ hroom; omega)
      rw [hr] at h2
      injection h2 with e1 e2
      rw [e1]
      exact .inl rfl
    · have h2 := run_append_grow (P := Tryd.prog) w 22 ty 27 i0 _ Tryd.underlying22 hi hz ⟨g, 0, none⟩ l.length cap (flatF l) (by rw [hs]; exact hown.1) (hown.cells (g := g) rfl) ⟨b, 0, none⟩ 1 1 (encF x) hl1 hnews (by omega) (by omega) (growslice_fits (by omega) (by rw [hby]; omega))
      rw [hr] at h2
      injection h2 with e1 e2
      rw [e1]
      exact .inr ⟨w.heap.size, rfl, Nat.le_refl _⟩
theorem wpList_appW {w : World} {ops : Array Oper} {rest : List Oper} {op : Oper} {a : Act} {Q : Exit → Act → World → Prop} (hgd : op.guard = none) (s x : Operand) (ho : op.op = .call { callee := .builtin .append, args := #[s, x], argTypes := #[22, 22] })
    (B : Nat) (v : Value) (l : List FS) (hs : a.eval s = v) (hown : OwnL w B v l) (b : Nat) (f : FS) (hx : a.eval x = .slice (some ⟨b, 0, none⟩) 1 1) (I : IsS w b 27 (encF f)) (hn : l.length < 4194304) (hB : B ≤ w.heap.size)
    (h : ∀ v' w', OwnL w' B v' (l ++ [f]) → w.grownBy w' v.ownBlock → (v'.ownBlock = v.ownBlock ∨ ∃ g, v'.ownBlock = some g ∧ w.heap.size ≤ g) → wpList Tryd.prog ops Q rest (a.put op.dst v') w') : wpList Tryd.prog ops Q (op :: rest) a w := by
  refine wpList_plain hgd fun K hK => ?_
  obtain ⟨v', w', hr, h2, h3⟩ := run_appM eFin B v l.length (flatF l) hown _ 1 (flatF [f]) (row_new w b f I) (by rw [flatF_len]; rfl) (flatF_one _) (by omega) hB op.type
  have h4 := app_where hown I hn hr
  have h2' : OwnL w' B v' (l ++ [f]) := by unfold OwnL; rw [List.length_append, flatF_append]; exact h2
  unfold Oper.wp
  rw [exec_app s x ho hs hx hr]
  exact hK _ _ (h v' w' h2' h3 h4)
theorem grown_refl (w : World) (r : Option Nat) : w.grownBy w r := ⟨rfl, rfl, rfl, Nat.le_refl _, fun _ _ _ => rfl⟩
theorem grown_comp {w w1 w2 : World} {r r1 : Option Nat} (h : w.grownBy w1 r) (h1 : w1.grownBy w2 r1) (hr : r1 = r ∨ ∃ g, r1 = some g ∧ w.heap.size ≤ g) : w.grownBy w2 r :=
  ⟨h1.os.trans h.os, h1.tape.trans h.tape, h1.output.trans h.output, Nat.le_trans h.size h1.size, fun k hk hne => (h1.block k (Nat.lt_of_lt_of_le hk h.size) (fun e => by
    rcases hr with hr | ⟨g, hg, hgs⟩
    · exact hne (e.trans hr)
    · rw [hg] at e; injection e with e; omega)).trans (h.block k hk hne)⟩
theorem grown_of_below {w w' : World} {r : Option Nat} (h : Below w.heap.size w w') : w.grownBy w' r := ⟨h.os, h.tape, h.output, h.size, fun k hk _ => h.block k hk⟩
theorem grown_of_upd {w w' : World} {g : Nat} (U : Upd w w' g) : w.grownBy w' (some g) := ⟨U.os, U.tape, U.output, Nat.le_of_eq U.size.symm, fun k _ hne => U.block k (fun e => hne (by rw [e]))⟩
theorem putN {cs : List Value} {l : List FS} (h : RowC cs l) (i : Nat) (hi : i < l.length) (n : Int) : ∃ x, RowC (cs.set (i * 49) (.int .i64 n)) (l.set i x) := by
  refine ⟨⟨n, (l.getD i FS.zero).v, (l.getD i FS.zero).h⟩, ?_⟩
  have h2 := h.set i hi ⟨n, (l.getD i FS.zero).v, (l.getD i FS.zero).h⟩
  have hl := h.len
  have e : putL cs (i * 49) (encF ⟨n, (l.getD i FS.zero).v, (l.getD i FS.zero).h⟩) = cs.set (i * 49) (.int .i64 n) := by
    refine List.ext_getElem? fun t => ?_
    rw [putL_get _ _ _ _ (by rw [encF_len]; omega), encF_len]
    have ha := h.at i hi
    by_cases h1 : i * 49 ≤ t ∧ t < i * 49 + 49
    · rw [if_pos h1]
      by_cases h0 : t = i * 49
      · subst h0
        rw [Nat.sub_self, List.getElem?_set_self (by omega)]; rfl
      · rw [List.getElem?_set_ne (by omega)]
        have e1 : cs[t]? = (encF (l.getD i FS.zero))[t - i * 49]? := by
          rw [← ha, List.getElem?_take, if_pos (by omega), List.getElem?_drop]; congr 1; omega
        rw [e1]
        obtain ⟨j, hj⟩ : ∃ j, t - i * 49 = j + 1 := ⟨t - i * 49 - 1, by omega⟩
        rw [hj]; rfl
    · rw [if_neg h1, List.getElem?_set_ne (by omega)]
  rw [e] at h2
  exact h2

end Go.Proofs.YtbhgchhoeokjhabDoor
