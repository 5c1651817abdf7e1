/- Of, of rel and of the reference. -/
import Derived.Test.YtkccckjiemijeabDoorR4
import Derived.Laws.ResultCell
namespace Go.Proofs.YtkccckjiemijeabDoor
open Go.RowKit M
set_option linter.unusedSimpArgs false
set_option linter.unusedVariables false

/-- A slice's pairs, where they lie. -/
def Prs (w : World) (a : Option Addr) (l : List (Int × Int)) : Prop :=
  ∀ j, j < l.length → ∃ b off, a = some ⟨b, off, none⟩ ∧ w.cell? ⟨b, off + j * 2, none⟩ = some (.int .i64 (l.getD j (0, 0)).1) ∧ w.cell? ⟨b, off + j * 2 + 1, none⟩ = some (.int .i64 (l.getD j (0, 0)).2)

def okE (n : Int) (e : Int × Int) : Bool := decide (0 ≤ e.1 ∧ e.1 < n) && decide (0 ≤ e.2 ∧ e.2 < n)
def stepE (f : Nat → Nat) (e : Int × Int) : Nat → Nat := upd f e.1.toNat (f e.1.toNat ||| 2 ^ e.2.toNat)
def ofF (l : List (Int × Int)) : Nat → Nat := l.foldl stepE void
def ofV (n : Int) (l : List (Int × Int)) : Value := if (decide (0 ≤ n ∧ n ≤ 64) && l.all (okE n)) = true then .tuple #[relv n (ofF l), .int .i64 0] else .tuple #[relv 0 void, .int .i64 4]

theorem ret_R2 {fn : Func} {p u : Tmp} {R : Ending → World → Prop} {a : Act} {w : World} {b : Nat} {n : Int} {f : Nat → Nat} {v : Value} (h : fn.results = #[.cell p 25, .tmp u]) (hp : a.tmps.getD p undef = .pointer (some ⟨b, 0, none⟩)) (hu : a.tmps.getD u undef = v)
    (hd : a.defers = []) (hc : IsR w b n f) (hR : R (.returned (.tuple #[relv n f, v])) w) : bodyPost Tryd.prog fn R .ret a w := by
  have hc' : w.heap[b]? = some (.cells (cellsR n f) 25 (0, 0)) := hc
  refine ⟨hd, _, ?_, hR⟩
  rw [results_cell_tmp h, hp, hu]
  have := run_loadVar_row (P := Tryd.prog) w b 25 25 (cellsR n f) (0, 0) _ hc' Tryd.underlying25 rfl (by rw [cellsR_size]; exact info25)
  simp only [asAddr, Sem.run_pure, Result.andThen, this]
  rfl

theorem ptake (l : List (Int × Int)) (k : Nat) (h : k < l.length) : l.take (k + 1) = l.take k ++ [l.getD k (0, 0)] := by
  rw [List.take_succ_eq_append_getElem h, List.getD_eq_getElem?_getD, List.getElem?_eq_getElem h]; rfl
theorem ofF_snoc (l : List (Int × Int)) (e : Int × Int) : ofF (l ++ [e]) = stepE (ofF l) e := by simp [ofF]
theorem ofF_lt (n : Int) (hn : n ≤ 64) : ∀ (l : List (Int × Int)), l.all (okE n) = true → ∀ i, ofF l i < 18446744073709551616 := by
  intro l
  have key : ∀ (l : List (Int × Int)) (f : Nat → Nat), (∀ i, f i < 18446744073709551616) → l.all (okE n) = true → ∀ i, l.foldl stepE f i < 18446744073709551616 := by
    intro l
    induction l with
    | nil => intro f hf _ i; exact hf i
    | cons e l ih =>
      intro f hf h i
      rw [List.all_cons, Bool.and_eq_true] at h
      refine ih (stepE f e) ?_ h.2 i
      intro j
      unfold stepE upd
      split
      · have h1 := h.1
        simp only [okE, Bool.and_eq_true, decide_eq_true_eq] at h1
        exact Nat.or_lt_two_pow (n := 64) (hf _) (pow_lt _ (by omega))
      · exact hf j
  exact fun h => key l void (fun _ => by simp [void]) h

theorem of_bad (n : Int) (l : List (Int × Int)) (k : Nat) (hk : k < l.length) (h : okE n (l.getD k (0, 0)) = false) : ofV n l = .tuple #[relv 0 void, .int .i64 4] := by
  unfold ofV
  have : l.all (okE n) = false := by
    rw [List.all_eq_false]
    refine ⟨l.getD k (0, 0), ?_, by rw [h]; simp⟩
    rw [List.getD_eq_getElem?_getD, List.getElem?_eq_getElem hk]
    exact List.getElem_mem hk
  simp [this]

set_option maxRecDepth 100000 in
set_option maxHeartbeats 1000000 in
theorem of_any (n : Int) (a : Option Addr) (cap : Nat) (l : List (Int × Int)) (w : World) (hN : Hid (Prs w a l)) (hl : l.length ≤ 1152921504606846976) :
    Calls Tryd.prog 39 #[.int .i64 n, .slice a l.length cap] w fun e w' => e = .returned (ofV n l) ∧ Below w.heap.size w w' := by
  by_cases h0 : 0 ≤ n ∧ n ≤ 64
  · have hd : decide (0 ≤ n ∧ n ≤ 64) = true := decide_eq_true h0
    have H0 : Hid (0 ≤ n ∧ n ≤ 64) := h0
    clear h0
    have tk : True := trivial
    go_enter Tryd.func39, Tryd.ntmps39
    go_wp2_with (first
      | (go_at_call 40; refine (fits_any _ _).mono ?_; rintro e w' ⟨rfl, hw'⟩; replace hw' := hw'.symm; subst hw')
      | (refine wpList_allocR rfl rfl ?_; clear tk; intro W1 b1 F1 r1; have B1 := Fresh.trans (Below.refl _ w) (Nat.le_refl _) F1)
      | (refine wpList_allocR rfl rfl ?_; intro W2 b2 F2 r2; replace B1 := Fresh.trans B1 B1.size F2; replace r1 := r1.fresh F2)
      | (refine wpList_buildRN rfl _ rfl rfl ?_)
      | (refine wpList_storeR rfl _ _ rfl rfl rfl r2 ?_; intro W3 U3 r3))
    have hb1 : w.heap.size ≤ b1 := by rw [F1.at']; exact Nat.le_refl _
    have hb2 : b1 < b2 := by rw [F2.at', F1.size]; omega
    replace B1 := U3.trans B1 (by omega)
    replace r1 := r1.upd U3 (by omega)
    go_loopw [17] (fun i wr => ∃ k : Nat, k ≤ l.length ∧ i = .int .i64 k ∧ Hid ((l.take k).all (okE n) = true) ∧ IsR wr b2 n (ofF (l.take k)) ∧ IsR wr b1 0 void ∧ Below w.heap.size w wr) (fun i _ => l.length - (intOf i).toNat)
    case atStart => exact ⟨0, by omega, rfl, by simp [Hid], r3, r1, B1⟩
    case round =>
      obtain ⟨k, hk, rfl, HK, q2, q1, BB⟩ := hrel
      by_cases hlt : k < l.length
      · obtain ⟨b, off, rfl, hc1, hc2⟩ := hN.out k hlt
        have hbl : b < w.heap.size := World.block_lt_of_cell? w _ hc1
        replace hc1 := (BB.cell (p := ⟨b, off + k * 2, none⟩) hbl).trans hc1
        replace hc2 := (BB.cell (p := ⟨b, off + k * 2 + 1, none⟩) hbl).trans hc2
        obtain ⟨x, y, hxy⟩ : ∃ x y, l.getD k (0, 0) = (x, y) := ⟨_, _, rfl⟩
        rw [hxy] at hc1 hc2
        dsimp only at hc1 hc2
        have HXY : Hid (l.getD k (0, 0) = (x, y)) := hxy
        clear hxy
        by_cases hx : 0 ≤ x ∧ x < n
        · by_cases hy : 0 ≤ y ∧ y < n
          · have HO : Hid (okE n (l.getD k (0, 0)) = true) := (show okE n (l.getD k (0, 0)) = true by rw [HXY.out]; simp [okE, hx, hy])
            obtain ⟨X, rfl⟩ : ∃ X : Nat, x = (X : Int) := ⟨x.toNat, by omega⟩
            obtain ⟨Y, rfl⟩ : ∃ Y : Nat, y = (Y : Int) := ⟨y.toNat, by omega⟩
            have hX := hx.2
            have hY := hy.2
            have hX64 : X < 64 := by have := H0.out.2; omega
            have hY64 : Y < 64 := by have := H0.out.2; omega
            clear hx hy
            have HS := ptake l k hlt
            have HA : Hid ((l.take (k + 1)).all (okE n) = true) := (show (l.take (k + 1)).all (okE n) = true by rw [HS, List.all_append, HK.out]; simp only [List.all_cons, List.all_nil, Bool.and_true, Bool.true_and]; exact HO.out)
            have hrw := (q2.alloc (.cells #[.int .i64 X, .int .i64 Y] 59)).row X hX64
            have hfz := (q2.alloc (.cells #[.int .i64 X, .int .i64 Y] 59)).frozen (1 + X)
            have hxl := ofF_lt n H0.out.2 (l.take k) HK.out X
            have hw := wrap_pow Y hY64
            have hor := or_pow (ofF (l.take k) X) Y hxl hY64
            have HQ : Hid (IsR ((wr.alloc (.cells #[.int .i64 X, .int .i64 Y] 59)).setCell ⟨b2, 1 + X, none⟩ (.int .u64 ((ofF (l.take k) X ||| 2 ^ Y : Nat) : Int))) b2 n (ofF (l.take (k + 1)))) := by
              have h1 := (q2.alloc (.cells #[.int .i64 X, .int .i64 Y] 59)).set X (ofF (l.take k) X ||| 2 ^ Y) hX64
              rw [HS, HXY.out, ofF_snoc]
              exact h1
            have U := Upd.setCell (wr.alloc (.cells #[.int .i64 X, .int .i64 Y] 59)) b2 (1 + X) (.int .u64 ((ofF (l.take k) X ||| 2 ^ Y : Nat) : Int))
            have BW := Fresh.trans BB BB.size (Fresh.alloc wr (.cells #[.int .i64 X, .int .i64 Y] 59))
            have q1' := q1.alloc (.cells #[.int .i64 X, .int .i64 Y] 59)
            have hlt2 := q2.lt
            have hv1 : (wr.alloc (.cells #[.int .i64 X, .int .i64 Y] 59)).cell? ⟨wr.heap.size, 0, none⟩ = some (.int .i64 X) := by
              rw [cell_of_row _ _ 0 #[.int .i64 X, .int .i64 Y] 59 (0, 0) (heap_alloc_last wr _)]; rfl
            have hv2 : (wr.alloc (.cells #[.int .i64 X, .int .i64 Y] 59)).cell? ⟨wr.heap.size, 1, none⟩ = some (.int .i64 Y) := by
              rw [cell_of_row _ _ 1 #[.int .i64 X, .int .i64 Y] 59 (0, 0) (heap_alloc_last wr _)]; rfl
            clear HS
            generalize ofF (l.take k) X ||| 2 ^ Y = z at *
            generalize ofF (l.take k) X = z0 at *
            go_wp2_with (first
              | (go_at_call 47; refine (has_any _ _ _).mono ?_; rintro e w' ⟨rfl, hw'⟩; replace hw' := hw'.symm; subst hw'))
            generalize wr.alloc (.cells #[.int .i64 (X : Int), .int .i64 (Y : Int)] 59) = W5 at *
            generalize wr.heap.size = b8 at *
            go_region
            go_wp2
            go_roundw
            case rel => exact ⟨k + 1, by omega, by simp, HA.out, HQ.out.drew, (q1'.upd U (by omega)).drew, (U.trans BW (by omega)).drew⟩
            case measure => simp [intOf]; omega
          · have H1 : Hid (ofV n l = .tuple #[relv 0 void, .int .i64 4]) := of_bad n l k hlt (by rw [HXY.out]; simp [okE, hx, hy])
            go_wp2_with (first
              | (go_at_call 47; refine (has_any _ _ _).mono ?_; rintro e w' ⟨rfl, hw'⟩; replace hw' := hw'.symm; subst hw')
              | (refine wpList_buildR0 rfl rfl ?_)
              | (refine wpList_storeR rfl _ _ rfl rfl rfl (q1.alloc _) ?_; intro W4 U4 r4))
            refine ret_R2 rfl rfl rfl rfl r4 ⟨by rw [H1.out]; rfl, U4.trans (Fresh.trans BB BB.size (Fresh.alloc wr _)) (by omega)⟩
        · have H1 : Hid (ofV n l = .tuple #[relv 0 void, .int .i64 4]) := of_bad n l k hlt (by rw [HXY.out]; simp [okE, hx])
          go_wp2_with (first
            | (go_at_call 47; refine (has_any _ _ _).mono ?_; rintro e w' ⟨rfl, hw'⟩; replace hw' := hw'.symm; subst hw')
            | (refine wpList_buildR0 rfl rfl ?_)
            | (refine wpList_storeR rfl _ _ rfl rfl rfl (q1.alloc _) ?_; intro W4 U4 r4))
          refine ret_R2 rfl rfl rfl rfl r4 ⟨by rw [H1.out]; rfl, U4.trans (Fresh.trans BB BB.size (Fresh.alloc wr _)) (by omega)⟩
      · have : k = l.length := by omega
        subst this
        have HT : l.take l.length = l := List.take_length
        rw [HT] at q2
        have H1 : Hid (ofV n l = .tuple #[relv n (ofF l), .int .i64 0]) := by
          have h2 := HK.out
          rw [HT] at h2
          show ofV n l = _
          unfold ofV
          rw [if_pos (by rw [h2, decide_eq_true H0.out]; rfl)]
        clear HT
        go_wp2_with (first
          | (refine wpList_loadR rfl _ rfl rfl q2 ?_)
          | (refine wpList_storeR rfl _ _ rfl rfl rfl q1 ?_; intro W4 U4 r4))
        refine ret_R2 rfl rfl rfl rfl r4 ⟨by rw [H1.out]; rfl, U4.trans BB (by omega)⟩
  · have hd : decide (0 ≤ n ∧ n ≤ 64) = false := decide_eq_false h0
    have HV : Hid (ofV n l = .tuple #[relv 0 void, .int .i64 4]) := (show ofV n l = _ by unfold ofV; rw [if_neg (by rw [hd]; simp)])
    go_enter Tryd.func39, Tryd.ntmps39
    go_wp2_with (first
      | (go_at_call 40; refine (fits_any _ _).mono ?_; rintro e w' ⟨rfl, hw'⟩; replace hw' := hw'.symm; subst hw')
      | (refine wpList_allocR rfl rfl ?_; intro W1 b1 F1 r1; have B1 := Fresh.trans (Below.refl _ w) (Nat.le_refl _) F1)
      | (refine wpList_buildR0 rfl rfl ?_)
      | (refine wpList_storeR rfl _ _ rfl rfl rfl r1 ?_; intro W3 U3 r3))
    refine ret_R2 rfl rfl rfl rfl r3 ⟨by rw [HV.out]; rfl, U3.trans B1 (by rw [F1.at']; exact Nat.le_refl _)⟩
end Go.Proofs.YtkccckjiemijeabDoor
