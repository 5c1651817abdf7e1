/- WordBack: the law's walk. -/
import Derived.Test.YtlmnlfnodbfgiaaDoorG3
namespace Go.Proofs.YtlmnlfnodbfgiaaDoor
open Go.RowKit M
set_option linter.unusedSimpArgs false
set_option linter.unusedVariables false

theorem addS (W : World) (a b : List UInt8) (h : a.length + b.length ≤ 9223372036854775807) : (Op.stringOp .add ⟨a.toArray⟩ ⟨b.toArray⟩).run Tryd.prog W = .ok (.string ⟨(a ++ b).toArray⟩) W := by
  rw [run_string_add_sum W _ _ (by rw [size_mk, size_mk]; exact h), add_mk]
theorem ext_mk (l : List UInt8) (a : Nat) : (ByteArray.mk l.toArray).extract a (ByteArray.mk l.toArray).size = ⟨(l.drop a).toArray⟩ := by
  have h := exE ⟨l.toArray⟩ a
  cases e : (ByteArray.mk l.toArray).extract a (ByteArray.mk l.toArray).size with
  | mk d =>
    rw [e] at h
    have : d = (l.drop a).toArray := by apply Array.toList_inj.mp; simpa using h
    rw [this]

/-- What the law's loop takes of each text. -/
def Good (v : Int) (T : ByteArray) : Prop := Says v T.data.toList ∧ T.size ≤ 1000

set_option maxRecDepth 100000 in
set_option maxHeartbeats 4000000 in
theorem back_any (v : Int) (h0 : -9223372036854775808 ≤ v) (h1 : v ≤ 9223372036854775807) (n : Int) (w : World) (hT : Tabs w) :
    Calls Tryd.prog 4 #[.int .i64 v, .int .i64 n] w fun e w' => e = .returned (.bool true) ∧ Below w.heap.size w w' := by
  have hW := works_any w hT
  have c1 := fun W (h : Tabs W) => text_any v h0 h1 W h
  have c2 := fun W (h : Tabs W) => hex_any v h0 h1 W h
  have c3 := fun W (h : Tabs W) => uns_any v h0 h1 W h
  have c4 := fun W => noughts_any n W
  obtain ⟨k, hk⟩ : ∃ k, min n.toNat 100 = k := ⟨_, rfl⟩
  have hk100 : k ≤ 100 := by omega
  rw [hk] at c4
  clear hk
  have hz := zeros_len k
  have hl16 := dgs_len 16 (by omega) 16 (uv v) (Nat.lt_of_lt_of_le (uv_lt v) (by decide)) (by omega)
  have hl10 := dgs_len 10 (by omega) 20 (uv v) (by have := uv_lt v; omega) (by omega)
  have hp16 := dgs_pos 16 (uv v)
  have hp10 := dgs_pos 10 (uv v)
  have hvu : valF false (uv v) = some v := valF_uv h0 h1
  have g1 : Good v ⟨(hexT v).toArray⟩ := by
    refine ⟨?_, by rw [size_mk]; unfold hexT; simp; omega⟩
    exact says_hex (Or.inl rfl) (dgs_isD 16 (by omega) (by omega) _) (dgs_ne _ _) (by rw [val_dgs 16 (by omega) (by omega)]; exact hvu)
  have g2 : Good v ⟨(unsL v).toArray⟩ := by
    refine ⟨?_, by rw [size_mk]; unfold unsL; omega⟩
    show Says v (dgs 10 (uv v))
    exact says_dec (dgs_isD 10 (by omega) (by omega) _) (dgs_ne _ _) (by rw [val_dgs 10 (by omega) (by omega)]; exact hvu)
  have g4 : Good v ⟨(([48, 88] ++ zeros k) ++ (hexT v).drop 2).toArray⟩ := by
    refine ⟨?_, by rw [size_mk]; unfold hexT; simp; omega⟩
    show Says v (48 :: 88 :: (zeros k ++ dgs 16 (uv v)))
    exact says_hex (Or.inr rfl) (all_pre (by omega) (dgs_isD 16 (by omega) (by omega) _)) (pre_ne _ _ _) (by rw [val_pre, val_dgs 16 (by omega) (by omega)]; exact hvu)
  have g5 : Good v ⟨(zeros k ++ unsL v).toArray⟩ := by
    refine ⟨?_, by rw [size_mk]; unfold unsL; simp; omega⟩
    show Says v (zeros k ++ dgs 10 (uv v))
    exact says_dec (all_pre (by omega) (dgs_isD 10 (by omega) (by omega) _)) (pre_ne _ _ _) (by rw [val_pre, val_dgs 10 (by omega) (by omega)]; exact hvu)
  have a4 : ∀ W, (Op.stringOp .add (ByteArray.mk #[48, 88]) ⟨(zeros k).toArray⟩).run Tryd.prog W = .ok (.string ⟨([48, 88] ++ zeros k).toArray⟩) W := fun W => addS W [48, 88] (zeros k) (by simp; omega)
  have a5 : ∀ W, (Op.stringOp .add ⟨([48, 88] ++ zeros k).toArray⟩ ((ByteArray.mk (hexT v).toArray).extract 2 (ByteArray.mk (hexT v).toArray).size)).run Tryd.prog W = .ok (.string ⟨(([48, 88] ++ zeros k) ++ (hexT v).drop 2).toArray⟩) W := fun W => by
    rw [ext_mk]; exact addS W _ _ (by unfold hexT; simp; omega)
  have a6 : ∀ W, (Op.stringOp .add ⟨(zeros k).toArray⟩ ⟨(unsL v).toArray⟩).run Tryd.prog W = .ok (.string ⟨(zeros k ++ unsL v).toArray⟩) W := fun W => addS W _ _ (by unfold unsL; omega)
  have s1 : 3 ≤ (ByteArray.mk (hexT v).toArray).size := by rw [size_mk]; unfold hexT; simp; omega
  have s2 : 1 ≤ (ByteArray.mk (unsL v).toArray).size := by rw [size_mk]; unfold unsL; omega
  obtain ⟨hS, hhS⟩ : ∃ x, ByteArray.mk (hexT v).toArray = x := ⟨_, rfl⟩
  obtain ⟨uS, huS⟩ : ∃ x, ByteArray.mk (unsL v).toArray = x := ⟨_, rfl⟩
  obtain ⟨zS, hzS⟩ : ∃ x, ByteArray.mk (zeros k).toArray = x := ⟨_, rfl⟩
  obtain ⟨X1, hX1⟩ : ∃ x, ByteArray.mk ([48, 88] ++ zeros k).toArray = x := ⟨_, rfl⟩
  obtain ⟨X2, hX2⟩ : ∃ x, ByteArray.mk (([48, 88] ++ zeros k) ++ (hexT v).drop 2).toArray = x := ⟨_, rfl⟩
  obtain ⟨Y, hY⟩ : ∃ x, ByteArray.mk (zeros k ++ unsL v).toArray = x := ⟨_, rfl⟩
  rw [hhS] at c2 g1 a5 s1
  rw [huS] at c3 g2 a6 s2
  rw [hzS] at c4 a4 a6
  rw [hX1] at a4 a5
  rw [hX2] at g4 a5
  rw [hY] at g5 a6
  have s1' : (3 : Int) ≤ hS.size := by omega
  have s2' : (1 : Int) ≤ uS.size := by omega
  have s3' : (2 : Int) ≤ hS.size := by omega
  have G1 : Hid (Good v hS) := g1
  have G2 : Hid (Good v uS) := g2
  have G4 : Hid (Good v X2) := g4
  have G5 : Hid (Good v Y) := g5
  have HZ : Hid (ByteArray.mk (zeros k).toArray = zS) := hzS
  clear g1 g2 g4 g5 hhS huS hzS hX1 hX2 hY hvu hl16 hl10 hp16 hp10 s1 s2
  by_cases hv : v < 0
  · have hl := dgs_len 10 (by omega) 20 v.natAbs (by omega) (by omega)
    have hp := dgs_pos 10 v.natAbs
    have hte : textL v = 45 :: dgs 10 v.natAbs := by unfold textL; rw [if_pos hv]
    have hvn : valF true v.natAbs = some v := valF_neg h0 hv
    rw [hte] at c1
    have g0 : Good v ⟨(45 :: dgs 10 v.natAbs).toArray⟩ := by
      refine ⟨?_, by rw [size_mk]; simp; omega⟩
      exact says_neg (dgs_isD 10 (by omega) (by omega) _) (dgs_ne _ _) (by rw [val_dgs 10 (by omega) (by omega)]; exact hvn)
    have g3 : Good v ⟨(([45] ++ zeros k) ++ (45 :: dgs 10 v.natAbs).drop 1).toArray⟩ := by
      refine ⟨?_, by rw [size_mk]; simp; omega⟩
      show Says v (45 :: (zeros k ++ dgs 10 v.natAbs))
      exact says_neg (all_pre (by omega) (dgs_isD 10 (by omega) (by omega) _)) (pre_ne _ _ _) (by rw [val_pre, val_dgs 10 (by omega) (by omega)]; exact hvn)
    have a1 : ∀ W, (Op.stringOp .add zS ⟨(45 :: dgs 10 v.natAbs).toArray⟩).run Tryd.prog W = .ok (.string ⟨(zeros k ++ (45 :: dgs 10 v.natAbs)).toArray⟩) W := fun W => by rw [← HZ.out]; exact addS W _ _ (by simp; omega)
    have a2 : ∀ W, (Op.stringOp .add (ByteArray.mk #[45]) zS).run Tryd.prog W = .ok (.string ⟨([45] ++ zeros k).toArray⟩) W := fun W => by rw [← HZ.out]; exact addS W [45] (zeros k) (by simp; omega)
    have a3 : ∀ W, (Op.stringOp .add ⟨([45] ++ zeros k).toArray⟩ ((ByteArray.mk (45 :: dgs 10 v.natAbs).toArray).extract 1 (ByteArray.mk (45 :: dgs 10 v.natAbs).toArray).size)).run Tryd.prog W = .ok (.string ⟨(([45] ++ zeros k) ++ (45 :: dgs 10 v.natAbs).drop 1).toArray⟩) W := fun W => by
      rw [ext_mk]; exact addS W _ _ (by simp; omega)
    have s0 : 0 < (ByteArray.mk (45 :: dgs 10 v.natAbs).toArray).size := by rw [size_mk]; simp
    have h45 : (((ByteArray.mk (45 :: dgs 10 v.natAbs).toArray)[0]'s0).toNat : Int) = 45 := rfl
    obtain ⟨tS, htS⟩ : ∃ x, ByteArray.mk (45 :: dgs 10 v.natAbs).toArray = x := ⟨_, rfl⟩
    obtain ⟨L0, hL0⟩ : ∃ x, ByteArray.mk (zeros k ++ (45 :: dgs 10 v.natAbs)).toArray = x := ⟨_, rfl⟩
    obtain ⟨M0, hM0⟩ : ∃ x, ByteArray.mk ([45] ++ zeros k).toArray = x := ⟨_, rfl⟩
    obtain ⟨L, hL⟩ : ∃ x, ByteArray.mk (([45] ++ zeros k) ++ (45 :: dgs 10 v.natAbs).drop 1).toArray = x := ⟨_, rfl⟩
    subst htS
    rw [hL0] at a1
    rw [hM0] at a2 a3
    rw [hL] at g3 a3
    have h45' : ((((ByteArray.mk (45 :: dgs 10 v.natAbs).toArray)[0]'s0).toNat : Int) == 45) = true := by rw [h45]; rfl
    generalize ByteArray.mk (45 :: dgs 10 v.natAbs).toArray = tS at *
    have s0' : (1 : Int) ≤ tS.size := by omega
    have G0 : Hid (Good v tS) := g0
    have G3 : Hid (Good v L) := g3
    clear g0 g3 hL0 hM0 hL hvn hte hl hp h45
    go_enter Tryd.func4, Tryd.ntmps4
    go_wp2_with (first
      | (go_at_call 13; refine hW.mono ?_; rintro x w1 ⟨rfl, B⟩; clear hW)
      | (go_at_call 7; refine (c1 _ (hT.below B)).mono ?_; rintro x w2 ⟨rfl, b2⟩; replace B := B.trans (b2.mono B.size); clear b2)
      | (go_at_call 9; refine (c2 _ (hT.below B)).mono ?_; rintro x w3 ⟨rfl, b3⟩; replace B := B.trans (b3.mono B.size); clear b3)
      | (go_at_call 11; refine (c3 _ (hT.below B)).mono ?_; rintro x w4 ⟨rfl, b4⟩; replace B := B.trans (b4.mono B.size); clear b4)
      | (go_at_call 14; refine (c4 _).mono ?_; rintro x w' ⟨rfl, hw'⟩; replace hw' := hw'.symm; subst hw'))
    go_quiet ((go_at_call 14; exact Calls.quiet_of_same (c4 _)))
    replace B : Below w.heap.size w (w4.drewN nq) := ⟨B.os, B.tape, B.output, B.size, B.block⟩
    generalize w4.drewN nq = W4 at B ⊢
    go_wp2
    have hsz : w.heap.size ≤ W4.heap.size := B.size
    refine grow_make 15 _ _ (by kernel_rfl) (by kernel_rfl) rfl rfl (made6_grown _) (made6_make rfl _) ?_
    simp only [List.take_succ_cons, List.take_zero, List.drop_succ_cons, List.drop_zero]
    refine wpG_put rfl (v := .string tS) (fun w => by first | rfl | (go_simp; done) | (simp [execOp, go_sem, a4, a5, a6, s1', s2', s3']; done)) ?_
    try simp only [Act.put, List.setIfInBounds_toArray, List.set_cons_succ, List.set_cons_zero]
    refine wpG_put rfl (v := .string hS) (fun w => by first | rfl | (go_simp; done) | (simp [execOp, go_sem, a4, a5, a6, s1', s2', s3']; done)) ?_
    try simp only [Act.put, List.setIfInBounds_toArray, List.set_cons_succ, List.set_cons_zero]
    refine wpG_put rfl (v := .string uS) (fun w => by first | rfl | (go_simp; done) | (simp [execOp, go_sem, a4, a5, a6, s1', s2', s3']; done)) ?_
    try simp only [Act.put, List.setIfInBounds_toArray, List.set_cons_succ, List.set_cons_zero]
    refine wpG_put rfl (v := .string L) (fun w => by first | rfl | (go_simp; done) | (simp [execOp, go_sem, a4, a5, a6, s1', s2', s3']; done)) ?_
    try simp only [Act.put, List.setIfInBounds_toArray, List.set_cons_succ, List.set_cons_zero]
    refine wpG_put rfl (v := .int .i64 n) (fun w => by first | rfl | (go_simp; done) | (simp [execOp, go_sem, a4, a5, a6, s1', s2', s3']; done)) ?_
    try simp only [Act.put, List.setIfInBounds_toArray, List.set_cons_succ, List.set_cons_zero]
    refine wpG_call rfl (fun W _ => (c4 W).mono fun e w' ⟨he, hw⟩ => ⟨he, by rw [hw]; exact Below.refl _ _⟩) (fun w => by first | rfl | (go_simp; done)) ?_
    try simp only [Act.put, List.setIfInBounds_toArray, List.set_cons_succ, List.set_cons_zero]
    refine wpG_put rfl (v := .string X1) (fun w => by first | rfl | (go_simp; done) | (simp [execOp, go_sem, a4, a5, a6, s1', s2', s3']; done)) ?_
    try simp only [Act.put, List.setIfInBounds_toArray, List.set_cons_succ, List.set_cons_zero]
    refine wpG_put rfl (v := .string hS) (fun w => by first | rfl | (go_simp; done) | (simp [execOp, go_sem, a4, a5, a6, s1', s2', s3']; done)) ?_
    try simp only [Act.put, List.setIfInBounds_toArray, List.set_cons_succ, List.set_cons_zero]
    refine wpG_put rfl (v := .string (hS.extract 2 hS.size)) (fun w => by first | rfl | (go_simp; done) | (simp [execOp, go_sem, a4, a5, a6, s1', s2', s3']; done)) ?_
    try simp only [Act.put, List.setIfInBounds_toArray, List.set_cons_succ, List.set_cons_zero]
    refine wpG_put rfl (v := .string X2) (fun w => by first | rfl | (go_simp; done) | (simp [execOp, go_sem, a4, a5, a6, s1', s2', s3']; done)) ?_
    try simp only [Act.put, List.setIfInBounds_toArray, List.set_cons_succ, List.set_cons_zero]
    refine wpG_put rfl (v := .int .i64 n) (fun w => by first | rfl | (go_simp; done) | (simp [execOp, go_sem, a4, a5, a6, s1', s2', s3']; done)) ?_
    try simp only [Act.put, List.setIfInBounds_toArray, List.set_cons_succ, List.set_cons_zero]
    refine wpG_call rfl (fun W _ => (c4 W).mono fun e w' ⟨he, hw⟩ => ⟨he, by rw [hw]; exact Below.refl _ _⟩) (fun w => by first | rfl | (go_simp; done)) ?_
    try simp only [Act.put, List.setIfInBounds_toArray, List.set_cons_succ, List.set_cons_zero]
    refine wpG_put rfl (v := .string uS) (fun w => by first | rfl | (go_simp; done) | (simp [execOp, go_sem, a4, a5, a6, s1', s2', s3']; done)) ?_
    try simp only [Act.put, List.setIfInBounds_toArray, List.set_cons_succ, List.set_cons_zero]
    refine wpG_put rfl (v := .string Y) (fun w => by first | rfl | (go_simp; done) | (simp [execOp, go_sem, a4, a5, a6, s1', s2', s3']; done)) ?_
    try simp only [Act.put, List.setIfInBounds_toArray, List.set_cons_succ, List.set_cons_zero]
    refine wpG_put rfl (v := .agg (six fun j => match j with | 0 => tS | 1 => hS | 2 => uS | 3 => L | 4 => X2 | _ => Y)) (fun w => by first | rfl | (go_simp; done) | (simp [execOp, go_sem, six]; done)) ?_
    try simp only [Act.put, List.setIfInBounds_toArray, List.set_cons_succ, List.set_cons_zero]
    refine wpG_nil ?_
    rintro pv w5 ⟨B5, b, rfl, hb, I5⟩
    try simp only [Act.put, List.setIfInBounds_toArray, List.set_cons_succ, List.set_cons_zero]
    replace B := B.trans (B5.mono B.size)
    have hbw : w.heap.size ≤ b := Nat.le_trans hsz hb
    clear B5
    refine wpList_store6 rfl _ _ rfl rfl rfl I5 ?_
    intro W6 U6 I6
    replace B := U6.trans B hbw
    clear U6 I5
    go_wp2
    obtain ⟨A, hA⟩ : ∃ A : Nat → ByteArray, (fun j => match j with | 0 => tS | 1 => hS | 2 => uS | 3 => L | 4 => X2 | _ => Y) = A := ⟨_, rfl⟩
    have GA : Hid (∀ j, j < 6 → Good v (A j)) := fun j hj => by
      rw [← hA]
      match j, hj with
      | 0, _ => exact G0.out
      | 1, _ => exact G1.out
      | 2, _ => exact G2.out
      | 3, _ => exact G3.out
      | 4, _ => exact G4.out
      | 5, _ => exact G5.out
    rw [hA] at I6
    clear hA G0 G1 G2 G3 G4 G5
    go_loopw [10] (fun i wr => ∃ j : Nat, j ≤ 6 ∧ i = .int .i64 (j : Int) ∧ Is6 wr b A ∧ Below w.heap.size w wr) (fun i _ => 6 - (intOf i).toNat)
    case atStart => exact ⟨0, by omega, rfl, I6, B⟩
    case round =>
      obtain ⟨j, hj, rfl, I7, B7⟩ := hrel
      by_cases hlt : j < 6
      · have hlt' : (j : Int) < 6 := by omega
        obtain ⟨hsays, hsize⟩ := GA.out j hlt
        have hc7 := I7.cell j hlt
        obtain ⟨T, hTe⟩ : ∃ T, A j = T := ⟨_, rfl⟩
        have hPr : ∀ W, Calls Tryd.prog 15 #[.string T] W fun e w' => e = .returned (.tuple #[.int .i64 v, .int .i64 0]) ∧ Below W.heap.size W w' := fun W => by
          have := parse_any (A j) (by unfold maxLen; omega) W
          rw [hsays.1, hTe] at this; exact this
        obtain ⟨T2, hT2⟩ : ∃ T2, ByteArray.mk ((A j).data.toList ++ [32]).toArray = T2 := ⟨_, rfl⟩
        have hT2s : T2.size ≤ maxLen := by rw [← hT2, size_mk]; have := sizeL (A j); unfold maxLen; simp; omega
        have hsp : ∀ W, (Op.stringOp .add T (ByteArray.mk #[32])).run Tryd.prog W = .ok (.string T2) W := fun W => by
          have h2 := addS W (A j).data.toList [32] (by have := sizeL (A j); simp; omega)
          rw [hT2] at h2
          rw [← hTe]; exact h2
        have hNx : ∀ W, Calls Tryd.prog 16 #[.string T2, .int .i64 0] W fun e w' => e = .returned (.tuple #[.int .i64 v, .int .i64 (T.size : Int), .int .i64 0]) ∧ Below W.heap.size W w' := fun W => by
          have h2 := next_any T2 hT2s 0 W
          have h3 : nextA T2 0 = nextO T2.data.toList := by unfold nextA; rw [if_neg (by omega)]; rfl
          have h4 : T2.data.toList = (A j).data.toList ++ [32] := by rw [← hT2]
          rw [h3, h4, hsays.2, ← sizeL, hTe] at h2; exact h2
        have hTv : Hid (some (Value.string (A j)) = some (Value.string T)) := by show some _ = some _; rw [hTe]
        rw [hTe] at hc7 hsize
        clear hTe hT2 hsays hT2s
        go_wp2_with (first
          | (go_at_call 15; refine (hPr _).mono ?_; rintro x w8 ⟨rfl, b8⟩; replace I7 := I7.below b8; replace B7 := B7.trans (b8.mono B7.size); clear b8; have hc8 := (I7.cell j hlt).trans hTv.out)
          | (go_at_call 16; refine (hNx _).mono ?_; rintro x w9 ⟨rfl, b9⟩; replace I7 := I7.below b9; replace B7 := B7.trans (b9.mono B7.size); clear b9; have hc9 := (I7.cell j hlt).trans hTv.out)
          | (go_at_call 17; refine (num_any _ _).mono ?_; rintro x w' ⟨rfl, hw'⟩; replace hw' := hw'.symm; subst hw'))
        go_roundw
        case rel => exact ⟨j + 1, by omega, by go_num, I7, B7⟩
        case measure => simp [intOf]; omega
      · have hlt' : ¬ (j : Int) < 6 := by omega
        go_wp2
        go_ret
        exact ⟨rfl, B7⟩
  · have hl := dgs_len 10 (by omega) 20 v.toNat (by omega) (by omega)
    have hp := dgs_pos 10 v.toNat
    have hte : textL v = dgs 10 v.toNat := by unfold textL; rw [if_neg hv]
    have hvn : valF false v.toNat = some v := valF_pos h1 hv
    rw [hte] at c1
    have hall := dgs_isD 10 (by omega) (by omega) v.toNat
    have g0 : Good v ⟨(dgs 10 v.toNat).toArray⟩ := by
      refine ⟨?_, by rw [size_mk]; omega⟩
      show Says v (dgs 10 v.toNat)
      exact says_dec hall (dgs_ne _ _) (by rw [val_dgs 10 (by omega) (by omega)]; exact hvn)
    have g3 : Good v ⟨(zeros k ++ dgs 10 v.toNat).toArray⟩ := by
      refine ⟨?_, by rw [size_mk]; simp; omega⟩
      show Says v (zeros k ++ dgs 10 v.toNat)
      exact says_dec (all_pre (by omega) hall) (pre_ne _ _ _) (by rw [val_pre, val_dgs 10 (by omega) (by omega)]; exact hvn)
    have a1 : ∀ W, (Op.stringOp .add zS ⟨(dgs 10 v.toNat).toArray⟩).run Tryd.prog W = .ok (.string ⟨(zeros k ++ dgs 10 v.toNat).toArray⟩) W := fun W => by rw [← HZ.out]; exact addS W _ _ (by omega)
    have s0 : 0 < (ByteArray.mk (dgs 10 v.toNat).toArray).size := by rw [size_mk]; omega
    have h45' : ((((ByteArray.mk (dgs 10 v.toNat).toArray)[0]'s0).toNat : Int) == 45) = false := by
      have hb := dec_byte (hall _ (List.getElem_mem (show 0 < (dgs 10 v.toNat).length by omega)))
      have e : (ByteArray.mk (dgs 10 v.toNat).toArray)[0]'s0 = (dgs 10 v.toNat)[0] := rfl
      rw [e]; simp; omega
    obtain ⟨L, hL⟩ : ∃ x, ByteArray.mk (zeros k ++ dgs 10 v.toNat).toArray = x := ⟨_, rfl⟩
    rw [hL] at g3 a1
    generalize ByteArray.mk (dgs 10 v.toNat).toArray = tS at *
    have s0' : (1 : Int) ≤ tS.size := by omega
    have G0 : Hid (Good v tS) := g0
    have G3 : Hid (Good v L) := g3
    clear g0 g3 hL hvn hte hl hp hall
    go_enter Tryd.func4, Tryd.ntmps4
    go_wp2_with (first
      | (go_at_call 13; refine hW.mono ?_; rintro x w1 ⟨rfl, B⟩; clear hW)
      | (go_at_call 7; refine (c1 _ (hT.below B)).mono ?_; rintro x w2 ⟨rfl, b2⟩; replace B := B.trans (b2.mono B.size); clear b2)
      | (go_at_call 9; refine (c2 _ (hT.below B)).mono ?_; rintro x w3 ⟨rfl, b3⟩; replace B := B.trans (b3.mono B.size); clear b3)
      | (go_at_call 11; refine (c3 _ (hT.below B)).mono ?_; rintro x w4 ⟨rfl, b4⟩; replace B := B.trans (b4.mono B.size); clear b4)
      | (go_at_call 14; refine (c4 _).mono ?_; rintro x w' ⟨rfl, hw'⟩; replace hw' := hw'.symm; subst hw'))
    generalize w4 = W4 at B ⊢
    have hsz : w.heap.size ≤ W4.heap.size := B.size
    refine grow_make 15 _ _ (by kernel_rfl) (by kernel_rfl) rfl rfl (made6_grown _) (made6_make rfl _) ?_
    simp only [List.take_succ_cons, List.take_zero, List.drop_succ_cons, List.drop_zero]
    refine wpG_put rfl (v := .string tS) (fun w => by first | rfl | (go_simp; done) | (simp [execOp, go_sem, a4, a5, a6, s1', s2', s3']; done)) ?_
    try simp only [Act.put, List.setIfInBounds_toArray, List.set_cons_succ, List.set_cons_zero]
    refine wpG_put rfl (v := .string hS) (fun w => by first | rfl | (go_simp; done) | (simp [execOp, go_sem, a4, a5, a6, s1', s2', s3']; done)) ?_
    try simp only [Act.put, List.setIfInBounds_toArray, List.set_cons_succ, List.set_cons_zero]
    refine wpG_put rfl (v := .string uS) (fun w => by first | rfl | (go_simp; done) | (simp [execOp, go_sem, a4, a5, a6, s1', s2', s3']; done)) ?_
    try simp only [Act.put, List.setIfInBounds_toArray, List.set_cons_succ, List.set_cons_zero]
    refine wpG_put rfl (v := .string L) (fun w => by first | rfl | (go_simp; done) | (simp [execOp, go_sem, a4, a5, a6, s1', s2', s3']; done)) ?_
    try simp only [Act.put, List.setIfInBounds_toArray, List.set_cons_succ, List.set_cons_zero]
    refine wpG_put rfl (v := .int .i64 n) (fun w => by first | rfl | (go_simp; done) | (simp [execOp, go_sem, a4, a5, a6, s1', s2', s3']; done)) ?_
    try simp only [Act.put, List.setIfInBounds_toArray, List.set_cons_succ, List.set_cons_zero]
    refine wpG_call rfl (fun W _ => (c4 W).mono fun e w' ⟨he, hw⟩ => ⟨he, by rw [hw]; exact Below.refl _ _⟩) (fun w => by first | rfl | (go_simp; done)) ?_
    try simp only [Act.put, List.setIfInBounds_toArray, List.set_cons_succ, List.set_cons_zero]
    refine wpG_put rfl (v := .string X1) (fun w => by first | rfl | (go_simp; done) | (simp [execOp, go_sem, a4, a5, a6, s1', s2', s3']; done)) ?_
    try simp only [Act.put, List.setIfInBounds_toArray, List.set_cons_succ, List.set_cons_zero]
    refine wpG_put rfl (v := .string hS) (fun w => by first | rfl | (go_simp; done) | (simp [execOp, go_sem, a4, a5, a6, s1', s2', s3']; done)) ?_
    try simp only [Act.put, List.setIfInBounds_toArray, List.set_cons_succ, List.set_cons_zero]
    refine wpG_put rfl (v := .string (hS.extract 2 hS.size)) (fun w => by first | rfl | (go_simp; done) | (simp [execOp, go_sem, a4, a5, a6, s1', s2', s3']; done)) ?_
    try simp only [Act.put, List.setIfInBounds_toArray, List.set_cons_succ, List.set_cons_zero]
    refine wpG_put rfl (v := .string X2) (fun w => by first | rfl | (go_simp; done) | (simp [execOp, go_sem, a4, a5, a6, s1', s2', s3']; done)) ?_
    try simp only [Act.put, List.setIfInBounds_toArray, List.set_cons_succ, List.set_cons_zero]
    refine wpG_put rfl (v := .int .i64 n) (fun w => by first | rfl | (go_simp; done) | (simp [execOp, go_sem, a4, a5, a6, s1', s2', s3']; done)) ?_
    try simp only [Act.put, List.setIfInBounds_toArray, List.set_cons_succ, List.set_cons_zero]
    refine wpG_call rfl (fun W _ => (c4 W).mono fun e w' ⟨he, hw⟩ => ⟨he, by rw [hw]; exact Below.refl _ _⟩) (fun w => by first | rfl | (go_simp; done)) ?_
    try simp only [Act.put, List.setIfInBounds_toArray, List.set_cons_succ, List.set_cons_zero]
    refine wpG_put rfl (v := .string uS) (fun w => by first | rfl | (go_simp; done) | (simp [execOp, go_sem, a4, a5, a6, s1', s2', s3']; done)) ?_
    try simp only [Act.put, List.setIfInBounds_toArray, List.set_cons_succ, List.set_cons_zero]
    refine wpG_put rfl (v := .string Y) (fun w => by first | rfl | (go_simp; done) | (simp [execOp, go_sem, a4, a5, a6, s1', s2', s3']; done)) ?_
    try simp only [Act.put, List.setIfInBounds_toArray, List.set_cons_succ, List.set_cons_zero]
    refine wpG_put rfl (v := .agg (six fun j => match j with | 0 => tS | 1 => hS | 2 => uS | 3 => L | 4 => X2 | _ => Y)) (fun w => by first | rfl | (go_simp; done) | (simp [execOp, go_sem, six]; done)) ?_
    try simp only [Act.put, List.setIfInBounds_toArray, List.set_cons_succ, List.set_cons_zero]
    refine wpG_nil ?_
    rintro pv w5 ⟨B5, b, rfl, hb, I5⟩
    try simp only [Act.put, List.setIfInBounds_toArray, List.set_cons_succ, List.set_cons_zero]
    replace B := B.trans (B5.mono B.size)
    have hbw : w.heap.size ≤ b := Nat.le_trans hsz hb
    clear B5
    refine wpList_store6 rfl _ _ rfl rfl rfl I5 ?_
    intro W6 U6 I6
    replace B := U6.trans B hbw
    clear U6 I5
    go_wp2
    obtain ⟨A, hA⟩ : ∃ A : Nat → ByteArray, (fun j => match j with | 0 => tS | 1 => hS | 2 => uS | 3 => L | 4 => X2 | _ => Y) = A := ⟨_, rfl⟩
    have GA : Hid (∀ j, j < 6 → Good v (A j)) := fun j hj => by
      rw [← hA]
      match j, hj with
      | 0, _ => exact G0.out
      | 1, _ => exact G1.out
      | 2, _ => exact G2.out
      | 3, _ => exact G3.out
      | 4, _ => exact G4.out
      | 5, _ => exact G5.out
    rw [hA] at I6
    clear hA G0 G1 G2 G3 G4 G5
    go_loopw [10] (fun i wr => ∃ j : Nat, j ≤ 6 ∧ i = .int .i64 (j : Int) ∧ Is6 wr b A ∧ Below w.heap.size w wr) (fun i _ => 6 - (intOf i).toNat)
    case atStart => exact ⟨0, by omega, rfl, I6, B⟩
    case round =>
      obtain ⟨j, hj, rfl, I7, B7⟩ := hrel
      by_cases hlt : j < 6
      · have hlt' : (j : Int) < 6 := by omega
        obtain ⟨hsays, hsize⟩ := GA.out j hlt
        have hc7 := I7.cell j hlt
        obtain ⟨T, hTe⟩ : ∃ T, A j = T := ⟨_, rfl⟩
        have hPr : ∀ W, Calls Tryd.prog 15 #[.string T] W fun e w' => e = .returned (.tuple #[.int .i64 v, .int .i64 0]) ∧ Below W.heap.size W w' := fun W => by
          have := parse_any (A j) (by unfold maxLen; omega) W
          rw [hsays.1, hTe] at this; exact this
        obtain ⟨T2, hT2⟩ : ∃ T2, ByteArray.mk ((A j).data.toList ++ [32]).toArray = T2 := ⟨_, rfl⟩
        have hT2s : T2.size ≤ maxLen := by rw [← hT2, size_mk]; have := sizeL (A j); unfold maxLen; simp; omega
        have hsp : ∀ W, (Op.stringOp .add T (ByteArray.mk #[32])).run Tryd.prog W = .ok (.string T2) W := fun W => by
          have h2 := addS W (A j).data.toList [32] (by have := sizeL (A j); simp; omega)
          rw [hT2] at h2
          rw [← hTe]; exact h2
        have hNx : ∀ W, Calls Tryd.prog 16 #[.string T2, .int .i64 0] W fun e w' => e = .returned (.tuple #[.int .i64 v, .int .i64 (T.size : Int), .int .i64 0]) ∧ Below W.heap.size W w' := fun W => by
          have h2 := next_any T2 hT2s 0 W
          have h3 : nextA T2 0 = nextO T2.data.toList := by unfold nextA; rw [if_neg (by omega)]; rfl
          have h4 : T2.data.toList = (A j).data.toList ++ [32] := by rw [← hT2]
          rw [h3, h4, hsays.2, ← sizeL, hTe] at h2; exact h2
        have hTv : Hid (some (Value.string (A j)) = some (Value.string T)) := by show some _ = some _; rw [hTe]
        rw [hTe] at hc7 hsize
        clear hTe hT2 hsays hT2s
        go_wp2_with (first
          | (go_at_call 15; refine (hPr _).mono ?_; rintro x w8 ⟨rfl, b8⟩; replace I7 := I7.below b8; replace B7 := B7.trans (b8.mono B7.size); clear b8; have hc8 := (I7.cell j hlt).trans hTv.out)
          | (go_at_call 16; refine (hNx _).mono ?_; rintro x w9 ⟨rfl, b9⟩; replace I7 := I7.below b9; replace B7 := B7.trans (b9.mono B7.size); clear b9; have hc9 := (I7.cell j hlt).trans hTv.out)
          | (go_at_call 17; refine (num_any _ _).mono ?_; rintro x w' ⟨rfl, hw'⟩; replace hw' := hw'.symm; subst hw'))
        go_roundw
        case rel => exact ⟨j + 1, by omega, by go_num, I7, B7⟩
        case measure => simp [intOf]; omega
      · have hlt' : ¬ (j : Int) < 6 := by omega
        go_wp2
        go_ret
        exact ⟨rfl, B7⟩
end Go.Proofs.YtlmnlfnodbfgiaaDoor
