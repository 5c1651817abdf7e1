/- Several texts in one: D5, D6, DSh, D7, D8, D9, O5, D10, D11. -/
import Derived.Test.YtdjlfpkemdiadaaDoorXA
import Derived.Test.YtdjlfpkemdiadaaDoorXB
import Derived.Shelf.Strings.Builder1
import Derived.Shelf.Strconv.Itoa0
import Derived.Shelf.Strconv.Itoa1
import Derived.Shelf.LaysM
import Derived.Shelf.Strconv.Itoa2
import Derived.Shelf.Strconv.Itoa3
import Derived.Test.YtdjlfpkemdiadaaDoorProg
import Derived.Test.YtdjlfpkemdiadaaDoorQE
import Derived.ProofKit
import Derived.OpenShut
import Derived.LaidMore
import Derived.Lib.LaidTab
import Derived.Stop.Joined
import Derived.Stop.LaidErr
import Derived.SevenTiedAt
import Derived.SizedLaws
import Derived.Lib.RowBridge
import Derived.ChangeMaps5
import Derived.ChangeOld
import Derived.Test.YtdjlfpkemdiadaaDoorTie
import Derived.Test.YtdjlfpkemdiadaaDoorCards
import Derived.Test.YtdjlfpkemdiadaaDoorChecked
import Derived.Test.YtdjlfpkemdiadaaDoorPgOP
import Derived.Deep.DeepHandedRow
import Derived.JoinedCond
/- The reference's arrows. -/
namespace Go.Proofs.YtdjlfpkemdiadaaDoor
open Go Go.RowKit M
set_option linter.unusedSimpArgs false
set_option linter.unusedVariables false

/-- Does one of the first c stand between? -/
def btw (F : Nat → Nat) (a b c : Nat) : Bool := (List.range c).any fun k => (F a).testBit k && (F k).testBit b
theorem btw_zero (F : Nat → Nat) (a b : Nat) : btw F a b 0 = false := rfl
theorem btw_succ (F : Nat → Nat) (a b c : Nat) : btw F a b (c + 1) = (btw F a b c || ((F a).testBit c && (F c).testBit b)) := by
  unfold btw; rw [List.range_succ, List.any_append]; simp
/-- The relation that is drawn. -/
def drwF (least : Bool) (N : Nat) (F : Nat → Nat) : Nat → Nat := if least then dirF N F else F
theorem right_drw {N : Nat} (hN : N ≤ 64) {F : Nat → Nat} (h : Right N F) (least : Bool) : Right N (drwF least N F) := by
  cases least
  · exact h
  · exact right_dir hN F
theorem drw_bit {N : Nat} {F : Nat → Nat} (least : Bool) (a b : Nat) (ha : a < N) (hb : b < N) : (drwF least N F a).testBit b = ((F a).testBit b && (!least || !btw F a b N)) := by
  cases least
  · simp [drwF]
  · simp only [drwF, if_true, dirF, prF_bit, dirQ, btw]
    simp [ha, hb]
theorem arr_ref (L s : List UInt8) (a b : Nat) : L ++ [101] ++ textL (a : Int) ++ [32, 45, 62, 32, 101] ++ textL (b : Int) ++ [32, 91, 108, 97, 98, 101, 108, 61, 34] ++ s ++ [34, 93, 10] = L ++ arrL s a b := by
  simp [arrL, nodeL, lblL]
theorem edges64 {N : Nat} {G : Nat → Nat} (hN : N ≤ 64) : ∀ e ∈ edgesL N G, e.1 < 64 ∧ e.2 < 64 := by
  intro e he
  have := (mem_edges (a := e.1) (b := e.2)).1 he
  exact ⟨by omega, this.2.1⟩
theorem rowP64 {G : Nat → Nat} {a b : Nat} (ha : a < 64) (hb : b ≤ 64) : ∀ e ∈ rowP G a b, e.1 < 64 ∧ e.2 < 64 := by
  intro e he
  unfold rowP at he
  obtain ⟨k, hk, rfl⟩ := List.mem_map.1 he
  have := List.mem_range.1 (List.mem_filter.1 hk).1
  exact ⟨ha, by omega⟩
theorem rowP_len (G : Nat → Nat) (a b : Nat) : (rowP G a b).length ≤ b := by
  unfold rowP
  rw [List.length_map]
  have := List.length_filter_le (fun k => (G a).testBit k) (List.range b)
  simpa using this
set_option maxRecDepth 100000 in
set_option maxHeartbeats 8000000 in
theorem rarrows_any {N : Nat} (hN : N ≤ 64) {F : Nat → Nat} (hF : Right N F) (s : List UInt8) (hs : s.length ≤ 4) (least : Bool) (w : World) :
    Calls Tryd.prog 54 #[relv N F, .string (bs s), .bool least] w fun e w' => e = .returned (.string (bs (arrsL s (edgesL N (drwF least N F))))) ∧ Below w.heap.size w w' := by
  have HG : Hid (Right N (drwF least N F)) := right_drw hN hF least
  have HGB : Hid (∀ a b, a < N → b < N → (drwF least N F a).testBit b = ((F a).testBit b && (!least || !btw F a b N))) := fun a b => drw_bit least a b
  have HFL : Hid (∀ a, F a < 18446744073709551616) := hF.wf
  generalize drwF least N F = G at *
  clear hF
  go_enter Tryd.func54, Tryd.ntmps54
  go_wp2_with (first
    | (refine wpList_boxR rfl _ rfl rfl ?_; intro W1 b1 F1 r1; have B1 := F_b F1; have y0 := r1.n; clear F1))
  have HR : Hid (IsR W1 b1 (N : Int) F) := r1
  have HB1 : Hid (Below w.heap.size w W1) := B1
  clear r1 B1 y0
  go_loopw [7, 8] (fun st i wr => ∃ a : Nat, a ≤ N ∧ i = .int .i64 (a : Int) ∧ st = .string (bs (arrsL s (edgesL a G))) ∧ Hid (Below W1.heap.size W1 wr)) (fun _ i _ => N - (intOf i).toNat)
  case atStart => exact ⟨0, Nat.zero_le _, rfl, rfl, Below.refl _ _⟩
  case round =>
    as_aux_lemma =>
      obtain ⟨a, ha, rfl, rfl, HB⟩ := hrel
      have y0 := (HR.out.grown HB.out).n
      by_cases hlt : a < N
      · have hai : (a : Int) < (N : Int) := by omega
        have ha64i : (a : Int) < 64 := by omega
        have ha64 : a < 64 := by omega
        go_wp2
        go_loopw [7, 9] (fun st i wr => ∃ b : Nat, b ≤ N ∧ i = .int .i64 (b : Int) ∧ st = .string (bs (arrsL s (edgesL a G ++ rowP G a b))) ∧ Hid (Below W1.heap.size W1 wr)) (fun _ i _ => N - (intOf i).toNat)
        case atStart => exact ⟨0, Nat.zero_le _, rfl, by rw [rowP_zero, List.append_nil], HB.out⟩
        case round =>
          as_aux_lemma =>
            clear y0 HB
            obtain ⟨b, hb, rfl, rfl, HB⟩ := hrel
            have y0 := (HR.out.grown HB.out).n
            by_cases hlt2 : b < N
            · have hbi : (b : Int) < (N : Int) := by omega
              have hb64i : (b : Int) < 64 := by omega
              have hb64 : b < 64 := by omega
              have ca := (HR.out.grown HB.out).row a ha64
              have hXa := HFL.out a
              have hgb := HGB.out a b hlt hlt2
              obtain ⟨Xa, hXe⟩ : ∃ z, F a = z := ⟨_, rfl⟩
              rw [hXe] at ca hXa hgb
              have HXE : Hid (F a = Xa) := hXe
              clear hXe
              cases hbit : Xa.testBit b with
              | false =>
                have va : ((b2 Xa b : Nat) : Int) = 0 := by rw [bit_b2 hbit]; rfl
                have hgf : (G a).testBit b = false := by rw [hgb, hbit]; rfl
                go_upto_region 8 with fail
                try simp only [Act.put]
                refine grow_region ?_
                refine WG.put rfl (v := .int .i64 (a : Int)) (fun w => by first | rfl | (go_simp; done) | (simp [go_sem]; done) | (simp [execOp, go_sem]; done)) ?_
                simp only [Act.put, List.setIfInBounds_toArray, List.set_cons_succ, List.set_cons_zero]
                refine WG.put rfl (v := .pointer (some ⟨b1, 1, none⟩)) (fun w => by first | rfl | (go_simp; done) | (simp [go_sem]; done) | (simp [execOp, go_sem]; done)) ?_
                simp only [Act.put, List.setIfInBounds_toArray, List.set_cons_succ, List.set_cons_zero]
                refine WG.put rfl (v := .pointer (some ⟨b1, 1 + a, none⟩)) (fun w => by first | rfl | (go_simp; done) | (simp [go_sem, ha64i]; done) | (simp [execOp, go_sem, ha64i]; done)) ?_
                simp only [Act.put, List.setIfInBounds_toArray, List.set_cons_succ, List.set_cons_zero]
                refine WG.cell rfl 29 _ rfl rfl ca (fun w h => by simp [go_sem, h]) ?_
                simp only [Act.put, List.setIfInBounds_toArray, List.set_cons_succ, List.set_cons_zero]
                refine WG.put rfl (v := .int .i64 (b : Int)) (fun w => by first | rfl | (go_simp; done) | (simp [go_sem]; done) | (simp [execOp, go_sem]; done)) ?_
                simp only [Act.put, List.setIfInBounds_toArray, List.set_cons_succ, List.set_cons_zero]
                refine WG.put rfl (fun w => exec_cvt rfl rfl (by omega)) ?_
                simp only [Act.put, List.setIfInBounds_toArray, List.set_cons_succ, List.set_cons_zero]
                refine WG.put rfl (fun w => exec_shr (X := Xa) rfl rfl rfl hXa hb64) ?_
                simp only [Act.put, List.setIfInBounds_toArray, List.set_cons_succ, List.set_cons_zero]
                refine WG.put rfl (v := .int .u64 0) (fun w => (exec_bit (X := Xa) rfl rfl hXa).trans (by rw [va])) ?_
                simp only [Act.put, List.setIfInBounds_toArray, List.set_cons_succ, List.set_cons_zero]
                refine WG.put rfl (v := .bool true) (fun w => by first | rfl | (go_simp; done) | (simp [go_sem]; done) | (simp [execOp, go_sem]; done)) ?_
                simp only [Act.put, List.setIfInBounds_toArray, List.set_cons_succ, List.set_cons_zero]
                refine WG.nil ?_
                intro w8 B8
                go_wp2
                go_roundw
                case rel => exact ⟨b + 1, by omega, by go_num, by rw [rowP_no hgf], Below.then HB.out B8⟩
                case measure => simp [intOf]; omega
              | true =>
                have va : ((b2 Xa b : Nat) : Int) = 1 := by rw [bit_b2 hbit]; rfl
                have HGb : Hid ((G a).testBit b = (!least || !btw F a b N)) := by show _ = _; rw [hgb, hbit]; rfl
                clear hgb
                go_upto_region 8 with fail
                try simp only [Act.put]
                refine grow_region ?_
                refine WG.put rfl (v := .int .i64 (a : Int)) (fun w => by first | rfl | (go_simp; done) | (simp [go_sem]; done) | (simp [execOp, go_sem]; done)) ?_
                simp only [Act.put, List.setIfInBounds_toArray, List.set_cons_succ, List.set_cons_zero]
                refine WG.put rfl (v := .pointer (some ⟨b1, 1, none⟩)) (fun w => by first | rfl | (go_simp; done) | (simp [go_sem]; done) | (simp [execOp, go_sem]; done)) ?_
                simp only [Act.put, List.setIfInBounds_toArray, List.set_cons_succ, List.set_cons_zero]
                refine WG.put rfl (v := .pointer (some ⟨b1, 1 + a, none⟩)) (fun w => by first | rfl | (go_simp; done) | (simp [go_sem, ha64i]; done) | (simp [execOp, go_sem, ha64i]; done)) ?_
                simp only [Act.put, List.setIfInBounds_toArray, List.set_cons_succ, List.set_cons_zero]
                refine WG.cell rfl 29 _ rfl rfl ca (fun w h => by simp [go_sem, h]) ?_
                simp only [Act.put, List.setIfInBounds_toArray, List.set_cons_succ, List.set_cons_zero]
                refine WG.put rfl (v := .int .i64 (b : Int)) (fun w => by first | rfl | (go_simp; done) | (simp [go_sem]; done) | (simp [execOp, go_sem]; done)) ?_
                simp only [Act.put, List.setIfInBounds_toArray, List.set_cons_succ, List.set_cons_zero]
                refine WG.put rfl (fun w => exec_cvt rfl rfl (by omega)) ?_
                simp only [Act.put, List.setIfInBounds_toArray, List.set_cons_succ, List.set_cons_zero]
                refine WG.put rfl (fun w => exec_shr (X := Xa) rfl rfl rfl hXa hb64) ?_
                simp only [Act.put, List.setIfInBounds_toArray, List.set_cons_succ, List.set_cons_zero]
                refine WG.put rfl (v := .int .u64 1) (fun w => (exec_bit (X := Xa) rfl rfl hXa).trans (by rw [va])) ?_
                simp only [Act.put, List.setIfInBounds_toArray, List.set_cons_succ, List.set_cons_zero]
                refine WG.put rfl (v := .bool false) (fun w => by first | rfl | (go_simp; done) | (simp [go_sem]; done) | (simp [execOp, go_sem]; done)) ?_
                simp only [Act.put, List.setIfInBounds_toArray, List.set_cons_succ, List.set_cons_zero]
                refine WG.nil ?_
                intro w8 B8
                have HB8 : Hid (Below W1.heap.size W1 w8) := Below.then HB.out B8
                replace y0 := cell_grow y0 B8
                clear ca va B8 HB
                go_wp2
                go_loopw [10, 11] (fun q i wr => ∃ c : Nat, c ≤ N ∧ i = .int .i64 (c : Int) ∧ q = .bool (btw F a b c) ∧ Hid (Below W1.heap.size W1 wr)) (fun _ i _ => N - (intOf i).toNat)
                case atStart => exact ⟨0, Nat.zero_le _, rfl, rfl, HB8.out⟩
                case round =>
                  as_aux_lemma =>
                    clear y0 HB8
                    obtain ⟨c, hc, rfl, rfl, HB⟩ := hrel
                    have y0 := (HR.out.grown HB.out).n
                    by_cases hlt3 : c < N
                    · have hci : (c : Int) < (N : Int) := by omega
                      have hc64i : (c : Int) < 64 := by omega
                      have hc64 : c < 64 := by omega
                      have ca := (HR.out.grown HB.out).row a ha64
                      rw [HXE.out] at ca
                      have cc := (HR.out.grown HB.out).row c hc64
                      have hXc := HFL.out c
                      have hbs := btw_succ F a b c
                      rw [HXE.out] at hbs
                      obtain ⟨Xc, hXe⟩ : ∃ z, F c = z := ⟨_, rfl⟩
                      rw [hXe] at cc hXc hbs
                      have HBS : Hid (btw F a b (c + 1) = (btw F a b c || (Xa.testBit c && Xc.testBit b))) := hbs
                      clear hXe hbs
                      cases hq : btw F a b c with
                      | true =>
                        rw [hq] at HBS
                        go_upto_region 13 with fail
                        try simp only [Act.put]
                        refine grow_region ?_
                        refine WG.put rfl (v := .bool true) (fun w => by first | rfl | (go_simp; done) | (simp [go_sem]; done) | (simp [execOp, go_sem]; done)) ?_
                        simp only [Act.put, List.setIfInBounds_toArray, List.set_cons_succ, List.set_cons_zero]
                        refine WG.put rfl (v := .bool true) (fun w => by first | rfl | (go_simp; done) | (simp [go_sem]; done) | (simp [execOp, go_sem]; done)) ?_
                        simp only [Act.put, List.setIfInBounds_toArray, List.set_cons_succ, List.set_cons_zero]
                        refine WG.skip rfl ?_
                        simp only [Act.put, List.setIfInBounds_toArray, List.set_cons_succ, List.set_cons_zero]
                        refine WG.skip rfl ?_
                        simp only [Act.put, List.setIfInBounds_toArray, List.set_cons_succ, List.set_cons_zero]
                        refine WG.skip rfl ?_
                        simp only [Act.put, List.setIfInBounds_toArray, List.set_cons_succ, List.set_cons_zero]
                        refine WG.skip rfl ?_
                        simp only [Act.put, List.setIfInBounds_toArray, List.set_cons_succ, List.set_cons_zero]
                        refine WG.skip rfl ?_
                        simp only [Act.put, List.setIfInBounds_toArray, List.set_cons_succ, List.set_cons_zero]
                        refine WG.skip rfl ?_
                        simp only [Act.put, List.setIfInBounds_toArray, List.set_cons_succ, List.set_cons_zero]
                        refine WG.skip rfl ?_
                        simp only [Act.put, List.setIfInBounds_toArray, List.set_cons_succ, List.set_cons_zero]
                        refine WG.skip rfl ?_
                        simp only [Act.put, List.setIfInBounds_toArray, List.set_cons_succ, List.set_cons_zero]
                        refine WG.skip rfl ?_
                        simp only [Act.put, List.setIfInBounds_toArray, List.set_cons_succ, List.set_cons_zero]
                        refine WG.skip rfl ?_
                        simp only [Act.put, List.setIfInBounds_toArray, List.set_cons_succ, List.set_cons_zero]
                        refine WG.skip rfl ?_
                        simp only [Act.put, List.setIfInBounds_toArray, List.set_cons_succ, List.set_cons_zero]
                        refine WG.skip rfl ?_
                        simp only [Act.put, List.setIfInBounds_toArray, List.set_cons_succ, List.set_cons_zero]
                        refine WG.skip rfl ?_
                        simp only [Act.put, List.setIfInBounds_toArray, List.set_cons_succ, List.set_cons_zero]
                        refine WG.skip rfl ?_
                        simp only [Act.put, List.setIfInBounds_toArray, List.set_cons_succ, List.set_cons_zero]
                        refine WG.skip rfl ?_
                        simp only [Act.put, List.setIfInBounds_toArray, List.set_cons_succ, List.set_cons_zero]
                        refine WG.skip rfl ?_
                        simp only [Act.put, List.setIfInBounds_toArray, List.set_cons_succ, List.set_cons_zero]
                        refine WG.skip rfl ?_
                        simp only [Act.put, List.setIfInBounds_toArray, List.set_cons_succ, List.set_cons_zero]
                        refine WG.skip rfl ?_
                        simp only [Act.put, List.setIfInBounds_toArray, List.set_cons_succ, List.set_cons_zero]
                        refine WG.skip rfl ?_
                        simp only [Act.put, List.setIfInBounds_toArray, List.set_cons_succ, List.set_cons_zero]
                        refine WG.skip rfl ?_
                        simp only [Act.put, List.setIfInBounds_toArray, List.set_cons_succ, List.set_cons_zero]
                        refine WG.put rfl (v := .bool true) (fun w => by first | rfl | (go_simp; done) | (simp [go_sem]; done) | (simp [execOp, go_sem]; done)) ?_
                        simp only [Act.put, List.setIfInBounds_toArray, List.set_cons_succ, List.set_cons_zero]
                        refine WG.put rfl (v := .bool true) (fun w => by first | rfl | (go_simp; done) | (simp [go_sem]; done) | (simp [execOp, go_sem]; done)) ?_
                        simp only [Act.put, List.setIfInBounds_toArray, List.set_cons_succ, List.set_cons_zero]
                        refine WG.nil ?_
                        intro w13 B13
                        go_wp2
                        go_roundw
                        case rel => exact ⟨c + 1, by omega, by go_num, by rw [HBS.out]; rfl, Below.then HB.out B13⟩
                        case measure => simp [intOf]; omega
                      | false =>
                        rw [hq] at HBS
                        cases hk : Xa.testBit c with
                        | false =>
                          have v1 : ((b2 Xa c : Nat) : Int) = 0 := by rw [bit_b2 hk]; rfl
                          rw [hk] at HBS
                          go_upto_region 13 with fail
                          try simp only [Act.put]
                          refine grow_region ?_
                          refine WG.put rfl (v := .bool false) (fun w => by first | rfl | (go_simp; done) | (simp [go_sem]; done) | (simp [execOp, go_sem]; done)) ?_
                          simp only [Act.put, List.setIfInBounds_toArray, List.set_cons_succ, List.set_cons_zero]
                          refine WG.put rfl (v := .bool false) (fun w => by first | rfl | (go_simp; done) | (simp [go_sem]; done) | (simp [execOp, go_sem]; done)) ?_
                          simp only [Act.put, List.setIfInBounds_toArray, List.set_cons_succ, List.set_cons_zero]
                          refine WG.put rfl (v := .int .i64 (a : Int)) (fun w => by first | rfl | (go_simp; done) | (simp [go_sem]; done) | (simp [execOp, go_sem]; done)) ?_
                          simp only [Act.put, List.setIfInBounds_toArray, List.set_cons_succ, List.set_cons_zero]
                          refine WG.put rfl (v := .pointer (some ⟨b1, 1, none⟩)) (fun w => by first | rfl | (go_simp; done) | (simp [go_sem]; done) | (simp [execOp, go_sem]; done)) ?_
                          simp only [Act.put, List.setIfInBounds_toArray, List.set_cons_succ, List.set_cons_zero]
                          refine WG.put rfl (v := .pointer (some ⟨b1, 1 + a, none⟩)) (fun w => by first | rfl | (go_simp; done) | (simp [go_sem, ha64i]; done) | (simp [execOp, go_sem, ha64i]; done)) ?_
                          simp only [Act.put, List.setIfInBounds_toArray, List.set_cons_succ, List.set_cons_zero]
                          refine WG.cell rfl 29 _ rfl rfl ca (fun w h => by simp [go_sem, h]) ?_
                          simp only [Act.put, List.setIfInBounds_toArray, List.set_cons_succ, List.set_cons_zero]
                          refine WG.put rfl (v := .int .i64 (c : Int)) (fun w => by first | rfl | (go_simp; done) | (simp [go_sem]; done) | (simp [execOp, go_sem]; done)) ?_
                          simp only [Act.put, List.setIfInBounds_toArray, List.set_cons_succ, List.set_cons_zero]
                          refine WG.put rfl (fun w => exec_cvt rfl rfl (by omega)) ?_
                          simp only [Act.put, List.setIfInBounds_toArray, List.set_cons_succ, List.set_cons_zero]
                          refine WG.put rfl (fun w => exec_shr (X := Xa) rfl rfl rfl hXa hc64) ?_
                          simp only [Act.put, List.setIfInBounds_toArray, List.set_cons_succ, List.set_cons_zero]
                          refine WG.put rfl (v := .int .u64 0) (fun w => (exec_bit (X := Xa) rfl rfl hXa).trans (by rw [v1])) ?_
                          simp only [Act.put, List.setIfInBounds_toArray, List.set_cons_succ, List.set_cons_zero]
                          refine WG.put rfl (v := .bool false) (fun w => by first | rfl | (go_simp; done) | (simp [go_sem]; done) | (simp [execOp, go_sem]; done)) ?_
                          simp only [Act.put, List.setIfInBounds_toArray, List.set_cons_succ, List.set_cons_zero]
                          refine WG.put rfl (v := .bool false) (fun w => by first | rfl | (go_simp; done) | (simp [go_sem]; done) | (simp [execOp, go_sem]; done)) ?_
                          simp only [Act.put, List.setIfInBounds_toArray, List.set_cons_succ, List.set_cons_zero]
                          refine WG.skip rfl ?_
                          simp only [Act.put, List.setIfInBounds_toArray, List.set_cons_succ, List.set_cons_zero]
                          refine WG.skip rfl ?_
                          simp only [Act.put, List.setIfInBounds_toArray, List.set_cons_succ, List.set_cons_zero]
                          refine WG.skip rfl ?_
                          simp only [Act.put, List.setIfInBounds_toArray, List.set_cons_succ, List.set_cons_zero]
                          refine WG.skip rfl ?_
                          simp only [Act.put, List.setIfInBounds_toArray, List.set_cons_succ, List.set_cons_zero]
                          refine WG.skip rfl ?_
                          simp only [Act.put, List.setIfInBounds_toArray, List.set_cons_succ, List.set_cons_zero]
                          refine WG.skip rfl ?_
                          simp only [Act.put, List.setIfInBounds_toArray, List.set_cons_succ, List.set_cons_zero]
                          refine WG.skip rfl ?_
                          simp only [Act.put, List.setIfInBounds_toArray, List.set_cons_succ, List.set_cons_zero]
                          refine WG.skip rfl ?_
                          simp only [Act.put, List.setIfInBounds_toArray, List.set_cons_succ, List.set_cons_zero]
                          refine WG.skip rfl ?_
                          simp only [Act.put, List.setIfInBounds_toArray, List.set_cons_succ, List.set_cons_zero]
                          refine WG.put rfl (v := .bool false) (fun w => by first | rfl | (go_simp; done) | (simp [go_sem]; done) | (simp [execOp, go_sem]; done)) ?_
                          simp only [Act.put, List.setIfInBounds_toArray, List.set_cons_succ, List.set_cons_zero]
                          refine WG.put rfl (v := .bool false) (fun w => by first | rfl | (go_simp; done) | (simp [go_sem]; done) | (simp [execOp, go_sem]; done)) ?_
                          simp only [Act.put, List.setIfInBounds_toArray, List.set_cons_succ, List.set_cons_zero]
                          refine WG.put rfl (v := .bool false) (fun w => by first | rfl | (go_simp; done) | (simp [go_sem]; done) | (simp [execOp, go_sem]; done)) ?_
                          simp only [Act.put, List.setIfInBounds_toArray, List.set_cons_succ, List.set_cons_zero]
                          refine WG.nil ?_
                          intro w13 B13
                          go_wp2
                          go_roundw
                          case rel => exact ⟨c + 1, by omega, by go_num, by rw [HBS.out]; rfl, Below.then HB.out B13⟩
                          case measure => simp [intOf]; omega
                        | true =>
                          have v1 : ((b2 Xa c : Nat) : Int) = 1 := by rw [bit_b2 hk]; rfl
                          rw [hk] at HBS
                          cases hm : Xc.testBit b with
                          | false =>
                            have v2 : ((b2 Xc b : Nat) : Int) = 0 := by rw [bit_b2 hm]; rfl
                            rw [hm] at HBS
                            go_upto_region 13 with fail
                            try simp only [Act.put]
                            refine grow_region ?_
                            refine WG.put rfl (v := .bool false) (fun w => by first | rfl | (go_simp; done) | (simp [go_sem]; done) | (simp [execOp, go_sem]; done)) ?_
                            simp only [Act.put, List.setIfInBounds_toArray, List.set_cons_succ, List.set_cons_zero]
                            refine WG.put rfl (v := .bool false) (fun w => by first | rfl | (go_simp; done) | (simp [go_sem]; done) | (simp [execOp, go_sem]; done)) ?_
                            simp only [Act.put, List.setIfInBounds_toArray, List.set_cons_succ, List.set_cons_zero]
                            refine WG.put rfl (v := .int .i64 (a : Int)) (fun w => by first | rfl | (go_simp; done) | (simp [go_sem]; done) | (simp [execOp, go_sem]; done)) ?_
                            simp only [Act.put, List.setIfInBounds_toArray, List.set_cons_succ, List.set_cons_zero]
                            refine WG.put rfl (v := .pointer (some ⟨b1, 1, none⟩)) (fun w => by first | rfl | (go_simp; done) | (simp [go_sem]; done) | (simp [execOp, go_sem]; done)) ?_
                            simp only [Act.put, List.setIfInBounds_toArray, List.set_cons_succ, List.set_cons_zero]
                            refine WG.put rfl (v := .pointer (some ⟨b1, 1 + a, none⟩)) (fun w => by first | rfl | (go_simp; done) | (simp [go_sem, ha64i]; done) | (simp [execOp, go_sem, ha64i]; done)) ?_
                            simp only [Act.put, List.setIfInBounds_toArray, List.set_cons_succ, List.set_cons_zero]
                            refine WG.cell rfl 29 _ rfl rfl ca (fun w h => by simp [go_sem, h]) ?_
                            simp only [Act.put, List.setIfInBounds_toArray, List.set_cons_succ, List.set_cons_zero]
                            refine WG.put rfl (v := .int .i64 (c : Int)) (fun w => by first | rfl | (go_simp; done) | (simp [go_sem]; done) | (simp [execOp, go_sem]; done)) ?_
                            simp only [Act.put, List.setIfInBounds_toArray, List.set_cons_succ, List.set_cons_zero]
                            refine WG.put rfl (fun w => exec_cvt rfl rfl (by omega)) ?_
                            simp only [Act.put, List.setIfInBounds_toArray, List.set_cons_succ, List.set_cons_zero]
                            refine WG.put rfl (fun w => exec_shr (X := Xa) rfl rfl rfl hXa hc64) ?_
                            simp only [Act.put, List.setIfInBounds_toArray, List.set_cons_succ, List.set_cons_zero]
                            refine WG.put rfl (v := .int .u64 1) (fun w => (exec_bit (X := Xa) rfl rfl hXa).trans (by rw [v1])) ?_
                            simp only [Act.put, List.setIfInBounds_toArray, List.set_cons_succ, List.set_cons_zero]
                            refine WG.put rfl (v := .bool true) (fun w => by first | rfl | (go_simp; done) | (simp [go_sem]; done) | (simp [execOp, go_sem]; done)) ?_
                            simp only [Act.put, List.setIfInBounds_toArray, List.set_cons_succ, List.set_cons_zero]
                            refine WG.put rfl (v := .bool true) (fun w => by first | rfl | (go_simp; done) | (simp [go_sem]; done) | (simp [execOp, go_sem]; done)) ?_
                            simp only [Act.put, List.setIfInBounds_toArray, List.set_cons_succ, List.set_cons_zero]
                            refine WG.put rfl (v := .int .i64 (c : Int)) (fun w => by first | rfl | (go_simp; done) | (simp [go_sem]; done) | (simp [execOp, go_sem]; done)) ?_
                            simp only [Act.put, List.setIfInBounds_toArray, List.set_cons_succ, List.set_cons_zero]
                            refine WG.put rfl (v := .pointer (some ⟨b1, 1, none⟩)) (fun w => by first | rfl | (go_simp; done) | (simp [go_sem]; done) | (simp [execOp, go_sem]; done)) ?_
                            simp only [Act.put, List.setIfInBounds_toArray, List.set_cons_succ, List.set_cons_zero]
                            refine WG.put rfl (v := .pointer (some ⟨b1, 1 + c, none⟩)) (fun w => by first | rfl | (go_simp; done) | (simp [go_sem, hc64i]; done) | (simp [execOp, go_sem, hc64i]; done)) ?_
                            simp only [Act.put, List.setIfInBounds_toArray, List.set_cons_succ, List.set_cons_zero]
                            refine WG.cell rfl 29 _ rfl rfl cc (fun w h => by simp [go_sem, h]) ?_
                            simp only [Act.put, List.setIfInBounds_toArray, List.set_cons_succ, List.set_cons_zero]
                            refine WG.put rfl (v := .int .i64 (b : Int)) (fun w => by first | rfl | (go_simp; done) | (simp [go_sem]; done) | (simp [execOp, go_sem]; done)) ?_
                            simp only [Act.put, List.setIfInBounds_toArray, List.set_cons_succ, List.set_cons_zero]
                            refine WG.put rfl (fun w => exec_cvt rfl rfl (by omega)) ?_
                            simp only [Act.put, List.setIfInBounds_toArray, List.set_cons_succ, List.set_cons_zero]
                            refine WG.put rfl (fun w => exec_shr (X := Xc) rfl rfl rfl hXc hb64) ?_
                            simp only [Act.put, List.setIfInBounds_toArray, List.set_cons_succ, List.set_cons_zero]
                            refine WG.put rfl (v := .int .u64 0) (fun w => (exec_bit (X := Xc) rfl rfl hXc).trans (by rw [v2])) ?_
                            simp only [Act.put, List.setIfInBounds_toArray, List.set_cons_succ, List.set_cons_zero]
                            refine WG.put rfl (v := .bool false) (fun w => by first | rfl | (go_simp; done) | (simp [go_sem]; done) | (simp [execOp, go_sem]; done)) ?_
                            simp only [Act.put, List.setIfInBounds_toArray, List.set_cons_succ, List.set_cons_zero]
                            refine WG.put rfl (v := .bool false) (fun w => by first | rfl | (go_simp; done) | (simp [go_sem]; done) | (simp [execOp, go_sem]; done)) ?_
                            simp only [Act.put, List.setIfInBounds_toArray, List.set_cons_succ, List.set_cons_zero]
                            refine WG.put rfl (v := .bool false) (fun w => by first | rfl | (go_simp; done) | (simp [go_sem]; done) | (simp [execOp, go_sem]; done)) ?_
                            simp only [Act.put, List.setIfInBounds_toArray, List.set_cons_succ, List.set_cons_zero]
                            refine WG.put rfl (v := .bool false) (fun w => by first | rfl | (go_simp; done) | (simp [go_sem]; done) | (simp [execOp, go_sem]; done)) ?_
                            simp only [Act.put, List.setIfInBounds_toArray, List.set_cons_succ, List.set_cons_zero]
                            refine WG.nil ?_
                            intro w13 B13
                            go_wp2
                            go_roundw
                            case rel => exact ⟨c + 1, by omega, by go_num, by rw [HBS.out]; rfl, Below.then HB.out B13⟩
                            case measure => simp [intOf]; omega
                          | true =>
                            have v2 : ((b2 Xc b : Nat) : Int) = 1 := by rw [bit_b2 hm]; rfl
                            rw [hm] at HBS
                            go_upto_region 13 with fail
                            try simp only [Act.put]
                            refine grow_region ?_
                            refine WG.put rfl (v := .bool false) (fun w => by first | rfl | (go_simp; done) | (simp [go_sem]; done) | (simp [execOp, go_sem]; done)) ?_
                            simp only [Act.put, List.setIfInBounds_toArray, List.set_cons_succ, List.set_cons_zero]
                            refine WG.put rfl (v := .bool false) (fun w => by first | rfl | (go_simp; done) | (simp [go_sem]; done) | (simp [execOp, go_sem]; done)) ?_
                            simp only [Act.put, List.setIfInBounds_toArray, List.set_cons_succ, List.set_cons_zero]
                            refine WG.put rfl (v := .int .i64 (a : Int)) (fun w => by first | rfl | (go_simp; done) | (simp [go_sem]; done) | (simp [execOp, go_sem]; done)) ?_
                            simp only [Act.put, List.setIfInBounds_toArray, List.set_cons_succ, List.set_cons_zero]
                            refine WG.put rfl (v := .pointer (some ⟨b1, 1, none⟩)) (fun w => by first | rfl | (go_simp; done) | (simp [go_sem]; done) | (simp [execOp, go_sem]; done)) ?_
                            simp only [Act.put, List.setIfInBounds_toArray, List.set_cons_succ, List.set_cons_zero]
                            refine WG.put rfl (v := .pointer (some ⟨b1, 1 + a, none⟩)) (fun w => by first | rfl | (go_simp; done) | (simp [go_sem, ha64i]; done) | (simp [execOp, go_sem, ha64i]; done)) ?_
                            simp only [Act.put, List.setIfInBounds_toArray, List.set_cons_succ, List.set_cons_zero]
                            refine WG.cell rfl 29 _ rfl rfl ca (fun w h => by simp [go_sem, h]) ?_
                            simp only [Act.put, List.setIfInBounds_toArray, List.set_cons_succ, List.set_cons_zero]
                            refine WG.put rfl (v := .int .i64 (c : Int)) (fun w => by first | rfl | (go_simp; done) | (simp [go_sem]; done) | (simp [execOp, go_sem]; done)) ?_
                            simp only [Act.put, List.setIfInBounds_toArray, List.set_cons_succ, List.set_cons_zero]
                            refine WG.put rfl (fun w => exec_cvt rfl rfl (by omega)) ?_
                            simp only [Act.put, List.setIfInBounds_toArray, List.set_cons_succ, List.set_cons_zero]
                            refine WG.put rfl (fun w => exec_shr (X := Xa) rfl rfl rfl hXa hc64) ?_
                            simp only [Act.put, List.setIfInBounds_toArray, List.set_cons_succ, List.set_cons_zero]
                            refine WG.put rfl (v := .int .u64 1) (fun w => (exec_bit (X := Xa) rfl rfl hXa).trans (by rw [v1])) ?_
                            simp only [Act.put, List.setIfInBounds_toArray, List.set_cons_succ, List.set_cons_zero]
                            refine WG.put rfl (v := .bool true) (fun w => by first | rfl | (go_simp; done) | (simp [go_sem]; done) | (simp [execOp, go_sem]; done)) ?_
                            simp only [Act.put, List.setIfInBounds_toArray, List.set_cons_succ, List.set_cons_zero]
                            refine WG.put rfl (v := .bool true) (fun w => by first | rfl | (go_simp; done) | (simp [go_sem]; done) | (simp [execOp, go_sem]; done)) ?_
                            simp only [Act.put, List.setIfInBounds_toArray, List.set_cons_succ, List.set_cons_zero]
                            refine WG.put rfl (v := .int .i64 (c : Int)) (fun w => by first | rfl | (go_simp; done) | (simp [go_sem]; done) | (simp [execOp, go_sem]; done)) ?_
                            simp only [Act.put, List.setIfInBounds_toArray, List.set_cons_succ, List.set_cons_zero]
                            refine WG.put rfl (v := .pointer (some ⟨b1, 1, none⟩)) (fun w => by first | rfl | (go_simp; done) | (simp [go_sem]; done) | (simp [execOp, go_sem]; done)) ?_
                            simp only [Act.put, List.setIfInBounds_toArray, List.set_cons_succ, List.set_cons_zero]
                            refine WG.put rfl (v := .pointer (some ⟨b1, 1 + c, none⟩)) (fun w => by first | rfl | (go_simp; done) | (simp [go_sem, hc64i]; done) | (simp [execOp, go_sem, hc64i]; done)) ?_
                            simp only [Act.put, List.setIfInBounds_toArray, List.set_cons_succ, List.set_cons_zero]
                            refine WG.cell rfl 29 _ rfl rfl cc (fun w h => by simp [go_sem, h]) ?_
                            simp only [Act.put, List.setIfInBounds_toArray, List.set_cons_succ, List.set_cons_zero]
                            refine WG.put rfl (v := .int .i64 (b : Int)) (fun w => by first | rfl | (go_simp; done) | (simp [go_sem]; done) | (simp [execOp, go_sem]; done)) ?_
                            simp only [Act.put, List.setIfInBounds_toArray, List.set_cons_succ, List.set_cons_zero]
                            refine WG.put rfl (fun w => exec_cvt rfl rfl (by omega)) ?_
                            simp only [Act.put, List.setIfInBounds_toArray, List.set_cons_succ, List.set_cons_zero]
                            refine WG.put rfl (fun w => exec_shr (X := Xc) rfl rfl rfl hXc hb64) ?_
                            simp only [Act.put, List.setIfInBounds_toArray, List.set_cons_succ, List.set_cons_zero]
                            refine WG.put rfl (v := .int .u64 1) (fun w => (exec_bit (X := Xc) rfl rfl hXc).trans (by rw [v2])) ?_
                            simp only [Act.put, List.setIfInBounds_toArray, List.set_cons_succ, List.set_cons_zero]
                            refine WG.put rfl (v := .bool true) (fun w => by first | rfl | (go_simp; done) | (simp [go_sem]; done) | (simp [execOp, go_sem]; done)) ?_
                            simp only [Act.put, List.setIfInBounds_toArray, List.set_cons_succ, List.set_cons_zero]
                            refine WG.put rfl (v := .bool true) (fun w => by first | rfl | (go_simp; done) | (simp [go_sem]; done) | (simp [execOp, go_sem]; done)) ?_
                            simp only [Act.put, List.setIfInBounds_toArray, List.set_cons_succ, List.set_cons_zero]
                            refine WG.put rfl (v := .bool true) (fun w => by first | rfl | (go_simp; done) | (simp [go_sem]; done) | (simp [execOp, go_sem]; done)) ?_
                            simp only [Act.put, List.setIfInBounds_toArray, List.set_cons_succ, List.set_cons_zero]
                            refine WG.put rfl (v := .bool true) (fun w => by first | rfl | (go_simp; done) | (simp [go_sem]; done) | (simp [execOp, go_sem]; done)) ?_
                            simp only [Act.put, List.setIfInBounds_toArray, List.set_cons_succ, List.set_cons_zero]
                            refine WG.nil ?_
                            intro w13 B13
                            go_wp2
                            go_roundw
                            case rel => exact ⟨c + 1, by omega, by go_num, by rw [HBS.out]; rfl, Below.then HB.out B13⟩
                            case measure => simp [intOf]; omega
                    · have e : N = c := by omega
                      subst e
                      have hci : ¬ ((N : Int) < (N : Int)) := by omega
                      generalize btw F a b N = qb at *
                      have c1 : Hid (∀ W, Calls Tryd.prog 53 #[.int .i64 (a : Int)] W fun e w' => e = .returned (.string (bs (textL (a : Int)))) ∧ Below W.heap.size W w') := fun W => rtext_any (a : Int) (by omega) (by omega) W
                      have c2 : Hid (∀ W, Calls Tryd.prog 53 #[.int .i64 (b : Int)] W fun e w' => e = .returned (.string (bs (textL (b : Int)))) ∧ Below W.heap.size W w') := fun W => rtext_any (b : Int) (by omega) (by omega) W
                      have l1 : (textL (a : Int)).length ≤ 21 := textL_le _ (by omega) (by omega)
                      have l2 : (textL (b : Int)).length ≤ 21 := textL_le _ (by omega) (by omega)
                      have l3 : (arrsL s (edgesL a G ++ rowP G a b)).length ≤ 64 * (4096 + 64) := by
                        have h1 := arrsL_le s hs (edgesL a G ++ rowP G a b) (fun e he => by
                          rcases List.mem_append.1 he with he | he
                          · exact edges64 (by omega) e he
                          · exact rowP64 ha64 (by omega) e he)
                        have h2 := edges_few a (by omega) G
                        have h3 := rowP_len G a b
                        rw [List.length_append] at h1
                        omega
                      have HAR : Hid (arrsL s (edgesL a G ++ rowP G a b) ++ [101] ++ textL (a : Int) ++ [32, 45, 62, 32, 101] ++ textL (b : Int) ++ [32, 91, 108, 97, 98, 101, 108, 61, 34] ++ s ++ [34, 93, 10] = arrsL s (edgesL a G ++ rowP G a b ++ [(a, b)])) := by
                        show _ = _
                        rw [arr_ref, arrsL_snoc]
                      have HYES : Hid ((G a).testBit b = true → arrsL s (edgesL a G ++ rowP G a b ++ [(a, b)]) = arrsL s (edgesL a G ++ rowP G a (b + 1))) := fun h => by rw [rowP_yes h, List.append_assoc]
                      have HNO : Hid ((G a).testBit b = false → arrsL s (edgesL a G ++ rowP G a b) = arrsL s (edgesL a G ++ rowP G a (b + 1))) := fun h => by rw [rowP_no h]
                      generalize arrsL s (edgesL a G ++ rowP G a b ++ [(a, b)]) = V at *
                      generalize arrsL s (edgesL a G ++ rowP G a b) = L0 at *
                      have hw : least = true ∧ qb = true ∨ (!least || !qb) = true := by cases least <;> cases qb <;> simp
                      rcases hw with ⟨h1, h2⟩ | h1
                      · subst h1 h2
                        go_wp2
                        go_roundw
                        case rel => exact ⟨b + 1, by omega, by go_num, by rw [HNO.out (by rw [HGb.out]; rfl)], HB.out⟩
                        case measure => simp [intOf]; omega
                      · have e1 := addL L0 [101] (by simp; omega)
                        have e2 := addL (L0 ++ [101]) (textL (a : Int)) (by simp; omega)
                        have e3 := addL (L0 ++ [101] ++ textL (a : Int)) [32, 45, 62, 32, 101] (by simp; omega)
                        have e4 := addL (L0 ++ [101] ++ textL (a : Int) ++ [32, 45, 62, 32, 101]) (textL (b : Int)) (by simp; omega)
                        have e5 := addL (L0 ++ [101] ++ textL (a : Int) ++ [32, 45, 62, 32, 101] ++ textL (b : Int)) [32, 91, 108, 97, 98, 101, 108, 61, 34] (by simp; omega)
                        have e6 := addL (L0 ++ [101] ++ textL (a : Int) ++ [32, 45, 62, 32, 101] ++ textL (b : Int) ++ [32, 91, 108, 97, 98, 101, 108, 61, 34]) s (by simp; omega)
                        have e7 := addL (L0 ++ [101] ++ textL (a : Int) ++ [32, 45, 62, 32, 101] ++ textL (b : Int) ++ [32, 91, 108, 97, 98, 101, 108, 61, 34] ++ s) [34, 93, 10] (by simp; omega)
                        generalize L0 ++ [101] ++ textL (a : Int) ++ [32, 45, 62, 32, 101] ++ textL (b : Int) ++ [32, 91, 108, 97, 98, 101, 108, 61, 34] ++ s ++ [34, 93, 10] = V7 at *
                        generalize L0 ++ [101] ++ textL (a : Int) ++ [32, 45, 62, 32, 101] ++ textL (b : Int) ++ [32, 91, 108, 97, 98, 101, 108, 61, 34] ++ s = V6 at *
                        generalize L0 ++ [101] ++ textL (a : Int) ++ [32, 45, 62, 32, 101] ++ textL (b : Int) ++ [32, 91, 108, 97, 98, 101, 108, 61, 34] = V5 at *
                        generalize L0 ++ [101] ++ textL (a : Int) ++ [32, 45, 62, 32, 101] ++ textL (b : Int) = V4 at *
                        generalize L0 ++ [101] ++ textL (a : Int) ++ [32, 45, 62, 32, 101] = V3 at *
                        generalize L0 ++ [101] ++ textL (a : Int) = V2 at *
                        generalize L0 ++ [101] = V1 at *
                        generalize textL (a : Int) = TA at *
                        generalize textL (b : Int) = TB at *
                        have b1' : (ByteArray.mk #[101]) = bs [101] := rfl
                        have b2' : (ByteArray.mk #[32, 45, 62, 32, 101]) = bs [32, 45, 62, 32, 101] := rfl
                        have b3' : (ByteArray.mk #[32, 91, 108, 97, 98, 101, 108, 61, 34]) = bs [32, 91, 108, 97, 98, 101, 108, 61, 34] := rfl
                        have b4' : (ByteArray.mk #[34, 93, 10]) = bs [34, 93, 10] := rfl
                        rw [← b1'] at e1
                        rw [← b2'] at e3
                        rw [← b3'] at e5
                        rw [← b4'] at e7
                        clear b1' b2' b3' b4'
                        have hgt : (G a).testBit b = true := by rw [HGb.out]; exact h1
                        have HFIN : Hid (bs V7 = bs (arrsL s (edgesL a G ++ rowP G a (b + 1)))) := by show _ = _; rw [HAR.out, HYES.out hgt]
                        clear hgt HAR HYES HNO HGb
                        cases least with
                        | false =>
                          have t1 : True := trivial
                          have t2 : True := trivial
                          go_wp2_with (first
                            | (clear t1; go_at_call 53; refine (c1.out _).mono ?_; rintro e w1 ⟨rfl, D1⟩)
                            | (clear t2; go_at_call 53; refine (c2.out _).mono ?_; rintro e w2 ⟨rfl, D2⟩))
                          go_roundw
                          case rel => exact ⟨b + 1, by omega, by go_num, by rw [HFIN.out], Below.then HB.out (Below.then D1 D2)⟩
                          case measure => simp [intOf]; omega
                        | true =>
                          cases qb with
                          | true => cases h1
                          | false =>
                            have t1 : True := trivial
                            have t2 : True := trivial
                            go_wp2_with (first
                              | (clear t1; go_at_call 53; refine (c1.out _).mono ?_; rintro e w1 ⟨rfl, D1⟩)
                              | (clear t2; go_at_call 53; refine (c2.out _).mono ?_; rintro e w2 ⟨rfl, D2⟩))
                            go_roundw
                            case rel => exact ⟨b + 1, by omega, by go_num, by rw [HFIN.out], Below.then HB.out (Below.then D1 D2)⟩
                            case measure => simp [intOf]; omega
            · have e : N = b := by omega
              subst e
              have hbi : ¬ ((N : Int) < (N : Int)) := by omega
              have hrow := edgesL_row hN HG.out a hlt
              go_wp2
              go_roundw
              case rel => exact ⟨a + 1, by omega, by go_num, by rw [hrow], HB.out⟩
              case measure => simp [intOf]; omega
      · have e : N = a := by omega
        subst e
        have hai : ¬ ((N : Int) < (N : Int)) := by omega
        go_wp2
        go_ret
        exact ⟨rfl, Below.then HB1.out HB.out⟩
end Go.Proofs.YtdjlfpkemdiadaaDoor
/- The reference's Dot. -/
namespace Go.Proofs.YtdjlfpkemdiadaaDoor
open Go Go.RowKit M
set_option linter.unusedSimpArgs false
set_option linter.unusedVariables false

/-- An event's text, as a list. -/
def txL (ls : List ByteArray) (e : EV) : List UInt8 := (txT ls e).data.toList
theorem txL_bs (ls : List ByteArray) (e : EV) : ByteArray.mk (txL ls e).toArray = txT ls e := by unfold txL; exact bs_of _
theorem tx_le {ls : List ByteArray} (hs : ∀ s ∈ ls, s.size ≤ 1048576) {e : EV} (he : EvN e) : (txL ls e).length ≤ 1048700 := by
  have h1 := lcT_le hs e.loc
  have h2 := kdT_le hs e
  have ht1 : (ByteArray.mk (textL e.thr).toArray).size ≤ 21 := by rw [size_mk]; exact textL_le _ he.1 he.2.1
  have ht2 : (ByteArray.mk (textL e.idx).toArray).size ≤ 21 := by rw [size_mk]; exact textL_le _ he.2.2.1 he.2.2.2
  have h3 : (txS ls e).size ≤ 1048650 := by
    unfold txS
    split
    · rw [ByteArray.size_append]; show 2 + _ ≤ _; omega
    · rw [ByteArray.size_append, ByteArray.size_append, ByteArray.size_append, ByteArray.size_append]; show _ + 1 + _ + 1 + _ ≤ _; omega
  have h4 : (txT ls e).size ≤ 1048651 := by
    unfold txT
    cases e.lck
    · exact Nat.le_trans h3 (by decide)
    · show (_ ++ _ : ByteArray).size ≤ _; rw [ByteArray.size_append]; show _ + 1 ≤ _; omega
  have h5 : (txL ls e).length = (txT ls e).size := by unfold txL; rw [Array.length_toList]; rfl
  omega
/-- With the value that it reads or writes. -/
def tvL (ls : List ByteArray) (vs : List Int) (i : Nat) (e : EV) : List UInt8 := txL ls e ++ (if (mmB e && decide (i < vs.length)) = true then 61 :: textL (vs.getD i 0) else [])
/-- The first k nodes. -/
def nodesL (ls : List ByteArray) (vs : List Int) (L : List EV) : Nat → List UInt8
  | 0 => []
  | k + 1 => nodesL ls vs L k ++ (nodeL (k : Int) ++ lblL (tvL ls vs k (evA L k)))
def Vals64 (vs : List Int) : Prop := ∀ v ∈ vs, -9223372036854775808 ≤ v ∧ v ≤ 9223372036854775807
theorem val_at {vs : List Int} (h : Vals64 vs) {i : Nat} (hi : i < vs.length) : -9223372036854775808 ≤ vs.getD i 0 ∧ vs.getD i 0 ≤ 9223372036854775807 := by
  have : vs.getD i 0 = vs[i] := by simp [hi]
  rw [this]
  exact h _ (List.getElem_mem hi)
theorem tv_le {ls : List ByteArray} (hs : ∀ s ∈ ls, s.size ≤ 1048576) {vs : List Int} (hv : Vals64 vs) (i : Nat) {e : EV} (he : EvN e) : (tvL ls vs i e).length ≤ 1048730 := by
  have h1 := tx_le hs he
  unfold tvL
  rw [List.length_append]
  split
  · rename_i h
    rw [Bool.and_eq_true, decide_eq_true_eq] at h
    have h2 := val_at hv h.2
    have h3 := textL_le _ h2.1 h2.2
    rw [List.length_cons]
    omega
  · simp only [List.length_nil]; omega
theorem nodes_le {ls : List ByteArray} (hs : ∀ s ∈ ls, s.size ≤ 1048576) {vs : List Int} (hv : Vals64 vs) {L : List EV} (hL : ∀ e ∈ L, EvN e) : ∀ k, k ≤ L.length → k ≤ 64 → (nodesL ls vs L k).length ≤ k * 1050000
  | 0, _, _ => by simp [nodesL]
  | k + 1, h, h2 => by
    have ih := nodes_le hs hv hL k (by omega) (by omega)
    have h3 := tv_le hs hv k (hL _ (List.mem_of_getElem? (evA_at (l := L) (i := k) (by omega))))
    have h4 := nodeL_nat k (by omega)
    simp only [nodesL, List.length_append, lblL_len]
    omega
def hdrL : List UInt8 := [100, 105, 103, 114, 97, 112, 104, 32, 119, 101, 105, 114, 32, 123, 10]
def poL : List UInt8 := [112, 111]
def rfL' : List UInt8 := [114, 102]
def coL' : List UInt8 := [99, 111]
def frL' : List UInt8 := [102, 114]
/-- The whole picture. -/
def dotL (ls : List ByteArray) (vs : List Int) (L : List EV) (PO RF CO FR : Nat → Nat) : List UInt8 :=
  hdrL ++ nodesL ls vs L L.length ++ arrsL poL (edgesL L.length (dirF L.length PO)) ++ arrsL rfL' (edgesL L.length RF) ++ arrsL coL' (edgesL L.length (dirF L.length CO)) ++ arrsL frL' (edgesL L.length FR) ++ [125, 10]
theorem arr_few {N : Nat} (hN : N ≤ 64) (s : List UInt8) (hs : s.length ≤ 4) (G : Nat → Nat) : (arrsL s (edgesL N G)).length ≤ 262144 := by
  have h1 := arrsL_le s hs (edgesL N G) (edges64 hN)
  have h2 := edges_few N hN G
  omega
theorem node_ref (L t : List UInt8) (k : Int) : L ++ [101] ++ textL k ++ [32, 91, 108, 97, 98, 101, 108, 61, 34] ++ t ++ [34, 93, 10] = L ++ (nodeL k ++ lblL t) := by
  simp [nodeL, lblL]

set_option maxRecDepth 100000 in
set_option maxHeartbeats 16000000 in
theorem rdot_any (p : PG) (hs : ∀ s ∈ p.locs, s.size ≤ 1048576) (vt vr vl vi vj : Value) (cs : List Value) (ae av : Option Addr) (ce cv : Nat) (l : List EV) (fr : List Int) (od : List (List Int)) (vs : List Int) (w : World)
    (hp : PGV w vt vr vl vi vj p) (hX : XE w cs l.length fr od) (h0 : cs[0]? = some (.slice ae l.length ce)) (h1 : cs[1]? = some (.slice av vs.length cv)) (hE : Seg w ae (l.flatMap evL)) (hV : Seg w av (vs.flatMap intE))
    (hN : ∀ e ∈ l, EvN e) (hv64 : Vals64 vs) (hvl : vs.length ≤ 9223372036854775807) :
    Calls Tryd.prog 21 #[.agg #[vt, vr, vl, vi, vj], .agg cs.toArray] w fun e w' => e = .returned (.string (bs (dotL p.locs vs (shL l) (prF (shL l).length (stQ 1 (shL l))) (rfX l.length fr) (coX l.length od) (frF (shN l.length) (rfX l.length fr) (coX l.length od))))) ∧ Below w.heap.size w w' := by
  have hlen := shL_len l
  have hn64 := shL_le l
  have hkn := fun W => short_any ae l.length ce W hX.b0
  obtain ⟨a', c', ek, sk⟩ := kn_seg hE ce
  rw [ek] at hkn
  have hNL : ∀ e ∈ shL l, EvN e := fun e he => by
    unfold shL at he
    split at he
    · exact hN e he
    · simp at he
  have hsL : shL (shL l) = shL l := by
    have h : (shL l).length ≤ 64 := hn64
    generalize shL l = M at *
    unfold shL
    rw [if_pos h]
  have cP : Hid (∀ W, Below w.heap.size w W → Calls Tryd.prog 55 #[.slice a' (shL l).length c', .int .i64 1] W fun e w' => e = .returned (relv (shL l).length (prF (shL l).length (stQ 1 (shL l)))) ∧ Below W.heap.size W w') := fun W hB => by
    have := rrel_x (w := W) (l := shL l) (a := a') (c := c') 1 (.inl rfl) (by omega) (sk.below hB)
    rw [hsL] at this
    exact this
  have cR : Hid (∀ W, Below w.heap.size w W → Calls Tryd.prog 56 #[.agg cs.toArray] W fun e w' => e = .returned (relv (shL l).length (rfX l.length fr)) ∧ Below W.heap.size W w') := fun W hB => by have := rrf_x (hX.below hB); rw [← hlen] at this; exact this
  have cC : Hid (∀ W, Below w.heap.size w W → Calls Tryd.prog 57 #[.agg cs.toArray] W fun e w' => e = .returned (relv (shL l).length (coX l.length od)) ∧ Below W.heap.size W w') := fun W hB => by have := rco_x (hX.below hB); rw [← hlen] at this; exact this
  have cF : Hid (∀ W, Below w.heap.size w W → Calls Tryd.prog 58 #[.agg cs.toArray] W fun e w' => e = .returned (relv (shL l).length (frF (shN l.length) (rfX l.length fr) (coX l.length od))) ∧ Below W.heap.size W w') := fun W hB => by have := rfr_x (hX.below hB); rw [← hlen] at this ⊢; exact this
  have rP : Right (shL l).length (prF (shL l).length (stQ 1 (shL l))) := right_pr _ hn64 _
  have rR : Right (shL l).length (rfX l.length fr) := by rw [hlen]; exact right_rfX _ _
  have rC : Right (shL l).length (coX l.length od) := by rw [hlen]; exact right_coX _ _
  have rF : Right (shL l).length (frF (shN l.length) (rfX l.length fr) (coX l.length od)) := by rw [hlen]; exact right_pr _ (shN_le _) _
  have cT : Hid (∀ e, EvN e → ∀ W, Below w.heap.size w W → Calls Tryd.prog 52 #[.agg #[vt, vr, vl, vi, vj], .agg (evL e).toArray] W fun en w' => en = .returned (.string (bs (txL p.locs e))) ∧ Below W.heap.size W w') := fun e he W hB => by
    have := rtext_ev p hs e he vt vr vl vi vj W (hp.below hB)
    unfold bs
    rw [txL_bs]
    exact this
  generalize frF (shN l.length) (rfX l.length fr) (coX l.length od) = FR at *
  generalize rfX l.length fr = RF at *
  generalize coX l.length od = CO at *
  generalize prF (shL l).length (stQ 1 (shL l)) = PO at *
  have HLX : Hid (cs.length = 5) := hX.len
  have H0 : Hid (cs[0]? = some (.slice ae l.length ce)) := h0
  have H1 : Hid (cs[1]? = some (.slice av vs.length cv)) := h1
  have HV : Hid (Seg w av (vs.flatMap intE)) := hV
  have HPl : Hid (∀ v ∈ [vt, vr, vl, vi, vj], v.oneCell' = true) := pg_one hp
  have HTX : Hid (∀ e, EvN e → (txL p.locs e).length ≤ 1048700) := fun e he => tx_le hs he
  have HTV : Hid (∀ i e, EvN e → (tvL p.locs vs i e).length ≤ 1048730) := fun i e he => tv_le hs hv64 i he
  have HV64 : Hid (∀ i, i < vs.length → -9223372036854775808 ≤ vs.getD i 0 ∧ vs.getD i 0 ≤ 9223372036854775807) := fun i hi => val_at hv64 hi
  have HNO : Hid (∀ k, k ≤ (shL l).length → (nodesL p.locs vs (shL l) k).length ≤ k * 1050000) := fun k hk => nodes_le hs hv64 hNL k hk (by omega)
  clear hsL hE hV hX hp hs hN hlen h0 h1 ek hv64
  generalize shL l = L at *
  obtain ⟨n, hn⟩ : ∃ n, L.length = n := ⟨_, rfl⟩
  have HLn : Hid (L.length = n) := hn
  have HSK : Hid (Seg w a' (L.flatMap evL)) := sk
  have HNL : Hid (∀ e ∈ L, EvN e) := hNL
  unfold dotL
  rw [hn] at hkn cP cR cC cF rP rR rC rF hn64 HNO ⊢
  obtain ⟨nv, hnv⟩ : ∃ n, vs.length = n := ⟨_, rfl⟩
  have HNV : Hid (vs.length = nv) := hnv
  rw [hnv] at H1 HV64 hvl
  obtain ⟨nl, hnl⟩ : ∃ n, l.length = n := ⟨_, rfl⟩
  rw [hnl] at H0 hkn
  clear hn sk hNL hnv hnl
  have t1 : True := trivial
  have t2 : True := trivial
  have hdE : (ByteArray.mk #[100, 105, 103, 114, 97, 112, 104, 32, 119, 101, 105, 114, 32, 123, 10]) = bs hdrL := rfl
  go_enter Tryd.func21, Tryd.ntmps21
  go_wp2_with (first
    | (clear t1; refine wpList_boxS rfl 28 _ rfl [vt, vr, vl, vi, vj] rfl ?_; intro W1 bp F1 P1; have B1 := F_b F1; clear F1)
    | (clear t2; refine wpList_boxS rfl 51 _ rfl cs rfl ?_; intro W2 bx F2 C2; have B2 := Below.then B1 (F_b F2); have P2 := P1.grown (F_b F2); have y0 := (C2.cell 0).trans H0.out; clear F2 B1 P1)
    | (go_at_call 51; refine (hkn _).mono ?_; rintro e w' ⟨rfl, hw'⟩; replace hw' := hw'.symm; subst hw'))
  have HP : Hid (IsS W2 bp 28 [vt, vr, vl, vi, vj]) := P2
  have HC : Hid (IsS W2 bx 51 cs) := C2
  have HB2 : Hid (Below w.heap.size w W2) := B2
  clear P2 C2 B2 y0 hkn
  rw [hdE]
  go_loopw [6, 7] (fun st i wr => ∃ k : Nat, k ≤ n ∧ i = .int .i64 (k : Int) ∧ st = .string (bs (hdrL ++ nodesL p.locs vs L k)) ∧ Hid (Below W2.heap.size W2 wr)) (fun _ i _ => n - (intOf i).toNat)
  case atStart => exact ⟨0, Nat.zero_le _, rfl, by show _ = Value.string (bs (hdrL ++ [])); rw [List.append_nil], Below.refl _ _⟩
  case round =>
    obtain ⟨k, hk, rfl, rfl, HB⟩ := hrel
    by_cases hlt : k < n
    · as_aux_lemma =>
      have hki : (k : Int) < (n : Int) := by omega
      have hel := evA_at (l := L) (i := k) (by rw [HLn.out]; exact hlt)
      have heN := HNL.out _ (List.mem_of_getElem? hel)
      obtain ⟨be, oe, rfl, hbe0, r0⟩ := seg_ev HSK.out hel
      have BW : Below w.heap.size w wr := Below.then HB2.out HB.out
      have rI : wr.rangeAt be (oe + k * 5) (evL (evA L k)) := fun j v hv => (BW.cell (p := ⟨be, oe + k * 5 + j, none⟩) hbe0).trans (r0 j v hv)
      have hbe : be < wr.heap.size := Nat.lt_of_lt_of_le hbe0 BW.size
      have zp := HP.out.grown HB.out
      have hct := fun W hW => cT.out (evA L k) heN W (Below.then BW hW)
      have hnl := HNO.out k (by omega)
      have htx := HTX.out _ heN
      have htv := HTV.out k _ heN
      have HTVE : Hid (tvL p.locs vs k (evA L k) = txL p.locs (evA L k) ++ (if (mmB (evA L k) && decide (k < nv)) = true then 61 :: textL (vs.getD k 0) else [])) := by show _ = _; unfold tvL; rw [HNV.out]
      have HSTEP : Hid (hdrL ++ nodesL p.locs vs L (k + 1) = hdrL ++ nodesL p.locs vs L k ++ (nodeL (k : Int) ++ lblL (tvL p.locs vs k (evA L k)))) := by show _ = _; simp only [nodesL, List.append_assoc]
      have hhl : hdrL.length = 15 := rfl
      have hL0 : (hdrL ++ nodesL p.locs vs L k).length ≤ 67200015 := by rw [List.length_append]; omega
      obtain ⟨LN, hLN⟩ : ∃ z, hdrL ++ nodesL p.locs vs L (k + 1) = z := ⟨_, rfl⟩
      rw [hLN] at HSTEP
      have HLN : Hid (hdrL ++ nodesL p.locs vs L (k + 1) = LN) := hLN
      clear hLN
      generalize hdrL ++ nodesL p.locs vs L k = L0 at *
      generalize tvL p.locs vs k (evA L k) = TV at *
      generalize txL p.locs (evA L k) = TX at *
      generalize nodesL p.locs vs L k = ND at *
      clear hel heN r0 hnl hhl
      go_wp2
      refine grow_allW (by kernel_rfl) (by kernel_rfl) ?_
      refine WG.row rfl 28 _ rfl rfl zp [vt, vr, vl, vi, vj] rfl _ Tryd.underlying28 rfl infoPg ?_
      simp only [Act.put, List.setIfInBounds_toArray, List.set_cons_succ, List.set_cons_zero]
      refine WG.put rfl (v := .slice (some ⟨be, oe, none⟩) n c') (fun w => by first | rfl | (go_simp; done) | (simp [go_sem]; done) | (simp [execOp, go_sem]; done)) ?_
      simp only [Act.put, List.setIfInBounds_toArray, List.set_cons_succ, List.set_cons_zero]
      refine WG.put rfl (v := .int .i64 (k : Int)) (fun w => by first | rfl | (go_simp; done) | (simp [go_sem]; done) | (simp [execOp, go_sem]; done)) ?_
      simp only [Act.put, List.setIfInBounds_toArray, List.set_cons_succ, List.set_cons_zero]
      refine WG.put rfl (v := .pointer (some ⟨be, oe + k * 5, none⟩)) (fun w => by first | rfl | (go_simp; done) | (simp [go_sem, hki]; done) | (simp [execOp, go_sem, hki]; done)) ?_
      simp only [Act.put, List.setIfInBounds_toArray, List.set_cons_succ, List.set_cons_zero]
      refine WG.range rfl 46 _ rfl rfl (evL (evA L k)) hbe rI _ Tryd.underlying46 rfl infoEv ?_
      simp only [Act.put, List.setIfInBounds_toArray, List.set_cons_succ, List.set_cons_zero]
      refine WG.call rfl (v := .string (bs TX)) (fun w' hw' => hct w' hw') (fun w => by first | rfl | (go_simp; done) | (simp [go_sem]; done) | (simp [execOp, go_sem]; done)) ?_
      simp only [Act.put, List.setIfInBounds_toArray, List.set_cons_succ, List.set_cons_zero]
      refine WG.put rfl (v := .string (bs TX)) (fun w => by first | rfl | (go_simp; done) | (simp [go_sem]; done) | (simp [execOp, go_sem]; done)) ?_
      simp only [Act.put, List.setIfInBounds_toArray, List.set_cons_succ, List.set_cons_zero]
      refine WG.nil ?_
      intro w6 B6
      have HB6 : Hid (Below W2.heap.size W2 w6) := Below.then HB.out B6
      have rI6 : w6.rangeAt be (oe + k * 5) (evL (evA L k)) := fun j v hv => (B6.cell (p := ⟨be, oe + k * 5 + j, none⟩) hbe).trans (rI j v hv)
      clear rI zp hct BW
      go_upto_region 7 with fail
      try simp only [Act.put]
      go_cut [42] from 12 to 60 (fun v wx => v = .bool (mmB (evA L k) && decide (k < nv)) ∧ Hid (Below W2.heap.size W2 wx))
      case first =>
        as_aux_lemma =>
          have y1 := ((HC.out.grown HB6.out).cell 1).trans H1.out
          have hcr := fun W => read_any (evA L k) W
          have hcw := fun W => write_any (evA L k) W
          have HMM : Hid (mmB (evA L k) = (wrB (evA L k) || rdB (evA L k))) := rfl
          have s1 : True := trivial
          have s2 : True := trivial
          have s3 : True := trivial
          have s4 : True := trivial
          cases hr : rdB (evA L k) with
          | true =>
            simp only [hr] at hcr
            rw [hr] at HMM
            have hmm : mmB (evA L k) = true := by rw [HMM.out]; simp
            by_cases hkv : (k : Int) < (nv : Int)
            · go_wp2_with (first
                | (clear s1; refine wpList_rangeWG ?_ 46 _ rfl rfl rI6 _ Tryd.underlying46 rfl infoEv ?_)
                | (clear s2; go_at_call 19; refine (hcr _).mono ?_; rintro e w7 ⟨rfl, B7⟩; replace y1 := cell_grow y1 B7))
              go_meet
              exact ⟨by rw [hmm]; simp <;> omega, Below.then HB6.out B7⟩
            · go_wp2_with (first
                | (clear s1; refine wpList_rangeWG ?_ 46 _ rfl rfl rI6 _ Tryd.underlying46 rfl infoEv ?_)
                | (clear s2; go_at_call 19; refine (hcr _).mono ?_; rintro e w7 ⟨rfl, B7⟩; replace y1 := cell_grow y1 B7))
              go_meet
              exact ⟨by rw [hmm]; simp <;> omega, Below.then HB6.out B7⟩
          | false =>
            simp only [hr] at hcr
            rw [hr] at HMM
            cases hw : wrB (evA L k) with
            | true =>
              simp only [hw] at hcw
              rw [hw] at HMM
              have hmm : mmB (evA L k) = true := by rw [HMM.out]; simp
              by_cases hkv : (k : Int) < (nv : Int)
              · go_wp2_with (first
                  | (clear s1; refine wpList_rangeWG ?_ 46 _ rfl rfl rI6 _ Tryd.underlying46 rfl infoEv ?_)
                  | (clear s2; go_at_call 19; refine (hcr _).mono ?_; rintro e w7 ⟨rfl, B7⟩; replace y1 := cell_grow y1 B7; have rI7 : w7.rangeAt be (oe + k * 5) (evL (evA L k)) := (fun j v hv => (B7.cell (p := ⟨be, oe + k * 5 + j, none⟩) (Nat.lt_of_lt_of_le hbe B6.size)).trans (rI6 j v hv)))
                  | (clear s3; refine wpList_rangeWG ?_ 46 _ rfl rfl rI7 _ Tryd.underlying46 rfl infoEv ?_)
                  | (clear s4; go_at_call 18; refine (hcw _).mono ?_; rintro e w8 ⟨rfl, B8⟩; replace y1 := cell_grow y1 B8))
                go_meet
                exact ⟨by rw [hmm]; simp <;> omega, Below.then HB6.out (Below.then B7 B8)⟩
              · go_wp2_with (first
                  | (clear s1; refine wpList_rangeWG ?_ 46 _ rfl rfl rI6 _ Tryd.underlying46 rfl infoEv ?_)
                  | (clear s2; go_at_call 19; refine (hcr _).mono ?_; rintro e w7 ⟨rfl, B7⟩; replace y1 := cell_grow y1 B7; have rI7 : w7.rangeAt be (oe + k * 5) (evL (evA L k)) := (fun j v hv => (B7.cell (p := ⟨be, oe + k * 5 + j, none⟩) (Nat.lt_of_lt_of_le hbe B6.size)).trans (rI6 j v hv)))
                  | (clear s3; refine wpList_rangeWG ?_ 46 _ rfl rfl rI7 _ Tryd.underlying46 rfl infoEv ?_)
                  | (clear s4; go_at_call 18; refine (hcw _).mono ?_; rintro e w8 ⟨rfl, B8⟩; replace y1 := cell_grow y1 B8))
                go_meet
                exact ⟨by rw [hmm]; simp <;> omega, Below.then HB6.out (Below.then B7 B8)⟩
            | false =>
              simp only [hw] at hcw
              rw [hw] at HMM
              have hmm : mmB (evA L k) = false := by rw [HMM.out]; simp
              go_wp2_with (first
                | (clear s1; refine wpList_rangeWG ?_ 46 _ rfl rfl rI6 _ Tryd.underlying46 rfl infoEv ?_)
                | (clear s2; go_at_call 19; refine (hcr _).mono ?_; rintro e w7 ⟨rfl, B7⟩; replace y1 := cell_grow y1 B7; have rI7 : w7.rangeAt be (oe + k * 5) (evL (evA L k)) := (fun j v hv => (B7.cell (p := ⟨be, oe + k * 5 + j, none⟩) (Nat.lt_of_lt_of_le hbe B6.size)).trans (rI6 j v hv)))
                | (clear s3; refine wpList_rangeWG ?_ 46 _ rfl rfl rI7 _ Tryd.underlying46 rfl infoEv ?_)
                | (clear s4; go_at_call 18; refine (hcw _).mono ?_; rintro e w8 ⟨rfl, B8⟩; replace y1 := cell_grow y1 B8))
              go_meet
              exact ⟨by rw [hmm]; rfl, Below.then HB6.out (Below.then B7 B8)⟩
      case rest =>
        as_aux_lemma =>
          obtain ⟨rfl, HB7⟩ := hcut
          clear rI6 HB6
          have hkv : (mmB (evA L k) && decide (k < nv)) = true → k < nv := fun h => by rw [Bool.and_eq_true, decide_eq_true_eq] at h; exact h.2
          generalize (mmB (evA L k) && decide (k < nv)) = q at *
          have c1 : Hid (∀ W, Calls Tryd.prog 53 #[.int .i64 (k : Int)] W fun e w' => e = .returned (.string (bs (textL (k : Int)))) ∧ Below W.heap.size W w') := fun W => rtext_any (k : Int) (by omega) (by omega) W
          have l1 : (textL (k : Int)).length ≤ 21 := textL_le _ (by omega) (by omega)
          have HND := node_ref L0 TV (k : Int)
          rw [← HSTEP.out] at HND
          have b1' : (ByteArray.mk #[101]) = bs [101] := rfl
          have b2' : (ByteArray.mk #[61]) = bs [61] := rfl
          have b3' : (ByteArray.mk #[32, 91, 108, 97, 98, 101, 108, 61, 34]) = bs [32, 91, 108, 97, 98, 101, 108, 61, 34] := rfl
          have b4' : (ByteArray.mk #[34, 93, 10]) = bs [34, 93, 10] := rfl
          have e1 := addL L0 [101] (by simp; omega)
          have e2 := addL (L0 ++ [101]) (textL (k : Int)) (by simp; omega)
          have e3 := addL (L0 ++ [101] ++ textL (k : Int)) [32, 91, 108, 97, 98, 101, 108, 61, 34] (by simp; omega)
          have e4 := addL (L0 ++ [101] ++ textL (k : Int) ++ [32, 91, 108, 97, 98, 101, 108, 61, 34]) TV (by simp; omega)
          have e5 := addL (L0 ++ [101] ++ textL (k : Int) ++ [32, 91, 108, 97, 98, 101, 108, 61, 34] ++ TV) [34, 93, 10] (by simp; omega)
          generalize L0 ++ [101] ++ textL (k : Int) ++ [32, 91, 108, 97, 98, 101, 108, 61, 34] ++ TV ++ [34, 93, 10] = V5 at *
          generalize L0 ++ [101] ++ textL (k : Int) ++ [32, 91, 108, 97, 98, 101, 108, 61, 34] ++ TV = V4 at *
          generalize L0 ++ [101] ++ textL (k : Int) ++ [32, 91, 108, 97, 98, 101, 108, 61, 34] = V3 at *
          generalize L0 ++ [101] ++ textL (k : Int) = V2 at *
          generalize L0 ++ [101] = V1 at *
          rw [← b1'] at e1
          rw [← b3'] at e3
          rw [← b4'] at e5
          have HND' : Hid (V5 = LN) := HND
          clear HND HSTEP
          cases q with
          | false =>
            have hTV : TV = TX := by rw [HTVE.out]; simp
            subst hTV
            generalize textL (k : Int) = TK at *
            clear b1' b2' b3' b4' htv htx hkv HTVE
            have s5 : True := trivial
            go_wp2_with (first
              | (clear s5; go_at_call 53; refine (c1.out _).mono ?_; rintro e w9 ⟨rfl, B9⟩))
            go_roundw
            case rel => exact ⟨k + 1, by omega, by go_num, by rw [HLN.out, HND'.out], Below.then HB7.out B9⟩
            case measure => simp [intOf]; omega
          | true =>
            have hkv' := hkv rfl
            have hkvi : (k : Int) < (nv : Int) := by omega
            obtain ⟨hv0, hv1⟩ := HV64.out k hkv'
            obtain ⟨x, hx⟩ : ∃ x, vs[k]? = some x := ⟨_, List.getElem?_eq_getElem (by rw [HNV.out]; exact hkv')⟩
            have hD : vs.getD k 0 = x := by rw [List.getD_eq_getElem?_getD, hx]; rfl
            rw [hD] at hv0 hv1 HTVE
            obtain ⟨bv, ov, rfl, hbv, cv0⟩ := seg_int HV.out hx
            have cx := ((Below.then HB2.out HB7.out).cell (p := ⟨bv, ov + k, none⟩) hbv).trans cv0
            have y1 := ((HC.out.grown HB7.out).cell 1).trans H1.out
            have c2 : Hid (∀ W, Calls Tryd.prog 53 #[.int .i64 x] W fun e w' => e = .returned (.string (bs (textL x))) ∧ Below W.heap.size W w') := fun W => rtext_any x hv0 hv1 W
            have l2 := textL_le x hv0 hv1
            have f1 := addL TX [61] (by simp; omega)
            have f2 := addL (TX ++ [61]) (textL x) (by simp; omega)
            have hTV : TX ++ [61] ++ textL x = TV := by rw [HTVE.out]; simp
            rw [hTV] at f2
            generalize TX ++ [61] = T1 at *
            rw [← b2'] at f1
            generalize textL (k : Int) = TK at *
            generalize textL x = TXX at *
            clear hx hD hTV cv0 b1' b2' b3' b4' htv htx hkv HTVE
            have s5 : True := trivial
            have s6 : True := trivial
            go_wp2_with (first
              | (clear s5; go_at_call 53; refine (c2.out _).mono ?_; rintro e w8 ⟨rfl, B8⟩)
              | (clear s6; go_at_call 53; refine (c1.out _).mono ?_; rintro e w9 ⟨rfl, B9⟩))
            go_roundw
            case rel => exact ⟨k + 1, by omega, by go_num, by rw [HLN.out, HND'.out], Below.then HB7.out (Below.then B8 B9)⟩
            case measure => simp [intOf]; omega
    · have e : n = k := by omega
      subst e
      have hki : ¬ ((n : Int) < (n : Int)) := by omega
      as_aux_lemma =>
        have BW : Below w.heap.size w wr := Below.then HB2.out HB.out
        have zx := HC.out.grown HB.out
        have hnl := HNO.out n (by omega)
        have hhl : hdrL.length = 15 := rfl
        have hL0 : (hdrL ++ nodesL p.locs vs L n).length ≤ 67200015 := by rw [List.length_append]; omega
        have a1 := arr_few hn64 poL (by decide) (dirF n PO)
        have a2 := arr_few hn64 rfL' (by decide) RF
        have a3 := arr_few hn64 coL' (by decide) (dirF n CO)
        have a4 := arr_few hn64 frL' (by decide) FR
        have k1 : Hid (∀ W, Calls Tryd.prog 54 #[relv n PO, .string (ByteArray.mk #[112, 111]), .bool true] W fun e w' => e = .returned (.string (bs (arrsL poL (edgesL n (dirF n PO))))) ∧ Below W.heap.size W w') := fun W => rarrows_any hn64 rP poL (by decide) true W
        have k2 : Hid (∀ W, Calls Tryd.prog 54 #[relv n RF, .string (ByteArray.mk #[114, 102]), .bool false] W fun e w' => e = .returned (.string (bs (arrsL rfL' (edgesL n RF)))) ∧ Below W.heap.size W w') := fun W => rarrows_any hn64 rR rfL' (by decide) false W
        have k3 : Hid (∀ W, Calls Tryd.prog 54 #[relv n CO, .string (ByteArray.mk #[99, 111]), .bool true] W fun e w' => e = .returned (.string (bs (arrsL coL' (edgesL n (dirF n CO))))) ∧ Below W.heap.size W w') := fun W => rarrows_any hn64 rC coL' (by decide) true W
        have k4 : Hid (∀ W, Calls Tryd.prog 54 #[relv n FR, .string (ByteArray.mk #[102, 114]), .bool false] W fun e w' => e = .returned (.string (bs (arrsL frL' (edgesL n FR)))) ∧ Below W.heap.size W w') := fun W => rarrows_any hn64 rF frL' (by decide) false W
        obtain ⟨L0, hq0⟩ : ∃ z, hdrL ++ nodesL p.locs vs L n = z := ⟨_, rfl⟩
        have HQ0 : Hid (hdrL ++ nodesL p.locs vs L n = L0) := hq0
        rw [hq0] at hL0 ⊢
        clear hq0
        obtain ⟨A1, hq1⟩ : ∃ z, arrsL poL (edgesL n (dirF n PO)) = z := ⟨_, rfl⟩
        have HQ1 : Hid (arrsL poL (edgesL n (dirF n PO)) = A1) := hq1
        rw [hq1] at a1 k1
        clear hq1
        obtain ⟨A2, hq2⟩ : ∃ z, arrsL rfL' (edgesL n RF) = z := ⟨_, rfl⟩
        have HQ2 : Hid (arrsL rfL' (edgesL n RF) = A2) := hq2
        rw [hq2] at a2 k2
        clear hq2
        obtain ⟨A3, hq3⟩ : ∃ z, arrsL coL' (edgesL n (dirF n CO)) = z := ⟨_, rfl⟩
        have HQ3 : Hid (arrsL coL' (edgesL n (dirF n CO)) = A3) := hq3
        rw [hq3] at a3 k3
        clear hq3
        obtain ⟨A4, hq4⟩ : ∃ z, arrsL frL' (edgesL n FR) = z := ⟨_, rfl⟩
        have HQ4 : Hid (arrsL frL' (edgesL n FR) = A4) := hq4
        rw [hq4] at a4 k4
        clear hq4
        have e1 := addL L0 A1 (by omega)
        have e2 := addL (L0 ++ A1) A2 (by simp; omega)
        have e3 := addL (L0 ++ A1 ++ A2) A3 (by simp; omega)
        have e4 := addL (L0 ++ A1 ++ A2 ++ A3) A4 (by simp; omega)
        have e5 := addL (L0 ++ A1 ++ A2 ++ A3 ++ A4) [125, 10] (by simp; omega)
        obtain ⟨V5, hV5⟩ : ∃ z, L0 ++ A1 ++ A2 ++ A3 ++ A4 ++ [125, 10] = z := ⟨_, rfl⟩
        have HV5 : Hid (L0 ++ A1 ++ A2 ++ A3 ++ A4 ++ [125, 10] = V5) := hV5
        rw [hV5] at e5
        clear hV5
        generalize L0 ++ A1 ++ A2 ++ A3 ++ A4 = V4 at e4 e5
        generalize L0 ++ A1 ++ A2 ++ A3 = V3 at e3 e4
        generalize L0 ++ A1 ++ A2 = V2 at e2 e3
        generalize L0 ++ A1 = V1 at e1 e2
        clear hnl hhl rP rR rC rF
        go_wp2
        refine grow_allW (by kernel_rfl) (by kernel_rfl) ?_
        refine WG.put rfl (v := .string (bs L0)) (fun w => by first | rfl | (go_simp; done) | (simp [go_sem]; done) | (simp [execOp, go_sem]; done)) ?_
        simp only [Act.put, List.setIfInBounds_toArray, List.set_cons_succ, List.set_cons_zero]
        refine WG.put rfl (v := .slice a' n c') (fun w => by first | rfl | (go_simp; done) | (simp [go_sem]; done) | (simp [execOp, go_sem]; done)) ?_
        simp only [Act.put, List.setIfInBounds_toArray, List.set_cons_succ, List.set_cons_zero]
        refine WG.call rfl (v := relv (n : Nat) PO) (fun w' hw' => cP.out w' (Below.then BW hw')) (fun w => by first | rfl | (go_simp; done) | (simp [go_sem]; done) | (simp [execOp, go_sem]; done)) ?_
        simp only [Act.put, List.setIfInBounds_toArray, List.set_cons_succ, List.set_cons_zero]
        refine WG.call rfl (v := .string (bs A1)) (fun w' hw' => k1.out w') (fun w => by first | rfl | (go_simp; done) | (simp [go_sem]; done) | (simp [execOp, go_sem]; done)) ?_
        simp only [Act.put, List.setIfInBounds_toArray, List.set_cons_succ, List.set_cons_zero]
        refine WG.put rfl (v := .string (bs V1)) (fun w => by first | rfl | (go_simp; done) | (simp [go_sem, e1]; done) | (simp [execOp, go_sem, e1]; done)) ?_
        simp only [Act.put, List.setIfInBounds_toArray, List.set_cons_succ, List.set_cons_zero]
        refine WG.loadX rfl _ rfl rfl zx HLX.out ?_
        simp only [Act.put, List.setIfInBounds_toArray, List.set_cons_succ, List.set_cons_zero]
        refine WG.call rfl (v := relv (n : Nat) RF) (fun w' hw' => cR.out w' (Below.then BW hw')) (fun w => by first | rfl | (go_simp; done) | (simp [go_sem]; done) | (simp [execOp, go_sem]; done)) ?_
        simp only [Act.put, List.setIfInBounds_toArray, List.set_cons_succ, List.set_cons_zero]
        refine WG.call rfl (v := .string (bs A2)) (fun w' hw' => k2.out w') (fun w => by first | rfl | (go_simp; done) | (simp [go_sem]; done) | (simp [execOp, go_sem]; done)) ?_
        simp only [Act.put, List.setIfInBounds_toArray, List.set_cons_succ, List.set_cons_zero]
        refine WG.put rfl (v := .string (bs V2)) (fun w => by first | rfl | (go_simp; done) | (simp [go_sem, e2]; done) | (simp [execOp, go_sem, e2]; done)) ?_
        simp only [Act.put, List.setIfInBounds_toArray, List.set_cons_succ, List.set_cons_zero]
        refine WG.loadX rfl _ rfl rfl zx HLX.out ?_
        simp only [Act.put, List.setIfInBounds_toArray, List.set_cons_succ, List.set_cons_zero]
        refine WG.call rfl (v := relv (n : Nat) CO) (fun w' hw' => cC.out w' (Below.then BW hw')) (fun w => by first | rfl | (go_simp; done) | (simp [go_sem]; done) | (simp [execOp, go_sem]; done)) ?_
        simp only [Act.put, List.setIfInBounds_toArray, List.set_cons_succ, List.set_cons_zero]
        refine WG.call rfl (v := .string (bs A3)) (fun w' hw' => k3.out w') (fun w => by first | rfl | (go_simp; done) | (simp [go_sem]; done) | (simp [execOp, go_sem]; done)) ?_
        simp only [Act.put, List.setIfInBounds_toArray, List.set_cons_succ, List.set_cons_zero]
        refine WG.put rfl (v := .string (bs V3)) (fun w => by first | rfl | (go_simp; done) | (simp [go_sem, e3]; done) | (simp [execOp, go_sem, e3]; done)) ?_
        simp only [Act.put, List.setIfInBounds_toArray, List.set_cons_succ, List.set_cons_zero]
        refine WG.loadX rfl _ rfl rfl zx HLX.out ?_
        simp only [Act.put, List.setIfInBounds_toArray, List.set_cons_succ, List.set_cons_zero]
        refine WG.call rfl (v := relv (n : Nat) FR) (fun w' hw' => cF.out w' (Below.then BW hw')) (fun w => by first | rfl | (go_simp; done) | (simp [go_sem]; done) | (simp [execOp, go_sem]; done)) ?_
        simp only [Act.put, List.setIfInBounds_toArray, List.set_cons_succ, List.set_cons_zero]
        refine WG.call rfl (v := .string (bs A4)) (fun w' hw' => k4.out w') (fun w => by first | rfl | (go_simp; done) | (simp [go_sem]; done) | (simp [execOp, go_sem]; done)) ?_
        simp only [Act.put, List.setIfInBounds_toArray, List.set_cons_succ, List.set_cons_zero]
        refine WG.put rfl (v := .string (bs V4)) (fun w => by first | rfl | (go_simp; done) | (simp [go_sem, e4]; done) | (simp [execOp, go_sem, e4]; done)) ?_
        simp only [Act.put, List.setIfInBounds_toArray, List.set_cons_succ, List.set_cons_zero]
        refine WG.put rfl (v := .string (bs V5)) (fun w => by first | rfl | (go_simp; done) | (simp [go_sem, show (ByteArray.mk #[125, 10]) = bs [125, 10] from rfl, e5]; done) | (simp [execOp, go_sem, show (ByteArray.mk #[125, 10]) = bs [125, 10] from rfl, e5]; done)) ?_
        simp only [Act.put, List.setIfInBounds_toArray, List.set_cons_succ, List.set_cons_zero]
        refine WG.put rfl (v := .string (bs V5)) (fun w => by first | rfl | (go_simp; done) | (simp [go_sem]; done) | (simp [execOp, go_sem]; done)) ?_
        simp only [Act.put, List.setIfInBounds_toArray, List.set_cons_succ, List.set_cons_zero]
        refine WG.nil ?_
        intro w10 B10
        go_wp2
        go_ret
        exact ⟨by rw [HQ0.out, HQ1.out, HQ2.out, HQ3.out, HQ4.out, HV5.out]; rfl, Below.then BW B10⟩
end Go.Proofs.YtdjlfpkemdiadaaDoor
/- Contracts of the library at this program: each laying is the numbers of its functions and types here, and facts of the program that the kernel compares. -/
namespace Go.Proofs
open Go.Shelf
def Tryd.lays169_ren : Go.Shelf.Ren := ⟨fun | 169 => 50 | n => n, fun | 70 => 77 | 9 => 9 | 0 => 0 | 72 => 80 | 37 => 78 | 127 => 109 | 3 => 3 | 5 => 5 | n => n, fun | n => n⟩
theorem Tryd.lays169 : Go.Proofs.Lays.n169 Tryd.prog Tryd.lays169_ren := {
  mixed := by kernel_rfl
  f169 := Tryd.func50.trans (congrArg some (by kernel_rfl))
  t0 := Tryd.underlying0
  a0 := Tryd.isAgg0
  z0 := Tryd.sizeOf0
  v0 := Tryd.zeroValue0
  t3 := Tryd.underlying3
  a3 := Tryd.isAgg3
  z3 := Tryd.sizeOf3
  v3 := Tryd.zeroValue3
  t9 := Tryd.underlying9
  a9 := Tryd.isAgg9
  z9 := Tryd.sizeOf9
  v9 := Tryd.zeroValue9
  t37 := Tryd.underlying78
  a37 := Tryd.isAgg78
  z37 := Tryd.sizeOf78
  v37 := Tryd.zeroValue78
  t70 := Tryd.underlying77
  a70 := Tryd.isAgg77
  z70 := Tryd.sizeOf77
  v70 := Tryd.zeroValue77
  t72 := Tryd.underlying80
  a72 := Tryd.isAgg80
  z72 := Tryd.sizeOf80
  v72 := Tryd.zeroValue80
  t127 := Tryd.underlying109
  a127 := Tryd.isAgg109
  z127 := Tryd.sizeOf109
  v127 := Tryd.zeroValue109 }
theorem Tryd.Builder_Extra_169 : Builder.Extra Tryd.prog Tryd.lays169_ren := {
  sizeBuilder := by kernel_rfl
  liesBuilder := by kernel_rfl
  t5 := Tryd.underlying5
  a5 := Tryd.isAgg5
  z5 := Tryd.sizeOf5
  v5 := Tryd.zeroValue5
  infoByte := by kernel_rfl
  cellsByte := by kernel_rfl
  sizeByte := by kernel_rfl
  neB5 := by decide }
open Go.RowKit in
theorem Tryd.Builder_String_any (B b : Nat) (l : List UInt8) (w : World) (h : Lib.IsBuilder 80 5 B b (Lib.byteCells l) w) (hBw : B ≤ w.heap.size) :
    Calls Tryd.prog 50 #[.pointer (some ⟨b, 0, none⟩)] w fun e w' => e = .returned (.string ⟨l.toArray⟩) ∧ Below B w w' := Any.Builder_String_any Tryd.lays169 Tryd.Builder_Extra_169 B b l w h hBw
end Go.Proofs
/- The program's Dot. -/
namespace Go.Proofs.YtdjlfpkemdiadaaDoor
open Go Go.RowKit M
set_option linter.unusedSimpArgs false
set_option linter.unusedVariables false

theorem zeroBl (w : World) : (zeroValue 80).run Tryd.prog w = .ok (.agg [.pointer none, .slice none 0 0].toArray) w := by
  have h : Tryd.t80.zero = some (.agg [.pointer none, .slice none 0 0].toArray) := by kernel_rfl
  simp [go_sem, zeroValue, h]
theorem step_below {W W' : World} {B bo : Nat} {l : List UInt8} {v v' : Value} (h : BW W B bo l v) (st : Step (some bo) v.ownBlock v'.ownBlock W W') (hB : B ≤ W.heap.size) : Below B W W' :=
  st.below (fun b e => by cases e; exact h.hB) (fun b e => (h.low b e).1) hB
theorem step_is {W W' : World} {B bo b t : Nat} {l : List UInt8} {v v' : Value} {cs : List Value} (h : BW W B bo l v) (st : Step (some bo) v.ownBlock v'.ownBlock W W') (hc : IsS W b t cs) (hb : b ≠ bo) (ht : t ≠ 5) : IsS W' b t cs :=
  hc.step st (fun e => hb (by cases e; rfl)) (fun e => own_ne h.own hc ht e.symm)
/-- What lies in memory while a picture is written. -/
structure DS (w : World) (bp bx bo : Nat) (pl cs : List Value) (l : List UInt8) (W : World) : Prop where
  b : ∃ v, BW W w.heap.size bo l v
  p : IsS W bp 28 pl
  x : IsS W bx 51 cs
  o : Below w.heap.size w W
  np : bp ≠ bo
  nx : bx ≠ bo
section
variable {w : World} {bp bx bo : Nat} {pl cs : List Value} {l : List UInt8} {W W' : World}
theorem DS.grown (h : DS w bp bx bo pl cs l W) (hB : Below W.heap.size W W') : DS w bp bx bo pl cs l W' :=
  ⟨let ⟨v, hb⟩ := h.b; ⟨v, hb.below hB⟩, h.p.grown hB, h.x.grown hB, Below.then h.o hB, h.np, h.nx⟩
theorem DS.write (h : DS w bp bx bo pl cs l W) (s : List UInt8) (hl : l.length + s.length ≤ 1099511627776) :
    Calls Tryd.prog 42 #[.pointer (some ⟨bo, 0, none⟩), .string (bs s)] W fun e w' => e = .returned (.tuple #[.int .i64 (bs s).size, .nilIface]) ∧ DS w bp bx bo pl cs (l ++ s) w' := by
  obtain ⟨v, hb⟩ := h.b
  refine (writeString_own (bs s) hb (by rw [bs_size]; exact hl) h.o.size).mono ?_
  rintro e w' ⟨rfl, v', hb', st⟩
  rw [bs_data] at hb'
  exact ⟨rfl, ⟨v', hb'⟩, step_is hb st h.p h.np (by decide), step_is hb st h.x h.nx (by decide), h.o.trans (step_below hb st h.o.size), h.np, h.nx⟩
theorem DS.arrows (h : DS w bp bx bo pl cs l W) (hT : TabAt w) (hT10 : Tab10 w) (s : List UInt8) (hs : s.length ≤ 4) {N : Nat} (hN : N ≤ 64) {F : Nat → Nat} (hF : Right N F) (hl : l.length ≤ 274877906944) :
    Calls Tryd.prog 48 #[.pointer (some ⟨bo, 0, none⟩), .string (bs s), relv N F] W fun e w' => e = .returned (.tuple #[]) ∧ DS w bp bx bo pl cs (l ++ arrsL s (edgesL N F)) w' := by
  obtain ⟨v, hb⟩ := h.b
  refine (putArrows_any w hT hT10 bo l v s hs N hN F hF W h.o hb hl).mono ?_
  rintro e w' ⟨rfl, v', hv⟩
  exact ⟨rfl, ⟨v', hv.b⟩, step_is hb hv.s h.p h.np (by decide), step_is hb hv.s h.x h.nx (by decide), h.o.trans (step_below hb hv.s h.o.size), h.np, h.nx⟩
theorem DS.string (h : DS w bp bx bo pl cs l W) : Calls Tryd.prog 50 #[.pointer (some ⟨bo, 0, none⟩)] W fun e w' => e = .returned (.string (bs l)) ∧ Below w.heap.size W w' := by
  obtain ⟨v, hb⟩ := h.b
  exact Tryd.Builder_String_any w.heap.size bo l W hb.lib h.o.size
end
section
variable {w : World} {op : Oper} {a : Act} {x y : Operand}
theorem exec_shrI {X k : Nat} (ho : op.op = .binOp .shr 30 x y 3) (hx : a.eval x = .int .u64 (X : Int)) (hy : a.eval y = .int .i64 (k : Int)) (hX : X < 18446744073709551616) (hk : k < 64) : (execOp a.eval op).run Tryd.prog w = .ok (.value (.int .u64 ((X >>> k : Nat) : Int))) w := by
  have h1 := shr_cast X k
  have h2 : ¬ ((k : Int) < 0) := by omega
  generalize X >>> k = q at *
  generalize a.eval = ev at *
  unfold execOp
  simp [ho, hx, hy, go_sem, hk, h1, h2]
theorem exec_andS {X k : Nat} (ho : op.op = .binOp .and 30 x (.const (.int .u64 1)) 30) (hx : a.eval x = .int .u64 ((X >>> k : Nat) : Int)) (hX : X < 18446744073709551616) : (execOp a.eval op).run Tryd.prog w = .ok (.value (.int .u64 ((b2 X k : Nat) : Int))) w := by
  have hc : a.eval (.const (.int .u64 1)) = .int .u64 1 := rfl
  have h1 := bit_and1 X k hX
  have e : (if X.testBit k then (1 : Int) else 0) = ((b2 X k : Nat) : Int) := by unfold b2; split <;> rfl
  rw [e] at h1
  generalize X >>> k = q at *
  generalize a.eval = ev at *
  unfold execOp
  simp only [ho, hc, hx]
  simp [go_sem, h1]
end
end Go.Proofs.YtdjlfpkemdiadaaDoor
/- The program's Dot, walked. -/
namespace Go.Proofs.YtdjlfpkemdiadaaDoor
open Go Go.RowKit M
set_option linter.unusedSimpArgs false
set_option linter.unusedVariables false

theorem ds_upd {w w1 W W' : World} {bp bx bo b : Nat} {pl cs : List Value} {l : List UInt8} (h : DS w bp bx bo pl cs l W) (U : Upd W W' b) (h1 : w1.heap.size ≤ b) (hb : w.heap.size ≤ w1.heap.size ∧ bo < w1.heap.size ∧ bp < w1.heap.size ∧ bx < w1.heap.size) (hrow : ∀ v, BW W w.heap.size bo l v → v.ownBlock ≠ some b) : DS w bp bx bo pl cs l W' := by
  obtain ⟨v, hv⟩ := h.b
  exact ⟨⟨v, hv.upd U (by omega) (hrow v hv)⟩, h.p.upd U (by omega), h.x.upd U (by omega), U.trans h.o (by omega), h.np, h.nx⟩
set_option maxRecDepth 100000 in
set_option maxHeartbeats 16000000 in
theorem dot_any (p : PG) (hs : ∀ s ∈ p.locs, s.size ≤ 1048576) (vt vr vl vi vj : Value) (cs : List Value) (ae av : Option Addr) (ce cv : Nat) (l : List EV) (fr : List Int) (od : List (List Int)) (vs : List Int) (w : World)
    (hp : PGV w vt vr vl vi vj p) (hX : XE w cs l.length fr od) (h0 : cs[0]? = some (.slice ae l.length ce)) (h1 : cs[1]? = some (.slice av vs.length cv)) (hE : Seg w ae (l.flatMap evL)) (hV : Seg w av (vs.flatMap intE))
    (hN : ∀ e ∈ l, EvN e) (hv64 : Vals64 vs) (hvl : vs.length ≤ 9223372036854775807) (hT : TabAt w) (hT10 : Tab10 w) :
    Calls Tryd.prog 20 #[.agg #[vt, vr, vl, vi, vj], .agg cs.toArray] w fun e w' => e = .returned (.string (bs (dotL p.locs vs (shL l) (prF (shL l).length (stQ 1 (shL l))) (rfX l.length fr) (coX l.length od) (frF (shN l.length) (rfX l.length fr) (coX l.length od))))) ∧ Below w.heap.size w w' := by
  have hlen := shL_len l
  have hn64 := shL_le l
  have hkn := fun W => known_any ae l.length ce W hX.b0
  obtain ⟨a', c', ek, sk⟩ := kn_seg hE ce
  rw [ek] at hkn
  have hNL : ∀ e ∈ shL l, EvN e := fun e he => by
    unfold shL at he
    split at he
    · exact hN e he
    · simp at he
  have cM : Hid (∀ W, Below w.heap.size w W → Calls Tryd.prog 43 #[.slice ae l.length ce] W fun e w' => e = .returned (.int .u64 (setM (shL l) mmB : Nat)) ∧ Below W.heap.size W w') := fun W hB => memory_x hX.b0 (hE.below hB)
  have cP : Hid (∀ W, Below w.heap.size w W → Calls Tryd.prog 11 #[.slice ae l.length ce] W fun e w' => e = .returned (relv (shL l).length (prF (shL l).length (stQ 1 (shL l)))) ∧ Below W.heap.size W w') := fun W hB => po_x hX.b0 (hE.below hB)
  have cR : Hid (∀ W, Below w.heap.size w W → Calls Tryd.prog 15 #[.agg cs.toArray] W fun e w' => e = .returned (relv (shL l).length (rfX l.length fr)) ∧ Below W.heap.size W w') := fun W hB => by have := rf_x (hX.below hB); rw [← hlen] at this; exact this
  have cC : Hid (∀ W, Below w.heap.size w W → Calls Tryd.prog 16 #[.agg cs.toArray] W fun e w' => e = .returned (relv (shL l).length (coX l.length od)) ∧ Below W.heap.size W w') := fun W hB => by have := co_x (hX.below hB); rw [← hlen] at this; exact this
  have cF : Hid (∀ W, Below w.heap.size w W → Calls Tryd.prog 17 #[.agg cs.toArray] W fun e w' => e = .returned (relv (shL l).length (frF (shN l.length) (rfX l.length fr) (coX l.length od))) ∧ Below W.heap.size W w') := fun W hB => by have := fr_x (hT.below hB) (hX.below hB); rw [← hlen] at this ⊢; exact this
  have rP : Right (shL l).length (prF (shL l).length (stQ 1 (shL l))) := right_pr _ hn64 _
  have rR : Right (shL l).length (rfX l.length fr) := by rw [hlen]; exact right_rfX _ _
  have rC : Right (shL l).length (coX l.length od) := by rw [hlen]; exact right_coX _ _
  have rF : Right (shL l).length (frF (shN l.length) (rfX l.length fr) (coX l.length od)) := by rw [hlen]; exact right_pr _ (shN_le _) _
  have cT : Hid (∀ e, EvN e → ∀ W, Below w.heap.size w W → Calls Tryd.prog 23 #[.agg #[vt, vr, vl, vi, vj], .agg (evL e).toArray] W fun en w' => en = .returned (.string (bs (txL p.locs e))) ∧ Below W.heap.size W w') := fun e he W hB => by
    have := text_ev p hs e he vt vr vl vi vj W (hp.below hB) (hT10.below hB)
    unfold bs
    rw [txL_bs]
    exact this
  generalize frF (shN l.length) (rfX l.length fr) (coX l.length od) = FR at *
  generalize rfX l.length fr = RF at *
  generalize coX l.length od = CO at *
  generalize prF (shL l).length (stQ 1 (shL l)) = PO at *
  have HT : Hid (TabAt w) := hT
  have HT10 : Hid (Tab10 w) := hT10
  have HLX : Hid (cs.length = 5) := hX.len
  have H0 : Hid (cs[0]? = some (.slice ae l.length ce)) := h0
  have H1 : Hid (cs[1]? = some (.slice av vs.length cv)) := h1
  have HV : Hid (Seg w av (vs.flatMap intE)) := hV
  have HPl : Hid (∀ v ∈ [vt, vr, vl, vi, vj], v.oneCell' = true) := pg_one hp
  have HTX : Hid (∀ e, EvN e → (txL p.locs e).length ≤ 1048700) := fun e he => tx_le hs he
  have HTV : Hid (∀ i e, EvN e → (tvL p.locs vs i e).length ≤ 1048730) := fun i e he => tv_le hs hv64 i he
  have HV64 : Hid (∀ i, i < vs.length → -9223372036854775808 ≤ vs.getD i 0 ∧ vs.getD i 0 ≤ 9223372036854775807) := fun i hi => val_at hv64 hi
  have HNO : Hid (∀ k, k ≤ (shL l).length → (nodesL p.locs vs (shL l) k).length ≤ k * 1050000) := fun k hk => nodes_le hs hv64 hNL k hk (by omega)
  have HMB : Hid (∀ k, k < (shL l).length → (setM (shL l) mmB).testBit k = mmB (evA (shL l) k)) := fun k hk => by unfold setM; rw [maskN_bit]; simp [hk]
  have HML : Hid (setM (shL l) mmB < 18446744073709551616) := setM_lt hn64 _
  clear hE hV hX hp hs hN hlen h0 h1 ek hv64 hT hT10
  generalize setM (shL l) mmB = MM at *
  generalize shL l = L at *
  obtain ⟨n, hn⟩ : ∃ n, L.length = n := ⟨_, rfl⟩
  have HLn : Hid (L.length = n) := hn
  have HSK : Hid (Seg w a' (L.flatMap evL)) := sk
  have HNL : Hid (∀ e ∈ L, EvN e) := hNL
  unfold dotL
  rw [hn] at hkn cP cR cC cF rP rR rC rF hn64 HNO HMB ⊢
  obtain ⟨nv, hnv⟩ : ∃ n, vs.length = n := ⟨_, rfl⟩
  have HNV : Hid (vs.length = nv) := hnv
  rw [hnv] at H1 HV64 hvl
  obtain ⟨nl, hnl⟩ : ∃ n, l.length = n := ⟨_, rfl⟩
  rw [hnl] at H0 hkn cM cP
  clear hn sk hNL hnv hnl
  have t1 : True := trivial
  have t2 : True := trivial
  have t3 : True := trivial
  have t4 : True := trivial
  have hhd : hdrL.length = 15 := rfl
  go_enter Tryd.func20, Tryd.ntmps20
  go_wp2_with (first
    | (clear t1; refine wpList_boxS rfl 28 _ rfl [vt, vr, vl, vi, vj] rfl ?_; intro W1 bp F1 P1; have B1 := F_b F1; clear F1)
    | (clear t2; refine wpList_boxS rfl 51 _ rfl cs rfl ?_; intro W2 bx F2 C2; have B2 := Below.then B1 (F_b F2); have P2 := P1.grown (F_b F2); clear F2 B1 P1)
    | (clear t3; refine wpList_allocS rfl 80 rfl [.pointer none, .slice none 0 0] zeroBl ?_; intro W3 bo F3 M3; have B3 := Below.then B2 (F_b F3); have hn1 : bp ≠ bo := (by have := P2.lt; have := F3.at'; omega); have hn2 : bx ≠ bo := (by have := C2.lt; have := F3.at'; omega); have hbo : w.heap.size ≤ bo := Nat.le_trans B2.size (Nat.le_of_eq F3.at'.symm); have D3 : DS w bp bx bo [vt, vr, vl, vi, vj] cs [] W3 := ⟨⟨.slice none 0 0, hbo, ⟨_, .inl rfl, M3⟩, rfl, .inl ⟨rfl, rfl⟩⟩, P2.grown (F_b F3), C2.grown (F_b F3), B3, hn1, hn2⟩; clear F3 B2 P2 C2 M3 B3 hn1 hn2 hbo)
    | (clear t4; go_at_call 42; refine (D3.write hdrL (by rw [hhd]; decide)).mono ?_; rintro e W4 ⟨rfl, D4⟩; have y0 := (D4.x.cell 0).trans H0.out; clear D3)
    | (go_at_call 43; refine (cM.out _ D4.o).mono ?_; rintro e W5 ⟨rfl, B5⟩; have D5 := D4.grown B5; replace y0 := (D5.x.cell 0).trans H0.out; clear D4 B5 cM)
    | (go_at_call 44; refine (hkn _).mono ?_; rintro e w' ⟨rfl, hw'⟩; replace hw' := hw'.symm; subst hw'))
  have HD : Hid (DS w bp bx bo [vt, vr, vl, vi, vj] cs (hdrL ++ nodesL p.locs vs L 0) W5) := by
    show DS w bp bx bo [vt, vr, vl, vi, vj] cs (hdrL ++ []) W5
    rw [List.append_nil]
    exact D5
  clear D5 y0 hkn
  go_loopw [18] (fun i wr => ∃ k : Nat, k ≤ n ∧ i = .int .i64 (k : Int) ∧ Hid (DS w bp bx bo [vt, vr, vl, vi, vj] cs (hdrL ++ nodesL p.locs vs L k) wr)) (fun i _ => n - (intOf i).toNat)
  case atStart => exact ⟨0, Nat.zero_le _, rfl, HD.out⟩
  case round =>
    clear HD
    obtain ⟨k, hk, rfl, HD⟩ := hrel
    by_cases hlt : k < n
    · as_aux_lemma =>
      have hki : (k : Int) < (n : Int) := by omega
      have hk64 : k < 64 := by omega
      have hel := evA_at (l := L) (i := k) (by rw [HLn.out]; exact hlt)
      have heN := HNL.out _ (List.mem_of_getElem? hel)
      obtain ⟨be, oe, rfl, hbe0, r0⟩ := seg_ev HSK.out hel
      have D0 := HD.out
      have rI : wr.rangeAt be (oe + k * 5) (evL (evA L k)) := fun j v hv => (D0.o.cell (p := ⟨be, oe + k * 5 + j, none⟩) hbe0).trans (r0 j v hv)
      have hnl := HNO.out k (by omega)
      have htx := HTX.out _ heN
      have htv := HTV.out k _ heN
      have hmb := HMB.out k hlt
      have HTVE : Hid (tvL p.locs vs k (evA L k) = txL p.locs (evA L k) ++ (if (mmB (evA L k) && decide (k < nv)) = true then 61 :: textL (vs.getD k 0) else [])) := by show _ = _; unfold tvL; rw [HNV.out]
      have HSTEP : Hid (hdrL ++ nodesL p.locs vs L (k + 1) = hdrL ++ nodesL p.locs vs L k ++ (nodeL (k : Int) ++ lblL (tvL p.locs vs k (evA L k)))) := by show _ = _; simp only [nodesL, List.append_assoc]
      have hct := fun W hW => cT.out (evA L k) heN W hW
      have hL0 : (hdrL ++ nodesL p.locs vs L k).length ≤ 67200015 := by rw [List.length_append]; omega
      generalize hdrL ++ nodesL p.locs vs L k = L0 at *
      generalize tvL p.locs vs k (evA L k) = TV at *
      generalize txL p.locs (evA L k) = TX at *
      have s1 : True := trivial
      have s2 : True := trivial
      have s3 : True := trivial
      have s4 : True := trivial
      have s5 : True := trivial
      have s6 : True := trivial
      clear hel heN r0 hnl HD
      go_upto_region 8 with (first
        | (clear s1; refine wpList_rangeWG ?_ 46 _ rfl rfl rI _ Tryd.underlying46 rfl infoEv ?_)
        | (clear s2; refine wpList_allocS rfl 46 rfl (evL ev0) zeroEv ?_; intro W4 b8 F4 K4; have D4 := D0.grown (F_b F4); have hb8 : Hid (wr.heap.size ≤ b8) := Nat.le_of_eq F4.at'.symm; have hbb : Hid (w.heap.size ≤ wr.heap.size ∧ bo < wr.heap.size ∧ bp < wr.heap.size ∧ bx < wr.heap.size) := ⟨D0.o.size, (let ⟨v, hb⟩ := D0.b; hb.lt), D0.p.lt, D0.x.lt⟩; clear F4 D0 rI)
        | (clear s3; refine wpList_storeW rfl 46 _ _ rfl rfl (evL (evA L k)) rfl K4 rfl infoEv (ev_oneC _) ?_; intro W5 U5 K5; have D5 := ds_upd D4 U5 hb8.out hbb.out (fun v hv => own_ne hv.own K4 (by decide)); clear U5 K4 D4)
        | (clear s4; refine wpList_loadW rfl 28 _ rfl rfl D5.p _ Tryd.underlying28 rfl infoPg ?_)
        | (clear s5; refine wpList_loadW rfl 46 _ rfl rfl K5 _ Tryd.underlying46 rfl infoEv ?_)
        | (clear s6; go_at_call 23; refine (hct _ D5.o).mono ?_; rintro e W6 ⟨rfl, B6⟩; have D6 := D5.grown B6; clear K5 D5 B6))
      try simp only [Act.put]
      have HD6 : Hid (DS w bp bx bo [vt, vr, vl, vi, vj] cs L0 W6) := D6
      clear D6 hct
      go_cut [37] from 19 to 53 (fun v wx => v = .bool (mmB (evA L k) && decide (k < nv)) ∧ Hid (DS w bp bx bo [vt, vr, vl, vi, vj] cs L0 wx))
      case first =>
        as_aux_lemma =>
          have y1 := (HD6.out.x.cell 1).trans H1.out
          have hML := HML.out
          cases hm : mmB (evA L k) with
          | false =>
            rw [hm] at hmb
            have vm : ((b2 MM k : Nat) : Int) = 0 := by rw [bit_b2 hmb]; rfl
            refine grow_region ?_
            refine WG.put rfl (v := .int .u64 (MM : Int)) (fun w => by first | rfl | (go_simp; done) | (simp [go_sem]; done) | (simp [execOp, go_sem]; done)) ?_
            simp only [Act.put, List.setIfInBounds_toArray, List.set_cons_succ, List.set_cons_zero]
            refine WG.put rfl (v := .int .i64 (k : Int)) (fun w => by first | rfl | (go_simp; done) | (simp [go_sem]; done) | (simp [execOp, go_sem]; done)) ?_
            simp only [Act.put, List.setIfInBounds_toArray, List.set_cons_succ, List.set_cons_zero]
            refine WG.put rfl (fun w => exec_shrI (X := MM) rfl rfl rfl hML hk64) ?_
            simp only [Act.put, List.setIfInBounds_toArray, List.set_cons_succ, List.set_cons_zero]
            refine WG.put rfl (v := .int .u64 0) (fun w => (exec_andS (X := MM) rfl rfl hML).trans (by rw [vm])) ?_
            simp only [Act.put, List.setIfInBounds_toArray, List.set_cons_succ, List.set_cons_zero]
            refine WG.put rfl (v := .bool false) (fun w => by first | rfl | (go_simp; done) | (simp [go_sem]; done) | (simp [execOp, go_sem]; done)) ?_
            simp only [Act.put, List.setIfInBounds_toArray, List.set_cons_succ, List.set_cons_zero]
            refine WG.put rfl (v := .bool false) (fun w => by first | rfl | (go_simp; done) | (simp [go_sem]; done) | (simp [execOp, go_sem]; done)) ?_
            simp only [Act.put, List.setIfInBounds_toArray, List.set_cons_succ, List.set_cons_zero]
            refine WG.skip rfl ?_
            simp only [Act.put, List.setIfInBounds_toArray, List.set_cons_succ, List.set_cons_zero]
            refine WG.skip rfl ?_
            simp only [Act.put, List.setIfInBounds_toArray, List.set_cons_succ, List.set_cons_zero]
            refine WG.skip rfl ?_
            simp only [Act.put, List.setIfInBounds_toArray, List.set_cons_succ, List.set_cons_zero]
            refine WG.skip rfl ?_
            simp only [Act.put, List.setIfInBounds_toArray, List.set_cons_succ, List.set_cons_zero]
            refine WG.skip rfl ?_
            simp only [Act.put, List.setIfInBounds_toArray, List.set_cons_succ, List.set_cons_zero]
            refine WG.put rfl (v := .bool false) (fun w => by first | rfl | (go_simp; done) | (simp [go_sem]; done) | (simp [execOp, go_sem]; done)) ?_
            simp only [Act.put, List.setIfInBounds_toArray, List.set_cons_succ, List.set_cons_zero]
            refine WG.nil ?_
            intro w8 B8
            go_wp2
            go_meet
            exact ⟨by rw [hm]; rfl, HD6.out.grown B8⟩
          | true =>
            rw [hm] at hmb
            have vm : ((b2 MM k : Nat) : Int) = 1 := by rw [bit_b2 hmb]; rfl
            by_cases hkv : (k : Int) < (nv : Int)
            · refine grow_region ?_
              refine WG.put rfl (v := .int .u64 (MM : Int)) (fun w => by first | rfl | (go_simp; done) | (simp [go_sem]; done) | (simp [execOp, go_sem]; done)) ?_
              simp only [Act.put, List.setIfInBounds_toArray, List.set_cons_succ, List.set_cons_zero]
              refine WG.put rfl (v := .int .i64 (k : Int)) (fun w => by first | rfl | (go_simp; done) | (simp [go_sem]; done) | (simp [execOp, go_sem]; done)) ?_
              simp only [Act.put, List.setIfInBounds_toArray, List.set_cons_succ, List.set_cons_zero]
              refine WG.put rfl (fun w => exec_shrI (X := MM) rfl rfl rfl hML hk64) ?_
              simp only [Act.put, List.setIfInBounds_toArray, List.set_cons_succ, List.set_cons_zero]
              refine WG.put rfl (v := .int .u64 1) (fun w => (exec_andS (X := MM) rfl rfl hML).trans (by rw [vm])) ?_
              simp only [Act.put, List.setIfInBounds_toArray, List.set_cons_succ, List.set_cons_zero]
              refine WG.put rfl (v := .bool true) (fun w => by first | rfl | (go_simp; done) | (simp [go_sem]; done) | (simp [execOp, go_sem]; done)) ?_
              simp only [Act.put, List.setIfInBounds_toArray, List.set_cons_succ, List.set_cons_zero]
              refine WG.put rfl (v := .bool true) (fun w => by first | rfl | (go_simp; done) | (simp [go_sem]; done) | (simp [execOp, go_sem]; done)) ?_
              simp only [Act.put, List.setIfInBounds_toArray, List.set_cons_succ, List.set_cons_zero]
              refine WG.put rfl (v := .int .i64 (k : Int)) (fun w => by first | rfl | (go_simp; done) | (simp [go_sem]; done) | (simp [execOp, go_sem]; done)) ?_
              simp only [Act.put, List.setIfInBounds_toArray, List.set_cons_succ, List.set_cons_zero]
              refine WG.put rfl (v := .pointer (some ⟨bx, 1, none⟩)) (fun w => by first | rfl | (go_simp; done) | (simp [go_sem]; done) | (simp [execOp, go_sem]; done)) ?_
              simp only [Act.put, List.setIfInBounds_toArray, List.set_cons_succ, List.set_cons_zero]
              refine WG.cell rfl 26 _ rfl rfl y1 (fun w h => by simp [go_sem, h]) ?_
              simp only [Act.put, List.setIfInBounds_toArray, List.set_cons_succ, List.set_cons_zero]
              refine WG.put rfl (v := .int .i64 (nv : Int)) (fun w => by first | rfl | (go_simp; done) | (simp [go_sem]; done) | (simp [execOp, go_sem]; done)) ?_
              simp only [Act.put, List.setIfInBounds_toArray, List.set_cons_succ, List.set_cons_zero]
              refine WG.put rfl (v := .bool true) (fun w => by first | rfl | (go_simp; done) | (simp [go_sem, hkv]; done) | (simp [execOp, go_sem, hkv]; done)) ?_
              simp only [Act.put, List.setIfInBounds_toArray, List.set_cons_succ, List.set_cons_zero]
              refine WG.put rfl (v := .bool true) (fun w => by first | rfl | (go_simp; done) | (simp [go_sem]; done) | (simp [execOp, go_sem]; done)) ?_
              simp only [Act.put, List.setIfInBounds_toArray, List.set_cons_succ, List.set_cons_zero]
              refine WG.nil ?_
              intro w8 B8
              go_wp2
              go_meet
              exact ⟨by rw [hm]; simp <;> omega, HD6.out.grown B8⟩
            · refine grow_region ?_
              refine WG.put rfl (v := .int .u64 (MM : Int)) (fun w => by first | rfl | (go_simp; done) | (simp [go_sem]; done) | (simp [execOp, go_sem]; done)) ?_
              simp only [Act.put, List.setIfInBounds_toArray, List.set_cons_succ, List.set_cons_zero]
              refine WG.put rfl (v := .int .i64 (k : Int)) (fun w => by first | rfl | (go_simp; done) | (simp [go_sem]; done) | (simp [execOp, go_sem]; done)) ?_
              simp only [Act.put, List.setIfInBounds_toArray, List.set_cons_succ, List.set_cons_zero]
              refine WG.put rfl (fun w => exec_shrI (X := MM) rfl rfl rfl hML hk64) ?_
              simp only [Act.put, List.setIfInBounds_toArray, List.set_cons_succ, List.set_cons_zero]
              refine WG.put rfl (v := .int .u64 1) (fun w => (exec_andS (X := MM) rfl rfl hML).trans (by rw [vm])) ?_
              simp only [Act.put, List.setIfInBounds_toArray, List.set_cons_succ, List.set_cons_zero]
              refine WG.put rfl (v := .bool true) (fun w => by first | rfl | (go_simp; done) | (simp [go_sem]; done) | (simp [execOp, go_sem]; done)) ?_
              simp only [Act.put, List.setIfInBounds_toArray, List.set_cons_succ, List.set_cons_zero]
              refine WG.put rfl (v := .bool true) (fun w => by first | rfl | (go_simp; done) | (simp [go_sem]; done) | (simp [execOp, go_sem]; done)) ?_
              simp only [Act.put, List.setIfInBounds_toArray, List.set_cons_succ, List.set_cons_zero]
              refine WG.put rfl (v := .int .i64 (k : Int)) (fun w => by first | rfl | (go_simp; done) | (simp [go_sem]; done) | (simp [execOp, go_sem]; done)) ?_
              simp only [Act.put, List.setIfInBounds_toArray, List.set_cons_succ, List.set_cons_zero]
              refine WG.put rfl (v := .pointer (some ⟨bx, 1, none⟩)) (fun w => by first | rfl | (go_simp; done) | (simp [go_sem]; done) | (simp [execOp, go_sem]; done)) ?_
              simp only [Act.put, List.setIfInBounds_toArray, List.set_cons_succ, List.set_cons_zero]
              refine WG.cell rfl 26 _ rfl rfl y1 (fun w h => by simp [go_sem, h]) ?_
              simp only [Act.put, List.setIfInBounds_toArray, List.set_cons_succ, List.set_cons_zero]
              refine WG.put rfl (v := .int .i64 (nv : Int)) (fun w => by first | rfl | (go_simp; done) | (simp [go_sem]; done) | (simp [execOp, go_sem]; done)) ?_
              simp only [Act.put, List.setIfInBounds_toArray, List.set_cons_succ, List.set_cons_zero]
              refine WG.put rfl (v := .bool false) (fun w => by first | rfl | (go_simp; done) | (simp [go_sem, hkv]; done) | (simp [execOp, go_sem, hkv]; done)) ?_
              simp only [Act.put, List.setIfInBounds_toArray, List.set_cons_succ, List.set_cons_zero]
              refine WG.put rfl (v := .bool false) (fun w => by first | rfl | (go_simp; done) | (simp [go_sem]; done) | (simp [execOp, go_sem]; done)) ?_
              simp only [Act.put, List.setIfInBounds_toArray, List.set_cons_succ, List.set_cons_zero]
              refine WG.nil ?_
              intro w8 B8
              go_wp2
              go_meet
              exact ⟨by rw [hm]; simp <;> omega, HD6.out.grown B8⟩
      case rest =>
        as_aux_lemma =>
          obtain ⟨rfl, HD7⟩ := hcut
          clear HD6
          have hkv : (mmB (evA L k) && decide (k < nv)) = true → k < nv := fun h => by rw [Bool.and_eq_true, decide_eq_true_eq] at h; exact h.2
          generalize (mmB (evA L k) && decide (k < nv)) = q at *
          have l1 := nodeL_nat k hk64
          have l2 := lblL_len TV
          have b2' : (ByteArray.mk #[61]) = bs [61] := rfl
          have e1 := addL (nodeL (k : Int)) (lblL TV) (by omega)
          have cn := fun W (hB : Below w.heap.size w W) => nodeText_any (k : Int) (by omega) (by omega) W (HT10.out.below hB)
          have cl := fun W => labelText_any TV (by omega) W
          have l3 : (nodeL (k : Int) ++ lblL TV).length ≤ 1048800 := by rw [List.length_append]; omega
          generalize nodeL (k : Int) ++ lblL TV = V1 at *
          generalize nodeL (k : Int) = NK at *
          generalize lblL TV = LV at *
          cases q with
          | false =>
            have hTV : TV = TX := by rw [HTVE.out]; simp
            subst hTV
            clear b2' htv htx hkv HTVE
            have s7 : True := trivial
            have s8 : True := trivial
            have s9 : True := trivial
            have D7 := HD7.out
            go_wp2_with (first
              | (clear s7; go_at_call 46; refine (cn _ D7.o).mono ?_; rintro e W8 ⟨rfl, B8⟩; have D8 := D7.grown B8; clear D7 B8)
              | (clear s8; go_at_call 47; refine (cl _).mono ?_; rintro e w' ⟨rfl, hw'⟩; replace hw' := hw'.symm; subst hw')
              | (clear s9; go_at_call 42; refine (D8.write V1 (by omega)).mono ?_; rintro e W9 ⟨rfl, D9⟩; clear D8))
            go_roundw
            case rel => exact ⟨k + 1, by omega, by go_num, by show DS _ _ _ _ _ _ _ _; rw [HSTEP.out]; exact D9⟩
            case measure => simp [intOf]; omega
          | true =>
            have hkv' := hkv rfl
            have hkvi : (k : Int) < (nv : Int) := by omega
            obtain ⟨hv0, hv1⟩ := HV64.out k hkv'
            obtain ⟨x, hx⟩ : ∃ x, vs[k]? = some x := ⟨_, List.getElem?_eq_getElem (by rw [HNV.out]; exact hkv')⟩
            have hD : vs.getD k 0 = x := by rw [List.getD_eq_getElem?_getD, hx]; rfl
            rw [hD] at hv0 hv1 HTVE
            obtain ⟨bv, ov, rfl, hbv, cv0⟩ := seg_int HV.out hx
            have D7 := HD7.out
            have cx := (D7.o.cell (p := ⟨bv, ov + k, none⟩) hbv).trans cv0
            have y1 := (D7.x.cell 1).trans H1.out
            have c2 : Hid (∀ W, Below w.heap.size w W → Calls Tryd.prog 45 #[.int .i64 x] W fun e w' => e = .returned (.string (bs (textL x))) ∧ Below W.heap.size W w') := fun W hB => text_any x hv0 hv1 W (HT10.out.below hB)
            have l4 := textL_le x hv0 hv1
            have f1 := addL [61] (textL x) (by simp; omega)
            have f2 := addL TX ([61] ++ textL x) (by simp; omega)
            have hTV : TX ++ ([61] ++ textL x) = TV := by rw [HTVE.out]; simp
            rw [hTV] at f2
            generalize [61] ++ textL x = T1 at *
            rw [← b2'] at f1
            generalize textL x = TXX at *
            clear hx hD hTV cv0 b2' htv htx hkv HTVE
            have s6 : True := trivial
            have s7 : True := trivial
            have s8 : True := trivial
            have s9 : True := trivial
            go_wp2_with (first
              | (clear s6; go_at_call 45; refine (c2.out _ D7.o).mono ?_; rintro e W10 ⟨rfl, B10⟩; have D10 := D7.grown B10; clear D7 B10)
              | (clear s7; go_at_call 46; refine (cn _ D10.o).mono ?_; rintro e W8 ⟨rfl, B8⟩; have D8 := D10.grown B8; clear D10 B8)
              | (clear s8; go_at_call 47; refine (cl _).mono ?_; rintro e w' ⟨rfl, hw'⟩; replace hw' := hw'.symm; subst hw')
              | (clear s9; go_at_call 42; refine (D8.write V1 (by omega)).mono ?_; rintro e W9 ⟨rfl, D9⟩; clear D8))
            go_roundw
            case rel => exact ⟨k + 1, by omega, by go_num, by show DS _ _ _ _ _ _ _ _; rw [HSTEP.out]; exact D9⟩
            case measure => simp [intOf]; omega
    · have e : n = k := by omega
      subst e
      have hki : ¬ ((n : Int) < (n : Int)) := by omega
      as_aux_lemma =>
        have hnl := HNO.out n (by omega)
        have hL0 : (hdrL ++ nodesL p.locs vs L n).length ≤ 67200015 := by rw [List.length_append]; omega
        have a1 := arr_few hn64 poL (by decide) (dirF n PO)
        have a2 := arr_few hn64 rfL' (by decide) RF
        have a3 := arr_few hn64 coL' (by decide) (dirF n CO)
        have a4 := arr_few hn64 frL' (by decide) FR
        have D0 := HD.out
        have rDP := right_dir hn64 PO
        have rDC := right_dir hn64 CO
        have kP := fun W (hB : Below w.heap.size w W) => direct_any hn64 rP W (HT.out.below hB)
        have kC := fun W (hB : Below w.heap.size w W) => direct_any hn64 rC W (HT.out.below hB)
        have y0 := (D0.x.cell 0).trans H0.out
        obtain ⟨DP, hq1⟩ : ∃ z, dirF n PO = z := ⟨_, rfl⟩
        obtain ⟨DC, hq2⟩ : ∃ z, dirF n CO = z := ⟨_, rfl⟩
        have HDP : Hid (dirF n PO = DP) := hq1
        have HDC : Hid (dirF n CO = DC) := hq2
        rw [hq1] at a1 rDP kP
        rw [hq2] at a3 rDC kC
        clear hq1 hq2
        have u1 : True := trivial
        have u2 : True := trivial
        have u3 : True := trivial
        have u4 : True := trivial
        have u5 : True := trivial
        have u6 : True := trivial
        have u7 : True := trivial
        have u8 : True := trivial
        have u9 : True := trivial
        have u10 : True := trivial
        have u11 : True := trivial
        have u12 : True := trivial
        have u13 : True := trivial
        have u14 : True := trivial
        have u15 : True := trivial
        clear HD hnl
        go_wp2_with (first
          | (clear u1; go_at_call 11; refine (cP.out _ D0.o).mono ?_; rintro e X1 ⟨rfl, G1⟩; have E1 := D0.grown G1; clear D0 G1 y0)
          | (clear u2; go_at_call 49; refine (kP _ E1.o).mono ?_; rintro e X2 ⟨rfl, G2⟩; have E2 := E1.grown G2; clear E1 G2 kP)
          | (clear u3; go_at_call 48; refine (E2.arrows HT.out HT10.out poL (by decide) hn64 rDP (by omega)).mono ?_; rintro e X3 ⟨rfl, E3⟩; clear E2)
          | (clear u4; refine wpList_loadW rfl 51 _ rfl rfl E3.x _ Tryd.underlying51 rfl (by rw [HLX.out]; exact infoEx) ?_)
          | (clear u5; go_at_call 15; refine (cR.out _ E3.o).mono ?_; rintro e X4 ⟨rfl, G4⟩; have E4 := E3.grown G4; clear E3 G4)
          | (clear u6; go_at_call 48; refine (E4.arrows HT.out HT10.out rfL' (by decide) hn64 rR (by rw [List.length_append]; omega)).mono ?_; rintro e X5 ⟨rfl, E5⟩; clear E4)
          | (clear u7; refine wpList_loadW rfl 51 _ rfl rfl E5.x _ Tryd.underlying51 rfl (by rw [HLX.out]; exact infoEx) ?_)
          | (clear u8; go_at_call 16; refine (cC.out _ E5.o).mono ?_; rintro e X6 ⟨rfl, G6⟩; have E6 := E5.grown G6; clear E5 G6)
          | (clear u9; go_at_call 49; refine (kC _ E6.o).mono ?_; rintro e X7 ⟨rfl, G7⟩; have E7 := E6.grown G7; clear E6 G7 kC)
          | (clear u10; go_at_call 48; refine (E7.arrows HT.out HT10.out coL' (by decide) hn64 rDC (by simp only [List.length_append]; simp only [List.length_append] at hL0; omega)).mono ?_; rintro e X8 ⟨rfl, E8⟩; clear E7)
          | (clear u11; refine wpList_loadW rfl 51 _ rfl rfl E8.x _ Tryd.underlying51 rfl (by rw [HLX.out]; exact infoEx) ?_)
          | (clear u12; go_at_call 17; refine (cF.out _ E8.o).mono ?_; rintro e X9 ⟨rfl, G9⟩; have E9 := E8.grown G9; clear E8 G9)
          | (clear u13; go_at_call 48; refine (E9.arrows HT.out HT10.out frL' (by decide) hn64 rF (by simp only [List.length_append]; simp only [List.length_append] at hL0; omega)).mono ?_; rintro e X10 ⟨rfl, E10⟩; clear E9)
          | (clear u14; go_at_call 42; refine (E10.write [125, 10] (by simp only [List.length_append, List.length_cons, List.length_nil]; simp only [List.length_append] at hL0; omega)).mono ?_; rintro e X11 ⟨rfl, E11⟩; clear E10)
          | (clear u15; go_at_call 50; refine E11.string.mono ?_; rintro e X12 ⟨rfl, G12⟩))
        go_ret
        exact ⟨by rw [HDP.out, HDC.out]; simp only [List.append_assoc]; rfl, E11.o.trans G12⟩
end Go.Proofs.YtdjlfpkemdiadaaDoor
/- The law EventDots. -/
namespace Go.Proofs.YtdjlfpkemdiadaaDoor
open Go Go.RowKit M
set_option linter.unusedSimpArgs false
set_option linter.unusedVariables false

set_option maxRecDepth 100000 in
set_option maxHeartbeats 4000000 in
theorem eventDots_any (p : PG) (hs : ∀ s ∈ p.locs, s.size ≤ 1048576) (vt vr vl vi vj : Value) (cs : List Value) (ae av : Option Addr) (ce cv : Nat) (l : List EV) (fr : List Int) (od : List (List Int)) (vs : List Int) (w : World)
    (hp : PGV w vt vr vl vi vj p) (hX : XE w cs l.length fr od) (h0 : cs[0]? = some (.slice ae l.length ce)) (h1 : cs[1]? = some (.slice av vs.length cv)) (hE : Seg w ae (l.flatMap evL)) (hV : Seg w av (vs.flatMap intE))
    (hN : ∀ e ∈ l, EvN e) (hv64 : Vals64 vs) (hvl : vs.length ≤ 9223372036854775807) (hT : TabAt w) (hT10 : Tab10 w) :
    Calls Tryd.prog 5 #[.agg #[vt, vr, vl, vi, vj], .agg cs.toArray] w fun e w' => e = .returned (.bool true) ∧ Below w.heap.size w w' := by
  have c1 : Hid (∀ W, Below w.heap.size w W → Calls Tryd.prog 20 #[.agg #[vt, vr, vl, vi, vj], .agg cs.toArray] W fun e w' => e = .returned (.string (bs (dotL p.locs vs (shL l) (prF (shL l).length (stQ 1 (shL l))) (rfX l.length fr) (coX l.length od) (frF (shN l.length) (rfX l.length fr) (coX l.length od))))) ∧ Below W.heap.size W w') := fun W hB =>
    dot_any p hs vt vr vl vi vj cs ae av ce cv l fr od vs W (hp.below hB) (hX.below hB) h0 h1 (hE.below hB) (hV.below hB) hN hv64 hvl (hT.below hB) (hT10.below hB)
  have c2 : Hid (∀ W, Below w.heap.size w W → Calls Tryd.prog 21 #[.agg #[vt, vr, vl, vi, vj], .agg cs.toArray] W fun e w' => e = .returned (.string (bs (dotL p.locs vs (shL l) (prF (shL l).length (stQ 1 (shL l))) (rfX l.length fr) (coX l.length od) (frF (shN l.length) (rfX l.length fr) (coX l.length od))))) ∧ Below W.heap.size W w') := fun W hB =>
    rdot_any p hs vt vr vl vi vj cs ae av ce cv l fr od vs W (hp.below hB) (hX.below hB) h0 h1 (hE.below hB) (hV.below hB) hN hv64 hvl
  have HL : Hid (cs.length = 5) := hX.len
  have HPl : Hid (∀ v ∈ [vt, vr, vl, vi, vj], v.oneCell' = true) := pg_one hp
  generalize bs (dotL p.locs vs (shL l) (prF (shL l).length (stQ 1 (shL l))) (rfX l.length fr) (coX l.length od) (frF (shN l.length) (rfX l.length fr) (coX l.length od))) = S at *
  clear hp hX hE hV hN hv64 hvl hT hT10 h0 h1 hs
  have t1 : True := trivial
  have t2 : True := trivial
  go_enter Tryd.func5, Tryd.ntmps5
  go_wp2_with (first
    | (clear t1; refine wpList_boxS rfl 28 _ rfl [vt, vr, vl, vi, vj] rfl ?_; intro W1 b1 F1 P1; have B1 := F_b F1; clear F1)
    | (clear t2; refine wpList_boxS rfl 51 _ rfl cs rfl ?_; intro W2 b2 F2 C2; have B2 := Below.then B1 (F_b F2); have P2 := P1.grown (F_b F2); clear F2 B1 P1))
  refine grow_allW (by kernel_rfl) (by kernel_rfl) ?_
  refine WG.row rfl 28 _ rfl rfl P2 [vt, vr, vl, vi, vj] rfl _ Tryd.underlying28 rfl infoPg ?_
  simp only [Act.put, List.setIfInBounds_toArray, List.set_cons_succ, List.set_cons_zero]
  refine WG.loadX rfl _ rfl rfl C2 HL.out ?_
  simp only [Act.put, List.setIfInBounds_toArray, List.set_cons_succ, List.set_cons_zero]
  refine WG.call rfl (fun w' hw' => c1.out w' (Below.then B2 hw')) (fun w => by first | rfl | (go_simp; done)) ?_
  simp only [Act.put, List.setIfInBounds_toArray, List.set_cons_succ, List.set_cons_zero]
  refine WG.row rfl 28 _ rfl rfl P2 [vt, vr, vl, vi, vj] rfl _ Tryd.underlying28 rfl infoPg ?_
  simp only [Act.put, List.setIfInBounds_toArray, List.set_cons_succ, List.set_cons_zero]
  refine WG.loadX rfl _ rfl rfl C2 HL.out ?_
  simp only [Act.put, List.setIfInBounds_toArray, List.set_cons_succ, List.set_cons_zero]
  refine WG.call rfl (fun w' hw' => c2.out w' (Below.then B2 hw')) (fun w => by first | rfl | (go_simp; done)) ?_
  simp only [Act.put, List.setIfInBounds_toArray, List.set_cons_succ, List.set_cons_zero]
  refine WG.put rfl (v := .bool true) (fun w => by first | rfl | (go_simp; done) | (simp [go_sem]; done) | (simp [execOp, go_sem]; done)) ?_
  simp only [Act.put, List.setIfInBounds_toArray, List.set_cons_succ, List.set_cons_zero]
  refine WG.put rfl (v := .bool true) (fun w => by first | rfl | (go_simp; done)) ?_
  simp only [Act.put, List.setIfInBounds_toArray, List.set_cons_succ, List.set_cons_zero]
  refine WG.nil (fun W6 hw6 => ?_)
  go_wp2
  go_ret
  exact ⟨rfl, Below.then B2 hw6⟩
end Go.Proofs.YtdjlfpkemdiadaaDoor
/- Executions as arguments, their events besides. -/
namespace Go.Proofs.YtdjlfpkemdiadaaDoor.Ex
open Go.Proofs.YtdjlfpkemdiadaaDoor Go.ChangeShapes Go.WideShapes Go.ChangeAt Go.RowKit M
set_option linter.unusedSimpArgs false
set_option linter.unusedVariables false

theorem cells3o : Tryd.prog.cellsOf 3 = 1 := by kernel_rfl
theorem cellsEx : Tryd.prog.cellsOf 51 = 5 := by kernel_rfl
theorem cellsSE : Tryd.prog.cellsOf 37 = 1 := by kernel_rfl
theorem cellsSI : Tryd.prog.cellsOf 48 = 1 := by kernel_rfl
theorem cellsSL : Tryd.prog.cellsOf 26 = 1 := by kernel_rfl
theorem cellsSSI : Tryd.prog.cellsOf 49 = 1 := by kernel_rfl
theorem cellsSSL : Tryd.prog.cellsOf 25 = 1 := by kernel_rfl
theorem cells4o : Tryd.prog.cellsOf 4 = 1 := by kernel_rfl
theorem cellsEvo : Tryd.prog.cellsOf 46 = 5 := by kernel_rfl
theorem take_oneo {cs : List Value} {v : Value} {i : Nat} (h : List.take 1 (List.drop i cs) = [v]) : cs[i]? = some v := by
  have := congrArg List.head? h
  simpa [List.head?_take, List.head?_drop] using this
theorem flat_get {α : Type} (encE : α → List Value) (k : Nat) (hk : 0 < k) (hlen : ∀ g, (encE g).length = k) : ∀ (xs : List α) (j : Nat) (v : Value), (xs.flatMap encE)[j]? = some v → ∃ g, xs[j / k]? = some g ∧ (encE g)[j % k]? = some v
  | [], j, v, h => by simp at h
  | x :: xs, j, v, h => by
    rw [List.flatMap_cons] at h
    by_cases hj : j < k
    · rw [List.getElem?_append_left (by rw [hlen]; exact hj)] at h
      exact ⟨x, by rw [Nat.div_eq_of_lt hj]; rfl, by rw [Nat.mod_eq_of_lt hj]; exact h⟩
    · rw [List.getElem?_append_right (by rw [hlen]; omega), hlen] at h
      obtain ⟨g, h1, h2⟩ := flat_get encE k hk hlen xs (j - k) v h
      have e1 : j / k = (j - k) / k + 1 := by
        have : j = (j - k) + k := by omega
        conv => lhs; rw [this]
        rw [Nat.add_div_right _ hk]
      have e2 : j % k = (j - k) % k := by
        have : j = (j - k) + k := by omega
        conv => lhs; rw [this]
        rw [Nat.add_mod_right]
      exact ⟨g, by rw [e1]; exact h1, by rw [e2]; exact h2⟩
theorem open_sl {α : Type} (z0 : α) {T t k : Nat} (hu : Tryd.prog.underlying T = some (.slice t)) (hk : Tryd.prog.cellsOf t = k) (hk0 : 0 < k) (encE : α → List Value) (hlen : ∀ g, (encE g).length = k) (Pw : α → Prop)
    {H : Type} {enc : TypeId × Value → H} {W : World} (opn : ∀ (fuel : Nat) (cs : List Value) (x : DataW H × List MemPlace), DataW.trod enc Tryd.prog W 0 (fun _ => true) true fuel t cs = some x → ∃ g, cs = encE g ∧ Pw g)
    {fuel : Nat} {cs : List Value} {x : DataW H × List MemPlace} (h : DataW.trod enc Tryd.prog W 0 (fun _ => true) true fuel T cs = some x) :
    ∃ (a : Option Addr) (xs : List α) (cap : Nat), cs = [.slice a xs.length cap] ∧ Seg W a (xs.flatMap encE) ∧ (∀ g ∈ xs, Pw g) ∧ (xs = [] ∨ ∃ elems spare, x.1 = .slice elems spare ∧ elems.length = xs.length) ∧ (a = none → cap = 0) ∧ xs.length ≤ cap ∧ cap ≤ 9223372036854775807 := by
  rcases DataW.trod_slice hu h with ⟨hcs, _⟩ | ⟨a, len, cap, elems, rest, n, _, hcs, hx, _, hlc, hcm, hel, hall, _, _⟩
  · exact ⟨none, [], 0, hcs, Seg.nil _ _, (fun g hg => by cases hg), .inl rfl, fun _ => rfl, Nat.le_refl _, by decide⟩
  · rw [hk] at hall
    have one : ∀ i, i < len → ∃ g : α, (∀ j, j < k → W.cell? ((a.add (i * k)).add j) = (encE g)[j]?) ∧ Pw g := fun i hi => by
      have hh := hall i hi
      have hie : i < elems.length := by omega
      rw [List.getElem?_eq_getElem hie] at hh
      obtain ⟨cs', hc, ht⟩ := Option.bind_eq_some_iff.1 hh
      obtain ⟨_, _, hcell⟩ := World.cells?_some hc
      obtain ⟨g, rfl, hg1⟩ := opn _ _ _ ht
      exact ⟨g, hcell, hg1⟩
    obtain ⟨f, hf⟩ : ∃ f : Nat → α, ∀ i, i < len → (∀ j, j < k → W.cell? ((a.add (i * k)).add j) = (encE (f i))[j]?) ∧ Pw (f i) :=
      ⟨fun i => if hi : i < len then Classical.choose (one i hi) else z0, fun i hi => by
        simp only [dif_pos hi]
        exact Classical.choose_spec (one i hi)⟩
    refine ⟨some a, (List.range len).map f, cap, by rw [hcs]; simp, ?_, ?_, .inr ⟨elems.map (·.1), rest.map (·.1), by rw [hx], by simp [hel]⟩, fun e => (by cases e), (by simpa using hlc), (by unfold maxLen at hcm; omega)⟩
    · intro j v hv
      obtain ⟨g, hg, hgv⟩ := flat_get encE k hk0 hlen _ j v hv
      have hq : j / k < len := by have := (List.getElem?_eq_some_iff.1 hg).1; simpa using this
      have hgf : g = f (j / k) := by
        rw [List.getElem?_map, List.getElem?_range hq] at hg
        simpa using hg.symm
      subst hgf
      have hr : j % k < k := Nat.mod_lt _ hk0
      have hc := ((hf _ hq).1 _ hr).trans hgv
      obtain ⟨b, off, spot⟩ := a
      have hspot : spot = none := by
        obtain ⟨u, hu0⟩ : ∃ u, (encE (f 0))[0]? = some u := ⟨_, List.getElem?_eq_getElem (by rw [hlen]; exact hk0)⟩
        have := World.cell?_spot (((hf 0 (Nat.lt_of_le_of_lt (Nat.zero_le _) hq)).1 0 hk0).trans hu0)
        simpa [Addr.add] using this
      subst hspot
      rw [Addr.add_mid, Addr.add_mid] at hc
      have e : off + j / k * k + j % k = off + j := by have := Nat.div_add_mod j k; rw [Nat.mul_comm] at this; omega
      rw [e] at hc
      exact ⟨b, off, rfl, World.block_lt_of_cell? W _ hc, hc⟩
    · intro g hg
      obtain ⟨i, hi, rfl⟩ := List.mem_map.1 hg
      exact (hf i (by simpa using hi)).2
section
variable {H : Type} {enc : TypeId × Value → H} {W : World}
/-- A slice, read, of which the length alone is asked. -/
theorem open_len {T t : Nat} (hu : Tryd.prog.underlying T = some (.slice t)) {fuel : Nat} {cs : List Value} {x : DataW H × List MemPlace} (h : DataW.trod enc Tryd.prog W 0 (fun _ => true) true fuel T cs = some x) :
    ∃ (a : Option Addr) (n cap : Nat), cs = [.slice a n cap] ∧ n ≤ 9223372036854775807 := by
  rcases DataW.trod_slice hu h with ⟨hcs, _⟩ | ⟨a, len, cap, elems, rest, n, _, hcs, hx, _, hlc, hcm, _⟩
  · exact ⟨none, 0, 0, hcs, by decide⟩
  · exact ⟨some a, len, cap, hcs, by unfold maxLen at hcm; omega⟩
theorem open_int1 (fuel : Nat) (cs : List Value) (x : DataW H × List MemPlace) (h : DataW.trod enc Tryd.prog W 0 (fun _ => true) true fuel 3 cs = some x) : ∃ g : Int, cs = intE g ∧ (-9223372036854775808 ≤ g ∧ g ≤ 9223372036854775807) := by
  obtain ⟨k, e0, _, hw⟩ := DataW.trod_int Tryd.underlying3 h
  have hb := bounds_i64 hw
  exact ⟨k, e0, by omega, by omega⟩
abbrev RowA (β : Type) := Option Addr × Nat × List β
def rowE {β : Type} (g : RowA β) : List Value := [.slice g.1 g.2.2.length g.2.1]
def RowP {β : Type} (W : World) (encE : β → List Value) (g : RowA β) : Prop := Seg W g.1 (g.2.2.flatMap encE) ∧ (g.1 = none → g.2.1 = 0) ∧ g.2.2.length ≤ 9223372036854775807
theorem open_row {β : Type} (z0 : β) {T t k : Nat} (hu : Tryd.prog.underlying T = some (.slice t)) (hk : Tryd.prog.cellsOf t = k) (hk0 : 0 < k) (encE : β → List Value) (hlen : ∀ g, (encE g).length = k) (Pw : β → Prop)
    (opn : ∀ (fuel : Nat) (cs : List Value) (x : DataW H × List MemPlace), DataW.trod enc Tryd.prog W 0 (fun _ => true) true fuel t cs = some x → ∃ g, cs = encE g ∧ Pw g)
    (fuel : Nat) (cs : List Value) (x : DataW H × List MemPlace) (h : DataW.trod enc Tryd.prog W 0 (fun _ => true) true fuel T cs = some x) : ∃ g : RowA β, cs = rowE g ∧ RowP W encE g := by
  obtain ⟨a, xs, cap, h1, h2, h3, _, h6, h7, h8⟩ := open_sl z0 hu hk hk0 encE hlen Pw opn h
  exact ⟨(a, cap, xs), h1, h2, h6, by show xs.length ≤ _; omega⟩
theorem rows_of {β : Type} {encE : β → List Value} {a : Option Addr} {cap : Nat} {xs : List (RowA β)} (hs : Seg W a (xs.flatMap rowE)) (hp : ∀ g ∈ xs, RowP W encE g) (hn : a = none → cap = 0) : RowsV W (.slice a (xs.map (·.2.2)).length cap) encE (xs.map (·.2.2)) := by
  refine ⟨xs.map fun g => .slice g.1 g.2.2.length g.2.1, by simp, ⟨a, cap, rfl, ?_, hn⟩, fun j u ys hu hy => ?_⟩
  · rw [show xs.flatMap rowE = xs.map fun g => .slice g.1 g.2.2.length g.2.1 from flat1 _ xs] at hs
    exact hs
  · rw [List.getElem?_map] at hu hy
    cases hg : xs[j]? with
    | none => rw [hg] at hu; cases hu
    | some g =>
      rw [hg] at hu hy
      cases hu; cases hy
      have := hp g (List.mem_of_getElem? hg)
      exact ⟨g.1, g.2.1, rfl, this.1, this.2.1⟩
/-- An execution, read. -/
theorem open_ev1 (fuel : Nat) (cs : List Value) (x : DataW H × List MemPlace) (h : DataW.trod enc Tryd.prog W 0 (fun _ => true) true fuel 46 cs = some x) : ∃ g : EV, cs = evL g ∧ True := by
  obtain ⟨ys, n, _, hx, hcl, hyl, hall⟩ := DataW.trod_struct Tryd.underlying46 h
  rw [cellsEvo] at hcl
  match ys, hyl, hx, hall with
  | [y0, y1, y2, y3, y4], _, hx, hall =>
    have g0 : DataW.trod enc Tryd.prog W 0 (fun _ => true) true n 3 (List.take (Tryd.prog.cellsOf 3) (List.drop 0 cs)) = some y0 := hall 0 _ rfl
    have g1 : DataW.trod enc Tryd.prog W 0 (fun _ => true) true n 3 (List.take (Tryd.prog.cellsOf 3) (List.drop 1 cs)) = some y1 := hall 1 _ rfl
    have g2 : DataW.trod enc Tryd.prog W 0 (fun _ => true) true n 3 (List.take (Tryd.prog.cellsOf 3) (List.drop 2 cs)) = some y2 := hall 2 _ rfl
    have g3 : DataW.trod enc Tryd.prog W 0 (fun _ => true) true n 3 (List.take (Tryd.prog.cellsOf 3) (List.drop 3 cs)) = some y3 := hall 3 _ rfl
    have g4 : DataW.trod enc Tryd.prog W 0 (fun _ => true) true n 4 (List.take (Tryd.prog.cellsOf 4) (List.drop 4 cs)) = some y4 := hall 4 _ rfl
    rw [cells3o] at g0 g1 g2 g3
    rw [cells4o] at g4
    obtain ⟨k0, e0, _, _⟩ := DataW.trod_int Tryd.underlying3 g0
    obtain ⟨k1, e1, _, w1⟩ := DataW.trod_int Tryd.underlying3 g1
    obtain ⟨k2, e2, _, w2⟩ := DataW.trod_int Tryd.underlying3 g2
    obtain ⟨k3, e3, _, _⟩ := DataW.trod_int Tryd.underlying3 g3
    obtain ⟨k4, e4, _⟩ := DataW.trod_bool Tryd.underlying4 g4
    exact ⟨⟨k0, k1, k2, k3, k4⟩, list5 hcl (take_one e0) (take_one e1) (take_one e2) (take_one e3) (take_one e4), trivial⟩
theorem open_ex (fuel : Nat) (cs : List Value) (x : DataW H × List MemPlace) (h : DataW.trod enc Tryd.prog W 0 (fun _ => true) true fuel 51 cs = some x) :
    ∃ (l : List EV) (fr : List Int) (od : List (List Int)) (ae af ao : Option Addr) (ce cf co : Nat), XE W cs l.length fr od ∧ cs[0]? = some (.slice ae l.length ce) ∧ cs[2]? = some (.slice af fr.length cf) ∧ cs[3]? = some (.slice ao od.length co) ∧ Seg W ae (l.flatMap evL) ∧ Seg W af (fr.flatMap intE) ∧ RowsV W (.slice ao od.length co) intE od := by
  obtain ⟨ys, n, _, hx, hcl, hyl, hall⟩ := DataW.trod_struct Tryd.underlying51 h
  rw [cellsEx] at hcl
  match ys, hyl, hx, hall with
  | [y0, y1, y2, y3, y4], _, hx, hall =>
    have g0 : DataW.trod enc Tryd.prog W 0 (fun _ => true) true n 37 (List.take (Tryd.prog.cellsOf 37) (List.drop 0 cs)) = some y0 := hall 0 _ rfl
    have g1 : DataW.trod enc Tryd.prog W 0 (fun _ => true) true n 26 (List.take (Tryd.prog.cellsOf 26) (List.drop 1 cs)) = some y1 := hall 1 _ rfl
    have g2 : DataW.trod enc Tryd.prog W 0 (fun _ => true) true n 48 (List.take (Tryd.prog.cellsOf 48) (List.drop 2 cs)) = some y2 := hall 2 _ rfl
    have g3 : DataW.trod enc Tryd.prog W 0 (fun _ => true) true n 49 (List.take (Tryd.prog.cellsOf 49) (List.drop 3 cs)) = some y3 := hall 3 _ rfl
    have g4 : DataW.trod enc Tryd.prog W 0 (fun _ => true) true n 25 (List.take (Tryd.prog.cellsOf 25) (List.drop 4 cs)) = some y4 := hall 4 _ rfl
    rw [cellsSE] at g0
    rw [cellsSL] at g1
    rw [cellsSI] at g2
    rw [cellsSSI] at g3
    rw [cellsSSL] at g4
    obtain ⟨ae, l, ce, e0, s0, p0, _, n0, m0, l0⟩ := open_sl ev0 Tryd.underlying37 cellsEvo (by decide) evL (fun _ => rfl) (fun _ : EV => True) open_ev1 g0
    obtain ⟨av, nv, cv, e1, l1⟩ := open_len Tryd.underlying26 g1
    obtain ⟨af, fr, cf, e2, s2, p2, _, n2, m2, l2⟩ := open_sl 0 Tryd.underlying48 cells3o (by decide) intE (fun _ => rfl) (fun g : Int => -9223372036854775808 ≤ g ∧ g ≤ 9223372036854775807) open_int1 g2
    obtain ⟨ao, xo, co, e3, s3, p3, _, n3, m3, l3⟩ := open_sl (none, 0, []) Tryd.underlying49 cellsSI (by decide) rowE (fun _ => rfl) (RowP W intE) (open_row 0 Tryd.underlying48 cells3o (by decide) intE (fun _ => rfl) (fun g : Int => -9223372036854775808 ≤ g ∧ g ≤ 9223372036854775807) open_int1) g3
    obtain ⟨ar, nr, cr, e4, l4⟩ := open_len Tryd.underlying25 g4
    refine ⟨l, fr, xo.map (·.2.2), ae, af, ao, ce, cf, co, ⟨hcl, ⟨ae, ce, af, cf, ao, co, take_one e0, take_one e2, ?_, m2, s2, rows_of s3 p3 n3⟩, ?_, by omega, by omega, by rw [List.length_map]; omega, fun l hl => ?_⟩, take_one e0, take_one e2, ?_, s0, s2, ?_⟩
    · rw [List.length_map]; exact take_one e3
    · intro v hv
      obtain ⟨i, hi⟩ := List.getElem?_of_mem hv
      have hi5 : i < 5 := by have := (List.getElem?_eq_some_iff.1 hi).1; omega
      have f0 := take_one e0
      have f1 := take_one e1
      have f2 := take_one e2
      have f3 := take_one e3
      have f4 := take_one e4
      rcases (show i = 0 ∨ i = 1 ∨ i = 2 ∨ i = 3 ∨ i = 4 by omega) with rfl | rfl | rfl | rfl | rfl
      · rw [f0] at hi; cases hi; rfl
      · rw [f1] at hi; cases hi; rfl
      · rw [f2] at hi; cases hi; rfl
      · rw [f3] at hi; cases hi; rfl
      · rw [f4] at hi; cases hi; rfl
    · obtain ⟨g, hg, rfl⟩ := List.mem_map.1 hl
      exact (p3 g hg).2.2
    · rw [List.length_map]; exact take_one e3
    · exact rows_of s3 p3 n3
end
end Go.Proofs.YtdjlfpkemdiadaaDoor.Ex
/- A picture's execution as an argument. -/
namespace Go.Proofs.YtdjlfpkemdiadaaDoor.Ex
open Go.Proofs.YtdjlfpkemdiadaaDoor Go.ChangeShapes Go.WideShapes Go.ChangeAt Go.RowKit M
set_option linter.unusedSimpArgs false
set_option linter.unusedVariables false

theorem cells2o : Tryd.prog.cellsOf 2 = 1 := by kernel_rfl
theorem ev_N {k0 k1 k2 k3 : Int} {k4 : Bool} (h1 : (Lit.int .i64 k1).wf = true) (h2 : (Lit.int .i64 k2).wf = true) : EvN ⟨k0, k1, k2, k3, k4⟩ := by
  have b1 : (decide (IntKind.i64.min ≤ k1) && decide (k1 ≤ IntKind.i64.max)) = true := h1
  have b2 : (decide (IntKind.i64.min ≤ k2) && decide (k2 ≤ IntKind.i64.max)) = true := h2
  rw [Bool.and_eq_true, decide_eq_true_iff, decide_eq_true_iff] at b1 b2
  have m : IntKind.i64.min = -9223372036854775808 := by decide
  have M : IntKind.i64.max = 9223372036854775807 := by decide
  show -9223372036854775808 ≤ k1 ∧ k1 ≤ 9223372036854775807 ∧ -9223372036854775808 ≤ k2 ∧ k2 ≤ 9223372036854775807
  omega
section
variable {H : Type} {enc : TypeId × Value → H} {W : World}
theorem open_ev2 (fuel : Nat) (cs : List Value) (x : DataW H × List MemPlace) (h : DataW.trod enc Tryd.prog W 0 (fun _ => true) true fuel 46 cs = some x) : ∃ g : EV, cs = evL g ∧ EvN g := by
  obtain ⟨ys, n, _, hx, hcl, hyl, hall⟩ := DataW.trod_struct Tryd.underlying46 h
  rw [cellsEvo] at hcl
  match ys, hyl, hx, hall with
  | [y0, y1, y2, y3, y4], _, hx, hall =>
    have g0 : DataW.trod enc Tryd.prog W 0 (fun _ => true) true n 3 (List.take (Tryd.prog.cellsOf 3) (List.drop 0 cs)) = some y0 := hall 0 _ rfl
    have g1 : DataW.trod enc Tryd.prog W 0 (fun _ => true) true n 3 (List.take (Tryd.prog.cellsOf 3) (List.drop 1 cs)) = some y1 := hall 1 _ rfl
    have g2 : DataW.trod enc Tryd.prog W 0 (fun _ => true) true n 3 (List.take (Tryd.prog.cellsOf 3) (List.drop 2 cs)) = some y2 := hall 2 _ rfl
    have g3 : DataW.trod enc Tryd.prog W 0 (fun _ => true) true n 3 (List.take (Tryd.prog.cellsOf 3) (List.drop 3 cs)) = some y3 := hall 3 _ rfl
    have g4 : DataW.trod enc Tryd.prog W 0 (fun _ => true) true n 4 (List.take (Tryd.prog.cellsOf 4) (List.drop 4 cs)) = some y4 := hall 4 _ rfl
    rw [cells3o] at g0 g1 g2 g3
    rw [cells4o] at g4
    obtain ⟨k0, e0, _, _⟩ := DataW.trod_int Tryd.underlying3 g0
    obtain ⟨k1, e1, _, w1⟩ := DataW.trod_int Tryd.underlying3 g1
    obtain ⟨k2, e2, _, w2⟩ := DataW.trod_int Tryd.underlying3 g2
    obtain ⟨k3, e3, _, _⟩ := DataW.trod_int Tryd.underlying3 g3
    obtain ⟨k4, e4, _⟩ := DataW.trod_bool Tryd.underlying4 g4
    exact ⟨⟨k0, k1, k2, k3, k4⟩, list5 hcl (take_one e0) (take_one e1) (take_one e2) (take_one e3) (take_one e4), ev_N w1 w2⟩
theorem open_i64 (fuel : Nat) (cs : List Value) (x : DataW H × List MemPlace) (h : DataW.trod enc Tryd.prog W 0 (fun _ => true) true fuel 2 cs = some x) : ∃ g : Int, cs = intE g ∧ (-9223372036854775808 ≤ g ∧ g ≤ 9223372036854775807) := by
  obtain ⟨k, e0, _, hw⟩ := DataW.trod_int Tryd.underlying2 h
  have hb := bounds_i64 hw
  exact ⟨k, e0, by omega, by omega⟩
theorem open_exD (fuel : Nat) (cs : List Value) (x : DataW H × List MemPlace) (h : DataW.trod enc Tryd.prog W 0 (fun _ => true) true fuel 51 cs = some x) :
    ∃ (l : List EV) (fr : List Int) (od : List (List Int)) (vs : List Int) (ae av : Option Addr) (ce cv : Nat), XE W cs l.length fr od ∧ cs[0]? = some (.slice ae l.length ce) ∧ cs[1]? = some (.slice av vs.length cv) ∧ Seg W ae (l.flatMap evL) ∧ Seg W av (vs.flatMap intE) ∧ (∀ e ∈ l, EvN e) ∧ Vals64 vs ∧ vs.length ≤ 9223372036854775807 := by
  obtain ⟨ys, n, _, hx, hcl, hyl, hall⟩ := DataW.trod_struct Tryd.underlying51 h
  rw [cellsEx] at hcl
  match ys, hyl, hx, hall with
  | [y0, y1, y2, y3, y4], _, hx, hall =>
    have g0 : DataW.trod enc Tryd.prog W 0 (fun _ => true) true n 37 (List.take (Tryd.prog.cellsOf 37) (List.drop 0 cs)) = some y0 := hall 0 _ rfl
    have g1 : DataW.trod enc Tryd.prog W 0 (fun _ => true) true n 26 (List.take (Tryd.prog.cellsOf 26) (List.drop 1 cs)) = some y1 := hall 1 _ rfl
    have g2 : DataW.trod enc Tryd.prog W 0 (fun _ => true) true n 48 (List.take (Tryd.prog.cellsOf 48) (List.drop 2 cs)) = some y2 := hall 2 _ rfl
    have g3 : DataW.trod enc Tryd.prog W 0 (fun _ => true) true n 49 (List.take (Tryd.prog.cellsOf 49) (List.drop 3 cs)) = some y3 := hall 3 _ rfl
    have g4 : DataW.trod enc Tryd.prog W 0 (fun _ => true) true n 25 (List.take (Tryd.prog.cellsOf 25) (List.drop 4 cs)) = some y4 := hall 4 _ rfl
    rw [cellsSE] at g0
    rw [cellsSL] at g1
    rw [cellsSI] at g2
    rw [cellsSSI] at g3
    rw [cellsSSL] at g4
    obtain ⟨ae, l, ce, e0, s0, p0, _, n0, m0, l0⟩ := open_sl ev0 Tryd.underlying37 cellsEvo (by decide) evL (fun _ => rfl) EvN open_ev2 g0
    obtain ⟨av, vs, cv, e1, s1, p1, _, n1, m1, l1⟩ := open_sl 0 Tryd.underlying26 cells2o (by decide) intE (fun _ => rfl) (fun g : Int => -9223372036854775808 ≤ g ∧ g ≤ 9223372036854775807) open_i64 g1
    obtain ⟨af, fr, cf, e2, s2, p2, _, n2, m2, l2⟩ := open_sl 0 Tryd.underlying48 cells3o (by decide) intE (fun _ => rfl) (fun g : Int => -9223372036854775808 ≤ g ∧ g ≤ 9223372036854775807) open_int1 g2
    obtain ⟨ao, xo, co, e3, s3, p3, _, n3, m3, l3⟩ := open_sl (none, 0, []) Tryd.underlying49 cellsSI (by decide) rowE (fun _ => rfl) (RowP W intE) (open_row 0 Tryd.underlying48 cells3o (by decide) intE (fun _ => rfl) (fun g : Int => -9223372036854775808 ≤ g ∧ g ≤ 9223372036854775807) open_int1) g3
    obtain ⟨ar, nr, cr, e4, l4⟩ := open_len Tryd.underlying25 g4
    refine ⟨l, fr, xo.map (·.2.2), vs, ae, av, ce, cv, ⟨hcl, ⟨ae, ce, af, cf, ao, co, take_one e0, take_one e2, ?_, m2, s2, rows_of s3 p3 n3⟩, ?_, by omega, by omega, by rw [List.length_map]; omega, fun l hl => ?_⟩, take_one e0, take_one e1, s0, s1, p0, p1, by omega⟩
    · rw [List.length_map]; exact take_one e3
    · intro v hv
      obtain ⟨i, hi⟩ := List.getElem?_of_mem hv
      have hi5 : i < 5 := by have := (List.getElem?_eq_some_iff.1 hi).1; omega
      have f0 := take_one e0
      have f1 := take_one e1
      have f2 := take_one e2
      have f3 := take_one e3
      have f4 := take_one e4
      rcases (show i = 0 ∨ i = 1 ∨ i = 2 ∨ i = 3 ∨ i = 4 by omega) with rfl | rfl | rfl | rfl | rfl
      · rw [f0] at hi; cases hi; rfl
      · rw [f1] at hi; cases hi; rfl
      · rw [f2] at hi; cases hi; rfl
      · rw [f3] at hi; cases hi; rfl
      · rw [f4] at hi; cases hi; rfl
    · obtain ⟨g, hg, rfl⟩ := List.mem_map.1 hl
      exact (p3 g hg).2.2
end
end Go.Proofs.YtdjlfpkemdiadaaDoor.Ex
/- EventDots, the tied card of the second form: for every program and every execution that hold, their texts' letters and all, at most 1048576 values the law returns true and leaves its arguments as they were, where the library's tables that the row lists hold at the call what the program's text lays there. -/
namespace Go.Proofs.YtdjlfpkemdiadaaDoor
open Go.ChangeShapes Go.WideShapes Go.ChangeAt Go.RowKit M
set_option linter.unusedSimpArgs false
set_option linter.unusedVariables false

theorem tab_of_laidD {W : World} (h : laidMetH Tryd.prog Rows.eventDotsUptoRow.laid W) : TabAt W := by
  rw [MakeChecks.laidMetH_plain _ _ _ (by kernel_rfl)] at h
  exact tab_of_met (laidMet.tail h)
theorem ten_of_laidD {W : World} (h : laidMetH Tryd.prog Rows.eventDotsUptoRow.laid W) : Tab10 W := by
  rw [MakeChecks.laidMetH_plain _ _ _ (by kernel_rfl)] at h
  exact ten_of_met (laidMet.tail (laidMet.tail h))
set_option maxRecDepth 100000 in
set_option maxHeartbeats 800000 in
theorem contractD (H : Type) (enc : TypeId × Value → H) (W : World) (base : Nat) (args : Array Value) (ds gs : List (DataW H)) (before : List MemPlace)
    (hval0 : ∀ (j : Nat) t v, Tryd.f5.params[j]? = some t → args[j]? = some v → Value.okWide Tryd.prog W .any base t v)
    (hW : DataW.Whole enc Tryd.prog Tryd.f5.params.toList Rows.eventDotsSpec.vars false W args.toList ds gs before) (hk : Rows.uptoSmall H (ds ++ gs) = true) (hL : laidMetH Tryd.prog Rows.eventDotsUptoRow.laid W) :
    Calls Tryd.prog 5 args W fun e W' => ∃ v, e = .returned v ∧ Rows.eventDotsSpec.post enc Tryd.prog Tryd.f5 false true false false W args v W' := by
  have hval : ∀ (j : Nat) t v, Tryd.f5.params[j]? = some t → args[j]? = some v → Value.okWide Tryd.prog W .any base t v := hval0
  have hW' := hW
  obtain ⟨p, q, hA0, hV, rfl, hfz, hnd⟩ := hW
  have hA : DataW.TrodAll enc Tryd.prog W 0 (fun _ => true) true Tryd.f5.params.toList args.toList ds p := hA0
  rw [Tryd.params5] at hA hval
  obtain ⟨v0, vs0, d0, ds0, p0, q0, hargs, rfl, rfl, h0, r0⟩ := trodAll_cons hA
  obtain ⟨v1, vs1, d1, ds1, p1, q1, rfl, rfl, rfl, h1, r1⟩ := trodAll_cons r0
  obtain ⟨rfl, rfl, rfl⟩ := trodAll_nil r1
  obtain rfl : args = #[v0, v1] := by cases args; simp_all
  obtain ⟨rfl, rfl⟩ := trodVars_none hV
  obtain ⟨c0, rfl, _⟩ := okWide_struct Tryd.underlying28 (hval 0 28 v0 rfl rfl)
  obtain ⟨c1, rfl, _⟩ := okWide_struct Tryd.underlying51 (hval 1 51 v1 rfl rfl)
  have k0 := h0
  have k1 := h1
  have lt1 : ∀ x ∈ p1, x.block < W.heap.size := by obtain ⟨m, hm⟩ := k1; exact DataW.trod_lt m _ _ _ hm
  have lt0 : ∀ x ∈ p0, x.block < W.heap.size := by obtain ⟨m, hm⟩ := k0; exact DataW.trod_lt m _ _ _ hm
  simp only [List.append_nil] at hk
  have hbk : Rows.uptoBulk d0 ≤ 1048576 := by
    have h := of_decide_eq_true hk
    simp only [Rows.uptoBulkAll] at h
    omega
  have hTab := ten_of_laidD hL
  have hTb := tab_of_laidD hL
  have fin : Calls Tryd.prog 5 #[.agg c0, .agg c1] W fun e w' => e = .returned (.bool true) ∧ Below W.heap.size W w' := by
    obtain ⟨fu, hf⟩ := h0
    obtain ⟨pg, vt, vr, vl, vi, vj, e0, few, hp, hsz⟩ := open_pg _ _ _ hbk hf
    have e0' : c0 = #[vt, vr, vl, vi, vj] := by simp [Value.cells] at e0; rw [← Array.toArray_toList (xs := c0), e0]
    rw [e0']
    obtain ⟨fu1, hf1⟩ := h1
    have e1 : (Value.agg c1).cells.toList = c1.toList := by simp [Value.cells]
    rw [e1] at hf1
    obtain ⟨l, fr, od, vs, ae, av, ce, cv, hX, x0, x1, hE, hV, hN, hv64, hvl⟩ := Ex.open_exD _ _ _ hf1
    have := eventDots_any pg hsz vt vr vl vi vj _ ae av ce cv l fr od vs W hp hX x0 x1 hE hV hN hv64 hvl hTb hTab
    rwa [Array.toArray_toList] at this
  clear hA0 hval0
  refine fin.mono fun e W' ⟨he, bel⟩ => ?_
  subst he
  exact ⟨_, rfl, _, _, _, [], _, [], hW', trodAll_mk1 (shut_bool Tryd.underlying4 _), (trodAll_cons_mk (Below.trod laidOut (by kernel_rfl) (of_decide_eq_true (by kernel_rfl)) k0 bel lt0) (trodAll_cons_mk (Below.trod laidOut (by kernel_rfl) (of_decide_eq_true (by kernel_rfl)) k1 bel lt1) trodAll_mk0)), rfl, bel.frame _, fun h => by cases h⟩

theorem door_metD (os : Os) (args : Array Value) : laidMet Tryd.prog Rows.eventDotsUptoRow.laid ((World.doorLaid Tryd.prog 400 os).forCall (fun _ _ => 0) ⟨#[], args, []⟩).memory :=
  laidMet_of_run' 8 (by kernel_rfl) (by kernel_rfl)
theorem readsD (os : Os) {H : Type} (enc : TypeId × Value → H) : ∃ places, DataW.whole enc Tryd.prog ((World.doorLaid Tryd.prog 400 os).forCall (fun _ _ => 0) ⟨#[], #[.agg #[.slice none 0 0, .slice none 0 0, .slice none 0 0, .slice none 0 0, .slice none 0 0], .agg #[.slice none 0 0, .slice none 0 0, .slice none 0 0, .slice none 0 0, .slice none 0 0]], []⟩).memory Tryd.f5.params.toList Rows.eventDotsSpec.vars false #[Value.agg #[.slice none 0 0, .slice none 0 0, .slice none 0 0, .slice none 0 0, .slice none 0 0], .agg #[.slice none 0 0, .slice none 0 0, .slice none 0 0, .slice none 0 0, .slice none 0 0]].toList 8 = some ([.agg [.nil, .nil, .nil, .nil, .nil], .agg [.nil, .nil, .nil, .nil, .nil]], [], places) :=
  ⟨[], by kernel_rfl⟩
set_option maxRecDepth 100000 in
theorem liftedUptoD (os : Os) (started : os.Started) (H : Type) (enc : TypeId × Value → H) (F : Stop.Interp) :
    ReturnsInHanded {} Tryd.checked os 5 .any ((Rows.OpenSpec.upto Rows.eventDotsSpec).preRow enc Tryd.prog Tryd.f5 Rows.eventDotsUptoRow.domain false Rows.eventDotsUptoRow.laid) (((Rows.OpenSpec.upto Rows.eventDotsSpec).at F).post enc Tryd.prog Tryd.f5 false true false false) := by
  obtain ⟨places, hx⟩ := readsD os enc
  refine returnsInHanded_of_row (C := Tryd.checked) (s := Rows.OpenSpec.upto Rows.eventDotsSpec) own started (by kernel_rfl) Tryd.func5
    (witness_row_at (enc := enc) (C := Tryd.checked) false (World.doorLaid Tryd.prog 400 os) #[.agg #[.slice none 0 0, .slice none 0 0, .slice none 0 0, .slice none 0 0, .slice none 0 0], .agg #[.slice none 0 0, .slice none 0 0, .slice none 0 0, .slice none 0 0, .slice none 0 0]] rfl (by kernel_rfl) (by kernel_rfl) (by kernel_rfl)
      (OpenSpec.preRow_of_cond 8 hx (by kernel_rfl) (fun k hk => by cases hk; kernel_rfl) (by kernel_rfl) (door_metD os _))) ?_
  intro W base args ds gs before hval hW _ hcond _ hL _ _
  exact contractD H enc W base args ds gs before hval hW (hcond _ rfl) hL
theorem saidUptoD : Rows.EventDotsUptoSaid :=
  OpenClaim.holds_of_cond 5 Tryd.f5 rfl rfl rfl rfl rfl rfl rfl ⟨rfl, rfl, rfl, rfl, rfl⟩ rfl rfl rfl rfl rfl (by kernel_rfl) Tryd.func5 (by kernel_rfl)
    (of_decide_eq_true (by kernel_rfl)) (by unfold Func.isWrapper; first | (rw [if_pos (by decide +kernel)]; kernel_rfl) | (rw [if_neg (by decide +kernel)]; exact ⟨rfl, rfl⟩))
    (fun os started H enc _ F => by rw [OpenClaim.pre_eq_preRow]; exact liftedUptoD os started H enc F)
theorem plainD (f : FuncId) (fn : Func) (hf : Tryd.pinned.checked.prog.funcNamed "weir/weirlaw17.EventDots" = some f) (hfn : Tryd.pinned.checked.prog.funcs[f]? = some fn) :
    false = Tryd.pinned.checked.prog.looks [] ∧ ∀ (j : Nat) t, fn.params[j]? = some t → Tryd.pinned.checked.prog.wantsStandIn t = false := by
  obtain rfl : f = 5 := Option.some.inj ((show Tryd.prog.funcNamed "weir/weirlaw17.EventDots" = some 5 by kernel_rfl).symm.trans hf) |>.symm
  obtain rfl : fn = Tryd.f5 := (Option.some.inj (Tryd.func5.symm.trans hfn)).symm
  refine ⟨by kernel_rfl, fun j t ht => ?_⟩
  rw [Tryd.params5] at ht
  have hm : t ∈ [28, 51] := by simpa using Array.mem_of_getElem? ht
  have hall : ([28, 51].all fun u => !Tryd.prog.wantsStandIn u) = true := by kernel_rfl
  exact (show Tryd.prog.wantsStandIn t = false by simpa using List.all_eq_true.1 hall t hm)
theorem eventDots_holds : Rows.EventDotsUptoCardSaid :=
  Claim7.holds_tied_plain_at .later [] _ _ _ _ saidUptoD (fun _ h => by cases h) (by kernel_rfl) (fun _ h => by cases h) eventDotsUpto_row_tie rfl ⟨rfl, rfl⟩ (by kernel_rfl) rfl plainD (by kernel_rfl)
#print axioms eventDots_holds
end Go.Proofs.YtdjlfpkemdiadaaDoor
