/- The spaces: how they are made, and how many lists they have. -/
import Derived.Test.YtghfomammdbgoaaP1
import Derived.Shelf.Abstract
namespace Go.Proofs.Ytghfomammdbgoaa
open Go.RowKit K Go.Joins
set_option linter.unusedSimpArgs false
set_option linter.unusedVariables false

theorem msize_o (v : Value) (w : World) : (method 256 85 v "weir/odo.size").run Try.prog w = .ok (80, v) w := by kernel_rfl
theorem msize_p (v : Value) (w : World) : (method 256 83 v "weir/odo.size").run Try.prog w = .ok (65, v) w := by kernel_rfl
theorem msize_w (v : Value) (w : World) : (method 256 86 v "weir/odo.size").run Try.prog w = .ok (113, v) w := by kernel_rfl

/-- What Len answers. -/
def lenV (m : Nat) : Value := if m < 18446744073709551616 then .tuple #[.int .u64 (m : Nat), .int .i64 0] else .tuple #[.int .u64 0, .int .i64 30]

set_option maxRecDepth 100000 in
set_option maxHeartbeats 1000000 in
/-- Len, of a kind whose own count is known. -/
theorem len_of (t f : Nat) (v : Value) (b : Nat) (w : World) (m : Nat) (hm : ∀ w, (method 256 t v "weir/odo.size").run Try.prog w = .ok (f, v) w) (he : ∀ args w, (callFunc f args).run Try.prog w = .ok (.enter f args) w) (h : w.cell? ⟨b, 0, none⟩ = some (.iface t v)) (c : Calls Try.prog f #[v] w fun e w' => e = .returned (scV m) ∧ Below w.heap.size w w') :
    Calls Try.prog 9 #[.pointer (some ⟨b, 0, none⟩)] w fun e w' => e = .returned (lenV m) ∧ Below w.heap.size w w' := by
  by_cases h1 : m < 18446744073709551616
  · rw [scV, if_pos h1] at c
    have E : Hid (lenV m = .tuple #[.int .u64 (m : Nat), .int .i64 0]) := if_pos h1
    go_enter Try.func9, Try.ntmps9
    go_wp2_with (go_at_fn f; refine c.mono ?_; rintro e w2 ⟨rfl, hB⟩)
    go_ret2
    exact ⟨congrArg Ending.returned E.out.symm, hB⟩
  · rw [scV, if_neg h1] at c
    have E : Hid (lenV m = .tuple #[.int .u64 0, .int .i64 30]) := if_neg h1
    go_enter Try.func9, Try.ntmps9
    go_wp2_with (go_at_fn f; refine c.mono ?_; rintro e w2 ⟨rfl, hB⟩)
    go_ret2
    exact ⟨congrArg Ending.returned E.out.symm, hB⟩

theorem cell_below {w W : World} {b : Nat} {v : Value} (h : w.cell? ⟨b, 0, none⟩ = some v) (hb : Below w.heap.size w W) : W.cell? ⟨b, 0, none⟩ = some v :=
  (hb.cell (p := ⟨b, 0, none⟩) (World.block_lt_of_cell? w _ h)).trans h

/-- A product's space lies there. -/
structure IsP (w : World) (b : Nat) (l : List Nat) : Prop where
  cell : ∃ a cap, w.cell? ⟨b, 0, none⟩ = some (.iface 83 (.slice a l.length cap)) ∧ Nums w a (zsOf l)
  len : l.length ≤ 64
  small : ∀ n ∈ l, n < 9223372036854775808
/-- The space of the orders of n lies there. -/
structure IsO (w : World) (b : Nat) (n : Nat) : Prop where
  cell : w.cell? ⟨b, 0, none⟩ = some (.iface 85 (.int .i64 n))
  small : n ≤ 64
/-- A space of weaves lies there. -/
structure IsW (w : World) (b : Nat) (l : List Nat) : Prop where
  cell : ∃ a cap, w.cell? ⟨b, 0, none⟩ = some (.iface 86 (.slice a l.length cap)) ∧ Nums w a (zsOf l)
  len : l.length ≤ 64
  small : sumN l ≤ 64
theorem IsP.below {w W : World} {b : Nat} {l : List Nat} (h : IsP w b l) (hb : Below w.heap.size w W) : IsP W b l := by
  obtain ⟨a, cap, h1, h2⟩ := h.cell
  exact ⟨⟨a, cap, cell_below h1 hb, h2.below hb⟩, h.len, h.small⟩
theorem IsO.below {w W : World} {b n : Nat} (h : IsO w b n) (hb : Below w.heap.size w W) : IsO W b n := ⟨cell_below h.cell hb, h.small⟩
theorem IsW.below {w W : World} {b : Nat} {l : List Nat} (h : IsW w b l) (hb : Below w.heap.size w W) : IsW W b l := by
  obtain ⟨a, cap, h1, h2⟩ := h.cell
  exact ⟨⟨a, cap, cell_below h1 hb, h2.below hb⟩, h.len, h.small⟩

theorem plen {w : World} {b : Nat} {l : List Nat} (h : IsP w b l) :
    Calls Try.prog 9 #[.pointer (some ⟨b, 0, none⟩)] w fun e w' => e = .returned (lenV (prodN l)) ∧ Below w.heap.size w w' := by
  obtain ⟨a, cap, h1, h2⟩ := h.cell
  exact len_of 83 65 _ b w _ (msize_p _) (enters_of Try.func65 (by kernel_rfl) rfl) h1 (psize_any a cap l w h2 h.len h.small)
theorem olen {w : World} {b n : Nat} (h : IsO w b n) :
    Calls Try.prog 9 #[.pointer (some ⟨b, 0, none⟩)] w fun e w' => e = .returned (lenV (factN n)) ∧ Below w.heap.size w w' :=
  len_of 85 80 _ b w _ (msize_o _) (enters_of Try.func80 (by kernel_rfl) rfl) h.cell (osize_any n w h.small)
theorem wlen {w : World} {b : Nat} {l : List Nat} (h : IsW w b l) (hs : ScaleAt l) :
    Calls Try.prog 9 #[.pointer (some ⟨b, 0, none⟩)] w fun e w' => e = .returned (lenV (wvN 0 l)) ∧ Below w.heap.size w w' := by
  obtain ⟨a, cap, h1, h2⟩ := h.cell
  exact len_of 86 113 _ b w _ (msize_w _) (enters_of Try.func113 (by kernel_rfl) rfl) h1 (wsize_any a cap l w h2 h.len h.small hs)

theorem negs_nat (l : List Nat) : negs (zsOf l) = false := by
  unfold negs
  rw [List.any_eq_false]
  intro z hz
  simp only [zsOf, List.mem_map] at hz
  obtain ⟨n, _, rfl⟩ := hz
  simp
theorem chk_nat (l : List Nat) (h : l.length ≤ 64) : chkE (zsOf l) = 0 := by
  unfold chkE
  rw [if_neg (by rw [zsOf_len]; omega), negs_nat]
  rfl

set_option maxRecDepth 100000 in
set_option maxHeartbeats 1000000 in
theorem product_ok (a : Option Addr) (cap : Nat) (l : List Nat) (w : World) (hN : Nums w a (zsOf l)) (ha : a = none → l = []) (hl : l.length ≤ 64) (hx : ∀ n ∈ l, n < 9223372036854775808) :
    Calls Try.prog 22 #[.slice a l.length cap] w fun e w' => (∃ b, e = .returned (.tuple #[.pointer (some ⟨b, 0, none⟩), .int .i64 0]) ∧ IsP w' b l) ∧ Below w.heap.size w w' := by
  have c1 := check_any a cap (zsOf l) w hN (by rw [zsOf_len]; omega)
  have c2 := clone_any a cap (zsOf l) w hN (fun e => by rw [ha e]; rfl) (by rw [zsOf_len]; omega)
  rw [chk_nat l hl] at c1
  rw [zsOf_len] at c1 c2
  have HX : Hid (∀ n ∈ l, n < 9223372036854775808) := hx
  clear hN ha hx
  go_enter Try.func22, Try.ntmps22
  go_wp2_with (first
    | (go_at_call 36; refine c1.mono ?_; rintro e w' ⟨rfl, hw'⟩; replace hw' := hw'.symm; subst hw')
    | (go_at_call 37; refine c2.mono ?_; rintro e w2 ⟨⟨a', cap', rfl, hN'⟩, hB⟩))
  go_ret2
  have F := Fresh.alloc w2 (Obj.cells #[Value.iface 83 (Value.slice a' l.length cap')] 67)
  refine ⟨⟨w2.heap.size, rfl, ⟨a', cap', ?_, hN'.below F.below⟩, hl, HX.out⟩, Below.then hB F.below⟩
  rw [World.cell?_alloc_at _ _ _ _ rfl]
  rfl

set_option maxRecDepth 100000 in
theorem product_bad (a : Option Addr) (cap : Nat) (zs : List Int) (w : World) (hN : Nums w a zs) (hl : zs.length ≤ 1152921504606846976) (hc : chkE zs ≠ 0) :
    Calls Try.prog 22 #[.slice a zs.length cap] w fun e w' => e = .returned (.tuple #[.pointer none, .int .i64 (chkE zs)]) ∧ w' = w := by
  have c1 := check_any a cap zs w hN hl
  clear hN
  go_enter Try.func22, Try.ntmps22
  go_wp2_with (first
    | (go_at_call 36; refine c1.mono ?_; rintro e w' ⟨rfl, hw'⟩; replace hw' := hw'.symm; subst hw'))
  go_ret2
  exact ⟨rfl, rfl⟩

set_option maxRecDepth 100000 in
theorem orders_ok (n : Nat) (w : World) (hn : n ≤ 64) :
    Calls Try.prog 23 #[.int .i64 n] w fun e w' => (∃ b, e = .returned (.tuple #[.pointer (some ⟨b, 0, none⟩), .int .i64 0]) ∧ IsO w' b n) ∧ Below w.heap.size w w' := by
  go_enter Try.func23, Try.ntmps23
  go_wp2
  go_ret2
  have F := Fresh.alloc w (Obj.cells #[Value.iface 85 (Value.int .i64 n)] 67)
  refine ⟨⟨w.heap.size, rfl, ?_, hn⟩, F.below⟩
  rw [World.cell?_alloc_at _ _ _ _ rfl]
  rfl
set_option maxRecDepth 100000 in
theorem orders_bad (n : Int) (w : World) (hn : ¬ (0 ≤ n ∧ n ≤ 64)) :
    Calls Try.prog 23 #[.int .i64 n] w fun e w' => e = .returned (.tuple #[.pointer none, .int .i64 4]) ∧ w' = w := by
  by_cases h : n < 0
  · go_enter Try.func23, Try.ntmps23
    go_wp2
    go_ret2
    exact ⟨rfl, rfl⟩
  · have h2 : 64 < n := by omega
    go_enter Try.func23, Try.ntmps23
    go_wp2
    go_ret2
    exact ⟨rfl, rfl⟩

set_option maxRecDepth 100000 in
set_option maxHeartbeats 1000000 in
theorem weaves_ok (a : Option Addr) (cap : Nat) (l : List Nat) (w : World) (hN : Nums w a (zsOf l)) (ha : a = none → l = []) (hl : l.length ≤ 64) (hx : sumN l ≤ 64) :
    Calls Try.prog 26 #[.slice a l.length cap] w fun e w' => (∃ b, e = .returned (.tuple #[.pointer (some ⟨b, 0, none⟩), .int .i64 0]) ∧ IsW w' b l) ∧ Below w.heap.size w w' := by
  have c1 := check_any a cap (zsOf l) w hN (by rw [zsOf_len]; omega)
  have c2 := clone_any a cap (zsOf l) w hN (fun e => by rw [ha e]; rfl) (by rw [zsOf_len]; omega)
  rw [chk_nat l hl] at c1
  rw [zsOf_len] at c1 c2
  have HN : Hid (Nums w a (zsOf l)) := hN
  have HX : Hid (sumN l ≤ 64) := hx
  clear hN ha hx
  go_enter Try.func26, Try.ntmps26
  go_wp2_with (first
    | (go_at_call 36; refine c1.mono ?_; rintro e w' ⟨rfl, hw'⟩; replace hw' := hw'.symm; subst hw'))
  clear c1
  go_loop [5, 15] (fun r i => ∃ k : Nat, k ≤ l.length ∧ i = .int .i64 k ∧ r = .int .i64 (64 - (sumN (l.take k) : Nat) : Int)) (fun _ i => l.length - (intOf i).toNat)
  case atStart => exact ⟨0, by omega, rfl, rfl⟩
  case round =>
    obtain ⟨k, hk, rfl, rfl⟩ := hrel
    by_cases hlt : k < l.length
    · obtain ⟨b, off, rfl, hc⟩ := HN.out k (by rw [zsOf_len]; exact hlt)
      rw [zsOf_getD] at hc
      have HS : Hid (sumN (l.take (k + 1)) = sumN (l.take k) + l.getD k 0) := (show sumN (l.take (k + 1)) = _ by rw [takeN_snoc l k hlt, sumN_snoc])
      have hss : sumN (l.take k) + l.getD k 0 ≤ 64 := by have := sumN_take_le l (k + 1); have h2 := HS.out; have h3 := HX.out; omega
      clear HN HX c2
      generalize l.getD k 0 = x at *
      obtain ⟨N, hN⟩ : ∃ N, sumN (l.take k) = N := ⟨_, rfl⟩
      rw [hN] at HS hss
      rw [hN]
      clear hN
      have h1 : ¬ ((64 : Int) - (N : Int) < (x : Int)) := by omega
      go_wp2
      go_round
      case rel => exact ⟨k + 1, by omega, by go_num, by have := HS.out; go_num⟩
      case measure => simp [intOf]; omega
    · obtain rfl : k = l.length := by omega
      rw [List.take_length] at *
      clear HN
      go_wp2_with (go_at_call 37; refine c2.mono ?_; rintro e w2 ⟨⟨a', cap', rfl, hN'⟩, hB⟩)
      go_ret2
      have F := Fresh.alloc w2 (Obj.cells #[Value.iface 86 (Value.slice a' l.length cap')] 67)
      refine ⟨⟨w2.heap.size, rfl, ⟨a', cap', ?_, hN'.below F.below⟩, hl, HX.out⟩, Below.then hB F.below⟩
      rw [World.cell?_alloc_at _ _ _ _ rfl]
      rfl
end Go.Proofs.Ytghfomammdbgoaa
