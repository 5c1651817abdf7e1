/- At and Rank of a space, out of what its kind does. -/
import Derived.Test.YtghfomammdbgoaaA2
import Derived.Test.YtghfomammdbgoaaA3
namespace Go.Proofs.Ytghfomammdbgoaa
open Go.RowKit Go.Shelf K
set_option linter.unusedSimpArgs false
set_option linter.unusedVariables false

set_option maxRecDepth 100000 in
set_option maxHeartbeats 1000000 in
theorem at_ok (t f : Nat) (v : Value) (b : Nat) (w : World) (m n : Nat) (R : Value → World → Prop) (hm : ∀ w, (method 256 t v "weir/odo.at").run Try.prog w = .ok (f, v) w) (he : ∀ args w, (callFunc f args).run Try.prog w = .ok (.enter f args) w) (h : w.cell? ⟨b, 0, none⟩ = some (.iface t v))
    (hlen : Calls Try.prog 9 #[.pointer (some ⟨b, 0, none⟩)] w fun e w' => e = .returned (lenV m) ∧ Below w.heap.size w w') (h64 : m < 18446744073709551616) (hn : n < m)
    (c : Hid (∀ W, Below w.heap.size w W → Calls Try.prog f #[v, .int .u64 n] W fun e w' => (∃ v', e = .returned v' ∧ R v' w') ∧ Below W.heap.size W w')) :
    Calls Try.prog 11 #[.pointer (some ⟨b, 0, none⟩), .int .u64 n] w fun e w' => (∃ v', e = .returned (.tuple #[v', .int .i64 0]) ∧ R v' w') ∧ Below w.heap.size w w' := by
  rw [lenV, if_pos h64] at hlen
  have HC : Hid (w.cell? ⟨b, 0, none⟩ = some (.iface t v)) := h
  clear h
  have hni : ¬ ((m : Int) ≤ (n : Int)) := by omega
  go_enter Try.func11, Try.ntmps11
  go_wp2_with (first
    | (go_at_call 9; refine hlen.mono ?_; rintro e w2 ⟨rfl, hB⟩; have hc2 := cell_below HC.out hB)
    | (go_at_fn f; refine (c.out _ hB).mono ?_; rintro e w3 ⟨⟨v', rfl, hR⟩, hB2⟩))
  go_ret2
  exact ⟨⟨v', rfl, hR⟩, Below.then hB hB2⟩

set_option maxRecDepth 100000 in
set_option maxHeartbeats 1000000 in
theorem at_long (b : Nat) (w : World) (m n : Nat) (hlen : Calls Try.prog 9 #[.pointer (some ⟨b, 0, none⟩)] w fun e w' => e = .returned (lenV m) ∧ Below w.heap.size w w') (h64 : m < 18446744073709551616) (hn : m ≤ n) :
    Calls Try.prog 11 #[.pointer (some ⟨b, 0, none⟩), .int .u64 n] w fun e w' => e = .returned (.tuple #[.slice none 0 0, .int .i64 3]) ∧ Below w.heap.size w w' := by
  rw [lenV, if_pos h64] at hlen
  have hni : (m : Int) ≤ (n : Int) := by omega
  go_enter Try.func11, Try.ntmps11
  go_wp2_with (first
    | (go_at_call 9; refine hlen.mono ?_; rintro e w2 ⟨rfl, hB⟩))
  go_ret2
  exact ⟨rfl, hB⟩

set_option maxRecDepth 100000 in
set_option maxHeartbeats 1000000 in
/-- Rank of a list that the space has. -/
theorem rank_ok (t f g : Nat) (v u : Value) (b : Nat) (w : World) (m r : Nat) (hm : ∀ w, (method 256 t v "weir/odo.has").run Try.prog w = .ok (f, v) w) (he : ∀ args w, (callFunc f args).run Try.prog w = .ok (.enter f args) w)
    (hm2 : ∀ w, (method 256 t v "weir/odo.rank").run Try.prog w = .ok (g, v) w) (he2 : ∀ args w, (callFunc g args).run Try.prog w = .ok (.enter g args) w) (hfg : f ≠ g) (h : w.cell? ⟨b, 0, none⟩ = some (.iface t v))
    (hlen : Calls Try.prog 9 #[.pointer (some ⟨b, 0, none⟩)] w fun e w' => e = .returned (lenV m) ∧ Below w.heap.size w w') (h64 : m < 18446744073709551616)
    (c : Hid (∀ W, Below w.heap.size w W → Calls Try.prog f #[v, u] W fun e w' => e = .returned (.bool true) ∧ Below W.heap.size W w'))
    (c2 : Hid (∀ W, Below w.heap.size w W → Calls Try.prog g #[v, u] W fun e w' => e = .returned (.int .u64 (r : Nat)) ∧ Below W.heap.size W w')) :
    Calls Try.prog 14 #[.pointer (some ⟨b, 0, none⟩), u] w fun e w' => e = .returned (.tuple #[.int .u64 (r : Nat), .int .i64 0]) ∧ Below w.heap.size w w' := by
  rw [lenV, if_pos h64] at hlen
  have HC : Hid (w.cell? ⟨b, 0, none⟩ = some (.iface t v)) := h
  clear h
  go_enter Try.func14, Try.ntmps14
  go_wp2_with (first
    | (go_at_call 9; refine hlen.mono ?_; rintro e w2 ⟨rfl, hB⟩; have hc2 := cell_below HC.out hB; clear hlen)
    | (go_at_fn f; refine (c.out _ hB).mono ?_; rintro e w3 ⟨rfl, hB2⟩; have hc3 := cell_below hc2 hB2; have hB3 := Below.then hB hB2; clear hc2)
    | (go_at_fn g; refine (c2.out _ hB3).mono ?_; rintro e w4 ⟨rfl, hB4⟩))
  go_ret2
  exact ⟨rfl, Below.then hB3 hB4⟩

set_option maxRecDepth 100000 in
set_option maxHeartbeats 1000000 in
/-- Rank of a list that the space has not. -/
theorem rank_none (t f : Nat) (v u : Value) (b : Nat) (w : World) (m : Nat) (hm : ∀ w, (method 256 t v "weir/odo.has").run Try.prog w = .ok (f, v) w) (he : ∀ args w, (callFunc f args).run Try.prog w = .ok (.enter f args) w)
    (h : w.cell? ⟨b, 0, none⟩ = some (.iface t v))
    (hlen : Calls Try.prog 9 #[.pointer (some ⟨b, 0, none⟩)] w fun e w' => e = .returned (lenV m) ∧ Below w.heap.size w w') (h64 : m < 18446744073709551616)
    (c : Hid (∀ W, Below w.heap.size w W → Calls Try.prog f #[v, u] W fun e w' => e = .returned (.bool false) ∧ Below W.heap.size W w')) :
    Calls Try.prog 14 #[.pointer (some ⟨b, 0, none⟩), u] w fun e w' => e = .returned (.tuple #[.int .u64 0, .int .i64 3]) ∧ Below w.heap.size w w' := by
  rw [lenV, if_pos h64] at hlen
  have HC : Hid (w.cell? ⟨b, 0, none⟩ = some (.iface t v)) := h
  clear h
  go_enter Try.func14, Try.ntmps14
  go_wp2_with (first
    | (go_at_call 9; refine hlen.mono ?_; rintro e w2 ⟨rfl, hB⟩; have hc2 := cell_below HC.out hB; clear hlen)
    | (go_at_fn f; refine (c.out _ hB).mono ?_; rintro e w3 ⟨rfl, hB2⟩))
  go_ret2
  exact ⟨rfl, Below.then hB hB2⟩

theorem mat_p (v : Value) (w : World) : (method 256 83 v "weir/odo.at").run Try.prog w = .ok (60, v) w := by kernel_rfl
theorem mhas_p (v : Value) (w : World) : (method 256 83 v "weir/odo.has").run Try.prog w = .ok (62, v) w := by kernel_rfl
theorem mrank_p (v : Value) (w : World) : (method 256 83 v "weir/odo.rank").run Try.prog w = .ok (64, v) w := by kernel_rfl

/-- A list in memory of its own. -/
def NewL (zs : List Int) (v : Value) (w : World) : Prop := ∃ b c, v = .slice (some ⟨b, 0, none⟩) zs.length c ∧ RowZ w b zs

theorem pAt {w : World} {b : Nat} {l : List Nat} (h : IsP w b l) (n : Nat) (h64 : prodN l < 18446744073709551616) (hn : n < prodN l) :
    Calls Try.prog 11 #[.pointer (some ⟨b, 0, none⟩), .int .u64 n] w fun e w' => (∃ v', e = .returned (.tuple #[v', .int .i64 0]) ∧ NewL (atP l n) v' w') ∧ Below w.heap.size w w' := by
  obtain ⟨a, cap, h1, h2⟩ := h.cell
  have h0 : 0 ∉ l := fun e => by rw [prodN_zero e] at hn; omega
  refine at_ok 83 60 _ b w (prodN l) n (NewL (atP l n)) (mat_p _) (enters_of Try.func60 (by kernel_rfl) rfl) h1 (plen h) h64 hn (fun W hW => ?_)
  refine (pat_any a cap l n W (h2.below hW) h.len (by omega) h0 h.small).mono ?_
  rintro e w' ⟨⟨b', c, rfl, hr⟩, hB⟩
  exact ⟨⟨_, rfl, b', c, by rw [atP_len], hr⟩, hB⟩

theorem pRank {w : World} {b : Nat} {l : List Nat} (h : IsP w b l) (h64 : prodN l < 18446744073709551616) (a2 : Option Addr) (cap2 : Nat) (zs : List Int) (hM : Nums w a2 zs) (hh : HasP l zs) :
    Calls Try.prog 14 #[.pointer (some ⟨b, 0, none⟩), .slice a2 zs.length cap2] w fun e w' => e = .returned (.tuple #[.int .u64 (rkP l zs l.length : Nat), .int .i64 0]) ∧ Below w.heap.size w w' := by
  obtain ⟨a, cap, h1, h2⟩ := h.cell
  refine rank_ok 83 62 64 _ _ b w (prodN l) _ (mhas_p _) (enters_of Try.func62 (by kernel_rfl) rfl) (mrank_p _) (enters_of Try.func64 (by kernel_rfl) rfl) (by decide) h1 (plen h) h64 (fun W hW => ?_) (fun W hW => ?_)
  · refine (phas_any a cap l a2 cap2 zs W (h2.below hW) (hM.below hW) h.len).mono ?_
    rintro e w' ⟨⟨r, rfl, hr⟩, rfl⟩
    rw [hr.2 hh]
    exact ⟨rfl, Below.refl _ _⟩
  · rw [hh.1]
    refine (prank_any a cap l a2 cap2 zs W (h2.below hW) (hM.below hW) h.len h.small h64 hh).mono ?_
    rintro e w' ⟨rfl, rfl⟩
    exact ⟨rfl, Below.refl _ _⟩

theorem pRank_none {w : World} {b : Nat} {l : List Nat} (h : IsP w b l) (h64 : prodN l < 18446744073709551616) (a2 : Option Addr) (cap2 : Nat) (zs : List Int) (hM : Nums w a2 zs) (hh : ¬ HasP l zs) :
    Calls Try.prog 14 #[.pointer (some ⟨b, 0, none⟩), .slice a2 zs.length cap2] w fun e w' => e = .returned (.tuple #[.int .u64 0, .int .i64 3]) ∧ Below w.heap.size w w' := by
  obtain ⟨a, cap, h1, h2⟩ := h.cell
  refine rank_none 83 62 _ _ b w (prodN l) (mhas_p _) (enters_of Try.func62 (by kernel_rfl) rfl) h1 (plen h) h64 (fun W hW => ?_)
  refine (phas_any a cap l a2 cap2 zs W (h2.below hW) (hM.below hW) h.len).mono ?_
  rintro e w' ⟨⟨r, rfl, hr⟩, rfl⟩
  have : r = false := by cases r; rfl; exact absurd (hr.1 rfl) hh
  rw [this]
  exact ⟨rfl, Below.refl _ _⟩

theorem Nums.drewN {w : World} {a : Option Addr} {zs : List Int} (h : Nums w a zs) (n : Nat) : Nums (w.drewN n) a zs := h.below (below_drewN (Below.refl _ _) n)

set_option maxHeartbeats 1000000 in
theorem same_any (a b : Option Addr) (c d : Nat) (zs : List Int) (w : World) (hA : Hid (Nums w a zs)) (hB : Hid (Nums w b zs)) (hl : zs.length ≤ 1152921504606846976) :
    Calls Try.prog 13 #[.slice a zs.length c, .slice b zs.length d] w fun e w' => e = .returned (.bool true) ∧ Below w.heap.size w w' := by
  refine mono_drew ?_
  go_enter Try.func13, Try.ntmps13
  go_wp2
  go_loopw [5] (fun i wr => ∃ k : Nat, k ≤ zs.length ∧ i = .int .i64 k ∧ ∃ n, wr = w.drewN n) (fun i _ => zs.length - (intOf i).toNat)
  case atStart => exact ⟨0, by omega, rfl, 0, rfl⟩
  case round =>
    obtain ⟨k, hk, rfl, n, rfl⟩ := hrel
    by_cases hlt : k < zs.length
    · obtain ⟨b1, o1, rfl, hc1⟩ := hA.out k hlt
      obtain ⟨b2, o2, rfl, hc2⟩ := hB.out k hlt
      clear hA hB
      generalize zs.getD k 0 = z at *
      go_wp2
      go_quiet (fail)
      go_wp2
      go_roundw
      case rel => exact ⟨k + 1, by omega, by go_num, _, rfl⟩
      case measure => simp [intOf]; omega
    · obtain rfl : k = zs.length := by omega
      go_wp2
      go_ret
      exact ⟨rfl, n, rfl⟩
end Go.Proofs.Ytghfomammdbgoaa
