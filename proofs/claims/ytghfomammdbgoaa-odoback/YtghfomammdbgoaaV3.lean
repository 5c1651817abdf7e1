/- Weaves: the first list; whether a list is one. -/
import Derived.Test.YtghfomammdbgoaaV2
namespace Go.Proofs.Ytghfomammdbgoaa
open Go.RowKit Go.Shelf Go.Sort K
set_option linter.unusedSimpArgs false
set_option linter.unusedVariables false

theorem fst_append : ∀ (c d : List Nat) (i : Nat), fstW i (c ++ d) = fstW i c ++ fstW (i + c.length) d
  | [], d, i => by simp [fstW]
  | x :: c, d, i => by rw [List.cons_append, fstW, fstW, fst_append c d (i + 1), List.append_assoc, List.length_cons, show i + 1 + c.length = i + (c.length + 1) by omega]
theorem fst_snoc (l : List Nat) (k : Nat) (h : k < l.length) : fstW 0 (l.take (k + 1)) = fstW 0 (l.take k) ++ List.replicate (l.getD k 0) (k : Int) := by
  rw [takeN_snoc l k h, fst_append, List.length_take, Nat.min_eq_left (by omega), Nat.zero_add]
  simp [fstW]
theorem intsZ_append (xs ys : List Int) : intsZ (xs ++ ys) = intsZ xs ++ intsZ ys := by simp [intsZ]

theorem own_below {W W' : World} {base n : Nat} {v : Value} {xs : List Value} (h : W.ownsRow base 3 1 v n xs) (hB : Below W.heap.size W W') : W'.ownsRow base 3 1 v n xs := by
  refine ⟨h.1, ?_⟩
  rcases h.2 with ⟨h1, h0⟩ | ⟨g, cap, cur, h1, hg, hh, rest⟩
  · exact .inl ⟨h1, h0⟩
  · exact .inr ⟨g, cap, cur, h1, hg, (hB.block g (Array.getElem?_eq_some_iff.1 hh).1).trans hh, rest⟩

set_option maxRecDepth 100000 in
set_option maxHeartbeats 1000000 in
theorem first_any (a : Option Addr) (cap : Nat) (l : List Nat) (w : World) (hN : Hid (Nums w a (zsOf l))) (hl : l.length ≤ 64) (hs : Hid (sumN l ≤ 64)) :
    Calls Try.prog 109 #[.slice a l.length cap] w fun e w' => (∃ v', e = .returned (.tuple #[v', .bool true]) ∧ OwnZ w' w.heap.size v' (fstW 0 l)) ∧ Below w.heap.size w w' := by
  obtain ⟨i0, hi, hz0, hz1, hz2⟩ := info_parts info3
  have HI : Hid (Try.prog.info? 3 = some i0 ∧ i0.zero = some (.int .i64 0) ∧ i0.size = 1 ∧ i0.bytes = 8) := ⟨hi, hz0, hz1, hz2⟩
  clear hi hz0 hz1 hz2
  go_enter Try.func109, Try.ntmps109
  go_wp2
  go_loopw [4, 9] (fun L i wr => ∃ k : Nat, k ≤ l.length ∧ i = .int .i64 k ∧ OwnZ wr w.heap.size L (fstW 0 (l.take k)) ∧ Hid (Below w.heap.size w wr)) (fun _ i _ => l.length - (intOf i).toNat)
  case atStart => exact ⟨0, by omega, rfl, World.ownsRow_nil _ _ _ _, Below.refl _ _⟩
  case round =>
    obtain ⟨k, hk, rfl, own, hB⟩ := hrel
    by_cases hlt : k < l.length
    · obtain ⟨b, off, rfl, hc⟩ := (hN.out.below hB.out) k (by rw [zsOf_len]; exact hlt)
      rw [zsOf_getD] at hc
      have hki : (k : Int) < (l.length : Int) := by omega
      have HF : Hid (fstW 0 (l.take (k + 1)) = fstW 0 (l.take k) ++ List.replicate (l.getD k 0) (k : Int)) := fst_snoc l k hlt
      have hlen1 : (fstW 0 (l.take k)).length = sumN (l.take k) := fst_len _ _
      have hss : sumN (l.take k) + l.getD k 0 ≤ 64 := by
        have h2 := sumN_take_le l (k + 1)
        rw [takeN_snoc l k hlt, sumN_snoc] at h2
        have := hs.out
        omega
      have hx : l.getD k 0 ≤ 64 := by omega
      have HLL : Hid ((fstW 0 (l.take k)).length + l.getD k 0 ≤ 64) := (show _ ≤ 64 by rw [hlen1]; exact hss)
      clear hN hs hlen1 hss
      generalize fstW 0 (l.take k) = zs at *
      generalize l.getD k 0 = x at *
      have hA : Hid (Below w.heap.size w (wr.alloc (.cells #[.int .i64 (k : Int)] 3))) := hB.out.alloc hB.out.size _
      have hrep : Hid (Calls Try.prog 116 #[.slice (some ⟨wr.heap.size, 0, none⟩) 1 1, .int .i64 x] (wr.alloc (.cells #[.int .i64 (k : Int)] 3)) fun e w' => (e = .returned (.slice (some ⟨wr.heap.size + 1, 0, none⟩) x x) ∧ RowZ w' (wr.heap.size + 1) (List.replicate x (k : Int))) ∧ Below (wr.heap.size + 1) (wr.alloc (.cells #[.int .i64 (k : Int)] 3)) w') := by
        have := repeat_any wr.heap.size k x (wr.alloc (.cells #[.int .i64 (k : Int)] 3)) hx (show World.cell? _ _ = _ by simp) (show _ < _ by simp)
        rw [World.size_alloc] at this
        exact this
      have ownA : Hid ((wr.alloc (.cells #[.int .i64 (k : Int)] 3)).ownsRow w.heap.size 3 1 u4 zs.length (intsZ zs)) := World.ownsRow.alloc own _
      clear own
      go_wp2_with (first
        | (go_at_call 116; refine hrep.out.mono ?_; rintro e w1 ⟨⟨rfl, hr⟩, hB1⟩
           have hB2 : Hid (Below w.heap.size w w1) := hA.out.trans (hB1.mono (by have := hB.out.size; omega))
           have hnews : Hid _ := news_of hr.nums
           have own1 : Hid (w1.ownsRow w.heap.size 3 1 u4 zs.length (intsZ zs)) := by
             exact own_below ownA.out (by rw [World.size_alloc]; exact hB1)
           clear hr hB1 hrep ownA)
        | (at_builtin; obtain ⟨hi, hz0, hz1, hz2⟩ := HI.out; refine wpList_append_own _ rfl (.tmp 14) (.tmp 18) 22 rfl w.heap.size 3 i0 (.int .i64 0) 1 8 Try.underlying22 hi hz0 hz1 hz2 rfl (by decide) _ _ _ rfl own1.out ⟨wr.heap.size + 1, 0, none⟩ x x (intsZ (List.replicate x (k : Int))) rfl (by rw [intsZ_len, List.length_replicate, Nat.mul_one]) hnews.out (intsZ_one _) (by have := HLL.out; unfold maxLen; omega) (by have := HLL.out; omega) (hB2.out.size) ?_
           intro v1 wa own2 grow1 hif1; clear hif1 hi hz0 hz1 hz2
           have own3 : OwnZ wa w.heap.size v1 (zs ++ List.replicate x (k : Int)) := (show wa.ownsRow _ _ _ _ _ _ by rw [List.length_append, intsZ_append, List.length_replicate]; exact own2)
           have hBa : Hid (Below w.heap.size w wa) := hB2.out.grown grow1 hB2.out.size (fun k e => (World.ownsRow.lt own1.out k e).1)
           clear own2 grow1 own1 hnews hB2))
      go_roundw
      case rel => exact ⟨k + 1, by omega, by go_num, by rw [HF.out]; exact own3, hBa.out⟩
      case measure => simp [intOf]; omega
    · obtain rfl : k = l.length := by omega
      rw [List.take_length] at own
      clear hN hs
      go_wp2
      go_ret2
      exact ⟨⟨_, rfl, own⟩, hB.out⟩

set_option maxRecDepth 100000 in
set_option maxHeartbeats 1000000 in
theorem whas_any (a : Option Addr) (cap : Nat) (l : List Nat) (a2 : Option Addr) (cap2 : Nat) (xs : List Int) (w : World) (hN : Hid (Nums w a (zsOf l))) (hl : l.length ≤ 64) (hs : Hid (sumN l ≤ 64)) (hA : Hid (Nums w a2 xs)) (ha : Hid (a2 = none → xs = [])) :
    Calls Try.prog 110 #[.slice a l.length cap, .slice a2 xs.length cap2] w fun e w' => Says (xs.Perm (fstW 0 l)) e ∧ Below w.heap.size w w' := by
  go_enter Try.func110, Try.ntmps110
  go_wp2_with (first
    | (go_at_call 109; refine (first_any a cap l w hN hl hs).mono ?_; rintro e w1 ⟨⟨v1, rfl, own⟩, hB1⟩
       obtain ⟨a3, c3, rfl, hN3, ha3⟩ := newN_own own
       have hm := mixed_any a2 cap2 xs a3 c3 (fstW 0 l) w1 (hA.out.below hB1) ha hN3 (by rw [fst_len]; exact hs.out) (fst_sorted l 0)
       clear hA ha hN hs own hN3 ha3)
    | (go_at_call 83; refine hm.mono ?_; rintro e w2 ⟨⟨r, rfl, hr⟩, hB2⟩; replace hr : Hid _ := hr; clear hm))
  go_ret
  exact ⟨⟨_, rfl, hr.out⟩, Below.then hB1 hB2⟩
end Go.Proofs.Ytghfomammdbgoaa
