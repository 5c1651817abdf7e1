/- Whether a list has the numbers of another one, which rises, in whatever order. -/
import Derived.Test.YtghfomammdbgoaaO1
import Derived.Test.YtghfomammdbgoaaSK
import Derived.Lib.OwnBridge
import Derived.Sort.Grow
import Derived.Sort.OwnSortedInts
namespace Go.Proofs.Ytghfomammdbgoaa
open Go.RowKit Go.Shelf Go.Sort K
set_option linter.unusedSimpArgs false
set_option linter.unusedVariables false

theorem nums_of_holds {w : World} {g : Nat} {S : List Int} (h : Holds (Value.int .i64) w g 0 S.toArray) : Nums w (some ⟨g, 0, none⟩) S := fun j hj => by
  refine ⟨g, 0, rfl, ?_⟩
  have h1 := (h j (by simpa using hj)).1
  rw [h1, getElem!_pos _ j (by simpa using hj)]
  simp [List.getD, List.getElem?_eq_getElem hj]
theorem holds_of_row {w : World} {b : Nat} {zs : List Int} (h : RowZ w b zs) : Holds (Value.int .i64) w b 0 zs.toArray := fun j hj => by
  have hj' : j < zs.length := by simpa using hj
  rw [Nat.zero_add, h.cell j hj', getElem!_pos _ j hj]
  refine ⟨?_, h.frozen j⟩
  simp [List.getD, List.getElem?_eq_getElem hj']
theorem sort_eq {xs ys : List Int} (hs : ys.Pairwise (· ≤ ·)) : (xs.mergeSort fun x y => decide (x ≤ y)) = ys ↔ xs.Perm ys := by
  constructor
  · intro h; rw [← h]; exact (List.mergeSort_perm xs _).symm
  · intro h
    refine List.Perm.eq_of_pairwise (le := fun x y : Int => x ≤ y) (fun a b _ _ h1 h2 => Int.le_antisymm h1 h2) ?_ hs ((List.mergeSort_perm xs _).trans h)
    have := List.pairwise_mergeSort (le := fun x y : Int => decide (x ≤ y)) (fun a b c h1 h2 => by simp at *; omega) (fun a b => by simp; omega) xs
    exact this.imp fun h => by simpa using h

set_option maxRecDepth 100000 in
set_option maxHeartbeats 1000000 in
theorem mixed_any (a : Option Addr) (cap : Nat) (xs : List Int) (b : Option Addr) (cap2 : Nat) (ys : List Int) (w : World) (hA : Hid (Nums w a xs)) (ha : Hid (a = none → xs = [])) (hB : Hid (Nums w b ys)) (hl : ys.length ≤ 64) (hs : Hid (ys.Pairwise (· ≤ ·))) :
    Calls Try.prog 83 #[.slice a xs.length cap, .slice b ys.length cap2] w fun e w' => Says (xs.Perm ys) e ∧ Below w.heap.size w w' := by
  by_cases hlen : ys.length = xs.length
  · rw [hlen] at hl ⊢
    have HL : Hid (ys.length = xs.length) := hlen
    clear hlen
    have HP : Hid (∀ S, S = (xs.mergeSort fun x y => decide (x ≤ y)) → (S = ys ↔ xs.Perm ys)) := fun S h => by rw [h]; exact sort_eq hs.out
    by_cases h0 : xs = []
    · subst h0
      have hy : Hid (ys = []) := List.eq_nil_of_length_eq_zero HL.out
      have hcl := clone_any a cap [] w hA.out (fun _ => rfl) (by simp)
      rw [List.length_nil] at hcl
      have hP : Hid (List.Perm ([] : List Int) ys) := by show List.Perm _ _; rw [hy.out]
      clear hA ha hs HP HL
      go_enter Try.func83, Try.ntmps83
      go_wp2_with (first
        | (go_at_call 37; refine hcl.mono ?_; rintro e w1 ⟨⟨a1, c1, rfl, hN1⟩, hB1⟩; clear hcl; replace hN1 : Hid _ := hN1)
        | (go_at_call 86; refine (Try.slices_Sort_int_none _ _ _).mono ?_; rintro e w2 ⟨rfl, hw2⟩; replace hw2 := hw2.symm; subst hw2)
        | (go_at_call 87; refine (equal_any a1 b c1 cap2 [] [] _ hN1 (fun j hj => absurd hj (by simp)) (by simp) rfl).mono ?_; rintro e w3 ⟨⟨r, rfl, hr⟩, hB3⟩; replace hr : Hid _ := hr))
      go_ret
      exact ⟨⟨_, rfl, fun _ => hP.out, fun _ => hr.out.2 trivial⟩, Below.then hB1 hB3⟩
    · obtain ⟨ad, hd⟩ : ∃ ad, a = some ad := by
        cases a with
        | none => exact absurd (ha.out rfl) h0
        | some ad => exact ⟨ad, rfl⟩
      subst hd
      have hpos : 0 < xs.length := List.length_pos_iff.2 h0
      obtain ⟨b1, o1, e1, _⟩ := hA.out 0 hpos
      cases e1
      have hclone := Try.slices_Clone_int b1 o1 xs.length cap xs w (Nat.le_refl _) (by omega) (fun j hj => by
        obtain ⟨b2, o2, e2, hc⟩ := hA.out j hj
        cases e2
        exact hc)
      rw [List.take_length] at hclone
      clear hA ha h0
      go_enter Try.func83, Try.ntmps83
      go_wp2_with (first
        | (go_at_call 37; refine hclone.mono ?_; rintro e w1 ⟨v1, rfl, hown, hnn, hbel⟩
           obtain ⟨g, capg, rfl, hbg, hgl, hncap, hcm, hlen, hH⟩ := Lib.holds_of_ownsRow hown hnn
           have hsort := Try.slices_Sort_int g 0 capg xs w1 hH hgl (by omega)
           have X : Hid (Below w.heap.size w w1 ∧ w.heap.size ≤ g ∧ g < w1.heap.size ∧ Holds (Value.int .i64) w1 g 0 xs.toArray) := ⟨hbel, hbg, hgl, hH⟩
           clear hown hbel hH hnn hlen hclone)
        | (go_at_call 86; refine hsort.mono ?_; rintro e w2 ⟨rfl, nn, os, hw2⟩
           have hH2 : Holds (Value.int .i64) w2 g 0 (xs.mergeSort fun x y => decide (x ≤ y)).toArray := by
             subst hw2
             exact holds_grow _ _ os g 0 _ (by simpa [putRow, mapBlock, Sort.ahead] using X.out.2.2.1) (holds_putRow _ _ g 0 _ _ (holds_ahead _ w1 nn g 0 _ X.out.2.2.2) (by simp))
           have hB2 : Hid (Below w.heap.size w w2) := by
             subst hw2
             exact X.out.1.grown (grownBy_sortedI _) X.out.1.size (fun j hj => by cases hj; exact X.out.2.1)
           obtain ⟨S, hS⟩ : ∃ S : List Int, S = xs.mergeSort fun x y => decide (x ≤ y) := ⟨_, rfl⟩
           rw [← hS] at hH2
           have hSl : Hid (S.length = xs.length) := (show S.length = xs.length by rw [hS, List.length_mergeSort])
           have hq := equal_any (some ⟨g, 0, none⟩) b capg cap2 S ys w2 (nums_of_holds hH2) (hB.out.below hB2.out) (by rw [hSl.out]; omega) (by rw [Hid, hSl.out]; exact HL.out)
           rw [hSl.out] at hq
           have HQ : Hid (S = ys ↔ xs.Perm ys) := HP.out S hS
           clear hw2 hsort hH2 hS X HP)
        | (go_at_call 87; refine hq.mono ?_; rintro e w3 ⟨⟨r, rfl, hr⟩, hB3⟩; replace hr : Hid _ := hr; clear hq))
      go_ret
      exact ⟨⟨_, rfl, fun h => HQ.out.1 (hr.out.1 h), fun h => hr.out.2 (HQ.out.2 h)⟩, Below.then hB2.out hB3⟩
  · have HN : Hid (¬ xs.Perm ys) := fun h => hlen h.length_eq.symm
    have hi : ¬ ((xs.length : Int) = (ys.length : Int)) := by omega
    clear hA ha hB hs hlen
    go_enter Try.func83, Try.ntmps83
    go_wp2
    go_ret
    exact ⟨⟨_, rfl, fun h => (Bool.noConfusion h), fun h => absurd h HN.out⟩, Below.refl _ _⟩

theorem ris_sorted (n : Nat) : (risZ n).Pairwise (· < ·) := by
  unfold risZ
  rw [List.pairwise_map]
  exact (List.pairwise_lt_range (n := n)).imp fun h => Int.ofNat_lt.2 h

set_option maxRecDepth 100000 in
set_option maxHeartbeats 1000000 in
theorem ohas_any (n : Nat) (hn : n ≤ 64) (a : Option Addr) (cap : Nat) (xs : List Int) (w : World) (hA : Hid (Nums w a xs)) (ha : Hid (a = none → xs = [])) :
    Calls Try.prog 77 #[.int .i64 n, .slice a xs.length cap] w fun e w' => Says (xs.Perm (risZ n)) e ∧ Below w.heap.size w w' := by
  go_enter Try.func77, Try.ntmps77
  go_wp2_with (first
    | (go_at_call 81; refine (rising_any n _ hn).mono ?_; rintro e w1 ⟨⟨rfl, hr⟩, hB1⟩
       have hm := mixed_any a cap xs (some ⟨w.heap.size, 0, none⟩) n (risZ n) w1 (hA.out.below hB1) ha hr.nums (by rw [risZ_len]; exact hn) ((ris_sorted n).imp fun h => Int.le_of_lt h)
       rw [risZ_len] at hm
       clear hA ha hr)
    | (go_at_call 83; refine hm.mono ?_; rintro e w2 ⟨⟨r, rfl, hr⟩, hB2⟩; replace hr : Hid _ := hr; clear hm))
  go_ret
  exact ⟨⟨_, rfl, hr.out⟩, Below.then hB1 hB2⟩
end Go.Proofs.Ytghfomammdbgoaa
