/- What 'space' answers, whatever kind it is asked for. -/
import Derived.Test.YtghfomammdbgoaaB2
namespace Go.Proofs.Ytghfomammdbgoaa
open Go.RowKit Go.Shelf Go.Sort K
set_option linter.unusedSimpArgs false
set_option linter.unusedVariables false

/-- A space with its face, or none with an error. -/
def SpaceAns (p : Value) (er : Int) (W : World) : Prop :=
  (p = .pointer none ∧ er ≠ 0) ∨ (er = 0 ∧ ∃ b m d In at' rk, p = .pointer (some ⟨b, 0, none⟩) ∧ Face W b m d In at' rk ∧ ∀ n, n < m → ∀ x ∈ at' n, 0 ≤ x ∧ x < 9223372036854775808)
theorem nat_of (zs : List Int) (h : chkE zs = 0) : zs.length ≤ 64 ∧ zs = zsOf (zs.map Int.toNat) := by
  unfold chkE at h
  by_cases h1 : 64 < zs.length
  · rw [if_pos h1] at h; cases h
  · rw [if_neg h1] at h
    by_cases h2 : negs zs = true
    · rw [if_pos h2] at h; cases h
    · refine ⟨by omega, ?_⟩
      unfold zsOf
      rw [List.map_map]
      apply List.ext_getElem (by simp)
      intro i g1 g2
      have h3 : ¬ zs[i] < 0 := fun e => h2 (List.any_eq_true.2 ⟨zs[i], List.getElem_mem g1, by simpa using e⟩)
      simp
      omega
theorem small_p {l : List Nat} (hx : ∀ n ∈ l, n < 9223372036854775808) {zs : List Int} (h : HasP l zs) : ∀ x ∈ zs, 0 ≤ x ∧ x < 9223372036854775808 := fun x hm => by
  obtain ⟨i, hi, rfl⟩ := List.getElem_of_mem hm
  have h1 := h.2 i (by rw [← h.1]; exact hi)
  have h2 := hx _ (getD_mem (show i < l.length by rw [← h.1]; exact hi))
  rw [List.getD_eq_getElem?_getD (l := zs), List.getElem?_eq_getElem hi, Option.getD_some] at h1
  omega
theorem small_o {n : Nat} (hn : n ≤ 64) {zs : List Int} (h : zs.Perm (risZ n)) : ∀ x ∈ zs, 0 ≤ x ∧ x < 9223372036854775808 := fun x hm => by
  have := h.mem_iff.1 hm
  unfold risZ at this
  obtain ⟨i, hi, rfl⟩ := List.mem_map.1 this
  have : i < n := by simpa using hi
  omega
theorem small_w {l : List Nat} (hl : l.length ≤ 64) {zs : List Int} (h : zs.Perm (fstW 0 l)) : ∀ x ∈ zs, 0 ≤ x ∧ x < 9223372036854775808 := fun x hm => by
  obtain ⟨j, _, rfl, hj⟩ := mem_fst l 0 (h.mem_iff.1 hm)
  omega

theorem space_ans (K N : Int) (a : Option Addr) (cap : Nat) (zs : List Int) (w : World) (hN : Nums w a zs) (ha : a = none → zs = []) (hl : zs.length ≤ 1152921504606846976) (hb : ∀ z ∈ zs, z < 9223372036854775808) (hNb : N < 9223372036854775808) :
    Calls Try.prog 21 #[.agg #[.int .i64 K, .slice a zs.length cap, .int .i64 N]] w fun e w' => (∃ p er, e = .returned (.tuple #[p, .int .i64 er]) ∧ SpaceAns p er w') ∧ Below w.heap.size w w' := by
  by_cases hk0 : ((IntKind.u64.wrap K).tmod 3 == 0) = true
  · refine space_0 K N a zs.length cap w SpaceAns hk0 (fun W hW => ?_)
    by_cases hc : chkE zs = 0
    · obtain ⟨h1, h2⟩ := nat_of zs hc
      have hx : ∀ n ∈ zs.map Int.toNat, n < 9223372036854775808 := fun n hn => by
        obtain ⟨z, hz, rfl⟩ := List.mem_map.1 hn
        have := hb z hz
        omega
      have := product_ok a cap (zs.map Int.toNat) W (by rw [← h2]; exact hN.below hW) (fun e => by rw [ha e]; rfl) (by simpa using h1) hx
      rw [List.length_map] at this
      refine this.mono ?_
      rintro e w' ⟨⟨b, rfl, hP⟩, hB⟩
      exact ⟨⟨_, _, rfl, .inr ⟨rfl, b, _, _, _, _, _, rfl, face_p hP, fun n hn => small_p hx ((face_p hP).back n hn).1⟩⟩, hB⟩
    · refine (product_bad a cap zs W (hN.below hW) hl hc).mono ?_
      rintro e w' ⟨rfl, rfl⟩
      exact ⟨⟨_, _, rfl, .inl ⟨rfl, hc⟩⟩, Below.refl _ _⟩
  · have hk0' : ((IntKind.u64.wrap K).tmod 3 == 0) = false := by simpa using hk0
    by_cases hk1 : ((IntKind.u64.wrap K).tmod 3 == 1) = true
    · refine space_1 K N a zs.length cap w SpaceAns hk0' hk1 (fun W hW => ?_)
      by_cases hn : 0 ≤ N ∧ N ≤ 64
      · obtain ⟨n, rfl⟩ : ∃ n : Nat, N = (n : Int) := ⟨N.toNat, by omega⟩
        have hn' : n ≤ 64 := by omega
        refine (orders_ok n W hn').mono ?_
        rintro e w' ⟨⟨b, rfl, hO⟩, hB⟩
        exact ⟨⟨_, _, rfl, .inr ⟨rfl, b, _, _, _, _, _, rfl, face_o hO, fun k hk => small_o hn' ((face_o hO).back k hk).1⟩⟩, hB⟩
      · refine (orders_bad N W hn).mono ?_
        rintro e w' ⟨rfl, rfl⟩
        exact ⟨⟨_, _, rfl, .inl ⟨rfl, by decide⟩⟩, Below.refl _ _⟩
    · have hk1' : ((IntKind.u64.wrap K).tmod 3 == 1) = false := by simpa using hk1
      refine space_2 K N a zs.length cap w SpaceAns hk0' hk1' (fun W hW => ?_)
      by_cases hc : chkE zs = 0
      · obtain ⟨h1, h2⟩ := nat_of zs hc
        have hx : ∀ n ∈ zs.map Int.toNat, n < 9223372036854775808 := fun n hn => by
          obtain ⟨z, hz, rfl⟩ := List.mem_map.1 hn
          have := hb z hz
          omega
        have hN2 : Nums W a (zsOf (zs.map Int.toNat)) := by rw [← h2]; exact hN.below hW
        have hl2 : (zs.map Int.toNat).length ≤ 64 := by simpa using h1
        by_cases hs : sumN (zs.map Int.toNat) ≤ 64
        · have := weaves_ok a cap (zs.map Int.toNat) W hN2 (fun e => by rw [ha e]; rfl) hl2 hs
          rw [List.length_map] at this
          refine this.mono ?_
          rintro e w' ⟨⟨b, rfl, hP⟩, hB⟩
          exact ⟨⟨_, _, rfl, .inr ⟨rfl, b, _, _, _, _, _, rfl, face_w hP, fun n hn => small_w hl2 ((face_w hP).back n hn).1⟩⟩, hB⟩
        · have := weaves_long a cap (zs.map Int.toNat) W hN2 hl2 hs hx
          rw [List.length_map] at this
          refine this.mono ?_
          rintro e w' ⟨rfl, rfl⟩
          exact ⟨⟨_, _, rfl, .inl ⟨rfl, by decide⟩⟩, Below.refl _ _⟩
      · refine (weaves_bad a cap zs W (hN.below hW) hl hc).mono ?_
        rintro e w' ⟨rfl, rfl⟩
        exact ⟨⟨_, _, rfl, .inl ⟨rfl, hc⟩⟩, Below.refl _ _⟩
end Go.Proofs.Ytghfomammdbgoaa
