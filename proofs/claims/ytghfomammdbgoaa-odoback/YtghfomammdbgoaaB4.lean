/- What 'space' answers, the case known ahead: one error in every world, or a space of one face. -/
import Derived.Test.YtghfomammdbgoaaB3
namespace Go.Proofs.Ytghfomammdbgoaa
open Go.RowKit Go.Shelf Go.Sort K
set_option linter.unusedSimpArgs false
set_option linter.unusedVariables false

def SmallA (m : Nat) (at' : Nat → List Int) : Prop := ∀ n, n < m → ∀ x ∈ at' n, 0 ≤ x ∧ x < 9223372036854775808
def SpBad (w : World) (v : Value) (er : Int) : Prop := ∀ W, Below w.heap.size w W → Calls Try.prog 21 #[v] W fun e w' => e = .returned (.tuple #[.pointer none, .int .i64 er]) ∧ Below W.heap.size W w'
def SpOk (w : World) (v : Value) (m d : Nat) (In : List Int → Prop) (at' : Nat → List Int) (rk : List Int → Nat) : Prop := ∀ W, Below w.heap.size w W → Calls Try.prog 21 #[v] W fun e w' => (∃ b, e = .returned (.tuple #[.pointer (some ⟨b, 0, none⟩), .int .i64 0]) ∧ Face w' b m d In at' rk ∧ SmallA m at') ∧ Below W.heap.size W w'
theorem sp_bad {w : World} {v : Value} {er : Int} (h : ∀ W, Below w.heap.size w W → Calls Try.prog 21 #[v] W fun e w' => (∃ p er', e = .returned (.tuple #[p, .int .i64 er']) ∧ p = .pointer none ∧ er' = er) ∧ Below W.heap.size W w') : SpBad w v er := fun W hW => (h W hW).mono (by
  rintro e w' ⟨⟨p, er', rfl, rfl, rfl⟩, hB⟩
  exact ⟨rfl, hB⟩)
theorem sp_ok {w : World} {v : Value} {m d : Nat} {In : List Int → Prop} {at' : Nat → List Int} {rk : List Int → Nat} (h : ∀ W, Below w.heap.size w W → Calls Try.prog 21 #[v] W fun e w' => (∃ p er', e = .returned (.tuple #[p, .int .i64 er']) ∧ er' = 0 ∧ ∃ b, p = .pointer (some ⟨b, 0, none⟩) ∧ Face w' b m d In at' rk ∧ SmallA m at') ∧ Below W.heap.size W w') : SpOk w v m d In at' rk := fun W hW => (h W hW).mono (by
  rintro e w' ⟨⟨p, er', rfl, rfl, b, rfl, h1, h2⟩, hB⟩
  exact ⟨⟨b, rfl, h1, h2⟩, hB⟩)

theorem space_two (K N : Int) (a : Option Addr) (cap : Nat) (zs : List Int) (w : World) (hN : Nums w a zs) (ha : a = none → zs = []) (hl : zs.length ≤ 1152921504606846976) (hb : ∀ z ∈ zs, z < 9223372036854775808) :
    (∃ er, er ≠ 0 ∧ SpBad w (.agg #[.int .i64 K, .slice a zs.length cap, .int .i64 N]) er) ∨ (∃ m d In at' rk, d ≤ 64 ∧ SpOk w (.agg #[.int .i64 K, .slice a zs.length cap, .int .i64 N]) m d In at' rk) := by
  have hx : ∀ n ∈ zs.map Int.toNat, n < 9223372036854775808 := fun n hn => by
    obtain ⟨z, hz, rfl⟩ := List.mem_map.1 hn
    have := hb z hz
    omega
  by_cases hk0 : ((IntKind.u64.wrap K).tmod 3 == 0) = true
  · by_cases hc : chkE zs = 0
    · obtain ⟨h1, h2⟩ := nat_of zs hc
      refine .inr ⟨prodN (zs.map Int.toNat), (zs.map Int.toNat).length, HasP (zs.map Int.toNat), atP (zs.map Int.toNat), fun ys => rkP (zs.map Int.toNat) ys (zs.map Int.toNat).length, by simpa using h1, sp_ok fun W0 hW0 => space_0 K N a zs.length cap W0 _ hk0 (fun W hW => ?_)⟩
      have := product_ok a cap (zs.map Int.toNat) W (by rw [← h2]; exact (hN.below hW0).below hW) (fun e => by rw [ha e]; rfl) (by simpa using h1) hx
      rw [List.length_map] at this
      refine this.mono ?_
      rintro e w' ⟨⟨b, rfl, hP⟩, hB⟩
      exact ⟨⟨_, _, rfl, rfl, b, rfl, face_p hP, fun n hn => small_p hx ((face_p hP).back n hn).1⟩, hB⟩
    · refine .inl ⟨chkE zs, hc, sp_bad fun W0 hW0 => space_0 K N a zs.length cap W0 _ hk0 (fun W hW => ?_)⟩
      refine (product_bad a cap zs W ((hN.below hW0).below hW) hl hc).mono ?_
      rintro e w' ⟨rfl, rfl⟩
      exact ⟨⟨_, _, rfl, rfl, rfl⟩, Below.refl _ _⟩
  · have hk0' : ((IntKind.u64.wrap K).tmod 3 == 0) = false := by simpa using hk0
    by_cases hk1 : ((IntKind.u64.wrap K).tmod 3 == 1) = true
    · by_cases hn : 0 ≤ N ∧ N ≤ 64
      · obtain ⟨n, rfl⟩ : ∃ n : Nat, N = (n : Int) := ⟨N.toNat, by omega⟩
        have hn' : n ≤ 64 := by omega
        refine .inr ⟨factN n, n, fun ys => ys.Perm (risZ n), atO n (risZ n), rkO n (risZ n), hn', sp_ok fun W0 hW0 => space_1 K n a zs.length cap W0 _ hk0' hk1 (fun W hW => ?_)⟩
        refine (orders_ok n W hn').mono ?_
        rintro e w' ⟨⟨b, rfl, hO⟩, hB⟩
        exact ⟨⟨_, _, rfl, rfl, b, rfl, face_o hO, fun k hk => small_o hn' ((face_o hO).back k hk).1⟩, hB⟩
      · refine .inl ⟨4, by decide, sp_bad fun W0 hW0 => space_1 K N a zs.length cap W0 _ hk0' hk1 (fun W hW => ?_)⟩
        refine (orders_bad N W hn).mono ?_
        rintro e w' ⟨rfl, rfl⟩
        exact ⟨⟨_, _, rfl, rfl, rfl⟩, Below.refl _ _⟩
    · have hk1' : ((IntKind.u64.wrap K).tmod 3 == 1) = false := by simpa using hk1
      by_cases hc : chkE zs = 0
      · obtain ⟨h1, h2⟩ := nat_of zs hc
        have hl2 : (zs.map Int.toNat).length ≤ 64 := by simpa using h1
        by_cases hs : sumN (zs.map Int.toNat) ≤ 64
        · refine .inr ⟨wvN 0 (zs.map Int.toNat), sumN (zs.map Int.toNat), fun ys => ys.Perm (fstW 0 (zs.map Int.toNat)), atW (sumN (zs.map Int.toNat)) (zs.map Int.toNat), rkW (sumN (zs.map Int.toNat)) (zs.map Int.toNat), hs, sp_ok fun W0 hW0 => space_2 K N a zs.length cap W0 _ hk0' hk1' (fun W hW => ?_)⟩
          have := weaves_ok a cap (zs.map Int.toNat) W (by rw [← h2]; exact (hN.below hW0).below hW) (fun e => by rw [ha e]; rfl) hl2 hs
          rw [List.length_map] at this
          refine this.mono ?_
          rintro e w' ⟨⟨b, rfl, hP⟩, hB⟩
          exact ⟨⟨_, _, rfl, rfl, b, rfl, face_w hP, fun n hn => small_w hl2 ((face_w hP).back n hn).1⟩, hB⟩
        · refine .inl ⟨1, by decide, sp_bad fun W0 hW0 => space_2 K N a zs.length cap W0 _ hk0' hk1' (fun W hW => ?_)⟩
          have := weaves_long a cap (zs.map Int.toNat) W (by rw [← h2]; exact (hN.below hW0).below hW) hl2 hs hx
          rw [List.length_map] at this
          refine this.mono ?_
          rintro e w' ⟨rfl, rfl⟩
          exact ⟨⟨_, _, rfl, rfl, rfl⟩, Below.refl _ _⟩
      · refine .inl ⟨chkE zs, hc, sp_bad fun W0 hW0 => space_2 K N a zs.length cap W0 _ hk0' hk1' (fun W hW => ?_)⟩
        refine (weaves_bad a cap zs W ((hN.below hW0).below hW) hl hc).mono ?_
        rintro e w' ⟨rfl, rfl⟩
        exact ⟨⟨_, _, rfl, rfl, rfl⟩, Below.refl _ _⟩
end Go.Proofs.Ytghfomammdbgoaa
