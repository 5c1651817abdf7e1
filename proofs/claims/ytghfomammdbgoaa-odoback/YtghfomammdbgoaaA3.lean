/- Whether a list is one of a product, and its number. -/
import Derived.Test.YtghfomammdbgoaaP2
namespace Go.Proofs.Ytghfomammdbgoaa
open Go.RowKit Go.Shelf K
set_option linter.unusedSimpArgs false
set_option linter.unusedVariables false

/-- The first k places are in their sizes. -/
def hasTo (l : List Nat) (zs : List Int) (k : Nat) : Prop := ∀ j, j < k → 0 ≤ zs.getD j 0 ∧ zs.getD j 0 < (l.getD j 0 : Nat)
theorem hasTo_succ (l : List Nat) (zs : List Int) (k : Nat) (h : hasTo l zs k) (hk : 0 ≤ zs.getD k 0 ∧ zs.getD k 0 < (l.getD k 0 : Nat)) : hasTo l zs (k + 1) := fun j hj => by
  by_cases e : j = k
  · subst e; exact hk
  · exact h j (by omega)
/-- It answers whether it is so. -/
def Says (p : Prop) (e : Ending) : Prop := ∃ r, e = .returned (.bool r) ∧ (r = true ↔ p)
def HasP (l : List Nat) (zs : List Int) : Prop := zs.length = l.length ∧ hasTo l zs l.length

set_option maxRecDepth 100000 in
set_option maxHeartbeats 1000000 in
theorem phas_any (a : Option Addr) (cap : Nat) (l : List Nat) (a2 : Option Addr) (cap2 : Nat) (zs : List Int) (w : World) (hN : Hid (Nums w a (zsOf l))) (hM : Hid (Nums w a2 zs)) (hl : l.length ≤ 64) :
    Calls Try.prog 62 #[.slice a l.length cap, .slice a2 zs.length cap2] w fun e w' => Says (HasP l zs) e ∧ w' = w := by
  by_cases hlen : zs.length = l.length
  · rw [hlen]
    have HL : Hid (zs.length = l.length) := hlen
    clear hlen
    go_enter Try.func62, Try.ntmps62
    go_wp2
    go_loop [14] (fun i => ∃ k : Nat, k ≤ l.length ∧ Hid (hasTo l zs k) ∧ i = .int .i64 k) (fun i => l.length - (intOf i).toNat)
    case atStart => exact ⟨0, by omega, fun j hj => absurd hj (by omega), rfl⟩
    case round =>
      obtain ⟨k, hk, HF, rfl⟩ := hrel
      by_cases hlt : k < l.length
      · obtain ⟨b, off, rfl, hc⟩ := hN.out k (by rw [zsOf_len]; exact hlt)
        obtain ⟨b2, off2, rfl, hc2⟩ := hM.out k (by rw [HL.out]; exact hlt)
        rw [zsOf_getD] at hc
        have HS : Hid (0 ≤ zs.getD k 0 ∧ zs.getD k 0 < (l.getD k 0 : Nat) → hasTo l zs (k + 1)) := hasTo_succ l zs k HF.out
        have HB : Hid (¬ (0 ≤ zs.getD k 0 ∧ zs.getD k 0 < (l.getD k 0 : Nat)) → ¬ HasP l zs) := fun h h2 => h (h2.2 k hlt)
        clear hN hM HF
        generalize l.getD k 0 = x at *
        generalize zs.getD k 0 = z at *
        by_cases h1 : z < 0
        · have HB2 : Hid (¬ HasP l zs) := HB.out (by omega)
          clear HB HS
          go_wp2
          go_ret
          exact ⟨⟨_, rfl, fun h => (Bool.noConfusion h), fun h => absurd h HB2.out⟩, rfl⟩
        · by_cases h2 : (x : Int) ≤ z
          · have HB2 : Hid (¬ HasP l zs) := HB.out (by omega)
            clear HB HS
            go_wp2
            go_ret
            exact ⟨⟨_, rfl, fun h => (Bool.noConfusion h), fun h => absurd h HB2.out⟩, rfl⟩
          · have HS2 : Hid (hasTo l zs (k + 1)) := HS.out (by omega)
            clear HB HS
            go_wp2
            go_round
            case rel => exact ⟨k + 1, by omega, HS2, by go_num⟩
            case measure => simp [intOf]; omega
      · obtain rfl : k = l.length := by omega
        go_wp2
        go_ret
        exact ⟨⟨_, rfl, fun _ => ⟨HL.out, HF.out⟩, fun _ => rfl⟩, rfl⟩
  · have HB : Hid (¬ HasP l zs) := fun h => hlen h.1
    clear hN hM
    have hi : ¬ ((zs.length : Int) = (l.length : Int)) := by omega
    go_enter Try.func62, Try.ntmps62
    go_wp2
    go_ret
    exact ⟨⟨_, rfl, fun h => (Bool.noConfusion h), fun h => absurd h HB.out⟩, rfl⟩

/-- The number of the first k places. -/
def rkP (l : List Nat) (zs : List Int) : Nat → Nat
  | 0 => 0
  | k + 1 => rkP l zs k * l.getD k 0 + (zs.getD k 0).toNat
theorem rkP_lt (l : List Nat) (zs : List Int) (h : HasP l zs) : ∀ k, k ≤ l.length → rkP l zs k < prodN (l.take k)
  | 0, _ => by simp [rkP, prodN]
  | k + 1, hk => by
    have ih := rkP_lt l zs h k (by omega)
    have h2 := h.2 k (by omega)
    rw [takeN_snoc l k (by omega), prodN_snoc]
    unfold rkP
    have h3 : (zs.getD k 0).toNat < l.getD k 0 := by omega
    have h4 : (rkP l zs k + 1) * l.getD k 0 ≤ prodN (l.take k) * l.getD k 0 := Nat.mul_le_mul_right _ ih
    rw [Nat.succ_mul] at h4
    omega
theorem hasP_pos {l : List Nat} {zs : List Int} (h : HasP l zs) : 0 ∉ l := by
  intro h0
  obtain ⟨k, hk, e⟩ := List.getElem_of_mem h0
  have := h.2 k hk
  have e2 : l.getD k 0 = 0 := by rw [List.getD_eq_getElem?_getD, List.getElem?_eq_getElem hk, Option.getD_some, e]
  rw [e2] at this
  have h2 := this.1
  have h3 := this.2
  omega

set_option maxRecDepth 100000 in
set_option maxHeartbeats 1000000 in
theorem prank_any (a : Option Addr) (cap : Nat) (l : List Nat) (a2 : Option Addr) (cap2 : Nat) (zs : List Int) (w : World) (hN : Hid (Nums w a (zsOf l))) (hM : Hid (Nums w a2 zs)) (hl : l.length ≤ 64) (hx : Hid (∀ n ∈ l, n < 9223372036854775808)) (hp : Hid (prodN l < 18446744073709551616)) (hh : Hid (HasP l zs)) :
    Calls Try.prog 64 #[.slice a l.length cap, .slice a2 l.length cap2] w fun e w' => e = .returned (.int .u64 (rkP l zs l.length : Nat)) ∧ w' = w := by
  go_enter Try.func64, Try.ntmps64
  go_wp2
  go_loop [5, 10] (fun v i => ∃ k : Nat, k ≤ l.length ∧ i = .int .i64 k ∧ v = .int .u64 (rkP l zs k : Nat)) (fun _ i => l.length - (intOf i).toNat)
  case atStart => exact ⟨0, by omega, rfl, rfl⟩
  case round =>
    obtain ⟨k, hk, rfl, rfl⟩ := hrel
    by_cases hlt : k < l.length
    · obtain ⟨b, off, rfl, hc⟩ := hN.out k (by rw [zsOf_len]; exact hlt)
      obtain ⟨b2, off2, rfl, hc2⟩ := hM.out k (by rw [hh.out.1]; exact hlt)
      rw [zsOf_getD] at hc
      have HS : Hid (rkP l zs (k + 1) = rkP l zs k * l.getD k 0 + (zs.getD k 0).toNat) := rfl
      have h1 := rkP_lt l zs hh.out (k + 1) hlt
      have h2 : prodN (l.take (k + 1)) ≤ prodN l := prodN_take_le (hasP_pos hh.out) _
      have h3 := hp.out
      have hz := hh.out.2 k hlt
      have hxk := hx.out _ (getD_mem hlt)
      have hr : rkP l zs (k + 1) < 18446744073709551616 := by omega
      clear hN hM hp hh hx h1 h2 h3
      generalize l.getD k 0 = x at *
      generalize zs.getD k 0 = z at *
      obtain ⟨Z, rfl⟩ : ∃ Z : Nat, z = (Z : Int) := ⟨z.toNat, by omega⟩
      rw [HS.out] at hr
      rw [Int.toNat_natCast] at hr HS
      have e1 : IntKind.u64.wrap (x : Int) = (x : Int) := wrapU x (by omega)
      have e2 : IntKind.u64.wrap (Z : Int) = (Z : Int) := wrapU Z (by omega)
      have e3 : IntKind.u64.wrap ((rkP l zs k : Nat) * (x : Int)) = ((rkP l zs k * x : Nat) : Int) := by rw [mulN]; exact wrapU _ (by omega)
      generalize rkP l zs k = p at *
      have e4 : IntKind.u64.wrap (((p * x : Nat) : Int) + (Z : Int)) = ((p * x + Z : Nat) : Int) := by rw [addN]; exact wrapU _ hr
      obtain ⟨m, hm⟩ : ∃ m, p * x = m := ⟨_, rfl⟩
      rw [hm] at e3 e4 HS
      obtain ⟨q, hq⟩ : ∃ q, m + Z = q := ⟨_, rfl⟩
      rw [hq] at e4 HS
      clear hz hr hm hq
      go_wp2
      go_round
      case rel => exact ⟨k + 1, by omega, by go_num, by rw [HS.out]⟩
      case measure => simp [intOf]; omega
    · obtain rfl : k = l.length := by omega
      go_wp2
      go_ret
      exact ⟨rfl, rfl⟩
end Go.Proofs.Ytghfomammdbgoaa
