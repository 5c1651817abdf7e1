/- The face of a space: what Len, At and Rank answer, and that lists and numbers are each other's inverse and rise together; of products and of orders. -/
import Derived.Test.YtghfomammdbgoaaO4
namespace Go.Proofs.Ytghfomammdbgoaa
open Go.RowKit Go.Shelf Go.Sort K
set_option linter.unusedSimpArgs false
set_option linter.unusedVariables false

/-- What a space is to those who ask it. -/
structure Face (w : World) (b m d : Nat) (In : List Int → Prop) (at' : Nat → List Int) (rk : List Int → Nat) : Prop where
  len : ∀ W, Below w.heap.size w W → Calls Try.prog 9 #[.pointer (some ⟨b, 0, none⟩)] W fun e w' => e = .returned (lenV m) ∧ Below W.heap.size W w'
  atc : m < 18446744073709551616 → ∀ W, Below w.heap.size w W → ∀ n, n < m → Calls Try.prog 11 #[.pointer (some ⟨b, 0, none⟩), .int .u64 n] W fun e w' => (∃ v', e = .returned (.tuple #[v', .int .i64 0]) ∧ NewN (at' n) v' w') ∧ Below W.heap.size W w'
  rank : m < 18446744073709551616 → ∀ W, Below w.heap.size w W → ∀ a cap zs, Nums W a zs → (a = none → zs = []) → In zs → Calls Try.prog 14 #[.pointer (some ⟨b, 0, none⟩), .slice a zs.length cap] W fun e w' => e = .returned (.tuple #[.int .u64 (rk zs : Nat), .int .i64 0]) ∧ Below W.heap.size W w'
  none : m < 18446744073709551616 → ∀ W, Below w.heap.size w W → ∀ a cap zs, Nums W a zs → (a = none → zs = []) → ¬ In zs → Calls Try.prog 14 #[.pointer (some ⟨b, 0, none⟩), .slice a zs.length cap] W fun e w' => e = .returned (.tuple #[.int .u64 0, .int .i64 3]) ∧ Below W.heap.size W w'
  back : ∀ n, n < m → In (at' n) ∧ rk (at' n) = n
  there : ∀ l, In l → rk l < m ∧ at' (rk l) = l
  less : ∀ n k, n < k → k < m → lessL (at' n) (at' k)
  inl : ∀ l, In l → l.length = d

theorem newN_of {zs : List Int} {v : Value} {w : World} (h : NewL zs v w) : NewN zs v w := by
  obtain ⟨b, c, rfl, hr⟩ := h
  exact ⟨_, c, rfl, hr.nums, fun e => by cases e⟩

theorem face_p {w : World} {b : Nat} {l : List Nat} (h : IsP w b l) : Face w b (prodN l) l.length (HasP l) (atP l) (fun zs => rkP l zs l.length) := {
  len := fun W hW => plen (h.below hW)
  atc := fun h64 W hW n hn => (pAt (h.below hW) n h64 hn).mono fun e w' ⟨⟨v', he, hv⟩, hB⟩ => ⟨⟨v', he, newN_of hv⟩, hB⟩
  rank := fun h64 W hW a cap zs hN _ hin => pRank (h.below hW) h64 a cap zs hN hin
  none := fun h64 W hW a cap zs hN _ hin => pRank_none (h.below hW) h64 a cap zs hN hin
  back := fun n hn => by
    have := K.at_ok l.length l n (upP l) (by rw [szP]; exact hn)
    rw [← atP_eq l n hn] at this
    have hh := (inP l _).1 this.1
    exact ⟨hh, by show rkP l _ _ = n; rw [rkP_eq l _ hh]; exact this.2⟩
  there := fun zs hz => by
    have := K.rk_ok l.length l zs (upP l) ((inP l zs).2 hz)
    rw [← rkP_eq l zs hz, szP] at this
    exact ⟨this.1, by show atP l (rkP l zs l.length) = zs; rw [atP_eq l _ this.1]; exact this.2⟩
  less := fun n k hnk hk => by
    have := K.at_less l.length l n k (upP l) hnk (by rw [szP]; exact hk)
    rw [atP_eq l n (by omega), atP_eq l k hk]
    exact this
  inl := fun zs hz => hz.1 }

theorem mat_o (v : Value) (w : World) : (method 256 85 v "weir/odo.at").run Try.prog w = .ok (75, v) w := by kernel_rfl
theorem mhas_o (v : Value) (w : World) : (method 256 85 v "weir/odo.has").run Try.prog w = .ok (77, v) w := by kernel_rfl
theorem mrank_o (v : Value) (w : World) : (method 256 85 v "weir/odo.rank").run Try.prog w = .ok (79, v) w := by kernel_rfl

theorem perm_rk {n : Nat} {zs : List Int} (hp : zs.Perm (risZ n)) : rkO n (risZ n) zs < factN n ∧ atO n (risZ n) (rkO n (risZ n) zs) = zs := by
  have hl := risZ_len n
  have hup := upO n (risZ n) hl (ris_sorted n)
  have hnd : (risZ n).Nodup := (ris_sorted n).imp fun h e => by omega
  have := K.rk_ok n (risZ n) zs hup ((inO n (risZ n) zs hl).2 hp)
  rw [szO n _ hl, ← rkO_eq n _ zs hl hnd hp] at this
  refine ⟨this.1, ?_⟩
  rw [atO_eq n _ _ hl this.1]
  exact this.2

theorem face_o {w : World} {b n : Nat} (h : IsO w b n) : Face w b (factN n) n (fun zs => zs.Perm (risZ n)) (atO n (risZ n)) (rkO n (risZ n)) := {
  len := fun W hW => olen (h.below hW)
  atc := fun h64 W hW k hk => at_ok 85 75 _ b W (factN n) k (NewN (atO n (risZ n) k)) (mat_o _) (enters_of Try.func75 (by kernel_rfl) rfl) (h.below hW).cell (olen (h.below hW)) h64 hk (fun W' hW' => oat_any n k W' h.small h64 hk)
  rank := fun h64 W hW a cap zs hN ha hin => rank_ok 85 77 79 _ _ b W (factN n) _ (mhas_o _) (enters_of Try.func77 (by kernel_rfl) rfl) (mrank_o _) (enters_of Try.func79 (by kernel_rfl) rfl) (by decide) (h.below hW).cell (olen (h.below hW)) h64
    (fun W' hW' => (ohas_any n h.small a cap zs W' (hN.below hW') ha).mono fun e w' ⟨⟨r, he, hr⟩, hB⟩ => ⟨by rw [he, hr.2 hin], hB⟩)
    (fun W' hW' => by
      have hl : zs.length = n := by have := hin.length_eq; rwa [risZ_len] at this
      have := orank_any n h.small a cap zs W' (hN.below hW') hin h64 (Nat.lt_trans (perm_rk hin).1 h64)
      rw [hl]
      exact this)
  none := fun h64 W hW a cap zs hN ha hin => rank_none 85 77 _ _ b W (factN n) (mhas_o _) (enters_of Try.func77 (by kernel_rfl) rfl) (h.below hW).cell (olen (h.below hW)) h64
    (fun W' hW' => (ohas_any n h.small a cap zs W' (hN.below hW') ha).mono fun e w' ⟨⟨r, he, hr⟩, hB⟩ => ⟨by
      have : r = false := by cases r; rfl; exact absurd (hr.1 rfl) hin
      rw [he, this], hB⟩)
  back := fun k hk => by
    have hl := risZ_len n
    have hnd : (risZ n).Nodup := (ris_sorted n).imp fun h e => by omega
    have := K.at_ok n (risZ n) k (upO n _ hl (ris_sorted n)) (by rw [szO n _ hl]; exact hk)
    rw [← atO_eq n _ k hl hk] at this
    have hh := (inO n (risZ n) _ hl).1 this.1
    exact ⟨hh, by rw [rkO_eq n _ _ hl hnd hh]; exact this.2⟩
  there := fun zs hz => perm_rk hz
  less := fun i k hik hk => by
    have hl := risZ_len n
    have := K.at_less n (risZ n) i k (upO n _ hl (ris_sorted n)) hik (by rw [szO n _ hl]; exact hk)
    rw [atO_eq n _ i hl (by omega), atO_eq n _ k hl hk]
    exact this
  inl := fun zs hz => (by have := hz.length_eq; rwa [risZ_len] at this) }
end Go.Proofs.Ytghfomammdbgoaa
