/- The face of a space of weaves. -/
import Derived.Test.YtghfomammdbgoaaV6
namespace Go.Proofs.Ytghfomammdbgoaa
open Go.RowKit Go.Shelf Go.Sort K
set_option linter.unusedSimpArgs false
set_option linter.unusedVariables false

theorem mat_w (v : Value) (w : World) : (method 256 86 v "weir/odo.at").run Try.prog w = .ok (108, v) w := by kernel_rfl
theorem mhas_w (v : Value) (w : World) : (method 256 86 v "weir/odo.has").run Try.prog w = .ok (110, v) w := by kernel_rfl
theorem mrank_w (v : Value) (w : World) : (method 256 86 v "weir/odo.rank").run Try.prog w = .ok (112, v) w := by kernel_rfl

theorem in_w (l : List Nat) (zs : List Int) : InG opW (sumN l) l zs ↔ zs.Perm (fstW 0 l) := inW (sumN l) l zs rfl
theorem rk_w {l : List Nat} {zs : List Int} (hp : zs.Perm (fstW 0 l)) : rkW (sumN l) l zs < wvN 0 l ∧ atW (sumN l) l (rkW (sumN l) l zs) = zs := by
  have hin := (in_w l zs).2 hp
  have := K.rk_ok (sumN l) l zs (upW (sumN l) l rfl) hin
  rw [szW (sumN l) l rfl, ← rkW_eq (sumN l) l zs rfl hin] at this
  refine ⟨this.1, ?_⟩
  rw [atW_eq (sumN l) l _ rfl this.1]
  exact this.2

theorem face_w {w : World} {b : Nat} {l : List Nat} (h : IsW w b l) : Face w b (wvN 0 l) (sumN l) (fun zs => zs.Perm (fstW 0 l)) (atW (sumN l) l) (rkW (sumN l) l) := {
  len := fun W hW => wlen (h.below hW) (scaleAt_any l h.small)
  atc := fun h64 W hW k hk => (by
    obtain ⟨a, cap, h1, h2⟩ := (h.below hW).cell
    exact at_ok 86 108 _ b W (wvN 0 l) k (NewN (atW (sumN l) l k)) (mat_w _) (enters_of Try.func108 (by kernel_rfl) rfl) h1 (wlen (h.below hW) (scaleAt_any l h.small)) h64 hk (fun W' hW' => wat_any a cap l k W' (h2.below hW') h.len h.small h64 hk))
  rank := fun h64 W hW a2 cap2 zs hN ha hin => (by
    obtain ⟨a, cap, h1, h2⟩ := (h.below hW).cell
    refine rank_ok 86 110 112 _ _ b W (wvN 0 l) _ (mhas_w _) (enters_of Try.func110 (by kernel_rfl) rfl) (mrank_w _) (enters_of Try.func112 (by kernel_rfl) rfl) (by decide) h1 (wlen (h.below hW) (scaleAt_any l h.small)) h64
      (fun W' hW' => (whas_any a cap l a2 cap2 zs W' (h2.below hW') h.len h.small (hN.below hW') ha).mono fun e w' ⟨⟨r, he, hr⟩, hB⟩ => ⟨by rw [he, hr.2 hin], hB⟩) (fun W' hW' => ?_)
    have hl : zs.length = sumN l := by have := hin.length_eq; rwa [fst_len] at this
    have := wrank_any a cap l a2 cap2 zs W' (h2.below hW') h.len h.small h64 (hN.below hW') ((in_w l zs).2 hin) (Nat.lt_trans (rk_w hin).1 h64)
    rw [hl]
    exact this)
  none := fun h64 W hW a2 cap2 zs hN ha hin => (by
    obtain ⟨a, cap, h1, h2⟩ := (h.below hW).cell
    refine rank_none 86 110 _ _ b W (wvN 0 l) (mhas_w _) (enters_of Try.func110 (by kernel_rfl) rfl) h1 (wlen (h.below hW) (scaleAt_any l h.small)) h64
      (fun W' hW' => (whas_any a cap l a2 cap2 zs W' (h2.below hW') h.len h.small (hN.below hW') ha).mono fun e w' ⟨⟨r, he, hr⟩, hB⟩ => ⟨?_, hB⟩)
    have : r = false := by cases r; rfl; exact absurd (hr.1 rfl) hin
    rw [he, this])
  back := fun k hk => (by
    have := K.at_ok (sumN l) l k (upW (sumN l) l rfl) (by rw [szW (sumN l) l rfl]; exact hk)
    rw [← atW_eq (sumN l) l k rfl hk] at this
    exact ⟨(in_w l _).1 this.1, by rw [rkW_eq (sumN l) l _ rfl this.1]; exact this.2⟩)
  there := fun zs hz => rk_w hz
  less := fun i k hik hk => (by
    have := K.at_less (sumN l) l i k (upW (sumN l) l rfl) hik (by rw [szW (sumN l) l rfl]; exact hk)
    rw [atW_eq (sumN l) l i rfl (by omega), atW_eq (sumN l) l k rfl hk]
    exact this)
  inl := fun zs hz => (by have := hz.length_eq; rwa [fst_len] at this) }
end Go.Proofs.Ytghfomammdbgoaa
