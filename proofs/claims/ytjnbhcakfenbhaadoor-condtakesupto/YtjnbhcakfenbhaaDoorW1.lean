/- The reference's reader of conditions: is. -/
import Derived.Test.YtjnbhcakfenbhaaDoorW0
namespace Go.Proofs.YtjnbhcakfenbhaaDoor
open Go.RowKit Go.Shelf M
set_option linter.unusedSimpArgs false
set_option linter.unusedVariables false

section
variable {gs : List GT} {a : Option Addr} {cap base br k0 : Nat}
theorem gAt_lt {gs : List GT} {k : Nat} (h : k < gs.length) : gs[k]? = some (gAt gs k) := by unfold gAt; rw [List.getElem?_eq_getElem h]; rfl
set_option maxRecDepth 100000 in
set_option maxHeartbeats 2000000 in
theorem ris_any (hn : Few gs) (σ : CS) (on : Nat) (ho : on ≤ 1) (kd : Int) (x : ByteArray) (w : World) (hP : RC gs a cap base br k0 w σ) :
    Calls Tryd.prog 51 #[.pointer (some ⟨br, 0, none⟩), .int .i64 (on : Int), .int .i64 kd, .string x] w fun en w' => en = .returned (.bool (isT gs σ on kd x.data.toList)) ∧ w' = w := by
  have cB := fun W hP => rbad_any (gs := gs) (a := a) (cap := cap) (base := base) (br := br) (k0 := k0) σ W hP
  obtain ⟨v, t, R, _, _⟩ := hP.ex
  have c0 : w.cell? ⟨br, 0, none⟩ = some (.slice a gs.length cap) := R.cell 0
  have c1 : w.cell? ⟨br, 1, none⟩ = some (.int .i64 (σ.k : Int)) := R.cell 1
  have hlen := hn.1
  have hk := hP.k
  have hwa : IntKind.i64.wrap ((CS.k σ : Int) + on) = ((CS.k σ + on : Nat) : Int) := by rw [IntKind.wrap_i64]; omega
  have hT := hP.toks
  obtain ⟨V, hV⟩ : ∃ V, isT gs σ on kd x.data.toList = V := ⟨_, rfl⟩
  rw [hV]
  have HV : Hid (V = isT gs σ on kd x.data.toList) := hV.symm
  clear hV R
  cases hF : σ.F with
  | some y =>
    have eV : V = false := by rw [HV.out]; unfold isT; rw [hF]; rfl
    subst eV
    rw [hF] at cB
    clear HV hF hT
    go_enter Tryd.func51, Tryd.ntmps51
    go_wp2_with (first
      | (go_at_call 35; refine (cB _ hP).mono ?_; rintro en W2 ⟨rfl, hW⟩; replace hW := hW.symm; subst hW; clear cB))
    go_ret
    exact ⟨rfl, rfl⟩
  | none =>
    rw [hF] at cB
    by_cases hlt : σ.k + on < gs.length
    · obtain ⟨b, o, ea, hb, hr⟩ := hT _ _ (gAt_lt hlt)
      subst ea
      have eV : V = (decide ((gAt gs (σ.k + on)).kind = kd) && decide ((gAt gs (σ.k + on)).text.data.toList = x.data.toList)) := by
        rw [HV.out]; unfold isT; rw [hF, decide_eq_true hlt]; rw [Bool.eq_iff_iff]; simp
      generalize gAt gs (σ.k + on) = g at *
      have hix : ((CS.k σ + on : Nat) : Int) < gs.length := by omega
      have d0 : w.cell? ⟨b, o + (CS.k σ + on) * 7, none⟩ = some (.int .i64 g.kind) := hr 0 _ rfl
      have d1 : w.cell? ⟨b, o + (CS.k σ + on) * 7 + 1, none⟩ = some (.string g.text) := hr 1 _ rfl
      clear hr hT hF
      subst eV
      clear HV
      by_cases hk4 : g.kind = kd
      · have hk' : (g.kind == kd) = true := by simp [hk4]
        rw [decide_eq_true hk4, Bool.true_and]
        clear hk4
        generalize hi : CS.k σ + on = i at *
        go_enter Tryd.func51, Tryd.ntmps51
        go_wp2_with (first
          | (go_at_call 35; refine (cB _ hP).mono ?_; rintro en W2 ⟨rfl, hW⟩; replace hW := hW.symm; subst hW; clear cB))
        go_ret
        refine ⟨ret_bool ?_, rfl⟩
        rw [Bool.eq_iff_iff]; simp [toL]
      · have hk' : (g.kind == kd) = false := by simpa using hk4
        rw [decide_eq_false hk4, Bool.false_and]
        clear hk4
        generalize hi : CS.k σ + on = i at *
        go_enter Tryd.func51, Tryd.ntmps51
        go_wp2_with (first
          | (go_at_call 35; refine (cB _ hP).mono ?_; rintro en W2 ⟨rfl, hW⟩; replace hW := hW.symm; subst hW; clear cB))
        go_ret
        exact ⟨rfl, rfl⟩
    · have eV : V = false := by rw [HV.out]; unfold isT; rw [decide_eq_false hlt]; simp
      subst eV
      have hix : ¬ (((CS.k σ + on : Nat) : Int) < gs.length) := by omega
      clear HV hF hT hlt
      generalize hi : CS.k σ + on = i at *
      go_enter Tryd.func51, Tryd.ntmps51
      go_wp2_with (first
        | (go_at_call 35; refine (cB _ hP).mono ?_; rintro en W2 ⟨rfl, hW⟩; replace hW := hW.symm; subst hW; clear cB))
      go_ret
      exact ⟨rfl, rfl⟩
end
end Go.Proofs.YtjnbhcakfenbhaaDoor
