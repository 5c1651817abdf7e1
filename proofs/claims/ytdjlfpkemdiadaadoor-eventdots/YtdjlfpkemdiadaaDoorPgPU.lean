/- validRegs and Valid: the program's side. -/
import Derived.Test.YtdjlfpkemdiadaaDoorPgPQ
namespace Go.Proofs.YtdjlfpkemdiadaaDoor
open Go.RowKit M
set_option linter.unusedSimpArgs false
set_option linter.unusedVariables false

def RegsTo (rs : List (List ByteArray)) (ri : List (List Int)) (k : Nat) : Prop := ∀ i r q, i < k → rs[i]? = some r → ri[i]? = some q → q.length = r.length ∧ RisTo regB r r.length
def Many (rs : List (List ByteArray)) (k : Nat) : Prop := ∃ i r, i < k ∧ rs[i]? = some r ∧ 8 < r.length
open Classical in
noncomputable def regsErr (p : PG) : Int := if p.regs.length ≠ p.threads.length ∨ p.regInit.length ≠ p.threads.length then 92 else if ¬ RegsTo p.regs p.regInit p.regs.length then 92 else if Many p.regs p.regs.length then 98 else 0
open Classical in
noncomputable def validV (p : PG) : Int := if p.threads.length = 0 ∨ 4 < p.threads.length then 95 else if regsErr p ≠ 0 then regsErr p else if p.locInit.length ≠ p.locs.length ∨ risB nameK p.locs = false then 52 else if 16 < p.locs.length then 97 else if opsB p = false then 93 else if 64 < eventsV p then 96 else 0
theorem regs_next {rs : List (List ByteArray)} {ri : List (List Int)} {k : Nat} {r : List ByteArray} {q : List Int} (h : RegsTo rs ri k) (hr : rs[k]? = some r) (hq : ri[k]? = some q) (h1 : q.length = r.length) (h2 : RisTo regB r r.length) : RegsTo rs ri (k + 1) := fun i r' q' hi hr' hq' => by
  rcases Nat.lt_or_ge i k with h' | h'
  · exact h i r' q' h' hr' hq'
  · have : i = k := by omega
    subst this
    rw [hr] at hr'; rw [hq] at hq'; cases hr'; cases hq'
    exact ⟨h1, h2⟩
theorem regs_not {rs : List (List ByteArray)} {ri : List (List Int)} {k : Nat} {r : List ByteArray} {q : List Int} (hr : rs[k]? = some r) (hq : ri[k]? = some q) (hn : ¬ (q.length = r.length ∧ RisTo regB r r.length)) : ¬ RegsTo rs ri rs.length := fun h => hn (h k r q (List.getElem?_eq_some_iff.1 hr).1 hr hq)
theorem many_next {rs : List (List ByteArray)} {k : Nat} {r : List ByteArray} (hr : rs[k]? = some r) {m : Int} (h : 8 < m ↔ Many rs k) : 8 < max m (r.length : Int) ↔ Many rs (k + 1) := by
  constructor
  · intro h1
    by_cases h2 : 8 < m
    · obtain ⟨i, r', h3, h4⟩ := h.1 h2; exact ⟨i, r', by omega, h4⟩
    · exact ⟨k, r, by omega, hr, by omega⟩
  · rintro ⟨i, r', h3, h4, h5⟩
    rcases Nat.lt_or_ge i k with h' | h'
    · have := h.2 ⟨i, r', h', h4, h5⟩; omega
    · have : i = k := by omega
      subst this
      rw [hr] at h4; cases h4
      omega
set_option maxRecDepth 100000 in
set_option maxHeartbeats 8000000 in
theorem validRegs_len (p : PG) (hf : p.Few) (hlen : p.regs.length ≠ p.threads.length ∨ p.regInit.length ≠ p.threads.length) (vt vr vl vi vj : Value) (w : World) (hp : PGV w vt vr vl vi vj p) :
    Calls Tryd.prog 24 #[.agg #[vt, vr, vl, vi, vj]] w fun en w' => en = .returned (.int .i64 92) ∧ Below w.heap.size w w' := by
  obtain ⟨at', ct, rfl⟩ := hp.t.form
  obtain ⟨ar, cr, rfl⟩ := hp.r.form
  obtain ⟨ai, ci, rfl⟩ := hp.i.form
  obtain ⟨nt, hnt⟩ : ∃ n, p.threads.length = n := ⟨_, rfl⟩
  obtain ⟨nr, hnr⟩ : ∃ n, p.regs.length = n := ⟨_, rfl⟩
  obtain ⟨ni, hni⟩ : ∃ n, p.regInit.length = n := ⟨_, rfl⟩
  rw [hnt, hnr, hni] at hlen
  rw [hnt, hnr, hni]
  clear hnt hnr hni hp hf
  have t1 : True := trivial
  by_cases h1 : nr = nt
  · have h2 : ni ≠ nt := by rcases hlen with h | h; exact absurd h1 h; exact h
    have h3 : ((ni : Int) != nt) = true := by simp; omega
    have h4 : ((nr : Int) != nt) = false := by simp; omega
    clear h1 h2 hlen
    go_enter Tryd.func24, Tryd.ntmps24
    go_wp2_with (clear t1; refine wpList_boxS rfl 28 _ rfl [.slice at' nt ct, .slice ar nr cr, vl, .slice ai ni ci, vj] rfl ?_; intro W1 b1 F1 C1; have B1 : Below w.heap.size w W1 := F1.trans (Below.refl _ w) (Nat.le_refl _); obtain ⟨k0, k1, k2, k3, k4⟩ := pg_cells C1 (Below.refl _ W1); clear F1)
    go_ret
    exact ⟨rfl, B1⟩
  · have h4 : ((nr : Int) != nt) = true := by simp; omega
    clear h1 hlen
    go_enter Tryd.func24, Tryd.ntmps24
    go_wp2_with (clear t1; refine wpList_boxS rfl 28 _ rfl [.slice at' nt ct, .slice ar nr cr, vl, .slice ai ni ci, vj] rfl ?_; intro W1 b1 F1 C1; have B1 : Below w.heap.size w W1 := F1.trans (Below.refl _ w) (Nat.le_refl _); obtain ⟨k0, k1, k2, k3, k4⟩ := pg_cells C1 (Below.refl _ W1); clear F1)
    go_ret
    exact ⟨rfl, B1⟩
set_option maxRecDepth 100000 in
set_option maxHeartbeats 8000000 in
theorem validRegs_in (p : PG) (hf : p.Few) (hl1 : p.regs.length = p.threads.length) (hl2 : p.regInit.length = p.threads.length) (vt vr vl vi vj : Value) (w : World) (hp : PGV w vt vr vl vi vj p) :
    Calls Tryd.prog 24 #[.agg #[vt, vr, vl, vi, vj]] w fun en w' => en = .returned (.int .i64 (regsErr p)) ∧ Below w.heap.size w w' := by
  obtain ⟨at', ct, rfl⟩ := hp.t.form
  obtain ⟨ar, cr, rfl⟩ := hp.r.form
  obtain ⟨ai, ci, rfl⟩ := hp.i.form
  have HR : Hid (RowsV w (.slice ar p.regs.length cr) strE p.regs) := hp.r
  have HI : Hid (RowsV w (.slice ai p.regInit.length ci) intE p.regInit) := hp.i
  obtain ⟨nt, hnt⟩ : ∃ n, p.threads.length = n := ⟨_, rfl⟩
  have hft := hf.t
  have HRR : Hid (p.regs.flatten.length ≤ 1048576) := hf.rr
  have HII : Hid (p.regInit.flatten.length ≤ 1048576) := hf.ii
  rw [hl1, hnt] at HR
  rw [hl2, hnt] at HI
  rw [hl1, hl2]
  rw [hnt] at hft ⊢
  have HNR : Hid (p.regs.length = nt) := hl1.trans hnt
  have HNI : Hid (p.regInit.length = nt) := hl2.trans hnt
  have HE1 : Hid (¬ RegsTo p.regs p.regInit p.regs.length → regsErr p = 92) := fun h => (by unfold regsErr; rw [if_neg (by simp [hl1, hl2]), if_pos h])
  have HE2 : Hid (RegsTo p.regs p.regInit nt → Many p.regs nt → regsErr p = 98) := fun h h' => (by unfold regsErr; rw [if_neg (by simp [hl1, hl2]), hl1.trans hnt, if_neg (by simpa using h), if_pos h'])
  have HE3 : Hid (RegsTo p.regs p.regInit nt → ¬ Many p.regs nt → regsErr p = 0) := fun h h' => (by unfold regsErr; rw [if_neg (by simp [hl1, hl2]), hl1.trans hnt, if_neg (by simpa using h), if_neg h'])
  clear hp hf hnt hl1 hl2
  obtain ⟨rs, ri, hE⟩ : ∃ t r, p.regs = t ∧ p.regInit = r := ⟨_, _, rfl, rfl⟩
  rw [hE.1] at HR HRR HNR
  rw [hE.2] at HI HII HNI
  rw [hE.1, hE.2] at HE1 HE2 HE3
  clear hE
  have t1 : True := trivial
  go_enter Tryd.func24, Tryd.ntmps24
  go_wp2_with (clear t1; refine wpList_boxS rfl 28 _ rfl [.slice at' nt ct, .slice ar nt cr, vl, .slice ai nt ci, vj] rfl ?_; intro W1 b1 F1 C1; have B1 : Below w.heap.size w W1 := F1.trans (Below.refl _ w) (Nat.le_refl _); obtain ⟨k0, k1, k2, k3, k4⟩ := pg_cells C1 (Below.refl _ W1); clear F1)
  go_loop [3, 25] (fun mv i => ∃ k : Nat, k ≤ nt ∧ i = .int .i64 k ∧ ∃ m : Int, mv = .int .i64 m ∧ 0 ≤ m ∧ m ≤ 1048576 ∧ Hid (8 < m ↔ Many rs k) ∧ Hid (RegsTo rs ri k)) (fun _ i => nt - (intOf i).toNat)
  case atStart => exact ⟨0, Nat.zero_le _, rfl, 0, rfl, by omega, by omega, ⟨fun h => absurd h (by omega), fun ⟨i, r, h, _⟩ => absurd h (by omega)⟩, fun i r q h => absurd h (by omega)⟩
  case round =>
    obtain ⟨k, hk, rfl, m, rfl, hm0, hm1, HM, HS⟩ := hrel
    by_cases hlt : k < nt
    · have hki : (k : Int) < nt := by omega
      obtain ⟨r, hr⟩ : ∃ r, rs[k]? = some r := ⟨_, List.getElem?_eq_getElem (by rw [HNR.out]; exact hlt)⟩
      obtain ⟨q, hq⟩ : ∃ q, ri[k]? = some q := ⟨_, List.getElem?_eq_getElem (by rw [HNI.out]; exact hlt)⟩
      obtain ⟨br, or', ar', cr', rfl, hbr, hcr, hsegr, _⟩ := (HR.out.below B1).at k r hr
      obtain ⟨bi, oi, ai', ci', rfl, hbi, hci, hsegi, _⟩ := (HI.out.below B1).at k q hq
      have HRk : Hid (rs[k]? = some r) := hr
      have HQk : Hid (ri[k]? = some q) := hq
      have hrl : r.length ≤ 1048576 := Nat.le_trans (by have := flat_at hr (Nat.le_refl _); rw [List.take_length, List.length_append] at this; omega) HRR.out
      have hql : q.length ≤ 1048576 := Nat.le_trans (by have := flat_at hq (Nat.le_refl _); rw [List.take_length, List.length_append] at this; omega) HII.out
      have cR := rising_reg r hrl ar' cr' W1 hsegr
      obtain ⟨x, hx⟩ : ∃ x, risB regB r = x := ⟨_, rfl⟩
      have HX : Hid (risB regB r = x) := hx
      rw [hx] at cR
      obtain ⟨rn, hrn⟩ : ∃ n, r.length = n := ⟨_, rfl⟩
      obtain ⟨qn, hqn⟩ : ∃ n, q.length = n := ⟨_, rfl⟩
      have HRN : Hid (r.length = rn) := hrn
      have HQN : Hid (q.length = qn) := hqn
      rw [hrn] at hcr hrl cR
      rw [hqn] at hci hql
      clear hr hq hsegr hsegi hx hrn hqn
      by_cases heq : qn = rn
      · have h1 : ((qn : Int) != rn) = false := by simp; omega
        cases x with
        | false =>
          have HF : Hid (regsErr p = 92) := HE1.out (regs_not HRk.out HQk.out fun h => by have := ris_t h.2; rw [HX.out] at this; cases this)
          clear heq
          go_wp2_with (go_at_call 25; refine cR.mono ?_; rintro en w' ⟨rfl, hw⟩; replace hw := hw.symm; subst hw)
          go_ret
          exact ⟨by rw [HF.out]; rfl, B1⟩
        | true =>
          have HN : Hid (RegsTo rs ri (k + 1)) := regs_next HS.out HRk.out HQk.out (by rw [HRN.out, HQN.out]; exact heq) (ris_iff.1 HX.out)
          have HMM : Hid (8 < max m (rn : Int) ↔ Many rs (k + 1)) := (by have := many_next HRk.out HM.out; rw [HRN.out] at this; exact this)
          clear heq
          go_wp2_with (go_at_call 25; refine cR.mono ?_; rintro en w' ⟨rfl, hw⟩; replace hw := hw.symm; subst hw)
          go_round
          case rel => exact ⟨k + 1, by omega, by go_num, max m (rn : Int), by first | rfl | (simp; split <;> omega), by omega, by omega, HMM, HN⟩
          case measure => simp [intOf]; omega
      · have h1 : ((qn : Int) != rn) = true := by simp; omega
        have HF : Hid (regsErr p = 92) := HE1.out (regs_not HRk.out HQk.out fun h => heq (by rw [← HRN.out, ← HQN.out]; exact h.1))
        clear heq cR
        go_wp2_with fail
        go_ret
        exact ⟨by rw [HF.out]; rfl, B1⟩
    · have hki : ¬ (k : Int) < nt := by omega
      have hkn : k = nt := by omega
      by_cases h8 : 8 < m
      · have HF : Hid (regsErr p = 98) := HE2.out (by have := HS.out; rw [hkn] at this; exact this) (by have := HM.out.1 h8; rw [hkn] at this; exact this)
        clear hkn
        go_wp2_with fail
        go_ret
        exact ⟨by rw [HF.out]; rfl, B1⟩
      · have HF : Hid (regsErr p = 0) := HE3.out (by have := HS.out; rw [hkn] at this; exact this) (fun h => h8 (HM.out.2 (by rw [hkn]; exact h)))
        clear hkn
        go_wp2_with fail
        go_ret
        exact ⟨by rw [HF.out]; rfl, B1⟩
theorem validRegs_any (p : PG) (hf : p.Few) (vt vr vl vi vj : Value) (w : World) (hp : PGV w vt vr vl vi vj p) :
    Calls Tryd.prog 24 #[.agg #[vt, vr, vl, vi, vj]] w fun en w' => en = .returned (.int .i64 (regsErr p)) ∧ Below w.heap.size w w' := by
  by_cases h1 : p.regs.length = p.threads.length
  · by_cases h2 : p.regInit.length = p.threads.length
    · exact validRegs_in p hf h1 h2 vt vr vl vi vj w hp
    · refine (validRegs_len p hf (.inr h2) vt vr vl vi vj w hp).mono ?_
      rintro en w' ⟨rfl, hB⟩
      exact ⟨by unfold regsErr; rw [if_pos (.inr h2)], hB⟩
  · refine (validRegs_len p hf (.inl h1) vt vr vl vi vj w hp).mono ?_
    rintro en w' ⟨rfl, hB⟩
    exact ⟨by unfold regsErr; rw [if_pos (.inl h1)], hB⟩
end Go.Proofs.YtdjlfpkemdiadaaDoor
