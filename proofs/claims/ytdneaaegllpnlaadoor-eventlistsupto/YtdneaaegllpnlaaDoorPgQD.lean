/- registers: the reference's side. -/
import Derived.Test.YtdneaaegllpnlaaDoorPgQC
namespace Go.Proofs.YtdneaaegllpnlaaDoor
open Go.RowKit M
set_option linter.unusedSimpArgs false
set_option linter.unusedVariables false

theorem ld44 {b o : Nat} {v : Value} (w : World) (h : w.cell? ⟨b, o, none⟩ = some v) : (Instr.loadAt 25 (.pointer (some ⟨b, o, none⟩))).run Tryd.prog w = .ok v w := by simp [go_sem, h]
theorem ld45 {b o : Nat} {v : Value} (w : World) (h : w.cell? ⟨b, o, none⟩ = some v) : (Instr.loadAt 26 (.pointer (some ⟨b, o, none⟩))).run Tryd.prog w = .ok v w := by simp [go_sem, h]
theorem ld41 {b o : Nat} {v : Value} (w : World) (h : w.cell? ⟨b, o, none⟩ = some v) : (Instr.loadAt 22 (.pointer (some ⟨b, o, none⟩))).run Tryd.prog w = .ok v w := by simp [go_sem, h]
theorem ld54 {b o : Nat} {v : Value} (w : World) (h : w.cell? ⟨b, o, none⟩ = some v) : (Instr.loadAt 73 (.pointer (some ⟨b, o, none⟩))).run Tryd.prog w = .ok v w := by simp [go_sem, h]
set_option maxRecDepth 100000 in
set_option maxHeartbeats 8000000 in
theorem registers_len (p : PG) (hf : p.Few) (hlen : p.regs.length ≠ p.threads.length ∨ p.regInit.length ≠ p.threads.length) (vt vr vl vi vj : Value) (w : World) (hp : PGV w vt vr vl vi vj p) :
    Calls Tryd.prog 88 #[.agg #[vt, vr, vl, vi, vj]] w fun en w' => en = .returned (.int .i64 92) ∧ Below w.heap.size w w' := by
  obtain ⟨at', ct, rfl⟩ := hp.t.form
  obtain ⟨ar, cr, rfl⟩ := hp.r.form
  obtain ⟨ai, ci, rfl⟩ := hp.i.form
  obtain ⟨nt, hnt⟩ : ∃ n, p.threads.length = n := ⟨_, rfl⟩
  obtain ⟨nr, hnr⟩ : ∃ n, p.regs.length = n := ⟨_, rfl⟩
  obtain ⟨ni, hni⟩ : ∃ n, p.regInit.length = n := ⟨_, rfl⟩
  rw [hnt, hnr, hni] at hlen
  rw [hnt, hnr, hni]
  clear hnt hnr hni hp hf
  have t1 : True := trivial
  by_cases h1 : nr = nt
  · have h2 : ni ≠ nt := by rcases hlen with h | h; exact absurd h1 h; exact h
    have h3 : ((ni : Int) != nt) = true := by simp; omega
    have h4 : ((nr : Int) != nt) = false := by simp; omega
    clear h1 h2 hlen
    go_enter Tryd.func88, Tryd.ntmps88
    go_wp2_with (clear t1; refine wpList_boxS rfl 28 _ rfl [.slice at' nt ct, .slice ar nr cr, vl, .slice ai ni ci, vj] rfl ?_; intro W1 b1 F1 C1; have B1 : Below w.heap.size w W1 := F1.trans (Below.refl _ w) (Nat.le_refl _); obtain ⟨k0, k1, k2, k3, k4⟩ := pg_cells C1 (Below.refl _ W1); clear F1)
    go_ret
    exact ⟨rfl, B1⟩
  · have h4 : ((nr : Int) != nt) = true := by simp; omega
    clear h1 hlen
    go_enter Tryd.func88, Tryd.ntmps88
    go_wp2_with (clear t1; refine wpList_boxS rfl 28 _ rfl [.slice at' nt ct, .slice ar nr cr, vl, .slice ai ni ci, vj] rfl ?_; intro W1 b1 F1 C1; have B1 : Below w.heap.size w W1 := F1.trans (Below.refl _ w) (Nat.le_refl _); obtain ⟨k0, k1, k2, k3, k4⟩ := pg_cells C1 (Below.refl _ W1); clear F1)
    go_ret
    exact ⟨rfl, B1⟩
set_option maxRecDepth 100000 in
set_option maxHeartbeats 8000000 in
theorem registers_in (p : PG) (hf : p.Few) (hl1 : p.regs.length = p.threads.length) (hl2 : p.regInit.length = p.threads.length) (vt vr vl vi vj : Value) (w : World) (hp : PGV w vt vr vl vi vj p) :
    Calls Tryd.prog 88 #[.agg #[vt, vr, vl, vi, vj]] w fun en w' => en = .returned (.int .i64 (regsErr p)) ∧ Below w.heap.size w w' := by
  obtain ⟨at', ct, rfl⟩ := hp.t.form
  obtain ⟨ar, cr, rfl⟩ := hp.r.form
  obtain ⟨ai, ci, rfl⟩ := hp.i.form
  have HR : Hid (RowsV w (.slice ar p.regs.length cr) strE p.regs) := hp.r
  have HI : Hid (RowsV w (.slice ai p.regInit.length ci) intE p.regInit) := hp.i
  obtain ⟨nt, hnt⟩ : ∃ n, p.threads.length = n := ⟨_, rfl⟩
  have hft := hf.t
  have HRR : Hid (p.regs.flatten.length ≤ 1048576) := hf.rr
  have HII : Hid (p.regInit.flatten.length ≤ 1048576) := hf.ii
  rw [hl1, hnt] at HR
  rw [hl2, hnt] at HI
  rw [hl1, hl2]
  rw [hnt] at hft ⊢
  have HNR : Hid (p.regs.length = nt) := hl1.trans hnt
  have HNI : Hid (p.regInit.length = nt) := hl2.trans hnt
  have HE1 : Hid (¬ RegsTo p.regs p.regInit p.regs.length → regsErr p = 92) := fun h => (by unfold regsErr; rw [if_neg (by simp [hl1, hl2]), if_pos h])
  have HE2 : Hid (RegsTo p.regs p.regInit nt → Many p.regs nt → regsErr p = 98) := fun h h' => (by unfold regsErr; rw [if_neg (by simp [hl1, hl2]), hl1.trans hnt, if_neg (by simpa using h), if_pos h'])
  have HE3 : Hid (RegsTo p.regs p.regInit nt → ¬ Many p.regs nt → regsErr p = 0) := fun h h' => (by unfold regsErr; rw [if_neg (by simp [hl1, hl2]), hl1.trans hnt, if_neg (by simpa using h), if_neg h'])
  clear hp hf hnt hl1 hl2
  obtain ⟨rs, ri, hE⟩ : ∃ t r, p.regs = t ∧ p.regInit = r := ⟨_, _, rfl, rfl⟩
  rw [hE.1] at HR HRR HNR
  rw [hE.2] at HI HII HNI
  rw [hE.1, hE.2] at HE1 HE2 HE3
  clear hE
  have t1 : True := trivial
  go_enter Tryd.func88, Tryd.ntmps88
  go_wp2_with (clear t1; refine wpList_boxS rfl 28 _ rfl [.slice at' nt ct, .slice ar nt cr, vl, .slice ai nt ci, vj] rfl ?_; intro W1 b1 F1 C1; have B1 : Below w.heap.size w W1 := F1.trans (Below.refl _ w) (Nat.le_refl _); obtain ⟨k0, k1, k2, k3, k4⟩ := pg_cells C1 (Below.refl _ W1); clear F1)
  go_loopw [4] (fun i wr => ∃ k : Nat, k ≤ nt ∧ i = .int .i64 k ∧ Hid (RegsTo rs ri k) ∧ Hid (Below W1.heap.size W1 wr)) (fun i _ => nt - (intOf i).toNat)
  case atStart => exact ⟨0, Nat.zero_le _, rfl, fun i r q h => absurd h (by omega), Below.refl _ _⟩
  case round =>
    obtain ⟨k, hk, rfl, HS, HB⟩ := hrel
    obtain ⟨WR, eWR⟩ : ∃ W, W = wr := ⟨_, rfl⟩
    subst eWR
    by_cases hlt : k < nt
    · have hki : (k : Int) < nt := by omega
      obtain ⟨r, hr⟩ : ∃ r, rs[k]? = some r := ⟨_, List.getElem?_eq_getElem (by rw [HNR.out]; exact hlt)⟩
      obtain ⟨q, hq⟩ : ∃ q, ri[k]? = some q := ⟨_, List.getElem?_eq_getElem (by rw [HNI.out]; exact hlt)⟩
      obtain ⟨br, or', ar', cr', rfl, hbr, hcr, hsegr, _⟩ := (HR.out.below B1).at k r hr
      obtain ⟨bi, oi, ai', ci', rfl, hbi, hci, hsegi, _⟩ := (HI.out.below B1).at k q hq
      have HRk : Hid (rs[k]? = some r) := hr
      have HQk : Hid (ri[k]? = some q) := hq
      have hrl : r.length ≤ 1048576 := Nat.le_trans (by have := flat_at hr (Nat.le_refl _); rw [List.take_length, List.length_append] at this; omega) HRR.out
      have hql : q.length ≤ 1048576 := Nat.le_trans (by have := flat_at hq (Nat.le_refl _); rw [List.take_length, List.length_append] at this; omega) HII.out
      have HSR : Hid (Seg W1 ar' (r.flatMap strE)) := hsegr
      have cR := fun W (hW : Below W1.heap.size W1 W) => rises_any r hrl ar' cr' W (hsegr.below hW)
      obtain ⟨x, hx⟩ : ∃ x, risB anyK r = x := ⟨_, rfl⟩
      have HX : Hid (risB anyK r = x) := hx
      obtain ⟨rn, hrn⟩ : ∃ n, r.length = n := ⟨_, rfl⟩
      obtain ⟨qn, hqn⟩ : ∃ n, q.length = n := ⟨_, rfl⟩
      have HRN : Hid (r.length = rn) := hrn
      have HQN : Hid (q.length = qn) := hqn
      rw [hx, hrn] at cR
      rw [hrn] at hcr hrl
      rw [hqn] at hci hql
      have KK := C1.grown HB.out
      have hcrw : WR.cell? ⟨br, or' + k, none⟩ = some (.slice ar' rn cr') := by rw [HB.out.cell (p := ⟨br, or' + k, none⟩) hbr]; exact hcr
      have hciw : WR.cell? ⟨bi, oi + k, none⟩ = some (.slice ai' qn ci') := by rw [HB.out.cell (p := ⟨bi, oi + k, none⟩) hbi]; exact hci
      clear hr hq hsegr hsegi hx hrn hqn
      obtain ⟨d, hd⟩ : ∃ d, ((qn : Int) != rn) = d := ⟨_, rfl⟩
      have HD : Hid (((qn : Int) != rn) = d) := hd
      cases d with
      | true =>
        have HF : Hid (regsErr p = 92) := HE1.out (regs_not HRk.out HQk.out fun h => by have := HD.out; simp at this; have h1 := h.1; rw [HRN.out, HQN.out] at h1; omega)
        go_wp2_with fail
        refine grow_allW (by kernel_rfl) (by kernel_rfl) ?_
        refine WG.put rfl (v := .pointer (some ⟨b1, 3, none⟩)) (fun w => by first | rfl | (go_simp; done) | (simp [go_sem]; done) | (simp [execOp, go_sem]; done)) ?_
        simp only [Act.put, List.setIfInBounds_toArray, List.set_cons_succ, List.set_cons_zero]
        refine WG.load1 rfl 25 _ rfl rfl KK (v := .slice (some ⟨bi, oi, none⟩) nt ci) rfl (fun w h => ld44 w h) ?_
        simp only [Act.put, List.setIfInBounds_toArray, List.set_cons_succ, List.set_cons_zero]
        refine WG.put rfl (v := .int .i64 (k : Int)) (fun w => by first | rfl | (go_simp; done) | (simp [go_sem]; done) | (simp [execOp, go_sem]; done)) ?_
        simp only [Act.put, List.setIfInBounds_toArray, List.set_cons_succ, List.set_cons_zero]
        refine WG.put rfl (v := .pointer (some ⟨bi, oi + k, none⟩)) (fun w => by first | rfl | (go_simp; done) | (simp [go_sem]; done) | (simp [execOp, go_sem]; done)) ?_
        simp only [Act.put, List.setIfInBounds_toArray, List.set_cons_succ, List.set_cons_zero]
        refine WG.cell rfl 26 _ rfl rfl hciw (fun w h => ld45 w h) ?_
        simp only [Act.put, List.setIfInBounds_toArray, List.set_cons_succ, List.set_cons_zero]
        refine WG.put rfl (v := .int .i64 (qn : Int)) (fun w => by first | rfl | (go_simp; done) | (simp [go_sem]; done) | (simp [execOp, go_sem]; done)) ?_
        simp only [Act.put, List.setIfInBounds_toArray, List.set_cons_succ, List.set_cons_zero]
        refine WG.put rfl (v := .pointer (some ⟨b1, 1, none⟩)) (fun w => by first | rfl | (go_simp; done) | (simp [go_sem]; done) | (simp [execOp, go_sem]; done)) ?_
        simp only [Act.put, List.setIfInBounds_toArray, List.set_cons_succ, List.set_cons_zero]
        refine WG.load1 rfl 23 _ rfl rfl KK (v := .slice (some ⟨br, or', none⟩) nt cr) rfl (fun w h => ld42 w h) ?_
        simp only [Act.put, List.setIfInBounds_toArray, List.set_cons_succ, List.set_cons_zero]
        refine WG.put rfl (v := .int .i64 (k : Int)) (fun w => by first | rfl | (go_simp; done) | (simp [go_sem]; done) | (simp [execOp, go_sem]; done)) ?_
        simp only [Act.put, List.setIfInBounds_toArray, List.set_cons_succ, List.set_cons_zero]
        refine WG.put rfl (v := .pointer (some ⟨br, or' + k, none⟩)) (fun w => by first | rfl | (go_simp; done) | (simp [go_sem]; done) | (simp [execOp, go_sem]; done)) ?_
        simp only [Act.put, List.setIfInBounds_toArray, List.set_cons_succ, List.set_cons_zero]
        refine WG.cell rfl 24 _ rfl rfl hcrw (fun w h => ld43 w h) ?_
        simp only [Act.put, List.setIfInBounds_toArray, List.set_cons_succ, List.set_cons_zero]
        refine WG.put rfl (v := .int .i64 (rn : Int)) (fun w => by first | rfl | (go_simp; done) | (simp [go_sem]; done) | (simp [execOp, go_sem]; done)) ?_
        simp only [Act.put, List.setIfInBounds_toArray, List.set_cons_succ, List.set_cons_zero]
        refine WG.put rfl (v := .bool true) (fun w => by simp [execOp, go_sem, hd]) ?_
        simp only [Act.put, List.setIfInBounds_toArray, List.set_cons_succ, List.set_cons_zero]
        refine WG.put rfl (v := .bool true) (fun w => by first | rfl | (go_simp; done) | (simp [go_sem]; done) | (simp [execOp, go_sem]; done)) ?_
        simp only [Act.put, List.setIfInBounds_toArray, List.set_cons_succ, List.set_cons_zero]
        refine WG.skip rfl ?_
        simp only [Act.put, List.setIfInBounds_toArray, List.set_cons_succ, List.set_cons_zero]
        refine WG.skip rfl ?_
        simp only [Act.put, List.setIfInBounds_toArray, List.set_cons_succ, List.set_cons_zero]
        refine WG.skip rfl ?_
        simp only [Act.put, List.setIfInBounds_toArray, List.set_cons_succ, List.set_cons_zero]
        refine WG.skip rfl ?_
        simp only [Act.put, List.setIfInBounds_toArray, List.set_cons_succ, List.set_cons_zero]
        refine WG.skip rfl ?_
        simp only [Act.put, List.setIfInBounds_toArray, List.set_cons_succ, List.set_cons_zero]
        refine WG.skip rfl ?_
        simp only [Act.put, List.setIfInBounds_toArray, List.set_cons_succ, List.set_cons_zero]
        refine WG.skip rfl ?_
        simp only [Act.put, List.setIfInBounds_toArray, List.set_cons_succ, List.set_cons_zero]
        refine WG.put rfl (v := .bool true) (fun w => by first | rfl | (go_simp; done) | (simp [go_sem]; done) | (simp [execOp, go_sem]; done)) ?_
        simp only [Act.put, List.setIfInBounds_toArray, List.set_cons_succ, List.set_cons_zero]
        refine WG.nil ?_
        intro W3 B3
        have B4 := Below.then HB.out B3
        clear hd
        go_wp2_with fail
        go_ret
        exact ⟨by rw [HF.out]; rfl, Below.then B1 B4⟩
      | false =>
        have heq : qn = rn := by have := HD.out; simp at this; omega
        have HEQ : Hid (qn = rn) := heq
        clear heq
        go_wp2_with fail
        refine grow_allW (by kernel_rfl) (by kernel_rfl) ?_
        refine WG.put rfl (v := .pointer (some ⟨b1, 3, none⟩)) (fun w => by first | rfl | (go_simp; done) | (simp [go_sem]; done) | (simp [execOp, go_sem]; done)) ?_
        simp only [Act.put, List.setIfInBounds_toArray, List.set_cons_succ, List.set_cons_zero]
        refine WG.load1 rfl 25 _ rfl rfl KK (v := .slice (some ⟨bi, oi, none⟩) nt ci) rfl (fun w h => ld44 w h) ?_
        simp only [Act.put, List.setIfInBounds_toArray, List.set_cons_succ, List.set_cons_zero]
        refine WG.put rfl (v := .int .i64 (k : Int)) (fun w => by first | rfl | (go_simp; done) | (simp [go_sem]; done) | (simp [execOp, go_sem]; done)) ?_
        simp only [Act.put, List.setIfInBounds_toArray, List.set_cons_succ, List.set_cons_zero]
        refine WG.put rfl (v := .pointer (some ⟨bi, oi + k, none⟩)) (fun w => by first | rfl | (go_simp; done) | (simp [go_sem]; done) | (simp [execOp, go_sem]; done)) ?_
        simp only [Act.put, List.setIfInBounds_toArray, List.set_cons_succ, List.set_cons_zero]
        refine WG.cell rfl 26 _ rfl rfl hciw (fun w h => ld45 w h) ?_
        simp only [Act.put, List.setIfInBounds_toArray, List.set_cons_succ, List.set_cons_zero]
        refine WG.put rfl (v := .int .i64 (qn : Int)) (fun w => by first | rfl | (go_simp; done) | (simp [go_sem]; done) | (simp [execOp, go_sem]; done)) ?_
        simp only [Act.put, List.setIfInBounds_toArray, List.set_cons_succ, List.set_cons_zero]
        refine WG.put rfl (v := .pointer (some ⟨b1, 1, none⟩)) (fun w => by first | rfl | (go_simp; done) | (simp [go_sem]; done) | (simp [execOp, go_sem]; done)) ?_
        simp only [Act.put, List.setIfInBounds_toArray, List.set_cons_succ, List.set_cons_zero]
        refine WG.load1 rfl 23 _ rfl rfl KK (v := .slice (some ⟨br, or', none⟩) nt cr) rfl (fun w h => ld42 w h) ?_
        simp only [Act.put, List.setIfInBounds_toArray, List.set_cons_succ, List.set_cons_zero]
        refine WG.put rfl (v := .int .i64 (k : Int)) (fun w => by first | rfl | (go_simp; done) | (simp [go_sem]; done) | (simp [execOp, go_sem]; done)) ?_
        simp only [Act.put, List.setIfInBounds_toArray, List.set_cons_succ, List.set_cons_zero]
        refine WG.put rfl (v := .pointer (some ⟨br, or' + k, none⟩)) (fun w => by first | rfl | (go_simp; done) | (simp [go_sem]; done) | (simp [execOp, go_sem]; done)) ?_
        simp only [Act.put, List.setIfInBounds_toArray, List.set_cons_succ, List.set_cons_zero]
        refine WG.cell rfl 24 _ rfl rfl hcrw (fun w h => ld43 w h) ?_
        simp only [Act.put, List.setIfInBounds_toArray, List.set_cons_succ, List.set_cons_zero]
        refine WG.put rfl (v := .int .i64 (rn : Int)) (fun w => by first | rfl | (go_simp; done) | (simp [go_sem]; done) | (simp [execOp, go_sem]; done)) ?_
        simp only [Act.put, List.setIfInBounds_toArray, List.set_cons_succ, List.set_cons_zero]
        refine WG.put rfl (v := .bool false) (fun w => by simp [execOp, go_sem, hd]) ?_
        simp only [Act.put, List.setIfInBounds_toArray, List.set_cons_succ, List.set_cons_zero]
        refine WG.put rfl (v := .bool false) (fun w => by first | rfl | (go_simp; done) | (simp [go_sem]; done) | (simp [execOp, go_sem]; done)) ?_
        simp only [Act.put, List.setIfInBounds_toArray, List.set_cons_succ, List.set_cons_zero]
        refine WG.put rfl (v := .pointer (some ⟨b1, 1, none⟩)) (fun w => by first | rfl | (go_simp; done) | (simp [go_sem]; done) | (simp [execOp, go_sem]; done)) ?_
        simp only [Act.put, List.setIfInBounds_toArray, List.set_cons_succ, List.set_cons_zero]
        refine WG.load1 rfl 23 _ rfl rfl KK (v := .slice (some ⟨br, or', none⟩) nt cr) rfl (fun w h => ld42 w h) ?_
        simp only [Act.put, List.setIfInBounds_toArray, List.set_cons_succ, List.set_cons_zero]
        refine WG.put rfl (v := .int .i64 (k : Int)) (fun w => by first | rfl | (go_simp; done) | (simp [go_sem]; done) | (simp [execOp, go_sem]; done)) ?_
        simp only [Act.put, List.setIfInBounds_toArray, List.set_cons_succ, List.set_cons_zero]
        refine WG.put rfl (v := .pointer (some ⟨br, or' + k, none⟩)) (fun w => by first | rfl | (go_simp; done) | (simp [go_sem]; done) | (simp [execOp, go_sem]; done)) ?_
        simp only [Act.put, List.setIfInBounds_toArray, List.set_cons_succ, List.set_cons_zero]
        refine WG.cell rfl 24 _ rfl rfl hcrw (fun w h => ld43 w h) ?_
        simp only [Act.put, List.setIfInBounds_toArray, List.set_cons_succ, List.set_cons_zero]
        refine WG.call rfl (f := 89) (args := #[.slice ar' rn cr']) (v := .bool x) (fun W hW => cR W (Below.then HB.out hW)) (fun w => by first | rfl | (go_simp; done)) ?_
        simp only [Act.put, List.setIfInBounds_toArray, List.set_cons_succ, List.set_cons_zero]
        refine WG.put rfl (v := .bool (!x)) (fun w => by first | rfl | (go_simp; done) | (simp [go_sem]; done) | (simp [execOp, go_sem]; done)) ?_
        simp only [Act.put, List.setIfInBounds_toArray, List.set_cons_succ, List.set_cons_zero]
        refine WG.put rfl (v := .bool (!x)) (fun w => by first | rfl | (go_simp; done) | (simp [go_sem]; done) | (simp [execOp, go_sem]; done)) ?_
        simp only [Act.put, List.setIfInBounds_toArray, List.set_cons_succ, List.set_cons_zero]
        refine WG.nil ?_
        intro W3 B3
        have B4 := Below.then HB.out B3
        clear hd cR KK hcrw hciw
        cases x with
        | false =>
          have HF : Hid (regsErr p = 92) := HE1.out (regs_not HRk.out HQk.out fun h => by have := ris_t ((ris_parts _ _).1 h.2).1; rw [show (fun _ => true) = anyK from rfl, HX.out] at this; cases this)
          go_wp2_with fail
          go_ret
          exact ⟨by rw [HF.out]; rfl, Below.then B1 B4⟩
        | true =>
          simp only [Bool.not_true]
          go_wp2_with fail
          go_loopw [5] (fun i wr => ∃ j : Nat, j ≤ rn ∧ i = .int .i64 j ∧ Hid (∀ i s, i < j → r[i]? = some s → regB s = true) ∧ Hid (Below W1.heap.size W1 wr)) (fun i _ => rn - (intOf i).toNat)
          case atStart => exact ⟨0, Nat.zero_le _, rfl, fun i s h => absurd h (by omega), B4⟩
          case round =>
            obtain ⟨j, hj, rfl, HS', HB'⟩ := hrel
            obtain ⟨k0, k1, k2, k3, k4⟩ := pg_cells C1 HB'.out
            by_cases hjt : j < rn
            · have hji : (j : Int) < rn := by omega
              obtain ⟨g, hg⟩ : ∃ g, r[j]? = some g := ⟨_, List.getElem?_eq_getElem (by rw [HRN.out]; exact hjt)⟩
              have HG : Hid (r[j]? = some g) := hg
              obtain ⟨b', o', rfl, hb', hc'⟩ := (HSR.out.below HB'.out).str hg
              have hcr' : wr.cell? ⟨br, or' + k, none⟩ = some (.slice (some ⟨b', o', none⟩) rn cr') := by rw [HB'.out.cell (p := ⟨br, or' + k, none⟩) hbr]; exact hcr
              obtain ⟨y, hy⟩ : ∃ y, regB g = y := ⟨_, rfl⟩
              have HY : Hid (regB g = y) := hy
              have cG := fun w => rregister_any g w
              rw [hy] at cG
              clear hg hy
              cases y with
              | false =>
                have HF : Hid (regsErr p = 92) := HE1.out (regs_not HRk.out HQk.out fun h => by have := ((ris_parts _ _).1 h.2).2 g (List.mem_of_getElem? HG.out); rw [HY.out] at this; cases this)
                go_wp2_with (go_at_call 108; refine (cG _).mono ?_; rintro en W5 ⟨rfl, B5x⟩; have B5 := Below.then HB'.out B5x)
                go_ret
                exact ⟨by rw [HF.out]; rfl, Below.then B1 B5⟩
              | true =>
                go_wp2_with (go_at_call 108; refine (cG _).mono ?_; rintro en W5 ⟨rfl, B5x⟩; have B5 := Below.then HB'.out B5x)
                go_roundw
                case rel => exact ⟨j + 1, by omega, by go_num, fun i s hi hs => by
                  rcases Nat.lt_or_ge i j with h | h
                  · exact HS'.out i s h hs
                  · have : i = j := by omega
                    subst this
                    rw [HG.out] at hs; cases hs; exact HY.out, B5⟩
                case measure => simp [intOf]; omega
            · have hji : ¬ (j : Int) < rn := by omega
              have hcr' : wr.cell? ⟨br, or' + k, none⟩ = some (.slice ar' rn cr') := by rw [HB'.out.cell (p := ⟨br, or' + k, none⟩) hbr]; exact hcr
              have HZ : Hid (RegsTo rs ri (k + 1)) := regs_next HS.out HRk.out HQk.out (by rw [HRN.out, HQN.out]; exact HEQ.out) ((ris_parts _ _).2 ⟨ris_iff.1 HX.out, fun s hs => by
                obtain ⟨i, hi⟩ := List.getElem?_of_mem hs
                exact HS'.out i s (by have := (List.getElem?_eq_some_iff.1 hi).1; have := HRN.out; omega) hi⟩)
              go_wp2_with fail
              go_roundw
              case rel => exact ⟨k + 1, by omega, by go_num, HZ, HB'⟩
              case measure => simp [intOf]; omega
    · have hki : ¬ (k : Int) < nt := by omega
      have HRT : Hid (RegsTo rs ri nt) := (by have := HS.out; rw [show k = nt by omega] at this; exact this)
      obtain ⟨k0, k1, k2, k3, k4⟩ := pg_cells C1 HB.out
      go_wp2_with fail
      go_loop [6] (fun i => ∃ j : Nat, j ≤ nt ∧ i = .int .i64 j ∧ Hid (¬ Many rs j)) (fun i => nt - (intOf i).toNat)
      case atStart => exact ⟨0, Nat.zero_le _, rfl, fun ⟨i, r, h, _⟩ => absurd h (by omega)⟩
      case round =>
        obtain ⟨j, hj, rfl, HM⟩ := hrel
        by_cases hjt : j < nt
        · have hji : (j : Int) < nt := by omega
          obtain ⟨r, hr⟩ : ∃ r, rs[j]? = some r := ⟨_, List.getElem?_eq_getElem (by rw [HNR.out]; exact hjt)⟩
          obtain ⟨br, or', ar', cr', rfl, hbr, hcr, hsegr, _⟩ := (HR.out.below (Below.then B1 HB.out)).at j r hr
          have HRk : Hid (rs[j]? = some r) := hr
          obtain ⟨rn, hrn⟩ : ∃ n, r.length = n := ⟨_, rfl⟩
          have HRN : Hid (r.length = rn) := hrn
          have hrl : r.length ≤ 1048576 := Nat.le_trans (by have := flat_at hr (Nat.le_refl _); rw [List.take_length, List.length_append] at this; omega) HRR.out
          rw [hrn] at hcr hrl
          clear hr hrn hsegr
          by_cases h8 : 8 < rn
          · have h8i : (8 : Int) < rn := by omega
            have HF : Hid (regsErr p = 98) := HE2.out HRT.out ⟨j, r, hjt, HRk.out, by rw [HRN.out]; exact h8⟩
            go_wp2_with fail
            go_ret
            exact ⟨by rw [HF.out]; rfl, Below.then B1 HB.out⟩
          · have h8i : ¬ (8 : Int) < rn := by omega
            have HMN : Hid (¬ Many rs (j + 1)) := fun ⟨i, r', hi, hr', h⟩ => (by
              rcases Nat.lt_or_ge i j with h' | h'
              · exact HM.out ⟨i, r', h', hr', h⟩
              · have : i = j := by omega
                subst this
                rw [HRk.out] at hr'; cases hr'
                rw [HRN.out] at h; exact h8 h)
            go_wp2_with fail
            go_round
            case rel => exact ⟨j + 1, by omega, by go_num, HMN⟩
            case measure => simp [intOf]; omega
        · have hji : ¬ (j : Int) < nt := by omega
          have HF : Hid (regsErr p = 0) := HE3.out HRT.out (by have := HM.out; rw [show j = nt by omega] at this; exact this)
          go_wp2_with fail
          go_ret
          exact ⟨by rw [HF.out]; rfl, Below.then B1 HB.out⟩
theorem registers_any (p : PG) (hf : p.Few) (vt vr vl vi vj : Value) (w : World) (hp : PGV w vt vr vl vi vj p) :
    Calls Tryd.prog 88 #[.agg #[vt, vr, vl, vi, vj]] w fun en w' => en = .returned (.int .i64 (regsErr p)) ∧ Below w.heap.size w w' := by
  by_cases h1 : p.regs.length = p.threads.length
  · by_cases h2 : p.regInit.length = p.threads.length
    · exact registers_in p hf h1 h2 vt vr vl vi vj w hp
    · refine (registers_len p hf (.inr h2) vt vr vl vi vj w hp).mono ?_
      rintro en w' ⟨rfl, hB⟩
      exact ⟨by unfold regsErr; rw [if_pos (.inr h2)], hB⟩
  · refine (registers_len p hf (.inl h1) vt vr vl vi vj w hp).mono ?_
    rintro en w' ⟨rfl, hB⟩
    exact ⟨by unfold regsErr; rw [if_pos (.inl h1)], hB⟩
end Go.Proofs.YtdneaaegllpnlaaDoor
