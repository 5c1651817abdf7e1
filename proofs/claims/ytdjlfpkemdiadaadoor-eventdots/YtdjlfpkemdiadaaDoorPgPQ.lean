/- validOps: whether all instructions of a program can be made: the program's side. -/
import Derived.Test.YtdjlfpkemdiadaaDoorPgPW
import Derived.Test.YtdjlfpkemdiadaaDoorPgPR
namespace Go.Proofs.YtdjlfpkemdiadaaDoor
open Go.RowKit M
set_option linter.unusedSimpArgs false
set_option linter.unusedVariables false

def OpsTo (ths : List (List Op5)) (rs : List (List ByteArray)) (nl k : Nat) : Prop := ∀ i l r, i < k → ths[i]? = some l → rs[i]? = some r → ∀ o ∈ l, opOk o r nl = true
noncomputable def opsB (p : PG) : Bool := @decide (OpsTo p.threads p.regs p.locs.length p.threads.length) (Classical.propDecidable _)
theorem opsB_t {p : PG} (h : OpsTo p.threads p.regs p.locs.length p.threads.length) : opsB p = true := @decide_eq_true _ (Classical.propDecidable _) h
theorem opsB_f {p : PG} (h : ¬ OpsTo p.threads p.regs p.locs.length p.threads.length) : opsB p = false := @decide_eq_false _ (Classical.propDecidable _) h
theorem ops_next {ths : List (List Op5)} {rs : List (List ByteArray)} {nl k : Nat} {l : List Op5} {r : List ByteArray} (h : OpsTo ths rs nl k) (hl : ths[k]? = some l) (hr : rs[k]? = some r) (ho : ∀ i o, i < l.length → l[i]? = some o → opOk o r nl = true) : OpsTo ths rs nl (k + 1) := fun i l' r' hi hl' hr' o hm => by
  rcases Nat.lt_or_ge i k with h' | h'
  · exact h i l' r' h' hl' hr' o hm
  · have : i = k := by omega
    subst this
    rw [hl] at hl'; rw [hr] at hr'; cases hl'; cases hr'
    obtain ⟨j, hj⟩ := List.getElem?_of_mem hm
    exact ho j o (List.getElem?_eq_some_iff.1 hj).1 hj
theorem ops_not {ths : List (List Op5)} {rs : List (List ByteArray)} {nl k j : Nat} {l : List Op5} {r : List ByteArray} {o : Op5} (hl : ths[k]? = some l) (hr : rs[k]? = some r) (ho : l[j]? = some o) (hf : opOk o r nl = false) : ¬ OpsTo ths rs nl ths.length := fun h => by
  have := h k l r (List.getElem?_eq_some_iff.1 hl).1 hl hr o (List.mem_of_getElem? ho)
  rw [hf] at this; cases this
theorem ld42 {b o : Nat} {v : Value} (w : World) (h : w.cell? ⟨b, o, none⟩ = some v) : (Instr.loadAt 23 (.pointer (some ⟨b, o, none⟩))).run Tryd.prog w = .ok v w := by simp [go_sem, h]
theorem ld43 {b o : Nat} {v : Value} (w : World) (h : w.cell? ⟨b, o, none⟩ = some v) : (Instr.loadAt 24 (.pointer (some ⟨b, o, none⟩))).run Tryd.prog w = .ok v w := by simp [go_sem, h]
set_option maxRecDepth 100000 in
set_option maxHeartbeats 8000000 in
theorem validOps_any (p : PG) (hf : p.Few) (hlen : p.regs.length = p.threads.length) (vt vr vl vi vj : Value) (w : World) (hp : PGV w vt vr vl vi vj p) :
    Calls Tryd.prog 27 #[.agg #[vt, vr, vl, vi, vj]] w fun en w' => en = .returned (.bool (opsB p)) ∧ Below w.heap.size w w' := by
  obtain ⟨at', ct, rfl⟩ := hp.t.form
  obtain ⟨ar, cr, rfl⟩ := hp.r.form
  obtain ⟨al, cl, rfl, hsl, _⟩ := hp.l
  have HT : Hid (RowsV w (.slice at' p.threads.length ct) op5L p.threads) := hp.t
  have HR : Hid (RowsV w (.slice ar p.regs.length cr) strE p.regs) := hp.r
  obtain ⟨nt, hnt⟩ : ∃ n, p.threads.length = n := ⟨_, rfl⟩
  obtain ⟨nl, hnl⟩ : ∃ n, p.locs.length = n := ⟨_, rfl⟩
  have hft := hf.t
  have HTT : Hid (p.threads.flatten.length ≤ 1048576) := hf.tt
  have HRR : Hid (p.regs.flatten.length ≤ 1048576) := hf.rr
  have hfl := hf.l
  rw [hlen, hnt] at HR
  rw [hlen]
  rw [hnt] at HT hft ⊢
  rw [hnl] at hfl ⊢
  have HNT : Hid (p.threads.length = nt) := hnt
  have HNR : Hid (p.regs.length = nt) := hlen.trans hnt
  have HET : Hid (OpsTo p.threads p.regs nl nt → opsB p = true) := fun h => opsB_t (by rw [hnt, hnl]; exact h)
  have HEF : Hid (¬ OpsTo p.threads p.regs nl p.threads.length → opsB p = false) := fun h => opsB_f (by rw [hnl]; exact h)
  clear hp hf hnt hnl hlen hsl
  obtain ⟨ths, rs, hE⟩ : ∃ t r, p.threads = t ∧ p.regs = r := ⟨_, _, rfl, rfl⟩
  rw [hE.1] at HT HTT HNT
  rw [hE.2] at HR HRR HNR
  rw [hE.1, hE.2] at HET HEF
  clear hE
  have t1 : True := trivial
  go_enter Tryd.func27, Tryd.ntmps27
  go_wp2_with (clear t1; refine wpList_boxS rfl 28 _ rfl [.slice at' nt ct, .slice ar nt cr, .slice al nl cl, vi, vj] rfl ?_; intro W1 b1 F1 C1; have B1 : Below w.heap.size w W1 := F1.trans (Below.refl _ w) (Nat.le_refl _); obtain ⟨k0, k1, k2, k3, k4⟩ := pg_cells C1 (Below.refl _ W1); clear F1)
  go_loopw [10] (fun i wr => ∃ k : Nat, k ≤ nt ∧ i = .int .i64 k ∧ Hid (OpsTo ths rs nl k) ∧ Hid (Below W1.heap.size W1 wr)) (fun i _ => nt - (intOf i).toNat)
  case atStart => exact ⟨0, Nat.zero_le _, rfl, fun i l r h => absurd h (by omega), Below.refl _ _⟩
  case round =>
    obtain ⟨k, hk, rfl, HS, HB⟩ := hrel
    obtain ⟨WR, eWR⟩ : ∃ W, W = wr := ⟨_, rfl⟩
    subst eWR
    by_cases hlt : k < nt
    · have hki : (k : Int) < nt := by omega
      obtain ⟨l, hl⟩ : ∃ l, ths[k]? = some l := ⟨_, List.getElem?_eq_getElem (by rw [HNT.out]; exact hlt)⟩
      obtain ⟨r, hr⟩ : ∃ r, rs[k]? = some r := ⟨_, List.getElem?_eq_getElem (by rw [HNR.out]; exact hlt)⟩
      obtain ⟨b, o, a', c', rfl, hb, hc, hseg, _⟩ := (HT.out.below (Below.then B1 HB.out)).at k l hl
      obtain ⟨br, or', ar', cr', rfl, hbr, hcr, hsegr, _⟩ := (HR.out.below (Below.then B1 HB.out)).at k r hr
      have HG : Hid (Seg WR a' (l.flatMap op5L)) := hseg
      have HGR : Hid (Seg WR ar' (r.flatMap strE)) := hsegr
      have HL : Hid (ths[k]? = some l) := hl
      have HRk : Hid (rs[k]? = some r) := hr
      have hll : l.length ≤ 1048576 := Nat.le_trans (by have := flat_at hl (Nat.le_refl _); rw [List.take_length, List.length_append] at this; omega) HTT.out
      have HRL : Hid (r.length ≤ 1048576) := Nat.le_trans (by have := flat_at hr (Nat.le_refl _); rw [List.take_length, List.length_append] at this; omega) HRR.out
      obtain ⟨nn, hnn⟩ : ∃ n, l.length = n := ⟨_, rfl⟩
      have HNN : Hid (l.length = nn) := hnn
      rw [hnn] at hc hll
      clear hl hseg hnn hsegr hr
      go_wp2_with fail
      go_loopw [17] (fun i wr' => ∃ j : Nat, j ≤ nn ∧ i = .int .i64 j ∧ Hid (∀ i o, i < j → l[i]? = some o → opOk o r nl = true) ∧ Hid (Below WR.heap.size WR wr')) (fun i _ => nn - (intOf i).toNat)
      case atStart => exact ⟨0, Nat.zero_le _, rfl, fun i o h => absurd h (by omega), Below.refl _ _⟩
      case round =>
        obtain ⟨j, hj, rfl, HS', HB'⟩ := hrel
        by_cases hjt : j < nn
        · have hji : (j : Int) < nn := by omega
          obtain ⟨g, hg⟩ : ∃ g, l[j]? = some g := ⟨_, List.getElem?_eq_getElem (by rw [HNN.out]; exact hjt)⟩
          have HGJ : Hid (l[j]? = some g) := hg
          obtain ⟨b', o', rfl, hb', hr'⟩ := (HG.out.below HB'.out).op hg
          clear hg
          have t2 : True := trivial
          have t3 : True := trivial
          have t4 : True := trivial
          go_wp2_with (first
            | (clear t2; refine wpList_load_mid rfl 58 _ rfl b' (o' + j * 5) rfl (op5L g) _ hr' Tryd.underlying58 rfl infoOp ?_)
            | (clear t3; refine wpList_allocS rfl 58 rfl (op5L ⟨0, 0, 0, 0, 0⟩) Tryd.zeroValue58 ?_; intro W3 b3 F3 C3; have B3 := F3.trans HB'.out HB'.out.size; have h3 : WR.heap.size ≤ b3 := Nat.le_trans HB'.out.size (Nat.le_of_eq F3.at'.symm); clear F3)
            | (clear t4; refine wpList_storeS rfl 58 _ _ rfl rfl (op5L g) rfl C3 (by simp [op5L]) infoOp (op_one _) ?_; intro W4 U4 C4x; have C4 : IsS W4 b3 58 (op5L g) := C4x; have B4 := U4.trans B3 h3; clear U4 C3 C4x B3))
          have K4 := C1.grown (Below.then HB.out B4)
          have hcr4 : W4.cell? ⟨br, or' + k, none⟩ = some (.slice ar' r.length cr') := by rw [B4.cell (p := ⟨br, or' + k, none⟩) hbr]; exact hcr
          have SG4 : Seg W4 ar' (r.flatMap strE) := HGR.out.below B4
          obtain ⟨q, hq⟩ : ∃ q, opOk g r nl = q := ⟨_, rfl⟩
          have HQ : Hid (opOk g r nl = q) := hq
          have cV := fun W (hW : Below W4.heap.size W4 W) => validOp_any g r HRL.out ar' cr' al nl cl W (SG4.below hW)
          rw [hq] at cV
          clear hq
          refine grow_allW (by kernel_rfl) (by kernel_rfl) ?_
          refine WG.row rfl 58 _ rfl rfl C4 (op5L g) rfl _ Tryd.underlying58 rfl infoOp ?_
          simp only [Act.put, List.setIfInBounds_toArray, List.set_cons_succ, List.set_cons_zero]
          refine WG.put rfl (v := .pointer (some ⟨b1, 1, none⟩)) (fun w => by first | rfl | (go_simp; done) | (simp [go_sem]; done)) ?_
          simp only [Act.put, List.setIfInBounds_toArray, List.set_cons_succ, List.set_cons_zero]
          refine WG.load1 rfl 23 _ rfl rfl K4 (v := .slice (some ⟨br, or', none⟩) nt cr) rfl (fun w h => ld42 w h) ?_
          simp only [Act.put, List.setIfInBounds_toArray, List.set_cons_succ, List.set_cons_zero]
          refine WG.put rfl (v := .int .i64 (k : Int)) (fun w => by first | rfl | (go_simp; done) | (simp [go_sem]; done)) ?_
          simp only [Act.put, List.setIfInBounds_toArray, List.set_cons_succ, List.set_cons_zero]
          refine WG.put rfl (v := .pointer (some ⟨br, or' + k, none⟩)) (fun w => by first | rfl | (go_simp; done) | (simp [go_sem]; done)) ?_
          simp only [Act.put, List.setIfInBounds_toArray, List.set_cons_succ, List.set_cons_zero]
          refine WG.cell rfl 24 _ rfl rfl hcr4 (fun w h => ld43 w h) ?_
          simp only [Act.put, List.setIfInBounds_toArray, List.set_cons_succ, List.set_cons_zero]
          refine WG.put rfl (v := .pointer (some ⟨b1, 2, none⟩)) (fun w => by first | rfl | (go_simp; done) | (simp [go_sem]; done)) ?_
          simp only [Act.put, List.setIfInBounds_toArray, List.set_cons_succ, List.set_cons_zero]
          refine WG.load1 rfl 24 _ rfl rfl K4 (v := .slice al nl cl) rfl (fun w h => ld43 w h) ?_
          simp only [Act.put, List.setIfInBounds_toArray, List.set_cons_succ, List.set_cons_zero]
          refine WG.call rfl (f := 69) (args := #[.agg (op5L g).toArray, .slice ar' r.length cr', .slice al nl cl]) (v := .bool q) (fun W hW => cV W hW) (fun w => by first | rfl | (go_simp; done)) ?_
          simp only [Act.put, List.setIfInBounds_toArray, List.set_cons_succ, List.set_cons_zero]
          refine WG.put rfl (v := .bool (!q)) (fun w => by first | rfl | (go_simp; done) | (simp [execOp, go_sem]; done)) ?_
          simp only [Act.put, List.setIfInBounds_toArray, List.set_cons_succ, List.set_cons_zero]
          refine WG.nil ?_
          intro W5 B5x
          have B5 := Below.then B4 B5x
          clear cV SG4 hcr4 K4 C4 B5x
          cases q with
          | false =>
            have HF : Hid (opsB p = false) := HEF.out (ops_not HL.out HRk.out HGJ.out HQ.out)
            go_wp2_with fail
            go_ret
            exact ⟨by rw [HF.out]; rfl, Below.then B1 (Below.then HB.out B5)⟩
          | true =>
            go_wp2_with fail
            go_roundw
            case rel => exact ⟨j + 1, by omega, by go_num, fun i o hi ho => by
              rcases Nat.lt_or_ge i j with h | h
              · exact HS'.out i o h ho
              · have : i = j := by omega
                subst this
                rw [HGJ.out] at ho; cases ho; exact HQ.out, B5⟩
            case measure => simp [intOf]; omega
        · have hji : ¬ (j : Int) < nn := by omega
          have HX : Hid (OpsTo ths rs nl (k + 1)) := ops_next HS.out HL.out HRk.out (fun i o hi ho => HS'.out i o (by have := HNN.out; omega) ho)
          go_wp2_with fail
          go_roundw
          case rel => exact ⟨k + 1, by omega, by go_num, HX, Below.then HB.out HB'.out⟩
          case measure => simp [intOf]; omega
    · have hki : ¬ (k : Int) < nt := by omega
      have HX : Hid (opsB p = true) := HET.out (by have := HS.out; rw [show k = nt by omega] at this; exact this)
      go_wp2_with fail
      go_ret
      exact ⟨by rw [HX.out]; rfl, Below.then B1 HB.out⟩
end Go.Proofs.YtdjlfpkemdiadaaDoor
