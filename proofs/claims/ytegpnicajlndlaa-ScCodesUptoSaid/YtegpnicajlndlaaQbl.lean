/- Several texts in one: SI, SS. -/
import Derived.Test.YtegpnicajlndlaaQas
import Derived.Test.YtegpnicajlndlaaQbk
/- SameInts and sameValues of the same. -/
namespace Go.Proofs.Ytegpnicajlndlaa
open Go.RowKit M
set_option linter.unusedSimpArgs false
set_option linter.unusedVariables false

set_option maxRecDepth 100000 in
set_option maxHeartbeats 4000000 in
theorem sameInts_any (l : List Int) (hl : l.length ≤ 1048576) (a1 a2 : Option Addr) (c1 c2 : Nat) (w : World) (h1 : Seg w a1 (l.flatMap intE)) (h2 : Seg w a2 (l.flatMap intE)) :
    Calls Try.prog 34 #[.slice a1 l.length c1, .slice a2 l.length c2] w fun en w' => en = .returned (.bool true) ∧ Below w.heap.size w w' := by
  have H1 : Hid (Seg w a1 (l.flatMap intE)) := h1
  have H2 : Hid (Seg w a2 (l.flatMap intE)) := h2
  obtain ⟨nn, hnn⟩ : ∃ n, l.length = n := ⟨_, rfl⟩
  have HN : Hid (l.length = nn) := hnn
  rw [hnn] at hl ⊢
  clear h1 h2 hnn
  go_enter Try.func34, Try.ntmps34
  go_wp2_with fail
  go_loopw [5] (fun i wr => ∃ j : Nat, j ≤ nn ∧ i = .int .i64 (j : Int) ∧ Hid (Below w.heap.size w wr)) (fun i _ => nn - (intOf i).toNat)
  case atStart => exact ⟨0, by omega, rfl, Below.refl _ _⟩
  case round =>
    obtain ⟨j, hj, rfl, HB⟩ := hrel
    by_cases hlt : j < nn
    · have hi : (j : Int) < nn := by omega
      obtain ⟨g, hg⟩ : ∃ g, l[j]? = some g := ⟨_, List.getElem?_eq_getElem (by rw [HN.out]; exact hlt)⟩
      obtain ⟨b, o, rfl, hb, hc⟩ := (H1.out.below HB.out).int hg
      obtain ⟨b', o', rfl, hb', hc'⟩ := (H2.out.below HB.out).int hg
      clear hg
      go_wp2_with fail
      refine grow_allW (by kernel_rfl) (by kernel_rfl) ?_
      refine WG.put rfl (v := .slice (some ⟨b, o, none⟩) nn c1) (fun w => by first | rfl | (go_simp; done) | (simp [go_sem]; done) | (simp [execOp, go_sem]; done)) ?_
      simp only [Act.put, List.setIfInBounds_toArray, List.set_cons_succ, List.set_cons_zero]
      refine WG.put rfl (v := .int .i64 (j : Int)) (fun w => by first | rfl | (go_simp; done) | (simp [go_sem]; done) | (simp [execOp, go_sem]; done)) ?_
      simp only [Act.put, List.setIfInBounds_toArray, List.set_cons_succ, List.set_cons_zero]
      refine WG.put rfl (v := .pointer (some ⟨b, o + j, none⟩)) (fun w => by first | rfl | (go_simp; done) | (simp [go_sem]; done) | (simp [execOp, go_sem]; done)) ?_
      simp only [Act.put, List.setIfInBounds_toArray, List.set_cons_succ, List.set_cons_zero]
      refine WG.cell rfl 3 _ rfl rfl hc (fun w h => ld3 w h) ?_
      simp only [Act.put, List.setIfInBounds_toArray, List.set_cons_succ, List.set_cons_zero]
      refine WG.put rfl (v := .slice (some ⟨b', o', none⟩) nn c2) (fun w => by first | rfl | (go_simp; done) | (simp [go_sem]; done) | (simp [execOp, go_sem]; done)) ?_
      simp only [Act.put, List.setIfInBounds_toArray, List.set_cons_succ, List.set_cons_zero]
      refine WG.put rfl (v := .int .i64 (j : Int)) (fun w => by first | rfl | (go_simp; done) | (simp [go_sem]; done) | (simp [execOp, go_sem]; done)) ?_
      simp only [Act.put, List.setIfInBounds_toArray, List.set_cons_succ, List.set_cons_zero]
      refine WG.put rfl (v := .pointer (some ⟨b', o' + j, none⟩)) (fun w => by first | rfl | (go_simp; done) | (simp [go_sem]; done) | (simp [execOp, go_sem]; done)) ?_
      simp only [Act.put, List.setIfInBounds_toArray, List.set_cons_succ, List.set_cons_zero]
      refine WG.cell rfl 3 _ rfl rfl hc' (fun w h => ld3 w h) ?_
      simp only [Act.put, List.setIfInBounds_toArray, List.set_cons_succ, List.set_cons_zero]
      refine WG.put rfl (v := .bool false) (fun w => by first | rfl | (go_simp; done) | (simp [go_sem]; done) | (simp [execOp, go_sem]; done)) ?_
      simp only [Act.put, List.setIfInBounds_toArray, List.set_cons_succ, List.set_cons_zero]
      refine WG.nil ?_
      intro W3 B3
      have B4 : Hid (Below w.heap.size w W3) := Below.then HB.out B3
      go_wp2_with fail
      go_roundw
      case rel => exact ⟨j + 1, by omega, by go_num, B4⟩
      case measure => simp [intOf]; omega
    · have hi : ¬ (j : Int) < nn := by omega
      go_wp2_with fail
      go_ret
      exact ⟨rfl, HB.out⟩
set_option maxRecDepth 100000 in
set_option maxHeartbeats 4000000 in
theorem sameV11_any (l : List Int) (hl : l.length ≤ 1048576) (a1 a2 : Option Addr) (c1 c2 : Nat) (w : World) (h1 : Seg w a1 (l.flatMap intE)) (h2 : Seg w a2 (l.flatMap intE)) :
    Calls Try.prog 48 #[.slice a1 l.length c1, .slice a2 l.length c2] w fun en w' => en = .returned (.bool true) ∧ Below w.heap.size w w' := by
  have H1 : Hid (Seg w a1 (l.flatMap intE)) := h1
  have H2 : Hid (Seg w a2 (l.flatMap intE)) := h2
  obtain ⟨nn, hnn⟩ : ∃ n, l.length = n := ⟨_, rfl⟩
  have HN : Hid (l.length = nn) := hnn
  rw [hnn] at hl ⊢
  clear h1 h2 hnn
  go_enter Try.func48, Try.ntmps48
  go_wp2_with fail
  go_loopw [5] (fun i wr => ∃ j : Nat, j ≤ nn ∧ i = .int .i64 (j : Int) ∧ Hid (Below w.heap.size w wr)) (fun i _ => nn - (intOf i).toNat)
  case atStart => exact ⟨0, by omega, rfl, Below.refl _ _⟩
  case round =>
    obtain ⟨j, hj, rfl, HB⟩ := hrel
    by_cases hlt : j < nn
    · have hi : (j : Int) < nn := by omega
      obtain ⟨g, hg⟩ : ∃ g, l[j]? = some g := ⟨_, List.getElem?_eq_getElem (by rw [HN.out]; exact hlt)⟩
      obtain ⟨b, o, rfl, hb, hc⟩ := (H1.out.below HB.out).int hg
      obtain ⟨b', o', rfl, hb', hc'⟩ := (H2.out.below HB.out).int hg
      clear hg
      go_wp2_with fail
      refine grow_allW (by kernel_rfl) (by kernel_rfl) ?_
      refine WG.put rfl (v := .slice (some ⟨b, o, none⟩) nn c1) (fun w => by first | rfl | (go_simp; done) | (simp [go_sem]; done) | (simp [execOp, go_sem]; done)) ?_
      simp only [Act.put, List.setIfInBounds_toArray, List.set_cons_succ, List.set_cons_zero]
      refine WG.put rfl (v := .int .i64 (j : Int)) (fun w => by first | rfl | (go_simp; done) | (simp [go_sem]; done) | (simp [execOp, go_sem]; done)) ?_
      simp only [Act.put, List.setIfInBounds_toArray, List.set_cons_succ, List.set_cons_zero]
      refine WG.put rfl (v := .pointer (some ⟨b, o + j, none⟩)) (fun w => by first | rfl | (go_simp; done) | (simp [go_sem]; done) | (simp [execOp, go_sem]; done)) ?_
      simp only [Act.put, List.setIfInBounds_toArray, List.set_cons_succ, List.set_cons_zero]
      refine WG.cell rfl 2 _ rfl rfl hc (fun w h => ld2 w h) ?_
      simp only [Act.put, List.setIfInBounds_toArray, List.set_cons_succ, List.set_cons_zero]
      refine WG.put rfl (v := .slice (some ⟨b', o', none⟩) nn c2) (fun w => by first | rfl | (go_simp; done) | (simp [go_sem]; done) | (simp [execOp, go_sem]; done)) ?_
      simp only [Act.put, List.setIfInBounds_toArray, List.set_cons_succ, List.set_cons_zero]
      refine WG.put rfl (v := .int .i64 (j : Int)) (fun w => by first | rfl | (go_simp; done) | (simp [go_sem]; done) | (simp [execOp, go_sem]; done)) ?_
      simp only [Act.put, List.setIfInBounds_toArray, List.set_cons_succ, List.set_cons_zero]
      refine WG.put rfl (v := .pointer (some ⟨b', o' + j, none⟩)) (fun w => by first | rfl | (go_simp; done) | (simp [go_sem]; done) | (simp [execOp, go_sem]; done)) ?_
      simp only [Act.put, List.setIfInBounds_toArray, List.set_cons_succ, List.set_cons_zero]
      refine WG.cell rfl 2 _ rfl rfl hc' (fun w h => ld2 w h) ?_
      simp only [Act.put, List.setIfInBounds_toArray, List.set_cons_succ, List.set_cons_zero]
      refine WG.put rfl (v := .bool false) (fun w => by first | rfl | (go_simp; done) | (simp [go_sem]; done) | (simp [execOp, go_sem]; done)) ?_
      simp only [Act.put, List.setIfInBounds_toArray, List.set_cons_succ, List.set_cons_zero]
      refine WG.nil ?_
      intro W3 B3
      have B4 : Hid (Below w.heap.size w W3) := Below.then HB.out B3
      go_wp2_with fail
      go_roundw
      case rel => exact ⟨j + 1, by omega, by go_num, B4⟩
      case measure => simp [intOf]; omega
    · have hi : ¬ (j : Int) < nn := by omega
      go_wp2_with fail
      go_ret
      exact ⟨rfl, HB.out⟩
end Go.Proofs.Ytegpnicajlndlaa
/- SameStates of the same. -/
namespace Go.Proofs.Ytegpnicajlndlaa
open Go.RowKit M
set_option linter.unusedSimpArgs false
set_option linter.unusedVariables false

theorem Seg.wrR {w : World} {a : Option Addr} {l : List (Int × Int)} {j : Nat} {x : Int × Int} (h : Seg w a (l.flatMap wrE)) (hx : l[j]? = some x) : ∃ b o, a = some ⟨b, o, none⟩ ∧ b < w.heap.size ∧ w.rangeAt b (o + j * 2) (wrE x) := by
  obtain ⟨b, o, e, hb, hc⟩ := h.wr hx
  exact ⟨b, o, e, hb, fun i u hu => hc i u hu⟩
set_option maxRecDepth 100000 in
set_option maxHeartbeats 8000000 in
theorem sameStates_any (s : ST) (hf : s.Few) (v1 v2 v3 v4 v5 u1 u2 u3 u4 u5 : Value) (w : World) (hA : STV w s v1 v2 v3 v4 v5) (hB : STV w s u1 u2 u3 u4 u5) :
    Calls Try.prog 17 #[.agg #[v1, v2, v3, v4, v5, .int .i64 s.lock], .agg #[u1, u2, u3, u4, u5, .int .i64 s.lock]] w fun e w' => e = .returned (.bool true) ∧ Below w.heap.size w w' := by
  obtain ⟨ap, cp, rfl, SA1, _⟩ := hA.pc
  obtain ⟨ah, ch, rfl, SA2, _⟩ := hA.ph
  obtain ⟨ag, cg, rfl⟩ := hA.rg.form
  obtain ⟨am, cm, rfl, SA4, _⟩ := hA.mm
  obtain ⟨ab, cb, rfl⟩ := hA.bf.form
  obtain ⟨xp, dp, rfl, SB1, _⟩ := hB.pc
  obtain ⟨xh, dh, rfl, SB2, _⟩ := hB.ph
  obtain ⟨xg, dg, rfl⟩ := hB.rg.form
  obtain ⟨xm, dm, rfl, SB4, _⟩ := hB.mm
  obtain ⟨xb, db, rfl⟩ := hB.bf.form
  have hI1 := fun W (h : Seg W ap (s.pc.flatMap intE)) (h' : Seg W xp (s.pc.flatMap intE)) => sameInts_any s.pc hf.pc ap xp cp dp W h h'
  have hI2 := fun W (h : Seg W ah (s.ph.flatMap intE)) (h' : Seg W xh (s.ph.flatMap intE)) => sameInts_any s.ph hf.ph ah xh ch dh W h h'
  have hV4 := fun W (h : Seg W am (s.mem.flatMap intE)) (h' : Seg W xm (s.mem.flatMap intE)) => sameV11_any s.mem hf.mm am xm cm dm W h h'
  obtain ⟨n1, hn1⟩ : ∃ k, s.pc.length = k := ⟨_, rfl⟩
  obtain ⟨n2, hn2⟩ : ∃ k, s.ph.length = k := ⟨_, rfl⟩
  obtain ⟨n3, hn3⟩ : ∃ k, s.regs.length = k := ⟨_, rfl⟩
  obtain ⟨n4, hn4⟩ : ∃ k, s.mem.length = k := ⟨_, rfl⟩
  obtain ⟨n5, hn5⟩ : ∃ k, s.buf.length = k := ⟨_, rfl⟩
  obtain ⟨lk, hlk⟩ : ∃ k, s.lock = k := ⟨_, rfl⟩
  have hf3 := hf.rg
  have hf5 := hf.bf
  have HSA : Hid (STV w s (.slice ap n1 cp) (.slice ah n2 ch) (.slice ag n3 cg) (.slice am n4 cm) (.slice ab n5 cb)) := by rw [← hn1, ← hn2, ← hn3, ← hn4, ← hn5]; exact hA
  have HSB : Hid (STV w s (.slice xp n1 dp) (.slice xh n2 dh) (.slice xg n3 dg) (.slice xm n4 dm) (.slice xb n5 db)) := by rw [← hn1, ← hn2, ← hn3, ← hn4, ← hn5]; exact hB
  have HS1 : Hid (Seg w ap (s.pc.flatMap intE) ∧ Seg w xp (s.pc.flatMap intE) ∧ Seg w ah (s.ph.flatMap intE) ∧ Seg w xh (s.ph.flatMap intE) ∧ Seg w am (s.mem.flatMap intE) ∧ Seg w xm (s.mem.flatMap intE)) := ⟨SA1, SB1, SA2, SB2, SA4, SB4⟩
  have HL : Hid (s.regs.length = n3 ∧ s.buf.length = n5 ∧ s.Few) := ⟨hn3, hn5, hf⟩
  simp only [hn1, hn2, hn3, hn4, hn5, hlk] at hI1 hI2 hV4 hf3 hf5 ⊢
  clear hA hB SA1 SA2 SA4 SB1 SB2 SB4 hn1 hn2 hn3 hn4 hn5 hlk hf
  have i3 : (n3 : Int) ≤ 1048576 := by omega
  have i5 : (n5 : Int) ≤ 1048576 := by omega
  have t1 : True := trivial
  have t2 : True := trivial
  have t3 : True := trivial
  have t4 : True := trivial
  go_enter Try.func17, Try.ntmps17
  go_wp2_with (first
    | (clear t1; refine wpList_boxS rfl 32 _ rfl [.slice ap n1 cp, .slice ah n2 ch, .slice ag n3 cg, .slice am n4 cm, .slice ab n5 cb, .int .i64 lk] rfl ?_; intro W0 b2 F0 C0; have B0 := F_b F0; clear F0)
    | (clear t2; refine wpList_boxS rfl 32 _ rfl [.slice xp n1 dp, .slice xh n2 dh, .slice xg n3 dg, .slice xm n4 dm, .slice xb n5 db, .int .i64 lk] rfl ?_; intro W1 b3 F1 C1; have C1b := C0.fresh F1; have B1 := F1.trans B0 B0.size; obtain ⟨x0, x1, x2, x3, x4, x5⟩ := st6 C1b; obtain ⟨y0, y1, y2, y3, y4, y5⟩ := st6 C1; clear F1 C0)
    | (clear t3; go_at_call 34; refine (hI1 _ (HS1.out.1.below B1) (HS1.out.2.1.below B1)).mono ?_; rintro e W2 ⟨rfl, B2x⟩; have C2a := C1b.grown B2x; have C2b := C1.grown B2x; have B2 := Below.then B1 B2x; clear x0 x1 x2 x3 x4 x5 y0 y1 y2 y3 y4 y5 C1b C1 B0 B1 B2x hI1; obtain ⟨x0, x1, x2, x3, x4, x5⟩ := st6 C2a; obtain ⟨y0, y1, y2, y3, y4, y5⟩ := st6 C2b)
    | (clear t4; go_at_call 34; refine (hI2 _ (HS1.out.2.2.1.below B2) (HS1.out.2.2.2.1.below B2)).mono ?_; rintro e W3 ⟨rfl, B3x⟩; have C3a := C2a.grown B3x; have C3b := C2b.grown B3x; have B3 := Below.then B2 B3x; clear x0 x1 x2 x3 x4 x5 y0 y1 y2 y3 y4 y5 C2a C2b B2 B3x hI2; obtain ⟨x0, x1, x2, x3, x4, x5⟩ := st6 C3a; obtain ⟨y0, y1, y2, y3, y4, y5⟩ := st6 C3b)
    | (go_at_call 48; refine (hV4 _ (HS1.out.2.2.2.2.1.below B3) (HS1.out.2.2.2.2.2.below B3)).mono ?_; rintro e W4 ⟨rfl, B4x⟩; have C4a := C3a.grown B4x; have C4b := C3b.grown B4x; have B4 := Below.then B3 B4x; clear x0 x1 x2 x3 x4 x5 y0 y1 y2 y3 y4 y5 C3a C3b B3 B4x hV4; obtain ⟨x0, x1, x2, x3, x4, x5⟩ := st6 C4a; obtain ⟨y0, y1, y2, y3, y4, y5⟩ := st6 C4b))
  have HC2 : Hid (IsS W4 b2 32 [.slice ap n1 cp, .slice ah n2 ch, .slice ag n3 cg, .slice am n4 cm, .slice ab n5 cb, .int .i64 lk]) := C4a
  have HC3 : Hid (IsS W4 b3 32 [.slice xp n1 dp, .slice xh n2 dh, .slice xg n3 dg, .slice xm n4 dm, .slice xb n5 db, .int .i64 lk]) := C4b
  have HB4 : Hid (Below w.heap.size w W4) := B4
  clear x0 x1 x2 x3 x4 x5 y0 y1 y2 y3 y4 y5 C4a C4b B4
  go_loopw [5] (fun i wr => ∃ j : Nat, j ≤ n3 ∧ i = .int .i64 (j : Int) ∧ Hid (Below W4.heap.size W4 wr)) (fun i _ => n3 - (intOf i).toNat)
  case atStart => exact ⟨0, by omega, rfl, Below.refl _ _⟩
  case round =>
    obtain ⟨j, hj, rfl, HB⟩ := hrel
    have C2 := HC2.out.grown HB.out
    have C3 := HC3.out.grown HB.out
    have B := Below.then HB4.out HB.out
    by_cases hlt : j < n3
    · have hji : (j : Int) < n3 := by omega
      obtain ⟨rg, hrg⟩ : ∃ x, s.regs[j]? = some x := ⟨_, List.getElem?_eq_getElem (by rw [HL.out.1]; exact hlt)⟩
      obtain ⟨bg, og, a1, c1, e1, hb1, z1, S1, _⟩ := (HSA.out.below B).rg.at j rg hrg
      obtain ⟨yg, pg, a2, c2, e2, hb2, z2, S2, _⟩ := (HSB.out.below B).rg.at j rg hrg
      have hSV := fun W (h : Seg W a1 (rg.flatMap intE)) (h' : Seg W a2 (rg.flatMap intE)) => sameV11_any rg (flat_row HL.out.2.2.rr hrg) a1 a2 c1 c2 W h h'
      subst e1 e2
      obtain ⟨lr, hlr⟩ : ∃ k, rg.length = k := ⟨_, rfl⟩
      rw [hlr] at z1 z2
      simp only [hlr] at hSV
      obtain ⟨x0, x1, x2, x3, x4, x5⟩ := st6 C2
      obtain ⟨y0, y1, y2, y3, y4, y5⟩ := st6 C3
      clear hrg hlr
      go_wp2_with fail
      clear x0 x1 x2 x3 x4 x5 y0 y1 y2 y3 y4 y5
      refine grow_allW (by kernel_rfl) (by kernel_rfl) ?_
      refine WG.put rfl (v := (.pointer (some ⟨b2, 2, none⟩))) (fun w => by first | rfl | (go_simp; done) | (simp [go_sem, hji]; done) | (simp [execOp, go_sem, hji]; done)) ?_
      simp only [Act.put, List.setIfInBounds_toArray, List.set_cons_succ, List.set_cons_zero]
      refine WG.load1 rfl 25 _ rfl rfl (C2) (v := (.slice (some ⟨bg, og, none⟩) n3 cg)) rfl (fun w h => by simp [go_sem, h]) ?_
      simp only [Act.put, List.setIfInBounds_toArray, List.set_cons_succ, List.set_cons_zero]
      refine WG.put rfl (v := (.int .i64 (j : Int))) (fun w => by first | rfl | (go_simp; done) | (simp [go_sem, hji]; done) | (simp [execOp, go_sem, hji]; done)) ?_
      simp only [Act.put, List.setIfInBounds_toArray, List.set_cons_succ, List.set_cons_zero]
      refine WG.put rfl (v := (.pointer (some ⟨bg, og + j, none⟩))) (fun w => by first | rfl | (go_simp; done) | (simp [go_sem, hji]; done) | (simp [execOp, go_sem, hji]; done)) ?_
      simp only [Act.put, List.setIfInBounds_toArray, List.set_cons_succ, List.set_cons_zero]
      refine WG.cell rfl 26 _ rfl rfl (z1) (fun w h => by simp [go_sem, h]) ?_
      simp only [Act.put, List.setIfInBounds_toArray, List.set_cons_succ, List.set_cons_zero]
      refine WG.put rfl (v := (.pointer (some ⟨b3, 2, none⟩))) (fun w => by first | rfl | (go_simp; done) | (simp [go_sem, hji]; done) | (simp [execOp, go_sem, hji]; done)) ?_
      simp only [Act.put, List.setIfInBounds_toArray, List.set_cons_succ, List.set_cons_zero]
      refine WG.load1 rfl 25 _ rfl rfl (C3) (v := (.slice (some ⟨yg, pg, none⟩) n3 dg)) rfl (fun w h => by simp [go_sem, h]) ?_
      simp only [Act.put, List.setIfInBounds_toArray, List.set_cons_succ, List.set_cons_zero]
      refine WG.put rfl (v := (.int .i64 (j : Int))) (fun w => by first | rfl | (go_simp; done) | (simp [go_sem, hji]; done) | (simp [execOp, go_sem, hji]; done)) ?_
      simp only [Act.put, List.setIfInBounds_toArray, List.set_cons_succ, List.set_cons_zero]
      refine WG.put rfl (v := (.pointer (some ⟨yg, pg + j, none⟩))) (fun w => by first | rfl | (go_simp; done) | (simp [go_sem, hji]; done) | (simp [execOp, go_sem, hji]; done)) ?_
      simp only [Act.put, List.setIfInBounds_toArray, List.set_cons_succ, List.set_cons_zero]
      refine WG.cell rfl 26 _ rfl rfl (z2) (fun w h => by simp [go_sem, h]) ?_
      simp only [Act.put, List.setIfInBounds_toArray, List.set_cons_succ, List.set_cons_zero]
      refine WG.call rfl (f := 48) (v := (.bool true)) (fun W hB => hSV W (S1.below hB) (S2.below hB)) (fun w => by first | rfl | (go_simp; done) | (simp [execOp, go_sem]; done)) ?_
      simp only [Act.put, List.setIfInBounds_toArray, List.set_cons_succ, List.set_cons_zero]
      refine WG.put rfl (v := (.bool false)) (fun w => by first | rfl | (go_simp; done) | (simp [go_sem, hji]; done) | (simp [execOp, go_sem, hji]; done)) ?_
      simp only [Act.put, List.setIfInBounds_toArray, List.set_cons_succ, List.set_cons_zero]
      refine WG.nil ?_
      intro W6 B6
      have B7 : Hid (Below W4.heap.size W4 W6) := Below.then HB.out B6
      go_wp2_with fail
      go_roundw
      case rel => exact ⟨j + 1, by omega, by go_num, B7⟩
      case measure => simp [intOf]; omega
    · obtain ⟨j0, ej0⟩ : ∃ j0, j0 = j := ⟨_, rfl⟩
      obtain rfl : j = n3 := by omega
      subst ej0
      have hji : ¬ (j0 : Int) < j0 := by omega
      obtain ⟨x0, x1, x2, x3, x4, x5⟩ := st6 C2
      obtain ⟨y0, y1, y2, y3, y4, y5⟩ := st6 C3
      go_wp2_with fail
      clear x0 x1 x2 x3 x4 x5 y0 y1 y2 y3 y4 y5
      have HC2 : Hid (IsS wr b2 32 [.slice ap n1 cp, .slice ah n2 ch, .slice ag j0 cg, .slice am n4 cm, .slice ab n5 cb, .int .i64 lk]) := C2
      have HC3 : Hid (IsS wr b3 32 [.slice xp n1 dp, .slice xh n2 dh, .slice xg j0 dg, .slice xm n4 dm, .slice xb n5 db, .int .i64 lk]) := C3
      have HB4 : Hid (Below w.heap.size w wr) := B
      clear C2 C3 B HB
      obtain ⟨WR, hWR⟩ : ∃ W, W = wr := ⟨_, rfl⟩
      subst hWR
      go_loopw [6] (fun i wr => ∃ j : Nat, j ≤ n5 ∧ i = .int .i64 (j : Int) ∧ Hid (Below WR.heap.size WR wr)) (fun i _ => n5 - (intOf i).toNat)
      case atStart => exact ⟨0, by omega, rfl, Below.refl _ _⟩
      case round =>
        obtain ⟨j, hj, rfl, HB⟩ := hrel
        have C2 := HC2.out.grown HB.out
        have C3 := HC3.out.grown HB.out
        have B := Below.then HB4.out HB.out
        by_cases hlt : j < n5
        · have hji : (j : Int) < n5 := by omega
          obtain ⟨bf, hbf⟩ : ∃ x, s.buf[j]? = some x := ⟨_, List.getElem?_eq_getElem (by rw [HL.out.2.1]; exact hlt)⟩
          obtain ⟨bb, ob, a1, c1, e1, hb1, z1, S1, _⟩ := (HSA.out.below B).bf.at j bf hbf
          obtain ⟨yb, pb, a2, c2, e2, hb2, z2, S2, _⟩ := (HSB.out.below B).bf.at j bf hbf
          subst e1 e2
          obtain ⟨lb, hlb⟩ : ∃ k, bf.length = k := ⟨_, rfl⟩
          rw [hlb] at z1 z2
          have hl20 : lb ≤ 1048576 := by rw [← hlb]; exact flat_row HL.out.2.2.bb hbf
          have hlI : (lb : Int) ≤ 1048576 := by omega
          have HLB : Hid (bf.length = lb) := hlb
          obtain ⟨x0, x1, x2, x3, x4, x5⟩ := st6 C2
          obtain ⟨y0, y1, y2, y3, y4, y5⟩ := st6 C3
          clear hbf hlb
          go_wp2_with fail
          clear x0 x1 x2 x3 x4 x5 y0 y1 y2 y3 y4 y5
          refine grow_allW (by kernel_rfl) (by kernel_rfl) ?_
          refine WG.put rfl (v := (.pointer (some ⟨b2, 4, none⟩))) (fun w => by first | rfl | (go_simp; done) | (simp [go_sem, hji]; done) | (simp [execOp, go_sem, hji]; done)) ?_
          simp only [Act.put, List.setIfInBounds_toArray, List.set_cons_succ, List.set_cons_zero]
          refine WG.load1 rfl 30 _ rfl rfl (C2) (v := (.slice (some ⟨bb, ob, none⟩) n5 cb)) rfl (fun w h => by simp [go_sem, h]) ?_
          simp only [Act.put, List.setIfInBounds_toArray, List.set_cons_succ, List.set_cons_zero]
          refine WG.put rfl (v := (.int .i64 (j : Int))) (fun w => by first | rfl | (go_simp; done) | (simp [go_sem, hji]; done) | (simp [execOp, go_sem, hji]; done)) ?_
          simp only [Act.put, List.setIfInBounds_toArray, List.set_cons_succ, List.set_cons_zero]
          refine WG.put rfl (v := (.pointer (some ⟨bb, ob + j, none⟩))) (fun w => by first | rfl | (go_simp; done) | (simp [go_sem, hji]; done) | (simp [execOp, go_sem, hji]; done)) ?_
          simp only [Act.put, List.setIfInBounds_toArray, List.set_cons_succ, List.set_cons_zero]
          refine WG.cell rfl 48 _ rfl rfl (z1) (fun w h => by simp [go_sem, h]) ?_
          simp only [Act.put, List.setIfInBounds_toArray, List.set_cons_succ, List.set_cons_zero]
          refine WG.put rfl (v := (.int .i64 ((lb : Nat) : Int))) (fun w => by first | rfl | (go_simp; done) | (simp [go_sem, hji]; done) | (simp [execOp, go_sem, hji]; done)) ?_
          simp only [Act.put, List.setIfInBounds_toArray, List.set_cons_succ, List.set_cons_zero]
          refine WG.put rfl (v := (.pointer (some ⟨b3, 4, none⟩))) (fun w => by first | rfl | (go_simp; done) | (simp [go_sem, hji]; done) | (simp [execOp, go_sem, hji]; done)) ?_
          simp only [Act.put, List.setIfInBounds_toArray, List.set_cons_succ, List.set_cons_zero]
          refine WG.load1 rfl 30 _ rfl rfl (C3) (v := (.slice (some ⟨yb, pb, none⟩) n5 db)) rfl (fun w h => by simp [go_sem, h]) ?_
          simp only [Act.put, List.setIfInBounds_toArray, List.set_cons_succ, List.set_cons_zero]
          refine WG.put rfl (v := (.int .i64 (j : Int))) (fun w => by first | rfl | (go_simp; done) | (simp [go_sem, hji]; done) | (simp [execOp, go_sem, hji]; done)) ?_
          simp only [Act.put, List.setIfInBounds_toArray, List.set_cons_succ, List.set_cons_zero]
          refine WG.put rfl (v := (.pointer (some ⟨yb, pb + j, none⟩))) (fun w => by first | rfl | (go_simp; done) | (simp [go_sem, hji]; done) | (simp [execOp, go_sem, hji]; done)) ?_
          simp only [Act.put, List.setIfInBounds_toArray, List.set_cons_succ, List.set_cons_zero]
          refine WG.cell rfl 48 _ rfl rfl (z2) (fun w h => by simp [go_sem, h]) ?_
          simp only [Act.put, List.setIfInBounds_toArray, List.set_cons_succ, List.set_cons_zero]
          refine WG.put rfl (v := (.int .i64 ((lb : Nat) : Int))) (fun w => by first | rfl | (go_simp; done) | (simp [go_sem, hji]; done) | (simp [execOp, go_sem, hji]; done)) ?_
          simp only [Act.put, List.setIfInBounds_toArray, List.set_cons_succ, List.set_cons_zero]
          refine WG.put rfl (v := (.bool false)) (fun w => by first | rfl | (go_simp; done) | (simp [go_sem, hji]; done) | (simp [execOp, go_sem, hji]; done)) ?_
          simp only [Act.put, List.setIfInBounds_toArray, List.set_cons_succ, List.set_cons_zero]
          refine WG.nil ?_
          intro W6 B6
          have B7 : Below WR.heap.size WR W6 := Below.then HB.out B6
          have HS12 : Hid (Seg W6 a1 (bf.flatMap wrE) ∧ Seg W6 a2 (bf.flatMap wrE)) := ⟨S1.below B6, S2.below B6⟩
          have HZ12 : Hid (W6.cell? ⟨bb, ob + j, none⟩ = some (.slice a1 (lb : Nat) c1) ∧ W6.cell? ⟨yb, pb + j, none⟩ = some (.slice a2 (lb : Nat) c2)) := ⟨by rw [B6.cell (p := ⟨bb, ob + j, none⟩) hb1]; exact z1, by rw [B6.cell (p := ⟨yb, pb + j, none⟩) hb2]; exact z2⟩
          have HBB : Hid (bb < W6.heap.size ∧ yb < W6.heap.size) := ⟨Nat.lt_of_lt_of_le hb1 B6.size, Nat.lt_of_lt_of_le hb2 B6.size⟩
          have HD2 : Hid (IsS W6 b2 32 [.slice ap n1 cp, .slice ah n2 ch, .slice ag j0 cg, .slice am n4 cm, .slice (some ⟨bb, ob, none⟩) n5 cb, .int .i64 lk]) := HC2.out.grown B7
          have HD3 : Hid (IsS W6 b3 32 [.slice xp n1 dp, .slice xh n2 dh, .slice xg j0 dg, .slice xm n4 dm, .slice (some ⟨yb, pb, none⟩) n5 db, .int .i64 lk]) := HC3.out.grown B7
          have HB7 : Hid (Below WR.heap.size WR W6) := B7
          clear C2 C3 B S1 S2 z1 z2 B6 B7 hb1 hb2
          go_wp2_with fail
          obtain ⟨WR2, hWR2⟩ : ∃ W, W = wr := ⟨_, rfl⟩
          subst hWR2
          go_loopw [7] (fun i wr => ∃ q : Nat, q ≤ lb ∧ i = .int .i64 (q : Int) ∧ Hid (Below W6.heap.size W6 wr)) (fun i _ => lb - (intOf i).toNat)
          case atStart => exact ⟨0, by omega, rfl, Below.refl _ _⟩
          case round =>
            obtain ⟨q, hq, rfl, HBq⟩ := hrel
            have D2 := HD2.out.grown HBq.out
            have D3 := HD3.out.grown HBq.out
            have z1 : wr.cell? ⟨bb, ob + j, none⟩ = some (.slice a1 (lb : Nat) c1) := by rw [HBq.out.cell (p := ⟨bb, ob + j, none⟩) HBB.out.1]; exact HZ12.out.1
            have z2 : wr.cell? ⟨yb, pb + j, none⟩ = some (.slice a2 (lb : Nat) c2) := by rw [HBq.out.cell (p := ⟨yb, pb + j, none⟩) HBB.out.2]; exact HZ12.out.2
            obtain ⟨x0, x1, x2, x3, x4, x5⟩ := st6 D2
            obtain ⟨y0, y1, y2, y3, y4, y5⟩ := st6 D3
            by_cases hqt : q < lb
            · have hqi : (q : Int) < lb := by omega
              obtain ⟨x, hx⟩ : ∃ x, bf[q]? = some x := ⟨_, List.getElem?_eq_getElem (by rw [HLB.out]; exact hqt)⟩
              obtain ⟨ya, yc⟩ := x
              obtain ⟨g1, o1, e1, hg1, q1⟩ := (HS12.out.1.below HBq.out).wrR hx
              obtain ⟨g2, o2, e2, hg2, q2⟩ := (HS12.out.2.below HBq.out).wrR hx
              subst e1 e2
              clear hx
              go_wp2_with fail
              clear x0 x1 x2 x3 x4 x5 y0 y1 y2 y3 y4 y5
              refine grow_allW (by kernel_rfl) (by kernel_rfl) ?_
              refine WG.put rfl (v := (.pointer (some ⟨b2, 4, none⟩))) (fun w => by first | rfl | (go_simp; done) | (simp [go_sem, hji, hqi]; done) | (simp [execOp, go_sem, hji, hqi]; done)) ?_
              simp only [Act.put, List.setIfInBounds_toArray, List.set_cons_succ, List.set_cons_zero]
              refine WG.load1 rfl 30 _ rfl rfl (D2) (v := (.slice (some ⟨bb, ob, none⟩) n5 cb)) rfl (fun w h => by simp [go_sem, h]) ?_
              simp only [Act.put, List.setIfInBounds_toArray, List.set_cons_succ, List.set_cons_zero]
              refine WG.put rfl (v := (.int .i64 (j : Int))) (fun w => by first | rfl | (go_simp; done) | (simp [go_sem, hji, hqi]; done) | (simp [execOp, go_sem, hji, hqi]; done)) ?_
              simp only [Act.put, List.setIfInBounds_toArray, List.set_cons_succ, List.set_cons_zero]
              refine WG.put rfl (v := (.pointer (some ⟨bb, ob + j, none⟩))) (fun w => by first | rfl | (go_simp; done) | (simp [go_sem, hji, hqi]; done) | (simp [execOp, go_sem, hji, hqi]; done)) ?_
              simp only [Act.put, List.setIfInBounds_toArray, List.set_cons_succ, List.set_cons_zero]
              refine WG.cell rfl 48 _ rfl rfl (z1) (fun w h => by simp [go_sem, h]) ?_
              simp only [Act.put, List.setIfInBounds_toArray, List.set_cons_succ, List.set_cons_zero]
              refine WG.put rfl (v := (.int .i64 (q : Int))) (fun w => by first | rfl | (go_simp; done) | (simp [go_sem, hji, hqi]; done) | (simp [execOp, go_sem, hji, hqi]; done)) ?_
              simp only [Act.put, List.setIfInBounds_toArray, List.set_cons_succ, List.set_cons_zero]
              refine WG.put rfl (v := (.pointer (some ⟨g1, o1 + q * 2, none⟩))) (fun w => by first | rfl | (go_simp; done) | (simp [go_sem, hji, hqi]; done) | (simp [execOp, go_sem, hji, hqi]; done)) ?_
              simp only [Act.put, List.setIfInBounds_toArray, List.set_cons_succ, List.set_cons_zero]
              refine WG.range rfl 50 _ rfl rfl [.int .i64 ya, .int .i64 yc] hg1 q1 _ Try.underlying50 rfl infoWr ?_
              simp only [Act.put, List.setIfInBounds_toArray, List.set_cons_succ, List.set_cons_zero]
              refine WG.put rfl (v := (.pointer (some ⟨b3, 4, none⟩))) (fun w => by first | rfl | (go_simp; done) | (simp [go_sem, hji, hqi]; done) | (simp [execOp, go_sem, hji, hqi]; done)) ?_
              simp only [Act.put, List.setIfInBounds_toArray, List.set_cons_succ, List.set_cons_zero]
              refine WG.load1 rfl 30 _ rfl rfl (D3) (v := (.slice (some ⟨yb, pb, none⟩) n5 db)) rfl (fun w h => by simp [go_sem, h]) ?_
              simp only [Act.put, List.setIfInBounds_toArray, List.set_cons_succ, List.set_cons_zero]
              refine WG.put rfl (v := (.int .i64 (j : Int))) (fun w => by first | rfl | (go_simp; done) | (simp [go_sem, hji, hqi]; done) | (simp [execOp, go_sem, hji, hqi]; done)) ?_
              simp only [Act.put, List.setIfInBounds_toArray, List.set_cons_succ, List.set_cons_zero]
              refine WG.put rfl (v := (.pointer (some ⟨yb, pb + j, none⟩))) (fun w => by first | rfl | (go_simp; done) | (simp [go_sem, hji, hqi]; done) | (simp [execOp, go_sem, hji, hqi]; done)) ?_
              simp only [Act.put, List.setIfInBounds_toArray, List.set_cons_succ, List.set_cons_zero]
              refine WG.cell rfl 48 _ rfl rfl (z2) (fun w h => by simp [go_sem, h]) ?_
              simp only [Act.put, List.setIfInBounds_toArray, List.set_cons_succ, List.set_cons_zero]
              refine WG.put rfl (v := (.int .i64 (q : Int))) (fun w => by first | rfl | (go_simp; done) | (simp [go_sem, hji, hqi]; done) | (simp [execOp, go_sem, hji, hqi]; done)) ?_
              simp only [Act.put, List.setIfInBounds_toArray, List.set_cons_succ, List.set_cons_zero]
              refine WG.put rfl (v := (.pointer (some ⟨g2, o2 + q * 2, none⟩))) (fun w => by first | rfl | (go_simp; done) | (simp [go_sem, hji, hqi]; done) | (simp [execOp, go_sem, hji, hqi]; done)) ?_
              simp only [Act.put, List.setIfInBounds_toArray, List.set_cons_succ, List.set_cons_zero]
              refine WG.range rfl 50 _ rfl rfl [.int .i64 ya, .int .i64 yc] hg2 q2 _ Try.underlying50 rfl infoWr ?_
              simp only [Act.put, List.setIfInBounds_toArray, List.set_cons_succ, List.set_cons_zero]
              refine WG.put rfl (v := (.bool false)) (fun w => by first | rfl | (go_simp; done) | (simp [go_sem, hji, hqi]; done) | (simp [execOp, go_sem, hji, hqi]; done)) ?_
              simp only [Act.put, List.setIfInBounds_toArray, List.set_cons_succ, List.set_cons_zero]
              refine WG.nil ?_
              intro W8 B8
              have B9 : Hid (Below W6.heap.size W6 W8) := Below.then HBq.out B8
              go_wp2_with fail
              go_roundw
              case rel => exact ⟨q + 1, by omega, by go_num, B9⟩
              case measure => simp [intOf]; omega
            · obtain rfl : q = lb := by omega
              have hqi : ¬ (q : Int) < q := by omega
              go_wp2_with fail
              go_roundw
              case rel => exact ⟨j + 1, by omega, by go_num, Below.then HB7.out HBq.out⟩
              case measure => simp [intOf]; omega
        · obtain rfl : j = n5 := by omega
          have hji : ¬ (j : Int) < j := by omega
          obtain ⟨x0, x1, x2, x3, x4, x5⟩ := st6 C2
          go_wp2_with fail
          go_ret
          exact ⟨rfl, B⟩
end Go.Proofs.Ytegpnicajlndlaa
