/- The reference's Code. -/
import Derived.Test.YtegpnicajlndlaaRI1
import Derived.Test.YtegpnicajlndlaaRT1
import Derived.Test.YtegpnicajlndlaaQbq
namespace Go.Proofs.Ytegpnicajlndlaa
open Go.RowKit M
set_option linter.unusedSimpArgs false
set_option linter.unusedVariables false

set_option maxRecDepth 100000 in
set_option maxHeartbeats 8000000 in
theorem rcode_any (p : PG) (hf : p.Few) (s : ST) (hs : s.Few) (hw : Wid s) (vt vr vl vi vj vpc vph vrg vmm vbf : Value) (w : World) (hp : PGV w vt vr vl vi vj p) (hS : STV w s vpc vph vrg vmm vbf) :
    Calls Try.prog 12 #[.agg #[vt, vr, vl, vi, vj], .agg #[vpc, vph, vrg, vmm, vbf, .int .i64 s.lock]] w fun e w' => e = .returned (.tuple #[.string ⟨(codeT p s).toArray⟩, .int .i64 (codeN p s)]) ∧ Below w.heap.size w w' := by
  have hVal := fun W (h : PGV W vt vr vl vi vj p) => rvalid_any p hf vt vr vl vi vj W h
  have HP : Hid (PGV w vt vr vl vi vj p) := hp
  have HS : Hid (STV w s vpc vph vrg vmm vbf) := hS
  have t1 : True := trivial
  have t2 : True := trivial
  have t3 : True := trivial
  have t4 : True := trivial
  have t5 : True := trivial
  have t6 : True := trivial
  have t7 : True := trivial
  by_cases hv0 : validV p = 0
  · have hv := vld_of hv0
    have hl := shp_len hv
    have hIs := fun W (h : PGV W vt vr vl vi vj p) (h' : STV W s vpc vph vrg vmm vbf) => ris_any p hf hv s hs vt vr vl vi vj vpc vph vrg vmm vbf W h h'
    have hText := fun (hft : Fits (shpOf p) s) W (h : STV W s vpc vph vrg vmm vbf) => rtext_any s p.threads.length (by rw [hft.pc, hl.1]) hs hw ⟨by rw [hft.ph, hl.1], by rw [hft.rg, hl.1], by rw [hft.bf, hl.1]⟩ vt vr vl vi vj vpc vph vrg vmm vbf W h
    rw [hv0] at hVal
    cases hfb : fitsB (shpOf p) s with
    | true =>
      have hTx := hText ((fitsB_iff _ _).1 hfb)
      have HQ : Hid (codeT p s = textS s ∧ codeN p s = 0) := by
        refine ⟨?_, ?_⟩
        · unfold codeT; rw [if_pos ⟨hv0, hfb⟩]
        · unfold codeN; rw [if_pos hv0, if_pos hfb]
      rw [hfb] at hIs
      obtain ⟨lk, hlk⟩ : ∃ k, s.lock = k := ⟨_, rfl⟩
      simp only [hlk] at hIs hTx ⊢
      clear hp hS hv hv0 hf hs hw hl hlk hText hfb
      go_enter Try.func12, Try.ntmps12
      go_wp2_with (first
        | (clear t1; refine wpList_boxS rfl 28 _ rfl [vt, vr, vl, vi, vj] rfl ?_; intro W0 b2 F0 C0; have B0 := F_b F0; clear F0)
        | (clear t2; refine wpList_boxS rfl 32 _ rfl [vpc, vph, vrg, vmm, vbf, .int .i64 lk] rfl ?_; intro W1 b3 F1 S1; have C1 := C0.fresh F1; have B1 := F1.trans B0 B0.size; clear F1 C0 B0)
        | (clear t3; refine wpList_loadW rfl 28 _ rfl rfl C1 _ Try.underlying28 rfl infoPg ?_)
        | (go_at_call 28; refine (hVal _ (HP.out.below B1)).mono ?_; rintro e W2 ⟨rfl, B2x⟩; have C2 := C1.grown B2x; have S2 := S1.grown B2x; have B2 := Below.then B1 B2x; clear C1 S1 B1 B2x hVal)
        | (clear t4; refine wpList_loadW rfl 28 _ rfl rfl C2 _ Try.underlying28 rfl infoPg ?_)
        | (clear t5; refine wpList_loadW rfl 32 _ rfl rfl S2 _ Try.underlying32 rfl infoSt ?_)
        | (go_at_call 31; refine (hIs _ (HP.out.below B2) (HS.out.below B2)).mono ?_; rintro e W3 ⟨rfl, B3x⟩; have C3 := C2.grown B3x; have S3 := S2.grown B3x; have B3 := Below.then B2 B3x; clear C2 S2 B2 B3x hIs)
        | (clear t6; refine wpList_loadW rfl 28 _ rfl rfl C3 _ Try.underlying28 rfl infoPg ?_)
        | (clear t7; refine wpList_loadW rfl 32 _ rfl rfl S3 _ Try.underlying32 rfl infoSt ?_)
        | (go_at_call 21; refine (hTx _ (HS.out.below B3)).mono ?_; rintro e W4 ⟨rfl, B4x⟩; have B4 := Below.then B3 B4x))
      go_ret2
      exact ⟨by rw [HQ.out.1, HQ.out.2]; rfl, B4⟩
    | false =>
      have HQ : Hid (codeT p s = [] ∧ codeN p s = 5) := by
        refine ⟨?_, ?_⟩
        · unfold codeT; rw [if_neg (by rw [hfb]; simp)]
        · unfold codeN; rw [if_pos hv0, if_neg (by rw [hfb]; simp)]
      rw [hfb] at hIs
      obtain ⟨lk, hlk⟩ : ∃ k, s.lock = k := ⟨_, rfl⟩
      simp only [hlk] at hIs ⊢
      clear hp hS hv hv0 hf hs hw hl hlk hText hfb
      go_enter Try.func12, Try.ntmps12
      go_wp2_with (first
        | (clear t1; refine wpList_boxS rfl 28 _ rfl [vt, vr, vl, vi, vj] rfl ?_; intro W0 b2 F0 C0; have B0 := F_b F0; clear F0)
        | (clear t2; refine wpList_boxS rfl 32 _ rfl [vpc, vph, vrg, vmm, vbf, .int .i64 lk] rfl ?_; intro W1 b3 F1 S1; have C1 := C0.fresh F1; have B1 := F1.trans B0 B0.size; clear F1 C0 B0)
        | (clear t3; refine wpList_loadW rfl 28 _ rfl rfl C1 _ Try.underlying28 rfl infoPg ?_)
        | (go_at_call 28; refine (hVal _ (HP.out.below B1)).mono ?_; rintro e W2 ⟨rfl, B2x⟩; have C2 := C1.grown B2x; have S2 := S1.grown B2x; have B2 := Below.then B1 B2x; clear C1 S1 B1 B2x hVal)
        | (clear t4; refine wpList_loadW rfl 28 _ rfl rfl C2 _ Try.underlying28 rfl infoPg ?_)
        | (clear t5; refine wpList_loadW rfl 32 _ rfl rfl S2 _ Try.underlying32 rfl infoSt ?_)
        | (go_at_call 31; refine (hIs _ (HP.out.below B2) (HS.out.below B2)).mono ?_; rintro e W3 ⟨rfl, B3x⟩; have B3 := Below.then B2 B3x; clear C2 S2 B2 B3x hIs))
      go_ret2
      exact ⟨by rw [HQ.out.1, HQ.out.2]; rfl, B3⟩
  · have HQ : Hid (codeT p s = [] ∧ codeN p s = validV p) := by
      refine ⟨?_, ?_⟩
      · unfold codeT; rw [if_neg (fun h => hv0 h.1)]
      · unfold codeN; rw [if_neg hv0]
    obtain ⟨ev, hev⟩ : ∃ e, e = validV p := ⟨_, rfl⟩
    rw [← hev] at HQ hv0
    simp only [← hev] at hVal
    obtain ⟨lk, hlk⟩ : ∃ k, s.lock = k := ⟨_, rfl⟩
    simp only [hlk]
    clear hp hS hf hs hw hev hlk
    go_enter Try.func12, Try.ntmps12
    go_wp2_with (first
      | (clear t1; refine wpList_boxS rfl 28 _ rfl [vt, vr, vl, vi, vj] rfl ?_; intro W0 b2 F0 C0; have B0 := F_b F0; clear F0)
      | (clear t2; refine wpList_boxS rfl 32 _ rfl [vpc, vph, vrg, vmm, vbf, .int .i64 lk] rfl ?_; intro W1 b3 F1 S1; have C1 := C0.fresh F1; have B1 := F1.trans B0 B0.size; clear F1 C0 B0)
      | (clear t3; refine wpList_loadW rfl 28 _ rfl rfl C1 _ Try.underlying28 rfl infoPg ?_)
      | (go_at_call 28; refine (hVal _ (HP.out.below B1)).mono ?_; rintro e W2 ⟨rfl, B2x⟩; have B2 := Below.then B1 B2x; clear C1 S1 B1 B2x hVal))
    go_ret2
    exact ⟨by rw [HQ.out.1, HQ.out.2]; rfl, B2⟩
end Go.Proofs.Ytegpnicajlndlaa
