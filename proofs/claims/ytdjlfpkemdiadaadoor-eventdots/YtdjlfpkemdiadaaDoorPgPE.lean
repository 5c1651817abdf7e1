/- Events of a program, of both sides. -/
import Derived.Test.YtdjlfpkemdiadaaDoorPgPM
namespace Go.Proofs.YtdjlfpkemdiadaaDoor
open Go.RowKit M
set_option linter.unusedSimpArgs false
set_option linter.unusedVariables false

/-- The five cells of a program that is boxed. -/
theorem pg_cells {W : World} {b : Nat} {v0 v1 v2 v3 v4 : Value} (h : IsS W b 28 [v0, v1, v2, v3, v4]) {w : World} (hB : Below W.heap.size W w) :
    w.cell? ⟨b, 0, none⟩ = some v0 ∧ w.cell? ⟨b, 1, none⟩ = some v1 ∧ w.cell? ⟨b, 2, none⟩ = some v2 ∧ w.cell? ⟨b, 3, none⟩ = some v3 ∧ w.cell? ⟨b, 4, none⟩ = some v4 :=
  have h' := h.grown hB
  ⟨h'.cell 0, h'.cell 1, h'.cell 2, h'.cell 3, h'.cell 4⟩
set_option maxRecDepth 100000 in
set_option maxHeartbeats 2000000 in
theorem events_any (p : PG) (hf : p.Few) (vt vr vl vi vj : Value) (w : World) (hp : PGV w vt vr vl vi vj p) :
    Calls Tryd.prog 10 #[.agg #[vt, vr, vl, vi, vj]] w fun en w' => en = .returned (.int .i64 (eventsV p)) ∧ Below w.heap.size w w' := by
  obtain ⟨at', ct, rfl⟩ := hp.t.form
  obtain ⟨al, cl, rfl, _, _⟩ := hp.l
  have HT : Hid (RowsV w (.slice at' p.threads.length ct) op5L p.threads) := hp.t
  obtain ⟨nt, hnt⟩ : ∃ n, p.threads.length = n := ⟨_, rfl⟩
  obtain ⟨nl, hnl⟩ : ∃ n, p.locs.length = n := ⟨_, rfl⟩
  have hft := hf.t
  have HTT : Hid (p.threads.flatten.length ≤ 1048576) := hf.tt
  have hfl := hf.l
  rw [hnt] at HT hft ⊢
  rw [hnl] at hfl ⊢
  have HNT : Hid (p.threads.length = nt) := hnt
  have HE : Hid (eventsV p = nl + evLP p.threads.flatten) := (by show _ = _; unfold eventsV; rw [hnl])
  clear hp hf hnt hnl
  obtain ⟨ths, hths⟩ : ∃ t, p.threads = t := ⟨_, rfl⟩
  rw [hths] at HT HTT HNT HE
  clear hths
  have t1 : True := trivial
  go_enter Tryd.func10, Tryd.ntmps10
  go_wp2_with (clear t1; refine wpList_boxS rfl 28 _ rfl [.slice at' nt ct, vr, .slice al nl cl, vi, vj] rfl ?_; intro W1 b1 F1 C1; have B1 : Below w.heap.size w W1 := F1.trans (Below.refl _ w) (Nat.le_refl _); obtain ⟨k0, k1, k2, k3, k4⟩ := pg_cells C1 (Below.refl _ W1); clear F1)
  go_loopw [3, 14] (fun n i wr => ∃ k : Nat, k ≤ nt ∧ i = .int .i64 k ∧ ∃ s : Int, n = .int .i64 s ∧ Hid (s = nl + evLP (ths.take k).flatten) ∧ Hid (Below W1.heap.size W1 wr)) (fun _ i _ => nt - (intOf i).toNat)
  case atStart => exact ⟨0, Nat.zero_le _, rfl, nl, rfl, by show _ = _; simp [evLP], Below.refl _ _⟩
  case round =>
    obtain ⟨k, hk, rfl, s, rfl, HS, HB⟩ := hrel
    obtain ⟨WR, eWR⟩ : ∃ W, W = wr := ⟨_, rfl⟩
    subst eWR
    by_cases hlt : k < nt
    · have hki : (k : Int) < nt := by omega
      obtain ⟨l, hl⟩ : ∃ l, ths[k]? = some l := ⟨_, List.getElem?_eq_getElem (by rw [HNT.out]; exact hlt)⟩
      obtain ⟨b, o, a', c', rfl, hb, hc, hseg, _⟩ := (HT.out.below (Below.then B1 HB.out)).at k l hl
      have HG : Hid (Seg WR a' (l.flatMap op5L)) := hseg
      have HL : Hid (ths[k]? = some l) := hl
      have hll : l.length ≤ 1048576 := Nat.le_trans (by have := flat_at hl (Nat.le_refl _); rw [List.take_length, List.length_append] at this; omega) HTT.out
      obtain ⟨nn, hnn⟩ : ∃ n, l.length = n := ⟨_, rfl⟩
      have HNN : Hid (l.length = nn) := hnn
      rw [hnn] at hc hll
      clear hl hseg hnn
      go_wp2_with fail
      go_loopw [3, 20] (fun n i wr' => ∃ j : Nat, j ≤ nn ∧ i = .int .i64 j ∧ ∃ s : Int, n = .int .i64 s ∧ Hid (s = nl + evLP ((ths.take k).flatten ++ l.take j)) ∧ Hid (Below WR.heap.size WR wr')) (fun _ i _ => nn - (intOf i).toNat)
      case atStart => exact ⟨0, Nat.zero_le _, rfl, s, rfl, by show _ = _; rw [HS.out]; simp, Below.refl _ _⟩
      case round =>
        obtain ⟨j, hj, rfl, s', rfl, HS', HB'⟩ := hrel
        by_cases hjt : j < nn
        · have hji : (j : Int) < nn := by omega
          obtain ⟨g, hg⟩ : ∃ g, l[j]? = some g := ⟨_, List.getElem?_eq_getElem (by rw [HNN.out]; exact hjt)⟩
          obtain ⟨b', o', rfl, hb', hr'⟩ := (HG.out.below HB'.out).op hg
          have HN : Hid (evLP ((ths.take k).flatten ++ l.take (j + 1)) = evLP ((ths.take k).flatten ++ l.take j) + evOf g.kind) := (by show _ = _; rw [take_at hg, ← List.append_assoc, evL_app]; simp [evLP])
          have hbd := evL_bd ((ths.take k).flatten ++ l.take j)
          have hbl := flat_at HL.out (k := j) (by rw [HNN.out]; omega)
          have hs0 : 0 ≤ s' ∧ s' ≤ 4194304 := by have := HS'.out; have := HTT.out; omega
          clear hbd hbl hg
          obtain ⟨hs1, hs2⟩ := hs0
          have hev := evOf_bd g.kind
          obtain ⟨ev, hev'⟩ : ∃ e, evOf g.kind = e := ⟨_, rfl⟩
          have cE := fun w => eventsOf_any g.kind w
          rw [hev'] at cE HN hev
          clear hev'
          obtain ⟨he1, he2⟩ := hev
          have t2 : True := trivial
          have t3 : True := trivial
          have t4 : True := trivial
          go_wp2_with (first
            | (clear t2; refine wpList_load_mid rfl 58 _ rfl b' (o' + j * 5) rfl (op5L g) _ hr' Tryd.underlying58 rfl infoOp ?_)
            | (clear t3; refine wpList_allocS rfl 58 rfl (op5L ⟨0, 0, 0, 0, 0⟩) Tryd.zeroValue58 ?_; intro W3 b3 F3 C3; have B3 := F3.trans HB'.out HB'.out.size; have h3 : WR.heap.size ≤ b3 := Nat.le_trans HB'.out.size (Nat.le_of_eq F3.at'.symm); clear F3)
            | (clear t4; refine wpList_storeS rfl 58 _ _ rfl rfl (op5L g) rfl C3 (by simp [op5L]) infoOp (op_one _) ?_; intro W4 U4 C4x; have C4 : IsS W4 b3 58 (op5L g) := C4x; have B4 := U4.trans B3 h3; have c4 : W4.cell? ⟨b3, 0, none⟩ = some (.int .i64 g.kind) := C4.cell 0; clear U4 C3 C4x)
            | (go_at_call 30; refine (cE _).mono ?_; rintro en w' ⟨rfl, hw⟩; replace hw := hw.symm; subst hw))
          go_roundw
          case rel => exact ⟨j + 1, by omega, by go_num, s' + ev, rfl, by show _ = _; rw [HN.out, HS'.out]; omega, B4⟩
          case measure => simp [intOf]; omega
        · have hji : ¬ (j : Int) < nn := by omega
          have hjn : j = nn := by omega
          go_wp2_with fail
          go_roundw
          case rel => exact ⟨k + 1, by omega, by go_num, s', rfl, by show _ = _; rw [HS'.out, hjn, ← HNN.out, List.take_length, flat_take HL.out], Below.then HB.out HB'.out⟩
          case measure => simp [intOf]; omega
    · have hki : ¬ (k : Int) < nt := by omega
      go_wp2_with fail
      go_ret
      refine ⟨ret_int ?_, Below.then B1 HB.out⟩
      rw [HE.out, HS.out, List.take_of_length_le (by rw [HNT.out]; omega)]
end Go.Proofs.YtdjlfpkemdiadaaDoor
