/- All, walked. -/
import Derived.Test.YtopnbemodlcknaaDoorLxA1
namespace Go.Proofs.YtopnbemodlcknaaDoor.Lx
open Go.RowKit Go.Shelf M
attribute [local go_sem] Oper.semAt_some
set_option linter.unusedSimpArgs false
set_option linter.unusedVariables false

theorem isS_type {W : World} {b t t' : Nat} {cs cs' : List Value} (h : IsS W b t cs) (h' : IsS W b t' cs') : t = t' := by
  unfold IsS at h h'
  rw [h] at h'
  cases h'
  rfl
theorem errO_mono {v : Value} {O O' : Nat → Prop} (h : ErrO v O) (hs : ∀ k, O k → O' k) : ErrO v O' := by
  unfold ErrO at *
  split <;> simp_all
theorem map_tok_inj : ∀ {us vs : List Tok}, us.map Rd.tok = vs.map Rd.tok → us = vs
  | [], [], _ => rfl
  | [], _ :: _, h => by simp at h
  | _ :: _, [], h => by simp at h
  | a :: us, b :: vs, h => by
    simp only [List.map_cons, List.cons.injEq, Rd.tok.injEq] at h
    rw [h.1, map_tok_inj h.2]
theorem err_not {r : Rd} {v : Value} {W : World} (h : ErrV r v W) (t : Tok) : r ≠ .tok t := fun e => by subst e; exact h
/-- Rounds that end with an error are all. -/
theorem pre_all : ∀ {ts us : List Tok} {er : Option Rd} {r : Rd}, (∀ t, r ≠ .tok t) → (us.map Rd.tok ++ [r]) <+: (ts.map Rd.tok ++ er.toList) → er = some r
  | [], [], er, r, hr, h => by
    cases er with
    | none => simp at h
    | some x => simp at h; rw [h]
  | [], u :: us, er, r, hr, h => by
    cases er with
    | none => simp at h
    | some x =>
      obtain ⟨k, hk⟩ := h
      have := congrArg List.length hk
      simp at this
  | t :: ts, [], er, r, hr, h => by
    obtain ⟨k, hk⟩ := h
    simp at hk
    exact absurd hk.1 (hr t)
  | t :: ts, u :: us, er, r, hr, h => by
    obtain ⟨k, hk⟩ := h
    simp only [List.map_cons, List.cons_append, List.cons.injEq] at hk
    exact pre_all hr ⟨k, by simpa using hk.2⟩
theorem done_all {ts us : List Tok} {er : Option Rd} (hne : ∀ t, er ≠ some (.tok t)) (h : ts.map Rd.tok ++ er.toList = us.map Rd.tok) : er = none ∧ us = ts := by
  cases er with
  | none => exact ⟨rfl, (map_tok_inj (by simpa using h)).symm⟩
  | some r =>
    exfalso
    have hm : r ∈ us.map Rd.tok := by rw [← h]; simp
    obtain ⟨t, _, rfl⟩ := List.mem_map.1 hm
    exact hne t rfl

set_option maxRecDepth 100000 in
set_option maxHeartbeats 4000000 in
theorem all_any (s : ByteArray) (hs : s.size < 4611686018427387904) (ts : List Tok) (er : Option Rd) (hr : rounds s.data.toList = ts.map Rd.tok ++ er.toList) (hne : ∀ t, er ≠ some (.tok t)) (hlen : ts.length ≤ 1048576) (w : World) :
    Calls Tryd.prog 10 #[.string s] w fun e w' => AllAns ts er e w w' ∧ Below w.heap.size w w' := by
  obtain ⟨i0, hi, hz0, hz1, hz2⟩ := parts38
  have cT := fun w => tokensF_any s w
  have HR : Hid (rounds s.data.toList = ts.map Rd.tok ++ er.toList) := hr
  have HNE : Hid (∀ t, er ≠ some (.tok t)) := hne
  have HLEN : Hid (ts.length ≤ 1048576) := hlen
  clear hr hne hlen
  have hf17 : Fence.wide.fn 15 := trivial
  have tk : True := trivial
  refine (callsIn_wide (n := 8)).1 ?_
  refine callsIn_of_wp_marks Tryd.func10 rfl trivial ?_ rfl
  simp only [Tryd.ntmps10, List.size_toArray, List.length_cons, List.length_nil, Nat.reduceAdd, Nat.reduceSub, Array.replicate_succ, Array.replicate_zero, List.push_toArray, List.append_toArray, List.nil_append, List.cons_append]
  gi_wp2_with (first
    | (refine inAlloc1 rfl 40 rfl (.slice none 0 0) rfl Tryd.zeroValue40 ?_; clear tk; intro W1 r2 F1 C2; have B1 := F1.trans (Below.refl _ w) (Nat.le_refl _); have h2 : w.heap.size ≤ r2 := Nat.le_of_eq F1.at'.symm; clear F1)
    | (refine inAlloc1 rfl 28 rfl .nilIface rfl Tryd.zeroValue28 ?_; intro W2 r3 F2 C3; have B2 := F2.trans B1 B1.size; have h3 : w.heap.size ≤ r3 := Nat.le_trans B1.size (Nat.le_of_eq F2.at'.symm); have D2 := C2.fresh F2; have n23 : r2 ≠ r3 := (by have := C2.lt; have := F2.at'; omega); clear F2 C2 B1)
    | (refine inAlloc1 rfl 40 rfl (.slice none 0 0) rfl Tryd.zeroValue40 ?_; intro W3 r4 F3 C4; have B3 := F3.trans B2 B2.size; have h4 : w.heap.size ≤ r4 := Nat.le_trans B2.size (Nat.le_of_eq F3.at'.symm); have E2 := D2.fresh F3; have E3 := C3.fresh F3; have n24 : r2 ≠ r4 := (by have := D2.lt; have := F3.at'; omega); have n34 : r3 ≠ r4 := (by have := C3.lt; have := F3.at'; omega); clear F3 D2 C3 B2)
    | (gi_at_call 15; refine (callsIn_wide.2 (cT _)).mono ?_; rintro e W4 ⟨bb, rfl, hbb, hcb, B4⟩; have G2 := E2.grown B4; have G3 := E3.grown B4; have G4 := C4.grown B4; have B5 := B3.trans (B4.mono B3.size); clear B4 B3 E2 E3 C4))
  have hseq := tokens_all s hs bb W4 hbb hcb
  refine rangeM (by omega) (gf := 19) (lb := #[.pointer (some ⟨bb, 0, none⟩)]) rfl (enters_of Tryd.func19 (by kernel_rfl) rfl) hseq (Below.refl _ _) (fun x W args A h => enc_size x W args A h)
    (AllI w r2 r3 r4) (AllX w r2 r3) (AllM w r2 r3 r4 s (.func (.func 19) #[] #[.pointer (some ⟨bb, 0, none⟩)])) (allI_abides w r2 r3 r4) (allX_abides w r2 r3) (allM_abides w r2 r3 r4 s _)
    (fun k => k < w.heap.size ∨ k = r2 ∨ k = r3 ∨ k = r4) ?low ?start ?assign ?body ?done ?stop
  case low =>
    rintro k (h | rfl | rfl | rfl)
    · have := B5.size; omega
    · exact G2.lt
    · exact G3.lt
    · exact G4.lt
  case start =>
    refine ⟨⟨[], .slice none 0 0, rfl, G4, World.ownsRow_nil _ _ _ _, fun g e => by cases e⟩, G2, G3, B5, fun k h => .inl h, .inr (.inl rfl), .inr (.inr (.inl rfl)), .inr (.inr (.inr rfl)), ?_⟩
    rintro k (h | rfl | rfl | rfl)
    · have := B5.size; omega
    · exact G2.lt
    · exact G3.lt
    · exact G4.lt
  case assign =>
    rintro l m pre x post args A O W K hxs hI hR hK
    clear hseq cT
    obtain ⟨t, ev, rfl, hd, hA⟩ : ∃ t ev, args = #[.agg (tokL t).toArray, ev] ∧ (x = .tok t ∧ ev = .nilIface ∨ ErrV x ev W ∧ ErrO ev A) ∧ ∀ k, A k → k < W.heap.size := (by
      cases x with
      | tok t => obtain ⟨rfl, rfl⟩ := hR; exact ⟨t, _, rfl, .inl ⟨rfl, rfl⟩, fun k h => h.elim⟩
      | long => obtain ⟨rfl, rfl⟩ := hR; exact ⟨noTok, _, rfl, .inr ⟨rfl, trivial⟩, fun k h => h.elim⟩
      | pos x y e => obtain ⟨g, rfl, hg, rfl⟩ := hR; exact ⟨noTok, _, rfl, .inr ⟨⟨g, rfl, hg⟩, rfl⟩, fun k h => by rw [h]; exact hg.lt⟩)
    have HX : Hid (x = .tok t ∧ ev = .nilIface ∨ ErrV x ev W ∧ ErrO ev A) := hd
    clear hd hR
    dsimp only
    gi_wp2_with (first
      | (refine inAllocS rfl 44 rfl (tokL noTok) Tryd.zeroValue44 ?_; intro W5 Bx F5 M5; refine Hid.out ?_))
    refine Lib.hid ?_
    refine inStoreS rfl 44 _ _ rfl rfl (tokL t) rfl M5 (by simp [tokL, noTok]) info38 (tok_one t) ?_
    intro W6 U6 M6x
    have M6 : IsS W6 Bx 44 (tokL t) := M6x
    clear M6x
    gi_wp2_with fail
    have hBx := F5.at'
    have hz5 := F5.size
    have hz6 := U6.size
    have hB56 : Below W.heap.size W W5 := F5.trans (Below.refl _ _) (Nat.le_refl _)
    have kp : ∀ O : Nat → Prop, Keep O W W6 := fun O => (by
      refine ⟨U6.os.trans hB56.os, U6.tape.trans hB56.tape, U6.output.trans hB56.output, by omega, fun k o _ hk => ?_⟩
      have hlt := (Array.getElem?_eq_some_iff.1 hk).1
      exact (U6.block k (by omega)).trans ((hB56.block k hlt).trans hk))
    have hbd : ∀ k, (O k ∨ A k ∨ k = Bx) → k < W6.heap.size := (by
      rintro k (h | h | rfl)
      · have := hI.bd k h; omega
      · have := hA k h; omega
      · omega)
    refine hK _ (fun k => O k ∨ A k ∨ k = Bx) _ ⟨?_, Bx, t, ev, .inr (.inr rfl), M6, ?_, rfl⟩ ?_
    · obtain ⟨⟨us, v, e1, e2, e3, e4⟩, i2, i3, i4, i5, i6, i7, i8, i9⟩ := allI_abides w r2 r3 r4 pre O W W6 hI (kp O)
      exact ⟨⟨us, v, e1, e2, e3, fun g hg => .inl (e4 g hg)⟩, i2, i3, i4, fun k h => .inl (i5 k h), .inl i6, .inl i7, .inl i8, hbd⟩
    · rcases HX.out with h | ⟨h, ho⟩
      · exact .inl h
      · exact .inr ⟨errV_keep h ho (kp A), errO_mono ho fun k h => .inr (.inl h)⟩
    · exact ⟨(kp O).os, (kp O).tape, (kp O).output, (kp O).size, fun k o _ _ hk => (kp fun _ => True).block k o trivial hk, fun k h => by
        rcases h with h | h | h
        · exact .inl h
        · exact .inr (.inl h)
        · exact .inr (.inr (by omega)), hbd⟩
  case body =>
    rintro l m pre x post a' O W hxs ⟨hI, Bx, t, ev, hOB, MB, hd, rfl⟩
    clear hseq cT
    obtain ⟨⟨us, v, e1, C4, hown, hvO⟩, C2, C3, BW, low, o2, o3, o4, bd⟩ := hI
    rcases hd with ⟨rfl, rfl⟩ | ⟨hE, hEO⟩
    · obtain ⟨a0, c0, rfl⟩ := own_form hown
      have c4 : W.cell? ⟨r4, 0, none⟩ = some (.slice a0 us.length c0) := C4.cell 0
      have hul : us.length ≤ 1048576 := (by
        have h1 := congrArg List.length hxs
        rw [HR.out] at h1
        have h2 := HLEN.out
        have h3 : er.toList.length ≤ 1 := by cases er <;> simp
        rw [e1] at h1
        simp at h1
        omega)
      have n4 := own_ne hown C4 (by decide)
      have HU : Hid ((us ++ [t]).length = us.length + 1) := (by show _ = _; simp)
      have HC : Hid (cellsT (us ++ [t]) = cellsT us ++ tokL t) := cellsT_snoc us t
      have HP : Hid (pre ++ [Rd.tok t] = (us ++ [t]).map Rd.tok) := (by show _ = _; rw [e1]; simp)
      obtain ⟨L, hL⟩ : ∃ L, us.length = L := ⟨_, rfl⟩
      rw [hL] at hown C4 c4 hul HU hvO n4
      clear hxs e1 hL HR
      gi_wp2_with (first
        | (refine inLoadP rfl 44 _ rfl rfl MB 7 (tokL t) rfl _ Tryd.underlying44 rfl info38 ?_; refine Hid.out ?_))
      refine Lib.hid ?_
      refine inBuildT rfl _ rfl t rfl ?_
      intro W5 b5 F5 N5
      have own5 : W5.ownsRow w.heap.size 44 7 (.slice a0 L c0) L (cellsT us) := own_belowW hown (F5.trans (Below.refl _ _) (Nat.le_refl _))
      have D4 := C4.fresh F5
      have D2 := C2.fresh F5
      have D3 := C3.fresh F5
      have hB5 : Below W.heap.size W W5 := F5.trans (Below.refl _ _) (Nat.le_refl _)
      refine wpListIn_append_own_at _ rfl _ _ 40 rfl w.heap.size 44 i0 (.agg (tokL noTok).toArray) 7 64 Tryd.underlying40 hi hz0 hz1 hz2 rfl (by decide) _ _ _ rfl own5 ⟨b5, 0, none⟩ 1 1 (tokL t) rfl rfl (fun j u hj => by rw [Addr.add_mid, Nat.zero_add, N5.cell]; exact hj) (tok_one t) (by unfold maxLen; omega) (by omega) (by have := BW.size; have := hB5.size; omega) ?_
      intro v' W6 own6 hgr hif hbl
      clear hif
      have hb5 := F5.size
      have hb5' := F5.at'
      have hgs := hgr.size
      have k56 : ∀ k o, W.heap[k]? = some o → (Value.slice a0 L c0).ownBlock ≠ some k → W6.heap[k]? = some o := fun k o hk hn =>
        (by
          have hlt := (Array.getElem?_eq_some_iff.1 hk).1
          exact (hgr.block k (by omega) (fun e => hn e.symm)).trans ((hB5.block k hlt).trans hk))
      have E4 : IsS W6 r4 40 [.slice a0 L c0] := k56 r4 _ C4 n4
      have E2 : IsS W6 r2 40 [.slice none 0 0] := k56 r2 _ C2 (own_ne hown C2 (by decide))
      have E3 : IsS W6 r3 28 [.nilIface] := k56 r3 _ C3 (own_ne hown C3 (by decide))
      obtain ⟨a1, c1, rfl⟩ := own_form own6
      clear D4 D2 D3 N5
      refine Hid.out ?_
      refine Lib.hid ?_
      refine inStore1 rfl 40 _ _ rfl rfl (.slice a1 (L + 1) c1) rfl E4 (by simp) info24 rfl ?_
      intro W7 U7 E4x
      have H4 : IsS W7 r4 40 [.slice a1 (L + 1) c1] := E4x
      have hz7 := U7.size
      have n41 : (Value.slice a1 (L + 1) c1).ownBlock ≠ some r4 := own_ne own6 E4 (by decide)
      have own7 := own_updN own6 U7 n41
      have k67 : ∀ k o, W.heap[k]? = some o → k ≠ r4 → (Value.slice a0 L c0).ownBlock ≠ some k → W7.heap[k]? = some o := fun k o hk h1 h2 => (U7.block k h1).trans (k56 k o hk h2)
      gi_wp2_with fail
      refine ⟨fun k => O k ∨ (W.heap.size ≤ k ∧ k < W7.heap.size), ⟨U7.os.trans (hgr.os.trans hB5.os), U7.tape.trans (hgr.tape.trans hB5.tape), U7.output.trans (hgr.output.trans hB5.output), by omega, ?_, ?_, ?_⟩, ?_⟩
      · intro k o h1 _ hk
        exact k67 k o hk (fun e => h1 (by rw [e]; exact o4)) (fun e => h1 (hvO k e))
      · rintro k (h | h)
        · exact .inl h
        · exact .inr (.inr h.1)
      · rintro k (h | h)
        · have := bd k h; omega
        · exact h.2
      · refine ⟨⟨us ++ [t], .slice a1 (L + 1) c1, HP.out, H4, by rw [HU.out, HC.out]; exact own7, fun g hg => ?_⟩, k67 r2 _ C2 n24 (own_ne hown C2 (by decide)), k67 r3 _ C3 n34 (own_ne hown C3 (by decide)), ?_, fun k h => .inl (low k h), .inl o2, .inl o3, .inl o4, ?_⟩
        · rcases hbl with h | h
          · rw [h] at hg; exact .inl (hvO g hg)
          · rw [h] at hg; cases hg
            exact .inr ⟨by omega, by have := (own7.lt _ h).2; omega⟩
        · refine ⟨U7.os.trans (hgr.os.trans (hB5.os.trans BW.os)), U7.tape.trans (hgr.tape.trans (hB5.tape.trans BW.tape)), U7.output.trans (hgr.output.trans (hB5.output.trans BW.output)), by have := BW.size; omega, fun k hk => ?_⟩
          obtain ⟨o, ho⟩ : ∃ o, w.heap[k]? = some o := ⟨_, Array.getElem?_eq_getElem hk⟩
          rw [ho]
          exact k67 k o ((BW.block k hk).trans ho) (by omega) (fun e => by have := (hown.lt _ e).1; omega)
        · rintro k (h | h)
          · have := bd k h; omega
          · exact h.2
    · obtain ⟨ty, u, rfl, hu1⟩ := errV_some hE
      have HE : Hid (ErrV x (.iface ty u) W) := hE
      have HO : Hid (ErrO (.iface ty u) O) := hEO
      have HP : Hid (pre ++ [x] = us.map Rd.tok ++ [x]) := (by show _ = _; rw [e1])
      clear hE hEO hxs e1 hown hvO C4
      gi_wp2_with (first
        | (refine inStore1 rfl 40 _ _ rfl rfl (.slice none 0 0) rfl C2 (by simp) info24 rfl ?_; intro W5 U5 D2x; have D2 : IsS W5 r2 40 [.slice none 0 0] := D2x; have D3 := C3.upd U5 (Ne.symm n23); clear D2x)
        | (refine inStore1 rfl 28 _ _ rfl rfl (.iface ty u) rfl D3 (by simp) info26 rfl ?_; intro W6 U6 E3x; have E3 : IsS W6 r3 28 [.iface ty u] := E3x; have E2 := D2.upd U6 n23; clear E3x))
      have hz5 := U5.size
      have hz6 := U6.size
      have ch : Chg O (fun _ => False) O W W6 := chg_upd (chg_upd (chg_grow (Below.refl _ _) (fun k h => .inl h) bd) U5 (.inl o2)) U6 (.inl o3)
      have kk : ∀ k o, W.heap[k]? = some o → k ≠ r2 → k ≠ r3 → W6.heap[k]? = some o := fun k o hk h1 h2 => (U6.block k h2).trans ((U5.block k h1).trans hk)
      refine ⟨O, ch, rfl, ⟨us, x, _, HP.out, ?_, HO.out, E3⟩, E2, U6.trans (U5.trans BW h2) h3, low, o2, o3⟩
      have := HE.out
      cases x with
      | tok t => exact this
      | long => exact this
      | pos x y e =>
        obtain ⟨g, hg, hG⟩ := this
        refine ⟨g, hg, kk g _ hG ?_ ?_⟩
        · intro e; subst e
          exact absurd (isS_type hG C2) (by decide)
        · intro e; subst e
          exact absurd (isS_type hG C3) (by decide)
  case done =>
    rintro D O W hD hOD ⟨⟨us, v, e1, C4, hown, hvO⟩, C2, C3, BW, low, o2, o3, o4, bd⟩ hK
    clear hseq cT
    rw [HR.out] at e1
    obtain ⟨rfl, rfl⟩ := done_all HNE.out e1
    obtain ⟨a0, c0, rfl⟩ := own_form hown
    have c4 : W.cell? ⟨r4, 0, none⟩ = some (.slice a0 us.length c0) := C4.cell 0
    obtain ⟨L, hL⟩ : ∃ L, us.length = L := ⟨_, rfl⟩
    rw [hL] at hown C4 c4 hvO
    have HL : Hid (us.length = L) := hL
    clear HR e1 HLEN hL
    gi_wp2_with (first
      | (refine inStore1 rfl 40 _ _ rfl rfl (.slice a0 L c0) rfl C2 (by simp) info24 rfl ?_; intro W5 U5 D2x; have D2 : IsS W5 r2 40 [.slice a0 L c0] := D2x; have D3 := C3.upd U5 (Ne.symm n23); clear D2x)
      | (refine inStore1 rfl 28 _ _ rfl rfl .nilIface rfl D3 (by simp) info26 rfl ?_; intro W6 U6 E3x; have E3 : IsS W6 r3 28 [.nilIface] := E3x; have E2 := D2.upd U6 n23; clear E3x))
    have hwD : w.heap.size ≤ D := by have := B5.size; omega
    have own6 := own_updN (own_updN hown U5 (own_ne hown C2 (by decide))) U6 (own_ne (own_updN hown U5 (own_ne hown C2 (by decide))) D3 (by decide))
    have nD2 : D ≠ r2 := fun e => hOD (by rw [e]; exact o2)
    have nD3 : D ≠ r3 := fun e => hOD (by rw [e]; exact o3)
    have hK6 : W6.heap[D]? = some (.deferred (some [])) := (U6.block D nD3).trans ((U5.block D nD2).trans hK)
    have B6 := U6.trans (U5.trans BW h2) h3
    have kd : Keep O W6 (W6.putObj D (.deferred none)) := Keep.put _ hOD
    refine ⟨by simp, .inl ⟨_, _, rfl, run_takeDeferred hK6, ?_⟩⟩
    refine ⟨_, results_2 rfl rfl rfl (kd.block r2 _ o2 E2) (kd.block r3 _ o3 E3), ⟨_, rfl, by rw [HL.out]; exact own_keep own6 kd hvO⟩, below_keep B6 kd low⟩
  case stop =>
    rintro D c pre O W hD hOD hpre ⟨rfl, ⟨us, r, ev, e1, hE, hEO, C3⟩, C2, BW, low, o2, o3⟩ hK
    clear hseq cT
    rw [e1, HR.out] at hpre
    obtain rfl := pre_all (err_not hE) hpre
    clear HR e1 HLEN hpre
    gi_wp2_with fail
    have kd : Keep O W (W.putObj D (.deferred none)) := Keep.put _ hOD
    refine ⟨by simp, .inl ⟨_, _, rfl, run_takeDeferred hK, ?_⟩⟩
    refine ⟨_, results_2 rfl rfl rfl (kd.block r2 _ o2 C2) (kd.block r3 _ o3 C3), ⟨_, rfl, errV_keep hE hEO kd⟩, below_keep BW kd low⟩
end Go.Proofs.YtopnbemodlcknaaDoor.Lx
