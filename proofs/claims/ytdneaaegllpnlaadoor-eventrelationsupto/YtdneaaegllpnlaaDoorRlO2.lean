/- Edges: goes through the pairs of a relation; a loop over an iterator inside a plain loop. -/
import Derived.Test.YtdneaaegllpnlaaDoorRlO1
namespace Go.Proofs.YtdneaaegllpnlaaDoor
open Go.RowKit Go.Shelf M
attribute [local go_sem] Oper.semAt_some
set_option linter.unusedSimpArgs false
set_option linter.unusedVariables false

def edgesL (N : Nat) (f : Nat → Nat) : List (Nat × Nat) := (List.range N).flatMap fun a => (lst (f a)).map fun b => (a, b)
def valsP (l : List (Fin 64 × Fin 64)) : List (Nat × Nat) := l.map fun x => (x.1.val, x.2.val)
def encE (x : Fin 64 × Fin 64) : Array Value := #[.agg #[.int .i64 (x.1.val : Nat), .int .i64 (x.2.val : Nat)]]
theorem edgesL_succ (k : Nat) (f : Nat → Nat) : edgesL (k + 1) f = edgesL k f ++ (lst (f k)).map fun b => (k, b) := by
  simp [edgesL, List.range_succ]
theorem edgesL_pre (k N : Nat) (h : k ≤ N) (f : Nat → Nat) : edgesL k f <+: edgesL N f := by
  obtain ⟨d, rfl⟩ : ∃ d, N = k + d := ⟨N - k, by omega⟩
  induction d with
  | zero => exact List.prefix_refl _
  | succ d ih =>
    rw [← Nat.add_assoc, edgesL_succ]
    exact (ih (by omega)).trans (List.prefix_append _ _)
theorem tab_own {β : Type} : Own (fun (_ : β) W => TabAt W) := fun s X Y row hs hg hr => by
  intro j hj
  have hc := hs j hj
  refine (World.cell?_of_block (w := X) (hg.block 1 hs.pos (fun e => ?_))).trans hc
  obtain ⟨o, ho, hcells⟩ := hr 1 e.symm
  simp only [World.cell?] at hc
  rw [ho] at hc
  cases o <;> simp_all [Obj.isCells]
theorem round_wide {n n' l l' : Nat} {fn : FuncId} {t : Array Value} {a b : Code} {W : World} {R : Ending → World → Prop} (h : RoundIn Fence.wide n Tryd.prog l fn t a b W R) : RoundIn (Fence.wide.inRound l') n' Tryd.prog l fn t a b W R :=
  ⟨h.1, fun c cs hr => h.2 c cs (by simp [Fence.room, Fence.wide])⟩
def mark (D : Nat) : Deferred := { target := .collected D, args := #[] }
theorem leaves_marks {fn : Func} (hres : fn.results = #[]) (tmps : Array Value) {R : Ending → World → Prop} {G : World → Prop} {B n : Nat} (hG : ∀ W, G W → R (.returned (.tuple #[])) W) (hput : ∀ W D o, G W → B ≤ D → W.heap[D]? = some (.deferred (some o)) → G (W.putObj D (.deferred none))) :
    ∀ (ds : List Nat) (W : World), G W → (∀ D ∈ ds, B ≤ D ∧ W.heap[D]? = some (.deferred (some []))) → ds.Nodup → LeavesInM Fence.wide n Tryd.prog fn tmps R (ds.map mark) .returning W
  | [], W, h, _, _ => ⟨_, results_none hres _ _ _, hG W h⟩
  | D :: ds, W, h, hd, hn => by
    have h1 := hd D (by simp)
    have hnd := List.nodup_cons.1 hn
    refine ⟨by simp, .inl ⟨D, _, rfl, run_takeDeferred h1.2, ?_⟩⟩
    refine leaves_marks hres tmps hG hput ds _ (hput W D _ h h1.1 h1.2) (fun E hE => ?_) hnd.2
    have h2 := hd E (by simp [hE])
    exact ⟨h2.1, (World.putObj_heap_other (fun e => hnd.1 (by rw [← e]; exact hE))).trans h2.2⟩

def Marks (B : Nat) (ds : List Nat) (W : World) : Prop := ∀ D ∈ ds, B ≤ D ∧ W.heap[D]? = some (.deferred (some []))
theorem Marks.lt {B : Nat} {ds : List Nat} {W : World} (h : Marks B ds W) : ∀ D ∈ ds, D < W.heap.size := fun D hD => (Array.getElem?_eq_some_iff.1 (h D hD).2).1
theorem Marks.same {B : Nat} {ds : List Nat} {W W' : World} (h : Marks B ds W) (hs : ∀ D ∈ ds, W'.heap[D]? = W.heap[D]?) : Marks B ds W' := fun D hD => ⟨(h D hD).1, (hs D hD).trans (h D hD).2⟩
theorem marks_own {β : Type} {B B' : Nat} {ds : List Nat} (hd : ∀ D ∈ ds, D < B') : OwnFrom B' (fun (_ : β) W => Marks B ds W) := fun s X Y row hs hg hr =>
  hs.same fun D hD => hg.block D (hs.lt D hD) (fun e => by have := (hr D e.symm).1; have := hd D hD; omega)
theorem valsP_map (k : Fin 64) (pre : List (Fin 64)) : valsP (pre.map fun b => (k, b)) = (valsF pre).map fun b => (k.val, b) := by simp [valsP, valsF]
theorem valsP_app (a b : List (Fin 64 × Fin 64)) : valsP (a ++ b) = valsP a ++ valsP b := by simp [valsP]
theorem valsP_len (a : List (Fin 64 × Fin 64)) : (valsP a).length = a.length := by simp [valsP]

set_option maxRecDepth 100000 in
set_option maxHeartbeats 2000000 in
theorem edges1_O (Bn N : Nat) (hN : N ≤ 64) (f : Nat → Nat) (hf : Hid (Wf f)) (bs ts : List Nat) (h0 : 1 ∉ bs) (hBn : Bn ∉ bs) (hts : 138 ∉ ts ∧ 3 ∉ ts) (w : World) (hr : IsR w Bn N f) (hT : TabAt w) (m : Nat) :
    SeqO Fence.wide m Tryd.prog 116 #[.pointer (some ⟨Bn, 0, none⟩)] encE bs ts (fun ys => valsP ys = edgesL N f) (fun pre => valsP pre <+: edgesL N f) (edgesL N f).length w := by
  intro l J Jx W hW hbs hJ hJx hY hJ0
  have rW := hr.grown hW
  have tW := hT.below hW
  refine callsIn_wide.2 ((callsIn_wide (n := 8)).1 ?_)
  refine callsIn_of_wp_marks Tryd.func116 rfl trivial ?_ rfl
  simp only [Tryd.ntmps116, List.size_toArray, List.length_cons, List.length_nil, Nat.reduceAdd, Nat.reduceSub, Array.replicate_succ, Array.replicate_zero, List.push_toArray, List.append_toArray, List.nil_append, List.cons_append]
  have F2 := Fresh.alloc W (.cells #[.func (.yield l) #[] #[]] 138)
  have rW2 := rW.alloc (.cells #[.func (.yield l) #[] #[]] 138)
  have hn2 := rW2.n
  gi_wp2
  have bY := Boxed.new W 138 (.func (.yield l) #[] #[])
  have hJ2 := hJ.alloc (.cells #[.func (.yield l) #[] #[]] 138) hJ0
  have tW2 := tW.below F2.below
  have hle2 : W.heap.size ≤ (W.alloc (.cells #[.func (.yield l) #[] #[]] 138)).heap.size := F2.below.size
  have hb2 : W.heap.size ≤ W.heap.size := Nat.le_refl _
  clear hn2 F2
  generalize W.alloc (.cells #[.func (.yield l) #[] #[]] 138) = W2 at *
  obtain ⟨b2, hb2e⟩ : ∃ b2, W.heap.size = b2 := ⟨_, rfl⟩
  have hb2b : b2 ∉ bs := fun h => by have := hbs b2 h; omega
  obtain ⟨B0, hB0⟩ : ∃ B0, B0 = b2 := ⟨_, rfl⟩
  rw [hb2e] at bY hJ hJx hle2 ⊢
  rw [← hB0] at hJ hJx hle2
  refine wpIn_loop (fun a V => ∃ (k : Nat) (P0 : List (Fin 64 × Fin 64)) (ds : List Nat) (u3 u4 u8 u9 u10 u11 u12 u13 u14 u15 u16 u17 u18 u19 u20 u21 u22 : Value), k ≤ N ∧ a = { tmps := #[.func (.yield l) #[] #[], .pointer (some ⟨Bn, 0, none⟩), .pointer (some ⟨b2, 0, none⟩), u3, u4, .pointer (some ⟨Bn, 0, none⟩), .int .i64 (N : Nat), .int .i64 (k : Nat), u8, u9, u10, u11, u12, u13, u14, u15, u16, u17, u18, u19, u20, u21, u22], defers := ds.map mark } ∧ valsP P0 = edgesL k f ∧ J P0 V ∧ Boxed V b2 138 (.func (.yield l) #[] #[]) ∧ IsR V Bn N f ∧ TabAt V ∧ Marks B0 ds V ∧ ds.Nodup ∧ B0 ≤ V.heap.size)
    (fun a _ => N - (intOf (a.tmps.getD 7 undef)).toNat) ?start ?round
  case start => exact ⟨0, [], [], _, _, _, _, _, _, _, _, _, _, _, _, _, _, _, _, _, by omega, rfl, rfl, hJ2, bY, rW2, tW2, fun _ h => (by simp at h), List.nodup_nil, hle2⟩
  case round =>
    clear hJ2 bY rW2 tW2 hle2
    rintro a V ⟨k, P0, ds, u3, u4, u8, u9, u10, u11, u12, u13, u14, u15, u16, u17, u18, u19, u20, u21, u22, hk, rfl, hv, hj, bY, rV, tV, hds, hnd, hle⟩
    by_cases hlt : k < N
    · have hki : (k : Int) < (N : Int) := by omega
      have rV3 := rV.alloc (.cells #[.int .i64 (k : Nat)] 3)
      have hrow := rV3.row k (by omega)
      have hxl := hf.out k
      have hk64 : k < 64 := by omega
      have hf70 : Fence.wide.fn 114 := trivial
      have hf83 : Fence.wide.fn 129 := trivial
      gi_wp2_with (first
        | (gi_at_call 114; refine (callsIn_wide.2 (each_any _ _)).mono ?_; rintro e w' ⟨rfl, rfl⟩))
      have hVs : ((V.alloc (.cells #[.int .i64 (k : Nat)] 3)).alloc (.cells #[.int .u64 (f k : Nat)] 29)).heap.size = V.heap.size + 2 := by simp
      have bK := (Boxed.new V 3 (.int .i64 (k : Nat))).alloc (.cells #[.int .u64 (f k : Nat)] 29)
      have bE := Boxed.new (V.alloc (.cells #[.int .i64 (k : Nat)] 3)) 29 (.int .u64 (f k : Nat))
      rw [World.size_alloc] at bE
      have BV : Below V.heap.size V ((V.alloc (.cells #[.int .i64 (k : Nat)] 3)).alloc (.cells #[.int .u64 (f k : Nat)] 29)) := ((Below.refl _ V).alloc (Nat.le_refl _) _).alloc (by simp) _
      have hj3 := ownFrom_mono hJ hle |>.alloc (.cells #[.int .u64 (f k : Nat)] 29) (ownFrom_mono hJ hle |>.alloc (.cells #[.int .i64 (k : Nat)] 3) hj)
      have bY3 := (bY.alloc (.cells #[.int .i64 (k : Nat)] 3)).alloc (.cells #[.int .u64 (f k : Nat)] 29)
      have rV4 := rV3.alloc (.cells #[.int .u64 (f k : Nat)] 29)
      have tV4 := tV.below BV
      have hd4 : Marks B0 ds ((V.alloc (.cells #[.int .i64 (k : Nat)] 3)).alloc (.cells #[.int .u64 (f k : Nat)] 29)) := hds.same fun D hD => BV.block D (hds.lt D hD)
      have hdl : ∀ D ∈ ds, D < V.heap.size + 2 := fun D hD => by have := hds.lt D hD; omega
      have hb3b : V.heap.size ∉ bs := fun h => by have := hbs _ h; omega
      have hEk := edgesL_succ k f
      have hEp := edgesL_pre (k + 1) N (by omega) f
      have hlen0 : P0.length = (edgesL k f).length := by rw [← hv, valsP_len]
      have hlenN : (edgesL k f).length + (lst (f k)).length ≤ (edgesL N f).length := by
        have := hEp.length_le
        rw [hEk] at this
        simpa using this
      have hV0 : B0 ≤ V.heap.size + 2 := by omega
      have hbY := bY.lt
      clear rV3 hrow hj bY rV tV BV
      generalize (V.alloc (.cells #[.int .i64 (k : Nat)] 3)).alloc (.cells #[.int .u64 (f k : Nat)] 29) = V4 at *
      refine wpIn_rangeFunc_ownG rfl (by omega) (gf := 129) (lb := #[.pointer (some ⟨V.heap.size + 1, 0, none⟩)]) rfl trivial (enters_of Tryd.func129 (by kernel_rfl) rfl)
        (each_stops (8 - 1) (by omega) (V.heap.size + 1) (f k) hxl V4 (by omega) bE.cell tV4) Same.trans (Same.putObj (by simp; omega)) (Below.refl _ _) (fun _ => rfl)
        (fun pre W' => J (P0 ++ pre.map fun b => ((⟨k, hk64⟩ : Fin 64), b)) W' ∧ Boxed W' b2 138 (.func (.yield l) #[] #[]) ∧ Boxed W' V.heap.size 3 (.int .i64 (k : Nat)) ∧ IsR W' Bn N f ∧ TabAt W' ∧ Marks B0 ds W' ∧ V.heap.size + 2 ≤ W'.heap.size)
        (fun c pre W' => c = .ret ∧ Jx (P0 ++ pre.map fun b => ((⟨k, hk64⟩ : Fin 64), b)) W' ∧ Marks B0 ds W')
        ?ownI ?ownX ?start2
        (fun x => { tmps := #[.func (.yield l) #[] #[], .pointer (some ⟨Bn, 0, none⟩), .pointer (some ⟨b2, 0, none⟩), .pointer (some ⟨V.heap.size, 0, none⟩), .int .i64 (x.val : Nat), .pointer (some ⟨Bn, 0, none⟩), .int .i64 (N : Nat), .int .i64 (k : Nat), .bool true, .int .i64 (k : Nat), .int .i64 (k : Nat), .pointer (some ⟨Bn, 1, none⟩), .pointer (some ⟨Bn, 1 + k, none⟩), .int .u64 (f k : Nat), .func (.func 129) #[] #[.pointer (some ⟨V.heap.size + 1, 0, none⟩)], .int .i64 (x.val : Nat), u16, u17, u18, u19, u20, u21, u22], defers := [] }) ?assign ?body ?done ?stop
      case ownI =>
        refine OwnFrom.and (fun s X Y row hs hg hr => hJ _ X Y row hs hg (fun r e => ⟨by have := (hr r e).1; omega, (hr r e).2⟩)) (OwnFrom.and (Own.from (boxed_own _ _ (fun _ => _)) _) (OwnFrom.and (Own.from (boxed_own _ _ (fun _ => _)) _) (OwnFrom.and (Own.from (isR_own _ _ (fun _ => f)) _) (OwnFrom.and (Own.from tab_own _) (OwnFrom.and (marks_own (fun D hD => by have := hdl D hD; omega)) ?_)))))
        exact fun s X Y row hs hg hr => Nat.le_trans hs hg.size
      case ownX =>
        exact fun c => OwnFrom.and (ownFrom_pure _ (fun _ => c = .ret)) (OwnFrom.and (fun s X Y row hs hg hr => hJx _ X Y row hs hg (fun r e => ⟨by have := (hr r e).1; omega, (hr r e).2⟩)) (marks_own (fun D hD => by have := hdl D hD; omega)))
      case start2 => exact ⟨by simpa using hj3, bY3, bK, rV4, tV4, hd4, by omega⟩
      case assign =>
        intro l' x W' K hK
        gi_wp2
        exact hK
      case body =>
        rintro l' pre x W' ⟨hj', qY, qK, qR, qT, qD, qS⟩ hlt'
        have hlen' : (P0 ++ pre.map fun b => ((⟨k, hk64⟩ : Fin 64), b)).length < (edgesL N f).length := by
          rw [List.length_append, List.length_map, hlen0]; omega
        obtain ⟨fn, tmps, assign, body, hy, hR⟩ := hY _ ((⟨k, hk64⟩ : Fin 64), x) W' hj' hlen'
        dsimp only [encE] at hy
        have cY := qY.cell
        have cK := qK.cell
        have hsn : (P0 ++ pre.map fun b => ((⟨k, hk64⟩ : Fin 64), b)) ++ [((⟨k, hk64⟩ : Fin 64), x)] = P0 ++ (pre ++ [x]).map fun b => ((⟨k, hk64⟩ : Fin 64), b) := by simp
        rw [hsn] at hR
        have HKF : Hid (∀ W3, KpB w.heap.size bs ts W' W3 → KeepsFrom V4.heap.size W' W3 ∧ Same [1] W' W3 ∧ Boxed W3 b2 138 (.func (.yield l) #[] #[]) ∧ Boxed W3 V.heap.size 3 (.int .i64 (k : Nat)) ∧ IsR W3 Bn N f ∧ TabAt W3 ∧ Marks B0 ds W3 ∧ V.heap.size + 2 ≤ W3.heap.size) := fun W3 h3 => by
          have hs0 : Same [1] W' W3 := fun b hb => by
            rw [List.mem_singleton] at hb
            subst hb
            obtain ⟨o, ho⟩ : ∃ o, W'.heap[1]? = some o := ⟨_, Array.getElem?_eq_getElem qT.pos⟩
            rw [ho]
            exact h3.2 1 o ho h0 (fun hle => by have := hT.pos; omega)
          exact ⟨h3.keepsFrom (fun b hb => by have := hbs b hb; omega), hs0, h3.2 b2 _ qY hb2b (fun _ c t fr e => by cases e; exact hts.1), h3.2 _ _ qK hb3b (fun _ c t fr e => by cases e; exact hts.2), h3.2 Bn _ qR hBn (fun hle => by have := hr.lt; omega), qT.same hs0 (by simp), fun D hD => ⟨(qD D hD).1, h3.2 D _ (qD D hD).2 (fun hm => by have := hbs D hm; have := (qD D hD).1; omega) (fun _ c t fr e => by cases e)⟩, Nat.le_trans qS h3.1⟩
        clear hlen' hlt' hsn qY qK qR qT qD qS hj' hj3 bY3 bK rV4 tV4 hd4 bE hds hdl hEk hEp hlen0 hlenN hVs hnd hv hxl
        gi_wp2
        refine (round_wide hR).mono ?_
        rintro e W3 (⟨rfl, hJ3, hk3⟩ | ⟨rfl, hJ3, hk3⟩)
        · obtain ⟨g1, g2, g3, g4, g5, g6, g7, g8⟩ := HKF.out W3 hk3
          gi_wp2
          exact ⟨g1, g2, hJ3, g3, g4, g5, g6, g7, g8⟩
        · obtain ⟨g1, g2, g3, g4, g5, g6, g7, g8⟩ := HKF.out W3 hk3
          gi_wp2
          exact ⟨g1, rfl, hJ3, g7⟩
      case done =>
        rintro D ys W' hD hys ⟨hj', qY, qK, qR, qT, qD, qS⟩ hK
        have hv' : valsP (P0 ++ ys.map fun b => ((⟨k, hk64⟩ : Fin 64), b)) = edgesL (k + 1) f := by
          rw [valsP_app, hv, valsP_map, hys, hEk]
        have hnd' : (D :: ds).Nodup := List.nodup_cons.2 ⟨fun hm => by have := hdl D hm; omega, hnd⟩
        have hm' : Marks B0 (D :: ds) W' := fun E hE => by
          rcases List.mem_cons.1 hE with rfl | hE
          · exact ⟨by omega, hK⟩
          · exact qD E hE
        have hdd : { target := Target.collected D, args := #[] } :: ds.map mark = (D :: ds).map mark := rfl
        rw [hdd]
        have hle' : B0 ≤ W'.heap.size := by omega
        have HH : Hid (valsP (P0 ++ ys.map fun b => ((⟨k, hk64⟩ : Fin 64), b)) = edgesL (k + 1) f ∧ J (P0 ++ ys.map fun b => ((⟨k, hk64⟩ : Fin 64), b)) W' ∧ Boxed W' b2 138 (.func (.yield l) #[] #[]) ∧ IsR W' Bn N f ∧ TabAt W' ∧ Marks B0 (D :: ds) W' ∧ (D :: ds).Nodup ∧ B0 ≤ W'.heap.size) := ⟨hv', hj', qY, qR, qT, hm', hnd', hle'⟩
        clear hv' hnd' hm' hdd hle' hys qK hK hj' qY qR qT qD qS hj3 bY3 bK rV4 tV4 hd4 bE hds hdl hEk hEp hlen0 hlenN hVs hnd hv hxl
        gi_wp2
        obtain ⟨e1, e2, e3, e4, e5, e6, e7, e8⟩ := HH.out
        refine ⟨⟨k + 1, _, D :: ds, _, _, _, _, _, _, _, _, _, _, _, _, _, _, _, _, _, by omega, rfl, e1, e2, e3, e4, e5, e6, e7, e8⟩, ?_⟩
        simp [intOf]
        omega
      case stop =>
        rintro D c pre W' hD hpre ⟨rfl, hjx, qD⟩ hK
        have hpp : valsP (P0 ++ pre.map fun b => ((⟨k, hk64⟩ : Fin 64), b)) <+: edgesL N f := by
          rw [valsP_app, hv, valsP_map]
          refine List.IsPrefix.trans ?_ hEp
          rw [hEk]
          exact List.prefix_append_right_inj _ |>.2 (hpre.map _)
        have hnd' : (D :: ds).Nodup := List.nodup_cons.2 ⟨fun hm => by have := hdl D hm; omega, hnd⟩
        have hm' : Marks B0 (D :: ds) W' := fun E hE => by
          rcases List.mem_cons.1 hE with rfl | hE
          · exact ⟨by omega, hK⟩
          · exact qD E hE
        clear hj3 bY3 bK rV4 tV4 hd4 bE hds hdl hEk hEp hlen0 hlenN hVs hnd hv hxl hK
        gi_wp2
        exact leaves_marks rfl _ (G := fun V' => ∃ xs, valsP xs <+: edgesL N f ∧ Jx xs V') (B := B0) (fun W' h => ⟨⟨_, rfl⟩, .inr h⟩) (fun W' D o h hD hd => by
          obtain ⟨xs, h1, h2⟩ := h
          exact ⟨xs, h1, hJx.putObj _ h2 hD hd rfl⟩) (D :: ds) W' ⟨_, hpp, hjx⟩ hm' hnd'
    · have hkN : k = N := by omega
      subst hkN
      gi_wp2
      exact leaves_marks rfl _ (G := fun V' => ∃ xs, valsP xs = edgesL k f ∧ J xs V') (B := B0) (fun W' h => ⟨⟨_, rfl⟩, .inl h⟩) (fun W' D o h hD hd => by
        obtain ⟨xs, h1, h2⟩ := h
        exact ⟨xs, h1, hJ.putObj _ h2 hD hd rfl⟩) ds V ⟨P0, hv, hj⟩ hds hnd
end Go.Proofs.YtdneaaegllpnlaaDoor
