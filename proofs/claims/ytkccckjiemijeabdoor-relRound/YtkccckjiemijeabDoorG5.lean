/- Extends and Extend: the least order of a relation without rounds. -/
import Derived.Test.YtkccckjiemijeabDoorG4
namespace Go.Proofs.YtkccckjiemijeabDoor
open Go.RowKit Go.Shelf M P
attribute [local go_sem] Oper.semAt_some
set_option linter.unusedSimpArgs false
set_option linter.unusedVariables false

theorem least_of {R : Nat → Nat → Prop} (hi : ∀ a, ¬ R a a) (ht : ∀ a b c, R a b → R b c → R a c) : ∀ l : List Nat, l ≠ [] → ∃ m ∈ l, ∀ x ∈ l, ¬ R x m
  | [], h => absurd rfl h
  | [x], _ => ⟨x, by simp, fun y hy => by rw [List.mem_singleton] at hy; rw [hy]; exact hi x⟩
  | x :: y :: l, _ => by
    obtain ⟨m, hm, hl⟩ := least_of hi ht (y :: l) (by simp)
    by_cases h : R x m
    · refine ⟨x, by simp, fun z hz hzx => ?_⟩
      rcases List.mem_cons.1 hz with rfl | hz
      · exact hi _ hzx
      · exact hl z hz (ht _ _ _ hzx h)
    · refine ⟨m, List.mem_cons_of_mem _ hm, fun z hz hzm => ?_⟩
      rcases List.mem_cons.1 hz with rfl | hz
      · exact h hzm
      · exact hl z hz hzm

/-- Whether no way leads back. -/
def acyc (N : Nat) (F : Nat → Nat) : Bool := irr N (wsh F N)
theorem acyc_none {N : Nat} {F : Nat → Nat} (hN : N ≤ 64) (hF : Right N F) (h : acyc N F = true) (a : Nat) (ha : a < 64) : ¬ Bt (wsh F N) a a := by
  intro hb
  unfold acyc irr at h
  rw [List.all_eq_true] at h
  have hr := right_le (right_wsh hN hF N (Nat.le_refl _)) ha hb
  have := h a (by simpa using hr.1)
  unfold Bt at hb
  rw [hb] at this
  simp at this
theorem goes_of {N : Nat} {F : Nat → Nat} (hN : N ≤ 64) (hF : Right N F) (h : acyc N F = true) (s : Nat) : Goes (tuF (edgesL N F)) s := by
  intro t ht h0 _
  have hclo : Clo F (wsh F N) := wsh_clo hN (fun a b ha hb => right_le hF ha hb)
  have hne : lst t ≠ [] := fun e => h0 (lst_empty ht (by rw [e]; rfl))
  obtain ⟨m, hm, hl⟩ := least_of (R := fun a b => a < 64 ∧ b < 64 ∧ Bt (wsh F N) a b) (fun a ⟨h1, _, h3⟩ => acyc_none hN hF h a h1 h3) (fun a b c ⟨h1, h2, h3⟩ ⟨_, h5, h6⟩ => ⟨h1, h5, hclo.trans a b c h1 h2 h3 h6⟩) (lst t) hne
  obtain ⟨hm64, hmt⟩ := mem_lst.1 hm
  refine ⟨m, hm64, hmt, ?_⟩
  unfold frees
  rw [decide_eq_true_eq]
  apply Nat.eq_of_testBit_eq
  intro b
  rw [Nat.zero_testBit, Nat.testBit_and]
  cases h1 : (tuF (edgesL N F) m).testBit b
  · rfl
  · cases h2 : t.testBit b
    · rfl
    · exfalso
      rw [tuF_bit, decide_eq_true_eq] at h1
      obtain ⟨k1, k2, k3⟩ := mem_edges.1 h1
      exact hl b (mem_lst.2 ⟨by omega, h2⟩) ⟨by omega, hm64, hclo.has b m (by omega) k3⟩
theorem lst_bel (N : Nat) (hN : N ≤ 64) : lst (bel (N : Int)) = List.range N := by
  have e : lst (bel (N : Int)) = (List.range 64).filter fun i => decide (i < N) := by
    unfold lst
    apply List.filter_congr
    intro i hi
    rw [testBit_bel _ _ (by simpa using hi)]
    simp
  rw [e]
  have key : ∀ M : Fin 65, ((List.range 64).filter fun i => decide (i < M.val)) = List.range M.val := by decide +kernel
  exact key ⟨N, by omega⟩
theorem grd_len (G : Nat → Nat) : ∀ k s, (grd G k s).length ≤ k
  | 0, s => by simp [grd]
  | k + 1, s => by
    show (match (lst s).find? (frees G s) with
      | some a => a :: grd G k (clr s a)
      | none => []).length ≤ k + 1
    split
    · have := grd_len G k (clr s ‹_›)
      simp; omega
    · simp
/-- The least order in which all pairs go forward. -/
def ordL (N : Nat) (F : Nat → Nat) : List Nat := grd (tuF (edgesL N F)) N (bel (N : Int))

set_option maxRecDepth 100000 in
set_option maxHeartbeats 2000000 in
theorem extends1_once (bb N : Nat) (hN : N ≤ 64) (F : Nat → Nat) (hF : Right N F) (w : World) (rw0 : IsR w bb N F) (tw0 : TabAt w) : SeqOnce 50 #[.pointer (some ⟨bb, 0, none⟩)] (ordL N F) (acyc N F) w := by
  intro n l B bs J Jx W hW hB hbs hbs0 hJ hJx hY jW
  subst hB
  have rW := rw0.grown hW
  have tW := tw0.below hW
  have h0 : 0 ∉ bs := hbs0
  have ca : Hid (AnsV 28 #[relv N F] (.bool (acyc N F))) := by
    have := acyclic_any N F hF.wf
    rwa [right_nN hF hN, right_nF hF hN, Int.toNat_natCast] at this
  refine callsIn_wide.2 ((callsIn_wide (n := 8)).1 ?_)
  refine callsIn_of_wp_marks Tryd.func50 rfl trivial ?_ rfl
  simp only [Tryd.ntmps50, List.size_toArray, List.length_cons, List.length_nil, Nat.reduceAdd, Nat.reduceSub, Array.replicate_succ, Array.replicate_zero, List.push_toArray, List.append_toArray, List.nil_append, List.cons_append]
  have hf28 : Fence.wide.fn 28 := trivial
  have hf19 : Fence.wide.fn 19 := trivial
  have hf41 : Fence.wide.fn 41 := trivial
  have hf51 : Fence.wide.fn 51 := trivial
  cases hac : acyc N F
  · rw [hac] at ca
    gi_wp2_with (first
      | (refine wpListIn_loadR rfl _ rfl rfl rW ?_)
      | (gi_at_call 28; refine (callsIn_wide.2 (ca.out _ tW)).mono ?_; rintro e W6 ⟨rfl, hb6⟩))
    exact ⟨_, results_none rfl _ _ _, ⟨_, rfl⟩, hJ W W6 jW (kin_below hb6)⟩
  · have ci : Hid (AnsV 19 #[relv N F] (relv N (tuF (edgesL N F)))) := fun W' hT' => by
      have := inv_any N F W' hF.wf hT'
      rwa [right_nN hF hN, right_nF hF hN, Int.toNat_natCast] at this
    have cl : Hid (∀ W', Calls Tryd.prog 41 #[.int .i64 (N : Int)] W' fun e w' => e = .returned (.int .u64 (bel N : Nat)) ∧ w' = W') := fun W' => all_any N W' (by omega) (by omega)
    have hlay : Hid (∀ (bi : Nat) (W' : World), bi ∉ bs → J W' → W.heap.size ≤ W'.heap.size → IsR W' bi N (tuF (edgesL N F)) → TabAt W' → Calls Tryd.prog 51 #[.pointer (some ⟨bi, 0, none⟩), .int .u64 (bel (N : Int) : Nat), .slice none 0 0, .func (.yield l) #[] #[]] W' (LaidOne bs (ordL N F) Jx none W')) := fun bi W' hbi j' hs' r' t' =>
      lay_first l W.heap.size bs hbs h0 (by have := tW.pos; omega) bi N hbi (tuF (edgesL N F)) (tuF_lt _ (edges_in N hN F)) (ordL N F) (by have := grd_len (tuF (edgesL N F)) N (bel (N : Int)); unfold ordL; omega) J Jx hJ hJx hY N (bel (N : Int)) [] none 0 W' (bel_lt _) (by rw [lst_bel N hN]; simp) (goes_of hN hF hac _) rfl j' hs' (World.ownsRow_nil _ _ _ _) r' t'
    rw [hac] at ca
    generalize tuF (edgesL N F) = G at *
    generalize bel (N : Int) = y at *
    gi_wp2_with (first
      | (refine wpListIn_loadR rfl _ rfl rfl rW ?_)
      | (gi_at_call 28; refine (callsIn_wide.2 (ca.out _ tW)).mono ?_; rintro e W6 ⟨rfl, hb6⟩; replace rW := rW.grown hb6; replace tW := tW.below hb6)
      | (gi_at_call 19; refine (callsIn_wide.2 (ci.out _ tW)).mono ?_; rintro e W7 ⟨rfl, hb7⟩; replace rW := rW.grown hb7; replace tW := tW.below hb7; have hz7 := hb7.size; have hz6 := hb6.size)
      | (refine wpListIn_allocR rfl rfl ?_; intro W8 b3 F8 r3; replace rW := rW.fresh F8; have hb3 : W.heap.size ≤ b3 := (by rw [F8.at']; omega); have B8 : Below W.heap.size W W8 := Fresh.trans (hb6.trans (hb7.mono hz6)) (by omega) F8; clear F8)
      | (refine wpListIn_storeR rfl _ _ rfl rfl rfl r3 ?_; intro W9 U9 q3; have hne : bb ≠ b3 := (by have := (rw0.grown hW).lt; omega); replace rW := rW.upd U9 hne; replace B8 := U9.trans B8 hb3; have cn := rW.n)
      | (gi_at_call 41; refine (callsIn_wide.2 (cl.out _)).mono ?_; rintro e w' ⟨rfl, hw'⟩; replace hw' := hw'.symm; subst hw')
      | (gi_at_call 51; refine (callsIn_wide.2 (hlay.out b3 _ (fun hm => by have := hbs b3 hm; omega) (hJ W _ jW (kin_below B8)) B8.size q3 ((tw0.below hW).below B8))).mono ?_; rintro e W10 ⟨v', rfl, jx, own, keep⟩))
    exact ⟨_, results_none rfl _ _ _, ⟨_, rfl⟩, v', jx, own_base own B8.size⟩

set_option maxRecDepth 100000 in
theorem extends_any (n : Int) (f : Nat → Nat) (w : World) (hf : Hid (Wf f)) : Calls Tryd.prog 33 #[relv n f] w fun e w' => ∃ b, e = .returned (.func (.func 50) #[] #[.pointer (some ⟨b, 0, none⟩)]) ∧ w.heap.size ≤ b ∧ IsR w' b (nN n f) (nF n f) ∧ Below w.heap.size w w' := by
  go_enter Tryd.func33, Tryd.ntmps33
  go_wp2_with (first
    | (refine wpList_boxR rfl _ rfl rfl ?_; intro W1 b1 F1 r1; have B1 := Fresh.trans (Below.refl _ w) (Nat.le_refl _) F1)
    | (refine wpList_loadR rfl _ rfl rfl r1 ?_)
    | (go_at_call 43; refine (right_any n f _ hf).mono ?_; rintro e w' ⟨rfl, hw'⟩; replace r1 := r1.grown hw'; replace B1 := B1.trans (hw'.mono B1.size))
    | (refine wpList_storeR rfl _ _ rfl rfl rfl r1 ?_; intro W3 U3 r3; replace B1 := U3.trans B1 (by rw [F1.at']; exact Nat.le_refl _)))
  go_ret
  exact ⟨b1, rfl, by rw [F1.at']; exact Nat.le_refl _, r3, B1⟩

theorem boxed_upd' {w W : World} {B b t : Nat} {v : Value} (h : Boxed w B t v) (U : Upd w W b) (hb : B ≠ b) : Boxed W B t v := (U.block B hb).trans h
theorem boxed_dep {B b t : Nat} {own : Option Nat} {v : Value} (hb : b < B) : Dep B own (fun W => Boxed W b t v) := fun X Y hs hk => hk.block b _ hs (Or.inl hb)
theorem below_dep {B : Nat} {own : Option Nat} {w : World} (hb : w.heap.size ≤ B) : Dep B own (fun W => Below w.heap.size w W) := fun X Y hs hk => ⟨hk.os.trans hs.os, hk.tape.trans hs.tape, hk.output.trans hs.output, Nat.le_trans hs.size hk.size, fun k hk' => by
  obtain ⟨o, ho⟩ : ∃ o, w.heap[k]? = some o := ⟨_, Array.getElem?_eq_getElem hk'⟩
  have h1 := (hs.block k hk').trans ho
  rw [hk.block k o h1 (Or.inl (by omega)), ho]⟩
theorem dep_and {B : Nat} {own : Option Nat} {J K : World → Prop} (h : Dep B own J) (k : Dep B own K) : Dep B own (fun W => J W ∧ K W) := fun X Y hs hk => ⟨h X Y hs.1 hk, k X Y hs.2 hk⟩

theorem results_ob {fn : Func} {p q : Tmp} (h : fn.results = #[.cell p 40, .cell q 4]) {tmps : Array Value} {w : World} {b c : Nat} {v u : Value} (hp : tmps.getD p undef = .pointer (some ⟨b, 0, none⟩)) (hq : tmps.getD q undef = .pointer (some ⟨c, 0, none⟩)) (hb : Boxed w b 40 v) (hc : Boxed w c 4 u) : (results fn tmps).run Tryd.prog w = .ok (.tuple #[v, u]) w := by
  have hp' : tmps[p]?.getD undef = .pointer (some ⟨b, 0, none⟩) := by simpa using hp
  have hq' : tmps[q]?.getD undef = .pointer (some ⟨c, 0, none⟩) := by simpa using hq
  have h1 := hb.cell
  have h2 := hc.cell
  simp only [results, h]
  simp [Sem.run_bind, Result.andThen, hp', hq', asAddr, go_sem, h1, h2]

/-- What Extend answers. -/
def ExtAns (acy : Bool) (o : List Nat) (w : World) (e : Ending) (w' : World) : Prop :=
  Below w.heap.size w w' ∧ ((acy = false ∧ e = .returned (.tuple #[.slice none 0 0, .bool false])) ∨ (acy = true ∧ ∃ v, e = .returned (.tuple #[v, .bool true]) ∧ w'.ownsRow w.heap.size 3 1 v o.length (encI o)))

set_option maxRecDepth 100000 in
set_option maxHeartbeats 2000000 in
theorem extend_any (n : Int) (f : Nat → Nat) (hf : Wf f) (w : World) (hT : TabAt w) : Calls Tryd.prog 27 #[relv n f] w (ExtAns (acyc (nN n f).toNat (nF n f)) (ordL (nN n f).toNat (nF n f)) w) := by
  obtain ⟨N, h1, hN64, h3⟩ := n_right' n f hf
  have ce : Hid (∀ W, Calls Tryd.prog 33 #[relv n f] W fun e w' => ∃ b, e = .returned (.func (.func 50) #[] #[.pointer (some ⟨b, 0, none⟩)]) ∧ W.heap.size ≤ b ∧ IsR w' b N (nF n f) ∧ Below W.heap.size W w') := fun W => by
    have := extends_any n f W hf
    rwa [h1] at this
  rw [h1, Int.toNat_natCast]
  have hseq : Hid (∀ (bb : Nat) (W : World), IsR W bb N (nF n f) → TabAt W → SeqOnce 50 #[.pointer (some ⟨bb, 0, none⟩)] (ordL N (nF n f)) (acyc N (nF n f)) W) := fun bb W hr ht => extends1_once bb N hN64 (nF n f) h3 W hr ht
  generalize nF n f = F at *
  generalize ordL N F = o at *
  generalize acyc N F = A at *
  clear h1 h3
  have hf33 : Fence.wide.fn 33 := trivial
  have hf50 : Fence.wide.fn 50 := trivial
  refine (callsIn_wide (n := 8)).1 ?_
  refine callsIn_of_wp_marks Tryd.func27 rfl trivial ?_ rfl
  simp only [Tryd.ntmps27, List.size_toArray, List.length_cons, List.length_nil, Nat.reduceAdd, Nat.reduceSub, Array.replicate_succ, Array.replicate_zero, List.push_toArray, List.append_toArray, List.nil_append, List.cons_append]
  gi_wp2_with (first
    | (refine wpListIn_boxR rfl _ rfl rfl ?_; intro W1 b1 F1 r1; have B1 := Fresh.trans (Below.refl _ w) (Nat.le_refl _) F1; have hwb : w.heap.size ≤ b1 := (by rw [F1.at']; exact Nat.le_refl _); have hz1 : b1 < W1.heap.size := (by rw [F1.size]; omega); clear F1)
    | (refine wpListIn_loadR rfl _ rfl rfl ((r1.alloc _).alloc _) ?_)
    | (gi_at_call 33; refine (callsIn_wide.2 (ce.out _)).mono ?_; rintro e W4 ⟨bb, rfl, hbb, rb, hb4⟩))
  have c2 : Boxed ((W1.alloc (.cells #[.slice none 0 0] 40)).alloc (.cells #[.bool false] 4)) W1.heap.size 40 (.slice none 0 0) := (Boxed.new W1 40 (.slice none 0 0)).alloc _
  have c3 : Boxed ((W1.alloc (.cells #[.slice none 0 0] 40)).alloc (.cells #[.bool false] 4)) (W1.heap.size + 1) 4 (.bool false) := by
    have := Boxed.new (W1.alloc (.cells #[.slice none 0 0] 40)) 4 (.bool false)
    rwa [World.size_alloc] at this
  have hz3 : ((W1.alloc (.cells #[.slice none 0 0] 40)).alloc (.cells #[.bool false] 4)).heap.size = W1.heap.size + 2 := by simp
  have B3 : Below w.heap.size w ((W1.alloc (.cells #[.slice none 0 0] 40)).alloc (.cells #[.bool false] 4)) := (B1.alloc B1.size _).alloc (by have := B1.size; simp; omega) _
  generalize (W1.alloc (.cells #[.slice none 0 0] 40)).alloc (.cells #[.bool false] 4) = W3 at *
  obtain ⟨b2, hb2⟩ : ∃ b, W1.heap.size = b := ⟨_, rfl⟩
  obtain ⟨b3, hb3⟩ : ∃ b, W1.heap.size + 1 = b := ⟨_, rfl⟩
  rw [hb2] at c2
  rw [hb3] at c3 ⊢
  simp only [hb2]
  have B4 : Below w.heap.size w W4 := B3.trans (hb4.mono (by have := B3.size; omega))
  have k2 : Boxed W4 b2 40 (.slice none 0 0) := (hb4.block b2 (by omega)).trans c2
  have k3 : Boxed W4 b3 4 (.bool false) := (hb4.block b3 (by omega)).trans c3
  have hz4 := hb4.size
  have tW := hT.below B4
  have hpos := hT.pos
  clear ce r1 B1 c2 c3 B3 hb4
  refine rangeOnce (by omega) rfl (enters_of Tryd.func50 (by kernel_rfl) rfl) (hseq.out bb W4 rb tW) (Below.refl _ _) [b2, b3] (fun b hb => by simp at hb; omega) (by simp; omega)
    (fun W => (Boxed W b2 40 (.slice none 0 0) ∧ Boxed W b3 4 (.bool false)) ∧ Below w.heap.size w W)
    (fun v W => (Boxed W b2 40 v ∧ Boxed W b3 4 (.bool true)) ∧ Below w.heap.size w W)
    (dep_and (dep_and (boxed_dep (by omega)) (boxed_dep (by omega))) (below_dep (by omega))) (fun v => dep_and (dep_and (boxed_dep (by omega)) (boxed_dep (by omega))) (below_dep (by omega))) ⟨⟨k2, k3⟩, B4⟩
    (fun v => { tmps := #[relv n f, .pointer (some ⟨b1, 0, none⟩), .pointer (some ⟨b2, 0, none⟩), .pointer (some ⟨b3, 0, none⟩), v, relv n f, .func (.func 50) #[] #[.pointer (some ⟨bb, 0, none⟩)], v, undef], defers := [] }) ?assign ?body ?done ?stop
  case assign =>
    intro l m v W K hK
    gi_wp2
    exact hK
  case body =>
    rintro l m v W ⟨⟨q2, q3⟩, BW⟩ hown
    obtain ⟨ad, cap, rfl⟩ := own_form hown
    have cell2 := q2.cell
    have fz2 := boxed_frozen q2
    have U2 := Upd.setCell W b2 0 (.slice ad o.length cap)
    have q3' := boxed_upd' q3 U2 (by omega)
    have cell3 := q3'.cell
    have fz3 := boxed_frozen q3'
    have U3 := Upd.setCell (W.setCell ⟨b2, 0, none⟩ (.slice ad o.length cap)) b3 0 (.bool true)
    have HQ : Hid (((Boxed ((W.setCell ⟨b2, 0, none⟩ (.slice ad o.length cap)).setCell ⟨b3, 0, none⟩ (.bool true)) b2 40 (.slice ad o.length cap) ∧ Boxed ((W.setCell ⟨b2, 0, none⟩ (.slice ad o.length cap)).setCell ⟨b3, 0, none⟩ (.bool true)) b3 4 (.bool true)) ∧ Below w.heap.size w ((W.setCell ⟨b2, 0, none⟩ (.slice ad o.length cap)).setCell ⟨b3, 0, none⟩ (.bool true))) ∧ KpB (W4.heap.size + 2) [b2, b3] [] W ((W.setCell ⟨b2, 0, none⟩ (.slice ad o.length cap)).setCell ⟨b3, 0, none⟩ (.bool true))) :=
      ⟨⟨⟨boxed_upd' (boxed_set q2 _) U3 (by omega), boxed_set q3' _⟩, U3.trans (U2.trans BW (by omega)) (by omega)⟩, (KpB.of_upd U2 (by simp)).trans (KpB.of_upd U3 (by simp))⟩
    clear U2 U3 q2 q3 q3' BW hown
    gi_wp2
    exact HQ.out
  case done =>
    rintro D W hD rfl ⟨⟨q2, q3⟩, BW⟩ hK
    have cell2 := q2.cell
    have fz2 := boxed_frozen q2
    have U2 := Upd.setCell W b2 0 (.slice none 0 0)
    have q3' := boxed_upd' q3 U2 (by omega)
    have cell3 := q3'.cell
    have fz3 := boxed_frozen q3'
    have U3 := Upd.setCell (W.setCell ⟨b2, 0, none⟩ (.slice none 0 0)) b3 0 (.bool false)
    have e2 := boxed_upd' (boxed_set q2 (.slice none 0 0)) U3 (by omega)
    have e3 := boxed_set q3' (.bool false)
    have BB := U3.trans (U2.trans BW (by omega)) (by omega)
    have hK' : ((W.setCell ⟨b2, 0, none⟩ (.slice none 0 0)).setCell ⟨b3, 0, none⟩ (.bool false)).heap[D]? = some (.deferred (some [])) := (U3.block D (by omega)).trans ((U2.block D (by omega)).trans hK)
    clear U2 U3 q2 q3 q3' BW hK
    gi_wp2
    refine ⟨by simp, .inl ⟨D, _, rfl, run_takeDeferred hK', ?_⟩⟩
    exact ⟨_, results_ob rfl rfl rfl ((World.putObj_heap_other (by omega)).trans e2) ((World.putObj_heap_other (by omega)).trans e3), (below_dep (own := none) (B := W4.heap.size) (by omega)) _ _ BB (kin_put _ hD (by simp)), .inl ⟨rfl, rfl⟩⟩
  case stop =>
    rintro D v W hD rfl ⟨⟨q2, q3⟩, BW⟩ hown hK
    gi_wp2
    refine ⟨by simp, .inl ⟨D, _, rfl, run_takeDeferred hK, ?_⟩⟩
    have hvD : v.ownBlock ≠ some D := fun e => by
      obtain ⟨cur, hcur⟩ := own_cells hown e
      rw [hcur] at hK
      cases hK
    exact ⟨_, results_ob rfl rfl rfl ((World.putObj_heap_other (by omega)).trans q2) ((World.putObj_heap_other (by omega)).trans q3), (below_dep (own := none) (B := W4.heap.size) (by omega)) _ _ BW (kin_put _ hD (by simp)), .inr ⟨rfl, v, rfl, own_base (hown.kept (grownBy_put _) (Or.inr hvD)) (by omega)⟩⟩
end Go.Proofs.YtkccckjiemijeabDoor
