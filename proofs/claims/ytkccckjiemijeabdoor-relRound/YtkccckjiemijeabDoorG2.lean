/- Laying the first order: one step of the recursion. -/
import Derived.Test.YtkccckjiemijeabDoorG1
import Derived.Test.YtkccckjiemijeabDoorG3
namespace Go.Proofs.YtkccckjiemijeabDoor
open Go.RowKit Go.Shelf M
attribute [local go_sem] Oper.semAt_some
set_option linter.unusedSimpArgs false
set_option linter.unusedVariables false

theorem step_append_at {F : Fence} {n : Nat} {P : Program} {w : World} {ops : Array Oper} {o : Oper} {a : Act} {K : Act → World → Prop} {Q : Exit → Act → World → Prop} {E : Prop}
    (hw : Region.wanted o (yielded ops a.tmps) = true) (s x : Operand) (t : TypeId) (hop : o.op = Op.call { callee := Callee.builtin Builtin.append, args := #[s, x], argTypes := #[t, t] })
    (base : Nat) (e : TypeId) (i : TypeInfo) (z : Value) (size bytes : Nat) (h1 : P.underlying t = some (.slice e)) (h2 : P.info? e = some i) (h3 : i.zero = some z) (h4 : i.size = size) (h5 : i.bytes = bytes) (h6 : z.cells.size = size) (h7 : 0 < size)
    (v : Value) (k : Nat) (xs : List Value) (hs : a.eval s = v) (hown : w.ownsRow base e size v k xs) (ad : Addr) (m c : Nat) (news : List Value) (hx : a.eval x = .slice (some ad) m c) (hn : news.length = m * size)
    (hc : ∀ j u, news[j]? = some u → w.cell? (ad.add j) = some u) (h1c : ∀ u ∈ news, u.oneCell' = true) (b1 : k + m ≤ maxLen) (b2 : (k + m) * bytes ≤ 140737488355328) (b3 : base ≤ w.heap.size)
    (hK : ∀ v' w', w'.ownsRow base e size v' (k + m) (xs ++ news) → w.grownBy w' v.ownBlock → (v'.ownBlock = v.ownBlock ∨ v'.ownBlock = some w.heap.size) → K (a.put o.dst v') w') :
    if Region.wanted o (yielded ops a.tmps) = true then Oper.wpIn F n P o a w K Q else E := by
  rw [if_pos hw]
  obtain ⟨v', w', hrun, r1, r2, _, r4⟩ := run_append_own_at (P := P) w base t o.type e i z size bytes h1 h2 h3 h4 h5 h6 h7 v k xs hown ad m c news hn hc h1c b1 b2 b3
  unfold Oper.wpIn
  refine ⟨?_, ?_⟩
  · simp [Oper.about, hop, resolve, Target.leads, Sem.run_pure]
  · rw [Oper.semAt_plain F _ _ (by rw [hop]; intro c hc'; cases hc')]
    simp [execOp, hop, resolve, invoke, builtin, hs, hx, hrun, Result.andThen]
    exact hK v' w' r1 r2 r4

theorem own_form {W : World} {base e s n : Nat} {v : Value} {xs : List Value} (h : W.ownsRow base e s v n xs) : ∃ a cap, v = .slice a n cap := by
  rcases h.2 with ⟨rfl, rfl⟩ | ⟨g', cap', cur, rfl, _⟩
  · exact ⟨_, _, rfl⟩
  · exact ⟨_, _, rfl⟩
/-- A row's block is one of cells. -/
theorem own_cells {W : World} {base e s n k : Nat} {v : Value} {xs : List Value} (h : W.ownsRow base e s v n xs) (hk : v.ownBlock = some k) : ∃ cur, W.heap[k]? = some (.cells cur e (0, 0)) := by
  rcases h.2 with ⟨rfl, rfl⟩ | ⟨g', cap', cur, rfl, _, hg, _⟩
  · cases hk
  · cases hk; exact ⟨_, hg⟩
theorem rows_own {β : Type} {base e s n : Nat} {v : Value} {xs : List Value} : Own (fun (_ : β) W => W.ownsRow base e s v n xs) := fun _ X Y row hs hg hr => by
  refine hs.kept hg ?_
  by_cases hn : v.ownBlock = none
  · exact Or.inl hn
  · refine Or.inr (fun e => ?_)
    obtain ⟨r, hv⟩ := Option.ne_none_iff_exists'.1 hn
    obtain ⟨o, ho, hc⟩ := hr r (e.symm.trans hv)
    obtain ⟨cur, hcur⟩ := own_cells hs hv
    rw [hcur] at ho
    cases ho
    cases hc
theorem dep_own {β : Type} {B B' : Nat} {J : World → Prop} (hJ : Dep B none J) (hB : B ≤ B') : OwnFrom B' (fun (_ : β) W => J W) := fun _ X Y row hs hg hr =>
  hJ X Y hs (kin_grown hg (fun r e => ⟨by have := (hr r e).1; omega, by simp⟩))
theorem keepL_own {β : Type} {bs : List Nat} {own : Option Nat} {B' : Nat} {W : World} (hB : W.heap.size ≤ B') : OwnFrom B' (fun (_ : β) W' => KeepL bs own W W') := fun _ X Y row hs hg hr =>
  ⟨Nat.le_trans hs.1 hg.size, fun k o hk h1 h2 => (hg.block k (Array.getElem?_eq_some_iff.1 (hs.2 k o hk h1 h2)).1 (fun e => by
    have := (hr k e.symm).1
    have := (Array.getElem?_eq_some_iff.1 hk).1
    omega)).trans (hs.2 k o hk h1 h2)⟩
theorem depx_own {B B' : Nat} {v : Value} {Jx : World → Prop} {X Y : World} {row : Option Nat} {base e s n : Nat} {xs : List Value} (hJ : Dep B v.ownBlock Jx) (hB : B ≤ B') (hs : Jx X) (ho : X.ownsRow base e s v n xs) (hg : X.grownBy Y row) (hr : ∀ r, row = some r → B' ≤ r ∧ ∃ o, X.heap[r]? = some o ∧ o.isCells = false) : Jx Y :=
  hJ X Y hs (kin_grown hg (fun r e => ⟨by have := (hr r e).1; omega, fun hv => by
    obtain ⟨o, ho', hc⟩ := (hr r e).2
    obtain ⟨cur, hcur⟩ := own_cells ho hv
    rw [hcur] at ho'
    cases ho'
    cases hc⟩))
theorem encI_snoc (l : List Nat) (x : Nat) : encI (l ++ [x]) = encI l ++ [.int .i64 (x : Nat)] := by simp [encI]
theorem grownBy_put {W : World} {D : Nat} (o : Obj) : W.grownBy (W.putObj D o) (some D) := ⟨rfl, rfl, rfl, by simp, fun k hk h => World.putObj_heap_other (fun e => h (by rw [e]))⟩
theorem KeepL.keepsFrom {bs : List Nat} {B' base e s n : Nat} {v : Value} {xs : List Value} {W W' : World} (h : KeepL bs v.ownBlock W W') (ho : W.ownsRow base e s v n xs) (hb : ∀ b ∈ bs, b < B') : KeepsFrom B' W W' :=
  ⟨h.1, fun k o hk hko hc => h.2 k o hko (fun hm => by have := hb k hm; omega) (fun hv => by
    obtain ⟨cur, hcur⟩ := own_cells ho hv
    rw [hcur] at hko
    cases hko
    cases hc)⟩
theorem grown_keepsFrom {B' base e s n : Nat} {v : Value} {xs : List Value} {W W' : World} (h : W.grownBy W' v.ownBlock) (ho : W.ownsRow base e s v n xs) : KeepsFrom B' W W' :=
  ⟨h.size, fun k o hk hko hc => (h.block k (Array.getElem?_eq_some_iff.1 hko).1 (fun hv => by
    obtain ⟨cur, hcur⟩ := own_cells ho hv.symm
    rw [hcur] at hko
    cases hko
    cases hc)).trans hko⟩
theorem upd_keepsFrom {B' b t : Nat} {v : Value} {W W' : World} (h : Upd W W' b) (hb : Boxed W b t v) : KeepsFrom B' W W' :=
  ⟨by rw [h.size]; exact Nat.le_refl _, fun k o hk hko hc => (h.block k (fun e => by
    subst e
    rw [show W.heap[k]? = _ from hb] at hko
    cases hko
    cases hc)).trans hko⟩
theorem keepsFrom_trans {B : Nat} {X Y Z : World} (h : KeepsFrom B X Y) (k : KeepsFrom B Y Z) : KeepsFrom B X Z := ⟨Nat.le_trans h.1 k.1, fun j o hj ho hc => k.2 j o hj (h.2 j o hj ho hc) hc⟩

/-- What a call of lay answers: one order was taken. -/
def LaidOne (bs : List Nat) (o : List Nat) (Jx : Value → World → Prop) (own : Option Nat) (W : World) (e : Ending) (W' : World) : Prop :=
  ∃ v', e = .returned (.bool false) ∧ Jx v' W' ∧ W'.ownsRow W.heap.size 3 1 v' o.length (encI o) ∧ KeepL bs own W W'

set_option maxRecDepth 100000 in
set_option maxHeartbeats 4000000 in
theorem lay_step (l B : Nat) (bs : List Nat) (hbs : ∀ b ∈ bs, b < B) (h0 : 0 ∉ bs) (hB0 : 0 < B) (bi N : Nat) (hbi : bi ∉ bs) (G : Nat → Nat) (hG : Hid (Wf G)) (o : List Nat) (ho : o.length ≤ 64) (J : World → Prop) (Jx : Value → World → Prop) (hJ : Dep B none J) (hJx : ∀ v, Dep B v.ownBlock (Jx v))
    (k : Nat) (IH : Hid (∀ (s : Nat) (xs : List Nat) (ad : Option Addr) (cap : Nat) (W : World), s < 18446744073709551616 → (lst s).length = k → Goes G s → o = xs ++ grd G k s → J W → B ≤ W.heap.size → W.ownsRow B 3 1 (.slice ad xs.length cap) xs.length (encI xs) → IsR W bi N G → TabAt W →
      Calls Tryd.prog 51 #[.pointer (some ⟨bi, 0, none⟩), .int .u64 (s : Nat), .slice ad xs.length cap, .func (.yield l) #[] #[]] W (LaidOne bs o Jx (Value.slice ad xs.length cap).ownBlock W)))
    (s : Nat) (xs : List Nat) (ad : Option Addr) (cap : Nat) (W : World) (hs : s < 18446744073709551616) (hk : (lst s).length = k + 1) (hgo : Goes G s) (hos : o = xs ++ grd G (k + 1) s) (jW : J W) (hB : B ≤ W.heap.size) (hown : W.ownsRow B 3 1 (.slice ad xs.length cap) xs.length (encI xs)) (rW : IsR W bi N G) (tW : TabAt W) :
    Calls Tryd.prog 51 #[.pointer (some ⟨bi, 0, none⟩), .int .u64 (s : Nat), .slice ad xs.length cap, .func (.yield l) #[] #[]] W (LaidOne bs o Jx (Value.slice ad xs.length cap).ownBlock W) := by
  have hs0 : s ≠ 0 := fun e => by rw [e, lst_zero] at hk; simp at hk
  have hsz : ((s : Int) == 0) = false := by simp; omega
  have hf53 : Fence.wide.fn 53 := trivial
  have hf58 : Fence.wide.fn 58 := trivial
  have hf51 : Fence.wide.fn 51 := trivial
  refine (callsIn_wide (n := 8)).1 ?_
  refine callsIn_of_wp_marks Tryd.func51 rfl trivial ?_ rfl
  simp only [Tryd.ntmps51, List.size_toArray, List.length_cons, List.length_nil, Nat.reduceAdd, Nat.reduceSub, Array.replicate_succ, Array.replicate_zero, List.push_toArray, List.append_toArray, List.nil_append, List.cons_append]
  have HH : Hid (o = xs ++ grd G (k + 1) s ∧ (lst s).length = k + 1 ∧ Goes G s) := ⟨hos, hk, hgo⟩
  clear hos hk hgo
  gi_wp2_with (gi_at_call 53; refine (callsIn_wide.2 (each_any _ _)).mono ?_; rintro e w' ⟨rfl, rfl⟩)
  obtain ⟨W5, e5, B5, s5, c4, c5, c6, c7, c8⟩ := five W (.pointer (some ⟨bi, 0, none⟩)) (.int .u64 (s : Nat)) (.slice ad xs.length cap) (.func (.yield l) #[] #[]) (.bool false)
  rw [e5]
  clear e5
  simp only [Nat.add_assoc, Nat.reduceAdd]
  have F6 := Fresh.alloc W5 (.cells #[.int .u64 (s : Nat)] 22)
  have B6 : Below W.heap.size W (W5.alloc (.cells #[.int .u64 (s : Nat)] 22)) := B5.trans (F6.below.mono (by omega))
  have cE := Boxed.new W5 22 (.int .u64 (s : Nat))
  have c4 := c4.alloc (.cells #[.int .u64 (s : Nat)] 22)
  have c5 := c5.alloc (.cells #[.int .u64 (s : Nat)] 22)
  have c6 := c6.alloc (.cells #[.int .u64 (s : Nat)] 22)
  have c7 := c7.alloc (.cells #[.int .u64 (s : Nat)] 22)
  have c8 := c8.alloc (.cells #[.int .u64 (s : Nat)] 22)
  have s6 : (W5.alloc (.cells #[.int .u64 (s : Nat)] 22)).heap.size = W.heap.size + 6 := by simp [s5]
  rw [s5] at cE
  clear F6 B5 s5
  generalize W5.alloc (.cells #[.int .u64 (s : Nat)] 22) = W6 at *
  obtain ⟨b4, hb4⟩ : ∃ b, W.heap.size = b := ⟨_, rfl⟩
  obtain ⟨b5, hb5⟩ : ∃ b, W.heap.size + 1 = b := ⟨_, rfl⟩
  obtain ⟨b6, hb6⟩ : ∃ b, W.heap.size + 2 = b := ⟨_, rfl⟩
  obtain ⟨b7, hb7⟩ : ∃ b, W.heap.size + 3 = b := ⟨_, rfl⟩
  obtain ⟨b8, hb8⟩ : ∃ b, W.heap.size + 4 = b := ⟨_, rfl⟩
  obtain ⟨bE, hbE⟩ : ∃ b, W.heap.size + 5 = b := ⟨_, rfl⟩
  rw [hb5] at c5
  rw [hb6] at c6
  rw [hb7] at c7
  rw [hb8] at c8
  rw [hbE] at cE
  rw [hb4] at c4
  rw [hb5, hb6, hb7, hb8, hbE]
  simp only [hb4] at hB ⊢
  have tW6 : TabAt W6 := tW.below B6
  have rW6 : IsR W6 bi N G := rW.grown B6
  have own6 := own_below hown B6
  have j6 : J W6 := hJ W W6 jW (kin_below B6)
  have k6 : KeepL bs (Value.slice ad xs.length cap).ownBlock W W6 := keepL_below B6
  clear rW tW jW B6
  refine rangeP rfl (by omega) (gf := 58) (lb := #[.pointer (some ⟨bE, 0, none⟩)]) rfl trivial (enters_of Tryd.func58 (by kernel_rfl) rfl)
    (each_P (8 - 1) (by omega) bE s hs W6 (by omega) cE.cell tW6) (Below.refl _ _) (fun _ => rfl)
    (fun pre W' => J W' ∧ (Boxed W' b4 74 (.pointer (some ⟨bi, 0, none⟩)) ∧ Boxed W' b5 22 (.int .u64 (s : Nat)) ∧ Boxed W' b6 40 (.slice ad xs.length cap) ∧ Boxed W' b7 72 (.func (.yield l) #[] #[]) ∧ Boxed W' b8 4 (.bool false)) ∧ (IsR W' bi N G ∧ TabAt W' ∧ W'.ownsRow B 3 1 (.slice ad xs.length cap) xs.length (encI xs)) ∧ (∀ p ∈ valsF pre, frees G s p = false) ∧ W6.heap.size ≤ W'.heap.size ∧ KeepL bs (Value.slice ad xs.length cap).ownBlock W W')
    (fun c pre W' => c = .ret ∧ (∃ v', Jx v' W' ∧ W'.ownsRow W6.heap.size 3 1 v' o.length (encI o)) ∧ Boxed W' b8 4 (.bool false) ∧ KeepL bs (Value.slice ad xs.length cap).ownBlock W W')
    ?ownI ?ownX ?start2
    (fun x a' _ => a' = { tmps := #[.pointer (some ⟨bi, 0, none⟩), .int .u64 (s : Nat), .slice ad xs.length cap, .func (.yield l) #[] #[], .pointer (some ⟨b4, 0, none⟩), .pointer (some ⟨b5, 0, none⟩), .pointer (some ⟨b6, 0, none⟩), .pointer (some ⟨b7, 0, none⟩), .pointer (some ⟨b8, 0, none⟩), .int .i64 (x.val : Nat), .int .u64 (s : Nat), .bool false, undef, undef, undef, undef, .int .u64 (s : Nat), .func (.func 58) #[] #[.pointer (some ⟨bE, 0, none⟩)], .int .i64 (x.val : Nat), undef, undef, undef, undef, undef, undef, undef, undef, undef, undef, undef, undef, undef, undef, undef, undef, undef, undef, undef, undef, undef, undef, undef], defers := [] }) ?ownA ?assign ?body ?done ?stop
  case ownA => exact fun x a' => ownFrom_pure _ (fun _ => _)
  case ownI =>
    refine OwnFrom.and (dep_own hJ (by omega)) (OwnFrom.and (OwnFrom.and (Own.from (boxed_own _ _ (fun _ => _)) _) (OwnFrom.and (Own.from (boxed_own _ _ (fun _ => _)) _) (OwnFrom.and (Own.from (boxed_own _ _ (fun _ => _)) _) (OwnFrom.and (Own.from (boxed_own _ _ (fun _ => _)) _) (Own.from (boxed_own _ _ (fun _ => _)) _))))) (OwnFrom.and (OwnFrom.and (Own.from (isR_own _ _ (fun _ => G)) _) (OwnFrom.and (Own.from tab_own _) (Own.from rows_own _))) (OwnFrom.and (ownFrom_pure _ (fun pre => ∀ p ∈ valsF pre, frees G s p = false)) (OwnFrom.and ?_ (keepL_own (by omega))))))
    exact fun s X Y row hs hg hr => Nat.le_trans hs hg.size
  case ownX =>
    refine fun c => OwnFrom.and (ownFrom_pure _ (fun _ => c = .ret)) (OwnFrom.and ?_ (OwnFrom.and (Own.from (boxed_own _ _ (fun _ => _)) _) (keepL_own (by omega))))
    rintro s' X Y row ⟨v', q1, q2⟩ hg hr
    exact ⟨v', depx_own (hJx v') (by omega) q1 q2 hg hr, rows_own () X Y row q2 hg (fun r e => (hr r e).2)⟩
  case start2 => exact ⟨j6, ⟨c4, c5, c6, c7, c8⟩, ⟨rW6, tW6, own6⟩, by simp [valsF], Nat.le_refl _, k6⟩
  case assign =>
    intro l' pre x W' K hi hK
    gi_wp2
    exact hK _ _ (KeepsFrom.refl _ _) (Same.refl _ _) hi rfl
  case body =>
    rintro l' pre x _ W' ⟨hj', ⟨d4, d5, d6, d7, d8⟩, ⟨rW', tW', own'⟩, hpre, hsz', kk⟩ rfl hlt'
    have hgl : ∀ g, (Value.slice ad xs.length cap).ownBlock = some g → g < b4 := fun g e => by rw [← hb4]; exact (hown.lt g e).2
    clear j6 c4 c5 c6 c7 c8 cE rW6 tW6 own6 k6 hown
    have hx64 : (x.val : Int) < 64 := by have := x.isLt; omega
    have handN := u64_and_nat (G x.val) s (hG.out x.val) hs
    cases hfr : frees G s x.val
    · have hne : ¬ (G x.val &&& s = 0) := of_decide_eq_false hfr
      have hne' : (((G x.val &&& s : Nat) : Int) == 0) = false := by simp; omega
      have hrow := rW'.row x.val x.isLt
      have e4 := d4.cell
      have e5 := d5.cell
      have HQ : Hid (ownPostG W6.heap.size (Same [0]) (fun pre W' => J W' ∧ (Boxed W' b4 74 (.pointer (some ⟨bi, 0, none⟩)) ∧ Boxed W' b5 22 (.int .u64 (s : Nat)) ∧ Boxed W' b6 40 (.slice ad xs.length cap) ∧ Boxed W' b7 72 (.func (.yield l) #[] #[]) ∧ Boxed W' b8 4 (.bool false)) ∧ (IsR W' bi N G ∧ TabAt W' ∧ W'.ownsRow B 3 1 (.slice ad xs.length cap) xs.length (encI xs)) ∧ (∀ p ∈ valsF pre, frees G s p = false) ∧ W6.heap.size ≤ W'.heap.size ∧ KeepL bs (Value.slice ad xs.length cap).ownBlock W W') (fun c pre W' => c = .ret ∧ (∃ v', Jx v' W' ∧ W'.ownsRow W6.heap.size 3 1 v' o.length (encI o)) ∧ Boxed W' b8 4 (.bool false) ∧ KeepL bs (Value.slice ad xs.length cap).ownBlock W W') (pre ++ [x]) W' .normal { tmps := #[], defers := [] } W'.drew) := by
        refine ⟨⟨Nat.le_refl _, fun k o _ h _ => h⟩, fun b hb => rfl, hJ W' _ hj' (kin_below (below_drawn W')), ⟨d4, d5, d6, d7, d8⟩, ⟨rW', tW', own'⟩, ?_, hsz', kk⟩
        intro p hp
        rw [valsF_snoc, List.mem_append, List.mem_singleton] at hp
        rcases hp with hp | rfl
        · exact hpre p hp
        · exact hfr
      refine wpIn_mono (Q := fun e _ w' => e = Exit.normal ∧ w' = W'.drew) ?_ (fun e a' w' h => by obtain ⟨rfl, rfl⟩ := h; exact HQ.out)
      clear HQ hj' d8 tW' own' hpre hsz' kk hlt' hJ hJx IH HH hG hfr hne
      gi_wp2_with fail
      have hC : ∀ w, Below W'.heap.size W' w → (Boxed w b4 74 (.pointer (some ⟨bi, 0, none⟩)) ∧ Boxed w b5 22 (.int .u64 (s : Nat)) ∧ Boxed w b6 40 (.slice ad xs.length cap) ∧ Boxed w b7 72 (.func (.yield l) #[] #[])) ∧ IsR w bi N G := fun w h => ⟨⟨(h.block b4 d4.lt).trans d4, (h.block b5 d5.lt).trans d5, (h.block b6 d6.lt).trans d6, (h.block b7 d7.lt).trans d7⟩, rW'.grown h⟩
      refine wpIn_mono (Q := fun e a' w' => e = Exit.normal ∧ a'.tmps.getD 41 undef = .bool false ∧ w' = W'.drew) ?_ ?_
      · refine region_headC (fun w => (Boxed w b4 74 (.pointer (some ⟨bi, 0, none⟩)) ∧ Boxed w b5 22 (.int .u64 (s : Nat)) ∧ Boxed w b6 40 (.slice ad xs.length cap) ∧ Boxed w b7 72 (.func (.yield l) #[] #[])) ∧ IsR w bi N G) 20 (by kernel_rfl) (by decide) ?_
        refine atC_take (fun _ => trivial) (headed_of (by kernel_rfl)) 0 rfl (by kernel_rfl) (fun c a w h => absurd h.1 (by simp)) (v := .pointer (some ⟨bi, 0, none⟩)) (.inl ⟨rfl, fun w hc => ?y0⟩) (hC _ (below_drawn W')) ?_
        case y0 =>
          have := hc.1.1.cell
          simp [execOp, go_sem, this]
        simp only [Act.put, List.getElem_toArray, List.getElem_cons_zero, List.getElem_cons_succ, List.setIfInBounds_toArray, List.set_cons_succ, List.set_cons_zero]
        refine atC_take (fun _ => trivial) (headed_of (by kernel_rfl)) 1 rfl (by kernel_rfl) (fun c a w h => absurd h.1 (by simp)) (v := .int .i64 (x.val : Nat)) (.inl ⟨rfl, fun w hc => ?y1⟩) (hC _ (below_drawn W')) ?_
        case y1 =>
          rfl
        simp only [Act.put, List.getElem_toArray, List.getElem_cons_zero, List.getElem_cons_succ, List.setIfInBounds_toArray, List.set_cons_succ, List.set_cons_zero]
        refine atC_take (fun _ => trivial) (headed_of (by kernel_rfl)) 2 rfl (by kernel_rfl) (fun c a w h => absurd h.1 (by simp)) (v := .pointer (some ⟨bi, 0, none⟩)) (.inl ⟨rfl, fun w hc => ?y2⟩) (hC _ (below_drawn W')) ?_
        case y2 =>
          simp [execOp, go_sem]
        simp only [Act.put, List.getElem_toArray, List.getElem_cons_zero, List.getElem_cons_succ, List.setIfInBounds_toArray, List.set_cons_succ, List.set_cons_zero]
        refine atC_take (fun _ => trivial) (headed_of (by kernel_rfl)) 3 rfl (by kernel_rfl) (fun c a w h => absurd h.1 (by simp)) (v := .pointer (some ⟨bi, 1, none⟩)) (.inl ⟨rfl, fun w hc => ?y3⟩) (hC _ (below_drawn W')) ?_
        case y3 =>
          simp [execOp, go_sem]
        simp only [Act.put, List.getElem_toArray, List.getElem_cons_zero, List.getElem_cons_succ, List.setIfInBounds_toArray, List.set_cons_succ, List.set_cons_zero]
        refine atC_take (fun _ => trivial) (headed_of (by kernel_rfl)) 4 rfl (by kernel_rfl) (fun c a w h => absurd h.1 (by simp)) (v := .pointer (some ⟨bi, 1 + x.val, none⟩)) (.inl ⟨rfl, fun w hc => ?y4⟩) (hC _ (below_drawn W')) ?_
        case y4 =>
          simp [execOp, go_sem, hx64]
        simp only [Act.put, List.getElem_toArray, List.getElem_cons_zero, List.getElem_cons_succ, List.setIfInBounds_toArray, List.set_cons_succ, List.set_cons_zero]
        refine atC_take (fun _ => trivial) (headed_of (by kernel_rfl)) 5 rfl (by kernel_rfl) (fun c a w h => absurd h.1 (by simp)) (v := .int .u64 (G x.val : Nat)) (.inl ⟨rfl, fun w hc => ?y5⟩) (hC _ (below_drawn W')) ?_
        case y5 =>
          have := hc.2.row x.val x.isLt
          simp [execOp, go_sem, this]
        simp only [Act.put, List.getElem_toArray, List.getElem_cons_zero, List.getElem_cons_succ, List.setIfInBounds_toArray, List.set_cons_succ, List.set_cons_zero]
        refine atC_take (fun _ => trivial) (headed_of (by kernel_rfl)) 6 rfl (by kernel_rfl) (fun c a w h => absurd h.1 (by simp)) (v := .int .u64 (s : Nat)) (.inl ⟨rfl, fun w hc => ?y6⟩) (hC _ (below_drawn W')) ?_
        case y6 =>
          have := hc.1.2.1.cell
          simp [execOp, go_sem, this]
        simp only [Act.put, List.getElem_toArray, List.getElem_cons_zero, List.getElem_cons_succ, List.setIfInBounds_toArray, List.set_cons_succ, List.set_cons_zero]
        refine atC_take (fun _ => trivial) (headed_of (by kernel_rfl)) 7 rfl (by kernel_rfl) (fun c a w h => absurd h.1 (by simp)) (v := .int .u64 ((G x.val &&& s : Nat) : Int)) (.inl ⟨rfl, fun w hc => ?y7⟩) (hC _ (below_drawn W')) ?_
        case y7 =>
          simp [execOp, go_sem, handN]
        simp only [Act.put, List.getElem_toArray, List.getElem_cons_zero, List.getElem_cons_succ, List.setIfInBounds_toArray, List.set_cons_succ, List.set_cons_zero]
        refine atC_take (fun _ => trivial) (headed_of (by kernel_rfl)) 8 rfl (by kernel_rfl) (fun c a w h => absurd h.1 (by simp)) (v := .bool false) (.inl ⟨rfl, fun w hc => ?y8⟩) (hC _ (below_drawn W')) ?_
        case y8 =>
          simp [execOp, go_sem, hne']
        simp only [Act.put, List.getElem_toArray, List.getElem_cons_zero, List.getElem_cons_succ, List.setIfInBounds_toArray, List.set_cons_succ, List.set_cons_zero]
        refine atC_take (fun _ => trivial) (headed_of (by kernel_rfl)) 9 rfl (by kernel_rfl) (fun c a w h => absurd h.1 (by simp)) (v := .bool false) (.inl ⟨rfl, fun w hc => ?y9⟩) (hC _ (below_drawn W')) ?_
        case y9 =>
          rfl
        simp only [Act.put, List.getElem_toArray, List.getElem_cons_zero, List.getElem_cons_succ, List.setIfInBounds_toArray, List.set_cons_succ, List.set_cons_zero]
        refine atC_take (fun _ => trivial) (headed_of (by kernel_rfl)) 10 rfl (by kernel_rfl) (fun c a w h => absurd h.1 (by simp)) (v := undef) (.inr ⟨rfl, rfl⟩) (hC _ (below_drawn W')) ?_
        simp only [Act.put, List.getElem_toArray, List.getElem_cons_zero, List.getElem_cons_succ, List.setIfInBounds_toArray, List.set_cons_succ, List.set_cons_zero]
        refine atC_take (fun _ => trivial) (headed_of (by kernel_rfl)) 11 rfl (by kernel_rfl) (fun c a w h => absurd h.1 (by simp)) (v := undef) (.inr ⟨rfl, rfl⟩) (hC _ (below_drawn W')) ?_
        simp only [Act.put, List.getElem_toArray, List.getElem_cons_zero, List.getElem_cons_succ, List.setIfInBounds_toArray, List.set_cons_succ, List.set_cons_zero]
        refine atC_take (fun _ => trivial) (headed_of (by kernel_rfl)) 12 rfl (by kernel_rfl) (fun c a w h => absurd h.1 (by simp)) (v := undef) (.inr ⟨rfl, rfl⟩) (hC _ (below_drawn W')) ?_
        simp only [Act.put, List.getElem_toArray, List.getElem_cons_zero, List.getElem_cons_succ, List.setIfInBounds_toArray, List.set_cons_succ, List.set_cons_zero]
        refine atC_take (fun _ => trivial) (headed_of (by kernel_rfl)) 13 rfl (by kernel_rfl) (fun c a w h => absurd h.1 (by simp)) (v := undef) (.inr ⟨rfl, rfl⟩) (hC _ (below_drawn W')) ?_
        simp only [Act.put, List.getElem_toArray, List.getElem_cons_zero, List.getElem_cons_succ, List.setIfInBounds_toArray, List.set_cons_succ, List.set_cons_zero]
        refine atC_take (fun _ => trivial) (headed_of (by kernel_rfl)) 14 rfl (by kernel_rfl) (fun c a w h => absurd h.1 (by simp)) (v := undef) (.inr ⟨rfl, rfl⟩) (hC _ (below_drawn W')) ?_
        simp only [Act.put, List.getElem_toArray, List.getElem_cons_zero, List.getElem_cons_succ, List.setIfInBounds_toArray, List.set_cons_succ, List.set_cons_zero]
        refine atC_take (fun _ => trivial) (headed_of (by kernel_rfl)) 15 rfl (by kernel_rfl) (fun c a w h => absurd h.1 (by simp)) (v := undef) (.inr ⟨rfl, rfl⟩) (hC _ (below_drawn W')) ?_
        simp only [Act.put, List.getElem_toArray, List.getElem_cons_zero, List.getElem_cons_succ, List.setIfInBounds_toArray, List.set_cons_succ, List.set_cons_zero]
        refine atC_take (fun _ => trivial) (headed_of (by kernel_rfl)) 16 rfl (by kernel_rfl) (fun c a w h => absurd h.1 (by simp)) (v := undef) (.inr ⟨rfl, rfl⟩) (hC _ (below_drawn W')) ?_
        simp only [Act.put, List.getElem_toArray, List.getElem_cons_zero, List.getElem_cons_succ, List.setIfInBounds_toArray, List.set_cons_succ, List.set_cons_zero]
        refine atC_take (fun _ => trivial) (headed_of (by kernel_rfl)) 17 rfl (by kernel_rfl) (fun c a w h => absurd h.1 (by simp)) (v := undef) (.inr ⟨rfl, rfl⟩) (hC _ (below_drawn W')) ?_
        simp only [Act.put, List.getElem_toArray, List.getElem_cons_zero, List.getElem_cons_succ, List.setIfInBounds_toArray, List.set_cons_succ, List.set_cons_zero]
        refine atC_take (fun _ => trivial) (headed_of (by kernel_rfl)) 18 rfl (by kernel_rfl) (fun c a w h => absurd h.1 (by simp)) (v := undef) (.inr ⟨rfl, rfl⟩) (hC _ (below_drawn W')) ?_
        simp only [Act.put, List.getElem_toArray, List.getElem_cons_zero, List.getElem_cons_succ, List.setIfInBounds_toArray, List.set_cons_succ, List.set_cons_zero]
        refine atC_take (fun _ => trivial) (headed_of (by kernel_rfl)) 19 rfl (by kernel_rfl) (fun c a w h => absurd h.1 (by simp)) (v := undef) (.inr ⟨rfl, rfl⟩) (hC _ (below_drawn W')) ?_
        simp only [Act.put, List.getElem_toArray, List.getElem_cons_zero, List.getElem_cons_succ, List.setIfInBounds_toArray, List.set_cons_succ, List.set_cons_zero]
        refine atC_end (by kernel_rfl) ?_
        simp only [List.drop_succ_cons, List.drop_zero]
        gi_wp2_with fail
        all_goals exact ⟨rfl, rfl⟩
      · rintro e a' w' ⟨rfl, h41, rfl⟩
        gi_wp2_with fail
        refine wpIn_cond_false h41 ?_
        gi_wp2_with fail
        all_goals exact ⟨rfl, rfl⟩
    · have hand0 : G x.val &&& s = 0 := of_decide_eq_true hfr
      have hand : bits BinOp.and IntKind.u64 ((G x.val : Nat) : Int) (s : Int) = 0 := by rw [handN, hand0]; rfl
      obtain ⟨post, hpost⟩ := hlt'
      have hls : lst s = valsF pre ++ x.val :: post := by rw [← hpost, valsF_snoc]; simp
      have hxs : s.testBit x.val = true := (mem_lst.1 (show x.val ∈ lst s by rw [hls]; simp)).2
      have hpow : IntKind.u64.wrap ((2 : Int) ^ x.val) = (2 : Int) ^ x.val := by rw [wrap_pow x.val x.isLt]; simp
      have hclr : bits BinOp.andNot IntKind.u64 (s : Int) ((2 : Int) ^ x.val) = ((clr s x.val : Nat) : Int) := by
        have := u64_andNot_nat s (2 ^ x.val) hs (pow_lt x.val x.isLt)
        rw [pow_cast]
        exact this
      obtain ⟨i0, hi, hz0, hz1, hz2⟩ := info_parts info3'
      have HK : Hid (o = (xs ++ [x.val]) ++ grd G k (clr s x.val) ∧ (lst (clr s x.val)).length = k ∧ Goes G (clr s x.val) ∧ clr s x.val < 18446744073709551616) := by
        obtain ⟨k1, k2, k3⟩ := HH.out
        have hl := lst_clr_len s x.val hs x.isLt hxs
        exact ⟨by rw [k1, grd_at G k s x.val (valsF pre) post hls hpre hfr]; simp, by omega, k3.clr hs x.val x.isLt, clr_lt s x.val hs⟩
      have hxl : xs.length + 1 ≤ 64 := by
        have := congrArg List.length HK.out.1
        simp at this
        omega
      have hC : ∀ w, Below W'.heap.size W' w → (Boxed w b4 74 (.pointer (some ⟨bi, 0, none⟩)) ∧ Boxed w b5 22 (.int .u64 (s : Nat)) ∧ Boxed w b6 40 (.slice ad xs.length cap) ∧ Boxed w b7 72 (.func (.yield l) #[] #[])) ∧ IsR w bi N G := fun w h => ⟨⟨(h.block b4 d4.lt).trans d4, (h.block b5 d5.lt).trans d5, (h.block b6 d6.lt).trans d6, (h.block b7 d7.lt).trans d7⟩, rW'.grown h⟩
      gi_wp2_with fail
      refine wpIn_mono (Q := fun e a' w' => e = Exit.normal ∧ a'.tmps.getD 41 undef = .bool true ∧ a'.tmps.getD 8 undef = .pointer (some ⟨b8, 0, none⟩) ∧ KeepsFrom W6.heap.size W' w' ∧ (∃ v', Jx v' w' ∧ w'.ownsRow W6.heap.size 3 1 v' o.length (encI o)) ∧ Boxed w' b8 4 (.bool false) ∧ KeepL bs (Value.slice ad xs.length cap).ownBlock W w') ?_ ?_
      · refine region_headC (fun w => (Boxed w b4 74 (.pointer (some ⟨bi, 0, none⟩)) ∧ Boxed w b5 22 (.int .u64 (s : Nat)) ∧ Boxed w b6 40 (.slice ad xs.length cap) ∧ Boxed w b7 72 (.func (.yield l) #[] #[])) ∧ IsR w bi N G) 20 (by kernel_rfl) (by decide) ?_
        refine atC_take (fun _ => trivial) (headed_of (by kernel_rfl)) 0 rfl (by kernel_rfl) (fun c a w h => absurd h.1 (by simp)) (v := .pointer (some ⟨bi, 0, none⟩)) (.inl ⟨rfl, fun w hc => ?y0⟩) (hC _ (below_drawn W')) ?_
        case y0 =>
          have := hc.1.1.cell
          simp [execOp, go_sem, this]
        simp only [Act.put, List.getElem_toArray, List.getElem_cons_zero, List.getElem_cons_succ, List.setIfInBounds_toArray, List.set_cons_succ, List.set_cons_zero]
        refine atC_take (fun _ => trivial) (headed_of (by kernel_rfl)) 1 rfl (by kernel_rfl) (fun c a w h => absurd h.1 (by simp)) (v := .int .i64 (x.val : Nat)) (.inl ⟨rfl, fun w hc => ?y1⟩) (hC _ (below_drawn W')) ?_
        case y1 =>
          rfl
        simp only [Act.put, List.getElem_toArray, List.getElem_cons_zero, List.getElem_cons_succ, List.setIfInBounds_toArray, List.set_cons_succ, List.set_cons_zero]
        refine atC_take (fun _ => trivial) (headed_of (by kernel_rfl)) 2 rfl (by kernel_rfl) (fun c a w h => absurd h.1 (by simp)) (v := .pointer (some ⟨bi, 0, none⟩)) (.inl ⟨rfl, fun w hc => ?y2⟩) (hC _ (below_drawn W')) ?_
        case y2 =>
          simp [execOp, go_sem]
        simp only [Act.put, List.getElem_toArray, List.getElem_cons_zero, List.getElem_cons_succ, List.setIfInBounds_toArray, List.set_cons_succ, List.set_cons_zero]
        refine atC_take (fun _ => trivial) (headed_of (by kernel_rfl)) 3 rfl (by kernel_rfl) (fun c a w h => absurd h.1 (by simp)) (v := .pointer (some ⟨bi, 1, none⟩)) (.inl ⟨rfl, fun w hc => ?y3⟩) (hC _ (below_drawn W')) ?_
        case y3 =>
          simp [execOp, go_sem]
        simp only [Act.put, List.getElem_toArray, List.getElem_cons_zero, List.getElem_cons_succ, List.setIfInBounds_toArray, List.set_cons_succ, List.set_cons_zero]
        refine atC_take (fun _ => trivial) (headed_of (by kernel_rfl)) 4 rfl (by kernel_rfl) (fun c a w h => absurd h.1 (by simp)) (v := .pointer (some ⟨bi, 1 + x.val, none⟩)) (.inl ⟨rfl, fun w hc => ?y4⟩) (hC _ (below_drawn W')) ?_
        case y4 =>
          simp [execOp, go_sem, hx64]
        simp only [Act.put, List.getElem_toArray, List.getElem_cons_zero, List.getElem_cons_succ, List.setIfInBounds_toArray, List.set_cons_succ, List.set_cons_zero]
        refine atC_take (fun _ => trivial) (headed_of (by kernel_rfl)) 5 rfl (by kernel_rfl) (fun c a w h => absurd h.1 (by simp)) (v := .int .u64 (G x.val : Nat)) (.inl ⟨rfl, fun w hc => ?y5⟩) (hC _ (below_drawn W')) ?_
        case y5 =>
          have := hc.2.row x.val x.isLt
          simp [execOp, go_sem, this]
        simp only [Act.put, List.getElem_toArray, List.getElem_cons_zero, List.getElem_cons_succ, List.setIfInBounds_toArray, List.set_cons_succ, List.set_cons_zero]
        refine atC_take (fun _ => trivial) (headed_of (by kernel_rfl)) 6 rfl (by kernel_rfl) (fun c a w h => absurd h.1 (by simp)) (v := .int .u64 (s : Nat)) (.inl ⟨rfl, fun w hc => ?y6⟩) (hC _ (below_drawn W')) ?_
        case y6 =>
          have := hc.1.2.1.cell
          simp [execOp, go_sem, this]
        simp only [Act.put, List.getElem_toArray, List.getElem_cons_zero, List.getElem_cons_succ, List.setIfInBounds_toArray, List.set_cons_succ, List.set_cons_zero]
        refine atC_take (fun _ => trivial) (headed_of (by kernel_rfl)) 7 rfl (by kernel_rfl) (fun c a w h => absurd h.1 (by simp)) (v := .int .u64 0) (.inl ⟨rfl, fun w hc => ?y7⟩) (hC _ (below_drawn W')) ?_
        case y7 =>
          simp [execOp, go_sem, hand]
        simp only [Act.put, List.getElem_toArray, List.getElem_cons_zero, List.getElem_cons_succ, List.setIfInBounds_toArray, List.set_cons_succ, List.set_cons_zero]
        refine atC_take (fun _ => trivial) (headed_of (by kernel_rfl)) 8 rfl (by kernel_rfl) (fun c a w h => absurd h.1 (by simp)) (v := .bool true) (.inl ⟨rfl, fun w hc => ?y8⟩) (hC _ (below_drawn W')) ?_
        case y8 =>
          simp [execOp, go_sem]
        simp only [Act.put, List.getElem_toArray, List.getElem_cons_zero, List.getElem_cons_succ, List.setIfInBounds_toArray, List.set_cons_succ, List.set_cons_zero]
        refine atC_take (fun _ => trivial) (headed_of (by kernel_rfl)) 9 rfl (by kernel_rfl) (fun c a w h => absurd h.1 (by simp)) (v := .bool true) (.inl ⟨rfl, fun w hc => ?y9⟩) (hC _ (below_drawn W')) ?_
        case y9 =>
          rfl
        simp only [Act.put, List.getElem_toArray, List.getElem_cons_zero, List.getElem_cons_succ, List.setIfInBounds_toArray, List.set_cons_succ, List.set_cons_zero]
        refine atC_take (fun _ => trivial) (headed_of (by kernel_rfl)) 10 rfl (by kernel_rfl) (fun c a w h => absurd h.1 (by simp)) (v := .pointer (some ⟨bi, 0, none⟩)) (.inl ⟨rfl, fun w hc => ?y10⟩) (hC _ (below_drawn W')) ?_
        case y10 =>
          have := hc.1.1.cell
          simp [execOp, go_sem, this]
        simp only [Act.put, List.getElem_toArray, List.getElem_cons_zero, List.getElem_cons_succ, List.setIfInBounds_toArray, List.set_cons_succ, List.set_cons_zero]
        refine atC_take (fun _ => trivial) (headed_of (by kernel_rfl)) 11 rfl (by kernel_rfl) (fun c a w h => absurd h.1 (by simp)) (v := .int .u64 (s : Nat)) (.inl ⟨rfl, fun w hc => ?y11⟩) (hC _ (below_drawn W')) ?_
        case y11 =>
          have := hc.1.2.1.cell
          simp [execOp, go_sem, this]
        simp only [Act.put, List.getElem_toArray, List.getElem_cons_zero, List.getElem_cons_succ, List.setIfInBounds_toArray, List.set_cons_succ, List.set_cons_zero]
        refine atC_take (fun _ => trivial) (headed_of (by kernel_rfl)) 12 rfl (by kernel_rfl) (fun c a w h => absurd h.1 (by simp)) (v := .int .i64 (x.val : Nat)) (.inl ⟨rfl, fun w hc => ?y12⟩) (hC _ (below_drawn W')) ?_
        case y12 =>
          rfl
        simp only [Act.put, List.getElem_toArray, List.getElem_cons_zero, List.getElem_cons_succ, List.setIfInBounds_toArray, List.set_cons_succ, List.set_cons_zero]
        refine atC_take (fun _ => trivial) (headed_of (by kernel_rfl)) 13 rfl (by kernel_rfl) (fun c a w h => absurd h.1 (by simp)) (v := .int .u64 ((2 : Int) ^ x.val)) (.inl ⟨rfl, fun w hc => ?y13⟩) (hC _ (below_drawn W')) ?_
        case y13 =>
          simp [execOp, go_sem, hx64, hpow]
        simp only [Act.put, List.getElem_toArray, List.getElem_cons_zero, List.getElem_cons_succ, List.setIfInBounds_toArray, List.set_cons_succ, List.set_cons_zero]
        refine atC_take (fun _ => trivial) (headed_of (by kernel_rfl)) 14 rfl (by kernel_rfl) (fun c a w h => absurd h.1 (by simp)) (v := .int .u64 (clr s x.val : Nat)) (.inl ⟨rfl, fun w hc => ?y14⟩) (hC _ (below_drawn W')) ?_
        case y14 =>
          simp [execOp, go_sem, hclr]
        simp only [Act.put, List.getElem_toArray, List.getElem_cons_zero, List.getElem_cons_succ, List.setIfInBounds_toArray, List.set_cons_succ, List.set_cons_zero]
        refine atC_take (fun _ => trivial) (headed_of (by kernel_rfl)) 15 rfl (by kernel_rfl) (fun c a w h => absurd h.1 (by simp)) (v := .slice ad xs.length cap) (.inl ⟨rfl, fun w hc => ?y15⟩) (hC _ (below_drawn W')) ?_
        case y15 =>
          have := hc.1.2.2.1.cell
          simp [execOp, go_sem, this]
        simp only [Act.put, List.getElem_toArray, List.getElem_cons_zero, List.getElem_cons_succ, List.setIfInBounds_toArray, List.set_cons_succ, List.set_cons_zero]
        refine atC_take (fun _ => trivial) (headed_of (by kernel_rfl)) 16 rfl (by kernel_rfl) (fun c a w h => absurd h.1 (by simp)) (v := .int .i64 (x.val : Nat)) (.inl ⟨rfl, fun w hc => ?y16⟩) (hC _ (below_drawn W')) ?_
        case y16 =>
          rfl
        simp only [Act.put, List.getElem_toArray, List.getElem_cons_zero, List.getElem_cons_succ, List.setIfInBounds_toArray, List.set_cons_succ, List.set_cons_zero]
        refine atC_take (fun _ => trivial) (headed_of (by kernel_rfl)) 19 rfl (by kernel_rfl) (fun c a w h => absurd h.1 (by simp)) (v := .func (.yield l) #[] #[]) (.inl ⟨rfl, fun w hc => ?y19⟩) (hC _ (below_drawn W')) ?_
        case y19 =>
          have := hc.1.2.2.2.cell
          simp [execOp, go_sem, this]
        simp only [Act.put, List.getElem_toArray, List.getElem_cons_zero, List.getElem_cons_succ, List.setIfInBounds_toArray, List.set_cons_succ, List.set_cons_zero]

        refine atC_next 17 rfl (by kernel_rfl) (fun K hK => ?_)
        go_simp
        have B7 : Below W'.heap.size W' (W'.drew.alloc (.cells #[.int .i64 (x.val : Nat)] 3)) := (below_drawn W').trans ((Below.refl _ W'.drew).alloc (Nat.le_refl _) _)
        refine hK _ _ (hC _ B7) ?_
        clear hK K
        have own7 : (W'.drew.alloc (.cells #[.int .i64 (x.val : Nat)] 3)).ownsRow B 3 1 (.slice ad xs.length cap) xs.length (encI xs) := own_below own' B7
        have hnews : ∀ j u, [Value.int .i64 (x.val : Nat)][j]? = some u → (W'.drew.alloc (.cells #[.int .i64 (x.val : Nat)] 3)).cell? ((⟨W'.heap.size, 0, none⟩ : Addr).add j) = some u := cell_one_new W'.drew _ 3
        have hz7 : (W'.drew.alloc (.cells #[.int .i64 (x.val : Nat)] 3)).heap.size = W'.heap.size + 1 := by simp
        have e78 : (W'.alloc (.cells #[.int .i64 (x.val : Nat)] 3)).drew = W'.drew.alloc (.cells #[.int .i64 (x.val : Nat)] 3) := rfl
        rw [e78]
        generalize W'.drew.alloc (.cells #[.int .i64 (x.val : Nat)] 3) = W7 at *
        have d4' := (B7.block b4 d4.lt).trans d4
        have d5' := (B7.block b5 d5.lt).trans d5
        have d6' := (B7.block b6 d6.lt).trans d6
        have d7' := (B7.block b7 d7.lt).trans d7
        have d8' := (B7.block b8 d8.lt).trans d8
        have r7 := rW'.grown B7
        have t7 := tW'.below B7
        have j7 : J W7 := hJ W' W7 hj' (kin_below B7)
        have hbiv : some bi ≠ (Value.slice ad xs.length cap).ownBlock := fun e => by
          obtain ⟨cur, hcur⟩ := own_cells own7 e.symm
          rw [show W7.heap[bi]? = _ from r7] at hcur
          cases hcur
        have h0v : some 0 ≠ (Value.slice ad xs.length cap).ownBlock := fun e => by
          have := (own7.lt 0 e.symm).1
          omega
        refine atC_next 18 rfl (by kernel_rfl) (fun K hK => ?_)
        refine step_append_at rfl (.tmp 34) (.tmp 36) 40 rfl B 3 i0 (.int .i64 0) 1 8 Tryd.underlying40 hi hz0 hz1 hz2 rfl (by decide) _ xs.length (encI xs) rfl own7 ⟨W'.heap.size, 0, none⟩ 1 1 [.int .i64 (x.val : Nat)] rfl rfl hnews (by simp [Value.oneCell']) (by unfold maxLen; omega) (by omega) (by omega) ?_
        intro v2 W8 own8 grow8 hat8
        have keepB : ∀ b, b4 ≤ b → b < W7.heap.size → W8.heap[b]? = W7.heap[b]? := fun b h1 h2 => grow8.block b h2 (fun e => by have := hgl b e.symm; omega)
        have r8 : IsR W8 bi N G := (grow8.block bi r7.lt hbiv).trans r7
        have t8 : TabAt W8 := fun j hj => (World.cell?_of_block (w := W7) (grow8.block 0 t7.pos h0v)).trans (t7 j hj)
        have j8 : J W8 := hJ W7 W8 j7 (kin_grown grow8 (fun r e => ⟨(own7.lt r e).1, by simp⟩))
        refine hK _ _ ⟨⟨(keepB b4 (by omega) (by omega)).trans d4', (keepB b5 (by omega) (by omega)).trans d5', (keepB b6 (by omega) (by omega)).trans d6', (keepB b7 (by omega) (by omega)).trans d7'⟩, r8⟩ ?_
        have d8'' : Boxed W8 b8 4 (.bool false) := (keepB b8 (by omega) (by omega)).trans d8'
        clear hK K
        obtain ⟨ad2, cap2, rfl⟩ := own_form own8
        rw [← encI_snoc] at own8
        have hlen : (xs ++ [x.val]).length = xs.length + 1 := by simp
        have c51 := IH.out (clr s x.val) (xs ++ [x.val]) ad2 cap2 W8 HK.out.2.2.2 HK.out.2.1 HK.out.2.2.1 HK.out.1 j8 (by have := grow8.size; omega) (by rw [hlen]; exact own8) r8 t8
        rw [hlen] at c51
        have hv2 : ∀ b, b < W7.heap.size → (Value.slice ad xs.length cap).ownBlock ≠ some b → (Value.slice ad2 (xs.length + 1) cap2).ownBlock ≠ some b := fun b hb hn e => by
          rcases hat8 with h | h
          · exact hn (h.symm.trans e)
          · rw [h] at e; cases e; omega
        have hk8 : KeepsFrom W6.heap.size W' W8 := keepsFrom_trans ⟨B7.size, fun k o _ hk _ => (B7.block k (Array.getElem?_eq_some_iff.1 hk).1).trans hk⟩ (grown_keepsFrom grow8 own7)
        have hL8 : KeepL bs (Value.slice ad xs.length cap).ownBlock W W8 := ⟨Nat.le_trans kk.1 (Nat.le_trans B7.size grow8.size), fun k o hk h1 h2 => by
          have k1 := kk.2 k o hk h1 h2
          have k2 := (B7.block k (Array.getElem?_eq_some_iff.1 k1).1).trans k1
          exact (grow8.block k (Array.getElem?_eq_some_iff.1 k2).1 (fun e => h2 e.symm)).trans k2⟩
        have hs8 := grow8.size
        refine atC_end (by kernel_rfl) ?_
        simp only [Act.put, List.getElem_toArray, List.getElem_cons_zero, List.getElem_cons_succ, List.setIfInBounds_toArray, List.set_cons_succ, List.set_cons_zero, List.drop_succ_cons, List.drop_zero]
        clear d4 d5 d6 d7 d8 rW' tW' own' hj' hC d4' d5' d6' d7' d8' r7 t7 j7 own7 hnews e78 handN hand hpow hclr
        have CC : Hid (Calls Tryd.prog 51 #[.pointer (some ⟨bi, 0, none⟩), .int .u64 (clr s x.val : Nat), .slice ad2 (xs.length + 1) cap2, .func (.yield l) #[] #[]] W8 (LaidOne bs o Jx (Value.slice ad2 (xs.length + 1) cap2).ownBlock W8)) := c51
        clear c51
        gi_wp2_with (gi_at_call 51; refine (CallsIn.inRound l' (callsIn_wide.2 CC.out)).mono ?_; rintro e W9 ⟨v', rfl, jx9, own9, keep9⟩)
        rw [← (show W6.heap.size = b4 + 6 by omega)]
        refine ⟨keepsFrom_trans hk8 (keep9.keepsFrom own8 (fun b hb => by have := hbs b hb; omega)), ⟨v', jx9, own_base own9 (by omega)⟩, keep9.2 b8 _ d8'' (fun hm => by have := hbs b8 hm; omega) (hv2 b8 (by omega) (fun e => by have := hgl b8 e; omega)), Nat.le_trans hL8.1 keep9.1, fun k o hk h1 h2 => ?_⟩
        have hlt := (Array.getElem?_eq_some_iff.1 hk).1
        exact keep9.2 k o (hL8.2 k o hk h1 h2) h1 (hv2 k (by omega) h2)
      · rintro e a' W9 ⟨rfl, h41, h8, hkf, ⟨v', q1, q2⟩, q8, qk⟩
        have h8' : a'.tmps[8]?.getD undef = .pointer (some ⟨b8, 0, none⟩) := by simpa using h8
        have cell8 := q8.cell
        have fz8 := boxed_frozen q8
        have U := Upd.setCell W9 b8 0 (.bool false)
        have hg8 : v'.ownBlock ≠ some b8 := fun e => by have := (q2.lt b8 e).1; omega
        have HQ : Hid (KeepsFrom W6.heap.size W' (W9.setCell ⟨b8, 0, none⟩ (.bool false)) ∧ Code.ret = Code.ret ∧ (∃ v', Jx v' (W9.setCell ⟨b8, 0, none⟩ (.bool false)) ∧ (W9.setCell ⟨b8, 0, none⟩ (.bool false)).ownsRow W6.heap.size 3 1 v' o.length (encI o)) ∧ Boxed (W9.setCell ⟨b8, 0, none⟩ (.bool false)) b8 4 (.bool false) ∧ KeepL bs (Value.slice ad xs.length cap).ownBlock W (W9.setCell ⟨b8, 0, none⟩ (.bool false))) :=
          ⟨keepsFrom_trans hkf (upd_keepsFrom U q8), rfl, ⟨v', hJx v' W9 _ q1 (kin_upd U (by omega) hg8), own_updN q2 U hg8⟩, boxed_set q8 _, keepL_upd qk U (by omega)⟩
        clear hkf q1 q2 q8 qk U hC d4 d5 d6 d7 d8 rW' tW' own' hj' handN hand hpow hclr
        gi_wp2_with fail
        refine wpIn_cond_true h41 ?_
        gi_wp2_with fail
        exact ⟨HQ.out.1, rfl, HQ.out.2.2.1, HQ.out.2.2.2.1, HQ.out.2.2.2.2⟩
  case done =>
    rintro D ys W' hD hys ⟨hj', _, _, hnone, _⟩ hK
    exfalso
    obtain ⟨a, ha, hfr⟩ := HH.out.2.2.some hs hs0
    rw [← hys] at ha
    rw [hnone a ha] at hfr
    cases hfr
  case stop =>
    rintro D c pre W' hD hpre ⟨rfl, ⟨v', q1, q2⟩, q8, qk⟩ hK
    have q2' : (W'.putObj D (.deferred none)).ownsRow W.heap.size 3 1 v' o.length (encI o) := own_base (rows_own () W' _ (some D) q2 (grownBy_put _) (fun r e => by cases e; exact ⟨_, hK, rfl⟩)) (by omega)
    have q1' : Jx v' (W'.putObj D (.deferred none)) := depx_own (B' := W6.heap.size) (hJx v') (by omega) q1 q2 (grownBy_put _) (fun r e => by cases e; exact ⟨hD, _, hK, rfl⟩)
    have q8' : Boxed (W'.putObj D (.deferred none)) b8 4 (.bool false) := (World.putObj_heap_other (by omega)).trans q8
    have qk' : KeepL bs (Value.slice ad xs.length cap).ownBlock W (W'.putObj D (.deferred none)) := keepL_own (β := Unit) (B' := W6.heap.size) (by omega) () W' _ (some D) qk (grownBy_put _) (fun r e => by cases e; exact ⟨hD, _, hK, rfl⟩)
    clear q1 q2 q8 qk
    gi_wp2
    refine ⟨by simp, .inl ⟨D, _, rfl, run_takeDeferred hK, ?_⟩⟩
    exact ⟨_, results_b rfl rfl q8', v', rfl, q1', q2', qk'⟩

/-- For a caller that takes one order and leaves: the first order is laid. -/
theorem lay_first (l B : Nat) (bs : List Nat) (hbs : ∀ b ∈ bs, b < B) (h0 : 0 ∉ bs) (hB0 : 0 < B) (bi N : Nat) (hbi : bi ∉ bs) (G : Nat → Nat) (hG : Wf G) (o : List Nat) (ho : o.length ≤ 64) (J : World → Prop) (Jx : Value → World → Prop) (hJ : Dep B none J) (hJx : ∀ v, Dep B v.ownBlock (Jx v))
    (hY : ∀ v W1 m, J W1 → W1.ownsRow B 3 1 v o.length (encI o) → YieldAt Fence.wide m Tryd.prog l #[v] W1 fun e W' => e = .returned (.bool false) ∧ Jx v W' ∧ KpB B bs [] W1 W') :
    ∀ (k s : Nat) (xs : List Nat) (ad : Option Addr) (cap : Nat) (W : World), s < 18446744073709551616 → (lst s).length = k → Goes G s → o = xs ++ grd G k s → J W → B ≤ W.heap.size → W.ownsRow B 3 1 (.slice ad xs.length cap) xs.length (encI xs) → IsR W bi N G → TabAt W →
      Calls Tryd.prog 51 #[.pointer (some ⟨bi, 0, none⟩), .int .u64 (s : Nat), .slice ad xs.length cap, .func (.yield l) #[] #[]] W (LaidOne bs o Jx (Value.slice ad xs.length cap).ownBlock W) := by
  intro k
  induction k with
  | zero =>
    intro s xs ad cap W hs hk hgo hos jW hB hown rW tW
    obtain rfl := lst_empty hs hk
    have e : o = xs := by rw [hos]; simp [grd]
    subst e
    exact lay_zero l B bs hbs bi o ho J Jx hJ hJx hY ad cap W jW hB hown
  | succ k ih =>
    intro s xs ad cap W hs hk hgo hos jW hB hown rW tW
    exact lay_step l B bs hbs h0 hB0 bi N hbi G hG o ho J Jx hJ hJx k ih s xs ad cap W hs hk hgo hos jW hB hown rW tW
end Go.Proofs.YtkccckjiemijeabDoor
