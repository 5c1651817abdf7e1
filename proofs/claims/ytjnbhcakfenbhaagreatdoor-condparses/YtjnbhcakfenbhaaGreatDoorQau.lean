/- Several texts in one: V9, W0. -/
import Derived.Test.YtjnbhcakfenbhaaGreatDoorQat
/- Take. -/
namespace Go.Proofs.YtjnbhcakfenbhaaGreatDoor
open Go.RowKit Go.Shelf M
set_option linter.unusedSimpArgs false
set_option linter.unusedVariables false

/-- What leaves a frame looks at its slots for the results alone. -/
theorem leaves_same {P : Program} {fn : Func} {tmps tmps' : Array Value} {R : Ending → World → Prop} (h : results fn tmps = results fn tmps') : ∀ (ds : List Deferred) (u : FrameMode) (w : World), Leaves P fn tmps R ds u w → Leaves P fn tmps' R ds u w
  | [], .returning, w, hl => by unfold Leaves at *; rwa [← h]
  | [], .panicking _, _, hl => hl
  | [], .run, _, hl => hl
  | d :: ds, u, w, hl => by
    obtain ⟨h1, fv, cap, f, args, h2, h3, h4⟩ := hl
    refine ⟨h1, fv, cap, f, args, h2, h3, h4.mono ?_⟩
    intro e u' w' he
    cases e with
    | returned v => exact leaves_same h ds _ _ he
    | panicked c => exact leaves_same h ds _ _ he
    | outgrown => exact he
theorem ret_out {P : Program} {fn : Func} {R : Ending → World → Prop} {a : Act} {w : World} (hd : a.defers = []) (h : ∃ v, (results fn a.tmps).run P w = .ok v w ∧ R (.returned v) w) : bodyPostD P fn R .ret a w := by
  show Leaves P fn a.tmps R a.defers .returning w
  rw [hd]
  exact h
theorem takeRes (a : Act) (i : Nat) (v : Value) (hi : 6 < i) : results Tryz.f16 (a.put (some i) v).tmps = results Tryz.f16 a.tmps := by
  have h4 : (a.put (some i) v).tmps[4]?.getD undef = a.tmps[4]?.getD undef := by simp [Act.put, Array.getElem?_setIfInBounds_ne (show i ≠ 4 by omega)]
  have h5 : (a.put (some i) v).tmps[5]?.getD undef = a.tmps[5]?.getD undef := by simp [Act.put, Array.getElem?_setIfInBounds_ne (show i ≠ 5 by omega)]
  have h6 : (a.put (some i) v).tmps[6]?.getD undef = a.tmps[6]?.getD undef := by simp [Act.put, Array.getElem?_setIfInBounds_ne (show i ≠ 6 by omega)]
  simp [results, Tryz.results16, h4, h5, h6]
theorem takeQ {R : Ending → World → Prop} (i : Nat) (v : Value) (hi : 6 < i) (c : List PanicEntry) (a : Act) (w : World) (h : bodyPostD Tryz.prog Tryz.f16 R (.panic c) (a.put (some i) v) w) : bodyPostD Tryz.prog Tryz.f16 R (.panic c) a w :=
  leaves_same (takeRes a i v hi) _ _ _ h
section
variable {F : Fence} {m : Nat} {P : Program} {ops : Array Oper} {Q : Exit → Act → World → Prop} {C : World → Prop}
/-- The one that may come up now, where it only writes. -/
theorem atC_skip (hfn : ∀ f, F.fn f) {n : Nat} {L : Act → World → Prop} {f : Nat} {listed : Array Bool} {a : Act} {w : World} (i : Nat) {oi : Oper} (hi : ops[i]? = some oi) (hB : (decide (i < n) && decide (Region.ready .any ops listed = [i])) = true)
    (hnd : ∀ c, oi.op ≠ .defer c) (hw : Region.wanted oi (yielded ops a.tmps) = true) {R : World → Prop} (hr : ∃ w', (execOp a.eval oi).run P w = .ok .skip w' ∧ R w')
    (h : ∀ w', R w' → C w' ∧ AtC F m P ops Q C n L f (listed.setIfInBounds i true) (a.put oi.dst undef) w') : AtC F m P ops Q C n L (f + 1) listed a w := by
  obtain ⟨w', hr, hR⟩ := hr
  refine atC_next i hi hB fun K hK => ?_
  rw [if_pos hw]
  refine ⟨fun f _ => hfn f, ?_⟩
  rw [Oper.semAt_eq _ _ _ hnd, hr]
  exact hK _ _ (h w' hR).1 (h w' hR).2
end
theorem run_st1 {op : Oper} {a : Act} {w : World} {b t o : Nat} {cs : List Value} (ty : TypeId) (x y : Operand) (ho : op.op = .store ty x y) (hx : a.eval x = .pointer (some ⟨b, o, none⟩)) (v : Value) (hy : a.eval y = v) (hc : IsS w b t cs)
    (hk : o < cs.length) (hi : (Tryz.prog.info? ty).map (·.size) = some 1) (h1 : v.oneCell' = true) : ∃ W, (execOp a.eval op).run Tryz.prog w = .ok .skip W ∧ Upd w W b ∧ IsS W b t (cs.set o v) := by
  refine ⟨_, ?_, Upd.setCell w b o v, hc.set1 o v⟩
  unfold execOp
  simp only [ho, hx, hy, Instr.storeAt, Instr.sureAddr, Sem.run_bind, Sem.run_pure, Result.andThen_ok, run_store1 w b o ty v (hc.there o 1 (by omega)) hi h1]
theorem ldI3 {b o : Nat} {i : Int} : ∀ w : World, w.cell? ⟨b, o, none⟩ = some (.int .i64 i) → (Instr.loadAt 3 (.pointer (some ⟨b, o, none⟩))).run Tryz.prog w = .ok (.int .i64 i) w := fun w h => by simp [go_sem, h]
section
variable {gs : List GT} {a : Option Addr} {cap : Nat}
/-- Where a reader begins. -/
theorem take_start {w W3 W5 : World} {br k : Nat} (hT : Toks w a gs) (htb : ∀ b o, a = some ⟨b, o, none⟩ → b < w.heap.size) (B3 : Below w.heap.size w W3) (B5 : Below w.heap.size w W5) (hbr : W3.heap.size ≤ br) (hs : W3.heap.size ≤ W5.heap.size)
    (R : IsS W5 br 94 (rdL a gs.length cap k 0 (.slice none 0 0))) : PC gs a cap W3.heap.size br W5 (CS.mk k 0 [] none) :=
  ⟨⟨.slice none 0 0, 0, rfl, by omega, R, World.ownsRow_nil _ _ _ _⟩, toks_low hT htb B5, fun b o h => Nat.lt_of_lt_of_le (htb b o h) B3.size, hbr, hs, by simp⟩
theorem own_lower {W : World} {B B' n : Nat} {v : Value} {xs : List Value} (h : W.ownsRow B 62 6 v n xs) (hb : B' ≤ B) : W.ownsRow B' 62 6 v n xs := by
  refine ⟨h.1, ?_⟩
  rcases h.2 with hn | ⟨g, cap, cur, e, hg, rest⟩
  · exact Or.inl hn
  · exact Or.inr ⟨g, cap, cur, e, Nat.le_trans hb hg, rest⟩
/-- The plain reader's answer at a place. -/
def takeR (gs : List GT) (k : Nat) : CS := (goC gs (need gs none 2 (CS.mk k 0 [] none)) none 2 (CS.mk k 0 [] none)).2
/-- What Take comes to. -/
structure TakeP (gs : List GT) (k : Nat) (w : World) (en : Ending) (w' : World) : Prop where
  good : (takeR gs k).F = none → ∃ v, en = .returned (.tuple #[v, .int .i64 ((takeR gs k).k : Int), .nilIface]) ∧ w'.ownsRow w.heap.size 62 6 v (takeR gs k).nodes.length (cellsL (takeR gs k).nodes) ∧ (takeR gs k).nodes.length ≤ 1024
  bad : ∀ x, (takeR gs k).F = some x → ∃ bp, en = .returned (.tuple #[.slice none 0 0, .int .i64 0, .iface 52 (.pointer (some ⟨bp, 0, none⟩))]) ∧ w.heap.size ≤ bp ∧ IsS w' bp 54 [.int .i64 x.1, .int .i64 x.2.1, .iface 37 (.int .i64 x.2.2)]
  bel : Below w.heap.size w w'
set_option maxRecDepth 100000 in
set_option maxHeartbeats 4000000 in
/-- A place outside the list. -/
theorem take_out (at' : Int) (n : Nat) (hn : n ≤ 1099511627776) (hat : at' < 0 ∨ (n : Int) < at') (w : World) :
    Calls Tryz.prog 16 #[.slice a n cap, .int .i64 at'] w fun en w' => en = .returned (.tuple #[.slice none 0 0, .int .i64 0, .iface 37 (.int .i64 4)]) ∧ Below w.heap.size w w' := by
  rcases hat with hneg | hbig
  · have hd : decide (at' < 0) = true := by simpa using hneg
    go_enter_defers Tryz.func16, Tryz.ntmps16
    go_wp2_with (first
      | (refine wpList_allocO rfl 23 rfl (.slice none 0 0) rfl zCond ?_; intro W1 b1 F1 C1; have B1 := F1.trans (Below.refl _ w) (Nat.le_refl _); have h1 : b1 = w.heap.size := F1.at'; clear F1)
      | (refine wpList_allocO rfl 3 rfl (.int .i64 0) rfl zInt ?_; intro W2 b2 F2 I2; have C2 := C1.fresh F2; have B2 := F2.trans B1 B1.size; have h2 : b1 < b2 := (by have := C1.lt; have := F2.at'; omega); clear F2 C1)
      | (refine wpList_allocO rfl 25 rfl .nilIface rfl zErr ?_; intro W3 b3 F3 E3; have C3 := C2.fresh F3; have I3 := I2.fresh F3; have B3 := F3.trans B2 B2.size; have h3 : b2 < b3 := (by have := I2.lt; have := F3.at'; omega); have h4 : b3 < W3.heap.size := E3.lt; have hsz : w.heap.size ≤ b1 := Nat.le_of_eq h1.symm; clear F3 C2 I2 h1)
      | (refine wpList_store1 rfl 23 _ _ rfl rfl (.slice none 0 0) rfl C3 (by simp) infoCond rfl ?_; intro W4 U4 C4x; have C4 : IsS W4 b1 23 [.slice none 0 0] := C4x; have I4 := I3.upd U4 (by omega); have E4 := E3.upd U4 (by omega); have B4 := U4.trans B3 hsz; clear C3 I3 E3 C4x U4)
      | (refine wpList_store1 rfl 3 _ _ rfl rfl (.int .i64 0) rfl I4 (by simp) info3 rfl ?_; intro W5 U5 I5x; have I5 : IsS W5 b2 3 [.int .i64 0] := I5x; have C5 := C4.upd U5 (by omega); have E5 := E4.upd U5 (by omega); have B5 := U5.trans B4 (by omega); clear C4 I4 E4 I5x U5)
      | (refine wpList_store1 rfl 25 _ _ rfl rfl (.iface 37 (.int .i64 4)) rfl E5 (by simp) infoErr rfl ?_; intro W6 U6 E6x; have E6 : IsS W6 b3 25 [.iface 37 (.int .i64 4)] := E6x; have C6 := C5.upd U6 (by omega); have I6 := I5.upd U6 (by omega); have B6 := U6.trans B5 (by omega); clear C5 I5 E5 E6x U6))
    have c0 := C6.cell 0
    have i0 := I6.cell 0
    have e0 := E6.cell 0
    simp at c0 i0 e0
    exact ret_out rfl ⟨.tuple #[.slice none 0 0, .int .i64 0, .iface 37 (.int .i64 4)], (by simp [Act.put, results, Tryz.results16, go_sem, c0, i0, e0]), rfl, B6⟩
  · have hd : decide (at' < 0) = false := by simp; omega
    have hd2 : decide ((n : Int) < at') = true := by simpa using hbig
    go_enter_defers Tryz.func16, Tryz.ntmps16
    go_wp2_with (first
      | (refine wpList_allocO rfl 23 rfl (.slice none 0 0) rfl zCond ?_; intro W1 b1 F1 C1; have B1 := F1.trans (Below.refl _ w) (Nat.le_refl _); have h1 : b1 = w.heap.size := F1.at'; clear F1)
      | (refine wpList_allocO rfl 3 rfl (.int .i64 0) rfl zInt ?_; intro W2 b2 F2 I2; have C2 := C1.fresh F2; have B2 := F2.trans B1 B1.size; have h2 : b1 < b2 := (by have := C1.lt; have := F2.at'; omega); clear F2 C1)
      | (refine wpList_allocO rfl 25 rfl .nilIface rfl zErr ?_; intro W3 b3 F3 E3; have C3 := C2.fresh F3; have I3 := I2.fresh F3; have B3 := F3.trans B2 B2.size; have h3 : b2 < b3 := (by have := I2.lt; have := F3.at'; omega); have h4 : b3 < W3.heap.size := E3.lt; have hsz : w.heap.size ≤ b1 := Nat.le_of_eq h1.symm; clear F3 C2 I2 h1)
      | (refine wpList_store1 rfl 23 _ _ rfl rfl (.slice none 0 0) rfl C3 (by simp) infoCond rfl ?_; intro W4 U4 C4x; have C4 : IsS W4 b1 23 [.slice none 0 0] := C4x; have I4 := I3.upd U4 (by omega); have E4 := E3.upd U4 (by omega); have B4 := U4.trans B3 hsz; clear C3 I3 E3 C4x U4)
      | (refine wpList_store1 rfl 3 _ _ rfl rfl (.int .i64 0) rfl I4 (by simp) info3 rfl ?_; intro W5 U5 I5x; have I5 : IsS W5 b2 3 [.int .i64 0] := I5x; have C5 := C4.upd U5 (by omega); have E5 := E4.upd U5 (by omega); have B5 := U5.trans B4 (by omega); clear C4 I4 E4 I5x U5)
      | (refine wpList_store1 rfl 25 _ _ rfl rfl (.iface 37 (.int .i64 4)) rfl E5 (by simp) infoErr rfl ?_; intro W6 U6 E6x; have E6 : IsS W6 b3 25 [.iface 37 (.int .i64 4)] := E6x; have C6 := C5.upd U6 (by omega); have I6 := I5.upd U6 (by omega); have B6 := U6.trans B5 (by omega); clear C5 I5 E5 E6x U6))
    have c0 := C6.cell 0
    have i0 := I6.cell 0
    have e0 := E6.cell 0
    simp at c0 i0 e0
    exact ret_out rfl ⟨.tuple #[.slice none 0 0, .int .i64 0, .iface 37 (.int .i64 4)], (by simp [Act.put, results, Tryz.results16, go_sem, c0, i0, e0]), rfl, B6⟩
set_option maxRecDepth 100000 in
set_option maxHeartbeats 4000000 in
theorem take_any (hn : Few gs) (k : Nat) (hk : k ≤ gs.length) (w : World) (hT : Toks w a gs) (htb : ∀ b o, a = some ⟨b, o, none⟩ → b < w.heap.size) :
    Calls Tryz.prog 16 #[.slice a gs.length cap, .int .i64 (k : Int)] w fun en w' => TakeP gs k w en w' := by
  have hmf : ∀ (fn : Fn) (first cap : Array Value) (w : World), (Instr.makeFunc fn first cap).run Tryz.prog w = .ok (.func fn first cap) w := fun _ _ _ _ => rfl
  have hkb : gs.length ≤ 1099511627776 := hn.1
  have hd : decide ((k : Int) < 0) = false := by simp
  have hd2 : decide ((gs.length : Int) < (k : Int)) = false := by simp; omega
  have ok0 : Ok gs (CS.mk k 0 [] none) := ⟨rfl, hk⟩
  have cE := fun base br W (hP : PC gs a cap base br W (CS.mk k 0 [] none)) => run_all (a := a) (cap := cap) (base := base) (br := br) hn (need gs none 2 (CS.mk k 0 [] none)) _ (Nat.le_refl _) 2 (Nat.le_refl _) (CS.mk k 0 [] none) W ok0 hP (Nat.le_refl _)
  generalize hr : goC gs (need gs none 2 (CS.mk k 0 [] none)) none 2 (CS.mk k 0 [] none) = r at cE
  have er : takeR gs k = r.2 := by unfold takeR; rw [hr]
  obtain ⟨i, σ⟩ := r
  dsimp only at er cE
  have hcE : ∀ base br W, PC gs a cap base br W (CS.mk k 0 [] none) → Calls Tryz.prog 39 #[.pointer (some ⟨br, 0, none⟩)] W fun en w' => OutC gs a cap base br W σ (.int .i64 i) en w' := cE
  clear cE hr
  rcases F_or σ with g1 | ⟨x, u1⟩
  · go_enter_defers Tryz.func16, Tryz.ntmps16
    go_wp2_with (first
      | (refine wpList_allocO rfl 23 rfl (.slice none 0 0) rfl zCond ?_; intro W1 b1 F1 C1; have B1 := F1.trans (Below.refl _ w) (Nat.le_refl _); have h1 : b1 = w.heap.size := F1.at'; clear F1)
      | (refine wpList_allocO rfl 3 rfl (.int .i64 0) rfl zInt ?_; intro W2 b2 F2 I2; have C2 := C1.fresh F2; have B2 := F2.trans B1 B1.size; have h2 : b1 < b2 := (by have := C1.lt; have := F2.at'; omega); clear F2 C1)
      | (refine wpList_allocO rfl 25 rfl .nilIface rfl zErr ?_; intro W3 b3 F3 E3; have C3 := C2.fresh F3; have I3 := I2.fresh F3; have B3 := F3.trans B2 B2.size; have h3 : b2 < b3 := (by have := I2.lt; have := F3.at'; omega); have h4 : b3 < W3.heap.size := E3.lt; have hsz : w.heap.size ≤ b1 := Nat.le_of_eq h1.symm; clear F3 C2 I2 h1)
      | (refine wpList_allocS rfl 94 rfl (rdL none 0 0 0 0 (.slice none 0 0)) Tryz.zeroValue94 ?_; intro W4 br F4 R4; have C4 := C3.fresh F4; have I4 := I3.fresh F4; have E4 := E3.fresh F4; have B4x := F4.trans (Below.refl _ W3) (Nat.le_refl _); have B4 := F4.trans B3 B3.size; have hbr : W3.heap.size ≤ br := Nat.le_of_eq F4.at'.symm; clear F4 C3 I3 E3)
      | (refine wpList_storeS rfl 94 _ _ rfl rfl (rdL a gs.length cap k 0 (.slice none 0 0)) rfl R4 (by simp [rdL]) (by kernel_rfl) (by intro v hv; simp [rdL] at hv; rcases hv with rfl | rfl | rfl | rfl <;> rfl) ?_; intro W5 U5 R5x; have R5 : IsS W5 br 94 (rdL a gs.length cap k 0 (.slice none 0 0)) := R5x; have C5 := C4.upd U5 (by omega); have I5 := I4.upd U5 (by omega); have E5 := E4.upd U5 (by omega); have B5x := U5.trans B4x (by omega); have B5 := U5.trans B4 (by have := B3.size; omega); have P5 : PC gs a cap W3.heap.size br W5 (CS.mk k 0 [] none) := take_start hT htb B3 B5 hbr B5x.size R5; clear C4 I4 E4 R4 U5 R5x B4 B4x B5x R5)
      | (go_at_call 39; refine (hcE _ _ _ P5).mono ?_; rintro en W6 O6; obtain ⟨rfl, P6⟩ := O6.goes g1; have B6x := O6.bel; have C6 := C5.below B6x (by omega); have I6 := I5.below B6x (by omega); have E6 := E5.below B6x (by omega); have B6 := B5.trans (below_lower B6x B3.size); obtain ⟨v6, d6, e6, f6, R6, O6r⟩ := P6.ex; have hl6 := P6.len; have c1 : W6.cell? ⟨br, 1, none⟩ = some (.int .i64 (CS.k σ : Int)) := R6.cell 1; have c3 : W6.cell? ⟨br, 3, none⟩ = some v6 := R6.cell 3; clear O6 hcE C5 I5 E5 B6x e6 f6))
    obtain ⟨a6, c6, rfl⟩ := own_formN O6r
    obtain ⟨X, hX⟩ : ∃ X : World, X = { W6 with drawn := W6.drawn + 1 } := ⟨_, rfl⟩
    have R7 : IsS X br 94 (rdL a gs.length cap σ.k d6 (.slice a6 σ.nodes.length c6)) := (by rw [hX]; exact R6)
    have C7 : IsS X b1 23 [.slice none 0 0] := (by rw [hX]; exact C6)
    have I7 : IsS X b2 3 [.int .i64 0] := (by rw [hX]; exact I6)
    have E7 : IsS X b3 25 [.nilIface] := (by rw [hX]; exact E6)
    have B7 : Below w.heap.size w X := (by rw [hX]; exact ⟨B6.os, B6.tape, B6.output, B6.size, B6.block⟩)
    have O7 : X.ownsRow W3.heap.size 62 6 (.slice a6 σ.nodes.length c6) σ.nodes.length (cellsL σ.nodes) := (by rw [hX]; exact own_grN O6r ⟨rfl, rfl, rfl, Nat.le_refl _, fun _ _ => rfl⟩)
    clear R6 C6 I6 E6 B6 O6r c1 c3 P6 P5
    try dsimp only [Act.put]
    refine (wpIn_wide (n := 0)).1 ?_
    refine region_headC (fun w => IsS w br 94 (rdL a gs.length cap σ.k d6 (.slice a6 σ.nodes.length c6))) 5 (by kernel_rfl) (by decide) ?_
    rw [← hX]
    clear hX
    refine atC_take (fun _ => trivial) (headed_of (by kernel_rfl)) 0 rfl (by kernel_rfl) (fun c a w h => takeQ 22 _ (by omega) c a w h) (v := .pointer (some ⟨br, 3, none⟩)) (.inl ⟨rfl, fun w hc => ?y0⟩) R7 ?_
    case y0 =>
      first | rfl | simp [execOp, go_sem]
    simp only [Act.put, List.getElem_toArray, List.getElem_cons_zero, List.getElem_cons_succ, List.setIfInBounds_toArray, List.set_cons_succ, List.set_cons_zero]
    refine atC_take (fun _ => trivial) (headed_of (by kernel_rfl)) 1 rfl (by kernel_rfl) (fun c a w h => takeQ 23 _ (by omega) c a w h) (v := .slice a6 σ.nodes.length c6) (.inl ⟨rfl, fun w hc => ?y1⟩) R7 ?_
    case y1 =>
      exact run_load1 23 _ rfl rfl hc rfl ldCd
    simp only [Act.put, List.getElem_toArray, List.getElem_cons_zero, List.getElem_cons_succ, List.setIfInBounds_toArray, List.set_cons_succ, List.set_cons_zero]
    refine atC_take (fun _ => trivial) (headed_of (by kernel_rfl)) 2 rfl (by kernel_rfl) (fun c a w h => takeQ 24 _ (by omega) c a w h) (v := .pointer (some ⟨br, 1, none⟩)) (.inl ⟨rfl, fun w hc => ?y2⟩) R7 ?_
    case y2 =>
      first | rfl | simp [execOp, go_sem]
    simp only [Act.put, List.getElem_toArray, List.getElem_cons_zero, List.getElem_cons_succ, List.setIfInBounds_toArray, List.set_cons_succ, List.set_cons_zero]
    refine atC_take (fun _ => trivial) (headed_of (by kernel_rfl)) 3 rfl (by kernel_rfl) (fun c a w h => takeQ 25 _ (by omega) c a w h) (v := .int .i64 (CS.k σ : Int)) (.inl ⟨rfl, fun w hc => ?y3⟩) R7 ?_
    case y3 =>
      exact run_load1 3 _ rfl rfl hc rfl ldI3
    simp only [Act.put, List.getElem_toArray, List.getElem_cons_zero, List.getElem_cons_succ, List.setIfInBounds_toArray, List.set_cons_succ, List.set_cons_zero]
    refine atC_skip (fun _ => trivial) 4 rfl (by kernel_rfl) (by intro c h; cases h) rfl (run_st1 23 _ _ rfl rfl (.slice a6 σ.nodes.length c6) rfl C7 (by simp) infoCond rfl) ?_
    rintro Y ⟨U8, C8x⟩
    have C8 : IsS Y b1 23 [.slice a6 σ.nodes.length c6] := C8x
    have I8 := I7.upd U8 (by omega)
    have E8 := E7.upd U8 (by omega)
    have R8 := R7.upd U8 (by omega)
    have B8 := U8.trans B7 hsz
    have O8 := own_updF O7 U8 (own_neN O7 C7 (by decide))
    refine ⟨R8, ?_⟩
    clear C7 I7 E7 R7 B7 O7 U8 C8x
    simp only [Act.put, List.getElem_toArray, List.getElem_cons_zero, List.getElem_cons_succ, List.setIfInBounds_toArray, List.set_cons_succ, List.set_cons_zero]
    refine atC_end (by kernel_rfl) ?_
    simp only [List.drop_succ_cons, List.drop_zero]
    gi_wp2_with (first
      | (refine inStore1 rfl 3 _ _ rfl rfl (.int .i64 (CS.k σ : Int)) rfl I8 (by simp) info3 rfl ?_; intro W9 U9 I9x; have I9 : IsS W9 b2 3 [.int .i64 (CS.k σ : Int)] := I9x; have C9 := C8.upd U9 (by omega); have E9 := E8.upd U9 (by omega); have B9 := U9.trans B8 (by omega); have O9 := own_updF O8 U9 (own_neN O8 I8 (by decide)); clear I8 C8 E8 B8 O8 I9x U9 R8)
      | (refine inStore1 rfl 25 _ _ rfl rfl .nilIface rfl E9 (by simp) infoErr rfl ?_; intro Wa Ua Eax; have Ea : IsS Wa b3 25 [.nilIface] := Eax; have Ca := C9.upd Ua (by omega); have Ia := I9.upd Ua (by omega); have Ba := Ua.trans B9 (by omega); have Oa := own_updF O9 Ua (own_neN O9 E9 (by decide)); clear I9 C9 E9 B9 O9 Eax Ua))
    go_wp2_with fail
    refine leaves_cons (f := 37) (args := #[.pointer (some ⟨b1, 0, none⟩), .pointer (some ⟨b2, 0, none⟩), .pointer (some ⟨b3, 0, none⟩)]) (by simp) (by simp [go_sem]) ?_
    refine (catch_idle _ _ _ _).mono ?_
    rintro e u' W' ⟨rfl, rfl, hw'⟩
    replace hw' := hw'.symm
    subst hw'
    have c0 := Ca.cell 0
    have i0 := Ia.cell 0
    have e0 := Ea.cell 0
    simp at c0 i0 e0
    simp [Leaves, _root_.Go.settle, results, Tryz.results16, go_sem, c0, i0, e0]
    exact ⟨fun _ => ⟨_, (by rw [er]), (by rw [er]; exact own_lower Oa B3.size), (by rw [er]; exact hl6)⟩, fun y hy => (by rw [er, g1] at hy; cases hy), Ba⟩
  · go_enter_defers Tryz.func16, Tryz.ntmps16
    go_wp2_with (first
      | (refine wpList_allocO rfl 23 rfl (.slice none 0 0) rfl zCond ?_; intro W1 b1 F1 C1; have B1 := F1.trans (Below.refl _ w) (Nat.le_refl _); have h1 : b1 = w.heap.size := F1.at'; clear F1)
      | (refine wpList_allocO rfl 3 rfl (.int .i64 0) rfl zInt ?_; intro W2 b2 F2 I2; have C2 := C1.fresh F2; have B2 := F2.trans B1 B1.size; have h2 : b1 < b2 := (by have := C1.lt; have := F2.at'; omega); clear F2 C1)
      | (refine wpList_allocO rfl 25 rfl .nilIface rfl zErr ?_; intro W3 b3 F3 E3; have C3 := C2.fresh F3; have I3 := I2.fresh F3; have B3 := F3.trans B2 B2.size; have h3 : b2 < b3 := (by have := I2.lt; have := F3.at'; omega); have h4 : b3 < W3.heap.size := E3.lt; have hsz : w.heap.size ≤ b1 := Nat.le_of_eq h1.symm; clear F3 C2 I2 h1)
      | (refine wpList_allocS rfl 94 rfl (rdL none 0 0 0 0 (.slice none 0 0)) Tryz.zeroValue94 ?_; intro W4 br F4 R4; have C4 := C3.fresh F4; have I4 := I3.fresh F4; have E4 := E3.fresh F4; have B4x := F4.trans (Below.refl _ W3) (Nat.le_refl _); have B4 := F4.trans B3 B3.size; have hbr : W3.heap.size ≤ br := Nat.le_of_eq F4.at'.symm; clear F4 C3 I3 E3)
      | (refine wpList_storeS rfl 94 _ _ rfl rfl (rdL a gs.length cap k 0 (.slice none 0 0)) rfl R4 (by simp [rdL]) (by kernel_rfl) (by intro v hv; simp [rdL] at hv; rcases hv with rfl | rfl | rfl | rfl <;> rfl) ?_; intro W5 U5 R5x; have R5 : IsS W5 br 94 (rdL a gs.length cap k 0 (.slice none 0 0)) := R5x; have C5 := C4.upd U5 (by omega); have I5 := I4.upd U5 (by omega); have E5 := E4.upd U5 (by omega); have B5x := U5.trans B4x (by omega); have B5 := U5.trans B4 (by have := B3.size; omega); have P5 : PC gs a cap W3.heap.size br W5 (CS.mk k 0 [] none) := take_start hT htb B3 B5 hbr B5x.size R5; clear C4 I4 E4 R4 U5 R5x B4 B4x B5x R5)
      | (go_at_call 39; refine (hcE _ _ _ P5).mono ?_; rintro en W6 O6; have B6x := O6.bel; obtain ⟨bp, rfl, hb, hI⟩ := O6.ups _ u1; have C6 := C5.below B6x (by omega); have I6 := I5.below B6x (by omega); have E6 := E5.below B6x (by omega); have B6 := B5.trans (below_lower B6x B3.size); clear O6 hcE C5 I5 E5))
    refine leaves_cons (f := 37) (args := #[.pointer (some ⟨b1, 0, none⟩), .pointer (some ⟨b2, 0, none⟩), .pointer (some ⟨b3, 0, none⟩)]) (by simp) (by simp [go_sem]) ?_
    refine (catch_thrown b1 b2 b3 (by omega) (by omega) (by omega) _ _ _ _ [] _ C6 I6 E6).mono ?_
    rintro e u' W7 ⟨rfl, rfl, C7, I7, E7, s7, k7, o7, t7, p7⟩
    have c0 := C7.cell 0
    have i0 := I7.cell 0
    have e0 := E7.cell 0
    simp at c0 i0 e0
    simp [Leaves, _root_.Go.settle, results, Tryz.results16, go_sem, c0, i0, e0]
    have hbp : bp < W6.heap.size := hI.lt
    have hB7 : Below w.heap.size w W7 := ⟨o7.trans B6.os, t7.trans B6.tape, p7.trans B6.output, by rw [s7]; exact B6.size, fun j hj => by rw [k7 j (by omega) (by omega) (by omega)]; exact B6.block j hj⟩
    have hlow : W3.heap.size ≤ bp := Nat.le_trans P5.sz hb
    exact ⟨fun g => (by rw [er, u1] at g; cases g), fun y hy => (by rw [er, u1] at hy; cases hy; exact ⟨bp, rfl, (by have := B3.size; omega), (k7 bp (by omega) (by omega) (by omega)).trans hI⟩), hB7⟩
end
end Go.Proofs.YtjnbhcakfenbhaaGreatDoor
/- The reference's reader of conditions: its cells; bad, fail. -/
namespace Go.Proofs.YtjnbhcakfenbhaaGreatDoor
open Go.RowKit Go.Shelf M
set_option linter.unusedSimpArgs false
set_option linter.unusedVariables false

def fltL : Option (Int × Int × Int) → List Value
  | none => [.int .i64 0, .int .i64 0, .int .i64 0]
  | some x => [.int .i64 x.1, .int .i64 x.2.1, .int .i64 x.2.2]
theorem fltL_len (F : Option (Int × Int × Int)) : (fltL F).length = 3 := by cases F <;> rfl
theorem fltL_one (F : Option (Int × Int × Int)) : ∀ v ∈ fltL F, v.oneCell' = true := by cases F <;> simp [fltL, Value.oneCell']
/-- The reader's own cells. -/
def rrL (a : Option Addr) (n cap : Nat) (k : Nat) (t : GT) (d : Int) (v : Value) (F : Option (Int × Int × Int)) : List Value :=
  .slice a n cap :: .int .i64 (k : Int) :: (gtL t ++ .int .i64 d :: v :: fltL F)
theorem rrL_len {a : Option Addr} {n cap k : Nat} {t : GT} {d : Int} {v : Value} {F : Option (Int × Int × Int)} : (rrL a n cap k t d v F).length = 14 := by simp [rrL, gtL, fltL_len]
/-- The reference's reader of tokens that lie below a bound, above which all its own lies. -/
structure RC (gs : List GT) (a : Option Addr) (cap base br k0 : Nat) (W : World) (σ : CS) : Prop where
  ex : ∃ (v : Value) (t : GT), IsS W br 102 (rrL a gs.length cap σ.k t σ.deep v σ.F) ∧ W.ownsRow base 62 6 v σ.nodes.length (cellsL σ.nodes) ∧ (k0 < σ.k → t = gAt gs (σ.k - 1))
  toks : Toks W a gs
  tb : ∀ b o, a = some ⟨b, o, none⟩ → b < base
  bb : base ≤ br
  sz : base ≤ W.heap.size
  len : σ.nodes.length ≤ 1024
  from' : k0 ≤ σ.k
  k : σ.k ≤ gs.length
  code : ∀ x, σ.F = some x → x.2.2 ≠ 0
section
variable {gs : List GT} {a : Option Addr} {cap base br k0 : Nat} {w W W' : World} {σ σ' : CS}
theorem RC.lt (h : RC gs a cap base br k0 W σ) : br < W.heap.size := by obtain ⟨v, t, h1, _⟩ := h.ex; exact h1.lt
/-- Memory that came behind changes nothing. -/
theorem RC.grown (h : RC gs a cap base br k0 W σ) (B : Below W.heap.size W W') : RC gs a cap base br k0 W' σ := by
  obtain ⟨v, t, h1, h2, h3⟩ := h.ex
  exact ⟨⟨v, t, h1.grown B, own_grN h2 B, h3⟩, toks_low h.toks h.tb (below_lower B h.sz), h.tb, h.bb, Nat.le_trans h.sz B.size, h.len, h.from', h.k, h.code⟩
/-- The reader's block is turned. -/
theorem RC.turn (h : RC gs a cap base br k0 W σ) (T : Turn W W' br) {v : Value} {t t' : GT} (hv : IsS W br 102 (rrL a gs.length cap σ.k t σ.deep v σ.F)) (hn : σ'.nodes = σ.nodes) (hf : k0 ≤ σ'.k) (hk : σ'.k ≤ gs.length) (hc : ∀ x, σ'.F = some x → x.2.2 ≠ 0)
    (hl : k0 < σ'.k → t' = gAt gs (σ'.k - 1)) (hR : IsS W' br 102 (rrL a gs.length cap σ'.k t' σ'.deep v σ'.F)) : RC gs a cap base br k0 W' σ' := by
  obtain ⟨v0, t0, h1, h2, h3⟩ := h.ex
  have e : v0 = v := by
    have e1 : W.cell? ⟨br, 10, none⟩ = some v0 := h1.cell 10
    have e2 : W.cell? ⟨br, 10, none⟩ = some v := hv.cell 10
    rw [e1] at e2
    injection e2
  subst e
  have hB : Below base W W' := Turn.below (Below.refl _ _) h.bb h.sz T
  refine ⟨⟨v0, t', hR, ?_, hl⟩, toks_low h.toks h.tb hB, h.tb, h.bb, Nat.le_trans h.sz T.size, ?_, hf, hk, hc⟩
  · rw [hn]
    exact own_turnN h2 h1 (by decide) T
  · rw [hn]; exact h.len
end
/-- What a step of the reader's comes to. -/
structure OutR (gs : List GT) (a : Option Addr) (cap base br k0 : Nat) (w : World) (σ : CS) (v : Value) (en : Ending) (w' : World) : Prop where
  en : en = .returned v
  st : RC gs a cap base br k0 w' σ
  bel : Below base w w'
/-- The same, and no block but the reader's has turned. -/
structure OutT (gs : List GT) (a : Option Addr) (cap base br k0 : Nat) (w : World) (σ : CS) (v : Value) (en : Ending) (w' : World) : Prop where
  en : en = .returned v
  st : RC gs a cap base br k0 w' σ
  bel : Below base w w'
  tn : Turn w w' br
section
variable {gs : List GT} {a : Option Addr} {cap base br k0 : Nat}
set_option maxRecDepth 100000 in
set_option maxHeartbeats 1000000 in
theorem rbad_any (σ : CS) (w : World) (hP : RC gs a cap base br k0 w σ) :
    Calls Tryz.prog 43 #[.pointer (some ⟨br, 0, none⟩)] w fun en w' => en = .returned (.bool σ.F.isSome) ∧ w' = w := by
  obtain ⟨v, t, R, _, _⟩ := hP.ex
  have hc := hP.code
  cases hF : σ.F with
  | none =>
    rw [hF] at R
    have c13 : w.cell? ⟨br, 13, none⟩ = some (.int .i64 0) := R.cell 13
    clear R hc hF
    go_enter Tryz.func43, Tryz.ntmps43
    go_wp2_with fail
    go_ret
    exact ⟨rfl, rfl⟩
  | some x =>
    rw [hF] at R
    have hx := hc x hF
    obtain ⟨x1, x2, x3⟩ := x
    dsimp only at hx
    have c13 : w.cell? ⟨br, 13, none⟩ = some (.int .i64 x3) := R.cell 13
    have hx' : (x3 == 0) = false := by simpa using hx
    clear R hc hF hx
    go_enter Tryz.func43, Tryz.ntmps43
    go_wp2_with fail
    go_ret
    exact ⟨ret_bool (by simp [bne, hx']), rfl⟩
set_option maxRecDepth 100000 in
set_option maxHeartbeats 1000000 in
theorem rfail_any (σ : CS) (g : GT) (e : Int) (he : e ≠ 0) (w : World) (hP : RC gs a cap base br k0 w σ) :
    Calls Tryz.prog 94 #[.pointer (some ⟨br, 0, none⟩), .agg (gtL g).toArray, .int .i64 e] w fun en w' => OutT gs a cap base br k0 w (failC σ g e) (.tuple #[]) en w' := by
  have cB := fun W hP => rbad_any (gs := gs) (a := a) (cap := cap) (base := base) (br := br) (k0 := k0) σ W hP
  have hlt := hP.lt
  have hbb := hP.bb
  have hsz := hP.sz
  cases hF : σ.F with
  | none =>
    rw [hF] at cB
    have e2 : failC σ g e = CS.mk (CS.k σ) (CS.deep σ) (CS.nodes σ) (some (g.line, g.col, e)) := by unfold failC; rw [if_neg (by rw [hF]; simp)]
    rw [e2]
    clear e2
    go_enter Tryz.func94, Tryz.ntmps94
    go_wp2_with (first
      | (refine wpList_boxS rfl 49 _ rfl (gtL g) rfl ?_; intro W1 b1 F1 N1; have B1 := F1.trans (Below.refl _ w) (Nat.le_refl _); have hb1 : w.heap.size ≤ b1 := Nat.le_of_eq F1.at'.symm; have P1 := hP.grown B1; clear F1)
      | (go_at_call 43; refine (cB _ P1).mono ?_; rintro en W2 ⟨rfl, hW⟩; replace hW := hW.symm; subst hW; have c3 : W1.cell? ⟨b1, 3, none⟩ = some (.int .i64 g.line) := N1.cell 3; have c4 : W1.cell? ⟨b1, 4, none⟩ = some (.int .i64 g.col) := N1.cell 4; obtain ⟨v, t, R1, O1, L1⟩ := P1.ex; clear cB)
      | (refine wpList_storeS rfl 29 _ _ rfl rfl (fltL (some (g.line, g.col, e))) rfl R1 (by rw [rrL_len]; simp [fltL]) (by kernel_rfl) (fltL_one _) ?_; intro W3 U3 R3x; have P3 : RC gs a cap base br k0 W3 (CS.mk (CS.k σ) (CS.deep σ) (CS.nodes σ) (some (g.line, g.col, e))) := P1.turn (Turn.of_upd U3) R1 rfl hP.from' hP.k (fun x hx => (by cases hx; exact he)) L1 (by rw [hF] at R3x; exact R3x); have B3 := U3.trans (below_lower B1 hsz) hbb))
    exact ⟨rfl, .tuple #[], (by simp [results, Tryz.results94, go_sem]), rfl, P3, B3, (Turn.of_below B1 br).trans (Turn.of_upd U3)⟩
  | some x =>
    rw [hF] at cB
    have e2 : failC σ g e = σ := by unfold failC; rw [if_pos (by rw [hF]; simp)]
    rw [e2]
    clear e2
    go_enter Tryz.func94, Tryz.ntmps94
    go_wp2_with (first
      | (refine wpList_boxS rfl 49 _ rfl (gtL g) rfl ?_; intro W1 b1 F1 N1; have B1 := F1.trans (Below.refl _ w) (Nat.le_refl _); have P1 := hP.grown B1; clear F1)
      | (go_at_call 43; refine (cB _ P1).mono ?_; rintro en W2 ⟨rfl, hW⟩; replace hW := hW.symm; subst hW; clear cB))
    exact ⟨rfl, .tuple #[], (by simp [results, Tryz.results94, go_sem]), rfl, P1, below_lower B1 hsz, Turn.of_below B1 br⟩
end
end Go.Proofs.YtjnbhcakfenbhaaGreatDoor
