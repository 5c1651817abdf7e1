/- StateProjects: the law. -/
import Derived.Test.YtbhgchhoeokjhaaPK
import Derived.Test.YtbhgchhoeokjhaaLO1
namespace Go.Proofs.Ytbhgchhoeokjhaa
open Go Go.RowKit M
set_option linter.unusedSimpArgs false
set_option linter.unusedVariables false

section
variable {w : World} {ops : Array Oper} {rest : List Oper} {op : Oper} {a : Act} {Q : Exit → Act → World → Prop} {t T k by' : Nat} {z : Value}
/-- A slice's cells put behind a row of one's own, however great. -/
theorem run_appX (E : Elt t T k z by') (B : Nat) (v : Value) (n : Nat) (xs : List Value) (hown : w.ownsRow B t k v n xs) (u : Value) (m : Nat) (cs : List Value) (hu : RowV w u m cs) (hl : cs.length = m * k) (h1 : ∀ x ∈ cs, x.oneCell' = true) (hn : n + m ≤ maxLen) (hb : (n + m) * by' ≤ 140737488355328) (hB : B ≤ w.heap.size) (ty : TypeId) :
    ∃ v' w', (Builtin.append_ #[T, T] ty #[v, u]).run Try.prog w = .ok v' w' ∧ w'.ownsRow B t k v' (n + m) (xs ++ cs) ∧ w.grownBy w' v.ownBlock := by
  obtain ⟨i0, hi, hz, hs, hby⟩ := E.info
  obtain ⟨ad, c, rfl, hT, hnil⟩ := hu
  cases ad with
  | none =>
    have hm : m = 0 := by
      cases m with
      | zero => rfl
      | succ m =>
        have hpos := E.pos
        have : 0 < cs.length := by rw [hl]; exact Nat.mul_pos (Nat.succ_pos _) hpos
        obtain ⟨_, _, e, _⟩ := hT 0 cs[0] (List.getElem?_eq_getElem this)
        cases e
    subst hm
    have hcs : cs = [] := List.length_eq_zero_iff.1 (by rw [hl, Nat.zero_mul])
    subst hcs
    rw [hnil rfl]
    refine ⟨v, w, run_append_owned_none (P := Try.prog) (w := w) B T ty t i0 k E.und hi v n xs hown, ?_, ⟨rfl, rfl, rfl, Nat.le_refl _, fun _ _ _ => rfl⟩⟩
    simpa using hown
  | some x =>
    have hnews : ∀ j y, cs[j]? = some y → w.cell? (x.add j) = some y := fun j y hj => by
      obtain ⟨b, o, e, _, hc⟩ := hT j y hj
      cases e
      rw [Addr.add_mid]
      exact hc
    obtain ⟨v', w', hr, ho, hg, _⟩ := run_append_own (P := Try.prog) w B T ty t i0 z k by' E.und hi hz hs hby E.cells E.pos v n xs hown x m c cs hl hnews h1 hn hb hB
    exact ⟨v', w', hr, ho, hg⟩
theorem wpList_appX (E : Elt t T k z by') (hgd : op.guard = none) (s x : Operand) (ho : op.op = .call { callee := .builtin .append, args := #[s, x], argTypes := #[T, T] })
    (B : Nat) (v : Value) (n : Nat) (xs : List Value) (hs : a.eval s = v) (hown : w.ownsRow B t k v n xs) (u : Value) (m : Nat) (cs : List Value) (hx : a.eval x = u) (hu : RowV w u m cs) (hl : cs.length = m * k) (h1 : ∀ x ∈ cs, x.oneCell' = true) (hn : n + m ≤ maxLen) (hb : (n + m) * by' ≤ 140737488355328) (hB : B ≤ w.heap.size)
    (h : ∀ v' w', w'.ownsRow B t k v' (n + m) (xs ++ cs) → w.grownBy w' v.ownBlock → wpList Try.prog ops Q rest (a.put op.dst v') w') : wpList Try.prog ops Q (op :: rest) a w := by
  refine wpList_plain hgd fun K hK => ?_
  obtain ⟨v', w', hr, h2, h3⟩ := run_appX E B v n xs hown u m cs hu hl h1 hn hb hB op.type
  unfold Oper.wp
  rw [exec_app s x ho hs hx hr]
  exact hK _ _ (h v' w' h2 h3)
theorem wpList_build0I (hgd : op.guard = none) (ho : op.op = .buildSlice 39 0 #[])
    (h : ∀ W b, Fresh w W b → W.ownsRow b 3 1 (.slice (some ⟨b, 0, none⟩) 0 0) 0 [] → wpList Try.prog ops Q rest (a.put op.dst (.slice (some ⟨b, 0, none⟩) 0 0)) W) : wpList Try.prog ops Q (op :: rest) a w := by
  refine wpList_plain hgd fun K hK => ?_
  unfold Oper.wp
  rw [exec_build0 eI3 ho]
  exact hK _ _ (h _ _ (Fresh.alloc w _) (own_build0 eI3 w))
theorem wpList_build1I (hgd : op.guard = none) (x : Operand) (ho : op.op = .buildSlice 39 1 #[(0, x)]) (z : Int) (hx : a.eval x = .int .i64 z)
    (h : ∀ W b, Fresh w W b → IsS W b 3 [.int .i64 z] → wpList Try.prog ops Q rest (a.put op.dst (.slice (some ⟨b, 0, none⟩) 1 1)) W) : wpList Try.prog ops Q (op :: rest) a w := by
  refine wpList_plain hgd fun K hK => ?_
  unfold Oper.wp
  rw [exec_build1 eI3 x ho (.int .i64 z) hx rfl]
  exact hK _ _ (h _ _ (Fresh.alloc w _) (IsS.new w 3 [.int .i64 z]))
end
theorem row_one {W : World} {b : Nat} {z : Int} (I : IsS W b 3 [.int .i64 z]) : RowV W (.slice (some ⟨b, 0, none⟩) 1 1) 1 [.int .i64 z] :=
  ⟨some ⟨b, 0, none⟩, 1, rfl, fun j v hv => ⟨b, 0, rfl, I.lt, by rw [Nat.zero_add, I.cell]; exact hv⟩, fun e => by cases e⟩
theorem ints_oneC (ks : List Int) : ∀ v ∈ ks.map (Value.int .i64), v.oneCell' = true := fun v hv => by obtain ⟨k, _, rfl⟩ := List.mem_map.1 hv; rfl
theorem own_openI {w : World} {B n : Nat} {v : Value} {xs : List Value} (h : w.ownsRow B 3 1 v (n + 1) xs) : ∃ g cap, v = .slice (some ⟨g, 0, none⟩) (n + 1) cap ∧ n + 1 ≤ cap ∧ cap ≤ maxLen ∧ B ≤ g ∧ Seg w (some ⟨g, 0, none⟩) xs := by
  have hr := own_row h
  rcases h.2 with ⟨_, h0⟩ | ⟨g, cap, cur, rfl, hg, hh, hc, hm, _⟩
  · omega
  · obtain ⟨a', c', e, s, _⟩ := hr
    cases e
    exact ⟨g, cap, rfl, hc, hm, hg, s⟩
theorem run_suptoI (w : World) (g i n cap : Nat) (h : i ≤ n) (hc : n ≤ cap) (hm : cap ≤ maxLen) : (Instr.sliceAt 39 (.slice (some ⟨g, 0, none⟩) n cap) none (some (.int .i64 (i : Int))) none).run Try.prog w = .ok (.slice (some ⟨g, 0, none⟩) i cap) w := by
  unfold maxLen at hm
  have h1 : (0 : Int) ≤ (i : Int) ∧ (i : Int) ≤ (cap : Int) := by omega
  have hs : ¬ ((i : Int) < 0) := by omega
  have h2 : i ≤ cap := by omega
  simp [go_sem, Instr.sliceAt, h1, h, h2, hc]
theorem Seg.pre {w : World} {a : Option Addr} {cs ds : List Value} (h : Seg w a (cs ++ ds)) : Seg w a cs := fun j v hv => h j v (by rw [List.getElem?_append_left (List.getElem?_eq_some_iff.1 hv).1]; exact hv)

theorem zeroA (w : World) : (zeroValue 40).run Try.prog w = .ok (.agg [.slice none 0 0, .slice none 0 0].toArray) w := by
  have h : Try.t40.zero = some (.agg [.slice none 0 0, .slice none 0 0].toArray) := by kernel_rfl
  simp [go_sem, zeroValue, h]
theorem infoA : (Try.prog.info? 40).map (·.size) = some 2 := by kernel_rfl

set_option maxRecDepth 100000 in
set_option maxHeartbeats 8000000 in
theorem projects_few (a ak : Option Addr) (cap ck : Nat) (l : List FS) (ks : List Int) (hn : l.length ≤ 4000) (hkn : (ks.length + 1) * 8 ≤ 140737488355328) (hck : ak = none → ck = 0) (w : World) (hS : Seg w a (flatF l)) (hK : NumS w ak ks) :
    Calls Try.prog 5 #[.slice a l.length cap, .slice ak ks.length ck] w fun e w' => e = .returned (.bool true) ∧ Below w.heap.size w w' := by
  obtain ⟨n, hkl⟩ : ∃ n, ks.length = n := ⟨_, rfl⟩
  obtain ⟨nl, hll⟩ : ∃ nl, l.length = nl := ⟨_, rfl⟩
  have hF := fun W => few_any a none nl 0 cap 0 (by omega) (by omega) W
  rw [decide_eq_true (by omega)] at hF
  have hRSort := fun W (h : Seg W a (flatF l)) => rsort_any a cap l (by omega) W h
  rw [hll] at hRSort ⊢
  rw [hkl] at hkn ⊢
  have hnI : (n : Int) ≤ 17592186044416 := by omega
  have HS : Hid (Seg w a (flatF l)) := hS
  have HKN : Hid (NumS w ak ks) := hK
  have HKL : Hid (ks.length = n) := hkl
  have HLL : Hid (l.length = nl) := hll
  have HCK : Hid (ak = none → ck = 0) := hck
  clear hS hK hkl hll hck
  have ta : True := trivial
  go_enter Try.func5, Try.ntmps5
  go_wp2_with (first
    | (go_at_call 7; refine (hF _).mono ?_; rintro e w' ⟨rfl, hw'⟩; replace hw' := hw'.symm; subst hw'; clear hF)
    | (go_at_call 10; refine (hRSort _ HS.out).mono ?_; rintro e w1 ⟨vs, rfl, O1, B1⟩; obtain ⟨as', cs', hvs, S1⟩ := own_seg O1; obtain ⟨ms, hms⟩ : ∃ ms, (setF l).length = ms := ⟨_, rfl⟩; rw [hms] at hvs; subst hvs; have HMS : Hid ((setF l).length = ms) := hms; clear hms)
    | (clear ta; refine wpList_allocS rfl _ rfl [.slice none 0 0, .slice none 0 0] zeroA ?_; intro w2 b5 F2 I2)
    | (refine wpList_storeS rfl _ _ _ rfl rfl [.slice a nl cap, .slice as' ms cs'] rfl I2 (by simp) infoA (by intro v hv; simp at hv; rcases hv with rfl | rfl <;> rfl) ?_; intro w3 U3 I3x; have I3 : IsS w3 b5 40 [.slice a nl cap, .slice as' ms cs'] := I3x))
  have hb5 : w1.heap.size ≤ b5 := by rw [F2.at']; exact Nat.le_refl _
  have B3 : Below w1.heap.size w1 w3 := U3.trans (fresh_b F2) hb5
  have B03 := Below.then B1 B3
  have hms4 : ms ≤ 4000 := by rw [← HMS.out]; exact Nat.le_trans (setF_len l) hn
  have hnl4 : nl ≤ 4000 := by rw [← HLL.out]; exact hn
  have S0 := HS.out.below B03
  have S13 := S1.below B3
  have K3 := HKN.out.below B03
  have HPick : Hid (∀ i : Nat, i < 2 → ∃ (L : List FS) (aL : Option Addr) (nL cL : Nat), L.length = nL ∧ nL ≤ 4000 ∧ Seg w3 aL (flatF L) ∧ ([Value.slice a nl cap, Value.slice as' ms cs'])[i]? = some (.slice aL nL cL)) := fun i hi => by
    rcases (by omega : i = 0 ∨ i = 1) with rfl | rfl
    · exact ⟨l, a, nl, cap, HLL.out, hnl4, S0, rfl⟩
    · exact ⟨setF l, as', ms, cs', HMS.out, hms4, S13, rfl⟩
  clear F2 I2 U3 hRSort S1 O1 S0 S13
  have HB03 : Hid (Below w.heap.size w w3) := B03
  have HK3 : Hid (NumS w3 ak ks) := K3
  generalize hlst : [Value.slice a nl cap, Value.slice as' ms cs'] = lst at *
  clear hlst B03 K3 B3 HKN HS B1 hb5 hn
  go_loopw [6] (fun p wr => ∃ i : Nat, i ≤ 2 ∧ p = .int .i64 (i : Int) ∧ Below w3.heap.size w3 wr) (fun p _ => 2 - (intOf p).toNat)
  case atStart => exact ⟨0, by omega, rfl, Below.refl _ _⟩
  case round =>
    obtain ⟨i, hi, rfl, BR⟩ := hrel
    by_cases hlt : i < 2
    · obtain ⟨L, aL, nL, cL, hLn, hL4, SL3, hget⟩ := HPick.out i hlt
      have cL0 : wr.cell? ⟨b5, i, none⟩ = some (.slice aL nL cL) := by rw [(I3.grown BR).cell]; exact hget
      have SLR := SL3.below BR
      have hi2 : (i : Int) < 2 := by omega
      have hLent := lent_any aL cL L (by omega) wr SLR
      have hProj := fun W (g gk capk : Nat) (h : Lnt W g L) (hk : NumS W (some ⟨gk, 0, none⟩) ks) => project_any (some ⟨g, 0, none⟩) (some ⟨gk, 0, none⟩) (nL + 1) capk L ks (by omega) (by have := HKL.out; omega) W (lnt_seg h) hk
      have hRProj := fun W (h : Seg W aL (flatF L)) (hk : NumS W ak ks) => rproject_any aL ak cL ck L ks (by omega) (by have := HKL.out; omega) W h hk
      have hmL : (prjL L ks).length ≤ nL := by rw [← hLn]; exact prjL_len L ks
      have hSame := fun W a1 a2 c1 c2 (h1 : Seg W a1 (flatF (prjL L ks))) (h2 : Seg W a2 (flatF (prjL L ks))) => same_same a1 a2 c1 c2 (prjL L ks) (by omega) W h1 h2
      have hBack := fun W (g : Nat) (h : Lnt W g L) (h2 : Seg W aL (flatF L)) => back_any aL cL L (by omega) g W h h2
      have hSpoil := fun W (B : Nat) v (h : OwnL W B v (prjL L ks)) (hB : B ≤ W.heap.size) => spoil_any h hB (by omega)
      have hnum := num_any (prjE L ks)
      simp only [hLn] at hLent hProj hRProj hBack
      simp only [HKL.out] at hProj hRProj
      obtain ⟨m, hml⟩ : ∃ m, (prjL L ks).length = m := ⟨_, rfl⟩
      simp only [hml] at hSame
      have HML : Hid ((prjL L ks).length = m) := hml
      generalize hEd : prjE L ks = er at *
      generalize hPd : prjL L ks = PL at *
      clear hEd hPd hml hmL hget HPick hLn SL3
      have hkn8 : (0 + n) * 8 ≤ 140737488355328 := by omega
      have hkn9 : (0 + n + 1) * 8 ≤ 140737488355328 := by omega
      have hknm : 0 + n ≤ maxLen := by unfold maxLen; omega
      have hknm1 : 0 + n + 1 ≤ maxLen := by unfold maxLen; omega
      have hkl2 : (ks.map (Value.int .i64)).length = n * 1 := by rw [List.length_map, HKL.out, Nat.mul_one]
      have hiK : (n : Int) < (n : Int) + 1 := by omega
      have hiKN : n < n + 1 := by omega
      have HNum : Hid (NumS wr ak ks) := HK3.out.below BR
      have HRow : Hid (∀ W, Below wr.heap.size wr W → RowV W (.slice ak n ck) n (ks.map (Value.int .i64))) := fun W hW => ⟨ak, ck, rfl, HNum.out.below hW, HCK.out⟩
      have hO1 := ints_oneC ks
      generalize hks : ks.map (Value.int .i64) = kv at *
      have HKV : Hid (ks.map (Value.int .i64) = kv) := hks
      clear hks
      have ta : True := trivial
      have tb : True := trivial
      have tc : True := trivial
      have td : True := trivial
      have te : True := trivial
      have tf : True := trivial
      go_wp2_with (first
        | (go_at_call 8; refine hLent.mono ?_; rintro e w5 ⟨⟨g, rfl, hg, L5⟩, B5⟩; clear hLent)
        | (refine wpList_build0I rfl rfl ?_; intro w6 b6 F6 O6; have B6 := Below.then B5 (fresh_b F6); have hb6 : b6 ≤ w6.heap.size := (by have := (fresh_b F6).size; rw [F6.at']; exact this); have hb6' : w5.heap.size ≤ b6 := (by rw [F6.at']; exact Nat.le_refl _); have R6 := HRow.out w6 B6)
        | (clear ta; at_builtin; refine wpList_appX eI3 rfl _ _ rfl b6 _ 0 [] rfl O6 _ n kv rfl R6 hkl2 hO1 hknm hkn8 hb6 ?_; intro v7 w7 O7 G7; have B67 : Below b6 w6 w7 := (Below.refl b6 w6).grown G7 hb6 (fun k hk => (O6.lt k hk).1); obtain ⟨a7, c7, hv7⟩ := own_form O7; subst hv7; have hb7 : b6 ≤ w7.heap.size := Nat.le_trans hb6 B67.size)
        | (refine wpList_build1I rfl _ rfl (-7) rfl ?_; intro w8 b8 F8 I8; have O8 := own_belowW O7 (fresh_b F8); have B68 : Below b6 w6 w8 := Below.trans B67 ((fresh_b F8).mono hb7); have hb8 : b6 ≤ w8.heap.size := Nat.le_trans hb6 B68.size)
        | (clear tb; at_builtin; refine wpList_appX eI3 rfl _ _ rfl b6 _ (0 + n) ([] ++ kv) rfl O8 _ 1 [.int .i64 (-7)] rfl (row_one I8) rfl (by intro v hv; simp at hv; subst hv; rfl) hknm1 hkn9 hb8 ?_; intro v9 w9 O9 G9; have B69 : Below b6 w6 w9 := B68.grown G9 hb8 (fun k hk => (O8.lt k hk).1); have O9' : w9.ownsRow b6 3 1 v9 (n + 1) (kv ++ [.int .i64 (-7)]) := (by simpa using O9); obtain ⟨gk, capk, hv9, hck1, hcm, hgk, SK⟩ := own_openI O9'; subst hv9; have B59 := Below.trans (fresh_b F6) (B69.mono hb6'); have L9 : Lnt w9 g L := IsS.grown L5 B59; have N9 : NumS w9 (some ⟨gk, 0, none⟩) ks := (by show Seg _ _ _; rw [HKV.out]; exact SK.pre); have hup := (fun w => run_suptoI w gk n (n + 1) capk (by omega) hck1 hcm); have BR9 := Below.then B5 B59)
        | (clear tc; go_at_call 24; refine (hProj _ g gk capk L9 N9).mono ?_; rintro e wA ⟨va, rfl, OA, BA⟩; obtain ⟨aA, cA, hva, SA⟩ := own_slice OA HML.out; subst hva; have LA : Lnt wA g L := IsS.grown L9 BA; have NA := N9.below BA)
        | (clear td; go_at_call 24; refine (hProj _ g gk capk LA NA).mono ?_; rintro e wB ⟨vb, rfl, OB, BB⟩; obtain ⟨aB, cB, hvb, SB⟩ := own_slice OB HML.out; subst hvb; have BRB := Below.then (Below.then BR9 BA) BB; have cLB := cell_grow cL0 BRB)
        | (go_at_call 25; refine (hRProj _ (SLR.below BRB) (HNum.out.below BRB)).mono ?_; rintro e wC ⟨vw, rfl, OC, BC⟩; obtain ⟨aW, cW, hvw, SW⟩ := own_slice OC HML.out; subst hvw; have SAC := SA.below (Below.then BB BC); have SBC := SB.below BC)
        | (go_at_call 11; refine (hnum _).mono ?_; rintro e w' ⟨rfl, hw'⟩; replace hw' := hw'.symm; subst hw')
        | (clear te; go_at_call 18; refine (hSame _ aA aW cA cW SAC SW).mono ?_; rintro e wD ⟨rfl, BD⟩; have SBD := SBC.below BD; have SWD := SW.below BD)
        | (clear tf; go_at_call 18; refine (hSame _ aB aW cB cW SBD SWD).mono ?_; rintro e wE ⟨rfl, BE⟩; have B9E := Below.then (Below.then (Below.then (Below.then BA BB) BC) BD) BE; have SKE := SK.below B9E; have cKn : wE.cell? ⟨gk, n, none⟩ = some (.int .i64 (-7)) := (by obtain ⟨b', o', e', _, hc'⟩ := SKE n (.int .i64 (-7)) (by rw [List.getElem?_append_right (by omega)]; simp [hkl2]); cases e'; rwa [Nat.zero_add] at hc')))
      have hB69z : b6 ≤ w9.heap.size := Nat.le_trans hb6 B69.size
      have BRE := Below.then BR9 B9E
      have OAE := own_belowW OA (Below.then (Below.then (Below.then BB BC) BD) BE)
      have OBE := own_belowW OB (Below.then (Below.then BC BD) BE)
      have OCE := own_belowW OC (Below.then BD BE)
      have LE : Lnt wE g L := IsS.grown L9 B9E
      have cLE := cell_grow cL0 BRE
      have SLE := SLR.below BRE
      have NE : Hid (NumS wE ak ks) := HNum.out.below BRE
      have hzA : ∀ k, (Value.slice aA m cA).ownBlock = some k → w9.heap.size ≤ k ∧ k < wA.heap.size := fun k hk => OA.lt k hk
      have hzB : ∀ k, (Value.slice aB m cB).ownBlock = some k → wA.heap.size ≤ k := fun k hk => (OB.lt k hk).1
      have hzC : ∀ k, (Value.slice aW m cW).ownBlock = some k → wA.heap.size ≤ k := fun k hk => Nat.le_trans BB.size (OC.lt k hk).1
      have hz9E : w9.heap.size ≤ wE.heap.size := B9E.size
      have HSKE : Hid (Seg wE (some ⟨gk, 0, none⟩) kv) := SKE.pre
      have L5' := L5
      have cLR := cL0
      have SLR' := fun {W : World} (h : Below wr.heap.size wr W) => SLR.below h
      clear hProj hRProj L5 O6 R6 G7 O7 F8 I8 O8 G9 O9 O9' SK L9 N9 hup OA OB OC SA SB SW SAC SBC SBD SWD LA NA SKE cKn BA BB BC BD BE F6 B67 B68 B69 cLB BRB hck1 cL0 SLR hkn8 hkn9 hknm hknm1 HRow HNum
      go_loopw [15] (fun q wq => ∃ j : Nat, j ≤ n ∧ q = .int .i64 (j : Int) ∧ Below wE.heap.size wE wq) (fun q _ => n - (intOf q).toNat)
      case atStart => exact ⟨0, Nat.zero_le _, rfl, Below.refl _ _⟩
      case round =>
        rename World => wq
        obtain ⟨j, hj, rfl, BQ⟩ := hrel
        by_cases hjlt : j < n
        · obtain ⟨bk, ok, hak, _, cB⟩ := NumS.at (NE.out.below BQ) j (by rw [HKL.out]; exact hjlt)
          subst hak
          have cA : wq.cell? ⟨gk, j, none⟩ = some (.int .i64 (ks.getD j 0)) := by
            obtain ⟨b', o', e', _, hc'⟩ := (HSKE.out.below BQ) j (.int .i64 (ks.getD j 0)) (by rw [← HKV.out, List.getElem?_map, List.getElem?_eq_getElem (by rw [HKL.out]; exact hjlt)]; simp [HKL.out, hjlt])
            cases e'
            rwa [Nat.zero_add] at hc'
          have hjI : (j : Int) < (n : Int) := by omega
          have hjn : (j : Int) < (n : Int) + 1 := by omega
          have hjnN : j < n + 1 := by omega
          generalize ks.getD j 0 = z at *
          clear hSame hBack hSpoil
          go_wp2
          refine grow_allW (by kernel_rfl) (by kernel_rfl) ?_
          refine WG.put rfl (v := .slice (some ⟨gk, 0, none⟩) (n + 1) capk) (fun w => by first | rfl | (go_simp; done) | (simp [go_sem]; done)) ?_
          simp only [Act.put, List.setIfInBounds_toArray, List.set_cons_succ, List.set_cons_zero]
          refine WG.put rfl (v := .int .i64 (j : Int)) (fun w => by first | rfl | (go_simp; done) | (simp [go_sem]; done)) ?_
          simp only [Act.put, List.setIfInBounds_toArray, List.set_cons_succ, List.set_cons_zero]
          refine WG.put rfl (v := .pointer (some ⟨gk, j, none⟩)) (fun w => by first | rfl | (go_simp; done) | (simp [go_sem, hjn]; done)) ?_
          simp only [Act.put, List.setIfInBounds_toArray, List.set_cons_succ, List.set_cons_zero]
          refine WG.cell rfl 3 _ rfl rfl cA ld3 ?_
          simp only [Act.put, List.setIfInBounds_toArray, List.set_cons_succ, List.set_cons_zero]
          refine WG.put rfl (v := .slice (some ⟨bk, ok, none⟩) n ck) (fun w => by first | rfl | (go_simp; done) | (simp [go_sem]; done)) ?_
          simp only [Act.put, List.setIfInBounds_toArray, List.set_cons_succ, List.set_cons_zero]
          refine WG.put rfl (v := .int .i64 (j : Int)) (fun w => by first | rfl | (go_simp; done) | (simp [go_sem]; done)) ?_
          simp only [Act.put, List.setIfInBounds_toArray, List.set_cons_succ, List.set_cons_zero]
          refine WG.put rfl (v := .pointer (some ⟨bk, ok + j, none⟩)) (fun w => by first | rfl | (go_simp; done) | (simp [go_sem, hjI]; done)) ?_
          simp only [Act.put, List.setIfInBounds_toArray, List.set_cons_succ, List.set_cons_zero]
          refine WG.cell rfl 3 _ rfl rfl cB ld3 ?_
          simp only [Act.put, List.setIfInBounds_toArray, List.set_cons_succ, List.set_cons_zero]
          refine WG.put rfl (v := .bool false) (fun w => by first | rfl | (go_simp; done) | (simp [go_sem]; done)) ?_
          simp only [Act.put, List.setIfInBounds_toArray, List.set_cons_succ, List.set_cons_zero]
          refine WG.nil ?_
          intro w6' B6'
          clear cA cB
          go_wp2
          go_roundw
          case rel => exact ⟨j + 1, by omega, by go_num, Below.then BQ B6'⟩
          case measure => simp [intOf]; omega
        · have OAQ := own_belowW OAE BQ
          have hsp := hSpoil wq _ _ OAQ (by have := BQ.size; omega)
          have hjF : ¬ ((j : Int) < (n : Int)) := by omega
          clear hSpoil hjlt
          go_wp2_with (first
            | (go_at_call 20; refine hsp.mono ?_; rintro e wS ⟨rfl, GS⟩; refine Hid.out ?_))
          refine Lib.hid ?_
          have B9S : Below w9.heap.size wE wS := below_grown (BQ.mono hz9E) GS (by have := BQ.size; omega) (fun k hk => (hzA k hk).1)
          have OBS := own_grown (own_belowW OBE BQ) GS (fun k hk e => by have h1 := hzB k hk; have h2 := (hzA k e).2; omega)
          have OCS := own_grown (own_belowW OCE BQ) GS (fun k hk e => by have h1 := hzC k hk; have h2 := (hzA k e).2; omega)
          obtain ⟨aB', cB', eB, SBS⟩ := own_slice OBS HML.out
          obtain ⟨aW', cW', eW, SWS⟩ := own_slice OCS HML.out
          cases eB
          cases eW
          have hR9 : wr.heap.size ≤ w9.heap.size := BR9.size
          have BRS : Below wr.heap.size wr wS := Below.trans BRE (B9S.mono hR9)
          have LS : Lnt wS g L := IsS.below (IsS.grown L5' B59) (Below.trans (B9E) B9S) (by have := IsS.lt (IsS.grown L5' B59); exact this)
          have cLS := cell_grow cLR BRS
          have SLS := SLR' BRS
          have hs1 := hSame wS aB aW cB cW SBS SWS
          have hs2 := fun (W : World) (h : Below wS.heap.size wS W) => hBack W g (IsS.grown LS h) (SLS.below h)
          clear hSame hBack hsp
          go_wp2_with (first
            | (go_at_call 18; refine hs1.mono ?_; rintro e wT ⟨rfl, BT⟩; have hs3 := hs2 wT BT; have cLT := cell_grow cLS BT; clear hs1 hs2)
            | (go_at_call 19; refine hs3.mono ?_; rintro e wU ⟨rfl, BU⟩; clear hs3))
          go_roundw
          case rel => exact ⟨i + 1, by omega, by go_num, Below.then BR (Below.then (Below.then BRS BT) BU)⟩
          case measure => simp [intOf]; omega
    · have e : i = 2 := by omega
      subst e
      clear hlt
      go_wp2
      go_ret
      exact ⟨rfl, Below.then HB03.out BR⟩
set_option maxRecDepth 100000 in
set_option maxHeartbeats 2000000 in
theorem projects_any (a ak : Option Addr) (cap ck : Nat) (l : List FS) (ks : List Int) (hn : l.length ≤ 4611686018427387903) (hkn : (ks.length + 1) * 8 ≤ 140737488355328) (hck : ak = none → ck = 0) (w : World) (hS : Seg w a (flatF l)) (hK : NumS w ak ks) :
    Calls Try.prog 5 #[.slice a l.length cap, .slice ak ks.length ck] w fun e w' => e = .returned (.bool true) ∧ Below w.heap.size w w' := by
  by_cases h : l.length ≤ 4000
  · exact projects_few a ak cap ck l ks h hkn hck w hS hK
  · have hF := fun W => few_any a none l.length 0 cap 0 hn (by omega) W
    rw [decide_eq_false (by omega)] at hF
    clear hS hK
    go_enter Try.func5, Try.ntmps5
    go_wp2_with (first
      | (go_at_call 7; refine (hF _).mono ?_; rintro e w' ⟨rfl, hw'⟩; replace hw' := hw'.symm; subst hw'; clear hF))
    go_ret
    exact ⟨rfl, Below.refl _ _⟩
end Go.Proofs.Ytbhgchhoeokjhaa
