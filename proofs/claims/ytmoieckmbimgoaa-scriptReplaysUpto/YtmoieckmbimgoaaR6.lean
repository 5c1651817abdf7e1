/- Straight, of the program. -/
import Derived.Test.YtmoieckmbimgoaaR5
import Derived.Test.YtmoieckmbimgoaaMP
import Derived.StringKeys
import Derived.Carry
namespace Go.Proofs.Ytmoieckmbimgoaa
open Go.RowKit M
set_option linter.unusedSimpArgs false
set_option linter.unusedVariables false

open Go.Maps Go.ChangeMaps
theorem plS_size {f : ByteArray → PK → ByteArray × Bool} (hf : ∀ s k, (f s k).1.size ≤ 1) : ∀ (l : List PK) (s : ByteArray), s.size ≤ 1 → ∀ x ∈ plS f s l, x.size ≤ 1
  | [], s, h => by intro x hx; simp [plS] at hx
  | k :: l, s, h => by
    have hn : (nxt f s k).size ≤ 1 := by unfold nxt; split; exact hf s k; exact h
    have ih := plS_size hf l (nxt f s k) hn
    intro x hx
    unfold plS at hx
    split at hx
    · rcases List.mem_cons.1 hx with rfl | hx
      · exact hn
      · exact ih x hx
    · exact ih x hx
def litS (x : ByteArray) : Lit := .string x.data.toList
theorem litS_inj {x y : ByteArray} (h : litS x = litS y) : x = y := by
  unfold litS at h
  injection h with h
  cases x; cases y
  simp at h
  rw [h]
theorem key_str {x : ByteArray} (h : x.size ≤ 1) : keyOf Try.prog 9 (.string x) = some (litS x) := Go.WideMaps.keyOf_string_mk Try.underlying9 (Nat.le_trans h (by decide))
/-- The map holds of each text its last place among the first so many. -/
def MapS (SS : List ByteArray) (i : Nat) (ff : Lit → Option Value) : Prop :=
  ∀ x : ByteArray, (ff (litS x) = none ∧ ∀ j, j < i → SS[j]? ≠ some x) ∨ ∃ q : Nat, ff (litS x) = some (.int .i64 (q : Int)) ∧ q < i ∧ SS[q]? = some x ∧ ∀ j, q < j → j < i → SS[j]? ≠ some x
theorem MapS.zero (SS : List ByteArray) : MapS SS 0 (fun _ => none) := fun x => .inl ⟨rfl, fun j hj => by omega⟩
theorem MapS.next {SS : List ByteArray} {i : Nat} {ff : Lit → Option Value} {s : ByteArray} (h : MapS SS i ff) (hs : SS[i]? = some s) : MapS SS (i + 1) (putF ff (litS s) (.int .i64 (i : Int))) := by
  intro x
  unfold putF
  by_cases hx : x = s
  · subst hx
    exact .inr ⟨i, by rw [if_pos rfl], by omega, hs, fun j h1 h2 => by omega⟩
  · have hne : litS x ≠ litS s := fun e => hx (litS_inj e)
    have hsx : ∀ j, j = i → SS[j]? ≠ some x := fun j hj e => by subst hj; rw [hs] at e; exact hx (Option.some.inj e).symm
    rw [if_neg hne]
    rcases h x with ⟨h1, h2⟩ | ⟨q, h1, h2, h3, h4⟩
    · refine .inl ⟨h1, fun j hj => ?_⟩
      by_cases hji : j = i
      · exact hsx j hji
      · exact h2 j (by omega)
    · refine .inr ⟨q, h1, by omega, h3, fun j hj1 hj2 => ?_⟩
      by_cases hji : j = i
      · exact hsx j hji
      · exact h4 j hj1 (by omega)
theorem MapS.last {SS : List ByteArray} {ff : Lit → Option Value} {p : Nat} {x : ByteArray} (h : MapS SS SS.length ff) (hp : SS[p]? = some x) : ∃ q : Nat, ff (litS x) = some (.int .i64 (q : Int)) ∧ LastAt SS p q := by
  have hpl := (List.getElem?_eq_some_iff.1 hp).1
  rcases h x with ⟨_, h2⟩ | ⟨q, h1, h2, h3, h4⟩
  · exact absurd hp (h2 p hpl)
  · refine ⟨q, h1, ?_, h2, by rw [h3, hp], fun i hi => ?_⟩
    · by_cases hq : p ≤ q
      · exact hq
      · exact absurd hp (h4 p (by omega) hpl)
    · by_cases hil : i < SS.length
      · left; rw [hp]; exact h4 i hi hil
      · right; omega
theorem below_turn {B b : Nat} {w0 w w' : World} (h : Below B w0 w) (hB : B ≤ w.heap.size) (ht : w.mapTurned w' b) (hb : B ≤ b) : Below B w0 w' := by
  have hg := ht.grown
  exact ⟨hg.os.trans h.os, hg.tape.trans h.tape, hg.output.trans h.output, Nat.le_trans h.size hg.size, fun k hk => (hg.block k (Nat.lt_of_lt_of_le hk hB) (fun e => by simp at e; omega)).trans (h.block k hk)⟩
theorem wpList_mkMap {w : World} {ops : Array Oper} {rest : List Oper} {op : Oper} {a : Act} {Q : Exit → Act → World → Prop} (hgd : op.guard = none) (ho : op.op = .makeMap 62 none)
    (h : ∀ W b, Fresh w W b → MapV Try.prog 9 W b 0 (fun _ => none) 0 → wpList Try.prog ops Q rest (a.put op.dst (.map (some b))) W) : wpList Try.prog ops Q (op :: rest) a w := by
  refine wpList_plain hgd fun K hK => ?_
  unfold Oper.wp execOp
  simp only [ho]
  have hr := run_makeMap (P := Try.prog) 62 w
  first
    | (simp only [Sem.run_bind, Option.map_none, hr, Result.andThen_ok, Sem.run_pure]; exact hK _ _ (h _ _ (Fresh.alloc w _) (mapV_made w Try.prog 9)))
    | (simp [hr]; exact hK _ _ (h _ _ (Fresh.alloc w _) (mapV_made w Try.prog 9)))
theorem zero3 (w : World) : (zeroValue 3).run Try.prog w = .ok (.int .i64 0) w := by
  have h : Try.t3.zero = some (.int .i64 0) := by kernel_rfl
  simp [go_sem, zeroValue, h]
/-- What Straight answers. -/
def StA (w : World) (SS : List ByteArray) (P : List PK) (e : Ending) (w' : World) : Prop := ∃ R v, StrR SS P 0 R ∧ e = .returned v ∧ w'.ownsRow w.heap.size 35 3 v R.length (R.flatMap pkL) ∧ Below w.heap.size w w'
set_option maxRecDepth 100000 in
set_option maxHeartbeats 8000000 in
theorem sstraight_any (g : GR) (hf : g.Few) (bn bg : Nat) (S : ByteArray) (hS1 : S.size ≤ 1) (ks : List PK) (n : Nat) (hn0 : ks.length = n) (hn : n ≤ 2000) (al : Option Addr) (cl : Nat) (w : World) (hM : MG w g bn bg) (hL : Seg w al (ks.flatMap pkL)) :
    Calls Try.prog 12 #[.agg (mcL S g bn bg).toArray, .slice al n cl] w fun e w' => StA w (S :: plS (stepM g) S ks) (plP (stepM g) S ks) e w' := by
  have hR := fun W (h : MG W g bn bg) (hl : Seg W al (ks.flatMap pkL)) => played_any g hf bn bg S hS1 ks n hn0 hn al cl W h hl
  have hml : (mcL S g bn bg).length = 4 := rfl
  generalize mcL S g bn bg = mc at hR hml ⊢
  have HMl : Hid (mc.length = 4) := hml
  have HM : Hid (MG w g bn bg) := hM
  have HL : Hid (Seg w al (ks.flatMap pkL)) := hL
  have hsz : ∀ x ∈ S :: plS (stepM g) S ks, x.size ≤ 1 := by
    intro x hx
    rcases List.mem_cons.1 hx with rfl | hx
    · exact hS1
    · exact plS_size (stepM_size g) ks S hS1 x hx
  have hMN : (plP (stepM g) S ks).length ≤ 2000 := Nat.le_trans (plP_len ks S) (by omega)
  have hSL : (S :: plS (stepM g) S ks).length = (plP (stepM g) S ks).length + 1 := by rw [List.length_cons, plS_len]
  have hS0 : (S :: plS (stepM g) S ks)[0]? = some S := rfl
  generalize hSSe : S :: plS (stepM g) S ks = SS at hR hsz hSL hS0 ⊢
  generalize plP (stepM g) S ks = PP at hR hMN hSL ⊢
  obtain ⟨M, hPM⟩ : ∃ M, PP.length = M := ⟨_, rfl⟩
  rw [hPM] at hMN hSL
  have HSZ : Hid (∀ x ∈ SS, x.size ≤ 1) := hsz
  have HSL : Hid (SS.length = M + 1) := hSL
  have HPM : Hid (PP.length = M) := hPM
  have HS0 : Hid (SS[0]? = some S) := hS0
  have HR : Hid (∀ W, MG W g bn bg → Seg W al (ks.flatMap pkL) → Calls Try.prog 28 #[.agg mc.toArray, .slice al n cl] W fun e w' => ∃ v1 v2, e = .returned (.tuple #[v1, v2]) ∧ w'.ownsRow W.heap.size 35 3 v1 M (PP.flatMap pkL) ∧ w'.ownsRow W.heap.size 9 1 v2 (M + 1) (SS.flatMap strE) ∧ Below W.heap.size W w') := by
    intro W h1 h2
    have := hR W h1 h2
    unfold PlA at this
    rw [hPM, hSL] at this
    exact this
  obtain ⟨A, hA⟩ : ∃ A, StA w SS PP = A := ⟨_, rfl⟩
  have HA : Hid (∀ R v w' m, m = R.length → StrR SS PP 0 R → w'.ownsRow w.heap.size 35 3 v m (R.flatMap pkL) → Below w.heap.size w w' → A (.returned v) w') := by rw [← hA]; exact fun R v w' m hm h1 h2 h3 => ⟨R, v, h1, rfl, by rw [← hm]; exact h2, h3⟩
  rw [hA]
  obtain ⟨N, hN⟩ : ∃ N, M + 1 = N := ⟨_, rfl⟩
  have HMN : Hid (M + 1 = N) := hN
  rw [hN] at HR HSL
  have hN2 : N ≤ 2001 := by omega
  have hMNi : (M : Int) + 1 = N := by omega
  have HMNi : Hid ((M : Int) + 1 = N) := hMNi
  clear hA hM hf hml hL hS1 hn0 hR hsz hSL hS0 hPM hSSe hN hMNi
  have t1 : True := trivial
  have t2 : True := trivial
  have t3 : True := trivial
  go_enter Try.func12, Try.ntmps12
  go_wp2_with (first
    | (clear t1; refine wpList_boxS rfl 32 _ rfl mc rfl ?_; intro W1 b1 F1 C1; have B1 := F_b F1; clear F1)
    | (clear t2; refine wpList_loadW rfl 32 _ rfl rfl C1 _ Try.underlying32 rfl (by rw [HMl.out]; exact infoMc) ?_)
    | (go_at_call 28; refine (HR.out _ (HM.out.below B1) (HL.out.below B1)).mono ?_; rintro e W2 ⟨v1, v2, rfl, O2, Q2, D2⟩; have B2 := Below.then B1 D2; obtain ⟨ap, cp, evp, sgp, _⟩ := own_row O2; subst evp; obtain ⟨ag, cg, evs, sgs, _⟩ := own_row Q2; subst evs; clear O2 Q2 D2 C1)
    | (clear t3; refine wpList_mkMap rfl rfl ?_; intro W3 bm F3 M3; have D3 := F_b F3; have hbm : W2.heap.size ≤ bm := Nat.le_of_eq F3.at'.symm; clear F3))
  have HB2 : Hid (Below w.heap.size w W2) := B2
  have HSP : Hid (Seg W2 ap (PP.flatMap pkL)) := sgp
  have HSS : Hid (Seg W2 ag (SS.flatMap strE)) := sgs
  have HM3 : Hid (MapV Try.prog 9 W3 bm 0 (fun _ => none) 0 ∧ Below W2.heap.size W2 W3) := ⟨M3, D3⟩
  clear B2 sgp sgs M3 D3
  go_loopw [21] (fun v21 wr => ∃ (i : Nat), i ≤ N ∧ v21 = .int .i64 (i : Int) ∧ Hid (∃ ff c, MapV Try.prog 9 wr bm i ff c ∧ MapS SS i ff) ∧ Hid (Below W2.heap.size W2 wr)) (fun v21 _ => N - (intOf v21).toNat)
  case atStart => exact ⟨0, Nat.zero_le _, rfl, ⟨_, _, HM3.out.1, MapS.zero SS⟩, HM3.out.2⟩
  case round =>
    obtain ⟨i, hi, rfl, HMM, HB⟩ := hrel
    by_cases hlt : i < N
    · have hki : (i : Int) < N := by omega
      obtain ⟨s, hs⟩ : ∃ q, SS[i]? = some q := ⟨_, List.getElem?_eq_getElem (by rw [HSL.out]; exact hlt)⟩
      have hsz := HSZ.out s (List.mem_of_getElem? hs)
      obtain ⟨ff, c, MV, MS⟩ := HMM.out
      have HMS : Hid (MapS SS (i + 1) (putF ff (litS s) (.int .i64 (i : Int)))) := MS.next hs
      obtain ⟨ba, oa, eaa, hba, ya0⟩ := HSS.out i _ (str_at hs)
      subst eaa
      have ya := cell_grow ya0 HB.out
      clear hs MS ya0
      have t4 : True := trivial
      go_wp2_with (first
        | (clear t4; refine wpList_updV rfl _ _ _ rfl MV (string_keyed Try.underlying9) Try.underlying62 (by unfold maxLen; omega) rfl (.string s) (.int .i64 (i : Int)) (litS s) rfl rfl (key_str hsz) ?_; intro W4 MV4 T4; have R4 := below_turn HB.out HB.out.size T4 hbm; clear T4))
      go_roundw
      case rel => exact ⟨i + 1, by omega, by go_num, ⟨_, _, MV4, HMS.out⟩, R4⟩
      case measure => simp [intOf]; omega
    · have e : i = N := by omega
      subst e
      have hki : ¬ (i : Int) < i := by omega
      obtain ⟨ff, c, MV, MS⟩ := HMM.out
      have HMS : Hid (MapS SS SS.length ff) := by rw [HSL.out]; exact MS
      have hS1 : S.size ≤ 1 := HSZ.out S (List.mem_of_getElem? HS0.out)
      obtain ⟨q0, hq0, la0⟩ := HMS.out.last HS0.out
      have HLA0 : Hid (LastAt SS 0 q0) := la0
      obtain ⟨ba, oa, eaa, hba, ya0⟩ := HSS.out 0 _ (str_at HS0.out)
      subst eaa
      have ya1 := cell_grow ya0 HB.out
      have ya : wr.cell? ⟨ba, oa, none⟩ = some (.string S) := by simpa using ya1
      have hv0 : (ff (litS S)).getD (.int .i64 0) = .int .i64 (q0 : Int) := by rw [hq0]; rfl
      have hi0 : (0 : Int) < i := by have := HMN.out; omega
      clear MS la0 ya0 ya1
      have t5 : True := trivial
      go_wp2_with (first
        | (clear t5; refine wpList_lookV rfl _ _ rfl MV (string_keyed Try.underlying9) Try.underlying62 (zero3 _) rfl (.string S) (litS S) rfl (key_str hS1) ?_; rw [hv0]))
      obtain ⟨WM, eWM⟩ : ∃ x, x = wr := ⟨_, rfl⟩
      subst eWM
      have HMV : Hid (MapV Try.prog 9 WM bm i ff c) := MV
      have HBM : Hid (Below W2.heap.size W2 WM) := HB
      clear MV hq0 hv0 ya HMM HB
      have hq0 : (q0 : Int) ≤ 2000 := by have := HLA0.out.lt; rw [HSL.out] at this; have := HMN.out; omega
      go_loopw [10, 11] (fun v10 v11 wr => ∃ (R : List PK) (p q m : Nat), v11 = .int .i64 (q : Int) ∧ (∃ a10 c10, v10 = .slice a10 m c10) ∧ m ≤ q ∧ Hid (m = R.length) ∧ Hid (LastAt SS p q) ∧ Hid (∀ X, StrR SS PP p X → StrR SS PP 0 (R ++ X)) ∧ Hid (wr.ownsRow WM.heap.size 35 3 v10 m (R.flatMap pkL)) ∧ Hid (Below WM.heap.size WM wr)) (fun _ v11 _ => M - (intOf v11).toNat)
      case atStart => exact ⟨[], 0, q0, 0, rfl, ⟨_, _, rfl⟩, Nat.zero_le _, rfl, HLA0, fun X h => h, own_nil _ _ _ _, Below.refl _ _⟩
      case round =>
        obtain ⟨R, p, q, m, rfl, ⟨a10, c10, rfl⟩, hmq, HMR, HLA, HST, HO, HB3⟩ := hrel
        have HBB : Hid (Below W2.heap.size W2 wr) := Below.then HBM.out HB3.out
        have hqi : q < i := by have := HLA.out.lt; rw [HSL.out] at this; exact this
        by_cases hlq : q < M
        · have hki2 : (q : Int) < M := by omega
          obtain ⟨k, hk⟩ : ∃ x, PP[q]? = some x := ⟨_, List.getElem?_eq_getElem (by rw [HPM.out]; exact hlq)⟩
          obtain ⟨s, hs⟩ : ∃ x, SS[q + 1]? = some x := ⟨_, List.getElem?_eq_getElem (by rw [HSL.out]; have := HMN.out; omega)⟩
          have hsz := HSZ.out s (List.mem_of_getElem? hs)
          obtain ⟨q2, hq2, la2⟩ := HMS.out.last hs
          have HLA2 : Hid (LastAt SS (q + 1) q2) := la2
          have HST2 : Hid (∀ X, StrR SS PP (q + 1) X → StrR SS PP 0 ((R ++ [k]) ++ X)) := fun X h => (by rw [List.append_assoc]; exact HST.out _ (.more HLA.out hk h))
          obtain ⟨bp, op', eap, hbp, rg0⟩ := pk_range HSP.out hk
          subst eap
          have rg := range_below rg0 hbp HBB.out
          obtain ⟨bs, os', eas, hbs, ys0⟩ := HSS.out (q + 1) _ (str_at hs)
          cases eas
          have HYS : Hid (W2.cell? ⟨ba, oa + (q + 1), none⟩ = some (.string s)) := ys0
          have hv2 : (ff (litS s)).getD (.int .i64 0) = .int .i64 (q2 : Int) := by rw [hq2]; rfl
          have hq3 : (q : Int) + 1 < i := by have := HMN.out; omega
          have hq2l : q < q2 := by have := HLA2.out.le; omega
          have hq2i : q2 < i := by have := HLA2.out.lt; rw [HSL.out] at this; exact this
          clear hk hs la2 hq2 rg0 ys0
          have t6 : True := trivial
          have t7 : True := trivial
          have t8 : True := trivial
          have t9 : True := trivial
          go_wp2_with (first
            | (clear t6; refine wpList_load_mid rfl 35 _ rfl bp (op' + q * 3) rfl (pkL k) _ rg Try.underlying35 rfl infoPk ?_)
            | (clear t7; refine wpList_build1P rfl _ rfl k rfl ?_; intro W9 b9 F9 C9; have R9 := Below.then HB3.out (F_b F9); have O9 := own_below HO.out (F_b F9); clear F9)
            | (clear t8; at_builtin; refine wpList_appM ePk rfl _ _ rfl WM.heap.size _ m _ rfl O9 _ 1 (pkL k) rfl (row_isS C9) rfl (pk_oneC _) (by omega) R9.size ?_; intro v10 W10 O10 G10; have R10 := grown_below R9 R9.size O9 G10; have ys := cell_grow HYS.out (Below.then HBM.out R10); have MV2 : MapV Try.prog 9 W10 bm i ff c := HMV.out.same (R10.block bm HMV.out.lt); clear G10 C9 O9)
            | (clear t9; refine wpList_lookV rfl _ _ rfl MV2 (string_keyed Try.underlying9) Try.underlying62 (zero3 _) rfl (.string s) (litS s) rfl (key_str hsz) ?_; rw [hv2]))
          have HO2 : Hid (W10.ownsRow WM.heap.size 35 3 v10 (m + 1) ((R ++ [k]).flatMap pkL)) := (by
            show World.ownsRow _ _ _ _ _ _ _
            rw [pk_snoc]; exact O10)
          have HM2 : Hid (m + 1 = (R ++ [k]).length) := (by show _ = _; rw [List.length_append, List.length_singleton, ← HMR.out])
          clear O10 ys MV2 hv2
          obtain ⟨x8, y8, ev8⟩ := own_form HO2.out
          subst ev8
          go_wp2_with fail
          go_roundw
          case rel => exact ⟨R ++ [k], q + 1, q2, m + 1, rfl, ⟨_, _, rfl⟩, by omega, HM2, HLA2, HST2, HO2, R10⟩
          case measure => simp [intOf]; omega
        · have hki2 : ¬ (q : Int) < M := by omega
          have HZ : Hid (StrR SS PP 0 R) := (by have := HST.out [] (.stop HLA.out (by rw [HPM.out]; omega)); rw [List.append_nil] at this; exact this)
          go_wp2_with fail
          exact HA.out R _ _ _ HMR.out HZ.out (own_raise HO.out (Nat.le_trans HB2.out.size HBM.out.size)) (Below.then HB2.out HBB.out)
end Go.Proofs.Ytmoieckmbimgoaa
