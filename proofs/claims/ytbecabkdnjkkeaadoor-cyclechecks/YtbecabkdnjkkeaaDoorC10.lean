/- The law's helpers: lent, same of the same, back, spoil, num. -/
import Derived.Test.YtbecabkdnjkkeaaDoorC9
import Derived.Deep.AppendLies
namespace Go.Proofs.YtbecabkdnjkkeaaDoor
open Go Go.RowKit M
set_option linter.unusedSimpArgs false
set_option linter.unusedVariables false

def hldr : ByteArray := ⟨#[104, 111, 108, 100, 101, 114]⟩
/-- Names that were lent: a row with its holder's name behind the end. -/
def Lnt (w : World) (g : Nat) (L : List ByteArray) : Prop := g < w.heap.size ∧ Seg w (some ⟨g, 0, none⟩) (L.flatMap strE ++ [.string hldr])
theorem Lnt.below {w W : World} {g : Nat} {L : List ByteArray} (h : Lnt w g L) (hB : Below w.heap.size w W) : Lnt W g L := ⟨Nat.lt_of_lt_of_le h.1 hB.size, h.2.below hB⟩
theorem Lnt.seg {w : World} {g : Nat} {L : List ByteArray} (h : Lnt w g L) : Seg w (some ⟨g, 0, none⟩) (L.flatMap strE) := fun j v hv => h.2 j v (by rw [List.getElem?_append_left (List.getElem?_eq_some_iff.1 hv).1]; exact hv)
theorem Lnt.last {w : World} {g n : Nat} {L : List ByteArray} (h : Lnt w g L) (hn : L.length = n) : w.cell? ⟨g, n, none⟩ = some (.string hldr) := by
  obtain ⟨b, o, e, _, h2⟩ := h.2 n (.string hldr) (by rw [List.getElem?_append_right (by rw [str_len]; omega), str_len, show n - L.length * 1 = 0 by omega]; rfl)
  cases e
  rwa [Nat.zero_add] at h2
theorem Lnt.grown {w W : World} {g : Nat} {L : List ByteArray} {r : Option Nat} (h : Lnt w g L) (hg : w.grownBy W r) (hr : r ≠ some g) : Lnt W g L :=
  ⟨Nat.lt_of_lt_of_le h.1 hg.size, fun j v hv => by
    obtain ⟨b, o, e, h1, h2⟩ := h.2 j v hv
    cases e
    exact ⟨g, 0, rfl, Nat.lt_of_lt_of_le h1 hg.size, hg.cell h2 (fun e => hr e.symm)⟩⟩
theorem grown_refl (w : World) (r : Option Nat) : w.grownBy w r := ⟨rfl, rfl, rfl, Nat.le_refl _, fun _ _ _ => rfl⟩
theorem grown_comp {w w1 w2 : World} {r r1 : Option Nat} (h : w.grownBy w1 r) (h1 : w1.grownBy w2 r1) (hr : r1 = r ∨ ∃ g, r1 = some g ∧ w.heap.size ≤ g) : w.grownBy w2 r :=
  ⟨h1.os.trans h.os, h1.tape.trans h.tape, h1.output.trans h.output, Nat.le_trans h.size h1.size, fun k hk hne => (h1.block k (Nat.lt_of_lt_of_le hk h.size) (fun e => by
    rcases hr with hr | ⟨g, hg, hgs⟩
    · exact hne (e.trans hr)
    · rw [hg] at e; injection e with e; omega)).trans (h.block k hk hne)⟩
theorem grown_of_below {w w' : World} {r : Option Nat} (h : Below w.heap.size w w') : w.grownBy w' r := ⟨h.os, h.tape, h.output, h.size, fun k hk _ => h.block k hk⟩
theorem grown_of_upd {w w' : World} {g : Nat} (U : Upd w w' g) : w.grownBy w' (some g) := ⟨U.os, U.tape, U.output, Nat.le_of_eq U.size.symm, fun k _ hne => U.block k (fun e => hne (by rw [e]))⟩
theorem own_openC {W : World} {B t s n : Nat} {v : Value} {xs : List Value} (h : W.ownsRow B t s v n xs) (h0 : 0 < n) : ∃ g c, v = .slice (some ⟨g, 0, none⟩) n c ∧ n ≤ c ∧ B ≤ g := by
  rcases h.2 with ⟨h1, h2⟩ | ⟨g, cap, cur, hv, hg, hh, hc, _⟩
  · omega
  · exact ⟨g, cap, hv, hc, hg⟩
section
variable {w : World} {ops : Array Oper} {rest : List Oper} {op : Oper} {a : Act} {Q : Exit → Act → World → Prop}
/-- An append of names, as many as there may be. -/
theorem wpList_appB (hgd : op.guard = none) (s x : Operand) (ho : op.op = .call { callee := .builtin .append, args := #[s, x], argTypes := #[22, 22] })
    (B : Nat) (v : Value) (n : Nat) (xs : List Value) (hs : a.eval s = v) (hown : w.ownsRow B 9 1 v n xs) (u : Value) (m : Nat) (cs : List Value) (hx : a.eval x = u) (hu : RowV w u m cs) (hl : cs.length = m * 1) (h1 : ∀ x ∈ cs, x.oneCell' = true) (hn : n + m ≤ 8796093022208) (hB : B ≤ w.heap.size)
    (h : ∀ v' w', w'.ownsRow B 9 1 v' (n + m) (xs ++ cs) → w.grownBy w' v.ownBlock → wpList Tryd.prog ops Q rest (a.put op.dst v') w') : wpList Tryd.prog ops Q (op :: rest) a w := by
  refine wpList_plain hgd fun K hK => ?_
  obtain ⟨i0, hi, hz, hsz, hby⟩ := eStr.info
  obtain ⟨ad, c, rfl, hT, hnil⟩ := hu
  cases ad with
  | none =>
    have hm : m = 0 := by
      cases m with
      | zero => rfl
      | succ m =>
        have : 0 < cs.length := by rw [hl]; omega
        obtain ⟨_, _, e, _⟩ := hT 0 cs[0] (List.getElem?_eq_getElem this)
        cases e
    subst hm
    have hcs : cs = [] := List.length_eq_zero_iff.1 (by rw [hl])
    subst hcs
    rw [hnil rfl] at hx
    unfold Oper.wp
    rw [exec_app s x ho hs hx (run_append_owned_none (P := Tryd.prog) (w := w) B 22 op.type 9 i0 1 eStr.und hi v n xs hown)]
    exact hK _ _ (h v w (by simpa using hown) ⟨rfl, rfl, rfl, Nat.le_refl _, fun _ _ _ => rfl⟩)
  | some y =>
    have hnews : ∀ j z, cs[j]? = some z → w.cell? (y.add j) = some z := fun j z hj => by
      obtain ⟨b, o, e, _, hc⟩ := hT j z hj
      cases e
      rw [Addr.add_mid]
      exact hc
    obtain ⟨v', w', hr, ho', hg, _⟩ := run_append_own (P := Tryd.prog) w B 22 op.type 9 i0 (.string ⟨#[]⟩) 1 16 eStr.und hi hz hsz hby rfl (by decide) v n xs hown y m c cs hl hnews h1 (by unfold maxLen; omega) (by omega) hB
    unfold Oper.wp
    rw [exec_app s x ho hs hx hr]
    exact hK _ _ (h v' w' ho' hg)
end
set_option maxRecDepth 100000 in
set_option maxHeartbeats 4000000 in
theorem lent_any (L : List ByteArray) (n c : Nat) (a : Option Addr) (hl : L.length = n) (hn : n ≤ 8796093021952) (hz : a = none → c = 0) (w : World) (hS : Seg w a (L.flatMap strE)) :
    Calls Tryd.prog 4 #[.slice a n c] w fun e w' => ∃ g c', e = .returned (.slice (some ⟨g, 0, none⟩) n c') ∧ n + 1 ≤ c' ∧ w.heap.size ≤ g ∧ Lnt w' g L ∧ Below w.heap.size w w' := by
  have HL : Hid (L.length = n) := hl
  have HS : Hid (Seg w a (L.flatMap strE)) := hS
  have HZ : Hid (a = none → c = 0) := hz
  have hnI : (n : Int) ≤ 8796093021952 := by omega
  clear hl hS hz
  have t1 : True := trivial
  have t2 : True := trivial
  have t3 : True := trivial
  have t4 : True := trivial
  have t5 : True := trivial
  go_enter Tryd.func4, Tryd.ntmps4
  go_wp2_with (first
    | (clear t1; refine wpList_build0E eStr rfl rfl ?_; intro W1 b1 F1 O1; have B1 := F_b F1)
    | (clear t2; at_builtin; refine wpList_appB rfl _ _ rfl w.heap.size _ 0 [] rfl O1 (.slice a n c) n (L.flatMap strE) rfl ⟨a, c, rfl, HS.out.below B1, HZ.out⟩ (by rw [str_len, HL.out]) (str_one L) (by omega) B1.size ?_; intro v2 W2 O2 G2; have B2 := grown_below B1 B1.size O1 G2; rw [Nat.zero_add, List.nil_append] at O2; obtain ⟨a2, c2, rfl⟩ := own_form O2; clear O1 G2)
    | (clear t3; refine wpList_build1E eStr rfl _ rfl (.string hldr) rfl rfl ?_; intro W3 b3 F3 I3; have B3 := Below.then B2 (F_b F3); have O3 := own_below O2 (F_b F3); clear O2)
    | (clear t4; at_builtin; refine wpList_appB rfl _ _ rfl w.heap.size _ n _ rfl O3 _ 1 [.string hldr] rfl (row_isS I3) rfl (str_one1 _) (by omega) B3.size ?_; intro v4 W4 O4 G4; have B4 := grown_below B3 B3.size O3 G4; obtain ⟨g, c4, rfl, hc4, hg4⟩ := own_openC O4 (by omega); have hgl := (own_lt O4 (k := g) rfl).2; have S4 := own_seg O4; have hcI : (n : Int) ≤ c4 := (by omega); have hcN : n ≤ c4 := (by omega)))
  go_ret
  exact ⟨g, c4, rfl, by omega, hg4, ⟨hgl, S4⟩, B4⟩
set_option maxRecDepth 100000 in
set_option maxHeartbeats 4000000 in
theorem same_any (L : List ByteArray) (n c1 c2 : Nat) (a1 a2 : Option Addr) (hl : L.length = n) (hn : n ≤ 8796093021952) (w : World) (h1 : Seg w a1 (L.flatMap strE)) (h2 : Seg w a2 (L.flatMap strE)) :
    Calls Tryd.prog 10 #[.slice a1 n c1, .slice a2 n c2] w fun e w' => e = .returned (.bool true) ∧ Below w.heap.size w w' := by
  have H1 : Hid (Seg w a1 (L.flatMap strE)) := h1
  have H2 : Hid (Seg w a2 (L.flatMap strE)) := h2
  have HL : Hid (L.length = n) := hl
  have hnI : (n : Int) ≤ 8796093021952 := by omega
  have hnn : ((n : Int) != (n : Int)) = false := by simp
  clear h1 h2 hl
  go_enter Tryd.func10, Tryd.ntmps10
  go_wp2
  go_loopw [5] (fun i wr => ∃ k : Nat, k ≤ n ∧ i = .int .i64 (k : Int) ∧ Hid (Below w.heap.size w wr)) (fun i _ => n - (intOf i).toNat)
  case atStart => exact ⟨0, Nat.zero_le _, rfl, Below.refl _ _⟩
  case round =>
    obtain ⟨k, hk, rfl, HB⟩ := hrel
    by_cases hlt : k < n
    · have hki : (k : Int) < n := by omega
      obtain ⟨x, hx⟩ : ∃ e, L[k]? = some e := ⟨_, List.getElem?_eq_getElem (by rw [HL.out]; exact hlt)⟩
      obtain ⟨b1, o1, rfl, hb1, ca⟩ := seg_cell (H1.out.below HB.out) (str_at hx)
      obtain ⟨b2, o2, rfl, hb2, cb⟩ := seg_cell (H2.out.below HB.out) (str_at hx)
      have hd : (x.toList != x.toList) = false := by simp
      clear hx
      go_wp2
      refine grow_allW (by kernel_rfl) (by kernel_rfl) ?_
      refine WG.put rfl (v := .slice (some ⟨b1, o1, none⟩) n c1) (fun w => by first | rfl | (go_simp; done) | (simp [go_sem]; done) | (simp [execOp, go_sem]; done)) ?_
      simp only [Act.put, List.setIfInBounds_toArray, List.set_cons_succ, List.set_cons_zero]
      refine WG.put rfl (v := .int .i64 (k : Int)) (fun w => by first | rfl | (go_simp; done) | (simp [go_sem]; done) | (simp [execOp, go_sem]; done)) ?_
      simp only [Act.put, List.setIfInBounds_toArray, List.set_cons_succ, List.set_cons_zero]
      refine WG.put rfl (v := .pointer (some ⟨b1, o1 + k, none⟩)) (fun w => by first | rfl | (go_simp; done) | (simp [go_sem, hki, hlt]; done) | (simp [execOp, go_sem, hki, hlt]; done)) ?_
      simp only [Act.put, List.setIfInBounds_toArray, List.set_cons_succ, List.set_cons_zero]
      refine WG.cell rfl 9 _ rfl rfl ca (fun w h => by simp [go_sem, h]) ?_
      simp only [Act.put, List.setIfInBounds_toArray, List.set_cons_succ, List.set_cons_zero]
      refine WG.put rfl (v := .slice (some ⟨b2, o2, none⟩) n c2) (fun w => by first | rfl | (go_simp; done) | (simp [go_sem]; done) | (simp [execOp, go_sem]; done)) ?_
      simp only [Act.put, List.setIfInBounds_toArray, List.set_cons_succ, List.set_cons_zero]
      refine WG.put rfl (v := .int .i64 (k : Int)) (fun w => by first | rfl | (go_simp; done) | (simp [go_sem]; done) | (simp [execOp, go_sem]; done)) ?_
      simp only [Act.put, List.setIfInBounds_toArray, List.set_cons_succ, List.set_cons_zero]
      refine WG.put rfl (v := .pointer (some ⟨b2, o2 + k, none⟩)) (fun w => by first | rfl | (go_simp; done) | (simp [go_sem, hki, hlt]; done) | (simp [execOp, go_sem, hki, hlt]; done)) ?_
      simp only [Act.put, List.setIfInBounds_toArray, List.set_cons_succ, List.set_cons_zero]
      refine WG.cell rfl 9 _ rfl rfl cb (fun w h => by simp [go_sem, h]) ?_
      simp only [Act.put, List.setIfInBounds_toArray, List.set_cons_succ, List.set_cons_zero]
      refine WG.put rfl (v := .bool false) (fun w => by first | rfl | (go_simp; done) | (simp [go_sem, hd]; done) | (simp [execOp, go_sem, hd]; done)) ?_
      simp only [Act.put, List.setIfInBounds_toArray, List.set_cons_succ, List.set_cons_zero]
      refine WG.nil ?_
      intro w5 B5
      go_wp2
      go_roundw
      case rel => exact ⟨k + 1, by omega, by go_num, Below.then HB.out B5⟩
      case measure => simp [intOf]; omega
    · have e : k = n := by omega
      subst e
      go_wp2
      go_ret
      exact ⟨rfl, HB.out⟩
set_option maxRecDepth 100000 in
theorem num_any (z : Int) (w : World) : Calls Tryd.prog 9 #[.int .i64 z] w fun e w' => e = .returned (.int .i64 z) ∧ w' = w := by
  go_enter Tryd.func9, Tryd.ntmps9
  go_wp2
  go_ret
  exact ⟨rfl, rfl⟩
set_option maxRecDepth 100000 in
set_option maxHeartbeats 4000000 in
theorem back_any (L : List ByteArray) (n g c1 c2 : Nat) (a2 : Option Addr) (hl : L.length = n) (hn : n ≤ 8796093021952) (hc : n + 1 ≤ c1) (w : World) (h1 : Lnt w g L) (h2 : Seg w a2 (L.flatMap strE)) :
    Calls Tryd.prog 11 #[.slice (some ⟨g, 0, none⟩) n c1, .slice a2 n c2] w fun e w' => e = .returned (.bool true) ∧ Below w.heap.size w w' := by
  have hS := same_any L n c1 c2 (some ⟨g, 0, none⟩) a2 hl hn w h1.seg h2
  have HH := fun W (h : Below w.heap.size w W) => (h1.below h).last hl
  have H1 : Hid (∀ W, Below w.heap.size w W → W.cell? ⟨g, n, none⟩ = some (.string hldr)) := HH
  have hnI : (n : Int) ≤ 8796093021952 := by omega
  have hcI : (n : Int) + 1 ≤ c1 := by omega
  have hcN : n + 1 ≤ c1 := hc
  have hn1 : (n : Int) < ((n + 1 : Nat) : Int) := by omega
  have hn2 : n < n + 1 := by omega
  have hgI : (0 : Int) ≤ (n : Int) + 1 := by omega
  have hd : (hldr.toList == [104, 111, 108, 100, 101, 114]) = true := by decide +kernel
  clear HH h1 h2 hl
  have t1 : True := trivial
  go_enter Tryd.func11, Tryd.ntmps11
  go_wp2_with (first
    | (clear t1; go_at_call 10; refine hS.mono ?_; rintro e w1 ⟨rfl, B1⟩; have hcl := H1.out _ B1))
  go_ret
  exact ⟨rfl, B1⟩
theorem own_openI {W : World} {B t n : Nat} {v : Value} {xs : List Value} (h : W.ownsRow B t 1 v n xs) (h0 : 0 < n) : ∃ g c cs, v = .slice (some ⟨g, 0, none⟩) n c ∧ B ≤ g ∧ IsS W g t cs ∧ n ≤ c ∧ c ≤ maxLen ∧ cs.length = c := by
  rcases h.2 with ⟨h1, h2⟩ | ⟨g, cap, cur, hv, hg, hh, hc, hm, hs, ht⟩
  · omega
  · exact ⟨g, cap, cur.toList, hv, hg, by unfold IsS; rw [hh], hc, hm, by simpa using hs⟩
set_option maxRecDepth 100000 in
set_option maxHeartbeats 4000000 in
theorem spoil_any {w : World} {B n : Nat} {v : Value} {xs : List Value} (hown : w.ownsRow B 9 1 v n xs) (hB : B ≤ w.heap.size) (hn : n ≤ 1048576) :
    Calls Tryd.prog 12 #[v] w fun e w' => e = .returned (.tuple #[]) ∧ w.grownBy w' v.ownBlock := by
  obtain ⟨a, c, hv⟩ := own_form hown
  subst hv
  have hnI : (n : Int) ≤ 1048576 := by omega
  have HO : Hid (w.ownsRow B 9 1 (.slice a n c) n xs) := hown
  clear hown
  go_enter Tryd.func12, Tryd.ntmps12
  go_wp2
  go_loopw [2] (fun i wr => ∃ (k : Nat) (ys : List Value), k ≤ n ∧ i = .int .i64 (k : Int) ∧ Hid (wr.ownsRow B 9 1 (.slice a n c) n ys) ∧ w.grownBy wr (Value.slice a n c).ownBlock) (fun i _ => n - (intOf i).toNat)
  case atStart => exact ⟨0, xs, Nat.zero_le _, rfl, HO, grown_refl _ _⟩
  case round =>
    obtain ⟨k, ys, hk, rfl, HOR, GR⟩ := hrel
    by_cases hlt : k < n
    · obtain ⟨g, cap, cs, hv, hg, I, hc, hm, hs⟩ := own_openI HOR.out (by omega)
      cases hv
      have hkb : k < cs.length := by omega
      have hiX : (k : Int) < (n : Int) := by omega
      clear HO HOR
      go_wp2_with (first
        | (refine wpList_store1 rfl 9 _ _ rfl rfl (.string ⟨#[115, 112, 111, 105, 108, 116]⟩) rfl I hkb info9 rfl ?_; intro w3 U3 I3))
      have O3 := own_cls (n := n) hg I3 rfl hc hm (by rw [List.length_set]; exact hs)
      go_roundw
      case rel => exact ⟨k + 1, _, by omega, by go_num, O3, grown_comp GR (grown_of_upd U3) (.inl rfl)⟩
      case measure => simp [intOf]; omega
    · have e : k = n := by omega
      subst e
      clear HO hlt
      go_wp2
      have hz1 := GR.size
      go_loopw [0, 3] (fun u j wr2 => ∃ (q : Nat) (zs : List Value), q ≤ 20 ∧ j = .int .i64 (q : Int) ∧ Hid (wr2.ownsRow B 9 1 u (k + q) zs) ∧ w.grownBy wr2 (Value.slice a k c).ownBlock ∧ Hid (u.ownBlock = (Value.slice a k c).ownBlock ∨ ∃ g, u.ownBlock = some g ∧ w.heap.size ≤ g)) (fun _ j _ => 20 - (intOf j).toNat)
      case atStart => exact ⟨0, ys, Nat.zero_le _, rfl, HOR, GR, .inl rfl⟩
      case round =>
        obtain ⟨q, zs, hq, rfl, HO2, G2, HW⟩ := hrel
        by_cases hlt2 : q < 20
        · obtain ⟨a3, c3, hv3⟩ := own_form HO2.out
          subst hv3
          have hz2 := G2.size
          obtain ⟨i0, hi0, hz0, hs0, hy0⟩ := eStr.info
          clear HOR
          have t1 : True := trivial
          go_wp2_with (first
            | (clear t1; refine wpList_build1E eStr rfl _ rfl (.string ⟨#[103, 114, 111, 119, 110]⟩) rfl rfl ?_; intro w6 b6 F6 I6; have O6 := own_below HO2.out (F_b F6); have hz6 := (F_b F6).size)
            | (at_builtin; refine wpList_append_lies _ rfl _ _ _ rfl B 9 i0 (.string ⟨#[]⟩) 1 16 eStr.und hi0 hz0 hs0 hy0 rfl (by decide) _ (k + q) _ rfl O6 _ 1 1 [.string ⟨#[103, 114, 111, 119, 110]⟩] rfl rfl (fun j u h => by rw [Addr.add_mid, Nat.zero_add]; exact (I6.cell j).trans h) (str_one1 _) (by decide) (by unfold maxLen; omega) (by omega) (by omega) _ rfl ?_; intro g7 c7 w7 O7 G7 W7 L7))
          have G8 : w.grownBy w7 (Value.slice a k c).ownBlock := grown_comp (grown_comp G2 (grown_of_below (r := (Value.slice a k c).ownBlock) (F_b F6)) (.inl rfl)) G7 HW.out
          have W8 : (Value.slice (some ⟨g7, 0, none⟩) (k + q + 1) c7).ownBlock = (Value.slice a k c).ownBlock ∨ ∃ g, (Value.slice (some ⟨g7, 0, none⟩) (k + q + 1) c7).ownBlock = some g ∧ w.heap.size ≤ g := by
            rcases W7 with h | h
            · show some g7 = _ ∨ ∃ g, some g7 = some g ∧ _
              rw [← h]; exact HW.out
            · exact .inr ⟨g7, rfl, by omega⟩
          go_roundw
          case rel => exact ⟨q + 1, _, by omega, by go_num, O7, G8, W8⟩
          case measure => simp [intOf]; omega
        · obtain ⟨a3, c3, hv3⟩ := own_form HO2.out
          subst hv3
          clear HOR
          have e : q = 20 := by omega
          subst e
          go_wp2
          go_end0
          exact ⟨rfl, G2⟩
end Go.Proofs.YtbecabkdnjkkeaaDoor
