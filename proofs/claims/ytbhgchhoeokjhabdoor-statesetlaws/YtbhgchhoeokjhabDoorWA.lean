/- walk: both sets side by side, each member of either handed on once, in the order. -/
import Derived.Test.YtbhgchhoeokjhabDoorVI
import Derived.Test.YtbhgchhoeokjhabDoorQA
namespace Go.Proofs.YtbhgchhoeokjhabDoor
open Go Go.RowKit M
set_option linter.unusedSimpArgs false
set_option linter.unusedVariables false

def slN : Value → Nat
  | .slice _ n _ => n
  | _ => 0
/-- Where the rest of a list begins. -/
def tlA (b o c : Nat) : Addr := if c = 1 then ⟨b, o, none⟩ else ⟨b, o + 49, none⟩
theorem run_tail (W : World) (b o n c : Nat) (h : 1 ≤ n) (hc : n ≤ c) (hm : c ≤ maxLen) : (Instr.sliceAt 22 (.slice (some ⟨b, o, none⟩) n c) (some (.int .i64 1)) none none).run Tryd.prog W = .ok (.slice (some (tlA b o c)) (n - 1) (c - 1)) W := by
  unfold maxLen at hm
  have h2 : (1 : Int) ≤ (c : Int) := by omega
  have h3 : 1 ≤ c := by omega
  by_cases h4 : c = 1
  · simp [go_sem, Instr.sliceAt, h, h2, h3, h4, hc, tlA]; intro hh; omega
  · simp [go_sem, Instr.sliceAt, h, h2, h3, h4, hc, tlA]; intro hh; omega
/-- What a slice holds. -/
structure SlH (w : World) (a : Option Addr) (n c : Nat) (l : List FS) : Prop where
  len : l.length = n
  cap : n ≤ c
  max : c ≤ maxLen
  seg : Seg w a (flatF l)
theorem SlH.at0 {w W : World} {a : Option Addr} {n c : Nat} {x : FS} {l : List FS} (h : SlH w a n c (x :: l)) (hB : Below w.heap.size w W) : ∃ b o, a = some ⟨b, o, none⟩ ∧ b < W.heap.size ∧ W.rangeAt b o (encF x) := by
  obtain ⟨b, o, e, hb, hr⟩ := seg_at (h.seg.below hB) 0 (by simp)
  rw [Nat.zero_mul, Nat.add_zero] at hr
  exact ⟨b, o, e, hb, hr⟩
theorem SlH.tail {w : World} {b o n c : Nat} {x : FS} {l : List FS} (h : SlH w (some ⟨b, o, none⟩) n c (x :: l)) : SlH w (some (tlA b o c)) (n - 1) (c - 1) l := by
  have h0 := h.len; have h1 := h.cap; have h2 := h.max
  rw [List.length_cons] at h0
  refine ⟨by omega, by omega, by omega, fun j v hv => ?_⟩
  obtain ⟨b', o', e, hb, hc⟩ := h.seg (49 + j) v (by rw [flatF_cons, List.getElem?_append_right (by rw [encF_len]; omega), encF_len, show 49 + j - 49 = j by omega]; exact hv)
  cases e
  by_cases h4 : c = 1
  · have : l = [] := List.length_eq_zero_iff.1 (by omega)
    subst this; simp [flatF] at hv
  · refine ⟨b, o + 49, by unfold tlA; rw [if_neg h4], hb, ?_⟩
    rw [Nat.add_assoc]; exact hc
def itA (x : FS) : FS × Bool × Bool := (x, true, false)
def itB (x : FS) : FS × Bool × Bool := (x, false, true)
theorem split_at {β : Type} (f : FS → β) (d : List β) (xs : List FS) (e : List β) (k : Nat) (h : k < xs.length) : d ++ xs.map f ++ e = (d ++ (xs.take k).map f) ++ f (xs.getD k FS.zero) :: ((xs.drop (k + 1)).map f ++ e) := by
  have h1 : xs = xs.take k ++ xs.getD k FS.zero :: xs.drop (k + 1) := by rw [getD_at xs k h, ← List.drop_eq_getElem_cons h, List.take_append_drop]
  conv => lhs; rw [h1]
  simp
theorem split_to {β : Type} (f : FS → β) (d : List β) (xs : List FS) (k : Nat) (h : k < xs.length) : (d ++ (xs.take k).map f) ++ [f (xs.getD k FS.zero)] = d ++ (xs.take (k + 1)).map f := by
  rw [take_snocF xs k h]; simp
set_option maxRecDepth 100000 in
set_option maxHeartbeats 4000000 in
theorem walk_any {w0 : World} {bf bl : Nat} (P : List (FS × Bool × Bool) → World → Prop) (items : List (FS × Bool × Bool)) (xs ys : List FS) (hI : mrg xs ys = items) (a1 a2 : Option Addr) (n1 n2 c1 c2 : Nat) (hS1 : SlH w0 a1 n1 c1 xs) (hS2 : SlH w0 a2 n2 c2 ys) (w : World) (hw : Below w0.heap.size w0 w) (hP : P [] w)
    (hPB : ∀ d W W', P d W → Below W.heap.size W W' → P d W')
    (hV : ∀ d X p q r, d ++ (X, p, q) :: r = items → ∀ W, P d W → Below w0.heap.size w0 W → Calls Tryd.prog 43 #[.agg (encF X).toArray, .bool p, .bool q, .pointer (some ⟨bf, 0, none⟩), .pointer (some ⟨bl, 0, none⟩)] W fun e w' => e = .returned (.tuple #[]) ∧ P (d ++ [(X, p, q)]) w' ∧ Below w0.heap.size w0 w') :
    Calls Tryd.prog 42 #[.slice a1 n1 c1, .slice a2 n2 c2, .func (.func 43) #[] #[.pointer (some ⟨bf, 0, none⟩), .pointer (some ⟨bl, 0, none⟩)]] w fun e w' => e = .returned (.tuple #[]) ∧ P items w' ∧ Below w0.heap.size w0 w' := by
  have HS1 : Hid (SlH w0 a1 n1 c1 xs) := hS1
  have HS2 : Hid (SlH w0 a2 n2 c2 ys) := hS2
  have HI : Hid ([] ++ mrg xs ys = items) := hI
  have HP : Hid (P [] w) := hP
  have HW : Hid (Below w0.heap.size w0 w) := hw
  clear hS1 hS2 hI hP hw
  go_enter Tryd.func42, Tryd.ntmps42
  go_wp2
  go_loopw [0, 1] (fun v0 v1 wr => ∃ d xs ys a1 n1 c1 a2 n2 c2, v0 = .slice a1 n1 c1 ∧ v1 = .slice a2 n2 c2 ∧ Hid (SlH w0 a1 n1 c1 xs) ∧ Hid (SlH w0 a2 n2 c2 ys) ∧ Hid (d ++ mrg xs ys = items) ∧ Hid (P d wr) ∧ Hid (Below w0.heap.size w0 wr)) (fun v0 v1 _ => slN v0 + slN v1)
  case atStart => exact ⟨[], xs, ys, a1, n1, c1, a2, n2, c2, rfl, rfl, HS1, HS2, HI, HP, HW⟩
  case round =>
    clear HS1 HS2 HI HP HW
    obtain ⟨d, xs, ys, a1, n1, c1, a2, n2, c2, rfl, rfl, HS1, HS2, HI, HP, HW⟩ := hrel
    cases xs with
    | nil =>
      have hp1 : ¬ ((0 : Int) < (n1 : Int)) := by have := HS1.out.len; simp at this; omega
      have HJ : Hid (d ++ ([] : List FS).map itA ++ ys.map itB = items) := by have h := HI.out; rw [mrg_nil_left] at h; show _ = _; rw [List.map_nil, List.append_nil]; exact h
      clear HI
      obtain ⟨xs, hxs⟩ : ∃ l : List FS, l = [] := ⟨_, rfl⟩
      rw [← hxs] at HJ HS1
      clear hxs
      go_wp2
      have hb1 : (n1 : Int) ≤ 9223372036854775807 := by have h1 := HS1.out.cap; have h2 := HS1.out.max; unfold maxLen at h2; omega
      have hb2 : (n2 : Int) ≤ 9223372036854775807 := by have h1 := HS2.out.cap; have h2 := HS2.out.max; unfold maxLen at h2; omega
      go_loopw [57] (fun i wr => ∃ k : Nat, k ≤ n1 ∧ i = .int .i64 (k : Int) ∧ Hid (P (d ++ (xs.take k).map itA) wr) ∧ Hid (Below w0.heap.size w0 wr)) (fun i _ => n1 - (intOf i).toNat)
      case atStart => exact ⟨0, Nat.zero_le _, rfl, by show P _ _; rw [List.take_zero, List.map_nil, List.append_nil]; exact HP.out, HW⟩
      case round =>
        clear HP HW
        obtain ⟨k, hk, rfl, HP, HW⟩ := hrel
        by_cases hlt : k < n1
        · have hiX : (k : Int) < (n1 : Int) := by omega
          have hkl : k < xs.length := by rw [HS1.out.len]; exact hlt
          have HQ : Hid ((d ++ (xs.take k).map itA) ++ (xs.getD k FS.zero, true, false) :: ((xs.drop (k + 1)).map itA ++ ys.map itB) = items) := (split_at itA d xs (ys.map itB) k hkl).symm.trans HJ.out
          have HT : Hid ((d ++ (xs.take k).map itA) ++ [(xs.getD k FS.zero, true, false)] = d ++ (xs.take (k + 1)).map itA) := split_to itA d xs k hkl
          obtain ⟨b1, o1, ea, HB1, HX1⟩ := seg_elem (HS1.out.seg.below HW.out) k hkl
          subst ea
          generalize xs.getD k FS.zero = X at *
          have ta : True := trivial
          go_wp2_with (first
            | (refine wpList_loadE (x := X) rfl _ rfl rfl HX1 ?_)
            | (clear ta; refine wpList_allocS rfl _ rfl (encF FS.zero) zeroF ?_; intro w3 b4 F3 I3; have ts : True := trivial)
            | (clear ts; refine wpList_storeF rfl _ _ rfl rfl rfl I3 ?_; intro w4 U4 I4; have B4 : Below wr.heap.size wr w4 := U4.trans (fresh_b F3) (by rw [F3.at']; exact Nat.le_refl _))
            | (refine wpList_loadF rfl _ rfl rfl I4 ?_)
            | (go_at_call 43; refine (hV _ X true false _ HQ.out _ (hPB _ _ _ HP.out B4) (Below.then HW.out B4)).mono ?_; rintro e w6 ⟨rfl, P6, W6⟩; rw [HT.out] at P6; clear HX1 I3 I4 F3 U4))
          go_roundw
          case rel => exact ⟨k + 1, by omega, by go_num, P6, W6⟩
          case measure => simp [intOf]; omega
        · have ek : k = n1 := by omega
          subst ek
          have hlt' : ¬ ((k : Int) < (k : Int)) := by omega
          have HR : Hid (P (d ++ xs.map itA) wr) := by have h := HP.out; rw [List.take_of_length_le (by rw [HS1.out.len]; exact Nat.le_refl _)] at h; exact h
          clear HP
          obtain ⟨WR, eW⟩ : ∃ W, W = wr := ⟨_, rfl⟩
          subst eW
          go_wp2
          go_loopw [67] (fun i wr => ∃ j : Nat, j ≤ n2 ∧ i = .int .i64 (j : Int) ∧ Hid (P (d ++ xs.map itA ++ (ys.take j).map itB) wr) ∧ Hid (Below w0.heap.size w0 wr)) (fun i _ => n2 - (intOf i).toNat)
          case atStart => exact ⟨0, Nat.zero_le _, rfl, by show P _ _; rw [List.take_zero, List.map_nil, List.append_nil]; exact HR.out, HW⟩
          case round =>
            clear HR HW
            obtain ⟨j, hj, rfl, HP, HW⟩ := hrel
            by_cases hlj : j < n2
            · have hjX : (j : Int) < (n2 : Int) := by omega
              have hjl : j < ys.length := by rw [HS2.out.len]; exact hlj
              have HQ : Hid ((d ++ xs.map itA ++ (ys.take j).map itB) ++ (ys.getD j FS.zero, false, true) :: ((ys.drop (j + 1)).map itB ++ []) = items) := (split_at itB (d ++ xs.map itA) ys [] j hjl).symm.trans ((List.append_nil _).trans HJ.out)
              have HT : Hid ((d ++ xs.map itA ++ (ys.take j).map itB) ++ [(ys.getD j FS.zero, false, true)] = d ++ xs.map itA ++ (ys.take (j + 1)).map itB) := split_to itB (d ++ xs.map itA) ys j hjl
              obtain ⟨b1, o1, ea, HB1, HX1⟩ := seg_elem (HS2.out.seg.below HW.out) j hjl
              subst ea
              generalize ys.getD j FS.zero = X at *
              have ta : True := trivial
              go_wp2_with (first
                | (refine wpList_loadE (x := X) rfl _ rfl rfl HX1 ?_)
                | (clear ta; refine wpList_allocS rfl _ rfl (encF FS.zero) zeroF ?_; intro w3 b4 F3 I3; have ts : True := trivial)
                | (clear ts; refine wpList_storeF rfl _ _ rfl rfl rfl I3 ?_; intro w4 U4 I4; have B4 : Below wr.heap.size wr w4 := U4.trans (fresh_b F3) (by rw [F3.at']; exact Nat.le_refl _))
                | (refine wpList_loadF rfl _ rfl rfl I4 ?_)
                | (go_at_call 43; refine (hV _ X false true _ HQ.out _ (hPB _ _ _ HP.out B4) (Below.then HW.out B4)).mono ?_; rintro e w6 ⟨rfl, P6, W6⟩; rw [HT.out] at P6; clear HX1 I3 I4 F3 U4))
              go_roundw
              case rel => exact ⟨j + 1, by omega, by go_num, P6, W6⟩
              case measure => simp [intOf]; omega
            · have ej : j = n2 := by omega
              subst ej
              have hlj' : ¬ ((j : Int) < (j : Int)) := by omega
              have HE : Hid (P items wr) := by have h := HP.out; rw [List.take_of_length_le (by rw [HS2.out.len]; exact Nat.le_refl _), HJ.out] at h; exact h
              clear HP
              go_wp2
              go_end0
              exact ⟨rfl, HE.out, HW.out⟩
    | cons x xs =>
      have hp1 : (0 : Int) < (n1 : Int) := by have := HS1.out.len; rw [List.length_cons] at this; omega
      cases ys with
      | nil =>
        have hp2 : ¬ ((0 : Int) < (n2 : Int)) := by have := HS2.out.len; simp at this; omega
        have HJ : Hid (d ++ (x :: xs).map itA ++ ([] : List FS).map itB = items) := by have h := HI.out; rw [mrg_nil_right] at h; show _ = _; rw [List.map_nil, List.append_nil]; exact h
        clear HI
        obtain ⟨ys, hys⟩ : ∃ l : List FS, l = [] := ⟨_, rfl⟩
        rw [← hys] at HJ HS2
        clear hys
        generalize x :: xs = xs at *
        go_wp2
        have hb1 : (n1 : Int) ≤ 9223372036854775807 := by have h1 := HS1.out.cap; have h2 := HS1.out.max; unfold maxLen at h2; omega
        have hb2 : (n2 : Int) ≤ 9223372036854775807 := by have h1 := HS2.out.cap; have h2 := HS2.out.max; unfold maxLen at h2; omega
        go_loopw [57] (fun i wr => ∃ k : Nat, k ≤ n1 ∧ i = .int .i64 (k : Int) ∧ Hid (P (d ++ (xs.take k).map itA) wr) ∧ Hid (Below w0.heap.size w0 wr)) (fun i _ => n1 - (intOf i).toNat)
        case atStart => exact ⟨0, Nat.zero_le _, rfl, by show P _ _; rw [List.take_zero, List.map_nil, List.append_nil]; exact HP.out, HW⟩
        case round =>
          clear HP HW
          obtain ⟨k, hk, rfl, HP, HW⟩ := hrel
          by_cases hlt : k < n1
          · have hiX : (k : Int) < (n1 : Int) := by omega
            have hkl : k < xs.length := by rw [HS1.out.len]; exact hlt
            have HQ : Hid ((d ++ (xs.take k).map itA) ++ (xs.getD k FS.zero, true, false) :: ((xs.drop (k + 1)).map itA ++ ys.map itB) = items) := (split_at itA d xs (ys.map itB) k hkl).symm.trans HJ.out
            have HT : Hid ((d ++ (xs.take k).map itA) ++ [(xs.getD k FS.zero, true, false)] = d ++ (xs.take (k + 1)).map itA) := split_to itA d xs k hkl
            obtain ⟨b1, o1, ea, HB1, HX1⟩ := seg_elem (HS1.out.seg.below HW.out) k hkl
            subst ea
            generalize xs.getD k FS.zero = X at *
            have ta : True := trivial
            go_wp2_with (first
              | (refine wpList_loadE (x := X) rfl _ rfl rfl HX1 ?_)
              | (clear ta; refine wpList_allocS rfl _ rfl (encF FS.zero) zeroF ?_; intro w3 b4 F3 I3; have ts : True := trivial)
              | (clear ts; refine wpList_storeF rfl _ _ rfl rfl rfl I3 ?_; intro w4 U4 I4; have B4 : Below wr.heap.size wr w4 := U4.trans (fresh_b F3) (by rw [F3.at']; exact Nat.le_refl _))
              | (refine wpList_loadF rfl _ rfl rfl I4 ?_)
              | (go_at_call 43; refine (hV _ X true false _ HQ.out _ (hPB _ _ _ HP.out B4) (Below.then HW.out B4)).mono ?_; rintro e w6 ⟨rfl, P6, W6⟩; rw [HT.out] at P6; clear HX1 I3 I4 F3 U4))
            go_roundw
            case rel => exact ⟨k + 1, by omega, by go_num, P6, W6⟩
            case measure => simp [intOf]; omega
          · have ek : k = n1 := by omega
            subst ek
            have hlt' : ¬ ((k : Int) < (k : Int)) := by omega
            have HR : Hid (P (d ++ xs.map itA) wr) := by have h := HP.out; rw [List.take_of_length_le (by rw [HS1.out.len]; exact Nat.le_refl _)] at h; exact h
            clear HP
            obtain ⟨WR, eW⟩ : ∃ W, W = wr := ⟨_, rfl⟩
            subst eW
            go_wp2
            go_loopw [67] (fun i wr => ∃ j : Nat, j ≤ n2 ∧ i = .int .i64 (j : Int) ∧ Hid (P (d ++ xs.map itA ++ (ys.take j).map itB) wr) ∧ Hid (Below w0.heap.size w0 wr)) (fun i _ => n2 - (intOf i).toNat)
            case atStart => exact ⟨0, Nat.zero_le _, rfl, by show P _ _; rw [List.take_zero, List.map_nil, List.append_nil]; exact HR.out, HW⟩
            case round =>
              clear HR HW
              obtain ⟨j, hj, rfl, HP, HW⟩ := hrel
              by_cases hlj : j < n2
              · have hjX : (j : Int) < (n2 : Int) := by omega
                have hjl : j < ys.length := by rw [HS2.out.len]; exact hlj
                have HQ : Hid ((d ++ xs.map itA ++ (ys.take j).map itB) ++ (ys.getD j FS.zero, false, true) :: ((ys.drop (j + 1)).map itB ++ []) = items) := (split_at itB (d ++ xs.map itA) ys [] j hjl).symm.trans ((List.append_nil _).trans HJ.out)
                have HT : Hid ((d ++ xs.map itA ++ (ys.take j).map itB) ++ [(ys.getD j FS.zero, false, true)] = d ++ xs.map itA ++ (ys.take (j + 1)).map itB) := split_to itB (d ++ xs.map itA) ys j hjl
                obtain ⟨b1, o1, ea, HB1, HX1⟩ := seg_elem (HS2.out.seg.below HW.out) j hjl
                subst ea
                generalize ys.getD j FS.zero = X at *
                have ta : True := trivial
                go_wp2_with (first
                  | (refine wpList_loadE (x := X) rfl _ rfl rfl HX1 ?_)
                  | (clear ta; refine wpList_allocS rfl _ rfl (encF FS.zero) zeroF ?_; intro w3 b4 F3 I3; have ts : True := trivial)
                  | (clear ts; refine wpList_storeF rfl _ _ rfl rfl rfl I3 ?_; intro w4 U4 I4; have B4 : Below wr.heap.size wr w4 := U4.trans (fresh_b F3) (by rw [F3.at']; exact Nat.le_refl _))
                  | (refine wpList_loadF rfl _ rfl rfl I4 ?_)
                  | (go_at_call 43; refine (hV _ X false true _ HQ.out _ (hPB _ _ _ HP.out B4) (Below.then HW.out B4)).mono ?_; rintro e w6 ⟨rfl, P6, W6⟩; rw [HT.out] at P6; clear HX1 I3 I4 F3 U4))
                go_roundw
                case rel => exact ⟨j + 1, by omega, by go_num, P6, W6⟩
                case measure => simp [intOf]; omega
              · have ej : j = n2 := by omega
                subst ej
                have hlj' : ¬ ((j : Int) < (j : Int)) := by omega
                have HE : Hid (P items wr) := by have h := HP.out; rw [List.take_of_length_le (by rw [HS2.out.len]; exact Nat.le_refl _), HJ.out] at h; exact h
                clear HP
                go_wp2
                go_end0
                exact ⟨rfl, HE.out, HW.out⟩
      | cons y ys =>
        have hp2 : (0 : Int) < (n2 : Int) := by have := HS2.out.len; rw [List.length_cons] at this; omega
        obtain ⟨b1, o1, rfl, HB1, HX1⟩ := HS1.out.at0 HW.out
        obtain ⟨b2, o2, rfl, HB2, HX2⟩ := HS2.out.at0 HW.out
        have hc := compare_ans x y
        have t1 := fun W => run_tail W b1 o1 n1 c1 (by omega) HS1.out.cap HS1.out.max
        have t2 := fun W => run_tail W b2 o2 n2 c2 (by omega) HS2.out.cap HS2.out.max
        obtain ⟨z, hz⟩ : ∃ z, cmpF x y = z := ⟨_, rfl⟩
        rw [hz] at hc
        have HZ : Hid (cmpF x y = z) := hz
        clear hz
        go_wp2
        refine grow_allW (by kernel_rfl) (by kernel_rfl) ?_
        refine WG.put rfl (v := .slice (some ⟨b1, o1, none⟩) n1 c1) (fun w => by first | rfl | (go_simp; done) | (simp [go_sem]; done)) ?_
        simp only [Act.put, List.setIfInBounds_toArray, List.set_cons_succ, List.set_cons_zero]
        refine WG.put rfl (v := .pointer (some ⟨b1, o1, none⟩)) (fun w => by first | rfl | (go_simp; done) | (simp [go_sem, hp1]; done)) ?_
        simp only [Act.put, List.setIfInBounds_toArray, List.set_cons_succ, List.set_cons_zero]
        refine WG.elem (x := x) rfl _ rfl rfl HB1 HX1 ?_
        simp only [Act.put, List.setIfInBounds_toArray, List.set_cons_succ, List.set_cons_zero]
        refine WG.put rfl (v := .slice (some ⟨b2, o2, none⟩) n2 c2) (fun w => by first | rfl | (go_simp; done) | (simp [go_sem]; done)) ?_
        simp only [Act.put, List.setIfInBounds_toArray, List.set_cons_succ, List.set_cons_zero]
        refine WG.put rfl (v := .pointer (some ⟨b2, o2, none⟩)) (fun w => by first | rfl | (go_simp; done) | (simp [go_sem, hp2]; done)) ?_
        simp only [Act.put, List.setIfInBounds_toArray, List.set_cons_succ, List.set_cons_zero]
        refine WG.elem (x := y) rfl _ rfl rfl HB2 HX2 ?_
        simp only [Act.put, List.setIfInBounds_toArray, List.set_cons_succ, List.set_cons_zero]
        refine WG.call rfl (v := .int .i64 z) (fun w _ => hc w) (fun w => by first | rfl | (go_simp; done) | (simp [go_sem]; done)) ?_
        simp only [Act.put, List.setIfInBounds_toArray, List.set_cons_succ, List.set_cons_zero]
        refine WG.put rfl (v := .int .i64 z) (fun w => by first | rfl | (go_simp; done) | (simp [go_sem]; done)) ?_
        simp only [Act.put, List.setIfInBounds_toArray, List.set_cons_succ, List.set_cons_zero]
        refine WG.nil ?_
        intro w5 B5
        have P5 : Hid (P d w5) := hPB _ _ _ HP.out B5
        have W5 : Hid (Below w0.heap.size w0 w5) := Below.then HW.out B5
        clear HX1 HX2 HB1 HB2
        obtain ⟨b1', o1', e1, HB1, HX1⟩ := HS1.out.at0 W5.out
        obtain ⟨b2', o2', e2, HB2, HX2⟩ := HS2.out.at0 W5.out
        cases e1
        cases e2
        by_cases hl : z < 0
        · have hI2 : Hid (d ++ (x, true, false) :: mrg xs (y :: ys) = items) := by have h := HI.out; rw [mrg_cons, if_pos (show ltF x y from (by unfold ltF; rw [HZ.out]; exact hl))] at h; exact h
          go_wp2_with (first
            | (refine wpList_loadE (x := x) rfl _ rfl rfl HX1 ?_)
            | (go_at_call 43; refine (hV d x true false _ hI2.out _ P5.out W5.out).mono ?_; rintro e w6 ⟨rfl, P6, W6⟩; clear HX1 HX2))
          go_roundw
          case rel => exact ⟨_, xs, y :: ys, _, _, _, _, _, _, rfl, rfl, HS1.out.tail, HS2, by show _ = _; rw [List.append_assoc]; exact hI2.out, P6, W6⟩
          case measure => simp [slN]; omega
        · by_cases hg : 0 < z
          · have hI2 : Hid (d ++ (y, false, true) :: mrg (x :: xs) ys = items) := by have h := HI.out; rw [mrg_cons, if_neg (show ¬ ltF x y from (by unfold ltF; rw [HZ.out]; exact hl)), if_neg (fun e => by have := HZ.out; rw [e, cmpF_refl] at this; omega)] at h; exact h
            go_wp2_with (first
              | (refine wpList_loadE (x := y) rfl _ rfl rfl HX2 ?_)
              | (go_at_call 43; refine (hV d y false true _ hI2.out _ P5.out W5.out).mono ?_; rintro e w6 ⟨rfl, P6, W6⟩; clear HX1 HX2))
            go_roundw
            case rel => exact ⟨_, x :: xs, ys, _, _, _, _, _, _, rfl, rfl, HS1, HS2.out.tail, by show _ = _; rw [List.append_assoc]; exact hI2.out, P6, W6⟩
            case measure => simp [slN]; omega
          · have hxy : x = y := cmpF_zero (by rw [HZ.out]; omega)
            have hI2 : Hid (d ++ (x, true, true) :: mrg xs ys = items) := by have h := HI.out; rw [mrg_cons, if_neg (show ¬ ltF x y from (by unfold ltF; rw [HZ.out]; exact hl)), if_pos hxy] at h; exact h
            clear hxy
            go_wp2_with (first
              | (refine wpList_loadE (x := x) rfl _ rfl rfl HX1 ?_)
              | (go_at_call 43; refine (hV d x true true _ hI2.out _ P5.out W5.out).mono ?_; rintro e w6 ⟨rfl, P6, W6⟩; clear HX1 HX2))
            refine grow_allW (by kernel_rfl) (by kernel_rfl) ?_
            refine WG.put rfl (v := .slice (some ⟨b1, o1, none⟩) n1 c1) (fun w => by first | rfl | (go_simp; done) | (simp [go_sem]; done)) ?_
            simp only [Act.put, List.setIfInBounds_toArray, List.set_cons_succ, List.set_cons_zero]
            refine WG.put rfl (v := .slice (some (tlA b1 o1 c1)) (n1 - 1) (c1 - 1)) (fun w => by first | rfl | (go_simp; done) | (simp [go_sem, t1]; done)) ?_
            simp only [Act.put, List.setIfInBounds_toArray, List.set_cons_succ, List.set_cons_zero]
            refine WG.put rfl (v := .slice (some ⟨b2, o2, none⟩) n2 c2) (fun w => by first | rfl | (go_simp; done) | (simp [go_sem]; done)) ?_
            simp only [Act.put, List.setIfInBounds_toArray, List.set_cons_succ, List.set_cons_zero]
            refine WG.put rfl (v := .slice (some (tlA b2 o2 c2)) (n2 - 1) (c2 - 1)) (fun w => by first | rfl | (go_simp; done) | (simp [go_sem, t2]; done)) ?_
            simp only [Act.put, List.setIfInBounds_toArray, List.set_cons_succ, List.set_cons_zero]
            refine WG.put rfl (v := .slice (some (tlA b1 o1 c1)) (n1 - 1) (c1 - 1)) (fun w => by first | rfl | (go_simp; done) | (simp [go_sem]; done)) ?_
            simp only [Act.put, List.setIfInBounds_toArray, List.set_cons_succ, List.set_cons_zero]
            refine WG.put rfl (v := .slice (some (tlA b2 o2 c2)) (n2 - 1) (c2 - 1)) (fun w => by first | rfl | (go_simp; done) | (simp [go_sem]; done)) ?_
            simp only [Act.put, List.setIfInBounds_toArray, List.set_cons_succ, List.set_cons_zero]
            refine WG.nil ?_
            intro w7 B7
            go_wp2
            go_roundw
            case rel => exact ⟨_, xs, ys, _, _, _, _, _, _, rfl, rfl, HS1.out.tail, HS2.out.tail, by show _ = _; rw [List.append_assoc]; exact hI2.out, hPB _ _ _ P6 B7, Below.then W6 B7⟩
            case measure => simp [slN]; omega
end Go.Proofs.YtbhgchhoeokjhabDoor
