/- Replay, of the program. -/
import Derived.Test.YtmoieckmbimgoaaR0
import Derived.Test.YtmoieckmbimgoaaG8
namespace Go.Proofs.Ytmoieckmbimgoaa
open Go.RowKit M
set_option linter.unusedSimpArgs false
set_option linter.unusedVariables false

def bolE (b : Bool) : List Value := [.bool b]
theorem bol_at {ss : List Bool} {j : Nat} {s : Bool} (h : ss[j]? = some s) : (ss.flatMap bolE)[j]? = some (.bool s) := by
  rw [show ss.flatMap bolE = ss.map Value.bool from flat1 _ ss, List.getElem?_map, h]; rfl
theorem bol_len (l : List Bool) : (l.flatMap bolE).length = l.length * 1 := by rw [show l.flatMap bolE = l.map Value.bool from flat1 _ l]; simp
theorem str_one1 (s : ByteArray) : ∀ v ∈ [Value.string s], v.oneCell' = true := by simp [Value.oneCell']
theorem bol_one1 (b : Bool) : ∀ v ∈ [Value.bool b], v.oneCell' = true := by simp [Value.oneCell']
theorem str_snoc (l : List ByteArray) (s : ByteArray) : (l ++ [s]).flatMap strE = l.flatMap strE ++ [.string s] := by rw [List.flatMap_append, List.flatMap_singleton]; rfl
theorem bol_snoc (l : List Bool) (s : Bool) : (l ++ [s]).flatMap bolE = l.flatMap bolE ++ [.bool s] := by rw [List.flatMap_append, List.flatMap_singleton]; rfl
theorem pk_snoc (l : List PK) (s : PK) : (l ++ [s]).flatMap pkL = l.flatMap pkL ++ pkL s := by rw [List.flatMap_append, List.flatMap_singleton]
theorem own_is {W : World} {B b t n : Nat} {cs : List Value} (h : IsS W b t cs) (hb : B ≤ b) (hn : cs.length = n) (hm : n ≤ 4194304) : W.ownsRow B t 1 (.slice (some ⟨b, 0, none⟩) n n) n cs := by
  refine ⟨by omega, .inr ⟨b, n, cs.toArray, rfl, hb, h, Nat.le_refl _, by unfold maxLen; omega, by simp [hn], ?_⟩⟩
  rw [Nat.mul_one]
  have : cs.take n = cs := List.take_of_length_le (by omega)
  simpa using this
theorem range_below {w W : World} {b o : Nat} {cs : List Value} (h : w.rangeAt b o cs) (hb : b < w.heap.size) (hB : Below w.heap.size w W) : W.rangeAt b o cs := fun j v hv => (hB.cell (p := ⟨b, o + j, none⟩) hb).trans (h j v hv)
theorem own_updT {W W' : World} {B t t' s n b : Nat} {v : Value} {xs cs : List Value} (h : W.ownsRow B t s v n xs) (I : IsS W b t' cs) (U : Upd W W' b) (hne : t ≠ t') : W'.ownsRow B t s v n xs := by
  refine ⟨h.1, ?_⟩
  rcases h.2 with hn | ⟨g, cap, cur, rfl, hg, hh, rest⟩
  · exact Or.inl hn
  · refine Or.inr ⟨g, cap, cur, rfl, hg, (U.block g (fun e => ?_)).trans hh, rest⟩
    subst e
    have I' : W.heap[g]? = some (.cells cs.toArray t' (0, 0)) := I
    rw [hh] at I'
    simp at I'
    exact hne I'.2
/-- What Replay answers. -/
def RepA (w : World) (S : List ByteArray) (K : List Bool) (e : Ending) (w' : World) : Prop := ∃ v1 v2, e = .returned (.tuple #[v1, v2]) ∧ w'.ownsRow w.heap.size 9 1 v1 S.length (S.flatMap strE) ∧ w'.ownsRow w.heap.size 4 1 v2 K.length (K.flatMap bolE) ∧ Below w.heap.size w w'
set_option maxRecDepth 100000 in
set_option maxHeartbeats 8000000 in
theorem sreplay_any (g : GR) (hf : g.Few) (bn bg : Nat) (S : ByteArray) (hS1 : S.size ≤ 1) (ks : List PK) (n : Nat) (hn0 : ks.length = n) (hn : n ≤ 2000) (al : Option Addr) (cl : Nat) (w : World) (hM : MG w g bn bg) (hL : Seg w al (ks.flatMap pkL)) :
    Calls Try.prog 7 #[.agg (mcL S g bn bg).toArray, .slice al n cl] w fun e w' => RepA w (S :: stsF (stepM g) S ks) (tkF (stepM g) S ks) e w' := by
  have hS := fun W s k (hs : s.size ≤ 1099511627776) (h : MG W g bn bg) => sstep_any g hf s hs bn bg k S (fnV 21 bn bg (holB g 1)) (fnV 23 bn bg (holB g 4)) W h
  have HMC : Hid (mcL S g bn bg = [.string S, fnV 21 bn bg (holB g 1), fnV 22 bn bg (holB g 2), fnV 23 bn bg (holB g 4)]) := rfl
  have hml : (mcL S g bn bg).length = 4 := rfl
  have hv0 : (mcL S g bn bg)[0]? = some (.string S) := rfl
  rw [← HMC.out] at hS
  generalize mcL S g bn bg = mc at hS hml hv0 ⊢
  clear HMC
  have HMl : Hid (mc.length = 4) := hml
  have HV0 : Hid (mc[0]? = some (.string S)) := hv0
  have HM : Hid (MG w g bn bg) := hM
  have HL : Hid (Seg w al (ks.flatMap pkL)) := hL
  have HS1 : Hid (S.size ≤ 1) := hS1
  have HKN : Hid (ks.length = n) := hn0
  have hsz : ∀ s k, (stepM g s k).1.size ≤ 1 := stepM_size g
  generalize stepM g = f at hS hsz ⊢
  have HSZ : Hid (∀ s k, (f s k).1.size ≤ 1) := hsz
  obtain ⟨A, hA⟩ : ∃ A, RepA w (S :: stsF f S ks) (tkF f S ks) = A := ⟨_, rfl⟩
  have HA : Hid (∀ v1 v2 w', w'.ownsRow w.heap.size 9 1 v1 (n + 1) ((S :: stsF f S ks).flatMap strE) → w'.ownsRow w.heap.size 4 1 v2 n ((tkF f S ks).flatMap bolE) → Below w.heap.size w w' → A (.returned (.tuple #[v1, v2])) w') := by
    rw [← hA]; exact fun v1 v2 w' h1 h2 h3 => ⟨v1, v2, rfl, by rw [List.length_cons, sts_len, hn0]; exact h1, by rw [tk_len, hn0]; exact h2, h3⟩
  rw [hA]
  clear hA hM hf hml hv0 hL hS1 hn0 hsz
  have t1 : True := trivial
  have t2 : True := trivial
  have t3 : True := trivial
  go_enter Try.func7, Try.ntmps7
  go_wp2_with (first
    | (clear t1; refine wpList_boxS rfl 32 _ rfl mc rfl ?_; intro W1 b1 F1 C1; have B1 := F_b F1; have y0 : W1.cell? ⟨b1, 0, none⟩ = some (.string S) := (C1.cell 0).trans HV0.out; clear F1)
    | (clear t2; refine wpList_build1E eStr rfl _ rfl (.string S) rfl rfl ?_; intro W2 b2 F2 C2; have D2 := F_b F2; have P2 : W2.ownsRow W1.heap.size 9 1 (.slice (some ⟨b2, 0, none⟩) 1 1) 1 [.string S] := own_is C2 (Nat.le_of_eq F2.at'.symm) rfl (by omega); clear F2)
    | (clear t3; refine wpList_build0E eBool rfl rfl ?_; intro W3 b3 F3 O3; have D3 := Below.then D2 (F_b F3); have P3 := own_below P2 (F_b F3); have Q3 := own_raise O3 D2.size; have y3 : W3.cell? ⟨b1, 0, none⟩ = some (.string S) := cell_grow y0 D3; clear F3 O3 P2 D2))
  have HC1 : Hid (IsS W1 b1 32 mc) := C1
  have HB1 : Hid (Below w.heap.size w W1) := B1
  have HP3 : Hid (W3.ownsRow W1.heap.size 9 1 (.slice (some ⟨b2, 0, none⟩) 1 1) 1 [.string S] ∧ W3.ownsRow W1.heap.size 4 1 (.slice (some ⟨b3, 0, none⟩) 0 0) 0 [] ∧ Below W1.heap.size W1 W3) := ⟨P3, Q3, D3⟩
  clear C1 B1 P3 Q3 D3 y0 y3 C2
  go_loopw [6, 7, 8, 21] (fun v6 v7 v8 v21 wr => ∃ (i : Nat) (s : ByteArray), i ≤ n ∧ v21 = .int .i64 (i : Int) ∧ v8 = .string s ∧ (∃ a6 c6, v6 = .slice a6 (i + 1) c6) ∧ (∃ a7 c7, v7 = .slice a7 i c7) ∧ Hid (s = lastS f S (ks.take i)) ∧ Hid (wr.ownsRow W1.heap.size 9 1 v6 (i + 1) ((S :: stsF f S (ks.take i)).flatMap strE)) ∧ Hid (wr.ownsRow W1.heap.size 4 1 v7 i ((tkF f S (ks.take i)).flatMap bolE)) ∧ Hid (Below W1.heap.size W1 wr)) (fun _ _ _ v21 _ => n - (intOf v21).toNat)
  case atStart => exact ⟨0, S, Nat.zero_le _, rfl, rfl, ⟨_, _, rfl⟩, ⟨_, _, rfl⟩, rfl, HP3.out.1, HP3.out.2.1, HP3.out.2.2⟩
  case round =>
    obtain ⟨i, s, hi, rfl, rfl, ⟨a6, c6, rfl⟩, ⟨a7, c7, rfl⟩, HSL, HO6, HO7, HB⟩ := hrel
    have HBB : Hid (Below w.heap.size w wr) := Below.then HB1.out HB.out
    by_cases hlt : i < n
    · have hki : (i : Int) < n := by omega
      obtain ⟨k, hk⟩ : ∃ q, ks[i]? = some q := ⟨_, List.getElem?_eq_getElem (by rw [HKN.out]; exact hlt)⟩
      have HTK : Hid (ks.take (i + 1) = ks.take i ++ [k]) := take_at hk
      obtain ⟨bl, ol, ea, hbl0, rg0⟩ := pk_range HL.out hk
      subst ea
      have rg := range_below rg0 hbl0 HBB.out
      have hss : s.size ≤ 1 := by rw [HSL.out]; exact last_size HSZ.out _ _ HS1.out
      have hS' := fun W (h : MG W g bn bg) => hS W s k (Nat.le_trans hss (by decide)) h
      have HNX : Hid (∀ b, (f s k).2 = b → lastS f S (ks.take (i + 1)) = (if b then (f s k).1 else s) ∧ (S :: stsF f S (ks.take (i + 1))) = (S :: stsF f S (ks.take i)) ++ [if b then (f s k).1 else s] ∧ tkF f S (ks.take (i + 1)) = tkF f S (ks.take i) ++ [b]) := by
        intro b hb
        rw [HTK.out, last_snoc, sts_snoc, tk_snoc, ← HSL.out]
        subst hb
        exact ⟨rfl, rfl, rfl⟩
      clear hk rg0
      cases hb : (f s k).2 with
      | true =>
        obtain ⟨e1, e2, e3⟩ := HNX.out _ hb
        rw [hb] at hS'
        obtain ⟨r1, hr1⟩ : ∃ r, (f s k).1 = r := ⟨_, rfl⟩
        rw [hr1] at hS' e1 e2
        have E1 : Hid (r1 = lastS f S (ks.take (i + 1))) := e1.symm
        have E2 : Hid ((S :: stsF f S (ks.take (i + 1))) = (S :: stsF f S (ks.take i)) ++ [r1]) := e2
        have E3 : Hid (tkF f S (ks.take (i + 1)) = tkF f S (ks.take i) ++ [true]) := e3
        clear e1 e2 e3 hr1 hb HNX hss
        have t2 : True := trivial
        have t3 : True := trivial
        have t4 : True := trivial
        have t5 : True := trivial
        have t6 : True := trivial
        have t7 : True := trivial
        have t8 : True := trivial
        have t9 : True := trivial
        have t10 : True := trivial
        go_wp2_with (first
          | (clear t2; refine wpList_load_mid rfl 35 _ rfl bl (ol + i * 3) rfl (pkL k) _ rg Try.underlying35 rfl infoPk ?_)
          | (clear t3; refine wpList_allocS rfl 35 rfl (pkL pk0) zeroPk ?_; intro W4 b4 F4 K4; have R4 := Below.then HB.out (F_b F4); have O4 := own_below HO6.out (F_b F4); have Q4 := own_below HO7.out (F_b F4); have hc4 : W1.heap.size ≤ b4 := Nat.le_trans HB.out.size (Nat.le_of_eq F4.at'.symm); clear F4)
          | (clear t4; refine wpList_storeW rfl 35 _ _ rfl rfl (pkL k) rfl K4 rfl infoPk (pk_oneC _) ?_; intro W5 U5 K5; have O5 := own_updT O4 K4 U5 (by decide); have Q5 := own_updT Q4 K4 U5 (by decide); have R5 := U5.trans R4 hc4; clear K4 U5 O4 Q4 R4)
          | (clear t5; have CC := HC1.out.grown R5; refine wpList_loadW rfl 32 _ rfl rfl CC _ Try.underlying32 rfl (by rw [HMl.out]; exact infoMc) ?_)
          | (clear t6; refine wpList_loadW rfl 35 _ rfl rfl K5 _ Try.underlying35 rfl infoPk ?_)
          | (go_at_call 24; refine (hS' _ (HM.out.below (Below.then HB1.out R5))).mono ?_; rintro e W6 ⟨rfl, B6⟩; have O6 := own_below O5 B6; have Q6 := own_below Q5 B6; have R6 := Below.then R5 B6; clear B6 O5 Q5 R5 K5 CC)
          | (clear t7; refine wpList_build1E eStr rfl _ rfl (.string r1) rfl rfl ?_; intro W7 b7 F7 C7; have O7 := own_below O6 (F_b F7); have Q7 := own_below Q6 (F_b F7); have R7 := Below.then R6 (F_b F7); clear F7 O6 Q6 R6)
          | (clear t8; at_builtin; refine wpList_appM eStr rfl _ _ rfl W1.heap.size _ (i + 1) _ rfl O7 _ 1 [.string r1] rfl (row_isS C7) rfl (str_one1 _) (by omega) R7.size ?_; intro v8 W8 O8 G8; have R8 := grown_below R7 R7.size O7 G8; have Q8 := own_grow Q7 O7 G8 (by decide); clear G8 C7 O7 Q7 R7)
          | (clear t9; refine wpList_build1E eBool rfl _ rfl (.bool true) rfl rfl ?_; intro W9 b9 F9 C9; have O9 := own_below O8 (F_b F9); have Q9 := own_below Q8 (F_b F9); have R9 := Below.then R8 (F_b F9); clear F9 O8 Q8 R8)
          | (clear t10; at_builtin; refine wpList_appM eBool rfl _ _ rfl W1.heap.size _ i _ rfl Q9 _ 1 [.bool true] rfl (row_isS C9) rfl (bol_one1 _) (by omega) R9.size ?_; intro v10 W10 Q10 G10; have R10 := grown_below R9 R9.size Q9 G10; have O10 := own_grow O9 Q9 G10 (by decide); clear G10 C9 O9 Q9 R9))
        have HO2 : Hid (W10.ownsRow W1.heap.size 9 1 v8 (i + 1 + 1) ((S :: stsF f S (ks.take (i + 1))).flatMap strE)) := (by
          show World.ownsRow _ _ _ _ _ _ _
          rw [E2.out, str_snoc]; exact O10)
        have HQ2 : Hid (W10.ownsRow W1.heap.size 4 1 v10 (i + 1) ((tkF f S (ks.take (i + 1))).flatMap bolE)) := (by
          show World.ownsRow _ _ _ _ _ _ _
          rw [E3.out, bol_snoc]; exact Q10)
        clear O10 Q10
        obtain ⟨x8, y8, ev8⟩ := own_form HO2.out
        subst ev8
        obtain ⟨x10, y10, ev10⟩ := own_form HQ2.out
        subst ev10
        go_wp2_with fail
        go_roundw
        case rel => exact ⟨i + 1, r1, by omega, by go_num, rfl, ⟨_, _, rfl⟩, ⟨_, _, rfl⟩, E1, HO2, HQ2, R10⟩
        case measure => simp [intOf]; omega
      | false =>
        obtain ⟨e1, e2, e3⟩ := HNX.out _ hb
        rw [hb] at hS'
        obtain ⟨r1, hr1⟩ : ∃ r, (f s k).1 = r := ⟨_, rfl⟩
        rw [hr1] at hS' e1 e2
        have E1 : Hid (s = lastS f S (ks.take (i + 1))) := e1.symm
        have E2 : Hid ((S :: stsF f S (ks.take (i + 1))) = (S :: stsF f S (ks.take i)) ++ [s]) := e2
        have E3 : Hid (tkF f S (ks.take (i + 1)) = tkF f S (ks.take i) ++ [false]) := e3
        clear e1 e2 e3 hr1 hb HNX hss
        have t2 : True := trivial
        have t3 : True := trivial
        have t4 : True := trivial
        have t5 : True := trivial
        have t6 : True := trivial
        have t7 : True := trivial
        have t8 : True := trivial
        have t9 : True := trivial
        have t10 : True := trivial
        go_wp2_with (first
          | (clear t2; refine wpList_load_mid rfl 35 _ rfl bl (ol + i * 3) rfl (pkL k) _ rg Try.underlying35 rfl infoPk ?_)
          | (clear t3; refine wpList_allocS rfl 35 rfl (pkL pk0) zeroPk ?_; intro W4 b4 F4 K4; have R4 := Below.then HB.out (F_b F4); have O4 := own_below HO6.out (F_b F4); have Q4 := own_below HO7.out (F_b F4); have hc4 : W1.heap.size ≤ b4 := Nat.le_trans HB.out.size (Nat.le_of_eq F4.at'.symm); clear F4)
          | (clear t4; refine wpList_storeW rfl 35 _ _ rfl rfl (pkL k) rfl K4 rfl infoPk (pk_oneC _) ?_; intro W5 U5 K5; have O5 := own_updT O4 K4 U5 (by decide); have Q5 := own_updT Q4 K4 U5 (by decide); have R5 := U5.trans R4 hc4; clear K4 U5 O4 Q4 R4)
          | (clear t5; have CC := HC1.out.grown R5; refine wpList_loadW rfl 32 _ rfl rfl CC _ Try.underlying32 rfl (by rw [HMl.out]; exact infoMc) ?_)
          | (clear t6; refine wpList_loadW rfl 35 _ rfl rfl K5 _ Try.underlying35 rfl infoPk ?_)
          | (go_at_call 24; refine (hS' _ (HM.out.below (Below.then HB1.out R5))).mono ?_; rintro e W6 ⟨rfl, B6⟩; have O6 := own_below O5 B6; have Q6 := own_below Q5 B6; have R6 := Below.then R5 B6; clear B6 O5 Q5 R5 K5 CC)
          | (clear t7; refine wpList_build1E eStr rfl _ rfl (.string s) rfl rfl ?_; intro W7 b7 F7 C7; have O7 := own_below O6 (F_b F7); have Q7 := own_below Q6 (F_b F7); have R7 := Below.then R6 (F_b F7); clear F7 O6 Q6 R6)
          | (clear t8; at_builtin; refine wpList_appM eStr rfl _ _ rfl W1.heap.size _ (i + 1) _ rfl O7 _ 1 [.string s] rfl (row_isS C7) rfl (str_one1 _) (by omega) R7.size ?_; intro v8 W8 O8 G8; have R8 := grown_below R7 R7.size O7 G8; have Q8 := own_grow Q7 O7 G8 (by decide); clear G8 C7 O7 Q7 R7)
          | (clear t9; refine wpList_build1E eBool rfl _ rfl (.bool false) rfl rfl ?_; intro W9 b9 F9 C9; have O9 := own_below O8 (F_b F9); have Q9 := own_below Q8 (F_b F9); have R9 := Below.then R8 (F_b F9); clear F9 O8 Q8 R8)
          | (clear t10; at_builtin; refine wpList_appM eBool rfl _ _ rfl W1.heap.size _ i _ rfl Q9 _ 1 [.bool false] rfl (row_isS C9) rfl (bol_one1 _) (by omega) R9.size ?_; intro v10 W10 Q10 G10; have R10 := grown_below R9 R9.size Q9 G10; have O10 := own_grow O9 Q9 G10 (by decide); clear G10 C9 O9 Q9 R9))
        have HO2 : Hid (W10.ownsRow W1.heap.size 9 1 v8 (i + 1 + 1) ((S :: stsF f S (ks.take (i + 1))).flatMap strE)) := (by
          show World.ownsRow _ _ _ _ _ _ _
          rw [E2.out, str_snoc]; exact O10)
        have HQ2 : Hid (W10.ownsRow W1.heap.size 4 1 v10 (i + 1) ((tkF f S (ks.take (i + 1))).flatMap bolE)) := (by
          show World.ownsRow _ _ _ _ _ _ _
          rw [E3.out, bol_snoc]; exact Q10)
        clear O10 Q10
        obtain ⟨x8, y8, ev8⟩ := own_form HO2.out
        subst ev8
        obtain ⟨x10, y10, ev10⟩ := own_form HQ2.out
        subst ev10
        go_wp2_with fail
        go_roundw
        case rel => exact ⟨i + 1, s, by omega, by go_num, rfl, ⟨_, _, rfl⟩, ⟨_, _, rfl⟩, E1, HO2, HQ2, R10⟩
        case measure => simp [intOf]; omega
    · have e : i = n := by omega
      subst e
      have hki : ¬ (i : Int) < i := by omega
      have HT : Hid (ks.take i = ks) := (by show ks.take i = ks; rw [← HKN.out]; exact List.take_length)
      have HO2 : Hid (wr.ownsRow W1.heap.size 9 1 (.slice a6 (i + 1) c6) (i + 1) ((S :: stsF f S ks).flatMap strE)) := (by have := HO6.out; rw [HT.out] at this; exact this)
      have HQ2 : Hid (wr.ownsRow W1.heap.size 4 1 (.slice a7 i c7) i ((tkF f S ks).flatMap bolE)) := (by have := HO7.out; rw [HT.out] at this; exact this)
      go_wp2_with fail
      exact HA.out _ _ _ (own_raise HO2.out HB1.out.size) (own_raise HQ2.out HB1.out.size) HBB.out
end Go.Proofs.Ytmoieckmbimgoaa
