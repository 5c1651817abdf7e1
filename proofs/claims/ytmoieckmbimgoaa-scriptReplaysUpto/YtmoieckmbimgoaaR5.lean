/- Taken, of both. -/
import Derived.Test.YtmoieckmbimgoaaR4
namespace Go.Proofs.Ytmoieckmbimgoaa
open Go.RowKit M
set_option linter.unusedSimpArgs false
set_option linter.unusedVariables false

/-- What Taken answers. -/
def TkA (w : World) (P : List PK) (e : Ending) (w' : World) : Prop := ∃ v, e = .returned v ∧ w'.ownsRow w.heap.size 35 3 v P.length (P.flatMap pkL) ∧ Below w.heap.size w w'
set_option maxRecDepth 100000 in
set_option maxHeartbeats 8000000 in
theorem staken_any (g : GR) (hf : g.Few) (bn bg : Nat) (S : ByteArray) (hS1 : S.size ≤ 1) (ks : List PK) (n : Nat) (hn0 : ks.length = n) (hn : n ≤ 2000) (al : Option Addr) (cl : Nat) (w : World) (hM : MG w g bn bg) (hL : Seg w al (ks.flatMap pkL)) :
    Calls Try.prog 11 #[.agg (mcL S g bn bg).toArray, .slice al n cl] w fun e w' => TkA w (plP (stepM g) S ks) e w' := by
  have hR := fun W (h : MG W g bn bg) (hl : Seg W al (ks.flatMap pkL)) => played_any g hf bn bg S hS1 ks n hn0 hn al cl W h hl
  have hml : (mcL S g bn bg).length = 4 := rfl
  generalize mcL S g bn bg = mc at hR hml ⊢
  have HMl : Hid (mc.length = 4) := hml
  have HM : Hid (MG w g bn bg) := hM
  have HL : Hid (Seg w al (ks.flatMap pkL)) := hL
  generalize stepM g = f at hR ⊢
  have HR : Hid (∀ W, MG W g bn bg → Seg W al (ks.flatMap pkL) → Calls Try.prog 28 #[.agg mc.toArray, .slice al n cl] W fun e w' => ∃ v1 v2, e = .returned (.tuple #[v1, v2]) ∧ w'.ownsRow W.heap.size 35 3 v1 (plP f S ks).length ((plP f S ks).flatMap pkL) ∧ w'.ownsRow W.heap.size 9 1 v2 (S :: plS f S ks).length ((S :: plS f S ks).flatMap strE) ∧ Below W.heap.size W w') := hR
  obtain ⟨A, hA⟩ : ∃ A, TkA w (plP f S ks) = A := ⟨_, rfl⟩
  have HA : Hid (∀ v w', w'.ownsRow w.heap.size 35 3 v (plP f S ks).length ((plP f S ks).flatMap pkL) → Below w.heap.size w w' → A (.returned v) w') := by rw [← hA]; exact fun v w' h1 h2 => ⟨v, rfl, h1, h2⟩
  rw [hA]
  clear hA hM hf hml hL hS1 hn0 hR
  have t1 : True := trivial
  have t2 : True := trivial
  go_enter Try.func11, Try.ntmps11
  go_wp2_with (first
    | (clear t1; refine wpList_boxS rfl 32 _ rfl mc rfl ?_; intro W1 b1 F1 C1; have B1 := F_b F1; clear F1)
    | (clear t2; refine wpList_loadW rfl 32 _ rfl rfl C1 _ Try.underlying32 rfl (by rw [HMl.out]; exact infoMc) ?_)
    | (go_at_call 28; refine (HR.out _ (HM.out.below B1) (HL.out.below B1)).mono ?_; rintro e W2 ⟨v1, v2, rfl, O2, Q2, D2⟩; have B2 := Below.then B1 D2))
  exact HA.out _ _ (own_raise O2 B1.size) B2
set_option maxRecDepth 100000 in
set_option maxHeartbeats 8000000 in
theorem rtaken_any (g : GR) (hf : g.Few) (bn bg : Nat) (S : ByteArray) (hS1 : S.size ≤ 1) (ks : List PK) (n : Nat) (hn0 : ks.length = n) (hn : n ≤ 2000) (al : Option Addr) (cl : Nat) (w : World) (hM : MG w g bn bg) (hL : Seg w al (ks.flatMap pkL)) :
    Calls Try.prog 16 #[.agg (mcL S g bn bg).toArray, .slice al n cl] w fun e w' => TkA w (plP (stepM g) S ks) e w' := by
  have hR := fun W (h : MG W g bn bg) (hl : Seg W al (ks.flatMap pkL)) => rreplay_any g hf bn bg S hS1 ks n hn0 hn al cl W h hl
  have hml : (mcL S g bn bg).length = 4 := rfl
  generalize mcL S g bn bg = mc at hR hml ⊢
  have HMl : Hid (mc.length = 4) := hml
  have HM : Hid (MG w g bn bg) := hM
  have HL : Hid (Seg w al (ks.flatMap pkL)) := hL
  have HKN : Hid (ks.length = n) := hn0
  generalize stepM g = f at hR ⊢
  have HR : Hid (∀ W, MG W g bn bg → Seg W al (ks.flatMap pkL) → Calls Try.prog 8 #[.agg mc.toArray, .slice al n cl] W fun e w' => ∃ v1 v2, e = .returned (.tuple #[v1, v2]) ∧ w'.ownsRow W.heap.size 9 1 v1 (n + 1) ((S :: stsF f S ks).flatMap strE) ∧ w'.ownsRow W.heap.size 4 1 v2 n ((tkF f S ks).flatMap bolE) ∧ Below W.heap.size W w') := by
    intro W h1 h2
    have := hR W h1 h2
    unfold RepA at this
    rw [List.length_cons, sts_len, tk_len, hn0] at this
    exact this
  obtain ⟨A, hA⟩ : ∃ A, TkA w (plP f S ks) = A := ⟨_, rfl⟩
  have HA : Hid (∀ v w' m, m = (plP f S ks).length → w'.ownsRow w.heap.size 35 3 v m ((plP f S ks).flatMap pkL) → Below w.heap.size w w' → A (.returned v) w') := by rw [← hA]; exact fun v w' m hm h1 h2 => ⟨v, rfl, by rw [← hm]; exact h1, h2⟩
  rw [hA]
  clear hA hM hf hml hL hS1 hn0 hR
  have t1 : True := trivial
  have t2 : True := trivial
  go_enter Try.func16, Try.ntmps16
  go_wp2_with (first
    | (clear t1; refine wpList_boxS rfl 32 _ rfl mc rfl ?_; intro W1 b1 F1 C1; have B1 := F_b F1; clear F1)
    | (clear t2; refine wpList_loadW rfl 32 _ rfl rfl C1 _ Try.underlying32 rfl (by rw [HMl.out]; exact infoMc) ?_)
    | (go_at_call 8; refine (HR.out _ (HM.out.below B1) (HL.out.below B1)).mono ?_; rintro e W2 ⟨v1, v2, rfl, O2, Q2, D2⟩; have B2 := Below.then B1 D2; obtain ⟨at', ct, evt, sgt, _⟩ := own_row Q2; subst evt; clear O2 Q2 D2 C1))
  have HB2 : Hid (Below w.heap.size w W2) := B2
  have HST : Hid (Seg W2 at' ((tkF f S ks).flatMap bolE)) := sgt
  clear B2 sgt
  go_loopw [7, 8] (fun v7 v8 wr => ∃ (i m : Nat), i ≤ n ∧ v8 = .int .i64 (i : Int) ∧ (∃ a7 c7, v7 = .slice a7 m c7) ∧ m ≤ i ∧ Hid (m = (plP f S (ks.take i)).length) ∧ Hid (wr.ownsRow W2.heap.size 35 3 v7 m ((plP f S (ks.take i)).flatMap pkL)) ∧ Hid (Below W2.heap.size W2 wr)) (fun _ v8 _ => n - (intOf v8).toNat)
  case atStart => exact ⟨0, 0, Nat.zero_le _, rfl, ⟨_, _, rfl⟩, Nat.le_refl _, rfl, own_nil _ _ _ _, Below.refl _ _⟩
  case round =>
    obtain ⟨i, m, hi, rfl, ⟨a7, c7, rfl⟩, hmi, HMM, HO8, HB⟩ := hrel
    have HBB : Hid (Below w.heap.size w wr) := Below.then HB2.out HB.out
    by_cases hlt : i < n
    · have hki : (i : Int) < n := by omega
      obtain ⟨k, hk⟩ : ∃ q, ks[i]? = some q := ⟨_, List.getElem?_eq_getElem (by rw [HKN.out]; exact hlt)⟩
      have HTK : Hid (ks.take (i + 1) = ks.take i ++ [k]) := take_at hk
      obtain ⟨bl, ol, ea, hbl0, rg0⟩ := pk_range HL.out hk
      subst ea
      have rg := range_below rg0 hbl0 HBB.out
      obtain ⟨b, hb0⟩ : ∃ b, (f (lastS f S (ks.take i)) k).2 = b := ⟨_, rfl⟩
      have HTB : Hid ((f (lastS f S (ks.take i)) k).2 = b) := hb0
      obtain ⟨bt, ot, eat, hbt, yt⟩ := HST.out i _ (bol_at (tk_get ks S i k hk))
      subst eat
      rw [hb0] at yt
      have yt' := cell_grow yt HB.out
      clear hk rg0 hb0 yt
      cases b with
      | false =>
        have HTF : Hid (plP f S (ks.take (i + 1)) = plP f S (ks.take i)) := by
          show _ = _
          rw [HTK.out, plP_snoc, HTB.out]; simp
        have HO2 : Hid (wr.ownsRow W2.heap.size 35 3 (.slice a7 m c7) m ((plP f S (ks.take (i + 1))).flatMap pkL)) := (by
          show World.ownsRow _ _ _ _ _ _ _
          rw [HTF.out]; exact HO8.out)
        have HM2 : Hid (m = (plP f S (ks.take (i + 1))).length) := (by show _ = _; rw [HTF.out]; exact HMM.out)
        go_wp2_with fail
        go_roundw
        case rel => exact ⟨i + 1, m, by omega, by go_num, ⟨_, _, rfl⟩, by omega, HM2, HO2, HB⟩
        case measure => simp [intOf]; omega
      | true =>
        have HTF : Hid (plP f S (ks.take (i + 1)) = plP f S (ks.take i) ++ [k]) := by
          show _ = _
          rw [HTK.out, plP_snoc, HTB.out]; simp
        have t3 : True := trivial
        have t4 : True := trivial
        have t5 : True := trivial
        go_wp2_with (first
          | (clear t3; refine wpList_load_mid rfl 35 _ rfl bl (ol + i * 3) rfl (pkL k) _ rg Try.underlying35 rfl infoPk ?_)
          | (clear t4; refine wpList_build1P rfl _ rfl k rfl ?_; intro W9 b9 F9 C9; have R9 := Below.then HB.out (F_b F9); have O9 := own_below HO8.out (F_b F9); clear F9)
          | (clear t5; at_builtin; refine wpList_appM ePk rfl _ _ rfl W2.heap.size _ m _ rfl O9 _ 1 (pkL k) rfl (row_isS C9) rfl (pk_oneC _) (by omega) R9.size ?_; intro v10 W10 O10 G10; have R10 := grown_below R9 R9.size O9 G10; clear G10 C9 O9))
        have HO2 : Hid (W10.ownsRow W2.heap.size 35 3 v10 (m + 1) ((plP f S (ks.take (i + 1))).flatMap pkL)) := (by
          show World.ownsRow _ _ _ _ _ _ _
          rw [HTF.out, pk_snoc]; exact O10)
        have HM2 : Hid (m + 1 = (plP f S (ks.take (i + 1))).length) := (by show _ = _; rw [HTF.out, List.length_append, List.length_singleton, ← HMM.out])
        clear O10
        obtain ⟨x8, y8, ev8⟩ := own_form HO2.out
        subst ev8
        go_wp2_with fail
        go_roundw
        case rel => exact ⟨i + 1, m + 1, by omega, by go_num, ⟨_, _, rfl⟩, by omega, HM2, HO2, R10⟩
        case measure => simp [intOf]; omega
    · have e : i = n := by omega
      subst e
      have hki : ¬ (i : Int) < i := by omega
      have HT : Hid (ks.take i = ks) := (by show ks.take i = ks; rw [← HKN.out]; exact List.take_length)
      have HO2 : Hid (wr.ownsRow W2.heap.size 35 3 (.slice a7 m c7) m ((plP f S ks).flatMap pkL)) := (by have := HO8.out; rw [HT.out] at this; exact this)
      have HM2 : Hid (m = (plP f S ks).length) := (by have := HMM.out; rw [HT.out] at this; exact this)
      go_wp2_with fail
      exact HA.out _ _ _ HM2.out (own_raise HO2.out HB2.out.size) HBB.out
end Go.Proofs.Ytmoieckmbimgoaa
