/- The picks that are taken, of the program. -/
import Derived.Test.YtmoieckmbimgoaaRK
namespace Go.Proofs.Ytmoieckmbimgoaa
open Go.RowKit M
set_option linter.unusedSimpArgs false
set_option linter.unusedVariables false

/-- What played answers. -/
def PlA (w : World) (P : List PK) (S : List ByteArray) (e : Ending) (w' : World) : Prop := ∃ v1 v2, e = .returned (.tuple #[v1, v2]) ∧ w'.ownsRow w.heap.size 35 3 v1 P.length (P.flatMap pkL) ∧ w'.ownsRow w.heap.size 9 1 v2 S.length (S.flatMap strE) ∧ Below w.heap.size w w'
set_option maxRecDepth 100000 in
set_option maxHeartbeats 8000000 in
theorem played_any (g : GR) (hf : g.Few) (bn bg : Nat) (S : ByteArray) (hS1 : S.size ≤ 1) (ks : List PK) (n : Nat) (hn0 : ks.length = n) (hn : n ≤ 2000) (al : Option Addr) (cl : Nat) (w : World) (hM : MG w g bn bg) (hL : Seg w al (ks.flatMap pkL)) :
    Calls Try.prog 28 #[.agg (mcL S g bn bg).toArray, .slice al n cl] w fun e w' => PlA w (plP (stepM g) S ks) (S :: plS (stepM g) S ks) e w' := by
  have hR := fun W (h : MG W g bn bg) (hl : Seg W al (ks.flatMap pkL)) => sreplay_any g hf bn bg S hS1 ks n hn0 hn al cl W h hl
  have hml : (mcL S g bn bg).length = 4 := rfl
  have hv0 : (mcL S g bn bg)[0]? = some (.string S) := rfl
  generalize mcL S g bn bg = mc at hR hml hv0 ⊢
  have HMl : Hid (mc.length = 4) := hml
  have HV0 : Hid (mc[0]? = some (.string S)) := hv0
  have HM : Hid (MG w g bn bg) := hM
  have HL : Hid (Seg w al (ks.flatMap pkL)) := hL
  have HKN : Hid (ks.length = n) := hn0
  generalize stepM g = f at hR ⊢
  have HR : Hid (∀ W, MG W g bn bg → Seg W al (ks.flatMap pkL) → Calls Try.prog 7 #[.agg mc.toArray, .slice al n cl] W fun e w' => ∃ v1 v2, e = .returned (.tuple #[v1, v2]) ∧ w'.ownsRow W.heap.size 9 1 v1 (n + 1) ((S :: stsF f S ks).flatMap strE) ∧ w'.ownsRow W.heap.size 4 1 v2 n ((tkF f S ks).flatMap bolE) ∧ Below W.heap.size W w') := by
    intro W h1 h2
    have := hR W h1 h2
    unfold RepA at this
    rw [List.length_cons, sts_len, tk_len, hn0] at this
    exact this
  obtain ⟨A, hA⟩ : ∃ A, PlA w (plP f S ks) (S :: plS f S ks) = A := ⟨_, rfl⟩
  have HA : Hid (∀ v1 v2 w' m, m = (plP f S ks).length → w'.ownsRow w.heap.size 35 3 v1 m ((plP f S ks).flatMap pkL) → w'.ownsRow w.heap.size 9 1 v2 (m + 1) ((S :: plS f S ks).flatMap strE) → Below w.heap.size w w' → A (.returned (.tuple #[v1, v2])) w') := by
    rw [← hA]; exact fun v1 v2 w' m hm h1 h2 h3 => ⟨v1, v2, rfl, by rw [← hm]; exact h1, by rw [List.length_cons, plS_len, ← hm]; exact h2, h3⟩
  rw [hA]
  obtain ⟨N, hN⟩ : ∃ N, n + 1 = N := ⟨_, rfl⟩
  have hN2 : N ≤ 2001 := by omega
  rw [hN] at HR
  have HNN : Hid (n + 1 = N) := hN
  clear hA hM hf hml hv0 hL hS1 hn0 hR hN
  have t1 : True := trivial
  have t2 : True := trivial
  go_enter Try.func28, Try.ntmps28
  go_wp2_with (first
    | (clear t1; refine wpList_boxS rfl 32 _ rfl mc rfl ?_; intro W1 b1 F1 C1; have B1 := F_b F1; clear F1)
    | (clear t2; refine wpList_loadW rfl 32 _ rfl rfl C1 _ Try.underlying32 rfl (by rw [HMl.out]; exact infoMc) ?_)
    | (go_at_call 7; refine (HR.out _ (HM.out.below B1) (HL.out.below B1)).mono ?_; rintro e W2 ⟨v1, v2, rfl, O2, Q2, D2⟩; have B2 := Below.then B1 D2; have C2 := C1.grown D2; obtain ⟨aa, ca, eva, sga, _⟩ := own_row O2; subst eva; obtain ⟨at', ct, evt, sgt, _⟩ := own_row Q2; subst evt; clear O2 Q2 D2 C1))
  have HC2 : Hid (IsS W2 b1 32 mc) := C2
  have HB2 : Hid (Below w.heap.size w W2) := B2
  have HSA : Hid (Seg W2 aa ((S :: stsF f S ks).flatMap strE)) := sga
  have HST : Hid (Seg W2 at' ((tkF f S ks).flatMap bolE)) := sgt
  clear C2 B2 sga sgt
  refine region_invA 5 (fun a0 listed a' w' => ∃ x18 x19 x20 x21 x8 : Value, a' = (((((a0.put (some 18) x18).put (some 19) x19).put (some 20) x20).put (some 21) x21).put (some 8) x8) ∧ Hid (Below W2.heap.size W2 w') ∧ (listed.getD 0 false = true → w'.ownsRow W2.heap.size 35 3 x18 0 []) ∧ (listed.getD 1 false = true → x19 = (.pointer (some ⟨b1, 0, none⟩))) ∧ (listed.getD 2 false = true → x20 = .string S) ∧ (listed.getD 3 false = true → w'.ownsRow W2.heap.size 9 1 x21 1 [.string S]) ∧ (listed.getD 4 false = true → w'.ownsRow W2.heap.size 35 3 x8 0 [])) (by kernel_rfl) (by kernel_rfl) ?i0a ?istepa ?ienda
  case i0a => exact ⟨_, _, _, _, _, by first | (simp only [Act.put, List.setIfInBounds_toArray, List.set_cons_succ, List.set_cons_zero]; done) | (simp only [Act.put, List.setIfInBounds_toArray, List.set_cons_succ, List.set_cons_zero]; rfl) | rfl, below_drew (Below.refl _ _), fun h => (not_rep h).elim, fun h => (not_rep h).elim, fun h => (not_rep h).elim, fun h => (not_rep h).elim, fun h => (not_rep h).elim⟩
  case istepa =>
    rintro i listed a' w' hi hr ⟨x18, x19, x20, x21, x8, rfl, HBw, d0, d1, d2, d3, d4⟩
    obtain ⟨hun, oj, hoj, hwt⟩ := mem_ready.1 hr
    simp only [Act.put, List.setIfInBounds_toArray, List.set_cons_succ, List.set_cons_zero]
    have hcase : i = 0 ∨ i = 1 ∨ i = 2 ∨ i = 3 ∨ i = 4 := by omega
    rcases hcase with rfl | rfl | rfl | rfl | rfl
    · have hoj2 := hoj
      obtain rfl := Option.some.inj hoj
      refine wpOp_value hoj2 rfl (exec_build0 ePk rfl) ?_
      have B9 := F_b (Fresh.alloc w' (.cells #[] 35))
      exact ⟨_, x19, x20, x21, x8, by first | (simp only [Act.put, List.setIfInBounds_toArray, List.set_cons_succ, List.set_cons_zero]; done) | (simp only [Act.put, List.setIfInBounds_toArray, List.set_cons_succ, List.set_cons_zero]; rfl) | rfl, hb_then HBw B9, fun _ => (own_raise (own_build0 ePk w') HBw.out.size), fun h => (d1 (keep (by decide) h)), fun h => (d2 (keep (by decide) h)), fun h => (own_below (d3 (keep (by decide) h)) B9), fun h => (own_below (d4 (keep (by decide) h)) B9)⟩
    · have hoj2 := hoj
      obtain rfl := Option.some.inj hoj
      refine wpOp_value hoj2 rfl (v := (.pointer (some ⟨b1, 0, none⟩))) (w' := w') (by first | rfl | (go_simp; done) | (simp [go_sem]; done) | (simp [execOp, go_sem]; done)) ?_
      exact ⟨x18, (.pointer (some ⟨b1, 0, none⟩)), x20, x21, x8, by first | (simp only [Act.put, List.setIfInBounds_toArray, List.set_cons_succ, List.set_cons_zero]; done) | (simp only [Act.put, List.setIfInBounds_toArray, List.set_cons_succ, List.set_cons_zero]; rfl) | rfl, HBw, fun h => (d0 (keep (by decide) h)), fun _ => rfl, fun h => (d2 (keep (by decide) h)), fun h => (d3 (keep (by decide) h)), fun h => (d4 (keep (by decide) h))⟩
    · have hoj2 := hoj
      obtain rfl := Option.some.inj hoj
      have e1 := d1 (hwt ⟨1, .data⟩ (by simp) rfl)
      subst e1
      refine wpOp_cell hoj2 rfl 9 _ rfl rfl (v := .string S) (ld9 w' (((HC2.out.grown HBw.out).cell 0).trans HV0.out)) ?_
      exact ⟨x18, _, (.string S), x21, x8, by first | (simp only [Act.put, List.setIfInBounds_toArray, List.set_cons_succ, List.set_cons_zero]; done) | (simp only [Act.put, List.setIfInBounds_toArray, List.set_cons_succ, List.set_cons_zero]; rfl) | rfl, HBw, fun h => (d0 (keep (by decide) h)), fun h => (d1 (keep (by decide) h)), fun _ => rfl, fun h => (d3 (keep (by decide) h)), fun h => (d4 (keep (by decide) h))⟩
    · have hoj2 := hoj
      obtain rfl := Option.some.inj hoj
      have e2 := d2 (hwt ⟨2, .data⟩ (by simp) rfl)
      subst e2
      refine wpOp_value hoj2 rfl (exec_build1 eStr _ rfl (.string S) rfl rfl) ?_
      have B9 := F_b (Fresh.alloc w' (.cells #[.string S] 9))
      exact ⟨x18, x19, _, _, x8, by first | (simp only [Act.put, List.setIfInBounds_toArray, List.set_cons_succ, List.set_cons_zero]; done) | (simp only [Act.put, List.setIfInBounds_toArray, List.set_cons_succ, List.set_cons_zero]; rfl) | rfl, hb_then HBw B9, fun h => (own_below (d0 (keep (by decide) h)) B9), fun h => (d1 (keep (by decide) h)), fun h => (d2 (keep (by decide) h)), fun _ => (own_is (IsS.new w' 9 [.string S]) HBw.out.size rfl (by omega)), fun h => (own_below (d4 (keep (by decide) h)) B9)⟩
    · have hoj2 := hoj
      obtain rfl := Option.some.inj hoj
      have e0 := d0 (hwt ⟨0, .data⟩ (by simp) rfl)
      refine wpOp_value hoj2 rfl (v := x18) (w' := w') (by first | rfl | (go_simp; done) | (simp [go_sem]; done) | (simp [execOp, go_sem]; done)) ?_
      exact ⟨x18, x19, x20, x21, x18, by first | (simp only [Act.put, List.setIfInBounds_toArray, List.set_cons_succ, List.set_cons_zero]; done) | (simp only [Act.put, List.setIfInBounds_toArray, List.set_cons_succ, List.set_cons_zero]; rfl) | rfl, HBw, fun h => (d0 (keep (by decide) h)), fun h => (d1 (keep (by decide) h)), fun h => (d2 (keep (by decide) h)), fun h => (d3 (keep (by decide) h)), fun _ => e0⟩
  case ienda =>
    rintro a' w' ⟨x18, x19, x20, x21, x8, rfl, HBw, d0, d1, d2, d3, d4⟩
    replace d0 := d0 rfl
    replace d1 := d1 rfl
    replace d2 := d2 rfl
    replace d3 := d3 rfl
    replace d4 := d4 rfl
    simp only [Act.put, List.setIfInBounds_toArray, List.set_cons_succ, List.set_cons_zero]
    simp only [List.drop_succ_cons, List.drop_zero]
    have HBw2 : Hid (Below W2.heap.size W2 w') := HBw
    have P8 : Hid (w'.ownsRow W2.heap.size 35 3 x8 0 []) := d4
    have P9 : Hid (w'.ownsRow W2.heap.size 9 1 x21 1 [.string S]) := d3
    obtain ⟨a8, c8, ev8⟩ := own_form P8.out
    subst ev8
    obtain ⟨a9, c9, ev9⟩ := own_form P9.out
    subst ev9
    obtain ⟨W3, eW3⟩ : ∃ x, x = w' := ⟨_, rfl⟩
    subst eW3
    clear d0 d1 d2 d3 d4 HBw
    go_wp2_with fail
    go_loopw [8, 9, 24] (fun v8 v9 v24 wr => ∃ (i m : Nat), i ≤ n ∧ v24 = .int .i64 (i : Int) ∧ (∃ a8 c8, v8 = .slice a8 m c8) ∧ (∃ a9 c9, v9 = .slice a9 (m + 1) c9) ∧ m ≤ i ∧ Hid (m = (plP f S (ks.take i)).length) ∧ Hid (wr.ownsRow W2.heap.size 35 3 v8 m ((plP f S (ks.take i)).flatMap pkL)) ∧ Hid (wr.ownsRow W2.heap.size 9 1 v9 (m + 1) ((S :: plS f S (ks.take i)).flatMap strE)) ∧ Hid (Below W2.heap.size W2 wr)) (fun _ _ v24 _ => n - (intOf v24).toNat)
    case atStart => exact ⟨0, 0, Nat.zero_le _, rfl, ⟨_, _, rfl⟩, ⟨_, _, rfl⟩, Nat.le_refl _, rfl, P8, P9, HBw2⟩
    case round =>
      obtain ⟨i, m, hi, rfl, ⟨a8, c8, rfl⟩, ⟨a9, c9, rfl⟩, hmi, HMM, HO8, HO9, HB⟩ := hrel
      have HBB : Hid (Below w.heap.size w wr) := Below.then HB2.out HB.out
      by_cases hlt : i < n
      · have hki : (i : Int) < n := by omega
        obtain ⟨k, hk⟩ : ∃ q, ks[i]? = some q := ⟨_, List.getElem?_eq_getElem (by rw [HKN.out]; exact hlt)⟩
        have HTK : Hid (ks.take (i + 1) = ks.take i ++ [k]) := take_at hk
        obtain ⟨bl, ol, ea, hbl0, rg0⟩ := pk_range HL.out hk
        subst ea
        have rg := range_below rg0 hbl0 HBB.out
        obtain ⟨b, hb0⟩ : ∃ b, (f (lastS f S (ks.take i)) k).2 = b := ⟨_, rfl⟩
        have HTB : Hid ((f (lastS f S (ks.take i)) k).2 = b) := hb0
        obtain ⟨s, hs0⟩ : ∃ s, lastS f S (ks.take (i + 1)) = s := ⟨_, rfl⟩
        have HSN : Hid (lastS f S (ks.take (i + 1)) = s) := hs0
        obtain ⟨bt, ot, eat, hbt, yt⟩ := HST.out i _ (bol_at (tk_get ks S i k hk))
        subst eat
        rw [hb0] at yt
        have gs : (S :: stsF f S ks)[i + 1]? = some s := by rw [sts_get _ _ _ (by rw [HKN.out]; omega), hs0]
        obtain ⟨ba, oa, eaa, hba, ya⟩ := HSA.out (i + 1) _ (str_at gs)
        subst eaa
        have yt' := cell_grow yt HB.out
        have HiN : Hid ((i : Int) + 1 < N ∧ ((i : Int) + 1).toNat = i + 1 ∧ 0 ≤ (i : Int) + 1 ∧ IntKind.i64.wrap ((i : Int) + 1) = (i : Int) + 1) := ⟨by have := HNN.out; omega, by omega, by omega, by rw [IntKind.wrap_i64]; omega⟩
        have yt0 := yt
        clear hk rg0 hb0 hs0 gs yt yt'
        have t3 : True := trivial
        have t4 : True := trivial
        have t5 : True := trivial
        cases b with
        | false =>
          have HTF : Hid (plP f S (ks.take (i + 1)) = plP f S (ks.take i) ∧ plS f S (ks.take (i + 1)) = plS f S (ks.take i)) := by
            show _ ∧ _
            rw [HTK.out, plP_snoc, plS_snoc, HTB.out]; simp
          go_wp2_with (first
            | (clear t3; refine wpList_load_mid rfl 35 _ rfl bl (ol + i * 3) rfl (pkL k) _ rg Try.underlying35 rfl infoPk ?_)
            | (clear t4; refine wpList_allocS rfl 35 rfl (pkL pk0) zeroPk ?_; intro W4 b4 F4 K4; have R4 := Below.then HB.out (F_b F4); have O4 := own_below HO8.out (F_b F4); have Q4 := own_below HO9.out (F_b F4); have hc4 : W2.heap.size ≤ b4 := Nat.le_trans HB.out.size (Nat.le_of_eq F4.at'.symm); have ho4 : ∀ k, (Value.slice a8 m c8).ownBlock = some k → k ≠ b4 := (fun k hk e => by have h1 := (own_lt HO8.out hk).2; have h2 := F4.at'; omega); clear F4)
            | (clear t5; refine wpList_storeW rfl 35 _ _ rfl rfl (pkL k) rfl K4 rfl infoPk (pk_oneC _) ?_; intro W5 U5 K5; have O5 := own_same O4 (fun k hk => U5.block k (ho4 k hk)); have Q5 := own_updT Q4 K4 U5 (by decide); have R5 := U5.trans R4 hc4; have yt5 := cell_grow yt0 R5; clear K4 U5 O4 Q4 R4))
          have HO2 : Hid (W5.ownsRow W2.heap.size 35 3 (.slice a8 m c8) m ((plP f S (ks.take (i + 1))).flatMap pkL)) := (by
            show World.ownsRow _ _ _ _ _ _ _
            rw [HTF.out.1]; exact O5)
          have HQ2 : Hid (W5.ownsRow W2.heap.size 9 1 (.slice a9 (m + 1) c9) (m + 1) ((S :: plS f S (ks.take (i + 1))).flatMap strE)) := (by
            show World.ownsRow _ _ _ _ _ _ _
            rw [HTF.out.2]; exact Q5)
          have HM2 : Hid (m = (plP f S (ks.take (i + 1))).length) := (by show _ = _; rw [HTF.out.1]; exact HMM.out)
          clear O5 Q5 K5
          go_roundw
          case rel => exact ⟨i + 1, m, by omega, by go_num, ⟨_, _, rfl⟩, ⟨_, _, rfl⟩, by omega, HM2, HO2, HQ2, R5⟩
          case measure => simp [intOf]; omega
        | true =>
          have HTF : Hid (plP f S (ks.take (i + 1)) = plP f S (ks.take i) ++ [k] ∧ plS f S (ks.take (i + 1)) = plS f S (ks.take i) ++ [s]) := by
            show _ ∧ _
            rw [← HSN.out, HTK.out, plP_snoc, plS_snoc, last_snoc, HTB.out]; simp
          go_wp2_with (first
            | (clear t3; refine wpList_load_mid rfl 35 _ rfl bl (ol + i * 3) rfl (pkL k) _ rg Try.underlying35 rfl infoPk ?_)
            | (clear t4; refine wpList_allocS rfl 35 rfl (pkL pk0) zeroPk ?_; intro W4 b4 F4 K4; have R4 := Below.then HB.out (F_b F4); have O4 := own_below HO8.out (F_b F4); have Q4 := own_below HO9.out (F_b F4); have hc4 : W2.heap.size ≤ b4 := Nat.le_trans HB.out.size (Nat.le_of_eq F4.at'.symm); have ho4 : ∀ k, (Value.slice a8 m c8).ownBlock = some k → k ≠ b4 := (fun k hk e => by have h1 := (own_lt HO8.out hk).2; have h2 := F4.at'; omega); clear F4)
            | (clear t5; refine wpList_storeW rfl 35 _ _ rfl rfl (pkL k) rfl K4 rfl infoPk (pk_oneC _) ?_; intro W5 U5 K5; have O5 := own_same O4 (fun k hk => U5.block k (ho4 k hk)); have Q5 := own_updT Q4 K4 U5 (by decide); have R5 := U5.trans R4 hc4; have yt5 := cell_grow yt0 R5; clear K4 U5 O4 Q4 R4))
          have HBx : Hid (Below W2.heap.size W2 W5) := R5
          clear R5 yt5
          refine region_invA 12 (fun a0 listed a' w' => ∃ x33 x34 x35 x36 x37 x38 x39 x40 x41 x42 x43 x44 : Value, a' = ((((((((((((a0.put (some 33) x33).put (some 34) x34).put (some 35) x35).put (some 36) x36).put (some 37) x37).put (some 38) x38).put (some 39) x39).put (some 40) x40).put (some 41) x41).put (some 42) x42).put (some 43) x43).put (some 44) x44) ∧ Hid (Below W2.heap.size W2 w') ∧ (listed.getD 3 false = false → IsS w' b4 35 (pkL k)) ∧ (listed.getD 3 false = false → w'.ownsRow W2.heap.size 35 3 (.slice a8 m c8) m ((plP f S (ks.take i)).flatMap pkL)) ∧ (listed.getD 11 false = false → w'.ownsRow W2.heap.size 9 1 (.slice a9 (m + 1) c9) (m + 1) ((S :: plS f S (ks.take i)).flatMap strE)) ∧ (listed.getD 2 false = true → listed.getD 1 false = true) ∧ (listed.getD 3 false = true → listed.getD 1 false = true) ∧ (listed.getD 3 false = true → listed.getD 2 false = true) ∧ (listed.getD 11 false = true → listed.getD 3 false = true) ∧ (listed.getD 11 false = true → listed.getD 10 false = true) ∧ (listed.getD 0 false = true → x33 = (.slice a8 m c8)) ∧ (listed.getD 1 false = true → x34 = .agg (pkL k).toArray) ∧ (listed.getD 2 false = true → listed.getD 3 false = false → ∃ b, x35 = .slice (some ⟨b, 0, none⟩) 1 1 ∧ IsS w' b 35 (pkL k)) ∧ (listed.getD 3 false = true → w'.ownsRow W2.heap.size 35 3 x36 (m + 1) (((plP f S (ks.take i)).flatMap pkL) ++ pkL k)) ∧ (listed.getD 4 false = true → x37 = (.slice a9 (m + 1) c9)) ∧ (listed.getD 5 false = true → x38 = (.slice (some ⟨ba, oa, none⟩) N ca)) ∧ (listed.getD 6 false = true → x39 = (.int .i64 (i : Int))) ∧ (listed.getD 7 false = true → x40 = (.int .i64 ((i : Int) + 1))) ∧ (listed.getD 8 false = true → x41 = (.pointer (some ⟨ba, oa + (i + 1), none⟩))) ∧ (listed.getD 9 false = true → x42 = .string s) ∧ (listed.getD 10 false = true → listed.getD 11 false = false → ∃ b, x43 = .slice (some ⟨b, 0, none⟩) 1 1 ∧ IsS w' b 9 [.string s]) ∧ (listed.getD 11 false = true → w'.ownsRow W2.heap.size 9 1 x44 (m + 1 + 1) (((S :: plS f S (ks.take i)).flatMap strE) ++ [.string s]))) (by kernel_rfl) (by kernel_rfl) ?i0b ?istepb ?iendb
          case i0b => exact ⟨_, _, _, _, _, _, _, _, _, _, _, _, by first | (simp only [Act.put, List.setIfInBounds_toArray, List.set_cons_succ, List.set_cons_zero]; done) | (simp only [Act.put, List.setIfInBounds_toArray, List.set_cons_succ, List.set_cons_zero]; rfl) | rfl, below_drew HBx.out, fun _ => K5.grown (below_drew (Below.refl _ _)), fun _ => own_below O5 (below_drew (Below.refl _ _)), fun _ => own_below Q5 (below_drew (Below.refl _ _)), fun h => (not_rep h).elim, fun h => (not_rep h).elim, fun h => (not_rep h).elim, fun h => (not_rep h).elim, fun h => (not_rep h).elim, fun h => (not_rep h).elim, fun h => (not_rep h).elim, fun h => (not_rep h).elim, fun h => (not_rep h).elim, fun h => (not_rep h).elim, fun h => (not_rep h).elim, fun h => (not_rep h).elim, fun h => (not_rep h).elim, fun h => (not_rep h).elim, fun h => (not_rep h).elim, fun h => (not_rep h).elim, fun h => (not_rep h).elim⟩
          case istepb =>
            rintro i listed a' w' hi hr ⟨x33, x34, x35, x36, x37, x38, x39, x40, x41, x42, x43, x44, rfl, HBw, p0, p1, p2, m2_1, m3_1, m3_2, m11_3, m11_10, d0, d1, d2, d3, d4, d5, d6, d7, d8, d9, d10, d11⟩
            obtain ⟨hun, oj, hoj, hwt⟩ := mem_ready.1 hr
            simp only [Act.put, List.setIfInBounds_toArray, List.set_cons_succ, List.set_cons_zero]
            have hcase : i = 0 ∨ i = 1 ∨ i = 2 ∨ i = 3 ∨ i = 4 ∨ i = 5 ∨ i = 6 ∨ i = 7 ∨ i = 8 ∨ i = 9 ∨ i = 10 ∨ i = 11 := by omega
            rcases hcase with rfl | rfl | rfl | rfl | rfl | rfl | rfl | rfl | rfl | rfl | rfl | rfl
            · have hoj2 := hoj
              obtain rfl := Option.some.inj hoj
              refine wpOp_value hoj2 rfl (v := (.slice a8 m c8)) (w' := w') (by first | rfl | (go_simp; done) | (simp [go_sem]; done) | (simp [execOp, go_sem]; done)) ?_
              exact ⟨(.slice a8 m c8), x34, x35, x36, x37, x38, x39, x40, x41, x42, x43, x44, by first | (simp only [Act.put, List.setIfInBounds_toArray, List.set_cons_succ, List.set_cons_zero]; done) | (simp only [Act.put, List.setIfInBounds_toArray, List.set_cons_succ, List.set_cons_zero]; rfl) | rfl, HBw, fun h => (p0 (keepG (by decide) h)), fun h => (p1 (keepG (by decide) h)), fun h => (p2 (keepG (by decide) h)), fun h => keepT (m2_1 (keep (by decide) h)), fun h => keepT (m3_1 (keep (by decide) h)), fun h => keepT (m3_2 (keep (by decide) h)), fun h => keepT (m11_3 (keep (by decide) h)), fun h => keepT (m11_10 (keep (by decide) h)), fun _ => rfl, fun h => (d1 (keep (by decide) h)), fun h h2 => (d2 (keep (by decide) h) (keepG (by decide) h2)), fun h => (d3 (keep (by decide) h)), fun h => (d4 (keep (by decide) h)), fun h => (d5 (keep (by decide) h)), fun h => (d6 (keep (by decide) h)), fun h => (d7 (keep (by decide) h)), fun h => (d8 (keep (by decide) h)), fun h => (d9 (keep (by decide) h)), fun h h2 => (d10 (keep (by decide) h) (keepG (by decide) h2)), fun h => (d11 (keep (by decide) h))⟩
            · have hoj2 := hoj
              obtain rfl := Option.some.inj hoj
              have q0 := p0 (by cases hq : listed.getD 3 false with | false => rfl | true => exact absurd (m3_1 hq) (by rw [getD_both hun]; simp))
              have q1 := p1 (by cases hq : listed.getD 3 false with | false => rfl | true => exact absurd (m3_1 hq) (by rw [getD_both hun]; simp))
              refine wpOp_value hoj2 rfl (v := .agg (pkL k).toArray) (w' := w') (exec_loadSX rfl rfl q0 Try.underlying35 rfl infoPk) ?_
              exact ⟨x33, (.agg (pkL k).toArray), x35, x36, x37, x38, x39, x40, x41, x42, x43, x44, by first | (simp only [Act.put, List.setIfInBounds_toArray, List.set_cons_succ, List.set_cons_zero]; done) | (simp only [Act.put, List.setIfInBounds_toArray, List.set_cons_succ, List.set_cons_zero]; rfl) | rfl, HBw, fun h => (p0 (keepG (by decide) h)), fun h => (p1 (keepG (by decide) h)), fun h => (p2 (keepG (by decide) h)), fun h => keepT (m2_1 (keep (by decide) h)), fun h => keepT (m3_1 (keep (by decide) h)), fun h => keepT (m3_2 (keep (by decide) h)), fun h => keepT (m11_3 (keep (by decide) h)), fun h => keepT (m11_10 (keep (by decide) h)), fun h => (d0 (keep (by decide) h)), fun _ => rfl, fun h => absurd (m2_1 (keep (by decide) h)) (by rw [getD_both hun]; simp), fun h => absurd (m3_1 (keep (by decide) h)) (by rw [getD_both hun]; simp), fun h => (d4 (keep (by decide) h)), fun h => (d5 (keep (by decide) h)), fun h => (d6 (keep (by decide) h)), fun h => (d7 (keep (by decide) h)), fun h => (d8 (keep (by decide) h)), fun h => (d9 (keep (by decide) h)), fun h h2 => (d10 (keep (by decide) h) (keepG (by decide) h2)), fun h => (d11 (keep (by decide) h))⟩
            · have hoj2 := hoj
              obtain rfl := Option.some.inj hoj
              have e1 := d1 (hwt ⟨1, .data⟩ (by simp) rfl)
              have q0 := p0 (by cases hq : listed.getD 3 false with | false => rfl | true => exact absurd (m3_2 hq) (by rw [getD_both hun]; simp))
              have q1 := p1 (by cases hq : listed.getD 3 false with | false => rfl | true => exact absurd (m3_2 hq) (by rw [getD_both hun]; simp))
              subst e1
              refine wpOp_value hoj2 rfl (exec_build1P _ rfl k rfl) ?_
              have B9 := F_b (Fresh.alloc w' (.cells (pkL k).toArray 35))
              exact ⟨x33, _, _, x36, x37, x38, x39, x40, x41, x42, x43, x44, by first | (simp only [Act.put, List.setIfInBounds_toArray, List.set_cons_succ, List.set_cons_zero]; done) | (simp only [Act.put, List.setIfInBounds_toArray, List.set_cons_succ, List.set_cons_zero]; rfl) | rfl, hb_then HBw B9, fun h => (IsS.grown (p0 (keepG (by decide) h)) B9), fun h => (own_below (p1 (keepG (by decide) h)) B9), fun h => (own_below (p2 (keepG (by decide) h)) B9), fun _ => keepT (hwt ⟨1, .data⟩ (by simp) rfl), fun h => keepT (m3_1 (keep (by decide) h)), fun h => keepT (m3_2 (keep (by decide) h)), fun h => keepT (m11_3 (keep (by decide) h)), fun h => keepT (m11_10 (keep (by decide) h)), fun h => (d0 (keep (by decide) h)), fun h => (d1 (keep (by decide) h)), fun _ _ => ⟨_, rfl, IsS.new w' _ _⟩, fun h => absurd (m3_2 (keep (by decide) h)) (by rw [getD_both hun]; simp), fun h => (d4 (keep (by decide) h)), fun h => (d5 (keep (by decide) h)), fun h => (d6 (keep (by decide) h)), fun h => (d7 (keep (by decide) h)), fun h => (d8 (keep (by decide) h)), fun h => (d9 (keep (by decide) h)), fun h h2 => (Exists.elim (d10 (keep (by decide) h) (keepG (by decide) h2)) fun b h => ⟨b, h.1, h.2.grown B9⟩), fun h => (own_below (d11 (keep (by decide) h)) B9)⟩
            · have hoj2 := hoj
              obtain rfl := Option.some.inj hoj
              have e0 := d0 (hwt ⟨0, .data⟩ (by simp) rfl)
              have e2 := d2 (hwt ⟨2, .data⟩ (by simp) rfl) (getD_both hun)
              have q0 := p0 (getD_both hun)
              have q1 := p1 (getD_both hun)
              have q2 := p2 (by cases hq : listed.getD 11 false with | false => rfl | true => exact absurd (m11_3 hq) (by rw [getD_both hun]; simp))
              subst e0
              obtain ⟨b35, rfl, I35⟩ := e2
              obtain ⟨v9, w9, hr9, O9, G9⟩ := run_appM ePk W2.heap.size _ m _ q1 _ 1 (pkL k) (row_isS I35) rfl (pk_oneC _) (by omega) HBw.out.size _
              refine wpOp_value hoj2 rfl (exec_app _ _ rfl rfl rfl hr9) ?_
              have HBa : Hid (Below W2.heap.size W2 w9) := grown_below HBw.out HBw.out.size q1 G9
              exact ⟨_, x34, _, _, x37, x38, x39, x40, x41, x42, x43, x44, by first | (simp only [Act.put, List.setIfInBounds_toArray, List.set_cons_succ, List.set_cons_zero]; done) | (simp only [Act.put, List.setIfInBounds_toArray, List.set_cons_succ, List.set_cons_zero]; rfl) | rfl, HBa, fun h => absurd h (by rw [nowU hun]; simp), fun h => absurd h (by rw [nowU hun]; simp), fun h => (own_grow (p2 (keepG (by decide) h)) q1 G9 (by decide)), fun h => keepT (m2_1 (keep (by decide) h)), fun _ => keepT (m2_1 (hwt ⟨2, .data⟩ (by simp) rfl)), fun _ => keepT (hwt ⟨2, .data⟩ (by simp) rfl), fun h => keepT (m11_3 (keep (by decide) h)), fun h => keepT (m11_10 (keep (by decide) h)), fun h => (d0 (keep (by decide) h)), fun h => (d1 (keep (by decide) h)), fun _ h => absurd h (by rw [nowU hun]; simp), fun _ => O9, fun h => (d4 (keep (by decide) h)), fun h => (d5 (keep (by decide) h)), fun h => (d6 (keep (by decide) h)), fun h => (d7 (keep (by decide) h)), fun h => (d8 (keep (by decide) h)), fun h => (d9 (keep (by decide) h)), fun h h2 => (Exists.elim (d10 (keep (by decide) h) (keepG (by decide) h2)) fun b h => ⟨b, h.1, isS_growT h.2 q1 G9 (by decide)⟩), fun h => absurd (m11_3 (keep (by decide) h)) (by rw [getD_both hun]; simp)⟩
            · have hoj2 := hoj
              obtain rfl := Option.some.inj hoj
              refine wpOp_value hoj2 rfl (v := (.slice a9 (m + 1) c9)) (w' := w') (by first | rfl | (go_simp; done) | (simp [go_sem]; done) | (simp [execOp, go_sem]; done)) ?_
              exact ⟨x33, x34, x35, x36, (.slice a9 (m + 1) c9), x38, x39, x40, x41, x42, x43, x44, by first | (simp only [Act.put, List.setIfInBounds_toArray, List.set_cons_succ, List.set_cons_zero]; done) | (simp only [Act.put, List.setIfInBounds_toArray, List.set_cons_succ, List.set_cons_zero]; rfl) | rfl, HBw, fun h => (p0 (keepG (by decide) h)), fun h => (p1 (keepG (by decide) h)), fun h => (p2 (keepG (by decide) h)), fun h => keepT (m2_1 (keep (by decide) h)), fun h => keepT (m3_1 (keep (by decide) h)), fun h => keepT (m3_2 (keep (by decide) h)), fun h => keepT (m11_3 (keep (by decide) h)), fun h => keepT (m11_10 (keep (by decide) h)), fun h => (d0 (keep (by decide) h)), fun h => (d1 (keep (by decide) h)), fun h h2 => (d2 (keep (by decide) h) (keepG (by decide) h2)), fun h => (d3 (keep (by decide) h)), fun _ => rfl, fun h => (d5 (keep (by decide) h)), fun h => (d6 (keep (by decide) h)), fun h => (d7 (keep (by decide) h)), fun h => (d8 (keep (by decide) h)), fun h => (d9 (keep (by decide) h)), fun h h2 => (d10 (keep (by decide) h) (keepG (by decide) h2)), fun h => (d11 (keep (by decide) h))⟩
            · have hoj2 := hoj
              obtain rfl := Option.some.inj hoj
              refine wpOp_value hoj2 rfl (v := (.slice (some ⟨ba, oa, none⟩) N ca)) (w' := w') (by first | rfl | (go_simp; done) | (simp [go_sem]; done) | (simp [execOp, go_sem]; done)) ?_
              exact ⟨x33, x34, x35, x36, x37, (.slice (some ⟨ba, oa, none⟩) N ca), x39, x40, x41, x42, x43, x44, by first | (simp only [Act.put, List.setIfInBounds_toArray, List.set_cons_succ, List.set_cons_zero]; done) | (simp only [Act.put, List.setIfInBounds_toArray, List.set_cons_succ, List.set_cons_zero]; rfl) | rfl, HBw, fun h => (p0 (keepG (by decide) h)), fun h => (p1 (keepG (by decide) h)), fun h => (p2 (keepG (by decide) h)), fun h => keepT (m2_1 (keep (by decide) h)), fun h => keepT (m3_1 (keep (by decide) h)), fun h => keepT (m3_2 (keep (by decide) h)), fun h => keepT (m11_3 (keep (by decide) h)), fun h => keepT (m11_10 (keep (by decide) h)), fun h => (d0 (keep (by decide) h)), fun h => (d1 (keep (by decide) h)), fun h h2 => (d2 (keep (by decide) h) (keepG (by decide) h2)), fun h => (d3 (keep (by decide) h)), fun h => (d4 (keep (by decide) h)), fun _ => rfl, fun h => (d6 (keep (by decide) h)), fun h => (d7 (keep (by decide) h)), fun h => (d8 (keep (by decide) h)), fun h => (d9 (keep (by decide) h)), fun h h2 => (d10 (keep (by decide) h) (keepG (by decide) h2)), fun h => (d11 (keep (by decide) h))⟩
            · have hoj2 := hoj
              obtain rfl := Option.some.inj hoj
              refine wpOp_value hoj2 rfl (v := (.int .i64 (i : Int))) (w' := w') (by first | rfl | (go_simp; done) | (simp [go_sem]; done) | (simp [execOp, go_sem]; done)) ?_
              exact ⟨x33, x34, x35, x36, x37, x38, (.int .i64 (i : Int)), x40, x41, x42, x43, x44, by first | (simp only [Act.put, List.setIfInBounds_toArray, List.set_cons_succ, List.set_cons_zero]; done) | (simp only [Act.put, List.setIfInBounds_toArray, List.set_cons_succ, List.set_cons_zero]; rfl) | rfl, HBw, fun h => (p0 (keepG (by decide) h)), fun h => (p1 (keepG (by decide) h)), fun h => (p2 (keepG (by decide) h)), fun h => keepT (m2_1 (keep (by decide) h)), fun h => keepT (m3_1 (keep (by decide) h)), fun h => keepT (m3_2 (keep (by decide) h)), fun h => keepT (m11_3 (keep (by decide) h)), fun h => keepT (m11_10 (keep (by decide) h)), fun h => (d0 (keep (by decide) h)), fun h => (d1 (keep (by decide) h)), fun h h2 => (d2 (keep (by decide) h) (keepG (by decide) h2)), fun h => (d3 (keep (by decide) h)), fun h => (d4 (keep (by decide) h)), fun h => (d5 (keep (by decide) h)), fun _ => rfl, fun h => (d7 (keep (by decide) h)), fun h => (d8 (keep (by decide) h)), fun h => (d9 (keep (by decide) h)), fun h h2 => (d10 (keep (by decide) h) (keepG (by decide) h2)), fun h => (d11 (keep (by decide) h))⟩
            · have hoj2 := hoj
              obtain rfl := Option.some.inj hoj
              have e6 := d6 (hwt ⟨6, .data⟩ (by simp) rfl)
              subst e6
              refine wpOp_value hoj2 rfl (v := (.int .i64 ((i : Int) + 1))) (w' := w') (by first | (simp [execOp, go_sem, HiN.out.2.2.2]; done)) ?_
              exact ⟨x33, x34, x35, x36, x37, x38, _, (.int .i64 ((i : Int) + 1)), x41, x42, x43, x44, by first | (simp only [Act.put, List.setIfInBounds_toArray, List.set_cons_succ, List.set_cons_zero]; done) | (simp only [Act.put, List.setIfInBounds_toArray, List.set_cons_succ, List.set_cons_zero]; rfl) | rfl, HBw, fun h => (p0 (keepG (by decide) h)), fun h => (p1 (keepG (by decide) h)), fun h => (p2 (keepG (by decide) h)), fun h => keepT (m2_1 (keep (by decide) h)), fun h => keepT (m3_1 (keep (by decide) h)), fun h => keepT (m3_2 (keep (by decide) h)), fun h => keepT (m11_3 (keep (by decide) h)), fun h => keepT (m11_10 (keep (by decide) h)), fun h => (d0 (keep (by decide) h)), fun h => (d1 (keep (by decide) h)), fun h h2 => (d2 (keep (by decide) h) (keepG (by decide) h2)), fun h => (d3 (keep (by decide) h)), fun h => (d4 (keep (by decide) h)), fun h => (d5 (keep (by decide) h)), fun h => (d6 (keep (by decide) h)), fun _ => rfl, fun h => (d8 (keep (by decide) h)), fun h => (d9 (keep (by decide) h)), fun h h2 => (d10 (keep (by decide) h) (keepG (by decide) h2)), fun h => (d11 (keep (by decide) h))⟩
            · have hoj2 := hoj
              obtain rfl := Option.some.inj hoj
              have e5 := d5 (hwt ⟨5, .data⟩ (by simp) rfl)
              have e7 := d7 (hwt ⟨7, .data⟩ (by simp) rfl)
              subst e5 e7
              refine wpOp_value hoj2 rfl (v := (.pointer (some ⟨ba, oa + (i + 1), none⟩))) (w' := w') (by first | (simp [execOp, go_sem, HiN.out.1, HiN.out.2.1, HiN.out.2.2.1]; done)) ?_
              exact ⟨x33, x34, x35, x36, x37, _, x39, _, (.pointer (some ⟨ba, oa + (i + 1), none⟩)), x42, x43, x44, by first | (simp only [Act.put, List.setIfInBounds_toArray, List.set_cons_succ, List.set_cons_zero]; done) | (simp only [Act.put, List.setIfInBounds_toArray, List.set_cons_succ, List.set_cons_zero]; rfl) | rfl, HBw, fun h => (p0 (keepG (by decide) h)), fun h => (p1 (keepG (by decide) h)), fun h => (p2 (keepG (by decide) h)), fun h => keepT (m2_1 (keep (by decide) h)), fun h => keepT (m3_1 (keep (by decide) h)), fun h => keepT (m3_2 (keep (by decide) h)), fun h => keepT (m11_3 (keep (by decide) h)), fun h => keepT (m11_10 (keep (by decide) h)), fun h => (d0 (keep (by decide) h)), fun h => (d1 (keep (by decide) h)), fun h h2 => (d2 (keep (by decide) h) (keepG (by decide) h2)), fun h => (d3 (keep (by decide) h)), fun h => (d4 (keep (by decide) h)), fun h => (d5 (keep (by decide) h)), fun h => (d6 (keep (by decide) h)), fun h => (d7 (keep (by decide) h)), fun _ => rfl, fun h => (d9 (keep (by decide) h)), fun h h2 => (d10 (keep (by decide) h) (keepG (by decide) h2)), fun h => (d11 (keep (by decide) h))⟩
            · have hoj2 := hoj
              obtain rfl := Option.some.inj hoj
              have e8 := d8 (hwt ⟨8, .data⟩ (by simp) rfl)
              subst e8
              refine wpOp_cell hoj2 rfl 9 _ rfl rfl (v := .string s) (ld9 w' (cell_grow ya HBw.out)) ?_
              exact ⟨x33, x34, x35, x36, x37, x38, x39, x40, _, (.string s), x43, x44, by first | (simp only [Act.put, List.setIfInBounds_toArray, List.set_cons_succ, List.set_cons_zero]; done) | (simp only [Act.put, List.setIfInBounds_toArray, List.set_cons_succ, List.set_cons_zero]; rfl) | rfl, HBw, fun h => (p0 (keepG (by decide) h)), fun h => (p1 (keepG (by decide) h)), fun h => (p2 (keepG (by decide) h)), fun h => keepT (m2_1 (keep (by decide) h)), fun h => keepT (m3_1 (keep (by decide) h)), fun h => keepT (m3_2 (keep (by decide) h)), fun h => keepT (m11_3 (keep (by decide) h)), fun h => keepT (m11_10 (keep (by decide) h)), fun h => (d0 (keep (by decide) h)), fun h => (d1 (keep (by decide) h)), fun h h2 => (d2 (keep (by decide) h) (keepG (by decide) h2)), fun h => (d3 (keep (by decide) h)), fun h => (d4 (keep (by decide) h)), fun h => (d5 (keep (by decide) h)), fun h => (d6 (keep (by decide) h)), fun h => (d7 (keep (by decide) h)), fun h => (d8 (keep (by decide) h)), fun _ => rfl, fun h h2 => (d10 (keep (by decide) h) (keepG (by decide) h2)), fun h => (d11 (keep (by decide) h))⟩
            · have hoj2 := hoj
              obtain rfl := Option.some.inj hoj
              have e9 := d9 (hwt ⟨9, .data⟩ (by simp) rfl)
              have q2 := p2 (by cases hq : listed.getD 11 false with | false => rfl | true => exact absurd (m11_10 hq) (by rw [getD_both hun]; simp))
              subst e9
              refine wpOp_value hoj2 rfl (exec_build1 eStr _ rfl (.string s) rfl rfl) ?_
              have B9 := F_b (Fresh.alloc w' (.cells #[.string s] 9))
              exact ⟨x33, x34, x35, x36, x37, x38, x39, x40, x41, _, _, x44, by first | (simp only [Act.put, List.setIfInBounds_toArray, List.set_cons_succ, List.set_cons_zero]; done) | (simp only [Act.put, List.setIfInBounds_toArray, List.set_cons_succ, List.set_cons_zero]; rfl) | rfl, hb_then HBw B9, fun h => (IsS.grown (p0 (keepG (by decide) h)) B9), fun h => (own_below (p1 (keepG (by decide) h)) B9), fun h => (own_below (p2 (keepG (by decide) h)) B9), fun h => keepT (m2_1 (keep (by decide) h)), fun h => keepT (m3_1 (keep (by decide) h)), fun h => keepT (m3_2 (keep (by decide) h)), fun h => keepT (m11_3 (keep (by decide) h)), fun h => keepT (m11_10 (keep (by decide) h)), fun h => (d0 (keep (by decide) h)), fun h => (d1 (keep (by decide) h)), fun h h2 => (Exists.elim (d2 (keep (by decide) h) (keepG (by decide) h2)) fun b h => ⟨b, h.1, h.2.grown B9⟩), fun h => (own_below (d3 (keep (by decide) h)) B9), fun h => (d4 (keep (by decide) h)), fun h => (d5 (keep (by decide) h)), fun h => (d6 (keep (by decide) h)), fun h => (d7 (keep (by decide) h)), fun h => (d8 (keep (by decide) h)), fun h => (d9 (keep (by decide) h)), fun _ _ => ⟨_, rfl, IsS.new w' 9 [.string s]⟩, fun h => absurd (m11_10 (keep (by decide) h)) (by rw [getD_both hun]; simp)⟩
            · have hoj2 := hoj
              obtain rfl := Option.some.inj hoj
              have e4 := d4 (hwt ⟨4, .data⟩ (by simp) rfl)
              have e10 := d10 (hwt ⟨10, .data⟩ (by simp) rfl) (getD_both hun)
              have e3 := d3 (hwt ⟨3, .chain⟩ (by simp) rfl)
              have q2 := p2 (getD_both hun)
              subst e4
              obtain ⟨b43, rfl, I43⟩ := e10
              obtain ⟨v9, w9, hr9, O9, G9⟩ := run_appM eStr W2.heap.size _ (m + 1) _ q2 _ 1 [.string s] (row_isS I43) rfl (str_one1 _) (by omega) HBw.out.size _
              refine wpOp_value hoj2 rfl (exec_app _ _ rfl rfl rfl hr9) ?_
              have HBa : Hid (Below W2.heap.size W2 w9) := grown_below HBw.out HBw.out.size q2 G9
              exact ⟨x33, x34, x35, x36, _, x38, x39, x40, x41, x42, _, _, by first | (simp only [Act.put, List.setIfInBounds_toArray, List.set_cons_succ, List.set_cons_zero]; done) | (simp only [Act.put, List.setIfInBounds_toArray, List.set_cons_succ, List.set_cons_zero]; rfl) | rfl, HBa, fun h => absurd (keepG (by decide) h) (by rw [(hwt ⟨3, .chain⟩ (by simp) rfl)]; simp), fun h => absurd (keepG (by decide) h) (by rw [(hwt ⟨3, .chain⟩ (by simp) rfl)]; simp), fun h => absurd h (by rw [nowU hun]; simp), fun h => keepT (m2_1 (keep (by decide) h)), fun h => keepT (m3_1 (keep (by decide) h)), fun h => keepT (m3_2 (keep (by decide) h)), fun _ => keepT (hwt ⟨3, .chain⟩ (by simp) rfl), fun _ => keepT (hwt ⟨10, .data⟩ (by simp) rfl), fun h => (d0 (keep (by decide) h)), fun h => (d1 (keep (by decide) h)), fun _ h => absurd (keepG (by decide) h) (by rw [(hwt ⟨3, .chain⟩ (by simp) rfl)]; simp), fun h => (own_grow (d3 (keep (by decide) h)) q2 G9 (by decide)), fun h => (d4 (keep (by decide) h)), fun h => (d5 (keep (by decide) h)), fun h => (d6 (keep (by decide) h)), fun h => (d7 (keep (by decide) h)), fun h => (d8 (keep (by decide) h)), fun h => (d9 (keep (by decide) h)), fun _ h => absurd h (by rw [nowU hun]; simp), fun _ => O9⟩
          case iendb =>
            rintro a' w' ⟨x33, x34, x35, x36, x37, x38, x39, x40, x41, x42, x43, x44, rfl, HBw, p0, p1, p2, m2_1, m3_1, m3_2, m11_3, m11_10, d0, d1, d2, d3, d4, d5, d6, d7, d8, d9, d10, d11⟩
            replace d0 := d0 rfl
            replace d1 := d1 rfl
            replace d3 := d3 rfl
            replace d4 := d4 rfl
            replace d5 := d5 rfl
            replace d6 := d6 rfl
            replace d7 := d7 rfl
            replace d8 := d8 rfl
            replace d9 := d9 rfl
            replace d11 := d11 rfl
            clear m2_1 m3_1 m3_2 m11_3 m11_10 d2 d10 p0 p1 p2
            simp only [Act.put, List.setIfInBounds_toArray, List.set_cons_succ, List.set_cons_zero]
            simp only [List.drop_succ_cons, List.drop_zero]
            have HO2 : Hid (w'.ownsRow W2.heap.size 35 3 x36 (m + 1) ((plP f S (ks.take (i + 1))).flatMap pkL)) := (by
              show World.ownsRow _ _ _ _ _ _ _
              rw [HTF.out.1, pk_snoc]; exact d3)
            have HQ2 : Hid (w'.ownsRow W2.heap.size 9 1 x44 (m + 1 + 1) ((S :: plS f S (ks.take (i + 1))).flatMap strE)) := (by
              show World.ownsRow _ _ _ _ _ _ _
              rw [HTF.out.2, ← List.cons_append, str_snoc]; exact d11)
            have HM2 : Hid (m + 1 = (plP f S (ks.take (i + 1))).length) := (by show _ = _; rw [HTF.out.1, List.length_append, List.length_singleton, ← HMM.out])
            obtain ⟨x8, y8, ev8⟩ := own_form HO2.out
            subst ev8
            obtain ⟨x10, y10, ev10⟩ := own_form HQ2.out
            subst ev10
            clear d0 d1 d3 d4 d5 d6 d7 d8 d9 d11
            go_wp2_with fail
            go_roundw
            case rel => exact ⟨i + 1, m + 1, by omega, by go_num, ⟨_, _, rfl⟩, ⟨_, _, rfl⟩, by omega, HM2, HO2, HQ2, HBw⟩
            case measure => simp [intOf]; omega
      · have e : i = n := by omega
        subst e
        have hki : ¬ (i : Int) < i := by omega
        have HT : Hid (ks.take i = ks) := (by show ks.take i = ks; rw [← HKN.out]; exact List.take_length)
        have HO2 : Hid (wr.ownsRow W2.heap.size 35 3 (.slice a8 m c8) m ((plP f S ks).flatMap pkL)) := (by have := HO8.out; rw [HT.out] at this; exact this)
        have HQ2 : Hid (wr.ownsRow W2.heap.size 9 1 (.slice a9 (m + 1) c9) (m + 1) ((S :: plS f S ks).flatMap strE)) := (by have := HO9.out; rw [HT.out] at this; exact this)
        have HM2 : Hid (m = (plP f S ks).length) := (by have := HMM.out; rw [HT.out] at this; exact this)
        go_wp2_with fail
        exact HA.out _ _ _ _ HM2.out (own_raise HO2.out HB2.out.size) (own_raise HQ2.out HB2.out.size) HBB.out
end Go.Proofs.Ytmoieckmbimgoaa
