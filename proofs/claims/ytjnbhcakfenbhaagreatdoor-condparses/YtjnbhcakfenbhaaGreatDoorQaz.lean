/- Several texts in one: W9, WA. -/
import Derived.Test.YtjnbhcakfenbhaaGreatDoorQay
/- The reference's reader of conditions: equation. -/
namespace Go.Proofs.YtjnbhcakfenbhaaGreatDoor
open Go.RowKit Go.Shelf M
set_option linter.unusedSimpArgs false
set_option linter.unusedVariables false

section
variable {gs : List GT} {a : Option Addr} {cap base br k0 : Nat}
theorem RC.aside {W W' : World} {σ : CS} {b t : Nat} {cs : List Value} (h : RC gs a cap base br k0 W σ) (hc : IsS W b t cs) (ht : t ≠ 62) (U : Upd W W' b) (hb : base ≤ b) (hne : b ≠ br) : RC gs a cap base br k0 W' σ := by
  obtain ⟨v, g, h1, h2, h3⟩ := h.ex
  have hB : Below base W W' := U.trans (Below.refl base W) hb
  exact ⟨⟨v, g, h1.upd U (Ne.symm hne), own_updF h2 U (own_neN h2 hc ht), h3⟩, toks_low h.toks h.tb hB, h.tb, h.bb, Nat.le_trans h.sz hB.size, h.len, h.from', h.k, h.code⟩
set_option maxRecDepth 100000 in
set_option maxHeartbeats 4000000 in
theorem requation_any (hn : Few gs) (σ : CS) (hF : σ.F = none) (w : World) (hP : RC gs a cap base br k0 w σ) :
    Calls Tryz.prog 120 #[.pointer (some ⟨br, 0, none⟩)] w fun en w' => OutR gs a cap base br k0 w (eqC gs σ) (.int .i64 (eqI gs σ)) en w' := by
  have hsz := hP.sz
  have hbb := hP.bb
  have hbr := hP.lt
  have cI := fun W hP => ris_any (gs := gs) (a := a) (cap := cap) (base := base) (br := br) (k0 := k0) hn σ 0 (by omega) 4 ⟨#[91]⟩ W hP
  have hk6 : (nbrC gs (eqS gs σ)).F = none → k0 < (nbrC gs (eqS gs σ)).k := fun h => by
    have := nbr_more h
    have := (on_eqS gs σ).k
    have := hP.from'
    omega
  have c4 := fun W hP => rsign_any (gs := gs) (a := a) (cap := cap) (base := base) (br := br) (k0 := k0) hn (refC gs σ) ⟨#[61]⟩ W hP
  have c5 := fun W hP => rnumber_any (gs := gs) (a := a) (cap := cap) (base := base) (br := br) (k0 := k0) hn (eqS gs σ) W hP
  have c6 := fun W hP => rnode_any (gs := gs) (a := a) (cap := cap) (base := base) (br := br) (k0 := k0) (nbrC gs (eqS gs σ)) (eqN gs σ) hk6 W hP
  have e4 : signC gs (refC gs σ) (ByteArray.data ⟨#[61]⟩).toList = eqS gs σ := rfl
  rw [e4] at c4
  have e6 : nodeC gs (nbrC gs (eqS gs σ)) (eqN gs σ) = eqC gs σ := rfl
  have e7 : nodeI (nbrC gs (eqS gs σ)) = eqI gs σ := rfl
  rw [e6, e7] at c6
  unfold eqN at c6
  clear hk6 e4 e6 e7
  generalize eqC gs σ = σ9 at *
  generalize eqI gs σ = i9 at *
  generalize nbrX gs (eqS gs σ) = vx at *
  generalize nbrC gs (eqS gs σ) = σ8 at *
  generalize eqS gs σ = σ7 at *
  cases hB : isT gs σ 0 4 [91] with
  | true =>
    rw [show isT gs σ 0 4 (ByteArray.data ⟨#[91]⟩).toList = true from hB] at cI
    have eT : refT gs σ = -1 := if_pos hB
    have eN : refN gs σ = nameX gs (takeC gs σ) := if_pos hB
    have eC : refC gs σ = signC gs (nameC gs (takeC gs σ)) [93] := if_pos hB
    rw [eT, eN] at c6
    rw [eC] at c4
    have c1 := fun W hP => rtake_any (gs := gs) (a := a) (cap := cap) (base := base) (br := br) (k0 := k0) hn σ W hP
    have c2 := fun W hP => rrname_any (gs := gs) (a := a) (cap := cap) (base := base) (br := br) (k0 := k0) hn (takeC gs σ) W hP
    have c3 := fun W hP => rsign_any (gs := gs) (a := a) (cap := cap) (base := base) (br := br) (k0 := k0) hn (nameC gs (takeC gs σ)) ⟨#[93]⟩ W hP
    rw [show signC gs (nameC gs (takeC gs σ)) (ByteArray.data ⟨#[93]⟩).toList = signC gs (nameC gs (takeC gs σ)) [93] from rfl] at c3
    clear eT eN eC hB
    generalize signC gs (nameC gs (takeC gs σ)) [93] = σ3 at *
    generalize nameC gs (takeC gs σ) = σ2 at *
    generalize nameX gs (takeC gs σ) = nm at *
    generalize takeX gs σ = tx at *
    generalize takeC gs σ = σ1 at *
    go_enter Tryz.func120, Tryz.ntmps120
    go_wp2_with (first
      | (refine wpList_allocS rfl 60 rfl [.int .i64 0, .string noName] Tryz.zeroValue60 ?_; intro W0 b3 F0 N0; have B0 := F0.trans (Below.refl _ w) (Nat.le_refl _); have h3 : w.heap.size ≤ b3 := Nat.le_of_eq F0.at'.symm; clear F0)
      | (refine wpList_storeS rfl 60 _ _ rfl rfl [.int .i64 (-1), .string noName] rfl N0 (by simp) (by kernel_rfl) (by intro v hv; simp at hv; rcases hv with rfl | rfl <;> rfl) ?_; intro Wa Ua Nax; have Na : IsS Wa b3 60 [.int .i64 (-1), .string noName] := Nax; have Ba := Ua.trans B0 h3; have Pa := hP.grown Ba; clear Nax Ua N0 B0)
      | (go_at_call 67; refine (cI _ Pa).mono ?_; rintro en W1 ⟨rfl, hW⟩; replace hW := hW.symm; subst hW; clear cI)
      | (go_at_call 68; have Bb := below_lower Ba hsz; refine (c1 _ Pa).mono ?_; rintro en W2 ⟨rfl, P2, Bx, Tx⟩; have B2 : Below base w W2 := Bb.trans Bx; have N2 := Na.turn Tx (by omega); clear c1 Bx Tx Pa Bb Na)
      | (go_at_call 142; refine (c2 _ P2).mono ?_; rintro en W3 ⟨rfl, P3, Bx, Tx⟩; have B3 : Below base w W3 := B2.trans Bx; have N3 := N2.turn Tx (by omega); clear c2 Bx Tx P2 B2 N2)
      | (refine wpList_store1 rfl 9 _ _ rfl rfl (.string nm) rfl N3 (by simp) info9 rfl ?_; intro W4 U4 N4x; have N4 : IsS W4 b3 60 [.int .i64 (-1), .string nm] := N4x; have P4 := P3.aside N3 (by decide) U4 (by omega) (by omega); have B4 : Below base w W4 := U4.trans B3 (by omega); clear N4x U4 P3 B3 N3)
      | (go_at_call 119; refine (c3 _ P4).mono ?_; rintro en W5 ⟨rfl, P5, Bx, Tx⟩; have B5 : Below base w W5 := B4.trans Bx; have N5 := N4.turn Tx (by omega); clear c3 Bx Tx P4 B4 N4)
      | (go_at_call 119; refine (c4 _ P5).mono ?_; rintro en W14 ⟨rfl, P14, Bx, Tx⟩; have B14 : Below base w W14 := B5.trans Bx; have N14 := N5.turn Tx (by omega); clear c4 Bx Tx P5 B5 N5)
      | (go_at_call 144; refine (c5 _ P14).mono ?_; rintro en W15 ⟨rfl, P15, Bx, Tx⟩; have B15 : Below base w W15 := B14.trans Bx; have N15 := N14.turn Tx (by omega); clear c5 Bx Tx P14 B14 N14)
      | (refine wpList_loadP rfl 60 _ rfl rfl N15 2 [.int .i64 (-1), .string nm] rfl _ Tryz.underlying60 rfl (by kernel_rfl) ?_)
      | (go_at_call 69; refine (c6 _ P15).mono ?_; rintro en W16 ⟨rfl, P16, Bx⟩; have B16 : Below base w W16 := B15.trans Bx; clear c6 Bx P15 B15 N15))
    go_ret
    exact ⟨rfl, P16, B16⟩
  | false =>
    rw [show isT gs σ 0 4 (ByteArray.data ⟨#[91]⟩).toList = false from hB] at cI
    obtain ⟨v, t, R, _, _⟩ := hP.ex
    have HR0 : ∀ W, Below w.heap.size w W → W.cell? ⟨br, 0, none⟩ = some (.slice a gs.length cap) ∧ W.cell? ⟨br, 1, none⟩ = some (.int .i64 (CS.k σ : Int)) := fun W B => ⟨(R.grown B).cell 0, (R.grown B).cell 1⟩
    have HR : Hid (∀ W, Below w.heap.size w W → W.cell? ⟨br, 0, none⟩ = some (.slice a gs.length cap) ∧ W.cell? ⟨br, 1, none⟩ = some (.int .i64 (CS.k σ : Int))) := HR0
    clear R HR0
    have no : thrQ gs σ = none → refT gs σ = -1 ∧ refN gs σ = nameX gs σ ∧ refC gs σ = nameC gs σ := fun h => by
      unfold refT refN refC
      rw [if_neg (by rw [hB]; simp), if_neg (by rw [hB]; simp), if_neg (by rw [hB]; simp), h]
      exact ⟨rfl, rfl, rfl⟩
    have yes : ∀ n, thrQ gs σ = some n → refT gs σ = n ∧ refN gs σ = nameX gs (signC gs (takeC gs σ) [58]) ∧ refC gs σ = nameC gs (signC gs (takeC gs σ) [58]) := fun n h => by
      unfold refT refN refC
      rw [if_neg (by rw [hB]; simp), if_neg (by rw [hB]; simp), if_neg (by rw [hB]; simp), h]
      exact ⟨rfl, rfl, rfl⟩
    by_cases hlt : σ.k < gs.length
    · have hT := hP.toks
      obtain ⟨b, o, ea, _, _⟩ := hT _ _ (gAt_lt hlt)
      subst ea
      have HK : Hid (∀ W, Below w.heap.size w W → W.cell? ⟨b, o + CS.k σ * 7, none⟩ = some (.int .i64 (gAt gs (CS.k σ)).kind) ∧ W.cell? ⟨b, o + CS.k σ * 7 + 1, none⟩ = some (.string (gAt gs (CS.k σ)).text)) := fun W hB => by
        obtain ⟨b', o', e, h2, h3⟩ := hT.below hB _ _ (gAt_lt hlt)
        cases e
        exact ⟨h3 0 _ rfl, h3 1 _ rfl⟩
      have hix : (CS.k σ : Int) < gs.length := by omega
      have hge : (CS.k σ : Int) < gs.length := by omega
      by_cases hk2 : (gAt gs σ.k).kind = 2
      · have hsz2 : (gAt gs (CS.k σ)).text.size ≤ maxLen := hn.2 _ (List.mem_of_getElem? (gAt_lt hlt))
        have cTh := fun w => rthread_any (gAt gs (CS.k σ)).text hsz2 w
        have hkd : ((2 : Int) == 2) = true := rfl
        have eq : thrQ gs σ = thrF (gAt gs (CS.k σ)).text.data.toList := if_pos ⟨hlt, hk2⟩
        cases ht : thrF (gAt gs (CS.k σ)).text.data.toList with
        | some m =>
          have eti : thrI (gAt gs (CS.k σ)).text = (m : Int) := by unfold thrI; rw [ht]
          obtain ⟨eT, eN, eC⟩ := yes m (by rw [eq, ht])
          rw [eT, eN] at c6
          rw [eC] at c4
          rw [eti] at cTh
          have hti : (0 : Int) ≤ (m : Int) := by omega
          have e3 : takeX gs σ = gAt gs σ.k := if_neg (by rw [hF]; simp; omega)
          have c1 := fun W hP => rtake_any (gs := gs) (a := some ⟨b, o, none⟩) (cap := cap) (base := base) (br := br) (k0 := k0) hn σ W hP
          have c3 := fun W hP => rsign_any (gs := gs) (a := some ⟨b, o, none⟩) (cap := cap) (base := base) (br := br) (k0 := k0) hn (takeC gs σ) ⟨#[58]⟩ W hP
          rw [show signC gs (takeC gs σ) (ByteArray.data ⟨#[58]⟩).toList = signC gs (takeC gs σ) [58] from rfl] at c3
          have c2 := fun W hP => rrname_any (gs := gs) (a := some ⟨b, o, none⟩) (cap := cap) (base := base) (br := br) (k0 := k0) hn (signC gs (takeC gs σ) [58]) W hP
          rw [e3] at c1
          clear eT eN eC hB no yes eq ht eti e3 hsz2 hT
          generalize nameC gs (signC gs (takeC gs σ) [58]) = σ3 at *
          generalize nameX gs (signC gs (takeC gs σ) [58]) = nm at *
          generalize signC gs (takeC gs σ) [58] = σ2 at *
          generalize takeC gs σ = σ1 at *
          generalize gAt gs (CS.k σ) = g at *
          obtain ⟨q1, gt, q3, q4, q5, q6, q7⟩ := g
          dsimp only [gtL] at c1
          dsimp only at cTh HK hk2
          have hfd : ∀ (w : World), (Instr.field 49 (.agg #[.int .i64 q1, .string gt, .int .i64 q3, .int .i64 q4, .int .i64 q5, .int .i64 q6, .int .i64 q7]) 1).run Tryz.prog w = .ok (.string gt) w := fun w => fld1 _ _ _ _ _ _ _ w
          subst hk2
          generalize (m : Int) = ti at *
          generalize hkk : CS.k σ = k at *
          obtain ⟨n, hnn⟩ : ∃ n, gs.length = n := ⟨_, rfl⟩
          rw [hnn] at HR hix hge hlt
          clear hnn hkk
          go_enter Tryz.func120, Tryz.ntmps120
          go_wp2_with (first
            | (refine wpList_allocS rfl 60 rfl [.int .i64 0, .string noName] Tryz.zeroValue60 ?_; intro W0 b3 F0 N0; have B0 := F0.trans (Below.refl _ w) (Nat.le_refl _); have h3 : w.heap.size ≤ b3 := Nat.le_of_eq F0.at'.symm; clear F0)
            | (refine wpList_storeS rfl 60 _ _ rfl rfl [.int .i64 (-1), .string noName] rfl N0 (by simp) (by kernel_rfl) (by intro v hv; simp at hv; rcases hv with rfl | rfl <;> rfl) ?_; intro Wa Ua Nax; have Na : IsS Wa b3 60 [.int .i64 (-1), .string noName] := Nax; have Ba := Ua.trans B0 h3; have Pa := hP.grown Ba; clear Nax Ua N0 B0)
            | (go_at_call 67; refine (cI _ Pa).mono ?_; rintro en W1 ⟨rfl, hW⟩; replace hW := hW.symm; subst hW; clear cI))
          have c0 : Wa.cell? ⟨br, 0, none⟩ = some (.slice (some ⟨b, o, none⟩) n cap) := (HR.out Wa Ba).1
          have c1' : Wa.cell? ⟨br, 1, none⟩ = some (.int .i64 (k : Int)) := (HR.out Wa Ba).2
          obtain ⟨d0, d1⟩ := HK.out Wa Ba
          refine grow_tailW 39 (by kernel_rfl) (by kernel_rfl) ?_
          simp only [List.take_succ_cons, List.take_zero, List.drop_succ_cons, List.drop_zero]
          refine WG.put rfl (v := .pointer (some ⟨br, 0, none⟩)) (fun w => by first | rfl | (go_simp; done) | (simp [go_sem]; done)) ?_
          simp only [Act.put, List.setIfInBounds_toArray, List.set_cons_succ, List.set_cons_zero]
          refine WG.put rfl (v := .pointer (some ⟨br, 0, none⟩)) (fun w => by first | rfl | (go_simp; done) | (simp [go_sem]; done)) ?_
          simp only [Act.put, List.setIfInBounds_toArray, List.set_cons_succ, List.set_cons_zero]
          refine WG.put rfl (v := .pointer (some ⟨br, 1, none⟩)) (fun w => by first | rfl | (go_simp; done) | (simp [go_sem]; done)) ?_
          simp only [Act.put, List.setIfInBounds_toArray, List.set_cons_succ, List.set_cons_zero]
          refine WG.cell rfl 3 _ rfl rfl c1' ld3 ?_
          simp only [Act.put, List.setIfInBounds_toArray, List.set_cons_succ, List.set_cons_zero]
          refine WG.put rfl (v := .pointer (some ⟨br, 0, none⟩)) (fun w => by first | rfl | (go_simp; done) | (simp [go_sem]; done)) ?_
          simp only [Act.put, List.setIfInBounds_toArray, List.set_cons_succ, List.set_cons_zero]
          refine WG.put rfl (v := .pointer (some ⟨br, 0, none⟩)) (fun w => by first | rfl | (go_simp; done) | (simp [go_sem]; done)) ?_
          simp only [Act.put, List.setIfInBounds_toArray, List.set_cons_succ, List.set_cons_zero]
          refine WG.put rfl (v := .pointer (some ⟨br, 0, none⟩)) (fun w => by first | rfl | (go_simp; done) | (simp [go_sem]; done)) ?_
          simp only [Act.put, List.setIfInBounds_toArray, List.set_cons_succ, List.set_cons_zero]
          refine WG.cell rfl 43 _ rfl rfl c0 ldTk ?_
          simp only [Act.put, List.setIfInBounds_toArray, List.set_cons_succ, List.set_cons_zero]
          refine WG.put rfl (v := .int .i64 (n : Int)) (fun w => by first | rfl | (go_simp; done) | (simp [go_sem]; done)) ?_
          simp only [Act.put, List.setIfInBounds_toArray, List.set_cons_succ, List.set_cons_zero]
          refine WG.put rfl (v := .bool true) (fun w => by first | rfl | (go_simp; done) | (simp [go_sem, hge, hlt]; done)) ?_
          simp only [Act.put, List.setIfInBounds_toArray, List.set_cons_succ, List.set_cons_zero]
          refine WG.put rfl (v := .bool true) (fun w => by first | rfl | (go_simp; done) | (simp [go_sem]; done)) ?_
          simp only [Act.put, List.setIfInBounds_toArray, List.set_cons_succ, List.set_cons_zero]
          refine WG.put rfl (v := .pointer (some ⟨br, 0, none⟩)) (fun w => by first | rfl | (go_simp; done) | (simp [go_sem]; done)) ?_
          simp only [Act.put, List.setIfInBounds_toArray, List.set_cons_succ, List.set_cons_zero]
          refine WG.put rfl (v := .pointer (some ⟨br, 0, none⟩)) (fun w => by first | rfl | (go_simp; done) | (simp [go_sem]; done)) ?_
          simp only [Act.put, List.setIfInBounds_toArray, List.set_cons_succ, List.set_cons_zero]
          refine WG.put rfl (v := .pointer (some ⟨br, 0, none⟩)) (fun w => by first | rfl | (go_simp; done) | (simp [go_sem]; done)) ?_
          simp only [Act.put, List.setIfInBounds_toArray, List.set_cons_succ, List.set_cons_zero]
          refine WG.cell rfl 43 _ rfl rfl c0 ldTk ?_
          simp only [Act.put, List.setIfInBounds_toArray, List.set_cons_succ, List.set_cons_zero]
          refine WG.put rfl (v := .pointer (some ⟨br, 0, none⟩)) (fun w => by first | rfl | (go_simp; done) | (simp [go_sem]; done)) ?_
          simp only [Act.put, List.setIfInBounds_toArray, List.set_cons_succ, List.set_cons_zero]
          refine WG.put rfl (v := .pointer (some ⟨br, 0, none⟩)) (fun w => by first | rfl | (go_simp; done) | (simp [go_sem]; done)) ?_
          simp only [Act.put, List.setIfInBounds_toArray, List.set_cons_succ, List.set_cons_zero]
          refine WG.put rfl (v := .pointer (some ⟨br, 1, none⟩)) (fun w => by first | rfl | (go_simp; done) | (simp [go_sem]; done)) ?_
          simp only [Act.put, List.setIfInBounds_toArray, List.set_cons_succ, List.set_cons_zero]
          refine WG.cell rfl 3 _ rfl rfl c1' ld3 ?_
          simp only [Act.put, List.setIfInBounds_toArray, List.set_cons_succ, List.set_cons_zero]
          refine WG.put rfl (v := .pointer (some ⟨b, o + k * 7, none⟩)) (fun w => by first | rfl | (go_simp; done) | (simp [go_sem, hix]; done)) ?_
          simp only [Act.put, List.setIfInBounds_toArray, List.set_cons_succ, List.set_cons_zero]
          refine WG.put rfl (v := .pointer (some ⟨b, o + k * 7, none⟩)) (fun w => by first | rfl | (go_simp; done) | (simp [go_sem]; done)) ?_
          simp only [Act.put, List.setIfInBounds_toArray, List.set_cons_succ, List.set_cons_zero]
          refine WG.cell rfl 3 _ rfl rfl d0 ld3 ?_
          simp only [Act.put, List.setIfInBounds_toArray, List.set_cons_succ, List.set_cons_zero]
          refine WG.put rfl (v := .bool true) (fun w => by first | rfl | (go_simp; done) | (simp [go_sem, hkd]; done)) ?_
          simp only [Act.put, List.setIfInBounds_toArray, List.set_cons_succ, List.set_cons_zero]
          refine WG.put rfl (v := .bool true) (fun w => by first | rfl | (go_simp; done) | (simp [go_sem]; done)) ?_
          simp only [Act.put, List.setIfInBounds_toArray, List.set_cons_succ, List.set_cons_zero]
          refine WG.put rfl (v := .bool true) (fun w => by first | rfl | (go_simp; done) | (simp [go_sem]; done)) ?_
          simp only [Act.put, List.setIfInBounds_toArray, List.set_cons_succ, List.set_cons_zero]
          refine WG.put rfl (v := .pointer (some ⟨br, 0, none⟩)) (fun w => by first | rfl | (go_simp; done) | (simp [go_sem]; done)) ?_
          simp only [Act.put, List.setIfInBounds_toArray, List.set_cons_succ, List.set_cons_zero]
          refine WG.put rfl (v := .pointer (some ⟨br, 0, none⟩)) (fun w => by first | rfl | (go_simp; done) | (simp [go_sem]; done)) ?_
          simp only [Act.put, List.setIfInBounds_toArray, List.set_cons_succ, List.set_cons_zero]
          refine WG.put rfl (v := .pointer (some ⟨br, 0, none⟩)) (fun w => by first | rfl | (go_simp; done) | (simp [go_sem]; done)) ?_
          simp only [Act.put, List.setIfInBounds_toArray, List.set_cons_succ, List.set_cons_zero]
          refine WG.cell rfl 43 _ rfl rfl c0 ldTk ?_
          simp only [Act.put, List.setIfInBounds_toArray, List.set_cons_succ, List.set_cons_zero]
          refine WG.put rfl (v := .pointer (some ⟨br, 0, none⟩)) (fun w => by first | rfl | (go_simp; done) | (simp [go_sem]; done)) ?_
          simp only [Act.put, List.setIfInBounds_toArray, List.set_cons_succ, List.set_cons_zero]
          refine WG.put rfl (v := .pointer (some ⟨br, 0, none⟩)) (fun w => by first | rfl | (go_simp; done) | (simp [go_sem]; done)) ?_
          simp only [Act.put, List.setIfInBounds_toArray, List.set_cons_succ, List.set_cons_zero]
          refine WG.put rfl (v := .pointer (some ⟨br, 1, none⟩)) (fun w => by first | rfl | (go_simp; done) | (simp [go_sem]; done)) ?_
          simp only [Act.put, List.setIfInBounds_toArray, List.set_cons_succ, List.set_cons_zero]
          refine WG.cell rfl 3 _ rfl rfl c1' ld3 ?_
          simp only [Act.put, List.setIfInBounds_toArray, List.set_cons_succ, List.set_cons_zero]
          refine WG.put rfl (v := .pointer (some ⟨b, o + k * 7, none⟩)) (fun w => by first | rfl | (go_simp; done) | (simp [go_sem, hix]; done)) ?_
          simp only [Act.put, List.setIfInBounds_toArray, List.set_cons_succ, List.set_cons_zero]
          refine WG.put rfl (v := .pointer (some ⟨b, o + k * 7 + 1, none⟩)) (fun w => by first | rfl | (go_simp; done) | (simp [go_sem]; done)) ?_
          simp only [Act.put, List.setIfInBounds_toArray, List.set_cons_succ, List.set_cons_zero]
          refine WG.cell rfl 9 _ rfl rfl d1 ld9 ?_
          simp only [Act.put, List.setIfInBounds_toArray, List.set_cons_succ, List.set_cons_zero]
          refine WG.call rfl (f := 143) (args := #[.string gt]) (v := .int .i64 ti) (fun w' hB' => (cTh w').mono (by rintro e w' ⟨rfl, rfl⟩; exact ⟨rfl, Below.refl _ _⟩)) (fun w => by first | rfl | (go_simp; done) | (simp [go_sem]; done)) ?_
          simp only [Act.put, List.setIfInBounds_toArray, List.set_cons_succ, List.set_cons_zero]
          refine WG.put rfl (v := .bool true) (fun w => by first | rfl | (go_simp; done) | (simp [go_sem, hti]; done)) ?_
          simp only [Act.put, List.setIfInBounds_toArray, List.set_cons_succ, List.set_cons_zero]
          refine WG.put rfl (v := .bool true) (fun w => by first | rfl | (go_simp; done) | (simp [go_sem]; done)) ?_
          simp only [Act.put, List.setIfInBounds_toArray, List.set_cons_succ, List.set_cons_zero]
          refine WG.nil ?_
          intro Wb Bbx
          have Nb := Na.grown Bbx
          have Bb0 := Ba.trans (Bbx.mono Ba.size)
          have Pb := hP.grown Bb0
          have Bb := below_lower Bb0 hsz
          clear Na Ba Pa Bb0 Bbx c0 c1' d0 d1
          go_wp2_with (first
            | (go_at_call 68; refine (c1 _ Pb).mono ?_; rintro en W2 ⟨rfl, P2, Bx, Tx⟩; have B2 : Below base w W2 := Bb.trans Bx; have N2 := Nb.turn Tx (by omega); clear c1 Bx Tx Pb Bb Nb)
            | (go_at_call 143; refine (cTh _).mono ?_; rintro en Wc ⟨rfl, hW⟩; replace hW := hW.symm; subst hW)
            | (refine wpList_store1 rfl 3 _ _ rfl rfl (.int .i64 ti) rfl N2 (by simp) info3 rfl ?_; intro W3 U3 N3x; have N3 : IsS W3 b3 60 [.int .i64 ti, .string noName] := N3x; have P3 := P2.aside N2 (by decide) U3 (by omega) (by omega); have B3 : Below base w W3 := U3.trans B2 (by omega); clear N3x U3 P2 B2 N2)
            | (go_at_call 119; refine (c3 _ P3).mono ?_; rintro en W4 ⟨rfl, P4, Bx, Tx⟩; have B4 : Below base w W4 := B3.trans Bx; have N4 := N3.turn Tx (by omega); clear c3 Bx Tx P3 B3 N3)
            | (go_at_call 142; refine (c2 _ P4).mono ?_; rintro en W5 ⟨rfl, P5, Bx, Tx⟩; have B5 : Below base w W5 := B4.trans Bx; have N5 := N4.turn Tx (by omega); clear c2 Bx Tx P4 B4 N4)
            | (refine wpList_store1 rfl 9 _ _ rfl rfl (.string nm) rfl N5 (by simp) info9 rfl ?_; intro W6 U6 N6x; have N6 : IsS W6 b3 60 [.int .i64 ti, .string nm] := N6x; have P6 := P5.aside N5 (by decide) U6 (by omega) (by omega); have B6 : Below base w W6 := U6.trans B5 (by omega); clear N6x U6 P5 B5 N5)
            | (go_at_call 119; refine (c4 _ P6).mono ?_; rintro en W14 ⟨rfl, P14, Bx, Tx⟩; have B14 : Below base w W14 := B6.trans Bx; have N14 := N6.turn Tx (by omega); clear c4 Bx Tx P6 B6 N6)
            | (go_at_call 144; refine (c5 _ P14).mono ?_; rintro en W15 ⟨rfl, P15, Bx, Tx⟩; have B15 : Below base w W15 := B14.trans Bx; have N15 := N14.turn Tx (by omega); clear c5 Bx Tx P14 B14 N14)
            | (refine wpList_loadP rfl 60 _ rfl rfl N15 2 [.int .i64 ti, .string nm] rfl _ Tryz.underlying60 rfl (by kernel_rfl) ?_)
            | (go_at_call 69; refine (c6 _ P15).mono ?_; rintro en W16 ⟨rfl, P16, Bx⟩; have B16 : Below base w W16 := B15.trans Bx; clear c6 Bx P15 B15 N15))
          go_ret
          exact ⟨rfl, P16, B16⟩
        | none =>
          have eti : thrI (gAt gs (CS.k σ)).text = -1 := by unfold thrI; rw [ht]
          obtain ⟨eT, eN, eC⟩ := no (by rw [eq, ht])
          rw [eT, eN] at c6
          rw [eC] at c4
          have hti : ¬ ((0 : Int) ≤ thrI (gAt gs (CS.k σ)).text) := by rw [eti]; decide
          have c2 := fun W hP => rrname_any (gs := gs) (a := some ⟨b, o, none⟩) (cap := cap) (base := base) (br := br) (k0 := k0) hn σ W hP
          rw [hk2] at HK
          clear eT eN eC hB no yes eq ht eti hsz2 hT hk2
          generalize nameC gs σ = σ3 at *
          generalize nameX gs σ = nm at *
          generalize thrI (gAt gs (CS.k σ)).text = ti at *
          generalize (gAt gs (CS.k σ)).text = gt at *
          generalize hkk : CS.k σ = k at *
          obtain ⟨n, hnn⟩ : ∃ n, gs.length = n := ⟨_, rfl⟩
          rw [hnn] at HR hix hge hlt
          clear hnn hkk
          go_enter Tryz.func120, Tryz.ntmps120
          go_wp2_with (first
            | (refine wpList_allocS rfl 60 rfl [.int .i64 0, .string noName] Tryz.zeroValue60 ?_; intro W0 b3 F0 N0; have B0 := F0.trans (Below.refl _ w) (Nat.le_refl _); have h3 : w.heap.size ≤ b3 := Nat.le_of_eq F0.at'.symm; clear F0)
            | (refine wpList_storeS rfl 60 _ _ rfl rfl [.int .i64 (-1), .string noName] rfl N0 (by simp) (by kernel_rfl) (by intro v hv; simp at hv; rcases hv with rfl | rfl <;> rfl) ?_; intro Wa Ua Nax; have Na : IsS Wa b3 60 [.int .i64 (-1), .string noName] := Nax; have Ba := Ua.trans B0 h3; have Pa := hP.grown Ba; clear Nax Ua N0 B0)
            | (go_at_call 67; refine (cI _ Pa).mono ?_; rintro en W1 ⟨rfl, hW⟩; replace hW := hW.symm; subst hW; clear cI))
          have c0 : Wa.cell? ⟨br, 0, none⟩ = some (.slice (some ⟨b, o, none⟩) n cap) := (HR.out Wa Ba).1
          have c1' : Wa.cell? ⟨br, 1, none⟩ = some (.int .i64 (k : Int)) := (HR.out Wa Ba).2
          obtain ⟨d0, d1⟩ := HK.out Wa Ba
          refine grow_tailW 39 (by kernel_rfl) (by kernel_rfl) ?_
          simp only [List.take_succ_cons, List.take_zero, List.drop_succ_cons, List.drop_zero]
          refine WG.put rfl (v := .pointer (some ⟨br, 0, none⟩)) (fun w => by first | rfl | (go_simp; done) | (simp [go_sem]; done)) ?_
          simp only [Act.put, List.setIfInBounds_toArray, List.set_cons_succ, List.set_cons_zero]
          refine WG.put rfl (v := .pointer (some ⟨br, 0, none⟩)) (fun w => by first | rfl | (go_simp; done) | (simp [go_sem]; done)) ?_
          simp only [Act.put, List.setIfInBounds_toArray, List.set_cons_succ, List.set_cons_zero]
          refine WG.put rfl (v := .pointer (some ⟨br, 1, none⟩)) (fun w => by first | rfl | (go_simp; done) | (simp [go_sem]; done)) ?_
          simp only [Act.put, List.setIfInBounds_toArray, List.set_cons_succ, List.set_cons_zero]
          refine WG.cell rfl 3 _ rfl rfl c1' ld3 ?_
          simp only [Act.put, List.setIfInBounds_toArray, List.set_cons_succ, List.set_cons_zero]
          refine WG.put rfl (v := .pointer (some ⟨br, 0, none⟩)) (fun w => by first | rfl | (go_simp; done) | (simp [go_sem]; done)) ?_
          simp only [Act.put, List.setIfInBounds_toArray, List.set_cons_succ, List.set_cons_zero]
          refine WG.put rfl (v := .pointer (some ⟨br, 0, none⟩)) (fun w => by first | rfl | (go_simp; done) | (simp [go_sem]; done)) ?_
          simp only [Act.put, List.setIfInBounds_toArray, List.set_cons_succ, List.set_cons_zero]
          refine WG.put rfl (v := .pointer (some ⟨br, 0, none⟩)) (fun w => by first | rfl | (go_simp; done) | (simp [go_sem]; done)) ?_
          simp only [Act.put, List.setIfInBounds_toArray, List.set_cons_succ, List.set_cons_zero]
          refine WG.cell rfl 43 _ rfl rfl c0 ldTk ?_
          simp only [Act.put, List.setIfInBounds_toArray, List.set_cons_succ, List.set_cons_zero]
          refine WG.put rfl (v := .int .i64 (n : Int)) (fun w => by first | rfl | (go_simp; done) | (simp [go_sem]; done)) ?_
          simp only [Act.put, List.setIfInBounds_toArray, List.set_cons_succ, List.set_cons_zero]
          refine WG.put rfl (v := .bool true) (fun w => by first | rfl | (go_simp; done) | (simp [go_sem, hge, hlt]; done)) ?_
          simp only [Act.put, List.setIfInBounds_toArray, List.set_cons_succ, List.set_cons_zero]
          refine WG.put rfl (v := .bool true) (fun w => by first | rfl | (go_simp; done) | (simp [go_sem]; done)) ?_
          simp only [Act.put, List.setIfInBounds_toArray, List.set_cons_succ, List.set_cons_zero]
          refine WG.put rfl (v := .pointer (some ⟨br, 0, none⟩)) (fun w => by first | rfl | (go_simp; done) | (simp [go_sem]; done)) ?_
          simp only [Act.put, List.setIfInBounds_toArray, List.set_cons_succ, List.set_cons_zero]
          refine WG.put rfl (v := .pointer (some ⟨br, 0, none⟩)) (fun w => by first | rfl | (go_simp; done) | (simp [go_sem]; done)) ?_
          simp only [Act.put, List.setIfInBounds_toArray, List.set_cons_succ, List.set_cons_zero]
          refine WG.put rfl (v := .pointer (some ⟨br, 0, none⟩)) (fun w => by first | rfl | (go_simp; done) | (simp [go_sem]; done)) ?_
          simp only [Act.put, List.setIfInBounds_toArray, List.set_cons_succ, List.set_cons_zero]
          refine WG.cell rfl 43 _ rfl rfl c0 ldTk ?_
          simp only [Act.put, List.setIfInBounds_toArray, List.set_cons_succ, List.set_cons_zero]
          refine WG.put rfl (v := .pointer (some ⟨br, 0, none⟩)) (fun w => by first | rfl | (go_simp; done) | (simp [go_sem]; done)) ?_
          simp only [Act.put, List.setIfInBounds_toArray, List.set_cons_succ, List.set_cons_zero]
          refine WG.put rfl (v := .pointer (some ⟨br, 0, none⟩)) (fun w => by first | rfl | (go_simp; done) | (simp [go_sem]; done)) ?_
          simp only [Act.put, List.setIfInBounds_toArray, List.set_cons_succ, List.set_cons_zero]
          refine WG.put rfl (v := .pointer (some ⟨br, 1, none⟩)) (fun w => by first | rfl | (go_simp; done) | (simp [go_sem]; done)) ?_
          simp only [Act.put, List.setIfInBounds_toArray, List.set_cons_succ, List.set_cons_zero]
          refine WG.cell rfl 3 _ rfl rfl c1' ld3 ?_
          simp only [Act.put, List.setIfInBounds_toArray, List.set_cons_succ, List.set_cons_zero]
          refine WG.put rfl (v := .pointer (some ⟨b, o + k * 7, none⟩)) (fun w => by first | rfl | (go_simp; done) | (simp [go_sem, hix]; done)) ?_
          simp only [Act.put, List.setIfInBounds_toArray, List.set_cons_succ, List.set_cons_zero]
          refine WG.put rfl (v := .pointer (some ⟨b, o + k * 7, none⟩)) (fun w => by first | rfl | (go_simp; done) | (simp [go_sem]; done)) ?_
          simp only [Act.put, List.setIfInBounds_toArray, List.set_cons_succ, List.set_cons_zero]
          refine WG.cell rfl 3 _ rfl rfl d0 ld3 ?_
          simp only [Act.put, List.setIfInBounds_toArray, List.set_cons_succ, List.set_cons_zero]
          refine WG.put rfl (v := .bool true) (fun w => by first | rfl | (go_simp; done) | (simp [go_sem, hkd]; done)) ?_
          simp only [Act.put, List.setIfInBounds_toArray, List.set_cons_succ, List.set_cons_zero]
          refine WG.put rfl (v := .bool true) (fun w => by first | rfl | (go_simp; done) | (simp [go_sem]; done)) ?_
          simp only [Act.put, List.setIfInBounds_toArray, List.set_cons_succ, List.set_cons_zero]
          refine WG.put rfl (v := .bool true) (fun w => by first | rfl | (go_simp; done) | (simp [go_sem]; done)) ?_
          simp only [Act.put, List.setIfInBounds_toArray, List.set_cons_succ, List.set_cons_zero]
          refine WG.put rfl (v := .pointer (some ⟨br, 0, none⟩)) (fun w => by first | rfl | (go_simp; done) | (simp [go_sem]; done)) ?_
          simp only [Act.put, List.setIfInBounds_toArray, List.set_cons_succ, List.set_cons_zero]
          refine WG.put rfl (v := .pointer (some ⟨br, 0, none⟩)) (fun w => by first | rfl | (go_simp; done) | (simp [go_sem]; done)) ?_
          simp only [Act.put, List.setIfInBounds_toArray, List.set_cons_succ, List.set_cons_zero]
          refine WG.put rfl (v := .pointer (some ⟨br, 0, none⟩)) (fun w => by first | rfl | (go_simp; done) | (simp [go_sem]; done)) ?_
          simp only [Act.put, List.setIfInBounds_toArray, List.set_cons_succ, List.set_cons_zero]
          refine WG.cell rfl 43 _ rfl rfl c0 ldTk ?_
          simp only [Act.put, List.setIfInBounds_toArray, List.set_cons_succ, List.set_cons_zero]
          refine WG.put rfl (v := .pointer (some ⟨br, 0, none⟩)) (fun w => by first | rfl | (go_simp; done) | (simp [go_sem]; done)) ?_
          simp only [Act.put, List.setIfInBounds_toArray, List.set_cons_succ, List.set_cons_zero]
          refine WG.put rfl (v := .pointer (some ⟨br, 0, none⟩)) (fun w => by first | rfl | (go_simp; done) | (simp [go_sem]; done)) ?_
          simp only [Act.put, List.setIfInBounds_toArray, List.set_cons_succ, List.set_cons_zero]
          refine WG.put rfl (v := .pointer (some ⟨br, 1, none⟩)) (fun w => by first | rfl | (go_simp; done) | (simp [go_sem]; done)) ?_
          simp only [Act.put, List.setIfInBounds_toArray, List.set_cons_succ, List.set_cons_zero]
          refine WG.cell rfl 3 _ rfl rfl c1' ld3 ?_
          simp only [Act.put, List.setIfInBounds_toArray, List.set_cons_succ, List.set_cons_zero]
          refine WG.put rfl (v := .pointer (some ⟨b, o + k * 7, none⟩)) (fun w => by first | rfl | (go_simp; done) | (simp [go_sem, hix]; done)) ?_
          simp only [Act.put, List.setIfInBounds_toArray, List.set_cons_succ, List.set_cons_zero]
          refine WG.put rfl (v := .pointer (some ⟨b, o + k * 7 + 1, none⟩)) (fun w => by first | rfl | (go_simp; done) | (simp [go_sem]; done)) ?_
          simp only [Act.put, List.setIfInBounds_toArray, List.set_cons_succ, List.set_cons_zero]
          refine WG.cell rfl 9 _ rfl rfl d1 ld9 ?_
          simp only [Act.put, List.setIfInBounds_toArray, List.set_cons_succ, List.set_cons_zero]
          refine WG.call rfl (f := 143) (args := #[.string gt]) (v := .int .i64 ti) (fun w' hB' => (cTh w').mono (by rintro e w' ⟨rfl, rfl⟩; exact ⟨rfl, Below.refl _ _⟩)) (fun w => by first | rfl | (go_simp; done) | (simp [go_sem]; done)) ?_
          simp only [Act.put, List.setIfInBounds_toArray, List.set_cons_succ, List.set_cons_zero]
          refine WG.put rfl (v := .bool false) (fun w => by first | rfl | (go_simp; done) | (simp [go_sem, hti]; done)) ?_
          simp only [Act.put, List.setIfInBounds_toArray, List.set_cons_succ, List.set_cons_zero]
          refine WG.put rfl (v := .bool false) (fun w => by first | rfl | (go_simp; done) | (simp [go_sem]; done)) ?_
          simp only [Act.put, List.setIfInBounds_toArray, List.set_cons_succ, List.set_cons_zero]
          refine WG.nil ?_
          intro Wb Bbx
          have Nb := Na.grown Bbx
          have Bb0 := Ba.trans (Bbx.mono Ba.size)
          have Pb := hP.grown Bb0
          have Bb := below_lower Bb0 hsz
          clear Na Ba Pa Bb0 Bbx c0 c1' d0 d1
          go_wp2_with (first
            | (go_at_call 142; refine (c2 _ Pb).mono ?_; rintro en W3 ⟨rfl, P3, Bx, Tx⟩; have B3 : Below base w W3 := Bb.trans Bx; have N3 := Nb.turn Tx (by omega); clear c2 Bx Tx Pb Bb Nb)
            | (refine wpList_store1 rfl 9 _ _ rfl rfl (.string nm) rfl N3 (by simp) info9 rfl ?_; intro W5 U5 N5x; have N5 : IsS W5 b3 60 [.int .i64 (-1), .string nm] := N5x; have P5 := P3.aside N3 (by decide) U5 (by omega) (by omega); have B5 : Below base w W5 := U5.trans B3 (by omega); clear N5x U5 P3 B3 N3)
            | (go_at_call 119; refine (c4 _ P5).mono ?_; rintro en W14 ⟨rfl, P14, Bx, Tx⟩; have B14 : Below base w W14 := B5.trans Bx; have N14 := N5.turn Tx (by omega); clear c4 Bx Tx P5 B5 N5)
            | (go_at_call 144; refine (c5 _ P14).mono ?_; rintro en W15 ⟨rfl, P15, Bx, Tx⟩; have B15 : Below base w W15 := B14.trans Bx; have N15 := N14.turn Tx (by omega); clear c5 Bx Tx P14 B14 N14)
            | (refine wpList_loadP rfl 60 _ rfl rfl N15 2 [.int .i64 (-1), .string nm] rfl _ Tryz.underlying60 rfl (by kernel_rfl) ?_)
            | (go_at_call 69; refine (c6 _ P15).mono ?_; rintro en W16 ⟨rfl, P16, Bx⟩; have B16 : Below base w W16 := B15.trans Bx; clear c6 Bx P15 B15 N15))
          go_ret
          exact ⟨rfl, P16, B16⟩
      · obtain ⟨eT, eN, eC⟩ := no (if_neg (fun h => hk2 h.2))
        rw [eT, eN] at c6
        rw [eC] at c4
        have c2 := fun W hP => rrname_any (gs := gs) (a := some ⟨b, o, none⟩) (cap := cap) (base := base) (br := br) (k0 := k0) hn σ W hP
        have hkd : ((gAt gs (CS.k σ)).kind == 2) = false := by simpa using hk2
        have hkd2 : ¬ ((gAt gs (CS.k σ)).kind = 2) := hk2
        clear eT eN eC hB no yes hT hk2
        generalize nameC gs σ = σ3 at *
        generalize nameX gs σ = nm at *
        generalize (gAt gs (CS.k σ)).kind = gk at *
        generalize (gAt gs (CS.k σ)).text = gt at *
        generalize hkk : CS.k σ = k at *
        obtain ⟨n, hnn⟩ : ∃ n, gs.length = n := ⟨_, rfl⟩
        rw [hnn] at HR hix hge hlt
        clear hnn hkk
        go_enter Tryz.func120, Tryz.ntmps120
        go_wp2_with (first
          | (refine wpList_allocS rfl 60 rfl [.int .i64 0, .string noName] Tryz.zeroValue60 ?_; intro W0 b3 F0 N0; have B0 := F0.trans (Below.refl _ w) (Nat.le_refl _); have h3 : w.heap.size ≤ b3 := Nat.le_of_eq F0.at'.symm; clear F0)
          | (refine wpList_storeS rfl 60 _ _ rfl rfl [.int .i64 (-1), .string noName] rfl N0 (by simp) (by kernel_rfl) (by intro v hv; simp at hv; rcases hv with rfl | rfl <;> rfl) ?_; intro Wa Ua Nax; have Na : IsS Wa b3 60 [.int .i64 (-1), .string noName] := Nax; have Ba := Ua.trans B0 h3; have Pa := hP.grown Ba; clear Nax Ua N0 B0)
          | (go_at_call 67; refine (cI _ Pa).mono ?_; rintro en W1 ⟨rfl, hW⟩; replace hW := hW.symm; subst hW; clear cI))
        have c0 : Wa.cell? ⟨br, 0, none⟩ = some (.slice (some ⟨b, o, none⟩) n cap) := (HR.out Wa Ba).1
        have c1' : Wa.cell? ⟨br, 1, none⟩ = some (.int .i64 (k : Int)) := (HR.out Wa Ba).2
        obtain ⟨d0, d1⟩ := HK.out Wa Ba
        refine grow_tailW 39 (by kernel_rfl) (by kernel_rfl) ?_
        simp only [List.take_succ_cons, List.take_zero, List.drop_succ_cons, List.drop_zero]
        refine WG.put rfl (v := .pointer (some ⟨br, 0, none⟩)) (fun w => by first | rfl | (go_simp; done) | (simp [go_sem]; done)) ?_
        simp only [Act.put, List.setIfInBounds_toArray, List.set_cons_succ, List.set_cons_zero]
        refine WG.put rfl (v := .pointer (some ⟨br, 0, none⟩)) (fun w => by first | rfl | (go_simp; done) | (simp [go_sem]; done)) ?_
        simp only [Act.put, List.setIfInBounds_toArray, List.set_cons_succ, List.set_cons_zero]
        refine WG.put rfl (v := .pointer (some ⟨br, 1, none⟩)) (fun w => by first | rfl | (go_simp; done) | (simp [go_sem]; done)) ?_
        simp only [Act.put, List.setIfInBounds_toArray, List.set_cons_succ, List.set_cons_zero]
        refine WG.cell rfl 3 _ rfl rfl c1' ld3 ?_
        simp only [Act.put, List.setIfInBounds_toArray, List.set_cons_succ, List.set_cons_zero]
        refine WG.put rfl (v := .pointer (some ⟨br, 0, none⟩)) (fun w => by first | rfl | (go_simp; done) | (simp [go_sem]; done)) ?_
        simp only [Act.put, List.setIfInBounds_toArray, List.set_cons_succ, List.set_cons_zero]
        refine WG.put rfl (v := .pointer (some ⟨br, 0, none⟩)) (fun w => by first | rfl | (go_simp; done) | (simp [go_sem]; done)) ?_
        simp only [Act.put, List.setIfInBounds_toArray, List.set_cons_succ, List.set_cons_zero]
        refine WG.put rfl (v := .pointer (some ⟨br, 0, none⟩)) (fun w => by first | rfl | (go_simp; done) | (simp [go_sem]; done)) ?_
        simp only [Act.put, List.setIfInBounds_toArray, List.set_cons_succ, List.set_cons_zero]
        refine WG.cell rfl 43 _ rfl rfl c0 ldTk ?_
        simp only [Act.put, List.setIfInBounds_toArray, List.set_cons_succ, List.set_cons_zero]
        refine WG.put rfl (v := .int .i64 (n : Int)) (fun w => by first | rfl | (go_simp; done) | (simp [go_sem]; done)) ?_
        simp only [Act.put, List.setIfInBounds_toArray, List.set_cons_succ, List.set_cons_zero]
        refine WG.put rfl (v := .bool true) (fun w => by first | rfl | (go_simp; done) | (simp [go_sem, hge, hlt]; done)) ?_
        simp only [Act.put, List.setIfInBounds_toArray, List.set_cons_succ, List.set_cons_zero]
        refine WG.put rfl (v := .bool true) (fun w => by first | rfl | (go_simp; done) | (simp [go_sem]; done)) ?_
        simp only [Act.put, List.setIfInBounds_toArray, List.set_cons_succ, List.set_cons_zero]
        refine WG.put rfl (v := .pointer (some ⟨br, 0, none⟩)) (fun w => by first | rfl | (go_simp; done) | (simp [go_sem]; done)) ?_
        simp only [Act.put, List.setIfInBounds_toArray, List.set_cons_succ, List.set_cons_zero]
        refine WG.put rfl (v := .pointer (some ⟨br, 0, none⟩)) (fun w => by first | rfl | (go_simp; done) | (simp [go_sem]; done)) ?_
        simp only [Act.put, List.setIfInBounds_toArray, List.set_cons_succ, List.set_cons_zero]
        refine WG.put rfl (v := .pointer (some ⟨br, 0, none⟩)) (fun w => by first | rfl | (go_simp; done) | (simp [go_sem]; done)) ?_
        simp only [Act.put, List.setIfInBounds_toArray, List.set_cons_succ, List.set_cons_zero]
        refine WG.cell rfl 43 _ rfl rfl c0 ldTk ?_
        simp only [Act.put, List.setIfInBounds_toArray, List.set_cons_succ, List.set_cons_zero]
        refine WG.put rfl (v := .pointer (some ⟨br, 0, none⟩)) (fun w => by first | rfl | (go_simp; done) | (simp [go_sem]; done)) ?_
        simp only [Act.put, List.setIfInBounds_toArray, List.set_cons_succ, List.set_cons_zero]
        refine WG.put rfl (v := .pointer (some ⟨br, 0, none⟩)) (fun w => by first | rfl | (go_simp; done) | (simp [go_sem]; done)) ?_
        simp only [Act.put, List.setIfInBounds_toArray, List.set_cons_succ, List.set_cons_zero]
        refine WG.put rfl (v := .pointer (some ⟨br, 1, none⟩)) (fun w => by first | rfl | (go_simp; done) | (simp [go_sem]; done)) ?_
        simp only [Act.put, List.setIfInBounds_toArray, List.set_cons_succ, List.set_cons_zero]
        refine WG.cell rfl 3 _ rfl rfl c1' ld3 ?_
        simp only [Act.put, List.setIfInBounds_toArray, List.set_cons_succ, List.set_cons_zero]
        refine WG.put rfl (v := .pointer (some ⟨b, o + k * 7, none⟩)) (fun w => by first | rfl | (go_simp; done) | (simp [go_sem, hix]; done)) ?_
        simp only [Act.put, List.setIfInBounds_toArray, List.set_cons_succ, List.set_cons_zero]
        refine WG.put rfl (v := .pointer (some ⟨b, o + k * 7, none⟩)) (fun w => by first | rfl | (go_simp; done) | (simp [go_sem]; done)) ?_
        simp only [Act.put, List.setIfInBounds_toArray, List.set_cons_succ, List.set_cons_zero]
        refine WG.cell rfl 3 _ rfl rfl d0 ld3 ?_
        simp only [Act.put, List.setIfInBounds_toArray, List.set_cons_succ, List.set_cons_zero]
        refine WG.put rfl (v := .bool false) (fun w => by first | rfl | (go_simp; done) | (simp [go_sem, hkd, hkd2]; done)) ?_
        simp only [Act.put, List.setIfInBounds_toArray, List.set_cons_succ, List.set_cons_zero]
        refine WG.put rfl (v := .bool false) (fun w => by first | rfl | (go_simp; done) | (simp [go_sem]; done)) ?_
        simp only [Act.put, List.setIfInBounds_toArray, List.set_cons_succ, List.set_cons_zero]
        refine WG.put rfl (v := .bool false) (fun w => by first | rfl | (go_simp; done) | (simp [go_sem]; done)) ?_
        simp only [Act.put, List.setIfInBounds_toArray, List.set_cons_succ, List.set_cons_zero]
        refine WG.skip rfl ?_
        simp only [Act.put, List.setIfInBounds_toArray, List.set_cons_succ, List.set_cons_zero]
        refine WG.skip rfl ?_
        simp only [Act.put, List.setIfInBounds_toArray, List.set_cons_succ, List.set_cons_zero]
        refine WG.skip rfl ?_
        simp only [Act.put, List.setIfInBounds_toArray, List.set_cons_succ, List.set_cons_zero]
        refine WG.skip rfl ?_
        simp only [Act.put, List.setIfInBounds_toArray, List.set_cons_succ, List.set_cons_zero]
        refine WG.skip rfl ?_
        simp only [Act.put, List.setIfInBounds_toArray, List.set_cons_succ, List.set_cons_zero]
        refine WG.skip rfl ?_
        simp only [Act.put, List.setIfInBounds_toArray, List.set_cons_succ, List.set_cons_zero]
        refine WG.skip rfl ?_
        simp only [Act.put, List.setIfInBounds_toArray, List.set_cons_succ, List.set_cons_zero]
        refine WG.skip rfl ?_
        simp only [Act.put, List.setIfInBounds_toArray, List.set_cons_succ, List.set_cons_zero]
        refine WG.skip rfl ?_
        simp only [Act.put, List.setIfInBounds_toArray, List.set_cons_succ, List.set_cons_zero]
        refine WG.skip rfl ?_
        simp only [Act.put, List.setIfInBounds_toArray, List.set_cons_succ, List.set_cons_zero]
        refine WG.skip rfl ?_
        simp only [Act.put, List.setIfInBounds_toArray, List.set_cons_succ, List.set_cons_zero]
        refine WG.skip rfl ?_
        simp only [Act.put, List.setIfInBounds_toArray, List.set_cons_succ, List.set_cons_zero]
        refine WG.skip rfl ?_
        simp only [Act.put, List.setIfInBounds_toArray, List.set_cons_succ, List.set_cons_zero]
        refine WG.put rfl (v := .bool false) (fun w => by first | rfl | (go_simp; done) | (simp [go_sem]; done)) ?_
        simp only [Act.put, List.setIfInBounds_toArray, List.set_cons_succ, List.set_cons_zero]
        refine WG.nil ?_
        intro Wb Bbx
        have Nb := Na.grown Bbx
        have Bb0 := Ba.trans (Bbx.mono Ba.size)
        have Pb := hP.grown Bb0
        have Bb := below_lower Bb0 hsz
        clear Na Ba Pa Bb0 Bbx c0 c1' d0 d1
        go_wp2_with (first
          | (go_at_call 142; refine (c2 _ Pb).mono ?_; rintro en W3 ⟨rfl, P3, Bx, Tx⟩; have B3 : Below base w W3 := Bb.trans Bx; have N3 := Nb.turn Tx (by omega); clear c2 Bx Tx Pb Bb Nb)
          | (refine wpList_store1 rfl 9 _ _ rfl rfl (.string nm) rfl N3 (by simp) info9 rfl ?_; intro W5 U5 N5x; have N5 : IsS W5 b3 60 [.int .i64 (-1), .string nm] := N5x; have P5 := P3.aside N3 (by decide) U5 (by omega) (by omega); have B5 : Below base w W5 := U5.trans B3 (by omega); clear N5x U5 P3 B3 N3)
          | (go_at_call 119; refine (c4 _ P5).mono ?_; rintro en W14 ⟨rfl, P14, Bx, Tx⟩; have B14 : Below base w W14 := B5.trans Bx; have N14 := N5.turn Tx (by omega); clear c4 Bx Tx P5 B5 N5)
          | (go_at_call 144; refine (c5 _ P14).mono ?_; rintro en W15 ⟨rfl, P15, Bx, Tx⟩; have B15 : Below base w W15 := B14.trans Bx; have N15 := N14.turn Tx (by omega); clear c5 Bx Tx P14 B14 N14)
          | (refine wpList_loadP rfl 60 _ rfl rfl N15 2 [.int .i64 (-1), .string nm] rfl _ Tryz.underlying60 rfl (by kernel_rfl) ?_)
          | (go_at_call 69; refine (c6 _ P15).mono ?_; rintro en W16 ⟨rfl, P16, Bx⟩; have B16 : Below base w W16 := B15.trans Bx; clear c6 Bx P15 B15 N15))
        go_ret
        exact ⟨rfl, P16, B16⟩
    · obtain ⟨eT, eN, eC⟩ := no (if_neg (fun h => hlt h.1))
      rw [eT, eN] at c6
      rw [eC] at c4
      have c2 := fun W hP => rrname_any (gs := gs) (a := a) (cap := cap) (base := base) (br := br) (k0 := k0) hn σ W hP
      have hge : ¬ ((CS.k σ : Int) < gs.length) := by omega
      clear eT eN eC hB no yes
      generalize nameC gs σ = σ3 at *
      generalize nameX gs σ = nm at *
      generalize hkk : CS.k σ = k at *
      obtain ⟨n, hnn⟩ : ∃ n, gs.length = n := ⟨_, rfl⟩
      rw [hnn] at HR hge hlt
      clear hnn hkk
      go_enter Tryz.func120, Tryz.ntmps120
      go_wp2_with (first
        | (refine wpList_allocS rfl 60 rfl [.int .i64 0, .string noName] Tryz.zeroValue60 ?_; intro W0 b3 F0 N0; have B0 := F0.trans (Below.refl _ w) (Nat.le_refl _); have h3 : w.heap.size ≤ b3 := Nat.le_of_eq F0.at'.symm; clear F0)
        | (refine wpList_storeS rfl 60 _ _ rfl rfl [.int .i64 (-1), .string noName] rfl N0 (by simp) (by kernel_rfl) (by intro v hv; simp at hv; rcases hv with rfl | rfl <;> rfl) ?_; intro Wa Ua Nax; have Na : IsS Wa b3 60 [.int .i64 (-1), .string noName] := Nax; have Ba := Ua.trans B0 h3; have Pa := hP.grown Ba; clear Nax Ua N0 B0)
        | (go_at_call 67; refine (cI _ Pa).mono ?_; rintro en W1 ⟨rfl, hW⟩; replace hW := hW.symm; subst hW; clear cI))
      have c0 : Wa.cell? ⟨br, 0, none⟩ = some (.slice a n cap) := (HR.out Wa Ba).1
      have c1' : Wa.cell? ⟨br, 1, none⟩ = some (.int .i64 (k : Int)) := (HR.out Wa Ba).2
      refine grow_tailW 39 (by kernel_rfl) (by kernel_rfl) ?_
      simp only [List.take_succ_cons, List.take_zero, List.drop_succ_cons, List.drop_zero]
      refine WG.put rfl (v := .pointer (some ⟨br, 0, none⟩)) (fun w => by first | rfl | (go_simp; done) | (simp [go_sem]; done)) ?_
      simp only [Act.put, List.setIfInBounds_toArray, List.set_cons_succ, List.set_cons_zero]
      refine WG.put rfl (v := .pointer (some ⟨br, 0, none⟩)) (fun w => by first | rfl | (go_simp; done) | (simp [go_sem]; done)) ?_
      simp only [Act.put, List.setIfInBounds_toArray, List.set_cons_succ, List.set_cons_zero]
      refine WG.put rfl (v := .pointer (some ⟨br, 1, none⟩)) (fun w => by first | rfl | (go_simp; done) | (simp [go_sem]; done)) ?_
      simp only [Act.put, List.setIfInBounds_toArray, List.set_cons_succ, List.set_cons_zero]
      refine WG.cell rfl 3 _ rfl rfl c1' ld3 ?_
      simp only [Act.put, List.setIfInBounds_toArray, List.set_cons_succ, List.set_cons_zero]
      refine WG.put rfl (v := .pointer (some ⟨br, 0, none⟩)) (fun w => by first | rfl | (go_simp; done) | (simp [go_sem]; done)) ?_
      simp only [Act.put, List.setIfInBounds_toArray, List.set_cons_succ, List.set_cons_zero]
      refine WG.put rfl (v := .pointer (some ⟨br, 0, none⟩)) (fun w => by first | rfl | (go_simp; done) | (simp [go_sem]; done)) ?_
      simp only [Act.put, List.setIfInBounds_toArray, List.set_cons_succ, List.set_cons_zero]
      refine WG.put rfl (v := .pointer (some ⟨br, 0, none⟩)) (fun w => by first | rfl | (go_simp; done) | (simp [go_sem]; done)) ?_
      simp only [Act.put, List.setIfInBounds_toArray, List.set_cons_succ, List.set_cons_zero]
      refine WG.cell rfl 43 _ rfl rfl c0 ldTk ?_
      simp only [Act.put, List.setIfInBounds_toArray, List.set_cons_succ, List.set_cons_zero]
      refine WG.put rfl (v := .int .i64 (n : Int)) (fun w => by first | rfl | (go_simp; done) | (simp [go_sem]; done)) ?_
      simp only [Act.put, List.setIfInBounds_toArray, List.set_cons_succ, List.set_cons_zero]
      refine WG.put rfl (v := .bool false) (fun w => by first | rfl | (go_simp; done) | (simp [go_sem, hge, hlt]; done)) ?_
      simp only [Act.put, List.setIfInBounds_toArray, List.set_cons_succ, List.set_cons_zero]
      refine WG.put rfl (v := .bool false) (fun w => by first | rfl | (go_simp; done) | (simp [go_sem]; done)) ?_
      simp only [Act.put, List.setIfInBounds_toArray, List.set_cons_succ, List.set_cons_zero]
      refine WG.skip rfl ?_
      simp only [Act.put, List.setIfInBounds_toArray, List.set_cons_succ, List.set_cons_zero]
      refine WG.skip rfl ?_
      simp only [Act.put, List.setIfInBounds_toArray, List.set_cons_succ, List.set_cons_zero]
      refine WG.skip rfl ?_
      simp only [Act.put, List.setIfInBounds_toArray, List.set_cons_succ, List.set_cons_zero]
      refine WG.skip rfl ?_
      simp only [Act.put, List.setIfInBounds_toArray, List.set_cons_succ, List.set_cons_zero]
      refine WG.skip rfl ?_
      simp only [Act.put, List.setIfInBounds_toArray, List.set_cons_succ, List.set_cons_zero]
      refine WG.skip rfl ?_
      simp only [Act.put, List.setIfInBounds_toArray, List.set_cons_succ, List.set_cons_zero]
      refine WG.skip rfl ?_
      simp only [Act.put, List.setIfInBounds_toArray, List.set_cons_succ, List.set_cons_zero]
      refine WG.skip rfl ?_
      simp only [Act.put, List.setIfInBounds_toArray, List.set_cons_succ, List.set_cons_zero]
      refine WG.skip rfl ?_
      simp only [Act.put, List.setIfInBounds_toArray, List.set_cons_succ, List.set_cons_zero]
      refine WG.skip rfl ?_
      simp only [Act.put, List.setIfInBounds_toArray, List.set_cons_succ, List.set_cons_zero]
      refine WG.skip rfl ?_
      simp only [Act.put, List.setIfInBounds_toArray, List.set_cons_succ, List.set_cons_zero]
      refine WG.skip rfl ?_
      simp only [Act.put, List.setIfInBounds_toArray, List.set_cons_succ, List.set_cons_zero]
      refine WG.put rfl (v := .bool false) (fun w => by first | rfl | (go_simp; done) | (simp [go_sem]; done)) ?_
      simp only [Act.put, List.setIfInBounds_toArray, List.set_cons_succ, List.set_cons_zero]
      refine WG.put rfl (v := .bool false) (fun w => by first | rfl | (go_simp; done) | (simp [go_sem]; done)) ?_
      simp only [Act.put, List.setIfInBounds_toArray, List.set_cons_succ, List.set_cons_zero]
      refine WG.skip rfl ?_
      simp only [Act.put, List.setIfInBounds_toArray, List.set_cons_succ, List.set_cons_zero]
      refine WG.skip rfl ?_
      simp only [Act.put, List.setIfInBounds_toArray, List.set_cons_succ, List.set_cons_zero]
      refine WG.skip rfl ?_
      simp only [Act.put, List.setIfInBounds_toArray, List.set_cons_succ, List.set_cons_zero]
      refine WG.skip rfl ?_
      simp only [Act.put, List.setIfInBounds_toArray, List.set_cons_succ, List.set_cons_zero]
      refine WG.skip rfl ?_
      simp only [Act.put, List.setIfInBounds_toArray, List.set_cons_succ, List.set_cons_zero]
      refine WG.skip rfl ?_
      simp only [Act.put, List.setIfInBounds_toArray, List.set_cons_succ, List.set_cons_zero]
      refine WG.skip rfl ?_
      simp only [Act.put, List.setIfInBounds_toArray, List.set_cons_succ, List.set_cons_zero]
      refine WG.skip rfl ?_
      simp only [Act.put, List.setIfInBounds_toArray, List.set_cons_succ, List.set_cons_zero]
      refine WG.skip rfl ?_
      simp only [Act.put, List.setIfInBounds_toArray, List.set_cons_succ, List.set_cons_zero]
      refine WG.skip rfl ?_
      simp only [Act.put, List.setIfInBounds_toArray, List.set_cons_succ, List.set_cons_zero]
      refine WG.skip rfl ?_
      simp only [Act.put, List.setIfInBounds_toArray, List.set_cons_succ, List.set_cons_zero]
      refine WG.skip rfl ?_
      simp only [Act.put, List.setIfInBounds_toArray, List.set_cons_succ, List.set_cons_zero]
      refine WG.skip rfl ?_
      simp only [Act.put, List.setIfInBounds_toArray, List.set_cons_succ, List.set_cons_zero]
      refine WG.put rfl (v := .bool false) (fun w => by first | rfl | (go_simp; done) | (simp [go_sem]; done)) ?_
      simp only [Act.put, List.setIfInBounds_toArray, List.set_cons_succ, List.set_cons_zero]
      refine WG.nil ?_
      intro Wb Bbx
      have Nb := Na.grown Bbx
      have Bb0 := Ba.trans (Bbx.mono Ba.size)
      have Pb := hP.grown Bb0
      have Bb := below_lower Bb0 hsz
      clear Na Ba Pa Bb0 Bbx c0 c1'
      go_wp2_with (first
        | (go_at_call 142; refine (c2 _ Pb).mono ?_; rintro en W3 ⟨rfl, P3, Bx, Tx⟩; have B3 : Below base w W3 := Bb.trans Bx; have N3 := Nb.turn Tx (by omega); clear c2 Bx Tx Pb Bb Nb)
        | (refine wpList_store1 rfl 9 _ _ rfl rfl (.string nm) rfl N3 (by simp) info9 rfl ?_; intro W5 U5 N5x; have N5 : IsS W5 b3 60 [.int .i64 (-1), .string nm] := N5x; have P5 := P3.aside N3 (by decide) U5 (by omega) (by omega); have B5 : Below base w W5 := U5.trans B3 (by omega); clear N5x U5 P3 B3 N3)
        | (go_at_call 119; refine (c4 _ P5).mono ?_; rintro en W14 ⟨rfl, P14, Bx, Tx⟩; have B14 : Below base w W14 := B5.trans Bx; have N14 := N5.turn Tx (by omega); clear c4 Bx Tx P5 B5 N5)
        | (go_at_call 144; refine (c5 _ P14).mono ?_; rintro en W15 ⟨rfl, P15, Bx, Tx⟩; have B15 : Below base w W15 := B14.trans Bx; have N15 := N14.turn Tx (by omega); clear c5 Bx Tx P14 B14 N14)
        | (refine wpList_loadP rfl 60 _ rfl rfl N15 2 [.int .i64 (-1), .string nm] rfl _ Tryz.underlying60 rfl (by kernel_rfl) ?_)
        | (go_at_call 69; refine (c6 _ P15).mono ?_; rintro en W16 ⟨rfl, P16, Bx⟩; have B16 : Below base w W16 := B15.trans Bx; clear c6 Bx P15 B15 N15))
      go_ret
      exact ⟨rfl, P16, B16⟩
end
end Go.Proofs.YtjnbhcakfenbhaaGreatDoor
/- How many stand open behind a reader, whatever it found. -/
namespace Go.Proofs.YtjnbhcakfenbhaaGreatDoor
open Go.RowKit Go.Shelf M
set_option linter.unusedSimpArgs false
set_option linter.unusedVariables false

theorem take_dp (gs : List GT) (σ : CS) : (takeC gs σ).deep = σ.deep := by unfold takeC; split <;> rfl
theorem fail_dp (σ : CS) (g : GT) (e : Int) : (failC σ g e).deep = σ.deep := by unfold failC; split <;> rfl
theorem sign_dp (gs : List GT) (σ : CS) (x : List UInt8) : (signC gs σ x).deep = σ.deep := by unfold signC; split; exact take_dp gs σ; exact fail_dp σ _ _
theorem name_dp (gs : List GT) (σ : CS) : (nameC gs σ).deep = σ.deep := by unfold nameC; split; exact take_dp gs σ; exact fail_dp σ _ _
theorem nbr_dp (gs : List GT) (σ : CS) : (nbrC gs σ).deep = σ.deep := by unfold nbrC; split; exact take_dp gs σ; exact fail_dp σ _ _
theorem node_dp (gs : List GT) (σ : CS) (nd : Nd) : (nodeC gs σ nd).deep = σ.deep := by
  unfold nodeC; split
  · rfl
  · split
    · exact fail_dp σ _ _
    · rfl
theorem ref_dp (gs : List GT) (σ : CS) : (refC gs σ).deep = σ.deep := by
  unfold refC; split
  · rw [sign_dp, name_dp, take_dp]
  · split
    · rw [name_dp, sign_dp, take_dp]
    · rw [name_dp]
theorem eq_dp (gs : List GT) (σ : CS) : (eqC gs σ).deep = σ.deep := by unfold eqC eqS; rw [node_dp, nbr_dp, sign_dp, ref_dp]
theorem isT_none {gs : List GT} {σ : CS} {on : Nat} {kd : Int} {x : List UInt8} {y : Int × Int × Int} (h : σ.F = some y) : isT gs σ on kd x = false := by unfold isT; rw [h]; rfl
/-- Where something is wrong already, nothing turns. -/
theorem go_stay (gs : List GT) {σ : CS} {y : Int × Int × Int} (h : σ.F = some y) : ∀ (f : Nat) (m : Option Int) (lvl : Nat), (goC gs f m lvl σ).2 = σ
  | 0, _, _ => rfl
  | f + 1, some a, lvl => by unfold goC; rw [if_neg (by rw [isT_none h]; simp)]
  | f + 1, none, lvl + 1 => by unfold goC; rw [go_stay gs h f none lvl]; exact go_stay gs h f _ lvl
  | f + 1, none, 0 => by unfold goC; rw [if_pos (by rw [h]; rfl)]
theorem node_stay (gs : List GT) {σ : CS} {y : Int × Int × Int} (h : σ.F = some y) (nd : Nd) : nodeC gs σ nd = σ := if_pos (by rw [h]; rfl)
theorem open_cases (gs : List GT) {σ : CS} (hF : σ.F = none) : (64 ≤ σ.deep ∧ (openC gs σ).deep = σ.deep ∧ ∃ y, (openC gs σ).F = some y) ∨ (σ.deep < 64 ∧ (openC gs σ).deep = σ.deep + 1) := by
  unfold openC
  by_cases h : 64 ≤ σ.deep
  · rw [if_pos h]
    refine .inl ⟨h, fail_dp σ _ _, ?_⟩
    unfold failC
    rw [if_neg (by rw [hF]; simp)]
    exact ⟨_, rfl⟩
  · rw [if_neg h]
    exact .inr ⟨by omega, take_dp gs _⟩
theorem go_dp (gs : List GT) : ∀ (f : Nat) (m : Option Int) (lvl : Nat) (σ : CS), σ.deep - 1 ≤ (goC gs f m lvl σ).2.deep ∧ (goC gs f m lvl σ).2.deep ≤ σ.deep
  | 0, _, _, σ => ⟨by show σ.deep - 1 ≤ σ.deep; omega, Int.le_refl _⟩
  | f + 1, some a, lvl, σ => by
    unfold goC
    by_cases hB : isT gs σ 0 4 (sgnOf lvl) = true
    · rw [if_pos hB]
      have h1 := go_dp gs f none lvl (takeC gs σ)
      have h2 := kp_go gs f none lvl (takeC gs σ)
      rw [take_dp] at h1
      generalize goC gs f none lvl (takeC gs σ) = r at *
      obtain ⟨i, τ⟩ := r
      dsimp only at *
      rcases F_or τ with g | ⟨y, u⟩
      · have h3 := h2.deep g
        rw [take_dp] at h3
        have h4 := go_dp gs f (some (nodeI τ)) lvl (nodeC gs τ (nd2 (opOf lvl) a i))
        rw [node_dp, h3] at h4
        exact h4
      · rw [node_stay gs u, go_stay gs u]
        exact h1
    · rw [if_neg hB]
      exact ⟨by show σ.deep - 1 ≤ σ.deep; omega, Int.le_refl _⟩
  | f + 1, none, lvl + 1, σ => by
    unfold goC
    have h1 := go_dp gs f none lvl σ
    have h2 := kp_go gs f none lvl σ
    generalize goC gs f none lvl σ = r at *
    obtain ⟨i, τ⟩ := r
    dsimp only at *
    rcases F_or τ with g | ⟨y, u⟩
    · have h4 := go_dp gs f (some i) lvl τ
      rw [h2.deep g] at h4
      exact h4
    · rw [go_stay gs u]
      exact h1
  | f + 1, none, 0, σ => by
    rcases F_or σ with hF | ⟨y, u⟩
    · have ho := open_cases gs hF
      rw [go_zero hF]
      split
      · have h1 := go_dp gs f none 0 (openC gs σ)
        rw [node_dp]
        show σ.deep - 1 ≤ (goC gs f none 0 (openC gs σ)).2.deep - 1 ∧ (goC gs f none 0 (openC gs σ)).2.deep - 1 ≤ σ.deep
        rcases ho with ⟨_, e, y, u⟩ | ⟨_, e⟩
        · rw [go_stay gs u, e]; omega
        · rw [e] at h1; omega
      · split
        · have h1 := go_dp gs f none 2 (openC gs σ)
          show σ.deep - 1 ≤ (signC gs (goC gs f none 2 (openC gs σ)).2 [41]).deep - 1 ∧ (signC gs (goC gs f none 2 (openC gs σ)).2 [41]).deep - 1 ≤ σ.deep
          rw [sign_dp]
          rcases ho with ⟨_, e, y, u⟩ | ⟨_, e⟩
          · rw [go_stay gs u, e]; omega
          · rw [e] at h1; omega
        · split
          · dsimp only; rw [node_dp, take_dp]; omega
          · dsimp only; rw [eq_dp]; omega
    · rw [go_stay gs u]; omega
end Go.Proofs.YtjnbhcakfenbhaaGreatDoor
