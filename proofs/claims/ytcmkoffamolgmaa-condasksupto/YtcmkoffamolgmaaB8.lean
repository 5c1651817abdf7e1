/- Refs of the reference. -/
import Derived.Test.YtcmkoffamolgmaaB7
namespace Go.Proofs.Ytcmkoffamolgmaa
open Go Go.RowKit M
set_option linter.unusedSimpArgs false
set_option linter.unusedVariables false

theorem hb_then {W0 w' w9 : World} (h : Hid (Below W0.heap.size W0 w')) (k : Below w'.heap.size w' w9) : Hid (Below W0.heap.size W0 w9) := Below.then h.out k
theorem flatR_map (l : List NK) : flatR l = (l.map unN).flatMap rkL := by unfold flatR; rw [List.flatMap_map]; rfl
theorem seg_nk {w : World} {a : Option Addr} {l : List NK} (h : Seg w a (flatR l)) {i : Nat} {r : NK} (hr : l[i]? = some r) : ∃ b o, a = some ⟨b, o, none⟩ ∧ b < w.heap.size ∧ w.rangeAt b (o + i * 2) (nkL r) := by
  rw [flatR_map] at h
  exact seg_rk h (by rw [List.getElem?_map, hr]; rfl)
theorem exec_slTo {w : World} {op : Oper} {a : Act} {T : TypeId} {x y : Operand} {v u r : Value} (ho : op.op = .slice T x none (some y) none) (hx : a.eval x = v) (hy : a.eval y = u) (hr : ∀ w, (Instr.sliceAt T v none (some u) none).run Try.prog w = .ok r w) : (execOp a.eval op).run Try.prog w = .ok (.value r) w := by
  unfold execOp
  simp [ho, hx, hy, hr, Sem.run_bind]
set_option maxRecDepth 100000 in
set_option maxHeartbeats 8000000 in
theorem rrefs_any (ad : Option Addr) (cap : Nat) (ns : List Nd) (hs : ∀ n ∈ ns, n.nm.size ≤ maxLen) (hn : ns.length ≤ 16777216) (w : World) (hT : Nds w ad ns) :
    Calls Try.prog 6 #[.slice ad ns.length cap] w fun e w' => ∃ v, e = .returned (.tuple #[v, .int .i64 (checkF nmB ns)]) ∧ OwnK w' w.heap.size v (refsF ns) ∧ Below w.heap.size w w' := by
  have cC := rcheck_any ad cap ns hs hn w hT
  obtain ⟨A, hA⟩ : ∃ A : Ending → World → Prop, (fun e w' => ∃ v, e = .returned (.tuple #[v, .int .i64 (checkF nmB ns)]) ∧ OwnK w' w.heap.size v (refsF ns) ∧ Below w.heap.size w w') = A := ⟨_, rfl⟩
  by_cases hz : checkF nmB ns = 0
  · obtain ⟨t, ht⟩ := check_tree hz
    have hl : ns.length ≤ 1024 := (tree_at ht).2.2.2
    have HOK : Hid (∀ n ∈ ns, n.op = 2 → -1 ≤ n.th) := tree_ok ht
    have HA : Hid (∀ v w', OwnK w' w.heap.size v (setL cmN (refsN ns)) → Below w.heap.size w w' → A (.returned (.tuple #[v, .int .i64 0])) w') := by
      rw [← hA]; intro v w' h1 h2
      refine ⟨v, by rw [hz], ?_, h2⟩
      unfold refsF; rw [if_pos hz]; exact h1
    have HT : Hid (Nds w ad ns) := hT
    have HRL : Hid (∀ k, (setL cmN (refsN (ns.take k))).length ≤ 1024) := fun k => Nat.le_trans (setL_len _) (Nat.le_trans (refsN_len _) (by rw [List.length_take]; omega))
    rw [hA]
    rw [hz] at cC
    obtain ⟨m, hm⟩ : ∃ m, ns.length = m := ⟨_, rfl⟩
    have HM : Hid (ns.length = m) := hm
    rw [hm] at cC hl ⊢
    clear hA hz ht hT hm hs hn
    go_enter Try.func6, Try.ntmps6
    go_wp2_with (first
      | (go_at_call 18; refine cC.mono ?_; rintro e W1 ⟨rfl, B1⟩; clear cC))
    have HB1 : Hid (Below w.heap.size w W1) := B1
    clear B1
    go_loopw [5, 6] (fun v i wr => ∃ k : Nat, k ≤ m ∧ i = .int .i64 (k : Int) ∧ Hid (OwnK wr w.heap.size v (setL cmN (refsN (ns.take k)))) ∧ Hid (Below w.heap.size w wr)) (fun _ i _ => m - (intOf i).toNat)
    case atStart => exact ⟨0, Nat.zero_le _, rfl, own_nil _ _ _ _, HB1.out⟩
    case round =>
      obtain ⟨q, hq, rfl, HO, HB⟩ := hrel
      have hsw := HB.out.size
      by_cases hlt : q < m
      · have hqi : (q : Int) < m := by omega
        obtain ⟨nd, hnd⟩ : ∃ nd, ns[q]? = some nd := ⟨_, List.getElem?_eq_getElem (by rw [HM.out]; exact hlt)⟩
        have HS : Hid (refsN (ns.take (q + 1)) = refsN (ns.take q) ++ (if nd.op = 2 then [nkOf nd.th nd.nm] else [])) := by show _ = _; rw [take_at hnd, refsN_snoc]
        obtain ⟨b, o, rfl, hb, hrg0⟩ := HT.out q nd hnd
        have HOK1 : Hid (nd.op = 2 → unN (nkOf nd.th nd.nm) = (nd.th, nd.nm)) := fun h => un_nk (HOK.out nd (List.mem_of_getElem? hnd) h)
        have hRL := HRL.out q
        obtain ⟨op, na, nb, th, nm, vl⟩ := nd
        have c0w : w.cell? ⟨b, o + q * 6, none⟩ = some (.int .i64 op) := hrg0 0 _ rfl
        have c0 : wr.cell? ⟨b, o + q * 6, none⟩ = some (.int .i64 op) := cell_grow c0w HB.out
        have hrx : Hid (w.rangeAt b (o + q * 6 + 3) (rkL (th, nm))) := (fun j u hu => by unfold rkL thI at hu; match j, hu with | 0, hu => exact (by simpa using hu) ▸ hrg0 3 _ rfl | 1, hu => exact (by simpa using hu) ▸ hrg0 4 _ rfl | j + 2, hu => simp at hu)
        have HSN : Hid (setL cmN (refsN (ns.take q) ++ [nkOf th nm]) = insL cmN (nkOf th nm) (setL cmN (refsN (ns.take q)))) := setL_snoc _ _
        obtain ⟨a5, c5, hv5⟩ := own_form HO.out
        subst hv5
        clear hnd hrg0 c0w
        cases ho : (op != 2) with
        | true =>
          have HS2 : Hid (refsN (ns.take (q + 1)) = refsN (ns.take q)) := by show _ = _; rw [HS.out, if_neg (by simpa using ho), List.append_nil]
          clear HS HOK1 HSN hrx
          generalize refsN (ns.take q) = l0 at *
          generalize (setL cmN l0).length = n0 at *
          go_wp2
          go_roundw
          case rel => exact ⟨q + 1, by omega, by go_num, by show OwnK _ _ _ _; rw [HS2.out]; exact HO.out, HB.out⟩
          case measure => simp [intOf]; omega
        | false =>
          have eo : op = 2 := by simpa using ho
          subst eo
          have HS2 : Hid (setL cmN (refsN (ns.take (q + 1))) = insL cmN (nkOf th nm) (setL cmN (refsN (ns.take q)))) := by show _ = _; rw [HS.out, if_pos rfl, HSN.out]
          have HX : Hid (w.rangeAt b (o + q * 6 + 3) (nkL (nkOf th nm))) := by unfold nkL; rw [HOK1.out rfl]; exact hrx.out
          clear HS HOK1 HSN hrx
          generalize nkOf th nm = x at *
          generalize setL cmN (refsN (ns.take q)) = L at *
          obtain ⟨n, hnL⟩ : ∃ n, L.length = n := ⟨_, rfl⟩
          have HNL : Hid (L.length = n) := hnL
          rw [hnL] at hRL ⊢
          have HOB : Hid (∀ k g, (Value.slice a5 k c5).ownBlock = some g → g < wr.heap.size) := fun k g h => (own_lt HO.out (k := g) (by rw [← h]; cases a5 <;> rfl)).2
          clear hnL
          obtain ⟨WO, eWO⟩ : ∃ W, W = wr := ⟨_, rfl⟩
          subst eWO
          go_wp2
          go_loopw [7] (fun z wq => ∃ k : Nat, k ≤ n ∧ z = .int .i64 (k : Int) ∧ Hid (insAt cmN L x k) ∧ Hid (Below WO.heap.size WO wq)) (fun z _ => n - (intOf z).toNat)
          case atStart => exact ⟨0, Nat.zero_le _, rfl, insAt_zero _ _ _, Below.refl _ _⟩
          case round =>
            obtain ⟨k, hk, rfl, HI, HBq⟩ := hrel
            have HBB : Hid (Below w.heap.size w wr) := Below.then HB.out HBq.out
            have HOq : Hid (OwnK wr w.heap.size (.slice a5 n c5) L) := by have := own_below HO.out HBq.out; rw [HNL.out] at this; show World.ownsRow _ _ _ _ _ _ _; rw [HNL.out]; exact this
            have HXq : wr.rangeAt b (o + q * 6 + 3) (nkL x) := fun j u hu => cell_grow (HX.out j u hu) HBB.out
            have hbq : b < wr.heap.size := Nat.lt_of_lt_of_le hb HBB.out.size
            by_cases hkn : k < n
            · have hki : (k : Int) < n := by omega
              obtain ⟨y, hy⟩ : ∃ y, L[k]? = some y := ⟨_, List.getElem?_eq_getElem (by rw [HNL.out]; exact hkn)⟩
              obtain ⟨b5, o5, ea5, hb5, HY⟩ : ∃ b5 o5, a5 = some ⟨b5, o5, none⟩ ∧ b5 < wr.heap.size ∧ wr.rangeAt b5 (o5 + k * 2) (nkL y) := by
                obtain ⟨a', c', e', hS, _⟩ := own_row HOq.out
                rw [HNL.out] at e'
                cases e'
                exact seg_nk hS hy
              have HKN : Hid (cmN y x < 0 → insAt cmN L x (k + 1)) := fun h => insAt_next HI.out hy h
              have HKE : Hid (¬ cmN y x < 0 → (y = x → insL cmN x L = L) ∧ (y ≠ x → insL cmN x L = L.take k ++ [x] ++ L.drop k)) := fun h => by
                have h1 := insAt_ins HI.out (fun z hz => by rw [hy] at hz; cases hz; exact h)
                rw [hy] at h1
                exact ⟨fun e => h1.1 (by rw [e]), fun e => h1.2 (fun e2 => e (Option.some.inj e2))⟩
              have hcb := fun W => below_any y x W
              clear hy
              by_cases hyx : cmN y x < 0
              · have hd : decide (cmN y x < 0) = true := by simpa using hyx
                rw [hd] at hcb
                have HIN : Hid (insAt cmN L x (k + 1)) := HKN.out hyx
                clear HKN HKE hd hyx
                subst ea5
                go_wp2
                refine grow_allW (by kernel_rfl) (by kernel_rfl) ?_
                refine WG.put rfl (v := .int .i64 (k : Int)) (fun w => by first | rfl | (go_simp; done) | (simp [go_sem]; done) | (simp [execOp, go_sem]; done)) ?_
                simp only [Act.put, List.setIfInBounds_toArray, List.set_cons_succ, List.set_cons_zero]
                refine WG.put rfl (v := .slice (some ⟨b5, o5, none⟩) n c5) (fun w => by first | rfl | (go_simp; done) | (simp [go_sem]; done) | (simp [execOp, go_sem]; done)) ?_
                simp only [Act.put, List.setIfInBounds_toArray, List.set_cons_succ, List.set_cons_zero]
                refine WG.put rfl (v := .int .i64 (n : Int)) (fun w => by first | rfl | (go_simp; done) | (simp [go_sem]; done) | (simp [execOp, go_sem]; done)) ?_
                simp only [Act.put, List.setIfInBounds_toArray, List.set_cons_succ, List.set_cons_zero]
                refine WG.put rfl (v := .bool true) (fun w => by first | rfl | (go_simp; done) | (simp [go_sem, hki]; done) | (simp [execOp, go_sem, hki]; done)) ?_
                simp only [Act.put, List.setIfInBounds_toArray, List.set_cons_succ, List.set_cons_zero]
                refine WG.put rfl (v := .bool true) (fun w => by first | rfl | (go_simp; done) | (simp [go_sem]; done) | (simp [execOp, go_sem]; done)) ?_
                simp only [Act.put, List.setIfInBounds_toArray, List.set_cons_succ, List.set_cons_zero]
                refine WG.put rfl (v := .slice (some ⟨b5, o5, none⟩) n c5) (fun w => by first | rfl | (go_simp; done) | (simp [go_sem]; done) | (simp [execOp, go_sem]; done)) ?_
                simp only [Act.put, List.setIfInBounds_toArray, List.set_cons_succ, List.set_cons_zero]
                refine WG.put rfl (v := .int .i64 (k : Int)) (fun w => by first | rfl | (go_simp; done) | (simp [go_sem]; done) | (simp [execOp, go_sem]; done)) ?_
                simp only [Act.put, List.setIfInBounds_toArray, List.set_cons_succ, List.set_cons_zero]
                refine WG.put rfl (v := .pointer (some ⟨b5, o5 + k * 2, none⟩)) (fun w => by first | rfl | (go_simp; done) | (simp [go_sem, hki]; done) | (simp [execOp, go_sem, hki]; done)) ?_
                simp only [Act.put, List.setIfInBounds_toArray, List.set_cons_succ, List.set_cons_zero]
                refine WG.nk (x := y) rfl _ rfl rfl hb5 HY ?_
                simp only [Act.put, List.setIfInBounds_toArray, List.set_cons_succ, List.set_cons_zero]
                refine WG.put rfl (v := .slice (some ⟨b, o, none⟩) m cap) (fun w => by first | rfl | (go_simp; done) | (simp [go_sem]; done) | (simp [execOp, go_sem]; done)) ?_
                simp only [Act.put, List.setIfInBounds_toArray, List.set_cons_succ, List.set_cons_zero]
                refine WG.put rfl (v := .int .i64 (q : Int)) (fun w => by first | rfl | (go_simp; done) | (simp [go_sem]; done) | (simp [execOp, go_sem]; done)) ?_
                simp only [Act.put, List.setIfInBounds_toArray, List.set_cons_succ, List.set_cons_zero]
                refine WG.put rfl (v := .pointer (some ⟨b, o + q * 6, none⟩)) (fun w => by first | rfl | (go_simp; done) | (simp [go_sem, hqi]; done) | (simp [execOp, go_sem, hqi]; done)) ?_
                simp only [Act.put, List.setIfInBounds_toArray, List.set_cons_succ, List.set_cons_zero]
                refine WG.put rfl (v := .pointer (some ⟨b, o + q * 6 + 3, none⟩)) (fun w => by first | rfl | (go_simp; done) | (simp [go_sem]; done) | (simp [execOp, go_sem]; done)) ?_
                simp only [Act.put, List.setIfInBounds_toArray, List.set_cons_succ, List.set_cons_zero]
                refine WG.nk (x := x) rfl _ rfl rfl hbq HXq ?_
                simp only [Act.put, List.setIfInBounds_toArray, List.set_cons_succ, List.set_cons_zero]
                refine WG.call rfl (v := .bool true) (fun W _ => hcb W) (fun w => by first | rfl | (go_simp; done) | (simp [go_sem]; done) | (simp [execOp, go_sem]; done)) ?_
                simp only [Act.put, List.setIfInBounds_toArray, List.set_cons_succ, List.set_cons_zero]
                refine WG.put rfl (v := .bool true) (fun w => by first | rfl | (go_simp; done) | (simp [go_sem]; done) | (simp [execOp, go_sem]; done)) ?_
                simp only [Act.put, List.setIfInBounds_toArray, List.set_cons_succ, List.set_cons_zero]
                refine WG.nil ?_
                intro w5 B5
                have BN := Below.then HBq.out B5
                clear HY HXq
                go_wp2
                go_roundw
                case rel => exact ⟨k + 1, by omega, by go_num, HIN.out, BN⟩
                case measure => simp [intOf]; omega
              · have hd : decide (cmN y x < 0) = false := by simpa using hyx
                rw [hd] at hcb
                have HKE2 := HKE.out hyx
                clear HKN HKE hd hyx
                subst ea5
                by_cases hxy : y = x
                · have HR : Hid (insL cmN x L = L) := HKE2.1 hxy
                  have hde : (!decide (y = x)) = false := by simpa using hxy
                  clear HKE2 hxy
                  go_wp2
                  refine grow_allW (by kernel_rfl) (by kernel_rfl) ?_
                  refine WG.put rfl (v := .int .i64 (k : Int)) (fun w => by first | rfl | (go_simp; done) | (simp [go_sem]; done) | (simp [execOp, go_sem]; done)) ?_
                  simp only [Act.put, List.setIfInBounds_toArray, List.set_cons_succ, List.set_cons_zero]
                  refine WG.put rfl (v := .slice (some ⟨b5, o5, none⟩) n c5) (fun w => by first | rfl | (go_simp; done) | (simp [go_sem]; done) | (simp [execOp, go_sem]; done)) ?_
                  simp only [Act.put, List.setIfInBounds_toArray, List.set_cons_succ, List.set_cons_zero]
                  refine WG.put rfl (v := .int .i64 (n : Int)) (fun w => by first | rfl | (go_simp; done) | (simp [go_sem]; done) | (simp [execOp, go_sem]; done)) ?_
                  simp only [Act.put, List.setIfInBounds_toArray, List.set_cons_succ, List.set_cons_zero]
                  refine WG.put rfl (v := .bool true) (fun w => by first | rfl | (go_simp; done) | (simp [go_sem, hki]; done) | (simp [execOp, go_sem, hki]; done)) ?_
                  simp only [Act.put, List.setIfInBounds_toArray, List.set_cons_succ, List.set_cons_zero]
                  refine WG.put rfl (v := .bool true) (fun w => by first | rfl | (go_simp; done) | (simp [go_sem]; done) | (simp [execOp, go_sem]; done)) ?_
                  simp only [Act.put, List.setIfInBounds_toArray, List.set_cons_succ, List.set_cons_zero]
                  refine WG.put rfl (v := .slice (some ⟨b5, o5, none⟩) n c5) (fun w => by first | rfl | (go_simp; done) | (simp [go_sem]; done) | (simp [execOp, go_sem]; done)) ?_
                  simp only [Act.put, List.setIfInBounds_toArray, List.set_cons_succ, List.set_cons_zero]
                  refine WG.put rfl (v := .int .i64 (k : Int)) (fun w => by first | rfl | (go_simp; done) | (simp [go_sem]; done) | (simp [execOp, go_sem]; done)) ?_
                  simp only [Act.put, List.setIfInBounds_toArray, List.set_cons_succ, List.set_cons_zero]
                  refine WG.put rfl (v := .pointer (some ⟨b5, o5 + k * 2, none⟩)) (fun w => by first | rfl | (go_simp; done) | (simp [go_sem, hki]; done) | (simp [execOp, go_sem, hki]; done)) ?_
                  simp only [Act.put, List.setIfInBounds_toArray, List.set_cons_succ, List.set_cons_zero]
                  refine WG.nk (x := y) rfl _ rfl rfl hb5 HY ?_
                  simp only [Act.put, List.setIfInBounds_toArray, List.set_cons_succ, List.set_cons_zero]
                  refine WG.put rfl (v := .slice (some ⟨b, o, none⟩) m cap) (fun w => by first | rfl | (go_simp; done) | (simp [go_sem]; done) | (simp [execOp, go_sem]; done)) ?_
                  simp only [Act.put, List.setIfInBounds_toArray, List.set_cons_succ, List.set_cons_zero]
                  refine WG.put rfl (v := .int .i64 (q : Int)) (fun w => by first | rfl | (go_simp; done) | (simp [go_sem]; done) | (simp [execOp, go_sem]; done)) ?_
                  simp only [Act.put, List.setIfInBounds_toArray, List.set_cons_succ, List.set_cons_zero]
                  refine WG.put rfl (v := .pointer (some ⟨b, o + q * 6, none⟩)) (fun w => by first | rfl | (go_simp; done) | (simp [go_sem, hqi]; done) | (simp [execOp, go_sem, hqi]; done)) ?_
                  simp only [Act.put, List.setIfInBounds_toArray, List.set_cons_succ, List.set_cons_zero]
                  refine WG.put rfl (v := .pointer (some ⟨b, o + q * 6 + 3, none⟩)) (fun w => by first | rfl | (go_simp; done) | (simp [go_sem]; done) | (simp [execOp, go_sem]; done)) ?_
                  simp only [Act.put, List.setIfInBounds_toArray, List.set_cons_succ, List.set_cons_zero]
                  refine WG.nk (x := x) rfl _ rfl rfl hbq HXq ?_
                  simp only [Act.put, List.setIfInBounds_toArray, List.set_cons_succ, List.set_cons_zero]
                  refine WG.call rfl (v := .bool false) (fun W _ => hcb W) (fun w => by first | rfl | (go_simp; done) | (simp [go_sem]; done) | (simp [execOp, go_sem]; done)) ?_
                  simp only [Act.put, List.setIfInBounds_toArray, List.set_cons_succ, List.set_cons_zero]
                  refine WG.put rfl (v := .bool false) (fun w => by first | rfl | (go_simp; done) | (simp [go_sem]; done) | (simp [execOp, go_sem]; done)) ?_
                  simp only [Act.put, List.setIfInBounds_toArray, List.set_cons_succ, List.set_cons_zero]
                  refine WG.nil ?_
                  intro w5 B5
                  have BN := Below.then HBB.out B5
                  have O5 := own_below HOq.out B5
                  have HY5 : w5.rangeAt b5 (o5 + k * 2) (nkL y) := fun j u hu => cell_grow (HY j u hu) B5
                  have HX5 : w5.rangeAt b (o + q * 6 + 3) (nkL x) := fun j u hu => cell_grow (HXq j u hu) B5
                  have hb5' : b5 < w5.heap.size := Nat.lt_of_lt_of_le hb5 B5.size
                  have hbq' : b < w5.heap.size := Nat.lt_of_lt_of_le hbq B5.size
                  clear HY HXq hb5 hbq
                  go_wp2
                  have hkne : ((k : Int) == (n : Int)) = false := by simp; omega
                  refine grow_allW (by kernel_rfl) (by kernel_rfl) ?_
                  refine WG.put rfl (v := .int .i64 (k : Int)) (fun w => by first | rfl | (go_simp; done) | (simp [go_sem]; done) | (simp [execOp, go_sem]; done)) ?_
                  simp only [Act.put, List.setIfInBounds_toArray, List.set_cons_succ, List.set_cons_zero]
                  refine WG.put rfl (v := .slice (some ⟨b5, o5, none⟩) n c5) (fun w => by first | rfl | (go_simp; done) | (simp [go_sem]; done) | (simp [execOp, go_sem]; done)) ?_
                  simp only [Act.put, List.setIfInBounds_toArray, List.set_cons_succ, List.set_cons_zero]
                  refine WG.put rfl (v := .int .i64 (n : Int)) (fun w => by first | rfl | (go_simp; done) | (simp [go_sem]; done) | (simp [execOp, go_sem]; done)) ?_
                  simp only [Act.put, List.setIfInBounds_toArray, List.set_cons_succ, List.set_cons_zero]
                  refine WG.put rfl (v := .bool false) (fun w => by first | rfl | (go_simp; done) | (simp [go_sem, hkne]; done) | (simp [execOp, go_sem, hkne]; done)) ?_
                  simp only [Act.put, List.setIfInBounds_toArray, List.set_cons_succ, List.set_cons_zero]
                  refine WG.put rfl (v := .bool false) (fun w => by first | rfl | (go_simp; done) | (simp [go_sem]; done) | (simp [execOp, go_sem]; done)) ?_
                  simp only [Act.put, List.setIfInBounds_toArray, List.set_cons_succ, List.set_cons_zero]
                  refine WG.put rfl (v := .slice (some ⟨b5, o5, none⟩) n c5) (fun w => by first | rfl | (go_simp; done) | (simp [go_sem]; done) | (simp [execOp, go_sem]; done)) ?_
                  simp only [Act.put, List.setIfInBounds_toArray, List.set_cons_succ, List.set_cons_zero]
                  refine WG.put rfl (v := .int .i64 (k : Int)) (fun w => by first | rfl | (go_simp; done) | (simp [go_sem]; done) | (simp [execOp, go_sem]; done)) ?_
                  simp only [Act.put, List.setIfInBounds_toArray, List.set_cons_succ, List.set_cons_zero]
                  refine WG.put rfl (v := .pointer (some ⟨b5, o5 + k * 2, none⟩)) (fun w => by first | rfl | (go_simp; done) | (simp [go_sem, hki]; done) | (simp [execOp, go_sem, hki]; done)) ?_
                  simp only [Act.put, List.setIfInBounds_toArray, List.set_cons_succ, List.set_cons_zero]
                  refine WG.nk (x := y) rfl _ rfl rfl hb5' HY5 ?_
                  simp only [Act.put, List.setIfInBounds_toArray, List.set_cons_succ, List.set_cons_zero]
                  refine WG.put rfl (v := .slice (some ⟨b, o, none⟩) m cap) (fun w => by first | rfl | (go_simp; done) | (simp [go_sem]; done) | (simp [execOp, go_sem]; done)) ?_
                  simp only [Act.put, List.setIfInBounds_toArray, List.set_cons_succ, List.set_cons_zero]
                  refine WG.put rfl (v := .int .i64 (q : Int)) (fun w => by first | rfl | (go_simp; done) | (simp [go_sem]; done) | (simp [execOp, go_sem]; done)) ?_
                  simp only [Act.put, List.setIfInBounds_toArray, List.set_cons_succ, List.set_cons_zero]
                  refine WG.put rfl (v := .pointer (some ⟨b, o + q * 6, none⟩)) (fun w => by first | rfl | (go_simp; done) | (simp [go_sem, hqi]; done) | (simp [execOp, go_sem, hqi]; done)) ?_
                  simp only [Act.put, List.setIfInBounds_toArray, List.set_cons_succ, List.set_cons_zero]
                  refine WG.put rfl (v := .pointer (some ⟨b, o + q * 6 + 3, none⟩)) (fun w => by first | rfl | (go_simp; done) | (simp [go_sem]; done) | (simp [execOp, go_sem]; done)) ?_
                  simp only [Act.put, List.setIfInBounds_toArray, List.set_cons_succ, List.set_cons_zero]
                  refine WG.nk (x := x) rfl _ rfl rfl hbq' HX5 ?_
                  simp only [Act.put, List.setIfInBounds_toArray, List.set_cons_succ, List.set_cons_zero]
                  refine WG.neqN rfl _ _ rfl rfl rfl false hde ?_
                  simp only [Act.put, List.setIfInBounds_toArray, List.set_cons_succ, List.set_cons_zero]
                  refine WG.put rfl (v := .bool false) (fun w => by first | rfl | (go_simp; done) | (simp [go_sem]; done) | (simp [execOp, go_sem]; done)) ?_
                  simp only [Act.put, List.setIfInBounds_toArray, List.set_cons_succ, List.set_cons_zero]
                  refine WG.nil ?_
                  intro w6 B6
                  have BN6 := Below.then BN B6
                  have O6 := own_below O5 B6
                  clear HY5 HX5
                  go_wp2
                  go_roundw
                  case rel => exact ⟨q + 1, by omega, by go_num, by show OwnK _ _ _ _; rw [HS2.out, HR.out]; exact O6, BN6⟩
                  case measure => simp [intOf]; omega
                · have HR : Hid (insL cmN x L = L.take k ++ [x] ++ L.drop k) := HKE2.2 hxy
                  have hde : (!decide (y = x)) = true := by simpa using hxy
                  clear HKE2 hxy
                  go_wp2
                  refine grow_allW (by kernel_rfl) (by kernel_rfl) ?_
                  refine WG.put rfl (v := .int .i64 (k : Int)) (fun w => by first | rfl | (go_simp; done) | (simp [go_sem]; done) | (simp [execOp, go_sem]; done)) ?_
                  simp only [Act.put, List.setIfInBounds_toArray, List.set_cons_succ, List.set_cons_zero]
                  refine WG.put rfl (v := .slice (some ⟨b5, o5, none⟩) n c5) (fun w => by first | rfl | (go_simp; done) | (simp [go_sem]; done) | (simp [execOp, go_sem]; done)) ?_
                  simp only [Act.put, List.setIfInBounds_toArray, List.set_cons_succ, List.set_cons_zero]
                  refine WG.put rfl (v := .int .i64 (n : Int)) (fun w => by first | rfl | (go_simp; done) | (simp [go_sem]; done) | (simp [execOp, go_sem]; done)) ?_
                  simp only [Act.put, List.setIfInBounds_toArray, List.set_cons_succ, List.set_cons_zero]
                  refine WG.put rfl (v := .bool true) (fun w => by first | rfl | (go_simp; done) | (simp [go_sem, hki]; done) | (simp [execOp, go_sem, hki]; done)) ?_
                  simp only [Act.put, List.setIfInBounds_toArray, List.set_cons_succ, List.set_cons_zero]
                  refine WG.put rfl (v := .bool true) (fun w => by first | rfl | (go_simp; done) | (simp [go_sem]; done) | (simp [execOp, go_sem]; done)) ?_
                  simp only [Act.put, List.setIfInBounds_toArray, List.set_cons_succ, List.set_cons_zero]
                  refine WG.put rfl (v := .slice (some ⟨b5, o5, none⟩) n c5) (fun w => by first | rfl | (go_simp; done) | (simp [go_sem]; done) | (simp [execOp, go_sem]; done)) ?_
                  simp only [Act.put, List.setIfInBounds_toArray, List.set_cons_succ, List.set_cons_zero]
                  refine WG.put rfl (v := .int .i64 (k : Int)) (fun w => by first | rfl | (go_simp; done) | (simp [go_sem]; done) | (simp [execOp, go_sem]; done)) ?_
                  simp only [Act.put, List.setIfInBounds_toArray, List.set_cons_succ, List.set_cons_zero]
                  refine WG.put rfl (v := .pointer (some ⟨b5, o5 + k * 2, none⟩)) (fun w => by first | rfl | (go_simp; done) | (simp [go_sem, hki]; done) | (simp [execOp, go_sem, hki]; done)) ?_
                  simp only [Act.put, List.setIfInBounds_toArray, List.set_cons_succ, List.set_cons_zero]
                  refine WG.nk (x := y) rfl _ rfl rfl hb5 HY ?_
                  simp only [Act.put, List.setIfInBounds_toArray, List.set_cons_succ, List.set_cons_zero]
                  refine WG.put rfl (v := .slice (some ⟨b, o, none⟩) m cap) (fun w => by first | rfl | (go_simp; done) | (simp [go_sem]; done) | (simp [execOp, go_sem]; done)) ?_
                  simp only [Act.put, List.setIfInBounds_toArray, List.set_cons_succ, List.set_cons_zero]
                  refine WG.put rfl (v := .int .i64 (q : Int)) (fun w => by first | rfl | (go_simp; done) | (simp [go_sem]; done) | (simp [execOp, go_sem]; done)) ?_
                  simp only [Act.put, List.setIfInBounds_toArray, List.set_cons_succ, List.set_cons_zero]
                  refine WG.put rfl (v := .pointer (some ⟨b, o + q * 6, none⟩)) (fun w => by first | rfl | (go_simp; done) | (simp [go_sem, hqi]; done) | (simp [execOp, go_sem, hqi]; done)) ?_
                  simp only [Act.put, List.setIfInBounds_toArray, List.set_cons_succ, List.set_cons_zero]
                  refine WG.put rfl (v := .pointer (some ⟨b, o + q * 6 + 3, none⟩)) (fun w => by first | rfl | (go_simp; done) | (simp [go_sem]; done) | (simp [execOp, go_sem]; done)) ?_
                  simp only [Act.put, List.setIfInBounds_toArray, List.set_cons_succ, List.set_cons_zero]
                  refine WG.nk (x := x) rfl _ rfl rfl hbq HXq ?_
                  simp only [Act.put, List.setIfInBounds_toArray, List.set_cons_succ, List.set_cons_zero]
                  refine WG.call rfl (v := .bool false) (fun W _ => hcb W) (fun w => by first | rfl | (go_simp; done) | (simp [go_sem]; done) | (simp [execOp, go_sem]; done)) ?_
                  simp only [Act.put, List.setIfInBounds_toArray, List.set_cons_succ, List.set_cons_zero]
                  refine WG.put rfl (v := .bool false) (fun w => by first | rfl | (go_simp; done) | (simp [go_sem]; done) | (simp [execOp, go_sem]; done)) ?_
                  simp only [Act.put, List.setIfInBounds_toArray, List.set_cons_succ, List.set_cons_zero]
                  refine WG.nil ?_
                  intro w5 B5
                  have BN := Below.then HBB.out B5
                  have O5 := own_below HOq.out B5
                  have HY5 : w5.rangeAt b5 (o5 + k * 2) (nkL y) := fun j u hu => cell_grow (HY j u hu) B5
                  have HX5 : w5.rangeAt b (o + q * 6 + 3) (nkL x) := fun j u hu => cell_grow (HXq j u hu) B5
                  have hb5' : b5 < w5.heap.size := Nat.lt_of_lt_of_le hb5 B5.size
                  have hbq' : b < w5.heap.size := Nat.lt_of_lt_of_le hbq B5.size
                  clear HY HXq hb5 hbq
                  go_wp2
                  have hkne : ((k : Int) == (n : Int)) = false := by simp; omega
                  refine grow_allW (by kernel_rfl) (by kernel_rfl) ?_
                  refine WG.put rfl (v := .int .i64 (k : Int)) (fun w => by first | rfl | (go_simp; done) | (simp [go_sem]; done) | (simp [execOp, go_sem]; done)) ?_
                  simp only [Act.put, List.setIfInBounds_toArray, List.set_cons_succ, List.set_cons_zero]
                  refine WG.put rfl (v := .slice (some ⟨b5, o5, none⟩) n c5) (fun w => by first | rfl | (go_simp; done) | (simp [go_sem]; done) | (simp [execOp, go_sem]; done)) ?_
                  simp only [Act.put, List.setIfInBounds_toArray, List.set_cons_succ, List.set_cons_zero]
                  refine WG.put rfl (v := .int .i64 (n : Int)) (fun w => by first | rfl | (go_simp; done) | (simp [go_sem]; done) | (simp [execOp, go_sem]; done)) ?_
                  simp only [Act.put, List.setIfInBounds_toArray, List.set_cons_succ, List.set_cons_zero]
                  refine WG.put rfl (v := .bool false) (fun w => by first | rfl | (go_simp; done) | (simp [go_sem, hkne]; done) | (simp [execOp, go_sem, hkne]; done)) ?_
                  simp only [Act.put, List.setIfInBounds_toArray, List.set_cons_succ, List.set_cons_zero]
                  refine WG.put rfl (v := .bool false) (fun w => by first | rfl | (go_simp; done) | (simp [go_sem]; done) | (simp [execOp, go_sem]; done)) ?_
                  simp only [Act.put, List.setIfInBounds_toArray, List.set_cons_succ, List.set_cons_zero]
                  refine WG.put rfl (v := .slice (some ⟨b5, o5, none⟩) n c5) (fun w => by first | rfl | (go_simp; done) | (simp [go_sem]; done) | (simp [execOp, go_sem]; done)) ?_
                  simp only [Act.put, List.setIfInBounds_toArray, List.set_cons_succ, List.set_cons_zero]
                  refine WG.put rfl (v := .int .i64 (k : Int)) (fun w => by first | rfl | (go_simp; done) | (simp [go_sem]; done) | (simp [execOp, go_sem]; done)) ?_
                  simp only [Act.put, List.setIfInBounds_toArray, List.set_cons_succ, List.set_cons_zero]
                  refine WG.put rfl (v := .pointer (some ⟨b5, o5 + k * 2, none⟩)) (fun w => by first | rfl | (go_simp; done) | (simp [go_sem, hki]; done) | (simp [execOp, go_sem, hki]; done)) ?_
                  simp only [Act.put, List.setIfInBounds_toArray, List.set_cons_succ, List.set_cons_zero]
                  refine WG.nk (x := y) rfl _ rfl rfl hb5' HY5 ?_
                  simp only [Act.put, List.setIfInBounds_toArray, List.set_cons_succ, List.set_cons_zero]
                  refine WG.put rfl (v := .slice (some ⟨b, o, none⟩) m cap) (fun w => by first | rfl | (go_simp; done) | (simp [go_sem]; done) | (simp [execOp, go_sem]; done)) ?_
                  simp only [Act.put, List.setIfInBounds_toArray, List.set_cons_succ, List.set_cons_zero]
                  refine WG.put rfl (v := .int .i64 (q : Int)) (fun w => by first | rfl | (go_simp; done) | (simp [go_sem]; done) | (simp [execOp, go_sem]; done)) ?_
                  simp only [Act.put, List.setIfInBounds_toArray, List.set_cons_succ, List.set_cons_zero]
                  refine WG.put rfl (v := .pointer (some ⟨b, o + q * 6, none⟩)) (fun w => by first | rfl | (go_simp; done) | (simp [go_sem, hqi]; done) | (simp [execOp, go_sem, hqi]; done)) ?_
                  simp only [Act.put, List.setIfInBounds_toArray, List.set_cons_succ, List.set_cons_zero]
                  refine WG.put rfl (v := .pointer (some ⟨b, o + q * 6 + 3, none⟩)) (fun w => by first | rfl | (go_simp; done) | (simp [go_sem]; done) | (simp [execOp, go_sem]; done)) ?_
                  simp only [Act.put, List.setIfInBounds_toArray, List.set_cons_succ, List.set_cons_zero]
                  refine WG.nk (x := x) rfl _ rfl rfl hbq' HX5 ?_
                  simp only [Act.put, List.setIfInBounds_toArray, List.set_cons_succ, List.set_cons_zero]
                  refine WG.neqN rfl _ _ rfl rfl rfl true hde ?_
                  simp only [Act.put, List.setIfInBounds_toArray, List.set_cons_succ, List.set_cons_zero]
                  refine WG.put rfl (v := .bool true) (fun w => by first | rfl | (go_simp; done) | (simp [go_sem]; done) | (simp [execOp, go_sem]; done)) ?_
                  simp only [Act.put, List.setIfInBounds_toArray, List.set_cons_succ, List.set_cons_zero]
                  refine WG.nil ?_
                  intro w6 B6
                  have BN6 := Below.then BN B6
                  have O6 := own_below O5 B6
                  have hs6 : WO.heap.size ≤ w6.heap.size := Nat.le_trans HBq.out.size (Nat.le_trans B5.size B6.size)
                  clear HY5 HX5
                  obtain ⟨a3, c3, hsf, hsr⟩ := sl_from O6 HNL.out hk
                  obtain ⟨hup, hup2⟩ := sl_upto O6 HNL.out hk
                  have hrow := hsr _ O6
                  have hdl : (flatR (L.drop k)).length = (n - k) * 2 := by rw [flatR_len, List.length_drop, HNL.out]
                  have hup3 : ∀ w', OwnK w' w.heap.size (.slice (some ⟨b5, o5, none⟩) n c5) L → w'.ownsRow w.heap.size 39 2 (.slice (some ⟨b5, o5, none⟩) k c5) k (flatR (L.take k)) := fun w' h => by
                    have := hup2 w' h
                    unfold OwnK at this
                    rwa [show (L.take k).length = k by rw [List.length_take, HNL.out]; omega] at this
                  clear hup2
                  have HN1 : Hid (∀ v w', w'.ownsRow w.heap.size 39 2 v (k + 1 + (n - k)) (flatR (L.take k) ++ nkL x ++ flatR (L.drop k)) → OwnK w' w.heap.size v (setL cmN (refsN (ns.take (q + 1))))) := fun v w' h => by
                    unfold OwnK
                    rw [HS2.out, HR.out, flatR_append, flatR_append, flatR_sing, List.length_append, List.length_append, List.length_take, List.length_drop, HNL.out, Nat.min_eq_left hk]
                    exact h
                  obtain ⟨n3, hn3⟩ : ∃ n3, n - k = n3 := ⟨_, rfl⟩
                  have hn3b : n3 ≤ 1024 := by omega
                  rw [hn3] at hsf hsr hrow hdl
                  simp only [hn3] at HN1
                  clear hsr
                  go_wp2_with (first
                    | (refine wpList_build0E eRef rfl rfl ?_; intro W7 b7 F7 O7; have B7 := F_b F7; have hrow7 := hrow.below B7)
                    | (at_builtin; refine wpList_appM eRef rfl _ _ rfl w6.heap.size _ 0 [] rfl O7 _ n3 (flatR (L.drop k)) rfl hrow7 hdl (flatR_one _) (by omega) B7.size ?_; intro v8 w8 O8 G8))
                  have B8 : Below w6.heap.size w6 w8 := grown_below B7 B7.size O7 G8
                  rw [Nat.zero_add, List.nil_append] at O8
                  have O8r := own_raise O8 hs6
                  obtain ⟨a8, c8, hv8⟩ := own_form O8r
                  subst hv8
                  have O9 := own_below O6 B8
                  have BN8 := Below.then BN6 B8
                  clear O7 G8 O8 hrow hrow7 B7 F7 O6 O5
                  have HBX : Hid (Below w.heap.size w w8) := BN8
                  refine region_invA 12 (fun a0 listed a' w' => ∃ x65 x66 x67 x68 x69 x70 x71 x72 x73 x74 x75 x76 : Value, a' = ((((((((((((a0.put (some 65) x65).put (some 66) x66).put (some 67) x67).put (some 68) x68).put (some 69) x69).put (some 70) x70).put (some 71) x71).put (some 72) x72).put (some 73) x73).put (some 74) x74).put (some 75) x75).put (some 76) x76) ∧ Hid (Below w.heap.size w w') ∧ (listed.getD 9 false = false → OwnK w' w.heap.size (.slice (some ⟨b5, o5, none⟩) n c5) L) ∧ (listed.getD 11 false = false → w'.ownsRow WO.heap.size 39 2 (.slice a8 n3 c8) n3 (flatR (L.drop k))) ∧ (listed.getD 9 false = true → listed.getD 2 false = true) ∧ (listed.getD 9 false = true → listed.getD 8 false = true) ∧ (listed.getD 11 false = true → listed.getD 9 false = true) ∧ (listed.getD 11 false = true → listed.getD 10 false = true) ∧ (listed.getD 0 false = true → x65 = (.slice (some ⟨b5, o5, none⟩) n c5)) ∧ (listed.getD 1 false = true → x66 = (.int .i64 (k : Int))) ∧ (listed.getD 2 false = true → x67 = (.slice (some ⟨b5, o5, none⟩) k c5)) ∧ (listed.getD 3 false = true → x68 = (.slice (some ⟨b, o, none⟩) m cap)) ∧ (listed.getD 4 false = true → x69 = (.int .i64 (q : Int))) ∧ (listed.getD 5 false = true → x70 = (.pointer (some ⟨b, o + q * 6, none⟩))) ∧ (listed.getD 6 false = true → x71 = (.pointer (some ⟨b, o + q * 6 + 3, none⟩))) ∧ (listed.getD 7 false = true → x72 = .agg (nkL x).toArray) ∧ (listed.getD 8 false = true → listed.getD 9 false = false → ∃ b, x73 = .slice (some ⟨b, 0, none⟩) 1 1 ∧ IsS w' b 39 (nkL x)) ∧ (listed.getD 9 false = true → listed.getD 11 false = false → w'.ownsRow w.heap.size 39 2 x74 (k + 1) (flatR (L.take k) ++ nkL x)) ∧ (listed.getD 10 false = true → x75 = (.slice a8 n3 c8)) ∧ (listed.getD 11 false = true → w'.ownsRow w.heap.size 39 2 x76 (k + 1 + n3) (flatR (L.take k) ++ nkL x ++ flatR (L.drop k)))) (by kernel_rfl) (by kernel_rfl) ?i0 ?istep ?iend
                  case i0 => exact ⟨_, _, _, _, _, _, _, _, _, _, _, _, by first | (simp only [Act.put, List.setIfInBounds_toArray, List.set_cons_succ, List.set_cons_zero]; done) | (simp only [Act.put, List.setIfInBounds_toArray, List.set_cons_succ, List.set_cons_zero]; rfl) | rfl, below_drew BN8, fun _ => own_below O9 (below_drew (Below.refl _ _)), fun _ => own_below O8r (below_drew (Below.refl _ _)), fun h => (not_rep h).elim, fun h => (not_rep h).elim, fun h => (not_rep h).elim, fun h => (not_rep h).elim, fun h => (not_rep h).elim, fun h => (not_rep h).elim, fun h => (not_rep h).elim, fun h => (not_rep h).elim, fun h => (not_rep h).elim, fun h => (not_rep h).elim, fun h => (not_rep h).elim, fun h => (not_rep h).elim, fun h => (not_rep h).elim, fun h => (not_rep h).elim, fun h => (not_rep h).elim, fun h => (not_rep h).elim⟩
                  case istep =>
                    rintro i listed a' w' hi hr ⟨x65, x66, x67, x68, x69, x70, x71, x72, x73, x74, x75, x76, rfl, HBw, p0, p1, m9_2, m9_8, m11_9, m11_10, d0, d1, d2, d3, d4, d5, d6, d7, d8, d9, d10, d11⟩
                    obtain ⟨hun, oj, hoj, hwt⟩ := mem_ready.1 hr
                    simp only [Act.put, List.setIfInBounds_toArray, List.set_cons_succ, List.set_cons_zero]
                    have hcase : i = 0 ∨ i = 1 ∨ i = 2 ∨ i = 3 ∨ i = 4 ∨ i = 5 ∨ i = 6 ∨ i = 7 ∨ i = 8 ∨ i = 9 ∨ i = 10 ∨ i = 11 := by omega
                    rcases hcase with rfl | rfl | rfl | rfl | rfl | rfl | rfl | rfl | rfl | rfl | rfl | rfl
                    · have hoj2 := hoj
                      obtain rfl := Option.some.inj hoj
                      refine wpOp_value hoj2 rfl (v := (.slice (some ⟨b5, o5, none⟩) n c5)) (w' := w') (by first | rfl | (go_simp; done) | (simp [go_sem]; done) | (simp [execOp, go_sem]; done)) ?_
                      exact ⟨(.slice (some ⟨b5, o5, none⟩) n c5), x66, x67, x68, x69, x70, x71, x72, x73, x74, x75, x76, by first | (simp only [Act.put, List.setIfInBounds_toArray, List.set_cons_succ, List.set_cons_zero]; done) | (simp only [Act.put, List.setIfInBounds_toArray, List.set_cons_succ, List.set_cons_zero]; rfl) | rfl, HBw, fun h => (p0 (keepG (by decide) h)), fun h => (p1 (keepG (by decide) h)), fun h => keepT (m9_2 (keep (by decide) h)), fun h => keepT (m9_8 (keep (by decide) h)), fun h => keepT (m11_9 (keep (by decide) h)), fun h => keepT (m11_10 (keep (by decide) h)), fun _ => rfl, fun h => (d1 (keep (by decide) h)), fun h => (d2 (keep (by decide) h)), fun h => (d3 (keep (by decide) h)), fun h => (d4 (keep (by decide) h)), fun h => (d5 (keep (by decide) h)), fun h => (d6 (keep (by decide) h)), fun h => (d7 (keep (by decide) h)), fun h h2 => (d8 (keep (by decide) h) (keepG (by decide) h2)), fun h h2 => (d9 (keep (by decide) h) (keepG (by decide) h2)), fun h => (d10 (keep (by decide) h)), fun h => (d11 (keep (by decide) h))⟩
                    · have hoj2 := hoj
                      obtain rfl := Option.some.inj hoj
                      refine wpOp_value hoj2 rfl (v := (.int .i64 (k : Int))) (w' := w') (by first | rfl | (go_simp; done) | (simp [go_sem]; done) | (simp [execOp, go_sem]; done)) ?_
                      exact ⟨x65, (.int .i64 (k : Int)), x67, x68, x69, x70, x71, x72, x73, x74, x75, x76, by first | (simp only [Act.put, List.setIfInBounds_toArray, List.set_cons_succ, List.set_cons_zero]; done) | (simp only [Act.put, List.setIfInBounds_toArray, List.set_cons_succ, List.set_cons_zero]; rfl) | rfl, HBw, fun h => (p0 (keepG (by decide) h)), fun h => (p1 (keepG (by decide) h)), fun h => keepT (m9_2 (keep (by decide) h)), fun h => keepT (m9_8 (keep (by decide) h)), fun h => keepT (m11_9 (keep (by decide) h)), fun h => keepT (m11_10 (keep (by decide) h)), fun h => (d0 (keep (by decide) h)), fun _ => rfl, fun h => (d2 (keep (by decide) h)), fun h => (d3 (keep (by decide) h)), fun h => (d4 (keep (by decide) h)), fun h => (d5 (keep (by decide) h)), fun h => (d6 (keep (by decide) h)), fun h => (d7 (keep (by decide) h)), fun h h2 => (d8 (keep (by decide) h) (keepG (by decide) h2)), fun h h2 => (d9 (keep (by decide) h) (keepG (by decide) h2)), fun h => (d10 (keep (by decide) h)), fun h => (d11 (keep (by decide) h))⟩
                    · have hoj2 := hoj
                      obtain rfl := Option.some.inj hoj
                      have e0 := d0 (hwt ⟨0, .data⟩ (by simp) rfl)
                      have e1 := d1 (hwt ⟨1, .data⟩ (by simp) rfl)
                      have q0 := p0 (by cases hq : listed.getD 9 false with | false => rfl | true => exact absurd (m9_2 hq) (by rw [getD_both hun]; simp))
                      subst e0 e1
                      refine wpOp_value hoj2 rfl (v := (.slice (some ⟨b5, o5, none⟩) k c5)) (w' := w') (by exact exec_slTo rfl rfl rfl hup) ?_
                      exact ⟨_, _, (.slice (some ⟨b5, o5, none⟩) k c5), x68, x69, x70, x71, x72, x73, x74, x75, x76, by first | (simp only [Act.put, List.setIfInBounds_toArray, List.set_cons_succ, List.set_cons_zero]; done) | (simp only [Act.put, List.setIfInBounds_toArray, List.set_cons_succ, List.set_cons_zero]; rfl) | rfl, HBw, fun h => (p0 (keepG (by decide) h)), fun h => (p1 (keepG (by decide) h)), fun h => keepT (m9_2 (keep (by decide) h)), fun h => keepT (m9_8 (keep (by decide) h)), fun h => keepT (m11_9 (keep (by decide) h)), fun h => keepT (m11_10 (keep (by decide) h)), fun h => (d0 (keep (by decide) h)), fun h => (d1 (keep (by decide) h)), fun _ => rfl, fun h => (d3 (keep (by decide) h)), fun h => (d4 (keep (by decide) h)), fun h => (d5 (keep (by decide) h)), fun h => (d6 (keep (by decide) h)), fun h => (d7 (keep (by decide) h)), fun h h2 => (d8 (keep (by decide) h) (keepG (by decide) h2)), fun h => absurd (m9_2 (keep (by decide) h)) (by rw [getD_both hun]; simp), fun h => (d10 (keep (by decide) h)), fun h => (d11 (keep (by decide) h))⟩
                    · have hoj2 := hoj
                      obtain rfl := Option.some.inj hoj
                      refine wpOp_value hoj2 rfl (v := (.slice (some ⟨b, o, none⟩) m cap)) (w' := w') (by first | rfl | (go_simp; done) | (simp [go_sem]; done) | (simp [execOp, go_sem]; done)) ?_
                      exact ⟨x65, x66, x67, (.slice (some ⟨b, o, none⟩) m cap), x69, x70, x71, x72, x73, x74, x75, x76, by first | (simp only [Act.put, List.setIfInBounds_toArray, List.set_cons_succ, List.set_cons_zero]; done) | (simp only [Act.put, List.setIfInBounds_toArray, List.set_cons_succ, List.set_cons_zero]; rfl) | rfl, HBw, fun h => (p0 (keepG (by decide) h)), fun h => (p1 (keepG (by decide) h)), fun h => keepT (m9_2 (keep (by decide) h)), fun h => keepT (m9_8 (keep (by decide) h)), fun h => keepT (m11_9 (keep (by decide) h)), fun h => keepT (m11_10 (keep (by decide) h)), fun h => (d0 (keep (by decide) h)), fun h => (d1 (keep (by decide) h)), fun h => (d2 (keep (by decide) h)), fun _ => rfl, fun h => (d4 (keep (by decide) h)), fun h => (d5 (keep (by decide) h)), fun h => (d6 (keep (by decide) h)), fun h => (d7 (keep (by decide) h)), fun h h2 => (d8 (keep (by decide) h) (keepG (by decide) h2)), fun h h2 => (d9 (keep (by decide) h) (keepG (by decide) h2)), fun h => (d10 (keep (by decide) h)), fun h => (d11 (keep (by decide) h))⟩
                    · have hoj2 := hoj
                      obtain rfl := Option.some.inj hoj
                      refine wpOp_value hoj2 rfl (v := (.int .i64 (q : Int))) (w' := w') (by first | rfl | (go_simp; done) | (simp [go_sem]; done) | (simp [execOp, go_sem]; done)) ?_
                      exact ⟨x65, x66, x67, x68, (.int .i64 (q : Int)), x70, x71, x72, x73, x74, x75, x76, by first | (simp only [Act.put, List.setIfInBounds_toArray, List.set_cons_succ, List.set_cons_zero]; done) | (simp only [Act.put, List.setIfInBounds_toArray, List.set_cons_succ, List.set_cons_zero]; rfl) | rfl, HBw, fun h => (p0 (keepG (by decide) h)), fun h => (p1 (keepG (by decide) h)), fun h => keepT (m9_2 (keep (by decide) h)), fun h => keepT (m9_8 (keep (by decide) h)), fun h => keepT (m11_9 (keep (by decide) h)), fun h => keepT (m11_10 (keep (by decide) h)), fun h => (d0 (keep (by decide) h)), fun h => (d1 (keep (by decide) h)), fun h => (d2 (keep (by decide) h)), fun h => (d3 (keep (by decide) h)), fun _ => rfl, fun h => (d5 (keep (by decide) h)), fun h => (d6 (keep (by decide) h)), fun h => (d7 (keep (by decide) h)), fun h h2 => (d8 (keep (by decide) h) (keepG (by decide) h2)), fun h h2 => (d9 (keep (by decide) h) (keepG (by decide) h2)), fun h => (d10 (keep (by decide) h)), fun h => (d11 (keep (by decide) h))⟩
                    · have hoj2 := hoj
                      obtain rfl := Option.some.inj hoj
                      have e3 := d3 (hwt ⟨3, .data⟩ (by simp) rfl)
                      have e4 := d4 (hwt ⟨4, .data⟩ (by simp) rfl)
                      subst e3 e4
                      refine wpOp_value hoj2 rfl (v := (.pointer (some ⟨b, o + q * 6, none⟩))) (w' := w') (by first | (go_simp; done) | (simp [execOp, go_sem, hqi]; done)) ?_
                      exact ⟨x65, x66, x67, _, _, (.pointer (some ⟨b, o + q * 6, none⟩)), x71, x72, x73, x74, x75, x76, by first | (simp only [Act.put, List.setIfInBounds_toArray, List.set_cons_succ, List.set_cons_zero]; done) | (simp only [Act.put, List.setIfInBounds_toArray, List.set_cons_succ, List.set_cons_zero]; rfl) | rfl, HBw, fun h => (p0 (keepG (by decide) h)), fun h => (p1 (keepG (by decide) h)), fun h => keepT (m9_2 (keep (by decide) h)), fun h => keepT (m9_8 (keep (by decide) h)), fun h => keepT (m11_9 (keep (by decide) h)), fun h => keepT (m11_10 (keep (by decide) h)), fun h => (d0 (keep (by decide) h)), fun h => (d1 (keep (by decide) h)), fun h => (d2 (keep (by decide) h)), fun h => (d3 (keep (by decide) h)), fun h => (d4 (keep (by decide) h)), fun _ => rfl, fun h => (d6 (keep (by decide) h)), fun h => (d7 (keep (by decide) h)), fun h h2 => (d8 (keep (by decide) h) (keepG (by decide) h2)), fun h h2 => (d9 (keep (by decide) h) (keepG (by decide) h2)), fun h => (d10 (keep (by decide) h)), fun h => (d11 (keep (by decide) h))⟩
                    · have hoj2 := hoj
                      obtain rfl := Option.some.inj hoj
                      have e5 := d5 (hwt ⟨5, .data⟩ (by simp) rfl)
                      subst e5
                      refine wpOp_value hoj2 rfl (v := (.pointer (some ⟨b, o + q * 6 + 3, none⟩))) (w' := w') (by first | rfl | (go_simp; done) | (simp [go_sem]; done) | (simp [execOp, go_sem]; done)) ?_
                      exact ⟨x65, x66, x67, x68, x69, _, (.pointer (some ⟨b, o + q * 6 + 3, none⟩)), x72, x73, x74, x75, x76, by first | (simp only [Act.put, List.setIfInBounds_toArray, List.set_cons_succ, List.set_cons_zero]; done) | (simp only [Act.put, List.setIfInBounds_toArray, List.set_cons_succ, List.set_cons_zero]; rfl) | rfl, HBw, fun h => (p0 (keepG (by decide) h)), fun h => (p1 (keepG (by decide) h)), fun h => keepT (m9_2 (keep (by decide) h)), fun h => keepT (m9_8 (keep (by decide) h)), fun h => keepT (m11_9 (keep (by decide) h)), fun h => keepT (m11_10 (keep (by decide) h)), fun h => (d0 (keep (by decide) h)), fun h => (d1 (keep (by decide) h)), fun h => (d2 (keep (by decide) h)), fun h => (d3 (keep (by decide) h)), fun h => (d4 (keep (by decide) h)), fun h => (d5 (keep (by decide) h)), fun _ => rfl, fun h => (d7 (keep (by decide) h)), fun h h2 => (d8 (keep (by decide) h) (keepG (by decide) h2)), fun h h2 => (d9 (keep (by decide) h) (keepG (by decide) h2)), fun h => (d10 (keep (by decide) h)), fun h => (d11 (keep (by decide) h))⟩
                    · have hoj2 := hoj
                      obtain rfl := Option.some.inj hoj
                      have e6 := d6 (hwt ⟨6, .data⟩ (by simp) rfl)
                      subst e6
                      refine wpOp_value hoj2 rfl (v := .agg (nkL x).toArray) (w' := w') (exec_loadR rfl rfl (fun j u hu => cell_grow (HX.out j u hu) HBw.out) Try.underlying39 rfl infoRk) ?_
                      exact ⟨x65, x66, x67, x68, x69, x70, _, (.agg (nkL x).toArray), x73, x74, x75, x76, by first | (simp only [Act.put, List.setIfInBounds_toArray, List.set_cons_succ, List.set_cons_zero]; done) | (simp only [Act.put, List.setIfInBounds_toArray, List.set_cons_succ, List.set_cons_zero]; rfl) | rfl, HBw, fun h => (p0 (keepG (by decide) h)), fun h => (p1 (keepG (by decide) h)), fun h => keepT (m9_2 (keep (by decide) h)), fun h => keepT (m9_8 (keep (by decide) h)), fun h => keepT (m11_9 (keep (by decide) h)), fun h => keepT (m11_10 (keep (by decide) h)), fun h => (d0 (keep (by decide) h)), fun h => (d1 (keep (by decide) h)), fun h => (d2 (keep (by decide) h)), fun h => (d3 (keep (by decide) h)), fun h => (d4 (keep (by decide) h)), fun h => (d5 (keep (by decide) h)), fun h => (d6 (keep (by decide) h)), fun _ => rfl, fun h h2 => (d8 (keep (by decide) h) (keepG (by decide) h2)), fun h h2 => (d9 (keep (by decide) h) (keepG (by decide) h2)), fun h => (d10 (keep (by decide) h)), fun h => (d11 (keep (by decide) h))⟩
                    · have hoj2 := hoj
                      obtain rfl := Option.some.inj hoj
                      have e7 := d7 (hwt ⟨7, .data⟩ (by simp) rfl)
                      have q0 := p0 (by cases hq : listed.getD 9 false with | false => rfl | true => exact absurd (m9_8 hq) (by rw [getD_both hun]; simp))
                      subst e7
                      refine wpOp_value hoj2 rfl (exec_build2 eRef _ rfl _ _ rfl) ?_
                      have B9 := F_b (Fresh.alloc w' (.cells (nkL x).toArray 39))
                      exact ⟨x65, x66, x67, x68, x69, x70, x71, _, _, x74, x75, x76, by first | (simp only [Act.put, List.setIfInBounds_toArray, List.set_cons_succ, List.set_cons_zero]; done) | (simp only [Act.put, List.setIfInBounds_toArray, List.set_cons_succ, List.set_cons_zero]; rfl) | rfl, hb_then HBw B9, fun h => (own_below (p0 (keepG (by decide) h)) B9), fun h => (own_below (p1 (keepG (by decide) h)) B9), fun h => keepT (m9_2 (keep (by decide) h)), fun h => keepT (m9_8 (keep (by decide) h)), fun h => keepT (m11_9 (keep (by decide) h)), fun h => keepT (m11_10 (keep (by decide) h)), fun h => (d0 (keep (by decide) h)), fun h => (d1 (keep (by decide) h)), fun h => (d2 (keep (by decide) h)), fun h => (d3 (keep (by decide) h)), fun h => (d4 (keep (by decide) h)), fun h => (d5 (keep (by decide) h)), fun h => (d6 (keep (by decide) h)), fun h => (d7 (keep (by decide) h)), fun _ _ => ⟨_, rfl, IsS.new w' _ _⟩, fun h => absurd (m9_8 (keep (by decide) h)) (by rw [getD_both hun]; simp), fun h => (d10 (keep (by decide) h)), fun h => (own_below (d11 (keep (by decide) h)) B9)⟩
                    · have hoj2 := hoj
                      obtain rfl := Option.some.inj hoj
                      have e2 := d2 (hwt ⟨2, .data⟩ (by simp) rfl)
                      have e8 := d8 (hwt ⟨8, .data⟩ (by simp) rfl) (getD_both hun)
                      have q0 := p0 (getD_both hun)
                      have q1 := p1 (by cases hq : listed.getD 11 false with | false => rfl | true => exact absurd (m11_9 hq) (by rw [getD_both hun]; simp))
                      subst e2
                      obtain ⟨b73, rfl, I73⟩ := e8
                      obtain ⟨v9, w9, hr9, O9, G9⟩ := run_appM eRef w.heap.size _ k _ (hup3 w' q0) _ 1 (nkL x) (row_isS I73) rfl (nk_one _) (by omega) HBw.out.size _
                      refine wpOp_value hoj2 rfl (exec_app _ _ rfl rfl rfl hr9) ?_
                      have HBa : Hid (Below w.heap.size w w9) := grown_below HBw.out HBw.out.size (hup3 w' q0) G9
                      exact ⟨x65, x66, _, x68, x69, x70, x71, x72, _, _, x75, x76, by first | (simp only [Act.put, List.setIfInBounds_toArray, List.set_cons_succ, List.set_cons_zero]; done) | (simp only [Act.put, List.setIfInBounds_toArray, List.set_cons_succ, List.set_cons_zero]; rfl) | rfl, HBa, fun h => absurd h (by rw [nowU hun]; simp), fun h => (own_apart (p1 (keepG (by decide) h)) G9 (HOB.out k)), fun _ => keepT (hwt ⟨2, .data⟩ (by simp) rfl), fun _ => keepT (hwt ⟨8, .data⟩ (by simp) rfl), fun h => keepT (m11_9 (keep (by decide) h)), fun h => keepT (m11_10 (keep (by decide) h)), fun h => (d0 (keep (by decide) h)), fun h => (d1 (keep (by decide) h)), fun h => (d2 (keep (by decide) h)), fun h => (d3 (keep (by decide) h)), fun h => (d4 (keep (by decide) h)), fun h => (d5 (keep (by decide) h)), fun h => (d6 (keep (by decide) h)), fun h => (d7 (keep (by decide) h)), fun _ h => absurd h (by rw [nowU hun]; simp), fun _ _ => O9, fun h => (d10 (keep (by decide) h)), fun h => absurd (m11_9 (keep (by decide) h)) (by rw [getD_both hun]; simp)⟩
                    · have hoj2 := hoj
                      obtain rfl := Option.some.inj hoj
                      have q1 := p1 (by cases hq : listed.getD 11 false with | false => rfl | true => exact absurd (m11_10 hq) (by rw [getD_both hun]; simp))
                      refine wpOp_value hoj2 rfl (v := (.slice a8 n3 c8)) (w' := w') (by first | rfl | (go_simp; done) | (simp [go_sem]; done) | (simp [execOp, go_sem]; done)) ?_
                      exact ⟨x65, x66, x67, x68, x69, x70, x71, x72, x73, x74, (.slice a8 n3 c8), x76, by first | (simp only [Act.put, List.setIfInBounds_toArray, List.set_cons_succ, List.set_cons_zero]; done) | (simp only [Act.put, List.setIfInBounds_toArray, List.set_cons_succ, List.set_cons_zero]; rfl) | rfl, HBw, fun h => (p0 (keepG (by decide) h)), fun h => (p1 (keepG (by decide) h)), fun h => keepT (m9_2 (keep (by decide) h)), fun h => keepT (m9_8 (keep (by decide) h)), fun h => keepT (m11_9 (keep (by decide) h)), fun h => keepT (m11_10 (keep (by decide) h)), fun h => (d0 (keep (by decide) h)), fun h => (d1 (keep (by decide) h)), fun h => (d2 (keep (by decide) h)), fun h => (d3 (keep (by decide) h)), fun h => (d4 (keep (by decide) h)), fun h => (d5 (keep (by decide) h)), fun h => (d6 (keep (by decide) h)), fun h => (d7 (keep (by decide) h)), fun h h2 => (d8 (keep (by decide) h) (keepG (by decide) h2)), fun h h2 => (d9 (keep (by decide) h) (keepG (by decide) h2)), fun _ => rfl, fun h => absurd (m11_10 (keep (by decide) h)) (by rw [getD_both hun]; simp)⟩
                    · have hoj2 := hoj
                      obtain rfl := Option.some.inj hoj
                      have e9 := d9 (hwt ⟨9, .data⟩ (by simp) rfl) (getD_both hun)
                      have e10 := d10 (hwt ⟨10, .data⟩ (by simp) rfl)
                      have q1 := p1 (getD_both hun)
                      subst e10
                      obtain ⟨v9, w9, hr9, O9, G9⟩ := run_appM eRef w.heap.size _ (k + 1) _ e9 _ n3 (flatR (L.drop k)) (own_row q1) hdl (flatR_one _) (by omega) HBw.out.size _
                      refine wpOp_value hoj2 rfl (exec_app _ _ rfl rfl rfl hr9) ?_
                      have HBa : Hid (Below w.heap.size w w9) := grown_below HBw.out HBw.out.size e9 G9
                      exact ⟨x65, x66, x67, x68, x69, x70, x71, x72, x73, _, _, _, by first | (simp only [Act.put, List.setIfInBounds_toArray, List.set_cons_succ, List.set_cons_zero]; done) | (simp only [Act.put, List.setIfInBounds_toArray, List.set_cons_succ, List.set_cons_zero]; rfl) | rfl, HBa, fun h => absurd (keepG (by decide) h) (by rw [(hwt ⟨9, .data⟩ (by simp) rfl)]; simp), fun h => absurd h (by rw [nowU hun]; simp), fun h => keepT (m9_2 (keep (by decide) h)), fun h => keepT (m9_8 (keep (by decide) h)), fun _ => keepT (hwt ⟨9, .data⟩ (by simp) rfl), fun _ => keepT (hwt ⟨10, .data⟩ (by simp) rfl), fun h => (d0 (keep (by decide) h)), fun h => (d1 (keep (by decide) h)), fun h => (d2 (keep (by decide) h)), fun h => (d3 (keep (by decide) h)), fun h => (d4 (keep (by decide) h)), fun h => (d5 (keep (by decide) h)), fun h => (d6 (keep (by decide) h)), fun h => (d7 (keep (by decide) h)), fun _ h => absurd (keepG (by decide) h) (by rw [(hwt ⟨9, .data⟩ (by simp) rfl)]; simp), fun _ h => absurd h (by rw [nowU hun]; simp), fun h => (d10 (keep (by decide) h)), fun _ => O9⟩
                  case iend =>
                    rintro a' w' ⟨x65, x66, x67, x68, x69, x70, x71, x72, x73, x74, x75, x76, rfl, HBw, p0, p1, m9_2, m9_8, m11_9, m11_10, d0, d1, d2, d3, d4, d5, d6, d7, d8, d9, d10, d11⟩
                    replace d0 := d0 rfl
                    replace d1 := d1 rfl
                    replace d2 := d2 rfl
                    replace d3 := d3 rfl
                    replace d4 := d4 rfl
                    replace d5 := d5 rfl
                    replace d6 := d6 rfl
                    replace d7 := d7 rfl
                    replace d10 := d10 rfl
                    replace d11 := d11 rfl
                    clear m9_2 m9_8 m11_9 m11_10 d8 d9 p0 p1
                    simp only [Act.put, List.setIfInBounds_toArray, List.set_cons_succ, List.set_cons_zero]
                    simp only [List.drop_succ_cons, List.drop_zero]
                    have HOF := HN1.out _ _ d11
                    obtain ⟨x5a, x5c, ev5⟩ := own_form HOF
                    subst ev5
                    clear d0 d1 d2 d3 d4 d5 d6 d7 d10 d11
                    go_wp2_with fail
                    go_roundw
                    case rel => exact ⟨q + 1, by omega, by go_num, HOF, HBw.out⟩
                    case measure => simp [intOf]; omega
            · have ek : k = n := by omega
              subst ek
              have hki : ¬ ((k : Int) < k) := by omega
              have HR : Hid (insL cmN x L = L.take k ++ [x] ++ L.drop k) := by
                have h1 := insAt_ins HI.out (fun z hz => by rw [List.getElem?_eq_none (by rw [HNL.out]; exact Nat.le_refl _)] at hz; cases hz)
                exact h1.2 (by rw [List.getElem?_eq_none (by rw [HNL.out]; exact Nat.le_refl _)]; exact fun e => by cases e)
              go_wp2
              refine grow_allW (by kernel_rfl) (by kernel_rfl) ?_
              refine WG.put rfl (v := .int .i64 (k : Int)) (fun w => by first | rfl | (go_simp; done) | (simp [go_sem]; done) | (simp [execOp, go_sem]; done)) ?_
              simp only [Act.put, List.setIfInBounds_toArray, List.set_cons_succ, List.set_cons_zero]
              refine WG.put rfl (v := .slice a5 k c5) (fun w => by first | rfl | (go_simp; done) | (simp [go_sem]; done) | (simp [execOp, go_sem]; done)) ?_
              simp only [Act.put, List.setIfInBounds_toArray, List.set_cons_succ, List.set_cons_zero]
              refine WG.put rfl (v := .int .i64 (k : Int)) (fun w => by first | rfl | (go_simp; done) | (simp [go_sem]; done) | (simp [execOp, go_sem]; done)) ?_
              simp only [Act.put, List.setIfInBounds_toArray, List.set_cons_succ, List.set_cons_zero]
              refine WG.put rfl (v := .bool false) (fun w => by first | rfl | (go_simp; done) | (simp [go_sem, hki]; done) | (simp [execOp, go_sem, hki]; done)) ?_
              simp only [Act.put, List.setIfInBounds_toArray, List.set_cons_succ, List.set_cons_zero]
              refine WG.put rfl (v := .bool false) (fun w => by first | rfl | (go_simp; done) | (simp [go_sem]; done) | (simp [execOp, go_sem]; done)) ?_
              simp only [Act.put, List.setIfInBounds_toArray, List.set_cons_succ, List.set_cons_zero]
              refine WG.skip rfl ?_
              simp only [Act.put, List.setIfInBounds_toArray, List.set_cons_succ, List.set_cons_zero]
              refine WG.skip rfl ?_
              simp only [Act.put, List.setIfInBounds_toArray, List.set_cons_succ, List.set_cons_zero]
              refine WG.skip rfl ?_
              simp only [Act.put, List.setIfInBounds_toArray, List.set_cons_succ, List.set_cons_zero]
              refine WG.skip rfl ?_
              simp only [Act.put, List.setIfInBounds_toArray, List.set_cons_succ, List.set_cons_zero]
              refine WG.skip rfl ?_
              simp only [Act.put, List.setIfInBounds_toArray, List.set_cons_succ, List.set_cons_zero]
              refine WG.skip rfl ?_
              simp only [Act.put, List.setIfInBounds_toArray, List.set_cons_succ, List.set_cons_zero]
              refine WG.skip rfl ?_
              simp only [Act.put, List.setIfInBounds_toArray, List.set_cons_succ, List.set_cons_zero]
              refine WG.skip rfl ?_
              simp only [Act.put, List.setIfInBounds_toArray, List.set_cons_succ, List.set_cons_zero]
              refine WG.skip rfl ?_
              simp only [Act.put, List.setIfInBounds_toArray, List.set_cons_succ, List.set_cons_zero]
              refine WG.skip rfl ?_
              simp only [Act.put, List.setIfInBounds_toArray, List.set_cons_succ, List.set_cons_zero]
              refine WG.put rfl (v := .bool false) (fun w => by first | rfl | (go_simp; done) | (simp [go_sem]; done) | (simp [execOp, go_sem]; done)) ?_
              simp only [Act.put, List.setIfInBounds_toArray, List.set_cons_succ, List.set_cons_zero]
              refine WG.nil ?_
              intro w5 B5
              have BN := Below.then HBB.out B5
              have O5 := own_below HOq.out B5
              clear HXq
              go_wp2
              refine grow_allW (by kernel_rfl) (by kernel_rfl) ?_
              refine WG.put rfl (v := .int .i64 (k : Int)) (fun w => by first | rfl | (go_simp; done) | (simp [go_sem]; done) | (simp [execOp, go_sem]; done)) ?_
              simp only [Act.put, List.setIfInBounds_toArray, List.set_cons_succ, List.set_cons_zero]
              refine WG.put rfl (v := .slice a5 k c5) (fun w => by first | rfl | (go_simp; done) | (simp [go_sem]; done) | (simp [execOp, go_sem]; done)) ?_
              simp only [Act.put, List.setIfInBounds_toArray, List.set_cons_succ, List.set_cons_zero]
              refine WG.put rfl (v := .int .i64 (k : Int)) (fun w => by first | rfl | (go_simp; done) | (simp [go_sem]; done) | (simp [execOp, go_sem]; done)) ?_
              simp only [Act.put, List.setIfInBounds_toArray, List.set_cons_succ, List.set_cons_zero]
              refine WG.put rfl (v := .bool true) (fun w => by first | rfl | (go_simp; done) | (simp [go_sem]; done) | (simp [execOp, go_sem]; done)) ?_
              simp only [Act.put, List.setIfInBounds_toArray, List.set_cons_succ, List.set_cons_zero]
              refine WG.put rfl (v := .bool true) (fun w => by first | rfl | (go_simp; done) | (simp [go_sem]; done) | (simp [execOp, go_sem]; done)) ?_
              simp only [Act.put, List.setIfInBounds_toArray, List.set_cons_succ, List.set_cons_zero]
              refine WG.skip rfl ?_
              simp only [Act.put, List.setIfInBounds_toArray, List.set_cons_succ, List.set_cons_zero]
              refine WG.skip rfl ?_
              simp only [Act.put, List.setIfInBounds_toArray, List.set_cons_succ, List.set_cons_zero]
              refine WG.skip rfl ?_
              simp only [Act.put, List.setIfInBounds_toArray, List.set_cons_succ, List.set_cons_zero]
              refine WG.skip rfl ?_
              simp only [Act.put, List.setIfInBounds_toArray, List.set_cons_succ, List.set_cons_zero]
              refine WG.skip rfl ?_
              simp only [Act.put, List.setIfInBounds_toArray, List.set_cons_succ, List.set_cons_zero]
              refine WG.skip rfl ?_
              simp only [Act.put, List.setIfInBounds_toArray, List.set_cons_succ, List.set_cons_zero]
              refine WG.skip rfl ?_
              simp only [Act.put, List.setIfInBounds_toArray, List.set_cons_succ, List.set_cons_zero]
              refine WG.skip rfl ?_
              simp only [Act.put, List.setIfInBounds_toArray, List.set_cons_succ, List.set_cons_zero]
              refine WG.skip rfl ?_
              simp only [Act.put, List.setIfInBounds_toArray, List.set_cons_succ, List.set_cons_zero]
              refine WG.skip rfl ?_
              simp only [Act.put, List.setIfInBounds_toArray, List.set_cons_succ, List.set_cons_zero]
              refine WG.put rfl (v := .bool true) (fun w => by first | rfl | (go_simp; done) | (simp [go_sem]; done) | (simp [execOp, go_sem]; done)) ?_
              simp only [Act.put, List.setIfInBounds_toArray, List.set_cons_succ, List.set_cons_zero]
              refine WG.nil ?_
              intro w6 B6
              have BN6 := Below.then BN B6
              have O6 := own_below O5 B6
              have hs6 : WO.heap.size ≤ w6.heap.size := Nat.le_trans HBq.out.size (Nat.le_trans B5.size B6.size)
              obtain ⟨a3, c3, hsf, hsr⟩ := sl_from O6 HNL.out hk
              obtain ⟨hup, hup2⟩ := sl_upto O6 HNL.out hk
              have hrow := hsr _ O6
              have hdl : (flatR (L.drop k)).length = (k - k) * 2 := by rw [flatR_len, List.length_drop, HNL.out]
              have hup3 : ∀ w', OwnK w' w.heap.size (.slice a5 k c5) L → w'.ownsRow w.heap.size 39 2 (.slice a5 k c5) k (flatR (L.take k)) := fun w' h => by
                have := hup2 w' h
                unfold OwnK at this
                rwa [show (L.take k).length = k by rw [List.length_take, HNL.out]; omega] at this
              clear hup2
              have HN1 : Hid (∀ v w', w'.ownsRow w.heap.size 39 2 v (k + 1 + (k - k)) (flatR (L.take k) ++ nkL x ++ flatR (L.drop k)) → OwnK w' w.heap.size v (setL cmN (refsN (ns.take (q + 1))))) := fun v w' h => by
                unfold OwnK
                rw [HS2.out, HR.out, flatR_append, flatR_append, flatR_sing, List.length_append, List.length_append, List.length_take, List.length_drop, HNL.out, Nat.min_eq_left hk]
                exact h
              obtain ⟨n3, hn3⟩ : ∃ n3, k - k = n3 := ⟨_, rfl⟩
              have hn3b : n3 ≤ 1024 := by omega
              rw [hn3] at hsf hsr hrow hdl
              simp only [hn3] at HN1
              clear hsr
              go_wp2_with (first
                | (refine wpList_build0E eRef rfl rfl ?_; intro W7 b7 F7 O7; have B7 := F_b F7; have hrow7 := hrow.below B7)
                | (at_builtin; refine wpList_appM eRef rfl _ _ rfl w6.heap.size _ 0 [] rfl O7 _ n3 (flatR (L.drop k)) rfl hrow7 hdl (flatR_one _) (by omega) B7.size ?_; intro v8 w8 O8 G8))
              have B8 : Below w6.heap.size w6 w8 := grown_below B7 B7.size O7 G8
              rw [Nat.zero_add, List.nil_append] at O8
              have O8r := own_raise O8 hs6
              obtain ⟨a8, c8, hv8⟩ := own_form O8r
              subst hv8
              have O9 := own_below O6 B8
              have BN8 := Below.then BN6 B8
              clear O7 G8 O8 hrow hrow7 B7 F7 O6 O5
              have HBX : Hid (Below w.heap.size w w8) := BN8
              refine region_invA 12 (fun a0 listed a' w' => ∃ x65 x66 x67 x68 x69 x70 x71 x72 x73 x74 x75 x76 : Value, a' = ((((((((((((a0.put (some 65) x65).put (some 66) x66).put (some 67) x67).put (some 68) x68).put (some 69) x69).put (some 70) x70).put (some 71) x71).put (some 72) x72).put (some 73) x73).put (some 74) x74).put (some 75) x75).put (some 76) x76) ∧ Hid (Below w.heap.size w w') ∧ (listed.getD 9 false = false → OwnK w' w.heap.size (.slice a5 k c5) L) ∧ (listed.getD 11 false = false → w'.ownsRow WO.heap.size 39 2 (.slice a8 n3 c8) n3 (flatR (L.drop k))) ∧ (listed.getD 9 false = true → listed.getD 2 false = true) ∧ (listed.getD 9 false = true → listed.getD 8 false = true) ∧ (listed.getD 11 false = true → listed.getD 9 false = true) ∧ (listed.getD 11 false = true → listed.getD 10 false = true) ∧ (listed.getD 0 false = true → x65 = (.slice a5 k c5)) ∧ (listed.getD 1 false = true → x66 = (.int .i64 (k : Int))) ∧ (listed.getD 2 false = true → x67 = (.slice a5 k c5)) ∧ (listed.getD 3 false = true → x68 = (.slice (some ⟨b, o, none⟩) m cap)) ∧ (listed.getD 4 false = true → x69 = (.int .i64 (q : Int))) ∧ (listed.getD 5 false = true → x70 = (.pointer (some ⟨b, o + q * 6, none⟩))) ∧ (listed.getD 6 false = true → x71 = (.pointer (some ⟨b, o + q * 6 + 3, none⟩))) ∧ (listed.getD 7 false = true → x72 = .agg (nkL x).toArray) ∧ (listed.getD 8 false = true → listed.getD 9 false = false → ∃ b, x73 = .slice (some ⟨b, 0, none⟩) 1 1 ∧ IsS w' b 39 (nkL x)) ∧ (listed.getD 9 false = true → listed.getD 11 false = false → w'.ownsRow w.heap.size 39 2 x74 (k + 1) (flatR (L.take k) ++ nkL x)) ∧ (listed.getD 10 false = true → x75 = (.slice a8 n3 c8)) ∧ (listed.getD 11 false = true → w'.ownsRow w.heap.size 39 2 x76 (k + 1 + n3) (flatR (L.take k) ++ nkL x ++ flatR (L.drop k)))) (by kernel_rfl) (by kernel_rfl) ?i0 ?istep ?iend
              case i0 => exact ⟨_, _, _, _, _, _, _, _, _, _, _, _, by first | (simp only [Act.put, List.setIfInBounds_toArray, List.set_cons_succ, List.set_cons_zero]; done) | (simp only [Act.put, List.setIfInBounds_toArray, List.set_cons_succ, List.set_cons_zero]; rfl) | rfl, below_drew BN8, fun _ => own_below O9 (below_drew (Below.refl _ _)), fun _ => own_below O8r (below_drew (Below.refl _ _)), fun h => (not_rep h).elim, fun h => (not_rep h).elim, fun h => (not_rep h).elim, fun h => (not_rep h).elim, fun h => (not_rep h).elim, fun h => (not_rep h).elim, fun h => (not_rep h).elim, fun h => (not_rep h).elim, fun h => (not_rep h).elim, fun h => (not_rep h).elim, fun h => (not_rep h).elim, fun h => (not_rep h).elim, fun h => (not_rep h).elim, fun h => (not_rep h).elim, fun h => (not_rep h).elim, fun h => (not_rep h).elim⟩
              case istep =>
                rintro i listed a' w' hi hr ⟨x65, x66, x67, x68, x69, x70, x71, x72, x73, x74, x75, x76, rfl, HBw, p0, p1, m9_2, m9_8, m11_9, m11_10, d0, d1, d2, d3, d4, d5, d6, d7, d8, d9, d10, d11⟩
                obtain ⟨hun, oj, hoj, hwt⟩ := mem_ready.1 hr
                simp only [Act.put, List.setIfInBounds_toArray, List.set_cons_succ, List.set_cons_zero]
                have hcase : i = 0 ∨ i = 1 ∨ i = 2 ∨ i = 3 ∨ i = 4 ∨ i = 5 ∨ i = 6 ∨ i = 7 ∨ i = 8 ∨ i = 9 ∨ i = 10 ∨ i = 11 := by omega
                rcases hcase with rfl | rfl | rfl | rfl | rfl | rfl | rfl | rfl | rfl | rfl | rfl | rfl
                · have hoj2 := hoj
                  obtain rfl := Option.some.inj hoj
                  refine wpOp_value hoj2 rfl (v := (.slice a5 k c5)) (w' := w') (by first | rfl | (go_simp; done) | (simp [go_sem]; done) | (simp [execOp, go_sem]; done)) ?_
                  exact ⟨(.slice a5 k c5), x66, x67, x68, x69, x70, x71, x72, x73, x74, x75, x76, by first | (simp only [Act.put, List.setIfInBounds_toArray, List.set_cons_succ, List.set_cons_zero]; done) | (simp only [Act.put, List.setIfInBounds_toArray, List.set_cons_succ, List.set_cons_zero]; rfl) | rfl, HBw, fun h => (p0 (keepG (by decide) h)), fun h => (p1 (keepG (by decide) h)), fun h => keepT (m9_2 (keep (by decide) h)), fun h => keepT (m9_8 (keep (by decide) h)), fun h => keepT (m11_9 (keep (by decide) h)), fun h => keepT (m11_10 (keep (by decide) h)), fun _ => rfl, fun h => (d1 (keep (by decide) h)), fun h => (d2 (keep (by decide) h)), fun h => (d3 (keep (by decide) h)), fun h => (d4 (keep (by decide) h)), fun h => (d5 (keep (by decide) h)), fun h => (d6 (keep (by decide) h)), fun h => (d7 (keep (by decide) h)), fun h h2 => (d8 (keep (by decide) h) (keepG (by decide) h2)), fun h h2 => (d9 (keep (by decide) h) (keepG (by decide) h2)), fun h => (d10 (keep (by decide) h)), fun h => (d11 (keep (by decide) h))⟩
                · have hoj2 := hoj
                  obtain rfl := Option.some.inj hoj
                  refine wpOp_value hoj2 rfl (v := (.int .i64 (k : Int))) (w' := w') (by first | rfl | (go_simp; done) | (simp [go_sem]; done) | (simp [execOp, go_sem]; done)) ?_
                  exact ⟨x65, (.int .i64 (k : Int)), x67, x68, x69, x70, x71, x72, x73, x74, x75, x76, by first | (simp only [Act.put, List.setIfInBounds_toArray, List.set_cons_succ, List.set_cons_zero]; done) | (simp only [Act.put, List.setIfInBounds_toArray, List.set_cons_succ, List.set_cons_zero]; rfl) | rfl, HBw, fun h => (p0 (keepG (by decide) h)), fun h => (p1 (keepG (by decide) h)), fun h => keepT (m9_2 (keep (by decide) h)), fun h => keepT (m9_8 (keep (by decide) h)), fun h => keepT (m11_9 (keep (by decide) h)), fun h => keepT (m11_10 (keep (by decide) h)), fun h => (d0 (keep (by decide) h)), fun _ => rfl, fun h => (d2 (keep (by decide) h)), fun h => (d3 (keep (by decide) h)), fun h => (d4 (keep (by decide) h)), fun h => (d5 (keep (by decide) h)), fun h => (d6 (keep (by decide) h)), fun h => (d7 (keep (by decide) h)), fun h h2 => (d8 (keep (by decide) h) (keepG (by decide) h2)), fun h h2 => (d9 (keep (by decide) h) (keepG (by decide) h2)), fun h => (d10 (keep (by decide) h)), fun h => (d11 (keep (by decide) h))⟩
                · have hoj2 := hoj
                  obtain rfl := Option.some.inj hoj
                  have e0 := d0 (hwt ⟨0, .data⟩ (by simp) rfl)
                  have e1 := d1 (hwt ⟨1, .data⟩ (by simp) rfl)
                  have q0 := p0 (by cases hq : listed.getD 9 false with | false => rfl | true => exact absurd (m9_2 hq) (by rw [getD_both hun]; simp))
                  subst e0 e1
                  refine wpOp_value hoj2 rfl (v := (.slice a5 k c5)) (w' := w') (by exact exec_slTo rfl rfl rfl hup) ?_
                  exact ⟨_, _, (.slice a5 k c5), x68, x69, x70, x71, x72, x73, x74, x75, x76, by first | (simp only [Act.put, List.setIfInBounds_toArray, List.set_cons_succ, List.set_cons_zero]; done) | (simp only [Act.put, List.setIfInBounds_toArray, List.set_cons_succ, List.set_cons_zero]; rfl) | rfl, HBw, fun h => (p0 (keepG (by decide) h)), fun h => (p1 (keepG (by decide) h)), fun h => keepT (m9_2 (keep (by decide) h)), fun h => keepT (m9_8 (keep (by decide) h)), fun h => keepT (m11_9 (keep (by decide) h)), fun h => keepT (m11_10 (keep (by decide) h)), fun h => (d0 (keep (by decide) h)), fun h => (d1 (keep (by decide) h)), fun _ => rfl, fun h => (d3 (keep (by decide) h)), fun h => (d4 (keep (by decide) h)), fun h => (d5 (keep (by decide) h)), fun h => (d6 (keep (by decide) h)), fun h => (d7 (keep (by decide) h)), fun h h2 => (d8 (keep (by decide) h) (keepG (by decide) h2)), fun h => absurd (m9_2 (keep (by decide) h)) (by rw [getD_both hun]; simp), fun h => (d10 (keep (by decide) h)), fun h => (d11 (keep (by decide) h))⟩
                · have hoj2 := hoj
                  obtain rfl := Option.some.inj hoj
                  refine wpOp_value hoj2 rfl (v := (.slice (some ⟨b, o, none⟩) m cap)) (w' := w') (by first | rfl | (go_simp; done) | (simp [go_sem]; done) | (simp [execOp, go_sem]; done)) ?_
                  exact ⟨x65, x66, x67, (.slice (some ⟨b, o, none⟩) m cap), x69, x70, x71, x72, x73, x74, x75, x76, by first | (simp only [Act.put, List.setIfInBounds_toArray, List.set_cons_succ, List.set_cons_zero]; done) | (simp only [Act.put, List.setIfInBounds_toArray, List.set_cons_succ, List.set_cons_zero]; rfl) | rfl, HBw, fun h => (p0 (keepG (by decide) h)), fun h => (p1 (keepG (by decide) h)), fun h => keepT (m9_2 (keep (by decide) h)), fun h => keepT (m9_8 (keep (by decide) h)), fun h => keepT (m11_9 (keep (by decide) h)), fun h => keepT (m11_10 (keep (by decide) h)), fun h => (d0 (keep (by decide) h)), fun h => (d1 (keep (by decide) h)), fun h => (d2 (keep (by decide) h)), fun _ => rfl, fun h => (d4 (keep (by decide) h)), fun h => (d5 (keep (by decide) h)), fun h => (d6 (keep (by decide) h)), fun h => (d7 (keep (by decide) h)), fun h h2 => (d8 (keep (by decide) h) (keepG (by decide) h2)), fun h h2 => (d9 (keep (by decide) h) (keepG (by decide) h2)), fun h => (d10 (keep (by decide) h)), fun h => (d11 (keep (by decide) h))⟩
                · have hoj2 := hoj
                  obtain rfl := Option.some.inj hoj
                  refine wpOp_value hoj2 rfl (v := (.int .i64 (q : Int))) (w' := w') (by first | rfl | (go_simp; done) | (simp [go_sem]; done) | (simp [execOp, go_sem]; done)) ?_
                  exact ⟨x65, x66, x67, x68, (.int .i64 (q : Int)), x70, x71, x72, x73, x74, x75, x76, by first | (simp only [Act.put, List.setIfInBounds_toArray, List.set_cons_succ, List.set_cons_zero]; done) | (simp only [Act.put, List.setIfInBounds_toArray, List.set_cons_succ, List.set_cons_zero]; rfl) | rfl, HBw, fun h => (p0 (keepG (by decide) h)), fun h => (p1 (keepG (by decide) h)), fun h => keepT (m9_2 (keep (by decide) h)), fun h => keepT (m9_8 (keep (by decide) h)), fun h => keepT (m11_9 (keep (by decide) h)), fun h => keepT (m11_10 (keep (by decide) h)), fun h => (d0 (keep (by decide) h)), fun h => (d1 (keep (by decide) h)), fun h => (d2 (keep (by decide) h)), fun h => (d3 (keep (by decide) h)), fun _ => rfl, fun h => (d5 (keep (by decide) h)), fun h => (d6 (keep (by decide) h)), fun h => (d7 (keep (by decide) h)), fun h h2 => (d8 (keep (by decide) h) (keepG (by decide) h2)), fun h h2 => (d9 (keep (by decide) h) (keepG (by decide) h2)), fun h => (d10 (keep (by decide) h)), fun h => (d11 (keep (by decide) h))⟩
                · have hoj2 := hoj
                  obtain rfl := Option.some.inj hoj
                  have e3 := d3 (hwt ⟨3, .data⟩ (by simp) rfl)
                  have e4 := d4 (hwt ⟨4, .data⟩ (by simp) rfl)
                  subst e3 e4
                  refine wpOp_value hoj2 rfl (v := (.pointer (some ⟨b, o + q * 6, none⟩))) (w' := w') (by first | (go_simp; done) | (simp [execOp, go_sem, hqi]; done)) ?_
                  exact ⟨x65, x66, x67, _, _, (.pointer (some ⟨b, o + q * 6, none⟩)), x71, x72, x73, x74, x75, x76, by first | (simp only [Act.put, List.setIfInBounds_toArray, List.set_cons_succ, List.set_cons_zero]; done) | (simp only [Act.put, List.setIfInBounds_toArray, List.set_cons_succ, List.set_cons_zero]; rfl) | rfl, HBw, fun h => (p0 (keepG (by decide) h)), fun h => (p1 (keepG (by decide) h)), fun h => keepT (m9_2 (keep (by decide) h)), fun h => keepT (m9_8 (keep (by decide) h)), fun h => keepT (m11_9 (keep (by decide) h)), fun h => keepT (m11_10 (keep (by decide) h)), fun h => (d0 (keep (by decide) h)), fun h => (d1 (keep (by decide) h)), fun h => (d2 (keep (by decide) h)), fun h => (d3 (keep (by decide) h)), fun h => (d4 (keep (by decide) h)), fun _ => rfl, fun h => (d6 (keep (by decide) h)), fun h => (d7 (keep (by decide) h)), fun h h2 => (d8 (keep (by decide) h) (keepG (by decide) h2)), fun h h2 => (d9 (keep (by decide) h) (keepG (by decide) h2)), fun h => (d10 (keep (by decide) h)), fun h => (d11 (keep (by decide) h))⟩
                · have hoj2 := hoj
                  obtain rfl := Option.some.inj hoj
                  have e5 := d5 (hwt ⟨5, .data⟩ (by simp) rfl)
                  subst e5
                  refine wpOp_value hoj2 rfl (v := (.pointer (some ⟨b, o + q * 6 + 3, none⟩))) (w' := w') (by first | rfl | (go_simp; done) | (simp [go_sem]; done) | (simp [execOp, go_sem]; done)) ?_
                  exact ⟨x65, x66, x67, x68, x69, _, (.pointer (some ⟨b, o + q * 6 + 3, none⟩)), x72, x73, x74, x75, x76, by first | (simp only [Act.put, List.setIfInBounds_toArray, List.set_cons_succ, List.set_cons_zero]; done) | (simp only [Act.put, List.setIfInBounds_toArray, List.set_cons_succ, List.set_cons_zero]; rfl) | rfl, HBw, fun h => (p0 (keepG (by decide) h)), fun h => (p1 (keepG (by decide) h)), fun h => keepT (m9_2 (keep (by decide) h)), fun h => keepT (m9_8 (keep (by decide) h)), fun h => keepT (m11_9 (keep (by decide) h)), fun h => keepT (m11_10 (keep (by decide) h)), fun h => (d0 (keep (by decide) h)), fun h => (d1 (keep (by decide) h)), fun h => (d2 (keep (by decide) h)), fun h => (d3 (keep (by decide) h)), fun h => (d4 (keep (by decide) h)), fun h => (d5 (keep (by decide) h)), fun _ => rfl, fun h => (d7 (keep (by decide) h)), fun h h2 => (d8 (keep (by decide) h) (keepG (by decide) h2)), fun h h2 => (d9 (keep (by decide) h) (keepG (by decide) h2)), fun h => (d10 (keep (by decide) h)), fun h => (d11 (keep (by decide) h))⟩
                · have hoj2 := hoj
                  obtain rfl := Option.some.inj hoj
                  have e6 := d6 (hwt ⟨6, .data⟩ (by simp) rfl)
                  subst e6
                  refine wpOp_value hoj2 rfl (v := .agg (nkL x).toArray) (w' := w') (exec_loadR rfl rfl (fun j u hu => cell_grow (HX.out j u hu) HBw.out) Try.underlying39 rfl infoRk) ?_
                  exact ⟨x65, x66, x67, x68, x69, x70, _, (.agg (nkL x).toArray), x73, x74, x75, x76, by first | (simp only [Act.put, List.setIfInBounds_toArray, List.set_cons_succ, List.set_cons_zero]; done) | (simp only [Act.put, List.setIfInBounds_toArray, List.set_cons_succ, List.set_cons_zero]; rfl) | rfl, HBw, fun h => (p0 (keepG (by decide) h)), fun h => (p1 (keepG (by decide) h)), fun h => keepT (m9_2 (keep (by decide) h)), fun h => keepT (m9_8 (keep (by decide) h)), fun h => keepT (m11_9 (keep (by decide) h)), fun h => keepT (m11_10 (keep (by decide) h)), fun h => (d0 (keep (by decide) h)), fun h => (d1 (keep (by decide) h)), fun h => (d2 (keep (by decide) h)), fun h => (d3 (keep (by decide) h)), fun h => (d4 (keep (by decide) h)), fun h => (d5 (keep (by decide) h)), fun h => (d6 (keep (by decide) h)), fun _ => rfl, fun h h2 => (d8 (keep (by decide) h) (keepG (by decide) h2)), fun h h2 => (d9 (keep (by decide) h) (keepG (by decide) h2)), fun h => (d10 (keep (by decide) h)), fun h => (d11 (keep (by decide) h))⟩
                · have hoj2 := hoj
                  obtain rfl := Option.some.inj hoj
                  have e7 := d7 (hwt ⟨7, .data⟩ (by simp) rfl)
                  have q0 := p0 (by cases hq : listed.getD 9 false with | false => rfl | true => exact absurd (m9_8 hq) (by rw [getD_both hun]; simp))
                  subst e7
                  refine wpOp_value hoj2 rfl (exec_build2 eRef _ rfl _ _ rfl) ?_
                  have B9 := F_b (Fresh.alloc w' (.cells (nkL x).toArray 39))
                  exact ⟨x65, x66, x67, x68, x69, x70, x71, _, _, x74, x75, x76, by first | (simp only [Act.put, List.setIfInBounds_toArray, List.set_cons_succ, List.set_cons_zero]; done) | (simp only [Act.put, List.setIfInBounds_toArray, List.set_cons_succ, List.set_cons_zero]; rfl) | rfl, hb_then HBw B9, fun h => (own_below (p0 (keepG (by decide) h)) B9), fun h => (own_below (p1 (keepG (by decide) h)) B9), fun h => keepT (m9_2 (keep (by decide) h)), fun h => keepT (m9_8 (keep (by decide) h)), fun h => keepT (m11_9 (keep (by decide) h)), fun h => keepT (m11_10 (keep (by decide) h)), fun h => (d0 (keep (by decide) h)), fun h => (d1 (keep (by decide) h)), fun h => (d2 (keep (by decide) h)), fun h => (d3 (keep (by decide) h)), fun h => (d4 (keep (by decide) h)), fun h => (d5 (keep (by decide) h)), fun h => (d6 (keep (by decide) h)), fun h => (d7 (keep (by decide) h)), fun _ _ => ⟨_, rfl, IsS.new w' _ _⟩, fun h => absurd (m9_8 (keep (by decide) h)) (by rw [getD_both hun]; simp), fun h => (d10 (keep (by decide) h)), fun h => (own_below (d11 (keep (by decide) h)) B9)⟩
                · have hoj2 := hoj
                  obtain rfl := Option.some.inj hoj
                  have e2 := d2 (hwt ⟨2, .data⟩ (by simp) rfl)
                  have e8 := d8 (hwt ⟨8, .data⟩ (by simp) rfl) (getD_both hun)
                  have q0 := p0 (getD_both hun)
                  have q1 := p1 (by cases hq : listed.getD 11 false with | false => rfl | true => exact absurd (m11_9 hq) (by rw [getD_both hun]; simp))
                  subst e2
                  obtain ⟨b73, rfl, I73⟩ := e8
                  obtain ⟨v9, w9, hr9, O9, G9⟩ := run_appM eRef w.heap.size _ k _ (hup3 w' q0) _ 1 (nkL x) (row_isS I73) rfl (nk_one _) (by omega) HBw.out.size _
                  refine wpOp_value hoj2 rfl (exec_app _ _ rfl rfl rfl hr9) ?_
                  have HBa : Hid (Below w.heap.size w w9) := grown_below HBw.out HBw.out.size (hup3 w' q0) G9
                  exact ⟨x65, x66, _, x68, x69, x70, x71, x72, _, _, x75, x76, by first | (simp only [Act.put, List.setIfInBounds_toArray, List.set_cons_succ, List.set_cons_zero]; done) | (simp only [Act.put, List.setIfInBounds_toArray, List.set_cons_succ, List.set_cons_zero]; rfl) | rfl, HBa, fun h => absurd h (by rw [nowU hun]; simp), fun h => (own_apart (p1 (keepG (by decide) h)) G9 (HOB.out k)), fun _ => keepT (hwt ⟨2, .data⟩ (by simp) rfl), fun _ => keepT (hwt ⟨8, .data⟩ (by simp) rfl), fun h => keepT (m11_9 (keep (by decide) h)), fun h => keepT (m11_10 (keep (by decide) h)), fun h => (d0 (keep (by decide) h)), fun h => (d1 (keep (by decide) h)), fun h => (d2 (keep (by decide) h)), fun h => (d3 (keep (by decide) h)), fun h => (d4 (keep (by decide) h)), fun h => (d5 (keep (by decide) h)), fun h => (d6 (keep (by decide) h)), fun h => (d7 (keep (by decide) h)), fun _ h => absurd h (by rw [nowU hun]; simp), fun _ _ => O9, fun h => (d10 (keep (by decide) h)), fun h => absurd (m11_9 (keep (by decide) h)) (by rw [getD_both hun]; simp)⟩
                · have hoj2 := hoj
                  obtain rfl := Option.some.inj hoj
                  have q1 := p1 (by cases hq : listed.getD 11 false with | false => rfl | true => exact absurd (m11_10 hq) (by rw [getD_both hun]; simp))
                  refine wpOp_value hoj2 rfl (v := (.slice a8 n3 c8)) (w' := w') (by first | rfl | (go_simp; done) | (simp [go_sem]; done) | (simp [execOp, go_sem]; done)) ?_
                  exact ⟨x65, x66, x67, x68, x69, x70, x71, x72, x73, x74, (.slice a8 n3 c8), x76, by first | (simp only [Act.put, List.setIfInBounds_toArray, List.set_cons_succ, List.set_cons_zero]; done) | (simp only [Act.put, List.setIfInBounds_toArray, List.set_cons_succ, List.set_cons_zero]; rfl) | rfl, HBw, fun h => (p0 (keepG (by decide) h)), fun h => (p1 (keepG (by decide) h)), fun h => keepT (m9_2 (keep (by decide) h)), fun h => keepT (m9_8 (keep (by decide) h)), fun h => keepT (m11_9 (keep (by decide) h)), fun h => keepT (m11_10 (keep (by decide) h)), fun h => (d0 (keep (by decide) h)), fun h => (d1 (keep (by decide) h)), fun h => (d2 (keep (by decide) h)), fun h => (d3 (keep (by decide) h)), fun h => (d4 (keep (by decide) h)), fun h => (d5 (keep (by decide) h)), fun h => (d6 (keep (by decide) h)), fun h => (d7 (keep (by decide) h)), fun h h2 => (d8 (keep (by decide) h) (keepG (by decide) h2)), fun h h2 => (d9 (keep (by decide) h) (keepG (by decide) h2)), fun _ => rfl, fun h => absurd (m11_10 (keep (by decide) h)) (by rw [getD_both hun]; simp)⟩
                · have hoj2 := hoj
                  obtain rfl := Option.some.inj hoj
                  have e9 := d9 (hwt ⟨9, .data⟩ (by simp) rfl) (getD_both hun)
                  have e10 := d10 (hwt ⟨10, .data⟩ (by simp) rfl)
                  have q1 := p1 (getD_both hun)
                  subst e10
                  obtain ⟨v9, w9, hr9, O9, G9⟩ := run_appM eRef w.heap.size _ (k + 1) _ e9 _ n3 (flatR (L.drop k)) (own_row q1) hdl (flatR_one _) (by omega) HBw.out.size _
                  refine wpOp_value hoj2 rfl (exec_app _ _ rfl rfl rfl hr9) ?_
                  have HBa : Hid (Below w.heap.size w w9) := grown_below HBw.out HBw.out.size e9 G9
                  exact ⟨x65, x66, x67, x68, x69, x70, x71, x72, x73, _, _, _, by first | (simp only [Act.put, List.setIfInBounds_toArray, List.set_cons_succ, List.set_cons_zero]; done) | (simp only [Act.put, List.setIfInBounds_toArray, List.set_cons_succ, List.set_cons_zero]; rfl) | rfl, HBa, fun h => absurd (keepG (by decide) h) (by rw [(hwt ⟨9, .data⟩ (by simp) rfl)]; simp), fun h => absurd h (by rw [nowU hun]; simp), fun h => keepT (m9_2 (keep (by decide) h)), fun h => keepT (m9_8 (keep (by decide) h)), fun _ => keepT (hwt ⟨9, .data⟩ (by simp) rfl), fun _ => keepT (hwt ⟨10, .data⟩ (by simp) rfl), fun h => (d0 (keep (by decide) h)), fun h => (d1 (keep (by decide) h)), fun h => (d2 (keep (by decide) h)), fun h => (d3 (keep (by decide) h)), fun h => (d4 (keep (by decide) h)), fun h => (d5 (keep (by decide) h)), fun h => (d6 (keep (by decide) h)), fun h => (d7 (keep (by decide) h)), fun _ h => absurd (keepG (by decide) h) (by rw [(hwt ⟨9, .data⟩ (by simp) rfl)]; simp), fun _ h => absurd h (by rw [nowU hun]; simp), fun h => (d10 (keep (by decide) h)), fun _ => O9⟩
              case iend =>
                rintro a' w' ⟨x65, x66, x67, x68, x69, x70, x71, x72, x73, x74, x75, x76, rfl, HBw, p0, p1, m9_2, m9_8, m11_9, m11_10, d0, d1, d2, d3, d4, d5, d6, d7, d8, d9, d10, d11⟩
                replace d0 := d0 rfl
                replace d1 := d1 rfl
                replace d2 := d2 rfl
                replace d3 := d3 rfl
                replace d4 := d4 rfl
                replace d5 := d5 rfl
                replace d6 := d6 rfl
                replace d7 := d7 rfl
                replace d10 := d10 rfl
                replace d11 := d11 rfl
                clear m9_2 m9_8 m11_9 m11_10 d8 d9 p0 p1
                simp only [Act.put, List.setIfInBounds_toArray, List.set_cons_succ, List.set_cons_zero]
                simp only [List.drop_succ_cons, List.drop_zero]
                have HOF := HN1.out _ _ d11
                obtain ⟨x5a, x5c, ev5⟩ := own_form HOF
                subst ev5
                clear d0 d1 d2 d3 d4 d5 d6 d7 d10 d11
                go_wp2_with fail
                go_roundw
                case rel => exact ⟨q + 1, by omega, by go_num, HOF, HBw.out⟩
                case measure => simp [intOf]; omega
      · have e : q = m := by omega
        subst e
        have HO2 : Hid (OwnK wr w.heap.size u5 (setL cmN (refsN ns))) := by have := HO.out; rw [← HM.out, List.take_length] at this; exact this
        obtain ⟨a5, c5, hv5⟩ := own_form HO2.out
        subst hv5
        clear HO hlt HRL
        generalize (setL cmN (refsN ns)) = L at *
        generalize L.length = n at *
        go_wp2
        exact HA.out _ _ HO2.out HB.out
  · have hne : (checkF nmB ns != 0) = true := by simpa using hz
    have HA : Hid (∀ w', Below w.heap.size w w' → A (.returned (.tuple #[.slice none 0 0, .int .i64 (checkF nmB ns)])) w') := by
      rw [← hA]; intro w' h1
      refine ⟨_, rfl, ?_, h1⟩
      unfold refsF; rw [if_neg hz]; exact own_nil _ _ _ _
    rw [hA]
    clear hA hz hT
    generalize checkF nmB ns = z at *
    go_enter Try.func6, Try.ntmps6
    go_wp2_with (first
      | (go_at_call 18; refine cC.mono ?_; rintro e W1 ⟨rfl, B1⟩; clear cC))
    exact HA.out _ B1
end Go.Proofs.Ytcmkoffamolgmaa
