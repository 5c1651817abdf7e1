/- PE, PN, RJ, PI, X1, X2 -/
import Derived.Test.YtegpnicajlndlaaQag
import Derived.Test.YtegpnicajlndlaaQaf
import Derived.Test.YtegpnicajlndlaaQad
import Derived.Lib.LastIndexByte
namespace Go.Proofs.Ytegpnicajlndlaa
open Go.RowKit M
set_option linter.unusedSimpArgs false
set_option linter.unusedVariables false
theorem pg_cells {W : World} {b : Nat} {v0 v1 v2 v3 v4 : Value} (h : IsS W b 28 [v0, v1, v2, v3, v4]) {w : World} (hB : Below W.heap.size W w) :
    w.cell? ⟨b, 0, none⟩ = some v0 ∧ w.cell? ⟨b, 1, none⟩ = some v1 ∧ w.cell? ⟨b, 2, none⟩ = some v2 ∧ w.cell? ⟨b, 3, none⟩ = some v3 ∧ w.cell? ⟨b, 4, none⟩ = some v4 :=
 have h' := h.grown hB
 ⟨h'.cell 0, h'.cell 1, h'.cell 2, h'.cell 3, h'.cell 4⟩
set_option maxRecDepth 100000 in
set_option maxHeartbeats 2000000 in
theorem events_any (p : PG) (hf : p.Few) (vt vr vl vi vj : Value) (w : World) (hp : PGV w vt vr vl vi vj p) :
    Calls Try.prog 82 #[.agg #[vt, vr, vl, vi, vj]] w fun en w' => en = .returned (.int .i64 (eventsV p)) ∧ Below w.heap.size w w' := by
 obtain ⟨at', ct, rfl⟩ := hp.t.form
 obtain ⟨al, cl, rfl, _, _⟩ := hp.l
 have HT : Hid (RowsV w (.slice at' p.threads.length ct) op5L p.threads) := hp.t
 obtain ⟨nt, hnt⟩ : ∃ n, p.threads.length = n := ⟨_, rfl⟩
 obtain ⟨nl, hnl⟩ : ∃ n, p.locs.length = n := ⟨_, rfl⟩
 have hft := hf.t
 have HTT : Hid (p.threads.flatten.length ≤ 1048576) := hf.tt
 have hfl := hf.l
 rw [hnt] at HT hft ⊢
 rw [hnl] at hfl ⊢
 have HNT : Hid (p.threads.length = nt) := hnt
 have HE : Hid (eventsV p = nl + evL p.threads.flatten) := (by show _ = _; unfold eventsV; rw [hnl])
 clear hp hf hnt hnl
 obtain ⟨ths, hths⟩ : ∃ t, p.threads = t := ⟨_, rfl⟩
 rw [hths] at HT HTT HNT HE
 clear hths
 have t1 : True := trivial
 go_enter Try.func82, Try.ntmps82
 go_wp2_with (clear t1; refine wpList_boxS rfl 28 _ rfl [.slice at' nt ct, vr, .slice al nl cl, vi, vj] rfl ?_; intro W1 b1 F1 C1; have B1 : Below w.heap.size w W1 := F1.trans (Below.refl _ w) (Nat.le_refl _); obtain ⟨k0, k1, k2, k3, k4⟩ := pg_cells C1 (Below.refl _ W1); clear F1)
 go_loopw [3, 14] (fun n i wr => ∃ k : Nat, k ≤ nt ∧ i = .int .i64 k ∧ ∃ s : Int, n = .int .i64 s ∧ Hid (s = nl + evL (ths.take k).flatten) ∧ Hid (Below W1.heap.size W1 wr)) (fun _ i _ => nt - (intOf i).toNat)
 case atStart => exact ⟨0, Nat.zero_le _, rfl, nl, rfl, by show _ = _; simp [evL], Below.refl _ _⟩
 case round =>
  obtain ⟨k, hk, rfl, s, rfl, HS, HB⟩ := hrel
  obtain ⟨WR, eWR⟩ : ∃ W, W = wr := ⟨_, rfl⟩
  subst eWR
  by_cases hlt : k < nt
  · have hki : (k : Int) < nt := by omega
    obtain ⟨l, hl⟩ : ∃ l, ths[k]? = some l := ⟨_, List.getElem?_eq_getElem (by rw [HNT.out]; exact hlt)⟩
    obtain ⟨b, o, a', c', rfl, hb, hc, hseg, _⟩ := (HT.out.below (Below.then B1 HB.out)).at k l hl
    have HG : Hid (Seg WR a' (l.flatMap op5L)) := hseg
    have HL : Hid (ths[k]? = some l) := hl
    have hll : l.length ≤ 1048576 := Nat.le_trans (by have := flat_at hl (Nat.le_refl _); rw [List.take_length, List.length_append] at this; omega) HTT.out
    obtain ⟨nn, hnn⟩ : ∃ n, l.length = n := ⟨_, rfl⟩
    have HNN : Hid (l.length = nn) := hnn
    rw [hnn] at hc hll
    clear hl hseg hnn
    go_wp2_with fail
    go_loopw [3, 20] (fun n i wr' => ∃ j : Nat, j ≤ nn ∧ i = .int .i64 j ∧ ∃ s : Int, n = .int .i64 s ∧ Hid (s = nl + evL ((ths.take k).flatten ++ l.take j)) ∧ Hid (Below WR.heap.size WR wr')) (fun _ i _ => nn - (intOf i).toNat)
    case atStart => exact ⟨0, Nat.zero_le _, rfl, s, rfl, by show _ = _; rw [HS.out]; simp, Below.refl _ _⟩
    case round =>
     obtain ⟨j, hj, rfl, s', rfl, HS', HB'⟩ := hrel
     by_cases hjt : j < nn
     · have hji : (j : Int) < nn := by omega
       obtain ⟨g, hg⟩ : ∃ g, l[j]? = some g := ⟨_, List.getElem?_eq_getElem (by rw [HNN.out]; exact hjt)⟩
       obtain ⟨b', o', rfl, hb', hr'⟩ := (HG.out.below HB'.out).op hg
       have HN : Hid (evL ((ths.take k).flatten ++ l.take (j + 1)) = evL ((ths.take k).flatten ++ l.take j) + evOf g.kind) := (by show _ = _; rw [take_at hg, ← List.append_assoc, evL_app]; simp [evL])
       have hbd := evL_bd ((ths.take k).flatten ++ l.take j)
       have hbl := flat_at HL.out (k := j) (by rw [HNN.out]; omega)
       have hs0 : 0 ≤ s' ∧ s' ≤ 4194304 := by have := HS'.out; have := HTT.out; omega
       clear hbd hbl hg
       obtain ⟨hs1, hs2⟩ := hs0
       have hev := evOf_bd g.kind
       obtain ⟨ev, hev'⟩ : ∃ e, evOf g.kind = e := ⟨_, rfl⟩
       have cE := fun w => eventsOf_any g.kind w
       rw [hev'] at cE HN hev
       clear hev'
       obtain ⟨he1, he2⟩ := hev
       have t2 : True := trivial
       have t3 : True := trivial
       have t4 : True := trivial
       go_wp2_with (first
        | (clear t2; refine wpList_load_mid rfl 63 _ rfl b' (o' + j * 5) rfl (op5L g) _ hr' Try.underlying63 rfl infoOp ?_)
        | (clear t3; refine wpList_allocS rfl 63 rfl (op5L ⟨0, 0, 0, 0, 0⟩) Try.zeroValue63 ?_; intro W3 b3 F3 C3; have B3 := F3.trans HB'.out HB'.out.size; have h3 : WR.heap.size ≤ b3 := Nat.le_trans HB'.out.size (Nat.le_of_eq F3.at'.symm); clear F3)
        | (clear t4; refine wpList_storeS rfl 63 _ _ rfl rfl (op5L g) rfl C3 (by simp [op5L]) infoOp (op_one _) ?_; intro W4 U4 C4x; have C4 : IsS W4 b3 63 (op5L g) := C4x; have B4 := U4.trans B3 h3; have c4 : W4.cell? ⟨b3, 0, none⟩ = some (.int .i64 g.kind) := C4.cell 0; clear U4 C3 C4x)
        | (go_at_call 112; refine (cE _).mono ?_; rintro en w' ⟨rfl, hw⟩; replace hw := hw.symm; subst hw))
       go_roundw
       case rel => exact ⟨j + 1, by omega, by go_num, s' + ev, rfl, by show _ = _; rw [HN.out, HS'.out]; omega, B4⟩
       case measure => simp [intOf]; omega
     · have hji : ¬ (j : Int) < nn := by omega
       have hjn : j = nn := by omega
       go_wp2_with fail
       go_roundw
       case rel => exact ⟨k + 1, by omega, by go_num, s', rfl, by show _ = _; rw [HS'.out, hjn, ← HNN.out, List.take_length, flat_take HL.out], Below.then HB.out HB'.out⟩
       case measure => simp [intOf]; omega
  · have hki : ¬ (k : Int) < nt := by omega
    go_wp2_with fail
    go_ret
    refine ⟨ret_int ?_, Below.then B1 HB.out⟩
    rw [HE.out, HS.out, List.take_of_length_le (by rw [HNT.out]; omega)]
set_option maxRecDepth 100000 in
set_option maxHeartbeats 2000000 in
theorem revents_any (p : PG) (hf : p.Few) (vt vr vl vi vj : Value) (w : World) (hp : PGV w vt vr vl vi vj p) :
    Calls Try.prog 74 #[.agg #[vt, vr, vl, vi, vj]] w fun en w' => en = .returned (.int .i64 (eventsV p)) ∧ Below w.heap.size w w' := by
 obtain ⟨at', ct, rfl⟩ := hp.t.form
 obtain ⟨al, cl, rfl, _, _⟩ := hp.l
 have HT : Hid (RowsV w (.slice at' p.threads.length ct) op5L p.threads) := hp.t
 obtain ⟨nt, hnt⟩ : ∃ n, p.threads.length = n := ⟨_, rfl⟩
 obtain ⟨nl, hnl⟩ : ∃ n, p.locs.length = n := ⟨_, rfl⟩
 have hft := hf.t
 have HTT : Hid (p.threads.flatten.length ≤ 1048576) := hf.tt
 have hfl := hf.l
 rw [hnt] at HT hft ⊢
 rw [hnl] at hfl ⊢
 have HNT : Hid (p.threads.length = nt) := hnt
 have HE : Hid (eventsV p = nl + evL p.threads.flatten) := (by show _ = _; unfold eventsV; rw [hnl])
 clear hp hf hnt hnl
 obtain ⟨ths, hths⟩ : ∃ t, p.threads = t := ⟨_, rfl⟩
 rw [hths] at HT HTT HNT HE
 clear hths
 have t1 : True := trivial
 go_enter Try.func74, Try.ntmps74
 go_wp2_with (clear t1; refine wpList_boxS rfl 28 _ rfl [.slice at' nt ct, vr, .slice al nl cl, vi, vj] rfl ?_; intro W1 b1 F1 C1; have B1 : Below w.heap.size w W1 := F1.trans (Below.refl _ w) (Nat.le_refl _); obtain ⟨k0, k1, k2, k3, k4⟩ := pg_cells C1 (Below.refl _ W1); clear F1)
 go_loopw [3, 4] (fun n i wr => ∃ k : Nat, k ≤ nt ∧ i = .int .i64 k ∧ ∃ s : Int, n = .int .i64 s ∧ Hid (s = nl + evL (ths.take k).flatten) ∧ Hid (Below W1.heap.size W1 wr)) (fun _ i _ => nt - (intOf i).toNat)
 case atStart => exact ⟨0, Nat.zero_le _, rfl, nl, rfl, by show _ = _; simp [evL], Below.refl _ _⟩
 case round =>
  obtain ⟨k, hk, rfl, s, rfl, HS, HB⟩ := hrel
  obtain ⟨WR, eWR⟩ : ∃ W, W = wr := ⟨_, rfl⟩
  subst eWR
  by_cases hlt : k < nt
  · have hki : (k : Int) < nt := by omega
    obtain ⟨l, hl⟩ : ∃ l, ths[k]? = some l := ⟨_, List.getElem?_eq_getElem (by rw [HNT.out]; exact hlt)⟩
    obtain ⟨b, o, a', c', rfl, hb, hc, hseg, _⟩ := (HT.out.below (Below.then B1 HB.out)).at k l hl
    have HG : Hid (Seg WR a' (l.flatMap op5L)) := hseg
    have HL : Hid (ths[k]? = some l) := hl
    have hll : l.length ≤ 1048576 := Nat.le_trans (by have := flat_at hl (Nat.le_refl _); rw [List.take_length, List.length_append] at this; omega) HTT.out
    obtain ⟨nn, hnn⟩ : ∃ n, l.length = n := ⟨_, rfl⟩
    have HNN : Hid (l.length = nn) := hnn
    rw [hnn] at hc hll
    clear hl hseg hnn
    obtain ⟨k0, k1, k2, k3, k4⟩ := pg_cells C1 HB.out
    go_wp2_with fail
    go_loopw [3, 5] (fun n i wr' => ∃ j : Nat, j ≤ nn ∧ i = .int .i64 j ∧ ∃ s : Int, n = .int .i64 s ∧ Hid (s = nl + evL ((ths.take k).flatten ++ l.take j)) ∧ Hid (Below WR.heap.size WR wr')) (fun _ i _ => nn - (intOf i).toNat)
    case atStart => exact ⟨0, Nat.zero_le _, rfl, s, rfl, by show _ = _; rw [HS.out]; simp, Below.refl _ _⟩
    case round =>
     obtain ⟨j, hj, rfl, s', rfl, HS', HB'⟩ := hrel
     by_cases hjt : j < nn
     · have hji : (j : Int) < nn := by omega
       obtain ⟨g, hg⟩ : ∃ g, l[j]? = some g := ⟨_, List.getElem?_eq_getElem (by rw [HNN.out]; exact hjt)⟩
       obtain ⟨b', o', rfl, hb', hr'⟩ := (HG.out.below HB'.out).op hg
       have HN : Hid (evL ((ths.take k).flatten ++ l.take (j + 1)) = evL ((ths.take k).flatten ++ l.take j) + evOf g.kind) := (by show _ = _; rw [take_at hg, ← List.append_assoc, evL_app]; simp [evL])
       have hbd := evL_bd ((ths.take k).flatten ++ l.take j)
       have hbl := flat_at HL.out (k := j) (by rw [HNN.out]; omega)
       have hs0 : 0 ≤ s' ∧ s' ≤ 4194304 := by have := HS'.out; have := HTT.out; omega
       clear hbd hbl hg
       obtain ⟨hs1, hs2⟩ := hs0
       have hev := evOf_bd g.kind
       obtain ⟨ev, hev'⟩ : ∃ e, evOf g.kind = e := ⟨_, rfl⟩
       have cE := fun w => weight_any g.kind w
       rw [hev'] at cE HN hev
       clear hev'
       obtain ⟨he1, he2⟩ := hev
       have hz : wr.cell? ⟨b', o' + j * 5, none⟩ = some (.int .i64 g.kind) := hr' 0 _ rfl
       obtain ⟨k0, k1, k2, k3, k4⟩ := pg_cells C1 (Below.then HB.out HB'.out)
       have hc' : wr.cell? ⟨b, o + k, none⟩ = some (.slice (some ⟨b', o', none⟩) nn c') := by rw [HB'.out.cell (p := ⟨b, o + k, none⟩) hb]; exact hc
       go_wp2_with (go_at_call 102; refine (cE _).mono ?_; rintro en w' ⟨rfl, hw⟩; replace hw := hw.symm; subst hw)
       go_roundw
       case rel => exact ⟨j + 1, by omega, by go_num, s' + ev, rfl, by show _ = _; rw [HN.out, HS'.out]; omega, HB'.out⟩
       case measure => simp [intOf]; omega
     · have hji : ¬ (j : Int) < nn := by omega
       have hjn : j = nn := by omega
       obtain ⟨k0, k1, k2, k3, k4⟩ := pg_cells C1 (Below.then HB.out HB'.out)
       have hc' : wr.cell? ⟨b, o + k, none⟩ = some (.slice a' nn c') := by rw [HB'.out.cell (p := ⟨b, o + k, none⟩) hb]; exact hc
       go_wp2_with fail
       go_roundw
       case rel => exact ⟨k + 1, by omega, by go_num, s', rfl, by show _ = _; rw [HS'.out, hjn, ← HNN.out, List.take_length, flat_take HL.out], Below.then HB.out HB'.out⟩
       case measure => simp [intOf]; omega
  · have hki : ¬ (k : Int) < nt := by omega
    obtain ⟨k0, k1, k2, k3, k4⟩ := pg_cells C1 HB.out
    go_wp2_with fail
    go_ret
    refine ⟨ret_int ?_, Below.then B1 HB.out⟩
    rw [HE.out, HS.out, List.take_of_length_le (by rw [HNT.out]; omega)]
theorem seg_isS {W : World} {b t : Nat} {cs : List Value} (h : IsS W b t cs) : Seg W (some ⟨b, 0, none⟩) cs := fun j v hv => ⟨b, 0, rfl, h.lt, by rw [h.cell, Nat.zero_add]; exact hv⟩
theorem row_isS {W : World} {b t n c : Nat} {cs : List Value} (h : IsS W b t cs) : RowV W (.slice (some ⟨b, 0, none⟩) n c) n cs := ⟨_, c, rfl, seg_isS h, fun e => by cases e⟩
theorem grown_below {B : Nat} {w0 w w' : World} {v : Value} {n : Nat} {xs : List Value} {t s : Nat} (h : Below B w0 w) (hB : B ≤ w.heap.size) (ho : w.ownsRow B t s v n xs) (hg : w.grownBy w' v.ownBlock) : Below B w0 w' := by
 refine ⟨hg.os.trans h.os, hg.tape.trans h.tape, hg.output.trans h.output, Nat.le_trans h.size hg.size, fun k hk => (hg.block k (Nat.lt_of_lt_of_le hk hB) (fun e => ?_)).trans (h.block k hk)⟩
 rcases ho.2 with ⟨rfl, _⟩ | ⟨g, cap, cur, rfl, hb, _⟩
 · cases e
 · simp [Value.ownBlock] at e; omega
theorem own_below {W W' : World} {B t s n : Nat} {v : Value} {xs : List Value} (h : W.ownsRow B t s v n xs) (hB : Below W.heap.size W W') : W'.ownsRow B t s v n xs := by
 refine ⟨h.1, ?_⟩
 rcases h.2 with hn | ⟨g, cap, cur, rfl, hg, hh, rest⟩
 · exact Or.inl hn
 · exact Or.inr ⟨g, cap, cur, rfl, hg, (hB.block g (Array.getElem?_eq_some_iff.1 hh).1).trans hh, rest⟩
theorem own_nil (W : World) (B t s : Nat) : W.ownsRow B t s (.slice none 0 0) 0 [] := ⟨by simp, .inl ⟨rfl, rfl⟩⟩
theorem own_form {W : World} {B t s n : Nat} {v : Value} {xs : List Value} (h : W.ownsRow B t s v n xs) : ∃ a c, v = .slice a n c := by
 rcases h.2 with ⟨rfl, rfl⟩ | ⟨g, cap, cur, rfl, _⟩
 · exact ⟨_, _, rfl⟩
 · exact ⟨_, _, rfl⟩
end Go.Proofs.Ytegpnicajlndlaa
namespace Go.Proofs.Ytegpnicajlndlaa
open Go
set_option linter.unusedVariables false
set_option linter.unusedSimpArgs false
section
variable {P : Program} {ops : Array Oper} {Q : Exit → Act → World → Prop}
theorem region_invA {id : Nat} {a : Act} {w : World} {l : List Oper} (n : Nat) (I : Act → Array Bool → Act → World → Prop) (hm : P.follows .mixedOrders = true)
    (hB : (Region.sinkB .any l.toArray n && Region.chainB .any l.toArray n && decide (n < l.length) && fwdB l.toArray n && Region.seqB .any l.toArray (l.drop n).length n (fullB l.length n)) = true)
    (h0 : I a (Array.replicate l.length false) a { w with drawn := w.drawn + 1 })
    (hstep : ∀ i listed a' w', i < n → i ∈ Region.ready .any l.toArray listed → I a listed a' w' → wpOp P l.toArray Q i (fun a'' w'' => I a (listed.setIfInBounds i true) a'' w'') a' w')
    (hend : ∀ a' w', I a (fullB l.length n) a' w' → wpList P l.toArray Q (l.drop n) a' w') : (Code.region id l.toArray true).wp P Q a w :=
 region_inv n (I a) hm hB h0 hstep hend
theorem wpOp_value {i : Nat} {o : Oper} {K : Act → World → Prop} {a : Act} {w w' : World} {v : Value} (hi : ops[i]? = some o) (hg : o.guard = none) (hr : (execOp a.eval o).run P w = .ok (.value v) w') (h : K (a.put o.dst v) w') : wpOp P ops Q i K a w := by
 unfold wpOp
 rw [hi]
 simp only [Region.wanted, hg, if_true]
 refine Or.inl ?_
 unfold Oper.wp
 rw [hr]
 exact h
theorem wpOp_call {i : Nat} {o : Oper} {K : Act → World → Prop} {a : Act} {w : World} {f : FuncId} {args : Array Value} (hi : ops[i]? = some o) (hg : o.guard = none) (hr : (execOp a.eval o).run P w = .ok (.enter f args) w) (h : Calls P f args w fun e w' => ∃ v, e = .returned v ∧ K (a.put o.dst v) w') : wpOp P ops Q i K a w := by
 unfold wpOp
 rw [hi]
 simp only [Region.wanted, hg, if_true]
 refine Or.inl ?_
 unfold Oper.wp
 rw [hr]
 refine Calls.mono h fun e w' he => ?_
 obtain ⟨v, rfl, hk⟩ := he
 exact hk
theorem keep {listed : Array Bool} {i j : Nat} (hij : i ≠ j) (h : (listed.setIfInBounds i true).getD j false = true) : listed.getD j false = true := by rw [getD_set_ne false hij] at h; exact h
theorem not_rep {n j : Nat} (h : (Array.replicate n false).getD j false = true) : False := by rw [getD_replicate_false] at h; cases h
end
theorem kp {listed : Array Bool} {i j : Nat} (h : (listed.setIfInBounds i true).getD j false = true) (hij : i ≠ j := by decide) : listed.getD j false = true := keep hij h
theorem kq {listed : Array Bool} {i j : Nat} (hij : i ≠ j := by decide) (h : (listed.setIfInBounds i true).getD j false = true) : listed.getD j false = true := keep hij h
end Go.Proofs.Ytegpnicajlndlaa
namespace Go.Proofs.Ytegpnicajlndlaa
open Go.RowKit M
set_option linter.unusedSimpArgs false
set_option linter.unusedVariables false
def idxO : Option Nat → Int
 | some j => j
 | none => -1
end Go.Proofs.Ytegpnicajlndlaa
namespace Go.Proofs.Ytegpnicajlndlaa.M
set_option linter.unusedSimpArgs false
set_option linter.unusedVariables false
def letN (n : Nat) : Bool := decide (97 ≤ n ∧ n ≤ 122 ∨ 65 ≤ n ∧ n ≤ 90 ∨ n = 95)
def digN (n : Nat) : Bool := decide (48 ≤ n ∧ n ≤ 57)
def innN (n : Nat) : Bool := letN n || digN n || decide (n = 46)
def joinsB : List UInt8 → Bool
 | a :: b :: _ => decide (a.toNat = 43 ∨ a.toNat = 45) && (letN b.toNat || digN b.toNat)
 | _ => false
def nameRun : List UInt8 → Nat
 | [] => 0
 | c :: r => if innN c.toNat || joinsB (c :: r) then 1 + nameRun r else 0
def nameLen : List UInt8 → Nat
 | [] => 0
 | c :: r => if letN c.toNat then 1 + nameRun r else 0
end Go.Proofs.Ytegpnicajlndlaa.M
namespace Go.Proofs.Ytegpnicajlndlaa
open Go.RowKit M
set_option linter.unusedSimpArgs false
set_option linter.unusedVariables false
theorem ret_bool {a b : Bool} (h : a = b) : Ending.returned (.bool a) = .returned (.bool b) := by rw [h]
set_option maxRecDepth 100000 in
theorem letter_any (c : Nat) (hc : c < 256) (w : World) : Calls Try.prog 122 #[.int .u8 c] w fun e w' => e = .returned (.bool (letN c)) ∧ w' = w := by
 go_enter Try.func122, Try.ntmps122
 go_wp2
 all_goals go_ret
 all_goals refine ⟨ret_bool ?_, rfl⟩
 all_goals (rw [Bool.eq_iff_iff]; simp [letN]; try omega)
set_option maxRecDepth 100000 in
theorem rletter_any (c : Nat) (hc : c < 256) (w : World) : Calls Try.prog 120 #[.int .u8 c] w fun e w' => e = .returned (.bool (letN c)) ∧ w' = w := by
 go_enter Try.func120, Try.ntmps120
 go_wp2
 all_goals go_ret
 all_goals refine ⟨ret_bool ?_, rfl⟩
 all_goals (rw [Bool.eq_iff_iff]; simp [letN]; try omega)
set_option maxRecDepth 100000 in
theorem digit5_any (c : Nat) (hc : c < 256) (w : World) : Calls Try.prog 129 #[.int .u8 c] w fun e w' => e = .returned (.bool (digN c)) ∧ w' = w := by
 go_enter Try.func129, Try.ntmps129
 go_wp2
 all_goals go_ret
 all_goals refine ⟨ret_bool ?_, rfl⟩
 all_goals (rw [Bool.eq_iff_iff]; simp [digN]; try omega)
set_option maxRecDepth 100000 in
theorem rdigit_any (c : Nat) (hc : c < 256) (w : World) : Calls Try.prog 121 #[.int .u8 c] w fun e w' => e = .returned (.bool (digN c)) ∧ w' = w := by
 go_enter Try.func121, Try.ntmps121
 go_wp2
 all_goals go_ret
 all_goals refine ⟨ret_bool ?_, rfl⟩
 all_goals (rw [Bool.eq_iff_iff]; simp [digN]; try omega)
theorem drop_cons (s : ByteArray) (n : Nat) (h : n < s.size) : s.data.toList.drop n = s[n] :: s.data.toList.drop (n + 1) := by
 rw [List.drop_eq_getElem_cons (by simpa using h)]; rfl
theorem drop_end (s : ByteArray) (n : Nat) (h : s.size ≤ n) : s.data.toList.drop n = [] := List.drop_eq_nil_of_le (by simpa using h)
set_option maxRecDepth 100000 in
theorem inner_any (c : Nat) (hc : c < 256) (w : World) : Calls Try.prog 123 #[.int .u8 c] w fun e w' => e = .returned (.bool (innN c)) ∧ w' = w := by
 have h1 := fun w => letter_any c hc w
 have h2 := fun w => digit5_any c hc w
 have hI : Hid (innN c = (letN c || digN c || decide (c = 46))) := rfl
 cases a : letN c <;> cases b : digN c <;> rw [a] at h1 <;> rw [b] at h2 <;> rw [a, b] at hI <;> clear a b
 all_goals
  go_enter Try.func123, Try.ntmps123
  go_wp2_with (first
   | (go_at_call 122; refine (h1 _).mono ?_; rintro e w' ⟨rfl, hw'⟩; replace hw' := hw'.symm; subst hw')
   | (go_at_call 129; refine (h2 _).mono ?_; rintro e w' ⟨rfl, hw'⟩; replace hw' := hw'.symm; subst hw'))
  go_ret
  refine ⟨ret_bool ?_, rfl⟩
  rw [hI.out, Bool.eq_iff_iff]; simp; try omega
set_option maxRecDepth 100000 in
set_option maxHeartbeats 1000000 in
theorem joins_any (s : ByteArray) (hs : s.size ≤ maxLen) (h0 : 0 < s.size) (w : World) : Calls Try.prog 124 #[.string s] w fun e w' => e = .returned (.bool (joinsB s.data.toList)) ∧ w' = w := by
 unfold maxLen at hs
 have e0 := drop_cons s 0 h0
 rw [List.drop_zero] at e0
 have hi0 : (0 : Int) < s.size := by omega
 by_cases h1 : 1 < s.size
 · have e1 := drop_cons s 1 h1
   rw [e1] at e0
   have hi1 : (1 : Int) < s.size := by omega
   have hL := fun w => letter_any s[1].toNat s[1].toNat_lt w
   have hD := fun w => digit5_any s[1].toNat s[1].toNat_lt w
   have hJ : Hid (joinsB s.data.toList = (decide (s[0].toNat = 43 ∨ s[0].toNat = 45) && (letN s[1].toNat || digN s[1].toNat))) := (by show joinsB _ = _; rw [e0]; rfl)
   clear e0 e1
   by_cases x1 : s[0].toNat = 43
   · have x1b : ((s[0].toNat : Int) == 43) = true := by simp; omega
     rw [show decide (s[0].toNat = 43 ∨ s[0].toNat = 45) = true from decide_eq_true (.inl x1)] at hJ
     clear x1
     cases a : letN s[1].toNat <;> cases b : digN s[1].toNat <;> rw [a] at hL <;> rw [b] at hD <;> rw [a, b] at hJ <;> clear a b
     all_goals
      go_enter Try.func124, Try.ntmps124
      go_wp2_with (first
       | (go_at_call 122; refine (hL _).mono ?_; rintro e w' ⟨rfl, hw'⟩; replace hw' := hw'.symm; subst hw')
       | (go_at_call 129; refine (hD _).mono ?_; rintro e w' ⟨rfl, hw'⟩; replace hw' := hw'.symm; subst hw'))
      go_ret
      exact ⟨ret_bool (by rw [hJ.out]; rfl), rfl⟩
   · have x1b : ((s[0].toNat : Int) == 43) = false := by simp; omega
     by_cases x2 : s[0].toNat = 45
     · have x2b : ((s[0].toNat : Int) == 45) = true := by simp; omega
       rw [show decide (s[0].toNat = 43 ∨ s[0].toNat = 45) = true from decide_eq_true (.inr x2)] at hJ
       clear x1 x2
       cases a : letN s[1].toNat <;> cases b : digN s[1].toNat <;> rw [a] at hL <;> rw [b] at hD <;> rw [a, b] at hJ <;> clear a b
       all_goals
        go_enter Try.func124, Try.ntmps124
        go_wp2_with (first
         | (go_at_call 122; refine (hL _).mono ?_; rintro e w' ⟨rfl, hw'⟩; replace hw' := hw'.symm; subst hw')
         | (go_at_call 129; refine (hD _).mono ?_; rintro e w' ⟨rfl, hw'⟩; replace hw' := hw'.symm; subst hw'))
        go_ret
        exact ⟨ret_bool (by rw [hJ.out]; rfl), rfl⟩
     · have x2b : ((s[0].toNat : Int) == 45) = false := by simp; omega
       rw [show decide (s[0].toNat = 43 ∨ s[0].toNat = 45) = false from decide_eq_false (by omega)] at hJ
       clear x1 x2 hL hD
       go_enter Try.func124, Try.ntmps124
       go_wp2
       go_ret
       exact ⟨ret_bool (by rw [hJ.out]; rfl), rfl⟩
 · have hi1 : ¬ (1 : Int) < s.size := by omega
   have hJ : Hid (joinsB s.data.toList = false) := (by show joinsB _ = _; rw [e0, drop_end s 1 (by omega)]; rfl)
   clear e0
   by_cases x1 : s[0].toNat = 43 ∨ s[0].toNat = 45
   · rcases x1 with x1 | x1
     · have x1b : ((s[0].toNat : Int) == 43) = true := by simp; omega
       go_enter Try.func124, Try.ntmps124
       go_wp2
       go_ret
       exact ⟨ret_bool (by rw [hJ.out]), rfl⟩
     · have x1b : ((s[0].toNat : Int) == 43) = false := by simp; omega
       have x2b : ((s[0].toNat : Int) == 45) = true := by simp; omega
       go_enter Try.func124, Try.ntmps124
       go_wp2
       go_ret
       exact ⟨ret_bool (by rw [hJ.out]), rfl⟩
   · have x1b : ((s[0].toNat : Int) == 43) = false := by simp; omega
     have x2b : ((s[0].toNat : Int) == 45) = false := by simp; omega
     go_enter Try.func124, Try.ntmps124
     go_wp2
     go_ret
     exact ⟨ret_bool (by rw [hJ.out]), rfl⟩
end Go.Proofs.Ytegpnicajlndlaa
