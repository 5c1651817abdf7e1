/- RR3 -/
import Derived.Test.YtegpnicajlndlaaQbg
import Derived.Test.YtegpnicajlndlaaQF
import Derived.Test.YtegpnicajlndlaaCR4
namespace Go.Proofs.Ytegpnicajlndlaa
open Go.RowKit M
set_option linter.unusedSimpArgs false
set_option linter.unusedVariables false
theorem infoSSI : (Try.prog.info? 25).map (·.size) = some 1 := by kernel_rfl
theorem build_rr {w : World} {op : Oper} {a : Act} {x : Operand} {T : ByteArray} (ho : op.op = .build 111 #[(0, x)]) (hx : a.eval x = .string T) : (execOp a.eval op).run Try.prog w = .ok (.value (.agg [.string T, .int .i64 0, .bool false].toArray)) w := by
 have h : Try.t111.zero = some (.agg #[.string ⟨#[]⟩, .int .i64 0, .bool false]) := by kernel_rfl
 generalize a.eval = ev at hx ⊢
 unfold execOp
 simp [ho, hx, go_sem, zeroValue, h]
def STF (w' : World) (B : Nat) (s : ST) (v1 v2 v3 v4 v5 : Value) : Prop := ∀ W : World, (∀ k, B ≤ k → k < w'.heap.size → W.heap[k]? = w'.heap[k]?) → STV W s v1 v2 v3 v4 v5
theorem STF.stv {w' : World} {B : Nat} {s : ST} {v1 v2 v3 v4 v5 : Value} (h : STF w' B s v1 v2 v3 v4 v5) : STV w' s v1 v2 v3 v4 v5 := h w' fun _ _ _ => rfl
def RdB (w : World) (z : Shp) (T : ByteArray) (e : Ending) (w' : World) : Prop :=
 (readS T z = none → e = .returned (.tuple #[.agg zst.toArray, .int .i64 5]) ∧ Below w.heap.size w w') ∧
 (∀ s, readS T z = some s → ∃ v1 v2 v3 v4 v5, e = .returned (.tuple #[.agg #[v1, v2, v3, v4, v5, .int .i64 s.lock], .int .i64 0]) ∧ STF w' w.heap.size s v1 v2 v3 v4 v5 ∧ Below w.heap.size w w')
theorem bad_val {T : ByteArray} {r : RD} (h : r.bad = true) : (valR T r).2.bad = true := by
 cases hb : (valR T r).2.bad with
 | true => rfl
 | false => have := (valR_cut T r hb).1; rw [h] at this; cases this
theorem bad_num {T : ByteArray} {lo hi : Int} {r : RD} (h : r.bad = true) : (numR T lo hi r).2.bad = true := by
 cases hb : (numR T lo hi r).2.bad with
 | true => rfl
 | false => have := ((numR_cut T lo hi r).1 hb).1; rw [h] at this; cases this
theorem bad_wrs {T : ByteArray} {nl : Nat} {r : RD} {k : Nat} (h : (wrsR T nl r k).2.bad = true) : ∀ m, (wrsR T nl r (k + m)).2.bad = true
 | 0 => h
 | m + 1 => bad_val (bad_num (bad_wrs h m))
theorem bad_buf {T : ByteArray} {nl : Nat} {r : RD} (h : r.bad = true) : (bufR T nl r).2.bad = true := by
 cases hb : (bufR T nl r).2.bad with
 | true => rfl
 | false => have := ((bufR_cut T nl r).1 hb).1; rw [h] at this; cases this
theorem LR.lock {w W W' : World} {T : ByteArray} {b2 b4 b7 b8 : Nat} {PG : List Value} {r : RD} {vp vh vg vm vb : Value} {pc ph : List Int} {rgV : List Value} {mm : List Int} {bfV : List Value} {rows : List (Value × List Int)} {brows : List (Value × List (Int × Int))} (h : LR w T b2 b4 b7 b8 PG W r vp vh vg vm vb pc ph rgV mm bfV rows brows) {n : Nat} {v : Value} {xs : List Value} (ho : W.ownsRow w.heap.size 50 2 v n xs) (G : W.grownBy W' v.ownBlock) (hr : ∀ x ∈ brows, Apart x.1 v) : LR w T b2 b4 b7 b8 PG W' r vp vh vg vm vb pc ph rgV mm bfV rows brows := by
 obtain ⟨q1, q2, q3, q4, q5⟩ := h.grow (B := w.heap.size) ho G (by decide)
 exact ⟨q1, q2, q3, q4, own_keep ho h.pc (by decide) G, own_keep ho h.ph (by decide) G, own_keep ho h.rg (by decide) G, own_keep ho h.mm (by decide) G, own_keep ho h.bf (by decide) G, fun x hx => own_keep ho (h.rr x hx) (by decide) G, fun x hx => own_apart ho (h.bb x hx) (hr x hx) G, h.er, h.eb, h.d1, h.dm, h.d8, q5, h.low⟩
theorem infoSSW : (Try.prog.info? 30).map (·.size) = some 1 := by kernel_rfl
theorem build_wr {w : World} {op : Oper} {a : Act} {x y : Operand} {u v : Int} (ho : op.op = .build 50 #[(0, x), (1, y)]) (hx : a.eval x = .int .i64 u) (hy : a.eval y = .int .i64 v) : (execOp a.eval op).run Try.prog w = .ok (.value (.agg #[.int .i64 u, .int .i64 v])) w := by
 have h : Try.t50.zero = some (.agg #[.int .i64 0, .int .i64 0]) := by kernel_rfl
 generalize a.eval = ev at hx hy ⊢
 unfold execOp
 simp [ho, hx, hy, go_sem, zeroValue, h]
theorem wpList_build2E {w : World} {ops : Array Oper} {rest : List Oper} {op : Oper} {a : Act} {Q : Exit → Act → World → Prop} {t T by' : Nat} {z : Value} (E : Elt t T 2 z by') (hgd : op.guard = none) (x : Operand) (ho : op.op = .buildSlice T 1 #[(0, x)]) (u1 u2 : Value) (hx : a.eval x = .agg #[u1, u2])
    (h : ∀ W b, Fresh w W b → IsS W b t [u1, u2] → wpList Try.prog ops Q rest (a.put op.dst (.slice (some ⟨b, 0, none⟩) 1 1)) W) : wpList Try.prog ops Q (op :: rest) a w := by
 refine wpList_plain hgd fun K hK => ?_
 unfold Oper.wp
 rw [exec_build2 E x ho u1 u2 hx]
 exact hK _ _ (h _ _ (Fresh.alloc w _) (IsS.new w t [u1, u2]))
def BfR (T : ByteArray) (nl : Nat) (r1 : RD) (j : Nat) (r : RD) (bs : List (List (Int × Int))) : Prop :=
 r.bad = (bufsR T nl r1 j).2.bad ∧ (r.bad = false → r = (bufsR T nl r1 j).2 ∧ bs = (bufsR T nl r1 j).1)
theorem BfR.next {T : ByteArray} {nl : Nat} {r1 : RD} {j : Nat} {r : RD} {bs : List (List (Int × Int))} (h : BfR T nl r1 j r bs) {c m : Nat} {r2 : RD} (hc : (numR T 0 64 r).1 = (c : Int)) (h2 : (numR T 0 64 r).2 = r2) (hm : m ≤ c) (hx : m = c ∨ (wrsR T nl r2 m).2.bad = true) :
    BfR T nl r1 (j + 1) (wrsR T nl r2 m).2 (bs ++ [(wrsR T nl r2 m).1]) := by
 have e1 : bufsR T nl r1 (j + 1) = ((bufsR T nl r1 j).1 ++ [(bufR T nl (bufsR T nl r1 j).2).1], (bufR T nl (bufsR T nl r1 j).2).2) := rfl
 have e2 : bufR T nl r = wrsR T nl r2 c := by unfold bufR; rw [hc, h2]; rfl
 unfold BfR
 rw [e1]
 obtain ⟨g1, g2⟩ := h
 cases hb : r.bad with
 | true =>
  rw [hb] at g1
  have k1 := bad_buf (T := T) (nl := nl) g1.symm
  have k2 := bad_buf (T := T) (nl := nl) hb
  rw [e2] at k2
  have k3 : (wrsR T nl r2 m).2.bad = true := by
   rcases hx with rfl | hx
   · exact k2
   · exact hx
  refine ⟨by rw [k3]; exact k1.symm, fun h0 => ?_⟩
  rw [k3] at h0; cases h0
 | false =>
  obtain ⟨g3, g4⟩ := g2 hb
  rw [← g3, e2]
  rcases hx with rfl | hx
  · exact ⟨rfl, fun _ => ⟨rfl, by rw [g4]⟩⟩
  · have k1 := bad_wrs hx (c - m)
    rw [show m + (c - m) = c by omega] at k1
    refine ⟨by rw [hx]; exact k1.symm, fun h0 => ?_⟩
    rw [hx] at h0; cases h0
theorem readS_end {T : ByteArray} {z : Shp} {n nl : Nat} (h1 : z.ins.length = n) (h2 : z.locs = nl) {P1 P2 : List Int} {P3 : List (List Int)} {r0 r1 r : RD} {V3 : List Int} {bs : List (List (Int × Int))} (hA : ((P1, P2, P3), r0) = thsR T z ⟨0, false⟩ n) (hV : valsR T r0 nl = (V3, r1)) (hB : BfR T nl r1 n r bs) :
    readS T z = if (valR T r).2.bad = false ∧ (valR T r).2.at' = T.size ∧ -1 ≤ (valR T r).1 ∧ (valR T r).1 ≤ (n : Int) - 1 then some ⟨P1, P2, P3, V3, bs, (valR T r).1⟩ else none := by
 unfold readS stR
 simp only [h1, h2, ← hA, hV]
 obtain ⟨g1, g2⟩ := hB
 cases hb : r.bad with
 | true =>
  rw [hb] at g1
  rw [if_neg (by rw [bad_num g1.symm]; simp), if_neg (by rw [bad_val hb]; simp)]
 | false =>
  obtain ⟨g3, g4⟩ := g2 hb
  rw [← g3, ← g4]
  by_cases hr : -1 ≤ (valR T r).1 ∧ (valR T r).1 ≤ (n : Int) - 1
  · have e : numR T (-1) ((n : Int) - 1) r = valR T r := by unfold numR; rw [if_pos hr]
    rw [e]
    by_cases hq : (valR T r).2.bad = false ∧ (valR T r).2.at' = T.size
    · rw [if_pos hq, if_pos ⟨hq.1, hq.2, hr⟩]
    · rw [if_neg hq, if_neg (fun h => hq ⟨h.1, h.2.1⟩)]
  · have e : (numR T (-1) ((n : Int) - 1) r).2.bad = true := by unfold numR; rw [if_neg hr]
    rw [if_neg (by rw [e]; simp), if_neg (fun h => hr h.2.2)]
theorem LR.stv2 {w W : World} {T : ByteArray} {b2 b4 b7 b8 : Nat} {PG : List Value} {r : RD} {vp vh vg vm vb : Value} {pc ph : List Int} {rgV : List Value} {mm : List Int} {bfV : List Value} {rows : List (Value × List Int)} {brows : List (Value × List (Int × Int))} {W' : World} {lk : Int} (h : LR w T b2 b4 b7 b8 PG W r vp vh vg vm vb pc ph rgV mm bfV rows brows) {b : Nat} {cs : List Value} (I : IsS W b 32 cs) (U : Upd W W' b) {W2 : World} {b' : Nat} {cs' : List Value} (I' : IsS W' b' 32 cs') (U' : Upd W' W2 b') : STF W2 w.heap.size ⟨pc, ph, rows.map (·.2), mm, brows.map (·.2), lk⟩ vp vh vg vm vb := by
 intro W3 hW3
 have up : ∀ {t s n : Nat} {v : Value} {xs : List Value}, W.ownsRow w.heap.size t s v n xs → t ≠ 32 → W3.ownsRow w.heap.size t s v n xs := fun ho ht => (fun ho2 => own_same ho2 fun k hk => hW3 k (own_lt ho2 hk).1 (own_lt ho2 hk).2) (own_upd (own_upd ho I U ht) I' U' ht)
 refine ⟨own_row (up h.pc (by decide)), own_row (up h.ph (by decide)), ⟨rgV, by rw [h.er]; simp, ?_, fun j u xs hu hx => ?_⟩, own_row (up h.mm (by decide)), ⟨bfV, by rw [h.eb]; simp, ?_, fun j u xs hu hx => ?_⟩⟩
 · have := own_row (up h.rg (by decide))
   rw [show (rows.map (·.2)).length = rgV.length by rw [h.er]; simp]
   exact this
 · rw [h.er, List.getElem?_map] at hu
   rw [List.getElem?_map] at hx
   cases hr : rows[j]? with
   | none => rw [hr] at hx; cases hx
   | some x =>
    rw [hr] at hx hu
    cases hx; cases hu
    exact own_row (up (h.rr x (List.mem_of_getElem? hr)) (by decide))
 · have := own_row (up h.bf (by decide))
   rw [show (brows.map (·.2)).length = bfV.length by rw [h.eb]; simp]
   exact this
 · rw [h.eb, List.getElem?_map] at hu
   rw [List.getElem?_map] at hx
   cases hr : brows[j]? with
   | none => rw [hr] at hx; cases hx
   | some x =>
    rw [hr] at hx hu
    cases hx; cases hu
    exact own_row (up (h.bb x (List.mem_of_getElem? hr)) (by decide))
theorem lr_one {w W : World} {T : ByteArray} {b2 b4 b7 b8 : Nat} {PG : List Value} {r : RD} {vp vh vg vm vb : Value} {pc ph : List Int} {rgV : List Value} {mm : List Int} {bfV : List Value} {rows : List (Value × List Int)} {brows : List (Value × List (Int × Int))} (h : LR w T b2 b4 b7 b8 PG W r vp vh vg vm vb pc ph rgV mm bfV rows brows) (x : Int) : ∀ v ∈ [vp, vh, vg, vm, vb, Value.int .i64 x], v.oneCell' = true := by
 intro v hv
 simp only [List.mem_cons, List.not_mem_nil, or_false] at hv
 rcases hv with rfl | rfl | rfl | rfl | rfl | rfl
 · exact one_own h.pc
 · exact one_own h.ph
 · exact one_own h.rg
 · exact one_own h.mm
 · exact one_own h.bf
 · rfl
set_option maxRecDepth 100000 in
set_option maxHeartbeats 16000000 in
theorem rread_t (p : PG) (z : Shp) (T : ByteArray) (n nl : Nat) (at0 ar al : Option Addr) (ct cr cl : Nat) (vi vj : Value) (hf : p.Few) (hz : z = shpOf p) (hn0 : p.threads.length = n) (hrn : p.regs.length = n) (hnl0 : p.locs.length = nl) (hT : T.size ≤ 1099511627776) (hv0 : validV p = 0) (w : World)
    (hP : PGV w (.slice at0 n ct) (.slice ar n cr) (.slice al nl cl) vi vj p) :
    Calls Try.prog 14 #[.agg #[.slice at0 n ct, .slice ar n cr, .slice al nl cl, vi, vj], .string T] w fun e w' => RdB w z T e w' := by
 have hVal := fun W (h : PGV W (.slice at0 n ct) (.slice ar n cr) (.slice al nl cl) vi vj p) => rvalid_any p hf (.slice at0 n ct) (.slice ar n cr) (.slice al nl cl) vi vj W h
 rw [hv0] at hVal
 have hn : n ≤ 1048576 := by rw [← hn0]; exact hf.t
 have hnl : nl ≤ 1048576 := by rw [← hnl0]; exact hf.l
 have hnI : (n : Int) ≤ 1048576 := by omega
 have hnlI : (nl : Int) ≤ 1048576 := by omega
 have HP : Hid (PGV w (.slice at0 n ct) (.slice ar n cr) (.slice al nl cl) vi vj p) := hP
 have HZ : Hid (p.threads.length = n ∧ p.regs.length = n ∧ p.locs.length = nl ∧ z = shpOf p ∧ p.Few) := ⟨hn0, hrn, hnl0, hz, hf⟩
 clear hn0 hrn hnl0 hz hf hP hv0
 have t1 : True := trivial
 have t2 : True := trivial
 have t3 : True := trivial
 have t4 : True := trivial
 have t5 : True := trivial
 have t6 : True := trivial
 go_enter Try.func14, Try.ntmps14
 go_wp2_with (first
  | (clear t1; refine wpList_boxS rfl 28 _ rfl [.slice at0 n ct, .slice ar n cr, .slice al nl cl, vi, vj] rfl ?_; intro W0 b2 F0 C0; have B0 := F_b F0; clear F0)
  | (clear t2; refine wpList_allocS rfl 32 rfl zst zeroSt ?_; intro W1 b4 F1 Z1; have C1 := C0.fresh F1; have B1 := F1.trans B0 B0.size; have hb4 : w.heap.size ≤ b4 := Nat.le_trans B0.size (Nat.le_of_eq F1.at'.symm); clear F1 C0)
  | (clear t3; refine wpList_loadW rfl 28 _ rfl rfl C1 _ Try.underlying28 rfl infoPg ?_)
  | (go_at_call 28; refine (hVal _ (HP.out.below B1)).mono ?_; rintro e W2 ⟨rfl, B2x⟩; have C2 := C1.grown B2x; have Z2 := Z1.grown B2x; have B2 := Below.then B1 B2x; clear hVal C1 Z1 B0 B1 B2x)
  | (clear t4; refine wpList_valueX rfl (build_rr rfl rfl) ?_)
  | (clear t5; refine wpList_boxS rfl 111 _ rfl [.string T, .int .i64 0, .bool false] rfl ?_; intro W3 b7 F3 R3x; have R3 : RrS W3 b7 T ⟨0, false⟩ := R3x; have C3 := C2.fresh F3; have Z3 := Z2.fresh F3; have B3 := F3.trans B2 B2.size; have hb7 : w.heap.size ≤ b7 := Nat.le_trans B2.size (Nat.le_of_eq F3.at'.symm); clear F3 R3x)
  | (clear t6; refine wpList_allocS rfl 32 rfl zst zeroSt ?_; intro W4 b8 F4 I4; have R4 : RrS W4 b7 T ⟨0, false⟩ := IsS.fresh R3 F4; have C4 := C3.fresh F4; have Z4 := Z3.fresh F4; have B4 := F4.trans B3 B3.size; have hb8 : w.heap.size ≤ b8 := Nat.le_trans B3.size (Nat.le_of_eq F4.at'.symm); have n48 : b4 ≠ b8 := (by have := Z3.lt; have := F4.at'; omega); obtain ⟨y0, y1, y2⟩ := prog3 C4; clear F4))
 have HL : Hid (LR w T b2 b4 b7 b8 [.slice at0 n ct, .slice ar n cr, .slice al nl cl, vi, vj] W4 (thsR T z ⟨0, false⟩ 0).2 (.slice none 0 0) (.slice none 0 0) (.slice none 0 0) (.slice none 0 0) (.slice none 0 0) (thsR T z ⟨0, false⟩ 0).1.1 (thsR T z ⟨0, false⟩ 0).1.2.1 [] [] [] [] []) :=
  ⟨R4, I4, C4, Z4, World.ownsRow_nil _ _ _ _, World.ownsRow_nil _ _ _ _, World.ownsRow_nil _ _ _ _, World.ownsRow_nil _ _ _ _, World.ownsRow_nil _ _ _ _, (fun x hx => by cases hx), (fun x hx => by cases hx), rfl, rfl, apart_nil _ _ _, (fun x hx => by cases hx), n48, B4, ⟨hb4, hb7, hb8⟩⟩
 clear R4 I4 C4 Z4 B4 R3 C3 Z3 B3 C2 Z2 B2 y0 y1 y2
 go_loopw [9] (fun i wr => ∃ (k : Nat) (vp vh vg : Value) (rgV : List Value) (rows : List (Value × List Int)), k ≤ n ∧ i = .int .i64 (k : Int) ∧ Hid (rows.map (·.2) = (thsR T z ⟨0, false⟩ k).1.2.2) ∧ Hid (LR w T b2 b4 b7 b8 [.slice at0 n ct, .slice ar n cr, .slice al nl cl, vi, vj] wr (thsR T z ⟨0, false⟩ k).2 vp vh vg (.slice none 0 0) (.slice none 0 0) (thsR T z ⟨0, false⟩ k).1.1 (thsR T z ⟨0, false⟩ k).1.2.1 rgV [] [] rows [])) (fun i _ => n - (intOf i).toNat)
 case atStart => exact ⟨0, _, _, _, [], [], by omega, rfl, rfl, HL⟩
 case round =>
  clear HL
  obtain ⟨k, vp, vh, vg, rgV, rows, hk, rfl, HRW, HL0⟩ := hrel
  have hcut := thsR_cut T z ⟨0, false⟩ k
  by_cases hlt : k < n
  · have hki : (k : Int) < n := by omega
    obtain ⟨h1, h2, h3, h4, hf⟩ := HZ.out
    obtain ⟨th, hth⟩ : ∃ x, p.threads[k]? = some x := ⟨_, List.getElem?_eq_getElem (by omega)⟩
    obtain ⟨pr, hpr⟩ : ∃ x, p.regs[k]? = some x := ⟨_, List.getElem?_eq_getElem (by omega)⟩
    obtain ⟨bt, ot, ai, ci, et, hbt, yt0, _, _⟩ := HP.out.t.at k th hth
    obtain ⟨br, orr, ak, ck, er, hbr, yr0, _, _⟩ := HP.out.r.at k pr hpr
    subst et er
    obtain ⟨ik, hik⟩ : ∃ q, th.length = q := ⟨_, rfl⟩
    obtain ⟨rk, hrk⟩ : ∃ q, pr.length = q := ⟨_, rfl⟩
    rw [hik] at yt0
    rw [hrk] at yr0
    have ui : (ik : Int) ≤ 1048576 := by have : ik ≤ 1048576 := (by rw [← hik]; exact flat_row hf.tt hth); omega
    have ur : (rk : Int) ≤ 1048576 := by have : rk ≤ 1048576 := (by rw [← hrk]; exact flat_row hf.rr hpr); omega
    have zi : z.ins.getD k 0 = ik := by rw [h4]; unfold shpOf; simp [hth, hik]
    have zr : z.rgs.getD k 0 = rk := by rw [h4]; unfold shpOf; simp [hpr, hrk]
    have hat0 : (thsR T z ⟨0, false⟩ k).2.at' ≤ T.size := thsR_at (by simp) k
    have HAX0 : thsR T z ⟨0, false⟩ (k + 1) = (((thsR T z ⟨0, false⟩ k).1.1 ++ [(numR T 0 (ik : Nat) (thsR T z ⟨0, false⟩ k).2).1], (thsR T z ⟨0, false⟩ k).1.2.1 ++ [(numR T 0 2 (numR T 0 (ik : Nat) (thsR T z ⟨0, false⟩ k).2).2).1], (thsR T z ⟨0, false⟩ k).1.2.2 ++ [(valsR T (numR T 0 2 (numR T 0 (ik : Nat) (thsR T z ⟨0, false⟩ k).2).2).2 rk).1]), (valsR T (numR T 0 2 (numR T 0 (ik : Nat) (thsR T z ⟨0, false⟩ k).2).2).2 rk).2) := by
     simp only [thsR, zi, zr]
    obtain ⟨AA, eA⟩ : ∃ x, x = (thsR T z ⟨0, false⟩ k) := ⟨_, rfl⟩
    rw [← eA] at HAX0 HRW HL0 hat0 hcut
    clear eA
    obtain ⟨⟨P1, P2, P3⟩, r0⟩ := AA
    simp only at HAX0 HRW HL0 hat0 hcut
    have hr1 := numR_at (T := T) (lo := 0) (hi := (ik : Int)) hat0
    have hN1 := fun W h => rsm_any T hT r0 hat0 (ik : Int) b7 W h
    obtain ⟨v1, ev1⟩ : ∃ x, x = (numR T 0 (ik : Int) r0).1 := ⟨_, rfl⟩
    obtain ⟨r1, er1⟩ : ∃ x, x = (numR T 0 (ik : Int) r0).2 := ⟨_, rfl⟩
    simp only [← ev1, ← er1] at hN1 HAX0 hr1
    have hr2 := numR_at (T := T) (lo := 0) (hi := 2) hr1
    have hN2 := fun W h => rsm_any T hT r1 hr1 2 b7 W h
    obtain ⟨v2, ev2⟩ : ∃ x, x = (numR T 0 2 r1).1 := ⟨_, rfl⟩
    obtain ⟨r2, er2⟩ : ∃ x, x = (numR T 0 2 r1).2 := ⟨_, rfl⟩
    simp only [← ev2, ← er2] at hN2 HAX0 hr2
    have HAX : Hid (thsR T z ⟨0, false⟩ (k + 1) = ((P1 ++ [v1], P2 ++ [v2], P3 ++ [(valsR T r2 rk).1]), (valsR T r2 rk).2)) := HAX0
    have HA1 : Hid (P1.length = k ∧ P2.length = k ∧ P3.length = k) := ⟨hcut.2.1, hcut.2.2.1, hcut.2.2.2.1⟩
    have L0 := HL0.out
    have hbtW : bt < wr.heap.size := Nat.lt_of_lt_of_le hbt L0.bel.size
    have yt : wr.cell? ⟨bt, ot + k, none⟩ = some (.slice ai (ik : Nat) ci) := by rw [L0.bel.cell (p := ⟨bt, ot + k, none⟩) hbt]; exact yt0
    have hbt7 : bt ≠ b7 := by have := L0.low.2.1; omega
    have HR0 : RrS wr b7 T r0 := L0.rd
    have HYR : Hid (br < w.heap.size ∧ w.cell? ⟨br, orr + k, none⟩ = some (.slice ak (rk : Nat) ck)) := ⟨hbr, yr0⟩
    obtain ⟨y0, y1, y2⟩ := prog3 L0.c2
    clear HAX0 ev1 er1 ev2 er2 hcut HL0 hat0 hr1 hth hpr yt0 yr0 h1 h2 h3 h4 hf hik hrk zi zr hbr
    have ta : True := trivial
    have tb : True := trivial
    have tc : True := trivial
    have td : True := trivial
    go_wp2_with fail
    clear y0 y1 y2
    refine region_invA 11 (fun a0 listed a' w' => ∃ x35 x36 x37 x38 x39 x40 x41 x42 x43 x44 x45 : Value, a' = (((((((((((a0.put (some 35) x35).put (some 36) x36).put (some 37) x37).put (some 38) x38).put (some 39) x39).put (some 40) x40).put (some 41) x41).put (some 42) x42).put (some 43) x43).put (some 44) x44).put (some 45) x45) ∧ Hid (One wr w' b7) ∧ (listed.getD 9 false = false → RrS w' b7 T r0) ∧ (listed.getD 10 false = true → listed.getD 9 false = true) ∧ (listed.getD 0 false = true → x35 = (.pointer (some ⟨b8, 0, none⟩))) ∧ (listed.getD 1 false = true → x36 = vp) ∧ (listed.getD 2 false = true → x37 = (.pointer (some ⟨b7, 0, none⟩))) ∧ (listed.getD 3 false = true → x38 = (.pointer (some ⟨b2, 0, none⟩))) ∧ (listed.getD 4 false = true → x39 = (.slice (some ⟨bt, ot, none⟩) n ct)) ∧ (listed.getD 5 false = true → x40 = (.int .i64 (k : Int))) ∧ (listed.getD 6 false = true → x41 = (.pointer (some ⟨bt, ot + k, none⟩))) ∧ (listed.getD 7 false = true → x42 = (.slice ai (ik : Nat) ci)) ∧ (listed.getD 8 false = true → x43 = (.int .i64 (ik : Int))) ∧ (listed.getD 9 false = true → x44 = .int .i64 v1 ∧ RrS w' b7 T r1) ∧ (listed.getD 10 false = true → ∃ g, x45 = .slice (some ⟨g, 0, none⟩) 1 1 ∧ wr.heap.size ≤ g ∧ IsS w' g 3 [.int .i64 v1])) (by kernel_rfl) (by kernel_rfl) ?i0a ?istepa ?ienda
    case i0a => exact ⟨_, _, _, _, _, _, _, _, _, _, _, by (try simp only [sP]) <;> rfl, One.of_below (below_drew bR) _, fun _ => HR0, fun h => (not_rep h).elim, fun h => (not_rep h).elim, fun h => (not_rep h).elim, fun h => (not_rep h).elim, fun h => (not_rep h).elim, fun h => (not_rep h).elim, fun h => (not_rep h).elim, fun h => (not_rep h).elim, fun h => (not_rep h).elim, fun h => (not_rep h).elim, fun h => (not_rep h).elim, fun h => (not_rep h).elim⟩
    case istepa =>
     rintro i listed a' w' hi hr ⟨x35, x36, x37, x38, x39, x40, x41, x42, x43, x44, x45, rfl, HBw, hpre, m10, d0, d1, d2, d3, d4, d5, d6, d7, d8, d9, d10⟩
     obtain ⟨hun, oj, hoj, hwt⟩ := mem_ready.1 hr
     simp only [sP]
     have hcase : i = 0 ∨ i = 1 ∨ i = 2 ∨ i = 3 ∨ i = 4 ∨ i = 5 ∨ i = 6 ∨ i = 7 ∨ i = 8 ∨ i = 9 ∨ i = 10 := by omega
     rcases hcase with rfl | rfl | rfl | rfl | rfl | rfl | rfl | rfl | rfl | rfl | rfl
     · have hoj2 := hoj
       obtain rfl := oI hoj
       refine wpOp_value hoj2 rfl (v := (.pointer (some ⟨b8, 0, none⟩))) (w' := w') (by first | rfl | (go_simp; done) | (simp [go_sem]; done) | (simp [execOp, go_sem]; done)) ?_
       exact ⟨(.pointer (some ⟨b8, 0, none⟩)), x36, x37, x38, x39, x40, x41, x42, x43, x44, x45, by (try simp only [sP]) <;> rfl, HBw, fun h => hpre (keepG (by decide) h), fun h => keepT (m10 (kp h)), fun _ => rfl, d1 ∘ kq, d2 ∘ kq, d3 ∘ kq, d4 ∘ kq, d5 ∘ kq, d6 ∘ kq, d7 ∘ kq, d8 ∘ kq, d9 ∘ kq, d10 ∘ kq⟩
     · have hoj2 := hoj
       obtain rfl := oI hoj
       have e0 := d0 (hwt ⟨0, .data⟩ (by simp) rfl)
       subst e0
       refine wpOp_cell hoj2 rfl 29 _ rfl rfl (v := vp) (by have h : w'.cell? ⟨_, _, none⟩ = some vp := (isS_one L0.s8 L0.rd (by decide) HBw.out).cell 0; simp [go_sem, h]) ?_
       exact ⟨(.pointer (some ⟨b8, 0, none⟩)), vp, x37, x38, x39, x40, x41, x42, x43, x44, x45, by (try simp only [sP]) <;> rfl, HBw, fun h => hpre (keepG (by decide) h), fun h => keepT (m10 (kp h)), d0 ∘ kq, fun _ => rfl, d2 ∘ kq, d3 ∘ kq, d4 ∘ kq, d5 ∘ kq, d6 ∘ kq, d7 ∘ kq, d8 ∘ kq, d9 ∘ kq, d10 ∘ kq⟩
     · have hoj2 := hoj
       obtain rfl := oI hoj
       refine wpOp_value hoj2 rfl (v := (.pointer (some ⟨b7, 0, none⟩))) (w' := w') (by first | rfl | (go_simp; done) | (simp [go_sem]; done) | (simp [execOp, go_sem]; done)) ?_
       exact ⟨x35, x36, (.pointer (some ⟨b7, 0, none⟩)), x38, x39, x40, x41, x42, x43, x44, x45, by (try simp only [sP]) <;> rfl, HBw, fun h => hpre (keepG (by decide) h), fun h => keepT (m10 (kp h)), d0 ∘ kq, d1 ∘ kq, fun _ => rfl, d3 ∘ kq, d4 ∘ kq, d5 ∘ kq, d6 ∘ kq, d7 ∘ kq, d8 ∘ kq, d9 ∘ kq, d10 ∘ kq⟩
     · have hoj2 := hoj
       obtain rfl := oI hoj
       refine wpOp_value hoj2 rfl (v := (.pointer (some ⟨b2, 0, none⟩))) (w' := w') (by first | rfl | (go_simp; done) | (simp [go_sem]; done) | (simp [execOp, go_sem]; done)) ?_
       exact ⟨x35, x36, x37, (.pointer (some ⟨b2, 0, none⟩)), x39, x40, x41, x42, x43, x44, x45, by (try simp only [sP]) <;> rfl, HBw, fun h => hpre (keepG (by decide) h), fun h => keepT (m10 (kp h)), d0 ∘ kq, d1 ∘ kq, d2 ∘ kq, fun _ => rfl, d4 ∘ kq, d5 ∘ kq, d6 ∘ kq, d7 ∘ kq, d8 ∘ kq, d9 ∘ kq, d10 ∘ kq⟩
     · have hoj2 := hoj
       obtain rfl := oI hoj
       have e3 := d3 (hwt ⟨3, .data⟩ (by simp) rfl)
       subst e3
       refine wpOp_cell hoj2 rfl 22 _ rfl rfl (v := (.slice (some ⟨bt, ot, none⟩) n ct)) (by have h : w'.cell? ⟨_, _, none⟩ = some (.slice (some ⟨bt, ot, none⟩) n ct) := (isS_one L0.c2 L0.rd (by decide) HBw.out).cell 0; simp [go_sem, h]) ?_
       exact ⟨x35, x36, x37, (.pointer (some ⟨b2, 0, none⟩)), (.slice (some ⟨bt, ot, none⟩) n ct), x40, x41, x42, x43, x44, x45, by (try simp only [sP]) <;> rfl, HBw, fun h => hpre (keepG (by decide) h), fun h => keepT (m10 (kp h)), d0 ∘ kq, d1 ∘ kq, d2 ∘ kq, d3 ∘ kq, fun _ => rfl, d5 ∘ kq, d6 ∘ kq, d7 ∘ kq, d8 ∘ kq, d9 ∘ kq, d10 ∘ kq⟩
     · have hoj2 := hoj
       obtain rfl := oI hoj
       refine wpOp_value hoj2 rfl (v := (.int .i64 (k : Int))) (w' := w') (by first | rfl | (go_simp; done) | (simp [go_sem]; done) | (simp [execOp, go_sem]; done)) ?_
       exact ⟨x35, x36, x37, x38, x39, (.int .i64 (k : Int)), x41, x42, x43, x44, x45, by (try simp only [sP]) <;> rfl, HBw, fun h => hpre (keepG (by decide) h), fun h => keepT (m10 (kp h)), d0 ∘ kq, d1 ∘ kq, d2 ∘ kq, d3 ∘ kq, d4 ∘ kq, fun _ => rfl, d6 ∘ kq, d7 ∘ kq, d8 ∘ kq, d9 ∘ kq, d10 ∘ kq⟩
     · have hoj2 := hoj
       obtain rfl := oI hoj
       have e4 := d4 (hwt ⟨4, .data⟩ (by simp) rfl)
       have e5 := d5 (hwt ⟨5, .data⟩ (by simp) rfl)
       subst e4 e5
       refine wpOp_value hoj2 rfl (v := (.pointer (some ⟨bt, ot + k, none⟩))) (w' := w') (by first | (simp [execOp, go_sem, hki]; done) | rfl) ?_
       exact ⟨x35, x36, x37, x38, (.slice (some ⟨bt, ot, none⟩) n ct), (.int .i64 (k : Int)), (.pointer (some ⟨bt, ot + k, none⟩)), x42, x43, x44, x45, by (try simp only [sP]) <;> rfl, HBw, fun h => hpre (keepG (by decide) h), fun h => keepT (m10 (kp h)), d0 ∘ kq, d1 ∘ kq, d2 ∘ kq, d3 ∘ kq, d4 ∘ kq, d5 ∘ kq, fun _ => rfl, d7 ∘ kq, d8 ∘ kq, d9 ∘ kq, d10 ∘ kq⟩
     · have hoj2 := hoj
       obtain rfl := oI hoj
       have e6 := d6 (hwt ⟨6, .data⟩ (by simp) rfl)
       subst e6
       refine wpOp_cell hoj2 rfl 61 _ rfl rfl (v := (.slice ai (ik : Nat) ci)) (by have h : w'.cell? ⟨_, _, none⟩ = some (.slice ai (ik : Nat) ci) := ((one_cell HBw.out hbtW hbt7).trans yt); simp [go_sem, h]) ?_
       exact ⟨x35, x36, x37, x38, x39, x40, (.pointer (some ⟨bt, ot + k, none⟩)), (.slice ai (ik : Nat) ci), x43, x44, x45, by (try simp only [sP]) <;> rfl, HBw, fun h => hpre (keepG (by decide) h), fun h => keepT (m10 (kp h)), d0 ∘ kq, d1 ∘ kq, d2 ∘ kq, d3 ∘ kq, d4 ∘ kq, d5 ∘ kq, d6 ∘ kq, fun _ => rfl, d8 ∘ kq, d9 ∘ kq, d10 ∘ kq⟩
     · have hoj2 := hoj
       obtain rfl := oI hoj
       have e7 := d7 (hwt ⟨7, .data⟩ (by simp) rfl)
       subst e7
       refine wpOp_value hoj2 rfl (v := (.int .i64 (ik : Int))) (w' := w') (by first | rfl | (go_simp; done) | (simp [go_sem]; done) | (simp [execOp, go_sem]; done)) ?_
       exact ⟨x35, x36, x37, x38, x39, x40, x41, (.slice ai (ik : Nat) ci), (.int .i64 (ik : Int)), x44, x45, by (try simp only [sP]) <;> rfl, HBw, fun h => hpre (keepG (by decide) h), fun h => keepT (m10 (kp h)), d0 ∘ kq, d1 ∘ kq, d2 ∘ kq, d3 ∘ kq, d4 ∘ kq, d5 ∘ kq, d6 ∘ kq, d7 ∘ kq, fun _ => rfl, d9 ∘ kq, d10 ∘ kq⟩
     · have hoj2 := hoj
       obtain rfl := oI hoj
       have e2 := d2 (hwt ⟨2, .data⟩ (by simp) rfl)
       have e8 := d8 (hwt ⟨8, .data⟩ (by simp) rfl)
       subst e2 e8
       have hpre0 := hpre (getD_both hun)
       refine wpOp_call hoj2 rfl (f := 45) (args := #[.pointer (some ⟨b7, 0, none⟩), .int .i64 (ik : Int)]) (by first | rfl | (go_simp; done) | (simp [go_sem]; done) | (simp [execOp, go_sem]; done)) ?_
       refine (hN1 w' hpre0).mono ?_
       rintro e w4 ⟨rfl, R4, O4⟩
       refine ⟨_, rfl, ?_⟩
       exact ⟨x35, x36, (.pointer (some ⟨b7, 0, none⟩)), x38, x39, x40, x41, x42, (.int .i64 (ik : Int)), _, x45, by (try simp only [sP]) <;> rfl, HBw.out.trans O4, fun h => absurd h (by rw [nowU hun]; simp), fun h => keepT (m10 (kp h)), d0 ∘ kq, d1 ∘ kq, d2 ∘ kq, d3 ∘ kq, d4 ∘ kq, d5 ∘ kq, d6 ∘ kq, d7 ∘ kq, d8 ∘ kq, fun _ => ⟨rfl, R4⟩, fun h => absurd (m10 (kp h)) (by rw [getD_both hun]; simp)⟩
     · have hoj2 := hoj
       obtain rfl := oI hoj
       have e9 := d9 (hwt ⟨9, .data⟩ (by simp) rfl)
       obtain ⟨ev, _⟩ := e9
       subst ev
       refine wpOp_value hoj2 rfl (exec_build1 eIntI _ rfl (.int .i64 v1) rfl rfl) ?_
       have B9 := F_b (Fresh.alloc w' (.cells #[.int .i64 v1] 3))
       exact ⟨x35, x36, x37, x38, x39, x40, x41, x42, x43, (.int .i64 v1), _, by (try simp only [sP]) <;> rfl, HBw.out.trans (One.of_below B9 _), fun h => IsS.grown (hpre (keepG (by decide) h)) B9, fun _ => keepT (hwt ⟨9, .data⟩ (by simp) rfl), d0 ∘ kq, d1 ∘ kq, d2 ∘ kq, d3 ∘ kq, d4 ∘ kq, d5 ∘ kq, d6 ∘ kq, d7 ∘ kq, d8 ∘ kq, fun h => ⟨(d9 (kp h)).1, IsS.grown (d9 (kp h)).2 B9⟩, fun _ => ⟨_, rfl, HBw.out.size, IsS.new w' 3 [.int .i64 v1]⟩⟩
    case ienda =>
     rintro a' w' ⟨x35, x36, x37, x38, x39, x40, x41, x42, x43, x44, x45, rfl, HBw, hpre, m10, d0, d1, d2, d3, d4, d5, d6, d7, d8, d9, d10⟩
     replace d0 := d0 rfl
     replace d1 := d1 rfl
     replace d2 := d2 rfl
     replace d3 := d3 rfl
     replace d4 := d4 rfl
     replace d5 := d5 rfl
     replace d6 := d6 rfl
     replace d7 := d7 rfl
     replace d8 := d8 rfl
     replace d9 := d9 rfl
     replace d10 := d10 rfl
     clear hpre m10
     simp only [sP]
     simp only [List.drop_succ_cons, List.drop_zero]
     obtain ⟨e44, R7⟩ := d9
     obtain ⟨g9, e45, hg9, I9⟩ := d10
     subst e44 e45 d0 d2 d3 d4 d5 d6 d7 d8
     have e36 := d1
     subst e36
     have L1 := L0.one R7 HBw.out
     clear HBw R7 HR0 L0 d1
     go_wp2_with (first
      | (clear ta; at_builtin; refine wpList_appW eIntI rfl _ _ rfl w.heap.size x36 P1.length (P1.flatMap intE) rfl L1.pc g9 [.int .i64 v1] rfl I9 rfl (by intro v hv; simp at hv; subst hv; rfl) (by have := HA1.out.1; omega) L1.bel.size ?_; intro vp2 W8 O8 G8 WH8; have q2 := (L1.grow (B := w.heap.size) L1.pc G8 (by decide)).2.1)
      | (clear tb; refine wpList_store1 rfl 29 _ _ rfl rfl vp2 rfl q2 (by simp) infoIs (one_own O8) ?_; intro W9 U9 I9b; have L2 := L1.appPc O8 G8 WH8 U9 I9b; clear L1 O8 G8 WH8 U9 I9b q2 I9))
     have HR0 : RrS W9 b7 T r1 := L2.rd
     refine region_invA 5 (fun a0 listed a' w' => ∃ x48 x49 x50 x51 x52 : Value, a' = (((((a0.put (some 48) x48).put (some 49) x49).put (some 50) x50).put (some 51) x51).put (some 52) x52) ∧ Hid (One W9 w' b7) ∧ (listed.getD 3 false = false → RrS w' b7 T r1) ∧ (listed.getD 4 false = true → listed.getD 3 false = true) ∧ (listed.getD 0 false = true → x48 = (.pointer (some ⟨b8, 1, none⟩))) ∧ (listed.getD 1 false = true → x49 = vh) ∧ (listed.getD 2 false = true → x50 = (.pointer (some ⟨b7, 0, none⟩))) ∧ (listed.getD 3 false = true → x51 = .int .i64 v2 ∧ RrS w' b7 T r2) ∧ (listed.getD 4 false = true → ∃ g, x52 = .slice (some ⟨g, 0, none⟩) 1 1 ∧ W9.heap.size ≤ g ∧ IsS w' g 3 [.int .i64 v2])) (by kernel_rfl) (by kernel_rfl) ?i0b ?istepb ?iendb
     case i0b => exact ⟨_, _, _, _, _, by (try simp only [sP]) <;> rfl, One.of_below (below_drew bR) _, fun _ => HR0, fun h => (not_rep h).elim, fun h => (not_rep h).elim, fun h => (not_rep h).elim, fun h => (not_rep h).elim, fun h => (not_rep h).elim, fun h => (not_rep h).elim⟩
     case istepb =>
      rintro i listed a' w' hi hr ⟨x48, x49, x50, x51, x52, rfl, HBw, hpre, m4, d0, d1, d2, d3, d4⟩
      obtain ⟨hun, oj, hoj, hwt⟩ := mem_ready.1 hr
      simp only [sP]
      have hcase : i = 0 ∨ i = 1 ∨ i = 2 ∨ i = 3 ∨ i = 4 := by omega
      rcases hcase with rfl | rfl | rfl | rfl | rfl
      · have hoj2 := hoj
        obtain rfl := oI hoj
        refine wpOp_value hoj2 rfl (v := (.pointer (some ⟨b8, 1, none⟩))) (w' := w') (by first | rfl | (go_simp; done) | (simp [go_sem]; done) | (simp [execOp, go_sem]; done)) ?_
        exact ⟨(.pointer (some ⟨b8, 1, none⟩)), x49, x50, x51, x52, by (try simp only [sP]) <;> rfl, HBw, fun h => hpre (keepG (by decide) h), fun h => keepT (m4 (kp h)), fun _ => rfl, d1 ∘ kq, d2 ∘ kq, d3 ∘ kq, d4 ∘ kq⟩
      · have hoj2 := hoj
        obtain rfl := oI hoj
        have e0 := d0 (hwt ⟨0, .data⟩ (by simp) rfl)
        subst e0
        refine wpOp_cell hoj2 rfl 29 _ rfl rfl (v := vh) (by have h : w'.cell? ⟨_, _, none⟩ = some vh := (isS_one L2.s8 L2.rd (by decide) HBw.out).cell 1; simp [go_sem, h]) ?_
        exact ⟨(.pointer (some ⟨b8, 1, none⟩)), vh, x50, x51, x52, by (try simp only [sP]) <;> rfl, HBw, fun h => hpre (keepG (by decide) h), fun h => keepT (m4 (kp h)), d0 ∘ kq, fun _ => rfl, d2 ∘ kq, d3 ∘ kq, d4 ∘ kq⟩
      · have hoj2 := hoj
        obtain rfl := oI hoj
        refine wpOp_value hoj2 rfl (v := (.pointer (some ⟨b7, 0, none⟩))) (w' := w') (by first | rfl | (go_simp; done) | (simp [go_sem]; done) | (simp [execOp, go_sem]; done)) ?_
        exact ⟨x48, x49, (.pointer (some ⟨b7, 0, none⟩)), x51, x52, by (try simp only [sP]) <;> rfl, HBw, fun h => hpre (keepG (by decide) h), fun h => keepT (m4 (kp h)), d0 ∘ kq, d1 ∘ kq, fun _ => rfl, d3 ∘ kq, d4 ∘ kq⟩
      · have hoj2 := hoj
        obtain rfl := oI hoj
        have e2 := d2 (hwt ⟨2, .data⟩ (by simp) rfl)
        subst e2
        have hpre0 := hpre (getD_both hun)
        refine wpOp_call hoj2 rfl (f := 45) (args := #[.pointer (some ⟨b7, 0, none⟩), .int .i64 2]) (by first | rfl | (go_simp; done) | (simp [go_sem]; done) | (simp [execOp, go_sem]; done)) ?_
        refine (hN2 w' hpre0).mono ?_
        rintro e w4 ⟨rfl, R4, O4⟩
        refine ⟨_, rfl, ?_⟩
        exact ⟨x48, x49, (.pointer (some ⟨b7, 0, none⟩)), _, x52, by (try simp only [sP]) <;> rfl, HBw.out.trans O4, fun h => absurd h (by rw [nowU hun]; simp), fun h => keepT (m4 (kp h)), d0 ∘ kq, d1 ∘ kq, d2 ∘ kq, fun _ => ⟨rfl, R4⟩, fun h => absurd (m4 (kp h)) (by rw [getD_both hun]; simp)⟩
      · have hoj2 := hoj
        obtain rfl := oI hoj
        have e3 := d3 (hwt ⟨3, .data⟩ (by simp) rfl)
        obtain ⟨ev, _⟩ := e3
        subst ev
        refine wpOp_value hoj2 rfl (exec_build1 eIntI _ rfl (.int .i64 v2) rfl rfl) ?_
        have B9 := F_b (Fresh.alloc w' (.cells #[.int .i64 v2] 3))
        exact ⟨x48, x49, x50, (.int .i64 v2), _, by (try simp only [sP]) <;> rfl, HBw.out.trans (One.of_below B9 _), fun h => IsS.grown (hpre (keepG (by decide) h)) B9, fun _ => keepT (hwt ⟨3, .data⟩ (by simp) rfl), d0 ∘ kq, d1 ∘ kq, d2 ∘ kq, fun h => ⟨(d3 (kp h)).1, IsS.grown (d3 (kp h)).2 B9⟩, fun _ => ⟨_, rfl, HBw.out.size, IsS.new w' 3 [.int .i64 v2]⟩⟩
     case iendb =>
      rintro a' w' ⟨x48, x49, x50, x51, x52, rfl, HBw, hpre, m4, d0, d1, d2, d3, d4⟩
      replace d0 := d0 rfl
      replace d1 := d1 rfl
      replace d2 := d2 rfl
      replace d3 := d3 rfl
      replace d4 := d4 rfl
      clear hpre m4
      simp only [sP]
      simp only [List.drop_succ_cons, List.drop_zero]
      obtain ⟨e51, R7⟩ := d3
      obtain ⟨g9, e52, hg9, I9⟩ := d4
      subst e51 e52 d0 d2
      have e49 := d1
      subst e49
      have L3 := L2.one R7 HBw.out
      clear HBw R7 HR0 L2 d1
      go_wp2_with (first
       | (clear tc; at_builtin; refine wpList_appW eIntI rfl _ _ rfl w.heap.size x49 P2.length (P2.flatMap intE) rfl L3.ph g9 [.int .i64 v2] rfl I9 rfl (by intro v hv; simp at hv; subst hv; rfl) (by have := HA1.out.2.1; omega) L3.bel.size ?_; intro vh2 W10 O10 G10 WH10; have q2 := (L3.grow (B := w.heap.size) L3.ph G10 (by decide)).2.1)
       | (clear td; refine wpList_store1 rfl 29 _ _ rfl rfl vh2 rfl q2 (by simp) infoIs (one_own O10) ?_; intro W11 U11 I11; have L4 := L3.appPh O10 G10 WH10 U11 I11; clear L3 O10 G10 WH10 U11 I11 q2 I9))
      have HL4 : Hid (LR w T b2 b4 b7 b8 [.slice (some ⟨bt, ot, none⟩) n ct, .slice (some ⟨br, orr, none⟩) n cr, .slice al nl cl, vi, vj] W11 (valsR T r2 0).2 vp2 vh2 vg (.slice none 0 0) (.slice none 0 0) (P1 ++ [v1]) (P2 ++ [v2]) rgV [] [] rows []) := L4
      clear L4
      go_loopw [11, 10] (fun i l wr => ∃ (q : Nat), q ≤ rk ∧ i = .int .i64 (q : Int) ∧ Hid (wr.ownsRow w.heap.size 2 1 l (valsR T r2 q).1.length ((valsR T r2 q).1.flatMap intE)) ∧ Hid (∀ x ∈ rows, Apart x.1 l) ∧ Hid (LR w T b2 b4 b7 b8 [.slice (some ⟨bt, ot, none⟩) n ct, .slice (some ⟨br, orr, none⟩) n cr, .slice al nl cl, vi, vj] wr (valsR T r2 q).2 vp2 vh2 vg (.slice none 0 0) (.slice none 0 0) (P1 ++ [v1]) (P2 ++ [v2]) rgV [] [] rows [])) (fun i _ _ => rk - (intOf i).toNat)
      case atStart => exact ⟨0, by omega, rfl, World.ownsRow_nil _ _ _ _, (fun x hx => (apart_nil _ _ _).symm), HL4⟩
      case round =>
       clear HL4
       obtain ⟨q, hq, rfl, HOl, HAl, HLq⟩ := hrel
       have Lq := HLq.out
       obtain ⟨y0, y1, y2⟩ := prog3 Lq.c2
       have yr : wr.cell? ⟨br, orr + k, none⟩ = some (.slice ak (rk : Nat) ck) := by rw [Lq.bel.cell (p := ⟨br, orr + k, none⟩) HYR.out.1]; exact HYR.out.2
       have hlq : (valsR T r2 q).1.length = q := (valsR_cut T r2 q).2
       by_cases hqt : q < rk
       · have hqi : (q : Int) < rk := by omega
         have hatq := valsR_at (T := T) hr2 q
         have HX0 : valsR T r2 (q + 1) = ((valsR T r2 q).1 ++ [(valR T (valsR T r2 q).2).1], (valR T (valsR T r2 q).2).2) := rfl
         obtain ⟨AA, eA⟩ : ∃ x, x = valsR T r2 q := ⟨_, rfl⟩
         rw [← eA] at HX0 HOl HLq Lq hatq hlq
         clear eA
         obtain ⟨V3, r3⟩ := AA
         simp only at HX0 HOl HLq Lq hatq hlq
         have hTk := rtk_any T hT r3 hatq b7 wr Lq.rd
         obtain ⟨v3, ev3⟩ : ∃ x, x = (valR T r3).1 := ⟨_, rfl⟩
         obtain ⟨r4, er4⟩ : ∃ x, x = (valR T r3).2 := ⟨_, rfl⟩
         rw [← ev3, ← er4] at hTk HX0
         have HX : Hid (valsR T r2 (q + 1) = (V3 ++ [v3], r4)) := HX0
         obtain ⟨al0, cl0, hl0⟩ := own_formX HOl.out
         subst hl0
         have HV3 : Hid (V3.length = q) := hlq
         have OL := HOl.out
         clear ev3 er4 HX0 hlq hatq HOl HLq
         have te : True := trivial
         have tf : True := trivial
         have tg : True := trivial
         go_wp2_with (first
          | (clear te; go_at_call 46; refine hTk.mono ?_; rintro e V1 ⟨rfl, R1, O1⟩; have OL1 := own_one OL Lq.rd (by decide) O1; have Lq1 := Lq.one R1 O1; clear OL Lq R1 O1 y0 y1 y2 yr)
          | (clear tf; refine wpList_build1E eInt rfl _ rfl (.int .i64 v3) rfl rfl ?_; intro V2 g2 F2 J2; have OL2 := own_belowY OL1 (F_b F2); have Lq2 := Lq1.below (F_b F2); clear F2 OL1 Lq1)
          | (clear tg; at_builtin; refine wpList_appW eInt rfl _ _ rfl w.heap.size (.slice al0 V3.length cl0) V3.length (V3.flatMap intE) rfl OL2 g2 [.int .i64 v3] rfl J2 rfl (by intro v hv; simp at hv; subst hv; rfl) (by have := HV3.out; omega) Lq2.bel.size ?_; intro l3 V4 OL3 G3 WH3; have Lq3 := Lq2.grow2 OL2 G3 (apart_nil _ _ _) HAl.out; have HA3 : ∀ x ∈ rows, Apart x.1 l3 := (fun x hx => WH3.apart (Lq2.rr x hx) (HAl.out x hx)); clear OL2 Lq2 G3 WH3))
         go_roundw
         case rel => exact ⟨q + 1, by omega, by go_num, (by show World.ownsRow _ _ _ _ _ _ _; rw [HX.out, List.length_append, List.flatMap_append]; exact OL3), HA3, (by show LR _ _ _ _ _ _ _ _ _ _ _ _ _ _ _ _ _ _ _ _ _; rw [HX.out]; exact Lq3)⟩
         case measure => simp [intOf]; omega
       · obtain rfl : q = rk := by omega
         have hqi : ¬ (q : Int) < q := by omega
         have OL := HOl.out
         have HAl0 := HAl.out
         have HAXq := HAX.out
         obtain ⟨AA, eA⟩ : ∃ x, x = valsR T r2 q := ⟨_, rfl⟩
         rw [← eA] at OL Lq hlq HAXq
         clear eA HOl HLq HAX
         obtain ⟨V3, r3⟩ := AA
         simp only at OL Lq hlq HAXq
         have HAX : Hid (thsR T z ⟨0, false⟩ (k + 1) = ((P1 ++ [v1], P2 ++ [v2], P3 ++ [V3]), r3)) := HAXq
         obtain ⟨al0, cl0, hl0⟩ := own_formX OL
         subst hl0
         obtain ⟨x0, x1, x2, x3, x4, x5⟩ := st6 Lq.s8
         have HRL : Hid (rgV.length = k) := by
          show _ = _
          have h1 := congrArg List.length HRW.out
          rw [Lq.er, List.length_map]
          rw [List.length_map] at h1
          rw [h1]; exact HA1.out.2.2
         clear HAXq
         have te : True := trivial
         have tf : True := trivial
         have tg : True := trivial
         go_wp2_with (first
          | (clear te; refine wpList_build1E eInts rfl _ rfl (.slice al0 V3.length cl0) rfl rfl ?_; intro V2 g2 F2 J2; have OL2 := own_belowY OL (F_b F2); have Lq2 := Lq.below (F_b F2); clear F2 OL Lq x0 x1 x2 x3 x4 x5)
          | (clear tf; at_builtin; refine wpList_appW eInts rfl _ _ rfl w.heap.size vg rgV.length rgV rfl Lq2.rg g2 [.slice al0 V3.length cl0] rfl J2 rfl (by intro v hv; simp at hv; subst hv; rfl) (by have := HRL.out; omega) Lq2.bel.size ?_; intro vg2 V3b O3 G3 WH3; have q2 := (Lq2.grow (B := w.heap.size) Lq2.rg G3 (by decide)).2.1)
          | (clear tg; refine wpList_store1 rfl 25 _ _ rfl rfl vg2 rfl q2 (by simp) infoSSI (one_own O3) ?_; intro V4 U4 I4; have L5 := Lq2.appRg (l := V3) O3 G3 OL2 (apart_nil _ _ _).symm U4 I4; clear Lq2 O3 G3 WH3 OL2 U4 I4 q2))
         go_roundw
         case rel =>
          refine ⟨k + 1, vp2, vh2, vg2, rgV ++ [.slice al0 V3.length cl0], rows ++ [(.slice al0 V3.length cl0, V3)], by omega, by go_num, ?_, ?_⟩
          · show List.map _ _ = _
            rw [HAX.out, List.map_append, HRW.out]; rfl
          · show LR _ _ _ _ _ _ _ _ _ _ _ _ _ _ _ _ _ _ _ _ _
            rw [HAX.out]; exact L5
         case measure => simp [intOf]; omega
  · obtain rfl : k = n := by omega
    have hki : ¬ (k : Int) < k := by omega
    have L0 := HL0.out
    have hat0 : (thsR T z ⟨0, false⟩ k).2.at' ≤ T.size := thsR_at (by simp) k
    obtain ⟨AA, eA⟩ : ∃ x, x = (thsR T z ⟨0, false⟩ k) := ⟨_, rfl⟩
    have HAA : Hid (AA = (thsR T z ⟨0, false⟩ k)) := eA
    rw [← eA] at HRW L0 hat0 hcut
    clear eA HL0
    obtain ⟨⟨P1, P2, P3⟩, r0⟩ := AA
    simp only at HRW L0 hat0 hcut
    have HA1 : Hid (P1.length = k ∧ P2.length = k ∧ P3.length = k) := ⟨hcut.2.1, hcut.2.2.1, hcut.2.2.2.1⟩
    obtain ⟨y0, y1, y2⟩ := prog3 L0.c2
    go_wp2_with fail
    clear y0 y1 y2
    have HL3 : Hid (LR w T b2 b4 b7 b8 [.slice at0 k ct, .slice ar k cr, .slice al nl cl, vi, vj] wr (valsR T r0 0).2 vp vh vg (.slice none 0 0) (.slice none 0 0) P1 P2 rgV (valsR T r0 0).1 [] rows []) := L0
    clear L0 hcut
    obtain ⟨WR, hWR⟩ : ∃ W, W = wr := ⟨_, rfl⟩
    subst hWR
    go_loopw [12] (fun i wr => ∃ (q : Nat) (vm : Value), q ≤ nl ∧ i = .int .i64 (q : Int) ∧ Hid (LR w T b2 b4 b7 b8 [.slice at0 k ct, .slice ar k cr, .slice al nl cl, vi, vj] wr (valsR T r0 q).2 vp vh vg vm (.slice none 0 0) P1 P2 rgV (valsR T r0 q).1 [] rows [])) (fun i _ => nl - (intOf i).toNat)
    case atStart => exact ⟨0, _, by omega, rfl, HL3⟩
    case round =>
     clear HL3
     obtain ⟨q, vm, hq, rfl, HLq⟩ := hrel
     have Lq := HLq.out
     obtain ⟨y0, y1, y2⟩ := prog3 Lq.c2
     have hlq : (valsR T r0 q).1.length = q := (valsR_cut T r0 q).2
     have hatq := valsR_at (T := T) hat0 q
     by_cases hqt : q < nl
     · have hqi : (q : Int) < nl := by omega
       have HX0 : valsR T r0 (q + 1) = ((valsR T r0 q).1 ++ [(valR T (valsR T r0 q).2).1], (valR T (valsR T r0 q).2).2) := rfl
       obtain ⟨AA, eA⟩ : ∃ x, x = valsR T r0 q := ⟨_, rfl⟩
       rw [← eA] at HX0 HLq Lq hatq hlq
       clear eA
       obtain ⟨V3, r3⟩ := AA
       simp only at HX0 HLq Lq hatq hlq
       have hTk := fun W h => rtk_any T hT r3 hatq b7 W h
       obtain ⟨v3, ev3⟩ : ∃ x, x = (valR T r3).1 := ⟨_, rfl⟩
       obtain ⟨r4, er4⟩ : ∃ x, x = (valR T r3).2 := ⟨_, rfl⟩
       rw [← ev3, ← er4] at HX0
       simp only [← ev3, ← er4] at hTk
       have HX : Hid (valsR T r0 (q + 1) = (V3 ++ [v3], r4)) := HX0
       have HV3 : Hid (V3.length = q) := hlq
       have HR0 : RrS wr b7 T r3 := Lq.rd
       clear ev3 er4 HX0 hlq hatq HLq
       have ta : True := trivial
       have tb : True := trivial
       go_wp2_with fail
       clear y0 y1 y2
       refine region_invA 5 (fun a0 listed a' w' => ∃ x83 x84 x85 x86 x87 : Value, a' = (((((a0.put (some 83) x83).put (some 84) x84).put (some 85) x85).put (some 86) x86).put (some 87) x87) ∧ Hid (One wr w' b7) ∧ (listed.getD 3 false = false → RrS w' b7 T r3) ∧ (listed.getD 4 false = true → listed.getD 3 false = true) ∧ (listed.getD 0 false = true → x83 = (.pointer (some ⟨b8, 3, none⟩))) ∧ (listed.getD 1 false = true → x84 = vm) ∧ (listed.getD 2 false = true → x85 = (.pointer (some ⟨b7, 0, none⟩))) ∧ (listed.getD 3 false = true → x86 = .int .i64 v3 ∧ RrS w' b7 T r4) ∧ (listed.getD 4 false = true → ∃ g, x87 = .slice (some ⟨g, 0, none⟩) 1 1 ∧ wr.heap.size ≤ g ∧ IsS w' g 2 [.int .i64 v3])) (by kernel_rfl) (by kernel_rfl) ?i0c ?istepc ?iendc
       case i0c => exact ⟨_, _, _, _, _, by (try simp only [sP]) <;> rfl, One.of_below (below_drew bR) _, fun _ => HR0, fun h => (not_rep h).elim, fun h => (not_rep h).elim, fun h => (not_rep h).elim, fun h => (not_rep h).elim, fun h => (not_rep h).elim, fun h => (not_rep h).elim⟩
       case istepc =>
        rintro i listed a' w' hi hr ⟨x83, x84, x85, x86, x87, rfl, HBw, hpre, m4, d0, d1, d2, d3, d4⟩
        obtain ⟨hun, oj, hoj, hwt⟩ := mem_ready.1 hr
        simp only [sP]
        have hcase : i = 0 ∨ i = 1 ∨ i = 2 ∨ i = 3 ∨ i = 4 := by omega
        rcases hcase with rfl | rfl | rfl | rfl | rfl
        · have hoj2 := hoj
          obtain rfl := oI hoj
          refine wpOp_value hoj2 rfl (v := (.pointer (some ⟨b8, 3, none⟩))) (w' := w') (by first | rfl | (go_simp; done) | (simp [go_sem]; done) | (simp [execOp, go_sem]; done)) ?_
          exact ⟨(.pointer (some ⟨b8, 3, none⟩)), x84, x85, x86, x87, by (try simp only [sP]) <;> rfl, HBw, fun h => hpre (keepG (by decide) h), fun h => keepT (m4 (kp h)), fun _ => rfl, d1 ∘ kq, d2 ∘ kq, d3 ∘ kq, d4 ∘ kq⟩
        · have hoj2 := hoj
          obtain rfl := oI hoj
          have e0 := d0 (hwt ⟨0, .data⟩ (by simp) rfl)
          subst e0
          refine wpOp_cell hoj2 rfl 26 _ rfl rfl (v := vm) (by have h : w'.cell? ⟨_, _, none⟩ = some vm := (isS_one Lq.s8 Lq.rd (by decide) HBw.out).cell 3; simp [go_sem, h]) ?_
          exact ⟨(.pointer (some ⟨b8, 3, none⟩)), vm, x85, x86, x87, by (try simp only [sP]) <;> rfl, HBw, fun h => hpre (keepG (by decide) h), fun h => keepT (m4 (kp h)), d0 ∘ kq, fun _ => rfl, d2 ∘ kq, d3 ∘ kq, d4 ∘ kq⟩
        · have hoj2 := hoj
          obtain rfl := oI hoj
          refine wpOp_value hoj2 rfl (v := (.pointer (some ⟨b7, 0, none⟩))) (w' := w') (by first | rfl | (go_simp; done) | (simp [go_sem]; done) | (simp [execOp, go_sem]; done)) ?_
          exact ⟨x83, x84, (.pointer (some ⟨b7, 0, none⟩)), x86, x87, by (try simp only [sP]) <;> rfl, HBw, fun h => hpre (keepG (by decide) h), fun h => keepT (m4 (kp h)), d0 ∘ kq, d1 ∘ kq, fun _ => rfl, d3 ∘ kq, d4 ∘ kq⟩
        · have hoj2 := hoj
          obtain rfl := oI hoj
          have e2 := d2 (hwt ⟨2, .data⟩ (by simp) rfl)
          subst e2
          have hpre0 := hpre (getD_both hun)
          refine wpOp_call hoj2 rfl (f := 46) (args := #[.pointer (some ⟨b7, 0, none⟩)]) (by first | rfl | (go_simp; done) | (simp [go_sem]; done) | (simp [execOp, go_sem]; done)) ?_
          refine (hTk w' hpre0).mono ?_
          rintro e w4 ⟨rfl, R4, O4⟩
          refine ⟨_, rfl, ?_⟩
          exact ⟨x83, x84, (.pointer (some ⟨b7, 0, none⟩)), _, x87, by (try simp only [sP]) <;> rfl, HBw.out.trans O4, fun h => absurd h (by rw [nowU hun]; simp), fun h => keepT (m4 (kp h)), d0 ∘ kq, d1 ∘ kq, d2 ∘ kq, fun _ => ⟨rfl, R4⟩, fun h => absurd (m4 (kp h)) (by rw [getD_both hun]; simp)⟩
        · have hoj2 := hoj
          obtain rfl := oI hoj
          have e3 := d3 (hwt ⟨3, .data⟩ (by simp) rfl)
          obtain ⟨ev, _⟩ := e3
          subst ev
          refine wpOp_value hoj2 rfl (exec_build1 eInt _ rfl (.int .i64 v3) rfl rfl) ?_
          have B9 := F_b (Fresh.alloc w' (.cells #[.int .i64 v3] 2))
          exact ⟨x83, x84, x85, (.int .i64 v3), _, by (try simp only [sP]) <;> rfl, HBw.out.trans (One.of_below B9 _), fun h => IsS.grown (hpre (keepG (by decide) h)) B9, fun _ => keepT (hwt ⟨3, .data⟩ (by simp) rfl), d0 ∘ kq, d1 ∘ kq, d2 ∘ kq, fun h => ⟨(d3 (kp h)).1, IsS.grown (d3 (kp h)).2 B9⟩, fun _ => ⟨_, rfl, HBw.out.size, IsS.new w' 2 [.int .i64 v3]⟩⟩
       case iendc =>
        rintro a' w' ⟨x83, x84, x85, x86, x87, rfl, HBw, hpre, m4, d0, d1, d2, d3, d4⟩
        replace d0 := d0 rfl
        replace d1 := d1 rfl
        replace d2 := d2 rfl
        replace d3 := d3 rfl
        replace d4 := d4 rfl
        clear hpre m4
        simp only [sP]
        simp only [List.drop_succ_cons, List.drop_zero]
        obtain ⟨e86, R7⟩ := d3
        obtain ⟨g9, e87, hg9, I9⟩ := d4
        subst e86 e87 d0 d2
        have e84 := d1
        subst e84
        have L3 := Lq.one R7 HBw.out
        clear HBw R7 HR0 Lq d1
        go_wp2_with (first
         | (clear ta; at_builtin; refine wpList_appW eInt rfl _ _ rfl w.heap.size x84 V3.length (V3.flatMap intE) rfl L3.mm g9 [.int .i64 v3] rfl I9 rfl (by intro v hv; simp at hv; subst hv; rfl) (by have := HV3.out; omega) L3.bel.size ?_; intro vm2 W10 O10 G10 WH10; have q2 := (L3.grow (B := w.heap.size) L3.mm G10 (by decide)).2.1)
         | (clear tb; refine wpList_store1 rfl 26 _ _ rfl rfl vm2 rfl q2 (by simp) info26 (one_own O10) ?_; intro W11 U11 I11; have L4 := L3.appMm O10 G10 WH10 U11 I11; clear L3 O10 G10 WH10 U11 I11 q2 I9))
        go_roundw
        case rel => exact ⟨q + 1, vm2, by omega, by go_num, (by show LR _ _ _ _ _ _ _ _ _ _ _ _ _ _ _ _ _ _ _ _ _; rw [HX.out]; exact L4)⟩
        case measure => simp [intOf]; omega
     · obtain rfl : q = nl := by omega
       have hqi : ¬ (q : Int) < q := by omega
       obtain ⟨BB, eB⟩ : ∃ x, x = valsR T r0 q := ⟨_, rfl⟩
       have HVM : Hid (valsR T r0 q = BB) := eB.symm
       rw [← eB] at Lq hlq hatq
       clear eB HLq
       obtain ⟨V3, r1⟩ := BB
       simp only at Lq hlq hatq
       go_wp2_with fail
       clear y0 y1 y2
       have HL5 : Hid (LR w T b2 b4 b7 b8 [.slice at0 k ct, .slice ar k cr, .slice al q cl, vi, vj] wr r1 vp vh vg vm (.slice none 0 0) P1 P2 rgV V3 [] rows []) := Lq
       have hB0 : BfR T q r1 0 r1 [] := ⟨rfl, fun _ => ⟨rfl, rfl⟩⟩
       clear Lq
       obtain ⟨WS, hWS⟩ : ∃ W, W = wr := ⟨_, rfl⟩
       subst hWS
       go_loopw [13] (fun i wr => ∃ (j : Nat) (r : RD) (vb : Value) (bfV : List Value) (brows : List (Value × List (Int × Int))), j ≤ k ∧ i = .int .i64 (j : Int) ∧ Hid (r.at' ≤ T.size ∧ BfR T q r1 j r (brows.map (·.2)) ∧ brows.length = j) ∧ Hid (LR w T b2 b4 b7 b8 [.slice at0 k ct, .slice ar k cr, .slice al q cl, vi, vj] wr r vp vh vg vm vb P1 P2 rgV V3 bfV rows brows)) (fun i _ => k - (intOf i).toNat)
       case atStart => exact ⟨0, r1, _, [], [], by omega, rfl, ⟨hatq, hB0, rfl⟩, HL5⟩
       case round =>
        clear HL5 hB0
        obtain ⟨j, r, vb, bfV, brows, hj, rfl, HB, HLr⟩ := hrel
        have Lr := HLr.out
        obtain ⟨y0, y1, y2⟩ := prog3 Lr.c2
        by_cases hjt : j < k
        · have hji : (j : Int) < k := by omega
          have hSm := fun W h => rsm_any T hT r HB.out.1 64 b7 W h
          have HR0 : RrS wr b7 T r := Lr.rd
          have hrg := numR_range (T := T) (lo := 0) (hi := 64) (r := r) (by omega)
          obtain ⟨c, hc⟩ : ∃ c : Nat, (numR T 0 64 r).1 = (c : Int) := ⟨(numR T 0 64 r).1.toNat, by omega⟩
          have hc64 : (c : Int) ≤ 64 := by omega
          have hat2 : (numR T 0 64 r).2.at' ≤ T.size := numR_at HB.out.1
          obtain ⟨r2, er2⟩ : ∃ x, (numR T 0 64 r).2 = x := ⟨_, rfl⟩
          have HC : Hid ((numR T 0 64 r).1 = (c : Int) ∧ (numR T 0 64 r).2 = r2) := ⟨hc, er2⟩
          have HBJ : Hid (brows.length = j) := HB.out.2.2
          have HBL : Hid (bfV.length = j) := by show _ = _; rw [Lr.eb, List.length_map]; exact HB.out.2.2
          rw [er2] at hat2
          simp only [hc, er2] at hSm
          clear hc er2 HLr hrg
          go_wp2_with (first
           | (go_at_call 45; refine (hSm _ HR0).mono ?_; rintro e W1 ⟨rfl, R1, O1⟩; have Lr1 := Lr.one R1 O1; clear Lr R1 O1 HR0 hSm y0 y1 y2))
          have HL6 : Hid (LR w T b2 b4 b7 b8 [.slice at0 k ct, .slice ar k cr, .slice al q cl, vi, vj] W1 (wrsR T q r2 0).2 vp vh vg vm vb P1 P2 rgV V3 bfV rows brows) := Lr1
          clear Lr1
          obtain ⟨WT, hWT⟩ : ∃ W, W = wr := ⟨_, rfl⟩
          subst hWT
          go_loopw [16, 14] (fun i l wr => ∃ (m : Nat), m ≤ c ∧ i = .int .i64 (m : Int) ∧ Hid (wr.ownsRow w.heap.size 50 2 l (wrsR T q r2 m).1.length ((wrsR T q r2 m).1.flatMap wrE)) ∧ Hid (∀ x ∈ brows, Apart x.1 l) ∧ Hid (LR w T b2 b4 b7 b8 [.slice at0 k ct, .slice ar k cr, .slice al q cl, vi, vj] wr (wrsR T q r2 m).2 vp vh vg vm vb P1 P2 rgV V3 bfV rows brows)) (fun i _ _ => c - (intOf i).toNat)
          case atStart => exact ⟨0, by omega, rfl, World.ownsRow_nil _ _ _ _, (fun x hx => (apart_nil _ _ _).symm), HL6⟩
          case round =>
           clear HL6
           obtain ⟨m, hm, rfl, HOl, HAl, HLm⟩ := hrel
           have Lm := HLm.out
           obtain ⟨y0, y1, y2⟩ := prog3 Lm.c2
           have hlm : (wrsR T q r2 m).1.length = m := (wrsR_cut T q r2 m).2.1
           have hatm := wrsR_at (T := T) (nl := q) hat2 m
           have HX0 : wrsR T q r2 (m + 1) = ((wrsR T q r2 m).1 ++ [((numR T 0 ((q : Int) - 1) (wrsR T q r2 m).2).1, (valR T (numR T 0 ((q : Int) - 1) (wrsR T q r2 m).2).2).1)], (valR T (numR T 0 ((q : Int) - 1) (wrsR T q r2 m).2).2).2) := rfl
           have hNX := fun (h : m = c ∨ (wrsR T q r2 m).2.bad = true) => BfR.next HB.out.2.1 HC.out.1 HC.out.2 hm h
           obtain ⟨AA, eA⟩ : ∃ x, x = wrsR T q r2 m := ⟨_, rfl⟩
           rw [← eA] at HX0 HOl HLm Lm hatm hlm
           simp only [← eA] at hNX
           clear eA HLm
           obtain ⟨V4, r3⟩ := AA
           simp only at HX0 HOl Lm hatm hlm hNX
           have HR3 : IsS wr b7 111 [.string T, .int .i64 (r3.at' : Int), .bool r3.bad] := Lm.rd
           have z2 : wr.cell? ⟨b7, 2, none⟩ = some (.bool r3.bad) := HR3.cell 2
           clear HR3
           obtain ⟨al0, cl0, hl0⟩ := own_formX HOl.out
           subst hl0
           by_cases hmt : m < c
           · have hmi : (m : Int) < c := by omega
             cases hbd : r3.bad with
             | false =>
              rw [hbd] at z2
              have hS := fun W h => rsm_any T hT r3 hatm ((q : Int) - 1) b7 W h
              have hat5 : (numR T 0 ((q : Int) - 1) r3).2.at' ≤ T.size := numR_at hatm
              obtain ⟨v5, ev5⟩ : ∃ x, x = (numR T 0 ((q : Int) - 1) r3).1 := ⟨_, rfl⟩
              obtain ⟨r5, er5⟩ : ∃ x, x = (numR T 0 ((q : Int) - 1) r3).2 := ⟨_, rfl⟩
              simp only [← ev5, ← er5] at hS HX0 hat5
              have hK := fun W h => rtk_any T hT r5 hat5 b7 W h
              obtain ⟨v6, ev6⟩ : ∃ x, x = (valR T r5).1 := ⟨_, rfl⟩
              obtain ⟨r6, er6⟩ : ∃ x, x = (valR T r5).2 := ⟨_, rfl⟩
              simp only [← ev6, ← er6] at hK HX0
              have HX : Hid (wrsR T q r2 (m + 1) = (V4 ++ [(v5, v6)], r6)) := HX0
              have HV4 : Hid (V4.length = m) := hlm
              have OL := HOl.out
              clear ev5 er5 ev6 er6 HX0 hlm hatm HOl hNX hbd
              have ta : True := trivial
              have tb : True := trivial
              have tc : True := trivial
              have td : True := trivial
              have te : True := trivial
              go_wp2_with (first
               | (clear ta; go_at_call 45; refine (hS _ Lm.rd).mono ?_; rintro e W1 ⟨rfl, R1, O1⟩; have OL1 := own_one OL Lm.rd (by decide) O1; have Lm1 := Lm.one R1 O1; clear OL Lm R1 O1 y0 y1 y2 z2 hS)
               | (clear tb; go_at_call 46; refine (hK _ Lm1.rd).mono ?_; rintro e W2 ⟨rfl, R2, O2⟩; have OL2 := own_one OL1 Lm1.rd (by decide) O2; have Lm2 := Lm1.one R2 O2; clear OL1 Lm1 R2 O2 hK)
               | (clear tc; refine wpList_valueX rfl (build_wr rfl rfl rfl) ?_)
               | (clear td; refine wpList_build2E eWr2 rfl _ rfl (.int .i64 v5) (.int .i64 v6) rfl ?_; intro V2 g2 F2 J2; have OL3 := own_belowY OL2 (F_b F2); have Lm3 := Lm2.below (F_b F2); clear F2 OL2 Lm2)
               | (clear te; at_builtin; refine wpList_appW eWr2 rfl _ _ rfl w.heap.size (.slice al0 V4.length cl0) V4.length (V4.flatMap wrE) rfl OL3 g2 [.int .i64 v5, .int .i64 v6] rfl J2 rfl (by intro v hv; simp at hv; rcases hv with rfl | rfl <;> rfl) (by have := HV4.out; omega) Lm3.bel.size ?_; intro l3 V6 OL4 G4 WH4; have Lm4 := Lm3.lock OL3 G4 HAl.out; have HA4 : Hid (∀ x ∈ brows, Apart x.1 l3) := (fun x hx => WH4.apart (Lm3.bb x hx) (HAl.out x hx)); clear Lm3 G4 WH4 OL3 HAl))
              go_roundw
              case rel => exact ⟨m + 1, by omega, by go_num, (by show World.ownsRow _ _ _ _ _ _ _; rw [HX.out, List.length_append, List.flatMap_append]; exact OL4), HA4, (by show LR _ _ _ _ _ _ _ _ _ _ _ _ _ _ _ _ _ _ _ _ _; rw [HX.out]; exact Lm4)⟩
              case measure => simp [intOf]; omega
             | true =>
              have HNX : Hid (BfR T q r1 (j + 1) r3 (brows.map (·.2) ++ [V4]) ∧ r3.at' ≤ T.size) := ⟨hNX (.inr hbd), hatm⟩
              rw [hbd] at z2
              clear hNX HX0 hbd hatm hlm
              obtain ⟨x0, x1, x2, x3, x4, x5⟩ := st6 Lm.s8
              have OL := HOl.out
              have te : True := trivial
              have tf : True := trivial
              have tg : True := trivial
              go_wp2_with (first
               | (clear te; refine wpList_build1E eWrs rfl _ rfl (.slice al0 V4.length cl0) rfl rfl ?_; intro V2 g2 F2 J2; have OL2 := own_belowY OL (F_b F2); have Lm2 := Lm.below (F_b F2); clear F2 OL Lm x0 x1 x2 x3 x4 x5)
               | (clear tf; at_builtin; refine wpList_appW eWrs rfl _ _ rfl w.heap.size vb bfV.length bfV rfl Lm2.bf g2 [.slice al0 V4.length cl0] rfl J2 rfl (by intro v hv; simp at hv; subst hv; rfl) (by have := HBL.out; omega) Lm2.bel.size ?_; intro vb2 V3b O3 G3 WH3; have q2 := (Lm2.grow (B := w.heap.size) Lm2.bf G3 (by decide)).2.1)
               | (clear tg; refine wpList_store1 rfl 30 _ _ rfl rfl vb2 rfl q2 (by simp) infoSSW (one_own O3) ?_; intro V5 U4 I4; have L5 := Lm2.appBf (l := V4) O3 G3 OL2 U4 I4; clear Lm2 O3 G3 WH3 OL2 U4 I4 q2))
              go_roundw
              case rel =>
               refine ⟨j + 1, r3, vb2, bfV ++ [Value.slice al0 V4.length cl0], brows ++ [(Value.slice al0 V4.length cl0, V4)], by omega, by go_num, ?_, ?_⟩
               · exact ⟨HNX.out.2, (by rw [List.map_append]; exact HNX.out.1), (by rw [List.length_append, HBJ.out]; rfl)⟩
               · show LR _ _ _ _ _ _ _ _ _ _ _ _ _ _ _ _ _ _ _ _ _
                 exact L5
              case measure => simp [intOf]; omega
           · obtain rfl : m = c := by omega
             have hmi : ¬ (m : Int) < m := by omega
             have HNX : Hid (BfR T q r1 (j + 1) r3 (brows.map (·.2) ++ [V4]) ∧ r3.at' ≤ T.size) := ⟨hNX (.inl rfl), hatm⟩
             clear hNX HX0 hatm hlm z2
             obtain ⟨x0, x1, x2, x3, x4, x5⟩ := st6 Lm.s8
             have OL := HOl.out
             have te : True := trivial
             have tf : True := trivial
             have tg : True := trivial
             go_wp2_with (first
              | (clear te; refine wpList_build1E eWrs rfl _ rfl (.slice al0 V4.length cl0) rfl rfl ?_; intro V2 g2 F2 J2; have OL2 := own_belowY OL (F_b F2); have Lm2 := Lm.below (F_b F2); clear F2 OL Lm x0 x1 x2 x3 x4 x5)
              | (clear tf; at_builtin; refine wpList_appW eWrs rfl _ _ rfl w.heap.size vb bfV.length bfV rfl Lm2.bf g2 [.slice al0 V4.length cl0] rfl J2 rfl (by intro v hv; simp at hv; subst hv; rfl) (by have := HBL.out; omega) Lm2.bel.size ?_; intro vb2 V3b O3 G3 WH3; have q2 := (Lm2.grow (B := w.heap.size) Lm2.bf G3 (by decide)).2.1)
              | (clear tg; refine wpList_store1 rfl 30 _ _ rfl rfl vb2 rfl q2 (by simp) infoSSW (one_own O3) ?_; intro V5 U4 I4; have L5 := Lm2.appBf (l := V4) O3 G3 OL2 U4 I4; clear Lm2 O3 G3 WH3 OL2 U4 I4 q2))
             go_roundw
             case rel =>
              refine ⟨j + 1, r3, vb2, bfV ++ [Value.slice al0 V4.length cl0], brows ++ [(Value.slice al0 V4.length cl0, V4)], by omega, by go_num, ?_, ?_⟩
              · exact ⟨HNX.out.2, (by rw [List.map_append]; exact HNX.out.1), (by rw [List.length_append, HBJ.out]; rfl)⟩
              · show LR _ _ _ _ _ _ _ _ _ _ _ _ _ _ _ _ _ _ _ _ _
                exact L5
             case measure => simp [intOf]; omega
        · obtain rfl : j = k := by omega
          have hji : ¬ (j : Int) < j := by omega
          have hKt := fun W h => rtk_any T hT r HB.out.1 b7 W h
          have hz1 : ∀ v ∈ zst, v.oneCell' = true := by
           intro v hv
           simp only [zst, List.mem_cons, List.not_mem_nil, or_false] at hv
           rcases hv with rfl | rfl | rfl | rfl | rfl | rfl <;> rfl
          have hend := readS_end (T := T) (z := z) (n := j) (nl := q) (by rw [HZ.out.2.2.2.1]; unfold shpOf; simp [HZ.out.1]) (by rw [HZ.out.2.2.2.1]; exact HZ.out.2.2.1) HAA.out HVM.out HB.out.2.1
          obtain ⟨v7, ev7⟩ : ∃ x, x = (valR T r).1 := ⟨_, rfl⟩
          obtain ⟨r7, er7⟩ : ∃ x, x = (valR T r).2 := ⟨_, rfl⟩
          have hat7 : r7.at' ≤ T.size := by rw [er7]; exact valR_at HB.out.1
          simp only [← ev7, ← er7] at hKt hend
          have HONE : Hid (∀ v ∈ [vp, vh, vg, vm, vb, Value.int .i64 v7], v.oneCell' = true) := lr_one Lr v7
          have HQ : Hid ((¬ (r7.bad = false ∧ r7.at' = T.size ∧ -1 ≤ v7 ∧ v7 ≤ (j : Int) - 1) → ∀ e w', (e = .returned (.tuple #[.agg zst.toArray, .int .i64 5]) ∧ Below w.heap.size w w') → RdB w z T e w') ∧ ((r7.bad = false ∧ r7.at' = T.size ∧ -1 ≤ v7 ∧ v7 ≤ (j : Int) - 1) → ∀ e w', (e = .returned (.tuple #[.agg #[vp, vh, vg, vm, vb, .int .i64 v7], .int .i64 0]) ∧ STF w' w.heap.size ⟨P1, P2, rows.map (·.2), V3, brows.map (·.2), v7⟩ vp vh vg vm vb ∧ Below w.heap.size w w') → RdB w z T e w')) := by
           refine ⟨fun hno e w' h => ?_, fun hyes e w' h => ?_⟩
           · rw [if_neg hno] at hend
             exact ⟨fun _ => h, fun s hs => (by rw [hend] at hs; cases hs)⟩
           · rw [if_pos hyes] at hend
             refine ⟨fun hs => (by rw [hend] at hs; cases hs), fun s hs => ?_⟩
             rw [hend] at hs
             cases hs
             obtain ⟨h1, h2, h3⟩ := h
             rw [HRW.out] at h2
             exact ⟨vp, vh, vg, vm, vb, h1, h2, h3⟩
          clear hend ev7 er7 HLr HB
          have ta : True := trivial
          cases hb7b : r7.bad with
          | true =>
           have HF : ¬ (r7.bad = false ∧ r7.at' = T.size ∧ -1 ≤ v7 ∧ v7 ≤ (j : Int) - 1) := fun h => by rw [hb7b] at h; cases h.1
           go_wp2_with (first
            | (go_at_call 46; refine (hKt _ Lr.rd).mono ?_; rintro e W1 ⟨rfl, R1, O1⟩; have L1 := Lr.one R1 O1; have R1x : IsS W1 b7 111 [.string T, .int .i64 (r7.at' : Int), .bool r7.bad] := R1; have z1 := R1x.cell 1; have z2 := R1x.cell 2; simp only [List.getElem?_cons_succ, List.getElem?_cons_zero] at z1 z2; rw [hb7b] at z2; clear y0 y1 y2; obtain ⟨y0, y1, y2⟩ := prog3 L1.c2; clear Lr R1 R1x O1 hKt)
            | (clear ta; refine wpList_valueX rfl (build0_st rfl) ?_)
            | (refine wpList_storeW rfl 32 _ _ rfl rfl zst rfl L1.z4 rfl infoSt hz1 ?_; intro W7 U7 Z7; have B7 := U7.trans L1.bel L1.low.1))
           exact ret_ST rfl rfl rfl Z7 _ Try.underlying32 rfl infoSt _ rfl (HQ.out.1 HF _ _ ⟨rfl, B7⟩)
          | false =>
           by_cases hats : r7.at' = T.size
           · have hsz : (T.size : Int) ≤ 1099511627776 := by omega
             by_cases hlo : v7 < -1
             · have HF : ¬ (r7.bad = false ∧ r7.at' = T.size ∧ -1 ≤ v7 ∧ v7 ≤ (j : Int) - 1) := fun h => by omega
               go_wp2_with (first
                | (go_at_call 46; refine (hKt _ Lr.rd).mono ?_; rintro e W1 ⟨rfl, R1, O1⟩; have L1 := Lr.one R1 O1; have R1x : IsS W1 b7 111 [.string T, .int .i64 (r7.at' : Int), .bool r7.bad] := R1; have z1 := R1x.cell 1; have z2 := R1x.cell 2; simp only [List.getElem?_cons_succ, List.getElem?_cons_zero] at z1 z2; rw [hb7b] at z2; rw [hats] at z1; clear y0 y1 y2; obtain ⟨y0, y1, y2⟩ := prog3 L1.c2; clear Lr R1 R1x O1 hKt)
                | (clear ta; refine wpList_valueX rfl (build0_st rfl) ?_)
                | (refine wpList_storeW rfl 32 _ _ rfl rfl zst rfl L1.z4 rfl infoSt hz1 ?_; intro W7 U7 Z7; have B7 := U7.trans L1.bel L1.low.1))
               exact ret_ST rfl rfl rfl Z7 _ Try.underlying32 rfl infoSt _ rfl (HQ.out.1 HF _ _ ⟨rfl, B7⟩)
             · by_cases hhi : (j : Int) ≤ v7
               · have HF : ¬ (r7.bad = false ∧ r7.at' = T.size ∧ -1 ≤ v7 ∧ v7 ≤ (j : Int) - 1) := fun h => by omega
                 go_wp2_with (first
                  | (go_at_call 46; refine (hKt _ Lr.rd).mono ?_; rintro e W1 ⟨rfl, R1, O1⟩; have L1 := Lr.one R1 O1; have R1x : IsS W1 b7 111 [.string T, .int .i64 (r7.at' : Int), .bool r7.bad] := R1; have z1 := R1x.cell 1; have z2 := R1x.cell 2; simp only [List.getElem?_cons_succ, List.getElem?_cons_zero] at z1 z2; rw [hb7b] at z2; rw [hats] at z1; clear y0 y1 y2; obtain ⟨y0, y1, y2⟩ := prog3 L1.c2; clear Lr R1 R1x O1 hKt)
                  | (clear ta; refine wpList_valueX rfl (build0_st rfl) ?_)
                  | (refine wpList_storeW rfl 32 _ _ rfl rfl zst rfl L1.z4 rfl infoSt hz1 ?_; intro W7 U7 Z7; have B7 := U7.trans L1.bel L1.low.1))
                 exact ret_ST rfl rfl rfl Z7 _ Try.underlying32 rfl infoSt _ rfl (HQ.out.1 HF _ _ ⟨rfl, B7⟩)
               · have HG : r7.bad = false ∧ r7.at' = T.size ∧ -1 ≤ v7 ∧ v7 ≤ (j : Int) - 1 := ⟨hb7b, hats, by omega, by omega⟩
                 have tb : True := trivial
                 have tc : True := trivial
                 go_wp2_with (first
                  | (go_at_call 46; refine (hKt _ Lr.rd).mono ?_; rintro e W1 ⟨rfl, R1, O1⟩; have L1 := Lr.one R1 O1; have R1x : IsS W1 b7 111 [.string T, .int .i64 (r7.at' : Int), .bool r7.bad] := R1; have z1 := R1x.cell 1; have z2 := R1x.cell 2; simp only [List.getElem?_cons_succ, List.getElem?_cons_zero] at z1 z2; rw [hb7b] at z2; rw [hats] at z1; clear y0 y1 y2; obtain ⟨y0, y1, y2⟩ := prog3 L1.c2; clear Lr R1 R1x O1 hKt)
                  | (clear tb; refine wpList_store1 rfl 3 _ _ rfl rfl (.int .i64 v7) rfl L1.s8 (by simp) info3 rfl ?_; intro W6 U6 I6x; have I6 : IsS W6 b8 32 [vp, vh, vg, vm, vb, .int .i64 v7] := I6x; have Z6 := L1.z4.upd U6 L1.d8; have B6 := U6.trans L1.bel L1.low.2.2; clear I6x)
                  | (clear tc; refine wpList_loadW rfl 32 _ rfl rfl I6 _ Try.underlying32 rfl infoSt ?_)
                  | (refine wpList_storeW rfl 32 _ _ rfl rfl [vp, vh, vg, vm, vb, .int .i64 v7] rfl Z6 rfl infoSt HONE.out ?_; intro W7 U7 Z7; have S7 := L1.stv2 (lk := v7) L1.s8 U6 Z6 U7; have B7 := U7.trans B6 L1.low.1))
                 exact ret_ST rfl rfl rfl Z7 _ Try.underlying32 rfl infoSt _ rfl (HQ.out.2 HG _ _ ⟨rfl, S7, B7⟩)
           · have HF : ¬ (r7.bad = false ∧ r7.at' = T.size ∧ -1 ≤ v7 ∧ v7 ≤ (j : Int) - 1) := fun h => hats h.2.1
             have hats' : ¬ (r7.at' : Int) = (T.size : Int) := by omega
             go_wp2_with (first
              | (go_at_call 46; refine (hKt _ Lr.rd).mono ?_; rintro e W1 ⟨rfl, R1, O1⟩; have L1 := Lr.one R1 O1; have R1x : IsS W1 b7 111 [.string T, .int .i64 (r7.at' : Int), .bool r7.bad] := R1; have z1 := R1x.cell 1; have z2 := R1x.cell 2; simp only [List.getElem?_cons_succ, List.getElem?_cons_zero] at z1 z2; rw [hb7b] at z2; clear y0 y1 y2; obtain ⟨y0, y1, y2⟩ := prog3 L1.c2; clear Lr R1 R1x O1 hKt)
              | (clear ta; refine wpList_valueX rfl (build0_st rfl) ?_)
              | (refine wpList_storeW rfl 32 _ _ rfl rfl zst rfl L1.z4 rfl infoSt hz1 ?_; intro W7 U7 Z7; have B7 := U7.trans L1.bel L1.low.1))
             exact ret_ST rfl rfl rfl Z7 _ Try.underlying32 rfl infoSt _ rfl (HQ.out.1 HF _ _ ⟨rfl, B7⟩)
end Go.Proofs.Ytegpnicajlndlaa
