/- SU1, PL1, RA4, PL3, PL4, PL5, PL6, PL7, PL8 -/
import Derived.Test.YtegpnicajlndlaaQbj
import Derived.Test.YtegpnicajlndlaaQbf
import Derived.Test.YtegpnicajlndlaaRCG
import Derived.Test.YtegpnicajlndlaaRF2
import Derived.Test.YtegpnicajlndlaaQau
import Derived.Deep.AppendLies
namespace Go.Proofs.Ytegpnicajlndlaa
open Go.RowKit M
set_option linter.unusedSimpArgs false
set_option linter.unusedVariables false
def ST0 : ST := ⟨[], [], [], [], [], 0⟩
noncomputable def rdSt (p : PG) (T : ByteArray) : ST := if validV p = 0 then (readS T (shpOf p)).getD ST0 else ST0
noncomputable def rdN (p : PG) (T : ByteArray) : Int := if validV p = 0 then (match readS T (shpOf p) with | none => 5 | some _ => 0) else validV p
noncomputable def stSt (p : PG) : ST := if validV p = 0 then ⟨List.replicate p.threads.length 0, List.replicate p.threads.length 0, p.regInit, p.locInit, List.replicate p.threads.length [], -1⟩ else ST0
structure SOwn (W : World) (B : Nat) (s : ST) (v1 v2 v3 v4 v5 : Value) (vs bs : List Value) : Prop where
 pc : W.ownsRow B 3 1 v1 s.pc.length (s.pc.flatMap intE)
 ph : W.ownsRow B 3 1 v2 s.ph.length (s.ph.flatMap intE)
 rg : OwnA W B v3 vs s.regs
 mm : W.ownsRow B 2 1 v4 s.mem.length (s.mem.flatMap intE)
 am : ∀ (j : Nat) u k, vs[j]? = some u → u.ownBlock = some k → v4.ownBlock ≠ some k
 bf : W.ownsRow B 48 1 v5 bs.length bs
 bl : bs.length = s.buf.length
 be : ∀ (j : Nat) u l, bs[j]? = some u → s.buf[j]? = some l → W.ownsRow B 50 2 u l.length (l.flatMap wrE)
 ba : ∀ (i j : Nat) u u' k, i ≠ j → bs[i]? = some u → bs[j]? = some u' → u.ownBlock = some k → u'.ownBlock ≠ some k
theorem SOwn.same {W W' : World} {B : Nat} {s : ST} {v1 v2 v3 v4 v5 : Value} {vs bs : List Value} (h : SOwn W B s v1 v2 v3 v4 v5 vs bs) (hs : ∀ k, B ≤ k → k < W.heap.size → W'.heap[k]? = W.heap[k]?) : SOwn W' B s v1 v2 v3 v4 v5 vs bs := by
 have up : ∀ {t z n : Nat} {v : Value} {xs : List Value}, W.ownsRow B t z v n xs → W'.ownsRow B t z v n xs := fun ho => own_same ho fun k hk => hs k (own_lt ho hk).1 (own_lt ho hk).2
 exact ⟨up h.pc, up h.ph, ⟨h.rg.len, up h.rg.out, fun j u xs hu hx => up (h.rg.row j u xs hu hx), h.rg.apart⟩, up h.mm, h.am, up h.bf, h.bl, fun j u l hu hl => up (h.be j u l hu hl), h.ba⟩
theorem SOwn.below {W W' : World} {B : Nat} {s : ST} {v1 v2 v3 v4 v5 : Value} {vs bs : List Value} (h : SOwn W B s v1 v2 v3 v4 v5 vs bs) (hB : Below W.heap.size W W') : SOwn W' B s v1 v2 v3 v4 v5 vs bs := h.same fun k _ hk => hB.block k hk
theorem SOwn.stv {W : World} {B : Nat} {s : ST} {v1 v2 v3 v4 v5 : Value} {vs bs : List Value} (h : SOwn W B s v1 v2 v3 v4 v5 vs bs) : STV W s v1 v2 v3 v4 v5 := ⟨own_row h.pc, own_row h.ph, h.rg.rows, own_row h.mm, own_rowsW h.bl h.bf h.be⟩
theorem SOwn.stf {W : World} {B : Nat} {s : ST} {v1 v2 v3 v4 v5 : Value} {vs bs : List Value} (h : SOwn W B s v1 v2 v3 v4 v5 vs bs) : STF W B s v1 v2 v3 v4 v5 := fun W' hs => (h.same hs).stv
theorem SOwn.zero (W : World) (B : Nat) : SOwn W B ST0 (.slice none 0 0) (.slice none 0 0) (.slice none 0 0) (.slice none 0 0) (.slice none 0 0) [] [] :=
 ⟨own_nil _ _ _ _, own_nil _ _ _ _, ⟨rfl, own_nil _ _ _ _, fun j u xs hu => (by cases hu), fun i j u u' k _ hu => (by cases hu)⟩, own_nil _ _ _ _, fun j u k hu => (by cases hu), own_nil _ _ _ _, rfl, fun j u l hu => (by cases hu), fun i j u u' k _ hu => (by cases hu)⟩
theorem own_slc {W : World} {B g t : Nat} {cs : List Value} (hB : B ≤ g) (I : IsS W g t cs) (hl : cs.length ≤ 1048576) : W.ownsRow B t 1 (slc g cs.length) cs.length cs :=
 own_cls hB I (List.take_length ..) (Nat.le_refl _) (Nat.le_trans hl (by decide)) rfl
theorem own_slc2 {W : World} {B g t n : Nat} {cs : List Value} (hB : B ≤ g) (I : IsS W g t cs) (hl : cs.length = 2 * n) (hn : n ≤ 1048576) : W.ownsRow B t 2 (slc g n) n cs := by
 refine ⟨by omega, .inr ⟨g, n, cs.toArray, rfl, hB, I, Nat.le_refl _, Nat.le_trans hn (by decide), by simp; omega, ?_⟩⟩
 rw [show n * 2 = cs.length by omega]
 simp
theorem nodup_map {α : Type} {l : List (Nat × α)} (h : (l.map (·.1)).Nodup) {i j : Nat} {x y : Nat × α} (hne : i ≠ j) (hx : l[i]? = some x) (hy : l[j]? = some y) : x.1 ≠ y.1 := by
 intro e
 have hi : i < l.length := (List.getElem?_eq_some_iff.1 hx).1
 have h1 : (l.map (·.1))[i]? = some x.1 := by rw [List.getElem?_map, hx]; rfl
 have h2 : (l.map (·.1))[j]? = some x.1 := by rw [List.getElem?_map, hy, e]; rfl
 exact hne ((List.getElem?_inj (by rw [List.length_map]; exact hi) h).1 (h1.trans h2.symm))
theorem SOwn.of_stb {W : World} {B : Nat} {s : ST} {gp gh gr gm gb : Nat} {rows : List (Nat × List Int)} {brows : List (Nat × List (Int × Int))} (hf : s.Few) (h : STB W B s gp gh gr gm gb rows brows) : SOwn W B s (slc gp s.pc.length) (slc gh s.ph.length) (slc gr s.regs.length) (slc gm s.mem.length) (slc gb s.buf.length) (rowsC rows) (rowsC brows) := by
 have hrl : (rowsC rows).length = s.regs.length := by rw [h.er]; simp [rowsC]
 have hbl : (rowsC brows).length = s.buf.length := by rw [h.eb]; simp [rowsC]
 obtain ⟨l1, l2, l3, l4, l5, l6, l7⟩ := h.low
 have hnr := h.nr
 rw [List.nodup_append] at hnr
 have get : ∀ (j : Nat) u, (rowsC rows)[j]? = some u → ∃ x, rows[j]? = some x ∧ u = slc x.1 x.2.length := fun j u hu => by
  unfold rowsC at hu
  rw [List.getElem?_map] at hu
  cases hr : rows[j]? with
  | none => rw [hr] at hu; cases hu
  | some x => rw [hr] at hu; cases hu; exact ⟨x, rfl, rfl⟩
 have getb : ∀ (j : Nat) u, (rowsC brows)[j]? = some u → ∃ x, brows[j]? = some x ∧ u = slc x.1 x.2.length := fun j u hu => by
  unfold rowsC at hu
  rw [List.getElem?_map] at hu
  cases hr : brows[j]? with
  | none => rw [hr] at hu; cases hu
  | some x => rw [hr] at hu; cases hu; exact ⟨x, rfl, rfl⟩
 refine ⟨?_, ?_, ⟨hrl, ?_, fun j u xs hu hx => ?_, fun i j u u' k hne hu hu' hk hk' => ?_⟩, ?_, fun j u k hu hk hk' => ?_, ?_, hbl, fun j u l hu hl => ?_, fun i j u u' k hne hu hu' hk hk' => ?_⟩
 · have := own_slc l1 h.pc (by rw [List.length_map]; exact hf.pc)
   rw [List.length_map] at this
   rw [int_map]; exact this
 · have := own_slc l2 h.ph (by rw [List.length_map]; exact hf.ph)
   rw [List.length_map] at this
   rw [int_map]; exact this
 · have := own_slc l3 h.rg (by rw [hrl]; exact hf.rg)
   rw [hrl] at this
   exact this
 · obtain ⟨x, hr, rfl⟩ := get j u hu
   have hxs : xs = x.2 := by rw [h.er, List.getElem?_map, hr] at hx; cases hx; rfl
   subst hxs
   have hm := List.mem_of_getElem? hr
   have := own_slc (l6 x hm) (h.rr x hm) (by rw [List.length_map]; exact flat_row hf.rr hx)
   rw [List.length_map] at this
   rw [int_map]; exact this
 · obtain ⟨x, hr, rfl⟩ := get i u hu
   obtain ⟨y, hr', rfl⟩ := get j u' hu'
   cases hk
   have e : y.1 = x.1 := oI hk'
   exact nodup_map hnr.1 hne hr hr' e.symm
 · have := own_slc l4 h.mm (by rw [List.length_map]; exact hf.mm)
   rw [List.length_map] at this
   rw [int_map]; exact this
 · obtain ⟨x, hr, rfl⟩ := get j u hu
   cases hk
   have e : gm = x.1 := oI hk'
   exact hnr.2.2 x.1 (List.mem_map.2 ⟨x, List.mem_of_getElem? hr, rfl⟩) gm (by simp) e.symm
 · have := own_slc l5 h.bf (by rw [hbl]; exact hf.bf)
   rw [hbl] at this ⊢
   exact this
 · obtain ⟨x, hr, rfl⟩ := getb j u hu
   have hxs : l = x.2 := by rw [h.eb, List.getElem?_map, hr] at hl; cases hl; rfl
   subst hxs
   have hm := List.mem_of_getElem? hr
   exact own_slc2 (l7 x hm) (h.bb x hm) (wrE_len _) (flat_row hf.bb hl)
 · obtain ⟨x, hr, rfl⟩ := getb i u hu
   obtain ⟨y, hr', rfl⟩ := getb j u' hu'
   cases hk
   have e : y.1 = x.1 := oI hk'
   exact nodup_map h.nb hne hr hr' e.symm
theorem rread2_any (p : PG) (hf : p.Few) (T : ByteArray) (hT : T.size ≤ 1099511627776) (vt vr vl vi vj : Value) (w : World) (hp : PGV w vt vr vl vi vj p) :
    Calls Try.prog 14 #[.agg #[vt, vr, vl, vi, vj], .string T] w fun e w' => ∃ v1 v2 v3 v4 v5, e = .returned (.tuple #[.agg #[v1, v2, v3, v4, v5, .int .i64 (rdSt p T).lock], .int .i64 (rdN p T)]) ∧ STF w' w.heap.size (rdSt p T) v1 v2 v3 v4 v5 ∧ Below w.heap.size w w' := by
 refine (rread_any p hf T hT vt vr vl vi vj w hp).mono fun e w' h => ?_
 by_cases hv0 : validV p = 0
 · cases hrd : readS T (shpOf p) with
   | none =>
    obtain ⟨rfl, B⟩ := (h.2 hv0).1 hrd
    have e1 : rdSt p T = ST0 := by unfold rdSt; rw [if_pos hv0, hrd]; rfl
    have e2 : rdN p T = 5 := by unfold rdN; rw [if_pos hv0, hrd]
    rw [e1, e2]
    exact ⟨_, _, _, _, _, rfl, (SOwn.zero w' w.heap.size).stf, B⟩
   | some u =>
    obtain ⟨v1, v2, v3, v4, v5, rfl, S, B⟩ := (h.2 hv0).2 u hrd
    have e1 : rdSt p T = u := by unfold rdSt; rw [if_pos hv0, hrd]; rfl
    have e2 : rdN p T = 0 := by unfold rdN; rw [if_pos hv0, hrd]
    rw [e1, e2]
    exact ⟨_, _, _, _, _, rfl, S, B⟩
 · obtain ⟨rfl, B⟩ := h.1 hv0
   have e1 : rdSt p T = ST0 := by unfold rdSt; rw [if_neg hv0]
   have e2 : rdN p T = validV p := by unfold rdN; rw [if_neg hv0]
   rw [e1, e2]
   exact ⟨_, _, _, _, _, rfl, (SOwn.zero w' w.heap.size).stf, B⟩
theorem st_of_rows {w : World} {s : ST} {v1 v2 v3 v4 v5 : Value} {n : Nat} {pc : List Int} {regs : List (List Int)} {mem : List Int} (h : RS w v1 v2 v3 v4 v5 n pc regs mem) (hs : s = ⟨pc, List.replicate n 0, regs, mem, List.replicate n [], -1⟩) (hn : pc.length = n) : STV w s v1 v2 v3 v4 v5 := by
 subst hs
 exact ⟨by show RowV w v1 pc.length _; rw [hn]; exact h.pc, by show RowV w v2 (List.replicate n (0 : Int)).length _; rw [List.length_replicate]; exact h.ph, h.rg, h.mm, h.bf⟩
theorem stv_one {W : World} {s : ST} {v1 v2 v3 v4 v5 : Value} (z : Int) (h : STV W s v1 v2 v3 v4 v5) : ∀ v ∈ [v1, v2, v3, v4, v5, .int .i64 z], v.oneCell' = true :=
 stc_oneX (rowV_oneX h.pc) (rowV_oneX h.ph) (by obtain ⟨a, c, e⟩ := h.rg.form; rw [e]; rfl) (rowV_oneX h.mm) (by obtain ⟨a, c, e⟩ := h.bf.form; rw [e]; rfl)
def idleB (s : ST) (i : Nat) : Bool := decide (s.ph.getD i 0 = 0) && (s.buf.getD i []).isEmpty
def plainB (s : ST) : Bool := (List.range s.pc.length).all (idleB s) && decide (s.lock = -1)
theorem plain_end {s : ST} (h : ∀ i, i < s.pc.length → idleB s i = true) : plainB s = decide (s.lock = -1) := by
 unfold plainB
 have : (List.range s.pc.length).all (idleB s) = true := by
  rw [List.all_eq_true]
  exact fun i hi => h i (List.mem_range.1 hi)
 rw [this]; rfl
def LeI (ths : List (List Op5)) (pc : List Int) : Prop := ∀ (i : Nat) x th, pc[i]? = some x → ths[i]? = some th → x ≤ (th.length : Int)
theorem ePk : Elt 68 52 3 (.agg #[.int .i64 0, .int .i64 0, .int .i64 0]) 24 := ⟨Try.underlying52, info_parts (by kernel_rfl), rfl, by decide, by decide⟩
section
variable {w : World} {ops : Array Oper} {rest : List Oper} {op : Oper} {a : Act} {Q : Exit → Act → World → Prop}
end
def pkL (k : Int × Int × Int) : List Value := [.int .i64 k.1, .int .i64 k.2.1, .int .i64 k.2.2]
set_option maxRecDepth 100000 in
set_option maxHeartbeats 2000000 in
theorem clonePk_any (cs : List Value) (n c : Nat) (a : Option Addr) (hl : cs.length = n * 3) (h1 : ∀ x ∈ cs, x.oneCell' = true) (hn : n ≤ 1048576) (w : World) (hS : Seg w a cs) (hz : a = none → c = 0) :
    Calls Try.prog 66 #[.slice a n c] w fun e w' => ∃ v, e = .returned v ∧ w'.ownsRow w.heap.size 68 3 v n cs ∧ Below w.heap.size w w' := by
 have HL : Hid (cs.length = n * 3) := hl
 have H1 : Hid (∀ x ∈ cs, x.oneCell' = true) := h1
 cases a with
 | none =>
  have h0 := seg_none hS
  subst h0
  have e1 : n = 0 := by simp at hl; omega
  subst e1
  have e2 := hz rfl
  subst e2
  clear hS hz hl h1
  have hq : ∀ w, (binOp .eql 52 (.slice none 0 0) (.slice none 0 0)).run Try.prog w = .ok (.bool true) w := fun w => Lib.run_eql_slice_nil w _ _ none 0 0 0 0 Try.underlying52
  go_enter Try.func66, Try.ntmps66
  go_wp2
  go_ret
  exact ⟨_, rfl, own_nil _ _ _ _, Below.refl _ _⟩
 | some ad =>
  have HRV : Hid (RowV w (.slice (some ad) n c) n cs) := ⟨some ad, c, rfl, hS, hz⟩
  clear hS hz hl h1
  have t1 : True := trivial
  have t2 : True := trivial
  have hq : ∀ w, (binOp .eql 52 (.slice (some ad) n c) (.slice none 0 0)).run Try.prog w = .ok (.bool false) w := fun w => Lib.run_eql_slice_nil w _ _ (some ad) n c 0 0 Try.underlying52
  go_enter Try.func66, Try.ntmps66
  go_wp2_with (first
   | (clear t1; refine wpList_build0E ePk rfl rfl ?_; intro W1 b1 F1 O1; have B1 := F1.trans (Below.refl _ w) (Nat.le_refl _); clear F1)
   | (clear t2; at_builtin; refine wpList_appM ePk rfl _ _ rfl w.heap.size _ 0 [] rfl O1 _ n cs rfl (HRV.out.below B1) HL.out H1.out (by omega) B1.size ?_; intro v2 W2 O2 G2; have B2 := grown_below B1 B1.size O1 G2; rw [Nat.zero_add, List.nil_append] at O2))
  go_ret
  exact ⟨_, rfl, O2, B2⟩
structure PWid (p : PG) : Prop where
 im : ∀ l ∈ p.threads, ∀ o ∈ l, I64 o.imm
 ri : ∀ l ∈ p.regInit, ∀ v ∈ l, I64 v
 li : ∀ v ∈ p.locInit, I64 v
theorem i64_0 : I64 0 := ⟨by decide, by decide⟩
theorem i64_m1 : I64 (-1) := ⟨by decide, by decide⟩
theorem getD_map_len {α : Type} (l : List (List α)) (i : Nat) : (l.map List.length).getD i 0 = (l.getD i []).length := by
 rw [List.getD_eq_getElem?_getD, List.getD_eq_getElem?_getD, List.getElem?_map]
 cases l[i]? <;> rfl
theorem inv_fits {p : PG} {s : ST} (hv : Vld p) (h : Fits (shpOf p) s) : Inv p s.pc s.regs s.mem ∧ LeI p.threads s.pc := by
 have hl := shp_len hv
 have e1 : (shpOf p).ins.length = p.threads.length := hl.1
 refine ⟨⟨by rw [h.pc, e1], fun i x hx => ?_, by rw [h.rg, e1], fun i r q hr hq => ?_, h.mm⟩, fun i x th hx hth => ?_⟩
 · have hi : i < (shpOf p).ins.length := by rw [← h.pc]; exact (List.getElem?_eq_some_iff.1 hx).1
   have := (h.th i hi).2.1.1
   rw [List.getD_eq_getElem?_getD, hx] at this
   exact this
 · have hi : i < (shpOf p).ins.length := by rw [← h.rg]; exact (List.getElem?_eq_some_iff.1 hq).1
   have := (h.th i hi).1
   rw [List.getD_eq_getElem?_getD, hq] at this
   have e2 : (shpOf p).rgs.getD i 0 = (p.regs.getD i []).length := getD_map_len p.regs i
   rw [e2, List.getD_eq_getElem?_getD, hr] at this
   exact this
 · have hi : i < (shpOf p).ins.length := by rw [← h.pc]; exact (List.getElem?_eq_some_iff.1 hx).1
   have := (h.th i hi).2.1.2
   rw [List.getD_eq_getElem?_getD, hx] at this
   have e2 : (shpOf p).ins.getD i 0 = (p.threads.getD i []).length := getD_map_len p.threads i
   rw [e2, List.getD_eq_getElem?_getD, hth] at this
   exact this
theorem fits_start {p : PG} (hv : Vld p) (hp : PWid p) : Fits (shpOf p) ⟨List.replicate p.threads.length 0, List.replicate p.threads.length 0, p.regInit, p.locInit, List.replicate p.threads.length [], -1⟩ ∧ Wid ⟨List.replicate p.threads.length 0, List.replicate p.threads.length 0, p.regInit, p.locInit, List.replicate p.threads.length [], -1⟩ ∧ plainB ⟨List.replicate p.threads.length 0, List.replicate p.threads.length 0, p.regInit, p.locInit, List.replicate p.threads.length [], -1⟩ = true := by
 have e1 : (shpOf p).ins.length = p.threads.length := (shp_len hv).1
 have g0 : ∀ i, (List.replicate p.threads.length (0 : Int)).getD i 0 = 0 := fun i => by
  rw [List.getD_eq_getElem?_getD, List.getElem?_replicate]; split <;> rfl
 have g1 : ∀ i, (List.replicate p.threads.length ([] : List (Int × Int))).getD i [] = [] := fun i => by
  rw [List.getD_eq_getElem?_getD, List.getElem?_replicate]; split <;> rfl
 refine ⟨⟨by rw [e1]; simp, by rw [e1]; simp, by rw [e1]; exact hv.il, by rw [e1]; simp, hv.ll, fun i hi => ⟨?_, ?_, ?_, ?_⟩, ?_⟩, ⟨fun v h => ?_, fun v h => ?_, hp.ri, hp.li, fun l h => ?_, i64_m1⟩, ?_⟩
 · have e2 : (shpOf p).rgs.getD i 0 = (p.regs.getD i []).length := getD_map_len p.regs i
   have i1 : i < p.regInit.length := by rw [hv.il, ← e1]; exact hi
   have i2 : i < p.regs.length := by rw [hv.rl, ← e1]; exact hi
   rw [e2]
   show (p.regInit.getD i []).length = _
   rw [List.getD_eq_getElem?_getD, List.getElem?_eq_getElem i1, List.getD_eq_getElem?_getD, List.getElem?_eq_getElem i2]
   exact hv.rows i _ _ (List.getElem?_eq_getElem i2) (List.getElem?_eq_getElem i1)
 · show 0 ≤ (List.replicate p.threads.length (0 : Int)).getD i 0 ∧ _
   rw [g0]; exact ⟨by omega, Int.natCast_nonneg _⟩
 · show 0 ≤ (List.replicate p.threads.length (0 : Int)).getD i 0 ∧ _
   rw [g0]; exact ⟨by omega, by omega⟩
 · show bufOk _ ((List.replicate p.threads.length ([] : List (Int × Int))).getD i [])
   rw [g1]; exact ⟨by simp, by simp⟩
 · show (-1 : Int) ≤ -1 ∧ (-1 : Int) ≤ _
   have := hv.n0
   exact ⟨by omega, by omega⟩
 · have := List.eq_of_mem_replicate h; subst this; exact i64_0
 · have := List.eq_of_mem_replicate h; subst this; exact i64_0
 · have := List.eq_of_mem_replicate h; subst this; exact ⟨by simp, by simp⟩
 · rw [plain_end fun i hi => by unfold idleB; rw [g0, g1]; rfl]; rfl
theorem infoPk3 : (Try.prog.info? 68).map (·.size) = some 3 := by kernel_rfl
theorem SOwn.updS {W W' : World} {B b : Nat} {cs : List Value} {s : ST} {v1 v2 v3 v4 v5 : Value} {vs bs : List Value} (h : SOwn W B s v1 v2 v3 v4 v5 vs bs) (I : IsS W b 32 cs) (U : Upd W W' b) : SOwn W' B s v1 v2 v3 v4 v5 vs bs :=
 ⟨own_upd h.pc I U (by decide), own_upd h.ph I U (by decide), ⟨h.rg.len, own_upd h.rg.out I U (by decide), fun j u xs hu hx => own_upd (h.rg.row j u xs hu hx) I U (by decide), h.rg.apart⟩, own_upd h.mm I U (by decide), h.am, own_upd h.bf I U (by decide), h.bl, fun j u l hu hl => own_upd (h.be j u l hu hl) I U (by decide), h.ba⟩
structure MZ (W : World) (p : PG) (b : Nat) : Prop where
 ex : ∃ a1 c1 a2 c2, IsS W b 105 [.slice a1 p.threads.length c1, .slice a2 p.threads.length c2, .int .i64 (p.locs.length : Int)] ∧ Seg W a1 ((natI (shpOf p).ins).flatMap intE) ∧ Seg W a2 ((natI (shpOf p).rgs).flatMap intE)
theorem MZ.below {W W' : World} {p : PG} {b : Nat} (h : MZ W p b) (hB : Below W.heap.size W W') : MZ W' p b := by
 obtain ⟨a1, c1, a2, c2, h1, h2, h3⟩ := h.ex
 exact ⟨a1, c1, a2, c2, h1.grown hB, h2.below hB, h3.below hB⟩
def RdM (w : World) (r : Option ST) (e : Ending) (w' : World) : Prop :=
 (r = none → e = .returned (.tuple #[.agg zst.toArray, .bool false]) ∧ Below w.heap.size w w') ∧
 (∀ s, r = some s → ∃ v1 v2 v3 v4 v5 vs bs, e = .returned (.tuple #[.agg #[v1, v2, v3, v4, v5, .int .i64 s.lock], .bool true]) ∧ SOwn w' w.heap.size s v1 v2 v3 v4 v5 vs bs ∧ (∀ k, v2.ownBlock = some k → v1.ownBlock ≠ some k) ∧ Below w.heap.size w w')
theorem stateOf2_any (p : PG) (hv : Vld p) (hf : p.Few) (T : ByteArray) (hT : T.size ≤ 1099511627776) (a1 a2 : Option Addr) (c1 c2 : Nat) (w : World) (h1 : Seg w a1 ((natI (shpOf p).ins).flatMap intE)) (h2 : Seg w a2 ((natI (shpOf p).rgs).flatMap intE)) :
    Calls Try.prog 44 #[.agg #[.slice a1 p.threads.length c1, .slice a2 p.threads.length c2, .int .i64 (p.locs.length : Int)], .string T] w fun e w' => RdM w (readS T (shpOf p)) e w' := by
 have hl := shp_len hv
 have hrg : ∀ x ∈ (shpOf p).rgs, x ≤ 1048576 := fun x hx => by
  unfold shpOf at hx
  obtain ⟨l, hm, rfl⟩ := List.mem_map.1 hx
  exact Nat.le_trans (flat_mem hm) hf.rr
 refine (stateOf_any (shpOf p) T p.threads.length p.locs.length a1 a2 c1 c2 hl.1 hl.2 rfl hf.t hf.l hrg hT w h1 h2).mono fun e w' h => ?_
 unfold StRead at h
 cases hrd : readS T (shpOf p) with
 | none => rw [hrd] at h; exact ⟨fun _ => h, fun s hs => by cases hs⟩
 | some s =>
  rw [hrd] at h
  obtain ⟨gp, gh, gr, gm, gb, rows, brows, h1, h2, h3⟩ := h
  refine ⟨fun hs => (by cases hs), fun s' hs => ?_⟩
  cases hs
  exact ⟨_, _, _, _, _, _, _, h1, SOwn.of_stb (few_fits hv (readS_some hrd).1) h2, fun k hk hk' => (by cases hk; exact h2.d1 (oI hk')), h3⟩
theorem zst_one : ∀ v ∈ zst, v.oneCell' = true := by
 intro v hv
 unfold zst at hv
 simp only [List.mem_cons, List.not_mem_nil, or_false] at hv
 rcases hv with rfl | rfl | rfl | rfl | rfl | rfl <;> rfl
theorem wpList_loadF {ops : Array Oper} {rest : List Oper} {op : Oper} {a : Act} {Q : Exit → Act → World → Prop} {w : World} {b t : Nat} {v : Value} (hgd : op.guard = none) (ty : TypeId) (x : Operand) (ho : op.op = .load ty x) (hx : a.eval x = .pointer (some ⟨b, 0, none⟩)) (I : IsS w b t [v])
    (hl : ∀ w, w.cell? ⟨b, 0, none⟩ = some v → (Instr.loadAt ty (.pointer (some ⟨b, 0, none⟩))).run Try.prog w = .ok v w) (h : wpList Try.prog ops Q rest (a.put op.dst v) w) : wpList Try.prog ops Q (op :: rest) a w := by
 refine wpList_plain hgd fun K hK => ?_
 unfold Oper.wp execOp
 simp only [ho, hx, Sem.run_bind, hl w (I.cell 0), Result.andThen_ok, Sem.run_pure]
 exact hK _ _ h
theorem flat_leN {α : Type} : ∀ (l : List (List α)) (m : Nat), (∀ x ∈ l, x.length ≤ m) → l.flatten.length ≤ l.length * m
 | [], _, _ => by simp
 | x :: l, m, h => by
  have h1 := h x (by simp)
  have h2 := flat_leN l m fun y hy => h y (List.mem_cons_of_mem _ hy)
  rw [List.flatten_cons, List.length_append, List.length_cons, Nat.add_mul]
  omega
theorem vals_48 {p : PG} {s : ST} (hv : Vld p) (h : Fits (shpOf p) s) : (s.regs.flatten ++ s.mem).length ≤ 48 := by
 obtain ⟨hI, _⟩ := inv_fits hv h
 have h1 : s.regs.flatten.length ≤ s.regs.length * 8 := flat_leN _ _ fun x hx => by
  obtain ⟨j, hj⟩ := List.mem_iff_getElem?.1 hx
  have hjl : j < p.regs.length := by rw [hv.rl, ← hI.rl]; exact (List.getElem?_eq_some_iff.1 hj).1
  have := hI.rs j _ x (List.getElem?_eq_getElem hjl) hj
  have := hv.few j _ (List.getElem?_eq_getElem hjl)
  omega
 have h2 := hI.ml
 have h3 := hI.rl
 have h4 := hv.n4
 have h5 := hv.l16
 rw [List.length_append]
 omega
theorem SOwn.updF {W W' : World} {B b : Nat} {cs : List Value} {s : ST} {v1 v2 v3 v4 v5 : Value} {vs bs : List Value} (h : SOwn W B s v1 v2 v3 v4 v5 vs bs) (I : IsS W b 80 cs) (U : Upd W W' b) : SOwn W' B s v1 v2 v3 v4 v5 vs bs :=
 ⟨own_upd h.pc I U (by decide), own_upd h.ph I U (by decide), ⟨h.rg.len, own_upd h.rg.out I U (by decide), fun j u xs hu hx => own_upd (h.rg.row j u xs hu hx) I U (by decide), h.rg.apart⟩, own_upd h.mm I U (by decide), h.am, own_upd h.bf I U (by decide), h.bl, fun j u l hu hl => own_upd (h.be j u l hu hl) I U (by decide), h.ba⟩
theorem finalOf2_any (s : ST) (hf : s.Few) (h48 : (s.regs.flatten ++ s.mem).length ≤ 48) (v1 v2 v3 v4 v5 : Value) (w : World) (hS : STV w s v1 v2 v3 v4 v5) :
    Calls Try.prog 69 #[.agg #[v1, v2, v3, v4, v5, .int .i64 s.lock]] w fun e w' => e = .returned (.agg (finL (s.regs.flatten ++ s.mem)).toArray) ∧ Below w.heap.size w w' := by
 obtain ⟨ar, cr, rfl⟩ := hS.rg.form
 obtain ⟨am, cm, rfl, _, _⟩ := id hS.mm
 exact finalOf_any s.regs s.mem v1 v2 v5 (.int .i64 s.lock) ar am _ cr _ cm _ w rfl rfl hf.rg rfl h48 hS.rg hS.mm
def endV (s : Option ST) : Value := match s with | none => .tuple #[.agg (finL []).toArray, .bool false] | some s => .tuple #[.agg (finL (s.regs.flatten ++ s.mem)).toArray, .bool true]
def stpV (s : Option ST) : Value := match s with | none => .tuple #[.string ⟨#[]⟩, .bool false] | some s => .tuple #[.string ⟨(textS s).toArray⟩, .bool true]
end Go.Proofs.Ytegpnicajlndlaa
