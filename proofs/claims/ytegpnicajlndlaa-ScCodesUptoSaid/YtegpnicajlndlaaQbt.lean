/- Several texts in one: SU1, SU2. -/
import Derived.Test.YtegpnicajlndlaaQbr
import Derived.Test.YtegpnicajlndlaaQbm
import Derived.Test.YtegpnicajlndlaaQbs
import Derived.Deep.AppendLies
/- Read and Start of both, each in one word: the state, whatever the program and the text. -/
namespace Go.Proofs.Ytegpnicajlndlaa
open Go.RowKit M
set_option linter.unusedSimpArgs false
set_option linter.unusedVariables false

/-- The empty state. -/
def ST0 : ST := ⟨[], [], [], [], [], 0⟩
/-- What Read answers: the state, and the error. -/
noncomputable def rdSt (p : PG) (T : ByteArray) : ST := if validV p = 0 then (readS T (shpOf p)).getD ST0 else ST0
noncomputable def rdN (p : PG) (T : ByteArray) : Int := if validV p = 0 then (match readS T (shpOf p) with | none => 5 | some _ => 0) else validV p
/-- The start. -/
noncomputable def stSt (p : PG) : ST := if validV p = 0 then ⟨List.replicate p.threads.length 0, List.replicate p.threads.length 0, p.regInit, p.locInit, List.replicate p.threads.length [], -1⟩ else ST0
theorem few0 : ST0.Few := ⟨by decide, by decide, by decide, by decide, by decide, by decide, by decide⟩
theorem few_rd (p : PG) (T : ByteArray) : (rdSt p T).Few := by
  unfold rdSt
  by_cases hv0 : validV p = 0
  · rw [if_pos hv0]
    cases hrd : readS T (shpOf p) with
    | none => exact few0
    | some u => exact few_fits (vld_of hv0) (readS_some hrd).1
  · rw [if_neg hv0]; exact few0
theorem flat_rep (n : Nat) : (List.replicate n ([] : List (Int × Int))).flatten.length = 0 := by
  induction n with
  | zero => rfl
  | succ n ih => simp [List.replicate_succ, ih]
theorem few_st (p : PG) (hf : p.Few) : (stSt p).Few := by
  unfold stSt
  by_cases hv0 : validV p = 0
  · rw [if_pos hv0]
    exact ⟨by simpa using hf.t, by simpa using hf.t, hf.i, hf.ii, hf.j, by simpa using hf.t, by show (List.replicate p.threads.length ([] : List (Int × Int))).flatten.length ≤ _; rw [flat_rep]; omega⟩
  · rw [if_neg hv0]; exact few0
/-- How many there are of everything, in a state that was read. -/
theorem rd_lens (p : PG) (T : ByteArray) : (rdSt p T).buf.length = (rdSt p T).pc.length ∧ (rdSt p T).regs.length = (rdSt p T).pc.length := by
  unfold rdSt
  by_cases hv0 : validV p = 0
  · rw [if_pos hv0]
    cases hrd : readS T (shpOf p) with
    | none => exact ⟨rfl, rfl⟩
    | some u =>
      have hf := (readS_some hrd).1
      exact ⟨by show u.buf.length = u.pc.length; rw [hf.pc, hf.bf], by show u.regs.length = u.pc.length; rw [hf.pc, hf.rg]⟩
  · rw [if_neg hv0]; exact ⟨rfl, rfl⟩
/-- A state in blocks of its own, from a number on. -/
structure SOwn (W : World) (B : Nat) (s : ST) (v1 v2 v3 v4 v5 : Value) (vs bs : List Value) : Prop where
  pc : W.ownsRow B 3 1 v1 s.pc.length (s.pc.flatMap intE)
  ph : W.ownsRow B 3 1 v2 s.ph.length (s.ph.flatMap intE)
  rg : OwnA W B v3 vs s.regs
  mm : W.ownsRow B 2 1 v4 s.mem.length (s.mem.flatMap intE)
  am : ∀ (j : Nat) u k, vs[j]? = some u → u.ownBlock = some k → v4.ownBlock ≠ some k
  bf : W.ownsRow B 48 1 v5 bs.length bs
  bl : bs.length = s.buf.length
  be : ∀ (j : Nat) u l, bs[j]? = some u → s.buf[j]? = some l → W.ownsRow B 50 2 u l.length (l.flatMap wrE)
  ba : ∀ (i j : Nat) u u' k, i ≠ j → bs[i]? = some u → bs[j]? = some u' → u.ownBlock = some k → u'.ownBlock ≠ some k
theorem SOwn.same {W W' : World} {B : Nat} {s : ST} {v1 v2 v3 v4 v5 : Value} {vs bs : List Value} (h : SOwn W B s v1 v2 v3 v4 v5 vs bs) (hs : ∀ k, B ≤ k → k < W.heap.size → W'.heap[k]? = W.heap[k]?) : SOwn W' B s v1 v2 v3 v4 v5 vs bs := by
  have up : ∀ {t z n : Nat} {v : Value} {xs : List Value}, W.ownsRow B t z v n xs → W'.ownsRow B t z v n xs := fun ho => own_same ho fun k hk => hs k (own_lt ho hk).1 (own_lt ho hk).2
  exact ⟨up h.pc, up h.ph, ⟨h.rg.len, up h.rg.out, fun j u xs hu hx => up (h.rg.row j u xs hu hx), h.rg.apart⟩, up h.mm, h.am, up h.bf, h.bl, fun j u l hu hl => up (h.be j u l hu hl), h.ba⟩
theorem SOwn.below {W W' : World} {B : Nat} {s : ST} {v1 v2 v3 v4 v5 : Value} {vs bs : List Value} (h : SOwn W B s v1 v2 v3 v4 v5 vs bs) (hB : Below W.heap.size W W') : SOwn W' B s v1 v2 v3 v4 v5 vs bs := h.same fun k _ hk => hB.block k hk
theorem SOwn.stv {W : World} {B : Nat} {s : ST} {v1 v2 v3 v4 v5 : Value} {vs bs : List Value} (h : SOwn W B s v1 v2 v3 v4 v5 vs bs) : STV W s v1 v2 v3 v4 v5 := ⟨own_row h.pc, own_row h.ph, h.rg.rows, own_row h.mm, own_rowsW h.bl h.bf h.be⟩
theorem SOwn.stf {W : World} {B : Nat} {s : ST} {v1 v2 v3 v4 v5 : Value} {vs bs : List Value} (h : SOwn W B s v1 v2 v3 v4 v5 vs bs) : STF W B s v1 v2 v3 v4 v5 := fun W' hs => (h.same hs).stv
theorem SOwn.zero (W : World) (B : Nat) : SOwn W B ST0 (.slice none 0 0) (.slice none 0 0) (.slice none 0 0) (.slice none 0 0) (.slice none 0 0) [] [] :=
  ⟨own_nil _ _ _ _, own_nil _ _ _ _, ⟨rfl, own_nil _ _ _ _, fun j u xs hu => (by cases hu), fun i j u u' k _ hu => (by cases hu)⟩, own_nil _ _ _ _, fun j u k hu => (by cases hu), own_nil _ _ _ _, rfl, fun j u l hu => (by cases hu), fun i j u u' k _ hu => (by cases hu)⟩
theorem own_slc {W : World} {B g t : Nat} {cs : List Value} (hB : B ≤ g) (I : IsS W g t cs) (hl : cs.length ≤ 1048576) : W.ownsRow B t 1 (slc g cs.length) cs.length cs :=
  own_cls hB I (List.take_length ..) (Nat.le_refl _) (Nat.le_trans hl (by decide)) rfl
theorem own_slc2 {W : World} {B g t n : Nat} {cs : List Value} (hB : B ≤ g) (I : IsS W g t cs) (hl : cs.length = 2 * n) (hn : n ≤ 1048576) : W.ownsRow B t 2 (slc g n) n cs := by
  refine ⟨by omega, .inr ⟨g, n, cs.toArray, rfl, hB, I, Nat.le_refl _, Nat.le_trans hn (by decide), by simp; omega, ?_⟩⟩
  rw [show n * 2 = cs.length by omega]
  simp
theorem nodup_map {α : Type} {l : List (Nat × α)} (h : (l.map (·.1)).Nodup) {i j : Nat} {x y : Nat × α} (hne : i ≠ j) (hx : l[i]? = some x) (hy : l[j]? = some y) : x.1 ≠ y.1 := by
  intro e
  have hi : i < l.length := (List.getElem?_eq_some_iff.1 hx).1
  have h1 : (l.map (·.1))[i]? = some x.1 := by rw [List.getElem?_map, hx]; rfl
  have h2 : (l.map (·.1))[j]? = some x.1 := by rw [List.getElem?_map, hy, e]; rfl
  exact hne ((List.getElem?_inj (by rw [List.length_map]; exact hi) h).1 (h1.trans h2.symm))
theorem SOwn.of_stb {W : World} {B : Nat} {s : ST} {gp gh gr gm gb : Nat} {rows : List (Nat × List Int)} {brows : List (Nat × List (Int × Int))} (hf : s.Few) (h : STB W B s gp gh gr gm gb rows brows) : SOwn W B s (slc gp s.pc.length) (slc gh s.ph.length) (slc gr s.regs.length) (slc gm s.mem.length) (slc gb s.buf.length) (rowsC rows) (rowsC brows) := by
  have hrl : (rowsC rows).length = s.regs.length := by rw [h.er]; simp [rowsC]
  have hbl : (rowsC brows).length = s.buf.length := by rw [h.eb]; simp [rowsC]
  obtain ⟨l1, l2, l3, l4, l5, l6, l7⟩ := h.low
  have hnr := h.nr
  rw [List.nodup_append] at hnr
  have get : ∀ (j : Nat) u, (rowsC rows)[j]? = some u → ∃ x, rows[j]? = some x ∧ u = slc x.1 x.2.length := fun j u hu => by
    unfold rowsC at hu
    rw [List.getElem?_map] at hu
    cases hr : rows[j]? with
    | none => rw [hr] at hu; cases hu
    | some x => rw [hr] at hu; cases hu; exact ⟨x, rfl, rfl⟩
  have getb : ∀ (j : Nat) u, (rowsC brows)[j]? = some u → ∃ x, brows[j]? = some x ∧ u = slc x.1 x.2.length := fun j u hu => by
    unfold rowsC at hu
    rw [List.getElem?_map] at hu
    cases hr : brows[j]? with
    | none => rw [hr] at hu; cases hu
    | some x => rw [hr] at hu; cases hu; exact ⟨x, rfl, rfl⟩
  refine ⟨?_, ?_, ⟨hrl, ?_, fun j u xs hu hx => ?_, fun i j u u' k hne hu hu' hk hk' => ?_⟩, ?_, fun j u k hu hk hk' => ?_, ?_, hbl, fun j u l hu hl => ?_, fun i j u u' k hne hu hu' hk hk' => ?_⟩
  · have := own_slc l1 h.pc (by rw [List.length_map]; exact hf.pc)
    rw [List.length_map] at this
    rw [int_map]; exact this
  · have := own_slc l2 h.ph (by rw [List.length_map]; exact hf.ph)
    rw [List.length_map] at this
    rw [int_map]; exact this
  · have := own_slc l3 h.rg (by rw [hrl]; exact hf.rg)
    rw [hrl] at this
    exact this
  · obtain ⟨x, hr, rfl⟩ := get j u hu
    have hxs : xs = x.2 := by rw [h.er, List.getElem?_map, hr] at hx; cases hx; rfl
    subst hxs
    have hm := List.mem_of_getElem? hr
    have := own_slc (l6 x hm) (h.rr x hm) (by rw [List.length_map]; exact flat_row hf.rr hx)
    rw [List.length_map] at this
    rw [int_map]; exact this
  · obtain ⟨x, hr, rfl⟩ := get i u hu
    obtain ⟨y, hr', rfl⟩ := get j u' hu'
    cases hk
    have e : y.1 = x.1 := Option.some.inj hk'
    exact nodup_map hnr.1 hne hr hr' e.symm
  · have := own_slc l4 h.mm (by rw [List.length_map]; exact hf.mm)
    rw [List.length_map] at this
    rw [int_map]; exact this
  · obtain ⟨x, hr, rfl⟩ := get j u hu
    cases hk
    have e : gm = x.1 := Option.some.inj hk'
    exact hnr.2.2 x.1 (List.mem_map.2 ⟨x, List.mem_of_getElem? hr, rfl⟩) gm (by simp) e.symm
  · have := own_slc l5 h.bf (by rw [hbl]; exact hf.bf)
    rw [hbl] at this ⊢
    exact this
  · obtain ⟨x, hr, rfl⟩ := getb j u hu
    have hxs : l = x.2 := by rw [h.eb, List.getElem?_map, hr] at hl; cases hl; rfl
    subst hxs
    have hm := List.mem_of_getElem? hr
    exact own_slc2 (l7 x hm) (h.bb x hm) (wrE_len _) (flat_row hf.bb hl)
  · obtain ⟨x, hr, rfl⟩ := getb i u hu
    obtain ⟨y, hr', rfl⟩ := getb j u' hu'
    cases hk
    have e : y.1 = x.1 := Option.some.inj hk'
    exact nodup_map h.nb hne hr hr' e.symm
/-- The program's Read. -/
theorem read2_any (p : PG) (hf : p.Few) (T : ByteArray) (hT : T.size ≤ 1099511627776) (vt vr vl vi vj : Value) (w : World) (hp : PGV w vt vr vl vi vj p) :
    Calls Try.prog 13 #[.agg #[vt, vr, vl, vi, vj], .string T] w fun e w' => ∃ v1 v2 v3 v4 v5 vs bs, e = .returned (.tuple #[.agg #[v1, v2, v3, v4, v5, .int .i64 (rdSt p T).lock], .int .i64 (rdN p T)]) ∧ SOwn w' w.heap.size (rdSt p T) v1 v2 v3 v4 v5 vs bs ∧ Below w.heap.size w w' := by
  refine (read_any p hf T hT vt vr vl vi vj w hp).mono fun e w' h => ?_
  by_cases hv0 : validV p = 0
  · cases hrd : readS T (shpOf p) with
    | none =>
      obtain ⟨rfl, B⟩ := h.2.1 hv0 hrd
      have e1 : rdSt p T = ST0 := by unfold rdSt; rw [if_pos hv0, hrd]; rfl
      have e2 : rdN p T = 5 := by unfold rdN; rw [if_pos hv0, hrd]
      rw [e1, e2]
      exact ⟨_, _, _, _, _, [], [], rfl, SOwn.zero _ _, B⟩
    | some u =>
      obtain ⟨gp, gh, gr, gm, gb, rows, brows, rfl, S, B⟩ := h.2.2 hv0 u hrd
      have e1 : rdSt p T = u := by unfold rdSt; rw [if_pos hv0, hrd]; rfl
      have e2 : rdN p T = 0 := by unfold rdN; rw [if_pos hv0, hrd]
      rw [e1, e2]
      exact ⟨_, _, _, _, _, _, _, rfl, SOwn.of_stb (few_fits (vld_of hv0) (readS_some hrd).1) S, B⟩
  · obtain ⟨rfl, B⟩ := h.1 hv0
    have e1 : rdSt p T = ST0 := by unfold rdSt; rw [if_neg hv0]
    have e2 : rdN p T = validV p := by unfold rdN; rw [if_neg hv0]
    rw [e1, e2]
    exact ⟨_, _, _, _, _, [], [], rfl, SOwn.zero _ _, B⟩
/-- The reference's Read. -/
theorem rread2_any (p : PG) (hf : p.Few) (T : ByteArray) (hT : T.size ≤ 1099511627776) (vt vr vl vi vj : Value) (w : World) (hp : PGV w vt vr vl vi vj p) :
    Calls Try.prog 14 #[.agg #[vt, vr, vl, vi, vj], .string T] w fun e w' => ∃ v1 v2 v3 v4 v5, e = .returned (.tuple #[.agg #[v1, v2, v3, v4, v5, .int .i64 (rdSt p T).lock], .int .i64 (rdN p T)]) ∧ STF w' w.heap.size (rdSt p T) v1 v2 v3 v4 v5 ∧ Below w.heap.size w w' := by
  refine (rread_any p hf T hT vt vr vl vi vj w hp).mono fun e w' h => ?_
  by_cases hv0 : validV p = 0
  · cases hrd : readS T (shpOf p) with
    | none =>
      obtain ⟨rfl, B⟩ := (h.2 hv0).1 hrd
      have e1 : rdSt p T = ST0 := by unfold rdSt; rw [if_pos hv0, hrd]; rfl
      have e2 : rdN p T = 5 := by unfold rdN; rw [if_pos hv0, hrd]
      rw [e1, e2]
      exact ⟨_, _, _, _, _, rfl, (SOwn.zero w' w.heap.size).stf, B⟩
    | some u =>
      obtain ⟨v1, v2, v3, v4, v5, rfl, S, B⟩ := (h.2 hv0).2 u hrd
      have e1 : rdSt p T = u := by unfold rdSt; rw [if_pos hv0, hrd]; rfl
      have e2 : rdN p T = 0 := by unfold rdN; rw [if_pos hv0, hrd]
      rw [e1, e2]
      exact ⟨_, _, _, _, _, rfl, S, B⟩
  · obtain ⟨rfl, B⟩ := h.1 hv0
    have e1 : rdSt p T = ST0 := by unfold rdSt; rw [if_neg hv0]
    have e2 : rdN p T = validV p := by unfold rdN; rw [if_neg hv0]
    rw [e1, e2]
    exact ⟨_, _, _, _, _, rfl, (SOwn.zero w' w.heap.size).stf, B⟩
theorem st_of_rows {w : World} {s : ST} {v1 v2 v3 v4 v5 : Value} {n : Nat} {pc : List Int} {regs : List (List Int)} {mem : List Int} (h : RS w v1 v2 v3 v4 v5 n pc regs mem) (hs : s = ⟨pc, List.replicate n 0, regs, mem, List.replicate n [], -1⟩) (hn : pc.length = n) : STV w s v1 v2 v3 v4 v5 := by
  subst hs
  exact ⟨by show RowV w v1 pc.length _; rw [hn]; exact h.pc, by show RowV w v2 (List.replicate n (0 : Int)).length _; rw [List.length_replicate]; exact h.ph, h.rg, h.mm, h.bf⟩
theorem stv_one {W : World} {s : ST} {v1 v2 v3 v4 v5 : Value} (z : Int) (h : STV W s v1 v2 v3 v4 v5) : ∀ v ∈ [v1, v2, v3, v4, v5, .int .i64 z], v.oneCell' = true :=
  stc_oneX (rowV_oneX h.pc) (rowV_oneX h.ph) (by obtain ⟨a, c, e⟩ := h.rg.form; rw [e]; rfl) (rowV_oneX h.mm) (by obtain ⟨a, c, e⟩ := h.bf.form; rw [e]; rfl)
theorem rs_one {w : World} {v1 v2 v3 v4 v5 : Value} {n : Nat} {pc : List Int} {regs : List (List Int)} {mem : List Int} (z : Int) (h : RS w v1 v2 v3 v4 v5 n pc regs mem) : ∀ v ∈ [v1, v2, v3, v4, v5, .int .i64 z], v.oneCell' = true :=
  stc_oneX (rowV_oneX h.pc) (rowV_oneX h.ph) (by obtain ⟨a, c, e⟩ := h.rg.form; rw [e]; rfl) (rowV_oneX h.mm) (by obtain ⟨a, c, e⟩ := h.bf.form; rw [e]; rfl)
theorem one6 {a b c d e : Option Addr} {n1 n2 n3 n4 n5 c1 c2 c3 c4 c5 : Nat} {z : Int} : ∀ v ∈ [Value.slice a n1 c1, .slice b n2 c2, .slice c n3 c3, .slice d n4 c4, .slice e n5 c5, .int .i64 z], v.oneCell' = true := by
  intro v hv
  simp only [List.mem_cons, List.not_mem_nil, or_false] at hv
  rcases hv with rfl | rfl | rfl | rfl | rfl | rfl <;> rfl
set_option maxRecDepth 100000 in
set_option maxHeartbeats 4000000 in
/-- The program's Start. -/
theorem start_any (p : PG) (hf : p.Few) (vt vr vl vi vj : Value) (w : World) (hp : PGV w vt vr vl vi vj p) :
    Calls Try.prog 15 #[.agg #[vt, vr, vl, vi, vj]] w fun e w' => ∃ v1 v2 v3 v4 v5, e = .returned (.tuple #[.agg #[v1, v2, v3, v4, v5, .int .i64 (stSt p).lock], .int .i64 (validV p)]) ∧ STV w' (stSt p) v1 v2 v3 v4 v5 ∧ w'.ownsRow w.heap.size 2 1 v4 (stSt p).mem.length ((stSt p).mem.flatMap intE) ∧ Below w.heap.size w w' := by
  have hVal := fun W (h : PGV W vt vr vl vi vj p) => valid_any p hf vt vr vl vi vj W h
  have hSt := fun W (h : PGV W vt vr vl vi vj p) => startOf_any p p.threads.length hf rfl vt vr vl vi vj W h
  have HP : Hid (PGV w vt vr vl vi vj p) := hp
  have t1 : True := trivial
  have t2 : True := trivial
  have t3 : True := trivial
  have t4 : True := trivial
  by_cases hv0 : validV p = 0
  · obtain ⟨n, hn⟩ : ∃ n, p.threads.length = n := ⟨_, rfl⟩
    have e1 : stSt p = ⟨List.replicate n 0, List.replicate n 0, p.regInit, p.locInit, List.replicate n [], -1⟩ := by unfold stSt; rw [if_pos hv0, hn]
    rw [e1, hv0]
    rw [hv0] at hVal
    simp only [hn] at hSt
    clear hp hf hv0 hn e1
    go_enter Try.func15, Try.ntmps15
    go_wp2_with (first
      | (clear t1; refine wpList_boxS rfl 28 _ rfl [vt, vr, vl, vi, vj] rfl ?_; intro W0 b2 F0 C0; have B0 := F_b F0; clear F0)
      | (clear t2; refine wpList_allocS rfl 32 rfl zst zeroSt ?_; intro W1 b4 F1 Z1; have C1 := C0.fresh F1; have B1 := F1.trans B0 B0.size; have hb4 : w.heap.size ≤ b4 := Nat.le_trans B0.size (Nat.le_of_eq F1.at'.symm); clear F1 C0)
      | (clear t3; refine wpList_loadW rfl 28 _ rfl rfl C1 _ Try.underlying28 rfl infoPg ?_)
      | (go_at_call 36; refine (hVal _ (HP.out.below B1)).mono ?_; rintro e W2 ⟨rfl, B2x⟩; have C2 := C1.grown B2x; have Z2 := Z1.grown B2x; have B2 := Below.then B1 B2x; clear hVal C1 Z1 B0 B1 B2x)
      | (clear t4; refine wpList_loadW rfl 28 _ rfl rfl C2 _ Try.underlying28 rfl infoPg ?_)
      | (go_at_call 47; refine (hSt _ (HP.out.below B2)).mono ?_; rintro e W3 ⟨gp, gh, gb, vrg, vmm, vs, rfl, S3, I3, J3, B3x⟩; have Z3 := Z2.grown B3x; have B3 := Below.then B2 B3x; have hsz := B2.size; obtain ⟨ar, cr, er⟩ := own_form S3.rg.out; obtain ⟨am, cm, em⟩ := own_form S3.mm; have HE : Hid (vrg = .slice ar p.regInit.length cr ∧ vmm = .slice am p.locInit.length cm) := ⟨er, em⟩; rw [er, em]; clear er em hSt)
      | (refine wpList_storeW rfl 32 _ _ rfl rfl [.slice (some ⟨gp, 0, none⟩) n n, .slice (some ⟨gh, 0, none⟩) n n, .slice ar p.regInit.length cr, .slice am p.locInit.length cm, .slice (some ⟨gb, 0, none⟩) n n, .int .i64 (-1)] rfl Z3 rfl infoSt one6 ?_; intro W7 U7 Z7; have B7 := U7.trans B3 hb4))
    refine ret_ST rfl rfl rfl Z7 _ Try.underlying32 rfl infoSt _ rfl ⟨_, _, _, _, _, rfl, ?_, ?_, B7⟩
    · rw [← HE.out.1, ← HE.out.2]
      have up : ∀ {t z n : Nat} {v : Value} {xs : List Value}, W3.ownsRow W2.heap.size t z v n xs → t ≠ 32 → W7.ownsRow W2.heap.size t z v n xs := fun ho ht => own_upd ho Z3 U7 ht
      have I7 := isS_updT I3 Z3 (by decide) U7
      have J7 := isS_updT J3 Z3 (by decide) U7
      refine st_of_rows (n := n) (pc := List.replicate n 0) (regs := p.regInit) (mem := p.locInit) ⟨?_, rep_row I7, ?_, own_row (up S3.mm (by decide)), rep_rows J7⟩ rfl (by simp)
      · have := own_row (up S3.pc (by decide))
        rw [List.length_replicate] at this
        exact this
      · exact (⟨S3.rg.len, up S3.rg.out (by decide), fun j u xs hu hx => up (S3.rg.row j u xs hu hx) (by decide), S3.rg.apart⟩ : OwnA W7 W2.heap.size vrg vs p.regInit).rows
    · rw [← HE.out.2]
      exact own_raise (own_upd S3.mm Z3 U7 (by decide)) hsz
  · have e1 : stSt p = ST0 := by unfold stSt; rw [if_neg hv0]
    rw [e1]
    obtain ⟨ev, hev⟩ : ∃ e, e = validV p := ⟨_, rfl⟩
    rw [← hev] at hv0 ⊢
    simp only [← hev] at hVal
    have hz1 : ∀ v ∈ zst, v.oneCell' = true := by
      intro v hv
      unfold zst at hv
      simp only [List.mem_cons, List.not_mem_nil, or_false] at hv
      rcases hv with rfl | rfl | rfl | rfl | rfl | rfl <;> rfl
    clear hp hf hev hSt e1
    go_enter Try.func15, Try.ntmps15
    go_wp2_with (first
      | (clear t1; refine wpList_boxS rfl 28 _ rfl [vt, vr, vl, vi, vj] rfl ?_; intro W0 b2 F0 C0; have B0 := F_b F0; clear F0)
      | (clear t2; refine wpList_allocS rfl 32 rfl zst zeroSt ?_; intro W1 b4 F1 Z1; have C1 := C0.fresh F1; have B1 := F1.trans B0 B0.size; have hb4 : w.heap.size ≤ b4 := Nat.le_trans B0.size (Nat.le_of_eq F1.at'.symm); clear F1 C0)
      | (clear t3; refine wpList_loadW rfl 28 _ rfl rfl C1 _ Try.underlying28 rfl infoPg ?_)
      | (go_at_call 36; refine (hVal _ (HP.out.below B1)).mono ?_; rintro e W2 ⟨rfl, B2x⟩; have Z2 := Z1.grown B2x; have B2 := Below.then B1 B2x; clear hVal C1 Z1 B0 B1 B2x)
      | (clear t4; refine wpList_valueX rfl (build0_st rfl) ?_)
      | (refine wpList_storeW rfl 32 _ _ rfl rfl zst rfl Z2 rfl infoSt hz1 ?_; intro W7 U7 Z7; have B7 := U7.trans B2 hb4))
    exact ret_ST rfl rfl rfl Z7 _ Try.underlying32 rfl infoSt _ rfl ⟨_, _, _, _, _, rfl, (SOwn.zero _ 0).stv, own_nil _ _ _ _, B7⟩
set_option maxRecDepth 100000 in
set_option maxHeartbeats 4000000 in
/-- The reference's Start. -/
theorem rstart_any (p : PG) (hf : p.Few) (vt vr vl vi vj : Value) (w : World) (hp : PGV w vt vr vl vi vj p) :
    Calls Try.prog 16 #[.agg #[vt, vr, vl, vi, vj]] w fun e w' => ∃ v1 v2 v3 v4 v5, e = .returned (.tuple #[.agg #[v1, v2, v3, v4, v5, .int .i64 (stSt p).lock], .int .i64 (validV p)]) ∧ STV w' (stSt p) v1 v2 v3 v4 v5 ∧ Below w.heap.size w w' := by
  have hVal := fun W (h : PGV W vt vr vl vi vj p) => rvalid_any p hf vt vr vl vi vj W h
  have hSt := fun W (h : PGV W vt vr vl vi vj p) => rfirstF_any p p.threads.length hf rfl vt vr vl vi vj W h
  have HP : Hid (PGV w vt vr vl vi vj p) := hp
  have t1 : True := trivial
  have t2 : True := trivial
  have t3 : True := trivial
  have t4 : True := trivial
  by_cases hv0 : validV p = 0
  · obtain ⟨n, hn⟩ : ∃ n, p.threads.length = n := ⟨_, rfl⟩
    have e1 : stSt p = ⟨List.replicate n 0, List.replicate n 0, p.regInit, p.locInit, List.replicate n [], -1⟩ := by unfold stSt; rw [if_pos hv0, hn]
    rw [e1, hv0]
    rw [hv0] at hVal
    simp only [hn] at hSt
    clear hp hf hv0 hn e1
    go_enter Try.func16, Try.ntmps16
    go_wp2_with (first
      | (clear t1; refine wpList_boxS rfl 28 _ rfl [vt, vr, vl, vi, vj] rfl ?_; intro W0 b2 F0 C0; have B0 := F_b F0; clear F0)
      | (clear t2; refine wpList_allocS rfl 32 rfl zst zeroSt ?_; intro W1 b4 F1 Z1; have C1 := C0.fresh F1; have B1 := F1.trans B0 B0.size; have hb4 : w.heap.size ≤ b4 := Nat.le_trans B0.size (Nat.le_of_eq F1.at'.symm); clear F1 C0)
      | (clear t3; refine wpList_loadW rfl 28 _ rfl rfl C1 _ Try.underlying28 rfl infoPg ?_)
      | (go_at_call 28; refine (hVal _ (HP.out.below B1)).mono ?_; rintro e W2 ⟨rfl, B2x⟩; have C2 := C1.grown B2x; have Z2 := Z1.grown B2x; have B2 := Below.then B1 B2x; clear hVal C1 Z1 B0 B1 B2x)
      | (clear t4; refine wpList_loadW rfl 28 _ rfl rfl C2 _ Try.underlying28 rfl infoPg ?_)
      | (go_at_call 29; refine (hSt _ (HP.out.below B2)).mono ?_; rintro e W3 ⟨u1, u2, u3, u4, u5, rfl, S3, B3x⟩; have Z3 := Z2.grown B3x; have hb4l := Z2.lt; have B3 := Below.then B2 B3x; have S3s := S3 W3 (fun _ _ _ => rfl); have hone := rs_one (-1) S3s; clear hSt S3s)
      | (refine wpList_storeW rfl 32 _ _ rfl rfl [u1, u2, u3, u4, u5, .int .i64 (-1)] rfl Z3 rfl infoSt hone ?_; intro W7 U7 Z7; have B7 := U7.trans B3 hb4))
    exact ret_ST rfl rfl rfl Z7 _ Try.underlying32 rfl infoSt _ rfl ⟨_, _, _, _, _, rfl, st_of_rows (S3 W7 fun k hk _ => U7.block k (by omega)) rfl (by simp), B7⟩
  · have e1 : stSt p = ST0 := by unfold stSt; rw [if_neg hv0]
    rw [e1]
    obtain ⟨ev, hev⟩ : ∃ e, e = validV p := ⟨_, rfl⟩
    rw [← hev] at hv0 ⊢
    simp only [← hev] at hVal
    have hz1 : ∀ v ∈ zst, v.oneCell' = true := by
      intro v hv
      unfold zst at hv
      simp only [List.mem_cons, List.not_mem_nil, or_false] at hv
      rcases hv with rfl | rfl | rfl | rfl | rfl | rfl <;> rfl
    clear hp hf hev hSt e1
    go_enter Try.func16, Try.ntmps16
    go_wp2_with (first
      | (clear t1; refine wpList_boxS rfl 28 _ rfl [vt, vr, vl, vi, vj] rfl ?_; intro W0 b2 F0 C0; have B0 := F_b F0; clear F0)
      | (clear t2; refine wpList_allocS rfl 32 rfl zst zeroSt ?_; intro W1 b4 F1 Z1; have C1 := C0.fresh F1; have B1 := F1.trans B0 B0.size; have hb4 : w.heap.size ≤ b4 := Nat.le_trans B0.size (Nat.le_of_eq F1.at'.symm); clear F1 C0)
      | (clear t3; refine wpList_loadW rfl 28 _ rfl rfl C1 _ Try.underlying28 rfl infoPg ?_)
      | (go_at_call 28; refine (hVal _ (HP.out.below B1)).mono ?_; rintro e W2 ⟨rfl, B2x⟩; have Z2 := Z1.grown B2x; have B2 := Below.then B1 B2x; clear hVal C1 Z1 B0 B1 B2x)
      | (clear t4; refine wpList_valueX rfl (build0_st rfl) ?_)
      | (refine wpList_storeW rfl 32 _ _ rfl rfl zst rfl Z2 rfl infoSt hz1 ?_; intro W7 U7 Z7; have B7 := U7.trans B2 hb4))
    exact ret_ST rfl rfl rfl Z7 _ Try.underlying32 rfl infoSt _ rfl ⟨_, _, _, _, _, rfl, (SOwn.zero _ 0).stv, B7⟩
end Go.Proofs.Ytegpnicajlndlaa
/- A state that is written over: what changes, and what stays. -/
namespace Go.Proofs.Ytegpnicajlndlaa
open Go.RowKit M
set_option linter.unusedSimpArgs false
set_option linter.unusedVariables false

/-- All blocks stay but those between two numbers. -/
structure OutR (lo hi : Nat) (w W : World) : Prop where
  os : W.os = w.os
  tape : W.tape = w.tape
  output : W.output = w.output
  size : w.heap.size ≤ W.heap.size
  block : ∀ k, k < w.heap.size → (k < lo ∨ hi ≤ k) → W.heap[k]? = w.heap[k]?
section
variable {lo hi B b t : Nat} {w0 w W W' : World} {cs : List Value}
theorem OutR.refl (lo hi : Nat) (w : World) : OutR lo hi w w := ⟨rfl, rfl, rfl, Nat.le_refl _, fun _ _ _ => rfl⟩
theorem OutR.upd (h : OutR lo hi w W) (U : Upd W W' b) (hb : (lo ≤ b ∧ b < hi) ∨ w.heap.size ≤ b) : OutR lo hi w W' :=
  ⟨U.os.trans h.os, U.tape.trans h.tape, U.output.trans h.output, by rw [U.size]; exact h.size, fun k hk ho => (U.block k (by omega)).trans (h.block k hk ho)⟩
theorem OutR.one (h : OutR lo hi w W) (O : One W W' b) (hb : (lo ≤ b ∧ b < hi) ∨ w.heap.size ≤ b) : OutR lo hi w W' :=
  ⟨O.os.trans h.os, O.tape.trans h.tape, O.output.trans h.output, Nat.le_trans h.size O.size, fun k hk ho => (O.block k (Nat.lt_of_lt_of_le hk h.size) (by omega)).trans (h.block k hk ho)⟩
theorem OutR.grown {row : Option Nat} (h : OutR lo hi w W) (G : W.grownBy W' row) (hr : ∀ k, row = some k → (lo ≤ k ∧ k < hi) ∨ w.heap.size ≤ k) : OutR lo hi w W' :=
  ⟨G.os.trans h.os, G.tape.trans h.tape, G.output.trans h.output, Nat.le_trans h.size G.size, fun k hk ho => (G.block k (Nat.lt_of_lt_of_le hk h.size) (fun e => by have := hr k e.symm; omega)).trans (h.block k hk ho)⟩
theorem OutR.then (h : OutR lo hi w W) (hB : Below W.heap.size W W') : OutR lo hi w W' :=
  ⟨hB.os.trans h.os, hB.tape.trans h.tape, hB.output.trans h.output, Nat.le_trans h.size hB.size, fun k hk ho => (hB.block k (Nat.lt_of_lt_of_le hk h.size)).trans (h.block k hk ho)⟩
theorem OutR.isS (h : OutR lo hi w W) (I : IsS w b t cs) (hb : b < lo ∨ hi ≤ b) : IsS W b t cs := (h.block b I.lt hb).trans I
theorem OutR.pre (h : OutR lo hi w W) (hB : Below B w0 w) (h1 : B ≤ lo) (h2 : B ≤ w.heap.size) : Below B w0 W :=
  ⟨h.os.trans hB.os, h.tape.trans hB.tape, h.output.trans hB.output, Nat.le_trans hB.size h.size, fun k hk => (h.block k (by omega) (by omega)).trans (hB.block k hk)⟩
end
theorem OwnA.setRowZ {w W : World} {B j : Nat} {v u : Value} {vs us : List Value} {regs : List (List Int)} {rj r' : List Int} (h : OwnA w B v vs regs) (F : Fr w W us) (hu : vs[j]? = some u) (hr : regs[j]? = some rj) (hl : r'.length = rj.length) (hO : W.ownsRow B 2 1 u rj.length (r'.flatMap intE))
    (hus : ∀ x ∈ us, x = u ∨ ((∀ k, v.ownBlock = some k → x.ownBlock ≠ some k) ∧ ∀ (i : Nat) y k, vs[i]? = some y → y.ownBlock = some k → x.ownBlock ≠ some k)) : OwnA W B v vs (regs.set j r') := by
  have hout := F.own h.out fun k hk x hx => by
    rcases hus x hx with rfl | h1
    · exact own_diff h.out (h.row j x rj hu hr) (by decide) hk
    · exact h1.1 k hk
  refine ⟨(by rw [List.length_set]; exact h.len), (by rw [List.length_set]; exact hout), fun i y xs hy hx => ?_, h.apart⟩
  · rw [List.getElem?_set] at hx
    split at hx
    · rename_i e
      subst e
      split at hx
      · cases hx
        rw [hu] at hy
        cases hy
        rw [hl]; exact hO
      · cases hx
    · rename_i e
      refine F.own (h.row i y xs hy hx) fun k hk x hx' => ?_
      rcases hus x hx' with rfl | h1
      · exact h.apart i j y x k (fun e' => e e'.symm) hy hu hk
      · exact h1.2 i y k hy hk
/-- A state that was handed out and is being written over: 'i': how many buffers have grown. -/
structure AO (W0 W : World) (lo hi : Nat) (v1 v3 v4 v5 : Value) (vs bs : List Value) (n n4 i : Nat) (ls : List Nat) : Prop where
  out : OutR lo hi W0 W
  pc : ∃ xs : List Int, xs.length = n ∧ W.ownsRow lo 3 1 v1 n (xs.flatMap intE)
  mm : ∃ xs : List Int, xs.length = n4 ∧ W.ownsRow lo 2 1 v4 n4 (xs.flatMap intE)
  rg : ∃ xss : List (List Int), xss.map List.length = ls ∧ OwnA W lo v3 vs xss
  am : ∀ (j : Nat) u k, vs[j]? = some u → u.ownBlock = some k → v4.ownBlock ≠ some k
  bf : W.ownsRow lo 48 1 v5 n bs
  bb : ∀ (j : Nat) u, bs[j]? = some u → ∃ m xs, m ≤ 1048576 + i ∧ W.ownsRow lo 50 2 u m xs
  ba : ∀ (i j : Nat) u u' k, i ≠ j → bs[i]? = some u → bs[j]? = some u' → u.ownBlock = some k → u'.ownBlock ≠ some k
  r1 : ∀ v, v = v1 ∨ v = v3 ∨ v = v4 ∨ v = v5 ∨ v ∈ vs → ∀ k, v.ownBlock = some k → k < hi
  r2 : ∀ v ∈ bs, ∀ k, v.ownBlock = some k → k < hi ∨ W0.heap.size ≤ k
theorem AO.start {W0 Wa : World} {lo : Nat} {s : ST} {v1 v2 v3 v4 v5 : Value} {vs bs : List Value} (h : SOwn Wa lo s v1 v2 v3 v4 v5 vs bs) (hf : s.Few) (hB : Below Wa.heap.size Wa W0) (hl : s.buf.length = s.pc.length) : AO W0 W0 lo Wa.heap.size v1 v3 v4 v5 vs bs s.pc.length s.mem.length 0 (s.regs.map List.length) := by
  have h0 := h.below hB
  refine ⟨OutR.refl _ _ _, ⟨s.pc, rfl, h0.pc⟩, ⟨s.mem, rfl, h0.mm⟩, ⟨s.regs, rfl, h0.rg⟩, h0.am, ?_, fun j u hu => ?_, h0.ba, fun v hv k hk => ?_, fun v hv k hk => ?_⟩
  · have := h0.bf
    rw [h0.bl, hl] at this
    exact this
  · have hj : j < s.buf.length := by rw [← h0.bl]; exact (List.getElem?_eq_some_iff.1 hu).1
    exact ⟨_, _, (by have := flat_row hf.bb (List.getElem?_eq_getElem hj); omega), h0.be j u _ hu (List.getElem?_eq_getElem hj)⟩
  · rcases hv with rfl | rfl | rfl | rfl | hv
    · exact (own_lt h.pc hk).2
    · exact (own_lt h.rg.out hk).2
    · exact (own_lt h.mm hk).2
    · exact (own_lt h.bf hk).2
    · obtain ⟨j, hj⟩ := List.mem_iff_getElem?.1 hv
      exact (h.rg.range hj hk).2
  · obtain ⟨j, hj⟩ := List.mem_iff_getElem?.1 hv
    have hjl : j < s.buf.length := by rw [← h0.bl]; exact (List.getElem?_eq_some_iff.1 hj).1
    exact .inl (own_lt (h.be j v _ hj (List.getElem?_eq_getElem hjl)) hk).2
section
variable {W0 W W' : World} {lo hi : Nat} {v1 v3 v4 v5 : Value} {vs bs : List Value} {n n4 i : Nat} {ls : List Nat}
theorem AO.then (h : AO W0 W lo hi v1 v3 v4 v5 vs bs n n4 i ls) (hB : Below W.heap.size W W') : AO W0 W' lo hi v1 v3 v4 v5 vs bs n n4 i ls := by
  obtain ⟨x1, l1, o1⟩ := h.pc
  obtain ⟨x2, l2, o2⟩ := h.mm
  obtain ⟨x3, l3, o3⟩ := h.rg
  exact ⟨h.out.then hB, ⟨x1, l1, own_below o1 hB⟩, ⟨x2, l2, own_below o2 hB⟩, ⟨x3, l3, o3.below hB⟩, h.am, own_below h.bf hB, fun j u hu => (by obtain ⟨m, xs, hm, o⟩ := h.bb j u hu; exact ⟨m, xs, hm, own_below o hB⟩), h.ba, h.r1, h.r2⟩
/-- A number of the memory, written. -/
theorem AO.mem (h : AO W0 W lo hi v1 v3 v4 v5 vs bs n n4 i ls) {j : Nat} (hj : j < n4) :
    ∃ g c cs x, v4 = .slice (some ⟨g, 0, none⟩) n4 c ∧ n4 ≤ c ∧ IsS W g 2 cs ∧ cs.length = c ∧ cs[j]? = some (.int .i64 x) ∧ ∀ (y : Int) (W' : World), Upd W W' g → IsS W' g 2 (cs.set j (.int .i64 y)) → AO W0 W' lo hi v1 v3 v4 v5 vs bs n n4 i ls := by
  obtain ⟨xs, hl, o⟩ := h.mm
  obtain ⟨g, c, cs, hv, hg, I, ht, hc, hm, hs⟩ := own_opn o (by omega)
  obtain ⟨x, hx⟩ : ∃ x, xs[j]? = some x := ⟨_, List.getElem?_eq_getElem (by omega)⟩
  refine ⟨g, c, cs, x, hv, hc, I, hs, (by have := cell_of ht hx; rw [Nat.zero_add] at this; exact this), fun y W' U I' => ?_⟩
  have hgh : g < hi := h.r1 v4 (by simp) g (by rw [hv]; rfl)
  obtain ⟨x1, l1, o1⟩ := h.pc
  obtain ⟨x3, l3, o3⟩ := h.rg
  refine ⟨h.out.upd U (.inl ⟨hg, hgh⟩), ⟨x1, l1, own_upd o1 I U (by decide)⟩, ⟨xs.set j y, by rw [List.length_set, hl], ?_⟩, ⟨x3, l3, o3.len, own_upd o3.out I U (by decide), fun a u zs hu hz => own_same (o3.row a u zs hu hz) fun k hk => U.block k (fun e => h.am a u k hu hk (by rw [hv, e]; rfl)), o3.apart⟩, h.am, own_upd h.bf I U (by decide), fun a u hu => ?_, h.ba, h.r1, h.r2⟩
  · rw [hv]; exact put_own hg (by rw [Nat.zero_add]; exact I') ht hc hm hs
  · obtain ⟨m, zs, hm, o⟩ := h.bb a u hu
    exact ⟨m, zs, hm, own_upd o I U (by decide)⟩
/-- A place of a thread, written. -/
theorem AO.place (h : AO W0 W lo hi v1 v3 v4 v5 vs bs n n4 i ls) {j : Nat} (hj : j < n) :
    ∃ g c cs x, v1 = .slice (some ⟨g, 0, none⟩) n c ∧ n ≤ c ∧ IsS W g 3 cs ∧ cs.length = c ∧ cs[j]? = some (.int .i64 x) ∧ ∀ (y : Int) (W' : World), Upd W W' g → IsS W' g 3 (cs.set j (.int .i64 y)) → AO W0 W' lo hi v1 v3 v4 v5 vs bs n n4 i ls := by
  obtain ⟨xs, hl, o⟩ := h.pc
  obtain ⟨g, c, cs, hv, hg, I, ht, hc, hm, hs⟩ := own_opn o (by omega)
  obtain ⟨x, hx⟩ : ∃ x, xs[j]? = some x := ⟨_, List.getElem?_eq_getElem (by omega)⟩
  refine ⟨g, c, cs, x, hv, hc, I, hs, (by have := cell_of ht hx; rw [Nat.zero_add] at this; exact this), fun y W' U I' => ?_⟩
  have hgh : g < hi := h.r1 v1 (by simp) g (by rw [hv]; rfl)
  obtain ⟨x2, l2, o2⟩ := h.mm
  obtain ⟨x3, l3, o3⟩ := h.rg
  refine ⟨h.out.upd U (.inl ⟨hg, hgh⟩), ⟨xs.set j y, by rw [List.length_set, hl], ?_⟩, ⟨x2, l2, own_upd o2 I U (by decide)⟩, ⟨x3, l3, o3.len, own_upd o3.out I U (by decide), fun a u zs hu hz => own_upd (o3.row a u zs hu hz) I U (by decide), o3.apart⟩, h.am, own_upd h.bf I U (by decide), fun a u hu => ?_, h.ba, h.r1, h.r2⟩
  · rw [hv]; exact put_own hg (by rw [Nat.zero_add]; exact I') ht hc hm hs
  · obtain ⟨m, zs, hm, o⟩ := h.bb a u hu
    exact ⟨m, zs, hm, own_upd o I U (by decide)⟩
/-- A thread's registers, as they are read. -/
theorem AO.regs (h : AO W0 W lo hi v1 v3 v4 v5 vs bs n n4 i ls) {j m : Nat} (hm : ls[j]? = some m) :
    ∃ g c a c', v3 = .slice (some ⟨g, 0, none⟩) ls.length c ∧ vs[j]? = some (.slice a m c') ∧ W.cell? ⟨g, j, none⟩ = some (.slice a m c') := by
  obtain ⟨xss, hl, o⟩ := h.rg
  have hjl : j < xss.length := by
    have := (List.getElem?_eq_some_iff.1 hm).1
    rw [← hl, List.length_map] at this
    exact this
  have hjv : j < vs.length := by rw [o.len]; exact hjl
  have e1 : xss[j].length = m := by
    rw [← hl, List.getElem?_map, List.getElem?_eq_getElem hjl] at hm
    exact Option.some.inj hm
  have hr := o.row j vs[j] xss[j] (List.getElem?_eq_getElem hjv) (List.getElem?_eq_getElem hjl)
  obtain ⟨a, c', hv⟩ := own_form hr
  rw [e1] at hv
  obtain ⟨g, c, cs, hv3, hg, I, ht, hc, hmx, hs⟩ := own_opn o.out (by omega)
  refine ⟨g, c, a, c', by rw [hv3, ← hl, List.length_map], by rw [List.getElem?_eq_getElem hjv, hv], ?_⟩
  have hcell : cs[j]? = some (.slice a m c') := by
    have h1 : (cs.take xss.length)[j]? = some vs[j] := by rw [ht]; exact List.getElem?_eq_getElem hjv
    rw [List.getElem?_take, if_pos hjl] at h1
    rw [h1, hv]
  exact (I.cell j).trans hcell
/-- A register, written. -/
theorem AO.reg (h : AO W0 W lo hi v1 v3 v4 v5 vs bs n n4 i ls) {j m k : Nat} {a : Option Addr} {c' : Nat} (hm : ls[j]? = some m) (hu : vs[j]? = some (.slice a m c')) (hk : k < m) :
    ∃ g cs x, a = some ⟨g, 0, none⟩ ∧ m ≤ c' ∧ IsS W g 2 cs ∧ cs.length = c' ∧ cs[k]? = some (.int .i64 x) ∧ ∀ (y : Int) (W' : World), Upd W W' g → IsS W' g 2 (cs.set k (.int .i64 y)) → AO W0 W' lo hi v1 v3 v4 v5 vs bs n n4 i ls := by
  obtain ⟨xss, hl, o⟩ := h.rg
  have hjl : j < xss.length := by
    have := (List.getElem?_eq_some_iff.1 hm).1
    rw [← hl, List.length_map] at this
    exact this
  have e1 : xss[j].length = m := by
    rw [← hl, List.getElem?_map, List.getElem?_eq_getElem hjl] at hm
    exact Option.some.inj hm
  have hr := o.row j _ xss[j] hu (List.getElem?_eq_getElem hjl)
  rw [e1] at hr
  obtain ⟨g, c, cs, hv, hg, I, ht, hc, hmx, hs⟩ := own_opn hr (by omega)
  cases hv
  obtain ⟨x, hx⟩ : ∃ x, xss[j][k]? = some x := ⟨xss[j][k]'(by omega), List.getElem?_eq_getElem (by omega)⟩
  refine ⟨g, cs, x, rfl, hc, I, hs, (by have := cell_of ht hx; rw [Nat.zero_add] at this; exact this), fun y W' U I' => ?_⟩
  have hgh : g < hi := h.r1 _ (.inr (.inr (.inr (.inr (List.mem_of_getElem? hu))))) g rfl
  obtain ⟨x1, l1, o1⟩ := h.pc
  obtain ⟨x2, l2, o2⟩ := h.mm
  refine ⟨h.out.upd U (.inl ⟨hg, hgh⟩), ⟨x1, l1, own_upd o1 I U (by decide)⟩, ⟨x2, l2, own_same o2 fun k hk => U.block k (fun e => h.am j _ g hu rfl (by rw [hk, e]))⟩, ⟨xss.set j (xss[j].set k y), ?_, ?_⟩, h.am, own_upd h.bf I U (by decide), fun a u hu => ?_, h.ba, h.r1, h.r2⟩
  · rw [List.map_set, List.length_set, hl]
    refine List.ext_getElem? fun q => ?_
    rw [List.getElem?_set]
    split
    · rename_i e; subst e
      rw [if_pos (by rw [← hl, List.length_map]; exact hjl), hm, e1]
    · rfl
  · refine o.setRowZ (us := [.slice (some ⟨g, 0, none⟩) m c']) (rj := xss[j]) (fr_one (o := 0) (n := m) (c := c') (One.of_upd U) _ (by simp)) hu (List.getElem?_eq_getElem hjl) (by rw [List.length_set]) ?_ (fun x hx => .inl (by simpa using hx))
    rw [e1]
    exact put_own hg (by rw [Nat.zero_add]; exact I') ht hc hmx hs
  · obtain ⟨m, zs, hm, o⟩ := h.bb a u hu
    exact ⟨m, zs, hm, own_upd o I U (by decide)⟩
/-- A thread's buffer, as it is read. -/
theorem AO.buf (h : AO W0 W lo hi v1 v3 v4 v5 vs bs n n4 i ls) {j : Nat} (hj : j < n) :
    ∃ g c cs u m xs, v5 = .slice (some ⟨g, 0, none⟩) n c ∧ n ≤ c ∧ IsS W g 48 cs ∧ cs.length = c ∧ cs[j]? = some u ∧ bs[j]? = some u ∧ m ≤ 1048576 + i ∧ W.ownsRow lo 50 2 u m xs := by
  obtain ⟨g, c, cs, hv, hg, I, ht, hc, hm, hs⟩ := own_opn h.bf (by omega)
  have hlb : bs.length = n := own_len h.bf
  obtain ⟨u, hu⟩ : ∃ x, bs[j]? = some x := ⟨_, List.getElem?_eq_getElem (by omega)⟩
  obtain ⟨m, xs, hm1, o⟩ := h.bb j u hu
  have hcell : cs[j]? = some u := by
    have hu2 := hu
    rw [← ht, List.getElem?_take, if_pos hj] at hu2
    exact hu2
  exact ⟨g, c, cs, u, m, xs, hv, hc, I, hs, hcell, hu, hm1, o⟩
/-- A buffer that has grown, put in its place. -/
theorem AO.grow (h : AO W0 W lo hi v1 v3 v4 v5 vs bs n n4 i ls) {j g m c : Nat} {u u' : Value} {xs zs cs : List Value} {W1 W2 : World} (hv : v5 = .slice (some ⟨g, 0, none⟩) n c) (hcs : cs.length = c) (I : IsS W g 48 cs) (hu : bs[j]? = some u) (hm : m ≤ 1048576 + i)
    (o : W.ownsRow lo 50 2 u m xs) (O : W.grownBy W1 u.ownBlock) (o' : W1.ownsRow lo 50 2 u' (m + 1) zs) (hk' : ∀ k, u'.ownBlock = some k → u.ownBlock = some k ∨ W.heap.size ≤ k)
    (U : Upd W1 W2 g) (I' : IsS W2 g 48 (cs.set j u')) : AO W0 W2 lo hi v1 v3 v4 v5 vs (bs.set j u') n n4 (i + 1) ls := by
  have hbs := h.out.size
  have hum := List.mem_of_getElem? hu
  have hjn : j < bs.length := (List.getElem?_eq_some_iff.1 hu).1
  have hgl : lo ≤ g ∧ g < hi := ⟨(own_lt h.bf (k := g) (by rw [hv]; rfl)).1, h.r1 v5 (by simp) g (by rw [hv]; rfl)⟩
  have up1 : ∀ {t z n' : Nat} {v : Value} {ys : List Value}, W.ownsRow lo t z v n' ys → t ≠ 50 → W1.ownsRow lo t z v n' ys := fun ho ht => own_same ho fun k hk1 => O.block k (own_lt ho hk1).2 (fun e => own_diff ho o ht hk1 e.symm)
  have I1 : IsS W1 g 48 cs := (O.block g I.lt (fun e => isS_own_ne o I (by decide) e.symm)).trans I
  have up2 : ∀ {t z n' : Nat} {v : Value} {ys : List Value}, W.ownsRow lo t z v n' ys → t ≠ 50 → t ≠ 48 → W2.ownsRow lo t z v n' ys := fun ho ht ht2 => own_upd (up1 ho ht) I1 U ht2
  obtain ⟨x1, l1, o1⟩ := h.pc
  obtain ⟨x2, l2, o2⟩ := h.mm
  obtain ⟨x3, l3, o3⟩ := h.rg
  have hfar : ∀ (a : Nat) y, a ≠ j → bs[a]? = some y → ∀ k, y.ownBlock = some k → some k ≠ u.ownBlock ∧ u'.ownBlock ≠ some k := fun a y ha hy k hk1 => by
    obtain ⟨my, ys, _, oy⟩ := h.bb a y hy
    have hlt := (own_lt oy hk1).2
    have hne2 := h.ba a j y u k ha hy hu hk1
    refine ⟨fun e => hne2 e.symm, fun e => ?_⟩
    rcases hk' k e with e1 | e1
    · exact hne2 e1
    · omega
  refine ⟨(h.out.grown O fun k e => (h.r2 u hum k e).imp (fun h1 => ⟨(own_lt o e).1, h1⟩) id).upd U (.inl hgl), ⟨x1, l1, up2 o1 (by decide) (by decide)⟩, ⟨x2, l2, up2 o2 (by decide) (by decide)⟩, ⟨x3, l3, o3.len, up2 o3.out (by decide) (by decide), fun a y ys hy hz => up2 (o3.row a y ys hy hz) (by decide) (by decide), o3.apart⟩, h.am, ?_, fun a y hy => ?_, fun a b y z k hab hy hz hk1 hk2 => ?_, h.r1, fun v hvm k hk1 => ?_⟩
  · obtain ⟨g2, c2, cs2, hv2, hg2, I2, ht2, hc2, hm2, hs2⟩ := own_opn h.bf (by rw [own_len h.bf] at hjn; omega)
    rw [hv] at hv2
    cases hv2
    have e2 : cs2 = cs := by
      unfold IsS at I2 I
      rw [I] at I2
      simpa using (Option.some.inj I2).symm
    subst e2
    rw [hv]
    exact own_cls hg2 I' (by rw [take_set, ht2]) hc2 hm2 (by rw [List.length_set]; exact hs2)
  · rw [List.getElem?_set] at hy
    split at hy
    · cases hy
      exact ⟨m + 1, zs, by omega, own_upd o' I1 U (by decide)⟩
    · rename_i hne3
      obtain ⟨my, ys, hmy, oy⟩ := h.bb a y hy
      refine ⟨my, ys, by omega, own_upd (own_same oy fun k hk1 => O.block k (own_lt oy hk1).2 (hfar a y (Ne.symm hne3) hy k hk1).1) I1 U (by decide)⟩
  · rw [List.getElem?_set] at hy hz
    split at hy
    · rename_i e; subst e
      cases hy
      rw [if_neg hab] at hz
      exact (hfar b z (Ne.symm hab) hz k hk2).2 hk1
    · rename_i hne3
      split at hz
      · cases hz
        exact (hfar a y (Ne.symm hne3) hy k hk1).2 hk2
      · exact h.ba a b y z k hab hy hz hk1 hk2
  · obtain ⟨a, ha⟩ := List.mem_iff_getElem?.1 hvm
    rw [List.getElem?_set] at ha
    split at ha
    · cases ha
      rcases hk' k hk1 with e1 | e1
      · exact h.r2 u hum k e1
      · exact .inr (by omega)
    · exact h.r2 v (List.mem_of_getElem? ha) k hk1
end
/-- An append of one element or more: where the new slice lies. -/
theorem run_appZ {w : World} {t T k by' : Nat} {z : Value} (E : Elt t T k z by') (B : Nat) (v : Value) (n : Nat) (xs : List Value) (hown : w.ownsRow B t k v n xs) (bq m c : Nat) (cs : List Value) (hT : IsS w bq t cs) (hl : cs.length = m * k) (h1 : ∀ x ∈ cs, x.oneCell' = true) (hm : 0 < m) (hn : n + m ≤ 4194304) (hB : B ≤ w.heap.size) (ty : TypeId) :
    ∃ g cap w', (Builtin.append_ #[T, T] ty #[v, .slice (some ⟨bq, 0, none⟩) m c]).run Try.prog w = .ok (.slice (some ⟨g, 0, none⟩) (n + m) cap) w' ∧ w'.ownsRow B t k (.slice (some ⟨g, 0, none⟩) (n + m) cap) (n + m) (xs ++ cs) ∧ w.grownBy w' v.ownBlock ∧ (v.ownBlock = some g ∨ g = w.heap.size) := by
  obtain ⟨i0, hi, hz, hs, hby⟩ := E.info
  have hfew := E.few
  have hb : (n + m) * by' ≤ 140737488355328 := Nat.le_trans (Nat.mul_le_mul hn hfew) (by decide)
  obtain ⟨g, cap, w', hr, h2, h3, h4, _⟩ := run_append_lies (P := Try.prog) w T ty B t i0 z k by' E.und hi hz hs hby E.cells E.pos v n xs hown ⟨bq, 0, none⟩ m c cs hl (fun j y hj => by rw [Addr.add_mid, Nat.zero_add]; exact (hT.cell j).trans hj) h1 hm (by unfold maxLen; omega) hb hB _ rfl
  exact ⟨g, cap, w', hr, h2, h3, h4⟩
theorem isS_gb {w W : World} {k t : Nat} {u : Value} {cs : List Value} (h : IsS w k t cs) (G : w.grownBy W u.ownBlock) (hne : u.ownBlock ≠ some k) : IsS W k t cs := (G.block k h.lt (fun e => hne e.symm)).trans h
theorem gb_below {w W W' : World} {row : Option Nat} (h : w.grownBy W row) (hB : Below W.heap.size W W') : w.grownBy W' row :=
  ⟨hB.os.trans h.os, hB.tape.trans h.tape, hB.output.trans h.output, Nat.le_trans h.size hB.size, fun k hk hn => (hB.block k (Nat.lt_of_lt_of_le hk h.size)).trans (h.block k hk hn)⟩
theorem gb_drew (w : World) (row : Option Nat) : w.grownBy { w with drawn := w.drawn + 1 } row := ⟨rfl, rfl, rfl, Nat.le_refl _, fun _ _ _ => rfl⟩
theorem gb_trans {w W W' : World} {row : Option Nat} (h : w.grownBy W row) (h' : W.grownBy W' row) : w.grownBy W' row :=
  ⟨h'.os.trans h.os, h'.tape.trans h.tape, h'.output.trans h.output, Nat.le_trans h.size h'.size, fun k hk hn => (h'.block k (Nat.lt_of_lt_of_le hk h.size) hn).trans (h.block k hk hn)⟩
end Go.Proofs.Ytegpnicajlndlaa
