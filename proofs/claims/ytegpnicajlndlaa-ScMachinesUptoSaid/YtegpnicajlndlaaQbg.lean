/- RR2, QE -/
import Derived.Test.YtegpnicajlndlaaQbf
import Derived.Test.YtegpnicajlndlaaQax
import Derived.Test.YtegpnicajlndlaaQap
import Derived.Test.YtegpnicajlndlaaQD
namespace Go.Proofs.Ytegpnicajlndlaa
open Go.RowKit M
set_option linter.unusedSimpArgs false
set_option linter.unusedVariables false
theorem own_one {w W : World} {B b t s n t' : Nat} {v : Value} {xs cs : List Value} (h : w.ownsRow B t s v n xs) (hr : IsS w b t' cs) (ht : t ≠ t') (O : One w W b) : W.ownsRow B t s v n xs :=
 own_same h fun k hk => O.block k (own_lt h hk).2 (fun e => isS_own_ne h hr ht (by rw [hk, e]))
structure LR (w : World) (T : ByteArray) (b2 b4 b7 b8 : Nat) (PG : List Value) (W : World) (r : RD) (vp vh vg vm vb : Value) (pc ph : List Int) (rgV : List Value) (mm : List Int) (bfV : List Value) (rows : List (Value × List Int)) (brows : List (Value × List (Int × Int))) : Prop where
 rd : RrS W b7 T r
 s8 : IsS W b8 32 [vp, vh, vg, vm, vb, .int .i64 0]
 c2 : IsS W b2 28 PG
 z4 : IsS W b4 32 zst
 pc : W.ownsRow w.heap.size 3 1 vp pc.length (pc.flatMap intE)
 ph : W.ownsRow w.heap.size 3 1 vh ph.length (ph.flatMap intE)
 rg : W.ownsRow w.heap.size 26 1 vg rgV.length rgV
 mm : W.ownsRow w.heap.size 2 1 vm mm.length (mm.flatMap intE)
 bf : W.ownsRow w.heap.size 48 1 vb bfV.length bfV
 rr : ∀ x ∈ rows, W.ownsRow w.heap.size 2 1 x.1 x.2.length (x.2.flatMap intE)
 bb : ∀ x ∈ brows, W.ownsRow w.heap.size 50 2 x.1 x.2.length (x.2.flatMap wrE)
 er : rgV = rows.map (·.1)
 eb : bfV = brows.map (·.1)
 d1 : Apart vp vh
 dm : ∀ x ∈ rows, Apart x.1 vm
 d8 : b4 ≠ b8
 bel : Below w.heap.size w W
 low : w.heap.size ≤ b4 ∧ w.heap.size ≤ b7 ∧ w.heap.size ≤ b8
section
variable {w W W' : World} {T : ByteArray} {b2 b4 b7 b8 : Nat} {PG : List Value} {r r' : RD} {vp vh vg vm vb : Value} {pc ph : List Int} {rgV : List Value} {mm : List Int} {bfV : List Value} {rows : List (Value × List Int)} {brows : List (Value × List (Int × Int))}
theorem LR.one (h : LR w T b2 b4 b7 b8 PG W r vp vh vg vm vb pc ph rgV mm bfV rows brows) (R : RrS W' b7 T r') (O : One W W' b7) : LR w T b2 b4 b7 b8 PG W' r' vp vh vg vm vb pc ph rgV mm bfV rows brows :=
 ⟨R, isS_one h.s8 h.rd (by decide) O, isS_one h.c2 h.rd (by decide) O, isS_one h.z4 h.rd (by decide) O, own_one h.pc h.rd (by decide) O, own_one h.ph h.rd (by decide) O, own_one h.rg h.rd (by decide) O, own_one h.mm h.rd (by decide) O, own_one h.bf h.rd (by decide) O,
  fun x hx => own_one (h.rr x hx) h.rd (by decide) O, fun x hx => own_one (h.bb x hx) h.rd (by decide) O, h.er, h.eb, h.d1, h.dm, h.d8, one_below h.bel O h.low.2.1 h.bel.size, h.low⟩
theorem LR.below (h : LR w T b2 b4 b7 b8 PG W r vp vh vg vm vb pc ph rgV mm bfV rows brows) (B : Below W.heap.size W W') : LR w T b2 b4 b7 b8 PG W' r vp vh vg vm vb pc ph rgV mm bfV rows brows :=
 ⟨IsS.grown h.rd B, h.s8.grown B, h.c2.grown B, h.z4.grown B, own_belowY h.pc B, own_belowY h.ph B, own_belowY h.rg B, own_belowY h.mm B, own_belowY h.bf B, fun x hx => own_belowY (h.rr x hx) B, fun x hx => own_belowY (h.bb x hx) B, h.er, h.eb, h.d1, h.dm, h.d8, Below.then h.bel B, h.low⟩
theorem LR.grow {B t s n : Nat} {v : Value} {xs : List Value} (h : LR w T b2 b4 b7 b8 PG W r vp vh vg vm vb pc ph rgV mm bfV rows brows) (ho : W.ownsRow w.heap.size t s v n xs) (hg : W.grownBy W' v.ownBlock)
    (t1 : t ≠ 32 ∧ t ≠ 28 ∧ t ≠ 111) : RrS W' b7 T r ∧ IsS W' b8 32 [vp, vh, vg, vm, vb, .int .i64 0] ∧ IsS W' b2 28 PG ∧ IsS W' b4 32 zst ∧ Below w.heap.size w W' :=
 ⟨isS_grow h.rd ho hg (Ne.symm t1.2.2), isS_grow h.s8 ho hg (Ne.symm t1.1), isS_grow h.c2 ho hg (Ne.symm t1.2.1), isS_grow h.z4 ho hg (Ne.symm t1.1), grown_below h.bel h.bel.size ho hg⟩
end
theorem own_keep {w W' : World} {B B' t s n t' s' n' : Nat} {v u : Value} {xs ys : List Value} (h : w.ownsRow B t s v n xs) (hu : w.ownsRow B' t' s' u n' ys) (ht : t' ≠ t) (hg : w.grownBy W' v.ownBlock) : W'.ownsRow B' t' s' u n' ys :=
 own_same hu fun k hk => hg.block k (own_lt hu hk).2 (fun e => own_diff hu h ht hk e.symm)
section
variable {w W W' W'' : World} {T : ByteArray} {b2 b4 b7 b8 : Nat} {PG : List Value} {r r' : RD} {vp vh vg vm vb v' : Value} {pc ph : List Int} {rgV : List Value} {mm : List Int} {bfV : List Value} {rows : List (Value × List Int)} {brows : List (Value × List (Int × Int))}
theorem LR.fr {t s n : Nat} {v : Value} {xs : List Value} (h : LR w T b2 b4 b7 b8 PG W r vp vh vg vm vb pc ph rgV mm bfV rows brows) (ho : W.ownsRow w.heap.size t s v n xs) (G : W.grownBy W' v.ownBlock)
    (t1 : t ≠ 32 ∧ t ≠ 28 ∧ t ≠ 111) (U : Upd W' W'' b8) : RrS W'' b7 T r ∧ IsS W'' b2 28 PG ∧ IsS W'' b4 32 zst ∧ Below w.heap.size w W'' ∧ IsS W' b8 32 [vp, vh, vg, vm, vb, .int .i64 0] := by
 obtain ⟨q1, q2, q3, q4, q5⟩ := h.grow (B := w.heap.size) ho G t1
 exact ⟨isS_updT q1 q2 (by decide) U, isS_updT q3 q2 (by decide) U, q4.upd U h.d8, U.trans q5 h.low.2.2, q2⟩
theorem LR.appPc {x : Int} (h : LR w T b2 b4 b7 b8 PG W r vp vh vg vm vb pc ph rgV mm bfV rows brows) (O : W'.ownsRow w.heap.size 3 1 v' (pc.length + 1) (pc.flatMap intE ++ [.int .i64 x])) (G : W.grownBy W' vp.ownBlock) (WH : Where W vp v') (U : Upd W' W'' b8) (I : IsS W'' b8 32 [v', vh, vg, vm, vb, .int .i64 0]) : LR w T b2 b4 b7 b8 PG W'' r v' vh vg vm vb (pc ++ [x]) ph rgV mm bfV rows brows := by
 obtain ⟨q1, q3, q4, q5, q2⟩ := h.fr h.pc G (by decide) U
 have O' : W'.ownsRow w.heap.size 3 1 v' (pc ++ [x]).length ((pc ++ [x]).flatMap intE) := by rw [List.length_append, List.flatMap_append]; exact O
 exact ⟨q1, I, q3, q4, own_upd O' q2 U (by decide), own_upd (own_apart h.pc h.ph h.d1.symm G) q2 U (by decide), own_upd (own_keep h.pc h.rg (by decide) G) q2 U (by decide), own_upd (own_keep h.pc h.mm (by decide) G) q2 U (by decide), own_upd (own_keep h.pc h.bf (by decide) G) q2 U (by decide), fun x hx => own_upd (own_keep h.pc (h.rr x hx) (by decide) G) q2 U (by decide), fun x hx => own_upd (own_keep h.pc (h.bb x hx) (by decide) G) q2 U (by decide), h.er, h.eb, (WH.apart h.ph h.d1.symm).symm, h.dm, h.d8, q5, h.low⟩
theorem LR.appPh {x : Int} (h : LR w T b2 b4 b7 b8 PG W r vp vh vg vm vb pc ph rgV mm bfV rows brows) (O : W'.ownsRow w.heap.size 3 1 v' (ph.length + 1) (ph.flatMap intE ++ [.int .i64 x])) (G : W.grownBy W' vh.ownBlock) (WH : Where W vh v') (U : Upd W' W'' b8) (I : IsS W'' b8 32 [vp, v', vg, vm, vb, .int .i64 0]) : LR w T b2 b4 b7 b8 PG W'' r vp v' vg vm vb pc (ph ++ [x]) rgV mm bfV rows brows := by
 obtain ⟨q1, q3, q4, q5, q2⟩ := h.fr h.ph G (by decide) U
 have O' : W'.ownsRow w.heap.size 3 1 v' (ph ++ [x]).length ((ph ++ [x]).flatMap intE) := by rw [List.length_append, List.flatMap_append]; exact O
 exact ⟨q1, I, q3, q4, own_upd (own_apart h.ph h.pc h.d1 G) q2 U (by decide), own_upd O' q2 U (by decide), own_upd (own_keep h.ph h.rg (by decide) G) q2 U (by decide), own_upd (own_keep h.ph h.mm (by decide) G) q2 U (by decide), own_upd (own_keep h.ph h.bf (by decide) G) q2 U (by decide), fun x hx => own_upd (own_keep h.ph (h.rr x hx) (by decide) G) q2 U (by decide), fun x hx => own_upd (own_keep h.ph (h.bb x hx) (by decide) G) q2 U (by decide), h.er, h.eb, WH.apart h.pc h.d1, h.dm, h.d8, q5, h.low⟩
theorem LR.appMm {x : Int} (h : LR w T b2 b4 b7 b8 PG W r vp vh vg vm vb pc ph rgV mm bfV rows brows) (O : W'.ownsRow w.heap.size 2 1 v' (mm.length + 1) (mm.flatMap intE ++ [.int .i64 x])) (G : W.grownBy W' vm.ownBlock) (WH : Where W vm v') (U : Upd W' W'' b8) (I : IsS W'' b8 32 [vp, vh, vg, v', vb, .int .i64 0]) : LR w T b2 b4 b7 b8 PG W'' r vp vh vg v' vb pc ph rgV (mm ++ [x]) bfV rows brows := by
 obtain ⟨q1, q3, q4, q5, q2⟩ := h.fr h.mm G (by decide) U
 have O' : W'.ownsRow w.heap.size 2 1 v' (mm ++ [x]).length ((mm ++ [x]).flatMap intE) := by rw [List.length_append, List.flatMap_append]; exact O
 exact ⟨q1, I, q3, q4, own_upd (own_keep h.mm h.pc (by decide) G) q2 U (by decide), own_upd (own_keep h.mm h.ph (by decide) G) q2 U (by decide), own_upd (own_keep h.mm h.rg (by decide) G) q2 U (by decide), own_upd O' q2 U (by decide), own_upd (own_keep h.mm h.bf (by decide) G) q2 U (by decide), fun x hx => own_upd (own_apart h.mm (h.rr x hx) (h.dm x hx) G) q2 U (by decide), fun x hx => own_upd (own_keep h.mm (h.bb x hx) (by decide) G) q2 U (by decide), h.er, h.eb, h.d1, fun x hx => WH.apart (h.rr x hx) (h.dm x hx), h.d8, q5, h.low⟩
theorem LR.appRg {u : Value} {l : List Int} (h : LR w T b2 b4 b7 b8 PG W r vp vh vg vm vb pc ph rgV mm bfV rows brows) (O : W'.ownsRow w.heap.size 26 1 v' (rgV.length + 1) (rgV ++ [u])) (G : W.grownBy W' vg.ownBlock) (hu : W.ownsRow w.heap.size 2 1 u l.length (l.flatMap intE)) (hd : Apart u vm) (U : Upd W' W'' b8) (I : IsS W'' b8 32 [vp, vh, v', vm, vb, .int .i64 0]) : LR w T b2 b4 b7 b8 PG W'' r vp vh v' vm vb pc ph (rgV ++ [u]) mm bfV (rows ++ [(u, l)]) brows := by
 obtain ⟨q1, q3, q4, q5, q2⟩ := h.fr h.rg G (by decide) U
 have O' : W'.ownsRow w.heap.size 26 1 v' (rgV ++ [u]).length (rgV ++ [u]) := by rw [List.length_append]; exact O
 refine ⟨q1, I, q3, q4, own_upd (own_keep h.rg h.pc (by decide) G) q2 U (by decide), own_upd (own_keep h.rg h.ph (by decide) G) q2 U (by decide), own_upd O' q2 U (by decide), own_upd (own_keep h.rg h.mm (by decide) G) q2 U (by decide), own_upd (own_keep h.rg h.bf (by decide) G) q2 U (by decide), fun x hx => ?_, fun x hx => own_upd (own_keep h.rg (h.bb x hx) (by decide) G) q2 U (by decide), by rw [List.map_append, h.er]; rfl, h.eb, h.d1, fun x hx => ?_, h.d8, q5, h.low⟩
 · rcases List.mem_append.1 hx with hx | hx
   · exact own_upd (own_keep h.rg (h.rr x hx) (by decide) G) q2 U (by decide)
   · simp only [List.mem_singleton] at hx; subst hx; exact own_upd (own_keep h.rg hu (by decide) G) q2 U (by decide)
 · rcases List.mem_append.1 hx with hx | hx
   · exact h.dm x hx
   · simp only [List.mem_singleton] at hx; subst hx; exact hd
theorem LR.appBf {u : Value} {l : List (Int × Int)} (h : LR w T b2 b4 b7 b8 PG W r vp vh vg vm vb pc ph rgV mm bfV rows brows) (O : W'.ownsRow w.heap.size 48 1 v' (bfV.length + 1) (bfV ++ [u])) (G : W.grownBy W' vb.ownBlock) (hu : W.ownsRow w.heap.size 50 2 u l.length (l.flatMap wrE)) (U : Upd W' W'' b8) (I : IsS W'' b8 32 [vp, vh, vg, vm, v', .int .i64 0]) : LR w T b2 b4 b7 b8 PG W'' r vp vh vg vm v' pc ph rgV mm (bfV ++ [u]) rows (brows ++ [(u, l)]) := by
 obtain ⟨q1, q3, q4, q5, q2⟩ := h.fr h.bf G (by decide) U
 have O' : W'.ownsRow w.heap.size 48 1 v' (bfV ++ [u]).length (bfV ++ [u]) := by rw [List.length_append]; exact O
 refine ⟨q1, I, q3, q4, own_upd (own_keep h.bf h.pc (by decide) G) q2 U (by decide), own_upd (own_keep h.bf h.ph (by decide) G) q2 U (by decide), own_upd (own_keep h.bf h.rg (by decide) G) q2 U (by decide), own_upd (own_keep h.bf h.mm (by decide) G) q2 U (by decide), own_upd O' q2 U (by decide), fun x hx => own_upd (own_keep h.bf (h.rr x hx) (by decide) G) q2 U (by decide), fun x hx => ?_, h.er, by rw [List.map_append, h.eb]; rfl, h.d1, h.dm, h.d8, q5, h.low⟩
 rcases List.mem_append.1 hx with hx | hx
 · exact own_upd (own_keep h.bf (h.bb x hx) (by decide) G) q2 U (by decide)
 · simp only [List.mem_singleton] at hx; subst hx; exact own_upd (own_keep h.bf hu (by decide) G) q2 U (by decide)
theorem LR.grow2 {n : Nat} {v : Value} {xs : List Value} (h : LR w T b2 b4 b7 b8 PG W r vp vh vg vm vb pc ph rgV mm bfV rows brows) (ho : W.ownsRow w.heap.size 2 1 v n xs) (G : W.grownBy W' v.ownBlock) (hm : Apart vm v) (hr : ∀ x ∈ rows, Apart x.1 v) : LR w T b2 b4 b7 b8 PG W' r vp vh vg vm vb pc ph rgV mm bfV rows brows := by
 obtain ⟨q1, q2, q3, q4, q5⟩ := h.grow (B := w.heap.size) ho G (by decide)
 exact ⟨q1, q2, q3, q4, own_keep ho h.pc (by decide) G, own_keep ho h.ph (by decide) G, own_keep ho h.rg (by decide) G, own_apart ho h.mm hm G, own_keep ho h.bf (by decide) G, fun x hx => own_apart ho (h.rr x hx) (hr x hx) G, fun x hx => own_keep ho (h.bb x hx) (by decide) G, h.er, h.eb, h.d1, h.dm, h.d8, q5, h.low⟩
end
theorem less_irr : ∀ l : List UInt8, Op.bytesLess l l = false
 | [] => rfl
 | a :: l => by simp [Op.bytesLess, less_irr l]
theorem less_trans : ∀ (a b c : List UInt8), Op.bytesLess a b = true → Op.bytesLess b c = true → Op.bytesLess a c = true
 | [], [], _, h, _ => by cases h
 | [], _ :: _, [], _, h => by cases h
 | [], _ :: _, _ :: _, _, _ => rfl
 | _ :: _, [], _, h, _ => by cases h
 | _ :: _, _ :: _, [], _, h => by cases h
 | a :: x, b :: y, c :: z, h1, h2 => by
  simp only [Op.bytesLess, Bool.or_eq_true, decide_eq_true_eq, Bool.and_eq_true, beq_iff_eq] at *
  rcases h1 with h1 | ⟨rfl, h1⟩
  · rcases h2 with h2 | ⟨rfl, h2⟩
    · exact .inl (UInt8.lt_trans h1 h2)
    · exact .inl h1
  · rcases h2 with h2 | ⟨rfl, h2⟩
    · exact .inl h2
    · exact .inr ⟨rfl, less_trans x y z h1 h2⟩
theorem ris_lt {kb : ByteArray → Bool} {l : List ByteArray} (h : RisTo kb l l.length) : ∀ (d i : Nat) (s t : ByteArray), l[i]? = some s → l[i + d + 1]? = some t → sLt s t = true := by
 intro d
 induction d with
 | zero => intro i s t hs ht; exact (h (i + 0 + 1) t (List.getElem?_eq_some_iff.1 ht).1 ht).2 s (by omega) (by simpa using hs)
 | succ d ih =>
  intro i s t hs ht
  have hlt := (List.getElem?_eq_some_iff.1 ht).1
  obtain ⟨m, hm⟩ : ∃ m, l[i + d + 1]? = some m := ⟨_, List.getElem?_eq_getElem (by omega)⟩
  exact less_trans _ _ _ (ih i s m hs hm) ((h (i + (d + 1) + 1) t hlt ht).2 m (by omega) (by rw [show i + (d + 1) + 1 - 1 = i + d + 1 by omega]; exact hm))
theorem ris_unlike {kb : ByteArray → Bool} {l : List ByteArray} (h : RisTo kb l l.length) {i j : Nat} {s t : ByteArray} (hi : l[i]? = some s) (hj : l[j]? = some t) (e : s.toList = t.toList) : i = j := by
 rcases Nat.lt_trichotomy i j with hlt | he | hlt
 · have := ris_lt h (j - i - 1) i s t hi (by rw [show i + (j - i - 1) + 1 = j by omega]; exact hj)
   unfold sLt at this; rw [e, less_irr] at this; cases this
 · exact he
 · have := ris_lt h (i - j - 1) j t s hj (by rw [show j + (i - j - 1) + 1 = i by omega]; exact hi)
   unfold sLt at this; rw [e, less_irr] at this; cases this
theorem eax_eq {kb : ByteArray → Bool} {r : List ByteArray} (h : RisTo kb r r.length) (reg : Int) : (!decide (idxO (numF r eax) < 0) && (reg == idxO (numF r eax))) = (numOk reg true r.length && eaxAt r reg) := by
 have he : eax.toList = [69, 65, 88] := by rw [toL]; rfl
 cases hn : numF r eax with
 | none =>
  have e1 : (idxO none : Int) = -1 := rfl
  rw [e1]
  have : eaxAt r reg = false := by
   unfold eaxAt
   cases hq : r[reg.toNat]? with
   | none => rfl
   | some s =>
    unfold numF at hn
    rw [List.findIdx?_eq_none_iff] at hn
    have := hn s (List.mem_of_getElem? hq)
    rw [he] at this
    exact this
  rw [this]; simp
 | some j =>
  have e1 : (idxO (some j) : Int) = j := rfl
  rw [e1]
  unfold numF at hn
  rw [List.findIdx?_eq_some_iff_getElem] at hn
  obtain ⟨hj, hx, _⟩ := hn
  rw [he] at hx
  have hjs : r[j]? = some r[j] := List.getElem?_eq_getElem hj
  have e2 : decide ((j : Int) < 0) = false := by simp
  rw [e2]
  by_cases hr : reg = j
  · subst hr
    have h3 : eaxAt r (j : Int) = true := by unfold eaxAt; rw [Int.toNat_natCast, hjs]; exact hx
    rw [h3]
    have h4 : numOk (j : Int) true r.length = true := by simp [numOk]; omega
    rw [h4]; simp
  · have h5 : (reg == (j : Int)) = false := by simpa using hr
    rw [h5]
    cases h6 : numOk reg true r.length with
    | false => simp
    | true =>
     simp [numOk] at h6
     have h7 : eaxAt r reg = false := by
      unfold eaxAt
      obtain ⟨s, hs⟩ : ∃ s, r[reg.toNat]? = some s := ⟨_, List.getElem?_eq_getElem (by omega)⟩
      rw [hs]
      cases h8 : (s.toList == [69, 65, 88]) with
      | false => exact h8
      | true =>
       have h9 : s.toList = r[j].toList := by rw [beq_iff_eq.1 h8, beq_iff_eq.1 hx]
       have := ris_unlike h hs hjs h9
       omega
     rw [h7]; simp
theorem right_eq {kb : ByteArray → Bool} {r : List ByteArray} (h : RisTo kb r r.length) (o : Op5) (nl : Nat) : rightB o r nl = opOk o r nl := by
 obtain ⟨k, reg, src, loc, imm⟩ := o
 unfold rightB opOk
 by_cases h8 : k = 8
 · subst h8
   have := eax_eq h reg
   simp only [if_true, this]
   simp only [show uOk 8 = true from rfl, show uReg 8 = false from rfl, show uSrc 8 = true from rfl, show uLoc 8 = true from rfl, show uImm 8 = false from rfl, show ((8 : Int) == 8) = true from rfl, Bool.false_or, Bool.or_true, Bool.not_true]
   cases numOk reg true r.length <;> cases eaxAt r reg <;> cases (imm == 0) <;> cases numOk src true r.length <;> cases numOk loc true nl <;> rfl
 · have h8' : (k == 8) = false := by simpa using h8
   simp only [if_neg h8, h8', Bool.or_false, Bool.not_false, Bool.true_or, Bool.and_true]
   cases uOk k <;> cases numOk reg (uReg k) r.length <;> cases numOk src (uSrc k) r.length <;> cases numOk loc (uLoc k) nl <;> cases uImm k <;> cases (imm == 0) <;> rfl
theorem name_parts (l : List ByteArray) : (risB nameK l = true) ↔ (risB anyK l = true ∧ ∀ s ∈ l, nameK s = true) := by
 rw [ris_iff, ris_iff, ris_parts]; rfl
end Go.Proofs.Ytegpnicajlndlaa
