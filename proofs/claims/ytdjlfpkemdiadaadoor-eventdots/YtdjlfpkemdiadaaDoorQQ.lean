/- Several texts in one: PgQA, PgQB, PgQC, PgQD, PgQE. -/
import Derived.Test.YtdjlfpkemdiadaaDoorPgPX
/- uses, number, rises: the reference's side. -/
namespace Go.Proofs.YtdjlfpkemdiadaaDoor
open Go.RowKit M
set_option linter.unusedSimpArgs false
set_option linter.unusedVariables false

def useT (k : Int) : Value := .tuple #[.bool (uReg k), .bool (uSrc k), .bool (uLoc k), .bool (uImm k)]
def numF (l : List ByteArray) (s : ByteArray) : Option Nat := l.findIdx? fun x => x.toList == s.toList
theorem num_hit {l : List ByteArray} {s g : ByteArray} {j : Nat} (hg : l[j]? = some g) (h : (g.toList == s.toList) = true) (hno : ∀ i, i < j → ∀ x, l[i]? = some x → (x.toList == s.toList) = false) : numF l s = some j := by
  obtain ⟨hj, e⟩ := List.getElem?_eq_some_iff.1 hg
  unfold numF
  rw [List.findIdx?_eq_some_iff_getElem]
  refine ⟨hj, by rw [e]; exact h, fun i hi => ?_⟩
  rw [hno i hi _ (List.getElem?_eq_getElem (by omega))]; simp
theorem num_miss {l : List ByteArray} {s : ByteArray} (hno : ∀ i, i < l.length → ∀ x, l[i]? = some x → (x.toList == s.toList) = false) : numF l s = none := by
  unfold numF
  rw [List.findIdx?_eq_none_iff]
  intro x hx
  obtain ⟨i, hi⟩ := List.getElem?_of_mem hx
  exact hno i (List.getElem?_eq_some_iff.1 hi).1 x hi
theorem ris_mono {kb : ByteArray → Bool} {l : List ByteArray} {i j : Nat} (h : RisTo kb l j) (hij : i ≤ j) : RisTo kb l i := fun k s hk => h k s (by omega)
def anyK : ByteArray → Bool := fun _ => true
end Go.Proofs.YtdjlfpkemdiadaaDoor
/- right: whether an instruction can be made: the reference's side. -/
namespace Go.Proofs.YtdjlfpkemdiadaaDoor
open Go.RowKit M
set_option linter.unusedSimpArgs false
set_option linter.unusedVariables false

def eax : ByteArray := ⟨#[69, 65, 88]⟩
def rightBP (o : Op5) (regs : List ByteArray) (nl : Nat) : Bool :=
  uOk o.kind && (if o.kind = 8 then (!decide (idxO (numF regs eax) < 0) && (o.reg == idxO (numF regs eax))) else numOk o.reg (uReg o.kind) regs.length) && numOk o.src (uSrc o.kind) regs.length && numOk o.loc (uLoc o.kind) nl && (uImm o.kind || o.imm == 0)
end Go.Proofs.YtdjlfpkemdiadaaDoor
/- right: the reference's side, whole. -/
namespace Go.Proofs.YtdjlfpkemdiadaaDoor
open Go.RowKit M
set_option linter.unusedSimpArgs false
set_option linter.unusedVariables false

end Go.Proofs.YtdjlfpkemdiadaaDoor
/- registers: the reference's side. -/
namespace Go.Proofs.YtdjlfpkemdiadaaDoor
open Go.RowKit M
set_option linter.unusedSimpArgs false
set_option linter.unusedVariables false

theorem ld44 {b o : Nat} {v : Value} (w : World) (h : w.cell? ⟨b, o, none⟩ = some v) : (Instr.loadAt 25 (.pointer (some ⟨b, o, none⟩))).run Tryd.prog w = .ok v w := by simp [go_sem, h]
theorem ld45 {b o : Nat} {v : Value} (w : World) (h : w.cell? ⟨b, o, none⟩ = some v) : (Instr.loadAt 26 (.pointer (some ⟨b, o, none⟩))).run Tryd.prog w = .ok v w := by simp [go_sem, h]
theorem ld41 {b o : Nat} {v : Value} (w : World) (h : w.cell? ⟨b, o, none⟩ = some v) : (Instr.loadAt 22 (.pointer (some ⟨b, o, none⟩))).run Tryd.prog w = .ok v w := by simp [go_sem, h]
theorem ld54 {b o : Nat} {v : Value} (w : World) (h : w.cell? ⟨b, o, none⟩ = some v) : (Instr.loadAt 59 (.pointer (some ⟨b, o, none⟩))).run Tryd.prog w = .ok v w := by simp [go_sem, h]
end Go.Proofs.YtdjlfpkemdiadaaDoor
/- Names that rise are unlike; both sides ask the same of an instruction. -/
namespace Go.Proofs.YtdjlfpkemdiadaaDoor
open Go.RowKit M
set_option linter.unusedSimpArgs false
set_option linter.unusedVariables false

theorem less_irr : ∀ l : List UInt8, Op.bytesLess l l = false
  | [] => rfl
  | a :: l => by simp [Op.bytesLess, less_irr l]
theorem less_trans : ∀ (a b c : List UInt8), Op.bytesLess a b = true → Op.bytesLess b c = true → Op.bytesLess a c = true
  | [], [], _, h, _ => by cases h
  | [], _ :: _, [], _, h => by cases h
  | [], _ :: _, _ :: _, _, _ => rfl
  | _ :: _, [], _, h, _ => by cases h
  | _ :: _, _ :: _, [], _, h => by cases h
  | a :: x, b :: y, c :: z, h1, h2 => by
    simp only [Op.bytesLess, Bool.or_eq_true, decide_eq_true_eq, Bool.and_eq_true, beq_iff_eq] at *
    rcases h1 with h1 | ⟨rfl, h1⟩
    · rcases h2 with h2 | ⟨rfl, h2⟩
      · exact .inl (UInt8.lt_trans h1 h2)
      · exact .inl h1
    · rcases h2 with h2 | ⟨rfl, h2⟩
      · exact .inl h2
      · exact .inr ⟨rfl, less_trans x y z h1 h2⟩
theorem ris_lt {kb : ByteArray → Bool} {l : List ByteArray} (h : RisTo kb l l.length) : ∀ (d i : Nat) (s t : ByteArray), l[i]? = some s → l[i + d + 1]? = some t → sLt s t = true := by
  intro d
  induction d with
  | zero => intro i s t hs ht; exact (h (i + 0 + 1) t (List.getElem?_eq_some_iff.1 ht).1 ht).2 s (by omega) (by simpa using hs)
  | succ d ih =>
    intro i s t hs ht
    have hlt := (List.getElem?_eq_some_iff.1 ht).1
    obtain ⟨m, hm⟩ : ∃ m, l[i + d + 1]? = some m := ⟨_, List.getElem?_eq_getElem (by omega)⟩
    exact less_trans _ _ _ (ih i s m hs hm) ((h (i + (d + 1) + 1) t hlt ht).2 m (by omega) (by rw [show i + (d + 1) + 1 - 1 = i + d + 1 by omega]; exact hm))
theorem ris_unlike {kb : ByteArray → Bool} {l : List ByteArray} (h : RisTo kb l l.length) {i j : Nat} {s t : ByteArray} (hi : l[i]? = some s) (hj : l[j]? = some t) (e : s.toList = t.toList) : i = j := by
  rcases Nat.lt_trichotomy i j with hlt | he | hlt
  · have := ris_lt h (j - i - 1) i s t hi (by rw [show i + (j - i - 1) + 1 = j by omega]; exact hj)
    unfold sLt at this; rw [e, less_irr] at this; cases this
  · exact he
  · have := ris_lt h (i - j - 1) j t s hj (by rw [show j + (i - j - 1) + 1 = i by omega]; exact hi)
    unfold sLt at this; rw [e, less_irr] at this; cases this
theorem eax_eq {kb : ByteArray → Bool} {r : List ByteArray} (h : RisTo kb r r.length) (reg : Int) : (!decide (idxO (numF r eax) < 0) && (reg == idxO (numF r eax))) = (numOk reg true r.length && eaxAt r reg) := by
  have he : eax.toList = [69, 65, 88] := by rw [toL]; rfl
  cases hn : numF r eax with
  | none =>
    have e1 : (idxO none : Int) = -1 := rfl
    rw [e1]
    have : eaxAt r reg = false := by
      unfold eaxAt
      cases hq : r[reg.toNat]? with
      | none => rfl
      | some s =>
        unfold numF at hn
        rw [List.findIdx?_eq_none_iff] at hn
        have := hn s (List.mem_of_getElem? hq)
        rw [he] at this
        exact this
    rw [this]; simp
  | some j =>
    have e1 : (idxO (some j) : Int) = j := rfl
    rw [e1]
    unfold numF at hn
    rw [List.findIdx?_eq_some_iff_getElem] at hn
    obtain ⟨hj, hx, _⟩ := hn
    rw [he] at hx
    have hjs : r[j]? = some r[j] := List.getElem?_eq_getElem hj
    have e2 : decide ((j : Int) < 0) = false := by simp
    rw [e2]
    by_cases hr : reg = j
    · subst hr
      have h3 : eaxAt r (j : Int) = true := by unfold eaxAt; rw [Int.toNat_natCast, hjs]; exact hx
      rw [h3]
      have h4 : numOk (j : Int) true r.length = true := by simp [numOk]; omega
      rw [h4]; simp
    · have h5 : (reg == (j : Int)) = false := by simpa using hr
      rw [h5]
      cases h6 : numOk reg true r.length with
      | false => simp
      | true =>
        simp [numOk] at h6
        have h7 : eaxAt r reg = false := by
          unfold eaxAt
          obtain ⟨s, hs⟩ : ∃ s, r[reg.toNat]? = some s := ⟨_, List.getElem?_eq_getElem (by omega)⟩
          rw [hs]
          cases h8 : (s.toList == [69, 65, 88]) with
          | false => exact h8
          | true =>
            have h9 : s.toList = r[j].toList := by rw [beq_iff_eq.1 h8, beq_iff_eq.1 hx]
            have := ris_unlike h hs hjs h9
            omega
        rw [h7]; simp
theorem right_eq {kb : ByteArray → Bool} {r : List ByteArray} (h : RisTo kb r r.length) (o : Op5) (nl : Nat) : rightBP o r nl = opOk o r nl := by
  obtain ⟨k, reg, src, loc, imm⟩ := o
  unfold rightBP opOk
  by_cases h8 : k = 8
  · subst h8
    have := eax_eq h reg
    simp only [if_true, this]
    simp only [show uOk 8 = true from rfl, show uReg 8 = false from rfl, show uSrc 8 = true from rfl, show uLoc 8 = true from rfl, show uImm 8 = false from rfl, show ((8 : Int) == 8) = true from rfl, Bool.false_or, Bool.or_true, Bool.not_true]
    cases numOk reg true r.length <;> cases eaxAt r reg <;> cases (imm == 0) <;> cases numOk src true r.length <;> cases numOk loc true nl <;> rfl
  · have h8' : (k == 8) = false := by simpa using h8
    simp only [if_neg h8, h8', Bool.or_false, Bool.not_false, Bool.true_or, Bool.and_true]
    cases uOk k <;> cases numOk reg (uReg k) r.length <;> cases numOk src (uSrc k) r.length <;> cases numOk loc (uLoc k) nl <;> cases uImm k <;> cases (imm == 0) <;> rfl
theorem name_parts (l : List ByteArray) : (risB nameK l = true) ↔ (risB anyK l = true ∧ ∀ s ∈ l, nameK s = true) := by
  rw [ris_iff, ris_iff, ris_parts]; rfl
end Go.Proofs.YtdjlfpkemdiadaaDoor
