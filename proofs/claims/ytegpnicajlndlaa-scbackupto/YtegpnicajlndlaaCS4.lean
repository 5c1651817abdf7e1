/- textOf's closure: a value's code put behind what is there. -/
import Derived.Test.YtegpnicajlndlaaCS3
import Derived.Test.YtegpnicajlndlaaWC4
import Derived.Test.YtegpnicajlndlaaQas
import Derived.Lib.AppendStr
namespace Go.Proofs.Ytegpnicajlndlaa
open Go.RowKit M
set_option linter.unusedSimpArgs false
set_option linter.unusedVariables false

/-- A variable that holds a row of bytes of one's own. -/
def Tx (W : World) (B b : Nat) (l : List UInt8) : Prop := ∃ v, IsS W b 149 [v] ∧ W.ownsRow B 5 1 v l.length (Lib.byteCells l) ∧ B ≤ b ∧ v.ownBlock ≠ some b
/-- What a call that writes such a variable leaves. -/
structure TxF (B : Nat) (W W' : World) : Prop where
  below : Below B W W'
  keep : ∀ k t cs, IsS W k t cs → t ≠ 149 → t ≠ 5 → IsS W' k t cs
theorem TxF.refl (B : Nat) (W : World) : TxF B W W := ⟨Below.refl _ _, fun _ _ _ h _ _ => h⟩
theorem TxF.trans {B : Nat} {W W' W'' : World} (h : TxF B W W') (h' : TxF B W' W'') : TxF B W W'' := ⟨h.below.trans h'.below, fun k t cs hc h1 h2 => h'.keep k t cs (h.keep k t cs hc h1 h2) h1 h2⟩
theorem isS_own_ne {W : World} {B t s n b t' : Nat} {v : Value} {xs cs : List Value} (h : W.ownsRow B t s v n xs) (hc : IsS W b t' cs) (ht : t ≠ t') : v.ownBlock ≠ some b := by
  rcases h.2 with ⟨rfl, _⟩ | ⟨g, cap, cur, rfl, _, hh, _⟩
  · intro e; cases e
  · intro e
    cases e
    rw [show W.heap[g]? = _ from hc] at hh
    cases hh
    exact ht rfl
theorem isS_ty {W : World} {b t t' : Nat} {cs cs' : List Value} (h : IsS W b t cs) (h' : IsS W b t' cs') : t = t' := by
  unfold IsS at h h'
  rw [h] at h'
  cases h'
  rfl
theorem info149 : (Try.prog.info? 149).map (·.size) = some 1 := by kernel_rfl
set_option maxRecDepth 100000 in
set_option maxHeartbeats 4000000 in
theorem putc_any (v : Int) (hv : I64 v) (B b : Nat) (l : List UInt8) (hl : l.length ≤ 1099511627776) (w : World) (hB : B ≤ w.heap.size) (hT : Tx w B b l) :
    Calls Try.prog 91 #[.int .i64 v, .pointer (some ⟨b, 0, none⟩)] w fun e w' => e = .returned (.tuple #[]) ∧ Tx w' B b (l ++ M.putL v) ∧ TxF B w w' := by
  obtain ⟨vv, hI, hO, hBb, _⟩ := hT
  obtain ⟨i0, hi, hz0, hz1, hz2⟩ := info_parts info5
  have hp10 := (M.putL_len hv.1 hv.2).2
  have hput := fun W => put_any v hv.1 hv.2 W
  obtain ⟨L, hL⟩ : ∃ L, M.putL v = L := ⟨_, rfl⟩
  rw [hL] at hp10 ⊢
  simp only [hL] at hput
  have hsz : (⟨L.toArray⟩ : ByteArray).size = L.length := rfl
  obtain ⟨S, hS⟩ : ∃ S : ByteArray, S = ⟨L.toArray⟩ := ⟨_, rfl⟩
  have HS : Hid (S = ⟨L.toArray⟩) := hS
  rw [← hS] at hsz
  simp only [← hS] at hput
  have HZ : Hid (S.size = L.length) := hsz
  have h10 : S.size ≤ 10 := by omega
  clear hL hS hv hsz
  have ta : True := trivial
  have tb : True := trivial
  go_enter Try.func91, Try.ntmps91
  refine grow_tailV 3 (by kernel_rfl) (by kernel_rfl) ?_
  simp only [List.take_succ_cons, List.take_zero]
  refine WG.load1 rfl 149 _ rfl rfl hI (v := vv) rfl (fun w h => by simp [go_sem, h]) ?_
  simp only [Act.put, List.setIfInBounds_toArray, List.set_cons_succ, List.set_cons_zero]
  refine WG.put rfl (v := .int .i64 v) (fun w => by first | rfl | (go_simp; done) | (simp [go_sem]; done)) ?_
  simp only [Act.put, List.setIfInBounds_toArray, List.set_cons_succ, List.set_cons_zero]
  refine WG.call rfl (f := 92) (v := .string S) (fun W _ => hput W) (fun w => by first | rfl | (go_simp; done) | (simp [execOp, go_sem]; done)) ?_
  simp only [Act.put, List.setIfInBounds_toArray, List.set_cons_succ, List.set_cons_zero]
  refine WG.nil ?_
  intro W1 B1
  simp only [List.drop_succ_cons, List.drop_zero]
  have I1 := hI.grown B1
  have O1 := own_belowY hO B1
  have hB1 : B ≤ W1.heap.size := Nat.le_trans hB B1.size
  refine Lib.wpList_append_own_string _ rfl _ _ 149 9 rfl B 5 i0 Try.underlying149 Try.underlying9 hi hz0 hz1 hz2 vv l.length (Lib.byteCells l) rfl O1 S rfl (by unfold maxLen; omega) (by omega) hB1 ?_
  intro v2 W2 O2 G2 _
  have I2 := isS_grow I1 O1 G2 (by decide)
  go_wp2_with (first
    | (clear tb; refine wpList_store1 rfl 149 _ _ rfl rfl v2 rfl I2 (by simp) info149 (one_own O2) ?_; intro W3 U3 I3x; have I3 : IsS W3 b 149 [v2] := I3x))
  go_end0
  have F12 : ∀ k t cs, IsS w k t cs → t ≠ 149 → t ≠ 5 → IsS W2 k t cs := fun k t cs hc _ h5 => isS_grow (hc.grown B1) O1 G2 h5
  have O2' : W2.ownsRow B 5 1 v2 (l ++ L).length (Lib.byteCells (l ++ L)) := by
    rw [Lib.byteCells_append, List.length_append, ← HZ.out]
    have := O2
    rw [HS.out] at this ⊢
    exact this
  refine ⟨rfl, ⟨v2, I3, own_upd O2' I2 U3 (by decide), hBb, isS_own_ne (own_upd O2' I2 U3 (by decide)) I3 (by decide)⟩, ?_, fun k t cs hc h1 h5 => (F12 k t cs hc h1 h5).upd U3 (fun e => ?_)⟩
  · have h2 : Below B w W2 := grown_below (B1.mono hB) hB1 O1 G2
    exact U3.trans h2 hBb
  · subst e
    exact h1 (isS_ty (F12 k t cs hc h1 h5) I2)
end Go.Proofs.Ytegpnicajlndlaa
