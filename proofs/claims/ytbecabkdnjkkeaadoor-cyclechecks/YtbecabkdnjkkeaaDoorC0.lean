/- Cycles of edges in plain mathematics. -/
import Derived.Test.YtbecabkdnjkkeaaDoorKB
namespace Go.Proofs.YtbecabkdnjkkeaaDoor
open Go Go.RowKit M
set_option linter.unusedSimpArgs false
set_option linter.unusedVariables false

/-- The edges: names, and what there is to say of them. -/
def NMS : List ByteArray := [⟨#[82, 102, 101]⟩, ⟨#[82, 102, 105]⟩, ⟨#[70, 114, 101]⟩, ⟨#[70, 114, 105]⟩, ⟨#[67, 111, 101]⟩, ⟨#[67, 111, 105]⟩, ⟨#[80, 111, 100, 82, 82]⟩, ⟨#[80, 111, 100, 82, 87]⟩, ⟨#[80, 111, 100, 87, 82]⟩, ⟨#[80, 111, 100, 87, 87]⟩, ⟨#[80, 111, 115, 82, 82]⟩, ⟨#[80, 111, 115, 82, 87]⟩, ⟨#[80, 111, 115, 87, 82]⟩, ⟨#[80, 111, 115, 87, 87]⟩, ⟨#[77, 70, 101, 110, 99, 101, 100, 82, 82]⟩, ⟨#[77, 70, 101, 110, 99, 101, 100, 82, 87]⟩, ⟨#[77, 70, 101, 110, 99, 101, 100, 87, 82]⟩, ⟨#[77, 70, 101, 110, 99, 101, 100, 87, 87]⟩]
def EDG : List (Int × Int × Int × Bool) := [(0, 0, 1, true), (0, 0, 1, false), (1, 1, 0, true), (1, 1, 0, false), (2, 0, 0, true), (2, 0, 0, false), (3, 1, 1, false), (3, 1, 0, false), (3, 0, 1, false), (3, 0, 0, false), (4, 1, 1, false), (4, 1, 0, false), (4, 0, 1, false), (4, 0, 0, false), (5, 1, 1, false), (5, 1, 0, false), (5, 0, 1, false), (5, 0, 0, false)]
def edC (s : ByteArray) (e : Int × Int × Int × Bool) : List Value := [.string s, .int .i64 e.1, .int .i64 e.2.1, .int .i64 e.2.2.1, .bool e.2.2.2]
def EDL : List Value := (NMS.zip EDG).flatMap fun p => edC p.1 p.2
def knd (e : Nat) : Int := (EDG.getD e (0, 0, 0, false)).1
def frF (e : Nat) : Int := (EDG.getD e (0, 0, 0, false)).2.1
def toF (e : Nat) : Int := (EDG.getD e (0, 0, 0, false)).2.2.1
def outF (e : Nat) : Bool := (EDG.getD e (0, 0, 0, false)).2.2.2
def awF (e : Nat) : Bool := knd e == 3 || knd e == 5
def nmF (e : Nat) : ByteArray := NMS.getD e ⟨#[]⟩
def idxF (s : ByteArray) : List ByteArray → Nat
  | [] => 0
  | x :: xs => if x = s then 0 else idxF s xs + 1
def nuF (s : ByteArray) : Nat := idxF s NMS
theorem idx_le (s : ByteArray) : ∀ l, idxF s l ≤ l.length
  | [] => Nat.le_refl _
  | x :: xs => by
    unfold idxF
    by_cases h : x = s
    · rw [if_pos h]; exact Nat.zero_le _
    · rw [if_neg h]; exact Nat.succ_le_succ (idx_le s xs)
theorem nu_le (s : ByteArray) : nuF s ≤ 18 := idx_le s NMS
theorem idx_hit (s : ByteArray) : ∀ (l : List ByteArray) (k : Nat), k ≤ idxF s l → l[k]? = some s → idxF s l = k
  | [], k, _, h => by simp at h
  | x :: xs, 0, _, h => by
    simp at h; unfold idxF; rw [if_pos h]
  | x :: xs, k + 1, h1, h => by
    unfold idxF at *
    by_cases e : x = s
    · rw [if_pos e] at h1; omega
    · rw [if_neg e] at *
      rw [idx_hit s xs k (by omega) (by simpa using h)]
theorem idx_miss (s : ByteArray) : ∀ (l : List ByteArray) (k : Nat) (x : ByteArray), k ≤ idxF s l → l[k]? = some x → x ≠ s → k + 1 ≤ idxF s l
  | [], k, _, _, h, _ => by simp at h
  | x :: xs, 0, y, _, h, hn => by
    simp at h; subst h; unfold idxF; rw [if_neg hn]; omega
  | x :: xs, k + 1, y, h1, h, hn => by
    unfold idxF at *
    by_cases e : x = s
    · rw [if_pos e] at h1; omega
    · rw [if_neg e] at *
      have := idx_miss s xs k y (by omega) (by simpa using h) hn
      omega
theorem idx_at (s : ByteArray) : ∀ (l : List ByteArray), idxF s l < l.length → l[idxF s l]? = some s
  | [], h => by simp [idxF] at h
  | x :: xs, h => by
    unfold idxF at *
    by_cases e : x = s
    · rw [if_pos e] at *; simp [e]
    · rw [if_neg e] at *
      have := idx_at s xs (by simpa using h)
      simpa using this
theorem nm_nu {s : ByteArray} (h : nuF s < 18) : nmF (nuF s) = s := by
  have h1 := idx_at s NMS h
  unfold nmF
  rw [List.getD_eq_getElem?_getD]
  show ((NMS[nuF s]?).getD _) = s
  rw [show NMS[nuF s]? = some s from h1]; rfl
theorem nu_nm : ∀ e : Nat, e < 18 → nuF (nmF e) = e := by decide +kernel
theorem nms_at {k : Nat} (h : k < 18) : NMS[k]? = some (nmF k) := by
  unfold nmF
  rw [List.getD_eq_getElem?_getD, List.getElem?_eq_getElem (show k < NMS.length from h)]; rfl
theorem nu_hit {s : ByteArray} {k : Nat} (h : k ≤ nuF s) (hk : k < 18) (e : nmF k = s) : nuF s = k := idx_hit s NMS k h (by rw [nms_at hk, e])
theorem nu_miss {s : ByteArray} {k : Nat} (h : k ≤ nuF s) (hk : k < 18) (e : nmF k ≠ s) : k + 1 ≤ nuF s := idx_miss s NMS k _ h (nms_at hk) e
theorem out_is : ∀ e : Nat, e < 18 → outF e = decide (e = 0 ∨ e = 2 ∨ e = 4) := by decide +kernel
theorem aw_is : ∀ e : Nat, e < 18 → awF e = decide ((6 ≤ e ∧ e < 10) ∨ 14 ≤ e) := by decide +kernel
def byF (v : Int) : Int := if v = 0 then 87 else 82
theorem fr_01 : ∀ e : Nat, e < 18 → frF e = 0 ∨ frF e = 1 := by decide +kernel
theorem to_01 : ∀ e : Nat, e < 18 → toF e = 0 ∨ toF e = 1 := by decide +kernel
theorem by_eq {a b : Int} (ha : a = 0 ∨ a = 1) (hb : b = 0 ∨ b = 1) : byF a = byF b ↔ a = b := by
  rcases ha with rfl | rfl <;> rcases hb with rfl | rfl <;> decide
/-- The first of some numbers that is as is asked. -/
def fst' (p : Nat → Bool) : Nat → Nat → Nat
  | 0, k => k
  | n + 1, k => if p k then k else fst' p n (k + 1)
theorem fst_le (p : Nat → Bool) : ∀ n k, fst' p n k ≤ k + n ∧ k ≤ fst' p n k
  | 0, k => ⟨Nat.le_refl _, Nat.le_refl _⟩
  | n + 1, k => by
    unfold fst'
    have := fst_le p n (k + 1)
    by_cases h : p k = true
    · rw [if_pos h]; omega
    · rw [if_neg h]; omega
def FstAt (p : Nat → Bool) (n k : Nat) : Prop := k ≤ n ∧ fst' p n 0 = fst' p (n - k) k
theorem FstAt.zero (p : Nat → Bool) (n : Nat) : FstAt p n 0 := ⟨Nat.zero_le _, rfl⟩
theorem FstAt.hit {p : Nat → Bool} {n k : Nat} (h : FstAt p n k) (hk : k < n) (e : p k = true) : fst' p n 0 = k := by
  rw [h.2, show n - k = (n - k - 1) + 1 by omega]; unfold fst'; rw [if_pos e]
theorem FstAt.next {p : Nat → Bool} {n k : Nat} (h : FstAt p n k) (hk : k < n) (e : p k = false) : FstAt p n (k + 1) := by
  refine ⟨hk, ?_⟩
  rw [h.2, show n - k = (n - (k + 1)) + 1 by omega]
  conv => lhs; unfold fst'
  rw [if_neg (by simp [e])]
theorem FstAt.done {p : Nat → Bool} {n k : Nat} (h : FstAt p n k) (hk : n ≤ k) : fst' p n 0 = n := by
  have := h.1
  rw [h.2, show k = n by omega, Nat.sub_self]; rfl
theorem fst_all {p : Nat → Bool} : ∀ (n k : Nat), fst' p n k = k + n → ∀ j, k ≤ j → j < k + n → p j = false
  | 0, k, _, j, h1, h2 => by omega
  | n + 1, k, h, j, h1, h2 => by
    unfold fst' at h
    by_cases e : p k = true
    · rw [if_pos e] at h; omega
    · rw [if_neg e] at h
      by_cases hj : j = k
      · subst hj; simpa using e
      · exact fst_all n (k + 1) (by omega) j (by omega) (by omega)
def prv (n i : Nat) : Nat := (i + n - 1) % n
theorem prv_lt {n i : Nat} (h : 0 < n) : prv n i < n := Nat.mod_lt _ h
def okB (ns : List Nat) (i : Nat) : Bool := toF (ns.getD (prv ns.length i) 0) == frF (ns.getD i 0)
def badP (L : List ByteArray) (i : Nat) : Bool := nuF (L.getD i ⟨#[]⟩) == 18
def badN (L : List ByteArray) : Nat := fst' (badP L) L.length 0
def misN (ns : List Nat) : Nat := fst' (fun i => !okB ns i) ns.length 0
def cntF (f : Nat → Bool) : List Nat → Nat
  | [] => 0
  | x :: xs => (if f x then 1 else 0) + cntF f xs
theorem cnt_snoc (f : Nat → Bool) (x : Nat) : ∀ l, cntF f (l ++ [x]) = cntF f l + if f x then 1 else 0
  | [] => by simp [cntF]
  | y :: l => by rw [List.cons_append]; unfold cntF; rw [cnt_snoc f x l]; omega
theorem cnt_le (f : Nat → Bool) : ∀ l, cntF f l ≤ l.length
  | [] => Nat.le_refl _
  | y :: l => by unfold cntF; have := cnt_le f l; rw [List.length_cons]; by_cases h : f y = true <;> simp [h] <;> omega
/-- The place and the error. -/
def chk (L : List ByteArray) : Nat × Int :=
  if 16 < L.length then (0, 1) else if badN L < L.length then (badN L, 260)
  else if misN (L.map nuF) < L.length then (misN (L.map nuF), 260)
  else if L.length < 2 ∨ cntF outF (L.map nuF) < 2 ∨ cntF awF (L.map nuF) < 2 then (0, 260) else (0, 0)
theorem chk_long {L : List ByteArray} (h : 16 < L.length) : chk L = (0, 1) := if_pos h
theorem chk_bad {L : List ByteArray} (h : L.length ≤ 16) (h2 : badN L < L.length) : chk L = (badN L, 260) := by unfold chk; rw [if_neg (by omega), if_pos h2]
theorem chk_mis {L : List ByteArray} (h : L.length ≤ 16) (h2 : badN L = L.length) (h3 : misN (L.map nuF) < L.length) : chk L = (misN (L.map nuF), 260) := by unfold chk; rw [if_neg (by omega), if_neg (by omega), if_pos h3]
theorem chk_few {L : List ByteArray} (h : L.length ≤ 16) (h2 : badN L = L.length) (h3 : misN (L.map nuF) = L.length) (h4 : L.length < 2 ∨ cntF outF (L.map nuF) < 2 ∨ cntF awF (L.map nuF) < 2) : chk L = (0, 260) := by unfold chk; rw [if_neg (by omega), if_neg (by omega), if_neg (by omega), if_pos h4]
theorem chk_ok {L : List ByteArray} (h : L.length ≤ 16) (h2 : badN L = L.length) (h3 : misN (L.map nuF) = L.length) (h4 : ¬ (L.length < 2 ∨ cntF outF (L.map nuF) < 2 ∨ cntF awF (L.map nuF) < 2)) : chk L = (0, 0) := by unfold chk; rw [if_neg (by omega), if_neg (by omega), if_neg (by omega), if_neg h4]
theorem all_good {L : List ByteArray} (h : badN L = L.length) : ∀ s ∈ L, nuF s < 18 := fun s hs => by
  obtain ⟨i, hi, rfl⟩ := List.getElem_of_mem hs
  have h1 := fst_all (p := badP L) L.length 0 (by rw [Nat.zero_add]; exact h) i (Nat.zero_le _) (by omega)
  have h2 := nu_le L[i]
  simp [badP, hi] at h1
  omega
theorem chk_zero {L : List ByteArray} (h : (chk L).2 = 0) : L.length ≤ 16 ∧ 2 ≤ L.length ∧ (∀ s ∈ L, nuF s < 18) := by
  unfold chk at h
  by_cases h1 : 16 < L.length
  · rw [if_pos h1] at h; simp at h
  · rw [if_neg h1] at h
    have hb : badN L ≤ L.length := by have := (fst_le (badP L) L.length 0).1; unfold badN; omega
    by_cases h2 : badN L < L.length
    · rw [if_pos h2] at h; simp at h
    · rw [if_neg h2] at h
      by_cases h3 : misN (L.map nuF) < L.length
      · rw [if_pos h3] at h; simp at h
      · rw [if_neg h3] at h
        by_cases h4 : L.length < 2 ∨ cntF outF (L.map nuF) < 2 ∨ cntF awF (L.map nuF) < 2
        · rw [if_pos h4] at h; simp at h
        · exact ⟨by omega, by omega, all_good (by omega)⟩
/-- The canonical form. -/
def turnN {α : Type} (l : List α) (k : Nat) : List α := l.drop k ++ l.take k
theorem turn_len {α : Type} (l : List α) (k : Nat) : (turnN l k).length = l.length := by
  unfold turnN; rw [List.length_append, List.length_drop, List.length_take]; omega
theorem turn_map {α β : Type} (f : α → β) (l : List α) (k : Nat) : (turnN l k).map f = turnN (l.map f) k := by
  unfold turnN; rw [List.map_append, List.map_drop, List.map_take]
theorem turn_mem {α : Type} {l : List α} {k : Nat} {x : α} (h : x ∈ turnN l k) : x ∈ l := by
  rcases List.mem_append.1 h with h | h
  · exact List.mem_of_mem_drop h
  · exact List.mem_of_mem_take h
theorem turn_last {α : Type} {l : List α} {k : Nat} (hk : k < l.length) (d : α) : (turnN l k).getD (l.length - 1) d = l.getD (prv l.length k) d := by
  unfold turnN prv
  rw [List.getD_eq_getElem?_getD, List.getD_eq_getElem?_getD]
  cases k with
  | zero => rw [List.drop_zero, List.take_zero, List.append_nil, Nat.zero_add, Nat.mod_eq_of_lt (by omega)]
  | succ k =>
    rw [List.getElem?_append_right (by rw [List.length_drop]; omega), List.length_drop, List.getElem?_take, if_pos (by omega),
      show k + 1 + l.length - 1 = k + l.length by omega, Nat.add_mod_right, Nat.mod_eq_of_lt (by omega)]
    congr 2; omega
def lexF : List Nat → List Nat → Bool
  | x :: a, y :: b => if x = y then lexF a b else decide (x < y)
  | _, _ => false
def LexAt (a b : List Nat) (k : Nat) : Prop := lexF a b = lexF (a.drop k) (b.drop k)
theorem LexAt.zero (a b : List Nat) : LexAt a b 0 := by unfold LexAt; rw [List.drop_zero, List.drop_zero]
theorem LexAt.both {a b : List Nat} {k x y : Nat} (h : LexAt a b k) (hx : a[k]? = some x) (hy : b[k]? = some y) : lexF a b = if x = y then lexF (a.drop (k + 1)) (b.drop (k + 1)) else decide (x < y) := by
  unfold LexAt at h
  obtain ⟨h1, rfl⟩ := List.getElem?_eq_some_iff.1 hx
  obtain ⟨h2, rfl⟩ := List.getElem?_eq_some_iff.1 hy
  rw [h, List.drop_eq_getElem_cons h1, List.drop_eq_getElem_cons h2]; rfl
theorem LexAt.next {a b : List Nat} {k x : Nat} (h : LexAt a b k) (hx : a[k]? = some x) (hy : b[k]? = some x) : LexAt a b (k + 1) := by
  unfold LexAt; rw [h.both hx hy, if_pos rfl]
theorem LexAt.ne {a b : List Nat} {k x y : Nat} (h : LexAt a b k) (hx : a[k]? = some x) (hy : b[k]? = some y) (hn : x ≠ y) : lexF a b = decide (x < y) := by rw [h.both hx hy, if_neg hn]
theorem LexAt.done {a b : List Nat} {k : Nat} (h : LexAt a b k) (hk : a.length ≤ k) : lexF a b = false := by
  unfold LexAt at h; rw [h, List.drop_eq_nil_of_le hk]; cases b.drop k <;> rfl
def stp (ns : List Nat) (o : Option (List Nat)) (k : Nat) : Option (List Nat) :=
  if outF (ns.getD (prv ns.length k) 0) = true then (match o with | none => some (turnN ns k) | some b => if lexF (turnN ns k) b = true then some (turnN ns k) else some b) else o
def bst (ns : List Nat) : Nat → Option (List Nat)
  | 0 => none
  | k + 1 => stp ns (bst ns k) k
theorem bst_no {ns : List Nat} {k : Nat} (h : outF (ns.getD (prv ns.length k) 0) = false) : bst ns (k + 1) = bst ns k := by
  show stp ns (bst ns k) k = _; unfold stp; rw [h]; exact if_neg (by simp)
theorem bst_first {ns : List Nat} {k : Nat} (h : outF (ns.getD (prv ns.length k) 0) = true) (e : bst ns k = none) : bst ns (k + 1) = some (turnN ns k) := by
  show stp ns (bst ns k) k = _; unfold stp; rw [if_pos h, e]
theorem bst_less {ns b : List Nat} {k : Nat} (h : outF (ns.getD (prv ns.length k) 0) = true) (e : bst ns k = some b) (hl : lexF (turnN ns k) b = true) : bst ns (k + 1) = some (turnN ns k) := by
  show stp ns (bst ns k) k = _; unfold stp; rw [if_pos h, e]; exact if_pos hl
theorem bst_keep {ns b : List Nat} {k : Nat} (h : outF (ns.getD (prv ns.length k) 0) = true) (e : bst ns k = some b) (hl : lexF (turnN ns k) b = false) : bst ns (k + 1) = some b := by
  show stp ns (bst ns k) k = _; unfold stp; rw [if_pos h, e]; exact if_neg (by simp [hl])
theorem bst_in {ns : List Nat} : ∀ (k : Nat) (b : List Nat), bst ns k = some b → b.length = ns.length ∧ ∀ x ∈ b, x ∈ ns
  | 0, b, h => by simp [bst] at h
  | k + 1, b, h => by
    have ih := bst_in (ns := ns) k
    have ht : (turnN ns k).length = ns.length ∧ ∀ x ∈ turnN ns k, x ∈ ns := ⟨turn_len _ _, fun x hx => turn_mem hx⟩
    change stp ns (bst ns k) k = _ at h
    unfold stp at h
    by_cases h1 : outF (ns.getD (prv ns.length k) 0) = true
    · rw [if_pos h1] at h
      cases e : bst ns k with
      | none => rw [e] at h; simp at h; subst h; exact ht
      | some b' =>
        rw [e] at h
        change (if lexF (turnN ns k) b' = true then some (turnN ns k) else some b') = some b at h
        by_cases h2 : lexF (turnN ns k) b' = true
        · rw [if_pos h2] at h; obtain rfl := Option.some.inj h; exact ht
        · rw [if_neg h2] at h; obtain rfl := Option.some.inj h; exact ih _ e
    · rw [if_neg h1] at h; exact ih _ h
/-- What Canon answers. -/
def canN (L : List ByteArray) : List Nat := (bst (L.map nuF) L.length).getD []
def canS (L : List ByteArray) : List ByteArray := if (chk L).2 = 0 then (canN L).map nmF else []
theorem map_back {L : List ByteArray} (h : ∀ s ∈ L, nuF s < 18) : (L.map nuF).map nmF = L := by
  rw [List.map_map]
  conv => rhs; rw [← List.map_id L]
  exact List.map_congr_left fun s hs => nm_nu (h s hs)
def natE (n : Nat) : List Value := [.int .i64 (n : Int)]
theorem nat_at {ss : List Nat} {j s : Nat} (h : ss[j]? = some s) : (ss.flatMap natE)[j]? = some (.int .i64 (s : Int)) := by
  rw [show ss.flatMap natE = ss.map (fun n : Nat => Value.int .i64 (n : Int)) from flat1 _ ss, List.getElem?_map, h]; rfl
theorem nat_int (l : List Nat) : l.flatMap natE = (l.map fun n : Nat => (n : Int)).flatMap intE := by
  rw [show l.flatMap natE = l.map (fun n : Nat => Value.int .i64 (n : Int)) from flat1 _ l, show (l.map fun n : Nat => (n : Int)).flatMap intE = (l.map fun n : Nat => (n : Int)).map (Value.int .i64) from flat1 _ _, List.map_map]; rfl
end Go.Proofs.YtbecabkdnjkkeaaDoor
