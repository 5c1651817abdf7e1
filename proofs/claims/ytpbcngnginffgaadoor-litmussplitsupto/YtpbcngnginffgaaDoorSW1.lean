/- blank, opensFile, behindLine; the reference's first and empty. -/
import Derived.Test.YtpbcngnginffgaaDoorSD1
import Derived.Test.YtpbcngnginffgaaDoorSM
import Derived.Test.YtpbcngnginffgaaDoorShelfD
import Derived.Shelf.Strings.SlTrimAscii
import Derived.Lib.IndexLaws
namespace Go.Proofs.YtpbcngnginffgaaDoor
open Go.RowKit Go.Shelf M
set_option linter.unusedSimpArgs false
set_option linter.unusedVariables false

theorem ret_bool {a b : Bool} (h : a = b) : Ending.returned (.bool a) = .returned (.bool b) := by rw [h]
theorem exS (s : ByteArray) (a b : Nat) : (s.extract a b).data.toList = sliceL s.data.toList a b := exL s a b
theorem trim_nil (l : List UInt8) : (Lib.trimS l [32, 9, 10, 13]).isEmpty = blankB l := by
  have hc : ∀ c : UInt8, ([32, 9, 10, 13] : List UInt8).contains c = blkC c := fun c => by
    simp only [List.contains, List.elem, blkC]
    cases h1 : (c == 32) <;> cases h2 : (c == 9) <;> cases h3 : (c == 10) <;> cases h4 : (c == 13) <;> simp_all
  have hf : ([32, 9, 10, 13] : List UInt8).contains = blkC := funext hc
  unfold Lib.trimS Lib.trimLeftS Lib.trimRightS blankB
  simp only [hf]
  have key : ∀ m : List UInt8, (m.dropWhile blkC).isEmpty = m.all blkC := by
    intro m
    induction m with
    | nil => rfl
    | cons c m ih =>
      rw [List.dropWhile_cons, List.all_cons]
      cases h : blkC c with
      | true => simpa using ih
      | false => rfl
  have hd : ∀ m : List UInt8, (m.dropWhile blkC).all blkC = m.all blkC := by
    intro m
    induction m with
    | nil => rfl
    | cons c m ih =>
      rw [List.dropWhile_cons, List.all_cons]
      cases h : blkC c with
      | true => simpa using ih
      | false => simp [h]
  show (List.dropWhile (fun x => blkC x) (List.dropWhile (fun x => blkC x) l.reverse).reverse).isEmpty = _
  rw [show (fun x => blkC x) = blkC from rfl, key, List.all_reverse, hd, List.all_reverse]

set_option maxRecDepth 100000 in
set_option maxHeartbeats 1000000 in
theorem blank_any (s : ByteArray) (w : World) (hs : s.size ≤ 9223372036854775807) : Calls Tryd.prog 8 #[.string s] w fun e w' => e = .returned (.bool (blankB s.data.toList)) ∧ Below w.heap.size w w' := by
  have hcon := Any.strings_Trim_laid Tryd.lays160 (by kernel_rfl) s ⟨#[32, 9, 10, 13]⟩ w hs (by decide) (ascii_of_all (by decide))
  change Calls Tryd.prog 13 _ _ (fun e w' => e = .returned (.string ⟨(Lib.trimS s.data.toList [32, 9, 10, 13]).toArray⟩) ∧ Below w.heap.size w w') at hcon
  have HT : Hid ((⟨(Lib.trimS s.data.toList [32, 9, 10, 13]).toArray⟩ : ByteArray).data.toList.isEmpty = blankB s.data.toList) := trim_nil _
  generalize (⟨(Lib.trimS s.data.toList [32, 9, 10, 13]).toArray⟩ : ByteArray) = r at hcon HT
  generalize blankB s.data.toList = q at HT ⊢
  go_enter Tryd.func8, Tryd.ntmps8
  go_wp2_with (go_at_call 13; refine hcon.mono ?_; rintro e w' ⟨rfl, hB⟩)
  go_ret
  refine ⟨ret_bool ?_, hB⟩
  rw [← HT.out]
  simp [toL]
theorem opens_eq (l : List UInt8) : (Lib.hasPrefix l [88, 56, 54, 32] || Lib.hasPrefix l [88, 56, 54, 9]) = opensB l := by
  rw [← Lib.hasPrefix_of_take, ← Lib.hasPrefix_of_take]
  unfold opensB
  have : ∀ (p : List UInt8), p.length = 4 → (decide (p.length ≤ l.length) && (l.take p.length == p)) = (l.take 4 == p) := by
    intro p hp
    rw [hp]
    by_cases h : 4 ≤ l.length
    · simp [h]
    · have : l.take 4 ≠ p := fun e => by
        have := congrArg List.length e
        rw [List.length_take, hp] at this
        omega
      simp [this]
  rw [this _ rfl, this _ rfl]
set_option maxRecDepth 100000 in
set_option maxHeartbeats 1000000 in
theorem opens_any (s : ByteArray) (w : World) : Calls Tryd.prog 7 #[.string s] w fun e w' => e = .returned (.bool (opensB s.data.toList)) ∧ w' = w := by
  have h1 := fun w => Tryd.strings_HasPrefix s ⟨#[88, 56, 54, 32]⟩ w
  have h2 := fun w => Tryd.strings_HasPrefix s ⟨#[88, 56, 54, 9]⟩ w
  have HO : Hid ((Lib.hasPrefix s.data.toList (⟨#[88, 56, 54, 32]⟩ : ByteArray).data.toList || Lib.hasPrefix s.data.toList (⟨#[88, 56, 54, 9]⟩ : ByteArray).data.toList) = opensB s.data.toList) := opens_eq _
  generalize opensB s.data.toList = q at HO ⊢
  generalize Lib.hasPrefix s.data.toList (⟨#[88, 56, 54, 32]⟩ : ByteArray).data.toList = a at *
  generalize Lib.hasPrefix s.data.toList (⟨#[88, 56, 54, 9]⟩ : ByteArray).data.toList = b at *
  cases a with
  | true =>
    go_enter Tryd.func7, Tryd.ntmps7
    go_wp2_with (first
      | (go_at_call 12; refine (h1 _).mono ?_; rintro e w' ⟨rfl, hw'⟩; replace hw' := hw'.symm; subst hw'; clear h1))
    go_ret
    exact ⟨ret_bool (by rw [← HO.out]; rfl), rfl⟩
  | false =>
    go_enter Tryd.func7, Tryd.ntmps7
    go_wp2_with (first
      | (go_at_call 12; refine (h1 _).mono ?_; rintro e w' ⟨rfl, hw'⟩; replace hw' := hw'.symm; subst hw'; clear h1)
      | (go_at_call 12; refine (h2 _).mono ?_; rintro e w' ⟨rfl, hw'⟩; replace hw' := hw'.symm; subst hw'; clear h2))
    go_ret
    exact ⟨ret_bool (by rw [← HO.out]; rfl), rfl⟩
/-- Where the line ends that begins at a place. -/
def behindF (l : List UInt8) (k : Nat) : Nat := if Lib.indexByte (l.drop k) 10 < 0 then l.length else k + (Lib.indexByte (l.drop k) 10).toNat + 1
theorem behind_spec {l : List UInt8} {k : Nat} (hk : k < l.length) : k < behindF l k ∧ behindF l k ≤ l.length ∧ (∀ j, k < j → j < behindF l k → l[j - 1]? ≠ some 10) ∧ (behindF l k < l.length → l[behindF l k - 1]? = some 10) := by
  unfold behindF
  by_cases h : Lib.indexByte (l.drop k) 10 < 0
  · rw [if_pos h]
    have h1 : Lib.indexByte (l.drop k) 10 = -1 := by have := Lib.indexByte_ge (l.drop k) 10; omega
    have h2 := Lib.indexByte_none h1
    refine ⟨hk, Nat.le_refl _, fun j hj hl => ?_, fun h => absurd h (Nat.lt_irrefl _)⟩
    have := h2 (j - 1 - k)
    rw [List.getElem?_drop, show k + (j - 1 - k) = j - 1 by omega] at this
    exact this
  · rw [if_neg h]
    obtain ⟨o, ho⟩ : ∃ o : Nat, Lib.indexByte (l.drop k) 10 = o := ⟨_, (Int.toNat_of_nonneg (by omega)).symm⟩
    have h2 := Lib.indexByte_some ho
    rw [ho, Int.toNat_natCast]
    have h3 := h2.1
    rw [List.getElem?_drop] at h3
    have h4 := (List.getElem?_eq_some_iff.1 h3).1
    refine ⟨by omega, by omega, fun j hj hl => ?_, fun _ => by rw [show k + o + 1 - 1 = k + o by omega]; exact h3⟩
    have := h2.2 (j - 1 - k) (by omega)
    rw [List.getElem?_drop, show k + (j - 1 - k) = j - 1 by omega] at this
    exact this
set_option maxRecDepth 100000 in
set_option maxHeartbeats 1000000 in
theorem behind_any (s : ByteArray) (hs : s.size < 4611686018427387904) (k : Nat) (hk : k < s.size) (w : World) : Calls Tryd.prog 6 #[.string s, .int .i64 (k : Int)] w fun e w' => e = .returned (.int .i64 (behindF s.data.toList k : Nat)) ∧ w' = w := by
  have hI := fun w => Tryd.strings_IndexByte (s.extract k s.size) 10 w
  rw [exE] at hI
  change ∀ w, Calls Tryd.prog 11 _ w (fun e w' => e = .returned (.int .i64 (Lib.indexByte (s.data.toList.drop k) 10)) ∧ w' = w) at hI
  have hks : (k : Int) < s.size := by omega
  have hks2 : (k : Int) ≤ s.size := by omega
  have hsp := behind_spec (l := s.data.toList) (k := k) (by rw [← sizeL]; exact hk)
  have HF : Hid (behindF s.data.toList k = if Lib.indexByte (s.data.toList.drop k) 10 < 0 then s.size else k + (Lib.indexByte (s.data.toList.drop k) 10).toNat + 1) := (by show behindF _ _ = _; unfold behindF; rw [sizeL])
  have hle := hsp.2.1
  rw [← sizeL] at hle
  clear hsp
  have hge := Lib.indexByte_ge (s.data.toList.drop k) 10
  generalize Lib.indexByte (s.data.toList.drop k) 10 = z at *
  generalize behindF s.data.toList k = q at *
  by_cases hz : z < 0
  · have hq : q = s.size := by rw [HF.out, if_pos hz]
    subst hq
    have hz' : ¬ (0 ≤ z) := by omega
    go_enter Tryd.func6, Tryd.ntmps6
    go_wp2_with (first
      | (go_at_call 11; refine (hI _).mono ?_; rintro e w' ⟨rfl, hw'⟩; replace hw' := hw'.symm; subst hw'; clear hI))
    go_ret
    exact ⟨rfl, rfl⟩
  · have hq : q = k + z.toNat + 1 := by rw [HF.out, if_neg hz]
    have hz' : 0 ≤ z := by omega
    have hzl : z < s.size := by omega
    have HQ : Hid ((k : Int) + z + 1 = (q : Int)) := (by show _ = _; omega)
    clear HF hq
    go_enter Tryd.func6, Tryd.ntmps6
    go_wp2_with (first
      | (go_at_call 11; refine (hI _).mono ?_; rintro e w' ⟨rfl, hw'⟩; replace hw' := hw'.symm; subst hw'; clear hI))
    go_ret
    exact ⟨ret_int HQ.out, rfl⟩
end Go.Proofs.YtpbcngnginffgaaDoor
