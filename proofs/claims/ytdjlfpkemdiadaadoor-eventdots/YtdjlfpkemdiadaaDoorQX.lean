/- Several texts in one: PgX1, PgX2, PgX3, PgX4, PgX5. -/
import Derived.Test.YtdjlfpkemdiadaaDoorQI
import Derived.Lib.LastIndexByte
/- Names, and the lines and columns of places: plain mathematics of texts. -/
namespace Go.Proofs.YtdjlfpkemdiadaaDoor.M
set_option linter.unusedSimpArgs false
set_option linter.unusedVariables false

/-- Letters, digits, bytes that may stand within names and numbers, blanks: by their number. -/
def letN (n : Nat) : Bool := decide (97 ≤ n ∧ n ≤ 122 ∨ 65 ≤ n ∧ n ≤ 90 ∨ n = 95)
def digN (n : Nat) : Bool := decide (48 ≤ n ∧ n ≤ 57)
def innN (n : Nat) : Bool := letN n || digN n || decide (n = 46)
def blkN (n : Nat) : Bool := decide (n = 32 ∨ n = 9 ∨ n = 10 ∨ n = 13)
/-- A + or - that may stand in a name. -/
def joinsB : List UInt8 → Bool
  | a :: b :: _ => decide (a.toNat = 43 ∨ a.toNat = 45) && (letN b.toNat || digN b.toNat)
  | _ => false
/-- How far a name goes on. -/
def nameRun : List UInt8 → Nat
  | [] => 0
  | c :: r => if innN c.toNat || joinsB (c :: r) then 1 + nameRun r else 0
/-- How long the name is with which a text begins. -/
def nameLen : List UInt8 → Nat
  | [] => 0
  | c :: r => if letN c.toNat then 1 + nameRun r else 0
theorem nameRun_le : ∀ l, nameRun l ≤ l.length
  | [] => Nat.le_refl _
  | c :: r => by
    have := nameRun_le r
    unfold nameRun
    split <;> simp <;> omega
theorem nameLen_le (l : List UInt8) : nameLen l ≤ l.length := by
  cases l with
  | nil => exact Nat.le_refl _
  | cons c r =>
    have := nameRun_le r
    show (if letN c.toNat then 1 + nameRun r else 0) ≤ _
    split <;> simp <;> omega
theorem letN_dig {n : Nat} (h : letN n = true) : digN n = false := by
  simp only [letN, digN, decide_eq_true_eq, decide_eq_false_iff_not] at *; omega

/-- One byte further. -/
def stepP (p : Nat × Nat) (c : UInt8) : Nat × Nat := if c.toNat = 10 then (p.1 + 1, 1) else (p.1, p.2 + 1)
/-- The spot behind a text. -/
def spotF (p : Nat × Nat) (l : List UInt8) : Nat × Nat := l.foldl stepP p
theorem spot_nil (p : Nat × Nat) : spotF p [] = p := rfl
theorem spot_app (p : Nat × Nat) (a b : List UInt8) : spotF p (a ++ b) = spotF (spotF p a) b := List.foldl_append
theorem spot_cons (p : Nat × Nat) (c : UInt8) (l : List UInt8) : spotF p (c :: l) = spotF (stepP p c) l := rfl
theorem spot_none : ∀ (l : List UInt8) (p : Nat × Nat), (∀ c ∈ l, c.toNat ≠ 10) → spotF p l = (p.1, p.2 + l.length)
  | [], p, _ => rfl
  | c :: r, p, h => by
    rw [spot_cons, spot_none r _ fun x hx => h x (List.mem_cons_of_mem _ hx)]
    unfold stepP
    rw [if_neg (h c (List.mem_cons_self ..))]
    simp; omega
theorem spot_line : ∀ (l : List UInt8) (p : Nat × Nat), (spotF p l).1 = p.1 + l.count 10
  | [], p => rfl
  | c :: r, p => by
    rw [spot_cons, spot_line r, List.count_cons]
    unfold stepP
    by_cases h : c = 10
    · subst h; rw [if_pos (by decide)]; simp; omega
    · have h' : c.toNat ≠ 10 := fun e => h (UInt8.toNat_inj.1 e)
      rw [if_neg h']; simp [h]
theorem spot_last (l : List UInt8) (p : Nat × Nat) (i : Nat) (hi : i < l.length) (h10 : l[i].toNat = 10) (hn : ∀ j, i < j → (h : j < l.length) → l[j].toNat ≠ 10) : spotF p l = (p.1 + l.count 10, l.length - i) := by
  refine Prod.ext (spot_line l p) ?_
  have e : l = l.take i ++ l[i] :: l.drop (i + 1) := by
    rw [← List.drop_eq_getElem_cons hi, List.take_append_drop]
  have : spotF p l = spotF (spotF p (l.take i)) (l[i] :: l.drop (i + 1)) := by
    rw [← spot_app, ← e]
  rw [this, spot_cons, spot_none]
  · unfold stepP
    rw [if_pos h10]
    simp; omega
  · intro c hc
    obtain ⟨j, hj, rfl⟩ := List.mem_iff_getElem.1 hc
    rw [List.getElem_drop]
    rw [List.length_drop] at hj
    exact hn _ (by omega) (by omega)
theorem spot_col_pos : ∀ (l : List UInt8) (p : Nat × Nat), 1 ≤ p.1 → 1 ≤ p.2 → 1 ≤ (spotF p l).1 ∧ 1 ≤ (spotF p l).2
  | [], p, h1, h2 => ⟨h1, h2⟩
  | c :: r, p, h1, h2 => by
    rw [spot_cons]
    refine spot_col_pos r _ ?_ ?_ <;> unfold stepP <;> split <;> simp <;> omega
theorem spot_bd : ∀ (l : List UInt8) (p : Nat × Nat), (spotF p l).1 ≤ p.1 + l.length ∧ (spotF p l).2 ≤ p.2 + 1 + l.length
  | [], p => ⟨by simp [spotF], (by simp [spotF]; try omega)⟩
  | c :: r, p => by
    have := spot_bd r (stepP p c)
    rw [spot_cons, List.length_cons]
    by_cases h : c.toNat = 10
    · rw [show stepP p c = (p.1 + 1, 1) from if_pos h] at this ⊢
      simp at this ⊢; omega
    · rw [show stepP p c = (p.1, p.2 + 1) from if_neg h] at this ⊢
      simp at this ⊢; omega

/-- strings.LastIndexByte and strings.Count say the spot. -/
theorem spot_lib (s : ByteArray) (p : Nat × Nat) :
    (Lib.lastIndexByte s 10 = -1 ∧ spotF p s.data.toList = (p.1, p.2 + s.size)) ∨
    (∃ i : Nat, i < s.size ∧ Lib.lastIndexByte s 10 = i ∧ spotF p s.data.toList = (p.1 + s.data.toList.count 10, s.size - i)) := by
  have hl : s.data.toList.length = s.size := by simp
  have hg : ∀ j, (h : j < s.data.toList.length) → s.data.toList[j] = s.data[j]! := fun j h => by
    rw [getElem!_pos s.data j (by simpa using h)]; simp
  rcases Lib.lastIndexByte_spec s 10 with ⟨h1, h2⟩ | ⟨i, hi, h1, h2, h3⟩
  · refine .inl ⟨h1, ?_⟩
    rw [spot_none, hl]
    intro c hc e
    obtain ⟨j, hj, rfl⟩ := List.mem_iff_getElem.1 hc
    have := h2 j (by omega)
    rw [← hg j hj] at this
    omega
  · refine .inr ⟨i, hi, h1, ?_⟩
    have h4 : i < s.data.toList.length := by omega
    rw [spot_last _ p i h4 (by have := h2; rw [← hg i h4] at this; omega) (fun j hj hj' e => by have := h3 j hj (by omega); rw [← hg j hj'] at this; omega), hl]
end Go.Proofs.YtdjlfpkemdiadaaDoor.M
/- letter, digit, inner, joins, nameLength; the reference's letter, digit, name, Name; Name. -/
namespace Go.Proofs.YtdjlfpkemdiadaaDoor
open Go.RowKit M
set_option linter.unusedSimpArgs false
set_option linter.unusedVariables false

theorem ret_boolP {a b : Bool} (h : a = b) : Ending.returned (.bool a) = .returned (.bool b) := by rw [h]
set_option maxRecDepth 100000 in
theorem letter_any (c : Nat) (hc : c < 256) (w : World) : Calls Tryd.prog 86 #[.int .u8 c] w fun e w' => e = .returned (.bool (letN c)) ∧ w' = w := by
  go_enter Tryd.func86, Tryd.ntmps86
  go_wp2
  all_goals go_ret
  all_goals refine ⟨ret_boolP ?_, rfl⟩
  all_goals (rw [Bool.eq_iff_iff]; simp [letN]; try omega)
set_option maxRecDepth 100000 in
theorem digit5_any (c : Nat) (hc : c < 256) (w : World) : Calls Tryd.prog 96 #[.int .u8 c] w fun e w' => e = .returned (.bool (digN c)) ∧ w' = w := by
  go_enter Tryd.func96, Tryd.ntmps96
  go_wp2
  all_goals go_ret
  all_goals refine ⟨ret_boolP ?_, rfl⟩
  all_goals (rw [Bool.eq_iff_iff]; simp [digN]; try omega)
theorem drop_cons (s : ByteArray) (n : Nat) (h : n < s.size) : s.data.toList.drop n = s[n] :: s.data.toList.drop (n + 1) := by
  rw [List.drop_eq_getElem_cons (by simpa using h)]; rfl
theorem drop_end (s : ByteArray) (n : Nat) (h : s.size ≤ n) : s.data.toList.drop n = [] := List.drop_eq_nil_of_le (by simpa using h)

set_option maxRecDepth 100000 in
theorem inner_any (c : Nat) (hc : c < 256) (w : World) : Calls Tryd.prog 87 #[.int .u8 c] w fun e w' => e = .returned (.bool (innN c)) ∧ w' = w := by
  have h1 := fun w => letter_any c hc w
  have h2 := fun w => digit5_any c hc w
  have hI : Hid (innN c = (letN c || digN c || decide (c = 46))) := rfl
  cases a : letN c <;> cases b : digN c <;> rw [a] at h1 <;> rw [b] at h2 <;> rw [a, b] at hI <;> clear a b
  all_goals
    go_enter Tryd.func87, Tryd.ntmps87
    go_wp2_with (first
      | (go_at_call 86; refine (h1 _).mono ?_; rintro e w' ⟨rfl, hw'⟩; replace hw' := hw'.symm; subst hw')
      | (go_at_call 96; refine (h2 _).mono ?_; rintro e w' ⟨rfl, hw'⟩; replace hw' := hw'.symm; subst hw'))
    go_ret
    refine ⟨ret_boolP ?_, rfl⟩
    rw [hI.out, Bool.eq_iff_iff]; simp; try omega

set_option maxRecDepth 100000 in
set_option maxHeartbeats 1000000 in
theorem joins_any (s : ByteArray) (hs : s.size ≤ maxLen) (h0 : 0 < s.size) (w : World) : Calls Tryd.prog 88 #[.string s] w fun e w' => e = .returned (.bool (joinsB s.data.toList)) ∧ w' = w := by
  unfold maxLen at hs
  have e0 := drop_cons s 0 h0
  rw [List.drop_zero] at e0
  have hi0 : (0 : Int) < s.size := by omega
  by_cases h1 : 1 < s.size
  · have e1 := drop_cons s 1 h1
    rw [e1] at e0
    have hi1 : (1 : Int) < s.size := by omega
    have hL := fun w => letter_any s[1].toNat s[1].toNat_lt w
    have hD := fun w => digit5_any s[1].toNat s[1].toNat_lt w
    have hJ : Hid (joinsB s.data.toList = (decide (s[0].toNat = 43 ∨ s[0].toNat = 45) && (letN s[1].toNat || digN s[1].toNat))) := (by show joinsB _ = _; rw [e0]; rfl)
    clear e0 e1
    by_cases x1 : s[0].toNat = 43
    · have x1b : ((s[0].toNat : Int) == 43) = true := by simp; omega
      rw [show decide (s[0].toNat = 43 ∨ s[0].toNat = 45) = true from decide_eq_true (.inl x1)] at hJ
      clear x1
      cases a : letN s[1].toNat <;> cases b : digN s[1].toNat <;> rw [a] at hL <;> rw [b] at hD <;> rw [a, b] at hJ <;> clear a b
      all_goals
        go_enter Tryd.func88, Tryd.ntmps88
        go_wp2_with (first
          | (go_at_call 86; refine (hL _).mono ?_; rintro e w' ⟨rfl, hw'⟩; replace hw' := hw'.symm; subst hw')
          | (go_at_call 96; refine (hD _).mono ?_; rintro e w' ⟨rfl, hw'⟩; replace hw' := hw'.symm; subst hw'))
        go_ret
        exact ⟨ret_boolP (by rw [hJ.out]; rfl), rfl⟩
    · have x1b : ((s[0].toNat : Int) == 43) = false := by simp; omega
      by_cases x2 : s[0].toNat = 45
      · have x2b : ((s[0].toNat : Int) == 45) = true := by simp; omega
        rw [show decide (s[0].toNat = 43 ∨ s[0].toNat = 45) = true from decide_eq_true (.inr x2)] at hJ
        clear x1 x2
        cases a : letN s[1].toNat <;> cases b : digN s[1].toNat <;> rw [a] at hL <;> rw [b] at hD <;> rw [a, b] at hJ <;> clear a b
        all_goals
          go_enter Tryd.func88, Tryd.ntmps88
          go_wp2_with (first
            | (go_at_call 86; refine (hL _).mono ?_; rintro e w' ⟨rfl, hw'⟩; replace hw' := hw'.symm; subst hw')
            | (go_at_call 96; refine (hD _).mono ?_; rintro e w' ⟨rfl, hw'⟩; replace hw' := hw'.symm; subst hw'))
          go_ret
          exact ⟨ret_boolP (by rw [hJ.out]; rfl), rfl⟩
      · have x2b : ((s[0].toNat : Int) == 45) = false := by simp; omega
        rw [show decide (s[0].toNat = 43 ∨ s[0].toNat = 45) = false from decide_eq_false (by omega)] at hJ
        clear x1 x2 hL hD
        go_enter Tryd.func88, Tryd.ntmps88
        go_wp2
        go_ret
        exact ⟨ret_boolP (by rw [hJ.out]; rfl), rfl⟩
  · have hi1 : ¬ (1 : Int) < s.size := by omega
    have hJ : Hid (joinsB s.data.toList = false) := (by show joinsB _ = _; rw [e0, drop_end s 1 (by omega)]; rfl)
    clear e0
    by_cases x1 : s[0].toNat = 43 ∨ s[0].toNat = 45
    · rcases x1 with x1 | x1
      · have x1b : ((s[0].toNat : Int) == 43) = true := by simp; omega
        go_enter Tryd.func88, Tryd.ntmps88
        go_wp2
        go_ret
        exact ⟨ret_boolP (by rw [hJ.out]), rfl⟩
      · have x1b : ((s[0].toNat : Int) == 43) = false := by simp; omega
        have x2b : ((s[0].toNat : Int) == 45) = true := by simp; omega
        go_enter Tryd.func88, Tryd.ntmps88
        go_wp2
        go_ret
        exact ⟨ret_boolP (by rw [hJ.out]), rfl⟩
    · have x1b : ((s[0].toNat : Int) == 43) = false := by simp; omega
      have x2b : ((s[0].toNat : Int) == 45) = false := by simp; omega
      go_enter Tryd.func88, Tryd.ntmps88
      go_wp2
      go_ret
      exact ⟨ret_boolP (by rw [hJ.out]), rfl⟩
end Go.Proofs.YtdjlfpkemdiadaaDoor
/- nameLength, the reference's name; both Names. -/
namespace Go.Proofs.YtdjlfpkemdiadaaDoor
open Go.RowKit M
set_option linter.unusedSimpArgs false
set_option linter.unusedVariables false

theorem run_go (s : ByteArray) (n : Nat) (h : n < s.size) (hc : (innN s[n].toNat || joinsB (s.data.toList.drop n)) = true) : nameRun (s.data.toList.drop n) = 1 + nameRun (s.data.toList.drop (n + 1)) := by
  rw [drop_cons s n h] at hc ⊢
  show (if innN s[n].toNat || joinsB (s[n] :: s.data.toList.drop (n + 1)) then 1 + nameRun (s.data.toList.drop (n + 1)) else 0) = _
  rw [if_pos hc]
theorem run_stop (s : ByteArray) (n : Nat) (h : n < s.size) (hc : (innN s[n].toNat || joinsB (s.data.toList.drop n)) = false) : nameRun (s.data.toList.drop n) = 0 := by
  rw [drop_cons s n h] at hc ⊢
  show (if innN s[n].toNat || joinsB (s[n] :: s.data.toList.drop (n + 1)) then 1 + nameRun (s.data.toList.drop (n + 1)) else 0) = _
  rw [if_neg (by rw [hc]; decide)]
theorem len_go (s : ByteArray) (a : Nat) (h : a < s.size) (hc : letN s[a].toNat = true) : nameLen (s.data.toList.drop a) = 1 + nameRun (s.data.toList.drop (a + 1)) := by
  rw [drop_cons s a h]
  show (if letN s[a].toNat then _ else _) = _
  rw [if_pos hc]
theorem len_stop (s : ByteArray) (a : Nat) (h : a < s.size) (hc : letN s[a].toNat = false) : nameLen (s.data.toList.drop a) = 0 := by
  rw [drop_cons s a h]
  show (if letN s[a].toNat then _ else _) = _
  rw [if_neg (by rw [hc]; decide)]

set_option maxRecDepth 100000 in
set_option maxHeartbeats 1000000 in
theorem nameLength_any (s : ByteArray) (hs : s.size ≤ maxLen) (h0 : 0 < s.size) (w : World) : Calls Tryd.prog 68 #[.string s] w fun e w' => e = .returned (.int .i64 (nameLen s.data.toList : Nat)) ∧ w' = w := by
  have hs' := hs
  unfold maxLen at hs
  have hi0 : (0 : Int) < s.size := by omega
  have hL := fun w => letter_any s[0].toNat s[0].toNat_lt w
  cases a : letN s[0].toNat with
  | false =>
    have hE : Hid (nameLen s.data.toList = 0) := len_stop s 0 h0 a
    rw [a] at hL
    clear a
    go_enter Tryd.func68, Tryd.ntmps68
    go_wp2_with (go_at_call 86; refine (hL _).mono ?_; rintro e w' ⟨rfl, hw'⟩; replace hw' := hw'.symm; subst hw')
    go_ret
    exact ⟨by rw [hE.out]; rfl, rfl⟩
  | true =>
    have hE : Hid (nameLen s.data.toList = 1 + nameRun (s.data.toList.drop 1)) := len_go s 0 h0 a
    rw [a] at hL
    clear a
    go_enter Tryd.func68, Tryd.ntmps68
    go_wp2_with (go_at_call 86; refine (hL _).mono ?_; rintro e w' ⟨rfl, hw'⟩; replace hw' := hw'.symm; subst hw')
    go_loop [3] (fun t => ∃ n : Nat, 1 ≤ n ∧ n ≤ s.size ∧ t = .int .i64 (n : Int) ∧ Hid (nameLen s.data.toList = n + nameRun (s.data.toList.drop n))) (fun t => s.size - (intOf t).toNat)
    case atStart => exact ⟨1, by omega, by omega, rfl, hE⟩
    case round =>
      obtain ⟨n, h1, hn, rfl, HN⟩ := hrel
      clear hL hE
      by_cases hlt : n < s.size
      · have hi : (n : Int) < s.size := by omega
        have hn' : (n : Int) ≤ s.size := by omega
        have hI := fun w => inner_any s[n].toNat s[n].toNat_lt w
        cases a : innN s[n].toNat with
        | true =>
          have HG : Hid (nameLen s.data.toList = n + 1 + nameRun (s.data.toList.drop (n + 1))) := (by show nameLen _ = _; rw [HN.out, run_go s n hlt (by rw [a]; rfl)]; omega)
          rw [a] at hI
          clear a HN
          go_wp2_with (go_at_call 87; refine (hI _).mono ?_; rintro e w' ⟨rfl, hw'⟩; replace hw' := hw'.symm; subst hw')
          go_round
          case rel => exact ⟨n + 1, by omega, by omega, by go_num, HG⟩
          case measure => simp [intOf]; omega
        | false =>
          have hJ := fun w => joins_any (s.extract n s.size) (by rw [ByteArray.size_extract]; unfold maxLen; omega) (by rw [ByteArray.size_extract]; omega) w
          rw [exE] at hJ
          cases b : joinsB (s.data.toList.drop n) with
          | true =>
            have HG : Hid (nameLen s.data.toList = n + 1 + nameRun (s.data.toList.drop (n + 1))) := (by show nameLen _ = _; rw [HN.out, run_go s n hlt (by rw [a, b]; rfl)]; omega)
            rw [a] at hI
            rw [b] at hJ
            clear a b HN
            go_wp2_with (first
              | (go_at_call 87; refine (hI _).mono ?_; rintro e w' ⟨rfl, hw'⟩; replace hw' := hw'.symm; subst hw')
              | (go_at_call 88; refine (hJ _).mono ?_; rintro e w' ⟨rfl, hw'⟩; replace hw' := hw'.symm; subst hw'))
            go_round
            case rel => exact ⟨n + 1, by omega, by omega, by go_num, HG⟩
            case measure => simp [intOf]; omega
          | false =>
            have HG : Hid (nameLen s.data.toList = n) := (by show nameLen _ = _; rw [HN.out, run_stop s n hlt (by rw [a, b]; rfl)]; rfl)
            rw [a] at hI
            rw [b] at hJ
            clear a b HN
            go_wp2_with (first
              | (go_at_call 87; refine (hI _).mono ?_; rintro e w' ⟨rfl, hw'⟩; replace hw' := hw'.symm; subst hw')
              | (go_at_call 88; refine (hJ _).mono ?_; rintro e w' ⟨rfl, hw'⟩; replace hw' := hw'.symm; subst hw'))
            go_ret
            exact ⟨by rw [HG.out]; rfl, rfl⟩
      · have hi : ¬ (n : Int) < s.size := by omega
        have HG : Hid (nameLen s.data.toList = n) := (by show nameLen _ = _; rw [HN.out, drop_end s n (by omega)]; rfl)
        clear HN
        go_wp2
        go_ret
        exact ⟨by rw [HG.out]; rfl, rfl⟩
end Go.Proofs.YtdjlfpkemdiadaaDoor
/- The reference's name; both Names. -/
namespace Go.Proofs.YtdjlfpkemdiadaaDoor
open Go.RowKit M
set_option linter.unusedSimpArgs false
set_option linter.unusedVariables false

end Go.Proofs.YtdjlfpkemdiadaaDoor
/- Both Names. -/
namespace Go.Proofs.YtdjlfpkemdiadaaDoor
open Go.RowKit M
set_option linter.unusedSimpArgs false
set_option linter.unusedVariables false

/-- Whether a text is a name. -/
def nameB (l : List UInt8) : Bool := decide (0 < l.length ∧ l.length ≤ 64 ∧ nameLen l = l.length)

set_option maxRecDepth 100000 in
set_option maxHeartbeats 1000000 in
theorem name_any (s : ByteArray) (hs : s.size ≤ maxLen) (w : World) : Calls Tryd.prog 26 #[.string s] w fun e w' => e = .returned (.bool (nameB s.data.toList)) ∧ w' = w := by
  have hs' := hs
  unfold maxLen at hs
  have hB : nameB s.data.toList = decide (0 < s.size ∧ s.size ≤ 64 ∧ nameLen s.data.toList = s.size) := by unfold nameB; rw [← sizeL]
  by_cases h0 : s.size = 0
  · have he : s.toList.isEmpty = true := emp_t (List.eq_nil_of_length_eq_zero (by rw [← sizeL]; exact h0))
    have hE : Hid (nameB s.data.toList = false) := (by show nameB _ = _; rw [hB]; exact decide_eq_false (by omega))
    clear h0 hB
    go_enter Tryd.func26, Tryd.ntmps26
    go_wp2
    go_ret
    exact ⟨ret_boolP (by rw [hE.out]; try rfl), rfl⟩
  · have he : s.toList.isEmpty = false := emp_f (fun e => h0 (by rw [sizeL, e]; rfl))
    by_cases h1 : s.size ≤ 64
    · have hi : (s.size : Int) ≤ 64 := by omega
      have hN := fun w => nameLength_any s hs' (by omega) w
      have hE : Hid (nameB s.data.toList = decide (nameLen s.data.toList = s.size)) := (by show nameB _ = _; rw [hB, Bool.eq_iff_iff]; simp; omega)
      clear hB hs' h0
      generalize nameLen s.data.toList = k at *
      go_enter Tryd.func26, Tryd.ntmps26
      go_wp2_with (go_at_call 68; refine (hN _).mono ?_; rintro e w' ⟨rfl, hw'⟩; replace hw' := hw'.symm; subst hw')
      go_ret
      refine ⟨ret_boolP ?_, rfl⟩
      rw [hE.out, Bool.eq_iff_iff]; simp; try omega
    · have hi : ¬ (s.size : Int) ≤ 64 := by omega
      have hE : Hid (nameB s.data.toList = false) := (by show nameB _ = _; rw [hB]; exact decide_eq_false (by omega))
      clear hB h0
      go_enter Tryd.func26, Tryd.ntmps26
      go_wp2
      go_ret
      exact ⟨ret_boolP (by rw [hE.out]; try rfl), rfl⟩

/-- A spot as a value. -/
def spotV (p : Nat × Nat) : Value := .agg #[.int .i64 (p.1 : Nat), .int .i64 (p.2 : Nat)]

end Go.Proofs.YtdjlfpkemdiadaaDoor
