/- Several texts in one: X5, T0. -/
import Derived.Test.YtjnbhcakfenbhaaGreatDoorQae
import Derived.Test.YtjnbhcakfenbhaaGreatDoorQaf
import Derived.Test.YtjnbhcakfenbhaaGreatDoorQah
import Derived.ProofKit
/- Both Names; front, behind, both Places. -/
namespace Go.Proofs.YtjnbhcakfenbhaaGreatDoor
open Go.RowKit M
set_option linter.unusedSimpArgs false
set_option linter.unusedVariables false

/-- Whether a text is a name. -/
def nameB (l : List UInt8) : Bool := decide (0 < l.length ∧ l.length ≤ 64 ∧ nameLen l = l.length)

set_option maxRecDepth 100000 in
set_option maxHeartbeats 1000000 in
theorem name_any (s : ByteArray) (hs : s.size ≤ maxLen) (w : World) : Calls Tryz.prog 76 #[.string s] w fun e w' => e = .returned (.bool (nameB s.data.toList)) ∧ w' = w := by
  have hs' := hs
  unfold maxLen at hs
  have hB : nameB s.data.toList = decide (0 < s.size ∧ s.size ≤ 64 ∧ nameLen s.data.toList = s.size) := by unfold nameB; rw [← sizeL]
  by_cases h0 : s.size = 0
  · have he : s.toList.isEmpty = true := emp_t (List.eq_nil_of_length_eq_zero (by rw [← sizeL]; exact h0))
    have hE : Hid (nameB s.data.toList = false) := (by show nameB _ = _; rw [hB]; exact decide_eq_false (by omega))
    clear h0 hB
    go_enter Tryz.func76, Tryz.ntmps76
    go_wp2
    go_ret
    exact ⟨ret_bool (by rw [hE.out]; try rfl), rfl⟩
  · have he : s.toList.isEmpty = false := emp_f (fun e => h0 (by rw [sizeL, e]; rfl))
    by_cases h1 : s.size ≤ 64
    · have hi : (s.size : Int) ≤ 64 := by omega
      have hN := fun w => nameLength_any s hs' (by omega) w
      have hE : Hid (nameB s.data.toList = decide (nameLen s.data.toList = s.size)) := (by show nameB _ = _; rw [hB, Bool.eq_iff_iff]; simp; omega)
      clear hB hs' h0
      generalize nameLen s.data.toList = k at *
      go_enter Tryz.func76, Tryz.ntmps76
      go_wp2_with (go_at_call 99; refine (hN _).mono ?_; rintro e w' ⟨rfl, hw'⟩; replace hw' := hw'.symm; subst hw')
      go_ret
      refine ⟨ret_bool ?_, rfl⟩
      rw [hE.out, Bool.eq_iff_iff]; simp; try omega
    · have hi : ¬ (s.size : Int) ≤ 64 := by omega
      have hE : Hid (nameB s.data.toList = false) := (by show nameB _ = _; rw [hB]; exact decide_eq_false (by omega))
      clear hB h0
      go_enter Tryz.func76, Tryz.ntmps76
      go_wp2
      go_ret
      exact ⟨ret_bool (by rw [hE.out]; try rfl), rfl⟩

set_option maxRecDepth 100000 in
set_option maxHeartbeats 1000000 in
theorem rName_any (s : ByteArray) (hs : s.size ≤ maxLen) (w : World) : Calls Tryz.prog 156 #[.string s] w fun e w' => e = .returned (.bool (nameB s.data.toList)) ∧ w' = w := by
  have hs' := hs
  unfold maxLen at hs
  have hB : nameB s.data.toList = decide (0 < s.size ∧ s.size ≤ 64 ∧ nameLen s.data.toList = s.size) := by unfold nameB; rw [← sizeL]
  by_cases h0 : s.size = 0
  · have he : ¬ (0 : Int) < s.size := by omega
    have hE : Hid (nameB s.data.toList = false) := (by show nameB _ = _; rw [hB]; exact decide_eq_false (by omega))
    clear h0 hB
    go_enter Tryz.func156, Tryz.ntmps156
    go_wp2
    go_ret
    exact ⟨ret_bool (by rw [hE.out]; try rfl), rfl⟩
  · have he : (0 : Int) < s.size := by omega
    by_cases h1 : s.size ≤ 64
    · have hi : (s.size : Int) ≤ 64 := by omega
      have hN := fun w => rname_any s hs' 0 (by omega) w
      rw [List.drop_zero] at hN
      have hE : Hid (nameB s.data.toList = decide (nameLen s.data.toList = s.size)) := (by show nameB _ = _; rw [hB, Bool.eq_iff_iff]; simp; omega)
      clear hB hs' h0
      generalize nameLen s.data.toList = k at *
      go_enter Tryz.func156, Tryz.ntmps156
      go_wp2_with (go_at_call 89; refine (hN _).mono ?_; rintro e w' ⟨rfl, hw'⟩; replace hw' := hw'.symm; subst hw')
      go_ret
      refine ⟨ret_bool ?_, rfl⟩
      rw [hE.out, Bool.eq_iff_iff]; simp; try omega
    · have hi : ¬ (s.size : Int) ≤ 64 := by omega
      have hE : Hid (nameB s.data.toList = false) := (by show nameB _ = _; rw [hB]; exact decide_eq_false (by omega))
      clear hB h0
      go_enter Tryz.func156, Tryz.ntmps156
      go_wp2
      go_ret
      exact ⟨ret_bool (by rw [hE.out]; try rfl), rfl⟩

/-- A spot as a value. -/
def spotV (p : Nat × Nat) : Value := .agg #[.int .i64 (p.1 : Nat), .int .i64 (p.2 : Nat)]

set_option maxRecDepth 100000 in
set_option maxHeartbeats 1000000 in
theorem front_any (w : World) : Calls Tryz.prog 35 #[] w fun e w' => e = .returned (spotV (1, 1)) ∧ Below w.heap.size w w' := by
  go_enter Tryz.func35, Tryz.ntmps35
  go_wp2
  exact bodyPost_ret (v := .agg #[.int .i64 1, .int .i64 1]) (by simp [results, Tryz.results35, go_sem]) rfl ⟨rfl, (Below.refl _ _).alloc (Nat.le_refl _) _⟩

set_option maxRecDepth 100000 in
set_option maxHeartbeats 1000000 in
theorem behind_any (a b : Nat) (s : ByteArray) (hs : s.size < 4611686018427387904) (ha : a < 2305843009213693952) (hb : b < 2305843009213693952) (w : World) :
    Calls Tryz.prog 36 #[.agg #[.int .i64 (a : Int), .int .i64 (b : Int)], .string s] w fun e w' => e = .returned (spotV (spotF (a, b) s.data.toList)) ∧ Below w.heap.size w w' := by
  have hLast := fun w => Tryz.strings_LastIndexByte s 10 hs w
  rcases spot_lib s (a, b) with ⟨h1, h2⟩ | ⟨i, hi, h1, h2⟩
  · rw [h1] at hLast
    have hE : Hid (spotF (a, b) s.data.toList = (a, b + s.size)) := h2
    clear h1 h2
    go_enter Tryz.func36, Tryz.ntmps36
    go_wp2_with (go_at_call 59; refine (hLast _).mono ?_; rintro e w' ⟨rfl, hw'⟩; replace hw' := hw'.symm; subst hw')
    refine bodyPost_ret (v := .agg #[.int .i64 (a : Int), .int .i64 ((b : Int) + s.size)]) (by simp [results, Tryz.results36, go_sem]) rfl ⟨?_, ((Below.refl _ _).alloc (Nat.le_refl _) _).alloc (by simp) _⟩
    rw [hE.out, spotV]
    simp
  · rw [h1] at hLast
    have hCnt := fun w => Tryz.strings_Count_one s 10 w
    have hcl : Lib.countByte s.data.toList 10 ≤ s.size := (by rw [sizeL]; exact List.count_le_length)
    have hE : Hid (spotF (a, b) s.data.toList = (a + Lib.countByte s.data.toList 10, s.size - i)) := h2
    clear h1 h2
    generalize Lib.countByte s.data.toList 10 = k at *
    have hj : ¬ ((i : Int) < 0) := by omega
    have hw1 : IntKind.i64.wrap ((a : Int) + k) = (a : Int) + k := by rw [IntKind.wrap_i64]; omega
    have hw2 : IntKind.i64.wrap ((s.size : Int) - i) = (s.size : Int) - i := by rw [IntKind.wrap_i64]; omega
    go_enter Tryz.func36, Tryz.ntmps36
    go_wp2_with (go_at_call 59; refine (hLast _).mono ?_; rintro e w' ⟨rfl, hw'⟩; replace hw' := hw'.symm; subst hw')
    go_region_with (go_at_call 60; refine (hCnt _).mono ?_; rintro e w' ⟨rfl, hw'⟩; replace hw' := hw'.symm; subst hw')
    all_goals go_wp2
    all_goals
      refine bodyPost_ret (v := .agg #[.int .i64 ((a : Int) + k), .int .i64 ((s.size : Int) - i)]) (by simp [results, Tryz.results36, go_sem, hw1, hw2]) rfl ⟨?_, ?_⟩
    all_goals first
      | (rw [hE.out, spotV]; simp; omega)
      | exact below_drew (((Below.refl _ _).alloc (Nat.le_refl _) _).alloc (by simp) _)

theorem info63 : (Tryz.prog.info? 89).map (·.size) = some 2 := by kernel_rfl
set_option maxRecDepth 100000 in
set_option maxHeartbeats 1000000 in
theorem place_in (s : ByteArray) (hs : s.size < 4611686018427387904) (p : Nat) (hp : p ≤ s.size) (w : World) :
    Calls Tryz.prog 15 #[.string s, .int .i64 (p : Int)] w fun e w' => e = .returned (.tuple #[.int .i64 ((spotF (1, 1) (s.data.toList.take p)).1 : Nat), .int .i64 ((spotF (1, 1) (s.data.toList.take p)).2 : Nat), .bool true]) ∧ Below w.heap.size w w' := by
  have hF : ∀ w, Calls Tryz.prog 35 #[] w fun e w' => e = .returned (.agg #[.int .i64 1, .int .i64 1]) ∧ Below w.heap.size w w' := fun w => front_any w
  have hBe : ∀ w, Calls Tryz.prog 36 #[.agg #[.int .i64 1, .int .i64 1], .string (s.extract 0 p)] w fun e w' => e = .returned (spotV (spotF (1, 1) (s.data.toList.take p))) ∧ Below w.heap.size w w' := fun w => by
    have := behind_any 1 1 (s.extract 0 p) (by rw [ByteArray.size_extract]; omega) (by omega) (by omega) w
    rw [exL, List.drop_zero] at this
    exact this
  generalize spotF (1, 1) (s.data.toList.take p) = q at *
  obtain ⟨q1, q2⟩ := q
  have h1 : ¬ ((p : Int) < 0) := by omega
  have h2 : ¬ ((s.size : Int) < p) := by omega
  have h3 : (p : Int) ≤ s.size := by omega
  go_enter Tryz.func15, Tryz.ntmps15
  go_wp2_with fail
  refine grow_make 5 _ (MadeS 89 [.int .i64 0, .int .i64 0] w) (by kernel_rfl) (by kernel_rfl) rfl rfl (madeS_grown _ _ w) (madeS_make _ _ Tryz.zeroValue89 rfl w) ?_
  simp only [List.take_succ_cons, List.take_zero, List.drop_succ_cons, List.drop_zero]
  refine wpG_call rfl (fun w _ => hF w) (fun w => by first | rfl | (go_simp; done)) ?_
  refine wpG_put rfl (v := .string s) (fun w => by first | rfl | (go_simp; done)) ?_
  refine wpG_put rfl (v := .int .i64 (p : Int)) (fun w => by first | rfl | (go_simp; done)) ?_
  simp only [Act.put, List.setIfInBounds_toArray, List.set_cons_succ, List.set_cons_zero]
  refine wpG_put rfl (v := .string (s.extract 0 p)) (fun w => by first | rfl | (go_simp; done)) ?_
  refine wpG_call rfl (fun w _ => hBe w) (fun w => by first | rfl | (go_simp; done)) ?_
  simp only [Act.put, List.setIfInBounds_toArray, List.set_cons_succ, List.set_cons_zero]
  refine wpG_nil ?_
  rintro v W6 ⟨hW6, b, rfl, hb, r⟩
  simp only [Act.put, List.setIfInBounds_toArray, List.set_cons_succ, List.set_cons_zero]
  refine wpList_storeS rfl 89 _ _ rfl rfl [.int .i64 (q1 : Int), .int .i64 (q2 : Int)] rfl r (by simp) info63 (by simp [Value.oneCell']) ?_
  intro W7 U7 r7
  have hB7 : Below w.heap.size w W7 := U7.trans hW6 hb
  have c0 : W7.cell? ⟨b, 0, none⟩ = some (.int .i64 (q1 : Int)) := r7.cell 0
  have c1 : W7.cell? ⟨b, 1, none⟩ = some (.int .i64 (q2 : Int)) := r7.cell 1
  clear hF hBe hW6 hb r U7 r7
  go_wp2_with fail
  go_quiet (fail)
  go_wp2
  go_ret3
  exact ⟨rfl, below_drewN hB7 _⟩
end Go.Proofs.YtjnbhcakfenbhaaGreatDoor
/- Conditions as trees: nodes, the fold that makes a tree of them, its depth and its text. No program is named. -/
namespace Go.Proofs.YtjnbhcakfenbhaaGreatDoor
set_option linter.unusedSimpArgs false
set_option linter.unusedVariables false

/-- A node of a condition. -/
structure Nd where
  op : Int
  a : Int
  b : Int
  th : Int
  nm : ByteArray
  val : Int
def noName : ByteArray := ⟨#[]⟩
inductive Tr where
  | tru
  | is (th : Int) (nm : ByteArray) (v : Int)
  | not (t : Tr)
  | and (x y : Tr)
  | or (x y : Tr)
def Tr.sz : Tr → Nat
  | .tru => 1
  | .is _ _ _ => 1
  | .not t => t.sz + 1
  | .and x y => x.sz + y.sz + 1
  | .or x y => x.sz + y.sz + 1
theorem Tr.pos : ∀ t : Tr, 0 < t.sz
  | .tru => by simp [Tr.sz]
  | .is _ _ _ => by simp [Tr.sz]
  | .not _ => by simp [Tr.sz]
  | .and _ _ => by simp [Tr.sz]
  | .or _ _ => by simp [Tr.sz]
def Tr.op : Tr → Int
  | .tru => 1
  | .is _ _ _ => 2
  | .not _ => 3
  | .and _ _ => 4
  | .or _ _ => 5
/-- Whether a name may stand in a condition, and its thread. -/
def refOk (nb : ByteArray → Bool) (th : Int) (nm : ByteArray) : Prop := -1 ≤ th ∧ th ≤ 9999 ∧ nb nm = true
/-- A tree's nodes stand from a place on. -/
def At (nb : ByteArray → Bool) (ns : List Nd) : Tr → Nat → Prop
  | .tru, lo => ns[lo]? = some ⟨1, 0, 0, 0, noName, 0⟩
  | .is th nm v, lo => ns[lo]? = some ⟨2, 0, 0, th, nm, v⟩ ∧ refOk nb th nm
  | .not t, lo => At nb ns t lo ∧ ns[lo + t.sz]? = some ⟨3, ((lo + t.sz - 1 : Nat) : Int), 0, 0, noName, 0⟩
  | .and x y, lo => At nb ns x lo ∧ At nb ns y (lo + x.sz) ∧ ns[lo + x.sz + y.sz]? = some ⟨4, ((lo + x.sz - 1 : Nat) : Int), ((lo + x.sz + y.sz - 1 : Nat) : Int), 0, noName, 0⟩
  | .or x y, lo => At nb ns x lo ∧ At nb ns y (lo + x.sz) ∧ ns[lo + x.sz + y.sz]? = some ⟨5, ((lo + x.sz - 1 : Nat) : Int), ((lo + x.sz + y.sz - 1 : Nat) : Int), 0, noName, 0⟩
/-- The place of a tree's last node. -/
def Tr.root (t : Tr) (lo : Nat) : Nat := lo + t.sz - 1
theorem At.root {nb : ByteArray → Bool} {ns : List Nd} : ∀ {t : Tr} {lo : Nat}, At nb ns t lo → ∃ n, ns[t.root lo]? = some n ∧ n.op = t.op
  | .tru, lo, h => ⟨_, h, rfl⟩
  | .is _ _ _, lo, h => ⟨_, h.1, rfl⟩
  | .not t, lo, h => ⟨_, h.2, rfl⟩
  | .and x y, lo, h => ⟨_, (by rw [show (Tr.and x y).root lo = lo + x.sz + y.sz by simp only [Tr.root, Tr.sz]; omega]; exact h.2.2), rfl⟩
  | .or x y, lo, h => ⟨_, (by rw [show (Tr.or x y).root lo = lo + x.sz + y.sz by simp only [Tr.root, Tr.sz]; omega]; exact h.2.2), rfl⟩
theorem At.lt {nb : ByteArray → Bool} {ns : List Nd} {t : Tr} {lo : Nat} (h : At nb ns t lo) : lo + t.sz ≤ ns.length := by
  obtain ⟨n, h, _⟩ := h.root
  have := (List.getElem?_eq_some_iff.1 h).1
  have := t.pos
  unfold Tr.root at *
  omega

/-- A node is put onto the trees ahead of it. -/
def stepT (nb : ByteArray → Bool) (st : List Tr) (i : Nat) (n : Nd) : Option (List Tr) :=
  if n.op = 1 then (if n.a = 0 ∧ n.b = 0 ∧ n.th = 0 ∧ n.nm = noName ∧ n.val = 0 then some (.tru :: st) else none)
  else if n.op = 2 then (if n.a = 0 ∧ n.b = 0 ∧ -1 ≤ n.th ∧ n.th ≤ 9999 ∧ nb n.nm = true then some (.is n.th n.nm n.val :: st) else none)
  else if n.op = 3 then match st with
    | t :: r => if n.a = (i : Int) - 1 ∧ n.b = 0 ∧ n.th = 0 ∧ n.nm = noName ∧ n.val = 0 then some (.not t :: r) else none
    | [] => none
  else if n.op = 4 then match st with
    | y :: x :: r => if n.a = (i : Int) - y.sz - 1 ∧ n.b = (i : Int) - 1 ∧ n.th = 0 ∧ n.nm = noName ∧ n.val = 0 then some (.and x y :: r) else none
    | _ => none
  else if n.op = 5 then match st with
    | y :: x :: r => if n.a = (i : Int) - y.sz - 1 ∧ n.b = (i : Int) - 1 ∧ n.th = 0 ∧ n.nm = noName ∧ n.val = 0 then some (.or x y :: r) else none
    | _ => none
  else none
def foldT (nb : ByteArray → Bool) : List Nd → Nat → List Tr → Option (List Tr)
  | [], _, st => some st
  | n :: ns, i, st => match stepT nb st i n with
    | none => none
    | some st' => foldT nb ns (i + 1) st'
/-- The trees stand one behind the other, the last one first in the list. -/
def Stand (nb : ByteArray → Bool) (ns : List Nd) : List Tr → Nat → Prop
  | [], i => i = 0
  | t :: r, i => t.sz ≤ i ∧ At nb ns t (i - t.sz) ∧ Stand nb ns r (i - t.sz)

theorem stand_step {nb : ByteArray → Bool} {ns : List Nd} {st st' : List Tr} {i : Nat} {n : Nd} (hS : Stand nb ns st i) (hn : ns[i]? = some n) (h : stepT nb st i n = some st') : Stand nb ns st' (i + 1) := by
  obtain ⟨op, a, b, th, nm, val⟩ := n
  unfold stepT at h
  split at h
  · rename_i h1
    split at h
    · rename_i h2
      obtain ⟨x1, x2, x3, x4, x5⟩ := h2
      dsimp only at h1 x1 x2 x3 x4 x5
      subst h1 x1 x2 x3 x4 x5
      cases h
      exact ⟨by simp [Tr.sz], by simpa [Tr.sz, At] using hn, by simpa [Tr.sz] using hS⟩
    · cases h
  · split at h
    · rename_i _ h1
      split at h
      · rename_i h2
        obtain ⟨x1, x2, x3, x4, x5⟩ := h2
        dsimp only at h1 x1 x2 x3 x4 x5
        subst h1 x1 x2
        cases h
        exact ⟨by simp [Tr.sz], ⟨by simpa [Tr.sz] using hn, x3, x4, x5⟩, by simpa [Tr.sz] using hS⟩
      · cases h
    · split at h
      · rename_i _ _ h1
        rcases st with _ | ⟨t, r⟩
        · cases h
        · obtain ⟨s1, s2, s3⟩ := hS
          dsimp only at h
          split at h
          · rename_i h2
            obtain ⟨x1, x2, x3, x4, x5⟩ := h2
            dsimp only at h1 x1 x2 x3 x4 x5
            subst h1 x2 x3 x4 x5
            cases h
            have hp := t.pos
            refine ⟨by simp [Tr.sz]; omega, ⟨by rw [show i + 1 - (Tr.not t).sz = i - t.sz by simp [Tr.sz]]; exact s2, ?_⟩, by rw [show i + 1 - (Tr.not t).sz = i - t.sz by simp [Tr.sz]]; exact s3⟩
            rw [show i + 1 - (Tr.not t).sz + t.sz = i by simp [Tr.sz]; omega, hn]
            congr 2
            rw [x1]; omega
          · cases h
      · split at h
        · rename_i _ _ _ h1
          rcases st with _ | ⟨y, _ | ⟨x, r⟩⟩
          · cases h
          · cases h
          · obtain ⟨s1, s2, s3, s4, s5⟩ := hS
            dsimp only at h
            split at h
            · rename_i h2
              obtain ⟨x1, x2, x3, x4, x5⟩ := h2
              dsimp only at h1 x1 x2 x3 x4 x5
              subst h1 x3 x4 x5
              cases h
              have hp := x.pos
              have hq := y.pos
              have e1 : i + 1 - (Tr.and x y).sz = i - y.sz - x.sz := by simp [Tr.sz]; omega
              have e2 : i - y.sz - x.sz + x.sz = i - y.sz := by omega
              have e3 : i - y.sz + y.sz = i := by omega
              refine ⟨by simp [Tr.sz]; omega, ⟨by rw [e1]; exact s4, by rw [e1, e2]; exact s2, ?_⟩, by rw [e1]; exact s5⟩
              rw [e1, e2, e3, hn]
              congr 2
              · rw [x1]; omega
              · rw [x2]; omega
            · cases h
        · split at h
          · rename_i _ _ _ _ h1
            rcases st with _ | ⟨y, _ | ⟨x, r⟩⟩
            · cases h
            · cases h
            · obtain ⟨s1, s2, s3, s4, s5⟩ := hS
              dsimp only at h
              split at h
              · rename_i h2
                obtain ⟨x1, x2, x3, x4, x5⟩ := h2
                dsimp only at h1 x1 x2 x3 x4 x5
                subst h1 x3 x4 x5
                cases h
                have hp := x.pos
                have hq := y.pos
                have e1 : i + 1 - (Tr.or x y).sz = i - y.sz - x.sz := by simp [Tr.sz]; omega
                have e2 : i - y.sz - x.sz + x.sz = i - y.sz := by omega
                have e3 : i - y.sz + y.sz = i := by omega
                refine ⟨by simp [Tr.sz]; omega, ⟨by rw [e1]; exact s4, by rw [e1, e2]; exact s2, ?_⟩, by rw [e1]; exact s5⟩
                rw [e1, e2, e3, hn]
                congr 2
                · rw [x1]; omega
                · rw [x2]; omega
              · cases h
          · cases h
theorem stand_fold {nb : ByteArray → Bool} {all : List Nd} : ∀ (ns : List Nd) (i : Nat) (st st' : List Tr), all.drop i = ns → Stand nb all st i → foldT nb ns i st = some st' → Stand nb all st' (i + ns.length)
  | [], i, st, st', hd, hS, h => by cases h; exact hS
  | n :: ns, i, st, st', hd, hS, h => by
    have hn : all[i]? = some n := by have : (all.drop i)[0]? = some n := by rw [hd]; rfl
                                     simpa using this
    have hd' : all.drop (i + 1) = ns := by rw [← List.tail_drop, hd]; rfl
    unfold foldT at h
    split at h
    · cases h
    · rename_i st1 h1
      have := stand_fold ns (i + 1) st1 st' hd' (stand_step hS hn h1) h
      rw [List.length_cons, show i + (ns.length + 1) = i + 1 + ns.length by omega]
      exact this
/-- Nodes make a condition: this one. -/
def treeOf (nb : ByteArray → Bool) (ns : List Nd) : Option Tr :=
  if ns.length < 1 ∨ 1024 < ns.length then none
  else match foldT nb ns 0 [] with
    | some [t] => some t
    | _ => none
theorem tree_at {nb : ByteArray → Bool} {ns : List Nd} {t : Tr} (h : treeOf nb ns = some t) : At nb ns t 0 ∧ t.sz = ns.length ∧ 1 ≤ ns.length ∧ ns.length ≤ 1024 := by
  unfold treeOf at h
  split at h
  · cases h
  · rename_i hl
    split at h
    · rename_i t' hf
      cases h
      have := stand_fold (all := ns) ns 0 [] _ List.drop_zero rfl hf
      obtain ⟨s1, s2, s3⟩ := this
      have s3' : 0 + ns.length - t.sz = 0 := s3
      rw [s3'] at s2
      exact ⟨s2, by omega, by omega, by omega⟩
    · cases h

/-- Whether a part stands in brackets. -/
def brk (outer inner : Int) (second : Bool) : Bool :=
  if outer = 3 then inner == 4 || inner == 5
  else if outer = 4 then inner == 5 || (second && inner == 4)
  else second && inner == 5
def b2n (b : Bool) : Nat := if b then 1 else 0
def Tr.deep : Tr → Nat
  | .tru => 0
  | .is _ _ _ => 0
  | .not t => t.deep + b2n (brk 3 t.op false) + 1
  | .and x y => max (x.deep + b2n (brk 4 x.op false)) (y.deep + b2n (brk 4 y.op true))
  | .or x y => max (x.deep + b2n (brk 5 x.op false)) (y.deep + b2n (brk 5 y.op true))
theorem Tr.deep_le : ∀ t : Tr, t.deep ≤ 2 * t.sz
  | .tru => by simp [Tr.deep]
  | .is _ _ _ => by simp [Tr.deep]
  | .not t => by have := t.deep_le; simp only [Tr.deep, Tr.sz, b2n]; split <;> omega
  | .and x y => by have := x.deep_le; have := y.deep_le; have := x.pos; have := y.pos; simp only [Tr.deep, Tr.sz, b2n]; split <;> split <;> omega
  | .or x y => by have := x.deep_le; have := y.deep_le; have := x.pos; have := y.pos; simp only [Tr.deep, Tr.sz, b2n]; split <;> split <;> omega
def wrapB (b : Bool) (l : List UInt8) : List UInt8 := if b then 40 :: (l ++ [41]) else l
/-- A condition's text; numbers as a given function writes them. -/
def Tr.text (nt : Int → List UInt8) : Tr → List UInt8
  | .tru => [116, 114, 117, 101]
  | .is th nm v => (if th = -1 then nm.data.toList else nt th ++ 58 :: nm.data.toList) ++ 61 :: nt v
  | .not t => 126 :: wrapB (brk 3 t.op false) (t.text nt)
  | .and x y => wrapB (brk 4 x.op false) (x.text nt) ++ [32, 47, 92, 32] ++ wrapB (brk 4 y.op true) (y.text nt)
  | .or x y => wrapB (brk 5 x.op false) (x.text nt) ++ [32, 92, 47, 32] ++ wrapB (brk 5 y.op true) (y.text nt)
theorem wrapB_le (b : Bool) (l : List UInt8) : (wrapB b l).length ≤ l.length + 2 := by unfold wrapB; split <;> simp
/-- Check's answer. -/
def checkF (nb : ByteArray → Bool) (ns : List Nd) : Int := match treeOf nb ns with
  | none => 60
  | some t => if 64 < t.deep then 2 else 0
end Go.Proofs.YtjnbhcakfenbhaaGreatDoor
