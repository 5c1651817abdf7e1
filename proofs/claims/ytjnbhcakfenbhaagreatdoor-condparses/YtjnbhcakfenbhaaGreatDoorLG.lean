/- The law CondParses, whole: the lexers' contracts put in. -/
import Derived.Test.YtjnbhcakfenbhaaGreatDoorQbq
import Derived.Test.YtjnbhcakfenbhaaGreatDoorQbx
namespace Go.Proofs.YtjnbhcakfenbhaaGreatDoor
open Go.RowKit M
set_option linter.unusedSimpArgs false
set_option linter.unusedVariables false

def gOf (t : Lx.Tok) : GT := ⟨(t.kind : Int), ⟨t.text.toArray⟩, t.value, (t.line : Int), (t.col : Int), (t.at' : Int), (t.fin : Int)⟩
theorem cells_g (ts : List Lx.Tok) : Lx.cellsT ts = cellsG (ts.map gOf) := by
  induction ts with
  | nil => rfl
  | cons t ts ih => simp only [Lx.cellsT, cellsG, List.flatMap_cons, List.map_cons] at *; rw [ih]; rfl
theorem cut_text (l : List UInt8) : (cutF l).text.length ≤ l.length := by
  cases l with
  | nil => exact Nat.zero_le _
  | cons c r =>
    show (if letN c.toNat then namePiece (c :: r) else if numB (c :: r) then numPiece (c :: r) else if c.toNat = 34 then quotPiece (c :: r) else signPiece (c :: r)).text.length ≤ _
    split
    · unfold namePiece; split
      · exact Nat.zero_le _
      · simp only [List.length_take]; omega
    · split
      · unfold numPiece; split
        · simp only [List.length_take]; omega
        · exact Nat.zero_le _
      · split
        · unfold quotPiece; split
          · simp only [List.length_drop, List.length_take]; omega
          · exact Nat.zero_le _
        · unfold signPiece; split
          · exact Nat.zero_le _
          · simp only [List.length_take]; omega
theorem go_text : ∀ (f : Nat) (l : List UInt8) (p : Nat) (q : Nat × Nat) (t : Lx.Tok), Lx.Rd.tok t ∈ Lx.goF f l p q → t.text.length ≤ l.length
  | 0, l, p, q, t, h => by simp [Lx.goF] at h
  | f + 1, l, p, q, t, h => by
    rw [Lx.goF] at h
    split at h
    · simp at h
    · split at h
      · simp at h
      · split at h
        · rcases List.mem_cons.1 h with h | h
          · injection h with h
            subst h
            refine Nat.le_trans (cut_text _) ?_
            simp only [List.length_drop]; omega
          · exact go_text f l _ _ t h
        · simp at h
theorem rounds_text (l : List UInt8) (t : Lx.Tok) (h : Lx.Rd.tok t ∈ Lx.rounds l) : t.text.length ≤ l.length := by
  unfold Lx.rounds at h
  split at h
  · simp at h
  · exact go_text _ _ _ _ _ h

theorem parses_any (s : ByteArray) (hs : s.size < 4611686018427387904) (w : World) (hE : EType w) :
    Calls Tryz.prog 3 #[.string s] w fun en w' => en = .returned (.bool true) ∧ Below w.heap.size w w' := by
  obtain ⟨ts, st, hr, hlen, hst⟩ := Lx.dec_ex s.data.toList
  have hne := Lx.rd_not st
  have htx : ∀ g ∈ ts.map gOf, g.text.size ≤ maxLen := fun g hg => by
    obtain ⟨t, ht, rfl⟩ := List.mem_map.1 hg
    have h1 := rounds_text s.data.toList t (by rw [hr]; exact List.mem_append_left _ (List.mem_map.2 ⟨t, ht, rfl⟩))
    have h2 : s.data.toList.length = s.size := rfl
    show t.text.toArray.size ≤ maxLen
    rw [List.size_toArray]
    unfold maxLen
    omega
  have cAll := fun W => Lx.all_any s hs ts st.rd hr hne hlen W
  have cTok := fun W => Lx.rtokens_any s hs ts st.rd hr hne W
  have hul : (ts.map gOf).length ≤ 1048576 := by rw [List.length_map]; exact hlen
  cases st with
  | ok p =>
    have eP : placeV s (s.size : Int) = .tuple #[.int .i64 ((spotF (1, 1) (s.data.toList.take (s.size : Int).toNat)).1 : Nat), .int .i64 ((spotF (1, 1) (s.data.toList.take (s.size : Int).toNat)).2 : Nat), .bool true] := if_pos ⟨by omega, by omega⟩
    obtain ⟨L, hL⟩ : ∃ L : Int, (((spotF (1, 1) (s.data.toList.take (s.size : Int).toNat)).1 : Nat) : Int) = L := ⟨_, rfl⟩
    obtain ⟨C, hC⟩ : ∃ C : Int, (((spotF (1, 1) (s.data.toList.take (s.size : Int).toNat)).2 : Nat) : Int) = C := ⟨_, rfl⟩
    rw [hL, hC] at eP
    refine parses_core s (parseN (ts.map gOf ++ [endT L C s.size])) (parseF (ts.map gOf ++ [endT L C s.size])) w (fun W hW => ?_) (fun W hW => ?_)
    · refine pparse_any s (ts.map gOf) hul htx hs L C W (hE.below hW) ((cAll W).mono ?_) (fun V => (place_any s hs (s.size : Int) V).mono ?_)
      · rintro en w' ⟨h, hB⟩
        obtain ⟨v, rfl, hv⟩ := (show ∃ v, en = .returned (.tuple #[v, .nilIface]) ∧ w'.ownsRow W.heap.size 49 7 v ts.length (Lx.cellsT ts) from h)
        refine ⟨⟨v, rfl, ?_⟩, hB⟩
        rw [List.length_map, ← cells_g]; exact hv
      · rintro en w' ⟨rfl, hB⟩
        exact ⟨by rw [eP], hB⟩
    · refine rparse_any s (ts.map gOf) hul htx hs L C W (fun V hV => (cTok V).mono ?_) (fun V => (rplace_any s hs (s.size : Int) V).mono ?_)
      · rintro en w' ⟨⟨v, rfl, hv⟩, hB⟩
        refine ⟨⟨v, rfl, ?_⟩, hB⟩
        rw [List.length_map, ← cells_g]; exact hv
      · rintro en w' ⟨rfl, hB⟩
        exact ⟨by rw [eP], hB⟩
  | bad x y e =>
    have he : (e : Int) ≠ 0 := by
      rcases hst with h | h
      · cases h
      · exact h
    refine parses_core s [] (some ((x : Int), (y : Int), (e : Int))) w (fun W hW => pparse_lex s _ W ((cAll W).mono ?_)) (fun W hW => (rparse_lex s ((x : Int), (y : Int), (e : Int)) he W (fun V hV => (cTok V).mono ?_)).mono ?_)
    · rintro en w' ⟨h, hB⟩
      obtain ⟨ev, rfl, g, rfl, hg⟩ := (show ∃ ev, en = .returned (.tuple #[.slice none 0 0, ev]) ∧ Lx.ErrV (.pos x y e) ev w' from h)
      exact ⟨⟨_, _, rfl, fun V hV => fault_pos g x y e V ((hE.below (Below.then hW hB)).below hV) (IsS.grown hg hV)⟩, hB⟩
    · rintro en w' ⟨⟨v, rfl, hv⟩, hB⟩
      exact ⟨⟨v, rfl⟩, hB⟩
    · rintro en w' ⟨rfl, hB⟩
      exact ⟨⟨_, rfl, ownN_nil _ _⟩, hB⟩
  | long =>
    refine parses_core s [] (some (-1, 0, 1)) w (fun W hW => pparse_lex s _ W ((cAll W).mono ?_)) (fun W hW => (rparse_lex s (-1, 0, 1) (by decide) W (fun V hV => (cTok V).mono ?_)).mono ?_)
    · rintro en w' ⟨h, hB⟩
      obtain ⟨ev, rfl, rfl⟩ := (show ∃ ev, en = .returned (.tuple #[.slice none 0 0, ev]) ∧ Lx.ErrV .long ev w' from h)
      exact ⟨⟨_, _, rfl, fun V hV => fault_errno 1 V ((hE.below (Below.then hW hB)).below hV)⟩, hB⟩
    · rintro en w' ⟨⟨v, rfl, hv⟩, hB⟩
      exact ⟨⟨v, rfl⟩, hB⟩
    · rintro en w' ⟨rfl, hB⟩
      exact ⟨⟨_, rfl, ownN_nil _ _⟩, hB⟩
end Go.Proofs.YtjnbhcakfenbhaaGreatDoor
