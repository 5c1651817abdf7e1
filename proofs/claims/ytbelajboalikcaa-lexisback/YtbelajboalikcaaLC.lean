/- The law LexisBack in all its outcomes. -/
import Derived.Test.YtbelajboalikcaaLB1
import Derived.Test.YtbelajboalikcaaLB2
import Derived.Test.YtbelajboalikcaaLB3
import Derived.Test.YtbelajboalikcaaLB4
import Derived.Test.YtbelajboalikcaaLB5
import Derived.Test.YtbelajboalikcaaLB6
namespace Go.Proofs.Ytbelajboalikcaa
open Go.RowKit Go.Shelf M
set_option linter.unusedSimpArgs false
set_option linter.unusedVariables false

theorem allOk_of {s : ByteArray} {ts : List Tok} {G : List GT} (hs : s.size < 4611686018427387904) (hr : rounds s.data.toList = ts.map Rd.tok) (hG : ts.map toG = G) (hl : ts.length ≤ 1048576) : AllOk s G := fun w => by
  refine (all_any s hs ts none (by rw [hr]; simp) (fun t e => by cases e) hl w).mono ?_
  rintro e w' ⟨⟨v, rfl, hown⟩, hB⟩
  rw [cellsT_G, hG] at hown
  obtain ⟨a, c, rfl, hT⟩ := own_toks hown (by rw [← hG]; simp)
  exact ⟨⟨a, c, rfl, hT⟩, hB⟩
theorem allBad_of {s : ByteArray} {ts : List Tok} {r : Rd} (hs : s.size < 4611686018427387904) (hr : rounds s.data.toList = ts.map Rd.tok ++ (some r).toList) (hne : ∀ t, some r ≠ some (.tok t)) (hl : ts.length ≤ 1048576) : AllBad s := fun w => by
  refine (all_any s hs ts (some r) hr hne hl w).mono ?_
  rintro e w' ⟨⟨v, rfl, hE⟩, hB⟩
  obtain ⟨ty, u, rfl, _⟩ := errV_some hE
  exact ⟨⟨ty, u, rfl⟩, hB⟩
theorem bareOk_of {G BB : List GT} (hBB : G.map bareG = BB) (hl : G.length ≤ 1048576) : BareOk G BB := fun w a c hT => by
  refine (lbare_any a c G hl w hT).mono ?_
  rintro e w' ⟨⟨v, rfl, hown⟩, hB⟩
  rw [hBB] at hown
  obtain ⟨a', c', rfl, hT'⟩ := own_toks hown (by rw [← hBB]; simp)
  exact ⟨⟨a', c', rfl, hT'⟩, hB⟩
theorem sameOk_of {BB : List GT} (hl : BB.length ≤ 1048576) : SameOk BB := fun w a b c d h1 h2 => same_any a b c d BB hl w h1 h2
theorem writeOk_of {G : List GT} {V : Value} (hsz : ∀ g ∈ G, g.text.size < 2305843009213693952) (hn : G.length ≤ 1048576) (hV : writeV G = V) : WriteOk G V := fun w a c hT => by
  have := write_any a c G hsz (by omega) w hT
  rwa [hV] at this
theorem own_len (k : Int) (tx : List UInt8) : tx.length ≤ (ownF k tx).length := by
  unfold ownF
  split
  · simp; omega
  · exact Nat.le_refl _
theorem mk_list (l : List UInt8) : (ByteArray.mk l.toArray).data.toList = l := by simp
theorem mk_size (l : List UInt8) : (ByteArray.mk l.toArray).size = l.length := by rw [sizeL]
theorem oneOk_of {s : ByteArray} {ts : List Tok} (hr : rounds s.data.toList = ts.map Rd.tok) {t : Tok} (ht : t ∈ ts) : OneOk s (toG t) := by
  obtain ⟨h1, h2, h3, h4, _⟩ := back_own hr ht
  rw [← sizeL] at h2 h3
  refine ⟨(t.kind : Int), t.value, (t.line : Int), (t.col : Int), ⟨t.text.toArray⟩, t.at', t.fin, h1, h2, rfl, ?_⟩
  refine allOk_of (ts := [⟨t.kind, t.text, t.value, 1, 1, 0, t.fin - t.at'⟩]) (by rw [ByteArray.size_extract]; omega) ?_ ?_ (by simp)
  · rw [exL, List.drop_take]
    exact h4
  · show [toG _] = _
    unfold toG
    simp only [List.cons.injEq, GT.mk.injEq, and_true, true_and]
    omega
theorem texts_of {l : List UInt8} {ts : List Tok} (hr : rounds l = ts.map Rd.tok) : ∀ g ∈ ts.map toG, g.text.size < 2305843009213693952 := fun g hg => by
  obtain ⟨t, ht, rfl⟩ := List.mem_map.1 hg
  obtain ⟨h1, h2, h3, _, h5⟩ := back_own hr ht
  have := own_len (t.kind : Int) t.text
  rw [h5, List.length_take, List.length_drop] at this
  show (ByteArray.mk t.text.toArray).size < _
  rw [mk_size]
  omega

set_option maxRecDepth 100000 in
set_option maxHeartbeats 1000000 in
theorem back_many (a : Option Addr) (n cap : Nat) (v : Value) (hn : 1048576 < n) (w : World) : Calls Try.prog 7 #[.slice a n cap, v] w fun e w' => e = .returned (.bool true) ∧ Below w.heap.size w w' := by
  have hni : (1048576 : Int) < n := by omega
  go_enter Try.func7, Try.ntmps7
  go_wp2_with (first
    | (go_at_call 24; refine (awake_any _).mono ?_; rintro e W1 ⟨rfl, B1⟩))
  go_ret
  exact ⟨rfl, B1⟩

theorem back_law (a : Option Addr) (cap : Nat) (gs : List GT) (s : ByteArray) (hs : s.size < 2305843009213693952) (hgs : ∀ g ∈ gs, g.text.size < 2305843009213693952) (w : World) (hT : Toks w a gs) :
    Calls Try.prog 7 #[.slice a gs.length cap, .string s] w fun e w' => e = .returned (.bool true) ∧ Below w.heap.size w w' := by
  by_cases hn : 1048576 < gs.length
  · exact back_many a gs.length cap _ hn w
  · have hn : gs.length ≤ 1048576 := by omega
    have hs4 : s.size < 4611686018427387904 := by omega
    obtain ⟨ts2, er2, hr2, hne2, hl2⟩ := shape s.data.toList
    -- what is written of the list
    have first : (writeV gs = .tuple #[.string ⟨#[]⟩, .int .i64 50]) ∨ (writeV gs = .tuple #[.string ⟨#[]⟩, .int .i64 1]) ∨ ∃ (O1 : List UInt8) (G1 BB : List GT), writeV gs = .tuple #[.string ⟨O1.toArray⟩, .int .i64 0] ∧ AllOk ⟨O1.toArray⟩ G1 ∧ BareOk G1 BB ∧ BareOk gs BB ∧ SameOk BB := by
      cases hw : wrTo gs gs.length with
      | none => exact .inl (by unfold writeV; rw [hw])
      | some out =>
        by_cases hb : 1048576 < out.length
        · exact .inr (.inl (by unfold writeV; rw [hw]; exact if_pos hb))
        · obtain ⟨ts, t1, t2, t3⟩ := back_write hw (by omega)
          refine .inr (.inr ⟨out, ts.map toG, gs.map bareG, by unfold writeV; rw [hw]; exact if_neg hb, ?_, bareOk_of t2 (by simp; omega), bareOk_of rfl hn, sameOk_of (by simp; omega)⟩)
          exact allOk_of (ts := ts) (by rw [mk_size]; omega) (by rw [mk_list]; exact t1) rfl (by omega)
    cases er2 with
    | some r =>
      have cA2 := allBad_of hs4 hr2 hne2 hl2
      rcases first with h | h | ⟨O1, G1, BB, h, c1, c2, c3, c4⟩
      · exact back_ne a cap gs s hs w hT hn (writeOk_of hgs hn h) cA2
      · exact back_be a cap gs s hs w hT hn (writeOk_of hgs hn h) cA2
      · exact back_se a cap gs s hs w hT hn O1 G1 BB c1 c2 c3 c4 (writeOk_of hgs hn h) cA2
    | none =>
      have hr : rounds s.data.toList = ts2.map Rd.tok := by rw [hr2]; simp
      obtain ⟨O2, ho, hle, _, _⟩ := back_all hr
      rw [← sizeL] at hle
      have cA2 : AllOk s (ts2.map toG) := allOk_of hs4 hr rfl hl2
      have hn2 : (ts2.map toG).length ≤ 1048576 := by simp; omega
      have cOne : ∀ (j : Nat) (g : GT), (ts2.map toG)[j]? = some g → OneOk s g := fun j g hg => by
        obtain ⟨t, ht, rfl⟩ := List.mem_map.1 (List.mem_of_getElem? hg)
        exact oneOk_of hr ht
      have hsz2 := texts_of hr
      by_cases hb : 1048576 < O2.length
      · have hV2 : writeV (ts2.map toG) = .tuple #[.string ⟨#[]⟩, .int .i64 1] := by unfold writeV; rw [ho]; exact if_pos hb
        have hbig : 1048576 < 2 * s.size := by omega
        rcases first with h | h | ⟨O1, G1, BB, h, c1, c2, c3, c4⟩
        · exact back_nb a cap gs s hs w hT hn (writeOk_of hgs hn h) _ hn2 cA2 cOne hbig (writeOk_of hsz2 hn2 hV2)
        · exact back_bb a cap gs s hs w hT hn (writeOk_of hgs hn h) _ hn2 cA2 cOne hbig (writeOk_of hsz2 hn2 hV2)
        · exact back_sb a cap gs s hs w hT hn O1 G1 BB c1 c2 c3 c4 (writeOk_of hgs hn h) _ hn2 cA2 cOne hbig (writeOk_of hsz2 hn2 hV2)
      · have hV2 : writeV (ts2.map toG) = .tuple #[.string ⟨O2.toArray⟩, .int .i64 0] := by unfold writeV; rw [ho]; exact if_neg hb
        obtain ⟨ts, t1, t2, t3⟩ := back_write ho (by omega)
        have c5 : AllOk ⟨O2.toArray⟩ (ts.map toG) := allOk_of (ts := ts) (by rw [mk_size]; omega) (by rw [mk_list]; exact t1) rfl (by omega)
        have c6 : BareOk (ts.map toG) ((ts2.map toG).map bareG) := bareOk_of t2 (by rw [List.length_map, t3]; exact hn2)
        have c7 : BareOk (ts2.map toG) ((ts2.map toG).map bareG) := bareOk_of rfl hn2
        have c8 : SameOk ((ts2.map toG).map bareG) := sameOk_of (by rw [List.length_map]; exact hn2)
        rcases first with h | h | ⟨O1, G1, BB, h, c1, c2, c3, c4⟩
        · exact back_ns a cap gs s hs w hT hn (writeOk_of hgs hn h) _ hn2 cA2 cOne O2 _ _ c5 c6 c7 c8 (writeOk_of hsz2 hn2 hV2)
        · exact back_bs a cap gs s hs w hT hn (writeOk_of hgs hn h) _ hn2 cA2 cOne O2 _ _ c5 c6 c7 c8 (writeOk_of hsz2 hn2 hV2)
        · exact back_ss a cap gs s hs w hT hn O1 G1 BB c1 c2 c3 c4 (writeOk_of hgs hn h) _ hn2 cA2 cOne O2 _ _ c5 c6 c7 c8 (writeOk_of hsz2 hn2 hV2)
end Go.Proofs.Ytbelajboalikcaa
