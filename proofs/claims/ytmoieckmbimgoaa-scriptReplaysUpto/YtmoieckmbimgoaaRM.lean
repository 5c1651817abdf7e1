/- The law of Replay, Outcome, Taken and Straight, for whatever is handed in. -/
import Derived.Test.YtmoieckmbimgoaaRL
namespace Go.Proofs.Ytmoieckmbimgoaa
open Go.RowKit M
set_option linter.unusedSimpArgs false
set_option linter.unusedVariables false

set_option maxRecDepth 100000 in
set_option maxHeartbeats 4000000 in
theorem scriptReplays_any (g : GR) (hr : ∀ l ∈ g.to, l.length ≤ 1048576) (a : Option Addr) (c n : Nat) (hn : g.to.length = n) (hn2 : n ≤ 1048576) (ks : List PK) (m : Nat) (hm : ks.length = m) (hm2 : m ≤ 1048576) (al : Option Addr) (cl : Nat) (hal : al = none → cl = 0) (w : World) (hR : RowsV w (.slice a n c) intE g.to) (hL : Seg w al (ks.flatMap pkL)) :
    Calls Try.prog 3 #[.agg #[.slice a n c, .int .u64 g.ends, .bool g.odd, .int .i64 g.holes], .slice al m cl] w fun e w' => e = .returned (.bool true) ∧ Below w.heap.size w w' := by
  by_cases h1 : (n : Int) ≤ 200
  · by_cases h2 : m ≤ 2000
    · exact replays_main g hr a c n hn h1 ks m hm h2 al cl hal w hR hL
    · have hSm := fun W => small_any a n c (.int .u64 g.ends) (.bool g.odd) (.int .i64 g.holes) W
      obtain ⟨ge, hge⟩ : ∃ x, g.ends = x := ⟨_, rfl⟩
      obtain ⟨go, hgo⟩ : ∃ x, g.odd = x := ⟨_, rfl⟩
      obtain ⟨gh, hgh⟩ : ∃ x, g.holes = x := ⟨_, rfl⟩
      rw [hge, hgo, hgh] at hSm
      rw [hge, hgo, hgh]
      have hgt : 2000 < (m : Int) := by omega
      clear hr hn hR hL hge hgo hgh hm hal h2
      have t1 : True := trivial
      have t2 : True := trivial
      go_enter Try.func3, Try.ntmps3
      go_wp2_with (first
        | (clear t1; refine wpList_boxS rfl 25 _ rfl [.slice a n c, .int .u64 ge, .bool go, .int .i64 gh] rfl ?_; intro W1 b1 F1 C1; have B1 := F_b F1; clear F1)
        | (clear t2; refine wpList_loadW rfl 25 _ rfl rfl C1 _ Try.underlying25 rfl infoGr ?_)
        | (go_at_call 5; refine (hSm _).mono ?_; rintro e W2 ⟨rfl, B2⟩; have B3 := Below.then B1 B2))
      go_ret
      exact ⟨rfl, B3⟩
  · have hSm := fun W => small_any a n c (.int .u64 g.ends) (.bool g.odd) (.int .i64 g.holes) W
    obtain ⟨ge, hge⟩ : ∃ x, g.ends = x := ⟨_, rfl⟩
    obtain ⟨go, hgo⟩ : ∃ x, g.odd = x := ⟨_, rfl⟩
    obtain ⟨gh, hgh⟩ : ∃ x, g.holes = x := ⟨_, rfl⟩
    rw [hge, hgo, hgh] at hSm
    rw [hge, hgo, hgh]
    clear hr hn hR hL hge hgo hgh hm hal
    have t1 : True := trivial
    have t2 : True := trivial
    go_enter Try.func3, Try.ntmps3
    go_wp2_with (first
      | (clear t1; refine wpList_boxS rfl 25 _ rfl [.slice a n c, .int .u64 ge, .bool go, .int .i64 gh] rfl ?_; intro W1 b1 F1 C1; have B1 := F_b F1; clear F1)
      | (clear t2; refine wpList_loadW rfl 25 _ rfl rfl C1 _ Try.underlying25 rfl infoGr ?_)
      | (go_at_call 5; refine (hSm _).mono ?_; rintro e W2 ⟨rfl, B2⟩; have B3 := Below.then B1 B2))
    go_ret
    exact ⟨rfl, B3⟩
end Go.Proofs.Ytmoieckmbimgoaa
