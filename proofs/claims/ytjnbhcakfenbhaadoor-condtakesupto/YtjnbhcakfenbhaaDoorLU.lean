/- The law CondTakes, at every list of tokens. -/
import Derived.Test.YtjnbhcakfenbhaaDoorFA
namespace Go.Proofs.YtjnbhcakfenbhaaDoor
open Go.RowKit M
set_option linter.unusedSimpArgs false
set_option linter.unusedVariables false

theorem own_nil (W : World) (B : Nat) : W.ownsRow B 52 6 (.slice none 0 0) ([] : List Nd).length (cellsL []) := ⟨rfl, .inl ⟨rfl, rfl⟩⟩
theorem takes_any (gs : List GT) (a : Option Addr) (cap : Nat) (at' : Int) (hn : gs.length ≤ 1048576) (hs : ∀ g ∈ gs, g.text.size ≤ maxLen) (hnil : a = none → cap = 0) (w : World) (hT : Toks w a gs) (htb : ∀ b o, a = some ⟨b, o, none⟩ → b < w.heap.size) (hE : EType w) :
    Calls Tryd.prog 4 #[.slice a gs.length cap, .int .i64 at'] w fun en w' => en = .returned (.bool true) ∧ Below w.heap.size w w' := by
  have hf : Few gs := ⟨by omega, hs⟩
  by_cases hat : at' < 0 ∨ (gs.length : Int) < at'
  · refine takes_core gs a cap at' [] 0 (some (-1, 0, 4)) (by omega) hnil w hT (fun W g c hB _ _ => ?_) (fun W hB => ?_)
    · refine (take_out (a := some ⟨g, 0, none⟩) (cap := c) at' gs.length (by omega) hat W).mono ?_
      rintro en W' ⟨rfl, B⟩
      exact ⟨⟨_, _, rfl, own_nil _ _, fun V hV => fault_errno 4 V ((hE.below hB).below (Below.then B hV))⟩, B, by simp⟩
    · refine (rTake_out a cap at' gs.length (by omega) hat W).mono ?_
      rintro en W' ⟨rfl, B⟩
      exact ⟨⟨_, rfl, own_nil _ _⟩, B⟩
  · obtain ⟨k, rfl⟩ : ∃ k : Nat, at' = (k : Int) := ⟨at'.toNat, by omega⟩
    have hk : k ≤ gs.length := by omega
    cases hF : (takeR gs k).F with
    | none =>
      refine takes_core gs a cap k (takeR gs k).nodes (takeR gs k).k none (by omega) hnil w hT (fun W g c hB hT' hg => ?_) (fun W hB => ?_)
      · refine (take_any (cap := c) hf k hk W hT' (fun b o e => by cases e; exact hg)).mono ?_
        rintro en W' P
        obtain ⟨v, rfl, O, h1024⟩ := P.good hF
        exact ⟨⟨v, _, rfl, O, fun V hV => fault_nil V⟩, P.bel, h1024⟩
      · refine (rTake_any (cap := cap) hf k hk W (hT.below hB) (fun b o e => Nat.lt_of_lt_of_le (htb b o e) hB.size)).mono ?_
        rintro en W' P
        obtain ⟨v, rfl, O, _⟩ := P.good hF
        exact ⟨⟨v, rfl, O⟩, P.bel⟩
    | some x =>
      refine takes_core gs a cap k [] 0 (some x) (by omega) hnil w hT (fun W g c hB hT' hg => ?_) (fun W hB => ?_)
      · refine (take_any (cap := c) hf k hk W hT' (fun b o e => by cases e; exact hg)).mono ?_
        rintro en W' P
        obtain ⟨bp, rfl, _, I⟩ := P.bad x hF
        exact ⟨⟨_, _, rfl, own_nil _ _, fun V hV => fault_pos bp x.1 x.2.1 x.2.2 V ((hE.below hB).below (Below.then P.bel hV)) (IsS.grown I hV)⟩, P.bel, by simp⟩
      · refine (rTake_any (cap := cap) hf k hk W (hT.below hB) (fun b o e => Nat.lt_of_lt_of_le (htb b o e) hB.size)).mono ?_
        rintro en W' P
        obtain ⟨rfl, _⟩ := P.bad x hF
        exact ⟨⟨_, rfl, own_nil _ _⟩, P.bel⟩
end Go.Proofs.YtjnbhcakfenbhaaDoor
