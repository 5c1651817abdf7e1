/- Sort of the program. -/
import Derived.Test.YtbhgchhoeokjhabDoorCK
namespace Go.Proofs.YtbhgchhoeokjhabDoor
open Go Go.RowKit M
set_option linter.unusedSimpArgs false
set_option linter.unusedVariables false

theorem cmpt_small {l : List FS} (h : l.length < 2) : cmpt l = l := by
  match l, h with
  | [], _ => rfl
  | [x], _ => rfl
set_option maxRecDepth 100000 in
set_option maxHeartbeats 2000000 in
theorem compact_any {w : World} {B : Nat} {v : Value} {l : List FS} (hown : OwnL w B v l) (hB : B ≤ w.heap.size) (hn : l.length ≤ 4611686018427387903) :
    Calls Tryd.prog 24 #[v] w fun e w' => ∃ v', e = .returned v' ∧ OwnL w' B v' (cmpt l) ∧ Below B w w' := by
  by_cases h2 : l.length < 2
  · rw [cmpt_small h2]
    obtain ⟨a, c, rfl⟩ := own_form hown
    have hI : (l.length : Int) < 2 := by omega
    go_enter Tryd.func24, Tryd.ntmps24
    go_wp2
    go_ret
    exact ⟨_, rfl, hown, Below.refl _ _⟩
  · rcases hown.2 with ⟨hv, h0⟩ | ⟨g, cap, cur, hv, hg, hh, hc, hm, hs, ht⟩
    · omega
    · subst hv
      exact compact_great (cs := cur.toList) hg (by unfold IsS; rw [hh]) ht (by omega) hn hc hm (by simpa using hs)
theorem own_base {w : World} {B B' : Nat} {v : Value} {l : List FS} (h : OwnL w B v l) (hb : B' ≤ B) : OwnL w B' v l := by
  refine ⟨h.1, ?_⟩
  rcases h.2 with h1 | ⟨g, cap, cur, h1, h2, h3⟩
  · exact .inl h1
  · exact .inr ⟨g, cap, cur, h1, Nat.le_trans hb h2, h3⟩
set_option maxRecDepth 100000 in
set_option maxHeartbeats 2000000 in
theorem sort_any (a : Option Addr) (cap : Nat) (l : List FS) (hn : l.length < 4194304) (w : World) (hS : Seg w a (flatF l)) :
    Calls Tryd.prog 7 #[.slice a l.length cap] w fun e w' => ∃ v, e = .returned v ∧ OwnL w' w.heap.size v (setF l) ∧ Below w.heap.size w w' := by
  have hsz : ((l.length : Nat) : Int) ≤ 4194304 := by omega
  go_enter Tryd.func7, Tryd.ntmps7
  go_wp2
  go_loopw [3, 8] (fun v i wr => ∃ k : Nat, k ≤ l.length ∧ i = .int .i64 (k : Int) ∧ Hid (OwnL wr w.heap.size v ((l.take k).filter okF)) ∧ Below w.heap.size w wr) (fun _ i _ => l.length - (intOf i).toNat)
  case atStart => exact ⟨0, Nat.zero_le _, rfl, World.ownsRow_nil _ _ _ _, Below.refl _ _⟩
  case round =>
    obtain ⟨k, hk, rfl, HO, BR⟩ := hrel
    have hsR := BR.size
    by_cases hlt : k < l.length
    · obtain ⟨b, o, rfl, HB, HX⟩ := seg_at (hS.below BR) k hlt
      rw [← getD_at l k hlt] at HX
      have hC := fun W => check_any (l.getD k FS.zero) W
      have HT : Hid (l.take (k + 1) = l.take k ++ [l.getD k FS.zero]) := take_snocF l k hlt
      have hfl : ((l.take k).filter okF).length ≤ k := Nat.le_trans (List.length_filter_le _ _) (by rw [List.length_take]; omega)
      have hiX : (k : Int) < (l.length : Int) := by omega
      generalize l.getD k FS.zero = X at *
      have ta : True := trivial
      cases hok : okF X with
      | false =>
        have hck : ((ckF X) == 0) = false := by unfold ckF; rw [hok]; rfl
        have HF : Hid ((l.take (k + 1)).filter okF = (l.take k).filter okF) := by show _ = _; rw [HT.out, List.filter_append]; simp [hok]
        clear HT hS
        go_wp2_with (first
          | (refine wpList_loadE (x := X) rfl _ rfl rfl HX ?_)
          | (clear ta; refine wpList_allocS rfl _ rfl (encF FS.zero) zeroF ?_; intro w3 b4 F3 I3; have ts : True := trivial)
          | (clear ts; refine wpList_storeF rfl _ _ rfl rfl rfl I3 ?_; intro w4 U4 I4; have B4 : Below wr.heap.size wr w4 := U4.trans (fresh_b F3) (by rw [F3.at']; exact Nat.le_refl _))
          | (refine wpList_loadF rfl _ rfl rfl I4 ?_)
          | (go_at_call 15; refine (hC _).mono ?_; rintro e w5 ⟨rfl, B5⟩))
        have B45 := Below.then B4 B5
        go_roundw
        case rel => exact ⟨k + 1, by omega, by go_num, by rw [HF.out]; exact own_belowW HO.out B45, Below.then BR B45⟩
        case measure => simp [intOf]; omega
      | true =>
        have hck : ((ckF X) == 0) = true := by unfold ckF; rw [hok]; rfl
        have HF : Hid ((l.take (k + 1)).filter okF = (l.take k).filter okF ++ [X]) := by show _ = _; rw [HT.out, List.filter_append]; simp [hok]
        obtain ⟨a3, c3, hv3⟩ := own_form HO.out
        subst hv3
        generalize (l.take k).filter okF = m at *
        clear HT hS
        go_wp2_with (first
          | (refine wpList_loadE (x := X) rfl _ rfl rfl HX ?_)
          | (clear ta; refine wpList_allocS rfl _ rfl (encF FS.zero) zeroF ?_; intro w3 b4 F3 I3; have ts : True := trivial)
          | (clear ts; refine wpList_storeF rfl _ _ rfl rfl rfl I3 ?_; intro w4 U4 I4; have B4 : Below wr.heap.size wr w4 := U4.trans (fresh_b F3) (by rw [F3.at']; exact Nat.le_refl _))
          | (refine wpList_loadF rfl _ rfl rfl I4 ?_)
          | (go_at_call 15; refine (hC _).mono ?_; rintro e w5 ⟨rfl, B5⟩; have I5 := I4.grown B5; have tb : True := trivial)
          | (refine wpList_loadF rfl _ rfl rfl I5 ?_)
          | (clear tb; refine wpList_buildF rfl _ rfl X rfl ?_; intro w6 b6 F6 I6; have B46 := Below.then (Below.then B4 B5) (fresh_b F6); have O6 := own_belowW HO.out B46)
          | (at_builtin; refine wpList_appF rfl _ _ rfl w.heap.size _ m rfl O6 b6 X rfl I6 (by omega) (by have := B46.size; omega) ?_; intro v7 w7 O7 G7))
        have B7 : Below w.heap.size w w7 := grown_below (Below.then BR B46) O6 (by have := B46.size; omega) G7
        go_roundw
        case rel => exact ⟨k + 1, by omega, by go_num, by rw [HF.out]; exact O7, B7⟩
        case measure => simp [intOf]; omega
    · have e : k = l.length := by omega
      subst e
      have HS : Hid (cmpt (srt (l.filter okF)) = setF l) := cmpt_set l
      have hO : OwnL wr w.heap.size u3 (l.filter okF) := by have := HO.out; rwa [List.take_length] at this
      have hfl : (l.filter okF).length ≤ l.length := List.length_filter_le _ _
      obtain ⟨a3, c3, hv3⟩ := own_form hO
      subst hv3
      generalize l.filter okF = m at *
      have hs1 := sortFunc_any hO (by omega)
      clear HO hS hlt
      go_wp2_with (first
        | (go_at_call 22; refine hs1.mono ?_; rintro e w5 ⟨rfl, O5, B5⟩; have hc1 := compact_any O5 (by have := B5.size; omega) (by rw [srt_len]; omega))
        | (go_at_call 24; refine hc1.mono ?_; rintro e w6 ⟨v6, rfl, O6, B6⟩))
      go_ret
      exact ⟨v6, rfl, by rw [← HS.out]; exact O6, (BR.trans B5).trans B6⟩
end Go.Proofs.YtbhgchhoeokjhabDoor
