/- The reference's Check. -/
import Derived.Test.YtcmkoffamolgmaaR4
namespace Go.Proofs.Ytcmkoffamolgmaa
open Go.RowKit M
set_option linter.unusedSimpArgs false
set_option linter.unusedVariables false

set_option maxRecDepth 100000 in
set_option maxHeartbeats 1000000 in
theorem rcheck_any (ad : Option Addr) (cap : Nat) (ns : List Nd) (hs : ∀ n ∈ ns, n.nm.size ≤ maxLen) (hn : ns.length ≤ 16777216) (w : World) (hT : Nds w ad ns) :
    Calls Try.prog 18 #[.slice ad ns.length cap] w fun e w' => e = .returned (.int .i64 (checkF nmB ns)) ∧ Below w.heap.size w w' := by
  have cM := rmakes_any ad cap ns hs hn w hT
  cases ht : treeOf nmB ns with
  | none =>
    have HV : Hid (checkF nmB ns = 60) := (by show _ = _; unfold checkF; rw [ht])
    rw [ht] at cM
    go_enter Try.func18, Try.ntmps18
    go_wp2_with (first
      | (go_at_call 30; refine cM.mono ?_; rintro e W1 ⟨rfl, B1⟩))
    go_ret
    exact ⟨ret_int HV.out.symm, B1⟩
  | some t =>
    have HV : Hid (checkF nmB ns = if 64 < t.deep then 2 else 0) := (by show _ = _; unfold checkF; rw [ht])
    rw [ht] at cM
    obtain ⟨hA, hsz, hl1, hl2⟩ := tree_at ht
    have HD : Hid (RDeepA ad cap ns (ns.length - 1) t.deep) := (by
      have := rdeep_tree (ad := ad) (cap := cap) hl2 t 0 hA
      unfold Tr.root at this
      rw [hsz, Nat.zero_add] at this
      exact this)
    clear ht hA hsz
    by_cases hd : 64 < t.deep
    · have hd' : (64 : Int) < t.deep := by omega
      rw [if_pos hd] at HV
      clear hd
      go_enter Try.func18, Try.ntmps18
      go_wp2_with (first
        | (go_at_call 30; refine cM.mono ?_; rintro e W1 ⟨rfl, B1⟩)
        | (go_at_call 31; have cD := HD.out W1 (hT.below B1); rw [show ((ns.length - 1 : Nat) : Int) = (ns.length : Int) - 1 by omega] at cD; refine cD.mono ?_; clear cD; rintro e W2 ⟨rfl, B2⟩))
      go_ret
      exact ⟨ret_int HV.out.symm, Below.then B1 B2⟩
    · have hd' : ¬ (64 : Int) < t.deep := by omega
      rw [if_neg hd] at HV
      clear hd
      go_enter Try.func18, Try.ntmps18
      go_wp2_with (first
        | (go_at_call 30; refine cM.mono ?_; rintro e W1 ⟨rfl, B1⟩)
        | (go_at_call 31; have cD := HD.out W1 (hT.below B1); rw [show ((ns.length - 1 : Nat) : Int) = (ns.length : Int) - 1 by omega] at cD; refine cD.mono ?_; clear cD; rintro e W2 ⟨rfl, B2⟩))
      go_ret
      exact ⟨ret_int HV.out.symm, Below.then B1 B2⟩
end Go.Proofs.Ytcmkoffamolgmaa
