/- The reference's Plain. -/
import Derived.Test.YtjnbhcakfenbhaaP5
import Derived.Test.YtjnbhcakfenbhaaQ1
import Derived.Test.YtjnbhcakfenbhaaR5
namespace Go.Proofs.Ytjnbhcakfenbhaa
open Go.RowKit M
set_option linter.unusedSimpArgs false
set_option linter.unusedVariables false

set_option maxRecDepth 100000 in
set_option maxHeartbeats 1000000 in
theorem rplain_any (ad : Option Addr) (cap : Nat) (ns : List Nd) (hs : ∀ n ∈ ns, n.nm.size ≤ maxLen) (hn : ns.length ≤ 16777216) (w : World) (hT : Nds w ad ns) :
    Calls Try.prog 16 #[.slice ad ns.length cap] w fun e w' => (∃ v, e = .returned (.tuple #[v, .int .i64 (plainF ns).2]) ∧ w'.ownsRow w.heap.size 52 6 v (plainF ns).1.length (cellsL (plainF ns).1)) ∧ Below w.heap.size w w' := by
  have cC := rcheck_any ad cap ns hs hn w hT
  by_cases hc : checkF nmB ns = 0
  · obtain ⟨t, ht, hd⟩ := ckF_tree hc
    obtain ⟨hA, hsz, hl1, hl2⟩ := tree_at ht
    rw [hc] at cC
    have hLw : ∀ W, Nds W ad ns → ∀ b o m, ad = some ⟨b, o, m⟩ → b < W.heap.size := fun W h => nds_low h hl1
    have cI : ∀ W, Nds W ad ns → Calls Try.prog 28 #[.slice ad ns.length cap, .int .i64 ((ns.length : Int) - 1), .bool false, .slice none 0 0] W fun e w' => (∃ v, e = .returned v ∧ w'.ownsRow W.heap.size 52 6 v ((plT false t).nodes 0).length (cellsL ((plT false t).nodes 0))) ∧ Below W.heap.size W w' := fun W h => by
      have h1 := rpl_tree (ad := ad) (cap := cap) hl2 t 0 false hA W.heap.size W [] (.slice none 0 0) ⟨World.ownsRow_nil _ _ _ _, h, hLw W h, Nat.le_refl _⟩ (by have := plT_sz t false; simp; omega)
      unfold Tr.root at h1
      rw [hsz, Nat.zero_add, show ((ns.length - 1 : Nat) : Int) = (ns.length : Int) - 1 by omega] at h1
      refine h1.mono ?_
      rintro e w' ⟨v, rfl, P, S⟩
      exact ⟨⟨v, rfl, P.own⟩, S.below (by simp) (by intro b e; cases e) (Nat.le_refl _)⟩
    have hnm : ∀ nd ∈ (plT false t).nodes 0, nd.nm.size ≤ maxLen := fun nd h => Nat.le_trans (ok_nodes _ 0 (ok_pl t false (ok_at t 0 hA)) nd h) (by unfold maxLen; omega)
    have hps := plT_sz t false
    have hlen := (plT false t).nodes_len 0
    obtain ⟨P, hP⟩ : ∃ P, (plT false t).nodes 0 = P := ⟨_, rfl⟩
    rw [hP] at hnm hlen
    have hPl : P.length ≤ 2048 := by omega
    have HV : Hid (plainF ns = if 1024 < P.length then ([], 1) else if checkF nmB P ≠ 0 then ([], checkF nmB P) else (P, 0)) := (by
      show _ = _
      unfold plainF
      rw [ht]
      dsimp only
      rw [if_neg (by omega), hP, hlen])
    have cI2 : ∀ W, Nds W ad ns → Calls Try.prog 28 #[.slice ad ns.length cap, .int .i64 ((ns.length : Int) - 1), .bool false, .slice none 0 0] W fun e w' => (∃ v, e = .returned v ∧ w'.ownsRow W.heap.size 52 6 v P.length (cellsL P)) ∧ Below W.heap.size W w' := fun W h => by
      have := cI W h
      rw [hP] at this
      exact this
    have HNM : Hid (∀ nd ∈ P, nd.nm.size ≤ maxLen) := hnm
    have HT : Hid (Nds w ad ns) := hT
    clear cI hLw hc hA hsz hps hlen hP ht hd hnm hT hs
    by_cases hbig : 1024 < P.length
    · have hbi : (1024 : Int) < P.length := by omega
      rw [if_pos hbig] at HV
      go_enter Try.func16, Try.ntmps16
      go_wp2_with (first
        | (go_at_call 23; refine cC.mono ?_; rintro e W1 ⟨rfl, B1⟩)
        | (go_at_call 28; refine (cI2 W1 (HT.out.below B1)).mono ?_; rintro e W2 ⟨⟨v2, rfl, O2⟩, B2⟩; obtain ⟨a2, c2, rfl, N2⟩ := nds_own O2))
      go_ret2
      exact ⟨⟨.slice none 0 0, by rw [HV.out]; rfl, by rw [HV.out]; exact World.ownsRow_nil _ _ _ _⟩, Below.then B1 B2⟩
    · have hbi : ¬ (1024 : Int) < P.length := by omega
      rw [if_neg hbig] at HV
      have cC2 := fun a c W h => rcheck_any a c P HNM.out (by omega) W h
      by_cases hc2 : checkF nmB P = 0
      · rw [if_neg (by simpa using hc2)] at HV
        rw [hc2] at cC2
        clear hc2
        go_enter Try.func16, Try.ntmps16
        go_wp2_with (first
          | (go_at_call 23; refine (cC2 a2 c2 W2 N2).mono ?_; rintro e W3 ⟨rfl, B3⟩)
          | (go_at_call 23; refine cC.mono ?_; rintro e W1 ⟨rfl, B1⟩)
          | (go_at_call 28; refine (cI2 W1 (HT.out.below B1)).mono ?_; rintro e W2 ⟨⟨v2, rfl, O2⟩, B2⟩; obtain ⟨a2, c2, rfl, N2⟩ := nds_own O2))
        go_ret2
        refine ⟨⟨.slice a2 P.length c2, by rw [HV.out]; rfl, ?_⟩, Below.then (Below.then B1 B2) B3⟩
        rw [HV.out]
        exact own_belowW (own_base O2 B1.size) B3
      · rw [if_pos hc2] at HV
        obtain ⟨k, hk⟩ : ∃ k, checkF nmB P = k := ⟨_, rfl⟩
        rw [hk] at cC2 hc2 HV
        have hk' : (k != 0) = true := by simpa using hc2
        clear hc2 hk
        go_enter Try.func16, Try.ntmps16
        go_wp2_with (first
          | (go_at_call 23; refine (cC2 a2 c2 W2 N2).mono ?_; rintro e W3 ⟨rfl, B3⟩)
          | (go_at_call 23; refine cC.mono ?_; rintro e W1 ⟨rfl, B1⟩)
          | (go_at_call 28; refine (cI2 W1 (HT.out.below B1)).mono ?_; rintro e W2 ⟨⟨v2, rfl, O2⟩, B2⟩; obtain ⟨a2, c2, rfl, N2⟩ := nds_own O2))
        go_ret2
        exact ⟨⟨.slice none 0 0, by rw [HV.out]; rfl, by rw [HV.out]; exact World.ownsRow_nil _ _ _ _⟩, Below.then (Below.then B1 B2) B3⟩
  · obtain ⟨k, hk⟩ : ∃ k, checkF nmB ns = k := ⟨_, rfl⟩
    have HV : Hid (plainF ns = ([], k)) := plain_bad (by rw [← hk]; exact hc) hk
    rw [hk] at cC hc
    have hk' : (k != 0) = true := by simpa using hc
    clear hc hk hT hs
    go_enter Try.func16, Try.ntmps16
    go_wp2_with (first
      | (go_at_call 23; refine cC.mono ?_; rintro e W1 ⟨rfl, B1⟩))
    go_ret2
    exact ⟨⟨.slice none 0 0, by rw [HV.out]; rfl, by rw [HV.out]; exact World.ownsRow_nil _ _ _ _⟩, B1⟩
end Go.Proofs.Ytjnbhcakfenbhaa
