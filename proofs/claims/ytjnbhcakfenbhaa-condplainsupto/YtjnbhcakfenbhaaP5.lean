/- Plain. -/
import Derived.Test.YtjnbhcakfenbhaaP4
namespace Go.Proofs.Ytjnbhcakfenbhaa
open Go.RowKit M
set_option linter.unusedSimpArgs false
set_option linter.unusedVariables false

def okT : Tr → Prop
  | .tru => True
  | .is _ nm _ => nm.size ≤ 64
  | .not t => okT t
  | .and x y => okT x ∧ okT y
  | .or x y => okT x ∧ okT y
theorem ok_at {ns : List Nd} : ∀ (t : Tr) (lo : Nat), At nmB ns t lo → okT t
  | .tru, lo, h => trivial
  | .is th nm v, lo, h => by
    have := h.2.2.2
    unfold nmB nameB at this
    have := of_decide_eq_true this
    show nm.size ≤ 64
    rw [sizeL]; exact this.2.1
  | .not t, lo, h => ok_at t lo h.1
  | .and x y, lo, h => ⟨ok_at x lo h.1, ok_at y _ h.2.1⟩
  | .or x y, lo, h => ⟨ok_at x lo h.1, ok_at y _ h.2.1⟩
theorem ok_pl : ∀ (t : Tr) (n : Bool), okT t → okT (plT n t)
  | .tru, n, h => by cases n <;> exact trivial
  | .is th nm v, n, h => by cases n <;> exact h
  | .not t, n, h => by
    have := ok_pl t (!n) h
    cases n <;> exact this
  | .and x y, n, h => by
    have h1 := ok_pl x n h.1
    have h2 := ok_pl y n h.2
    cases n <;> exact ⟨h1, h2⟩
  | .or x y, n, h => by
    have h1 := ok_pl x n h.1
    have h2 := ok_pl y n h.2
    cases n <;> exact ⟨h1, h2⟩
theorem ok_nodes : ∀ (t : Tr) (lo : Nat), okT t → ∀ nd ∈ t.nodes lo, nd.nm.size ≤ 64
  | .tru, lo, h => by simp [Tr.nodes, noName]; decide
  | .is th nm v, lo, h => by simp [Tr.nodes]; exact h
  | .not t, lo, h => by
    intro nd hnd
    simp only [Tr.nodes, List.mem_append, List.mem_singleton] at hnd
    rcases hnd with hnd | rfl
    · exact ok_nodes t lo h nd hnd
    · show (noName).size ≤ 64; decide
  | .and x y, lo, h => by
    intro nd hnd
    simp only [Tr.nodes, List.mem_append, List.mem_singleton] at hnd
    rcases hnd with (hnd | hnd) | rfl
    · exact ok_nodes x lo h.1 nd hnd
    · exact ok_nodes y _ h.2 nd hnd
    · show (noName).size ≤ 64; decide
  | .or x y, lo, h => by
    intro nd hnd
    simp only [Tr.nodes, List.mem_append, List.mem_singleton] at hnd
    rcases hnd with (hnd | hnd) | rfl
    · exact ok_nodes x lo h.1 nd hnd
    · exact ok_nodes y _ h.2 nd hnd
    · show (noName).size ≤ 64; decide
/-- Plain's answer. -/
def plainF (ns : List Nd) : List Nd × Int := match treeOf nmB ns with
  | none => ([], 60)
  | some t => if 64 < t.deep then ([], 2) else if 1024 < (plT false t).sz then ([], 1) else
    if checkF nmB ((plT false t).nodes 0) ≠ 0 then ([], checkF nmB ((plT false t).nodes 0)) else ((plT false t).nodes 0, 0)
theorem cellsL_get : ∀ (out : List Nd) (j : Nat) (n : Nd), out[j]? = some n → ∀ (i : Nat) (v : Value), (ndL n)[i]? = some v → (cellsL out)[j * 6 + i]? = some v
  | [], j, n, h, i, v, hv => by simp at h
  | m :: r, 0, n, h, i, v, hv => by
    simp at h
    subst h
    show (ndL m ++ r.flatMap ndL)[0 * 6 + i]? = some v
    have hi := (List.getElem?_eq_some_iff.1 hv).1
    rw [Nat.zero_mul, Nat.zero_add, List.getElem?_append_left hi]
    exact hv
  | m :: r, j + 1, n, h, i, v, hv => by
    have := cellsL_get r j n (by simpa using h) i v hv
    show (ndL m ++ r.flatMap ndL)[(j + 1) * 6 + i]? = some v
    have hl : (ndL m).length = 6 := rfl
    rw [List.getElem?_append_right (by rw [hl]; omega), hl, show (j + 1) * 6 + i - 6 = j * 6 + i by omega]
    exact this
/-- A row of nodes of one's own, as a list that is handed on. -/
theorem nds_own {W : World} {B : Nat} {v : Value} {out : List Nd} (h : W.ownsRow B 52 6 v out.length (cellsL out)) : ∃ a c, v = .slice a out.length c ∧ Nds W a out := by
  rcases h.2 with ⟨rfl, h0⟩ | ⟨g, cap, cur, rfl, hg, hh, hc, hm, hs, ht⟩
  · rw [h0]
    refine ⟨none, 0, rfl, fun j n hn => ?_⟩
    have := (List.getElem?_eq_some_iff.1 hn).1
    omega
  · refine ⟨some ⟨g, 0, none⟩, cap, rfl, fun j n hn => ⟨g, 0, rfl, (Array.getElem?_eq_some_iff.1 hh).1, fun i v hv => ?_⟩⟩
    have hj := (List.getElem?_eq_some_iff.1 hn).1
    have hi := (List.getElem?_eq_some_iff.1 hv).1
    have hl : (ndL n).length = 6 := rfl
    rw [h.cellAt (0 + j * 6 + i) (by omega), Nat.zero_add]
    exact cellsL_get out j n hn i v hv
theorem own_base {W : World} {base base' e s n : Nat} {v : Value} {xs : List Value} (h : W.ownsRow base e s v n xs) (hb : base' ≤ base) : W.ownsRow base' e s v n xs := by
  refine ⟨h.1, ?_⟩
  rcases h.2 with hn | ⟨g, cap, cur, rfl, hg, rest⟩
  · exact Or.inl hn
  · exact Or.inr ⟨g, cap, cur, rfl, Nat.le_trans hb hg, rest⟩
theorem plain_bad {ns : List Nd} {k : Int} (h : k ≠ 0) (hk : checkF nmB ns = k) : plainF ns = ([], k) := by
  unfold checkF at hk
  unfold plainF
  split at hk
  · rename_i ht; rw [ht]; subst hk; rfl
  · rename_i t ht
    rw [ht]
    dsimp only
    split at hk
    · rename_i hd; rw [if_pos hd]; subst hk; rfl
    · exact absurd hk.symm h
theorem ckF_tree {ns : List Nd} (h : checkF nmB ns = 0) : ∃ t, treeOf nmB ns = some t ∧ t.deep ≤ 64 := by
  unfold checkF at h
  split at h
  · omega
  · rename_i t ht
    split at h
    · omega
    · exact ⟨t, ht, by omega⟩

set_option maxRecDepth 100000 in
set_option maxHeartbeats 1000000 in
theorem plain_any (ad : Option Addr) (cap : Nat) (ns : List Nd) (hs : ∀ n ∈ ns, n.nm.size ≤ maxLen) (hn : ns.length ≤ 16777216) (w : World) (hT : Nds w ad ns) :
    Calls Try.prog 15 #[.slice ad ns.length cap] w fun e w' => (∃ v, e = .returned (.tuple #[v, .int .i64 (plainF ns).2]) ∧ w'.ownsRow w.heap.size 52 6 v (plainF ns).1.length (cellsL (plainF ns).1)) ∧ Below w.heap.size w w' := by
  have cC := check_any ad cap ns hs hn w hT
  by_cases hc : checkF nmB ns = 0
  · obtain ⟨t, ht, hd⟩ := ckF_tree hc
    obtain ⟨hA, hsz, hl1, hl2⟩ := tree_at ht
    rw [hc] at cC
    have cI := fun W h => inwards_any ad cap ns t ht W h
    have hnm : ∀ nd ∈ (plT false t).nodes 0, nd.nm.size ≤ maxLen := fun nd h => Nat.le_trans (ok_nodes _ 0 (ok_pl t false (ok_at t 0 hA)) nd h) (by unfold maxLen; omega)
    have hps := plT_sz t false
    have hlen := (plT false t).nodes_len 0
    obtain ⟨P, hP⟩ : ∃ P, (plT false t).nodes 0 = P := ⟨_, rfl⟩
    rw [hP] at hnm hlen
    have hPl : P.length ≤ 2048 := by omega
    have HV : Hid (plainF ns = if 1024 < P.length then ([], 1) else if checkF nmB P ≠ 0 then ([], checkF nmB P) else (P, 0)) := (by
      show _ = _
      unfold plainF
      rw [ht]
      dsimp only
      rw [if_neg (by omega), hP, hlen])
    have cI2 : ∀ W, Nds W ad ns → Calls Try.prog 27 #[.slice ad ns.length cap] W fun e w' => (∃ v, e = .returned v ∧ w'.ownsRow W.heap.size 52 6 v P.length (cellsL P)) ∧ Below W.heap.size W w' := fun W h => by
      have := cI W h
      rw [hP] at this
      exact this
    have HNM : Hid (∀ nd ∈ P, nd.nm.size ≤ maxLen) := hnm
    have HT : Hid (Nds w ad ns) := hT
    clear cI hc hA hsz hps hlen hP ht hd hnm hT hs
    by_cases hbig : 1024 < P.length
    · have hbi : (1024 : Int) < P.length := by omega
      rw [if_pos hbig] at HV
      go_enter Try.func15, Try.ntmps15
      go_wp2_with (first
        | (go_at_call 19; refine cC.mono ?_; rintro e W1 ⟨rfl, B1⟩)
        | (go_at_call 27; refine (cI2 W1 (HT.out.below B1)).mono ?_; rintro e W2 ⟨⟨v2, rfl, O2⟩, B2⟩; obtain ⟨a2, c2, rfl, N2⟩ := nds_own O2))
      go_ret2
      exact ⟨⟨.slice none 0 0, by rw [HV.out]; rfl, by rw [HV.out]; exact World.ownsRow_nil _ _ _ _⟩, Below.then B1 B2⟩
    · have hbi : ¬ (1024 : Int) < P.length := by omega
      rw [if_neg hbig] at HV
      have cC2 := fun a c W h => check_any a c P HNM.out (by omega) W h
      by_cases hc2 : checkF nmB P = 0
      · rw [if_neg (by simpa using hc2)] at HV
        rw [hc2] at cC2
        clear hc2
        go_enter Try.func15, Try.ntmps15
        go_wp2_with (first
          | (go_at_call 19; refine (cC2 a2 c2 W2 N2).mono ?_; rintro e W3 ⟨rfl, B3⟩)
          | (go_at_call 19; refine cC.mono ?_; rintro e W1 ⟨rfl, B1⟩)
          | (go_at_call 27; refine (cI2 W1 (HT.out.below B1)).mono ?_; rintro e W2 ⟨⟨v2, rfl, O2⟩, B2⟩; obtain ⟨a2, c2, rfl, N2⟩ := nds_own O2))
        go_ret2
        refine ⟨⟨.slice a2 P.length c2, by rw [HV.out]; rfl, ?_⟩, Below.then (Below.then B1 B2) B3⟩
        rw [HV.out]
        exact own_belowW (own_base O2 B1.size) B3
      · rw [if_pos hc2] at HV
        obtain ⟨k, hk⟩ : ∃ k, checkF nmB P = k := ⟨_, rfl⟩
        rw [hk] at cC2 hc2 HV
        have hk' : (k != 0) = true := by simpa using hc2
        clear hc2 hk
        go_enter Try.func15, Try.ntmps15
        go_wp2_with (first
          | (go_at_call 19; refine (cC2 a2 c2 W2 N2).mono ?_; rintro e W3 ⟨rfl, B3⟩)
          | (go_at_call 19; refine cC.mono ?_; rintro e W1 ⟨rfl, B1⟩)
          | (go_at_call 27; refine (cI2 W1 (HT.out.below B1)).mono ?_; rintro e W2 ⟨⟨v2, rfl, O2⟩, B2⟩; obtain ⟨a2, c2, rfl, N2⟩ := nds_own O2))
        go_ret2
        exact ⟨⟨.slice none 0 0, by rw [HV.out]; rfl, by rw [HV.out]; exact World.ownsRow_nil _ _ _ _⟩, Below.then (Below.then B1 B2) B3⟩
  · obtain ⟨k, hk⟩ : ∃ k, checkF nmB ns = k := ⟨_, rfl⟩
    have HV : Hid (plainF ns = ([], k)) := plain_bad (by rw [← hk]; exact hc) hk
    rw [hk] at cC hc
    have hk' : (k != 0) = true := by simpa using hc
    clear hc hk hT hs
    go_enter Try.func15, Try.ntmps15
    go_wp2_with (first
      | (go_at_call 19; refine cC.mono ?_; rintro e W1 ⟨rfl, B1⟩))
    go_ret2
    exact ⟨⟨.slice none 0 0, by rw [HV.out]; rfl, by rw [HV.out]; exact World.ownsRow_nil _ _ _ _⟩, B1⟩
end Go.Proofs.Ytjnbhcakfenbhaa
