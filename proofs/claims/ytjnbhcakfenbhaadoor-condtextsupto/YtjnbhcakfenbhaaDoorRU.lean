/- The reference's Text; the law CondTexts at any nodes. -/
import Derived.Test.YtjnbhcakfenbhaaDoorRT
import Derived.Test.YtjnbhcakfenbhaaDoorLD
namespace Go.Proofs.YtjnbhcakfenbhaaDoor
open Go.RowKit Go.Shelf M
set_option linter.unusedSimpArgs false
set_option linter.unusedVariables false

theorem rtx_tree {ad : Option Addr} {cap : Nat} {ns : List Nd} (hn : ns.length ≤ 1024) (hv : ∀ n ∈ ns, inR n.val) : ∀ (t : Tr) (lo : Nat), At nmB ns t lo → RTxA ad cap ns (t.root lo) (t.text textL) (200 * t.sz)
  | .tru, lo, h => rtx_tru (i := lo) hn h
  | .is th nm v, lo, h => by
    have hvv : inR v := hv _ (List.mem_of_getElem? h.1)
    have h2 := h.2
    by_cases hth : th = -1
    · subst hth
      exact rtx_isL (i := lo) hn h.1 h2.1 h2.2.1 (nmB_size h2.2.2) hvv.1 hvv.2 (textL_len v hvv.1 hvv.2)
    · exact rtx_isR (i := lo) hn h.1 (by have := h2.1; omega) h2.1 h2.2.1 (nmB_size h2.2.2) hvv.1 hvv.2 (textL_len v hvv.1 hvv.2)
  | .not t, lo, h => by
    obtain ⟨x, hx, hxo⟩ := h.1.root
    have hsz := h.1.lt
    have := rtx_not (x := x) hn h.2 hx (by omega) (rtx_tree (ad := ad) (cap := cap) hn hv t lo h.1)
    rw [hxo] at this
    exact this
  | .and x y, lo, h => by
    obtain ⟨m, hm, hmo⟩ := h.1.root
    obtain ⟨k, hk, hko⟩ := h.2.1.root
    have h1 := h.1.lt
    have h2 := h.2.1.lt
    have := rtx_two4 hn h.2.2 hm hk (by omega) (by omega) (rtx_tree (ad := ad) (cap := cap) hn hv x lo h.1) (rtx_tree hn hv y _ h.2.1)
    rw [hmo, hko] at this
    rw [show (Tr.and x y).root lo = lo + x.sz + y.sz by simp only [Tr.root, Tr.sz]; omega, show 200 * (Tr.and x y).sz = 200 * x.sz + 200 * y.sz + 200 by simp only [Tr.sz]; omega]
    exact this
  | .or x y, lo, h => by
    obtain ⟨m, hm, hmo⟩ := h.1.root
    obtain ⟨k, hk, hko⟩ := h.2.1.root
    have h1 := h.1.lt
    have h2 := h.2.1.lt
    have := rtx_two5 hn h.2.2 hm hk (by omega) (by omega) (rtx_tree (ad := ad) (cap := cap) hn hv x lo h.1) (rtx_tree hn hv y _ h.2.1)
    rw [hmo, hko] at this
    rw [show (Tr.or x y).root lo = lo + x.sz + y.sz by simp only [Tr.root, Tr.sz]; omega, show 200 * (Tr.or x y).sz = 200 * x.sz + 200 * y.sz + 200 by simp only [Tr.sz]; omega]
    exact this

set_option maxRecDepth 100000 in
set_option maxHeartbeats 1000000 in
theorem rctext_any (ad : Option Addr) (cap : Nat) (ns : List Nd) (hs : ∀ n ∈ ns, n.nm.size ≤ maxLen) (hv : ∀ n ∈ ns, inR n.val) (hn : ns.length ≤ 16777216) (w : World) (hT : Nds w ad ns) :
    Calls Tryd.prog 7 #[.slice ad ns.length cap] w fun e w' => e = .returned (.tuple #[.string ⟨(textF ns).1.toArray⟩, .int .i64 (textF ns).2]) ∧ Below w.heap.size w w' := by
  have cC := rcheck_any ad cap ns hs hn w hT
  by_cases hc : checkF nmB ns = 0
  · obtain ⟨t, ht, htx⟩ := ckT_tree hc
    obtain ⟨hA, hsz, hl1, hl2⟩ := tree_at ht
    rw [htx]
    rw [hc] at cC
    obtain ⟨tx, hx⟩ : ∃ tx, t.text textL = tx := ⟨_, rfl⟩
    rw [hx]
    have HP : Hid (RTxA ad cap ns (ns.length - 1) tx (200 * t.sz)) := (by
      have := rtx_tree (ad := ad) (cap := cap) hl2 hv t 0 hA
      unfold Tr.root at this
      rw [Nat.zero_add, hx] at this
      show RTxA _ _ _ _ _ _
      rw [show ns.length - 1 = t.sz - 1 by omega]
      exact this)
    clear hA hsz ht hc htx hx hs hv
    go_enter Tryd.func7, Tryd.ntmps7
    go_wp2_with (first
      | (go_at_call 10; refine cC.mono ?_; rintro e W1 ⟨rfl, B1⟩)
      | (go_at_call 26; have cD := HP.out.2 W1 (hT.below B1); rw [show ((ns.length - 1 : Nat) : Int) = (ns.length : Int) - 1 by omega] at cD; refine cD.mono ?_; clear cD; rintro e W2 ⟨rfl, B2⟩))
    go_ret2
    exact ⟨rfl, Below.then B1 B2⟩
  · obtain ⟨k, hk⟩ : ∃ k, checkF nmB ns = k := ⟨_, rfl⟩
    rw [text_bad (by rw [← hk]; exact hc) hk]
    rw [hk] at cC hc
    have hk' : (k != 0) = true := by simpa using hc
    clear hc hk hs hv
    go_enter Tryd.func7, Tryd.ntmps7
    go_wp2_with (first
      | (go_at_call 10; refine cC.mono ?_; rintro e W1 ⟨rfl, B1⟩))
    go_ret2
    exact ⟨rfl, B1⟩

set_option maxRecDepth 100000 in
set_option maxHeartbeats 2000000 in
theorem texts_any (ad : Option Addr) (cap : Nat) (ns : List Nd) (hs : ∀ n ∈ ns, n.nm.size ≤ maxLen) (hv : ∀ n ∈ ns, inR n.val) (hn : ns.length ≤ 1048576) (w : World) (hT : Nds w ad ns) (hTab : Tab10 w) :
    Calls Tryd.prog 3 #[.slice ad ns.length cap] w fun e w' => e = .returned (.bool true) ∧ Below w.heap.size w w' := by
  obtain ⟨T, hP⟩ : ∃ T : ByteArray, ⟨(textF ns).1.toArray⟩ = T := ⟨_, rfl⟩
  obtain ⟨k, hk⟩ : ∃ k, (textF ns).2 = k := ⟨_, rfl⟩
  obtain ⟨j, hj⟩ : ∃ j, checkF nmB ns = j := ⟨_, rfl⟩
  have cP := fun a c W (h : Nds W a ns) ht => ctext_any a c ns hs hv (by omega) W h ht
  have cR := fun a c W (h : Nds W a ns) => rctext_any a c ns hs hv (by omega) W h
  have cC := fun a c W (h : Nds W a ns) => check_any a c ns hs (by omega) W h
  have cD := fun a c W (h : Nds W a ns) => rcheck_any a c ns hs (by omega) W h
  rw [hP, hk] at cP cR
  rw [hj] at cC cD
  have cL := lent_any ad cap ns (by omega) w hT
  have HT : Hid (Nds w ad ns) := hT
  have HTb : Hid (Tab10 w) := hTab
  clear hT hs hP hk hj hv hTab
  go_enter Tryd.func3, Tryd.ntmps3
  go_wp2_with (first
    | (go_at_call 11; refine (back_any g ad cap ns (by omega) W5 (G1.grown B15.out) (HT.out.below (Below.then B1 B15.out))).mono ?_; rintro e W6 ⟨rfl, B6⟩)
    | (go_at_call 8; refine (num_any _ _).mono ?_; rintro e w' ⟨rfl, hw'⟩; replace hw' := hw'.symm; subst hw')
    | (go_at_call 10; refine (cD ad cap W4 (HT.out.below (Below.then B1 B14.out))).mono ?_; rintro e W5 ⟨rfl, B5⟩; have B15 : Hid (Below W1.heap.size W1 W5) := Below.then B14.out B5)
    | (go_at_call 9; refine (cC (some ⟨g, 0, none⟩) (ns.length + 1) W3 (NG1.below B13.out)).mono ?_; rintro e W4 ⟨rfl, B4⟩; have B14 : Hid (Below W1.heap.size W1 W4) := Below.then B13.out B4)
    | (go_at_call 7; refine (cR ad cap W2 (HT.out.below (Below.then B1 B2))).mono ?_; rintro e W3 ⟨rfl, B3⟩; have B13 : Hid (Below W1.heap.size W1 W3) := Below.then B2 B3)
    | (go_at_call 6; refine (cP (some ⟨g, 0, none⟩) (ns.length + 1) W1 NG1 (HTb.out.below B1)).mono ?_; rintro e W2 ⟨rfl, B2⟩)
    | (go_at_call 5; refine cL.mono ?_; rintro e W1 ⟨⟨g, rfl, hg, G1⟩, B1⟩; have NG1 : Nds W1 (some ⟨g, 0, none⟩) ns := nds_of_isS (more := ndL n77) (by rw [← cellsL_snoc]; exact G1)))
  all_goals go_ret
  all_goals exact ⟨rfl, Below.then (Below.then B1 B15.out) B6⟩
end Go.Proofs.YtjnbhcakfenbhaaDoor
