/- What a condition asks for; Refs of the program. -/
import Derived.Test.YtcmkoffamolgmaaB4
namespace Go.Proofs.Ytcmkoffamolgmaa
open Go Go.RowKit M
set_option linter.unusedSimpArgs false
set_option linter.unusedVariables false

theorem fold_ok {nb : ByteArray → Bool} : ∀ (ns : List Nd) (i : Nat) (st st' : List Tr), foldT nb ns i st = some st' → ∀ n ∈ ns, n.op = 2 → -1 ≤ n.th
  | [], _, _, _, _, n, hn, _ => by simp at hn
  | m :: ns, i, st, st', h, n, hn, ho => by
    unfold foldT at h
    split at h
    · cases h
    · rename_i st1 h1
      rcases List.mem_cons.1 hn with rfl | hn
      · unfold stepT at h1
        rw [if_neg (by omega), if_pos ho] at h1
        split at h1
        · rename_i h2; exact h2.2.2.1
        · cases h1
      · exact fold_ok ns _ _ _ h n hn ho
theorem tree_ok {nb : ByteArray → Bool} {ns : List Nd} {t : Tr} (h : treeOf nb ns = some t) : ∀ n ∈ ns, n.op = 2 → -1 ≤ n.th := by
  unfold treeOf at h
  split at h
  · cases h
  · split at h
    · rename_i t' hf; exact fold_ok ns 0 [] _ hf
    · cases h
theorem inT_node {nb : ByteArray → Bool} {ns : List Nd} {th : Int} {nm : ByteArray} {v : Int} : ∀ (t : Tr) (lo : Nat), At nb ns t lo → InT th nm v t → ∃ n ∈ ns, n.op = 2 ∧ n.th = th ∧ n.nm = nm
  | .tru, _, _, h => h.elim
  | .is a b c, lo, hA, h => by
    obtain ⟨h1, _⟩ := hA
    have e : (.is a b c : Tr) = .is th nm v := h
    cases e
    exact ⟨_, List.mem_of_getElem? h1, rfl, rfl, rfl⟩
  | .not t, lo, hA, h => inT_node t lo hA.1 h
  | .and x y, lo, hA, h => by
    rcases h with h | h
    · exact inT_node x lo hA.1 h
    · exact inT_node y _ hA.2.1 h
  | .or x y, lo, hA, h => by
    rcases h with h | h
    · exact inT_node x lo hA.1 h
    · exact inT_node y _ hA.2.1 h
/-- What Refs gives. -/
def refsF (ns : List Nd) : List NK := if checkF nmB ns = 0 then setL cmN (refsN ns) else []
theorem mem_refsN {ns : List Nd} {n : Nd} (h : n ∈ ns) (ho : n.op = 2) : nkOf n.th n.nm ∈ refsN ns := by
  unfold refsN
  exact List.mem_map_of_mem (List.mem_filter.2 ⟨h, by simp [ho]⟩)
theorem refs_ask {ns : List Nd} (hz : checkF nmB ns = 0) (t : Tr) (ht : treeOf nmB ns = some t) (th : Int) (nm : ByteArray) (v : Int) (h : InT th nm v t) : rkOf th nm ∈ (refsF ns).map unN := by
  obtain ⟨n, hn, ho, e1, e2⟩ := inT_node t 0 (tree_at ht).1 h
  have h1 := tree_ok ht n hn ho
  rw [e1] at h1
  rw [← un_nk h1]
  refine List.mem_map_of_mem ?_
  unfold refsF
  rw [if_pos hz, mem_setL ordN, ← e1, ← e2]
  exact mem_refsN hn ho
theorem refsN_len (ns : List Nd) : (refsN ns).length ≤ ns.length := by
  unfold refsN; rw [List.length_map]; exact List.length_filter_le _ _
theorem refsF_len (ns : List Nd) : (refsF ns).length ≤ 1024 := by
  unfold refsF
  by_cases h : checkF nmB ns = 0
  · rw [if_pos h]
    have h1 := setL_len (c := cmN) (refsN ns)
    have h2 := refsN_len ns
    have h3 : ns.length ≤ 1024 := by
      unfold checkF at h
      cases ht : treeOf nmB ns with
      | none => rw [ht] at h; cases h
      | some t => exact (tree_at ht).2.2.2
    omega
  · rw [if_neg h]; simp
theorem check_tree {ns : List Nd} (hz : checkF nmB ns = 0) : ∃ t, treeOf nmB ns = some t := by
  cases ht : treeOf nmB ns with
  | none => unfold checkF at hz; rw [ht] at hz; cases hz
  | some t => exact ⟨t, rfl⟩
theorem srt_set (l : List NK) : cmpG (srt l) = setL cmN l := cmpG_set ordN (srt_sorted l) fun x => srt_mem l x
theorem eRef : Elt 39 24 2 (.agg #[.int .i64 0, .string ⟨#[]⟩]) 24 := ⟨Try.underlying24, info_parts (by kernel_rfl), rfl, by decide, by decide⟩
theorem flatR_snoc (l : List NK) (x : NK) : flatR (l ++ [x]) = flatR l ++ nkL x := by rw [flatR_append, flatR_sing]
section
variable {w : World} {ops : Array Oper} {rest : List Oper} {op : Oper} {a : Act} {Q : Exit → Act → World → Prop}
theorem wpList_build1K (hgd : op.guard = none) (x : Operand) (ho : op.op = .buildSlice 24 1 #[(0, x)]) (r : RK) (hx : a.eval x = .agg (rkL r).toArray)
    (h : ∀ W b, Fresh w W b → IsS W b 39 (rkL r) → wpList Try.prog ops Q rest (a.put op.dst (.slice (some ⟨b, 0, none⟩) 1 1)) W) : wpList Try.prog ops Q (op :: rest) a w := by
  refine wpList_plain hgd fun K hK => ?_
  unfold Oper.wp
  rw [exec_build2 eRef x ho _ _ hx]
  exact hK _ _ (h _ _ (Fresh.alloc w _) (IsS.new w 39 (rkL r)))
theorem wpList_app1K (hgd : op.guard = none) (s x : Operand) (ho : op.op = .call { callee := .builtin .append, args := #[s, x], argTypes := #[24, 24] })
    (B : Nat) (v : Value) (l : List NK) (hs : a.eval s = v) (hown : OwnK w B v l) (b : Nat) (f : NK) (hx : a.eval x = .slice (some ⟨b, 0, none⟩) 1 1) (I : IsS w b 39 (nkL f)) (hn : l.length < 4194304) (hB : B ≤ w.heap.size)
    (h : ∀ v' w', OwnK w' B v' (l ++ [f]) → w.grownBy w' v.ownBlock → wpList Try.prog ops Q rest (a.put op.dst v') w') : wpList Try.prog ops Q (op :: rest) a w := by
  refine wpList_appM eRef hgd s x ho B v l.length (flatR l) hs hown _ 1 (nkL f) hx (row_isS I) rfl (nk_one f) (by omega) hB fun v' w' h1 h2 => h v' w' ?_ h2
  unfold OwnK
  rw [flatR_snoc, List.length_append]
  exact h1
end
set_option maxRecDepth 100000 in
set_option maxHeartbeats 4000000 in
theorem refs_any (ad : Option Addr) (cap : Nat) (ns : List Nd) (hs : ∀ n ∈ ns, n.nm.size ≤ maxLen) (hn : ns.length ≤ 16777216) (w : World) (hT : Nds w ad ns) :
    Calls Try.prog 5 #[.slice ad ns.length cap] w fun e w' => ∃ v, e = .returned (.tuple #[v, .int .i64 (checkF nmB ns)]) ∧ OwnK w' w.heap.size v (refsF ns) ∧ Below w.heap.size w w' := by
  have cC := check_any ad cap ns hs hn w hT
  obtain ⟨A, hA⟩ : ∃ A : Ending → World → Prop, (fun e w' => ∃ v, e = .returned (.tuple #[v, .int .i64 (checkF nmB ns)]) ∧ OwnK w' w.heap.size v (refsF ns) ∧ Below w.heap.size w w') = A := ⟨_, rfl⟩
  by_cases hz : checkF nmB ns = 0
  · obtain ⟨t, ht⟩ := check_tree hz
    have hl : ns.length ≤ 1024 := (tree_at ht).2.2.2
    have HOK : Hid (∀ n ∈ ns, n.op = 2 → -1 ≤ n.th) := tree_ok ht
    have HA : Hid (∀ v w', OwnK w' w.heap.size v (cmpG (srt (refsN ns))) → Below w.heap.size w w' → A (.returned (.tuple #[v, .int .i64 0])) w') := by
      rw [← hA]; intro v w' h1 h2
      refine ⟨v, by rw [hz], ?_, h2⟩
      unfold refsF; rw [if_pos hz, ← srt_set]; exact h1
    have HT : Hid (Nds w ad ns) := hT
    have HRL : Hid (∀ k, (refsN (ns.take k)).length ≤ 1024) := fun k => Nat.le_trans (refsN_len _) (by rw [List.length_take]; omega)
    rw [hA]
    rw [hz] at cC
    obtain ⟨m, hm⟩ : ∃ m, ns.length = m := ⟨_, rfl⟩
    have HM : Hid (ns.length = m) := hm
    rw [hm] at cC hl ⊢
    clear hA hz ht hT hm hs hn
    go_enter Try.func5, Try.ntmps5
    go_wp2_with (first
      | (go_at_call 14; refine cC.mono ?_; rintro e W1 ⟨rfl, B1⟩; clear cC))
    have HB1 : Hid (Below w.heap.size w W1) := B1
    clear B1
    go_loopw [5, 15] (fun v i wr => ∃ k : Nat, k ≤ m ∧ i = .int .i64 (k : Int) ∧ Hid (OwnK wr w.heap.size v (refsN (ns.take k))) ∧ Hid (Below w.heap.size w wr)) (fun _ i _ => m - (intOf i).toNat)
    case atStart => exact ⟨0, Nat.zero_le _, rfl, own_nil _ _ _ _, HB1.out⟩
    case round =>
      obtain ⟨k, hk, rfl, HO, HB⟩ := hrel
      have hsw := HB.out.size
      by_cases hlt : k < m
      · have hki : (k : Int) < m := by omega
        obtain ⟨nd, hnd⟩ : ∃ nd, ns[k]? = some nd := ⟨_, List.getElem?_eq_getElem (by rw [HM.out]; exact hlt)⟩
        have HS : Hid (refsN (ns.take (k + 1)) = refsN (ns.take k) ++ (if nd.op = 2 then [nkOf nd.th nd.nm] else [])) := by show _ = _; rw [take_at hnd, refsN_snoc]
        obtain ⟨b, o, rfl, hb, hrg0⟩ := HT.out k nd hnd
        have hrg : wr.rangeAt b (o + k * 6) (ndL nd) := fun j v hv => cell_grow (hrg0 j v hv) HB.out
        have HOK1 : Hid (nd.op = 2 → unN (nkOf nd.th nd.nm) = (nd.th, nd.nm)) := fun h => un_nk (HOK.out nd (List.mem_of_getElem? hnd) h)
        have hRL := HRL.out k
        obtain ⟨a3, c3, hv3⟩ := own_form HO.out
        subst hv3
        generalize refsN (ns.take k) = l at *
        obtain ⟨op, na, nb, th, nm, vl⟩ := nd
        clear hnd hrg0
        have t1 : True := trivial
        have t2 : True := trivial
        have t3 : True := trivial
        cases ho : (op == 2) with
        | false =>
          have HS2 : Hid (refsN (ns.take (k + 1)) = l) := by show _ = _; rw [HS.out, if_neg (by simpa using ho), List.append_nil]
          clear HS HOK1
          go_wp2_with (first
            | (clear t1; refine wpList_load_mid rfl 46 _ rfl b _ rfl (ndL ⟨op, na, nb, th, nm, vl⟩) _ hrg Try.underlying46 rfl infoNd ?_)
            | (clear t2; refine wpList_allocS rfl 46 rfl (ndL noNd) Try.zeroValue46 ?_; intro W2 b5 F2 M2; have B2 := F_b F2; have hb5 : wr.heap.size ≤ b5 := Nat.le_of_eq F2.at'.symm; clear F2)
            | (clear t3; refine wpList_storeS rfl 46 _ _ rfl rfl (ndL ⟨op, na, nb, th, nm, vl⟩) rfl M2 (by simp [noNd, ndL]) infoNd (nd_one _) ?_; intro W3 U3 M3x; have M3 : IsS W3 b5 46 (ndL ⟨op, na, nb, th, nm, vl⟩) := M3x; have B3 := U3.trans B2 hb5; have c30 : W3.cell? ⟨b5, 0, none⟩ = some (.int .i64 op) := M3.cell 0; clear U3 M3x B2 M2))
          go_roundw
          case rel => exact ⟨k + 1, by omega, by go_num, by show OwnK _ _ _ _; rw [HS2.out]; exact own_below HO.out B3, Below.then HB.out B3⟩
          case measure => simp [intOf]; omega
        | true =>
          have eo : op = 2 := by simpa using ho
          subst eo
          have HS2 : Hid (refsN (ns.take (k + 1)) = l ++ [nkOf th nm]) := by show _ = _; rw [HS.out, if_pos rfl]
          have HU : Hid (rkL (th, nm) = nkL (nkOf th nm)) := by show _ = _; unfold nkL; rw [HOK1.out rfl]
          clear HS HOK1
          go_wp2_with (first
            | (clear t1; refine wpList_load_mid rfl 46 _ rfl b _ rfl (ndL ⟨2, na, nb, th, nm, vl⟩) _ hrg Try.underlying46 rfl infoNd ?_)
            | (clear t2; refine wpList_allocS rfl 46 rfl (ndL noNd) Try.zeroValue46 ?_; intro W2 b5 F2 M2; have B2 := F_b F2; have hb5 : wr.heap.size ≤ b5 := Nat.le_of_eq F2.at'.symm; clear F2)
            | (clear t3; refine wpList_storeS rfl 46 _ _ rfl rfl (ndL ⟨2, na, nb, th, nm, vl⟩) rfl M2 (by simp [noNd, ndL]) infoNd (nd_one _) ?_; intro W3 U3 M3x; have M3 : IsS W3 b5 46 (ndL ⟨2, na, nb, th, nm, vl⟩) := M3x; have B3 := U3.trans B2 hb5; have c30 : W3.cell? ⟨b5, 0, none⟩ = some (.int .i64 2) := M3.cell 0; have hrk : W3.rangeAt b5 3 (rkL (th, nm)) := (fun j u hu => by unfold rkL thI at hu; match j, hu with | 0, hu => exact (by simpa using hu) ▸ M3.cell 3 | 1, hu => exact (by simpa using hu) ▸ M3.cell 4 | j + 2, hu => simp at hu); clear U3 M3x B2 M2; have t4 : True := trivial)
            | (clear t4; refine wpList_loadK (x := (th, nm)) rfl _ rfl rfl hrk ?_; have t5 : True := trivial)
            | (clear t5; refine wpList_build1K rfl _ rfl (th, nm) rfl ?_; intro W6 b6 F6 I6; rw [HU.out] at I6; have B6 := Below.then B3 (F_b F6); have O6 := own_below HO.out B6; have hs6 := B6.size)
            | (at_builtin; refine wpList_app1K rfl _ _ rfl w.heap.size _ l rfl O6 b6 (nkOf th nm) rfl I6 (by omega) (by omega) ?_; intro v7 w7 O7 G7))
          have B7 : Below w.heap.size w w7 := grown_below (Below.then HB.out B6) (by omega) O6 G7
          go_roundw
          case rel => exact ⟨k + 1, by omega, by go_num, by show OwnK _ _ _ _; rw [HS2.out]; exact O7, B7⟩
          case measure => simp [intOf]; omega
      · have e : k = m := by omega
        subst e
        have HO2 : Hid (OwnK wr w.heap.size u5 (refsN ns)) := by have := HO.out; rw [← HM.out, List.take_length] at this; exact this
        obtain ⟨a3, c3, hv3⟩ := own_form HO2.out
        subst hv3
        have hl2 : (refsN ns).length ≤ 1024 := by have := HRL.out ns.length; rwa [List.take_length] at this
        have hs1 := sortFunc_any HO2.out (by omega)
        clear HO HO2 hlt HRL
        generalize refsN ns = l at *
        have hsl := srt_len l
        go_wp2_with (first
          | (go_at_call 15; refine hs1.mono ?_; rintro e W5 ⟨rfl, O5, B5⟩; have hc1 := compact_any O5 (by have := B5.size; omega) (by omega); clear hs1)
          | (go_at_call 17; refine hc1.mono ?_; rintro e W6 ⟨v6, rfl, O6, B6⟩; clear hc1))
        exact HA.out _ _ O6 ((HB.out.trans B5).trans B6)
  · have hne : (checkF nmB ns != 0) = true := by simpa using hz
    have HA : Hid (∀ w', Below w.heap.size w w' → A (.returned (.tuple #[.slice none 0 0, .int .i64 (checkF nmB ns)])) w') := by
      rw [← hA]; intro w' h1
      refine ⟨_, rfl, ?_, h1⟩
      unfold refsF; rw [if_neg hz]; exact own_nil _ _ _ _
    rw [hA]
    clear hA hz hT
    generalize checkF nmB ns = z at *
    go_enter Try.func5, Try.ntmps5
    go_wp2_with (first
      | (go_at_call 14; refine cC.mono ?_; rintro e W1 ⟨rfl, B1⟩; clear cC))
    exact HA.out _ B1
end Go.Proofs.Ytcmkoffamolgmaa
