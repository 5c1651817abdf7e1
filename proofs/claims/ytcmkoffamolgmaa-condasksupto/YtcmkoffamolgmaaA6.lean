/- Holds of the reference. -/
import Derived.Test.YtcmkoffamolgmaaA4
import Derived.Test.YtcmkoffamolgmaaH2
import Derived.Test.YtcmkoffamolgmaaR5
namespace Go.Proofs.Ytcmkoffamolgmaa
open Go Go.RowKit M
set_option linter.unusedSimpArgs false
set_option linter.unusedVariables false

/-- Whether a node holds, by those ahead of it. -/
def evS (val : RK → Int) (ls : List Bool) (n : Nd) : Bool :=
  if n.op = 2 then val (rkOf n.th n.nm) == n.val
  else if n.op = 3 then !ls.getD n.a.toNat false
  else if n.op = 4 then ls.getD n.a.toNat false && ls.getD n.b.toNat false
  else if n.op = 5 then ls.getD n.a.toNat false || ls.getD n.b.toNat false
  else true
def evsF (val : RK → Int) (ns : List Nd) : Nat → List Bool
  | 0 => []
  | k + 1 => evsF val ns k ++ [evS val (evsF val ns k) (ns.getD k noNd)]
theorem evsF_succ (val : RK → Int) (ns : List Nd) (k : Nat) : evsF val ns (k + 1) = evsF val ns k ++ [evS val (evsF val ns k) (ns.getD k noNd)] := rfl
theorem evsF_len (val : RK → Int) (ns : List Nd) : ∀ k, (evsF val ns k).length = k
  | 0 => rfl
  | k + 1 => by unfold evsF; rw [List.length_append, evsF_len val ns k]; rfl
theorem evsF_get (val : RK → Int) (ns : List Nd) (i : Nat) : ∀ k, i < k → (evsF val ns k).getD i false = evS val (evsF val ns i) (ns.getD i noNd)
  | 0, h => by omega
  | k + 1, h => by
    rw [evsF_succ, List.getD_eq_getElem?_getD]
    by_cases hi : i < k
    · rw [List.getElem?_append_left (by rw [evsF_len]; exact hi), ← List.getD_eq_getElem?_getD]
      exact evsF_get val ns i k hi
    · have e : i = k := by omega
      subst e
      rw [List.getElem?_append_right (by rw [evsF_len]; exact Nat.le_refl _), evsF_len, Nat.sub_self]; rfl
theorem getD_nd {ns : List Nd} {i : Nat} {n : Nd} (h : ns[i]? = some n) : ns.getD i noNd = n := by rw [List.getD_eq_getElem?_getD, h]; rfl
theorem evs_tree (val : RK → Int) {ns : List Nd} : ∀ (t : Tr) (lo k : Nat), At nmB ns t lo → lo + t.sz ≤ k → (evsF val ns k).getD (t.root lo) false = t.ev val
  | .tru, lo, k, h, hk => by
    have hk' : lo + 1 ≤ k := hk
    show (evsF val ns k).getD lo false = true
    rw [evsF_get val ns lo k (by omega), getD_nd h]; rfl
  | .is th nm v, lo, k, h, hk => by
    have hk' : lo + 1 ≤ k := hk
    show (evsF val ns k).getD lo false = (val (rkOf th nm) == v)
    rw [evsF_get val ns lo k (by omega), getD_nd h.1]; rfl
  | .not t, lo, k, h, hk => by
    have hk' : lo + (t.sz + 1) ≤ k := hk
    have e : (Tr.not t).root lo = lo + t.sz := by simp [Tr.root, Tr.sz] <;> omega
    rw [e, evsF_get val ns (lo + t.sz) k (by omega), getD_nd h.2]
    show (!(evsF val ns (lo + t.sz)).getD (((lo + t.sz - 1 : Nat) : Int)).toNat false) = !t.ev val
    rw [Int.toNat_natCast]
    have := evs_tree val t lo (lo + t.sz) h.1 (Nat.le_refl _)
    unfold Tr.root at this
    rw [this]
  | .and x y, lo, k, h, hk => by
    have hk' : lo + (x.sz + y.sz + 1) ≤ k := hk
    have e : (Tr.and x y).root lo = lo + x.sz + y.sz := by simp [Tr.root, Tr.sz] <;> omega
    rw [e, evsF_get val ns (lo + x.sz + y.sz) k (by omega), getD_nd h.2.2]
    show ((evsF val ns (lo + x.sz + y.sz)).getD (((lo + x.sz - 1 : Nat) : Int)).toNat false && (evsF val ns (lo + x.sz + y.sz)).getD (((lo + x.sz + y.sz - 1 : Nat) : Int)).toNat false) = (x.ev val && y.ev val)
    rw [Int.toNat_natCast, Int.toNat_natCast]
    have h1 := evs_tree val x lo (lo + x.sz + y.sz) h.1 (by omega)
    have h2 := evs_tree val y (lo + x.sz) (lo + x.sz + y.sz) h.2.1 (Nat.le_refl _)
    unfold Tr.root at h1 h2
    rw [h1, h2]
  | .or x y, lo, k, h, hk => by
    have hk' : lo + (x.sz + y.sz + 1) ≤ k := hk
    have e : (Tr.or x y).root lo = lo + x.sz + y.sz := by simp [Tr.root, Tr.sz] <;> omega
    rw [e, evsF_get val ns (lo + x.sz + y.sz) k (by omega), getD_nd h.2.2]
    show ((evsF val ns (lo + x.sz + y.sz)).getD (((lo + x.sz - 1 : Nat) : Int)).toNat false || (evsF val ns (lo + x.sz + y.sz)).getD (((lo + x.sz + y.sz - 1 : Nat) : Int)).toNat false) = (x.ev val || y.ev val)
    rw [Int.toNat_natCast, Int.toNat_natCast]
    have h1 := evs_tree val x lo (lo + x.sz + y.sz) h.1 (by omega)
    have h2 := evs_tree val y (lo + x.sz) (lo + x.sz + y.sz) h.2.1 (Nat.le_refl _)
    unfold Tr.root at h1 h2
    rw [h1, h2]
/-- What a node of a condition looks like. -/
def NdF (n : Nd) (i : Nat) : Prop := n = ⟨1, 0, 0, 0, noName, 0⟩ ∨ (∃ th nm v, n = ⟨2, 0, 0, th, nm, v⟩ ∧ -1 ≤ th) ∨ (∃ p : Nat, p < i ∧ n = ⟨3, (p : Int), 0, 0, noName, 0⟩) ∨ (∃ p q : Nat, p < i ∧ q < i ∧ n = ⟨4, (p : Int), (q : Int), 0, noName, 0⟩) ∨ (∃ p q : Nat, p < i ∧ q < i ∧ n = ⟨5, (p : Int), (q : Int), 0, noName, 0⟩)
theorem nd_form {ns : List Nd} : ∀ (t : Tr) (lo : Nat), At nmB ns t lo → ∀ i n, lo ≤ i → i < lo + t.sz → ns[i]? = some n → NdF n i
  | .tru, lo, h, i, n, h1, h2, hn => by
    have : i = lo := by have : (Tr.tru).sz = 1 := rfl; omega
    subst this
    have h' : ns[i]? = some ⟨1, 0, 0, 0, noName, 0⟩ := h
    exact .inl (Option.some.inj (hn.symm.trans h'))
  | .is th nm v, lo, h, i, n, h1, h2, hn => by
    have : i = lo := by have : (Tr.is th nm v).sz = 1 := rfl; omega
    subst this
    exact .inr (.inl ⟨th, nm, v, Option.some.inj (hn.symm.trans h.1), h.2.1⟩)
  | .not t, lo, h, i, n, h1, h2, hn => by
    have h2' : i < lo + (t.sz + 1) := h2
    by_cases hi : i < lo + t.sz
    · exact nd_form t lo h.1 i n h1 hi hn
    · have e : i = lo + t.sz := by omega
      subst e
      have := t.pos
      exact .inr (.inr (.inl ⟨lo + t.sz - 1, by omega, Option.some.inj (hn.symm.trans h.2)⟩))
  | .and x y, lo, h, i, n, h1, h2, hn => by
    have h2' : i < lo + (x.sz + y.sz + 1) := h2
    by_cases hi : i < lo + x.sz
    · exact nd_form x lo h.1 i n h1 hi hn
    · by_cases hj : i < lo + x.sz + y.sz
      · exact nd_form y (lo + x.sz) h.2.1 i n (by omega) hj hn
      · have e : i = lo + x.sz + y.sz := by omega
        subst e
        have := x.pos
        have := y.pos
        exact .inr (.inr (.inr (.inl ⟨lo + x.sz - 1, lo + x.sz + y.sz - 1, by omega, by omega, Option.some.inj (hn.symm.trans h.2.2)⟩)))
  | .or x y, lo, h, i, n, h1, h2, hn => by
    have h2' : i < lo + (x.sz + y.sz + 1) := h2
    by_cases hi : i < lo + x.sz
    · exact nd_form x lo h.1 i n h1 hi hn
    · by_cases hj : i < lo + x.sz + y.sz
      · exact nd_form y (lo + x.sz) h.2.1 i n (by omega) hj hn
      · have e : i = lo + x.sz + y.sz := by omega
        subst e
        have := x.pos
        have := y.pos
        exact .inr (.inr (.inr (.inr ⟨lo + x.sz - 1, lo + x.sz + y.sz - 1, by omega, by omega, Option.some.inj (hn.symm.trans h.2.2)⟩)))
def bolE (b : Bool) : List Value := [.bool b]
theorem eBol : Elt 4 54 1 (.bool false) 1 := ⟨Try.underlying54, info_parts (by kernel_rfl), rfl, by decide, by decide⟩
theorem bol_at {ss : List Bool} {j : Nat} (h : j < ss.length) : (ss.flatMap bolE)[j]? = some (.bool (ss.getD j false)) := by
  rw [show ss.flatMap bolE = ss.map Value.bool from flat1 _ _, List.getElem?_map, List.getElem?_eq_getElem h, List.getD_eq_getElem?_getD, List.getElem?_eq_getElem h]; rfl
theorem own_openC {W : World} {B t s n : Nat} {v : Value} {xs : List Value} (h : W.ownsRow B t s v n xs) (h0 : 0 < n) : ∃ g c, v = .slice (some ⟨g, 0, none⟩) n c ∧ n ≤ c ∧ B ≤ g := by
  rcases h.2 with ⟨h1, h2⟩ | ⟨g, cap, cur, hv, hg, hh, hc, _⟩
  · omega
  · exact ⟨g, cap, hv, hc, hg⟩
theorem own_seg {W : World} {B t n k c : Nat} {a : Option Addr} {cs : List Value} (h : W.ownsRow B t k (.slice a n c) n cs) : Seg W a cs := by
  obtain ⟨a', c', e, hs, _⟩ := own_row h
  cases e; exact hs
theorem bol_one (b : Bool) : ∀ v ∈ [Value.bool b], v.oneCell' = true := by simp [Value.oneCell']
theorem bol_cell {W : World} {B g k c : Nat} {ls : List Bool} (h : W.ownsRow B 4 1 (.slice (some ⟨g, 0, none⟩) k c) k (ls.flatMap bolE)) (hl : ls.length = k) {p : Nat} (hp : p < k) : W.cell? ⟨g, p, none⟩ = some (.bool (ls.getD p false)) := by
  obtain ⟨b, o, e, _, h2⟩ := own_seg h p _ (bol_at (by omega))
  cases e
  rwa [Nat.zero_add] at h2
set_option maxRecDepth 100000 in
set_option maxHeartbeats 8000000 in
theorem rholds_any (ad : Option Addr) (cap : Nat) (ns : List Nd) (hs : ∀ n ∈ ns, n.nm.size ≤ maxLen) (hn : ns.length ≤ 16777216) (rs : List RK) (vs : List Int) (nr cr nv cv : Nat) (ar av : Option Addr) (hr : rs.length = nr) (hv : vs.length = nv) (hnr : nr ≤ 1048576) (hnv : nv ≤ 1048576) (w : World) (hT : Nds w ad ns) (hR : Seg w ar (rs.flatMap rkL)) (hV : Seg w av (vs.flatMap fun x => [.int .i64 x])) :
    Calls Try.prog 12 #[.slice ad ns.length cap, .slice ar nr cr, .slice av nv cv] w fun e w' => e = .returned (.tuple #[.bool (hdB (lkF rs vs 0) ns), .int .i64 (checkF nmB ns)]) ∧ Below w.heap.size w w' := by
  have cC := rcheck_any ad cap ns hs hn w hT
  have cV := fun W r h1 h2 => value_any rs vs r nr cr nv cv ar av hr hv hnr hnv W h1 h2
  obtain ⟨A, hA⟩ : ∃ A : Ending → World → Prop, (fun e w' => e = .returned (.tuple #[.bool (hdB (lkF rs vs 0) ns), .int .i64 (checkF nmB ns)]) ∧ Below w.heap.size w w') = A := ⟨_, rfl⟩
  by_cases hz : checkF nmB ns = 0
  · have hz0 : ((0 : Int) != 0) = false := rfl
    obtain ⟨t, ht⟩ : ∃ t, treeOf nmB ns = some t := by
      cases ht : treeOf nmB ns with
      | none => unfold checkF at hz; rw [ht] at hz; cases hz
      | some t => exact ⟨t, rfl⟩
    obtain ⟨hAt, hsz, hl1, hl2⟩ := tree_at ht
    obtain ⟨n, hnn⟩ : ∃ n, ns.length = n := ⟨_, rfl⟩
    have HA : Hid (∀ w', Below w.heap.size w w' → A (.returned (.tuple #[.bool ((evsF (lkF rs vs 0) ns n).getD (n - 1) false), .int .i64 0])) w') := by
      rw [← hA]; intro w' h1
      refine ⟨?_, h1⟩
      have h2 := evs_tree (lkF rs vs 0) t 0 n hAt (by omega)
      unfold Tr.root at h2
      rw [hsz, Nat.zero_add, hnn] at h2
      rw [h2]
      unfold hdB; rw [ht]; simp only [if_pos hz]; rw [hz]
    have HF : Hid (∀ i x, ns[i]? = some x → NdF x i) := fun i x hx => nd_form t 0 hAt i x (Nat.zero_le _) (by have := (List.getElem?_eq_some_iff.1 hx).1; omega) hx
    rw [hA]
    rw [hz] at cC
    have HT : Hid (Nds w ad ns) := hT
    have HR : Hid (Seg w ar (rs.flatMap rkL)) := hR
    have HV : Hid (Seg w av (vs.flatMap fun x => [.int .i64 x])) := hV
    have HN : Hid (ns.length = n) := hnn
    have h0n : 0 < n := by omega
    have hnN : n ≤ 1024 := by omega
    have hnI : (n : Int) ≤ 1024 := by omega
    rw [hnn] at cC ⊢
    clear hA hAt hsz ht hz hT hR hV hnn hl1 hl2 hr hv hnr hnv hs hn
    generalize lkF rs vs 0 = val at *
    have HCV : Hid (∀ W r, Seg W ar (rs.flatMap rkL) → Seg W av (vs.flatMap fun x => [.int .i64 x]) → Calls Try.prog 21 #[.slice ar nr cr, .slice av nv cv, .agg (rkL r).toArray] W fun e w' => e = .returned (.int .i64 (val r)) ∧ Below W.heap.size W w') := cV
    clear cV
    have t1 : True := trivial
    go_enter Try.func12, Try.ntmps12
    go_wp2_with (first
      | (clear t1; go_at_call 18; refine cC.mono ?_; rintro e W1 ⟨rfl, B1⟩))
    clear cC
    have HB1 : Hid (Below w.heap.size w W1) := B1
    clear B1
    go_loopw [9, 10] (fun v i wr => ∃ k : Nat, k ≤ n ∧ i = .int .i64 (k : Int) ∧ (∃ a9 c9, v = .slice a9 k c9) ∧ Hid (Below w.heap.size w wr) ∧ Hid (wr.ownsRow w.heap.size 4 1 v k ((evsF val ns k).flatMap bolE))) (fun _ i _ => n - (intOf i).toNat)
    case atStart => exact ⟨0, Nat.zero_le _, rfl, ⟨_, _, rfl⟩, HB1, own_nil _ _ _ _⟩
    case round =>
      obtain ⟨k, hk, rfl, ⟨a9, c9, rfl⟩, HB, HO⟩ := hrel
      by_cases hlt : k < n
      · have hki : (k : Int) < n := by omega
        obtain ⟨x, hx⟩ : ∃ x, ns[k]? = some x := ⟨_, List.getElem?_eq_getElem (by rw [HN.out]; exact hlt)⟩
        obtain ⟨b, o, rfl, hb, hrg⟩ := (HT.out.below HB.out) k _ hx
        have hE : evsF val ns (k + 1) = evsF val ns k ++ [evS val (evsF val ns k) x] := by
          show evsF val ns k ++ [evS val (evsF val ns k) (ns.getD k noNd)] = _
          rw [getD_nd hx]
        have hform := HF.out k x hx
        have HL : Hid ((evsF val ns k).length = k) := evsF_len _ _ _
        clear hx
        obtain ⟨L1, hL1⟩ : ∃ L, evsF val ns (k + 1) = L := ⟨_, rfl⟩
        rw [hL1] at hE
        have HL1 : Hid (evsF val ns (k + 1) = L1) := hL1
        clear hL1
        generalize evsF val ns k = L0 at *
        rcases hform with rfl | ⟨th, nm, v, rfl, hth⟩ | ⟨p, hp, rfl⟩ | ⟨p, q, hp, hq, rfl⟩ | ⟨p, q, hp, hq, rfl⟩
        · have HE : Hid (L1.flatMap bolE = L0.flatMap bolE ++ [.bool (true)]) := by
            show _ = _; rw [hE, List.flatMap_append, List.flatMap_singleton]; rfl
          have e2 : ((1 : Int) == 2) = false := rfl
          have e3 : ((1 : Int) == 3) = false := rfl
          have e4 : ((1 : Int) == 4) = false := rfl
          have e5 : ((1 : Int) == 5) = false := rfl
          clear hE HF
          have t2 : True := trivial
          have t3 : True := trivial
          have t4 : True := trivial
          have t5 : True := trivial
          have t6 : True := trivial
          go_wp2_with (first
              | (clear t2; refine wpList_load_mid rfl 46 _ rfl b _ rfl (ndL ⟨1, 0, 0, 0, noName, 0⟩) _ hrg Try.underlying46 rfl infoNd ?_)
              | (clear t3; refine wpList_allocS rfl 46 rfl (ndL noNd) Try.zeroValue46 ?_; intro W2 b5 F2 M2; have B2 := F_b F2; have hb5 : wr.heap.size ≤ b5 := Nat.le_of_eq F2.at'.symm; clear F2)
              | (clear t4; refine wpList_storeS rfl 46 _ _ rfl rfl (ndL ⟨1, 0, 0, 0, noName, 0⟩) rfl M2 (by simp [noNd, ndL]) infoNd (nd_one _) ?_; intro W3 U3 M3x; have M3 : IsS W3 b5 46 (ndL ⟨1, 0, 0, 0, noName, 0⟩) := M3x; have B3 : Below wr.heap.size wr W3 := U3.trans B2 hb5; have O3 := own_below HO.out B3; have c30 : W3.cell? ⟨b5, 0, none⟩ = some (.int .i64 1) := M3.cell 0; clear O3; have O3 := own_below HO.out B3; clear U3 M3x B2 M2)
              | (clear t5; refine wpList_build1E eBol rfl _ rfl (.bool (true)) rfl rfl ?_; intro W6 b6 F6 I6; have B6 := Below.then B3 (F_b F6); have O6 := own_below O3 (F_b F6))
              | (clear t6; at_builtin; refine wpList_appM eBol rfl _ _ rfl w.heap.size _ k _ rfl O6 _ 1 _ rfl (row_isS I6) rfl (bol_one _) (by omega) (Nat.le_trans HB.out.size B6.size) ?_; intro v7 W7 O7 G7; have B7 := grown_below (Below.then HB.out B6) (Nat.le_trans HB.out.size B6.size) O6 G7; rw [← HE.out] at O7; obtain ⟨a7, c7, rfl⟩ := own_form O7))
          go_roundw
          case rel => exact ⟨k + 1, by omega, by go_num, ⟨_, _, rfl⟩, B7, by rw [HL1.out]; exact O7⟩
          case measure => simp [intOf]; omega
        · obtain ⟨y, hy⟩ : ∃ y, val (rkOf th nm) = y := ⟨_, rfl⟩
          have HE : Hid (L1.flatMap bolE = L0.flatMap bolE ++ [.bool (y == v)]) := by
            show _ = _; rw [hE, List.flatMap_append, List.flatMap_singleton, ← hy]; rfl
          have e2 : ((2 : Int) == 2) = true := rfl
          have e3 : ((2 : Int) == 3) = false := rfl
          have e4 : ((2 : Int) == 4) = false := rfl
          have e5 : ((2 : Int) == 5) = false := rfl
          have hval0 : ∀ W, Below wr.heap.size wr W → Calls Try.prog 21 #[.slice ar nr cr, .slice av nv cv, .agg (rkL (rkOf th nm)).toArray] W fun e w' => e = .returned (.int .i64 y) ∧ Below W.heap.size W w' := fun W hW => by rw [← hy]; exact HCV.out W _ (HR.out.below (Below.then HB.out hW)) (HV.out.below (Below.then HB.out hW))
          clear hE HF
          have t2 : True := trivial
          have t3 : True := trivial
          have t4 : True := trivial
          have t5 : True := trivial
          have t6 : True := trivial
          go_wp2_with (first
              | (clear t2; refine wpList_load_mid rfl 46 _ rfl b _ rfl (ndL ⟨2, 0, 0, th, nm, v⟩) _ hrg Try.underlying46 rfl infoNd ?_)
              | (clear t3; refine wpList_allocS rfl 46 rfl (ndL noNd) Try.zeroValue46 ?_; intro W2 b5 F2 M2; have B2 := F_b F2; have hb5 : wr.heap.size ≤ b5 := Nat.le_of_eq F2.at'.symm; clear F2)
              | (clear t4; refine wpList_storeS rfl 46 _ _ rfl rfl (ndL ⟨2, 0, 0, th, nm, v⟩) rfl M2 (by simp [noNd, ndL]) infoNd (nd_one _) ?_; intro W3 U3 M3x; have M3 : IsS W3 b5 46 (ndL ⟨2, 0, 0, th, nm, v⟩) := M3x; have B3 : Below wr.heap.size wr W3 := U3.trans B2 hb5; have O3 := own_below HO.out B3; have c30 : W3.cell? ⟨b5, 0, none⟩ = some (.int .i64 2) := M3.cell 0; have c35 : W3.cell? ⟨b5, 5, none⟩ = some (.int .i64 v) := M3.cell 5; have hrk : W3.rangeAt b5 3 (rkL (rkOf th nm)) := (fun j u hu => by unfold rkL at hu; rw [thI_rk hth] at hu; match j, hu with | 0, hu => exact (by simpa using hu) ▸ M3.cell 3 | 1, hu => exact (by simpa using hu) ▸ M3.cell 4 | j + 2, hu => simp at hu); have hval : ∀ W, Below W3.heap.size W3 W → _ := (fun W hW => hval0 W (Below.then B3 hW)); clear U3 M3x B2 M2))
          refine grow_allW (by kernel_rfl) (by kernel_rfl) ?_
          refine WG.put rfl (v := .slice ar nr cr) (fun w => by first | rfl | (go_simp; done) | (simp [go_sem]; done) | (simp [execOp, go_sem]; done)) ?_
          simp only [Act.put, List.setIfInBounds_toArray, List.set_cons_succ, List.set_cons_zero]
          refine WG.put rfl (v := .slice av nv cv) (fun w => by first | rfl | (go_simp; done) | (simp [go_sem]; done) | (simp [execOp, go_sem]; done)) ?_
          simp only [Act.put, List.setIfInBounds_toArray, List.set_cons_succ, List.set_cons_zero]
          refine WG.put rfl (v := .pointer (some ⟨b5, 3, none⟩)) (fun w => by first | rfl | (go_simp; done) | (simp [go_sem]; done) | (simp [execOp, go_sem]; done)) ?_
          simp only [Act.put, List.setIfInBounds_toArray, List.set_cons_succ, List.set_cons_zero]
          refine WG.rk rfl _ rfl rfl M3.lt hrk ?_
          simp only [Act.put, List.setIfInBounds_toArray, List.set_cons_succ, List.set_cons_zero]
          refine WG.call rfl (v := .int .i64 y) (fun W hW => hval W hW) (fun w => by first | rfl | (go_simp; done) | (simp [go_sem]; done) | (simp [execOp, go_sem]; done)) ?_
          simp only [Act.put, List.setIfInBounds_toArray, List.set_cons_succ, List.set_cons_zero]
          refine WG.put rfl (v := .pointer (some ⟨b5, 5, none⟩)) (fun w => by first | rfl | (go_simp; done) | (simp [go_sem]; done) | (simp [execOp, go_sem]; done)) ?_
          simp only [Act.put, List.setIfInBounds_toArray, List.set_cons_succ, List.set_cons_zero]
          refine WG.cell rfl 2 _ rfl rfl c35 (fun w h => by simp [go_sem, h]) ?_
          simp only [Act.put, List.setIfInBounds_toArray, List.set_cons_succ, List.set_cons_zero]
          refine WG.put rfl (v := .bool (y == v)) (fun w => by first | rfl | (go_simp; done) | (simp [go_sem]; done) | (simp [execOp, go_sem]; done)) ?_
          simp only [Act.put, List.setIfInBounds_toArray, List.set_cons_succ, List.set_cons_zero]
          refine WG.put rfl (v := .bool (y == v)) (fun w => by first | rfl | (go_simp; done) | (simp [go_sem]; done) | (simp [execOp, go_sem]; done)) ?_
          simp only [Act.put, List.setIfInBounds_toArray, List.set_cons_succ, List.set_cons_zero]
          refine WG.nil ?_
          intro W5 B5
          have O5 := own_below O3 B5
          have B35 := Below.then B3 B5
          go_wp2_with (first
              | (clear t5; refine wpList_build1E eBol rfl _ rfl (.bool (y == v)) rfl rfl ?_; intro W6 b6 F6 I6; have B6 := Below.then B35 (F_b F6); have O6 := own_below O5 (F_b F6))
              | (clear t6; at_builtin; refine wpList_appM eBol rfl _ _ rfl w.heap.size _ k _ rfl O6 _ 1 _ rfl (row_isS I6) rfl (bol_one _) (by omega) (Nat.le_trans HB.out.size B6.size) ?_; intro v7 W7 O7 G7; have B7 := grown_below (Below.then HB.out B6) (Nat.le_trans HB.out.size B6.size) O6 G7; rw [← HE.out] at O7; obtain ⟨a7, c7, rfl⟩ := own_form O7))
          go_roundw
          case rel => exact ⟨k + 1, by omega, by go_num, ⟨_, _, rfl⟩, B7, by rw [HL1.out]; exact O7⟩
          case measure => simp [intOf]; omega
        · have h0k : 0 < k := by omega
          obtain ⟨g9, c9', e9, _, _⟩ := own_openC HO.out h0k
          cases e9
          have hpI : (p : Int) < k := by omega
          obtain ⟨lp, hLp⟩ : ∃ x, L0.getD p false = x := ⟨_, rfl⟩
          have HE : Hid (L1.flatMap bolE = L0.flatMap bolE ++ [.bool (!lp)]) := by
            show _ = _; rw [hE, List.flatMap_append, List.flatMap_singleton, ← hLp]; rfl
          have e2 : ((3 : Int) == 2) = false := rfl
          have e3 : ((3 : Int) == 3) = true := rfl
          have e4 : ((3 : Int) == 4) = false := rfl
          have e5 : ((3 : Int) == 5) = false := rfl
          clear hE HF
          have t2 : True := trivial
          have t3 : True := trivial
          have t4 : True := trivial
          have t5 : True := trivial
          have t6 : True := trivial
          go_wp2_with (first
              | (clear t2; refine wpList_load_mid rfl 46 _ rfl b _ rfl (ndL ⟨3, (p : Int), 0, 0, noName, 0⟩) _ hrg Try.underlying46 rfl infoNd ?_)
              | (clear t3; refine wpList_allocS rfl 46 rfl (ndL noNd) Try.zeroValue46 ?_; intro W2 b5 F2 M2; have B2 := F_b F2; have hb5 : wr.heap.size ≤ b5 := Nat.le_of_eq F2.at'.symm; clear F2)
              | (clear t4; refine wpList_storeS rfl 46 _ _ rfl rfl (ndL ⟨3, (p : Int), 0, 0, noName, 0⟩) rfl M2 (by simp [noNd, ndL]) infoNd (nd_one _) ?_; intro W3 U3 M3x; have M3 : IsS W3 b5 46 (ndL ⟨3, (p : Int), 0, 0, noName, 0⟩) := M3x; have B3 : Below wr.heap.size wr W3 := U3.trans B2 hb5; have O3 := own_below HO.out B3; have c30 : W3.cell? ⟨b5, 0, none⟩ = some (.int .i64 3) := M3.cell 0; have c31 : W3.cell? ⟨b5, 1, none⟩ = some (.int .i64 (p : Int)) := M3.cell 1; have dp := bol_cell O3 HL.out hp; rw [hLp] at dp; clear U3 M3x B2 M2)
              | (clear t5; refine wpList_build1E eBol rfl _ rfl (.bool (!lp)) rfl rfl ?_; intro W6 b6 F6 I6; have B6 := Below.then B3 (F_b F6); have O6 := own_below O3 (F_b F6))
              | (clear t6; at_builtin; refine wpList_appM eBol rfl _ _ rfl w.heap.size _ k _ rfl O6 _ 1 _ rfl (row_isS I6) rfl (bol_one _) (by omega) (Nat.le_trans HB.out.size B6.size) ?_; intro v7 W7 O7 G7; have B7 := grown_below (Below.then HB.out B6) (Nat.le_trans HB.out.size B6.size) O6 G7; rw [← HE.out] at O7; obtain ⟨a7, c7, rfl⟩ := own_form O7))
          go_roundw
          case rel => exact ⟨k + 1, by omega, by go_num, ⟨_, _, rfl⟩, B7, by rw [HL1.out]; exact O7⟩
          case measure => simp [intOf]; omega
        · have h0k : 0 < k := by omega
          obtain ⟨g9, c9', e9, _, _⟩ := own_openC HO.out h0k
          cases e9
          have hpI : (p : Int) < k := by omega
          obtain ⟨lp, hLp⟩ : ∃ x, L0.getD p false = x := ⟨_, rfl⟩
          have hqI : (q : Int) < k := by omega
          obtain ⟨lq, hLq⟩ : ∃ x, L0.getD q false = x := ⟨_, rfl⟩
          cases lp with
          | true =>
            have HE : Hid (L1.flatMap bolE = L0.flatMap bolE ++ [.bool (lq)]) := by
              show _ = _; rw [hE, List.flatMap_append, List.flatMap_singleton]; show _ ++ [Value.bool (L0.getD (p : Int).toNat false && L0.getD (q : Int).toNat false)] = _; rw [Int.toNat_natCast, Int.toNat_natCast, hLp, hLq]; rfl
            have e2 : ((4 : Int) == 2) = false := rfl
            have e3 : ((4 : Int) == 3) = false := rfl
            have e4 : ((4 : Int) == 4) = true := rfl
            have e5 : ((4 : Int) == 5) = false := rfl
            clear hE HF
            have t2 : True := trivial
            have t3 : True := trivial
            have t4 : True := trivial
            have t5 : True := trivial
            have t6 : True := trivial
            go_wp2_with (first
                | (clear t2; refine wpList_load_mid rfl 46 _ rfl b _ rfl (ndL ⟨4, (p : Int), (q : Int), 0, noName, 0⟩) _ hrg Try.underlying46 rfl infoNd ?_)
                | (clear t3; refine wpList_allocS rfl 46 rfl (ndL noNd) Try.zeroValue46 ?_; intro W2 b5 F2 M2; have B2 := F_b F2; have hb5 : wr.heap.size ≤ b5 := Nat.le_of_eq F2.at'.symm; clear F2)
                | (clear t4; refine wpList_storeS rfl 46 _ _ rfl rfl (ndL ⟨4, (p : Int), (q : Int), 0, noName, 0⟩) rfl M2 (by simp [noNd, ndL]) infoNd (nd_one _) ?_; intro W3 U3 M3x; have M3 : IsS W3 b5 46 (ndL ⟨4, (p : Int), (q : Int), 0, noName, 0⟩) := M3x; have B3 : Below wr.heap.size wr W3 := U3.trans B2 hb5; have O3 := own_below HO.out B3; have c30 : W3.cell? ⟨b5, 0, none⟩ = some (.int .i64 4) := M3.cell 0; have c31 : W3.cell? ⟨b5, 1, none⟩ = some (.int .i64 (p : Int)) := M3.cell 1; have c32 : W3.cell? ⟨b5, 2, none⟩ = some (.int .i64 (q : Int)) := M3.cell 2; have dp := bol_cell O3 HL.out hp; rw [hLp] at dp; have dq := bol_cell O3 HL.out hq; rw [hLq] at dq; clear U3 M3x B2 M2)
                | (clear t5; refine wpList_build1E eBol rfl _ rfl (.bool (lq)) rfl rfl ?_; intro W6 b6 F6 I6; have B6 := Below.then B3 (F_b F6); have O6 := own_below O3 (F_b F6))
                | (clear t6; at_builtin; refine wpList_appM eBol rfl _ _ rfl w.heap.size _ k _ rfl O6 _ 1 _ rfl (row_isS I6) rfl (bol_one _) (by omega) (Nat.le_trans HB.out.size B6.size) ?_; intro v7 W7 O7 G7; have B7 := grown_below (Below.then HB.out B6) (Nat.le_trans HB.out.size B6.size) O6 G7; rw [← HE.out] at O7; obtain ⟨a7, c7, rfl⟩ := own_form O7))
            go_roundw
            case rel => exact ⟨k + 1, by omega, by go_num, ⟨_, _, rfl⟩, B7, by rw [HL1.out]; exact O7⟩
            case measure => simp [intOf]; omega
          | false =>
            have HE : Hid (L1.flatMap bolE = L0.flatMap bolE ++ [.bool (false)]) := by
              show _ = _; rw [hE, List.flatMap_append, List.flatMap_singleton]; show _ ++ [Value.bool (L0.getD (p : Int).toNat false && L0.getD (q : Int).toNat false)] = _; rw [Int.toNat_natCast, Int.toNat_natCast, hLp, hLq]; rfl
            have e2 : ((4 : Int) == 2) = false := rfl
            have e3 : ((4 : Int) == 3) = false := rfl
            have e4 : ((4 : Int) == 4) = true := rfl
            have e5 : ((4 : Int) == 5) = false := rfl
            clear hE HF
            have t2 : True := trivial
            have t3 : True := trivial
            have t4 : True := trivial
            have t5 : True := trivial
            have t6 : True := trivial
            go_wp2_with (first
                | (clear t2; refine wpList_load_mid rfl 46 _ rfl b _ rfl (ndL ⟨4, (p : Int), (q : Int), 0, noName, 0⟩) _ hrg Try.underlying46 rfl infoNd ?_)
                | (clear t3; refine wpList_allocS rfl 46 rfl (ndL noNd) Try.zeroValue46 ?_; intro W2 b5 F2 M2; have B2 := F_b F2; have hb5 : wr.heap.size ≤ b5 := Nat.le_of_eq F2.at'.symm; clear F2)
                | (clear t4; refine wpList_storeS rfl 46 _ _ rfl rfl (ndL ⟨4, (p : Int), (q : Int), 0, noName, 0⟩) rfl M2 (by simp [noNd, ndL]) infoNd (nd_one _) ?_; intro W3 U3 M3x; have M3 : IsS W3 b5 46 (ndL ⟨4, (p : Int), (q : Int), 0, noName, 0⟩) := M3x; have B3 : Below wr.heap.size wr W3 := U3.trans B2 hb5; have O3 := own_below HO.out B3; have c30 : W3.cell? ⟨b5, 0, none⟩ = some (.int .i64 4) := M3.cell 0; have c31 : W3.cell? ⟨b5, 1, none⟩ = some (.int .i64 (p : Int)) := M3.cell 1; have c32 : W3.cell? ⟨b5, 2, none⟩ = some (.int .i64 (q : Int)) := M3.cell 2; have dp := bol_cell O3 HL.out hp; rw [hLp] at dp; have dq := bol_cell O3 HL.out hq; rw [hLq] at dq; clear U3 M3x B2 M2)
                | (clear t5; refine wpList_build1E eBol rfl _ rfl (.bool (false)) rfl rfl ?_; intro W6 b6 F6 I6; have B6 := Below.then B3 (F_b F6); have O6 := own_below O3 (F_b F6))
                | (clear t6; at_builtin; refine wpList_appM eBol rfl _ _ rfl w.heap.size _ k _ rfl O6 _ 1 _ rfl (row_isS I6) rfl (bol_one _) (by omega) (Nat.le_trans HB.out.size B6.size) ?_; intro v7 W7 O7 G7; have B7 := grown_below (Below.then HB.out B6) (Nat.le_trans HB.out.size B6.size) O6 G7; rw [← HE.out] at O7; obtain ⟨a7, c7, rfl⟩ := own_form O7))
            go_roundw
            case rel => exact ⟨k + 1, by omega, by go_num, ⟨_, _, rfl⟩, B7, by rw [HL1.out]; exact O7⟩
            case measure => simp [intOf]; omega
        · have h0k : 0 < k := by omega
          obtain ⟨g9, c9', e9, _, _⟩ := own_openC HO.out h0k
          cases e9
          have hpI : (p : Int) < k := by omega
          obtain ⟨lp, hLp⟩ : ∃ x, L0.getD p false = x := ⟨_, rfl⟩
          have hqI : (q : Int) < k := by omega
          obtain ⟨lq, hLq⟩ : ∃ x, L0.getD q false = x := ⟨_, rfl⟩
          cases lp with
          | false =>
            have HE : Hid (L1.flatMap bolE = L0.flatMap bolE ++ [.bool (lq)]) := by
              show _ = _; rw [hE, List.flatMap_append, List.flatMap_singleton]; show _ ++ [Value.bool (L0.getD (p : Int).toNat false || L0.getD (q : Int).toNat false)] = _; rw [Int.toNat_natCast, Int.toNat_natCast, hLp, hLq]; rfl
            have e2 : ((5 : Int) == 2) = false := rfl
            have e3 : ((5 : Int) == 3) = false := rfl
            have e4 : ((5 : Int) == 4) = false := rfl
            have e5 : ((5 : Int) == 5) = true := rfl
            clear hE HF
            have t2 : True := trivial
            have t3 : True := trivial
            have t4 : True := trivial
            have t5 : True := trivial
            have t6 : True := trivial
            go_wp2_with (first
                | (clear t2; refine wpList_load_mid rfl 46 _ rfl b _ rfl (ndL ⟨5, (p : Int), (q : Int), 0, noName, 0⟩) _ hrg Try.underlying46 rfl infoNd ?_)
                | (clear t3; refine wpList_allocS rfl 46 rfl (ndL noNd) Try.zeroValue46 ?_; intro W2 b5 F2 M2; have B2 := F_b F2; have hb5 : wr.heap.size ≤ b5 := Nat.le_of_eq F2.at'.symm; clear F2)
                | (clear t4; refine wpList_storeS rfl 46 _ _ rfl rfl (ndL ⟨5, (p : Int), (q : Int), 0, noName, 0⟩) rfl M2 (by simp [noNd, ndL]) infoNd (nd_one _) ?_; intro W3 U3 M3x; have M3 : IsS W3 b5 46 (ndL ⟨5, (p : Int), (q : Int), 0, noName, 0⟩) := M3x; have B3 : Below wr.heap.size wr W3 := U3.trans B2 hb5; have O3 := own_below HO.out B3; have c30 : W3.cell? ⟨b5, 0, none⟩ = some (.int .i64 5) := M3.cell 0; have c31 : W3.cell? ⟨b5, 1, none⟩ = some (.int .i64 (p : Int)) := M3.cell 1; have c32 : W3.cell? ⟨b5, 2, none⟩ = some (.int .i64 (q : Int)) := M3.cell 2; have dp := bol_cell O3 HL.out hp; rw [hLp] at dp; have dq := bol_cell O3 HL.out hq; rw [hLq] at dq; clear U3 M3x B2 M2)
                | (clear t5; refine wpList_build1E eBol rfl _ rfl (.bool (lq)) rfl rfl ?_; intro W6 b6 F6 I6; have B6 := Below.then B3 (F_b F6); have O6 := own_below O3 (F_b F6))
                | (clear t6; at_builtin; refine wpList_appM eBol rfl _ _ rfl w.heap.size _ k _ rfl O6 _ 1 _ rfl (row_isS I6) rfl (bol_one _) (by omega) (Nat.le_trans HB.out.size B6.size) ?_; intro v7 W7 O7 G7; have B7 := grown_below (Below.then HB.out B6) (Nat.le_trans HB.out.size B6.size) O6 G7; rw [← HE.out] at O7; obtain ⟨a7, c7, rfl⟩ := own_form O7))
            go_roundw
            case rel => exact ⟨k + 1, by omega, by go_num, ⟨_, _, rfl⟩, B7, by rw [HL1.out]; exact O7⟩
            case measure => simp [intOf]; omega
          | true =>
            have HE : Hid (L1.flatMap bolE = L0.flatMap bolE ++ [.bool (true)]) := by
              show _ = _; rw [hE, List.flatMap_append, List.flatMap_singleton]; show _ ++ [Value.bool (L0.getD (p : Int).toNat false || L0.getD (q : Int).toNat false)] = _; rw [Int.toNat_natCast, Int.toNat_natCast, hLp, hLq]; rfl
            have e2 : ((5 : Int) == 2) = false := rfl
            have e3 : ((5 : Int) == 3) = false := rfl
            have e4 : ((5 : Int) == 4) = false := rfl
            have e5 : ((5 : Int) == 5) = true := rfl
            clear hE HF
            have t2 : True := trivial
            have t3 : True := trivial
            have t4 : True := trivial
            have t5 : True := trivial
            have t6 : True := trivial
            go_wp2_with (first
                | (clear t2; refine wpList_load_mid rfl 46 _ rfl b _ rfl (ndL ⟨5, (p : Int), (q : Int), 0, noName, 0⟩) _ hrg Try.underlying46 rfl infoNd ?_)
                | (clear t3; refine wpList_allocS rfl 46 rfl (ndL noNd) Try.zeroValue46 ?_; intro W2 b5 F2 M2; have B2 := F_b F2; have hb5 : wr.heap.size ≤ b5 := Nat.le_of_eq F2.at'.symm; clear F2)
                | (clear t4; refine wpList_storeS rfl 46 _ _ rfl rfl (ndL ⟨5, (p : Int), (q : Int), 0, noName, 0⟩) rfl M2 (by simp [noNd, ndL]) infoNd (nd_one _) ?_; intro W3 U3 M3x; have M3 : IsS W3 b5 46 (ndL ⟨5, (p : Int), (q : Int), 0, noName, 0⟩) := M3x; have B3 : Below wr.heap.size wr W3 := U3.trans B2 hb5; have O3 := own_below HO.out B3; have c30 : W3.cell? ⟨b5, 0, none⟩ = some (.int .i64 5) := M3.cell 0; have c31 : W3.cell? ⟨b5, 1, none⟩ = some (.int .i64 (p : Int)) := M3.cell 1; have c32 : W3.cell? ⟨b5, 2, none⟩ = some (.int .i64 (q : Int)) := M3.cell 2; have dp := bol_cell O3 HL.out hp; rw [hLp] at dp; have dq := bol_cell O3 HL.out hq; rw [hLq] at dq; clear U3 M3x B2 M2)
                | (clear t5; refine wpList_build1E eBol rfl _ rfl (.bool (true)) rfl rfl ?_; intro W6 b6 F6 I6; have B6 := Below.then B3 (F_b F6); have O6 := own_below O3 (F_b F6))
                | (clear t6; at_builtin; refine wpList_appM eBol rfl _ _ rfl w.heap.size _ k _ rfl O6 _ 1 _ rfl (row_isS I6) rfl (bol_one _) (by omega) (Nat.le_trans HB.out.size B6.size) ?_; intro v7 W7 O7 G7; have B7 := grown_below (Below.then HB.out B6) (Nat.le_trans HB.out.size B6.size) O6 G7; rw [← HE.out] at O7; obtain ⟨a7, c7, rfl⟩ := own_form O7))
            go_roundw
            case rel => exact ⟨k + 1, by omega, by go_num, ⟨_, _, rfl⟩, B7, by rw [HL1.out]; exact O7⟩
            case measure => simp [intOf]; omega
      · have e : k = n := by omega
        subst e
        obtain ⟨g, c, e9, _, _⟩ := own_openC HO.out h0n
        cases e9
        have hcl := bol_cell HO.out (evsF_len _ _ _) (show k - 1 < k by omega)
        obtain ⟨k1, hk1⟩ : ∃ k1, k - 1 = k1 := ⟨_, rfl⟩
        rw [hk1] at hcl HA
        have hk2 : (k : Int) - 1 = (k1 : Int) := by omega
        have hk3 : (k1 : Int) < k := by omega
        have hk4 : k1 < k := by omega
        generalize (evsF val ns k).getD k1 false = x at *
        clear hk1
        go_wp2
        exact HA.out _ HB.out
  · have hne : (checkF nmB ns != 0) = true := by simpa using hz
    have HA : Hid (∀ w', Below w.heap.size w w' → A (.returned (.tuple #[.bool false, .int .i64 (checkF nmB ns)])) w') := by
      rw [← hA]; intro w' h1
      refine ⟨?_, h1⟩
      have : hdB (lkF rs vs 0) ns = false := by unfold hdB; cases treeOf nmB ns with | none => rfl | some t => simp only [if_neg hz]
      rw [this]
    rw [hA]
    clear hA hz hT hR hV cV
    generalize checkF nmB ns = z at *
    go_enter Try.func12, Try.ntmps12
    go_wp2_with (first
      | (go_at_call 18; refine cC.mono ?_; rintro e W1 ⟨rfl, B1⟩))
    exact HA.out _ B1
end Go.Proofs.Ytcmkoffamolgmaa
