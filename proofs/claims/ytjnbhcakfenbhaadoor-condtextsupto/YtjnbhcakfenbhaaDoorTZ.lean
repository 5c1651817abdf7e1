/- Text. -/
import Derived.Test.YtjnbhcakfenbhaaDoorTY
namespace Go.Proofs.YtjnbhcakfenbhaaDoor
open Go.RowKit Go.Shelf M
set_option linter.unusedSimpArgs false
set_option linter.unusedVariables false

def inR (v : Int) : Prop := -9223372036854775808 ≤ v ∧ v ≤ 9223372036854775807
theorem nmB_size {nm : ByteArray} (h : nmB nm = true) : nm.size ≤ 64 := by
  unfold nmB nameB at h
  have := of_decide_eq_true h
  rw [sizeL]; exact this.2.1
theorem refL_len {th : Int} {nm : ByteArray} (h0 : -1 ≤ th) (h1 : th ≤ 9999) (hs : nm.size ≤ 64) : (refL th nm).length ≤ 100 := by
  have hl := textL_len th (by omega) (by omega)
  have hm : nm.data.toList.length ≤ 64 := by rw [← sizeL]; exact hs
  unfold refL
  split
  · omega
  · simp only [List.length_append, List.length_cons]; omega
theorem text_tree {B bc bo bq bt : Nat} {ad : Option Addr} {cap : Nat} {ns : List Nd} (hn : ns.length ≤ 1024) (hv : ∀ n ∈ ns, inR n.val) : ∀ (t : Tr) (lo : Nat), At nmB ns t lo → TxA B bc bo bq bt ad cap ns (t.root lo) (t.text textL) (200 * t.sz)
  | .tru, lo, h => tput_tru (i := lo) hn h
  | .is th nm v, lo, h => by
    have hvv : inR v := hv _ (List.mem_of_getElem? h.1)
    have h2 := h.2
    exact tput_is (i := lo) hn h.1 h2.1 h2.2.1 (nmB_size h2.2.2) hvv.1 hvv.2 (refL_len h2.1 h2.2.1 (nmB_size h2.2.2)) (textL_len v hvv.1 hvv.2)
  | .not t, lo, h => by
    obtain ⟨x, hx, hxo⟩ := h.1.root
    have := tput_not (x := x) hn h.2 hx (text_tree (B := B) (bc := bc) (bo := bo) (bq := bq) (bt := bt) (ad := ad) (cap := cap) hn hv t lo h.1)
    have e := brk_not (p := t.root lo) (x := x)
    rw [hxo] at e
    unfold Tr.root at e this
    rw [e] at this
    exact this
  | .and x y, lo, h => by
    obtain ⟨m, hm, hmo⟩ := h.1.root
    obtain ⟨k, hk, hko⟩ := h.2.1.root
    have p1 := x.pos
    have p2 := y.pos
    have := tput_two4 hn h.2.2 hm hk (text_tree (B := B) (bc := bc) (bo := bo) (bq := bq) (bt := bt) (ad := ad) (cap := cap) hn hv x lo h.1) (text_tree hn hv y _ h.2.1)
    have e1 := brk_first (K := 4) (p := x.root lo) (q := y.root (lo + x.sz)) (x := m) (by unfold Tr.root; omega)
    have e2 := brk_second (K := 4) (p := x.root lo) (q := y.root (lo + x.sz)) (x := k)
    rw [hmo] at e1
    rw [hko] at e2
    have hr : (Tr.and x y).root lo = lo + x.sz + y.sz := by simp only [Tr.root, Tr.sz]; omega
    have hz : 200 * (Tr.and x y).sz = 200 * x.sz + 200 * y.sz + 200 := by simp only [Tr.sz]; omega
    rw [hr, hz]
    unfold Tr.root at e1 e2 this
    rw [e1, e2] at this
    exact this
  | .or x y, lo, h => by
    obtain ⟨m, hm, hmo⟩ := h.1.root
    obtain ⟨k, hk, hko⟩ := h.2.1.root
    have p1 := x.pos
    have p2 := y.pos
    have := tput_two5 hn h.2.2 hm hk (text_tree (B := B) (bc := bc) (bo := bo) (bq := bq) (bt := bt) (ad := ad) (cap := cap) hn hv x lo h.1) (text_tree hn hv y _ h.2.1)
    have e1 := brk_first (K := 5) (p := x.root lo) (q := y.root (lo + x.sz)) (x := m) (by unfold Tr.root; omega)
    have e2 := brk_second (K := 5) (p := x.root lo) (q := y.root (lo + x.sz)) (x := k)
    rw [hmo] at e1
    rw [hko] at e2
    have hr : (Tr.or x y).root lo = lo + x.sz + y.sz := by simp only [Tr.root, Tr.sz]; omega
    have hz : 200 * (Tr.or x y).sz = 200 * x.sz + 200 * y.sz + 200 := by simp only [Tr.sz]; omega
    rw [hr, hz]
    unfold Tr.root at e1 e2 this
    rw [e1, e2] at this
    exact this
/-- Text's answer. -/
def textF (ns : List Nd) : List UInt8 × Int := match treeOf nmB ns with
  | none => ([], 60)
  | some t => if 64 < t.deep then ([], 2) else (t.text textL, 0)
theorem text_bad {ns : List Nd} {k : Int} (h : k ≠ 0) (hk : checkF nmB ns = k) : textF ns = ([], k) := by
  unfold checkF at hk
  unfold textF
  split at hk
  · rename_i ht; rw [ht]; subst hk; rfl
  · rename_i t ht
    rw [ht]
    dsimp only
    split at hk
    · rename_i hd; rw [if_pos hd]; subst hk; rfl
    · exact absurd hk.symm h
theorem ckT_tree {ns : List Nd} (h : checkF nmB ns = 0) : ∃ t, treeOf nmB ns = some t ∧ textF ns = (t.text textL, 0) := by
  unfold checkF at h
  unfold textF
  split at h
  · omega
  · rename_i t ht
    split at h
    · omega
    · rename_i hd
      rw [ht]
      exact ⟨t, rfl, if_neg hd⟩
theorem zeroBld (w : World) : (zeroValue 56).run Tryd.prog w = .ok (.agg [.pointer none, .slice none 0 0].toArray) w := Tryd.zeroValue56 w
theorem zeroFnP (w : World) : (zeroValue 57).run Tryd.prog w = .ok .nilFunc w := Tryd.zeroValue57 w
theorem zeroFnPP (w : World) : (zeroValue 60).run Tryd.prog w = .ok .nilFunc w := Tryd.zeroValue60 w
theorem infoFnP : (Tryd.prog.info? 57).map (·.size) = some 1 := by kernel_rfl
theorem infoFnPP : (Tryd.prog.info? 60).map (·.size) = some 1 := by kernel_rfl

set_option maxRecDepth 100000 in
set_option maxHeartbeats 1000000 in
theorem ctext_any (ad : Option Addr) (cap : Nat) (ns : List Nd) (hs : ∀ n ∈ ns, n.nm.size ≤ maxLen) (hv : ∀ n ∈ ns, inR n.val) (hn : ns.length ≤ 16777216) (w : World) (hT : Nds w ad ns) (hTab : Tab10 w) :
    Calls Tryd.prog 6 #[.slice ad ns.length cap] w fun e w' => e = .returned (.tuple #[.string ⟨(textF ns).1.toArray⟩, .int .i64 (textF ns).2]) ∧ Below w.heap.size w w' := by
  have cC := fun W h => check_any ad cap ns hs hn W h
  have HT : Hid (Nds w ad ns) := hT
  have HTb : Hid (Tab10 w) := hTab
  have hmf : ∀ (fn : Fn) (first cap : Array Value) (w : World), (Instr.makeFunc fn first cap).run Tryd.prog w = .ok (.func fn first cap) w := fun _ _ _ _ => rfl
  clear hT hTab
  by_cases hc : checkF nmB ns = 0
  · obtain ⟨t, ht, htx⟩ := ckT_tree hc
    obtain ⟨hA, hsz, hl1, hl2⟩ := tree_at ht
    rw [htx]
    rw [hc] at cC
    obtain ⟨tx, hx⟩ : ∃ tx, t.text textL = tx := ⟨_, rfl⟩
    rw [hx]
    have HP : Hid (∀ bc bo bq bt, TxA w.heap.size bc bo bq bt ad cap ns (ns.length - 1) tx (200 * t.sz)) := (by
      intro bc bo bq bt
      have := text_tree (B := w.heap.size) (bc := bc) (bo := bo) (bq := bq) (bt := bt) (ad := ad) (cap := cap) hl2 hv t 0 hA
      unfold Tr.root at this
      rw [Nat.zero_add, hx] at this
      rw [show ns.length - 1 = t.sz - 1 by omega]
      exact this)
    have hb : 200 * t.sz ≤ 1000000 := by omega
    clear hA hsz ht hc htx hx hs hv
    go_enter Tryd.func6, Tryd.ntmps6
    go_wp2_with (first
      | (refine wpList_box1 rfl 23 _ rfl (.slice ad ns.length cap) rfl rfl ?_; intro W1 bc F1 C1; have B1 := F1.trans (Below.refl _ w) (Nat.le_refl _); have cc1 : W1.cell? ⟨bc, 0, none⟩ = some (.slice ad ns.length cap) := C1.cell 0; clear F1)
      | (go_at_call 9; refine (cC W1 (HT.out.below B1)).mono ?_; rintro e W2 ⟨rfl, B2x⟩; have C2 := C1.grown B2x; have B2 := Below.then B1 B2x; clear B2x C1 B1 cc1 cC)
      | (refine wpList_allocS rfl 56 rfl [.pointer none, .slice none 0 0] zeroBld ?_; intro W3 bo F3 N3; have C3 := C2.fresh F3; have B3 := F3.trans B2 B2.size; have hbo : w.heap.size ≤ bo := (by have := B2.size; have := F3.at'; omega); clear F3 C2 B2)
      | (refine wpList_alloc1 rfl 57 rfl .nilFunc rfl zeroFnP ?_; intro W4 bq F4 Q4; have C4 := C3.fresh F4; have N4 := N3.fresh F4; have B4 := F4.trans B3 B3.size; have hbq : w.heap.size ≤ bq := (by have := B3.size; have := F4.at'; omega); clear F4 C3 N3 B3)
      | (refine wpList_alloc1 rfl 60 rfl .nilFunc rfl zeroFnPP ?_; intro W5 bt F5 T5; have C5 := C4.fresh F5; have N5 := N4.fresh F5; have Q5 := Q4.fresh F5; have B5 := F5.trans B4 B4.size; have hbt : w.heap.size ≤ bt := (by have := B4.size; have := F5.at'; omega); clear F5 C4 N4 Q4 B4)
      | (refine wpList_store1 rfl 60 _ _ rfl rfl (.func (.func 17) #[] #[.pointer (some ⟨bc, 0, none⟩), .pointer (some ⟨bq, 0, none⟩), .pointer (some ⟨bo, 0, none⟩)]) rfl T5 (by simp) infoFnPP rfl ?_; intro W6 U6 T6; have C6 := C5.upd U6 (C5.ne T5 (by decide)); have N6 := N5.upd U6 (N5.ne T5 (by decide)); have Q6 := Q5.upd U6 (Q5.ne T5 (by decide)); have B6 := U6.trans B5 hbt; clear U6 C5 N5 Q5 B5 T5)
      | (refine wpList_store1 rfl 57 _ _ rfl rfl (.func (.func 20) #[] #[.pointer (some ⟨bc, 0, none⟩), .pointer (some ⟨bo, 0, none⟩), .pointer (some ⟨bt, 0, none⟩)]) rfl Q6 (by simp) infoFnP rfl ?_; intro W7 U7 Q7; have C7 := C6.upd U7 (C6.ne Q6 (by decide)); have N7 := N6.upd U7 (N6.ne Q6 (by decide)); have T7 := T6.upd U7 (T6.ne Q6 (by decide)); have B7 : Hid (Below w.heap.size w W7) := U7.trans B6 hbq; have HW7 : Hid (TxW W7 w.heap.size bc bo bq bt ad cap ns [] (.slice none 0 0)) := ⟨C7, Q7, T7, ⟨hbo, ⟨_, .inl rfl, N7⟩, World.ownsRow_nil _ _ _ _⟩, fun X hX => HT.out.below (B7.out.trans hX), fun X hX => HTb.out.below (B7.out.trans hX), B7.out.size⟩; have q7 : W7.cell? ⟨bq, 0, none⟩ = some (.func (.func 20) #[] #[.pointer (some ⟨bc, 0, none⟩), .pointer (some ⟨bo, 0, none⟩), .pointer (some ⟨bt, 0, none⟩)]) := Q7.cell 0; have cc7 : W7.cell? ⟨bc, 0, none⟩ = some (.slice ad ns.length cap) := C7.cell 0; clear U7 C6 N6 T6 B6 Q6 C7 N7 T7 Q7)
      | (go_at_call 20; have cD := (HP.out bc bo bq bt).2 W7 [] (.slice none 0 0) HW7.out (by simp; omega); rw [show ((ns.length - 1 : Nat) : Int) = (ns.length : Int) - 1 by omega] at cD; refine cD.mono ?_; rintro e W8 ⟨rfl, v8, P8, S8⟩; have B8 : Hid (Below w.heap.size w W8) := B7.out.trans (S8.below (by intro b e; cases e; exact hbo) (by intro b e; cases e) B7.out.size); have I8 : Lib.IsBuilder 56 5 w.heap.size bo (Lib.byteCells tx) W8 := P8.b.lib; have hB8 := P8.hB; clear cD P8 S8 HW7 q7 cc7 B7)
      | (go_at_call 25; refine (Tryd.Builder_String_any w.heap.size bo tx W8 I8 hB8).mono ?_; rintro e W9 ⟨rfl, B9⟩))
    go_ret2
    exact ⟨rfl, B8.out.trans B9⟩
  · obtain ⟨k, hk⟩ : ∃ k, checkF nmB ns = k := ⟨_, rfl⟩
    rw [text_bad (by rw [← hk]; exact hc) hk]
    rw [hk] at cC hc
    have hk' : (k != 0) = true := by simpa using hc
    clear hc hk hs hv
    go_enter Tryd.func6, Tryd.ntmps6
    go_wp2_with (first
      | (refine wpList_box1 rfl 23 _ rfl (.slice ad ns.length cap) rfl rfl ?_; intro W1 bc F1 C1; have B1 := F1.trans (Below.refl _ w) (Nat.le_refl _); have cc1 : W1.cell? ⟨bc, 0, none⟩ = some (.slice ad ns.length cap) := C1.cell 0; clear F1)
      | (go_at_call 9; refine (cC W1 (HT.out.below B1)).mono ?_; rintro e W2 ⟨rfl, B2x⟩))
    go_ret2
    exact ⟨rfl, Below.then B1 B2x⟩
end Go.Proofs.YtjnbhcakfenbhaaDoor
