/- The reference's plain. -/
import Derived.Test.YtjnbhcakfenbhaaP2
namespace Go.Proofs.Ytjnbhcakfenbhaa
open Go.RowKit M
set_option linter.unusedSimpArgs false
set_option linter.unusedVariables false

/-- The nodes that are read, and a row of the caller's own. -/
structure PlW (W : World) (B : Nat) (ad : Option Addr) (ns out : List Nd) (v : Value) : Prop where
  own : W.ownsRow B 52 6 v out.length (cellsL out)
  ns : Nds W ad ns
  low : ∀ b o m, ad = some ⟨b, o, m⟩ → b < B
  hB : B ≤ W.heap.size
theorem PlW.below {W W' : World} {B : Nat} {ad : Option Addr} {ns out : List Nd} {v : Value} (h : PlW W B ad ns out v) (hb : Below W.heap.size W W') : PlW W' B ad ns out v :=
  ⟨own_belowW h.own hb, h.ns.below hb, h.low, Nat.le_trans h.hB hb.size⟩
theorem PlW.upd {W W' : World} {B : Nat} {ad : Option Addr} {ns out : List Nd} {v : Value} (h : PlW W B ad ns out v) {b : Nat} (U : Upd W W' b) (hb : B ≤ b) (h5 : v.ownBlock ≠ some b) : PlW W' B ad ns out v :=
  ⟨own_updN h.own U h5, h.ns.step (U.trans (Below.refl _ _) hb) h.low, h.low, by rw [U.size]; exact h.hB⟩
theorem PlW.app {W W' : World} {B : Nat} {ad : Option Addr} {ns out out' : List Nd} {v v' : Value} (h : PlW W B ad ns out v) (S : Step none v.ownBlock v'.ownBlock W W') (ho : W'.ownsRow B 52 6 v' out'.length (cellsL out')) : PlW W' B ad ns out' v' :=
  ⟨ho, h.ns.step (S.below (by simp) (own_row h.own) h.hB) h.low, h.low, Nat.le_trans h.hB S.size⟩
theorem Step.row_ne2 {bo r0 r1 : Option Nat} {W W' : World} {b : Nat} (S : Step bo r0 r1 W W') (h : b < W.heap.size) (h2 : some b ≠ r0) : some b ≠ r1 := by
  rcases S.row with e | ⟨g, e, hg⟩
  · rw [e]; exact h2
  · rw [e]; intro e'; cases e'; omega
/-- What plain answers at a node, whatever it is put behind. -/
def RPlA (ad : Option Addr) (cap : Nat) (ns : List Nd) (i : Nat) (n : Bool) (t : Tr) : Prop :=
  ∀ B W out v, PlW W B ad ns out v → out.length + t.sz ≤ 8192 →
    Calls Try.prog 28 #[.slice ad ns.length cap, .int .i64 (i : Int), .bool n, v] W fun e w' =>
      ∃ v', e = .returned v' ∧ PlW w' B ad ns (out ++ t.nodes out.length) v' ∧ Step none v.ownBlock v'.ownBlock W w'

set_option maxRecDepth 100000 in
set_option maxHeartbeats 2000000 in
theorem rpl_leaf {ad : Option Addr} {cap : Nat} {ns : List Nd} (hn : ns.length ≤ 1024) {i : Nat} {op fa fb th : Int} {nm : ByteArray} {val : Int} {t : Tr} (hi : ns[i]? = some ⟨op, fa, fb, th, nm, val⟩) (h3 : op ≠ 3) (h4 : op ≠ 4) (h5 : op ≠ 5) (ht : ∀ lo, t.nodes lo = [⟨op, fa, fb, th, nm, val⟩]) : RPlA ad cap ns i false t := by
  intro B W out v hW hsz
  have hlt := (List.getElem?_eq_some_iff.1 hi).1
  have hli : (i : Int) < ns.length := by omega
  obtain ⟨b, o, rfl, hb, hrg⟩ := hW.ns i _ hi
  obtain ⟨a0, k0, rfl⟩ := own_form hW.own
  have HW : Hid (PlW W B (some ⟨b, o, none⟩) ns out (.slice a0 out.length k0)) := hW
  have hB := hW.hB
  have e3 : (op == 3) = false := by simpa using h3
  have e4 : (op == 4) = false := by simpa using h4
  have e5 : (op == 5) = false := by simpa using h5
  have HTN : Hid (t.nodes out.length = [⟨op, fa, fb, th, nm, val⟩] ∧ t.sz = 1) := ⟨ht out.length, by rw [← t.nodes_len out.length, ht]; rfl⟩
  clear h3 h4 h5 hi
  have hsz1 : out.length + 1 ≤ 8192 := by have := HTN.out.2; omega
  clear hsz
  clear hW hlt
  go_enter Try.func28, Try.ntmps28
  go_wp2_with (first
    | (refine wpList_load_mid rfl 52 _ rfl b _ rfl (ndL ⟨op, fa, fb, th, nm, val⟩) _ hrg Try.underlying52 rfl infoNd ?_)
    | (refine wpList_allocS rfl 52 rfl (ndL noNd) Try.zeroValue52 ?_; intro W2 b8 F2 M2; have B2 := F2.trans (Below.refl _ W) (Nat.le_refl _); have HW2 : Hid (PlW W2 B (some ⟨b, o, none⟩) ns out (.slice a0 out.length k0)) := HW.out.below B2; have h8 : W.heap.size ≤ b8 := Nat.le_of_eq F2.at'.symm; clear F2)
    | (refine wpList_storeS rfl 52 _ _ rfl rfl (ndL ⟨op, fa, fb, th, nm, val⟩) rfl M2 (by simp [noNd, ndL]) infoNd (nd_one _) ?_; intro W3 U3 M3x; have M3 : IsS W3 b8 52 (ndL ⟨op, fa, fb, th, nm, val⟩) := M3x; have hr8 : (Value.slice a0 out.length k0).ownBlock ≠ some b8 := (fun e => by have := (HW.out.own.lt b8 e).2; omega); have HW3 : Hid (PlW W3 B (some ⟨b, o, none⟩) ns out (.slice a0 out.length k0)) := HW2.out.upd U3 (by omega) hr8; have S3 : Hid (Step none (Value.slice a0 out.length k0).ownBlock (Value.slice a0 out.length k0).ownBlock W W3) := Step.of_below (U3.trans B2 (by omega)); have c30 : W3.cell? ⟨b8, 0, none⟩ = some (.int .i64 op) := M3.cell 0; have c31 : W3.cell? ⟨b8, 1, none⟩ = some (.int .i64 fa) := M3.cell 1; have c32 : W3.cell? ⟨b8, 2, none⟩ = some (.int .i64 fb) := M3.cell 2; have hr8' : some b8 ≠ (Value.slice a0 out.length k0).ownBlock := Ne.symm hr8; have hB3 := HW3.out.hB; clear U3 M3x B2 M2 HW2 hr8)
    | (refine wpList_loadP rfl 52 _ rfl rfl M3 6 (ndL ⟨op, fa, fb, th, nm, val⟩) rfl _ Try.underlying52 rfl infoNd ?_)
    | (refine wpList_buildN rfl _ rfl ⟨op, fa, fb, th, nm, val⟩ rfl ?_; intro W4b b4 F4 N4; have B4 := F4.trans (Below.refl _ W3) (Nat.le_refl _); have HW4b : Hid (PlW W4b B (some ⟨b, o, none⟩) ns out (.slice a0 out.length k0)) := HW3.out.below B4; have S4b : Hid (Step none (Value.slice a0 out.length k0).ownBlock ((.slice a0 out.length k0) : Value).ownBlock W W4b) := S3.out.comp (Step.of_below B4); have hB4 := HW4b.out.hB; clear F4 B4 HW3 S3)
    | (at_builtin; refine wpList_appN rfl _ _ rfl B (.slice a0 out.length k0) out rfl HW4b.out.own b4 1 ⟨op, fa, fb, th, nm, val⟩ rfl N4 (by first | omega | (simp; omega)) hB4 ?_; intro v4 W4 O4x S4x; have HW4 : Hid (PlW W4 B (some ⟨b, o, none⟩) ns (out ++ [⟨op, fa, fb, th, nm, val⟩]) v4) := HW4b.out.app S4x O4x; have S4 : Hid (Step none (Value.slice a0 out.length k0).ownBlock v4.ownBlock W W4) := S4b.out.comp S4x; clear O4x S4x HW4b S4b N4))
  all_goals go_ret
  all_goals (refine ⟨v4, rfl, ?_, S4.out⟩)
  · rw [HTN.out.1]; exact HW4.out

set_option maxRecDepth 100000 in
set_option maxHeartbeats 2000000 in
theorem rpl_leafn {ad : Option Addr} {cap : Nat} {ns : List Nd} (hn : ns.length ≤ 1024) {i : Nat} {op fa fb th : Int} {nm : ByteArray} {val : Int} {t : Tr} (hi : ns[i]? = some ⟨op, fa, fb, th, nm, val⟩) (h3 : op ≠ 3) (h4 : op ≠ 4) (h5 : op ≠ 5) (ht : ∀ lo, t.nodes lo = [⟨op, fa, fb, th, nm, val⟩]) : RPlA ad cap ns i true (.not t) := by
  intro B W out v hW hsz
  have hlt := (List.getElem?_eq_some_iff.1 hi).1
  have hli : (i : Int) < ns.length := by omega
  obtain ⟨b, o, rfl, hb, hrg⟩ := hW.ns i _ hi
  obtain ⟨a0, k0, rfl⟩ := own_form hW.own
  have HW : Hid (PlW W B (some ⟨b, o, none⟩) ns out (.slice a0 out.length k0)) := hW
  have hB := hW.hB
  have e3 : (op == 3) = false := by simpa using h3
  have e4 : (op == 4) = false := by simpa using h4
  have e5 : (op == 5) = false := by simpa using h5
  have HTN : Hid (t.nodes out.length = [⟨op, fa, fb, th, nm, val⟩] ∧ t.sz = 1) := ⟨ht out.length, by rw [← t.nodes_len out.length, ht]; rfl⟩
  clear h3 h4 h5 hi
  have hsz1 : out.length + 2 ≤ 8192 := by have := HTN.out.2; simp only [Tr.sz] at hsz; omega
  clear hsz
  clear hW hlt
  go_enter Try.func28, Try.ntmps28
  go_wp2_with (first
    | (refine wpList_load_mid rfl 52 _ rfl b _ rfl (ndL ⟨op, fa, fb, th, nm, val⟩) _ hrg Try.underlying52 rfl infoNd ?_)
    | (refine wpList_allocS rfl 52 rfl (ndL noNd) Try.zeroValue52 ?_; intro W2 b8 F2 M2; have B2 := F2.trans (Below.refl _ W) (Nat.le_refl _); have HW2 : Hid (PlW W2 B (some ⟨b, o, none⟩) ns out (.slice a0 out.length k0)) := HW.out.below B2; have h8 : W.heap.size ≤ b8 := Nat.le_of_eq F2.at'.symm; clear F2)
    | (refine wpList_storeS rfl 52 _ _ rfl rfl (ndL ⟨op, fa, fb, th, nm, val⟩) rfl M2 (by simp [noNd, ndL]) infoNd (nd_one _) ?_; intro W3 U3 M3x; have M3 : IsS W3 b8 52 (ndL ⟨op, fa, fb, th, nm, val⟩) := M3x; have hr8 : (Value.slice a0 out.length k0).ownBlock ≠ some b8 := (fun e => by have := (HW.out.own.lt b8 e).2; omega); have HW3 : Hid (PlW W3 B (some ⟨b, o, none⟩) ns out (.slice a0 out.length k0)) := HW2.out.upd U3 (by omega) hr8; have S3 : Hid (Step none (Value.slice a0 out.length k0).ownBlock (Value.slice a0 out.length k0).ownBlock W W3) := Step.of_below (U3.trans B2 (by omega)); have c30 : W3.cell? ⟨b8, 0, none⟩ = some (.int .i64 op) := M3.cell 0; have c31 : W3.cell? ⟨b8, 1, none⟩ = some (.int .i64 fa) := M3.cell 1; have c32 : W3.cell? ⟨b8, 2, none⟩ = some (.int .i64 fb) := M3.cell 2; have hr8' : some b8 ≠ (Value.slice a0 out.length k0).ownBlock := Ne.symm hr8; have hB3 := HW3.out.hB; clear U3 M3x B2 M2 HW2 hr8)
    | (refine wpList_loadP rfl 52 _ rfl rfl M3 6 (ndL ⟨op, fa, fb, th, nm, val⟩) rfl _ Try.underlying52 rfl infoNd ?_)
    | (refine wpList_buildN rfl _ rfl ⟨op, fa, fb, th, nm, val⟩ rfl ?_; intro W4b b4 F4 N4; have B4 := F4.trans (Below.refl _ W3) (Nat.le_refl _); have HW4b : Hid (PlW W4b B (some ⟨b, o, none⟩) ns out (.slice a0 out.length k0)) := HW3.out.below B4; have S4b : Hid (Step none (Value.slice a0 out.length k0).ownBlock ((.slice a0 out.length k0) : Value).ownBlock W W4b) := S3.out.comp (Step.of_below B4); have hB4 := HW4b.out.hB; clear F4 B4 HW3 S3)
    | (at_builtin; refine wpList_appN rfl _ _ rfl B (.slice a0 out.length k0) out rfl HW4b.out.own b4 1 ⟨op, fa, fb, th, nm, val⟩ rfl N4 (by first | omega | (simp; omega)) hB4 ?_; intro v4 W4 O4x S4x; have HW4 : Hid (PlW W4 B (some ⟨b, o, none⟩) ns (out ++ [⟨op, fa, fb, th, nm, val⟩]) v4) := HW4b.out.app S4x O4x; have S4 : Hid (Step none (Value.slice a0 out.length k0).ownBlock v4.ownBlock W W4) := S4b.out.comp S4x; clear O4x S4x HW4b S4b N4; refine Hid.out ?_))
  refine Lib.hid ?_
  obtain ⟨a4, k4, rfl⟩ := own_form HW4.out.own
  have HL : Hid ((out ++ [(⟨op, fa, fb, th, nm, val⟩ : Nd)]).length = out.length + 1) := (by show _ = _; simp)
  rw [HL.out] at HW4 S4 ⊢
  go_wp2_with (first
    | (refine wpList_buildN rfl _ rfl ⟨3, (out.length : Int), 0, 0, noName, 0⟩ rfl ?_; intro W6b b6 F6 N6; have B6 := F6.trans (Below.refl _ W4) (Nat.le_refl _); have HW6b : Hid (PlW W6b B (some ⟨b, o, none⟩) ns (out ++ [⟨op, fa, fb, th, nm, val⟩]) (.slice a4 (out.length + 1) k4)) := HW4.out.below B6; have S6b : Hid (Step none (Value.slice a0 out.length k0).ownBlock ((.slice a4 (out.length + 1) k4) : Value).ownBlock W W6b) := S4.out.comp (Step.of_below B6); have hB6 := HW6b.out.hB; clear F6 B6 HW4 S4)
    | (at_builtin; refine wpList_appN rfl _ _ rfl B (.slice a4 (out.length + 1) k4) (out ++ [⟨op, fa, fb, th, nm, val⟩]) rfl HW6b.out.own b6 1 ⟨3, (out.length : Int), 0, 0, noName, 0⟩ rfl N6 (by first | omega | (simp; omega)) hB6 ?_; intro v6 W6 O6x S6x; have HW6 : Hid (PlW W6 B (some ⟨b, o, none⟩) ns ((out ++ [⟨op, fa, fb, th, nm, val⟩]) ++ [⟨3, (out.length : Int), 0, 0, noName, 0⟩]) v6) := HW6b.out.app S6x O6x; have S6 : Hid (Step none (Value.slice a0 out.length k0).ownBlock v6.ownBlock W W6) := S6b.out.comp S6x; clear O6x S6x HW6b S6b N6))
  all_goals go_ret
  all_goals (refine ⟨v6, rfl, ?_, S6.out⟩)
  · simp only [Tr.nodes, HTN.out.1, HTN.out.2]; have := HW6.out; simpa using this

set_option maxRecDepth 100000 in
set_option maxHeartbeats 2000000 in
theorem rpl_not {ad : Option Addr} {cap : Nat} {ns : List Nd} (hn : ns.length ≤ 1024) {i : Nat} {p : Nat} {n : Bool} {t : Tr} (hi : ns[i]? = some ⟨3, (p : Int), 0, 0, noName, 0⟩) (hP : RPlA ad cap ns p (!n) t) : RPlA ad cap ns i n t := by
  intro B W out v hW hsz
  have hlt := (List.getElem?_eq_some_iff.1 hi).1
  have hli : (i : Int) < ns.length := by omega
  obtain ⟨b, o, rfl, hb, hrg⟩ := hW.ns i _ hi
  obtain ⟨a0, k0, rfl⟩ := own_form hW.own
  have HW : Hid (PlW W B (some ⟨b, o, none⟩) ns out (.slice a0 out.length k0)) := hW
  have hB := hW.hB
  clear hi
  clear hW hlt
  go_enter Try.func28, Try.ntmps28
  go_wp2_with (first
    | (refine wpList_load_mid rfl 52 _ rfl b _ rfl (ndL ⟨3, (p : Int), 0, 0, noName, 0⟩) _ hrg Try.underlying52 rfl infoNd ?_)
    | (refine wpList_allocS rfl 52 rfl (ndL noNd) Try.zeroValue52 ?_; intro W2 b8 F2 M2; have B2 := F2.trans (Below.refl _ W) (Nat.le_refl _); have HW2 : Hid (PlW W2 B (some ⟨b, o, none⟩) ns out (.slice a0 out.length k0)) := HW.out.below B2; have h8 : W.heap.size ≤ b8 := Nat.le_of_eq F2.at'.symm; clear F2)
    | (refine wpList_storeS rfl 52 _ _ rfl rfl (ndL ⟨3, (p : Int), 0, 0, noName, 0⟩) rfl M2 (by simp [noNd, ndL]) infoNd (nd_one _) ?_; intro W3 U3 M3x; have M3 : IsS W3 b8 52 (ndL ⟨3, (p : Int), 0, 0, noName, 0⟩) := M3x; have hr8 : (Value.slice a0 out.length k0).ownBlock ≠ some b8 := (fun e => by have := (HW.out.own.lt b8 e).2; omega); have HW3 : Hid (PlW W3 B (some ⟨b, o, none⟩) ns out (.slice a0 out.length k0)) := HW2.out.upd U3 (by omega) hr8; have S3 : Hid (Step none (Value.slice a0 out.length k0).ownBlock (Value.slice a0 out.length k0).ownBlock W W3) := Step.of_below (U3.trans B2 (by omega)); have c30 : W3.cell? ⟨b8, 0, none⟩ = some (.int .i64 3) := M3.cell 0; have c31 : W3.cell? ⟨b8, 1, none⟩ = some (.int .i64 (p : Int)) := M3.cell 1; have c32 : W3.cell? ⟨b8, 2, none⟩ = some (.int .i64 0) := M3.cell 2; have hr8' : some b8 ≠ (Value.slice a0 out.length k0).ownBlock := Ne.symm hr8; have hB3 := HW3.out.hB; clear U3 M3x B2 M2 HW2 hr8)
    | (go_at_call 28; refine (hP B W3 out (.slice a0 out.length k0) HW3.out hsz).mono ?_; rintro e W4 ⟨v4, rfl, P4, S4⟩))
  all_goals go_ret
  all_goals exact ⟨v4, rfl, P4, S3.out.comp S4⟩

set_option maxRecDepth 100000 in
set_option maxHeartbeats 2000000 in
theorem rpl_and0 {ad : Option Addr} {cap : Nat} {ns : List Nd} (hn : ns.length ≤ 1024) {i : Nat} {p q : Nat} {x y : Tr} (hi : ns[i]? = some ⟨4, (p : Int), (q : Int), 0, noName, 0⟩) (hP : RPlA ad cap ns p false x) (hQ : RPlA ad cap ns q false y) : RPlA ad cap ns i false (.and x y) := by
  intro B W out v hW hsz
  have hlt := (List.getElem?_eq_some_iff.1 hi).1
  have hli : (i : Int) < ns.length := by omega
  obtain ⟨b, o, rfl, hb, hrg⟩ := hW.ns i _ hi
  obtain ⟨a0, k0, rfl⟩ := own_form hW.own
  have HW : Hid (PlW W B (some ⟨b, o, none⟩) ns out (.slice a0 out.length k0)) := hW
  have hB := hW.hB
  simp only [Tr.sz] at hsz
  have hx := x.pos
  have hy := y.pos
  have hxn := x.nodes_len out.length
  have hyn := y.nodes_len (out.length + x.sz)
  clear hi
  clear hW hlt
  go_enter Try.func28, Try.ntmps28
  go_wp2_with (first
    | (refine wpList_load_mid rfl 52 _ rfl b _ rfl (ndL ⟨4, (p : Int), (q : Int), 0, noName, 0⟩) _ hrg Try.underlying52 rfl infoNd ?_)
    | (refine wpList_allocS rfl 52 rfl (ndL noNd) Try.zeroValue52 ?_; intro W2 b8 F2 M2; have B2 := F2.trans (Below.refl _ W) (Nat.le_refl _); have HW2 : Hid (PlW W2 B (some ⟨b, o, none⟩) ns out (.slice a0 out.length k0)) := HW.out.below B2; have h8 : W.heap.size ≤ b8 := Nat.le_of_eq F2.at'.symm; clear F2)
    | (refine wpList_storeS rfl 52 _ _ rfl rfl (ndL ⟨4, (p : Int), (q : Int), 0, noName, 0⟩) rfl M2 (by simp [noNd, ndL]) infoNd (nd_one _) ?_; intro W3 U3 M3x; have M3 : IsS W3 b8 52 (ndL ⟨4, (p : Int), (q : Int), 0, noName, 0⟩) := M3x; have hr8 : (Value.slice a0 out.length k0).ownBlock ≠ some b8 := (fun e => by have := (HW.out.own.lt b8 e).2; omega); have HW3 : Hid (PlW W3 B (some ⟨b, o, none⟩) ns out (.slice a0 out.length k0)) := HW2.out.upd U3 (by omega) hr8; have S3 : Hid (Step none (Value.slice a0 out.length k0).ownBlock (Value.slice a0 out.length k0).ownBlock W W3) := Step.of_below (U3.trans B2 (by omega)); have c30 : W3.cell? ⟨b8, 0, none⟩ = some (.int .i64 4) := M3.cell 0; have c31 : W3.cell? ⟨b8, 1, none⟩ = some (.int .i64 (p : Int)) := M3.cell 1; have c32 : W3.cell? ⟨b8, 2, none⟩ = some (.int .i64 (q : Int)) := M3.cell 2; have hr8' : some b8 ≠ (Value.slice a0 out.length k0).ownBlock := Ne.symm hr8; have hB3 := HW3.out.hB; clear U3 M3x B2 M2 HW2 hr8)
    | (go_at_call 28; refine (hP B W3 out (.slice a0 out.length k0) HW3.out (by omega)).mono ?_; rintro e W4 ⟨v4, rfl, P4, S4x⟩; have HW4 : Hid (PlW W4 B (some ⟨b, o, none⟩) ns (out ++ x.nodes out.length) v4) := P4; have S4 : Hid (Step none (Value.slice a0 out.length k0).ownBlock v4.ownBlock W W4) := S3.out.comp S4x; have M4 := M3.step S4x (by simp) hr8'; have hr4 : some b8 ≠ v4.ownBlock := S4x.row_ne2 M3.lt hr8'; clear P4 S4x HW3 S3 c30 c31 c32 M3; refine Hid.out ?_))
  refine Lib.hid ?_
  obtain ⟨a4, k4, rfl⟩ := own_form HW4.out.own
  obtain ⟨L4, hL4⟩ : ∃ L4, (out ++ x.nodes out.length).length = L4 := ⟨_, rfl⟩
  have HL4 : Hid (L4 = out.length + x.sz) := (by show _ = _; rw [← hL4]; simp [hxn])
  have hL4b : 1 ≤ L4 ∧ L4 ≤ 8192 := by have := HL4.out; omega
  rw [hL4] at HW4 S4 hr4 ⊢
  have HQ := hQ B W4 (out ++ x.nodes out.length) (.slice a4 L4 k4) HW4.out (by rw [hL4, HL4.out]; omega)
  rw [hL4, HL4.out] at HQ
  rw [← HL4.out] at HQ
  have c42 : W4.cell? ⟨b8, 2, none⟩ = some (.int .i64 (q : Int)) := M4.cell 2
  clear hL4 hQ hP
  go_wp2_with (first
    | (go_at_call 28; refine HQ.mono ?_; rintro e W6 ⟨v6, rfl, P6, S6x⟩; have HW6 : Hid (PlW W6 B (some ⟨b, o, none⟩) ns (out ++ x.nodes out.length ++ y.nodes (out.length + x.sz)) v6) := (by show PlW _ _ _ _ _ _; rw [← HL4.out]; exact P6); have S6 : Hid (Step none (Value.slice a0 out.length k0).ownBlock v6.ownBlock W W6) := S4.out.comp S6x; clear P6 S6x HW4 S4 c42 M4 HQ hr4; refine Hid.out ?_))
  refine Lib.hid ?_
  obtain ⟨a6, k6, rfl⟩ := own_form HW6.out.own
  obtain ⟨L6, hL6⟩ : ∃ L6, (out ++ x.nodes out.length ++ y.nodes (out.length + x.sz)).length = L6 := ⟨_, rfl⟩
  have HL6 : Hid (L6 = out.length + x.sz + y.sz) := (by show _ = _; rw [← hL6]; simp [hxn, hyn]; omega)
  have hL6b : 1 ≤ L6 ∧ L6 ≤ 8192 := by have := HL6.out; omega
  rw [hL6] at HW6 S6 ⊢
  have HLL : Hid ((out ++ x.nodes out.length ++ y.nodes (out.length + x.sz)).length = L6) := hL6
  clear hL6
  go_wp2_with (first
    | (refine wpList_buildN rfl _ rfl ⟨4, (L4 : Int) - 1, (L6 : Int) - 1, 0, noName, 0⟩ rfl ?_; intro W8b b8 F8 N8; have B8 := F8.trans (Below.refl _ W6) (Nat.le_refl _); have HW8b : Hid (PlW W8b B (some ⟨b, o, none⟩) ns (out ++ x.nodes out.length ++ y.nodes (out.length + x.sz)) (.slice a6 L6 k6)) := HW6.out.below B8; have S8b : Hid (Step none (Value.slice a0 out.length k0).ownBlock ((.slice a6 L6 k6) : Value).ownBlock W W8b) := S6.out.comp (Step.of_below B8); have hB8 := HW8b.out.hB; clear F8 B8 HW6 S6)
    | (at_builtin; refine wpList_appN rfl _ _ rfl B (.slice a6 L6 k6) (out ++ x.nodes out.length ++ y.nodes (out.length + x.sz)) rfl (by have := HW8b.out.own; exact this) b8 1 ⟨4, (L4 : Int) - 1, (L6 : Int) - 1, 0, noName, 0⟩ rfl N8 (by rw [HLL.out]; omega) hB8 ?_; intro v8 W8 O8x S8x; have HW8 : Hid (PlW W8 B (some ⟨b, o, none⟩) ns ((out ++ x.nodes out.length ++ y.nodes (out.length + x.sz)) ++ [⟨4, (L4 : Int) - 1, (L6 : Int) - 1, 0, noName, 0⟩]) v8) := HW8b.out.app S8x O8x; have S8 : Hid (Step none (Value.slice a0 out.length k0).ownBlock v8.ownBlock W W8) := S8b.out.comp S8x; clear O8x S8x HW8b S8b N8))
  all_goals go_ret
  all_goals (refine ⟨v8, rfl, ?_, S8.out⟩)
  · have e1 : (L4 : Int) - 1 = ((out.length + x.sz - 1 : Nat) : Int) := by have := HL4.out; omega
    have e2 : (L6 : Int) - 1 = ((out.length + x.sz + y.sz - 1 : Nat) : Int) := by have := HL6.out; omega
    have := HW8.out
    rw [e1, e2] at this
    simp only [Tr.nodes]
    simpa using this

set_option maxRecDepth 100000 in
set_option maxHeartbeats 2000000 in
theorem rpl_and1 {ad : Option Addr} {cap : Nat} {ns : List Nd} (hn : ns.length ≤ 1024) {i : Nat} {p q : Nat} {x y : Tr} (hi : ns[i]? = some ⟨4, (p : Int), (q : Int), 0, noName, 0⟩) (hP : RPlA ad cap ns p true x) (hQ : RPlA ad cap ns q true y) : RPlA ad cap ns i true (.or x y) := by
  intro B W out v hW hsz
  have hlt := (List.getElem?_eq_some_iff.1 hi).1
  have hli : (i : Int) < ns.length := by omega
  obtain ⟨b, o, rfl, hb, hrg⟩ := hW.ns i _ hi
  obtain ⟨a0, k0, rfl⟩ := own_form hW.own
  have HW : Hid (PlW W B (some ⟨b, o, none⟩) ns out (.slice a0 out.length k0)) := hW
  have hB := hW.hB
  simp only [Tr.sz] at hsz
  have hx := x.pos
  have hy := y.pos
  have hxn := x.nodes_len out.length
  have hyn := y.nodes_len (out.length + x.sz)
  clear hi
  clear hW hlt
  go_enter Try.func28, Try.ntmps28
  go_wp2_with (first
    | (refine wpList_load_mid rfl 52 _ rfl b _ rfl (ndL ⟨4, (p : Int), (q : Int), 0, noName, 0⟩) _ hrg Try.underlying52 rfl infoNd ?_)
    | (refine wpList_allocS rfl 52 rfl (ndL noNd) Try.zeroValue52 ?_; intro W2 b8 F2 M2; have B2 := F2.trans (Below.refl _ W) (Nat.le_refl _); have HW2 : Hid (PlW W2 B (some ⟨b, o, none⟩) ns out (.slice a0 out.length k0)) := HW.out.below B2; have h8 : W.heap.size ≤ b8 := Nat.le_of_eq F2.at'.symm; clear F2)
    | (refine wpList_storeS rfl 52 _ _ rfl rfl (ndL ⟨4, (p : Int), (q : Int), 0, noName, 0⟩) rfl M2 (by simp [noNd, ndL]) infoNd (nd_one _) ?_; intro W3 U3 M3x; have M3 : IsS W3 b8 52 (ndL ⟨4, (p : Int), (q : Int), 0, noName, 0⟩) := M3x; have hr8 : (Value.slice a0 out.length k0).ownBlock ≠ some b8 := (fun e => by have := (HW.out.own.lt b8 e).2; omega); have HW3 : Hid (PlW W3 B (some ⟨b, o, none⟩) ns out (.slice a0 out.length k0)) := HW2.out.upd U3 (by omega) hr8; have S3 : Hid (Step none (Value.slice a0 out.length k0).ownBlock (Value.slice a0 out.length k0).ownBlock W W3) := Step.of_below (U3.trans B2 (by omega)); have c30 : W3.cell? ⟨b8, 0, none⟩ = some (.int .i64 4) := M3.cell 0; have c31 : W3.cell? ⟨b8, 1, none⟩ = some (.int .i64 (p : Int)) := M3.cell 1; have c32 : W3.cell? ⟨b8, 2, none⟩ = some (.int .i64 (q : Int)) := M3.cell 2; have hr8' : some b8 ≠ (Value.slice a0 out.length k0).ownBlock := Ne.symm hr8; have hB3 := HW3.out.hB; clear U3 M3x B2 M2 HW2 hr8)
    | (go_at_call 28; refine (hP B W3 out (.slice a0 out.length k0) HW3.out (by omega)).mono ?_; rintro e W4 ⟨v4, rfl, P4, S4x⟩; have HW4 : Hid (PlW W4 B (some ⟨b, o, none⟩) ns (out ++ x.nodes out.length) v4) := P4; have S4 : Hid (Step none (Value.slice a0 out.length k0).ownBlock v4.ownBlock W W4) := S3.out.comp S4x; have M4 := M3.step S4x (by simp) hr8'; have hr4 : some b8 ≠ v4.ownBlock := S4x.row_ne2 M3.lt hr8'; clear P4 S4x HW3 S3 c30 c31 c32 M3; refine Hid.out ?_))
  refine Lib.hid ?_
  obtain ⟨a4, k4, rfl⟩ := own_form HW4.out.own
  obtain ⟨L4, hL4⟩ : ∃ L4, (out ++ x.nodes out.length).length = L4 := ⟨_, rfl⟩
  have HL4 : Hid (L4 = out.length + x.sz) := (by show _ = _; rw [← hL4]; simp [hxn])
  have hL4b : 1 ≤ L4 ∧ L4 ≤ 8192 := by have := HL4.out; omega
  rw [hL4] at HW4 S4 hr4 ⊢
  have HQ := hQ B W4 (out ++ x.nodes out.length) (.slice a4 L4 k4) HW4.out (by rw [hL4, HL4.out]; omega)
  rw [hL4, HL4.out] at HQ
  rw [← HL4.out] at HQ
  have c42 : W4.cell? ⟨b8, 2, none⟩ = some (.int .i64 (q : Int)) := M4.cell 2
  clear hL4 hQ hP
  go_wp2_with (first
    | (go_at_call 28; refine HQ.mono ?_; rintro e W6 ⟨v6, rfl, P6, S6x⟩; have HW6 : Hid (PlW W6 B (some ⟨b, o, none⟩) ns (out ++ x.nodes out.length ++ y.nodes (out.length + x.sz)) v6) := (by show PlW _ _ _ _ _ _; rw [← HL4.out]; exact P6); have S6 : Hid (Step none (Value.slice a0 out.length k0).ownBlock v6.ownBlock W W6) := S4.out.comp S6x; clear P6 S6x HW4 S4 c42 M4 HQ hr4; refine Hid.out ?_))
  refine Lib.hid ?_
  obtain ⟨a6, k6, rfl⟩ := own_form HW6.out.own
  obtain ⟨L6, hL6⟩ : ∃ L6, (out ++ x.nodes out.length ++ y.nodes (out.length + x.sz)).length = L6 := ⟨_, rfl⟩
  have HL6 : Hid (L6 = out.length + x.sz + y.sz) := (by show _ = _; rw [← hL6]; simp [hxn, hyn]; omega)
  have hL6b : 1 ≤ L6 ∧ L6 ≤ 8192 := by have := HL6.out; omega
  rw [hL6] at HW6 S6 ⊢
  have HLL : Hid ((out ++ x.nodes out.length ++ y.nodes (out.length + x.sz)).length = L6) := hL6
  clear hL6
  go_wp2_with (first
    | (refine wpList_buildN rfl _ rfl ⟨5, (L4 : Int) - 1, (L6 : Int) - 1, 0, noName, 0⟩ rfl ?_; intro W8b b8 F8 N8; have B8 := F8.trans (Below.refl _ W6) (Nat.le_refl _); have HW8b : Hid (PlW W8b B (some ⟨b, o, none⟩) ns (out ++ x.nodes out.length ++ y.nodes (out.length + x.sz)) (.slice a6 L6 k6)) := HW6.out.below B8; have S8b : Hid (Step none (Value.slice a0 out.length k0).ownBlock ((.slice a6 L6 k6) : Value).ownBlock W W8b) := S6.out.comp (Step.of_below B8); have hB8 := HW8b.out.hB; clear F8 B8 HW6 S6)
    | (at_builtin; refine wpList_appN rfl _ _ rfl B (.slice a6 L6 k6) (out ++ x.nodes out.length ++ y.nodes (out.length + x.sz)) rfl (by have := HW8b.out.own; exact this) b8 1 ⟨5, (L4 : Int) - 1, (L6 : Int) - 1, 0, noName, 0⟩ rfl N8 (by rw [HLL.out]; omega) hB8 ?_; intro v8 W8 O8x S8x; have HW8 : Hid (PlW W8 B (some ⟨b, o, none⟩) ns ((out ++ x.nodes out.length ++ y.nodes (out.length + x.sz)) ++ [⟨5, (L4 : Int) - 1, (L6 : Int) - 1, 0, noName, 0⟩]) v8) := HW8b.out.app S8x O8x; have S8 : Hid (Step none (Value.slice a0 out.length k0).ownBlock v8.ownBlock W W8) := S8b.out.comp S8x; clear O8x S8x HW8b S8b N8))
  all_goals go_ret
  all_goals (refine ⟨v8, rfl, ?_, S8.out⟩)
  · have e1 : (L4 : Int) - 1 = ((out.length + x.sz - 1 : Nat) : Int) := by have := HL4.out; omega
    have e2 : (L6 : Int) - 1 = ((out.length + x.sz + y.sz - 1 : Nat) : Int) := by have := HL6.out; omega
    have := HW8.out
    rw [e1, e2] at this
    simp only [Tr.nodes]
    simpa using this

set_option maxRecDepth 100000 in
set_option maxHeartbeats 2000000 in
theorem rpl_or0 {ad : Option Addr} {cap : Nat} {ns : List Nd} (hn : ns.length ≤ 1024) {i : Nat} {p q : Nat} {x y : Tr} (hi : ns[i]? = some ⟨5, (p : Int), (q : Int), 0, noName, 0⟩) (hP : RPlA ad cap ns p false x) (hQ : RPlA ad cap ns q false y) : RPlA ad cap ns i false (.or x y) := by
  intro B W out v hW hsz
  have hlt := (List.getElem?_eq_some_iff.1 hi).1
  have hli : (i : Int) < ns.length := by omega
  obtain ⟨b, o, rfl, hb, hrg⟩ := hW.ns i _ hi
  obtain ⟨a0, k0, rfl⟩ := own_form hW.own
  have HW : Hid (PlW W B (some ⟨b, o, none⟩) ns out (.slice a0 out.length k0)) := hW
  have hB := hW.hB
  simp only [Tr.sz] at hsz
  have hx := x.pos
  have hy := y.pos
  have hxn := x.nodes_len out.length
  have hyn := y.nodes_len (out.length + x.sz)
  clear hi
  clear hW hlt
  go_enter Try.func28, Try.ntmps28
  go_wp2_with (first
    | (refine wpList_load_mid rfl 52 _ rfl b _ rfl (ndL ⟨5, (p : Int), (q : Int), 0, noName, 0⟩) _ hrg Try.underlying52 rfl infoNd ?_)
    | (refine wpList_allocS rfl 52 rfl (ndL noNd) Try.zeroValue52 ?_; intro W2 b8 F2 M2; have B2 := F2.trans (Below.refl _ W) (Nat.le_refl _); have HW2 : Hid (PlW W2 B (some ⟨b, o, none⟩) ns out (.slice a0 out.length k0)) := HW.out.below B2; have h8 : W.heap.size ≤ b8 := Nat.le_of_eq F2.at'.symm; clear F2)
    | (refine wpList_storeS rfl 52 _ _ rfl rfl (ndL ⟨5, (p : Int), (q : Int), 0, noName, 0⟩) rfl M2 (by simp [noNd, ndL]) infoNd (nd_one _) ?_; intro W3 U3 M3x; have M3 : IsS W3 b8 52 (ndL ⟨5, (p : Int), (q : Int), 0, noName, 0⟩) := M3x; have hr8 : (Value.slice a0 out.length k0).ownBlock ≠ some b8 := (fun e => by have := (HW.out.own.lt b8 e).2; omega); have HW3 : Hid (PlW W3 B (some ⟨b, o, none⟩) ns out (.slice a0 out.length k0)) := HW2.out.upd U3 (by omega) hr8; have S3 : Hid (Step none (Value.slice a0 out.length k0).ownBlock (Value.slice a0 out.length k0).ownBlock W W3) := Step.of_below (U3.trans B2 (by omega)); have c30 : W3.cell? ⟨b8, 0, none⟩ = some (.int .i64 5) := M3.cell 0; have c31 : W3.cell? ⟨b8, 1, none⟩ = some (.int .i64 (p : Int)) := M3.cell 1; have c32 : W3.cell? ⟨b8, 2, none⟩ = some (.int .i64 (q : Int)) := M3.cell 2; have hr8' : some b8 ≠ (Value.slice a0 out.length k0).ownBlock := Ne.symm hr8; have hB3 := HW3.out.hB; clear U3 M3x B2 M2 HW2 hr8)
    | (go_at_call 28; refine (hP B W3 out (.slice a0 out.length k0) HW3.out (by omega)).mono ?_; rintro e W4 ⟨v4, rfl, P4, S4x⟩; have HW4 : Hid (PlW W4 B (some ⟨b, o, none⟩) ns (out ++ x.nodes out.length) v4) := P4; have S4 : Hid (Step none (Value.slice a0 out.length k0).ownBlock v4.ownBlock W W4) := S3.out.comp S4x; have M4 := M3.step S4x (by simp) hr8'; have hr4 : some b8 ≠ v4.ownBlock := S4x.row_ne2 M3.lt hr8'; clear P4 S4x HW3 S3 c30 c31 c32 M3; refine Hid.out ?_))
  refine Lib.hid ?_
  obtain ⟨a4, k4, rfl⟩ := own_form HW4.out.own
  obtain ⟨L4, hL4⟩ : ∃ L4, (out ++ x.nodes out.length).length = L4 := ⟨_, rfl⟩
  have HL4 : Hid (L4 = out.length + x.sz) := (by show _ = _; rw [← hL4]; simp [hxn])
  have hL4b : 1 ≤ L4 ∧ L4 ≤ 8192 := by have := HL4.out; omega
  rw [hL4] at HW4 S4 hr4 ⊢
  have HQ := hQ B W4 (out ++ x.nodes out.length) (.slice a4 L4 k4) HW4.out (by rw [hL4, HL4.out]; omega)
  rw [hL4, HL4.out] at HQ
  rw [← HL4.out] at HQ
  have c42 : W4.cell? ⟨b8, 2, none⟩ = some (.int .i64 (q : Int)) := M4.cell 2
  clear hL4 hQ hP
  go_wp2_with (first
    | (go_at_call 28; refine HQ.mono ?_; rintro e W6 ⟨v6, rfl, P6, S6x⟩; have HW6 : Hid (PlW W6 B (some ⟨b, o, none⟩) ns (out ++ x.nodes out.length ++ y.nodes (out.length + x.sz)) v6) := (by show PlW _ _ _ _ _ _; rw [← HL4.out]; exact P6); have S6 : Hid (Step none (Value.slice a0 out.length k0).ownBlock v6.ownBlock W W6) := S4.out.comp S6x; clear P6 S6x HW4 S4 c42 M4 HQ hr4; refine Hid.out ?_))
  refine Lib.hid ?_
  obtain ⟨a6, k6, rfl⟩ := own_form HW6.out.own
  obtain ⟨L6, hL6⟩ : ∃ L6, (out ++ x.nodes out.length ++ y.nodes (out.length + x.sz)).length = L6 := ⟨_, rfl⟩
  have HL6 : Hid (L6 = out.length + x.sz + y.sz) := (by show _ = _; rw [← hL6]; simp [hxn, hyn]; omega)
  have hL6b : 1 ≤ L6 ∧ L6 ≤ 8192 := by have := HL6.out; omega
  rw [hL6] at HW6 S6 ⊢
  have HLL : Hid ((out ++ x.nodes out.length ++ y.nodes (out.length + x.sz)).length = L6) := hL6
  clear hL6
  go_wp2_with (first
    | (refine wpList_buildN rfl _ rfl ⟨5, (L4 : Int) - 1, (L6 : Int) - 1, 0, noName, 0⟩ rfl ?_; intro W8b b8 F8 N8; have B8 := F8.trans (Below.refl _ W6) (Nat.le_refl _); have HW8b : Hid (PlW W8b B (some ⟨b, o, none⟩) ns (out ++ x.nodes out.length ++ y.nodes (out.length + x.sz)) (.slice a6 L6 k6)) := HW6.out.below B8; have S8b : Hid (Step none (Value.slice a0 out.length k0).ownBlock ((.slice a6 L6 k6) : Value).ownBlock W W8b) := S6.out.comp (Step.of_below B8); have hB8 := HW8b.out.hB; clear F8 B8 HW6 S6)
    | (at_builtin; refine wpList_appN rfl _ _ rfl B (.slice a6 L6 k6) (out ++ x.nodes out.length ++ y.nodes (out.length + x.sz)) rfl (by have := HW8b.out.own; exact this) b8 1 ⟨5, (L4 : Int) - 1, (L6 : Int) - 1, 0, noName, 0⟩ rfl N8 (by rw [HLL.out]; omega) hB8 ?_; intro v8 W8 O8x S8x; have HW8 : Hid (PlW W8 B (some ⟨b, o, none⟩) ns ((out ++ x.nodes out.length ++ y.nodes (out.length + x.sz)) ++ [⟨5, (L4 : Int) - 1, (L6 : Int) - 1, 0, noName, 0⟩]) v8) := HW8b.out.app S8x O8x; have S8 : Hid (Step none (Value.slice a0 out.length k0).ownBlock v8.ownBlock W W8) := S8b.out.comp S8x; clear O8x S8x HW8b S8b N8))
  all_goals go_ret
  all_goals (refine ⟨v8, rfl, ?_, S8.out⟩)
  · have e1 : (L4 : Int) - 1 = ((out.length + x.sz - 1 : Nat) : Int) := by have := HL4.out; omega
    have e2 : (L6 : Int) - 1 = ((out.length + x.sz + y.sz - 1 : Nat) : Int) := by have := HL6.out; omega
    have := HW8.out
    rw [e1, e2] at this
    simp only [Tr.nodes]
    simpa using this

set_option maxRecDepth 100000 in
set_option maxHeartbeats 2000000 in
theorem rpl_or1 {ad : Option Addr} {cap : Nat} {ns : List Nd} (hn : ns.length ≤ 1024) {i : Nat} {p q : Nat} {x y : Tr} (hi : ns[i]? = some ⟨5, (p : Int), (q : Int), 0, noName, 0⟩) (hP : RPlA ad cap ns p true x) (hQ : RPlA ad cap ns q true y) : RPlA ad cap ns i true (.and x y) := by
  intro B W out v hW hsz
  have hlt := (List.getElem?_eq_some_iff.1 hi).1
  have hli : (i : Int) < ns.length := by omega
  obtain ⟨b, o, rfl, hb, hrg⟩ := hW.ns i _ hi
  obtain ⟨a0, k0, rfl⟩ := own_form hW.own
  have HW : Hid (PlW W B (some ⟨b, o, none⟩) ns out (.slice a0 out.length k0)) := hW
  have hB := hW.hB
  simp only [Tr.sz] at hsz
  have hx := x.pos
  have hy := y.pos
  have hxn := x.nodes_len out.length
  have hyn := y.nodes_len (out.length + x.sz)
  clear hi
  clear hW hlt
  go_enter Try.func28, Try.ntmps28
  go_wp2_with (first
    | (refine wpList_load_mid rfl 52 _ rfl b _ rfl (ndL ⟨5, (p : Int), (q : Int), 0, noName, 0⟩) _ hrg Try.underlying52 rfl infoNd ?_)
    | (refine wpList_allocS rfl 52 rfl (ndL noNd) Try.zeroValue52 ?_; intro W2 b8 F2 M2; have B2 := F2.trans (Below.refl _ W) (Nat.le_refl _); have HW2 : Hid (PlW W2 B (some ⟨b, o, none⟩) ns out (.slice a0 out.length k0)) := HW.out.below B2; have h8 : W.heap.size ≤ b8 := Nat.le_of_eq F2.at'.symm; clear F2)
    | (refine wpList_storeS rfl 52 _ _ rfl rfl (ndL ⟨5, (p : Int), (q : Int), 0, noName, 0⟩) rfl M2 (by simp [noNd, ndL]) infoNd (nd_one _) ?_; intro W3 U3 M3x; have M3 : IsS W3 b8 52 (ndL ⟨5, (p : Int), (q : Int), 0, noName, 0⟩) := M3x; have hr8 : (Value.slice a0 out.length k0).ownBlock ≠ some b8 := (fun e => by have := (HW.out.own.lt b8 e).2; omega); have HW3 : Hid (PlW W3 B (some ⟨b, o, none⟩) ns out (.slice a0 out.length k0)) := HW2.out.upd U3 (by omega) hr8; have S3 : Hid (Step none (Value.slice a0 out.length k0).ownBlock (Value.slice a0 out.length k0).ownBlock W W3) := Step.of_below (U3.trans B2 (by omega)); have c30 : W3.cell? ⟨b8, 0, none⟩ = some (.int .i64 5) := M3.cell 0; have c31 : W3.cell? ⟨b8, 1, none⟩ = some (.int .i64 (p : Int)) := M3.cell 1; have c32 : W3.cell? ⟨b8, 2, none⟩ = some (.int .i64 (q : Int)) := M3.cell 2; have hr8' : some b8 ≠ (Value.slice a0 out.length k0).ownBlock := Ne.symm hr8; have hB3 := HW3.out.hB; clear U3 M3x B2 M2 HW2 hr8)
    | (go_at_call 28; refine (hP B W3 out (.slice a0 out.length k0) HW3.out (by omega)).mono ?_; rintro e W4 ⟨v4, rfl, P4, S4x⟩; have HW4 : Hid (PlW W4 B (some ⟨b, o, none⟩) ns (out ++ x.nodes out.length) v4) := P4; have S4 : Hid (Step none (Value.slice a0 out.length k0).ownBlock v4.ownBlock W W4) := S3.out.comp S4x; have M4 := M3.step S4x (by simp) hr8'; have hr4 : some b8 ≠ v4.ownBlock := S4x.row_ne2 M3.lt hr8'; clear P4 S4x HW3 S3 c30 c31 c32 M3; refine Hid.out ?_))
  refine Lib.hid ?_
  obtain ⟨a4, k4, rfl⟩ := own_form HW4.out.own
  obtain ⟨L4, hL4⟩ : ∃ L4, (out ++ x.nodes out.length).length = L4 := ⟨_, rfl⟩
  have HL4 : Hid (L4 = out.length + x.sz) := (by show _ = _; rw [← hL4]; simp [hxn])
  have hL4b : 1 ≤ L4 ∧ L4 ≤ 8192 := by have := HL4.out; omega
  rw [hL4] at HW4 S4 hr4 ⊢
  have HQ := hQ B W4 (out ++ x.nodes out.length) (.slice a4 L4 k4) HW4.out (by rw [hL4, HL4.out]; omega)
  rw [hL4, HL4.out] at HQ
  rw [← HL4.out] at HQ
  have c42 : W4.cell? ⟨b8, 2, none⟩ = some (.int .i64 (q : Int)) := M4.cell 2
  clear hL4 hQ hP
  go_wp2_with (first
    | (go_at_call 28; refine HQ.mono ?_; rintro e W6 ⟨v6, rfl, P6, S6x⟩; have HW6 : Hid (PlW W6 B (some ⟨b, o, none⟩) ns (out ++ x.nodes out.length ++ y.nodes (out.length + x.sz)) v6) := (by show PlW _ _ _ _ _ _; rw [← HL4.out]; exact P6); have S6 : Hid (Step none (Value.slice a0 out.length k0).ownBlock v6.ownBlock W W6) := S4.out.comp S6x; clear P6 S6x HW4 S4 c42 M4 HQ hr4; refine Hid.out ?_))
  refine Lib.hid ?_
  obtain ⟨a6, k6, rfl⟩ := own_form HW6.out.own
  obtain ⟨L6, hL6⟩ : ∃ L6, (out ++ x.nodes out.length ++ y.nodes (out.length + x.sz)).length = L6 := ⟨_, rfl⟩
  have HL6 : Hid (L6 = out.length + x.sz + y.sz) := (by show _ = _; rw [← hL6]; simp [hxn, hyn]; omega)
  have hL6b : 1 ≤ L6 ∧ L6 ≤ 8192 := by have := HL6.out; omega
  rw [hL6] at HW6 S6 ⊢
  have HLL : Hid ((out ++ x.nodes out.length ++ y.nodes (out.length + x.sz)).length = L6) := hL6
  clear hL6
  go_wp2_with (first
    | (refine wpList_buildN rfl _ rfl ⟨4, (L4 : Int) - 1, (L6 : Int) - 1, 0, noName, 0⟩ rfl ?_; intro W8b b8 F8 N8; have B8 := F8.trans (Below.refl _ W6) (Nat.le_refl _); have HW8b : Hid (PlW W8b B (some ⟨b, o, none⟩) ns (out ++ x.nodes out.length ++ y.nodes (out.length + x.sz)) (.slice a6 L6 k6)) := HW6.out.below B8; have S8b : Hid (Step none (Value.slice a0 out.length k0).ownBlock ((.slice a6 L6 k6) : Value).ownBlock W W8b) := S6.out.comp (Step.of_below B8); have hB8 := HW8b.out.hB; clear F8 B8 HW6 S6)
    | (at_builtin; refine wpList_appN rfl _ _ rfl B (.slice a6 L6 k6) (out ++ x.nodes out.length ++ y.nodes (out.length + x.sz)) rfl (by have := HW8b.out.own; exact this) b8 1 ⟨4, (L4 : Int) - 1, (L6 : Int) - 1, 0, noName, 0⟩ rfl N8 (by rw [HLL.out]; omega) hB8 ?_; intro v8 W8 O8x S8x; have HW8 : Hid (PlW W8 B (some ⟨b, o, none⟩) ns ((out ++ x.nodes out.length ++ y.nodes (out.length + x.sz)) ++ [⟨4, (L4 : Int) - 1, (L6 : Int) - 1, 0, noName, 0⟩]) v8) := HW8b.out.app S8x O8x; have S8 : Hid (Step none (Value.slice a0 out.length k0).ownBlock v8.ownBlock W W8) := S8b.out.comp S8x; clear O8x S8x HW8b S8b N8))
  all_goals go_ret
  all_goals (refine ⟨v8, rfl, ?_, S8.out⟩)
  · have e1 : (L4 : Int) - 1 = ((out.length + x.sz - 1 : Nat) : Int) := by have := HL4.out; omega
    have e2 : (L6 : Int) - 1 = ((out.length + x.sz + y.sz - 1 : Nat) : Int) := by have := HL6.out; omega
    have := HW8.out
    rw [e1, e2] at this
    simp only [Tr.nodes]
    simpa using this

theorem rpl_tree {ad : Option Addr} {cap : Nat} {ns : List Nd} (hn : ns.length ≤ 1024) : ∀ (t : Tr) (lo : Nat) (n : Bool), At nmB ns t lo → RPlA ad cap ns (t.root lo) n (plT n t)
  | .tru, lo, false, h => rpl_leaf (i := lo) (t := .tru) hn h (by decide) (by decide) (by decide) (fun _ => rfl)
  | .tru, lo, true, h => rpl_leafn (i := lo) (t := .tru) hn h (by decide) (by decide) (by decide) (fun _ => rfl)
  | .is th nm v, lo, false, h => rpl_leaf (i := lo) (t := .is th nm v) hn h.1 (by decide) (by decide) (by decide) (fun _ => rfl)
  | .is th nm v, lo, true, h => rpl_leafn (i := lo) (t := .is th nm v) hn h.1 (by decide) (by decide) (by decide) (fun _ => rfl)
  | .not t, lo, n, h => by
    have := rpl_not (n := n) hn h.2 (rpl_tree (ad := ad) (cap := cap) hn t lo (!n) h.1)
    have e : plT n (.not t) = plT (!n) t := by cases n <;> rfl
    rw [e]
    exact this
  | .and x y, lo, false, h => by
    have := rpl_and0 hn h.2.2 (rpl_tree (ad := ad) (cap := cap) hn x lo false h.1) (rpl_tree hn y (lo + x.sz) false h.2.1)
    rw [show (Tr.and x y).root lo = lo + x.sz + y.sz by simp only [Tr.root, Tr.sz]; omega]
    exact this
  | .and x y, lo, true, h => by
    have := rpl_and1 hn h.2.2 (rpl_tree (ad := ad) (cap := cap) hn x lo true h.1) (rpl_tree hn y (lo + x.sz) true h.2.1)
    rw [show (Tr.and x y).root lo = lo + x.sz + y.sz by simp only [Tr.root, Tr.sz]; omega]
    exact this
  | .or x y, lo, false, h => by
    have := rpl_or0 hn h.2.2 (rpl_tree (ad := ad) (cap := cap) hn x lo false h.1) (rpl_tree hn y (lo + x.sz) false h.2.1)
    rw [show (Tr.or x y).root lo = lo + x.sz + y.sz by simp only [Tr.root, Tr.sz]; omega]
    exact this
  | .or x y, lo, true, h => by
    have := rpl_or1 hn h.2.2 (rpl_tree (ad := ad) (cap := cap) hn x lo true h.1) (rpl_tree hn y (lo + x.sz) true h.2.1)
    rw [show (Tr.or x y).root lo = lo + x.sz + y.sz by simp only [Tr.root, Tr.sz]; omega]
    exact this
end Go.Proofs.Ytjnbhcakfenbhaa
