/- inwards' put: a tree's nodes, its nots inwards, behind what is there. -/
import Derived.Test.YtjnbhcakfenbhaaP2
namespace Go.Proofs.Ytjnbhcakfenbhaa
open Go.RowKit M
set_option linter.unusedSimpArgs false
set_option linter.unusedVariables false

/-- What put answers at a node, whatever was put before. -/
def PutA (B bc bo ba bp : Nat) (ad : Option Addr) (cap : Nat) (ns : List Nd) (i : Nat) (n : Bool) (t : Tr) : Prop :=
  ∀ W out v, PutW W B bc bo ba bp ad cap ns out v → out.length + t.sz ≤ 8192 →
    Calls Try.prog 39 #[.int .i64 (i : Int), .bool n, .pointer (some ⟨bc, 0, none⟩), .pointer (some ⟨bp, 0, none⟩), .pointer (some ⟨ba, 0, none⟩)] W fun e w' =>
      e = .returned (.int .i64 ((out.length + t.sz - 1 : Nat) : Int)) ∧ ∃ v', PutW w' B bc bo ba bp ad cap ns (out ++ t.nodes out.length) v' ∧ Step (some bo) v.ownBlock v'.ownBlock W w'
theorem PutW.own2 {W : World} {B bc bo ba bp : Nat} {ad : Option Addr} {cap : Nat} {ns out out' : List Nd} {v : Value} (h : PutW W B bc bo ba bp ad cap ns out v) (e : out = out') : PutW W B bc bo ba bp ad cap ns out' v := e ▸ h
/-- A block that was laid before a row's step stays. -/
theorem IsS.stepN {bo r0 r1 : Option Nat} {W0 W W' : World} {b t : Nat} {cs : List Value} (h : IsS W b t cs) (s : Step bo r0 r1 W W') (h1 : some b ≠ bo) (h2 : some b ≠ r0) : IsS W' b t cs := h.step s h1 h2
theorem Step.row_ne {bo r0 r1 : Option Nat} {W W' : World} {b : Nat} (S : Step bo r0 r1 W W') (h : b < W.heap.size) (h2 : some b ≠ r0) : some b ≠ r1 := by
  rcases S.row with e | ⟨g, e, hg⟩
  · rw [e]; exact h2
  · rw [e]; intro e'; cases e'; omega
theorem grow_tailW {id : Nat} {Q : Exit → Act → World → Prop} {a : Act} {W : World} {l : List Oper} (n : Nat) (hm : Try.prog.follows .mixedOrders = true) (hB : Region.lexTailB .any l.toArray n = true)
    (h : WG l.toArray W (fun a' => ∀ w', Below W.heap.size W w' → wpList Try.prog l.toArray Q (l.drop n) a' w') (l.take n) a) : (Code.region id l.toArray true).wp Try.prog Q a W := grow_tail n hm hB h.out
theorem ldN {b o : Nat} {v : Value} (w : World) (h : w.cell? ⟨b, o, none⟩ = some v) : (Instr.loadAt 70 (.pointer (some ⟨b, o, none⟩))).run Try.prog w = .ok v w := by simp [go_sem, h]

set_option maxRecDepth 100000 in
set_option maxHeartbeats 2000000 in
theorem put_leaf {B bc bo ba bp : Nat} {ad : Option Addr} {cap : Nat} {ns : List Nd} (hn : ns.length ≤ 1024) {i : Nat} {op fa fb th : Int} {nm : ByteArray} {val : Int} {t : Tr} (hi : ns[i]? = some ⟨op, fa, fb, th, nm, val⟩) (h3 : op ≠ 3) (h4 : op ≠ 4) (h5 : op ≠ 5) (ht : ∀ lo, t.nodes lo = [⟨op, fa, fb, th, nm, val⟩]) : PutA B bc bo ba bp ad cap ns i false t := by
  intro W out v hW hsz
  have hlt := (List.getElem?_eq_some_iff.1 hi).1
  have hli : (i : Int) < ns.length := by omega
  obtain ⟨b, o, rfl, hb, hrg⟩ := hW.ns i _ hi
  have c0 : W.cell? ⟨bc, 0, none⟩ = some (.slice (some ⟨b, o, none⟩) ns.length cap) := hW.c.cell 0
  have HW : Hid (PutW W B bc bo ba bp (some ⟨b, o, none⟩) cap ns out v) := hW
  have hB := hW.hB
  have hWbc := hW.c.lt
  have hWba := hW.a.lt
  have hWbp := hW.p.lt
  have hWbo := hW.o.lt
  have e3 : (op == 3) = false := by simpa using h3
  have e4 : (op == 4) = false := by simpa using h4
  have e5 : (op == 5) = false := by simpa using h5
  have HTN : Hid (t.nodes out.length = [⟨op, fa, fb, th, nm, val⟩] ∧ t.sz = 1) := ⟨ht out.length, by rw [← t.nodes_len out.length, ht]; rfl⟩
  clear h3 h4 h5 hi
  have hsz1 : out.length + 1 ≤ 8192 := by have := HTN.out.2; omega
  clear hsz
  clear hW hlt
  go_enter Try.func39, Try.ntmps39
  go_wp2_with (first
    | (refine wpList_load_mid rfl 52 _ rfl b _ rfl (ndL ⟨op, fa, fb, th, nm, val⟩) _ hrg Try.underlying52 rfl infoNd ?_)
    | (refine wpList_allocS rfl 52 rfl (ndL noNd) Try.zeroValue52 ?_; intro W2 b8 F2 M2; have B2 := F2.trans (Below.refl _ W) (Nat.le_refl _); have HW2 : Hid (PutW W2 B bc bo ba bp (some ⟨b, o, none⟩) cap ns out v) := HW.out.below B2; have h8 : W.heap.size ≤ b8 := Nat.le_of_eq F2.at'.symm; clear F2)
    | (refine wpList_storeS rfl 52 _ _ rfl rfl (ndL ⟨op, fa, fb, th, nm, val⟩) rfl M2 (by simp [noNd, ndL]) infoNd (nd_one _) ?_; intro W3 U3 M3x; have M3 : IsS W3 b8 52 (ndL ⟨op, fa, fb, th, nm, val⟩) := M3x; have hr8 : v.ownBlock ≠ some b8 := (fun e => by have := (HW.out.own.lt b8 e).2; omega); have HW3 : Hid (PutW W3 B bc bo ba bp (some ⟨b, o, none⟩) cap ns out v) := HW2.out.upd U3 M2 (by omega) (by omega) (by omega) (by omega) (by omega) hr8; have S3 : Hid (Step (some bo) v.ownBlock v.ownBlock W W3) := Step.of_below (U3.trans B2 (by omega)); have hb8 : some b8 ≠ some bo := (fun e => by cases e; omega); have c30 : W3.cell? ⟨b8, 0, none⟩ = some (.int .i64 op) := M3.cell 0; have c31 : W3.cell? ⟨b8, 1, none⟩ = some (.int .i64 fa) := M3.cell 1; have c32 : W3.cell? ⟨b8, 2, none⟩ = some (.int .i64 fb) := M3.cell 2; have p3 : W3.cell? ⟨bp, 0, none⟩ = some (.func (.func 39) #[] #[.pointer (some ⟨bc, 0, none⟩), .pointer (some ⟨bp, 0, none⟩), .pointer (some ⟨ba, 0, none⟩)]) := HW3.out.p.cell 0; have a3 : W3.cell? ⟨ba, 0, none⟩ = some (.func (.func 38) #[] #[.pointer (some ⟨bo, 0, none⟩)]) := HW3.out.a.cell 0; have hr8' : some b8 ≠ v.ownBlock := Ne.symm hr8; clear U3 M3x B2 M2 HW2 hr8)
    | (refine wpList_loadP rfl 52 _ rfl rfl M3 6 (ndL ⟨op, fa, fb, th, nm, val⟩) rfl _ Try.underlying52 rfl infoNd ?_)
    | (have tk : True := trivial; go_at_call 38; refine (add_any (by omega) ⟨op, fa, fb, th, nm, val⟩ HW3.out).mono ?_; rintro e W4 ⟨rfl, v4, P4, S4⟩; have HW4 : Hid (PutW W4 B bc bo ba bp (some ⟨b, o, none⟩) cap ns (out ++ [⟨op, fa, fb, th, nm, val⟩]) v4) := P4; have S5 : Hid (Step (some bo) v.ownBlock v4.ownBlock W W4) := S3.out.comp S4; have a4 : W4.cell? ⟨ba, 0, none⟩ = some (.func (.func 38) #[] #[.pointer (some ⟨bo, 0, none⟩)]) := P4.a.cell 0; clear P4 S4 HW3 S3 c30 c31 c32 p3 a3))
  all_goals go_ret
  all_goals (refine ⟨ret_int ?_, v4, ?_, S5.out⟩)
  · rw [HTN.out.2]; omega
  · rw [HTN.out.1]; exact HW4.out

set_option maxRecDepth 100000 in
set_option maxHeartbeats 2000000 in
theorem put_leafn {B bc bo ba bp : Nat} {ad : Option Addr} {cap : Nat} {ns : List Nd} (hn : ns.length ≤ 1024) {i : Nat} {op fa fb th : Int} {nm : ByteArray} {val : Int} {t : Tr} (hi : ns[i]? = some ⟨op, fa, fb, th, nm, val⟩) (h3 : op ≠ 3) (h4 : op ≠ 4) (h5 : op ≠ 5) (ht : ∀ lo, t.nodes lo = [⟨op, fa, fb, th, nm, val⟩]) : PutA B bc bo ba bp ad cap ns i true (.not t) := by
  intro W out v hW hsz
  have hlt := (List.getElem?_eq_some_iff.1 hi).1
  have hli : (i : Int) < ns.length := by omega
  obtain ⟨b, o, rfl, hb, hrg⟩ := hW.ns i _ hi
  have c0 : W.cell? ⟨bc, 0, none⟩ = some (.slice (some ⟨b, o, none⟩) ns.length cap) := hW.c.cell 0
  have HW : Hid (PutW W B bc bo ba bp (some ⟨b, o, none⟩) cap ns out v) := hW
  have hB := hW.hB
  have hWbc := hW.c.lt
  have hWba := hW.a.lt
  have hWbp := hW.p.lt
  have hWbo := hW.o.lt
  have e3 : (op == 3) = false := by simpa using h3
  have e4 : (op == 4) = false := by simpa using h4
  have e5 : (op == 5) = false := by simpa using h5
  have HTN : Hid (t.nodes out.length = [⟨op, fa, fb, th, nm, val⟩] ∧ t.sz = 1) := ⟨ht out.length, by rw [← t.nodes_len out.length, ht]; rfl⟩
  clear h3 h4 h5 hi
  have hsz1 : out.length + 2 ≤ 8192 := by have := HTN.out.2; simp only [Tr.sz] at hsz; omega
  clear hsz
  clear hW hlt
  go_enter Try.func39, Try.ntmps39
  go_wp2_with (first
    | (refine wpList_load_mid rfl 52 _ rfl b _ rfl (ndL ⟨op, fa, fb, th, nm, val⟩) _ hrg Try.underlying52 rfl infoNd ?_)
    | (refine wpList_allocS rfl 52 rfl (ndL noNd) Try.zeroValue52 ?_; intro W2 b8 F2 M2; have B2 := F2.trans (Below.refl _ W) (Nat.le_refl _); have HW2 : Hid (PutW W2 B bc bo ba bp (some ⟨b, o, none⟩) cap ns out v) := HW.out.below B2; have h8 : W.heap.size ≤ b8 := Nat.le_of_eq F2.at'.symm; clear F2)
    | (refine wpList_storeS rfl 52 _ _ rfl rfl (ndL ⟨op, fa, fb, th, nm, val⟩) rfl M2 (by simp [noNd, ndL]) infoNd (nd_one _) ?_; intro W3 U3 M3x; have M3 : IsS W3 b8 52 (ndL ⟨op, fa, fb, th, nm, val⟩) := M3x; have hr8 : v.ownBlock ≠ some b8 := (fun e => by have := (HW.out.own.lt b8 e).2; omega); have HW3 : Hid (PutW W3 B bc bo ba bp (some ⟨b, o, none⟩) cap ns out v) := HW2.out.upd U3 M2 (by omega) (by omega) (by omega) (by omega) (by omega) hr8; have S3 : Hid (Step (some bo) v.ownBlock v.ownBlock W W3) := Step.of_below (U3.trans B2 (by omega)); have hb8 : some b8 ≠ some bo := (fun e => by cases e; omega); have c30 : W3.cell? ⟨b8, 0, none⟩ = some (.int .i64 op) := M3.cell 0; have c31 : W3.cell? ⟨b8, 1, none⟩ = some (.int .i64 fa) := M3.cell 1; have c32 : W3.cell? ⟨b8, 2, none⟩ = some (.int .i64 fb) := M3.cell 2; have p3 : W3.cell? ⟨bp, 0, none⟩ = some (.func (.func 39) #[] #[.pointer (some ⟨bc, 0, none⟩), .pointer (some ⟨bp, 0, none⟩), .pointer (some ⟨ba, 0, none⟩)]) := HW3.out.p.cell 0; have a3 : W3.cell? ⟨ba, 0, none⟩ = some (.func (.func 38) #[] #[.pointer (some ⟨bo, 0, none⟩)]) := HW3.out.a.cell 0; have hr8' : some b8 ≠ v.ownBlock := Ne.symm hr8; clear U3 M3x B2 M2 HW2 hr8)
    | (go_at_call 38; refine (add_any (nd := ⟨3, (out.length : Int), 0, 0, noName, 0⟩) (by simp; omega) HW4.out).mono ?_; rintro e W6 ⟨rfl, v6, P6, S6⟩; have HW6 : Hid (PutW W6 B bc bo ba bp (some ⟨b, o, none⟩) cap ns (out ++ [⟨op, fa, fb, th, nm, val⟩] ++ [⟨3, (out.length : Int), 0, 0, noName, 0⟩]) v6) := P6; have S7 : Hid (Step (some bo) v.ownBlock v6.ownBlock W W6) := S5.out.comp S6; clear P6 S6 HW4 S5 a4)
    | (refine wpList_loadP rfl 52 _ rfl rfl M3 6 (ndL ⟨op, fa, fb, th, nm, val⟩) rfl _ Try.underlying52 rfl infoNd ?_)
    | (have tk : True := trivial; go_at_call 38; refine (add_any (by omega) ⟨op, fa, fb, th, nm, val⟩ HW3.out).mono ?_; rintro e W4 ⟨rfl, v4, P4, S4⟩; have HW4 : Hid (PutW W4 B bc bo ba bp (some ⟨b, o, none⟩) cap ns (out ++ [⟨op, fa, fb, th, nm, val⟩]) v4) := P4; have S5 : Hid (Step (some bo) v.ownBlock v4.ownBlock W W4) := S3.out.comp S4; have a4 : W4.cell? ⟨ba, 0, none⟩ = some (.func (.func 38) #[] #[.pointer (some ⟨bo, 0, none⟩)]) := P4.a.cell 0; clear P4 S4 HW3 S3 c30 c31 c32 p3 a3))
  all_goals go_ret
  all_goals (refine ⟨ret_int ?_, v6, HW6.out.own2 ?_, S7.out⟩)
  · simp only [Tr.sz, HTN.out.2]; simp
  · simp only [Tr.nodes, HTN.out.1, HTN.out.2]; simp

set_option maxRecDepth 100000 in
set_option maxHeartbeats 2000000 in
theorem put_not {B bc bo ba bp : Nat} {ad : Option Addr} {cap : Nat} {ns : List Nd} (hn : ns.length ≤ 1024) {i : Nat} {p : Nat} {n : Bool} {t : Tr} (hi : ns[i]? = some ⟨3, (p : Int), 0, 0, noName, 0⟩) (hP : PutA B bc bo ba bp ad cap ns p (!n) t) : PutA B bc bo ba bp ad cap ns i n t := by
  intro W out v hW hsz
  have hlt := (List.getElem?_eq_some_iff.1 hi).1
  have hli : (i : Int) < ns.length := by omega
  obtain ⟨b, o, rfl, hb, hrg⟩ := hW.ns i _ hi
  have c0 : W.cell? ⟨bc, 0, none⟩ = some (.slice (some ⟨b, o, none⟩) ns.length cap) := hW.c.cell 0
  have HW : Hid (PutW W B bc bo ba bp (some ⟨b, o, none⟩) cap ns out v) := hW
  have hB := hW.hB
  have hWbc := hW.c.lt
  have hWba := hW.a.lt
  have hWbp := hW.p.lt
  have hWbo := hW.o.lt
  clear hi
  clear hW hlt
  go_enter Try.func39, Try.ntmps39
  go_wp2_with (first
    | (refine wpList_load_mid rfl 52 _ rfl b _ rfl (ndL ⟨3, (p : Int), 0, 0, noName, 0⟩) _ hrg Try.underlying52 rfl infoNd ?_)
    | (refine wpList_allocS rfl 52 rfl (ndL noNd) Try.zeroValue52 ?_; intro W2 b8 F2 M2; have B2 := F2.trans (Below.refl _ W) (Nat.le_refl _); have HW2 : Hid (PutW W2 B bc bo ba bp (some ⟨b, o, none⟩) cap ns out v) := HW.out.below B2; have h8 : W.heap.size ≤ b8 := Nat.le_of_eq F2.at'.symm; clear F2)
    | (refine wpList_storeS rfl 52 _ _ rfl rfl (ndL ⟨3, (p : Int), 0, 0, noName, 0⟩) rfl M2 (by simp [noNd, ndL]) infoNd (nd_one _) ?_; intro W3 U3 M3x; have M3 : IsS W3 b8 52 (ndL ⟨3, (p : Int), 0, 0, noName, 0⟩) := M3x; have hr8 : v.ownBlock ≠ some b8 := (fun e => by have := (HW.out.own.lt b8 e).2; omega); have HW3 : Hid (PutW W3 B bc bo ba bp (some ⟨b, o, none⟩) cap ns out v) := HW2.out.upd U3 M2 (by omega) (by omega) (by omega) (by omega) (by omega) hr8; have S3 : Hid (Step (some bo) v.ownBlock v.ownBlock W W3) := Step.of_below (U3.trans B2 (by omega)); have hb8 : some b8 ≠ some bo := (fun e => by cases e; omega); have c30 : W3.cell? ⟨b8, 0, none⟩ = some (.int .i64 3) := M3.cell 0; have c31 : W3.cell? ⟨b8, 1, none⟩ = some (.int .i64 (p : Int)) := M3.cell 1; have c32 : W3.cell? ⟨b8, 2, none⟩ = some (.int .i64 0) := M3.cell 2; have p3 : W3.cell? ⟨bp, 0, none⟩ = some (.func (.func 39) #[] #[.pointer (some ⟨bc, 0, none⟩), .pointer (some ⟨bp, 0, none⟩), .pointer (some ⟨ba, 0, none⟩)]) := HW3.out.p.cell 0; have a3 : W3.cell? ⟨ba, 0, none⟩ = some (.func (.func 38) #[] #[.pointer (some ⟨bo, 0, none⟩)]) := HW3.out.a.cell 0; have hr8' : some b8 ≠ v.ownBlock := Ne.symm hr8; clear U3 M3x B2 M2 HW2 hr8)
    | (go_at_call 39; refine (hP W3 out v HW3.out hsz).mono ?_; rintro e W4 ⟨rfl, v4, P4, S4⟩))
  all_goals go_ret
  all_goals exact ⟨rfl, v4, P4, S3.out.comp S4⟩

set_option maxRecDepth 100000 in
set_option maxHeartbeats 2000000 in
theorem put_and0 {B bc bo ba bp : Nat} {ad : Option Addr} {cap : Nat} {ns : List Nd} (hn : ns.length ≤ 1024) {i : Nat} {p q : Nat} {x y : Tr} (hi : ns[i]? = some ⟨4, (p : Int), (q : Int), 0, noName, 0⟩) (hP : PutA B bc bo ba bp ad cap ns p false x) (hQ : PutA B bc bo ba bp ad cap ns q false y) : PutA B bc bo ba bp ad cap ns i false (.and x y) := by
  intro W out v hW hsz
  have hlt := (List.getElem?_eq_some_iff.1 hi).1
  have hli : (i : Int) < ns.length := by omega
  obtain ⟨b, o, rfl, hb, hrg⟩ := hW.ns i _ hi
  have c0 : W.cell? ⟨bc, 0, none⟩ = some (.slice (some ⟨b, o, none⟩) ns.length cap) := hW.c.cell 0
  have HW : Hid (PutW W B bc bo ba bp (some ⟨b, o, none⟩) cap ns out v) := hW
  have hB := hW.hB
  have hWbc := hW.c.lt
  have hWba := hW.a.lt
  have hWbp := hW.p.lt
  have hWbo := hW.o.lt
  simp only [Tr.sz] at hsz ⊢
  have hx := x.pos
  have hy := y.pos
  have hxn := x.nodes_len out.length
  have hyn := y.nodes_len (out.length + x.sz)
  clear hi
  clear hW hlt
  go_enter Try.func39, Try.ntmps39
  go_wp2_with (first
    | (refine wpList_load_mid rfl 52 _ rfl b _ rfl (ndL ⟨4, (p : Int), (q : Int), 0, noName, 0⟩) _ hrg Try.underlying52 rfl infoNd ?_)
    | (refine wpList_allocS rfl 52 rfl (ndL noNd) Try.zeroValue52 ?_; intro W2 b8 F2 M2; have B2 := F2.trans (Below.refl _ W) (Nat.le_refl _); have HW2 : Hid (PutW W2 B bc bo ba bp (some ⟨b, o, none⟩) cap ns out v) := HW.out.below B2; have h8 : W.heap.size ≤ b8 := Nat.le_of_eq F2.at'.symm; clear F2)
    | (refine wpList_storeS rfl 52 _ _ rfl rfl (ndL ⟨4, (p : Int), (q : Int), 0, noName, 0⟩) rfl M2 (by simp [noNd, ndL]) infoNd (nd_one _) ?_; intro W3 U3 M3x; have M3 : IsS W3 b8 52 (ndL ⟨4, (p : Int), (q : Int), 0, noName, 0⟩) := M3x; have hr8 : v.ownBlock ≠ some b8 := (fun e => by have := (HW.out.own.lt b8 e).2; omega); have HW3 : Hid (PutW W3 B bc bo ba bp (some ⟨b, o, none⟩) cap ns out v) := HW2.out.upd U3 M2 (by omega) (by omega) (by omega) (by omega) (by omega) hr8; have S3 : Hid (Step (some bo) v.ownBlock v.ownBlock W W3) := Step.of_below (U3.trans B2 (by omega)); have hb8 : some b8 ≠ some bo := (fun e => by cases e; omega); have c30 : W3.cell? ⟨b8, 0, none⟩ = some (.int .i64 4) := M3.cell 0; have c31 : W3.cell? ⟨b8, 1, none⟩ = some (.int .i64 (p : Int)) := M3.cell 1; have c32 : W3.cell? ⟨b8, 2, none⟩ = some (.int .i64 (q : Int)) := M3.cell 2; have p3 : W3.cell? ⟨bp, 0, none⟩ = some (.func (.func 39) #[] #[.pointer (some ⟨bc, 0, none⟩), .pointer (some ⟨bp, 0, none⟩), .pointer (some ⟨ba, 0, none⟩)]) := HW3.out.p.cell 0; have a3 : W3.cell? ⟨ba, 0, none⟩ = some (.func (.func 38) #[] #[.pointer (some ⟨bo, 0, none⟩)]) := HW3.out.a.cell 0; have hr8' : some b8 ≠ v.ownBlock := Ne.symm hr8; clear U3 M3x B2 M2 HW2 hr8)
    | (have tk := HW3; go_at_call 39; refine (hP W3 out v HW3.out (by omega)).mono ?_; rintro e W4 ⟨rfl, v4, P4, S4⟩; have HW4 : Hid (PutW W4 B bc bo ba bp (some ⟨b, o, none⟩) cap ns (out ++ x.nodes out.length) v4) := P4; have S5 : Hid (Step (some bo) v.ownBlock v4.ownBlock W W4) := S3.out.comp S4; have M4 := M3.step S4 hb8 hr8'; have hr4 : some b8 ≠ v4.ownBlock := S4.row_ne M3.lt hr8'; have c42 : W4.cell? ⟨b8, 2, none⟩ = some (.int .i64 (q : Int)) := M4.cell 2; have p4 : W4.cell? ⟨bp, 0, none⟩ = some (.func (.func 39) #[] #[.pointer (some ⟨bc, 0, none⟩), .pointer (some ⟨bp, 0, none⟩), .pointer (some ⟨ba, 0, none⟩)]) := P4.p.cell 0; clear P4 S4 HW3 S3 c30 c31 c32 p3 a3 M3 tk)
    | (go_at_call 39; refine (hQ W4 (out ++ x.nodes out.length) v4 HW4.out (by rw [List.length_append, hxn]; omega)).mono ?_; rintro e W6 ⟨rfl, v6, P6, S6⟩; rw [List.length_append, hxn] at P6 ⊢; have HW6 : Hid (PutW W6 B bc bo ba bp (some ⟨b, o, none⟩) cap ns (out ++ x.nodes out.length ++ y.nodes (out.length + x.sz)) v6) := P6; have S7 : Hid (Step (some bo) v.ownBlock v6.ownBlock W W6) := S5.out.comp S6; have M6 := M4.step S6 hb8 hr4; have c60 : W6.cell? ⟨b8, 0, none⟩ = some (.int .i64 4) := M6.cell 0; have a6 : W6.cell? ⟨ba, 0, none⟩ = some (.func (.func 38) #[] #[.pointer (some ⟨bo, 0, none⟩)]) := P6.a.cell 0; clear P6 S6 HW4 S5 c42 p4 M4))
  refine grow_tailW 8 (by kernel_rfl) (by kernel_rfl) ?_
  simp only [List.take_succ_cons, List.take_zero, List.drop_succ_cons, List.drop_zero]
  refine WG.cell rfl 70 _ rfl rfl a6 ldN ?_
  simp only [Act.put, List.setIfInBounds_toArray, List.set_cons_succ, List.set_cons_zero]
  refine WG.put rfl (v := .pointer (some ⟨b8, 0, none⟩)) (fun w => by first | rfl | (go_simp; done) | (simp [go_sem]; done)) ?_
  simp only [Act.put, List.setIfInBounds_toArray, List.set_cons_succ, List.set_cons_zero]
  refine WG.cell rfl 3 _ rfl rfl c60 ld3 ?_
  simp only [Act.put, List.setIfInBounds_toArray, List.set_cons_succ, List.set_cons_zero]
  refine WG.put rfl (v := .bool false) (fun w => by first | rfl | (go_simp; done) | (simp [go_sem]; done)) ?_
  simp only [Act.put, List.setIfInBounds_toArray, List.set_cons_succ, List.set_cons_zero]
  refine WG.call rfl (f := 40) (args := #[.int .i64 4, .bool false]) (v := .int .i64 4) (fun w' hB' => (turned_any 4 false (by decide) w').mono (by rintro e w'' ⟨rfl, rfl⟩; exact ⟨rfl, Below.refl _ _⟩)) (fun w => by first | rfl | (go_simp; done) | (simp [go_sem]; done)) ?_
  simp only [Act.put, List.setIfInBounds_toArray, List.set_cons_succ, List.set_cons_zero]
  refine WG.put rfl (v := .int .i64 ((out.length + x.sz - 1 : Nat) : Int)) (fun w => by first | rfl | (go_simp; done) | (simp [go_sem]; done)) ?_
  simp only [Act.put, List.setIfInBounds_toArray, List.set_cons_succ, List.set_cons_zero]
  refine WG.put rfl (v := .int .i64 ((out.length + x.sz + y.sz - 1 : Nat) : Int)) (fun w => by first | rfl | (go_simp; done) | (simp [go_sem]; done)) ?_
  simp only [Act.put, List.setIfInBounds_toArray, List.set_cons_succ, List.set_cons_zero]
  refine WG.put rfl (v := .agg (ndL ⟨4, ((out.length + x.sz - 1 : Nat) : Int), ((out.length + x.sz + y.sz - 1 : Nat) : Int), 0, noName, 0⟩).toArray) (fun w => by first | rfl | (go_simp; done) | (simp [go_sem, ndL, noName]; done)) ?_
  simp only [Act.put, List.setIfInBounds_toArray, List.set_cons_succ, List.set_cons_zero]
  refine WG.nil ?_
  intro W8 B8
  have HW8 : Hid (PutW W8 B bc bo ba bp (some ⟨b, o, none⟩) cap ns (out ++ x.nodes out.length ++ y.nodes (out.length + x.sz)) v6) := HW6.out.below B8
  have S8 : Hid (Step (some bo) v.ownBlock v6.ownBlock W W8) := S7.out.comp (Step.of_below B8)
  have HLN : Hid ((out ++ x.nodes out.length ++ y.nodes (out.length + x.sz)).length = out.length + x.sz + y.sz) := (by show _ = _; simp [hxn, hyn]; omega)
  clear B8 HW6 S7 M6 c60 a6
  go_wp2_with (first
    | (go_at_call 38; refine (add_any (by rw [HLN.out]; omega) ⟨4, ((out.length + x.sz - 1 : Nat) : Int), ((out.length + x.sz + y.sz - 1 : Nat) : Int), 0, noName, 0⟩ HW8.out).mono ?_; rintro e W9 ⟨rfl, v9, P9, S9⟩; rw [HLN.out]))
  all_goals go_ret
  all_goals (refine ⟨ret_int ?_, v9, P9.own2 ?_, S8.out.comp S9⟩)
  · omega
  · simp [Tr.nodes]

set_option maxRecDepth 100000 in
set_option maxHeartbeats 2000000 in
theorem put_and1 {B bc bo ba bp : Nat} {ad : Option Addr} {cap : Nat} {ns : List Nd} (hn : ns.length ≤ 1024) {i : Nat} {p q : Nat} {x y : Tr} (hi : ns[i]? = some ⟨4, (p : Int), (q : Int), 0, noName, 0⟩) (hP : PutA B bc bo ba bp ad cap ns p true x) (hQ : PutA B bc bo ba bp ad cap ns q true y) : PutA B bc bo ba bp ad cap ns i true (.or x y) := by
  intro W out v hW hsz
  have hlt := (List.getElem?_eq_some_iff.1 hi).1
  have hli : (i : Int) < ns.length := by omega
  obtain ⟨b, o, rfl, hb, hrg⟩ := hW.ns i _ hi
  have c0 : W.cell? ⟨bc, 0, none⟩ = some (.slice (some ⟨b, o, none⟩) ns.length cap) := hW.c.cell 0
  have HW : Hid (PutW W B bc bo ba bp (some ⟨b, o, none⟩) cap ns out v) := hW
  have hB := hW.hB
  have hWbc := hW.c.lt
  have hWba := hW.a.lt
  have hWbp := hW.p.lt
  have hWbo := hW.o.lt
  simp only [Tr.sz] at hsz ⊢
  have hx := x.pos
  have hy := y.pos
  have hxn := x.nodes_len out.length
  have hyn := y.nodes_len (out.length + x.sz)
  clear hi
  clear hW hlt
  go_enter Try.func39, Try.ntmps39
  go_wp2_with (first
    | (refine wpList_load_mid rfl 52 _ rfl b _ rfl (ndL ⟨4, (p : Int), (q : Int), 0, noName, 0⟩) _ hrg Try.underlying52 rfl infoNd ?_)
    | (refine wpList_allocS rfl 52 rfl (ndL noNd) Try.zeroValue52 ?_; intro W2 b8 F2 M2; have B2 := F2.trans (Below.refl _ W) (Nat.le_refl _); have HW2 : Hid (PutW W2 B bc bo ba bp (some ⟨b, o, none⟩) cap ns out v) := HW.out.below B2; have h8 : W.heap.size ≤ b8 := Nat.le_of_eq F2.at'.symm; clear F2)
    | (refine wpList_storeS rfl 52 _ _ rfl rfl (ndL ⟨4, (p : Int), (q : Int), 0, noName, 0⟩) rfl M2 (by simp [noNd, ndL]) infoNd (nd_one _) ?_; intro W3 U3 M3x; have M3 : IsS W3 b8 52 (ndL ⟨4, (p : Int), (q : Int), 0, noName, 0⟩) := M3x; have hr8 : v.ownBlock ≠ some b8 := (fun e => by have := (HW.out.own.lt b8 e).2; omega); have HW3 : Hid (PutW W3 B bc bo ba bp (some ⟨b, o, none⟩) cap ns out v) := HW2.out.upd U3 M2 (by omega) (by omega) (by omega) (by omega) (by omega) hr8; have S3 : Hid (Step (some bo) v.ownBlock v.ownBlock W W3) := Step.of_below (U3.trans B2 (by omega)); have hb8 : some b8 ≠ some bo := (fun e => by cases e; omega); have c30 : W3.cell? ⟨b8, 0, none⟩ = some (.int .i64 4) := M3.cell 0; have c31 : W3.cell? ⟨b8, 1, none⟩ = some (.int .i64 (p : Int)) := M3.cell 1; have c32 : W3.cell? ⟨b8, 2, none⟩ = some (.int .i64 (q : Int)) := M3.cell 2; have p3 : W3.cell? ⟨bp, 0, none⟩ = some (.func (.func 39) #[] #[.pointer (some ⟨bc, 0, none⟩), .pointer (some ⟨bp, 0, none⟩), .pointer (some ⟨ba, 0, none⟩)]) := HW3.out.p.cell 0; have a3 : W3.cell? ⟨ba, 0, none⟩ = some (.func (.func 38) #[] #[.pointer (some ⟨bo, 0, none⟩)]) := HW3.out.a.cell 0; have hr8' : some b8 ≠ v.ownBlock := Ne.symm hr8; clear U3 M3x B2 M2 HW2 hr8)
    | (have tk := HW3; go_at_call 39; refine (hP W3 out v HW3.out (by omega)).mono ?_; rintro e W4 ⟨rfl, v4, P4, S4⟩; have HW4 : Hid (PutW W4 B bc bo ba bp (some ⟨b, o, none⟩) cap ns (out ++ x.nodes out.length) v4) := P4; have S5 : Hid (Step (some bo) v.ownBlock v4.ownBlock W W4) := S3.out.comp S4; have M4 := M3.step S4 hb8 hr8'; have hr4 : some b8 ≠ v4.ownBlock := S4.row_ne M3.lt hr8'; have c42 : W4.cell? ⟨b8, 2, none⟩ = some (.int .i64 (q : Int)) := M4.cell 2; have p4 : W4.cell? ⟨bp, 0, none⟩ = some (.func (.func 39) #[] #[.pointer (some ⟨bc, 0, none⟩), .pointer (some ⟨bp, 0, none⟩), .pointer (some ⟨ba, 0, none⟩)]) := P4.p.cell 0; clear P4 S4 HW3 S3 c30 c31 c32 p3 a3 M3 tk)
    | (go_at_call 39; refine (hQ W4 (out ++ x.nodes out.length) v4 HW4.out (by rw [List.length_append, hxn]; omega)).mono ?_; rintro e W6 ⟨rfl, v6, P6, S6⟩; rw [List.length_append, hxn] at P6 ⊢; have HW6 : Hid (PutW W6 B bc bo ba bp (some ⟨b, o, none⟩) cap ns (out ++ x.nodes out.length ++ y.nodes (out.length + x.sz)) v6) := P6; have S7 : Hid (Step (some bo) v.ownBlock v6.ownBlock W W6) := S5.out.comp S6; have M6 := M4.step S6 hb8 hr4; have c60 : W6.cell? ⟨b8, 0, none⟩ = some (.int .i64 4) := M6.cell 0; have a6 : W6.cell? ⟨ba, 0, none⟩ = some (.func (.func 38) #[] #[.pointer (some ⟨bo, 0, none⟩)]) := P6.a.cell 0; clear P6 S6 HW4 S5 c42 p4 M4))
  refine grow_tailW 8 (by kernel_rfl) (by kernel_rfl) ?_
  simp only [List.take_succ_cons, List.take_zero, List.drop_succ_cons, List.drop_zero]
  refine WG.cell rfl 70 _ rfl rfl a6 ldN ?_
  simp only [Act.put, List.setIfInBounds_toArray, List.set_cons_succ, List.set_cons_zero]
  refine WG.put rfl (v := .pointer (some ⟨b8, 0, none⟩)) (fun w => by first | rfl | (go_simp; done) | (simp [go_sem]; done)) ?_
  simp only [Act.put, List.setIfInBounds_toArray, List.set_cons_succ, List.set_cons_zero]
  refine WG.cell rfl 3 _ rfl rfl c60 ld3 ?_
  simp only [Act.put, List.setIfInBounds_toArray, List.set_cons_succ, List.set_cons_zero]
  refine WG.put rfl (v := .bool true) (fun w => by first | rfl | (go_simp; done) | (simp [go_sem]; done)) ?_
  simp only [Act.put, List.setIfInBounds_toArray, List.set_cons_succ, List.set_cons_zero]
  refine WG.call rfl (f := 40) (args := #[.int .i64 4, .bool true]) (v := .int .i64 5) (fun w' hB' => (turned_any 4 true (by decide) w').mono (by rintro e w'' ⟨rfl, rfl⟩; exact ⟨rfl, Below.refl _ _⟩)) (fun w => by first | rfl | (go_simp; done) | (simp [go_sem]; done)) ?_
  simp only [Act.put, List.setIfInBounds_toArray, List.set_cons_succ, List.set_cons_zero]
  refine WG.put rfl (v := .int .i64 ((out.length + x.sz - 1 : Nat) : Int)) (fun w => by first | rfl | (go_simp; done) | (simp [go_sem]; done)) ?_
  simp only [Act.put, List.setIfInBounds_toArray, List.set_cons_succ, List.set_cons_zero]
  refine WG.put rfl (v := .int .i64 ((out.length + x.sz + y.sz - 1 : Nat) : Int)) (fun w => by first | rfl | (go_simp; done) | (simp [go_sem]; done)) ?_
  simp only [Act.put, List.setIfInBounds_toArray, List.set_cons_succ, List.set_cons_zero]
  refine WG.put rfl (v := .agg (ndL ⟨5, ((out.length + x.sz - 1 : Nat) : Int), ((out.length + x.sz + y.sz - 1 : Nat) : Int), 0, noName, 0⟩).toArray) (fun w => by first | rfl | (go_simp; done) | (simp [go_sem, ndL, noName]; done)) ?_
  simp only [Act.put, List.setIfInBounds_toArray, List.set_cons_succ, List.set_cons_zero]
  refine WG.nil ?_
  intro W8 B8
  have HW8 : Hid (PutW W8 B bc bo ba bp (some ⟨b, o, none⟩) cap ns (out ++ x.nodes out.length ++ y.nodes (out.length + x.sz)) v6) := HW6.out.below B8
  have S8 : Hid (Step (some bo) v.ownBlock v6.ownBlock W W8) := S7.out.comp (Step.of_below B8)
  have HLN : Hid ((out ++ x.nodes out.length ++ y.nodes (out.length + x.sz)).length = out.length + x.sz + y.sz) := (by show _ = _; simp [hxn, hyn]; omega)
  clear B8 HW6 S7 M6 c60 a6
  go_wp2_with (first
    | (go_at_call 38; refine (add_any (by rw [HLN.out]; omega) ⟨5, ((out.length + x.sz - 1 : Nat) : Int), ((out.length + x.sz + y.sz - 1 : Nat) : Int), 0, noName, 0⟩ HW8.out).mono ?_; rintro e W9 ⟨rfl, v9, P9, S9⟩; rw [HLN.out]))
  all_goals go_ret
  all_goals (refine ⟨ret_int ?_, v9, P9.own2 ?_, S8.out.comp S9⟩)
  · omega
  · simp [Tr.nodes]

set_option maxRecDepth 100000 in
set_option maxHeartbeats 2000000 in
theorem put_or0 {B bc bo ba bp : Nat} {ad : Option Addr} {cap : Nat} {ns : List Nd} (hn : ns.length ≤ 1024) {i : Nat} {p q : Nat} {x y : Tr} (hi : ns[i]? = some ⟨5, (p : Int), (q : Int), 0, noName, 0⟩) (hP : PutA B bc bo ba bp ad cap ns p false x) (hQ : PutA B bc bo ba bp ad cap ns q false y) : PutA B bc bo ba bp ad cap ns i false (.or x y) := by
  intro W out v hW hsz
  have hlt := (List.getElem?_eq_some_iff.1 hi).1
  have hli : (i : Int) < ns.length := by omega
  obtain ⟨b, o, rfl, hb, hrg⟩ := hW.ns i _ hi
  have c0 : W.cell? ⟨bc, 0, none⟩ = some (.slice (some ⟨b, o, none⟩) ns.length cap) := hW.c.cell 0
  have HW : Hid (PutW W B bc bo ba bp (some ⟨b, o, none⟩) cap ns out v) := hW
  have hB := hW.hB
  have hWbc := hW.c.lt
  have hWba := hW.a.lt
  have hWbp := hW.p.lt
  have hWbo := hW.o.lt
  simp only [Tr.sz] at hsz ⊢
  have hx := x.pos
  have hy := y.pos
  have hxn := x.nodes_len out.length
  have hyn := y.nodes_len (out.length + x.sz)
  clear hi
  clear hW hlt
  go_enter Try.func39, Try.ntmps39
  go_wp2_with (first
    | (refine wpList_load_mid rfl 52 _ rfl b _ rfl (ndL ⟨5, (p : Int), (q : Int), 0, noName, 0⟩) _ hrg Try.underlying52 rfl infoNd ?_)
    | (refine wpList_allocS rfl 52 rfl (ndL noNd) Try.zeroValue52 ?_; intro W2 b8 F2 M2; have B2 := F2.trans (Below.refl _ W) (Nat.le_refl _); have HW2 : Hid (PutW W2 B bc bo ba bp (some ⟨b, o, none⟩) cap ns out v) := HW.out.below B2; have h8 : W.heap.size ≤ b8 := Nat.le_of_eq F2.at'.symm; clear F2)
    | (refine wpList_storeS rfl 52 _ _ rfl rfl (ndL ⟨5, (p : Int), (q : Int), 0, noName, 0⟩) rfl M2 (by simp [noNd, ndL]) infoNd (nd_one _) ?_; intro W3 U3 M3x; have M3 : IsS W3 b8 52 (ndL ⟨5, (p : Int), (q : Int), 0, noName, 0⟩) := M3x; have hr8 : v.ownBlock ≠ some b8 := (fun e => by have := (HW.out.own.lt b8 e).2; omega); have HW3 : Hid (PutW W3 B bc bo ba bp (some ⟨b, o, none⟩) cap ns out v) := HW2.out.upd U3 M2 (by omega) (by omega) (by omega) (by omega) (by omega) hr8; have S3 : Hid (Step (some bo) v.ownBlock v.ownBlock W W3) := Step.of_below (U3.trans B2 (by omega)); have hb8 : some b8 ≠ some bo := (fun e => by cases e; omega); have c30 : W3.cell? ⟨b8, 0, none⟩ = some (.int .i64 5) := M3.cell 0; have c31 : W3.cell? ⟨b8, 1, none⟩ = some (.int .i64 (p : Int)) := M3.cell 1; have c32 : W3.cell? ⟨b8, 2, none⟩ = some (.int .i64 (q : Int)) := M3.cell 2; have p3 : W3.cell? ⟨bp, 0, none⟩ = some (.func (.func 39) #[] #[.pointer (some ⟨bc, 0, none⟩), .pointer (some ⟨bp, 0, none⟩), .pointer (some ⟨ba, 0, none⟩)]) := HW3.out.p.cell 0; have a3 : W3.cell? ⟨ba, 0, none⟩ = some (.func (.func 38) #[] #[.pointer (some ⟨bo, 0, none⟩)]) := HW3.out.a.cell 0; have hr8' : some b8 ≠ v.ownBlock := Ne.symm hr8; clear U3 M3x B2 M2 HW2 hr8)
    | (have tk := HW3; go_at_call 39; refine (hP W3 out v HW3.out (by omega)).mono ?_; rintro e W4 ⟨rfl, v4, P4, S4⟩; have HW4 : Hid (PutW W4 B bc bo ba bp (some ⟨b, o, none⟩) cap ns (out ++ x.nodes out.length) v4) := P4; have S5 : Hid (Step (some bo) v.ownBlock v4.ownBlock W W4) := S3.out.comp S4; have M4 := M3.step S4 hb8 hr8'; have hr4 : some b8 ≠ v4.ownBlock := S4.row_ne M3.lt hr8'; have c42 : W4.cell? ⟨b8, 2, none⟩ = some (.int .i64 (q : Int)) := M4.cell 2; have p4 : W4.cell? ⟨bp, 0, none⟩ = some (.func (.func 39) #[] #[.pointer (some ⟨bc, 0, none⟩), .pointer (some ⟨bp, 0, none⟩), .pointer (some ⟨ba, 0, none⟩)]) := P4.p.cell 0; clear P4 S4 HW3 S3 c30 c31 c32 p3 a3 M3 tk)
    | (go_at_call 39; refine (hQ W4 (out ++ x.nodes out.length) v4 HW4.out (by rw [List.length_append, hxn]; omega)).mono ?_; rintro e W6 ⟨rfl, v6, P6, S6⟩; rw [List.length_append, hxn] at P6 ⊢; have HW6 : Hid (PutW W6 B bc bo ba bp (some ⟨b, o, none⟩) cap ns (out ++ x.nodes out.length ++ y.nodes (out.length + x.sz)) v6) := P6; have S7 : Hid (Step (some bo) v.ownBlock v6.ownBlock W W6) := S5.out.comp S6; have M6 := M4.step S6 hb8 hr4; have c60 : W6.cell? ⟨b8, 0, none⟩ = some (.int .i64 5) := M6.cell 0; have a6 : W6.cell? ⟨ba, 0, none⟩ = some (.func (.func 38) #[] #[.pointer (some ⟨bo, 0, none⟩)]) := P6.a.cell 0; clear P6 S6 HW4 S5 c42 p4 M4))
  refine grow_tailW 8 (by kernel_rfl) (by kernel_rfl) ?_
  simp only [List.take_succ_cons, List.take_zero, List.drop_succ_cons, List.drop_zero]
  refine WG.cell rfl 70 _ rfl rfl a6 ldN ?_
  simp only [Act.put, List.setIfInBounds_toArray, List.set_cons_succ, List.set_cons_zero]
  refine WG.put rfl (v := .pointer (some ⟨b8, 0, none⟩)) (fun w => by first | rfl | (go_simp; done) | (simp [go_sem]; done)) ?_
  simp only [Act.put, List.setIfInBounds_toArray, List.set_cons_succ, List.set_cons_zero]
  refine WG.cell rfl 3 _ rfl rfl c60 ld3 ?_
  simp only [Act.put, List.setIfInBounds_toArray, List.set_cons_succ, List.set_cons_zero]
  refine WG.put rfl (v := .bool false) (fun w => by first | rfl | (go_simp; done) | (simp [go_sem]; done)) ?_
  simp only [Act.put, List.setIfInBounds_toArray, List.set_cons_succ, List.set_cons_zero]
  refine WG.call rfl (f := 40) (args := #[.int .i64 5, .bool false]) (v := .int .i64 5) (fun w' hB' => (turned_any 5 false (by decide) w').mono (by rintro e w'' ⟨rfl, rfl⟩; exact ⟨rfl, Below.refl _ _⟩)) (fun w => by first | rfl | (go_simp; done) | (simp [go_sem]; done)) ?_
  simp only [Act.put, List.setIfInBounds_toArray, List.set_cons_succ, List.set_cons_zero]
  refine WG.put rfl (v := .int .i64 ((out.length + x.sz - 1 : Nat) : Int)) (fun w => by first | rfl | (go_simp; done) | (simp [go_sem]; done)) ?_
  simp only [Act.put, List.setIfInBounds_toArray, List.set_cons_succ, List.set_cons_zero]
  refine WG.put rfl (v := .int .i64 ((out.length + x.sz + y.sz - 1 : Nat) : Int)) (fun w => by first | rfl | (go_simp; done) | (simp [go_sem]; done)) ?_
  simp only [Act.put, List.setIfInBounds_toArray, List.set_cons_succ, List.set_cons_zero]
  refine WG.put rfl (v := .agg (ndL ⟨5, ((out.length + x.sz - 1 : Nat) : Int), ((out.length + x.sz + y.sz - 1 : Nat) : Int), 0, noName, 0⟩).toArray) (fun w => by first | rfl | (go_simp; done) | (simp [go_sem, ndL, noName]; done)) ?_
  simp only [Act.put, List.setIfInBounds_toArray, List.set_cons_succ, List.set_cons_zero]
  refine WG.nil ?_
  intro W8 B8
  have HW8 : Hid (PutW W8 B bc bo ba bp (some ⟨b, o, none⟩) cap ns (out ++ x.nodes out.length ++ y.nodes (out.length + x.sz)) v6) := HW6.out.below B8
  have S8 : Hid (Step (some bo) v.ownBlock v6.ownBlock W W8) := S7.out.comp (Step.of_below B8)
  have HLN : Hid ((out ++ x.nodes out.length ++ y.nodes (out.length + x.sz)).length = out.length + x.sz + y.sz) := (by show _ = _; simp [hxn, hyn]; omega)
  clear B8 HW6 S7 M6 c60 a6
  go_wp2_with (first
    | (go_at_call 38; refine (add_any (by rw [HLN.out]; omega) ⟨5, ((out.length + x.sz - 1 : Nat) : Int), ((out.length + x.sz + y.sz - 1 : Nat) : Int), 0, noName, 0⟩ HW8.out).mono ?_; rintro e W9 ⟨rfl, v9, P9, S9⟩; rw [HLN.out]))
  all_goals go_ret
  all_goals (refine ⟨ret_int ?_, v9, P9.own2 ?_, S8.out.comp S9⟩)
  · omega
  · simp [Tr.nodes]

set_option maxRecDepth 100000 in
set_option maxHeartbeats 2000000 in
theorem put_or1 {B bc bo ba bp : Nat} {ad : Option Addr} {cap : Nat} {ns : List Nd} (hn : ns.length ≤ 1024) {i : Nat} {p q : Nat} {x y : Tr} (hi : ns[i]? = some ⟨5, (p : Int), (q : Int), 0, noName, 0⟩) (hP : PutA B bc bo ba bp ad cap ns p true x) (hQ : PutA B bc bo ba bp ad cap ns q true y) : PutA B bc bo ba bp ad cap ns i true (.and x y) := by
  intro W out v hW hsz
  have hlt := (List.getElem?_eq_some_iff.1 hi).1
  have hli : (i : Int) < ns.length := by omega
  obtain ⟨b, o, rfl, hb, hrg⟩ := hW.ns i _ hi
  have c0 : W.cell? ⟨bc, 0, none⟩ = some (.slice (some ⟨b, o, none⟩) ns.length cap) := hW.c.cell 0
  have HW : Hid (PutW W B bc bo ba bp (some ⟨b, o, none⟩) cap ns out v) := hW
  have hB := hW.hB
  have hWbc := hW.c.lt
  have hWba := hW.a.lt
  have hWbp := hW.p.lt
  have hWbo := hW.o.lt
  simp only [Tr.sz] at hsz ⊢
  have hx := x.pos
  have hy := y.pos
  have hxn := x.nodes_len out.length
  have hyn := y.nodes_len (out.length + x.sz)
  clear hi
  clear hW hlt
  go_enter Try.func39, Try.ntmps39
  go_wp2_with (first
    | (refine wpList_load_mid rfl 52 _ rfl b _ rfl (ndL ⟨5, (p : Int), (q : Int), 0, noName, 0⟩) _ hrg Try.underlying52 rfl infoNd ?_)
    | (refine wpList_allocS rfl 52 rfl (ndL noNd) Try.zeroValue52 ?_; intro W2 b8 F2 M2; have B2 := F2.trans (Below.refl _ W) (Nat.le_refl _); have HW2 : Hid (PutW W2 B bc bo ba bp (some ⟨b, o, none⟩) cap ns out v) := HW.out.below B2; have h8 : W.heap.size ≤ b8 := Nat.le_of_eq F2.at'.symm; clear F2)
    | (refine wpList_storeS rfl 52 _ _ rfl rfl (ndL ⟨5, (p : Int), (q : Int), 0, noName, 0⟩) rfl M2 (by simp [noNd, ndL]) infoNd (nd_one _) ?_; intro W3 U3 M3x; have M3 : IsS W3 b8 52 (ndL ⟨5, (p : Int), (q : Int), 0, noName, 0⟩) := M3x; have hr8 : v.ownBlock ≠ some b8 := (fun e => by have := (HW.out.own.lt b8 e).2; omega); have HW3 : Hid (PutW W3 B bc bo ba bp (some ⟨b, o, none⟩) cap ns out v) := HW2.out.upd U3 M2 (by omega) (by omega) (by omega) (by omega) (by omega) hr8; have S3 : Hid (Step (some bo) v.ownBlock v.ownBlock W W3) := Step.of_below (U3.trans B2 (by omega)); have hb8 : some b8 ≠ some bo := (fun e => by cases e; omega); have c30 : W3.cell? ⟨b8, 0, none⟩ = some (.int .i64 5) := M3.cell 0; have c31 : W3.cell? ⟨b8, 1, none⟩ = some (.int .i64 (p : Int)) := M3.cell 1; have c32 : W3.cell? ⟨b8, 2, none⟩ = some (.int .i64 (q : Int)) := M3.cell 2; have p3 : W3.cell? ⟨bp, 0, none⟩ = some (.func (.func 39) #[] #[.pointer (some ⟨bc, 0, none⟩), .pointer (some ⟨bp, 0, none⟩), .pointer (some ⟨ba, 0, none⟩)]) := HW3.out.p.cell 0; have a3 : W3.cell? ⟨ba, 0, none⟩ = some (.func (.func 38) #[] #[.pointer (some ⟨bo, 0, none⟩)]) := HW3.out.a.cell 0; have hr8' : some b8 ≠ v.ownBlock := Ne.symm hr8; clear U3 M3x B2 M2 HW2 hr8)
    | (have tk := HW3; go_at_call 39; refine (hP W3 out v HW3.out (by omega)).mono ?_; rintro e W4 ⟨rfl, v4, P4, S4⟩; have HW4 : Hid (PutW W4 B bc bo ba bp (some ⟨b, o, none⟩) cap ns (out ++ x.nodes out.length) v4) := P4; have S5 : Hid (Step (some bo) v.ownBlock v4.ownBlock W W4) := S3.out.comp S4; have M4 := M3.step S4 hb8 hr8'; have hr4 : some b8 ≠ v4.ownBlock := S4.row_ne M3.lt hr8'; have c42 : W4.cell? ⟨b8, 2, none⟩ = some (.int .i64 (q : Int)) := M4.cell 2; have p4 : W4.cell? ⟨bp, 0, none⟩ = some (.func (.func 39) #[] #[.pointer (some ⟨bc, 0, none⟩), .pointer (some ⟨bp, 0, none⟩), .pointer (some ⟨ba, 0, none⟩)]) := P4.p.cell 0; clear P4 S4 HW3 S3 c30 c31 c32 p3 a3 M3 tk)
    | (go_at_call 39; refine (hQ W4 (out ++ x.nodes out.length) v4 HW4.out (by rw [List.length_append, hxn]; omega)).mono ?_; rintro e W6 ⟨rfl, v6, P6, S6⟩; rw [List.length_append, hxn] at P6 ⊢; have HW6 : Hid (PutW W6 B bc bo ba bp (some ⟨b, o, none⟩) cap ns (out ++ x.nodes out.length ++ y.nodes (out.length + x.sz)) v6) := P6; have S7 : Hid (Step (some bo) v.ownBlock v6.ownBlock W W6) := S5.out.comp S6; have M6 := M4.step S6 hb8 hr4; have c60 : W6.cell? ⟨b8, 0, none⟩ = some (.int .i64 5) := M6.cell 0; have a6 : W6.cell? ⟨ba, 0, none⟩ = some (.func (.func 38) #[] #[.pointer (some ⟨bo, 0, none⟩)]) := P6.a.cell 0; clear P6 S6 HW4 S5 c42 p4 M4))
  refine grow_tailW 8 (by kernel_rfl) (by kernel_rfl) ?_
  simp only [List.take_succ_cons, List.take_zero, List.drop_succ_cons, List.drop_zero]
  refine WG.cell rfl 70 _ rfl rfl a6 ldN ?_
  simp only [Act.put, List.setIfInBounds_toArray, List.set_cons_succ, List.set_cons_zero]
  refine WG.put rfl (v := .pointer (some ⟨b8, 0, none⟩)) (fun w => by first | rfl | (go_simp; done) | (simp [go_sem]; done)) ?_
  simp only [Act.put, List.setIfInBounds_toArray, List.set_cons_succ, List.set_cons_zero]
  refine WG.cell rfl 3 _ rfl rfl c60 ld3 ?_
  simp only [Act.put, List.setIfInBounds_toArray, List.set_cons_succ, List.set_cons_zero]
  refine WG.put rfl (v := .bool true) (fun w => by first | rfl | (go_simp; done) | (simp [go_sem]; done)) ?_
  simp only [Act.put, List.setIfInBounds_toArray, List.set_cons_succ, List.set_cons_zero]
  refine WG.call rfl (f := 40) (args := #[.int .i64 5, .bool true]) (v := .int .i64 4) (fun w' hB' => (turned_any 5 true (by decide) w').mono (by rintro e w'' ⟨rfl, rfl⟩; exact ⟨rfl, Below.refl _ _⟩)) (fun w => by first | rfl | (go_simp; done) | (simp [go_sem]; done)) ?_
  simp only [Act.put, List.setIfInBounds_toArray, List.set_cons_succ, List.set_cons_zero]
  refine WG.put rfl (v := .int .i64 ((out.length + x.sz - 1 : Nat) : Int)) (fun w => by first | rfl | (go_simp; done) | (simp [go_sem]; done)) ?_
  simp only [Act.put, List.setIfInBounds_toArray, List.set_cons_succ, List.set_cons_zero]
  refine WG.put rfl (v := .int .i64 ((out.length + x.sz + y.sz - 1 : Nat) : Int)) (fun w => by first | rfl | (go_simp; done) | (simp [go_sem]; done)) ?_
  simp only [Act.put, List.setIfInBounds_toArray, List.set_cons_succ, List.set_cons_zero]
  refine WG.put rfl (v := .agg (ndL ⟨4, ((out.length + x.sz - 1 : Nat) : Int), ((out.length + x.sz + y.sz - 1 : Nat) : Int), 0, noName, 0⟩).toArray) (fun w => by first | rfl | (go_simp; done) | (simp [go_sem, ndL, noName]; done)) ?_
  simp only [Act.put, List.setIfInBounds_toArray, List.set_cons_succ, List.set_cons_zero]
  refine WG.nil ?_
  intro W8 B8
  have HW8 : Hid (PutW W8 B bc bo ba bp (some ⟨b, o, none⟩) cap ns (out ++ x.nodes out.length ++ y.nodes (out.length + x.sz)) v6) := HW6.out.below B8
  have S8 : Hid (Step (some bo) v.ownBlock v6.ownBlock W W8) := S7.out.comp (Step.of_below B8)
  have HLN : Hid ((out ++ x.nodes out.length ++ y.nodes (out.length + x.sz)).length = out.length + x.sz + y.sz) := (by show _ = _; simp [hxn, hyn]; omega)
  clear B8 HW6 S7 M6 c60 a6
  go_wp2_with (first
    | (go_at_call 38; refine (add_any (by rw [HLN.out]; omega) ⟨4, ((out.length + x.sz - 1 : Nat) : Int), ((out.length + x.sz + y.sz - 1 : Nat) : Int), 0, noName, 0⟩ HW8.out).mono ?_; rintro e W9 ⟨rfl, v9, P9, S9⟩; rw [HLN.out]))
  all_goals go_ret
  all_goals (refine ⟨ret_int ?_, v9, P9.own2 ?_, S8.out.comp S9⟩)
  · omega
  · simp [Tr.nodes]

theorem put_tree {B bc bo ba bp : Nat} {ad : Option Addr} {cap : Nat} {ns : List Nd} (hn : ns.length ≤ 1024) : ∀ (t : Tr) (lo : Nat) (n : Bool), At nmB ns t lo → PutA B bc bo ba bp ad cap ns (t.root lo) n (plT n t)
  | .tru, lo, false, h => put_leaf (i := lo) (t := .tru) hn h (by decide) (by decide) (by decide) (fun _ => rfl)
  | .tru, lo, true, h => put_leafn (i := lo) (t := .tru) hn h (by decide) (by decide) (by decide) (fun _ => rfl)
  | .is th nm v, lo, false, h => put_leaf (i := lo) (t := .is th nm v) hn h.1 (by decide) (by decide) (by decide) (fun _ => rfl)
  | .is th nm v, lo, true, h => put_leafn (i := lo) (t := .is th nm v) hn h.1 (by decide) (by decide) (by decide) (fun _ => rfl)
  | .not t, lo, n, h => by
    have := put_not (n := n) hn h.2 (put_tree (B := B) (bc := bc) (bo := bo) (ba := ba) (bp := bp) (ad := ad) (cap := cap) hn t lo (!n) h.1)
    have e : plT n (.not t) = plT (!n) t := by cases n <;> rfl
    rw [e]
    exact this
  | .and x y, lo, false, h => by
    have := put_and0 hn h.2.2 (put_tree (B := B) (bc := bc) (bo := bo) (ba := ba) (bp := bp) (ad := ad) (cap := cap) hn x lo false h.1) (put_tree hn y (lo + x.sz) false h.2.1)
    rw [show (Tr.and x y).root lo = lo + x.sz + y.sz by simp only [Tr.root, Tr.sz]; omega]
    exact this
  | .and x y, lo, true, h => by
    have := put_and1 hn h.2.2 (put_tree (B := B) (bc := bc) (bo := bo) (ba := ba) (bp := bp) (ad := ad) (cap := cap) hn x lo true h.1) (put_tree hn y (lo + x.sz) true h.2.1)
    rw [show (Tr.and x y).root lo = lo + x.sz + y.sz by simp only [Tr.root, Tr.sz]; omega]
    exact this
  | .or x y, lo, false, h => by
    have := put_or0 hn h.2.2 (put_tree (B := B) (bc := bc) (bo := bo) (ba := ba) (bp := bp) (ad := ad) (cap := cap) hn x lo false h.1) (put_tree hn y (lo + x.sz) false h.2.1)
    rw [show (Tr.or x y).root lo = lo + x.sz + y.sz by simp only [Tr.root, Tr.sz]; omega]
    exact this
  | .or x y, lo, true, h => by
    have := put_or1 hn h.2.2 (put_tree (B := B) (bc := bc) (bo := bo) (ba := ba) (bp := bp) (ad := ad) (cap := cap) hn x lo true h.1) (put_tree hn y (lo + x.sz) true h.2.1)
    rw [show (Tr.or x y).root lo = lo + x.sz + y.sz by simp only [Tr.root, Tr.sz]; omega]
    exact this
end Go.Proofs.Ytjnbhcakfenbhaa
