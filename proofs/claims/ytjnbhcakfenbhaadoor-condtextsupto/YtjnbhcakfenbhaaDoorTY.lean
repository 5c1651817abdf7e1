/- Text's closures: a tree's text is written behind what is there. -/
import Derived.Test.YtjnbhcakfenbhaaDoorTX
namespace Go.Proofs.YtjnbhcakfenbhaaDoor
open Go.RowKit Go.Shelf M
set_option linter.unusedSimpArgs false
set_option linter.unusedVariables false

/-- Blocks of two types are two. -/
theorem IsS.ne {W : World} {b b' t t' : Nat} {cs cs' : List Value} (h : IsS W b t cs) (h' : IsS W b' t' cs') (ht : t ≠ t') : b ≠ b' := fun e => by
  subst e
  unfold IsS at h h'
  rw [h] at h'
  cases h'
  exact ht rfl
theorem Step.row_ne2 {bo r0 r1 : Option Nat} {W W' : World} {b : Nat} (S : Step bo r0 r1 W W') (h : b < W.heap.size) (h2 : some b ≠ r0) : some b ≠ r1 := by
  rcases S.row with e | ⟨g, e, hg⟩
  · rw [e]; exact h2
  · rw [e]; intro e'; cases e'; omega
theorem grow_tailW {id : Nat} {Q : Exit → Act → World → Prop} {a : Act} {W : World} {l : List Oper} (n : Nat) (hm : Tryd.prog.follows .mixedOrders = true) (hB : Region.lexTailB .any l.toArray n = true)
    (h : WG l.toArray W (fun a' => ∀ w', Below W.heap.size W w' → wpList Tryd.prog l.toArray Q (l.drop n) a' w') (l.take n) a) : (Code.region id l.toArray true).wp Tryd.prog Q a W := grow_tail n hm hB h.out
/-- What Text's closures capture, and the builder. -/
structure TxW (W : World) (B bc bo bq bt : Nat) (ad : Option Addr) (cap : Nat) (ns : List Nd) (l : List UInt8) (v : Value) : Prop where
  c : IsS W bc 23 [.slice ad ns.length cap]
  q : IsS W bq 57 [.func (.func 20) #[] #[.pointer (some ⟨bc, 0, none⟩), .pointer (some ⟨bo, 0, none⟩), .pointer (some ⟨bt, 0, none⟩)]]
  t : IsS W bt 60 [.func (.func 17) #[] #[.pointer (some ⟨bc, 0, none⟩), .pointer (some ⟨bq, 0, none⟩), .pointer (some ⟨bo, 0, none⟩)]]
  b : BW W B bo l v
  ns : ∀ W', Below B W W' → Nds W' ad ns
  tab : ∀ W', Below B W W' → Tab10 W'
  hB : B ≤ W.heap.size
section
variable {W W' : World} {B bc bo bq bt : Nat} {ad : Option Addr} {cap : Nat} {ns : List Nd} {l l' : List UInt8} {v v' : Value}
theorem TxW.ne_bo (h : TxW W B bc bo bq bt ad cap ns l v) : bc ≠ bo ∧ bq ≠ bo ∧ bt ≠ bo := by
  obtain ⟨p, _, h2⟩ := h.b.blk
  exact ⟨h.c.ne h2 (by decide), h.q.ne h2 (by decide), h.t.ne h2 (by decide)⟩
theorem TxW.row (h : TxW W B bc bo bq bt ad cap ns l v) {b t : Nat} {cs : List Value} (hM : IsS W b t cs) (ht : t ≠ 5) : some b ≠ v.ownBlock := fun e => own_ne h.b.own hM ht e.symm
theorem TxW.below (h : TxW W B bc bo bq bt ad cap ns l v) (hb : Below W.heap.size W W') : TxW W' B bc bo bq bt ad cap ns l v :=
  ⟨h.c.grown hb, h.q.grown hb, h.t.grown hb, h.b.below hb, fun X hX => h.ns X ((hb.mono h.hB).trans hX), fun X hX => h.tab X ((hb.mono h.hB).trans hX), Nat.le_trans h.hB hb.size⟩
theorem TxW.upd (h : TxW W B bc bo bq bt ad cap ns l v) {b : Nat} (U : Upd W W' b) (hb : B ≤ b) (h1 : b ≠ bc) (h2 : b ≠ bq) (h3 : b ≠ bt) (h4 : b ≠ bo) (h5 : v.ownBlock ≠ some b) : TxW W' B bc bo bq bt ad cap ns l v :=
  have hB : Below B W W' := U.trans (Below.refl _ _) hb
  ⟨h.c.upd U (Ne.symm h1), h.q.upd U (Ne.symm h2), h.t.upd U (Ne.symm h3), h.b.upd U (Ne.symm h4) h5, fun X hX => h.ns X (hB.trans hX), fun X hX => h.tab X (hB.trans hX), by rw [U.size]; exact h.hB⟩
theorem TxW.step (h : TxW W B bc bo bq bt ad cap ns l v) (S : Step (some bo) v.ownBlock v'.ownBlock W W') (hb : BW W' B bo l' v') : TxW W' B bc bo bq bt ad cap ns l' v' := by
  obtain ⟨n1, n2, n3⟩ := h.ne_bo
  have hB : Below B W W' := S.below (by intro b e; cases e; exact h.b.hB) (fun b e => (h.b.own.lt b e).1) h.hB
  exact ⟨h.c.step S (fun e => by cases e; exact n1 rfl) (h.row h.c (by decide)), h.q.step S (fun e => by cases e; exact n2 rfl) (h.row h.q (by decide)), h.t.step S (fun e => by cases e; exact n3 rfl) (h.row h.t (by decide)), hb, fun X hX => h.ns X (hB.trans hX), fun X hX => h.tab X (hB.trans hX), Nat.le_trans h.hB S.size⟩
theorem TxW.own2 (h : TxW W B bc bo bq bt ad cap ns l v) (e : l = l') : TxW W B bc bo bq bt ad cap ns l' v := e ▸ h
end
/-- What put writes at a node. -/
def TxA (B bc bo bq bt : Nat) (ad : Option Addr) (cap : Nat) (ns : List Nd) (i : Nat) (tx : List UInt8) (m : Nat) : Prop :=
  tx.length ≤ m ∧ ∀ W l v, TxW W B bc bo bq bt ad cap ns l v → l.length + m ≤ 1000000 →
    Calls Tryd.prog 20 #[.int .i64 (i : Int), .pointer (some ⟨bc, 0, none⟩), .pointer (some ⟨bo, 0, none⟩), .pointer (some ⟨bt, 0, none⟩)] W fun e w' =>
      e = .returned (.tuple #[]) ∧ ∃ v', TxW w' B bc bo bq bt ad cap ns (l ++ tx) v' ∧ Step (some bo) v.ownBlock v'.ownBlock W w'

set_option maxRecDepth 100000 in
set_option maxHeartbeats 1000000 in
theorem tpart_any {B bc bo bq bt : Nat} {ad : Option Addr} {cap : Nat} {ns : List Nd} (hn : ns.length ≤ 1024) {p q : Nat} {x y : Nd} {tx : List UInt8} {m : Nat} (hx : ns[p]? = some x) (hy : ns[q]? = some y) (hA : TxA B bc bo bq bt ad cap ns p tx m) (W : World) (l : List UInt8) (v : Value) (hW : TxW W B bc bo bq bt ad cap ns l v) (hsz : l.length + m + 2 ≤ 1000000) :
    Calls Tryd.prog 17 #[.int .i64 (p : Int), .int .i64 (q : Int), .pointer (some ⟨bc, 0, none⟩), .pointer (some ⟨bq, 0, none⟩), .pointer (some ⟨bo, 0, none⟩)] W fun e w' =>
      e = .returned (.tuple #[]) ∧ ∃ v', TxW w' B bc bo bq bt ad cap ns (l ++ wrapB (brkN p x y) tx) v' ∧ Step (some bo) v.ownBlock v'.ownBlock W w' := by
  have cb := fun w h => bracketed_any ad cap ns hn p q x y hx hy w h
  have c0 : W.cell? ⟨bc, 0, none⟩ = some (.slice ad ns.length cap) := hW.c.cell 0
  have HW : Hid (TxW W B bc bo bq bt ad cap ns l v) := hW
  clear hx hy hW
  cases hbk : brkN p x y with
  | false =>
    rw [hbk] at cb
    go_enter Tryd.func17, Tryd.ntmps17
    go_wp2_with (first
      | (go_at_call 18; refine (cb _ (HW.out.ns W (Below.refl _ _))).mono ?_; rintro e W1 ⟨rfl, B1⟩; have HW1 : Hid (TxW W1 B bc bo bq bt ad cap ns l v) := HW.out.below B1; have q1 : W1.cell? ⟨bq, 0, none⟩ = some (.func (.func 20) #[] #[.pointer (some ⟨bc, 0, none⟩), .pointer (some ⟨bo, 0, none⟩), .pointer (some ⟨bt, 0, none⟩)]) := HW1.out.q.cell 0; clear cb c0)
      | (go_at_call 20; refine (hA.2 W1 l v HW1.out (by omega)).mono ?_; rintro e W2 ⟨rfl, v2, P2, S2⟩))
    exact ⟨rfl, .tuple #[], (by simp [results, Tryd.results17, go_sem]), rfl, v2, P2, (Step.of_below B1).comp S2⟩
  | true =>
    rw [hbk] at cb
    go_enter Tryd.func17, Tryd.ntmps17
    go_wp2_with (first
      | (go_at_call 18; refine (cb _ (HW.out.ns W (Below.refl _ _))).mono ?_; rintro e W1 ⟨rfl, B1⟩; have HW1 : Hid (TxW W1 B bc bo bq bt ad cap ns l v) := HW.out.below B1; have S1 : Hid (Step (some bo) v.ownBlock v.ownBlock W W1) := Step.of_below B1; clear cb c0 B1)
      | (go_at_call 19; refine (writeByte_own 41 HW3.out.b (by have := hA.1; simp; omega) HW3.out.hB).mono ?_; rintro e W4 ⟨rfl, v4, P4, S4x⟩; have HW4 : Hid (TxW W4 B bc bo bq bt ad cap ns (l ++ [40] ++ tx ++ [41]) v4) := HW3.out.step S4x P4; have S4 : Hid (Step (some bo) v.ownBlock v4.ownBlock W W4) := S3.out.comp S4x; clear P4 S4x)
      | (go_at_call 20; refine (hA.2 W2 (l ++ [40]) v2 HW2.out (by simp; omega)).mono ?_; rintro e W3 ⟨rfl, v3, P3, S3x⟩; have HW3 : Hid (TxW W3 B bc bo bq bt ad cap ns (l ++ [40] ++ tx) v3) := P3; have S3 : Hid (Step (some bo) v.ownBlock v3.ownBlock W W3) := S2.out.comp S3x; clear P3 S3x q2)
      | (go_at_call 19; refine (writeByte_own 40 HW1.out.b (by omega) HW1.out.hB).mono ?_; rintro e W2 ⟨rfl, v2, P2, S2x⟩; have HW2 : Hid (TxW W2 B bc bo bq bt ad cap ns (l ++ [40]) v2) := HW1.out.step S2x P2; have S2 : Hid (Step (some bo) v.ownBlock v2.ownBlock W W2) := S1.out.comp S2x; have q2 : W2.cell? ⟨bq, 0, none⟩ = some (.func (.func 20) #[] #[.pointer (some ⟨bc, 0, none⟩), .pointer (some ⟨bo, 0, none⟩), .pointer (some ⟨bt, 0, none⟩)]) := HW2.out.q.cell 0; clear P2 S2x))
    exact ⟨rfl, .tuple #[], (by simp [results, Tryd.results17, go_sem]), rfl, v4, HW4.out.own2 (by simp [wrapB]), S4.out⟩

set_option maxRecDepth 100000 in
set_option maxHeartbeats 2000000 in
theorem tput_tru {B bc bo bq bt : Nat} {ad : Option Addr} {cap : Nat} {ns : List Nd} (hn : ns.length ≤ 1024) {i : Nat} (hi : ns[i]? = some ⟨1, 0, 0, 0, noName, 0⟩) : TxA B bc bo bq bt ad cap ns i [116, 114, 117, 101] 200 := by
  refine ⟨by simp, ?_⟩
  intro W l v hW hsz
  have hlt := (List.getElem?_eq_some_iff.1 hi).1
  have hli : (i : Int) < ns.length := by omega
  obtain ⟨b, o, rfl, hb, hrg⟩ := hW.ns W (Below.refl _ _) i _ hi
  have c0 : W.cell? ⟨bc, 0, none⟩ = some (.slice (some ⟨b, o, none⟩) ns.length cap) := hW.c.cell 0
  have HW : Hid (TxW W B bc bo bq bt (some ⟨b, o, none⟩) cap ns l v) := hW
  have hB := hW.hB
  have hWbc := hW.c.lt
  have hWbq := hW.q.lt
  have hWbt := hW.t.lt
  have hWbo : bo < W.heap.size := by obtain ⟨p, _, h2⟩ := hW.b.blk; exact h2.lt
  clear hi
  clear hW hlt
  go_enter Tryd.func20, Tryd.ntmps20
  go_wp2_with (first
    | (refine wpList_load_mid rfl 52 _ rfl b _ rfl (ndL ⟨1, 0, 0, 0, noName, 0⟩) _ hrg Tryd.underlying52 rfl infoNd ?_)
    | (refine wpList_allocS rfl 52 rfl (ndL noNd) Tryd.zeroValue52 ?_; intro W2 b8 F2 M2; have B2 := F2.trans (Below.refl _ W) (Nat.le_refl _); have HW2 : Hid (TxW W2 B bc bo bq bt (some ⟨b, o, none⟩) cap ns l v) := HW.out.below B2; have h8 : W.heap.size ≤ b8 := Nat.le_of_eq F2.at'.symm; clear F2)
    | (refine wpList_storeS rfl 52 _ _ rfl rfl (ndL ⟨1, 0, 0, 0, noName, 0⟩) rfl M2 (by simp [noNd, ndL]) infoNd (nd_one _) ?_; intro W3 U3 M3x; have M3 : IsS W3 b8 52 (ndL ⟨1, 0, 0, 0, noName, 0⟩) := M3x; have hr8 : v.ownBlock ≠ some b8 := (fun e => by have := (HW.out.b.own.lt b8 e).2; omega); have HW3 : Hid (TxW W3 B bc bo bq bt (some ⟨b, o, none⟩) cap ns l v) := HW2.out.upd U3 (by omega) (by omega) (by omega) (by omega) (by omega) hr8; have S3 : Hid (Step (some bo) v.ownBlock v.ownBlock W W3) := Step.of_below (U3.trans B2 (by omega)); have hb8 : some b8 ≠ some bo := (fun e => by cases e; omega); have c30 : W3.cell? ⟨b8, 0, none⟩ = some (.int .i64 1) := M3.cell 0; have c31 : W3.cell? ⟨b8, 1, none⟩ = some (.int .i64 0) := M3.cell 1; have t3 : W3.cell? ⟨bt, 0, none⟩ = some (.func (.func 17) #[] #[.pointer (some ⟨bc, 0, none⟩), .pointer (some ⟨bq, 0, none⟩), .pointer (some ⟨bo, 0, none⟩)]) := HW3.out.t.cell 0; have hr8' : some b8 ≠ v.ownBlock := Ne.symm hr8; clear U3 M3x B2 M2 HW2 hr8)
    | (go_at_call 21; refine (writeString_own ⟨#[116, 114, 117, 101]⟩ HW3.out.b (by show l.length + 4 ≤ _; omega) HW3.out.hB).mono ?_; rintro e W4 ⟨rfl, v4, P4, S4⟩))
  all_goals exact ⟨rfl, .tuple #[], (by simp [results, Tryd.results20, go_sem]), rfl, v4, HW3.out.step S4 P4, S3.out.comp S4⟩

set_option maxRecDepth 100000 in
set_option maxHeartbeats 2000000 in
theorem tput_not {B bc bo bq bt : Nat} {ad : Option Addr} {cap : Nat} {ns : List Nd} (hn : ns.length ≤ 1024) {i : Nat} {p m : Nat} {x : Nd} {tx : List UInt8} (hi : ns[i]? = some ⟨3, (p : Int), 0, 0, noName, 0⟩) (hx : ns[p]? = some x) (hA : TxA B bc bo bq bt ad cap ns p tx m) : TxA B bc bo bq bt ad cap ns i (126 :: wrapB (brkN p x ⟨3, (p : Int), 0, 0, noName, 0⟩) tx) (m + 200) := by
  refine ⟨by have := hA.1; have := wrapB_le (brkN p x ⟨3, (p : Int), 0, 0, noName, 0⟩) tx; simp only [List.length_cons]; omega, ?_⟩
  intro W l v hW hsz
  have hlt := (List.getElem?_eq_some_iff.1 hi).1
  have hli : (i : Int) < ns.length := by omega
  obtain ⟨b, o, rfl, hb, hrg⟩ := hW.ns W (Below.refl _ _) i _ hi
  have c0 : W.cell? ⟨bc, 0, none⟩ = some (.slice (some ⟨b, o, none⟩) ns.length cap) := hW.c.cell 0
  have HW : Hid (TxW W B bc bo bq bt (some ⟨b, o, none⟩) cap ns l v) := hW
  have hB := hW.hB
  have hWbc := hW.c.lt
  have hWbq := hW.q.lt
  have hWbt := hW.t.lt
  have hWbo : bo < W.heap.size := by obtain ⟨p, _, h2⟩ := hW.b.blk; exact h2.lt
  have cP := fun W l v h1 h2 => tpart_any hn hx hi hA W l v h1 h2
  clear hi hx hA
  generalize wrapB (brkN p x ⟨3, (p : Int), 0, 0, noName, 0⟩) tx = wt at *
  clear hW hlt
  go_enter Tryd.func20, Tryd.ntmps20
  go_wp2_with (first
    | (refine wpList_load_mid rfl 52 _ rfl b _ rfl (ndL ⟨3, (p : Int), 0, 0, noName, 0⟩) _ hrg Tryd.underlying52 rfl infoNd ?_)
    | (refine wpList_allocS rfl 52 rfl (ndL noNd) Tryd.zeroValue52 ?_; intro W2 b8 F2 M2; have B2 := F2.trans (Below.refl _ W) (Nat.le_refl _); have HW2 : Hid (TxW W2 B bc bo bq bt (some ⟨b, o, none⟩) cap ns l v) := HW.out.below B2; have h8 : W.heap.size ≤ b8 := Nat.le_of_eq F2.at'.symm; clear F2)
    | (refine wpList_storeS rfl 52 _ _ rfl rfl (ndL ⟨3, (p : Int), 0, 0, noName, 0⟩) rfl M2 (by simp [noNd, ndL]) infoNd (nd_one _) ?_; intro W3 U3 M3x; have M3 : IsS W3 b8 52 (ndL ⟨3, (p : Int), 0, 0, noName, 0⟩) := M3x; have hr8 : v.ownBlock ≠ some b8 := (fun e => by have := (HW.out.b.own.lt b8 e).2; omega); have HW3 : Hid (TxW W3 B bc bo bq bt (some ⟨b, o, none⟩) cap ns l v) := HW2.out.upd U3 (by omega) (by omega) (by omega) (by omega) (by omega) hr8; have S3 : Hid (Step (some bo) v.ownBlock v.ownBlock W W3) := Step.of_below (U3.trans B2 (by omega)); have hb8 : some b8 ≠ some bo := (fun e => by cases e; omega); have c30 : W3.cell? ⟨b8, 0, none⟩ = some (.int .i64 3) := M3.cell 0; have c31 : W3.cell? ⟨b8, 1, none⟩ = some (.int .i64 (p : Int)) := M3.cell 1; have t3 : W3.cell? ⟨bt, 0, none⟩ = some (.func (.func 17) #[] #[.pointer (some ⟨bc, 0, none⟩), .pointer (some ⟨bq, 0, none⟩), .pointer (some ⟨bo, 0, none⟩)]) := HW3.out.t.cell 0; have hr8' : some b8 ≠ v.ownBlock := Ne.symm hr8; clear U3 M3x B2 M2 HW2 hr8)
    | (go_at_call 17; refine (cP W4 (l ++ [126]) v4 HW4.out (by simp; omega)).mono ?_; rintro e W5 ⟨rfl, v5, P5, S5⟩)
    | (go_at_call 19; refine (writeByte_own 126 HW3.out.b (by omega) HW3.out.hB).mono ?_; rintro e W4 ⟨rfl, v4, P4, S4x⟩; have HW4 : Hid (TxW W4 B bc bo bq bt (some ⟨b, o, none⟩) cap ns (l ++ [126]) v4) := HW3.out.step S4x P4; have S4 : Hid (Step (some bo) v.ownBlock v4.ownBlock W W4) := S3.out.comp S4x; have M4 := M3.step S4x hb8 hr8'; have c41 : W4.cell? ⟨b8, 1, none⟩ = some (.int .i64 (p : Int)) := M4.cell 1; have t4 : W4.cell? ⟨bt, 0, none⟩ = some (.func (.func 17) #[] #[.pointer (some ⟨bc, 0, none⟩), .pointer (some ⟨bq, 0, none⟩), .pointer (some ⟨bo, 0, none⟩)]) := HW4.out.t.cell 0; clear P4 S4x c30 c31 t3 M3))
  all_goals exact ⟨rfl, .tuple #[], (by simp [results, Tryd.results20, go_sem]), rfl, v5, P5.own2 (by simp), S4.out.comp S5⟩

set_option maxRecDepth 100000 in
set_option maxHeartbeats 2000000 in
theorem tput_two4 {B bc bo bq bt : Nat} {ad : Option Addr} {cap : Nat} {ns : List Nd} (hn : ns.length ≤ 1024) {i : Nat} {p q m m2 : Nat} {x y : Nd} {tx ty : List UInt8} (hi : ns[i]? = some ⟨4, (p : Int), (q : Int), 0, noName, 0⟩) (hx : ns[p]? = some x) (hy : ns[q]? = some y) (hA : TxA B bc bo bq bt ad cap ns p tx m) (hE : TxA B bc bo bq bt ad cap ns q ty m2) : TxA B bc bo bq bt ad cap ns i (wrapB (brkN p x ⟨4, (p : Int), (q : Int), 0, noName, 0⟩) tx ++ [32, 47, 92, 32] ++ wrapB (brkN q y ⟨4, (p : Int), (q : Int), 0, noName, 0⟩) ty) (m + m2 + 200) := by
  refine ⟨by have := hA.1; have := hE.1; have := wrapB_le (brkN p x ⟨4, (p : Int), (q : Int), 0, noName, 0⟩) tx; have := wrapB_le (brkN q y ⟨4, (p : Int), (q : Int), 0, noName, 0⟩) ty; simp only [List.length_append, List.length_cons, List.length_nil]; omega, ?_⟩
  intro W l v hW hsz
  have hlt := (List.getElem?_eq_some_iff.1 hi).1
  have hli : (i : Int) < ns.length := by omega
  obtain ⟨b, o, rfl, hb, hrg⟩ := hW.ns W (Below.refl _ _) i _ hi
  have c0 : W.cell? ⟨bc, 0, none⟩ = some (.slice (some ⟨b, o, none⟩) ns.length cap) := hW.c.cell 0
  have HW : Hid (TxW W B bc bo bq bt (some ⟨b, o, none⟩) cap ns l v) := hW
  have hB := hW.hB
  have hWbc := hW.c.lt
  have hWbq := hW.q.lt
  have hWbt := hW.t.lt
  have hWbo : bo < W.heap.size := by obtain ⟨p, _, h2⟩ := hW.b.blk; exact h2.lt
  have cP := fun W l v h1 h2 => tpart_any hn hx hi hA W l v h1 h2
  have cQ := fun W l v h1 h2 => tpart_any hn hy hi hE W l v h1 h2
  have hwx := wrapB_le (brkN p x ⟨4, (p : Int), (q : Int), 0, noName, 0⟩) tx
  have htx := hA.1
  clear hi hx hy hA hE
  generalize wrapB (brkN p x ⟨4, (p : Int), (q : Int), 0, noName, 0⟩) tx = wx at *
  generalize wrapB (brkN q y ⟨4, (p : Int), (q : Int), 0, noName, 0⟩) ty = wy at *
  have hwl : wx.length ≤ m + 2 := by omega
  clear hwx htx
  clear hW hlt
  go_enter Tryd.func20, Tryd.ntmps20
  go_wp2_with (first
    | (refine wpList_load_mid rfl 52 _ rfl b _ rfl (ndL ⟨4, (p : Int), (q : Int), 0, noName, 0⟩) _ hrg Tryd.underlying52 rfl infoNd ?_)
    | (refine wpList_allocS rfl 52 rfl (ndL noNd) Tryd.zeroValue52 ?_; intro W2 b8 F2 M2; have B2 := F2.trans (Below.refl _ W) (Nat.le_refl _); have HW2 : Hid (TxW W2 B bc bo bq bt (some ⟨b, o, none⟩) cap ns l v) := HW.out.below B2; have h8 : W.heap.size ≤ b8 := Nat.le_of_eq F2.at'.symm; clear F2)
    | (refine wpList_storeS rfl 52 _ _ rfl rfl (ndL ⟨4, (p : Int), (q : Int), 0, noName, 0⟩) rfl M2 (by simp [noNd, ndL]) infoNd (nd_one _) ?_; intro W3 U3 M3x; have M3 : IsS W3 b8 52 (ndL ⟨4, (p : Int), (q : Int), 0, noName, 0⟩) := M3x; have hr8 : v.ownBlock ≠ some b8 := (fun e => by have := (HW.out.b.own.lt b8 e).2; omega); have HW3 : Hid (TxW W3 B bc bo bq bt (some ⟨b, o, none⟩) cap ns l v) := HW2.out.upd U3 (by omega) (by omega) (by omega) (by omega) (by omega) hr8; have S3 : Hid (Step (some bo) v.ownBlock v.ownBlock W W3) := Step.of_below (U3.trans B2 (by omega)); have hb8 : some b8 ≠ some bo := (fun e => by cases e; omega); have c30 : W3.cell? ⟨b8, 0, none⟩ = some (.int .i64 4) := M3.cell 0; have c31 : W3.cell? ⟨b8, 1, none⟩ = some (.int .i64 (p : Int)) := M3.cell 1; have t3 : W3.cell? ⟨bt, 0, none⟩ = some (.func (.func 17) #[] #[.pointer (some ⟨bc, 0, none⟩), .pointer (some ⟨bq, 0, none⟩), .pointer (some ⟨bo, 0, none⟩)]) := HW3.out.t.cell 0; have hr8' : some b8 ≠ v.ownBlock := Ne.symm hr8; clear U3 M3x B2 M2 HW2 hr8)
    | (go_at_call 17; refine (cQ W5 (l ++ wx ++ [32, 47, 92, 32]) v5 HW5.out (by simp; omega)).mono ?_; rintro e W6 ⟨rfl, v6, P6, S6⟩)
    | (go_at_call 21; refine (writeString_own (ByteArray.mk #[32] ++ ByteArray.mk #[47, 92] ++ ByteArray.mk #[32]) HW4.out.b (by have e : (ByteArray.mk #[32] ++ ByteArray.mk #[47, 92] ++ ByteArray.mk #[32]).size = 4 := rfl; rw [e]; simp; omega) HW4.out.hB).mono ?_; rintro e W5 ⟨rfl, v5, P5, S5x⟩; have HW5 : Hid (TxW W5 B bc bo bq bt (some ⟨b, o, none⟩) cap ns (l ++ wx ++ [32, 47, 92, 32]) v5) := HW4.out.step S5x P5; have S5 : Hid (Step (some bo) v.ownBlock v5.ownBlock W W5) := S4.out.comp S5x; have M5 := M4.step S5x hb8 hr4; have c52 : W5.cell? ⟨b8, 2, none⟩ = some (.int .i64 (q : Int)) := M5.cell 2; have t5 : W5.cell? ⟨bt, 0, none⟩ = some (.func (.func 17) #[] #[.pointer (some ⟨bc, 0, none⟩), .pointer (some ⟨bq, 0, none⟩), .pointer (some ⟨bo, 0, none⟩)]) := HW5.out.t.cell 0; clear P5 S5x c40 M4 hr4)
    | (go_at_call 24; refine (joint4 _).mono ?_; rintro e w' ⟨rfl, hw'⟩; replace hw' := hw'.symm; subst hw')
    | (go_at_call 17; refine (cP W3 l v HW3.out (by omega)).mono ?_; rintro e W4 ⟨rfl, v4, P4, S4x⟩; have HW4 : Hid (TxW W4 B bc bo bq bt (some ⟨b, o, none⟩) cap ns (l ++ wx) v4) := P4; have S4 : Hid (Step (some bo) v.ownBlock v4.ownBlock W W4) := S3.out.comp S4x; have M4 := M3.step S4x hb8 hr8'; have hr4 : some b8 ≠ v4.ownBlock := S4x.row_ne2 M3.lt hr8'; have c40 : W4.cell? ⟨b8, 0, none⟩ = some (.int .i64 4) := M4.cell 0; clear P4 S4x c30 c31 t3 M3))
  all_goals exact ⟨rfl, .tuple #[], (by simp [results, Tryd.results20, go_sem]), rfl, v6, P6.own2 (by simp), S5.out.comp S6⟩

set_option maxRecDepth 100000 in
set_option maxHeartbeats 2000000 in
theorem tput_two5 {B bc bo bq bt : Nat} {ad : Option Addr} {cap : Nat} {ns : List Nd} (hn : ns.length ≤ 1024) {i : Nat} {p q m m2 : Nat} {x y : Nd} {tx ty : List UInt8} (hi : ns[i]? = some ⟨5, (p : Int), (q : Int), 0, noName, 0⟩) (hx : ns[p]? = some x) (hy : ns[q]? = some y) (hA : TxA B bc bo bq bt ad cap ns p tx m) (hE : TxA B bc bo bq bt ad cap ns q ty m2) : TxA B bc bo bq bt ad cap ns i (wrapB (brkN p x ⟨5, (p : Int), (q : Int), 0, noName, 0⟩) tx ++ [32, 92, 47, 32] ++ wrapB (brkN q y ⟨5, (p : Int), (q : Int), 0, noName, 0⟩) ty) (m + m2 + 200) := by
  refine ⟨by have := hA.1; have := hE.1; have := wrapB_le (brkN p x ⟨5, (p : Int), (q : Int), 0, noName, 0⟩) tx; have := wrapB_le (brkN q y ⟨5, (p : Int), (q : Int), 0, noName, 0⟩) ty; simp only [List.length_append, List.length_cons, List.length_nil]; omega, ?_⟩
  intro W l v hW hsz
  have hlt := (List.getElem?_eq_some_iff.1 hi).1
  have hli : (i : Int) < ns.length := by omega
  obtain ⟨b, o, rfl, hb, hrg⟩ := hW.ns W (Below.refl _ _) i _ hi
  have c0 : W.cell? ⟨bc, 0, none⟩ = some (.slice (some ⟨b, o, none⟩) ns.length cap) := hW.c.cell 0
  have HW : Hid (TxW W B bc bo bq bt (some ⟨b, o, none⟩) cap ns l v) := hW
  have hB := hW.hB
  have hWbc := hW.c.lt
  have hWbq := hW.q.lt
  have hWbt := hW.t.lt
  have hWbo : bo < W.heap.size := by obtain ⟨p, _, h2⟩ := hW.b.blk; exact h2.lt
  have cP := fun W l v h1 h2 => tpart_any hn hx hi hA W l v h1 h2
  have cQ := fun W l v h1 h2 => tpart_any hn hy hi hE W l v h1 h2
  have hwx := wrapB_le (brkN p x ⟨5, (p : Int), (q : Int), 0, noName, 0⟩) tx
  have htx := hA.1
  clear hi hx hy hA hE
  generalize wrapB (brkN p x ⟨5, (p : Int), (q : Int), 0, noName, 0⟩) tx = wx at *
  generalize wrapB (brkN q y ⟨5, (p : Int), (q : Int), 0, noName, 0⟩) ty = wy at *
  have hwl : wx.length ≤ m + 2 := by omega
  clear hwx htx
  clear hW hlt
  go_enter Tryd.func20, Tryd.ntmps20
  go_wp2_with (first
    | (refine wpList_load_mid rfl 52 _ rfl b _ rfl (ndL ⟨5, (p : Int), (q : Int), 0, noName, 0⟩) _ hrg Tryd.underlying52 rfl infoNd ?_)
    | (refine wpList_allocS rfl 52 rfl (ndL noNd) Tryd.zeroValue52 ?_; intro W2 b8 F2 M2; have B2 := F2.trans (Below.refl _ W) (Nat.le_refl _); have HW2 : Hid (TxW W2 B bc bo bq bt (some ⟨b, o, none⟩) cap ns l v) := HW.out.below B2; have h8 : W.heap.size ≤ b8 := Nat.le_of_eq F2.at'.symm; clear F2)
    | (refine wpList_storeS rfl 52 _ _ rfl rfl (ndL ⟨5, (p : Int), (q : Int), 0, noName, 0⟩) rfl M2 (by simp [noNd, ndL]) infoNd (nd_one _) ?_; intro W3 U3 M3x; have M3 : IsS W3 b8 52 (ndL ⟨5, (p : Int), (q : Int), 0, noName, 0⟩) := M3x; have hr8 : v.ownBlock ≠ some b8 := (fun e => by have := (HW.out.b.own.lt b8 e).2; omega); have HW3 : Hid (TxW W3 B bc bo bq bt (some ⟨b, o, none⟩) cap ns l v) := HW2.out.upd U3 (by omega) (by omega) (by omega) (by omega) (by omega) hr8; have S3 : Hid (Step (some bo) v.ownBlock v.ownBlock W W3) := Step.of_below (U3.trans B2 (by omega)); have hb8 : some b8 ≠ some bo := (fun e => by cases e; omega); have c30 : W3.cell? ⟨b8, 0, none⟩ = some (.int .i64 5) := M3.cell 0; have c31 : W3.cell? ⟨b8, 1, none⟩ = some (.int .i64 (p : Int)) := M3.cell 1; have t3 : W3.cell? ⟨bt, 0, none⟩ = some (.func (.func 17) #[] #[.pointer (some ⟨bc, 0, none⟩), .pointer (some ⟨bq, 0, none⟩), .pointer (some ⟨bo, 0, none⟩)]) := HW3.out.t.cell 0; have hr8' : some b8 ≠ v.ownBlock := Ne.symm hr8; clear U3 M3x B2 M2 HW2 hr8)
    | (go_at_call 17; refine (cQ W5 (l ++ wx ++ [32, 92, 47, 32]) v5 HW5.out (by simp; omega)).mono ?_; rintro e W6 ⟨rfl, v6, P6, S6⟩)
    | (go_at_call 21; refine (writeString_own (ByteArray.mk #[32] ++ ByteArray.mk #[92, 47] ++ ByteArray.mk #[32]) HW4.out.b (by have e : (ByteArray.mk #[32] ++ ByteArray.mk #[92, 47] ++ ByteArray.mk #[32]).size = 4 := rfl; rw [e]; simp; omega) HW4.out.hB).mono ?_; rintro e W5 ⟨rfl, v5, P5, S5x⟩; have HW5 : Hid (TxW W5 B bc bo bq bt (some ⟨b, o, none⟩) cap ns (l ++ wx ++ [32, 92, 47, 32]) v5) := HW4.out.step S5x P5; have S5 : Hid (Step (some bo) v.ownBlock v5.ownBlock W W5) := S4.out.comp S5x; have M5 := M4.step S5x hb8 hr4; have c52 : W5.cell? ⟨b8, 2, none⟩ = some (.int .i64 (q : Int)) := M5.cell 2; have t5 : W5.cell? ⟨bt, 0, none⟩ = some (.func (.func 17) #[] #[.pointer (some ⟨bc, 0, none⟩), .pointer (some ⟨bq, 0, none⟩), .pointer (some ⟨bo, 0, none⟩)]) := HW5.out.t.cell 0; clear P5 S5x c40 M4 hr4)
    | (go_at_call 24; refine (joint5 _).mono ?_; rintro e w' ⟨rfl, hw'⟩; replace hw' := hw'.symm; subst hw')
    | (go_at_call 17; refine (cP W3 l v HW3.out (by omega)).mono ?_; rintro e W4 ⟨rfl, v4, P4, S4x⟩; have HW4 : Hid (TxW W4 B bc bo bq bt (some ⟨b, o, none⟩) cap ns (l ++ wx) v4) := P4; have S4 : Hid (Step (some bo) v.ownBlock v4.ownBlock W W4) := S3.out.comp S4x; have M4 := M3.step S4x hb8 hr8'; have hr4 : some b8 ≠ v4.ownBlock := S4x.row_ne2 M3.lt hr8'; have c40 : W4.cell? ⟨b8, 0, none⟩ = some (.int .i64 5) := M4.cell 0; clear P4 S4x c30 c31 t3 M3))
  all_goals exact ⟨rfl, .tuple #[], (by simp [results, Tryd.results20, go_sem]), rfl, v6, P6.own2 (by simp), S5.out.comp S6⟩

set_option maxRecDepth 100000 in
set_option maxHeartbeats 2000000 in
theorem tput_is {B bc bo bq bt : Nat} {ad : Option Addr} {cap : Nat} {ns : List Nd} (hn : ns.length ≤ 1024) {i : Nat} {th val : Int} {nm : ByteArray} (hi : ns[i]? = some ⟨2, 0, 0, th, nm, val⟩) (h0 : -1 ≤ th) (h1 : th ≤ 9999) (hs : nm.size ≤ 64) (v0 : -9223372036854775808 ≤ val) (v1 : val ≤ 9223372036854775807) (hrl : (refL th nm).length ≤ 100) (hvl : (textL val).length ≤ 21) : TxA B bc bo bq bt ad cap ns i (refL th nm ++ 61 :: textL val) 200 := by
  refine ⟨by rw [List.length_append, List.length_cons]; omega, ?_⟩
  intro W l v hW hsz
  have hlt := (List.getElem?_eq_some_iff.1 hi).1
  have hli : (i : Int) < ns.length := by omega
  obtain ⟨b, o, rfl, hb, hrg⟩ := hW.ns W (Below.refl _ _) i _ hi
  have c0 : W.cell? ⟨bc, 0, none⟩ = some (.slice (some ⟨b, o, none⟩) ns.length cap) := hW.c.cell 0
  have HW : Hid (TxW W B bc bo bq bt (some ⟨b, o, none⟩) cap ns l v) := hW
  have hB := hW.hB
  have hWbc := hW.c.lt
  have hWbq := hW.q.lt
  have hWbt := hW.t.lt
  have hWbo : bo < W.heap.size := by obtain ⟨p, _, h2⟩ := hW.b.blk; exact h2.lt
  have cR := fun W h => refText_any th nm h0 h1 hs W h
  have cT := fun W h => text_any val v0 v1 W h
  clear hi h0 h1 v0 v1 hs
  generalize refL th nm = rl at *
  generalize textL val = vl at *
  have ha1 : ∀ W, (Op.stringOp .add ⟨rl.toArray⟩ ⟨#[61]⟩).run Tryd.prog W = .ok (.string ⟨(rl ++ [61]).toArray⟩) W := fun W => addS W rl [61] (by simp; omega)
  have ha2 : ∀ W, (Op.stringOp .add ⟨(rl ++ [61]).toArray⟩ ⟨vl.toArray⟩).run Tryd.prog W = .ok (.string ⟨(rl ++ [61] ++ vl).toArray⟩) W := fun W => addS W (rl ++ [61]) vl (by simp; omega)
  obtain ⟨sb, hsb⟩ : ∃ sb : ByteArray, ⟨(rl ++ [61] ++ vl).toArray⟩ = sb := ⟨_, rfl⟩
  have HSB : Hid (sb.data.toList = rl ++ [61] ++ vl) := (by show _ = _; rw [← hsb])
  have hsl : sb.size ≤ 150 := by rw [sizeL, HSB.out]; simp; omega
  rw [hsb] at ha2
  clear hsb
  clear hW hlt
  go_enter Tryd.func20, Tryd.ntmps20
  go_wp2_with (first
    | (refine wpList_load_mid rfl 52 _ rfl b _ rfl (ndL ⟨2, 0, 0, th, nm, val⟩) _ hrg Tryd.underlying52 rfl infoNd ?_)
    | (refine wpList_allocS rfl 52 rfl (ndL noNd) Tryd.zeroValue52 ?_; intro W2 b8 F2 M2; have B2 := F2.trans (Below.refl _ W) (Nat.le_refl _); have HW2 : Hid (TxW W2 B bc bo bq bt (some ⟨b, o, none⟩) cap ns l v) := HW.out.below B2; have h8 : W.heap.size ≤ b8 := Nat.le_of_eq F2.at'.symm; clear F2)
    | (refine wpList_storeS rfl 52 _ _ rfl rfl (ndL ⟨2, 0, 0, th, nm, val⟩) rfl M2 (by simp [noNd, ndL]) infoNd (nd_one _) ?_; intro W3 U3 M3x; have M3 : IsS W3 b8 52 (ndL ⟨2, 0, 0, th, nm, val⟩) := M3x; have hr8 : v.ownBlock ≠ some b8 := (fun e => by have := (HW.out.b.own.lt b8 e).2; omega); have HW3 : Hid (TxW W3 B bc bo bq bt (some ⟨b, o, none⟩) cap ns l v) := HW2.out.upd U3 (by omega) (by omega) (by omega) (by omega) (by omega) hr8; have S3 : Hid (Step (some bo) v.ownBlock v.ownBlock W W3) := Step.of_below (U3.trans B2 (by omega)); have hb8 : some b8 ≠ some bo := (fun e => by cases e; omega); have c30 : W3.cell? ⟨b8, 0, none⟩ = some (.int .i64 2) := M3.cell 0; have c31 : W3.cell? ⟨b8, 1, none⟩ = some (.int .i64 0) := M3.cell 1; have t3 : W3.cell? ⟨bt, 0, none⟩ = some (.func (.func 17) #[] #[.pointer (some ⟨bc, 0, none⟩), .pointer (some ⟨bq, 0, none⟩), .pointer (some ⟨bo, 0, none⟩)]) := HW3.out.t.cell 0; have hr8' : some b8 ≠ v.ownBlock := Ne.symm hr8; clear U3 M3x B2 M2 HW2 hr8))
  have r3 : W3.rangeAt b8 3 [.int .i64 th, .string nm] := M3.range 3 2
  have c35 : W3.cell? ⟨b8, 5, none⟩ = some (.int .i64 val) := M3.cell 5
  refine grow_tailW 8 (by kernel_rfl) (by kernel_rfl) ?_
  simp only [List.take_succ_cons, List.take_zero, List.drop_succ_cons, List.drop_zero]
  refine WG.put rfl (v := .pointer (some ⟨b8, 3, none⟩)) (fun w => by first | rfl | (go_simp; done) | (simp [go_sem]; done)) ?_
  simp only [Act.put, List.setIfInBounds_toArray, List.set_cons_succ, List.set_cons_zero]
  refine WG.range rfl 50 _ rfl rfl [.int .i64 th, .string nm] M3.lt r3 _ Tryd.underlying50 rfl infoRf ?_
  simp only [Act.put, List.setIfInBounds_toArray, List.set_cons_succ, List.set_cons_zero]
  refine WG.call rfl (f := 22) (args := #[.agg #[.int .i64 th, .string nm]]) (v := .string ⟨rl.toArray⟩) (fun w' hB' => cR w' (HW3.out.tab w' (hB'.mono HW3.out.hB))) (fun w => by first | rfl | (go_simp; done) | (simp [go_sem]; done)) ?_
  simp only [Act.put, List.setIfInBounds_toArray, List.set_cons_succ, List.set_cons_zero]
  refine WG.put rfl (v := .string ⟨(rl ++ [61]).toArray⟩) (fun w => by first | rfl | (go_simp; done) | (simp [go_sem, ha1]; done)) ?_
  simp only [Act.put, List.setIfInBounds_toArray, List.set_cons_succ, List.set_cons_zero]
  refine WG.put rfl (v := .pointer (some ⟨b8, 5, none⟩)) (fun w => by first | rfl | (go_simp; done) | (simp [go_sem]; done)) ?_
  simp only [Act.put, List.setIfInBounds_toArray, List.set_cons_succ, List.set_cons_zero]
  refine WG.cell rfl 2 _ rfl rfl c35 ld2 ?_
  simp only [Act.put, List.setIfInBounds_toArray, List.set_cons_succ, List.set_cons_zero]
  refine WG.call rfl (f := 23) (args := #[.int .i64 val]) (v := .string ⟨vl.toArray⟩) (fun w' hB' => cT w' (HW3.out.tab w' (hB'.mono HW3.out.hB))) (fun w => by first | rfl | (go_simp; done) | (simp [go_sem]; done)) ?_
  simp only [Act.put, List.setIfInBounds_toArray, List.set_cons_succ, List.set_cons_zero]
  refine WG.put rfl (v := .string sb) (fun w => by first | rfl | (go_simp; done) | (simp [go_sem, ha2]; done)) ?_
  simp only [Act.put, List.setIfInBounds_toArray, List.set_cons_succ, List.set_cons_zero]
  refine WG.nil ?_
  intro W8 B8
  have HW8 : Hid (TxW W8 B bc bo bq bt (some ⟨b, o, none⟩) cap ns l v) := HW3.out.below B8
  have S8 : Hid (Step (some bo) v.ownBlock v.ownBlock W W8) := S3.out.comp (Step.of_below B8)
  clear B8 HW3 S3 M3 c30 c31 t3 r3 c35
  go_wp2_with (first
    | (go_at_call 21; refine (writeString_own sb HW8.out.b (by omega) HW8.out.hB).mono ?_; rintro e W9 ⟨rfl, v9, P9, S9⟩))
  all_goals exact ⟨rfl, .tuple #[], (by simp [results, Tryd.results20, go_sem]), rfl, v9, (HW8.out.step S9 P9).own2 (by rw [HSB.out]; simp), S8.out.comp S9⟩
end Go.Proofs.YtjnbhcakfenbhaaDoor
