/- inwards' add, turned and put. -/
import Derived.Test.YtjnbhcakfenbhaaP1
namespace Go.Proofs.Ytjnbhcakfenbhaa
open Go.RowKit M
set_option linter.unusedSimpArgs false
set_option linter.unusedVariables false

/-- What inwards' closures capture; the nodes that are put so far lie in a row of the call's own. -/
structure PutW (W : World) (B bc bo ba bp : Nat) (ad : Option Addr) (cap : Nat) (ns : List Nd) (out : List Nd) (v : Value) : Prop where
  c : IsS W bc 23 [.slice ad ns.length cap]
  a : IsS W ba 70 [.func (.func 38) #[] #[.pointer (some ⟨bo, 0, none⟩)]]
  p : IsS W bp 71 [.func (.func 39) #[] #[.pointer (some ⟨bc, 0, none⟩), .pointer (some ⟨bp, 0, none⟩), .pointer (some ⟨ba, 0, none⟩)]]
  o : IsS W bo 23 [v]
  own : W.ownsRow B 52 6 v out.length (cellsL out)
  ns : Nds W ad ns
  low : ∀ b o m, ad = some ⟨b, o, m⟩ → b < B
  ne : bc ≠ bo
  hB : B ≤ W.heap.size
  ho : B ≤ bo
theorem own_row {W : World} {B e s n : Nat} {v : Value} {xs : List Value} (h : W.ownsRow B e s v n xs) : ∀ b, v.ownBlock = some b → B ≤ b := fun b hb => (h.lt b hb).1
theorem Nds.step {W W' : World} {ad : Option Addr} {ns : List Nd} {B : Nat} (h : Nds W ad ns) (hB : Below B W W') (hl : ∀ b o m, ad = some ⟨b, o, m⟩ → b < B) : Nds W' ad ns := fun j n hn => by
  obtain ⟨b, o, e, h2, h3⟩ := h j n hn
  refine ⟨b, o, e, Nat.lt_of_lt_of_le h2 hB.size, fun i v hv => ?_⟩
  rw [hB.cell (p := ⟨b, o + j * 6 + i, none⟩) (hl b o none e)]
  exact h3 i v hv
section
variable {W W' : World} {B bc bo ba bp : Nat} {ad : Option Addr} {cap : Nat} {ns out out' : List Nd} {v v' : Value}
theorem PutW.below (h : PutW W B bc bo ba bp ad cap ns out v) (hb : Below W.heap.size W W') : PutW W' B bc bo ba bp ad cap ns out v :=
  ⟨h.c.grown hb, h.a.grown hb, h.p.grown hb, h.o.grown hb, own_belowW h.own hb, h.ns.below hb, h.low, h.ne, Nat.le_trans h.hB hb.size, h.ho⟩
theorem PutW.upd (h : PutW W B bc bo ba bp ad cap ns out v) {b t : Nat} {cs : List Value} (U : Upd W W' b) (hM : IsS W b t cs) (hb : B ≤ b) (h1 : b ≠ bc) (h2 : b ≠ ba) (h3 : b ≠ bp) (h4 : b ≠ bo) (h5 : v.ownBlock ≠ some b) : PutW W' B bc bo ba bp ad cap ns out v :=
  ⟨h.c.upd U (Ne.symm h1), h.a.upd U (Ne.symm h2), h.p.upd U (Ne.symm h3), h.o.upd U (Ne.symm h4), own_updN h.own U h5, h.ns.step (U.trans (Below.refl _ _) hb) h.low, h.low, h.ne, by rw [U.size]; exact h.hB, h.ho⟩
theorem PutW.ne_row (h : PutW W B bc bo ba bp ad cap ns out v) {b t : Nat} {cs : List Value} (hM : IsS W b t cs) (ht : t ≠ 52) : some b ≠ v.ownBlock := fun e => own_ne h.own hM ht e.symm
end
/-- Blocks of two types are two. -/
theorem IsS.ne {W : World} {b b' t t' : Nat} {cs cs' : List Value} (h : IsS W b t cs) (h' : IsS W b' t' cs') (ht : t ≠ t') : b ≠ b' := fun e => by
  subst e
  unfold IsS at h h'
  rw [h] at h'
  cases h'
  exact ht rfl
theorem infoC : (Try.prog.info? 23).map (·.size) = some 1 := by kernel_rfl

set_option maxRecDepth 100000 in
set_option maxHeartbeats 1000000 in
theorem add_any {W : World} {B bc bo ba bp : Nat} {ad : Option Addr} {cap : Nat} {ns out : List Nd} {v : Value} (hn : out.length ≤ 8192) (nd : Nd) (hW : PutW W B bc bo ba bp ad cap ns out v) :
    Calls Try.prog 38 #[.agg (ndL nd).toArray, .pointer (some ⟨bo, 0, none⟩)] W fun e w' => e = .returned (.int .i64 (out.length : Int)) ∧ ∃ v', PutW w' B bc bo ba bp ad cap ns (out ++ [nd]) v' ∧ Step (some bo) v.ownBlock v'.ownBlock W w' := by
  have hB := hW.hB
  obtain ⟨a0, c0, rfl⟩ := own_form hW.own
  have HW : Hid (PutW W B bc bo ba bp ad cap ns out (.slice a0 out.length c0)) := hW
  clear hW
  go_enter Try.func38, Try.ntmps38
  go_wp2_with (first
    | (refine wpList_boxS rfl 52 _ rfl (ndL nd) rfl ?_; intro W1 b1 F1 N1; have B1 := F1.trans (Below.refl _ W) (Nat.le_refl _); have HW1 : Hid (PutW W1 B bc bo ba bp ad cap ns out (.slice a0 out.length c0)) := HW.out.below B1; have o1 : W1.cell? ⟨bo, 0, none⟩ = some (.slice a0 out.length c0) := HW1.out.o.cell 0; have hB1 := HW1.out.hB; clear F1)
    | (refine wpList_loadP rfl 52 _ rfl rfl N1 6 (ndL nd) rfl _ Try.underlying52 rfl infoNd ?_)
    | (refine wpList_buildN rfl _ rfl nd rfl ?_; intro W2 b2 F2 N2; have B2 := F2.trans (Below.refl _ W1) (Nat.le_refl _); have HW2 : Hid (PutW W2 B bc bo ba bp ad cap ns out (.slice a0 out.length c0)) := HW1.out.below B2; have B3 : Hid (Below W.heap.size W W2) := Below.then B1 B2; have hB2 := HW2.out.hB; clear F2 B2 HW1 o1)
    | (at_builtin; refine wpList_appN rfl _ _ rfl B (.slice a0 out.length c0) out rfl HW2.out.own b2 1 nd rfl N2 (by omega) hB2 ?_; intro v3 W3 O3x S3x; have O3 : Hid (W3.ownsRow B 52 6 v3 (out ++ [nd]).length (cellsL (out ++ [nd]))) := O3x; have S3 : Hid (Step none (Value.slice a0 out.length c0).ownBlock v3.ownBlock W2 W3) := S3x; have o3 : IsS W3 bo 23 [.slice a0 out.length c0] := HW2.out.o.step S3x (by simp) (HW2.out.ne_row HW2.out.o (by decide)); clear O3x S3x; refine Hid.out ?_))
  refine Lib.hid ?_
  obtain ⟨a1, c1, rfl⟩ := own_form O3.out
  have HL : Hid ((out ++ [nd]).length = out.length + 1) := (by show _ = _; simp)
  rw [HL.out] at O3 S3 ⊢
  go_wp2_with (first
    | (refine wpList_store1 rfl 23 _ _ rfl rfl (.slice a1 (out.length + 1) c1) rfl o3 (by simp) infoC rfl ?_; intro W4 U4 o4x; have o4 : IsS W4 bo 23 [.slice a1 (out.length + 1) c1] := o4x; have o5 : W4.cell? ⟨bo, 0, none⟩ = some (.slice a1 (out.length + 1) c1) := o4.cell 0; have HU : Hid (Upd W3 W4 bo) := U4; clear U4 o4x))
  go_ret
  have hw := HW2.out
  have s3 := S3.out
  have u4 := HU.out
  have row := own_row hw.own
  refine ⟨rfl, .slice a1 (out.length + 1) c1, ⟨(hw.c.step s3 (by simp) (hw.ne_row hw.c (by decide))).upd u4 hw.ne, (hw.a.step s3 (by simp) (hw.ne_row hw.a (by decide))).upd u4 (hw.a.ne hw.o (by decide)), (hw.p.step s3 (by simp) (hw.ne_row hw.p (by decide))).upd u4 (hw.p.ne hw.o (by decide)), o4, ?_, ?_, hw.low, hw.ne, ?_, hw.ho⟩, ?_⟩
  · rw [HL.out]
    exact own_updN O3.out u4 (own_ne O3.out o3 (by decide))
  · exact (hw.ns.step (s3.below (by simp) row hB2) hw.low).step (u4.trans (Below.refl _ _) hw.ho) hw.low
  · rw [u4.size]; exact Nat.le_trans hB2 s3.size
  · exact ((Step.of_below B3.out).comp s3.mono).comp (Step.of_upd u4)

set_option maxRecDepth 100000 in
theorem turned_any (K : Int) (n : Bool) (hK : K = 4 ∨ K = 5) (w : World) : Calls Try.prog 40 #[.int .i64 K, .bool n] w fun e w' => e = .returned (.int .i64 (if n then 9 - K else K)) ∧ w' = w := by
  rcases hK with rfl | rfl
  all_goals cases n
  all_goals
    go_enter Try.func40, Try.ntmps40
    go_wp2_with fail
    go_ret
    exact ⟨rfl, rfl⟩
end Go.Proofs.Ytjnbhcakfenbhaa
