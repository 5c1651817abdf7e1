/- bracketed; deepest, whose closures call each other; Check. -/
import Derived.Test.YtcmkoffamolgmaaC3
namespace Go.Proofs.Ytcmkoffamolgmaa
open Go.RowKit M
set_option linter.unusedSimpArgs false
set_option linter.unusedVariables false

/-- A node's cells, one by one. -/
theorem nds_cell {w : World} {ad : Option Addr} {ns : List Nd} (h : Nds w ad ns) {j : Nat} {n : Nd} (hn : ns[j]? = some n) : ∃ b o, ad = some ⟨b, o, none⟩ ∧ b < w.heap.size ∧ w.rangeAt b (o + j * 6) (ndL n) ∧ w.cell? ⟨b, o + j * 6, none⟩ = some (.int .i64 n.op) ∧ w.cell? ⟨b, o + j * 6 + 2, none⟩ = some (.int .i64 n.b) := by
  obtain ⟨b, o, h1, h2, h3⟩ := h j n hn
  exact ⟨b, o, h1, h2, h3, h3 0 _ rfl, h3 2 _ rfl⟩
/-- bracketed's answer: of a part's number, its whole's number, both nodes. -/
def brkN (part : Nat) (x y : Nd) : Bool :=
  if y.op = 3 then x.op == 4 || x.op == 5
  else if y.op = 4 then x.op == 5 || (x.op == 4 && (part : Int) == y.b)
  else x.op == 5 && (part : Int) == y.b

set_option maxRecDepth 100000 in
set_option maxHeartbeats 1000000 in
theorem bracketed_any (ad : Option Addr) (cap : Nat) (ns : List Nd) (hn : ns.length ≤ 1024) (p q : Nat) (x y : Nd) (hx : ns[p]? = some x) (hy : ns[q]? = some y) (w : World) (hT : Nds w ad ns) :
    Calls Try.prog 35 #[.slice ad ns.length cap, .int .i64 (p : Int), .int .i64 (q : Int)] w fun e w' => e = .returned (.bool (brkN p x y)) ∧ Below w.heap.size w w' := by
  have hp := (List.getElem?_eq_some_iff.1 hx).1
  have hq := (List.getElem?_eq_some_iff.1 hy).1
  obtain ⟨b, o, rfl, hb, hr, c0, c2⟩ := nds_cell hT hx
  obtain ⟨b', o', e, hb', hr', d0, d2⟩ := nds_cell hT hy
  cases e
  clear hT hx hy hr hr'
  obtain ⟨xo, xa, xb, xt, xn, xv⟩ := x
  obtain ⟨yo, ya, yb, yt, yn, yv⟩ := y
  dsimp only at c0 c2 d0 d2
  have hpi : (p : Int) < ns.length := by omega
  have hqi : (q : Int) < ns.length := by omega
  generalize ns.length = L at *
  clear hp hq hn
  obtain ⟨V, hV⟩ : ∃ V, brkN p ⟨xo, xa, xb, xt, xn, xv⟩ ⟨yo, ya, yb, yt, yn, yv⟩ = V := ⟨_, rfl⟩
  rw [hV]
  have HV : Hid (V = brkN p ⟨xo, xa, xb, xt, xn, xv⟩ ⟨yo, ya, yb, yt, yn, yv⟩) := hV.symm
  clear hV
  go_enter Try.func35, Try.ntmps35
  go_wp2_with fail
  go_quiet (fail)
  have d2' : (w.drewN nq).cell? ⟨b, o + q * 6 + 2, none⟩ = some (.int .i64 yb) := d2
  have B1 : Below w.heap.size w (w.drewN nq) := below_drewN (Below.refl _ _) _
  clear c0 c2 d0 d2
  generalize w.drewN nq = W1 at *
  go_wp2_with fail
  all_goals go_ret
  all_goals refine ⟨ret_bool ?_, B1⟩
  all_goals (rw [HV.out]; simp only [brkN, ← beq_iff_eq (a := yo)]; simp [*])

/-- What deepest's closures capture. -/
structure DeepW (W : World) (bc bd bp : Nat) (ad : Option Addr) (cap : Nat) (ns : List Nd) : Prop where
  c : W.cell? ⟨bc, 0, none⟩ = some (.slice ad ns.length cap)
  d : W.cell? ⟨bd, 0, none⟩ = some (.func (.func 36) #[] #[.pointer (some ⟨bc, 0, none⟩), .pointer (some ⟨bp, 0, none⟩)])
  p : W.cell? ⟨bp, 0, none⟩ = some (.func (.func 34) #[] #[.pointer (some ⟨bc, 0, none⟩), .pointer (some ⟨bd, 0, none⟩)])
  ns : Nds W ad ns
theorem DeepW.below {W W' : World} {bc bd bp : Nat} {ad : Option Addr} {cap : Nat} {ns : List Nd} (h : DeepW W bc bd bp ad cap ns) (hB : Below W.heap.size W W') : DeepW W' bc bd bp ad cap ns :=
  ⟨cell_grow h.c hB, cell_grow h.d hB, cell_grow h.p hB, h.ns.below hB⟩
/-- What deep answers at a node, whatever the world that holds what it captures. -/
def DeepA (bc bd bp : Nat) (ad : Option Addr) (cap : Nat) (ns : List Nd) (i d : Nat) : Prop := ∀ W, DeepW W bc bd bp ad cap ns → Calls Try.prog 36 #[.int .i64 (i : Int), .pointer (some ⟨bc, 0, none⟩), .pointer (some ⟨bp, 0, none⟩)] W fun e w' => e = .returned (.int .i64 (d : Int)) ∧ Below W.heap.size W w'

set_option maxRecDepth 100000 in
set_option maxHeartbeats 1000000 in
theorem part_any {bc bd bp : Nat} {ad : Option Addr} {cap : Nat} {ns : List Nd} (hn : ns.length ≤ 1024) {p q d : Nat} {x y : Nd} (hx : ns[p]? = some x) (hy : ns[q]? = some y) (hd : d ≤ 4096) (hD : DeepA bc bd bp ad cap ns p d) (W : World) (hW : DeepW W bc bd bp ad cap ns) :
    Calls Try.prog 34 #[.int .i64 (p : Int), .int .i64 (q : Int), .pointer (some ⟨bc, 0, none⟩), .pointer (some ⟨bd, 0, none⟩)] W fun e w' => e = .returned (.int .i64 ((d + b2n (brkN p x y) : Nat) : Int)) ∧ Below W.heap.size W w' := by
  have cb := fun w h => bracketed_any ad cap ns hn p q x y hx hy w h
  have c0 := hW.c
  clear hx hy
  cases hbk : brkN p x y with
  | true =>
    rw [hbk] at cb
    go_enter Try.func34, Try.ntmps34
    go_wp2_with (first
      | (go_at_call 35; refine (cb _ hW.ns).mono ?_; rintro e W1 ⟨rfl, B1⟩; have hW1 := hW.below B1; have d1 := hW1.d; clear cb)
      | (go_at_call 36; refine (hD _ hW1).mono ?_; rintro e W2 ⟨rfl, B2⟩))
    go_ret
    refine ⟨ret_int ?_, Below.then B1 B2⟩
    simp [b2n]
  | false =>
    rw [hbk] at cb
    go_enter Try.func34, Try.ntmps34
    go_wp2_with (first
      | (go_at_call 35; refine (cb _ hW.ns).mono ?_; rintro e W1 ⟨rfl, B1⟩; have hW1 := hW.below B1; have d1 := hW1.d; clear cb)
      | (go_at_call 36; refine (hD _ hW1).mono ?_; rintro e W2 ⟨rfl, B2⟩))
    go_ret
    refine ⟨ret_int ?_, Below.then B1 B2⟩
    simp [b2n]

theorem ldF {b o : Nat} {v : Value} (w : World) (h : w.cell? ⟨b, o, none⟩ = some v) : (Instr.loadAt 60 (.pointer (some ⟨b, o, none⟩))).run Try.prog w = .ok v w := by simp [go_sem, h]

set_option maxRecDepth 100000 in
set_option maxHeartbeats 2000000 in
theorem deep_leaf {bc bd bp : Nat} {ad : Option Addr} {cap : Nat} {ns : List Nd} (hn : ns.length ≤ 1024) {i : Nat} {op fa fb th : Int} {nm : ByteArray} {val : Int} (hi : ns[i]? = some ⟨op, fa, fb, th, nm, val⟩) (h3 : op ≠ 3) (h4 : op ≠ 4) (h5 : op ≠ 5) (W : World) (hW : DeepW W bc bd bp ad cap ns) :
    Calls Try.prog 36 #[.int .i64 (i : Int), .pointer (some ⟨bc, 0, none⟩), .pointer (some ⟨bp, 0, none⟩)] W fun e w' => e = .returned (.int .i64 0) ∧ Below W.heap.size W w' := by
  have hlt := (List.getElem?_eq_some_iff.1 hi).1
  have hli : (i : Int) < ns.length := by omega
  obtain ⟨b, o, rfl, hb, hrg⟩ := hW.ns i _ hi
  have c0 := hW.c
  have e3 : (op == 3) = false := by simpa using h3
  have e4 : (op == 4) = false := by simpa using h4
  have e5 : (op == 5) = false := by simpa using h5
  clear h3 h4 h5 hi hlt
  go_enter Try.func36, Try.ntmps36
  go_wp2_with (first
    | (refine wpList_load_mid rfl 46 _ rfl b _ rfl (ndL ⟨op, fa, fb, th, nm, val⟩) _ hrg Try.underlying46 rfl infoNd ?_)
    | (refine wpList_allocS rfl 46 rfl (ndL noNd) Try.zeroValue46 ?_; intro W2 b5 F2 M2; have B2 := F2.trans (Below.refl _ W) (Nat.le_refl _); have hb5 : W.heap.size ≤ b5 := Nat.le_of_eq F2.at'.symm; clear F2)
    | (refine wpList_storeS rfl 46 _ _ rfl rfl (ndL ⟨op, fa, fb, th, nm, val⟩) rfl M2 (by simp [noNd, ndL]) infoNd (nd_one _) ?_; intro W3 U3 M3x; have M3 : IsS W3 b5 46 (ndL ⟨op, fa, fb, th, nm, val⟩) := M3x; have B3 := U3.trans B2 hb5; have hW3 := hW.below B3; have p3 := hW3.p; have c30 : W3.cell? ⟨b5, 0, none⟩ = some (.int .i64 op) := M3.cell 0; have c31 : W3.cell? ⟨b5, 1, none⟩ = some (.int .i64 fa) := M3.cell 1; have c32 : W3.cell? ⟨b5, 2, none⟩ = some (.int .i64 fb) := M3.cell 2; clear U3 M3x B2 M2))
  all_goals go_ret
  all_goals exact ⟨rfl, B3⟩

set_option maxRecDepth 100000 in
set_option maxHeartbeats 2000000 in
theorem deep_not {bc bd bp : Nat} {ad : Option Addr} {cap : Nat} {ns : List Nd} (hn : ns.length ≤ 1024) {i : Nat} {p d : Nat} {x : Nd} (hi : ns[i]? = some ⟨3, (p : Int), 0, 0, noName, 0⟩) (hx : ns[p]? = some x) (hd : d ≤ 4096) (hD : DeepA bc bd bp ad cap ns p d) (W : World) (hW : DeepW W bc bd bp ad cap ns) :
    Calls Try.prog 36 #[.int .i64 (i : Int), .pointer (some ⟨bc, 0, none⟩), .pointer (some ⟨bp, 0, none⟩)] W fun e w' => e = .returned (.int .i64 ((d + b2n (brkN p x ⟨3, (p : Int), 0, 0, noName, 0⟩) + 1 : Nat) : Int)) ∧ Below W.heap.size W w' := by
  have hlt := (List.getElem?_eq_some_iff.1 hi).1
  have hli : (i : Int) < ns.length := by omega
  obtain ⟨b, o, rfl, hb, hrg⟩ := hW.ns i _ hi
  have c0 := hW.c
  have cP := fun W h => part_any (W := W) hn hx hi hd hD h
  have hz : b2n (brkN p x ⟨3, (p : Int), 0, 0, noName, 0⟩) ≤ 1 := by unfold b2n; split <;> omega
  clear hi hlt
  generalize b2n (brkN p x ⟨3, (p : Int), 0, 0, noName, 0⟩) = z at *
  go_enter Try.func36, Try.ntmps36
  go_wp2_with (first
    | (refine wpList_load_mid rfl 46 _ rfl b _ rfl (ndL ⟨3, (p : Int), 0, 0, noName, 0⟩) _ hrg Try.underlying46 rfl infoNd ?_)
    | (refine wpList_allocS rfl 46 rfl (ndL noNd) Try.zeroValue46 ?_; intro W2 b5 F2 M2; have B2 := F2.trans (Below.refl _ W) (Nat.le_refl _); have hb5 : W.heap.size ≤ b5 := Nat.le_of_eq F2.at'.symm; clear F2)
    | (refine wpList_storeS rfl 46 _ _ rfl rfl (ndL ⟨3, (p : Int), 0, 0, noName, 0⟩) rfl M2 (by simp [noNd, ndL]) infoNd (nd_one _) ?_; intro W3 U3 M3x; have M3 : IsS W3 b5 46 (ndL ⟨3, (p : Int), 0, 0, noName, 0⟩) := M3x; have B3 := U3.trans B2 hb5; have hW3 := hW.below B3; have p3 := hW3.p; have c30 : W3.cell? ⟨b5, 0, none⟩ = some (.int .i64 3) := M3.cell 0; have c31 : W3.cell? ⟨b5, 1, none⟩ = some (.int .i64 (p : Int)) := M3.cell 1; have c32 : W3.cell? ⟨b5, 2, none⟩ = some (.int .i64 0) := M3.cell 2; clear U3 M3x B2 M2)
    | (go_at_call 34; refine (cP _ hW3).mono ?_; rintro e W4 ⟨rfl, B4⟩))
  all_goals go_ret
  all_goals refine ⟨ret_int ?_, Below.then B3 B4⟩
  all_goals (go_num)

set_option maxRecDepth 100000 in
set_option maxHeartbeats 2000000 in
theorem deep_two4 {bc bd bp : Nat} {ad : Option Addr} {cap : Nat} {ns : List Nd} (hn : ns.length ≤ 1024) {i : Nat} {p q d e2 : Nat} {x y : Nd} (hi : ns[i]? = some ⟨4, (p : Int), (q : Int), 0, noName, 0⟩) (hx : ns[p]? = some x) (hy : ns[q]? = some y) (hd : d ≤ 4096) (he : e2 ≤ 4096) (hD : DeepA bc bd bp ad cap ns p d) (hE : DeepA bc bd bp ad cap ns q e2) (W : World) (hW : DeepW W bc bd bp ad cap ns) :
    Calls Try.prog 36 #[.int .i64 (i : Int), .pointer (some ⟨bc, 0, none⟩), .pointer (some ⟨bp, 0, none⟩)] W fun e w' => e = .returned (.int .i64 ((max (d + b2n (brkN p x ⟨4, (p : Int), (q : Int), 0, noName, 0⟩)) (e2 + b2n (brkN q y ⟨4, (p : Int), (q : Int), 0, noName, 0⟩)) : Nat) : Int)) ∧ Below W.heap.size W w' := by
  have hlt := (List.getElem?_eq_some_iff.1 hi).1
  have hli : (i : Int) < ns.length := by omega
  obtain ⟨b, o, rfl, hb, hrg⟩ := hW.ns i _ hi
  have c0 := hW.c
  have cP := fun W h => part_any (W := W) hn hx hi hd hD h
  have cQ := fun W h => part_any (W := W) hn hy hi he hE h
  clear hi hlt
  generalize d + b2n (brkN p x ⟨4, (p : Int), (q : Int), 0, noName, 0⟩) = z at *
  generalize e2 + b2n (brkN q y ⟨4, (p : Int), (q : Int), 0, noName, 0⟩) = z' at *
  go_enter Try.func36, Try.ntmps36
  go_wp2_with (first
    | (refine wpList_load_mid rfl 46 _ rfl b _ rfl (ndL ⟨4, (p : Int), (q : Int), 0, noName, 0⟩) _ hrg Try.underlying46 rfl infoNd ?_)
    | (refine wpList_allocS rfl 46 rfl (ndL noNd) Try.zeroValue46 ?_; intro W2 b5 F2 M2; have B2 := F2.trans (Below.refl _ W) (Nat.le_refl _); have hb5 : W.heap.size ≤ b5 := Nat.le_of_eq F2.at'.symm; clear F2)
    | (refine wpList_storeS rfl 46 _ _ rfl rfl (ndL ⟨4, (p : Int), (q : Int), 0, noName, 0⟩) rfl M2 (by simp [noNd, ndL]) infoNd (nd_one _) ?_; intro W3 U3 M3x; have M3 : IsS W3 b5 46 (ndL ⟨4, (p : Int), (q : Int), 0, noName, 0⟩) := M3x; have B3 := U3.trans B2 hb5; have hW3 := hW.below B3; have p3 := hW3.p; have c30 : W3.cell? ⟨b5, 0, none⟩ = some (.int .i64 4) := M3.cell 0; have c31 : W3.cell? ⟨b5, 1, none⟩ = some (.int .i64 (p : Int)) := M3.cell 1; have c32 : W3.cell? ⟨b5, 2, none⟩ = some (.int .i64 (q : Int)) := M3.cell 2; clear U3 M3x B2 M2))
  refine grow_allW (by kernel_rfl) (by kernel_rfl) ?_
  refine WG.cell rfl 60 _ rfl rfl p3 ldF ?_
  simp only [Act.put, List.setIfInBounds_toArray, List.set_cons_succ, List.set_cons_zero]
  refine WG.put rfl (v := .pointer (some ⟨b5, 1, none⟩)) (fun w => by first | rfl | (go_simp; done) | (simp [go_sem]; done)) ?_
  simp only [Act.put, List.setIfInBounds_toArray, List.set_cons_succ, List.set_cons_zero]
  refine WG.cell rfl 3 _ rfl rfl c31 ld3 ?_
  simp only [Act.put, List.setIfInBounds_toArray, List.set_cons_succ, List.set_cons_zero]
  refine WG.put rfl (v := .int .i64 (i : Int)) (fun w => by first | rfl | (go_simp; done) | (simp [go_sem]; done)) ?_
  simp only [Act.put, List.setIfInBounds_toArray, List.set_cons_succ, List.set_cons_zero]
  refine WG.call rfl (f := 34) (args := #[.int .i64 (p : Int), .int .i64 (i : Int), .pointer (some ⟨bc, 0, none⟩), .pointer (some ⟨bd, 0, none⟩)]) (v := .int .i64 (z : Int)) (fun w' hB' => cP _ (hW3.below hB')) (fun w => by first | rfl | (go_simp; done) | (simp [go_sem]; done)) ?_
  simp only [Act.put, List.setIfInBounds_toArray, List.set_cons_succ, List.set_cons_zero]
  refine WG.cell rfl 60 _ rfl rfl p3 ldF ?_
  simp only [Act.put, List.setIfInBounds_toArray, List.set_cons_succ, List.set_cons_zero]
  refine WG.put rfl (v := .pointer (some ⟨b5, 2, none⟩)) (fun w => by first | rfl | (go_simp; done) | (simp [go_sem]; done)) ?_
  simp only [Act.put, List.setIfInBounds_toArray, List.set_cons_succ, List.set_cons_zero]
  refine WG.cell rfl 3 _ rfl rfl c32 ld3 ?_
  simp only [Act.put, List.setIfInBounds_toArray, List.set_cons_succ, List.set_cons_zero]
  refine WG.put rfl (v := .int .i64 (i : Int)) (fun w => by first | rfl | (go_simp; done) | (simp [go_sem]; done)) ?_
  simp only [Act.put, List.setIfInBounds_toArray, List.set_cons_succ, List.set_cons_zero]
  refine WG.call rfl (f := 34) (args := #[.int .i64 (q : Int), .int .i64 (i : Int), .pointer (some ⟨bc, 0, none⟩), .pointer (some ⟨bd, 0, none⟩)]) (v := .int .i64 (z' : Int)) (fun w' hB' => cQ _ (hW3.below hB')) (fun w => by first | rfl | (go_simp; done) | (simp [go_sem]; done)) ?_
  simp only [Act.put, List.setIfInBounds_toArray, List.set_cons_succ, List.set_cons_zero]
  refine WG.put rfl (v := .int .i64 (if z < z' then (z' : Int) else (z : Int))) (fun w => by first | rfl | (go_simp; done) | (simp [go_sem]; done)) ?_
  simp only [Act.put, List.setIfInBounds_toArray, List.set_cons_succ, List.set_cons_zero]
  refine WG.put rfl (v := .int .i64 (if z < z' then (z' : Int) else (z : Int))) (fun w => by first | rfl | (go_simp; done) | (simp [go_sem]; done)) ?_
  simp only [Act.put, List.setIfInBounds_toArray, List.set_cons_succ, List.set_cons_zero]
  refine WG.nil ?_
  intro W6 B6
  go_wp2_with fail
  all_goals go_ret
  all_goals exact ⟨ret_int (by first | omega | (split <;> omega)), Below.then B3 B6⟩

set_option maxRecDepth 100000 in
set_option maxHeartbeats 2000000 in
theorem deep_two5 {bc bd bp : Nat} {ad : Option Addr} {cap : Nat} {ns : List Nd} (hn : ns.length ≤ 1024) {i : Nat} {p q d e2 : Nat} {x y : Nd} (hi : ns[i]? = some ⟨5, (p : Int), (q : Int), 0, noName, 0⟩) (hx : ns[p]? = some x) (hy : ns[q]? = some y) (hd : d ≤ 4096) (he : e2 ≤ 4096) (hD : DeepA bc bd bp ad cap ns p d) (hE : DeepA bc bd bp ad cap ns q e2) (W : World) (hW : DeepW W bc bd bp ad cap ns) :
    Calls Try.prog 36 #[.int .i64 (i : Int), .pointer (some ⟨bc, 0, none⟩), .pointer (some ⟨bp, 0, none⟩)] W fun e w' => e = .returned (.int .i64 ((max (d + b2n (brkN p x ⟨5, (p : Int), (q : Int), 0, noName, 0⟩)) (e2 + b2n (brkN q y ⟨5, (p : Int), (q : Int), 0, noName, 0⟩)) : Nat) : Int)) ∧ Below W.heap.size W w' := by
  have hlt := (List.getElem?_eq_some_iff.1 hi).1
  have hli : (i : Int) < ns.length := by omega
  obtain ⟨b, o, rfl, hb, hrg⟩ := hW.ns i _ hi
  have c0 := hW.c
  have cP := fun W h => part_any (W := W) hn hx hi hd hD h
  have cQ := fun W h => part_any (W := W) hn hy hi he hE h
  clear hi hlt
  generalize d + b2n (brkN p x ⟨5, (p : Int), (q : Int), 0, noName, 0⟩) = z at *
  generalize e2 + b2n (brkN q y ⟨5, (p : Int), (q : Int), 0, noName, 0⟩) = z' at *
  go_enter Try.func36, Try.ntmps36
  go_wp2_with (first
    | (refine wpList_load_mid rfl 46 _ rfl b _ rfl (ndL ⟨5, (p : Int), (q : Int), 0, noName, 0⟩) _ hrg Try.underlying46 rfl infoNd ?_)
    | (refine wpList_allocS rfl 46 rfl (ndL noNd) Try.zeroValue46 ?_; intro W2 b5 F2 M2; have B2 := F2.trans (Below.refl _ W) (Nat.le_refl _); have hb5 : W.heap.size ≤ b5 := Nat.le_of_eq F2.at'.symm; clear F2)
    | (refine wpList_storeS rfl 46 _ _ rfl rfl (ndL ⟨5, (p : Int), (q : Int), 0, noName, 0⟩) rfl M2 (by simp [noNd, ndL]) infoNd (nd_one _) ?_; intro W3 U3 M3x; have M3 : IsS W3 b5 46 (ndL ⟨5, (p : Int), (q : Int), 0, noName, 0⟩) := M3x; have B3 := U3.trans B2 hb5; have hW3 := hW.below B3; have p3 := hW3.p; have c30 : W3.cell? ⟨b5, 0, none⟩ = some (.int .i64 5) := M3.cell 0; have c31 : W3.cell? ⟨b5, 1, none⟩ = some (.int .i64 (p : Int)) := M3.cell 1; have c32 : W3.cell? ⟨b5, 2, none⟩ = some (.int .i64 (q : Int)) := M3.cell 2; clear U3 M3x B2 M2))
  refine grow_allW (by kernel_rfl) (by kernel_rfl) ?_
  refine WG.cell rfl 60 _ rfl rfl p3 ldF ?_
  simp only [Act.put, List.setIfInBounds_toArray, List.set_cons_succ, List.set_cons_zero]
  refine WG.put rfl (v := .pointer (some ⟨b5, 1, none⟩)) (fun w => by first | rfl | (go_simp; done) | (simp [go_sem]; done)) ?_
  simp only [Act.put, List.setIfInBounds_toArray, List.set_cons_succ, List.set_cons_zero]
  refine WG.cell rfl 3 _ rfl rfl c31 ld3 ?_
  simp only [Act.put, List.setIfInBounds_toArray, List.set_cons_succ, List.set_cons_zero]
  refine WG.put rfl (v := .int .i64 (i : Int)) (fun w => by first | rfl | (go_simp; done) | (simp [go_sem]; done)) ?_
  simp only [Act.put, List.setIfInBounds_toArray, List.set_cons_succ, List.set_cons_zero]
  refine WG.call rfl (f := 34) (args := #[.int .i64 (p : Int), .int .i64 (i : Int), .pointer (some ⟨bc, 0, none⟩), .pointer (some ⟨bd, 0, none⟩)]) (v := .int .i64 (z : Int)) (fun w' hB' => cP _ (hW3.below hB')) (fun w => by first | rfl | (go_simp; done) | (simp [go_sem]; done)) ?_
  simp only [Act.put, List.setIfInBounds_toArray, List.set_cons_succ, List.set_cons_zero]
  refine WG.cell rfl 60 _ rfl rfl p3 ldF ?_
  simp only [Act.put, List.setIfInBounds_toArray, List.set_cons_succ, List.set_cons_zero]
  refine WG.put rfl (v := .pointer (some ⟨b5, 2, none⟩)) (fun w => by first | rfl | (go_simp; done) | (simp [go_sem]; done)) ?_
  simp only [Act.put, List.setIfInBounds_toArray, List.set_cons_succ, List.set_cons_zero]
  refine WG.cell rfl 3 _ rfl rfl c32 ld3 ?_
  simp only [Act.put, List.setIfInBounds_toArray, List.set_cons_succ, List.set_cons_zero]
  refine WG.put rfl (v := .int .i64 (i : Int)) (fun w => by first | rfl | (go_simp; done) | (simp [go_sem]; done)) ?_
  simp only [Act.put, List.setIfInBounds_toArray, List.set_cons_succ, List.set_cons_zero]
  refine WG.call rfl (f := 34) (args := #[.int .i64 (q : Int), .int .i64 (i : Int), .pointer (some ⟨bc, 0, none⟩), .pointer (some ⟨bd, 0, none⟩)]) (v := .int .i64 (z' : Int)) (fun w' hB' => cQ _ (hW3.below hB')) (fun w => by first | rfl | (go_simp; done) | (simp [go_sem]; done)) ?_
  simp only [Act.put, List.setIfInBounds_toArray, List.set_cons_succ, List.set_cons_zero]
  refine WG.put rfl (v := .int .i64 (if z < z' then (z' : Int) else (z : Int))) (fun w => by first | rfl | (go_simp; done) | (simp [go_sem]; done)) ?_
  simp only [Act.put, List.setIfInBounds_toArray, List.set_cons_succ, List.set_cons_zero]
  refine WG.put rfl (v := .int .i64 (if z < z' then (z' : Int) else (z : Int))) (fun w => by first | rfl | (go_simp; done) | (simp [go_sem]; done)) ?_
  simp only [Act.put, List.setIfInBounds_toArray, List.set_cons_succ, List.set_cons_zero]
  refine WG.nil ?_
  intro W6 B6
  go_wp2_with fail
  all_goals go_ret
  all_goals exact ⟨ret_int (by first | omega | (split <;> omega)), Below.then B3 B6⟩

theorem brk_first {K : Int} {p q : Nat} {x : Nd} (h : p ≠ q) : brkN p x ⟨K, (p : Int), (q : Int), 0, noName, 0⟩ = brk K x.op false := by
  have : ((p : Int) == (q : Int)) = false := beq_eq_false_iff_ne.2 (by omega)
  unfold brkN brk
  simp [this]
theorem brk_second {K : Int} {p q : Nat} {x : Nd} : brkN q x ⟨K, (p : Int), (q : Int), 0, noName, 0⟩ = brk K x.op true := by
  unfold brkN brk
  simp
theorem brk_not {p : Nat} {x : Nd} : brkN p x ⟨3, (p : Int), 0, 0, noName, 0⟩ = brk 3 x.op false := by
  unfold brkN brk
  simp
theorem deep_tree {bc bd bp : Nat} {ad : Option Addr} {cap : Nat} {ns : List Nd} (hn : ns.length ≤ 1024) : ∀ (t : Tr) (lo : Nat), At nmB ns t lo → DeepA bc bd bp ad cap ns (t.root lo) t.deep
  | .tru, lo, h => fun W hW => deep_leaf (i := lo) hn h (by decide) (by decide) (by decide) W hW
  | .is th nm v, lo, h => fun W hW => deep_leaf (i := lo) hn h.1 (by decide) (by decide) (by decide) W hW
  | .not t, lo, h => fun W hW => by
    obtain ⟨x, hx, hxo⟩ := h.1.root
    have hsz := h.1.lt
    have hdp := t.deep_le
    have := deep_not (d := t.deep) hn h.2 hx (by omega) (deep_tree hn t lo h.1) W hW
    rw [brk_not, hxo] at this
    exact this
  | .and x y, lo, h => fun W hW => by
    obtain ⟨m, hm, hmo⟩ := h.1.root
    obtain ⟨k, hk, hko⟩ := h.2.1.root
    have h1 := h.1.lt
    have h2 := h.2.1.lt
    have d1 := x.deep_le
    have d2 := y.deep_le
    have p1 := x.pos
    have p2 := y.pos
    have := deep_two4 hn h.2.2 hm hk (by omega) (by omega) (deep_tree hn x lo h.1) (deep_tree hn y _ h.2.1) W hW
    have e1 := brk_first (K := 4) (p := x.root lo) (q := y.root (lo + x.sz)) (x := m) (by unfold Tr.root; omega)
    have e2 := brk_second (K := 4) (p := x.root lo) (q := y.root (lo + x.sz)) (x := k)
    rw [hmo] at e1
    rw [hko] at e2
    have hr : (Tr.and x y).root lo = lo + x.sz + y.sz := by simp only [Tr.root, Tr.sz]; omega
    rw [hr]
    unfold Tr.root at e1 e2 this
    rw [e1, e2] at this
    exact this
  | .or x y, lo, h => fun W hW => by
    obtain ⟨m, hm, hmo⟩ := h.1.root
    obtain ⟨k, hk, hko⟩ := h.2.1.root
    have h1 := h.1.lt
    have h2 := h.2.1.lt
    have d1 := x.deep_le
    have d2 := y.deep_le
    have p1 := x.pos
    have p2 := y.pos
    have := deep_two5 hn h.2.2 hm hk (by omega) (by omega) (deep_tree hn x lo h.1) (deep_tree hn y _ h.2.1) W hW
    have e1 := brk_first (K := 5) (p := x.root lo) (q := y.root (lo + x.sz)) (x := m) (by unfold Tr.root; omega)
    have e2 := brk_second (K := 5) (p := x.root lo) (q := y.root (lo + x.sz)) (x := k)
    rw [hmo] at e1
    rw [hko] at e2
    have hr : (Tr.or x y).root lo = lo + x.sz + y.sz := by simp only [Tr.root, Tr.sz]; omega
    rw [hr]
    unfold Tr.root at e1 e2 this
    rw [e1, e2] at this
    exact this
end Go.Proofs.Ytcmkoffamolgmaa
