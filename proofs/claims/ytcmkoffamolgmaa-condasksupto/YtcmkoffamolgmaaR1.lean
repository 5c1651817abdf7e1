/- The reference's bracketed and Deep. -/
import Derived.Test.YtcmkoffamolgmaaC4
namespace Go.Proofs.Ytcmkoffamolgmaa
open Go.RowKit M
set_option linter.unusedSimpArgs false
set_option linter.unusedVariables false

set_option maxRecDepth 100000 in
set_option maxHeartbeats 1000000 in
theorem rbracketed_any (yo xo : Int) (s : Bool) (w : World) :
    Calls Try.prog 50 #[.int .i64 yo, .int .i64 xo, .bool s] w fun e w' => e = .returned (.bool (brk yo xo s)) ∧ w' = w := by
  obtain ⟨V, hV⟩ : ∃ V, brk yo xo s = V := ⟨_, rfl⟩
  rw [hV]
  have HV : Hid (V = brk yo xo s) := hV.symm
  clear hV
  cases s
  all_goals
    go_enter Try.func50, Try.ntmps50
    go_wp2_with fail
  all_goals go_ret
  all_goals refine ⟨ret_bool ?_, rfl⟩
  all_goals (rw [HV.out]; simp only [brk, ← beq_iff_eq (a := yo)]; simp [*])
/-- What the reference's Deep answers at a node. -/
def RDeepA (ad : Option Addr) (cap : Nat) (ns : List Nd) (i d : Nat) : Prop := ∀ W, Nds W ad ns → Calls Try.prog 31 #[.slice ad ns.length cap, .int .i64 (i : Int)] W fun e w' => e = .returned (.int .i64 (d : Int)) ∧ Below W.heap.size W w'

set_option maxRecDepth 100000 in
set_option maxHeartbeats 2000000 in
theorem rdeep_leaf {ad : Option Addr} {cap : Nat} {ns : List Nd} (hn : ns.length ≤ 1024) {i : Nat} {op fa fb th : Int} {nm : ByteArray} {val : Int} (hi : ns[i]? = some ⟨op, fa, fb, th, nm, val⟩) (h3 : op ≠ 3) (h4 : op ≠ 4) (h5 : op ≠ 5) (W : World) (hW : Nds W ad ns) :
    Calls Try.prog 31 #[.slice ad ns.length cap, .int .i64 (i : Int)] W fun e w' => e = .returned (.int .i64 0) ∧ Below W.heap.size W w' := by
  have hlt := (List.getElem?_eq_some_iff.1 hi).1
  have hli : (i : Int) < ns.length := by omega
  obtain ⟨b, o, rfl, hb, hrg⟩ := hW i _ hi
  have e3 : (op == 3) = false := by simpa using h3
  have e4 : (op == 4) = false := by simpa using h4
  have e5 : (op == 5) = false := by simpa using h5
  clear h3 h4 h5 hi hlt
  go_enter Try.func31, Try.ntmps31
  go_wp2_with (first
    | (refine wpList_load_mid rfl 46 _ rfl b _ rfl (ndL ⟨op, fa, fb, th, nm, val⟩) _ hrg Try.underlying46 rfl infoNd ?_)
    | (refine wpList_allocS rfl 46 rfl (ndL noNd) Try.zeroValue46 ?_; intro W2 b5 F2 M2; have B2 := F2.trans (Below.refl _ W) (Nat.le_refl _); have hb5 : W.heap.size ≤ b5 := Nat.le_of_eq F2.at'.symm; clear F2)
    | (refine wpList_storeS rfl 46 _ _ rfl rfl (ndL ⟨op, fa, fb, th, nm, val⟩) rfl M2 (by simp [noNd, ndL]) infoNd (nd_one _) ?_; intro W3 U3 M3x; have M3 : IsS W3 b5 46 (ndL ⟨op, fa, fb, th, nm, val⟩) := M3x; have B3 := U3.trans B2 hb5; have hW3 := hW.below B3; have c30 : W3.cell? ⟨b5, 0, none⟩ = some (.int .i64 op) := M3.cell 0; have c31 : W3.cell? ⟨b5, 1, none⟩ = some (.int .i64 fa) := M3.cell 1; have c32 : W3.cell? ⟨b5, 2, none⟩ = some (.int .i64 fb) := M3.cell 2; clear U3 M3x B2 M2))
  all_goals go_ret
  all_goals exact ⟨rfl, B3⟩

set_option maxRecDepth 100000 in
set_option maxHeartbeats 2000000 in
theorem rdeep_not {ad : Option Addr} {cap : Nat} {ns : List Nd} (hn : ns.length ≤ 1024) {i : Nat} {p d : Nat} {x : Nd} (hi : ns[i]? = some ⟨3, (p : Int), 0, 0, noName, 0⟩) (hx : ns[p]? = some x) (hd : d ≤ 4096) (hD : RDeepA ad cap ns p d) (W : World) (hW : Nds W ad ns) :
    Calls Try.prog 31 #[.slice ad ns.length cap, .int .i64 (i : Int)] W fun e w' => e = .returned (.int .i64 ((d + b2n (brk 3 x.op false) + 1 : Nat) : Int)) ∧ Below W.heap.size W w' := by
  have hlt := (List.getElem?_eq_some_iff.1 hi).1
  have hli : (i : Int) < ns.length := by omega
  obtain ⟨b, o, rfl, hb, hrg⟩ := hW i _ hi
  have hpl := (List.getElem?_eq_some_iff.1 hx).1
  have hpi : (p : Int) < ns.length := by omega
  have cx : ∀ W', Nds W' (some ⟨b, o, none⟩) ns → W'.cell? ⟨b, o + p * 6, none⟩ = some (.int .i64 x.op) := fun W' h => by
    obtain ⟨b', o', e, _, _, c, _⟩ := nds_cell h hx
    cases e; exact c
  clear hi hlt hx hpl
  generalize x.op = xo at *
  clear x
  go_enter Try.func31, Try.ntmps31
  go_wp2_with (first
    | (refine wpList_load_mid rfl 46 _ rfl b _ rfl (ndL ⟨3, (p : Int), 0, 0, noName, 0⟩) _ hrg Try.underlying46 rfl infoNd ?_)
    | (refine wpList_allocS rfl 46 rfl (ndL noNd) Try.zeroValue46 ?_; intro W2 b5 F2 M2; have B2 := F2.trans (Below.refl _ W) (Nat.le_refl _); have hb5 : W.heap.size ≤ b5 := Nat.le_of_eq F2.at'.symm; clear F2)
    | (refine wpList_storeS rfl 46 _ _ rfl rfl (ndL ⟨3, (p : Int), 0, 0, noName, 0⟩) rfl M2 (by simp [noNd, ndL]) infoNd (nd_one _) ?_; intro W3 U3 M3x; have M3 : IsS W3 b5 46 (ndL ⟨3, (p : Int), 0, 0, noName, 0⟩) := M3x; have B3 := U3.trans B2 hb5; have hW3 := hW.below B3; have c30 : W3.cell? ⟨b5, 0, none⟩ = some (.int .i64 3) := M3.cell 0; have c31 : W3.cell? ⟨b5, 1, none⟩ = some (.int .i64 (p : Int)) := M3.cell 1; have c32 : W3.cell? ⟨b5, 2, none⟩ = some (.int .i64 0) := M3.cell 2; clear U3 M3x B2 M2)
    | (go_at_call 31; refine (hD _ hW3).mono ?_; rintro e W4 ⟨rfl, B4⟩; have M4 := M3.grown B4; have B5 := Below.then B3 B4; have c40 : W4.cell? ⟨b5, 0, none⟩ = some (.int .i64 3) := M4.cell 0; have c41 : W4.cell? ⟨b5, 1, none⟩ = some (.int .i64 (p : Int)) := M4.cell 1; have x4 := cx _ (hW3.below B4); clear B4 B3 M3 hW3))
  go_quiet ((go_at_call 50; exact Calls.quiet_of_same (rbracketed_any 3 xo false _)))
  have c50 : (W4.drewN nq).cell? ⟨b5, 0, none⟩ = some (.int .i64 3) := c40
  have B6 : Below W.heap.size W (W4.drewN nq) := below_drewN B5 _
  clear c40 c41 x4 B5 M4
  generalize W4.drewN nq = W5 at *
  obtain ⟨V, hV⟩ : ∃ V, brk 3 xo false = V := ⟨_, rfl⟩
  rw [hV]
  cases V
  all_goals go_wp2_with fail
  all_goals go_ret
  all_goals refine ⟨ret_int ?_, B6⟩
  all_goals (simp [b2n, hV])

set_option maxRecDepth 100000 in
set_option maxHeartbeats 2000000 in
theorem rdeep_two4 {ad : Option Addr} {cap : Nat} {ns : List Nd} (hn : ns.length ≤ 1024) {i : Nat} {p q d d2 : Nat} {x y : Nd} (hi : ns[i]? = some ⟨4, (p : Int), (q : Int), 0, noName, 0⟩) (hx : ns[p]? = some x) (hy : ns[q]? = some y) (hd : d ≤ 4096) (hd2 : d2 ≤ 4096) (hD : RDeepA ad cap ns p d) (hE : RDeepA ad cap ns q d2) (W : World) (hW : Nds W ad ns) :
    Calls Try.prog 31 #[.slice ad ns.length cap, .int .i64 (i : Int)] W fun e w' => e = .returned (.int .i64 ((max (d + b2n (brk 4 x.op false)) (d2 + b2n (brk 4 y.op true)) : Nat) : Int)) ∧ Below W.heap.size W w' := by
  have hlt := (List.getElem?_eq_some_iff.1 hi).1
  have hli : (i : Int) < ns.length := by omega
  obtain ⟨b, o, rfl, hb, hrg⟩ := hW i _ hi
  have hpl := (List.getElem?_eq_some_iff.1 hx).1
  have hpi : (p : Int) < ns.length := by omega
  have hql := (List.getElem?_eq_some_iff.1 hy).1
  have hqi : (q : Int) < ns.length := by omega
  have cx : ∀ W', Nds W' (some ⟨b, o, none⟩) ns → W'.cell? ⟨b, o + p * 6, none⟩ = some (.int .i64 x.op) := fun W' h => by
    obtain ⟨b', o', e, _, _, c, _⟩ := nds_cell h hx
    cases e; exact c
  have cy : ∀ W', Nds W' (some ⟨b, o, none⟩) ns → W'.cell? ⟨b, o + q * 6, none⟩ = some (.int .i64 y.op) := fun W' h => by
    obtain ⟨b', o', e, _, _, c, _⟩ := nds_cell h hy
    cases e; exact c
  clear hi hlt hx hpl hy hql
  generalize x.op = xo at *
  generalize y.op = yo at *
  clear x y
  go_enter Try.func31, Try.ntmps31
  go_wp2_with (first
    | (refine wpList_load_mid rfl 46 _ rfl b _ rfl (ndL ⟨4, (p : Int), (q : Int), 0, noName, 0⟩) _ hrg Try.underlying46 rfl infoNd ?_)
    | (refine wpList_allocS rfl 46 rfl (ndL noNd) Try.zeroValue46 ?_; intro W2 b5 F2 M2; have B2 := F2.trans (Below.refl _ W) (Nat.le_refl _); have hb5 : W.heap.size ≤ b5 := Nat.le_of_eq F2.at'.symm; clear F2)
    | (refine wpList_storeS rfl 46 _ _ rfl rfl (ndL ⟨4, (p : Int), (q : Int), 0, noName, 0⟩) rfl M2 (by simp [noNd, ndL]) infoNd (nd_one _) ?_; intro W3 U3 M3x; have M3 : IsS W3 b5 46 (ndL ⟨4, (p : Int), (q : Int), 0, noName, 0⟩) := M3x; have B3 := U3.trans B2 hb5; have hW3 := hW.below B3; have c30 : W3.cell? ⟨b5, 0, none⟩ = some (.int .i64 4) := M3.cell 0; have c31 : W3.cell? ⟨b5, 1, none⟩ = some (.int .i64 (p : Int)) := M3.cell 1; have c32 : W3.cell? ⟨b5, 2, none⟩ = some (.int .i64 (q : Int)) := M3.cell 2; clear U3 M3x B2 M2)
    | (go_at_call 31; refine (hD _ hW3).mono ?_; rintro e W4 ⟨rfl, B4⟩; have M4 := M3.grown B4; have hW4 := hW3.below B4; have B5 := Below.then B3 B4; have c40 : W4.cell? ⟨b5, 0, none⟩ = some (.int .i64 4) := M4.cell 0; have c41 : W4.cell? ⟨b5, 1, none⟩ = some (.int .i64 (p : Int)) := M4.cell 1; have x4 := cx _ hW4; clear B4 B3 M3 hW3))
  go_quiet ((go_at_call 50; exact Calls.quiet_of_same (rbracketed_any 4 xo false _)))
  have M5 : IsS (W4.drewN nq) b5 46 (ndL ⟨4, (p : Int), (q : Int), 0, noName, 0⟩) := M4
  have hW5 : Nds (W4.drewN nq) (some ⟨b, o, none⟩) ns := hW4
  have B6 : Below W.heap.size W (W4.drewN nq) := below_drewN B5 _
  clear c40 c41 x4 B5 M4 hW4
  generalize W4.drewN nq = W5 at *
  have c50 : W5.cell? ⟨b5, 0, none⟩ = some (.int .i64 4) := M5.cell 0
  have c52 : W5.cell? ⟨b5, 2, none⟩ = some (.int .i64 (q : Int)) := M5.cell 2
  obtain ⟨V, hV⟩ : ∃ V, brk 4 xo false = V := ⟨_, rfl⟩
  rw [hV]
  cases V
  all_goals
    go_wp2_with (first
      | (go_at_call 31; refine (hE _ hW5).mono ?_; rintro e W6 ⟨rfl, B7⟩; have M6 := M5.grown B7; have B8 := Below.then B6 B7; have c60 : W6.cell? ⟨b5, 0, none⟩ = some (.int .i64 4) := M6.cell 0; have c62 : W6.cell? ⟨b5, 2, none⟩ = some (.int .i64 (q : Int)) := M6.cell 2; have y6 := cy _ (hW5.below B7); clear B7 M5 hW5 B6))
    go_quiet ((go_at_call 50; exact Calls.quiet_of_same (rbracketed_any 4 yo true _)))
    have c70 : (W6.drewN nq).cell? ⟨b5, 0, none⟩ = some (.int .i64 4) := c60
    have B9 : Below W.heap.size W (W6.drewN nq) := below_drewN B8 _
    clear c60 c62 y6 B8 M6
    generalize W6.drewN nq = W7 at *
    obtain ⟨V2, hV2⟩ : ∃ V2, brk 4 yo true = V2 := ⟨_, rfl⟩
    rw [hV2]
    cases V2
  all_goals go_wp2_with fail
  all_goals go_ret
  all_goals refine ⟨ret_int ?_, B9⟩
  all_goals (simp only [b2n, hV, hV2, reduceIte, Bool.false_eq_true]; omega)

set_option maxRecDepth 100000 in
set_option maxHeartbeats 2000000 in
theorem rdeep_two5 {ad : Option Addr} {cap : Nat} {ns : List Nd} (hn : ns.length ≤ 1024) {i : Nat} {p q d d2 : Nat} {x y : Nd} (hi : ns[i]? = some ⟨5, (p : Int), (q : Int), 0, noName, 0⟩) (hx : ns[p]? = some x) (hy : ns[q]? = some y) (hd : d ≤ 4096) (hd2 : d2 ≤ 4096) (hD : RDeepA ad cap ns p d) (hE : RDeepA ad cap ns q d2) (W : World) (hW : Nds W ad ns) :
    Calls Try.prog 31 #[.slice ad ns.length cap, .int .i64 (i : Int)] W fun e w' => e = .returned (.int .i64 ((max (d + b2n (brk 5 x.op false)) (d2 + b2n (brk 5 y.op true)) : Nat) : Int)) ∧ Below W.heap.size W w' := by
  have hlt := (List.getElem?_eq_some_iff.1 hi).1
  have hli : (i : Int) < ns.length := by omega
  obtain ⟨b, o, rfl, hb, hrg⟩ := hW i _ hi
  have hpl := (List.getElem?_eq_some_iff.1 hx).1
  have hpi : (p : Int) < ns.length := by omega
  have hql := (List.getElem?_eq_some_iff.1 hy).1
  have hqi : (q : Int) < ns.length := by omega
  have cx : ∀ W', Nds W' (some ⟨b, o, none⟩) ns → W'.cell? ⟨b, o + p * 6, none⟩ = some (.int .i64 x.op) := fun W' h => by
    obtain ⟨b', o', e, _, _, c, _⟩ := nds_cell h hx
    cases e; exact c
  have cy : ∀ W', Nds W' (some ⟨b, o, none⟩) ns → W'.cell? ⟨b, o + q * 6, none⟩ = some (.int .i64 y.op) := fun W' h => by
    obtain ⟨b', o', e, _, _, c, _⟩ := nds_cell h hy
    cases e; exact c
  clear hi hlt hx hpl hy hql
  generalize x.op = xo at *
  generalize y.op = yo at *
  clear x y
  go_enter Try.func31, Try.ntmps31
  go_wp2_with (first
    | (refine wpList_load_mid rfl 46 _ rfl b _ rfl (ndL ⟨5, (p : Int), (q : Int), 0, noName, 0⟩) _ hrg Try.underlying46 rfl infoNd ?_)
    | (refine wpList_allocS rfl 46 rfl (ndL noNd) Try.zeroValue46 ?_; intro W2 b5 F2 M2; have B2 := F2.trans (Below.refl _ W) (Nat.le_refl _); have hb5 : W.heap.size ≤ b5 := Nat.le_of_eq F2.at'.symm; clear F2)
    | (refine wpList_storeS rfl 46 _ _ rfl rfl (ndL ⟨5, (p : Int), (q : Int), 0, noName, 0⟩) rfl M2 (by simp [noNd, ndL]) infoNd (nd_one _) ?_; intro W3 U3 M3x; have M3 : IsS W3 b5 46 (ndL ⟨5, (p : Int), (q : Int), 0, noName, 0⟩) := M3x; have B3 := U3.trans B2 hb5; have hW3 := hW.below B3; have c30 : W3.cell? ⟨b5, 0, none⟩ = some (.int .i64 5) := M3.cell 0; have c31 : W3.cell? ⟨b5, 1, none⟩ = some (.int .i64 (p : Int)) := M3.cell 1; have c32 : W3.cell? ⟨b5, 2, none⟩ = some (.int .i64 (q : Int)) := M3.cell 2; clear U3 M3x B2 M2)
    | (go_at_call 31; refine (hD _ hW3).mono ?_; rintro e W4 ⟨rfl, B4⟩; have M4 := M3.grown B4; have hW4 := hW3.below B4; have B5 := Below.then B3 B4; have c40 : W4.cell? ⟨b5, 0, none⟩ = some (.int .i64 5) := M4.cell 0; have c41 : W4.cell? ⟨b5, 1, none⟩ = some (.int .i64 (p : Int)) := M4.cell 1; have x4 := cx _ hW4; clear B4 B3 M3 hW3))
  go_quiet ((go_at_call 50; exact Calls.quiet_of_same (rbracketed_any 5 xo false _)))
  have M5 : IsS (W4.drewN nq) b5 46 (ndL ⟨5, (p : Int), (q : Int), 0, noName, 0⟩) := M4
  have hW5 : Nds (W4.drewN nq) (some ⟨b, o, none⟩) ns := hW4
  have B6 : Below W.heap.size W (W4.drewN nq) := below_drewN B5 _
  clear c40 c41 x4 B5 M4 hW4
  generalize W4.drewN nq = W5 at *
  have c50 : W5.cell? ⟨b5, 0, none⟩ = some (.int .i64 5) := M5.cell 0
  have c52 : W5.cell? ⟨b5, 2, none⟩ = some (.int .i64 (q : Int)) := M5.cell 2
  obtain ⟨V, hV⟩ : ∃ V, brk 5 xo false = V := ⟨_, rfl⟩
  rw [hV]
  cases V
  all_goals
    go_wp2_with (first
      | (go_at_call 31; refine (hE _ hW5).mono ?_; rintro e W6 ⟨rfl, B7⟩; have M6 := M5.grown B7; have B8 := Below.then B6 B7; have c60 : W6.cell? ⟨b5, 0, none⟩ = some (.int .i64 5) := M6.cell 0; have c62 : W6.cell? ⟨b5, 2, none⟩ = some (.int .i64 (q : Int)) := M6.cell 2; have y6 := cy _ (hW5.below B7); clear B7 M5 hW5 B6))
    go_quiet ((go_at_call 50; exact Calls.quiet_of_same (rbracketed_any 5 yo true _)))
    have c70 : (W6.drewN nq).cell? ⟨b5, 0, none⟩ = some (.int .i64 5) := c60
    have B9 : Below W.heap.size W (W6.drewN nq) := below_drewN B8 _
    clear c60 c62 y6 B8 M6
    generalize W6.drewN nq = W7 at *
    obtain ⟨V2, hV2⟩ : ∃ V2, brk 5 yo true = V2 := ⟨_, rfl⟩
    rw [hV2]
    cases V2
  all_goals go_wp2_with fail
  all_goals go_ret
  all_goals refine ⟨ret_int ?_, B9⟩
  all_goals (simp only [b2n, hV, hV2, reduceIte, Bool.false_eq_true]; omega)

theorem rdeep_tree {ad : Option Addr} {cap : Nat} {ns : List Nd} (hn : ns.length ≤ 1024) : ∀ (t : Tr) (lo : Nat), At nmB ns t lo → RDeepA ad cap ns (t.root lo) t.deep
  | .tru, lo, h => fun W hW => rdeep_leaf (i := lo) hn h (by decide) (by decide) (by decide) W hW
  | .is th nm v, lo, h => fun W hW => rdeep_leaf (i := lo) hn h.1 (by decide) (by decide) (by decide) W hW
  | .not t, lo, h => fun W hW => by
    obtain ⟨x, hx, hxo⟩ := h.1.root
    have hsz := h.1.lt
    have hdp := t.deep_le
    have := rdeep_not (cap := cap) (d := t.deep) hn h.2 hx (by omega) (rdeep_tree hn t lo h.1) W hW
    rw [hxo] at this
    exact this
  | .and x y, lo, h => fun W hW => by
    obtain ⟨m, hm, hmo⟩ := h.1.root
    obtain ⟨k, hk, hko⟩ := h.2.1.root
    have h1 := h.1.lt
    have h2 := h.2.1.lt
    have d1 := x.deep_le
    have d2 := y.deep_le
    have := rdeep_two4 (cap := cap) hn h.2.2 hm hk (by omega) (by omega) (rdeep_tree hn x lo h.1) (rdeep_tree hn y _ h.2.1) W hW
    rw [hmo, hko] at this
    have hr : (Tr.and x y).root lo = lo + x.sz + y.sz := by simp only [Tr.root, Tr.sz]; omega
    rw [hr]
    exact this
  | .or x y, lo, h => fun W hW => by
    obtain ⟨m, hm, hmo⟩ := h.1.root
    obtain ⟨k, hk, hko⟩ := h.2.1.root
    have h1 := h.1.lt
    have h2 := h.2.1.lt
    have d1 := x.deep_le
    have d2 := y.deep_le
    have := rdeep_two5 (cap := cap) hn h.2.2 hm hk (by omega) (by omega) (rdeep_tree hn x lo h.1) (rdeep_tree hn y _ h.2.1) W hW
    rw [hmo, hko] at this
    have hr : (Tr.or x y).root lo = lo + x.sz + y.sz := by simp only [Tr.root, Tr.sz]; omega
    rw [hr]
    exact this
end Go.Proofs.Ytcmkoffamolgmaa
