/- The reference's part and text. -/
import Derived.Test.YtjnbhcakfenbhaaDoorTZ
import Derived.Test.YtjnbhcakfenbhaaDoorR5
namespace Go.Proofs.YtjnbhcakfenbhaaDoor
open Go.RowKit Go.Shelf M
set_option linter.unusedSimpArgs false
set_option linter.unusedVariables false

/-- What the reference's text answers at a node. -/
def RTxA (ad : Option Addr) (cap : Nat) (ns : List Nd) (i : Nat) (tx : List UInt8) (m : Nat) : Prop :=
  tx.length ≤ m ∧ ∀ W, Nds W ad ns → Calls Tryd.prog 26 #[.slice ad ns.length cap, .int .i64 (i : Int)] W fun e w' => e = .returned (.string ⟨tx.toArray⟩) ∧ Below W.heap.size W w'
theorem add2 (a b c : List UInt8) (h : a.length + b.length ≤ 9223372036854775807) (e : a ++ b = c) : ∀ W : World, (Op.stringOp .add ⟨a.toArray⟩ ⟨b.toArray⟩).run Tryd.prog W = .ok (.string ⟨c.toArray⟩) W := fun W => by rw [addS W a b h, e]

set_option maxRecDepth 100000 in
set_option maxHeartbeats 1000000 in
theorem rpart_any {ad : Option Addr} {cap : Nat} {ns : List Nd} {p m : Nat} {x : Nd} {tx : List UInt8} (hx : ns[p]? = some x) (hA : RTxA ad cap ns p tx m) (hm : m ≤ 1000000) (K : Int) (sc : Bool) (W : World) (hW : Nds W ad ns) :
    Calls Tryd.prog 41 #[.slice ad ns.length cap, .int .i64 K, .int .i64 (p : Int), .bool sc] W fun e w' => e = .returned (.string ⟨(wrapB (brk K x.op sc) tx).toArray⟩) ∧ Below W.heap.size W w' := by
  have hpl := (List.getElem?_eq_some_iff.1 hx).1
  have hpi : (p : Int) < ns.length := by omega
  have HA : Hid (RTxA ad cap ns p tx m) := hA
  have cx : ∀ W', Nds W' ad ns → ∃ b o, ad = some ⟨b, o, none⟩ ∧ W'.cell? ⟨b, o + p * 6, none⟩ = some (.int .i64 x.op) := fun W' h => by
    obtain ⟨b', o', e, _, _, c, _⟩ := nds_cell h hx
    exact ⟨b', o', e, c⟩
  obtain ⟨b, o, rfl, _⟩ := cx W hW
  have cy : ∀ W', Nds W' (some ⟨b, o, none⟩) ns → W'.cell? ⟨b, o + p * 6, none⟩ = some (.int .i64 x.op) := fun W' h => by
    obtain ⟨b', o', e, c⟩ := cx W' h
    cases e; exact c
  have cb := fun W => rbracketed_any K x.op sc W
  have htl := hA.1
  clear cx hx hpl hA
  generalize x.op = xo at *
  clear x
  cases hbk : brk K xo sc with
  | false =>
    rw [hbk] at cb
    go_enter Tryd.func41, Tryd.ntmps41
    go_wp2_with (first
      | (go_at_call 26; refine (HA.out.2 W hW).mono ?_; rintro e W1 ⟨rfl, B1⟩; have c1 := cy W1 (hW.below B1))
      | (go_at_call 47; refine (cb _).mono ?_; rintro e w' ⟨rfl, hw'⟩; replace hw' := hw'.symm; subst hw'))
    go_ret
    exact ⟨rfl, B1⟩
  | true =>
    rw [hbk] at cb
    obtain ⟨t1, h1⟩ : ∃ t1, [40] ++ tx = t1 := ⟨_, rfl⟩
    obtain ⟨t2, h2⟩ : ∃ t2, t1 ++ [41] = t2 := ⟨_, rfl⟩
    have ha1 := add2 [40] tx t1 (by simp; omega) h1
    have ha2 := add2 t1 [41] t2 (by rw [← h1]; simp; omega) h2
    have HR : Hid (wrapB true tx = t2) := (by show _ = _; rw [← h2, ← h1]; simp [wrapB])
    clear h1 h2
    go_enter Tryd.func41, Tryd.ntmps41
    go_wp2_with (first
      | (go_at_call 26; refine (HA.out.2 W hW).mono ?_; rintro e W1 ⟨rfl, B1⟩; have c1 := cy W1 (hW.below B1))
      | (go_at_call 47; refine (cb _).mono ?_; rintro e w' ⟨rfl, hw'⟩; replace hw' := hw'.symm; subst hw'))
    go_ret
    exact ⟨by rw [HR.out]; rfl, B1⟩

set_option maxRecDepth 100000 in
set_option maxHeartbeats 2000000 in
theorem rtx_tru {ad : Option Addr} {cap : Nat} {ns : List Nd} (hn : ns.length ≤ 1024) {i : Nat} (hi : ns[i]? = some ⟨1, 0, 0, 0, noName, 0⟩) : RTxA ad cap ns i [116, 114, 117, 101] 200 := by
  refine ⟨by simp, ?_⟩
  intro W hW
  have hlt := (List.getElem?_eq_some_iff.1 hi).1
  have hli : (i : Int) < ns.length := by omega
  obtain ⟨b, o, rfl, hb, hrg⟩ := hW i _ hi
  clear hi
  clear hlt
  go_enter Tryd.func26, Tryd.ntmps26
  go_wp2_with (first
    | (refine wpList_load_mid rfl 52 _ rfl b _ rfl (ndL ⟨1, 0, 0, 0, noName, 0⟩) _ hrg Tryd.underlying52 rfl infoNd ?_)
    | (refine wpList_allocS rfl 52 rfl (ndL noNd) Tryd.zeroValue52 ?_; intro W2 b8 F2 M2; have B2 := F2.trans (Below.refl _ W) (Nat.le_refl _); have h8 : W.heap.size ≤ b8 := Nat.le_of_eq F2.at'.symm; clear F2)
    | (refine wpList_storeS rfl 52 _ _ rfl rfl (ndL ⟨1, 0, 0, 0, noName, 0⟩) rfl M2 (by simp [noNd, ndL]) infoNd (nd_one _) ?_; intro W3 U3 M3x; have M3 : IsS W3 b8 52 (ndL ⟨1, 0, 0, 0, noName, 0⟩) := M3x; have B3 := U3.trans B2 h8; have hW3 := hW.below B3; have c30 : W3.cell? ⟨b8, 0, none⟩ = some (.int .i64 1) := M3.cell 0; have c31 : W3.cell? ⟨b8, 1, none⟩ = some (.int .i64 0) := M3.cell 1; have c32 : W3.cell? ⟨b8, 2, none⟩ = some (.int .i64 0) := M3.cell 2; clear U3 M3x B2 M2))
  go_ret
  exact ⟨rfl, B3⟩

set_option maxRecDepth 100000 in
set_option maxHeartbeats 2000000 in
theorem rtx_not {ad : Option Addr} {cap : Nat} {ns : List Nd} (hn : ns.length ≤ 1024) {i : Nat} {p m : Nat} {x : Nd} {tx : List UInt8} (hi : ns[i]? = some ⟨3, (p : Int), 0, 0, noName, 0⟩) (hx : ns[p]? = some x) (hm : m ≤ 900000) (hA : RTxA ad cap ns p tx m) : RTxA ad cap ns i (126 :: wrapB (brk 3 x.op false) tx) (m + 200) := by
  refine ⟨by have := hA.1; have := wrapB_le (brk 3 x.op false) tx; simp only [List.length_cons]; omega, ?_⟩
  intro W hW
  have hlt := (List.getElem?_eq_some_iff.1 hi).1
  have hli : (i : Int) < ns.length := by omega
  obtain ⟨b, o, rfl, hb, hrg⟩ := hW i _ hi
  have cP := fun W h => rpart_any hx hA (by omega) 3 false W h
  have hwl := wrapB_le (brk 3 x.op false) tx
  have htl := hA.1
  clear hi hx hA
  generalize wrapB (brk 3 x.op false) tx = wt at *
  obtain ⟨t1, h1⟩ : ∃ t1, [126] ++ wt = t1 := ⟨_, rfl⟩
  have ha1 := add2 [126] wt t1 (by simp; omega) h1
  have HR : Hid (126 :: wt = t1) := (by show _ = _; rw [← h1]; rfl)
  clear h1
  clear hlt
  go_enter Tryd.func26, Tryd.ntmps26
  go_wp2_with (first
    | (refine wpList_load_mid rfl 52 _ rfl b _ rfl (ndL ⟨3, (p : Int), 0, 0, noName, 0⟩) _ hrg Tryd.underlying52 rfl infoNd ?_)
    | (refine wpList_allocS rfl 52 rfl (ndL noNd) Tryd.zeroValue52 ?_; intro W2 b8 F2 M2; have B2 := F2.trans (Below.refl _ W) (Nat.le_refl _); have h8 : W.heap.size ≤ b8 := Nat.le_of_eq F2.at'.symm; clear F2)
    | (refine wpList_storeS rfl 52 _ _ rfl rfl (ndL ⟨3, (p : Int), 0, 0, noName, 0⟩) rfl M2 (by simp [noNd, ndL]) infoNd (nd_one _) ?_; intro W3 U3 M3x; have M3 : IsS W3 b8 52 (ndL ⟨3, (p : Int), 0, 0, noName, 0⟩) := M3x; have B3 := U3.trans B2 h8; have hW3 := hW.below B3; have c30 : W3.cell? ⟨b8, 0, none⟩ = some (.int .i64 3) := M3.cell 0; have c31 : W3.cell? ⟨b8, 1, none⟩ = some (.int .i64 (p : Int)) := M3.cell 1; have c32 : W3.cell? ⟨b8, 2, none⟩ = some (.int .i64 0) := M3.cell 2; clear U3 M3x B2 M2)
    | (go_at_call 41; refine (cP W3 hW3).mono ?_; rintro e W4 ⟨rfl, B4⟩))
  go_ret
  exact ⟨by rw [HR.out]; rfl, Below.then B3 B4⟩

set_option maxRecDepth 100000 in
set_option maxHeartbeats 2000000 in
theorem rtx_two4 {ad : Option Addr} {cap : Nat} {ns : List Nd} (hn : ns.length ≤ 1024) {i : Nat} {p q m m2 : Nat} {x y : Nd} {tx ty : List UInt8} (hi : ns[i]? = some ⟨4, (p : Int), (q : Int), 0, noName, 0⟩) (hx : ns[p]? = some x) (hy : ns[q]? = some y) (hm : m ≤ 400000) (hm2 : m2 ≤ 400000) (hA : RTxA ad cap ns p tx m) (hE : RTxA ad cap ns q ty m2) : RTxA ad cap ns i (wrapB (brk 4 x.op false) tx ++ [32, 47, 92, 32] ++ wrapB (brk 4 y.op true) ty) (m + m2 + 200) := by
  refine ⟨by have := hA.1; have := hE.1; have := wrapB_le (brk 4 x.op false) tx; have := wrapB_le (brk 4 y.op true) ty; simp only [List.length_append, List.length_cons, List.length_nil]; omega, ?_⟩
  intro W hW
  have hlt := (List.getElem?_eq_some_iff.1 hi).1
  have hli : (i : Int) < ns.length := by omega
  obtain ⟨b, o, rfl, hb, hrg⟩ := hW i _ hi
  have cP := fun W h => rpart_any hx hA (by omega) 4 false W h
  have cQ := fun W h => rpart_any hy hE (by omega) 4 true W h
  have hwl := wrapB_le (brk 4 x.op false) tx
  have hwl2 := wrapB_le (brk 4 y.op true) ty
  have htl := hA.1
  have htl2 := hE.1
  clear hi hx hy hA hE
  generalize wrapB (brk 4 x.op false) tx = wx at *
  generalize wrapB (brk 4 y.op true) ty = wy at *
  obtain ⟨t1, h1⟩ : ∃ t1, wx ++ [32, 47, 92, 32] = t1 := ⟨_, rfl⟩
  obtain ⟨t2, h2⟩ : ∃ t2, t1 ++ wy = t2 := ⟨_, rfl⟩
  have ha1 := add2 wx [32, 47, 92, 32] t1 (by simp; omega) h1
  have ha2 := add2 t1 wy t2 (by rw [← h1]; simp; omega) h2
  have HR : Hid (wx ++ [32, 47, 92, 32] ++ wy = t2) := (by show _ = _; rw [← h2, ← h1])
  clear h1 h2
  clear hlt
  go_enter Tryd.func26, Tryd.ntmps26
  go_wp2_with (first
    | (refine wpList_load_mid rfl 52 _ rfl b _ rfl (ndL ⟨4, (p : Int), (q : Int), 0, noName, 0⟩) _ hrg Tryd.underlying52 rfl infoNd ?_)
    | (refine wpList_allocS rfl 52 rfl (ndL noNd) Tryd.zeroValue52 ?_; intro W2 b8 F2 M2; have B2 := F2.trans (Below.refl _ W) (Nat.le_refl _); have h8 : W.heap.size ≤ b8 := Nat.le_of_eq F2.at'.symm; clear F2)
    | (refine wpList_storeS rfl 52 _ _ rfl rfl (ndL ⟨4, (p : Int), (q : Int), 0, noName, 0⟩) rfl M2 (by simp [noNd, ndL]) infoNd (nd_one _) ?_; intro W3 U3 M3x; have M3 : IsS W3 b8 52 (ndL ⟨4, (p : Int), (q : Int), 0, noName, 0⟩) := M3x; have B3 := U3.trans B2 h8; have hW3 := hW.below B3; have c30 : W3.cell? ⟨b8, 0, none⟩ = some (.int .i64 4) := M3.cell 0; have c31 : W3.cell? ⟨b8, 1, none⟩ = some (.int .i64 (p : Int)) := M3.cell 1; have c32 : W3.cell? ⟨b8, 2, none⟩ = some (.int .i64 (q : Int)) := M3.cell 2; clear U3 M3x B2 M2))
  refine grow_allW (by kernel_rfl) (by kernel_rfl) ?_
  refine WG.put rfl (v := .slice (some ⟨b, o, none⟩) ns.length cap) (fun w => by first | rfl | (go_simp; done) | (simp [go_sem]; done)) ?_
  simp only [Act.put, List.setIfInBounds_toArray, List.set_cons_succ, List.set_cons_zero]
  refine WG.put rfl (v := .pointer (some ⟨b8, 0, none⟩)) (fun w => by first | rfl | (go_simp; done) | (simp [go_sem]; done)) ?_
  simp only [Act.put, List.setIfInBounds_toArray, List.set_cons_succ, List.set_cons_zero]
  refine WG.cell rfl 3 _ rfl rfl c30 ld3 ?_
  simp only [Act.put, List.setIfInBounds_toArray, List.set_cons_succ, List.set_cons_zero]
  refine WG.put rfl (v := .pointer (some ⟨b8, 1, none⟩)) (fun w => by first | rfl | (go_simp; done) | (simp [go_sem]; done)) ?_
  simp only [Act.put, List.setIfInBounds_toArray, List.set_cons_succ, List.set_cons_zero]
  refine WG.cell rfl 3 _ rfl rfl c31 ld3 ?_
  simp only [Act.put, List.setIfInBounds_toArray, List.set_cons_succ, List.set_cons_zero]
  refine WG.call rfl (f := 41) (args := #[.slice (some ⟨b, o, none⟩) ns.length cap, .int .i64 4, .int .i64 (p : Int), .bool false]) (v := .string ⟨wx.toArray⟩) (fun w' hB' => cP w' (hW3.below hB')) (fun w => by first | rfl | (go_simp; done) | (simp [go_sem]; done)) ?_
  simp only [Act.put, List.setIfInBounds_toArray, List.set_cons_succ, List.set_cons_zero]
  refine WG.put rfl (v := .string ⟨t1.toArray⟩) (fun w => by first | rfl | (go_simp; done) | (simp [go_sem, ha1]; done)) ?_
  simp only [Act.put, List.setIfInBounds_toArray, List.set_cons_succ, List.set_cons_zero]
  refine WG.put rfl (v := .slice (some ⟨b, o, none⟩) ns.length cap) (fun w => by first | rfl | (go_simp; done) | (simp [go_sem]; done)) ?_
  simp only [Act.put, List.setIfInBounds_toArray, List.set_cons_succ, List.set_cons_zero]
  refine WG.put rfl (v := .pointer (some ⟨b8, 0, none⟩)) (fun w => by first | rfl | (go_simp; done) | (simp [go_sem]; done)) ?_
  simp only [Act.put, List.setIfInBounds_toArray, List.set_cons_succ, List.set_cons_zero]
  refine WG.cell rfl 3 _ rfl rfl c30 ld3 ?_
  simp only [Act.put, List.setIfInBounds_toArray, List.set_cons_succ, List.set_cons_zero]
  refine WG.put rfl (v := .pointer (some ⟨b8, 2, none⟩)) (fun w => by first | rfl | (go_simp; done) | (simp [go_sem]; done)) ?_
  simp only [Act.put, List.setIfInBounds_toArray, List.set_cons_succ, List.set_cons_zero]
  refine WG.cell rfl 3 _ rfl rfl c32 ld3 ?_
  simp only [Act.put, List.setIfInBounds_toArray, List.set_cons_succ, List.set_cons_zero]
  refine WG.call rfl (f := 41) (args := #[.slice (some ⟨b, o, none⟩) ns.length cap, .int .i64 4, .int .i64 (q : Int), .bool true]) (v := .string ⟨wy.toArray⟩) (fun w' hB' => cQ w' (hW3.below hB')) (fun w => by first | rfl | (go_simp; done) | (simp [go_sem]; done)) ?_
  simp only [Act.put, List.setIfInBounds_toArray, List.set_cons_succ, List.set_cons_zero]
  refine WG.put rfl (v := .string ⟨t2.toArray⟩) (fun w => by first | rfl | (go_simp; done) | (simp [go_sem, ha2]; done)) ?_
  simp only [Act.put, List.setIfInBounds_toArray, List.set_cons_succ, List.set_cons_zero]
  refine WG.put rfl (v := .string ⟨t2.toArray⟩) (fun w => by first | rfl | (go_simp; done) | (simp [go_sem]; done)) ?_
  simp only [Act.put, List.setIfInBounds_toArray, List.set_cons_succ, List.set_cons_zero]
  refine WG.nil ?_
  intro W8 B8
  go_wp2_with fail
  go_ret
  exact ⟨by rw [HR.out]; rfl, Below.then B3 B8⟩

set_option maxRecDepth 100000 in
set_option maxHeartbeats 2000000 in
theorem rtx_two5 {ad : Option Addr} {cap : Nat} {ns : List Nd} (hn : ns.length ≤ 1024) {i : Nat} {p q m m2 : Nat} {x y : Nd} {tx ty : List UInt8} (hi : ns[i]? = some ⟨5, (p : Int), (q : Int), 0, noName, 0⟩) (hx : ns[p]? = some x) (hy : ns[q]? = some y) (hm : m ≤ 400000) (hm2 : m2 ≤ 400000) (hA : RTxA ad cap ns p tx m) (hE : RTxA ad cap ns q ty m2) : RTxA ad cap ns i (wrapB (brk 5 x.op false) tx ++ [32, 92, 47, 32] ++ wrapB (brk 5 y.op true) ty) (m + m2 + 200) := by
  refine ⟨by have := hA.1; have := hE.1; have := wrapB_le (brk 5 x.op false) tx; have := wrapB_le (brk 5 y.op true) ty; simp only [List.length_append, List.length_cons, List.length_nil]; omega, ?_⟩
  intro W hW
  have hlt := (List.getElem?_eq_some_iff.1 hi).1
  have hli : (i : Int) < ns.length := by omega
  obtain ⟨b, o, rfl, hb, hrg⟩ := hW i _ hi
  have cP := fun W h => rpart_any hx hA (by omega) 5 false W h
  have cQ := fun W h => rpart_any hy hE (by omega) 5 true W h
  have hwl := wrapB_le (brk 5 x.op false) tx
  have hwl2 := wrapB_le (brk 5 y.op true) ty
  have htl := hA.1
  have htl2 := hE.1
  clear hi hx hy hA hE
  generalize wrapB (brk 5 x.op false) tx = wx at *
  generalize wrapB (brk 5 y.op true) ty = wy at *
  obtain ⟨t1, h1⟩ : ∃ t1, wx ++ [32, 92, 47, 32] = t1 := ⟨_, rfl⟩
  obtain ⟨t2, h2⟩ : ∃ t2, t1 ++ wy = t2 := ⟨_, rfl⟩
  have ha1 := add2 wx [32, 92, 47, 32] t1 (by simp; omega) h1
  have ha2 := add2 t1 wy t2 (by rw [← h1]; simp; omega) h2
  have HR : Hid (wx ++ [32, 92, 47, 32] ++ wy = t2) := (by show _ = _; rw [← h2, ← h1])
  clear h1 h2
  clear hlt
  go_enter Tryd.func26, Tryd.ntmps26
  go_wp2_with (first
    | (refine wpList_load_mid rfl 52 _ rfl b _ rfl (ndL ⟨5, (p : Int), (q : Int), 0, noName, 0⟩) _ hrg Tryd.underlying52 rfl infoNd ?_)
    | (refine wpList_allocS rfl 52 rfl (ndL noNd) Tryd.zeroValue52 ?_; intro W2 b8 F2 M2; have B2 := F2.trans (Below.refl _ W) (Nat.le_refl _); have h8 : W.heap.size ≤ b8 := Nat.le_of_eq F2.at'.symm; clear F2)
    | (refine wpList_storeS rfl 52 _ _ rfl rfl (ndL ⟨5, (p : Int), (q : Int), 0, noName, 0⟩) rfl M2 (by simp [noNd, ndL]) infoNd (nd_one _) ?_; intro W3 U3 M3x; have M3 : IsS W3 b8 52 (ndL ⟨5, (p : Int), (q : Int), 0, noName, 0⟩) := M3x; have B3 := U3.trans B2 h8; have hW3 := hW.below B3; have c30 : W3.cell? ⟨b8, 0, none⟩ = some (.int .i64 5) := M3.cell 0; have c31 : W3.cell? ⟨b8, 1, none⟩ = some (.int .i64 (p : Int)) := M3.cell 1; have c32 : W3.cell? ⟨b8, 2, none⟩ = some (.int .i64 (q : Int)) := M3.cell 2; clear U3 M3x B2 M2))
  refine grow_allW (by kernel_rfl) (by kernel_rfl) ?_
  refine WG.put rfl (v := .slice (some ⟨b, o, none⟩) ns.length cap) (fun w => by first | rfl | (go_simp; done) | (simp [go_sem]; done)) ?_
  simp only [Act.put, List.setIfInBounds_toArray, List.set_cons_succ, List.set_cons_zero]
  refine WG.put rfl (v := .pointer (some ⟨b8, 0, none⟩)) (fun w => by first | rfl | (go_simp; done) | (simp [go_sem]; done)) ?_
  simp only [Act.put, List.setIfInBounds_toArray, List.set_cons_succ, List.set_cons_zero]
  refine WG.cell rfl 3 _ rfl rfl c30 ld3 ?_
  simp only [Act.put, List.setIfInBounds_toArray, List.set_cons_succ, List.set_cons_zero]
  refine WG.put rfl (v := .pointer (some ⟨b8, 1, none⟩)) (fun w => by first | rfl | (go_simp; done) | (simp [go_sem]; done)) ?_
  simp only [Act.put, List.setIfInBounds_toArray, List.set_cons_succ, List.set_cons_zero]
  refine WG.cell rfl 3 _ rfl rfl c31 ld3 ?_
  simp only [Act.put, List.setIfInBounds_toArray, List.set_cons_succ, List.set_cons_zero]
  refine WG.call rfl (f := 41) (args := #[.slice (some ⟨b, o, none⟩) ns.length cap, .int .i64 5, .int .i64 (p : Int), .bool false]) (v := .string ⟨wx.toArray⟩) (fun w' hB' => cP w' (hW3.below hB')) (fun w => by first | rfl | (go_simp; done) | (simp [go_sem]; done)) ?_
  simp only [Act.put, List.setIfInBounds_toArray, List.set_cons_succ, List.set_cons_zero]
  refine WG.put rfl (v := .string ⟨t1.toArray⟩) (fun w => by first | rfl | (go_simp; done) | (simp [go_sem, ha1]; done)) ?_
  simp only [Act.put, List.setIfInBounds_toArray, List.set_cons_succ, List.set_cons_zero]
  refine WG.put rfl (v := .slice (some ⟨b, o, none⟩) ns.length cap) (fun w => by first | rfl | (go_simp; done) | (simp [go_sem]; done)) ?_
  simp only [Act.put, List.setIfInBounds_toArray, List.set_cons_succ, List.set_cons_zero]
  refine WG.put rfl (v := .pointer (some ⟨b8, 0, none⟩)) (fun w => by first | rfl | (go_simp; done) | (simp [go_sem]; done)) ?_
  simp only [Act.put, List.setIfInBounds_toArray, List.set_cons_succ, List.set_cons_zero]
  refine WG.cell rfl 3 _ rfl rfl c30 ld3 ?_
  simp only [Act.put, List.setIfInBounds_toArray, List.set_cons_succ, List.set_cons_zero]
  refine WG.put rfl (v := .pointer (some ⟨b8, 2, none⟩)) (fun w => by first | rfl | (go_simp; done) | (simp [go_sem]; done)) ?_
  simp only [Act.put, List.setIfInBounds_toArray, List.set_cons_succ, List.set_cons_zero]
  refine WG.cell rfl 3 _ rfl rfl c32 ld3 ?_
  simp only [Act.put, List.setIfInBounds_toArray, List.set_cons_succ, List.set_cons_zero]
  refine WG.call rfl (f := 41) (args := #[.slice (some ⟨b, o, none⟩) ns.length cap, .int .i64 5, .int .i64 (q : Int), .bool true]) (v := .string ⟨wy.toArray⟩) (fun w' hB' => cQ w' (hW3.below hB')) (fun w => by first | rfl | (go_simp; done) | (simp [go_sem]; done)) ?_
  simp only [Act.put, List.setIfInBounds_toArray, List.set_cons_succ, List.set_cons_zero]
  refine WG.put rfl (v := .string ⟨t2.toArray⟩) (fun w => by first | rfl | (go_simp; done) | (simp [go_sem, ha2]; done)) ?_
  simp only [Act.put, List.setIfInBounds_toArray, List.set_cons_succ, List.set_cons_zero]
  refine WG.put rfl (v := .string ⟨t2.toArray⟩) (fun w => by first | rfl | (go_simp; done) | (simp [go_sem]; done)) ?_
  simp only [Act.put, List.setIfInBounds_toArray, List.set_cons_succ, List.set_cons_zero]
  refine WG.nil ?_
  intro W8 B8
  go_wp2_with fail
  go_ret
  exact ⟨by rw [HR.out]; rfl, Below.then B3 B8⟩

set_option maxRecDepth 100000 in
set_option maxHeartbeats 2000000 in
theorem rtx_isL {ad : Option Addr} {cap : Nat} {ns : List Nd} (hn : ns.length ≤ 1024) {i : Nat} {val : Int} {nm : ByteArray} (hi : ns[i]? = some ⟨2, 0, 0, -1, nm, val⟩) (h0 : (-1 : Int) ≤ -1) (h1 : (-1 : Int) ≤ 9999) (hs : nm.size ≤ 64) (v0 : -9223372036854775808 ≤ val) (v1 : val ≤ 9223372036854775807) (hvl : (textL val).length ≤ 21) : RTxA ad cap ns i (refL (-1) nm ++ 61 :: textL val) 200 := by
  refine ⟨by have h2 := textL_len val v0 v1; have h3 := refL_len h0 h1 hs; rw [List.length_append, List.length_cons]; omega, ?_⟩
  intro W hW
  have hlt := (List.getElem?_eq_some_iff.1 hi).1
  have hli : (i : Int) < ns.length := by omega
  obtain ⟨b, o, rfl, hb, hrg⟩ := hW i _ hi
  have cT := fun W => rtext_any val v0 v1 W
  have HRL : Hid (refL (-1) nm = nm.data.toList) := if_pos rfl
  clear hi
  generalize textL val = vl at *
  obtain ⟨ml, hml⟩ : ∃ ml, nm.data.toList = ml := ⟨_, rfl⟩
  have hnl : ml.length ≤ 64 := by rw [← hml, ← sizeL]; exact hs
  have hnm : nm = ⟨ml.toArray⟩ := by rw [← hml]
  subst hnm
  clear h1
  obtain ⟨t1, h1⟩ : ∃ t1, ml ++ [61] = t1 := ⟨_, rfl⟩
  obtain ⟨t2, h2⟩ : ∃ t2, t1 ++ vl = t2 := ⟨_, rfl⟩
  have ha1 := add2 ml [61] t1 (by simp; omega) h1
  have ha2 := add2 t1 vl t2 (by rw [← h1]; simp; omega) h2
  have HR : Hid (refL (-1) ⟨ml.toArray⟩ ++ 61 :: vl = t2) := (by show _ = _; rw [HRL.out, ← h2, ← h1]; simp)
  obtain ⟨RR, hRR⟩ : ∃ RR, refL (-1) ⟨ml.toArray⟩ ++ 61 :: vl = RR := ⟨_, rfl⟩
  rw [hRR] at HR ⊢
  clear h1 h2 hRR HRL h0 hml hs
  clear hlt
  go_enter Tryd.func26, Tryd.ntmps26
  go_wp2_with (first
    | (refine wpList_load_mid rfl 52 _ rfl b _ rfl (ndL ⟨2, 0, 0, (-1), ⟨ml.toArray⟩, val⟩) _ hrg Tryd.underlying52 rfl infoNd ?_)
    | (refine wpList_allocS rfl 52 rfl (ndL noNd) Tryd.zeroValue52 ?_; intro W2 b8 F2 M2; have B2 := F2.trans (Below.refl _ W) (Nat.le_refl _); have h8 : W.heap.size ≤ b8 := Nat.le_of_eq F2.at'.symm; clear F2)
    | (refine wpList_storeS rfl 52 _ _ rfl rfl (ndL ⟨2, 0, 0, (-1), ⟨ml.toArray⟩, val⟩) rfl M2 (by simp [noNd, ndL]) infoNd (nd_one _) ?_; intro W3 U3 M3x; have M3 : IsS W3 b8 52 (ndL ⟨2, 0, 0, (-1), ⟨ml.toArray⟩, val⟩) := M3x; have B3 := U3.trans B2 h8; have hW3 := hW.below B3; have c30 : W3.cell? ⟨b8, 0, none⟩ = some (.int .i64 2) := M3.cell 0; have c31 : W3.cell? ⟨b8, 1, none⟩ = some (.int .i64 0) := M3.cell 1; have c32 : W3.cell? ⟨b8, 2, none⟩ = some (.int .i64 0) := M3.cell 2; clear U3 M3x B2 M2))
  have c34 : W3.cell? ⟨b8, 4, none⟩ = some (.string ⟨ml.toArray⟩) := M3.cell 4
  have c35 : W3.cell? ⟨b8, 5, none⟩ = some (.int .i64 val) := M3.cell 5
  refine grow_allW (by kernel_rfl) (by kernel_rfl) ?_
  refine WG.put rfl (v := .pointer (some ⟨b8, 3, none⟩)) (fun w => by first | rfl | (go_simp; done) | (simp [go_sem]; done)) ?_
  simp only [Act.put, List.setIfInBounds_toArray, List.set_cons_succ, List.set_cons_zero]
  refine WG.put rfl (v := .pointer (some ⟨b8, 4, none⟩)) (fun w => by first | rfl | (go_simp; done) | (simp [go_sem]; done)) ?_
  simp only [Act.put, List.setIfInBounds_toArray, List.set_cons_succ, List.set_cons_zero]
  refine WG.cell rfl 9 _ rfl rfl c34 ld9 ?_
  simp only [Act.put, List.setIfInBounds_toArray, List.set_cons_succ, List.set_cons_zero]
  refine WG.put rfl (v := .string ⟨t1.toArray⟩) (fun w => by first | rfl | (go_simp; done) | (simp [go_sem, ha1]; done)) ?_
  simp only [Act.put, List.setIfInBounds_toArray, List.set_cons_succ, List.set_cons_zero]
  refine WG.put rfl (v := .pointer (some ⟨b8, 5, none⟩)) (fun w => by first | rfl | (go_simp; done) | (simp [go_sem]; done)) ?_
  simp only [Act.put, List.setIfInBounds_toArray, List.set_cons_succ, List.set_cons_zero]
  refine WG.cell rfl 2 _ rfl rfl c35 ld2 ?_
  simp only [Act.put, List.setIfInBounds_toArray, List.set_cons_succ, List.set_cons_zero]
  refine WG.call rfl (f := 40) (args := #[.int .i64 val]) (v := .string ⟨vl.toArray⟩) (fun w' hB' => cT w') (fun w => by first | rfl | (go_simp; done) | (simp [go_sem]; done)) ?_
  simp only [Act.put, List.setIfInBounds_toArray, List.set_cons_succ, List.set_cons_zero]
  refine WG.put rfl (v := .string ⟨t2.toArray⟩) (fun w => by first | rfl | (go_simp; done) | (simp [go_sem, ha2]; done)) ?_
  simp only [Act.put, List.setIfInBounds_toArray, List.set_cons_succ, List.set_cons_zero]
  refine WG.put rfl (v := .string ⟨t2.toArray⟩) (fun w => by first | rfl | (go_simp; done) | (simp [go_sem]; done)) ?_
  simp only [Act.put, List.setIfInBounds_toArray, List.set_cons_succ, List.set_cons_zero]
  refine WG.nil ?_
  intro W8 B8
  have M8 := M3.grown B8
  have c83 : W8.cell? ⟨b8, 3, none⟩ = some (.int .i64 (-1)) := M8.cell 3
  have B9 := Below.then B3 B8
  go_wp2_with fail
  go_ret
  exact ⟨by rw [HR.out]; rfl, B9⟩

set_option maxRecDepth 100000 in
set_option maxHeartbeats 2000000 in
theorem rtx_isR {ad : Option Addr} {cap : Nat} {ns : List Nd} (hn : ns.length ≤ 1024) {i : Nat} {th val : Int} {nm : ByteArray} (hi : ns[i]? = some ⟨2, 0, 0, th, nm, val⟩) (h0' : 0 ≤ th) (h0 : (-1 : Int) ≤ th) (h1 : th ≤ 9999) (hs : nm.size ≤ 64) (v0 : -9223372036854775808 ≤ val) (v1 : val ≤ 9223372036854775807) (hvl : (textL val).length ≤ 21) : RTxA ad cap ns i (refL th nm ++ 61 :: textL val) 200 := by
  refine ⟨by have h2 := textL_len val v0 v1; have h3 := refL_len h0 h1 hs; rw [List.length_append, List.length_cons]; omega, ?_⟩
  intro W hW
  have hlt := (List.getElem?_eq_some_iff.1 hi).1
  have hli : (i : Int) < ns.length := by omega
  obtain ⟨b, o, rfl, hb, hrg⟩ := hW i _ hi
  have cT := fun W => rtext_any val v0 v1 W
  have cH := fun W => rtext_any th (by omega) (by omega) W
  have hthl := textL_len th (by omega) (by omega)
  have HRL : Hid (refL th nm = textL th ++ 58 :: nm.data.toList) := if_neg (by omega)
  clear hi
  generalize textL val = vl at *
  obtain ⟨ml, hml⟩ : ∃ ml, nm.data.toList = ml := ⟨_, rfl⟩
  have hnl : ml.length ≤ 64 := by rw [← hml, ← sizeL]; exact hs
  have hnm : nm = ⟨ml.toArray⟩ := by rw [← hml]
  subst hnm
  clear h1
  obtain ⟨t1, h1⟩ : ∃ t1, ml ++ [61] = t1 := ⟨_, rfl⟩
  obtain ⟨t2, h2⟩ : ∃ t2, t1 ++ vl = t2 := ⟨_, rfl⟩
  have ha1 := add2 ml [61] t1 (by simp; omega) h1
  have ha2 := add2 t1 vl t2 (by rw [← h1]; simp; omega) h2
  have hth0 : (0 : Int) ≤ th := h0'
  generalize textL th = tl at *
  obtain ⟨t3, h3⟩ : ∃ t3, tl ++ [58] = t3 := ⟨_, rfl⟩
  obtain ⟨t4, h4⟩ : ∃ t4, t3 ++ t2 = t4 := ⟨_, rfl⟩
  have ha3 := add2 tl [58] t3 (by simp; omega) h3
  have ha4 := add2 t3 t2 t4 (by rw [← h3, ← h2, ← h1]; simp; omega) h4
  have HR : Hid (refL th ⟨ml.toArray⟩ ++ 61 :: vl = t4) := (by show _ = _; rw [HRL.out, ← h4, ← h3, ← h2, ← h1]; simp)
  obtain ⟨RR, hRR⟩ : ∃ RR, refL th ⟨ml.toArray⟩ ++ 61 :: vl = RR := ⟨_, rfl⟩
  rw [hRR] at HR ⊢
  clear h1 h2 h3 h4 hRR HRL h0 h0' hml hs
  clear hlt
  go_enter Tryd.func26, Tryd.ntmps26
  go_wp2_with (first
    | (refine wpList_load_mid rfl 52 _ rfl b _ rfl (ndL ⟨2, 0, 0, th, ⟨ml.toArray⟩, val⟩) _ hrg Tryd.underlying52 rfl infoNd ?_)
    | (refine wpList_allocS rfl 52 rfl (ndL noNd) Tryd.zeroValue52 ?_; intro W2 b8 F2 M2; have B2 := F2.trans (Below.refl _ W) (Nat.le_refl _); have h8 : W.heap.size ≤ b8 := Nat.le_of_eq F2.at'.symm; clear F2)
    | (refine wpList_storeS rfl 52 _ _ rfl rfl (ndL ⟨2, 0, 0, th, ⟨ml.toArray⟩, val⟩) rfl M2 (by simp [noNd, ndL]) infoNd (nd_one _) ?_; intro W3 U3 M3x; have M3 : IsS W3 b8 52 (ndL ⟨2, 0, 0, th, ⟨ml.toArray⟩, val⟩) := M3x; have B3 := U3.trans B2 h8; have hW3 := hW.below B3; have c30 : W3.cell? ⟨b8, 0, none⟩ = some (.int .i64 2) := M3.cell 0; have c31 : W3.cell? ⟨b8, 1, none⟩ = some (.int .i64 0) := M3.cell 1; have c32 : W3.cell? ⟨b8, 2, none⟩ = some (.int .i64 0) := M3.cell 2; clear U3 M3x B2 M2))
  have c34 : W3.cell? ⟨b8, 4, none⟩ = some (.string ⟨ml.toArray⟩) := M3.cell 4
  have c35 : W3.cell? ⟨b8, 5, none⟩ = some (.int .i64 val) := M3.cell 5
  refine grow_allW (by kernel_rfl) (by kernel_rfl) ?_
  refine WG.put rfl (v := .pointer (some ⟨b8, 3, none⟩)) (fun w => by first | rfl | (go_simp; done) | (simp [go_sem]; done)) ?_
  simp only [Act.put, List.setIfInBounds_toArray, List.set_cons_succ, List.set_cons_zero]
  refine WG.put rfl (v := .pointer (some ⟨b8, 4, none⟩)) (fun w => by first | rfl | (go_simp; done) | (simp [go_sem]; done)) ?_
  simp only [Act.put, List.setIfInBounds_toArray, List.set_cons_succ, List.set_cons_zero]
  refine WG.cell rfl 9 _ rfl rfl c34 ld9 ?_
  simp only [Act.put, List.setIfInBounds_toArray, List.set_cons_succ, List.set_cons_zero]
  refine WG.put rfl (v := .string ⟨t1.toArray⟩) (fun w => by first | rfl | (go_simp; done) | (simp [go_sem, ha1]; done)) ?_
  simp only [Act.put, List.setIfInBounds_toArray, List.set_cons_succ, List.set_cons_zero]
  refine WG.put rfl (v := .pointer (some ⟨b8, 5, none⟩)) (fun w => by first | rfl | (go_simp; done) | (simp [go_sem]; done)) ?_
  simp only [Act.put, List.setIfInBounds_toArray, List.set_cons_succ, List.set_cons_zero]
  refine WG.cell rfl 2 _ rfl rfl c35 ld2 ?_
  simp only [Act.put, List.setIfInBounds_toArray, List.set_cons_succ, List.set_cons_zero]
  refine WG.call rfl (f := 40) (args := #[.int .i64 val]) (v := .string ⟨vl.toArray⟩) (fun w' hB' => cT w') (fun w => by first | rfl | (go_simp; done) | (simp [go_sem]; done)) ?_
  simp only [Act.put, List.setIfInBounds_toArray, List.set_cons_succ, List.set_cons_zero]
  refine WG.put rfl (v := .string ⟨t2.toArray⟩) (fun w => by first | rfl | (go_simp; done) | (simp [go_sem, ha2]; done)) ?_
  simp only [Act.put, List.setIfInBounds_toArray, List.set_cons_succ, List.set_cons_zero]
  refine WG.put rfl (v := .string ⟨t2.toArray⟩) (fun w => by first | rfl | (go_simp; done) | (simp [go_sem]; done)) ?_
  simp only [Act.put, List.setIfInBounds_toArray, List.set_cons_succ, List.set_cons_zero]
  refine WG.nil ?_
  intro W8 B8
  have M8 := M3.grown B8
  have c83 : W8.cell? ⟨b8, 3, none⟩ = some (.int .i64 th) := M8.cell 3
  have B9 := Below.then B3 B8
  go_wp2_with (first
    | (go_at_call 40; refine (cH _).mono ?_; rintro e W10 ⟨rfl, B10⟩))
  go_ret
  exact ⟨by rw [HR.out]; rfl, Below.then B9 B10⟩
end Go.Proofs.YtjnbhcakfenbhaaDoor
