/- Holds of the program, with a function of values that may write one block. -/
import Derived.Test.YtcmkoffamolgmaaA1
import Derived.Test.YtcmkoffamolgmaaC5
import Derived.Test.YtcmkoffamolgmaaKW
namespace Go.Proofs.Ytcmkoffamolgmaa
open Go Go.RowKit M
set_option linter.unusedSimpArgs false
set_option linter.unusedVariables false

def rkL (r : RK) : List Value := [.int .i64 (thI r), .string r.2]
theorem rk_one (r : RK) : ∀ v ∈ rkL r, v.oneCell' = true := by simp [rkL, Value.oneCell']
theorem infoRk : (Try.prog.info? 39).map (·.size) = some 2 := by kernel_rfl
theorem ld_fnB {b o : Nat} {v : Value} (w : World) (h : w.cell? ⟨b, o, none⟩ = some v) : (Instr.loadAt 53 (.pointer (some ⟨b, o, none⟩))).run Try.prog w = .ok v w := by simp [go_sem, h]
theorem ld_fnV {b o : Nat} {v : Value} (w : World) (h : w.cell? ⟨b, o, none⟩ = some v) : (Instr.loadAt 40 (.pointer (some ⟨b, o, none⟩))).run Try.prog w = .ok v w := by simp [go_sem, h]
/-- What a value function keeps and answers. -/
structure ValW (bw bs bS : Nat) (I : World → Prop) (val : RK → Int) (R : List RK) : Prop where
  below : ∀ W W', I W → Below W.heap.size W W' → I W'
  call : ∀ W r, I W → r ∈ R → Calls Try.prog 10 #[.agg (rkL r).toArray, .pointer (some ⟨bw, 0, none⟩), .pointer (some ⟨bs, 0, none⟩), .pointer (some ⟨bS, 0, none⟩)] W fun e w' => e = .returned (.int .i64 (val r)) ∧ I w' ∧ One W w' bs
  lt : ∀ W, I W → bs < W.heap.size
structure HlW (W : World) (bc bv bh bw bs bS : Nat) (ad : Option Addr) (cap : Nat) (ns : List Nd) (I : World → Prop) : Prop where
  c : W.cell? ⟨bc, 0, none⟩ = some (.slice ad ns.length cap)
  v : W.cell? ⟨bv, 0, none⟩ = some (.func (.func 10) #[] #[.pointer (some ⟨bw, 0, none⟩), .pointer (some ⟨bs, 0, none⟩), .pointer (some ⟨bS, 0, none⟩)])
  h : W.cell? ⟨bh, 0, none⟩ = some (.func (.func 20) #[] #[.pointer (some ⟨bc, 0, none⟩), .pointer (some ⟨bv, 0, none⟩), .pointer (some ⟨bh, 0, none⟩)])
  ns : Nds W ad ns
  i : I W
  nc : bc ≠ bs
  nv : bv ≠ bs
  nh : bh ≠ bs
  na : ∀ b o, ad = some ⟨b, o, none⟩ → b ≠ bs
section
variable {bc bv bh bw bs bS : Nat} {ad : Option Addr} {cap : Nat} {ns : List Nd} {I : World → Prop} {val : RK → Int} {R : List RK}
theorem HlW.below {W W' : World} (h : HlW W bc bv bh bw bs bS ad cap ns I) (V : ValW bw bs bS I val R) (hB : Below W.heap.size W W') : HlW W' bc bv bh bw bs bS ad cap ns I :=
  ⟨cell_grow h.c hB, cell_grow h.v hB, cell_grow h.h hB, h.ns.below hB, V.below _ _ h.i hB, h.nc, h.nv, h.nh, h.na⟩
theorem HlW.one {W W' : World} (h : HlW W bc bv bh bw bs bS ad cap ns I) (hO : One W W' bs) (hI : I W') : HlW W' bc bv bh bw bs bS ad cap ns I :=
  ⟨hO.cell h.c h.nc, hO.cell h.v h.nv, hO.cell h.h h.nh, fun j n hn => by
    obtain ⟨b, o, e, hb, hr⟩ := h.ns j n hn
    exact ⟨b, o, e, Nat.lt_of_lt_of_le hb hO.size, fun i v hv => hO.cell (hr i v hv) (h.na b o e)⟩, hI, h.nc, h.nv, h.nh, h.na⟩
/-- What holds answers at a node. -/
def HlA (bc bv bh bw bs bS : Nat) (ad : Option Addr) (cap : Nat) (ns : List Nd) (I : World → Prop) (i : Nat) (x : Bool) : Prop := ∀ W, HlW W bc bv bh bw bs bS ad cap ns I → Calls Try.prog 20 #[.int .i64 (i : Int), .pointer (some ⟨bc, 0, none⟩), .pointer (some ⟨bv, 0, none⟩), .pointer (some ⟨bh, 0, none⟩)] W fun e w' => e = .returned (.bool x) ∧ HlW w' bc bv bh bw bs bS ad cap ns I ∧ One W w' bs
set_option maxRecDepth 100000 in
set_option maxHeartbeats 4000000 in
theorem hold_tru (V : ValW bw bs bS I val R) {i : Nat} (hi : ns[i]? = some ⟨1, 0, 0, 0, noName, 0⟩) : HlA bc bv bh bw bs bS ad cap ns I i true := by
  intro W hW
  have hlt := (List.getElem?_eq_some_iff.1 hi).1
  have hli : (i : Int) < ns.length := by omega
  obtain ⟨b, o, rfl, hb, hrg⟩ := hW.ns i _ hi
  have c0 := hW.c
  have e2 : ((1 : Int) == 2) = false := rfl
  have e3 : ((1 : Int) == 3) = false := rfl
  have e4 : ((1 : Int) == 4) = false := rfl
  have e5 : ((1 : Int) == 5) = false := rfl
  clear hi hlt
  have t1 : True := trivial
  have t2 : True := trivial
  have t3 : True := trivial
  go_enter Try.func20, Try.ntmps20
  go_wp2_with (first
    | (clear t1; refine wpList_load_mid rfl 46 _ rfl b _ rfl (ndL ⟨1, 0, 0, 0, noName, 0⟩) _ hrg Try.underlying46 rfl infoNd ?_)
    | (clear t2; refine wpList_allocS rfl 46 rfl (ndL noNd) Try.zeroValue46 ?_; intro W2 b5 F2 M2; have B2 := F2.trans (Below.refl _ W) (Nat.le_refl _); have hb5 : W.heap.size ≤ b5 := Nat.le_of_eq F2.at'.symm; clear F2)
    | (clear t3; refine wpList_storeS rfl 46 _ _ rfl rfl (ndL ⟨1, 0, 0, 0, noName, 0⟩) rfl M2 (by simp [noNd, ndL]) infoNd (nd_one _) ?_; intro W3 U3 M3x; have M3 : IsS W3 b5 46 (ndL ⟨1, 0, 0, 0, noName, 0⟩) := M3x; have B3 := U3.trans B2 hb5; have hW3 := hW.below V B3; have h3 := hW3.h; have v3 := hW3.v; have c30 : W3.cell? ⟨b5, 0, none⟩ = some (.int .i64 1) := M3.cell 0; clear U3 M3x B2 M2))
  go_ret
  exact ⟨rfl, hW3, One.of_below B3 _⟩
set_option maxRecDepth 100000 in
set_option maxHeartbeats 4000000 in
theorem hold_is (V : ValW bw bs bS I val R) {i : Nat} {th : Int} {nm : ByteArray} {v : Int} (hi : ns[i]? = some ⟨2, 0, 0, th, nm, v⟩) (hth : -1 ≤ th) (hR : rkOf th nm ∈ R) : HlA bc bv bh bw bs bS ad cap ns I i (val (rkOf th nm) == v) := by
  intro W hW
  have hV := fun W h => V.call W _ h hR
  obtain ⟨x, hx⟩ : ∃ x, val (rkOf th nm) = x := ⟨_, rfl⟩
  rw [hx] at hV ⊢
  have hlW := V.lt W hW.i
  have hlt := (List.getElem?_eq_some_iff.1 hi).1
  have hli : (i : Int) < ns.length := by omega
  obtain ⟨b, o, rfl, hb, hrg⟩ := hW.ns i _ hi
  have c0 := hW.c
  have e2 : ((2 : Int) == 2) = true := rfl
  have e3 : ((2 : Int) == 3) = false := rfl
  have e4 : ((2 : Int) == 4) = false := rfl
  have e5 : ((2 : Int) == 5) = false := rfl
  clear hi hlt
  have t1 : True := trivial
  have t2 : True := trivial
  have t3 : True := trivial
  go_enter Try.func20, Try.ntmps20
  go_wp2_with (first
    | (clear t1; refine wpList_load_mid rfl 46 _ rfl b _ rfl (ndL ⟨2, 0, 0, th, nm, v⟩) _ hrg Try.underlying46 rfl infoNd ?_)
    | (clear t2; refine wpList_allocS rfl 46 rfl (ndL noNd) Try.zeroValue46 ?_; intro W2 b5 F2 M2; have B2 := F2.trans (Below.refl _ W) (Nat.le_refl _); have hb5 : W.heap.size ≤ b5 := Nat.le_of_eq F2.at'.symm; clear F2)
    | (clear t3; refine wpList_storeS rfl 46 _ _ rfl rfl (ndL ⟨2, 0, 0, th, nm, v⟩) rfl M2 (by simp [noNd, ndL]) infoNd (nd_one _) ?_; intro W3 U3 M3x; have M3 : IsS W3 b5 46 (ndL ⟨2, 0, 0, th, nm, v⟩) := M3x; have B3 := U3.trans B2 hb5; have hW3 := hW.below V B3; have h3 := hW3.h; have v3 := hW3.v; have c30 : W3.cell? ⟨b5, 0, none⟩ = some (.int .i64 2) := M3.cell 0; have c35 : W3.cell? ⟨b5, 5, none⟩ = some (.int .i64 v) := M3.cell 5; have hrk : W3.rangeAt b5 3 (rkL (rkOf th nm)) := (fun j u hu => by unfold rkL at hu; rw [thI_rk hth] at hu; match j, hu with | 0, hu => exact (by simpa using hu) ▸ M3.cell 3 | 1, hu => exact (by simpa using hu) ▸ M3.cell 4 | j + 2, hu => simp at hu); clear U3 M3x B2 M2))
  have hb5s : b5 ≠ bs := by omega
  have HR0 := V.below _ _ hW3.i (below_drew (Below.refl _ _))
  refine region_invA 7 (fun a0 listed a' w' => ∃ x15 x16 x17 x18 x19 x20 x21 : Value, a' = (((((((a0.put (some 15) x15).put (some 16) x16).put (some 17) x17).put (some 18) x18).put (some 19) x19).put (some 20) x20).put (some 21) x21) ∧ Hid (One W3 w' bs) ∧ (listed.getD 3 false = false → I w') ∧ (listed.getD 0 false = true → x15 = (.func (.func 10) #[] #[.pointer (some ⟨bw, 0, none⟩), .pointer (some ⟨bs, 0, none⟩), .pointer (some ⟨bS, 0, none⟩)])) ∧ (listed.getD 1 false = true → x16 = (.pointer (some ⟨b5, 3, none⟩))) ∧ (listed.getD 2 false = true → x17 = (.agg (rkL (rkOf th nm)).toArray)) ∧ (listed.getD 3 false = true → x18 = .int .i64 x ∧ I w') ∧ (listed.getD 4 false = true → x19 = (.pointer (some ⟨b5, 5, none⟩))) ∧ (listed.getD 5 false = true → x20 = (.int .i64 v)) ∧ (listed.getD 6 false = true → x21 = (.bool (x == v)))) (by kernel_rfl) (by kernel_rfl) ?i0 ?istep ?iend
  case i0 => exact ⟨_, _, _, _, _, _, _, by first | (simp only [Act.put, List.setIfInBounds_toArray, List.set_cons_succ, List.set_cons_zero]; done) | (simp only [Act.put, List.setIfInBounds_toArray, List.set_cons_succ, List.set_cons_zero]; rfl) | rfl, One.of_below (below_drew (Below.refl _ _)) _, fun _ => HR0, fun h => (not_rep h).elim, fun h => (not_rep h).elim, fun h => (not_rep h).elim, fun h => (not_rep h).elim, fun h => (not_rep h).elim, fun h => (not_rep h).elim, fun h => (not_rep h).elim⟩
  case istep =>
    rintro i listed a' w' hi hr ⟨x15, x16, x17, x18, x19, x20, x21, rfl, HBw, hpre, d0, d1, d2, d3, d4, d5, d6⟩
    obtain ⟨hun, oj, hoj, hwt⟩ := mem_ready.1 hr
    simp only [Act.put, List.setIfInBounds_toArray, List.set_cons_succ, List.set_cons_zero]
    have hcase : i = 0 ∨ i = 1 ∨ i = 2 ∨ i = 3 ∨ i = 4 ∨ i = 5 ∨ i = 6 := by omega
    rcases hcase with rfl | rfl | rfl | rfl | rfl | rfl | rfl
    · have hoj2 := hoj
      obtain rfl := Option.some.inj hoj
      refine wpOp_cell hoj2 rfl 40 _ rfl rfl (v := (.func (.func 10) #[] #[.pointer (some ⟨bw, 0, none⟩), .pointer (some ⟨bs, 0, none⟩), .pointer (some ⟨bS, 0, none⟩)])) (by have h : w'.cell? ⟨_, _, none⟩ = some (.func (.func 10) #[] #[.pointer (some ⟨bw, 0, none⟩), .pointer (some ⟨bs, 0, none⟩), .pointer (some ⟨bS, 0, none⟩)]) := HBw.out.cell v3 hW3.nv; simp [go_sem, h]) ?_
      exact ⟨(.func (.func 10) #[] #[.pointer (some ⟨bw, 0, none⟩), .pointer (some ⟨bs, 0, none⟩), .pointer (some ⟨bS, 0, none⟩)]), x16, x17, x18, x19, x20, x21, by first | (simp only [Act.put, List.setIfInBounds_toArray, List.set_cons_succ, List.set_cons_zero]; done) | (simp only [Act.put, List.setIfInBounds_toArray, List.set_cons_succ, List.set_cons_zero]; rfl) | rfl, HBw, fun h => hpre (keepG (by decide) h), fun _ => rfl, fun h => d1 (keep (by decide) h), fun h => d2 (keep (by decide) h), fun h => d3 (keep (by decide) h), fun h => d4 (keep (by decide) h), fun h => d5 (keep (by decide) h), fun h => d6 (keep (by decide) h)⟩
    · have hoj2 := hoj
      obtain rfl := Option.some.inj hoj
      refine wpOp_value hoj2 rfl (v := (.pointer (some ⟨b5, 3, none⟩))) (w' := w') (by first | rfl | (go_simp; done) | (simp [go_sem]; done) | (simp [execOp, go_sem]; done)) ?_
      exact ⟨x15, (.pointer (some ⟨b5, 3, none⟩)), x17, x18, x19, x20, x21, by first | (simp only [Act.put, List.setIfInBounds_toArray, List.set_cons_succ, List.set_cons_zero]; done) | (simp only [Act.put, List.setIfInBounds_toArray, List.set_cons_succ, List.set_cons_zero]; rfl) | rfl, HBw, fun h => hpre (keepG (by decide) h), fun h => d0 (keep (by decide) h), fun _ => rfl, fun h => d2 (keep (by decide) h), fun h => d3 (keep (by decide) h), fun h => d4 (keep (by decide) h), fun h => d5 (keep (by decide) h), fun h => d6 (keep (by decide) h)⟩
    · have hoj2 := hoj
      obtain rfl := Option.some.inj hoj
      have e1 := d1 (hwt ⟨1, .data⟩ (by simp) rfl)
      subst e1
      refine wpOp_value hoj2 rfl (v := .agg (rkL (rkOf th nm)).toArray) (w' := w') (exec_loadR rfl rfl (fun j u hu => HBw.out.cell (hrk j u hu) hb5s) Try.underlying39 rfl infoRk) ?_
      exact ⟨x15, (.pointer (some ⟨b5, 3, none⟩)), (.agg (rkL (rkOf th nm)).toArray), x18, x19, x20, x21, by first | (simp only [Act.put, List.setIfInBounds_toArray, List.set_cons_succ, List.set_cons_zero]; done) | (simp only [Act.put, List.setIfInBounds_toArray, List.set_cons_succ, List.set_cons_zero]; rfl) | rfl, HBw, fun h => hpre (keepG (by decide) h), fun h => d0 (keep (by decide) h), fun h => d1 (keep (by decide) h), fun _ => rfl, fun h => d3 (keep (by decide) h), fun h => d4 (keep (by decide) h), fun h => d5 (keep (by decide) h), fun h => d6 (keep (by decide) h)⟩
    · have hoj2 := hoj
      obtain rfl := Option.some.inj hoj
      have e0 := d0 (hwt ⟨0, .data⟩ (by simp) rfl)
      have e2 := d2 (hwt ⟨2, .data⟩ (by simp) rfl)
      subst e0 e2
      have hpre0 := hpre (getD_both hun)
      refine wpOp_call hoj2 rfl (f := 10) (args := #[.agg (rkL (rkOf th nm)).toArray, .pointer (some ⟨bw, 0, none⟩), .pointer (some ⟨bs, 0, none⟩), .pointer (some ⟨bS, 0, none⟩)]) (by first | rfl | (go_simp; done) | (simp [go_sem]; done) | (simp [execOp, go_sem]; done)) ?_
      refine (hV w' hpre0).mono ?_
      rintro e w4 ⟨rfl, I4, O4⟩
      refine ⟨_, rfl, ?_⟩
      exact ⟨(.func (.func 10) #[] #[.pointer (some ⟨bw, 0, none⟩), .pointer (some ⟨bs, 0, none⟩), .pointer (some ⟨bS, 0, none⟩)]), x16, (.agg (rkL (rkOf th nm)).toArray), _, x19, x20, x21, by first | (simp only [Act.put, List.setIfInBounds_toArray, List.set_cons_succ, List.set_cons_zero]; done) | (simp only [Act.put, List.setIfInBounds_toArray, List.set_cons_succ, List.set_cons_zero]; rfl) | rfl, HBw.out.trans O4, fun h => absurd h (by rw [nowU hun]; simp), fun h => d0 (keep (by decide) h), fun h => d1 (keep (by decide) h), fun h => d2 (keep (by decide) h), fun _ => ⟨rfl, I4⟩, fun h => d4 (keep (by decide) h), fun h => d5 (keep (by decide) h), fun h => d6 (keep (by decide) h)⟩
    · have hoj2 := hoj
      obtain rfl := Option.some.inj hoj
      refine wpOp_value hoj2 rfl (v := (.pointer (some ⟨b5, 5, none⟩))) (w' := w') (by first | rfl | (go_simp; done) | (simp [go_sem]; done) | (simp [execOp, go_sem]; done)) ?_
      exact ⟨x15, x16, x17, x18, (.pointer (some ⟨b5, 5, none⟩)), x20, x21, by first | (simp only [Act.put, List.setIfInBounds_toArray, List.set_cons_succ, List.set_cons_zero]; done) | (simp only [Act.put, List.setIfInBounds_toArray, List.set_cons_succ, List.set_cons_zero]; rfl) | rfl, HBw, fun h => hpre (keepG (by decide) h), fun h => d0 (keep (by decide) h), fun h => d1 (keep (by decide) h), fun h => d2 (keep (by decide) h), fun h => d3 (keep (by decide) h), fun _ => rfl, fun h => d5 (keep (by decide) h), fun h => d6 (keep (by decide) h)⟩
    · have hoj2 := hoj
      obtain rfl := Option.some.inj hoj
      have e4 := d4 (hwt ⟨4, .data⟩ (by simp) rfl)
      subst e4
      refine wpOp_cell hoj2 rfl 2 _ rfl rfl (v := (.int .i64 v)) (by have h : w'.cell? ⟨_, _, none⟩ = some (.int .i64 v) := HBw.out.cell c35 hb5s; simp [go_sem, h]) ?_
      exact ⟨x15, x16, x17, x18, (.pointer (some ⟨b5, 5, none⟩)), (.int .i64 v), x21, by first | (simp only [Act.put, List.setIfInBounds_toArray, List.set_cons_succ, List.set_cons_zero]; done) | (simp only [Act.put, List.setIfInBounds_toArray, List.set_cons_succ, List.set_cons_zero]; rfl) | rfl, HBw, fun h => hpre (keepG (by decide) h), fun h => d0 (keep (by decide) h), fun h => d1 (keep (by decide) h), fun h => d2 (keep (by decide) h), fun h => d3 (keep (by decide) h), fun h => d4 (keep (by decide) h), fun _ => rfl, fun h => d6 (keep (by decide) h)⟩
    · have hoj2 := hoj
      obtain rfl := Option.some.inj hoj
      have e3 := d3 (hwt ⟨3, .data⟩ (by simp) rfl)
      have e5 := d5 (hwt ⟨5, .data⟩ (by simp) rfl)
      obtain ⟨q3, _⟩ := e3
      subst q3 e5
      refine wpOp_value hoj2 rfl (v := .bool (x == v)) (w' := w') (by first | rfl | (go_simp; done) | (simp [go_sem]; done) | (simp [execOp, go_sem]; done)) ?_
      exact ⟨x15, x16, x17, (.int .i64 x), x19, (.int .i64 v), (.bool (x == v)), by first | (simp only [Act.put, List.setIfInBounds_toArray, List.set_cons_succ, List.set_cons_zero]; done) | (simp only [Act.put, List.setIfInBounds_toArray, List.set_cons_succ, List.set_cons_zero]; rfl) | rfl, HBw, fun h => hpre (keepG (by decide) h), fun h => d0 (keep (by decide) h), fun h => d1 (keep (by decide) h), fun h => d2 (keep (by decide) h), fun h => d3 (keep (by decide) h), fun h => d4 (keep (by decide) h), fun h => d5 (keep (by decide) h), fun _ => rfl⟩
  case iend =>
    rintro a' w' ⟨x15, x16, x17, x18, x19, x20, x21, rfl, HBw, hpre, d0, d1, d2, d3, d4, d5, d6⟩
    replace d0 := d0 rfl
    replace d1 := d1 rfl
    replace d2 := d2 rfl
    replace d3 := d3 rfl
    replace d4 := d4 rfl
    replace d5 := d5 rfl
    replace d6 := d6 rfl
    clear hpre
    simp only [Act.put, List.setIfInBounds_toArray, List.set_cons_succ, List.set_cons_zero]
    simp only [List.drop_succ_cons, List.drop_zero]
    obtain ⟨d3a, d3b⟩ := d3
    clear d0 d1 d2 d4 d5
    subst d6
    go_wp2_with fail
    go_ret
    exact ⟨rfl, (hW3.one HBw.out d3b), (One.of_below B3 bs).trans HBw.out⟩
set_option maxRecDepth 100000 in
set_option maxHeartbeats 4000000 in
theorem hold_not (V : ValW bw bs bS I val R) {i p : Nat} {x : Bool} (hi : ns[i]? = some ⟨3, (p : Int), 0, 0, noName, 0⟩) (hX : HlA bc bv bh bw bs bS ad cap ns I p x) : HlA bc bv bh bw bs bS ad cap ns I i (!x) := by
  intro W hW
  have hlt := (List.getElem?_eq_some_iff.1 hi).1
  have hli : (i : Int) < ns.length := by omega
  obtain ⟨b, o, rfl, hb, hrg⟩ := hW.ns i _ hi
  have c0 := hW.c
  have e2 : ((3 : Int) == 2) = false := rfl
  have e3 : ((3 : Int) == 3) = true := rfl
  have e4 : ((3 : Int) == 4) = false := rfl
  have e5 : ((3 : Int) == 5) = false := rfl
  clear hi hlt
  have t1 : True := trivial
  have t2 : True := trivial
  have t3 : True := trivial
  go_enter Try.func20, Try.ntmps20
  go_wp2_with (first
    | (clear t1; refine wpList_load_mid rfl 46 _ rfl b _ rfl (ndL ⟨3, (p : Int), 0, 0, noName, 0⟩) _ hrg Try.underlying46 rfl infoNd ?_)
    | (clear t2; refine wpList_allocS rfl 46 rfl (ndL noNd) Try.zeroValue46 ?_; intro W2 b5 F2 M2; have B2 := F2.trans (Below.refl _ W) (Nat.le_refl _); have hb5 : W.heap.size ≤ b5 := Nat.le_of_eq F2.at'.symm; clear F2)
    | (clear t3; refine wpList_storeS rfl 46 _ _ rfl rfl (ndL ⟨3, (p : Int), 0, 0, noName, 0⟩) rfl M2 (by simp [noNd, ndL]) infoNd (nd_one _) ?_; intro W3 U3 M3x; have M3 : IsS W3 b5 46 (ndL ⟨3, (p : Int), 0, 0, noName, 0⟩) := M3x; have B3 := U3.trans B2 hb5; have hW3 := hW.below V B3; have h3 := hW3.h; have v3 := hW3.v; have c30 : W3.cell? ⟨b5, 0, none⟩ = some (.int .i64 3) := M3.cell 0; have c31 : W3.cell? ⟨b5, 1, none⟩ = some (.int .i64 (p : Int)) := M3.cell 1; clear U3 M3x B2 M2)
    | (go_at_call 20; refine (hX _ hW3).mono ?_; rintro e W4 ⟨rfl, hW4, O4⟩))
  go_ret
  exact ⟨rfl, hW4, (One.of_below B3 bs).trans O4⟩
set_option maxRecDepth 100000 in
set_option maxHeartbeats 4000000 in
theorem hold_and_true (V : ValW bw bs bS I val R) {i p q : Nat} {y : Bool} (hi : ns[i]? = some ⟨4, (p : Int), (q : Int), 0, noName, 0⟩) (hX : HlA bc bv bh bw bs bS ad cap ns I p true) (hY : HlA bc bv bh bw bs bS ad cap ns I q y) : HlA bc bv bh bw bs bS ad cap ns I i y := by
  intro W hW
  have hlt := (List.getElem?_eq_some_iff.1 hi).1
  have hli : (i : Int) < ns.length := by omega
  obtain ⟨b, o, rfl, hb, hrg⟩ := hW.ns i _ hi
  have c0 := hW.c
  have e2 : ((4 : Int) == 2) = false := rfl
  have e3 : ((4 : Int) == 3) = false := rfl
  have e4 : ((4 : Int) == 4) = true := rfl
  have e5 : ((4 : Int) == 5) = false := rfl
  have hlW := V.lt W hW.i
  have t4 : True := trivial
  clear hi hlt
  have t1 : True := trivial
  have t2 : True := trivial
  have t3 : True := trivial
  go_enter Try.func20, Try.ntmps20
  go_wp2_with (first
    | (clear t1; refine wpList_load_mid rfl 46 _ rfl b _ rfl (ndL ⟨4, (p : Int), (q : Int), 0, noName, 0⟩) _ hrg Try.underlying46 rfl infoNd ?_)
    | (clear t2; refine wpList_allocS rfl 46 rfl (ndL noNd) Try.zeroValue46 ?_; intro W2 b5 F2 M2; have B2 := F2.trans (Below.refl _ W) (Nat.le_refl _); have hb5 : W.heap.size ≤ b5 := Nat.le_of_eq F2.at'.symm; clear F2)
    | (clear t3; refine wpList_storeS rfl 46 _ _ rfl rfl (ndL ⟨4, (p : Int), (q : Int), 0, noName, 0⟩) rfl M2 (by simp [noNd, ndL]) infoNd (nd_one _) ?_; intro W3 U3 M3x; have M3 : IsS W3 b5 46 (ndL ⟨4, (p : Int), (q : Int), 0, noName, 0⟩) := M3x; have B3 := U3.trans B2 hb5; have hW3 := hW.below V B3; have h3 := hW3.h; have v3 := hW3.v; have c30 : W3.cell? ⟨b5, 0, none⟩ = some (.int .i64 4) := M3.cell 0; have c31 : W3.cell? ⟨b5, 1, none⟩ = some (.int .i64 (p : Int)) := M3.cell 1; have c32 : W3.cell? ⟨b5, 2, none⟩ = some (.int .i64 (q : Int)) := M3.cell 2; have hb5s : b5 ≠ bs := (by omega); clear U3 M3x B2 M2)
    | (clear t4; go_at_call 20; refine (hX _ hW3).mono ?_; rintro e W4 ⟨rfl, hW4, O4⟩; have h4 := hW4.h; have c42 := O4.cell c32 hb5s)
    | (go_at_call 20; refine (hY _ hW4).mono ?_; rintro e W5 ⟨rfl, hW5, O5⟩))
  go_ret
  exact ⟨rfl, hW5, ((One.of_below B3 bs).trans O4).trans O5⟩
set_option maxRecDepth 100000 in
set_option maxHeartbeats 4000000 in
theorem hold_and_false (V : ValW bw bs bS I val R) {i p q : Nat} (hi : ns[i]? = some ⟨4, (p : Int), (q : Int), 0, noName, 0⟩) (hX : HlA bc bv bh bw bs bS ad cap ns I p false) : HlA bc bv bh bw bs bS ad cap ns I i false := by
  intro W hW
  have hlt := (List.getElem?_eq_some_iff.1 hi).1
  have hli : (i : Int) < ns.length := by omega
  obtain ⟨b, o, rfl, hb, hrg⟩ := hW.ns i _ hi
  have c0 := hW.c
  have e2 : ((4 : Int) == 2) = false := rfl
  have e3 : ((4 : Int) == 3) = false := rfl
  have e4 : ((4 : Int) == 4) = true := rfl
  have e5 : ((4 : Int) == 5) = false := rfl
  have hlW := V.lt W hW.i
  have t4 : True := trivial
  clear hi hlt
  have t1 : True := trivial
  have t2 : True := trivial
  have t3 : True := trivial
  go_enter Try.func20, Try.ntmps20
  go_wp2_with (first
    | (clear t1; refine wpList_load_mid rfl 46 _ rfl b _ rfl (ndL ⟨4, (p : Int), (q : Int), 0, noName, 0⟩) _ hrg Try.underlying46 rfl infoNd ?_)
    | (clear t2; refine wpList_allocS rfl 46 rfl (ndL noNd) Try.zeroValue46 ?_; intro W2 b5 F2 M2; have B2 := F2.trans (Below.refl _ W) (Nat.le_refl _); have hb5 : W.heap.size ≤ b5 := Nat.le_of_eq F2.at'.symm; clear F2)
    | (clear t3; refine wpList_storeS rfl 46 _ _ rfl rfl (ndL ⟨4, (p : Int), (q : Int), 0, noName, 0⟩) rfl M2 (by simp [noNd, ndL]) infoNd (nd_one _) ?_; intro W3 U3 M3x; have M3 : IsS W3 b5 46 (ndL ⟨4, (p : Int), (q : Int), 0, noName, 0⟩) := M3x; have B3 := U3.trans B2 hb5; have hW3 := hW.below V B3; have h3 := hW3.h; have v3 := hW3.v; have c30 : W3.cell? ⟨b5, 0, none⟩ = some (.int .i64 4) := M3.cell 0; have c31 : W3.cell? ⟨b5, 1, none⟩ = some (.int .i64 (p : Int)) := M3.cell 1; have c32 : W3.cell? ⟨b5, 2, none⟩ = some (.int .i64 (q : Int)) := M3.cell 2; have hb5s : b5 ≠ bs := (by omega); clear U3 M3x B2 M2)
    | (clear t4; go_at_call 20; refine (hX _ hW3).mono ?_; rintro e W4 ⟨rfl, hW4, O4⟩; have h4 := hW4.h; have c42 := O4.cell c32 hb5s))
  go_ret
  exact ⟨rfl, hW4, ((One.of_below B3 bs).trans O4)⟩
set_option maxRecDepth 100000 in
set_option maxHeartbeats 4000000 in
theorem hold_or_true (V : ValW bw bs bS I val R) {i p q : Nat} (hi : ns[i]? = some ⟨5, (p : Int), (q : Int), 0, noName, 0⟩) (hX : HlA bc bv bh bw bs bS ad cap ns I p true) : HlA bc bv bh bw bs bS ad cap ns I i true := by
  intro W hW
  have hlt := (List.getElem?_eq_some_iff.1 hi).1
  have hli : (i : Int) < ns.length := by omega
  obtain ⟨b, o, rfl, hb, hrg⟩ := hW.ns i _ hi
  have c0 := hW.c
  have e2 : ((5 : Int) == 2) = false := rfl
  have e3 : ((5 : Int) == 3) = false := rfl
  have e4 : ((5 : Int) == 4) = false := rfl
  have e5 : ((5 : Int) == 5) = true := rfl
  have hlW := V.lt W hW.i
  have t4 : True := trivial
  clear hi hlt
  have t1 : True := trivial
  have t2 : True := trivial
  have t3 : True := trivial
  go_enter Try.func20, Try.ntmps20
  go_wp2_with (first
    | (clear t1; refine wpList_load_mid rfl 46 _ rfl b _ rfl (ndL ⟨5, (p : Int), (q : Int), 0, noName, 0⟩) _ hrg Try.underlying46 rfl infoNd ?_)
    | (clear t2; refine wpList_allocS rfl 46 rfl (ndL noNd) Try.zeroValue46 ?_; intro W2 b5 F2 M2; have B2 := F2.trans (Below.refl _ W) (Nat.le_refl _); have hb5 : W.heap.size ≤ b5 := Nat.le_of_eq F2.at'.symm; clear F2)
    | (clear t3; refine wpList_storeS rfl 46 _ _ rfl rfl (ndL ⟨5, (p : Int), (q : Int), 0, noName, 0⟩) rfl M2 (by simp [noNd, ndL]) infoNd (nd_one _) ?_; intro W3 U3 M3x; have M3 : IsS W3 b5 46 (ndL ⟨5, (p : Int), (q : Int), 0, noName, 0⟩) := M3x; have B3 := U3.trans B2 hb5; have hW3 := hW.below V B3; have h3 := hW3.h; have v3 := hW3.v; have c30 : W3.cell? ⟨b5, 0, none⟩ = some (.int .i64 5) := M3.cell 0; have c31 : W3.cell? ⟨b5, 1, none⟩ = some (.int .i64 (p : Int)) := M3.cell 1; have c32 : W3.cell? ⟨b5, 2, none⟩ = some (.int .i64 (q : Int)) := M3.cell 2; have hb5s : b5 ≠ bs := (by omega); clear U3 M3x B2 M2)
    | (clear t4; go_at_call 20; refine (hX _ hW3).mono ?_; rintro e W4 ⟨rfl, hW4, O4⟩; have h4 := hW4.h; have c42 := O4.cell c32 hb5s))
  go_ret
  exact ⟨rfl, hW4, ((One.of_below B3 bs).trans O4)⟩
set_option maxRecDepth 100000 in
set_option maxHeartbeats 4000000 in
theorem hold_or_false (V : ValW bw bs bS I val R) {i p q : Nat} {y : Bool} (hi : ns[i]? = some ⟨5, (p : Int), (q : Int), 0, noName, 0⟩) (hX : HlA bc bv bh bw bs bS ad cap ns I p false) (hY : HlA bc bv bh bw bs bS ad cap ns I q y) : HlA bc bv bh bw bs bS ad cap ns I i y := by
  intro W hW
  have hlt := (List.getElem?_eq_some_iff.1 hi).1
  have hli : (i : Int) < ns.length := by omega
  obtain ⟨b, o, rfl, hb, hrg⟩ := hW.ns i _ hi
  have c0 := hW.c
  have e2 : ((5 : Int) == 2) = false := rfl
  have e3 : ((5 : Int) == 3) = false := rfl
  have e4 : ((5 : Int) == 4) = false := rfl
  have e5 : ((5 : Int) == 5) = true := rfl
  have hlW := V.lt W hW.i
  have t4 : True := trivial
  clear hi hlt
  have t1 : True := trivial
  have t2 : True := trivial
  have t3 : True := trivial
  go_enter Try.func20, Try.ntmps20
  go_wp2_with (first
    | (clear t1; refine wpList_load_mid rfl 46 _ rfl b _ rfl (ndL ⟨5, (p : Int), (q : Int), 0, noName, 0⟩) _ hrg Try.underlying46 rfl infoNd ?_)
    | (clear t2; refine wpList_allocS rfl 46 rfl (ndL noNd) Try.zeroValue46 ?_; intro W2 b5 F2 M2; have B2 := F2.trans (Below.refl _ W) (Nat.le_refl _); have hb5 : W.heap.size ≤ b5 := Nat.le_of_eq F2.at'.symm; clear F2)
    | (clear t3; refine wpList_storeS rfl 46 _ _ rfl rfl (ndL ⟨5, (p : Int), (q : Int), 0, noName, 0⟩) rfl M2 (by simp [noNd, ndL]) infoNd (nd_one _) ?_; intro W3 U3 M3x; have M3 : IsS W3 b5 46 (ndL ⟨5, (p : Int), (q : Int), 0, noName, 0⟩) := M3x; have B3 := U3.trans B2 hb5; have hW3 := hW.below V B3; have h3 := hW3.h; have v3 := hW3.v; have c30 : W3.cell? ⟨b5, 0, none⟩ = some (.int .i64 5) := M3.cell 0; have c31 : W3.cell? ⟨b5, 1, none⟩ = some (.int .i64 (p : Int)) := M3.cell 1; have c32 : W3.cell? ⟨b5, 2, none⟩ = some (.int .i64 (q : Int)) := M3.cell 2; have hb5s : b5 ≠ bs := (by omega); clear U3 M3x B2 M2)
    | (clear t4; go_at_call 20; refine (hX _ hW3).mono ?_; rintro e W4 ⟨rfl, hW4, O4⟩; have h4 := hW4.h; have c42 := O4.cell c32 hb5s)
    | (go_at_call 20; refine (hY _ hW4).mono ?_; rintro e W5 ⟨rfl, hW5, O5⟩))
  go_ret
  exact ⟨rfl, hW5, ((One.of_below B3 bs).trans O4).trans O5⟩
theorem hold_tree (V : ValW bw bs bS I val R) : ∀ (t : Tr) (lo : Nat), At nmB ns t lo → (∀ th nm v, InT th nm v t → rkOf th nm ∈ R) → HlA bc bv bh bw bs bS ad cap ns I (t.root lo) (t.ev val)
  | .tru, lo, h, _ => hold_tru V h
  | .is th nm v, lo, h, hR => hold_is V h.1 h.2.1 (hR _ _ _ rfl)
  | .not t, lo, h, hR => by
    have := hold_not V h.2 (p := lo + t.sz - 1) (hold_tree V t lo h.1 hR)
    have e : (Tr.not t).root lo = lo + t.sz := by simp [Tr.root, Tr.sz] <;> omega
    rw [e]; exact this
  | .and x y, lo, h, hR => by
    have hx := hold_tree V x lo h.1 (fun a b c h => hR a b c (.inl h))
    have hy := hold_tree V y (lo + x.sz) h.2.1 (fun a b c h => hR a b c (.inr h))
    have e : (Tr.and x y).root lo = lo + x.sz + y.sz := by simp [Tr.root, Tr.sz] <;> omega
    rw [e]
    show HlA _ _ _ _ _ _ _ _ _ _ _ (x.ev val && y.ev val)
    unfold Tr.root at hx hy
    cases hq : x.ev val with
    | true => rw [hq] at hx; exact hold_and_true V h.2.2 hx hy
    | false => rw [hq] at hx; exact hold_and_false V h.2.2 hx
  | .or x y, lo, h, hR => by
    have hx := hold_tree V x lo h.1 (fun a b c h => hR a b c (.inl h))
    have hy := hold_tree V y (lo + x.sz) h.2.1 (fun a b c h => hR a b c (.inr h))
    have e : (Tr.or x y).root lo = lo + x.sz + y.sz := by simp [Tr.root, Tr.sz] <;> omega
    rw [e]
    show HlA _ _ _ _ _ _ _ _ _ _ _ (x.ev val || y.ev val)
    unfold Tr.root at hx hy
    cases hq : x.ev val with
    | true => rw [hq] at hx; exact hold_or_true V h.2.2 hx
    | false => rw [hq] at hx; exact hold_or_false V h.2.2 hx hy
end
end Go.Proofs.Ytcmkoffamolgmaa
