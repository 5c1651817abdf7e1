/- CR4 -/
import Derived.Test.YtegpnicajlndlaaCR3
import Derived.Test.YtegpnicajlndlaaQau
namespace Go.Proofs.Ytegpnicajlndlaa
open Go.RowKit M
set_option linter.unusedSimpArgs false
set_option linter.unusedVariables false
theorem infoWrs : (Try.prog.info? 48).map (·.size) = some 1 := by kernel_rfl
theorem infoRd : (Try.prog.info? 152).map (·.size) = some 3 := by kernel_rfl
theorem zeroRd (w : World) : (zeroValue 152).run Try.prog w = .ok (.agg [.string ⟨#[]⟩, .int .i64 0, .bool false].toArray) w := Try.zeroValue152 w
theorem build_rd {w : World} {op : Oper} {a : Act} {x : Operand} {T : ByteArray} (ho : op.op = .build 152 #[(0, x)]) (hx : a.eval x = .string T) : (execOp a.eval op).run Try.prog w = .ok (.value (.agg [.string T, .int .i64 0, .bool false].toArray)) w := by
 have h : Try.t152.zero = some (.agg #[.string ⟨#[]⟩, .int .i64 0, .bool false]) := by kernel_rfl
 generalize a.eval = ev at hx ⊢
 unfold execOp
 simp [ho, hx, go_sem, zeroValue, h]
theorem build_st {w : World} {op : Oper} {a : Act} {x0 x1 x2 x4 : Operand} {g0 g1 g2 g4 n : Nat} (ho : op.op = .build 32 #[(0, x0), (1, x1), (2, x2), (4, x4)]) (h0 : a.eval x0 = slc g0 n) (h1 : a.eval x1 = slc g1 n) (h2 : a.eval x2 = slc g2 n) (h4 : a.eval x4 = slc g4 n) : (execOp a.eval op).run Try.prog w = .ok (.value (.agg #[slc g0 n, slc g1 n, slc g2 n, .slice none 0 0, slc g4 n, .int .i64 0])) w := by
 have h : Try.t32.zero = some (.agg #[.slice none 0 0, .slice none 0 0, .slice none 0 0, .slice none 0 0, .slice none 0 0, .int .i64 0]) := by kernel_rfl
 generalize a.eval = ev at h0 h1 h2 h4 ⊢
 unfold slc at *
 unfold execOp
 simp [ho, h0, h1, h2, h4, go_sem, zeroValue, h]
theorem build0_st {w : World} {op : Oper} {a : Act} (ho : op.op = .build 32 #[]) : (execOp a.eval op).run Try.prog w = .ok (.value (.agg ([.slice none 0 0, .slice none 0 0, .slice none 0 0, .slice none 0 0, .slice none 0 0, .int .i64 0] : List Value).toArray)) w := by
 have h : Try.t32.zero = some (.agg #[.slice none 0 0, .slice none 0 0, .slice none 0 0, .slice none 0 0, .slice none 0 0, .int .i64 0]) := by kernel_rfl
 unfold execOp
 simp [ho, go_sem, zeroValue, h]
theorem thsR_at {T : ByteArray} {z : Shp} {r : RD} (h : r.at' ≤ T.size) : ∀ k, (thsR T z r k).2.at' ≤ T.size
 | 0 => h
 | k + 1 => valsR_at (numR_at (numR_at (thsR_at h k))) _
theorem bufsR_at {T : ByteArray} {nl : Nat} {r : RD} (h : r.at' ≤ T.size) : ∀ k, (bufsR T nl r k).2.at' ≤ T.size
 | 0 => h
 | k + 1 => bufR_at (bufsR_at h k)
theorem rowsC_set {α : Type} (rows : List (Nat × List α)) (g : Nat) (l : List α) (n k m : Nat) (hr : rows.length = k) (hk : k < n) (hl : l.length = m) : rowsC (rows ++ [(g, l)]) ++ List.replicate (n - (k + 1)) (Value.slice none 0 0) = (rowsC rows ++ List.replicate (n - k) (Value.slice none 0 0)).set k (Value.slice (some ⟨g, 0, none⟩) m m) := by
 have e : n - k = (n - (k + 1)) + 1 := by omega
 have hr' : (rowsC rows).length = k := by simp [rowsC, hr]
 rw [e, List.replicate_succ, List.set_append_right _ _ (by rw [hr']; exact Nat.le_refl _), hr', Nat.sub_self]
 simp [rowsC, slc, hl]
def StRead (w : World) (T : ByteArray) (z : Shp) (e : Ending) (w' : World) : Prop := match readS T z with
 | none => e = .returned (.tuple #[.agg ([.slice none 0 0, .slice none 0 0, .slice none 0 0, .slice none 0 0, .slice none 0 0, .int .i64 0] : List Value).toArray, .bool false]) ∧ Below w.heap.size w w'
 | some s => ∃ gp gh gr gm gb rows brows, e = .returned (.tuple #[.agg (stbV s gp gh gr gm gb).toArray, .bool true]) ∧ STB w' w.heap.size s gp gh gr gm gb rows brows ∧ Below w.heap.size w w'
set_option maxRecDepth 100000 in
set_option maxHeartbeats 16000000 in
theorem stateOf_any (z : Shp) (T : ByteArray) (n nl : Nat) (ai ar : Option Addr) (ci cr : Nat) (hn0 : z.ins.length = n) (hn1 : z.rgs.length = n) (hnl0 : z.locs = nl) (hn : n ≤ 1048576) (hnl : nl ≤ 1048576) (hrg : ∀ x ∈ z.rgs, x ≤ 1048576) (hT : T.size ≤ 1099511627776) (w : World)
    (hI : Seg w ai ((natI z.ins).flatMap intE)) (hR : Seg w ar ((natI z.rgs).flatMap intE)) :
    Calls Try.prog 44 #[.agg #[.slice ai n ci, .slice ar n cr, .int .i64 (nl : Int)], .string T] w fun e w' => StRead w T z e w' := by
 have HZ : Hid (z.ins.length = n ∧ z.rgs.length = n ∧ z.locs = nl ∧ ∀ x ∈ z.rgs, x ≤ 1048576) := ⟨hn0, hn1, hnl0, hrg⟩
 have HI : Hid (Seg w ai ((natI z.ins).flatMap intE)) := hI
 have HRg : Hid (Seg w ar ((natI z.rgs).flatMap intE)) := hR
 have hnI : (n : Int) ≤ 1048576 := by omega
 have hnlI : (nl : Int) ≤ 1048576 := by omega
 clear hn0 hn1 hnl0 hrg hI hR
 have t1 : True := trivial
 have t2 : True := trivial
 have t3 : True := trivial
 have t4 : True := trivial
 go_enter Try.func44, Try.ntmps44
 go_wp2_with (first
  | (clear t1; refine wpList_boxS rfl 105 _ rfl [.slice ai n ci, .slice ar n cr, .int .i64 (nl : Int)] rfl ?_; intro W0 b2 F0 C0; have B0 := F_b F0; clear F0)
  | (clear t2; refine wpList_allocS rfl 32 rfl [.slice none 0 0, .slice none 0 0, .slice none 0 0, .slice none 0 0, .slice none 0 0, .int .i64 0] zeroSt ?_; intro W1 b4 F1 Z1; have C1 := C0.fresh F1; have B1 := F1.trans B0 B0.size; have hb4 : w.heap.size ≤ b4 := Nat.le_trans B0.size (Nat.le_of_eq F1.at'.symm); clear F1 C0)
  | (clear t3; refine wpList_valueX rfl (build_rd rfl rfl) ?_)
  | (clear t4; refine wpList_allocS rfl 152 rfl [.string ⟨#[]⟩, .int .i64 0, .bool false] zeroRd ?_; intro W1b b6 F2 R1; have C1b := C1.fresh F2; have Z1b := Z1.fresh F2; have B1b := F2.trans B1 B1.size; have hb6 : w.heap.size ≤ b6 := Nat.le_trans B1.size (Nat.le_of_eq F2.at'.symm); clear F2)
  | (refine wpList_storeW rfl 152 _ _ rfl rfl [.string T, .int .i64 0, .bool false] rfl R1 rfl infoRd (by intro v hv; simp only [List.mem_cons, List.not_mem_nil, or_false] at hv; rcases hv with rfl | rfl | rfl <;> rfl) ?_; intro W2 U2 R2x; have R2 : RdS W2 b6 T ⟨0, false⟩ := R2x; have C2 := isS_updT C1b R1 (by decide) U2; have Z2 := isS_updT Z1b R1 (by decide) U2; have B2 := U2.trans B1b hb6; obtain ⟨y0, y1, y2⟩ := three_cells C2; clear U2 R1 R2x C1b Z1b B1b C1 Z1 B1 B0))
 clear y0 y1 y2
 refine region_invA 10 (fun a0 listed a' w' => ∃ x16 x17 x18 x19 x20 x21 x22 x23 x24 x8 : Value, a' = ((((((((((a0.put (some 16) x16).put (some 17) x17).put (some 18) x18).put (some 19) x19).put (some 20) x20).put (some 21) x21).put (some 22) x22).put (some 23) x23).put (some 24) x24).put (some 8) x8) ∧ Hid (Below W2.heap.size W2 w') ∧ (listed.getD 8 false = true → listed.getD 1 false = true) ∧ (listed.getD 8 false = true → listed.getD 3 false = true) ∧ (listed.getD 8 false = true → listed.getD 5 false = true) ∧ (listed.getD 8 false = true → listed.getD 7 false = true) ∧ (listed.getD 0 false = true → x16 = (.int .i64 (n : Int))) ∧ (listed.getD 1 false = true → ∃ g, x17 = slc g n ∧ W2.heap.size ≤ g ∧ IsS w' g 3 (List.replicate n (.int .i64 0))) ∧ (listed.getD 2 false = true → x18 = (.int .i64 (n : Int))) ∧ (listed.getD 3 false = true → ∃ g, x19 = slc g n ∧ W2.heap.size ≤ g ∧ IsS w' g 3 (List.replicate n (.int .i64 0)) ∧ (listed.getD 1 false = true → x17 ≠ x19)) ∧ (listed.getD 4 false = true → x20 = (.int .i64 (n : Int))) ∧ (listed.getD 5 false = true → ∃ g, x21 = slc g n ∧ W2.heap.size ≤ g ∧ IsS w' g 26 (List.replicate n (.slice none 0 0))) ∧ (listed.getD 6 false = true → x22 = (.int .i64 (n : Int))) ∧ (listed.getD 7 false = true → ∃ g, x23 = slc g n ∧ W2.heap.size ≤ g ∧ IsS w' g 48 (List.replicate n (.slice none 0 0))) ∧ (listed.getD 8 false = true → x24 = .agg #[x17, x19, x21, .slice none 0 0, x23, .int .i64 0]) ∧ (listed.getD 9 false = true → ∃ b8, x8 = .pointer (some ⟨b8, 0, none⟩) ∧ W2.heap.size ≤ b8 ∧ IsS w' b8 32 [.slice none 0 0, .slice none 0 0, .slice none 0 0, .slice none 0 0, .slice none 0 0, .int .i64 0])) (by kernel_rfl) (by kernel_rfl) ?i0 ?istep ?iend
 case i0 => exact ⟨_, _, _, _, _, _, _, _, _, _, by (try simp only [sP]) <;> rfl, below_drew bR, fun h => (not_rep h).elim, fun h => (not_rep h).elim, fun h => (not_rep h).elim, fun h => (not_rep h).elim, fun h => (not_rep h).elim, fun h => (not_rep h).elim, fun h => (not_rep h).elim, fun h => (not_rep h).elim, fun h => (not_rep h).elim, fun h => (not_rep h).elim, fun h => (not_rep h).elim, fun h => (not_rep h).elim, fun h => (not_rep h).elim, fun h => (not_rep h).elim⟩
 case istep =>
  rintro i listed a' w' hi hr ⟨x16, x17, x18, x19, x20, x21, x22, x23, x24, x8, rfl, HBw, m8_1, m8_3, m8_5, m8_7, d0, d1, d2, d3, d4, d5, d6, d7, d8, d9⟩
  obtain ⟨hun, oj, hoj, hwt⟩ := mem_ready.1 hr
  simp only [sP]
  have hcase : i = 0 ∨ i = 1 ∨ i = 2 ∨ i = 3 ∨ i = 4 ∨ i = 5 ∨ i = 6 ∨ i = 7 ∨ i = 8 ∨ i = 9 := by omega
  rcases hcase with rfl | rfl | rfl | rfl | rfl | rfl | rfl | rfl | rfl | rfl
  · have hoj2 := hoj
    obtain rfl := oI hoj
    refine wpOp_value hoj2 rfl (v := (.int .i64 (n : Int))) (w' := w') (by first | rfl | (go_simp; done) | (simp [go_sem]; done) | (simp [execOp, go_sem]; done)) ?_
    exact ⟨(.int .i64 (n : Int)), x17, x18, x19, x20, x21, x22, x23, x24, x8, by (try simp only [sP]) <;> rfl, Below.then HBw.out bR, fun h => keepT (m8_1 (kp h)), fun h => keepT (m8_3 (kp h)), fun h => keepT (m8_5 (kp h)), fun h => keepT (m8_7 (kp h)), fun _ => rfl, fun h => (eE (d1 (kp h)) fun b h => ⟨b, h.1, h.2.1, h.2.2.grown bR⟩), d2 ∘ kq, fun h => (eE (d3 (kp h)) fun b h => ⟨b, h.1, h.2.1, h.2.2.1.grown bR, fun q => h.2.2.2 (keep (by decide) q)⟩), d4 ∘ kq, fun h => (eE (d5 (kp h)) fun b h => ⟨b, h.1, h.2.1, h.2.2.grown bR⟩), d6 ∘ kq, fun h => (eE (d7 (kp h)) fun b h => ⟨b, h.1, h.2.1, h.2.2.grown bR⟩), d8 ∘ kq, fun h => (eE (d9 (kp h)) fun b h => ⟨b, h.1, h.2.1, h.2.2.grown bR⟩)⟩
  · have hoj2 := hoj
    obtain rfl := oI hoj
    have e0 := d0 (hwt ⟨0, .data⟩ (by simp) rfl)
    subst e0
    refine wpOp_value hoj2 rfl (exec_make1 eIntI rfl _ _ rfl n hn rfl rfl) ?_
    have B9 := F_b (Fresh.alloc w' (.cells (List.replicate n (.int .i64 0)).toArray 3))
    exact ⟨(.int .i64 (n : Int)), _, x18, x19, x20, x21, x22, x23, x24, x8, by (try simp only [sP]) <;> rfl, Below.then HBw.out B9, fun h => keepT (m8_1 (kp h)), fun h => keepT (m8_3 (kp h)), fun h => keepT (m8_5 (kp h)), fun h => keepT (m8_7 (kp h)), d0 ∘ kq, fun _ => ⟨_, rfl, HBw.out.size, IsS.new w' 3 (List.replicate n (.int .i64 0))⟩, d2 ∘ kq, fun h => (eE (d3 (kp h)) fun b h => ⟨b, h.1, h.2.1, h.2.2.1.grown B9, fun _ e => by rw [h.1] at e; injection e with e1; injection e1 with e2; injection e2 with e3; have := h.2.2.1.lt; omega⟩), d4 ∘ kq, fun h => (eE (d5 (kp h)) fun b h => ⟨b, h.1, h.2.1, h.2.2.grown B9⟩), d6 ∘ kq, fun h => (eE (d7 (kp h)) fun b h => ⟨b, h.1, h.2.1, h.2.2.grown B9⟩), fun h => absurd (m8_1 (kp h)) (by rw [getD_both hun]; simp), fun h => (eE (d9 (kp h)) fun b h => ⟨b, h.1, h.2.1, h.2.2.grown B9⟩)⟩
  · have hoj2 := hoj
    obtain rfl := oI hoj
    refine wpOp_value hoj2 rfl (v := (.int .i64 (n : Int))) (w' := w') (by first | rfl | (go_simp; done) | (simp [go_sem]; done) | (simp [execOp, go_sem]; done)) ?_
    exact ⟨x16, x17, (.int .i64 (n : Int)), x19, x20, x21, x22, x23, x24, x8, by (try simp only [sP]) <;> rfl, Below.then HBw.out bR, fun h => keepT (m8_1 (kp h)), fun h => keepT (m8_3 (kp h)), fun h => keepT (m8_5 (kp h)), fun h => keepT (m8_7 (kp h)), d0 ∘ kq, fun h => (eE (d1 (kp h)) fun b h => ⟨b, h.1, h.2.1, h.2.2.grown bR⟩), fun _ => rfl, fun h => (eE (d3 (kp h)) fun b h => ⟨b, h.1, h.2.1, h.2.2.1.grown bR, fun q => h.2.2.2 (keep (by decide) q)⟩), d4 ∘ kq, fun h => (eE (d5 (kp h)) fun b h => ⟨b, h.1, h.2.1, h.2.2.grown bR⟩), d6 ∘ kq, fun h => (eE (d7 (kp h)) fun b h => ⟨b, h.1, h.2.1, h.2.2.grown bR⟩), d8 ∘ kq, fun h => (eE (d9 (kp h)) fun b h => ⟨b, h.1, h.2.1, h.2.2.grown bR⟩)⟩
  · have hoj2 := hoj
    obtain rfl := oI hoj
    have e2 := d2 (hwt ⟨2, .data⟩ (by simp) rfl)
    subst e2
    refine wpOp_value hoj2 rfl (exec_make1 eIntI rfl _ _ rfl n hn rfl rfl) ?_
    have B9 := F_b (Fresh.alloc w' (.cells (List.replicate n (.int .i64 0)).toArray 3))
    exact ⟨x16, x17, (.int .i64 (n : Int)), _, x20, x21, x22, x23, x24, x8, by (try simp only [sP]) <;> rfl, Below.then HBw.out B9, fun h => keepT (m8_1 (kp h)), fun h => keepT (m8_3 (kp h)), fun h => keepT (m8_5 (kp h)), fun h => keepT (m8_7 (kp h)), d0 ∘ kq, fun h => (eE (d1 (kp h)) fun b h => ⟨b, h.1, h.2.1, h.2.2.grown B9⟩), d2 ∘ kq, fun _ => ⟨_, rfl, HBw.out.size, IsS.new w' 3 (List.replicate n (.int .i64 0)), fun q e => by obtain ⟨g, eg, _, Ig⟩ := d1 (keep (by decide) q); rw [eg] at e; injection e with e1; injection e1 with e2; injection e2 with e3; have := Ig.lt; omega⟩, d4 ∘ kq, fun h => (eE (d5 (kp h)) fun b h => ⟨b, h.1, h.2.1, h.2.2.grown B9⟩), d6 ∘ kq, fun h => (eE (d7 (kp h)) fun b h => ⟨b, h.1, h.2.1, h.2.2.grown B9⟩), fun h => absurd (m8_3 (kp h)) (by rw [getD_both hun]; simp), fun h => (eE (d9 (kp h)) fun b h => ⟨b, h.1, h.2.1, h.2.2.grown B9⟩)⟩
  · have hoj2 := hoj
    obtain rfl := oI hoj
    refine wpOp_value hoj2 rfl (v := (.int .i64 (n : Int))) (w' := w') (by first | rfl | (go_simp; done) | (simp [go_sem]; done) | (simp [execOp, go_sem]; done)) ?_
    exact ⟨x16, x17, x18, x19, (.int .i64 (n : Int)), x21, x22, x23, x24, x8, by (try simp only [sP]) <;> rfl, Below.then HBw.out bR, fun h => keepT (m8_1 (kp h)), fun h => keepT (m8_3 (kp h)), fun h => keepT (m8_5 (kp h)), fun h => keepT (m8_7 (kp h)), d0 ∘ kq, fun h => (eE (d1 (kp h)) fun b h => ⟨b, h.1, h.2.1, h.2.2.grown bR⟩), d2 ∘ kq, fun h => (eE (d3 (kp h)) fun b h => ⟨b, h.1, h.2.1, h.2.2.1.grown bR, fun q => h.2.2.2 (keep (by decide) q)⟩), fun _ => rfl, fun h => (eE (d5 (kp h)) fun b h => ⟨b, h.1, h.2.1, h.2.2.grown bR⟩), d6 ∘ kq, fun h => (eE (d7 (kp h)) fun b h => ⟨b, h.1, h.2.1, h.2.2.grown bR⟩), d8 ∘ kq, fun h => (eE (d9 (kp h)) fun b h => ⟨b, h.1, h.2.1, h.2.2.grown bR⟩)⟩
  · have hoj2 := hoj
    obtain rfl := oI hoj
    have e4 := d4 (hwt ⟨4, .data⟩ (by simp) rfl)
    subst e4
    refine wpOp_value hoj2 rfl (exec_make1 eInts rfl _ _ rfl n hn rfl rfl) ?_
    have B9 := F_b (Fresh.alloc w' (.cells (List.replicate n (.slice none 0 0)).toArray 26))
    exact ⟨x16, x17, x18, x19, (.int .i64 (n : Int)), _, x22, x23, x24, x8, by (try simp only [sP]) <;> rfl, Below.then HBw.out B9, fun h => keepT (m8_1 (kp h)), fun h => keepT (m8_3 (kp h)), fun h => keepT (m8_5 (kp h)), fun h => keepT (m8_7 (kp h)), d0 ∘ kq, fun h => (eE (d1 (kp h)) fun b h => ⟨b, h.1, h.2.1, h.2.2.grown B9⟩), d2 ∘ kq, fun h => (eE (d3 (kp h)) fun b h => ⟨b, h.1, h.2.1, h.2.2.1.grown B9, fun q => h.2.2.2 (keep (by decide) q)⟩), d4 ∘ kq, fun _ => ⟨_, rfl, HBw.out.size, IsS.new w' 26 (List.replicate n (.slice none 0 0))⟩, d6 ∘ kq, fun h => (eE (d7 (kp h)) fun b h => ⟨b, h.1, h.2.1, h.2.2.grown B9⟩), fun h => absurd (m8_5 (kp h)) (by rw [getD_both hun]; simp), fun h => (eE (d9 (kp h)) fun b h => ⟨b, h.1, h.2.1, h.2.2.grown B9⟩)⟩
  · have hoj2 := hoj
    obtain rfl := oI hoj
    refine wpOp_value hoj2 rfl (v := (.int .i64 (n : Int))) (w' := w') (by first | rfl | (go_simp; done) | (simp [go_sem]; done) | (simp [execOp, go_sem]; done)) ?_
    exact ⟨x16, x17, x18, x19, x20, x21, (.int .i64 (n : Int)), x23, x24, x8, by (try simp only [sP]) <;> rfl, Below.then HBw.out bR, fun h => keepT (m8_1 (kp h)), fun h => keepT (m8_3 (kp h)), fun h => keepT (m8_5 (kp h)), fun h => keepT (m8_7 (kp h)), d0 ∘ kq, fun h => (eE (d1 (kp h)) fun b h => ⟨b, h.1, h.2.1, h.2.2.grown bR⟩), d2 ∘ kq, fun h => (eE (d3 (kp h)) fun b h => ⟨b, h.1, h.2.1, h.2.2.1.grown bR, fun q => h.2.2.2 (keep (by decide) q)⟩), d4 ∘ kq, fun h => (eE (d5 (kp h)) fun b h => ⟨b, h.1, h.2.1, h.2.2.grown bR⟩), fun _ => rfl, fun h => (eE (d7 (kp h)) fun b h => ⟨b, h.1, h.2.1, h.2.2.grown bR⟩), d8 ∘ kq, fun h => (eE (d9 (kp h)) fun b h => ⟨b, h.1, h.2.1, h.2.2.grown bR⟩)⟩
  · have hoj2 := hoj
    obtain rfl := oI hoj
    have e6 := d6 (hwt ⟨6, .data⟩ (by simp) rfl)
    subst e6
    refine wpOp_value hoj2 rfl (exec_make1 eWrs rfl _ _ rfl n hn rfl rfl) ?_
    have B9 := F_b (Fresh.alloc w' (.cells (List.replicate n (.slice none 0 0)).toArray 48))
    exact ⟨x16, x17, x18, x19, x20, x21, (.int .i64 (n : Int)), _, x24, x8, by (try simp only [sP]) <;> rfl, Below.then HBw.out B9, fun h => keepT (m8_1 (kp h)), fun h => keepT (m8_3 (kp h)), fun h => keepT (m8_5 (kp h)), fun h => keepT (m8_7 (kp h)), d0 ∘ kq, fun h => (eE (d1 (kp h)) fun b h => ⟨b, h.1, h.2.1, h.2.2.grown B9⟩), d2 ∘ kq, fun h => (eE (d3 (kp h)) fun b h => ⟨b, h.1, h.2.1, h.2.2.1.grown B9, fun q => h.2.2.2 (keep (by decide) q)⟩), d4 ∘ kq, fun h => (eE (d5 (kp h)) fun b h => ⟨b, h.1, h.2.1, h.2.2.grown B9⟩), d6 ∘ kq, fun _ => ⟨_, rfl, HBw.out.size, IsS.new w' 48 (List.replicate n (.slice none 0 0))⟩, fun h => absurd (m8_7 (kp h)) (by rw [getD_both hun]; simp), fun h => (eE (d9 (kp h)) fun b h => ⟨b, h.1, h.2.1, h.2.2.grown B9⟩)⟩
  · have hoj2 := hoj
    obtain rfl := oI hoj
    have e1 := d1 (hwt ⟨1, .data⟩ (by simp) rfl)
    have e3 := d3 (hwt ⟨3, .data⟩ (by simp) rfl)
    have e5 := d5 (hwt ⟨5, .data⟩ (by simp) rfl)
    have e7 := d7 (hwt ⟨7, .data⟩ (by simp) rfl)
    obtain ⟨g1, f1, _, _⟩ := e1
    obtain ⟨g3, f3, _, _⟩ := e3
    obtain ⟨g5, f5, _, _⟩ := e5
    obtain ⟨g7, f7, _, _⟩ := e7
    subst f1 f3 f5 f7
    refine wpOp_value hoj2 rfl (v := .agg #[slc g1 n, slc g3 n, slc g5 n, .slice none 0 0, slc g7 n, .int .i64 0]) (w' := w') (build_st rfl rfl rfl rfl rfl) ?_
    exact ⟨x16, _, x18, _, x20, _, x22, _, _, x8, by (try simp only [sP]) <;> rfl, Below.then HBw.out bR, fun _ => keepT (hwt ⟨1, .data⟩ (by simp) rfl), fun _ => keepT (hwt ⟨3, .data⟩ (by simp) rfl), fun _ => keepT (hwt ⟨5, .data⟩ (by simp) rfl), fun _ => keepT (hwt ⟨7, .data⟩ (by simp) rfl), d0 ∘ kq, fun h => (eE (d1 (kp h)) fun b h => ⟨b, h.1, h.2.1, h.2.2.grown bR⟩), d2 ∘ kq, fun h => (eE (d3 (kp h)) fun b h => ⟨b, h.1, h.2.1, h.2.2.1.grown bR, fun q => h.2.2.2 (keep (by decide) q)⟩), d4 ∘ kq, fun h => (eE (d5 (kp h)) fun b h => ⟨b, h.1, h.2.1, h.2.2.grown bR⟩), d6 ∘ kq, fun h => (eE (d7 (kp h)) fun b h => ⟨b, h.1, h.2.1, h.2.2.grown bR⟩), fun _ => rfl, fun h => (eE (d9 (kp h)) fun b h => ⟨b, h.1, h.2.1, h.2.2.grown bR⟩)⟩
  · have hoj2 := hoj
    obtain rfl := oI hoj
    refine wpOp_value hoj2 rfl (run_allocS 32 [.slice none 0 0, .slice none 0 0, .slice none 0 0, .slice none 0 0, .slice none 0 0, .int .i64 0] zeroSt rfl _ w') ?_
    have B9 := F_b (Fresh.alloc w' (.cells ([.slice none 0 0, .slice none 0 0, .slice none 0 0, .slice none 0 0, .slice none 0 0, .int .i64 0] : List Value).toArray 32))
    exact ⟨x16, x17, x18, x19, x20, x21, x22, x23, x24, _, by (try simp only [sP]) <;> rfl, Below.then HBw.out B9, fun h => keepT (m8_1 (kp h)), fun h => keepT (m8_3 (kp h)), fun h => keepT (m8_5 (kp h)), fun h => keepT (m8_7 (kp h)), d0 ∘ kq, fun h => (eE (d1 (kp h)) fun b h => ⟨b, h.1, h.2.1, h.2.2.grown B9⟩), d2 ∘ kq, fun h => (eE (d3 (kp h)) fun b h => ⟨b, h.1, h.2.1, h.2.2.1.grown B9, fun q => h.2.2.2 (keep (by decide) q)⟩), d4 ∘ kq, fun h => (eE (d5 (kp h)) fun b h => ⟨b, h.1, h.2.1, h.2.2.grown B9⟩), d6 ∘ kq, fun h => (eE (d7 (kp h)) fun b h => ⟨b, h.1, h.2.1, h.2.2.grown B9⟩), d8 ∘ kq, fun _ => ⟨_, rfl, HBw.out.size, IsS.new w' 32 [.slice none 0 0, .slice none 0 0, .slice none 0 0, .slice none 0 0, .slice none 0 0, .int .i64 0]⟩⟩
 case iend =>
  rintro a' w' ⟨x16, x17, x18, x19, x20, x21, x22, x23, x24, x8, rfl, HBw, m8_1, m8_3, m8_5, m8_7, d0, d1, d2, d3, d4, d5, d6, d7, d8, d9⟩
  replace d0 := d0 rfl
  replace d1 := d1 rfl
  replace d2 := d2 rfl
  replace d3 := d3 rfl
  replace d4 := d4 rfl
  replace d5 := d5 rfl
  replace d6 := d6 rfl
  replace d7 := d7 rfl
  replace d8 := d8 rfl
  replace d9 := d9 rfl
  clear m8_1 m8_3 m8_5 m8_7
  simp only [sP]
  simp only [List.drop_succ_cons, List.drop_zero]
  obtain ⟨gp, e17, hgp, I17⟩ := d1
  obtain ⟨gh, e19, hgh, I19, hne⟩ := d3
  obtain ⟨gr, e21, hgr, I21⟩ := d5
  obtain ⟨gb, e23, hgb, I23⟩ := d7
  obtain ⟨b8, e8, hb8, I8⟩ := d9
  have hne' := hne rfl
  subst e17 e19 e21 e23 d0 d2 d4 d6 d8 e8
  have Bw := HBw.out
  clear HBw hne
  have hne2 : gp ≠ gh := fun e => hne' (by rw [e])
  have C3 := C2.grown Bw
  have Z3 := Z2.grown Bw
  have R3 : RdS w' b6 T ⟨0, false⟩ := IsS.grown R2 Bw
  have B3 := Below.then B2 Bw
  have n48 : b4 ≠ b8 := by have := Z2.lt; omega
  have hsz2 := B2.size
  have tq : True := trivial
  go_wp2_with (first
   | (clear tq; refine wpList_storeW rfl 32 _ _ rfl rfl [slc gp n, slc gh n, slc gr n, .slice none 0 0, slc gb n, .int .i64 0] rfl I8 rfl infoSt (by intro v hv; simp only [List.mem_cons, List.not_mem_nil, or_false] at hv; rcases hv with rfl | rfl | rfl | rfl | rfl | rfl <;> rfl) ?_; intro W4 U4 I4))
  have HLA : Hid (LA w T n b2 b4 b6 b8 gp gh gr gb [.slice ai n ci, .slice ar n cr, .int .i64 (nl : Int)] W4 (thsR T z ⟨0, false⟩ 0).2 ((thsR T z ⟨0, false⟩ 0).1.1 ++ List.replicate (n - 0) 0) ((thsR T z ⟨0, false⟩ 0).1.2.1 ++ List.replicate (n - 0) 0) (rowsC ([] : List (Nat × List Int)) ++ List.replicate (n - 0) (.slice none 0 0)) (List.replicate n (.slice none 0 0)) (.slice none 0 0) 0 [] []) :=
   ⟨isS_updT R3 I8 (by decide) U4, I4, isS_updT C3 I8 (by decide) U4, Z3.upd U4 n48, (by show IsS _ _ _ (List.map _ ([] ++ List.replicate n 0)); rw [List.nil_append, List.map_replicate]; exact isS_updT I17 I8 (by decide) U4), (by show IsS _ _ _ (List.map _ ([] ++ List.replicate n 0)); rw [List.nil_append, List.map_replicate]; exact isS_updT I19 I8 (by decide) U4), isS_updT I21 I8 (by decide) U4, isS_updT I23 I8 (by decide) U4, (fun x hx => by cases hx), (fun x hx => by cases hx), U4.trans B3 (by omega), hne2, n48, ⟨hb4, hb6, by omega, by omega, by omega, by omega, by omega⟩, (fun x hx => by cases hx), (fun x hx => by cases hx), List.nodup_nil, List.nodup_nil⟩
  clear I17 I19 I21 I23 I8 I4 U4 C3 Z3 R3 B3 C2 Z2 R2 B2 Bw hne' hgp hgh hgr hgb hb8 n48 hne2
  go_loopw [26] (fun i wr => ∃ (k : Nat) (rows : List (Nat × List Int)), k ≤ n ∧ i = .int .i64 (k : Int) ∧ Hid (rows.map (·.2) = (thsR T z ⟨0, false⟩ k).1.2.2) ∧ Hid (LA w T n b2 b4 b6 b8 gp gh gr gb [.slice ai n ci, .slice ar n cr, .int .i64 (nl : Int)] wr (thsR T z ⟨0, false⟩ k).2 ((thsR T z ⟨0, false⟩ k).1.1 ++ List.replicate (n - k) 0) ((thsR T z ⟨0, false⟩ k).1.2.1 ++ List.replicate (n - k) 0) (rowsC rows ++ List.replicate (n - k) (.slice none 0 0)) (List.replicate n (.slice none 0 0)) (.slice none 0 0) 0 rows [])) (fun i _ => n - (intOf i).toNat)
  case atStart => exact ⟨0, [], by omega, rfl, rfl, HLA⟩
  case round =>
   clear HLA
   obtain ⟨k, rows, hk, rfl, HRW, HL⟩ := hrel
   have hcut := thsR_cut T z ⟨0, false⟩ k
   by_cases hlt : k < n
   · have hki : (k : Int) < n := by omega
     obtain ⟨ik, hik⟩ : ∃ x, z.ins[k]? = some x := ⟨_, List.getElem?_eq_getElem (by rw [HZ.out.1]; exact hlt)⟩
     obtain ⟨rk, hrk⟩ : ∃ x, z.rgs[k]? = some x := ⟨_, List.getElem?_eq_getElem (by rw [HZ.out.2.1]; exact hlt)⟩
     have hrk20 : rk ≤ 1048576 := HZ.out.2.2.2 rk (List.mem_of_getElem? hrk)
     obtain ⟨bi, oi, ei, hbiw, yi0⟩ := HI.out.int (natI_get hik)
     obtain ⟨br, orr, er, hbrw, yr⟩ := HRg.out.int (natI_get hrk)
     subst ei er
     have hat0 : (thsR T z ⟨0, false⟩ k).2.at' ≤ T.size := thsR_at (by simp) k
     have HAX0 : thsR T z ⟨0, false⟩ (k + 1) = (((thsR T z ⟨0, false⟩ k).1.1 ++ [(numR T 0 (ik : Nat) (thsR T z ⟨0, false⟩ k).2).1], (thsR T z ⟨0, false⟩ k).1.2.1 ++ [(numR T 0 2 (numR T 0 (ik : Nat) (thsR T z ⟨0, false⟩ k).2).2).1], (thsR T z ⟨0, false⟩ k).1.2.2 ++ [(valsR T (numR T 0 2 (numR T 0 (ik : Nat) (thsR T z ⟨0, false⟩ k).2).2).2 rk).1]), (valsR T (numR T 0 2 (numR T 0 (ik : Nat) (thsR T z ⟨0, false⟩ k).2).2).2 rk).2) := by
      simp only [thsR, getDS_of hik, getDS_of hrk]
     obtain ⟨AA, eA⟩ : ∃ x, x = (thsR T z ⟨0, false⟩ k) := ⟨_, rfl⟩
     rw [← eA] at HAX0 HRW HL hat0 hcut
     clear eA
     obtain ⟨⟨P1, P2, P3⟩, r0⟩ := AA
     simp only at HAX0 HRW HL hat0 hcut
     have hr1 := numR_at (T := T) (lo := 0) (hi := (ik : Int)) hat0
     have hN1 := fun W h => rnum_any T hT r0 hat0 0 (ik : Int) b6 W h
     obtain ⟨v1, ev1⟩ : ∃ x, x = (numR T 0 (ik : Int) r0).1 := ⟨_, rfl⟩
     obtain ⟨r1, er1⟩ : ∃ x, x = (numR T 0 (ik : Int) r0).2 := ⟨_, rfl⟩
     simp only [← ev1, ← er1] at hN1 HAX0 hr1
     have hr2 := numR_at (T := T) (lo := 0) (hi := 2) hr1
     have hN2 := fun W h => rnum_any T hT r1 hr1 0 2 b6 W h
     obtain ⟨v2, ev2⟩ : ∃ x, x = (numR T 0 2 r1).1 := ⟨_, rfl⟩
     obtain ⟨r2, er2⟩ : ∃ x, x = (numR T 0 2 r1).2 := ⟨_, rfl⟩
     simp only [← ev2, ← er2] at hN2 HAX0 hr2
     have hV := fun W h => values_any T hT r2 hr2 rk hrk20 b6 W h
     have HV3 : Hid ((valsR T r2 rk).1.length = rk) := (valsR_cut T r2 rk).2
     obtain ⟨V3, ev3⟩ : ∃ x, x = (valsR T r2 rk).1 := ⟨_, rfl⟩
     obtain ⟨r3, er3⟩ : ∃ x, x = (valsR T r2 rk).2 := ⟨_, rfl⟩
     rw [← ev3] at HV3
     simp only [← ev3, ← er3] at hV HAX0
     have HAX : Hid (thsR T z ⟨0, false⟩ (k + 1) = ((P1 ++ [v1], P2 ++ [v2], P3 ++ [V3]), r3)) := HAX0
     have HA1 : Hid (P1.length = k) := hcut.2.1
     have HA2 : Hid (P2.length = k) := hcut.2.2.1
     have HRL : Hid (rows.length = k) := by show _ = _; have := congrArg List.length HRW.out; rw [List.length_map, hcut.2.2.2.1] at this; exact this
     have LA0 := HL.out
     have hbiW : bi < wr.heap.size := Nat.lt_of_lt_of_le hbiw LA0.bel.size
     have yi : wr.cell? ⟨bi, oi + k, none⟩ = some (.int .i64 (ik : Int)) := by rw [LA0.bel.cell (p := ⟨bi, oi + k, none⟩) hbiw]; exact yi0
     have hbi6 : bi ≠ b6 := by have := LA0.low.2.1; omega
     have hbr6 : br ≠ b6 := by have := LA0.low.2.1; omega
     have HR0 : RdS wr b6 T r0 := LA0.rd
     have hrkI : (rk : Int) ≤ 1048576 := by omega
     clear HAX0 ev1 er1 ev2 er2 ev3 er3 hcut HL hat0 hr1 hr2 hik hrk yi0
     have ta : True := trivial
     have tb : True := trivial
     have tc : True := trivial
     go_wp2_with fail
     refine region_invA 10 (fun a0 listed a' w' => ∃ x29 x30 x31 x32 x33 x34 x35 x36 x37 x38 : Value, a' = ((((((((((a0.put (some 29) x29).put (some 30) x30).put (some 31) x31).put (some 32) x32).put (some 33) x33).put (some 34) x34).put (some 35) x35).put (some 36) x36).put (some 37) x37).put (some 38) x38) ∧ Hid (One wr w' b6) ∧ (listed.getD 8 false = false → RdS w' b6 T r0) ∧ (listed.getD 0 false = true → x29 = (.pointer (some ⟨b8, 0, none⟩))) ∧ (listed.getD 1 false = true → x30 = (.slice (some ⟨gp, 0, none⟩) n n)) ∧ (listed.getD 2 false = true → x31 = (.int .i64 (k : Int))) ∧ (listed.getD 3 false = true → x32 = (.pointer (some ⟨b2, 0, none⟩))) ∧ (listed.getD 4 false = true → x33 = (.slice (some ⟨bi, oi, none⟩) n ci)) ∧ (listed.getD 5 false = true → x34 = (.int .i64 (k : Int))) ∧ (listed.getD 6 false = true → x35 = (.pointer (some ⟨bi, oi + k, none⟩))) ∧ (listed.getD 7 false = true → x36 = (.int .i64 (ik : Int))) ∧ (listed.getD 8 false = true → x37 = .int .i64 v1 ∧ RdS w' b6 T r1) ∧ (listed.getD 9 false = true → x38 = (.pointer (some ⟨gp, k, none⟩)))) (by kernel_rfl) (by kernel_rfl) ?i0a ?istepa ?ienda
     case i0a => exact ⟨_, _, _, _, _, _, _, _, _, _, by (try simp only [sP]) <;> rfl, One.of_below (below_drew bR) _, fun _ => HR0, fun h => (not_rep h).elim, fun h => (not_rep h).elim, fun h => (not_rep h).elim, fun h => (not_rep h).elim, fun h => (not_rep h).elim, fun h => (not_rep h).elim, fun h => (not_rep h).elim, fun h => (not_rep h).elim, fun h => (not_rep h).elim, fun h => (not_rep h).elim⟩
     case istepa =>
      rintro i listed a' w' hi hr ⟨x29, x30, x31, x32, x33, x34, x35, x36, x37, x38, rfl, HBw, hpre, d0, d1, d2, d3, d4, d5, d6, d7, d8, d9⟩
      obtain ⟨hun, oj, hoj, hwt⟩ := mem_ready.1 hr
      simp only [sP]
      have hcase : i = 0 ∨ i = 1 ∨ i = 2 ∨ i = 3 ∨ i = 4 ∨ i = 5 ∨ i = 6 ∨ i = 7 ∨ i = 8 ∨ i = 9 := by omega
      rcases hcase with rfl | rfl | rfl | rfl | rfl | rfl | rfl | rfl | rfl | rfl
      · have hoj2 := hoj
        obtain rfl := oI hoj
        refine wpOp_value hoj2 rfl (v := (.pointer (some ⟨b8, 0, none⟩))) (w' := w') (by first | rfl | (go_simp; done) | (simp [go_sem]; done) | (simp [execOp, go_sem]; done)) ?_
        exact ⟨(.pointer (some ⟨b8, 0, none⟩)), x30, x31, x32, x33, x34, x35, x36, x37, x38, by (try simp only [sP]) <;> rfl, HBw, fun h => hpre (keepG (by decide) h), fun _ => rfl, d1 ∘ kq, d2 ∘ kq, d3 ∘ kq, d4 ∘ kq, d5 ∘ kq, d6 ∘ kq, d7 ∘ kq, d8 ∘ kq, d9 ∘ kq⟩
      · have hoj2 := hoj
        obtain rfl := oI hoj
        have e0 := d0 (hwt ⟨0, .data⟩ (by simp) rfl)
        subst e0
        refine wpOp_cell hoj2 rfl 29 _ rfl rfl (v := (.slice (some ⟨gp, 0, none⟩) n n)) (by have h : w'.cell? ⟨_, _, none⟩ = some (.slice (some ⟨gp, 0, none⟩) n n) := (isS_one LA0.s8 LA0.rd (by decide) HBw.out).cell 0; simp [go_sem, h]) ?_
        exact ⟨(.pointer (some ⟨b8, 0, none⟩)), (.slice (some ⟨gp, 0, none⟩) n n), x31, x32, x33, x34, x35, x36, x37, x38, by (try simp only [sP]) <;> rfl, HBw, fun h => hpre (keepG (by decide) h), d0 ∘ kq, fun _ => rfl, d2 ∘ kq, d3 ∘ kq, d4 ∘ kq, d5 ∘ kq, d6 ∘ kq, d7 ∘ kq, d8 ∘ kq, d9 ∘ kq⟩
      · have hoj2 := hoj
        obtain rfl := oI hoj
        refine wpOp_value hoj2 rfl (v := (.int .i64 (k : Int))) (w' := w') (by first | rfl | (go_simp; done) | (simp [go_sem]; done) | (simp [execOp, go_sem]; done)) ?_
        exact ⟨x29, x30, (.int .i64 (k : Int)), x32, x33, x34, x35, x36, x37, x38, by (try simp only [sP]) <;> rfl, HBw, fun h => hpre (keepG (by decide) h), d0 ∘ kq, d1 ∘ kq, fun _ => rfl, d3 ∘ kq, d4 ∘ kq, d5 ∘ kq, d6 ∘ kq, d7 ∘ kq, d8 ∘ kq, d9 ∘ kq⟩
      · have hoj2 := hoj
        obtain rfl := oI hoj
        refine wpOp_value hoj2 rfl (v := (.pointer (some ⟨b2, 0, none⟩))) (w' := w') (by first | rfl | (go_simp; done) | (simp [go_sem]; done) | (simp [execOp, go_sem]; done)) ?_
        exact ⟨x29, x30, x31, (.pointer (some ⟨b2, 0, none⟩)), x33, x34, x35, x36, x37, x38, by (try simp only [sP]) <;> rfl, HBw, fun h => hpre (keepG (by decide) h), d0 ∘ kq, d1 ∘ kq, d2 ∘ kq, fun _ => rfl, d4 ∘ kq, d5 ∘ kq, d6 ∘ kq, d7 ∘ kq, d8 ∘ kq, d9 ∘ kq⟩
      · have hoj2 := hoj
        obtain rfl := oI hoj
        have e3 := d3 (hwt ⟨3, .data⟩ (by simp) rfl)
        subst e3
        refine wpOp_cell hoj2 rfl 29 _ rfl rfl (v := (.slice (some ⟨bi, oi, none⟩) n ci)) (by have h : w'.cell? ⟨_, _, none⟩ = some (.slice (some ⟨bi, oi, none⟩) n ci) := (isS_one LA0.c2 LA0.rd (by decide) HBw.out).cell 0; simp [go_sem, h]) ?_
        exact ⟨x29, x30, x31, (.pointer (some ⟨b2, 0, none⟩)), (.slice (some ⟨bi, oi, none⟩) n ci), x34, x35, x36, x37, x38, by (try simp only [sP]) <;> rfl, HBw, fun h => hpre (keepG (by decide) h), d0 ∘ kq, d1 ∘ kq, d2 ∘ kq, d3 ∘ kq, fun _ => rfl, d5 ∘ kq, d6 ∘ kq, d7 ∘ kq, d8 ∘ kq, d9 ∘ kq⟩
      · have hoj2 := hoj
        obtain rfl := oI hoj
        refine wpOp_value hoj2 rfl (v := (.int .i64 (k : Int))) (w' := w') (by first | rfl | (go_simp; done) | (simp [go_sem]; done) | (simp [execOp, go_sem]; done)) ?_
        exact ⟨x29, x30, x31, x32, x33, (.int .i64 (k : Int)), x35, x36, x37, x38, by (try simp only [sP]) <;> rfl, HBw, fun h => hpre (keepG (by decide) h), d0 ∘ kq, d1 ∘ kq, d2 ∘ kq, d3 ∘ kq, d4 ∘ kq, fun _ => rfl, d6 ∘ kq, d7 ∘ kq, d8 ∘ kq, d9 ∘ kq⟩
      · have hoj2 := hoj
        obtain rfl := oI hoj
        have e4 := d4 (hwt ⟨4, .data⟩ (by simp) rfl)
        have e5 := d5 (hwt ⟨5, .data⟩ (by simp) rfl)
        subst e4 e5
        refine wpOp_value hoj2 rfl (v := (.pointer (some ⟨bi, oi + k, none⟩))) (w' := w') (by first | (simp [execOp, go_sem, hki]; done) | rfl) ?_
        exact ⟨x29, x30, x31, x32, (.slice (some ⟨bi, oi, none⟩) n ci), (.int .i64 (k : Int)), (.pointer (some ⟨bi, oi + k, none⟩)), x36, x37, x38, by (try simp only [sP]) <;> rfl, HBw, fun h => hpre (keepG (by decide) h), d0 ∘ kq, d1 ∘ kq, d2 ∘ kq, d3 ∘ kq, d4 ∘ kq, d5 ∘ kq, fun _ => rfl, d7 ∘ kq, d8 ∘ kq, d9 ∘ kq⟩
      · have hoj2 := hoj
        obtain rfl := oI hoj
        have e6 := d6 (hwt ⟨6, .data⟩ (by simp) rfl)
        subst e6
        refine wpOp_cell hoj2 rfl 3 _ rfl rfl (v := (.int .i64 (ik : Int))) (by have h : w'.cell? ⟨_, _, none⟩ = some (.int .i64 (ik : Int)) := ((one_cell HBw.out hbiW hbi6).trans yi); simp [go_sem, h]) ?_
        exact ⟨x29, x30, x31, x32, x33, x34, (.pointer (some ⟨bi, oi + k, none⟩)), (.int .i64 (ik : Int)), x37, x38, by (try simp only [sP]) <;> rfl, HBw, fun h => hpre (keepG (by decide) h), d0 ∘ kq, d1 ∘ kq, d2 ∘ kq, d3 ∘ kq, d4 ∘ kq, d5 ∘ kq, d6 ∘ kq, fun _ => rfl, d8 ∘ kq, d9 ∘ kq⟩
      · have hoj2 := hoj
        obtain rfl := oI hoj
        have e7 := d7 (hwt ⟨7, .data⟩ (by simp) rfl)
        subst e7
        have hpre0 := hpre (getD_both hun)
        refine wpOp_call hoj2 rfl (f := 93) (args := #[.pointer (some ⟨b6, 0, none⟩), .int .i64 0, .int .i64 (ik : Int)]) (by first | rfl | (go_simp; done) | (simp [go_sem]; done) | (simp [execOp, go_sem]; done)) ?_
        refine (hN1 w' hpre0).mono ?_
        rintro e w4 ⟨rfl, R4, O4⟩
        refine ⟨_, rfl, ?_⟩
        exact ⟨x29, x30, x31, x32, x33, x34, x35, (.int .i64 (ik : Int)), _, x38, by (try simp only [sP]) <;> rfl, HBw.out.trans O4, fun h => absurd h (by rw [nowU hun]; simp), d0 ∘ kq, d1 ∘ kq, d2 ∘ kq, d3 ∘ kq, d4 ∘ kq, d5 ∘ kq, d6 ∘ kq, d7 ∘ kq, fun _ => ⟨rfl, R4⟩, d9 ∘ kq⟩
      · have hoj2 := hoj
        obtain rfl := oI hoj
        have e1 := d1 (hwt ⟨1, .data⟩ (by simp) rfl)
        have e2 := d2 (hwt ⟨2, .data⟩ (by simp) rfl)
        subst e1 e2
        refine wpOp_value hoj2 rfl (v := (.pointer (some ⟨gp, k, none⟩))) (w' := w') (by first | (simp [execOp, go_sem, hki]; done) | rfl) ?_
        exact ⟨x29, (.slice (some ⟨gp, 0, none⟩) n n), (.int .i64 (k : Int)), x32, x33, x34, x35, x36, x37, (.pointer (some ⟨gp, k, none⟩)), by (try simp only [sP]) <;> rfl, HBw, fun h => hpre (keepG (by decide) h), d0 ∘ kq, d1 ∘ kq, d2 ∘ kq, d3 ∘ kq, d4 ∘ kq, d5 ∘ kq, d6 ∘ kq, d7 ∘ kq, d8 ∘ kq, fun _ => rfl⟩
     case ienda =>
      rintro a' w' ⟨x29, x30, x31, x32, x33, x34, x35, x36, x37, x38, rfl, HBw, hpre, d0, d1, d2, d3, d4, d5, d6, d7, d8, d9⟩
      replace d0 := d0 rfl
      replace d1 := d1 rfl
      replace d2 := d2 rfl
      replace d3 := d3 rfl
      replace d4 := d4 rfl
      replace d5 := d5 rfl
      replace d6 := d6 rfl
      replace d7 := d7 rfl
      replace d8 := d8 rfl
      replace d9 := d9 rfl
      clear hpre
      simp only [sP]
      simp only [List.drop_succ_cons, List.drop_zero]
      obtain ⟨e37, R7⟩ := d8
      subst e37 d0 d1 d2 d3 d4 d5 d6 d7 d9
      have LA1 := LA0.one R7 HBw.out
      clear HBw R7 HR0 LA0
      go_wp2_with (first
       | (clear ta; refine wpList_store1 rfl 3 _ _ rfl rfl (.int .i64 v1) rfl LA1.pc (by simp; have := HA1.out; omega) info3x rfl ?_; intro W8 U8 I8; have LA2 := LA1.upPc (pc' := (P1 ++ [v1]) ++ List.replicate (n - (k + 1)) 0) U8 (by rw [← fill_set (Value.int .i64) P1 v1 0 n k HA1.out hlt]; exact I8); clear U8 I8 LA1))
      have HR0 : RdS W8 b6 T r1 := LA2.rd
      refine region_invA 5 (fun a0 listed a' w' => ∃ x39 x40 x41 x42 x43 : Value, a' = (((((a0.put (some 39) x39).put (some 40) x40).put (some 41) x41).put (some 42) x42).put (some 43) x43) ∧ Hid (One W8 w' b6) ∧ (listed.getD 3 false = false → RdS w' b6 T r1) ∧ (listed.getD 0 false = true → x39 = (.pointer (some ⟨b8, 1, none⟩))) ∧ (listed.getD 1 false = true → x40 = (.slice (some ⟨gh, 0, none⟩) n n)) ∧ (listed.getD 2 false = true → x41 = (.int .i64 (k : Int))) ∧ (listed.getD 3 false = true → x42 = .int .i64 v2 ∧ RdS w' b6 T r2) ∧ (listed.getD 4 false = true → x43 = (.pointer (some ⟨gh, k, none⟩)))) (by kernel_rfl) (by kernel_rfl) ?i0b ?istepb ?iendb
      case i0b => exact ⟨_, _, _, _, _, by (try simp only [sP]) <;> rfl, One.of_below (below_drew bR) _, fun _ => HR0, fun h => (not_rep h).elim, fun h => (not_rep h).elim, fun h => (not_rep h).elim, fun h => (not_rep h).elim, fun h => (not_rep h).elim⟩
      case istepb =>
       rintro i listed a' w' hi hr ⟨x39, x40, x41, x42, x43, rfl, HBw, hpre, d0, d1, d2, d3, d4⟩
       obtain ⟨hun, oj, hoj, hwt⟩ := mem_ready.1 hr
       simp only [sP]
       have hcase : i = 0 ∨ i = 1 ∨ i = 2 ∨ i = 3 ∨ i = 4 := by omega
       rcases hcase with rfl | rfl | rfl | rfl | rfl
       · have hoj2 := hoj
         obtain rfl := oI hoj
         refine wpOp_value hoj2 rfl (v := (.pointer (some ⟨b8, 1, none⟩))) (w' := w') (by first | rfl | (go_simp; done) | (simp [go_sem]; done) | (simp [execOp, go_sem]; done)) ?_
         exact ⟨(.pointer (some ⟨b8, 1, none⟩)), x40, x41, x42, x43, by (try simp only [sP]) <;> rfl, HBw, fun h => hpre (keepG (by decide) h), fun _ => rfl, d1 ∘ kq, d2 ∘ kq, d3 ∘ kq, d4 ∘ kq⟩
       · have hoj2 := hoj
         obtain rfl := oI hoj
         have e0 := d0 (hwt ⟨0, .data⟩ (by simp) rfl)
         subst e0
         refine wpOp_cell hoj2 rfl 29 _ rfl rfl (v := (.slice (some ⟨gh, 0, none⟩) n n)) (by have h : w'.cell? ⟨_, _, none⟩ = some (.slice (some ⟨gh, 0, none⟩) n n) := (isS_one LA2.s8 LA2.rd (by decide) HBw.out).cell 1; simp [go_sem, h]) ?_
         exact ⟨(.pointer (some ⟨b8, 1, none⟩)), (.slice (some ⟨gh, 0, none⟩) n n), x41, x42, x43, by (try simp only [sP]) <;> rfl, HBw, fun h => hpre (keepG (by decide) h), d0 ∘ kq, fun _ => rfl, d2 ∘ kq, d3 ∘ kq, d4 ∘ kq⟩
       · have hoj2 := hoj
         obtain rfl := oI hoj
         refine wpOp_value hoj2 rfl (v := (.int .i64 (k : Int))) (w' := w') (by first | rfl | (go_simp; done) | (simp [go_sem]; done) | (simp [execOp, go_sem]; done)) ?_
         exact ⟨x39, x40, (.int .i64 (k : Int)), x42, x43, by (try simp only [sP]) <;> rfl, HBw, fun h => hpre (keepG (by decide) h), d0 ∘ kq, d1 ∘ kq, fun _ => rfl, d3 ∘ kq, d4 ∘ kq⟩
       · have hoj2 := hoj
         obtain rfl := oI hoj
         have hpre0 := hpre (getD_both hun)
         refine wpOp_call hoj2 rfl (f := 93) (args := #[.pointer (some ⟨b6, 0, none⟩), .int .i64 0, .int .i64 2]) (by first | rfl | (go_simp; done) | (simp [go_sem]; done) | (simp [execOp, go_sem]; done)) ?_
         refine (hN2 w' hpre0).mono ?_
         rintro e w4 ⟨rfl, R4, O4⟩
         refine ⟨_, rfl, ?_⟩
         exact ⟨x39, x40, x41, _, x43, by (try simp only [sP]) <;> rfl, HBw.out.trans O4, fun h => absurd h (by rw [nowU hun]; simp), d0 ∘ kq, d1 ∘ kq, d2 ∘ kq, fun _ => ⟨rfl, R4⟩, d4 ∘ kq⟩
       · have hoj2 := hoj
         obtain rfl := oI hoj
         have e1 := d1 (hwt ⟨1, .data⟩ (by simp) rfl)
         have e2 := d2 (hwt ⟨2, .data⟩ (by simp) rfl)
         subst e1 e2
         refine wpOp_value hoj2 rfl (v := (.pointer (some ⟨gh, k, none⟩))) (w' := w') (by first | (simp [execOp, go_sem, hki]; done) | rfl) ?_
         exact ⟨x39, (.slice (some ⟨gh, 0, none⟩) n n), (.int .i64 (k : Int)), x42, (.pointer (some ⟨gh, k, none⟩)), by (try simp only [sP]) <;> rfl, HBw, fun h => hpre (keepG (by decide) h), d0 ∘ kq, d1 ∘ kq, d2 ∘ kq, d3 ∘ kq, fun _ => rfl⟩
      case iendb =>
       rintro a' w' ⟨x39, x40, x41, x42, x43, rfl, HBw, hpre, d0, d1, d2, d3, d4⟩
       replace d0 := d0 rfl
       replace d1 := d1 rfl
       replace d2 := d2 rfl
       replace d3 := d3 rfl
       replace d4 := d4 rfl
       clear hpre
       simp only [sP]
       simp only [List.drop_succ_cons, List.drop_zero]
       obtain ⟨e42, R7⟩ := d3
       subst e42 d0 d1 d2 d4
       have LA3 := LA2.one R7 HBw.out
       clear HBw R7 HR0 LA2
       go_wp2_with (first
        | (clear tb; refine wpList_store1 rfl 3 _ _ rfl rfl (.int .i64 v2) rfl LA3.ph (by simp; have := HA2.out; omega) info3x rfl ?_; intro W9 U9 I9; have LA4 := LA3.upPh (ph' := (P2 ++ [v2]) ++ List.replicate (n - (k + 1)) 0) U9 (by rw [← fill_set (Value.int .i64) P2 v2 0 n k HA2.out hlt]; exact I9); clear U9 I9 LA3))
       have HR0 : RdS W9 b6 T r2 := LA4.rd
       have hbr9 : br < W9.heap.size := Nat.lt_of_lt_of_le hbrw LA4.bel.size
       have yr9 : W9.cell? ⟨br, orr + k, none⟩ = some (.int .i64 (rk : Int)) := by rw [LA4.bel.cell (p := ⟨br, orr + k, none⟩) hbrw]; exact yr
       refine region_invA 10 (fun a0 listed a' w' => ∃ x44 x45 x46 x47 x48 x49 x50 x51 x52 x53 : Value, a' = ((((((((((a0.put (some 44) x44).put (some 45) x45).put (some 46) x46).put (some 47) x47).put (some 48) x48).put (some 49) x49).put (some 50) x50).put (some 51) x51).put (some 52) x52).put (some 53) x53) ∧ Hid (One W9 w' b6) ∧ (listed.getD 8 false = false → RdS w' b6 T r2) ∧ (listed.getD 0 false = true → x44 = (.pointer (some ⟨b8, 2, none⟩))) ∧ (listed.getD 1 false = true → x45 = (.slice (some ⟨gr, 0, none⟩) n n)) ∧ (listed.getD 2 false = true → x46 = (.int .i64 (k : Int))) ∧ (listed.getD 3 false = true → x47 = (.pointer (some ⟨b2, 1, none⟩))) ∧ (listed.getD 4 false = true → x48 = (.slice (some ⟨br, orr, none⟩) n cr)) ∧ (listed.getD 5 false = true → x49 = (.int .i64 (k : Int))) ∧ (listed.getD 6 false = true → x50 = (.pointer (some ⟨br, orr + k, none⟩))) ∧ (listed.getD 7 false = true → x51 = (.int .i64 (rk : Int))) ∧ (listed.getD 8 false = true → ∃ g, x52 = .slice (some ⟨g, 0, none⟩) rk rk ∧ W9.heap.size ≤ g ∧ IsS w' g 2 (V3.map (.int .i64)) ∧ RdS w' b6 T r3) ∧ (listed.getD 9 false = true → x53 = (.pointer (some ⟨gr, k, none⟩)))) (by kernel_rfl) (by kernel_rfl) ?i0c ?istepc ?iendc
       case i0c => exact ⟨_, _, _, _, _, _, _, _, _, _, by (try simp only [sP]) <;> rfl, One.of_below (below_drew bR) _, fun _ => HR0, fun h => (not_rep h).elim, fun h => (not_rep h).elim, fun h => (not_rep h).elim, fun h => (not_rep h).elim, fun h => (not_rep h).elim, fun h => (not_rep h).elim, fun h => (not_rep h).elim, fun h => (not_rep h).elim, fun h => (not_rep h).elim, fun h => (not_rep h).elim⟩
       case istepc =>
        rintro i listed a' w' hi hr ⟨x44, x45, x46, x47, x48, x49, x50, x51, x52, x53, rfl, HBw, hpre, d0, d1, d2, d3, d4, d5, d6, d7, d8, d9⟩
        obtain ⟨hun, oj, hoj, hwt⟩ := mem_ready.1 hr
        simp only [sP]
        have hcase : i = 0 ∨ i = 1 ∨ i = 2 ∨ i = 3 ∨ i = 4 ∨ i = 5 ∨ i = 6 ∨ i = 7 ∨ i = 8 ∨ i = 9 := by omega
        rcases hcase with rfl | rfl | rfl | rfl | rfl | rfl | rfl | rfl | rfl | rfl
        · have hoj2 := hoj
          obtain rfl := oI hoj
          refine wpOp_value hoj2 rfl (v := (.pointer (some ⟨b8, 2, none⟩))) (w' := w') (by first | rfl | (go_simp; done) | (simp [go_sem]; done) | (simp [execOp, go_sem]; done)) ?_
          exact ⟨(.pointer (some ⟨b8, 2, none⟩)), x45, x46, x47, x48, x49, x50, x51, x52, x53, by (try simp only [sP]) <;> rfl, HBw, fun h => hpre (keepG (by decide) h), fun _ => rfl, d1 ∘ kq, d2 ∘ kq, d3 ∘ kq, d4 ∘ kq, d5 ∘ kq, d6 ∘ kq, d7 ∘ kq, d8 ∘ kq, d9 ∘ kq⟩
        · have hoj2 := hoj
          obtain rfl := oI hoj
          have e0 := d0 (hwt ⟨0, .data⟩ (by simp) rfl)
          subst e0
          refine wpOp_cell hoj2 rfl 25 _ rfl rfl (v := (.slice (some ⟨gr, 0, none⟩) n n)) (by have h : w'.cell? ⟨_, _, none⟩ = some (.slice (some ⟨gr, 0, none⟩) n n) := (isS_one LA4.s8 LA4.rd (by decide) HBw.out).cell 2; simp [go_sem, h]) ?_
          exact ⟨(.pointer (some ⟨b8, 2, none⟩)), (.slice (some ⟨gr, 0, none⟩) n n), x46, x47, x48, x49, x50, x51, x52, x53, by (try simp only [sP]) <;> rfl, HBw, fun h => hpre (keepG (by decide) h), d0 ∘ kq, fun _ => rfl, d2 ∘ kq, d3 ∘ kq, d4 ∘ kq, d5 ∘ kq, d6 ∘ kq, d7 ∘ kq, d8 ∘ kq, d9 ∘ kq⟩
        · have hoj2 := hoj
          obtain rfl := oI hoj
          refine wpOp_value hoj2 rfl (v := (.int .i64 (k : Int))) (w' := w') (by first | rfl | (go_simp; done) | (simp [go_sem]; done) | (simp [execOp, go_sem]; done)) ?_
          exact ⟨x44, x45, (.int .i64 (k : Int)), x47, x48, x49, x50, x51, x52, x53, by (try simp only [sP]) <;> rfl, HBw, fun h => hpre (keepG (by decide) h), d0 ∘ kq, d1 ∘ kq, fun _ => rfl, d3 ∘ kq, d4 ∘ kq, d5 ∘ kq, d6 ∘ kq, d7 ∘ kq, d8 ∘ kq, d9 ∘ kq⟩
        · have hoj2 := hoj
          obtain rfl := oI hoj
          refine wpOp_value hoj2 rfl (v := (.pointer (some ⟨b2, 1, none⟩))) (w' := w') (by first | rfl | (go_simp; done) | (simp [go_sem]; done) | (simp [execOp, go_sem]; done)) ?_
          exact ⟨x44, x45, x46, (.pointer (some ⟨b2, 1, none⟩)), x48, x49, x50, x51, x52, x53, by (try simp only [sP]) <;> rfl, HBw, fun h => hpre (keepG (by decide) h), d0 ∘ kq, d1 ∘ kq, d2 ∘ kq, fun _ => rfl, d4 ∘ kq, d5 ∘ kq, d6 ∘ kq, d7 ∘ kq, d8 ∘ kq, d9 ∘ kq⟩
        · have hoj2 := hoj
          obtain rfl := oI hoj
          have e3 := d3 (hwt ⟨3, .data⟩ (by simp) rfl)
          subst e3
          refine wpOp_cell hoj2 rfl 29 _ rfl rfl (v := (.slice (some ⟨br, orr, none⟩) n cr)) (by have h : w'.cell? ⟨_, _, none⟩ = some (.slice (some ⟨br, orr, none⟩) n cr) := (isS_one LA4.c2 LA4.rd (by decide) HBw.out).cell 1; simp [go_sem, h]) ?_
          exact ⟨x44, x45, x46, (.pointer (some ⟨b2, 1, none⟩)), (.slice (some ⟨br, orr, none⟩) n cr), x49, x50, x51, x52, x53, by (try simp only [sP]) <;> rfl, HBw, fun h => hpre (keepG (by decide) h), d0 ∘ kq, d1 ∘ kq, d2 ∘ kq, d3 ∘ kq, fun _ => rfl, d5 ∘ kq, d6 ∘ kq, d7 ∘ kq, d8 ∘ kq, d9 ∘ kq⟩
        · have hoj2 := hoj
          obtain rfl := oI hoj
          refine wpOp_value hoj2 rfl (v := (.int .i64 (k : Int))) (w' := w') (by first | rfl | (go_simp; done) | (simp [go_sem]; done) | (simp [execOp, go_sem]; done)) ?_
          exact ⟨x44, x45, x46, x47, x48, (.int .i64 (k : Int)), x50, x51, x52, x53, by (try simp only [sP]) <;> rfl, HBw, fun h => hpre (keepG (by decide) h), d0 ∘ kq, d1 ∘ kq, d2 ∘ kq, d3 ∘ kq, d4 ∘ kq, fun _ => rfl, d6 ∘ kq, d7 ∘ kq, d8 ∘ kq, d9 ∘ kq⟩
        · have hoj2 := hoj
          obtain rfl := oI hoj
          have e4 := d4 (hwt ⟨4, .data⟩ (by simp) rfl)
          have e5 := d5 (hwt ⟨5, .data⟩ (by simp) rfl)
          subst e4 e5
          refine wpOp_value hoj2 rfl (v := (.pointer (some ⟨br, orr + k, none⟩))) (w' := w') (by first | (simp [execOp, go_sem, hki]; done) | rfl) ?_
          exact ⟨x44, x45, x46, x47, (.slice (some ⟨br, orr, none⟩) n cr), (.int .i64 (k : Int)), (.pointer (some ⟨br, orr + k, none⟩)), x51, x52, x53, by (try simp only [sP]) <;> rfl, HBw, fun h => hpre (keepG (by decide) h), d0 ∘ kq, d1 ∘ kq, d2 ∘ kq, d3 ∘ kq, d4 ∘ kq, d5 ∘ kq, fun _ => rfl, d7 ∘ kq, d8 ∘ kq, d9 ∘ kq⟩
        · have hoj2 := hoj
          obtain rfl := oI hoj
          have e6 := d6 (hwt ⟨6, .data⟩ (by simp) rfl)
          subst e6
          refine wpOp_cell hoj2 rfl 3 _ rfl rfl (v := (.int .i64 (rk : Int))) (by have h : w'.cell? ⟨_, _, none⟩ = some (.int .i64 (rk : Int)) := ((one_cell HBw.out hbr9 hbr6).trans yr9); simp [go_sem, h]) ?_
          exact ⟨x44, x45, x46, x47, x48, x49, (.pointer (some ⟨br, orr + k, none⟩)), (.int .i64 (rk : Int)), x52, x53, by (try simp only [sP]) <;> rfl, HBw, fun h => hpre (keepG (by decide) h), d0 ∘ kq, d1 ∘ kq, d2 ∘ kq, d3 ∘ kq, d4 ∘ kq, d5 ∘ kq, d6 ∘ kq, fun _ => rfl, d8 ∘ kq, d9 ∘ kq⟩
        · have hoj2 := hoj
          obtain rfl := oI hoj
          have e7 := d7 (hwt ⟨7, .data⟩ (by simp) rfl)
          subst e7
          have hpre0 := hpre (getD_both hun)
          refine wpOp_call hoj2 rfl (f := 94) (args := #[.pointer (some ⟨b6, 0, none⟩), .int .i64 (rk : Int)]) (by first | rfl | (go_simp; done) | (simp [go_sem]; done) | (simp [execOp, go_sem]; done)) ?_
          refine (hV w' hpre0).mono ?_
          rintro e w4 ⟨g4, rfl, hg4, I4, R4, O4⟩
          refine ⟨_, rfl, ?_⟩
          exact ⟨x44, x45, x46, x47, x48, x49, x50, (.int .i64 (rk : Int)), _, x53, by (try simp only [sP]) <;> rfl, HBw.out.trans O4, fun h => absurd h (by rw [nowU hun]; simp), d0 ∘ kq, d1 ∘ kq, d2 ∘ kq, d3 ∘ kq, d4 ∘ kq, d5 ∘ kq, d6 ∘ kq, d7 ∘ kq, fun _ => ⟨g4, rfl, Nat.le_trans HBw.out.size hg4, I4, R4⟩, d9 ∘ kq⟩
        · have hoj2 := hoj
          obtain rfl := oI hoj
          have e1 := d1 (hwt ⟨1, .data⟩ (by simp) rfl)
          have e2 := d2 (hwt ⟨2, .data⟩ (by simp) rfl)
          subst e1 e2
          refine wpOp_value hoj2 rfl (v := (.pointer (some ⟨gr, k, none⟩))) (w' := w') (by first | (simp [execOp, go_sem, hki]; done) | rfl) ?_
          exact ⟨x44, (.slice (some ⟨gr, 0, none⟩) n n), (.int .i64 (k : Int)), x47, x48, x49, x50, x51, x52, (.pointer (some ⟨gr, k, none⟩)), by (try simp only [sP]) <;> rfl, HBw, fun h => hpre (keepG (by decide) h), d0 ∘ kq, d1 ∘ kq, d2 ∘ kq, d3 ∘ kq, d4 ∘ kq, d5 ∘ kq, d6 ∘ kq, d7 ∘ kq, d8 ∘ kq, fun _ => rfl⟩
       case iendc =>
        rintro a' w' ⟨x44, x45, x46, x47, x48, x49, x50, x51, x52, x53, rfl, HBw, hpre, d0, d1, d2, d3, d4, d5, d6, d7, d8, d9⟩
        replace d0 := d0 rfl
        replace d1 := d1 rfl
        replace d2 := d2 rfl
        replace d3 := d3 rfl
        replace d4 := d4 rfl
        replace d5 := d5 rfl
        replace d6 := d6 rfl
        replace d7 := d7 rfl
        replace d8 := d8 rfl
        replace d9 := d9 rfl
        clear hpre
        simp only [sP]
        simp only [List.drop_succ_cons, List.drop_zero]
        obtain ⟨g4, e52, hg4, I4, R7⟩ := d8
        subst e52 d0 d1 d2 d3 d4 d5 d6 d7 d9
        have LA5 := LA4.row R7 HBw.out hg4 I4
        clear HBw R7 HR0 LA4 I4
        go_wp2_with (first
         | (clear tc; refine wpList_store1 rfl 26 _ _ rfl rfl (.slice (some ⟨g4, 0, none⟩) rk rk) rfl LA5.rg (by simp [rowsC]; have := HRL.out; omega) info26 rfl ?_; intro W10 U10 I10; have LA6 := LA5.upRg (rgV' := rowsC (rows ++ [(g4, V3)]) ++ List.replicate (n - (k + 1)) (.slice none 0 0)) U10 (by rw [rowsC_set rows g4 V3 n k rk HRL.out hlt HV3.out]; exact I10); clear U10 I10 LA5))
        go_roundw
        case rel =>
         refine ⟨k + 1, rows ++ [(g4, V3)], by omega, by go_num, ?_, ?_⟩
         · show List.map _ _ = _
           rw [HAX.out, List.map_append, HRW.out]; rfl
         · show LA _ _ _ _ _ _ _ _ _ _ _ _ _ _ _ _ _ _ _ _ _ _
           rw [HAX.out]; exact LA6
        case measure => simp [intOf]; omega
   · obtain rfl : k = n := by omega
     have hki : ¬ (k : Int) < k := by omega
     have LA0 := HL.out
     have hat0 : (thsR T z ⟨0, false⟩ k).2.at' ≤ T.size := thsR_at (by simp) k
     obtain ⟨AA, eA⟩ : ∃ x, x = (thsR T z ⟨0, false⟩ k) := ⟨_, rfl⟩
     have HAA : Hid (AA = (thsR T z ⟨0, false⟩ k)) := eA
     rw [← eA] at HRW LA0 hat0 hcut
     clear eA HL
     obtain ⟨⟨P1, P2, P3⟩, r0⟩ := AA
     simp only [Nat.sub_self, List.replicate_zero, List.append_nil] at HRW LA0 hat0 hcut
     have HRL : Hid (P1.length = k ∧ P2.length = k ∧ P3.length = k) := ⟨hcut.2.1, hcut.2.2.1, hcut.2.2.2.1⟩
     have hr1 := valsR_at (T := T) hat0 nl
     have hV := values_any T hT r0 hat0 nl hnl b6 wr LA0.rd
     have HMM : Hid ((valsR T r0 nl).1.length = nl) := (valsR_cut T r0 nl).2
     obtain ⟨V3, ev3⟩ : ∃ x, x = (valsR T r0 nl).1 := ⟨_, rfl⟩
     obtain ⟨r1, er1⟩ : ∃ x, x = (valsR T r0 nl).2 := ⟨_, rfl⟩
     have HVM : Hid (valsR T r0 nl = (V3, r1)) := by show _ = _; rw [ev3, er1]
     rw [← ev3] at HMM
     rw [← er1] at hr1
     simp only [← ev3, ← er1] at hV
     clear ev3 er1 hcut
     obtain ⟨y0, y1, y2⟩ := three_cells LA0.c2
     have ta : True := trivial
     have tb : True := trivial
     go_wp2_with (first
      | (clear ta; go_at_call 94; refine hV.mono ?_; rintro e W2 ⟨gm, rfl, hgm, I2, R2, O2⟩; have LA1 := LA0.row R2 O2 hgm I2; clear LA0 y0 y1 y2 I2 R2 O2)
      | (clear tb; refine wpList_store1 rfl 26 _ _ rfl rfl (.slice (some ⟨gm, 0, none⟩) nl nl) rfl LA1.s8 (by simp) info26 rfl ?_; intro W3 U3 I3; have LA2 := LA1.upS8 (mmV' := slc gm nl) U3 I3; clear U3 I3 LA1))
     have HL2 : Hid (LA w T k b2 b4 b6 b8 gp gh gr gb [.slice ai k ci, .slice ar k cr, .int .i64 (nl : Int)] W3 (bufsR T nl r1 0).2 P1 P2 (rowsC rows) (rowsC ([] : List (Nat × List (Int × Int))) ++ List.replicate (k - 0) (.slice none 0 0)) (slc gm nl) 0 (rows ++ [(gm, V3)]) []) := LA2
     clear LA2 hV
     obtain ⟨WR2, hWR2⟩ : ∃ W, W = wr := ⟨_, rfl⟩
     subst hWR2
     go_loopw [60] (fun i wr => ∃ (k2 : Nat) (brows : List (Nat × List (Int × Int))), k2 ≤ k ∧ i = .int .i64 (k2 : Int) ∧ Hid (brows.map (·.2) = (bufsR T nl r1 k2).1) ∧ Hid (LA w T k b2 b4 b6 b8 gp gh gr gb [.slice ai k ci, .slice ar k cr, .int .i64 (nl : Int)] wr (bufsR T nl r1 k2).2 P1 P2 (rowsC rows) (rowsC brows ++ List.replicate (k - k2) (.slice none 0 0)) (slc gm nl) 0 (rows ++ [(gm, V3)]) brows)) (fun i _ => k - (intOf i).toNat)
     case atStart => exact ⟨0, [], by omega, rfl, rfl, HL2⟩
     case round =>
      clear HL2
      obtain ⟨k2, brows, hk2, rfl, HBW, HL⟩ := hrel
      have hcut2 := (bufsR_cut T nl r1 k2).2.1
      have hat2 := bufsR_at (T := T) (nl := nl) hr1 k2
      by_cases hlt2 : k2 < k
      · have hki2 : (k2 : Int) < k := by omega
        have HAX0 : bufsR T nl r1 (k2 + 1) = ((bufsR T nl r1 k2).1 ++ [(bufR T nl (bufsR T nl r1 k2).2).1], (bufR T nl (bufsR T nl r1 k2).2).2) := rfl
        obtain ⟨AA, eA⟩ : ∃ x, x = (bufsR T nl r1 k2) := ⟨_, rfl⟩
        rw [← eA] at HAX0 HBW HL hat2 hcut2
        clear eA
        obtain ⟨Q1, r2⟩ := AA
        simp only at HAX0 HBW HL hat2 hcut2
        have hWr := fun W h => writes_any T hT r2 hat2 nl hnl b6 W h
        obtain ⟨B3, ev3⟩ : ∃ x, x = (bufR T nl r2).1 := ⟨_, rfl⟩
        obtain ⟨r3, er3⟩ : ∃ x, x = (bufR T nl r2).2 := ⟨_, rfl⟩
        simp only [← ev3, ← er3] at hWr HAX0
        have HAX : Hid (bufsR T nl r1 (k2 + 1) = (Q1 ++ [B3], r3)) := HAX0
        have HBL : Hid (brows.length = k2) := by show _ = _; have := congrArg List.length HBW.out; rw [List.length_map, hcut2] at this; exact this
        have LA3 := HL.out
        have HR0 : RdS wr b6 T r2 := LA3.rd
        clear HAX0 ev3 er3 hcut2 HL hat2
        have tc : True := trivial
        go_wp2_with fail
        refine region_invA 7 (fun a0 listed a' w' => ∃ x63 x64 x65 x66 x67 x68 x69 : Value, a' = (((((((a0.put (some 63) x63).put (some 64) x64).put (some 65) x65).put (some 66) x66).put (some 67) x67).put (some 68) x68).put (some 69) x69) ∧ Hid (One wr w' b6) ∧ (listed.getD 5 false = false → RdS w' b6 T r2) ∧ (listed.getD 0 false = true → x63 = (.pointer (some ⟨b8, 4, none⟩))) ∧ (listed.getD 1 false = true → x64 = (.slice (some ⟨gb, 0, none⟩) k k)) ∧ (listed.getD 2 false = true → x65 = (.int .i64 (k2 : Int))) ∧ (listed.getD 3 false = true → x66 = (.pointer (some ⟨b2, 2, none⟩))) ∧ (listed.getD 4 false = true → x67 = (.int .i64 (nl : Int))) ∧ (listed.getD 5 false = true → ∃ g, x68 = .slice (some ⟨g, 0, none⟩) B3.length B3.length ∧ wr.heap.size ≤ g ∧ IsS w' g 50 (B3.flatMap wrE) ∧ RdS w' b6 T r3) ∧ (listed.getD 6 false = true → x69 = (.pointer (some ⟨gb, k2, none⟩)))) (by kernel_rfl) (by kernel_rfl) ?i0d ?istepd ?iendd
        case i0d => exact ⟨_, _, _, _, _, _, _, by (try simp only [sP]) <;> rfl, One.of_below (below_drew bR) _, fun _ => HR0, fun h => (not_rep h).elim, fun h => (not_rep h).elim, fun h => (not_rep h).elim, fun h => (not_rep h).elim, fun h => (not_rep h).elim, fun h => (not_rep h).elim, fun h => (not_rep h).elim⟩
        case istepd =>
         rintro i listed a' w' hi hr ⟨x63, x64, x65, x66, x67, x68, x69, rfl, HBw, hpre, d0, d1, d2, d3, d4, d5, d6⟩
         obtain ⟨hun, oj, hoj, hwt⟩ := mem_ready.1 hr
         simp only [sP]
         have hcase : i = 0 ∨ i = 1 ∨ i = 2 ∨ i = 3 ∨ i = 4 ∨ i = 5 ∨ i = 6 := by omega
         rcases hcase with rfl | rfl | rfl | rfl | rfl | rfl | rfl
         · have hoj2 := hoj
           obtain rfl := oI hoj
           refine wpOp_value hoj2 rfl (v := (.pointer (some ⟨b8, 4, none⟩))) (w' := w') (by first | rfl | (go_simp; done) | (simp [go_sem]; done) | (simp [execOp, go_sem]; done)) ?_
           exact ⟨(.pointer (some ⟨b8, 4, none⟩)), x64, x65, x66, x67, x68, x69, by (try simp only [sP]) <;> rfl, HBw, fun h => hpre (keepG (by decide) h), fun _ => rfl, d1 ∘ kq, d2 ∘ kq, d3 ∘ kq, d4 ∘ kq, d5 ∘ kq, d6 ∘ kq⟩
         · have hoj2 := hoj
           obtain rfl := oI hoj
           have e0 := d0 (hwt ⟨0, .data⟩ (by simp) rfl)
           subst e0
           refine wpOp_cell hoj2 rfl 30 _ rfl rfl (v := (.slice (some ⟨gb, 0, none⟩) k k)) (by have h : w'.cell? ⟨_, _, none⟩ = some (.slice (some ⟨gb, 0, none⟩) k k) := (isS_one LA3.s8 LA3.rd (by decide) HBw.out).cell 4; simp [go_sem, h]) ?_
           exact ⟨(.pointer (some ⟨b8, 4, none⟩)), (.slice (some ⟨gb, 0, none⟩) k k), x65, x66, x67, x68, x69, by (try simp only [sP]) <;> rfl, HBw, fun h => hpre (keepG (by decide) h), d0 ∘ kq, fun _ => rfl, d2 ∘ kq, d3 ∘ kq, d4 ∘ kq, d5 ∘ kq, d6 ∘ kq⟩
         · have hoj2 := hoj
           obtain rfl := oI hoj
           refine wpOp_value hoj2 rfl (v := (.int .i64 (k2 : Int))) (w' := w') (by first | rfl | (go_simp; done) | (simp [go_sem]; done) | (simp [execOp, go_sem]; done)) ?_
           exact ⟨x63, x64, (.int .i64 (k2 : Int)), x66, x67, x68, x69, by (try simp only [sP]) <;> rfl, HBw, fun h => hpre (keepG (by decide) h), d0 ∘ kq, d1 ∘ kq, fun _ => rfl, d3 ∘ kq, d4 ∘ kq, d5 ∘ kq, d6 ∘ kq⟩
         · have hoj2 := hoj
           obtain rfl := oI hoj
           refine wpOp_value hoj2 rfl (v := (.pointer (some ⟨b2, 2, none⟩))) (w' := w') (by first | rfl | (go_simp; done) | (simp [go_sem]; done) | (simp [execOp, go_sem]; done)) ?_
           exact ⟨x63, x64, x65, (.pointer (some ⟨b2, 2, none⟩)), x67, x68, x69, by (try simp only [sP]) <;> rfl, HBw, fun h => hpre (keepG (by decide) h), d0 ∘ kq, d1 ∘ kq, d2 ∘ kq, fun _ => rfl, d4 ∘ kq, d5 ∘ kq, d6 ∘ kq⟩
         · have hoj2 := hoj
           obtain rfl := oI hoj
           have e3 := d3 (hwt ⟨3, .data⟩ (by simp) rfl)
           subst e3
           refine wpOp_cell hoj2 rfl 3 _ rfl rfl (v := (.int .i64 (nl : Int))) (by have h : w'.cell? ⟨_, _, none⟩ = some (.int .i64 (nl : Int)) := (isS_one LA3.c2 LA3.rd (by decide) HBw.out).cell 2; simp [go_sem, h]) ?_
           exact ⟨x63, x64, x65, (.pointer (some ⟨b2, 2, none⟩)), (.int .i64 (nl : Int)), x68, x69, by (try simp only [sP]) <;> rfl, HBw, fun h => hpre (keepG (by decide) h), d0 ∘ kq, d1 ∘ kq, d2 ∘ kq, d3 ∘ kq, fun _ => rfl, d5 ∘ kq, d6 ∘ kq⟩
         · have hoj2 := hoj
           obtain rfl := oI hoj
           have e4 := d4 (hwt ⟨4, .data⟩ (by simp) rfl)
           subst e4
           have hpre0 := hpre (getD_both hun)
           refine wpOp_call hoj2 rfl (f := 95) (args := #[.pointer (some ⟨b6, 0, none⟩), .int .i64 (nl : Int)]) (by first | rfl | (go_simp; done) | (simp [go_sem]; done) | (simp [execOp, go_sem]; done)) ?_
           refine (hWr w' hpre0).mono ?_
           rintro e w4 ⟨g4, rfl, hg4, I4, R4, O4⟩
           refine ⟨_, rfl, ?_⟩
           exact ⟨x63, x64, x65, x66, (.int .i64 (nl : Int)), _, x69, by (try simp only [sP]) <;> rfl, HBw.out.trans O4, fun h => absurd h (by rw [nowU hun]; simp), d0 ∘ kq, d1 ∘ kq, d2 ∘ kq, d3 ∘ kq, d4 ∘ kq, fun _ => ⟨g4, rfl, Nat.le_trans HBw.out.size hg4, I4, R4⟩, d6 ∘ kq⟩
         · have hoj2 := hoj
           obtain rfl := oI hoj
           have e1 := d1 (hwt ⟨1, .data⟩ (by simp) rfl)
           have e2 := d2 (hwt ⟨2, .data⟩ (by simp) rfl)
           subst e1 e2
           refine wpOp_value hoj2 rfl (v := (.pointer (some ⟨gb, k2, none⟩))) (w' := w') (by first | (simp [execOp, go_sem, hki2]; done) | rfl) ?_
           exact ⟨x63, (.slice (some ⟨gb, 0, none⟩) k k), (.int .i64 (k2 : Int)), x66, x67, x68, (.pointer (some ⟨gb, k2, none⟩)), by (try simp only [sP]) <;> rfl, HBw, fun h => hpre (keepG (by decide) h), d0 ∘ kq, d1 ∘ kq, d2 ∘ kq, d3 ∘ kq, d4 ∘ kq, d5 ∘ kq, fun _ => rfl⟩
        case iendd =>
         rintro a' w' ⟨x63, x64, x65, x66, x67, x68, x69, rfl, HBw, hpre, d0, d1, d2, d3, d4, d5, d6⟩
         replace d0 := d0 rfl
         replace d1 := d1 rfl
         replace d2 := d2 rfl
         replace d3 := d3 rfl
         replace d4 := d4 rfl
         replace d5 := d5 rfl
         replace d6 := d6 rfl
         clear hpre
         simp only [sP]
         simp only [List.drop_succ_cons, List.drop_zero]
         obtain ⟨g4, e68, hg4, I4, R7⟩ := d5
         subst e68 d0 d1 d2 d3 d4 d6
         have LA4 := LA3.brow R7 HBw.out hg4 I4
         clear HBw R7 HR0 LA3 I4
         go_wp2_with (first
          | (clear tc; refine wpList_store1 rfl 48 _ _ rfl rfl (.slice (some ⟨g4, 0, none⟩) B3.length B3.length) rfl LA4.bf (by simp [rowsC]; have := HBL.out; omega) infoWrs rfl ?_; intro W10 U10 I10; have LA6 := LA4.upBf (bfV' := rowsC (brows ++ [(g4, B3)]) ++ List.replicate (k - (k2 + 1)) (.slice none 0 0)) U10 (by rw [rowsC_set brows g4 B3 k k2 B3.length HBL.out hlt2 rfl]; exact I10); clear U10 I10 LA4))
         go_roundw
         case rel =>
          refine ⟨k2 + 1, brows ++ [(g4, B3)], by omega, by go_num, ?_, ?_⟩
          · show List.map _ _ = _
            rw [HAX.out, List.map_append, HBW.out]; rfl
          · show LA _ _ _ _ _ _ _ _ _ _ _ _ _ _ _ _ _ _ _ _ _ _
            rw [HAX.out]; exact LA6
         case measure => simp [intOf]; omega
      · obtain rfl : k2 = k := by omega
        have hki2 : ¬ (k2 : Int) < k2 := by omega
        have LA3 := HL.out
        obtain ⟨AA, eA⟩ : ∃ x, x = (bufsR T nl r1 k2) := ⟨_, rfl⟩
        have HBB : Hid (AA = (bufsR T nl r1 k2)) := eA
        rw [← eA] at HBW LA3 hat2 hcut2
        clear eA HL
        obtain ⟨Q1, r2⟩ := AA
        simp only [Nat.sub_self, List.replicate_zero, List.append_nil] at HBW LA3 hat2 hcut2
        have hN := rnum_any T hT r2 hat2 (-1) ((k2 : Int) - 1) b6 wr LA3.rd
        have hr4 := numR_at (T := T) (lo := -1) (hi := (k2 : Int) - 1) hat2
        obtain ⟨lk, elk⟩ : ∃ x, x = (numR T (-1) ((k2 : Int) - 1) r2).1 := ⟨_, rfl⟩
        obtain ⟨r4, er4⟩ : ∃ x, x = (numR T (-1) ((k2 : Int) - 1) r2).2 := ⟨_, rfl⟩
        rw [← elk, ← er4] at hN
        rw [← er4] at hr4
        have HST : Hid (stR T z = (⟨P1, P2, P3, V3, Q1, lk⟩, r4)) := by
         show _ = _
         unfold stR
         simp only [HZ.out.1, ← HAA.out, HZ.out.2.2.1, HVM.out, ← HBB.out, ← elk, ← er4]
        have HBL : Hid (brows.length = k2 ∧ Q1.length = k2) := by
         refine ⟨?_, hcut2⟩
         have := congrArg List.length HBW.out; rw [List.length_map, hcut2] at this; exact this
        clear elk er4 hcut2 hat2
        obtain ⟨p4, q4⟩ := r4
        have HRS : Hid (readS T z = if q4 = false ∧ p4 = T.size then some ⟨P1, P2, P3, V3, Q1, lk⟩ else none) := by
         show _ = _
         unfold readS
         rw [HST.out]
        have hp4 : p4 ≤ T.size := hr4
        have hp4I : (p4 : Int) ≤ 1099511627776 := by omega
        have ta : True := trivial
        have tb : True := trivial
        have hTI : (T.size : Int) ≤ 1099511627776 := by omega
        cases q4 with
        | true =>
         go_wp2_with (first
          | (clear ta; go_at_call 93; refine hN.mono ?_; rintro e W4 ⟨rfl, R4, O4⟩; have LA4 := LA3.one R4 O4; clear LA3 R4 O4)
          | (clear tb; refine wpList_store1 rfl 3 _ _ rfl rfl (.int .i64 lk) rfl LA4.s8 (by simp) info3x rfl ?_; intro W5 U5 I5; have LA5 := LA4.upS8 (mmV' := slc gm nl) (lk' := lk) U5 I5; obtain ⟨y0, y1, y2⟩ := three_cells LA5.rd; clear U5 I5 LA4)
          | (refine wpList_valueX rfl (build0_st rfl) ?_)
          | (refine wpList_storeW rfl 32 _ _ rfl rfl [.slice none 0 0, .slice none 0 0, .slice none 0 0, .slice none 0 0, .slice none 0 0, .int .i64 0] rfl LA5.z4 rfl infoSt (by intro v hv; simp only [List.mem_cons, List.not_mem_nil, or_false] at hv; rcases hv with rfl | rfl | rfl | rfl | rfl | rfl <;> rfl) ?_; intro W6 U6 I6))
         refine ret_ST rfl rfl rfl I6 _ Try.underlying32 rfl infoSt _ rfl ?_
         unfold StRead
         rw [HRS.out, if_neg (by simp)]
         exact ⟨rfl, U6.trans LA5.bel LA5.low.1⟩
        | false =>
         by_cases hps : p4 = T.size
         · have hpi : (p4 : Int) = (T.size : Int) := by omega
           go_wp2_with (first
            | (clear ta; go_at_call 93; refine hN.mono ?_; rintro e W4 ⟨rfl, R4, O4⟩; have LA4 := LA3.one R4 O4; clear LA3 R4 O4)
            | (clear tb; refine wpList_store1 rfl 3 _ _ rfl rfl (.int .i64 lk) rfl LA4.s8 (by simp) info3x rfl ?_; intro W5 U5 I5; have LA5 := LA4.upS8 (mmV' := slc gm nl) (lk' := lk) U5 I5; obtain ⟨y0, y1, y2⟩ := three_cells LA5.rd; clear U5 I5 LA4)
            | (refine wpList_loadW rfl 32 _ rfl rfl LA5.s8 _ Try.underlying32 rfl infoSt ?_)
            | (refine wpList_storeW rfl 32 _ _ rfl rfl [slc gp k2, slc gh k2, slc gr k2, slc gm nl, slc gb k2, .int .i64 lk] rfl LA5.z4 rfl infoSt (by intro v hv; simp only [List.mem_cons, List.not_mem_nil, or_false] at hv; rcases hv with rfl | rfl | rfl | rfl | rfl | rfl <;> rfl) ?_; intro W6 U6 I6))
           refine ret_ST rfl rfl rfl I6 _ Try.underlying32 rfl infoSt _ rfl ?_
           unfold StRead
           rw [HRS.out, if_pos (by simp [hps])]
           obtain ⟨q1, q2, q3⟩ := HRL.out
           refine ⟨gp, gh, gr, gm, gb, rows, brows, ?_, ?_, U6.trans LA5.bel LA5.low.1⟩
           · unfold stbV
             simp only [q1, q2, q3, HMM.out, HBL.out.2]
             rfl
           · have up : ∀ {k t : Nat} {cs : List Value}, IsS W5 k t cs → t ≠ 32 → IsS W6 k t cs := fun h ht => isS_updT h LA5.z4 ht U6
             refine ⟨up LA5.pc (by decide), up LA5.ph (by decide), up LA5.rg (by decide), up (LA5.rr (gm, V3) (by simp)) (by decide), up LA5.bf (by decide), HRW.out.symm, HBW.out.symm, fun x hx => up (LA5.rr x (by simp [hx])) (by decide), fun x hx => up (LA5.bb x hx) (by decide), LA5.d1, ?_, LA5.nb, LA5.low.2.2.2.1, LA5.low.2.2.2.2.1, LA5.low.2.2.2.2.2.1, LA5.lr (gm, V3) (by simp), LA5.low.2.2.2.2.2.2, fun x hx => LA5.lr x (by simp [hx]), LA5.lb⟩
             have := LA5.nr
             rw [List.map_append] at this
             exact this
         · have hpi : ¬ ((p4 : Int) = (T.size : Int)) := by omega
           go_wp2_with (first
            | (clear ta; go_at_call 93; refine hN.mono ?_; rintro e W4 ⟨rfl, R4, O4⟩; have LA4 := LA3.one R4 O4; clear LA3 R4 O4)
            | (clear tb; refine wpList_store1 rfl 3 _ _ rfl rfl (.int .i64 lk) rfl LA4.s8 (by simp) info3x rfl ?_; intro W5 U5 I5; have LA5 := LA4.upS8 (mmV' := slc gm nl) (lk' := lk) U5 I5; obtain ⟨y0, y1, y2⟩ := three_cells LA5.rd; clear U5 I5 LA4)
            | (refine wpList_valueX rfl (build0_st rfl) ?_)
            | (refine wpList_storeW rfl 32 _ _ rfl rfl [.slice none 0 0, .slice none 0 0, .slice none 0 0, .slice none 0 0, .slice none 0 0, .int .i64 0] rfl LA5.z4 rfl infoSt (by intro v hv; simp only [List.mem_cons, List.not_mem_nil, or_false] at hv; rcases hv with rfl | rfl | rfl | rfl | rfl | rfl <;> rfl) ?_; intro W6 U6 I6))
           refine ret_ST rfl rfl rfl I6 _ Try.underlying32 rfl infoSt _ rfl ?_
           unfold StRead
           rw [HRS.out, if_neg (fun h => hps h.2)]
           exact ⟨rfl, U6.trans LA5.bel LA5.low.1⟩
end Go.Proofs.Ytegpnicajlndlaa
