/- The law's value function: what it keeps and answers. -/
import Derived.Test.YtcmkoffamolgmaaA4
namespace Go.Proofs.Ytcmkoffamolgmaa
open Go Go.RowKit M
set_option linter.unusedSimpArgs false
set_option linter.unusedVariables false

/-- Is a reference among the first so many? -/
def knB (l : List RK) (r : RK) (k : Nat) : Bool := (l.take k).any fun x => decide (x = r)
theorem knB_next {l : List RK} {r x : RK} {k : Nat} (h : l[k]? = some x) : knB l r (k + 1) = (knB l r k || decide (x = r)) := by
  unfold knB; rw [take_at h, List.any_append]; simp
theorem knB_all {l : List RK} {r : RK} (h : r ∈ l) : knB l r l.length = true := by
  unfold knB; rw [List.take_length, List.any_eq_true]; exact ⟨r, h, by simp⟩
theorem ld_refs {b o : Nat} {v : Value} (w : World) (h : w.cell? ⟨b, o, none⟩ = some v) : (Instr.loadAt 24 (.pointer (some ⟨b, o, none⟩))).run Try.prog w = .ok v w := by simp [go_sem, h]
theorem info4' : (Try.prog.info? 4).map (·.size) = some 1 := by kernel_rfl
/-- What the law's value function captures. -/
structure CapW (W : World) (bw bs bS : Nat) (want : List RK) (aw : Option Addr) (cw : Nat) (rs : List RK) (vs : List Int) (d : Int) (ar : Option Addr) (cr : Nat) (av : Option Addr) (cv : Nat) : Prop where
  w : W.cell? ⟨bw, 0, none⟩ = some (.slice aw want.length cw)
  ws : Seg W aw (want.flatMap rkL)
  s : IsS W bs 4 [.bool false]
  S : IsS W bS 27 (stL ar rs.length cr av vs.length cv d)
  r : Seg W ar (rs.flatMap rkL)
  v : Seg W av (vs.flatMap fun x => [.int .i64 x])
  nw : bw ≠ bs
  nS : bS ≠ bs
  na : want.flatMap rkL ≠ [] → ∀ b o, aw = some ⟨b, o, none⟩ → b ≠ bs
  nr : rs.flatMap rkL ≠ [] → ∀ b o, ar = some ⟨b, o, none⟩ → b ≠ bs
  nv : (vs.flatMap fun x => [Value.int .i64 x]) ≠ [] → ∀ b o, av = some ⟨b, o, none⟩ → b ≠ bs
theorem One.seg {w W : World} {b : Nat} {a : Option Addr} {cs : List Value} (h : One w W b) (hs : Seg w a cs) (hn : cs ≠ [] → ∀ k o, a = some ⟨k, o, none⟩ → k ≠ b) : Seg W a cs := fun j v hv => by
  obtain ⟨k, o, e, hk, hc⟩ := hs j v hv
  exact ⟨k, o, e, Nat.lt_of_lt_of_le hk h.size, h.cell hc (hn (fun e => by rw [e] at hv; simp at hv) k o e)⟩
theorem One.isS {w W : World} {b k t : Nat} {cs : List Value} (h : One w W b) (hs : IsS w k t cs) (hn : k ≠ b) : IsS W k t cs := (h.block k hs.lt hn).trans hs
section
variable {bw bs bS : Nat} {want : List RK} {aw : Option Addr} {cw : Nat} {rs : List RK} {vs : List Int} {d : Int} {ar : Option Addr} {cr : Nat} {av : Option Addr} {cv : Nat}
theorem CapW.below {W W' : World} (h : CapW W bw bs bS want aw cw rs vs d ar cr av cv) (hB : Below W.heap.size W W') : CapW W' bw bs bS want aw cw rs vs d ar cr av cv :=
  ⟨cell_grow h.w hB, h.ws.below hB, h.s.grown hB, h.S.grown hB, h.r.below hB, h.v.below hB, h.nw, h.nS, h.na, h.nr, h.nv⟩
theorem CapW.one {W W' : World} (h : CapW W bw bs bS want aw cw rs vs d ar cr av cv) (hO : One W W' bs) (hs : IsS W' bs 4 [.bool false]) : CapW W' bw bs bS want aw cw rs vs d ar cr av cv :=
  ⟨hO.cell h.w h.nw, hO.seg h.ws h.na, hs, hO.isS h.S h.nS, hO.seg h.r h.nr, hO.seg h.v h.nv, h.nw, h.nS, h.na, h.nr, h.nv⟩
set_option maxRecDepth 100000 in
set_option maxHeartbeats 8000000 in
theorem cap_any (hnw : want.length ≤ 1048576) (hnr : rs.length ≤ 1048576) (hnv : vs.length ≤ 1048576) (r : RK) (hr : r ∈ want) (w : World) (hC : CapW w bw bs bS want aw cw rs vs d ar cr av cv) :
    Calls Try.prog 10 #[.agg (rkL r).toArray, .pointer (some ⟨bw, 0, none⟩), .pointer (some ⟨bs, 0, none⟩), .pointer (some ⟨bS, 0, none⟩)] w fun e w' => e = .returned (.int .i64 (lkF rs vs d r)) ∧ CapW w' bw bs bS want aw cw rs vs d ar cr av cv ∧ One w w' bs := by
  have HC : Hid (CapW w bw bs bS want aw cw rs vs d ar cr av cv) := hC
  obtain ⟨n, hn⟩ : ∃ n, want.length = n := ⟨_, rfl⟩
  have HN : Hid (want.length = n) := hn
  have hnI : (n : Int) ≤ 1048576 := by omega
  have hnN : n ≤ 1048576 := by omega
  have HK9 : Hid (knB want r n = true) := by show _ = _; rw [← hn]; exact knB_all hr
  have hof := fun W (h : CapW W bw bs bS want aw cw rs vs d ar cr av cv) => of_any rs vs d r rs.length cr vs.length cv ar av rfl rfl hnr hnv W h.r h.v
  clear hC hn hr hnw hnr hnv
  have t1 : True := trivial
  go_enter Try.func10, Try.ntmps10
  go_wp2_with (first
    | (clear t1; refine wpList_boxS rfl 39 _ rfl (rkL r) rfl ?_; intro W2 b4 F2 I2; have B2 := F_b F2))
  have HI2 : Hid (IsS W2 b4 39 (rkL r)) := I2
  have HB2 : Hid (Below w.heap.size w W2) := B2
  have hlt4 : bs < b4 := by have := HC.out.s.lt; have := F2.at'; omega
  clear I2 B2 F2
  go_loopw [6, 7] (fun q i wr => ∃ k : Nat, k ≤ n ∧ i = .int .i64 (k : Int) ∧ q = .bool (knB want r k) ∧ Hid (Below W2.heap.size W2 wr)) (fun _ i _ => n - (intOf i).toNat)
  case atStart => exact ⟨0, Nat.zero_le _, rfl, rfl, Below.refl _ _⟩
  case round =>
    obtain ⟨k, hk, rfl, rfl, HB⟩ := hrel
    have HBB : Hid (Below w.heap.size w wr) := Below.then HB2.out HB.out
    have HCW : Hid (CapW wr bw bs bS want aw cw rs vs d ar cr av cv) := HC.out.below HBB.out
    have I3 := HI2.out.grown HB.out
    have I3r : wr.rangeAt b4 0 (rkL r) := fun j v hv => by rw [Nat.zero_add]; exact (I3.cell j).trans hv
    have c10 : wr.cell? ⟨bw, 0, none⟩ = some (.slice aw n cw) := by have := HCW.out.w; rwa [HN.out] at this
    by_cases hlt : k < n
    · have hki : (k : Int) < n := by omega
      have hk1 : k < n := hlt
      obtain ⟨x, hx⟩ : ∃ x, want[k]? = some x := ⟨_, List.getElem?_eq_getElem (by rw [HN.out]; exact hlt)⟩
      have HQ : Hid (knB want r (k + 1) = (knB want r k || decide (x = r))) := knB_next hx
      obtain ⟨b1, o1, ea, hb1, hc1⟩ := seg_rk HCW.out.ws hx
      rw [ea] at c10
      clear hx
      cases hq : knB want r k with
      | true =>
        have HQ2 : Hid (knB want r (k + 1) = true) := by show _ = _; rw [HQ.out, hq]; rfl
        clear HQ hq
        go_wp2
        refine grow_allW (by kernel_rfl) (by kernel_rfl) ?_
        refine WG.put rfl (v := .bool true) (fun w => by first | rfl | (go_simp; done) | (simp [go_sem]; done) | (simp [execOp, go_sem]; done)) ?_
        simp only [Act.put, List.setIfInBounds_toArray, List.set_cons_succ, List.set_cons_zero]
        refine WG.put rfl (v := .bool true) (fun w => by first | rfl | (go_simp; done) | (simp [go_sem]; done) | (simp [execOp, go_sem]; done)) ?_
        simp only [Act.put, List.setIfInBounds_toArray, List.set_cons_succ, List.set_cons_zero]
        refine WG.skip rfl ?_
        simp only [Act.put, List.setIfInBounds_toArray, List.set_cons_succ, List.set_cons_zero]
        refine WG.skip rfl ?_
        simp only [Act.put, List.setIfInBounds_toArray, List.set_cons_succ, List.set_cons_zero]
        refine WG.skip rfl ?_
        simp only [Act.put, List.setIfInBounds_toArray, List.set_cons_succ, List.set_cons_zero]
        refine WG.skip rfl ?_
        simp only [Act.put, List.setIfInBounds_toArray, List.set_cons_succ, List.set_cons_zero]
        refine WG.skip rfl ?_
        simp only [Act.put, List.setIfInBounds_toArray, List.set_cons_succ, List.set_cons_zero]
        refine WG.skip rfl ?_
        simp only [Act.put, List.setIfInBounds_toArray, List.set_cons_succ, List.set_cons_zero]
        refine WG.put rfl (v := .bool true) (fun w => by first | rfl | (go_simp; done) | (simp [go_sem]; done) | (simp [execOp, go_sem]; done)) ?_
        simp only [Act.put, List.setIfInBounds_toArray, List.set_cons_succ, List.set_cons_zero]
        refine WG.put rfl (v := .bool true) (fun w => by first | rfl | (go_simp; done) | (simp [go_sem]; done) | (simp [execOp, go_sem]; done)) ?_
        simp only [Act.put, List.setIfInBounds_toArray, List.set_cons_succ, List.set_cons_zero]
        refine WG.nil ?_
        intro w5 B5
        go_wp2
        go_roundw
        case rel => exact ⟨k + 1, by omega, by go_num, by rw [HQ2.out], Below.then HB.out B5⟩
        case measure => simp [intOf]; omega
      | false =>
        by_cases he : x = r
        · have hd : decide (x = r) = true := by simpa using he
          have HQ2 : Hid (knB want r (k + 1) = true) := by show _ = _; rw [HQ.out, hd, hq]; rfl
          clear HQ hq he
          go_wp2
          refine grow_allW (by kernel_rfl) (by kernel_rfl) ?_
          refine WG.put rfl (v := .bool false) (fun w => by first | rfl | (go_simp; done) | (simp [go_sem]; done) | (simp [execOp, go_sem]; done)) ?_
          simp only [Act.put, List.setIfInBounds_toArray, List.set_cons_succ, List.set_cons_zero]
          refine WG.put rfl (v := .bool false) (fun w => by first | rfl | (go_simp; done) | (simp [go_sem]; done) | (simp [execOp, go_sem]; done)) ?_
          simp only [Act.put, List.setIfInBounds_toArray, List.set_cons_succ, List.set_cons_zero]
          refine WG.cell rfl 24 _ rfl rfl c10 (fun w h => by simp [go_sem, h]) ?_
          simp only [Act.put, List.setIfInBounds_toArray, List.set_cons_succ, List.set_cons_zero]
          refine WG.put rfl (v := .int .i64 (k : Int)) (fun w => by first | rfl | (go_simp; done) | (simp [go_sem]; done) | (simp [execOp, go_sem]; done)) ?_
          simp only [Act.put, List.setIfInBounds_toArray, List.set_cons_succ, List.set_cons_zero]
          refine WG.put rfl (v := .pointer (some ⟨b1, o1 + k * 2, none⟩)) (fun w => by first | rfl | (go_simp; done) | (simp [go_sem, hki, hk1]; done) | (simp [execOp, go_sem, hki, hk1]; done)) ?_
          simp only [Act.put, List.setIfInBounds_toArray, List.set_cons_succ, List.set_cons_zero]
          refine WG.rk rfl _ rfl rfl hb1 hc1 ?_
          simp only [Act.put, List.setIfInBounds_toArray, List.set_cons_succ, List.set_cons_zero]
          refine WG.rk rfl _ rfl rfl I3.lt I3r ?_
          simp only [Act.put, List.setIfInBounds_toArray, List.set_cons_succ, List.set_cons_zero]
          refine WG.eqK rfl _ _ rfl rfl rfl true hd ?_
          simp only [Act.put, List.setIfInBounds_toArray, List.set_cons_succ, List.set_cons_zero]
          refine WG.put rfl (v := .bool true) (fun w => by first | rfl | (go_simp; done) | (simp [go_sem]; done) | (simp [execOp, go_sem]; done)) ?_
          simp only [Act.put, List.setIfInBounds_toArray, List.set_cons_succ, List.set_cons_zero]
          refine WG.put rfl (v := .bool true) (fun w => by first | rfl | (go_simp; done) | (simp [go_sem]; done) | (simp [execOp, go_sem]; done)) ?_
          simp only [Act.put, List.setIfInBounds_toArray, List.set_cons_succ, List.set_cons_zero]
          refine WG.nil ?_
          intro w5 B5
          go_wp2
          go_roundw
          case rel => exact ⟨k + 1, by omega, by go_num, by rw [HQ2.out], Below.then HB.out B5⟩
          case measure => simp [intOf]; omega
        · have hd : decide (x = r) = false := by simpa using he
          have HQ2 : Hid (knB want r (k + 1) = false) := by show _ = _; rw [HQ.out, hd, hq]; rfl
          clear HQ hq he
          go_wp2
          refine grow_allW (by kernel_rfl) (by kernel_rfl) ?_
          refine WG.put rfl (v := .bool false) (fun w => by first | rfl | (go_simp; done) | (simp [go_sem]; done) | (simp [execOp, go_sem]; done)) ?_
          simp only [Act.put, List.setIfInBounds_toArray, List.set_cons_succ, List.set_cons_zero]
          refine WG.put rfl (v := .bool false) (fun w => by first | rfl | (go_simp; done) | (simp [go_sem]; done) | (simp [execOp, go_sem]; done)) ?_
          simp only [Act.put, List.setIfInBounds_toArray, List.set_cons_succ, List.set_cons_zero]
          refine WG.cell rfl 24 _ rfl rfl c10 (fun w h => by simp [go_sem, h]) ?_
          simp only [Act.put, List.setIfInBounds_toArray, List.set_cons_succ, List.set_cons_zero]
          refine WG.put rfl (v := .int .i64 (k : Int)) (fun w => by first | rfl | (go_simp; done) | (simp [go_sem]; done) | (simp [execOp, go_sem]; done)) ?_
          simp only [Act.put, List.setIfInBounds_toArray, List.set_cons_succ, List.set_cons_zero]
          refine WG.put rfl (v := .pointer (some ⟨b1, o1 + k * 2, none⟩)) (fun w => by first | rfl | (go_simp; done) | (simp [go_sem, hki, hk1]; done) | (simp [execOp, go_sem, hki, hk1]; done)) ?_
          simp only [Act.put, List.setIfInBounds_toArray, List.set_cons_succ, List.set_cons_zero]
          refine WG.rk rfl _ rfl rfl hb1 hc1 ?_
          simp only [Act.put, List.setIfInBounds_toArray, List.set_cons_succ, List.set_cons_zero]
          refine WG.rk rfl _ rfl rfl I3.lt I3r ?_
          simp only [Act.put, List.setIfInBounds_toArray, List.set_cons_succ, List.set_cons_zero]
          refine WG.eqK rfl _ _ rfl rfl rfl false hd ?_
          simp only [Act.put, List.setIfInBounds_toArray, List.set_cons_succ, List.set_cons_zero]
          refine WG.put rfl (v := .bool false) (fun w => by first | rfl | (go_simp; done) | (simp [go_sem]; done) | (simp [execOp, go_sem]; done)) ?_
          simp only [Act.put, List.setIfInBounds_toArray, List.set_cons_succ, List.set_cons_zero]
          refine WG.put rfl (v := .bool false) (fun w => by first | rfl | (go_simp; done) | (simp [go_sem]; done) | (simp [execOp, go_sem]; done)) ?_
          simp only [Act.put, List.setIfInBounds_toArray, List.set_cons_succ, List.set_cons_zero]
          refine WG.nil ?_
          intro w5 B5
          go_wp2
          go_roundw
          case rel => exact ⟨k + 1, by omega, by go_num, by rw [HQ2.out], Below.then HB.out B5⟩
          case measure => simp [intOf]; omega
    · have e : k = n := by omega
      subst e
      rw [HK9.out]
      have hki : ¬ ((k : Int) < k) := by omega
      have c2 : wr.cell? ⟨bs, 0, none⟩ = some (.bool false) := HCW.out.s.cell 0
      have hS := HCW.out.s
      have t2 : True := trivial
      have t3 : True := trivial
      have t4 : True := trivial
      have t5 : True := trivial
      go_wp2_with (first
        | (clear t2; refine wpList_store1 rfl 4 _ _ rfl rfl (.bool false) rfl hS (by simp) info4' rfl ?_; intro W5 U5 I5; have O5 := One.of_upd U5; have C5 := HCW.out.one O5 I5; have R5 := O5.isS I3 (by omega); have S5 := C5.S)
        | (clear t3; refine wpList_loadW rfl 27 _ rfl rfl S5 _ Try.underlying27 rfl info27 ?_)
        | (clear t4; refine wpList_loadW rfl 39 _ rfl rfl R5 _ Try.underlying39 rfl infoRk ?_)
        | (clear t5; go_at_call 11; refine (hof _ C5).mono ?_; rintro e W6 ⟨rfl, B6⟩))
      go_ret
      exact ⟨rfl, C5.below B6, ((One.of_below HBB.out bs).trans O5).trans (One.of_below B6 bs)⟩
theorem cap_val (hnw : want.length ≤ 1048576) (hnr : rs.length ≤ 1048576) (hnv : vs.length ≤ 1048576) : ValW bw bs bS (fun W => CapW W bw bs bS want aw cw rs vs d ar cr av cv) (lkF rs vs d) want :=
  ⟨fun W W' h hB => h.below hB, fun W r h hr => cap_any hnw hnr hnv r hr W h, fun W h => h.s.lt⟩
end
end Go.Proofs.Ytcmkoffamolgmaa
