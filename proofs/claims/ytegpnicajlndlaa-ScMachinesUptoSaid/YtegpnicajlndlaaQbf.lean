/- LX, CC1, RE1, LB1, OP, OA11, RR1 -/
import Derived.Test.YtegpnicajlndlaaCS6
import Derived.Test.YtegpnicajlndlaaQau
import Derived.Test.YtegpnicajlndlaaQam
import Derived.Test.YtegpnicajlndlaaCR4
import Derived.Test.YtegpnicajlndlaaQD
import Derived.Test.YtegpnicajlndlaaQag
import Derived.ProofKit
import Derived.OpenShut
import Derived.SizedLaws
import Derived.Lib.RowBridge
import Derived.ChangeMaps5
import Derived.ChangeOld
import Derived.JoinedCond
import Derived.Test.YtegpnicajlndlaaChecked
import Derived.Test.YtegpnicajlndlaaQbc
namespace Go.Proofs.Ytegpnicajlndlaa
open Go.RowKit M
set_option linter.unusedSimpArgs false
set_option linter.unusedVariables false
theorem rowV_oneX {w : World} {v : Value} {n : Nat} {cs : List Value} (h : RowV w v n cs) : v.oneCell' = true := by obtain ⟨a, c, rfl, _⟩ := h; rfl
theorem stc_oneX {v0 v1 v2 v3 v4 : Value} {z : Int} (h0 : v0.oneCell' = true) (h1 : v1.oneCell' = true) (h2 : v2.oneCell' = true) (h3 : v3.oneCell' = true) (h4 : v4.oneCell' = true) : ∀ v ∈ [v0, v1, v2, v3, v4, .int .i64 z], v.oneCell' = true := by
 intro v hv
 simp only [List.mem_cons, List.not_mem_nil, or_false] at hv
 rcases hv with rfl | rfl | rfl | rfl | rfl | rfl
 · exact h0
 · exact h1
 · exact h2
 · exact h3
 · exact h4
 · rfl
theorem own_formX {w : World} {B t s n : Nat} {v : Value} {xs : List Value} (h : w.ownsRow B t s v n xs) : ∃ a c, v = .slice a n c := by
 obtain ⟨a', c', e, hs, _⟩ := own_row h
 exact ⟨a', c', e⟩
theorem shp_len {p : PG} (h : Vld p) : (shpOf p).ins.length = p.threads.length ∧ (shpOf p).rgs.length = p.threads.length := by unfold shpOf; simp [h.rl]
def zst : List Value := [.slice none 0 0, .slice none 0 0, .slice none 0 0, .slice none 0 0, .slice none 0 0, .int .i64 0]
theorem wpList_loadGW {w : World} {b t : Nat} {cs : List Value} {ops : Array Oper} {rest : List Oper} {op : Oper} {a : Act} {Q : Exit → Act → World → Prop} (hw : Region.wanted op (yielded ops a.tmps) = true) (ty : TypeId) (x : Operand) (ho : op.op = .load ty x) (hx : a.eval x = .pointer (some ⟨b, 0, none⟩)) (hc : IsS w b t cs) (d : TypeDesc)
    (hu : Try.prog.underlying ty = some d) (hd : d.isRow = true) (hi : (Try.prog.info? ty).map (·.size) = some cs.length)
    (h : wpList Try.prog ops Q rest (a.put op.dst (.agg cs.toArray)) w) : wpList Try.prog ops Q (op :: rest) a w := by
 refine wpList_step fun K hK => ?_
 simp only [hw, if_true]
 have hr := run_loadAt_mid (P := Try.prog) w b 0 ty cs d (fun i u hu => by rw [Nat.zero_add]; exact (hc.cell i).trans hu) hu hd hi
 unfold Oper.wp execOp
 simp only [ho, hx, Sem.run_bind, hr, Result.andThen_ok, Sem.run_pure]
 exact hK _ _ h
theorem flat_bound {α : Type} (m : Nat) : ∀ (l : List (List α)), (∀ q ∈ l, q.length ≤ m) → l.flatten.length ≤ m * l.length
 | [], _ => by simp
 | q :: l, h => by
  rw [List.flatten_cons, List.length_append, List.length_cons, Nat.mul_succ]
  have h1 := h q (by simp)
  have h2 := flat_bound m l fun x hx => h x (List.mem_cons_of_mem _ hx)
  omega
theorem few_fits {p : PG} {s : ST} (hv : Vld p) (h : Fits (shpOf p) s) : s.Few := by
 have hl := shp_len hv
 have h4 := hv.n4
 have h16 := hv.l16
 have e1 := h.pc
 have e2 := h.ph
 have e3 := h.rg
 have e4 := h.bf
 have e5 : s.mem.length = p.locs.length := h.mm
 refine ⟨by omega, by omega, by omega, ?_, by omega, by omega, ?_⟩
 · have := flat_bound 8 s.regs fun q hq => by
    obtain ⟨i, hi, e⟩ := getDS_mem (d := []) hq
    have ht := (h.th i (by omega)).1
    rw [e] at ht
    have hr : (shpOf p).rgs.getD i 0 ≤ 8 := by
     obtain ⟨r, hr⟩ : ∃ r, p.regs[i]? = some r := ⟨_, List.getElem?_eq_getElem (by have := hv.rl; omega)⟩
     have := hv.few i r hr
     unfold shpOf
     simp [hr]
     exact this
    omega
   omega
 · have := flat_bound 64 s.buf fun q hq => by
    obtain ⟨i, hi, e⟩ := getDS_mem (d := []) hq
    have ht := (h.th i (by omega)).2.2.2.1
    rw [e] at ht
    exact ht
   omega
theorem text_size {s : ST} (hf : s.Few) (hl : s.pc.length = s.ph.length ∧ s.pc.length = s.regs.length) (hw : Wid s) : (⟨(textS s).toArray⟩ : ByteArray).size ≤ 1099511627776 := by
 have h1 := cod_len (wid_vals hl hw)
 have h2 := vals_len hf
 show (textS s).toArray.size ≤ _
 rw [List.size_toArray]
 unfold textS
 unfold cod at h1
 omega
end Go.Proofs.Ytegpnicajlndlaa
namespace Go.Proofs.Ytegpnicajlndlaa
open Go.ChangeShapes Go.WideShapes Go.ChangeAt Go.RowKit M
set_option linter.unusedSimpArgs false
set_option linter.unusedVariables false
theorem cells2 : Try.prog.cellsOf 2 = 1 := by kernel_rfl
theorem cells3 : Try.prog.cellsOf 3 = 1 := by kernel_rfl
theorem cells9 : Try.prog.cellsOf 9 = 1 := by kernel_rfl
theorem cellsOp : Try.prog.cellsOf 63 = 5 := by kernel_rfl
theorem cellsPg : Try.prog.cellsOf 28 = 5 := by kernel_rfl
theorem cellsSS : Try.prog.cellsOf 24 = 1 := by kernel_rfl
theorem cellsSI : Try.prog.cellsOf 26 = 1 := by kernel_rfl
theorem cellsSO : Try.prog.cellsOf 61 = 1 := by kernel_rfl
theorem cellsSSS : Try.prog.cellsOf 23 = 1 := by kernel_rfl
theorem cellsSSI : Try.prog.cellsOf 25 = 1 := by kernel_rfl
theorem cellsSSO : Try.prog.cellsOf 22 = 1 := by kernel_rfl
theorem take_one {cs : List Value} {v : Value} {i : Nat} (h : List.take 1 (List.drop i cs) = [v]) : cs[i]? = some v := by
 have := congrArg List.head? h
 simpa [List.head?_take, List.head?_drop] using this
theorem list5 {cs : List Value} {a b c d e : Value} (hl : cs.length = 5) (h0 : cs[0]? = some a) (h1 : cs[1]? = some b) (h2 : cs[2]? = some c) (h3 : cs[3]? = some d) (h4 : cs[4]? = some e) : cs = [a, b, c, d, e] := by
 match cs, hl with
 | [x0, x1, x2, x3, x4], _ => simp at h0 h1 h2 h3 h4; simp [h0, h1, h2, h3, h4]
theorem bulk_pos {H : Type} (d : DataW H) : 1 ≤ Rows.uptoBulk d := by
 cases d with
 | lit l => cases l <;> simp [Rows.uptoBulk]
 | _ => simp [Rows.uptoBulk]
theorem bulk_len {H : Type} : ∀ ds : List (DataW H), ds.length ≤ Rows.uptoBulkAll ds
 | [] => by simp
 | d :: r => by have := bulk_pos d; have := bulk_len r; simp only [Rows.uptoBulkAll, List.length_cons]; omega
theorem bulk_mem {H : Type} : ∀ (ds : List (DataW H)) (d : DataW H), d ∈ ds → Rows.uptoBulk d ≤ Rows.uptoBulkAll ds
 | x :: r, d, h => by
  simp only [Rows.uptoBulkAll]
  rcases List.mem_cons.1 h with rfl | h
  · omega
  · have := bulk_mem r d h; omega
theorem bulk_sum {α H : Type} (sz : α → Nat) : ∀ (xs : List α) (ds : List (DataW H)), xs.length = ds.length → (∀ (i : Nat) x d, xs[i]? = some x → ds[i]? = some d → sz x ≤ Rows.uptoBulk d) → (xs.map sz).sum ≤ Rows.uptoBulkAll ds
 | [], [], _, _ => by simp
 | x :: xs, d :: ds, hl, h => by
  have h0 := h 0 x d rfl rfl
  have ih := bulk_sum sz xs ds (by simpa using hl) (fun i y e hy he => h (i + 1) y e (by simpa using hy) (by simpa using he))
  simp only [List.map_cons, List.sum_cons, Rows.uptoBulkAll]
  omega
theorem flat_get {α : Type} (encE : α → List Value) (k : Nat) (hk : 0 < k) (hlen : ∀ g, (encE g).length = k) : ∀ (xs : List α) (j : Nat) (v : Value), (xs.flatMap encE)[j]? = some v → ∃ g, xs[j / k]? = some g ∧ (encE g)[j % k]? = some v
 | [], j, v, h => by simp at h
 | x :: xs, j, v, h => by
  rw [List.flatMap_cons] at h
  by_cases hj : j < k
  · rw [List.getElem?_append_left (by rw [hlen]; exact hj)] at h
    exact ⟨x, by rw [Nat.div_eq_of_lt hj]; rfl, by rw [Nat.mod_eq_of_lt hj]; exact h⟩
  · rw [List.getElem?_append_right (by rw [hlen]; omega), hlen] at h
    obtain ⟨g, h1, h2⟩ := flat_get encE k hk hlen xs (j - k) v h
    have e1 : j / k = (j - k) / k + 1 := by
     have : j = (j - k) + k := by omega
     conv => lhs; rw [this]
     rw [Nat.add_div_right _ hk]
    have e2 : j % k = (j - k) % k := by
     have : j = (j - k) + k := by omega
     conv => lhs; rw [this]
     rw [Nat.add_mod_right]
    exact ⟨g, by rw [e1]; exact h1, by rw [e2]; exact h2⟩
theorem open_sl {α : Type} (z0 : α) {T t k : Nat} (hu : Try.prog.underlying T = some (.slice t)) (hk : Try.prog.cellsOf t = k) (hk0 : 0 < k) (encE : α → List Value) (hlen : ∀ g, (encE g).length = k) (Pw : α → Prop) (sz : α → Nat)
    {H : Type} {enc : TypeId × Value → H} {W : World} (opn : ∀ (fuel : Nat) (cs : List Value) (x : DataW H × List MemPlace), DataW.trod enc Try.prog W 0 (fun _ => true) true fuel t cs = some x → ∃ g, cs = encE g ∧ Pw g ∧ sz g ≤ Rows.uptoBulk x.1)
    {fuel : Nat} {cs : List Value} {x : DataW H × List MemPlace} (h : DataW.trod enc Try.prog W 0 (fun _ => true) true fuel T cs = some x) :
    ∃ (a : Option Addr) (xs : List α) (cap : Nat), cs = [.slice a xs.length cap] ∧ Seg W a (xs.flatMap encE) ∧ (∀ g ∈ xs, Pw g) ∧ xs.length ≤ Rows.uptoBulk x.1 ∧ (xs.map sz).sum ≤ Rows.uptoBulk x.1 ∧ (a = none → cap = 0) := by
 rcases DataW.trod_slice hu h with ⟨hcs, _⟩ | ⟨a, len, cap, elems, rest, n, _, hcs, hx, _, _, _, hel, hall, _, _⟩
 · exact ⟨none, [], 0, hcs, Seg.nil _ _, (fun g hg => by cases hg), by simp, by simp, fun _ => rfl⟩
 · rw [hk] at hall
   have one : ∀ i, i < len → ∃ g : α, (∀ j, j < k → W.cell? ((a.add (i * k)).add j) = (encE g)[j]?) ∧ Pw g ∧ ∀ e, elems[i]? = some e → sz g ≤ Rows.uptoBulk e.1 := fun i hi => by
    have hh := hall i hi
    have hie : i < elems.length := by omega
    rw [List.getElem?_eq_getElem hie] at hh
    obtain ⟨cs', hc, ht⟩ := Option.bind_eq_some_iff.1 hh
    obtain ⟨_, _, hcell⟩ := World.cells?_some hc
    obtain ⟨g, rfl, hg1, hg2⟩ := opn _ _ _ ht
    exact ⟨g, hcell, hg1, fun e he => by rw [List.getElem?_eq_getElem hie] at he; cases he; exact hg2⟩
   obtain ⟨f, hf⟩ : ∃ f : Nat → α, ∀ i, i < len → (∀ j, j < k → W.cell? ((a.add (i * k)).add j) = (encE (f i))[j]?) ∧ Pw (f i) ∧ ∀ e, elems[i]? = some e → sz (f i) ≤ Rows.uptoBulk e.1 :=
    ⟨fun i => if hi : i < len then Classical.choose (one i hi) else z0, fun i hi => by
     simp only [dif_pos hi]
     exact Classical.choose_spec (one i hi)⟩
   refine ⟨some a, (List.range len).map f, cap, by rw [hcs]; simp, ?_, ?_, ?_, ?_, fun e => by cases e⟩
   · intro j v hv
     obtain ⟨g, hg, hgv⟩ := flat_get encE k hk0 hlen _ j v hv
     have hq : j / k < len := by have := (List.getElem?_eq_some_iff.1 hg).1; simpa using this
     have hgf : g = f (j / k) := by
      rw [List.getElem?_map, List.getElem?_range hq] at hg
      simpa using hg.symm
     subst hgf
     have hr : j % k < k := Nat.mod_lt _ hk0
     have hc := ((hf _ hq).1 _ hr).trans hgv
     obtain ⟨b, off, spot⟩ := a
     have hspot : spot = none := by
      obtain ⟨u, hu0⟩ : ∃ u, (encE (f 0))[0]? = some u := ⟨_, List.getElem?_eq_getElem (by rw [hlen]; exact hk0)⟩
      have := World.cell?_spot (((hf 0 (Nat.lt_of_le_of_lt (Nat.zero_le _) hq)).1 0 hk0).trans hu0)
      simpa [Addr.add] using this
     subst hspot
     rw [Addr.add_mid, Addr.add_mid] at hc
     have e : off + j / k * k + j % k = off + j := by have := Nat.div_add_mod j k; rw [Nat.mul_comm] at this; omega
     rw [e] at hc
     exact ⟨b, off, rfl, World.block_lt_of_cell? W _ hc, hc⟩
   · intro g hg
     obtain ⟨i, hi, rfl⟩ := List.mem_map.1 hg
     exact (hf i (by simpa using hi)).2.1
   · rw [hx]
     have := bulk_len (elems.map (·.1))
     simp only [Rows.uptoBulk, List.length_map, List.length_range] at *
     omega
   · rw [hx]
     have := bulk_sum sz ((List.range len).map f) (elems.map (·.1)) (by simp [hel]) (fun i y d hy hd => by
      have hi : i < len := by have := (List.getElem?_eq_some_iff.1 hy).1; simpa using this
      rw [List.getElem?_map, List.getElem?_range hi] at hy
      cases hy
      rw [List.getElem?_map] at hd
      cases he : elems[i]? with
      | none => rw [he] at hd; cases hd
      | some e => rw [he] at hd; cases hd; exact (hf i hi).2.2 e he)
     simp only [Rows.uptoBulk] at *
     omega
section
variable {H : Type} {enc : TypeId × Value → H} {W : World}
theorem open_str1 (fuel : Nat) (cs : List Value) (x : DataW H × List MemPlace) (h : DataW.trod enc Try.prog W 0 (fun _ => true) true fuel 9 cs = some x) : ∃ g : ByteArray, cs = strE g ∧ g.size ≤ maxLen ∧ 1 ≤ Rows.uptoBulk x.1 := by
 obtain ⟨s, e, _, hs⟩ := DataW.trod_string Try.underlying9 h
 exact ⟨s, e, hs, bulk_pos _⟩
abbrev RowA (β : Type) := Option Addr × Nat × List β
def rowE {β : Type} (g : RowA β) : List Value := [.slice g.1 g.2.2.length g.2.1]
def RowP {β : Type} (W : World) (encE : β → List Value) (Pw : β → Prop) (g : RowA β) : Prop := Seg W g.1 (g.2.2.flatMap encE) ∧ (g.1 = none → g.2.1 = 0) ∧ ∀ b ∈ g.2.2, Pw b
theorem open_row {β : Type} (z0 : β) {T t k : Nat} (hu : Try.prog.underlying T = some (.slice t)) (hk : Try.prog.cellsOf t = k) (hk0 : 0 < k) (encE : β → List Value) (hlen : ∀ g, (encE g).length = k) (Pw : β → Prop)
    (opn : ∀ (fuel : Nat) (cs : List Value) (x : DataW H × List MemPlace), DataW.trod enc Try.prog W 0 (fun _ => true) true fuel t cs = some x → ∃ g, cs = encE g ∧ Pw g ∧ 1 ≤ Rows.uptoBulk x.1)
    (fuel : Nat) (cs : List Value) (x : DataW H × List MemPlace) (h : DataW.trod enc Try.prog W 0 (fun _ => true) true fuel T cs = some x) : ∃ g : RowA β, cs = rowE g ∧ RowP W encE Pw g ∧ g.2.2.length ≤ Rows.uptoBulk x.1 := by
 obtain ⟨a, xs, cap, h1, h2, h3, h4, _, h6⟩ := open_sl z0 hu hk hk0 encE hlen Pw (fun _ => 1) opn h
 exact ⟨(a, cap, xs), h1, ⟨h2, h6, h3⟩, h4⟩
theorem rows_of {β : Type} {encE : β → List Value} {Pw : β → Prop} {a : Option Addr} {cap : Nat} {xs : List (RowA β)} (hs : Seg W a (xs.flatMap rowE)) (hp : ∀ g ∈ xs, RowP W encE Pw g) (hn : a = none → cap = 0) : RowsV W (.slice a (xs.map (·.2.2)).length cap) encE (xs.map (·.2.2)) := by
 refine ⟨xs.map fun g => .slice g.1 g.2.2.length g.2.1, by simp, ⟨a, cap, rfl, ?_, hn⟩, fun j u ys hu hy => ?_⟩
 · rw [show xs.flatMap rowE = xs.map fun g => .slice g.1 g.2.2.length g.2.1 from flat1 _ xs] at hs
   exact hs
 · rw [List.getElem?_map] at hu hy
   cases hg : xs[j]? with
   | none => rw [hg] at hu; cases hu
   | some g =>
    rw [hg] at hu hy
    cases hu; cases hy
    have := hp g (List.mem_of_getElem? hg)
    exact ⟨g.1, g.2.1, rfl, this.1, this.2.1⟩
end
theorem own : ownKnob Try.prog.godebug = none := by kernel_rfl
theorem laidOut : laidOutB Try.prog = true := by kernel_rfl
theorem i64_wf {n : Int} (h : (Lit.int .i64 n).wf = true) : I64 n := by
 unfold Lit.wf at h
 rw [Bool.and_eq_true, decide_eq_true_eq, decide_eq_true_eq] at h
 exact ⟨h.1, h.2⟩
section
variable {H : Type} {enc : TypeId × Value → H} {W : World}
theorem open_i2 (fuel : Nat) (cs : List Value) (x : DataW H × List MemPlace) (h : DataW.trod enc Try.prog W 0 (fun _ => true) true fuel 2 cs = some x) : ∃ g : Int, cs = intE g ∧ I64 g ∧ 1 ≤ Rows.uptoBulk x.1 := by
 obtain ⟨s, e, _, hw⟩ := DataW.trod_int Try.underlying2 h
 exact ⟨s, e, i64_wf hw, bulk_pos _⟩
theorem open_text (fuel : Nat) (cs : List Value) (x : DataW H × List MemPlace) (h : DataW.trod enc Try.prog W 0 (fun _ => true) true fuel 9 cs = some x) : ∃ s : ByteArray, cs = [.string s] ∧ s.size ≤ Rows.uptoBulk x.1 := by
 obtain ⟨s, e, hx, hs⟩ := DataW.trod_string Try.underlying9 h
 refine ⟨s, e, ?_⟩
 rw [hx]
 simp only [Rows.uptoBulk]
 have : s.data.toList.length = s.size := by rw [Array.length_toList]; rfl
 first | omega | (simp; done) | (simp; omega)
end
end Go.Proofs.Ytegpnicajlndlaa
namespace Go.Proofs.Ytegpnicajlndlaa
open Go.RowKit M
set_option linter.unusedSimpArgs false
set_option linter.unusedVariables false
def RrS (w : World) (b : Nat) (T : ByteArray) (r : RD) : Prop := IsS w b 111 [.string T, .int .i64 (r.at' : Int), .bool r.bad]
set_option maxRecDepth 100000 in
set_option maxHeartbeats 4000000 in
theorem rtk_any (T : ByteArray) (hT : T.size ≤ 1099511627776) (r : RD) (hr : r.at' ≤ T.size) (b : Nat) (w : World) (hI0 : RrS w b T r) :
    Calls Try.prog 46 #[.pointer (some ⟨b, 0, none⟩)] w fun e w' => e = .returned (.int .i64 (valR T r).1) ∧ RrS w' b T (valR T r).2 ∧ One w w' b := by
 obtain ⟨p, q⟩ := r
 have hI : IsS w b 111 [.string T, .int .i64 (p : Int), .bool q] := hI0
 have hTk := fun W => (rtake_any T (p : Int) (by unfold maxLen; omega) W).mono (R' := fun e w' => e = .returned (takeV (takeA T (p : Int))) ∧ Below W.heap.size W w') fun e w' ⟨h1, h2⟩ => ⟨h1, by rw [h2]; exact Below.refl _ _⟩
 have hp : (p : Int) ≤ 1099511627776 := by have : p ≤ T.size := hr; omega
 have ta : True := trivial
 have tb : True := trivial
 cases ht : takeA T (p : Int) with
 | none =>
  have HV : Hid (valR T ⟨p, q⟩ = (0, ⟨p, true⟩)) := by show _ = _; unfold valR; simp only [ht]
  rw [ht] at hTk
  simp only [takeV] at hTk
  clear ht hI0 hr
  go_enter Try.func46, Try.ntmps46
  go_wp2_with fail
  refine grow_allW (by kernel_rfl) (by kernel_rfl) ?_
  refine WG.pu rfl (v := (.pointer (some ⟨b, 0, none⟩))) ?_; simp only [sP]
  refine WG.pu rfl (v := (.pointer (some ⟨b, 0, none⟩))) ?_; simp only [sP]
  refine WG.pu rfl (v := (.pointer (some ⟨b, 0, none⟩))) ?_; simp only [sP]
  refine WG.load1 rfl 9 _ rfl rfl (hI) (v := (.string T)) rfl (fun w h => by simp [go_sem, h]) ?_; simp only [sP]
  refine WG.pu rfl (v := (.pointer (some ⟨b, 0, none⟩))) ?_; simp only [sP]
  refine WG.pu rfl (v := (.pointer (some ⟨b, 0, none⟩))) ?_; simp only [sP]
  refine WG.pu rfl (v := (.pointer (some ⟨b, 1, none⟩))) ?_; simp only [sP]
  refine WG.load1 rfl 3 _ rfl rfl (hI) (v := (.int .i64 (p : Int))) rfl (fun w h => by simp [go_sem, h]) ?_; simp only [sP]
  refine WG.call rfl (f := 96) (v := (.tuple #[.int .i64 0, .int .i64 ((0 : Nat) : Int), .int .i64 40])) (fun W _ => hTk W) (fun w => by first | rfl | (go_simp; done) | (simp [execOp, go_sem]; done)) ?_; simp only [sP]
  refine WG.pu rfl (v := (.tuple #[.int .i64 0, .int .i64 ((0 : Nat) : Int), .int .i64 40])) ?_; simp only [sP]
  refine WG.pu rfl (v := (.int .i64 0)) ?_; simp only [sP]
  refine WG.pu rfl (v := (.int .i64 ((0 : Nat) : Int))) ?_; simp only [sP]
  refine WG.pu rfl (v := (.int .i64 40)) ?_; simp only [sP]
  refine WG.pu rfl (v := (.int .i64 0)) ?_; simp only [sP]
  refine WG.pu rfl (v := (.int .i64 ((0 : Nat) : Int))) ?_; simp only [sP]
  refine WG.pu rfl (v := (.int .i64 40)) ?_; simp only [sP]
  refine WG.nil ?_
  intro W1 B1
  have I1 := hI.grown B1
  go_wp2_with (first
   | (clear ta; refine wpList_store1 rfl 4 _ _ rfl rfl (.bool true) rfl I1 (by simp) info4 rfl ?_; intro W2 U2 I2x; have I2 : IsS W2 b 111 [.string T, .int .i64 (p : Int), .bool true] := I2x; obtain ⟨y0, y1, y2⟩ := three_cells I2; clear I2x)
   )
  go_ret
  rw [HV.out]
  exact ⟨rfl, I2, One.trans (One.of_below B1 b) (One.of_upd U2)⟩
 | some t =>
  obtain ⟨v, m⟩ := t
  have hm := (takeA_cut ht).2.2.1
  have hmI : (p : Int) + (m : Int) ≤ 1099511627776 := by omega
  have HV : Hid (valR T ⟨p, q⟩ = (v, ⟨p + m, q⟩)) := by show _ = _; unfold valR; simp only [ht]
  rw [ht] at hTk
  simp only [takeV] at hTk
  clear ht hI0 hr hm
  go_enter Try.func46, Try.ntmps46
  go_wp2_with fail
  refine grow_allW (by kernel_rfl) (by kernel_rfl) ?_
  refine WG.pu rfl (v := (.pointer (some ⟨b, 0, none⟩))) ?_; simp only [sP]
  refine WG.pu rfl (v := (.pointer (some ⟨b, 0, none⟩))) ?_; simp only [sP]
  refine WG.pu rfl (v := (.pointer (some ⟨b, 0, none⟩))) ?_; simp only [sP]
  refine WG.load1 rfl 9 _ rfl rfl (hI) (v := (.string T)) rfl (fun w h => by simp [go_sem, h]) ?_; simp only [sP]
  refine WG.pu rfl (v := (.pointer (some ⟨b, 0, none⟩))) ?_; simp only [sP]
  refine WG.pu rfl (v := (.pointer (some ⟨b, 0, none⟩))) ?_; simp only [sP]
  refine WG.pu rfl (v := (.pointer (some ⟨b, 1, none⟩))) ?_; simp only [sP]
  refine WG.load1 rfl 3 _ rfl rfl (hI) (v := (.int .i64 (p : Int))) rfl (fun w h => by simp [go_sem, h]) ?_; simp only [sP]
  refine WG.call rfl (f := 96) (v := (.tuple #[.int .i64 v, .int .i64 (m : Int), .int .i64 0])) (fun W _ => hTk W) (fun w => by first | rfl | (go_simp; done) | (simp [execOp, go_sem]; done)) ?_; simp only [sP]
  refine WG.pu rfl (v := (.tuple #[.int .i64 v, .int .i64 (m : Int), .int .i64 0])) ?_; simp only [sP]
  refine WG.pu rfl (v := (.int .i64 v)) ?_; simp only [sP]
  refine WG.pu rfl (v := (.int .i64 (m : Int))) ?_; simp only [sP]
  refine WG.pu rfl (v := (.int .i64 0)) ?_; simp only [sP]
  refine WG.pu rfl (v := (.int .i64 v)) ?_; simp only [sP]
  refine WG.pu rfl (v := (.int .i64 (m : Int))) ?_; simp only [sP]
  refine WG.pu rfl (v := (.int .i64 0)) ?_; simp only [sP]
  refine WG.nil ?_
  intro W1 B1
  have I1 := hI.grown B1
  obtain ⟨y0, y1, y2⟩ := three_cells I1
  go_wp2_with (first
   | (clear tb; refine wpList_store1 rfl 3 _ _ rfl rfl (.int .i64 ((p : Int) + (m : Int))) rfl I1 (by simp) info3x rfl ?_; intro W3 U3 I3x; have I3 : IsS W3 b 111 [.string T, .int .i64 ((p : Int) + (m : Int)), .bool q] := I3x; clear I3x))
  go_ret
  rw [HV.out]
  exact ⟨rfl, (by show IsS _ _ _ _; rw [show ((p + m : Nat) : Int) = (p : Int) + (m : Int) by omega]; exact I3), One.trans (One.of_below B1 b) (One.of_upd U3)⟩
set_option maxRecDepth 100000 in
set_option maxHeartbeats 4000000 in
theorem rsm_any (T : ByteArray) (hT : T.size ≤ 1099511627776) (r : RD) (hr : r.at' ≤ T.size) (hi : Int) (b : Nat) (w : World) (hI0 : RrS w b T r) :
    Calls Try.prog 45 #[.pointer (some ⟨b, 0, none⟩), .int .i64 hi] w fun e w' => e = .returned (.int .i64 (numR T 0 hi r).1) ∧ RrS w' b T (numR T 0 hi r).2 ∧ One w w' b := by
 have hval := rtk_any T hT r hr b w hI0
 obtain ⟨v, hv⟩ : ∃ v, v = (valR T r).1 := ⟨_, rfl⟩
 obtain ⟨q, hq⟩ : ∃ v, v = (valR T r).2 := ⟨_, rfl⟩
 by_cases h1 : v < 0
 · have HV : Hid (numR T 0 hi r = (0, ⟨q.at', true⟩)) := by show _ = _; unfold numR; rw [← hv, if_neg (by omega), hq]
   rw [← hv, ← hq] at hval
   clear hv hq
   go_enter Try.func45, Try.ntmps45
   go_wp2_with (first
    | (go_at_call 46; refine hval.mono ?_; rintro e W1 ⟨rfl, I1, O1⟩; have I1' : IsS W1 b 111 [.string T, .int .i64 (q.at' : Int), .bool q.bad] := I1)
    | (refine wpList_store1 rfl 4 _ _ rfl rfl (.bool true) rfl I1' (by simp) info4 rfl ?_; intro W2 U2 I2x; have I2 : IsS W2 b 111 [.string T, .int .i64 (q.at' : Int), .bool true] := I2x))
   go_ret
   rw [HV.out]
   exact ⟨rfl, I2, O1.trans (One.of_upd U2)⟩
 by_cases h2 : hi < v
 · have HV : Hid (numR T 0 hi r = (0, ⟨q.at', true⟩)) := by show _ = _; unfold numR; rw [← hv, if_neg (by omega), hq]
   rw [← hv, ← hq] at hval
   clear hv hq
   go_enter Try.func45, Try.ntmps45
   go_wp2_with (first
    | (go_at_call 46; refine hval.mono ?_; rintro e W1 ⟨rfl, I1, O1⟩; have I1' : IsS W1 b 111 [.string T, .int .i64 (q.at' : Int), .bool q.bad] := I1)
    | (refine wpList_store1 rfl 4 _ _ rfl rfl (.bool true) rfl I1' (by simp) info4 rfl ?_; intro W2 U2 I2x; have I2 : IsS W2 b 111 [.string T, .int .i64 (q.at' : Int), .bool true] := I2x))
   go_ret
   rw [HV.out]
   exact ⟨rfl, I2, O1.trans (One.of_upd U2)⟩
 · have HV : Hid (numR T 0 hi r = (v, q)) := by show _ = _; unfold numR; rw [← hv, if_pos (by omega), hv, hq]
   rw [← hv, ← hq] at hval
   clear hv hq
   go_enter Try.func45, Try.ntmps45
   go_wp2_with (first
    | (go_at_call 46; refine hval.mono ?_; rintro e W1 ⟨rfl, I1, O1⟩))
   go_ret
   rw [HV.out]
   exact ⟨rfl, I1, O1⟩
end Go.Proofs.Ytegpnicajlndlaa
