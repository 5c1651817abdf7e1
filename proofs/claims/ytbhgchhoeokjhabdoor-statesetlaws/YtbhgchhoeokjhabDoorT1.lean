/- Texts of final states: what stands for each value; owner and Name; Text of the program and of the reference. -/
import Derived.Test.YtbhgchhoeokjhabDoorFD
import Derived.Test.YtbhgchhoeokjhabDoorBV
import Derived.Test.YtbhgchhoeokjhabDoorCD
import Derived.Test.YtbhgchhoeokjhabDoorGT
namespace Go.Proofs.YtbhgchhoeokjhabDoor
open Go.RowKit M
set_option linter.unusedSimpArgs false
set_option linter.unusedVariables false

theorem zeroRf (w : World) : (zeroValue 49).run Tryd.prog w = .ok (.agg [.int .i64 0, .string ⟨#[]⟩].toArray) w := by
  have h : Tryd.t49.zero = some (.agg [.int .i64 0, .string ⟨#[]⟩].toArray) := by kernel_rfl
  simp [go_sem, zeroValue, h]
theorem bw_new {W : World} {B b : Nat} (hB : B ≤ b) (I : IsS W b 60 [.pointer none, .slice none 0 0]) : BW W B b [] (.slice none 0 0) :=
  ⟨hB, ⟨_, .inl rfl, I⟩, World.ownsRow_nil _ _ _ _⟩
theorem bw_below {w w' : World} {B b : Nat} {l : List UInt8} {v v' : Value} (h : BW w B b l v) (s : Step (some b) v.ownBlock v'.ownBlock w w') (hB : B ≤ w.heap.size) : Below B w w' :=
  s.below (fun k e => by cases e; exact h.hB) (fun k e => (h.own.lt k e).1) hB
theorem bw_keep {w w' : World} {B b b' t : Nat} {l : List UInt8} {v v' : Value} {cs : List Value} (h : BW w B b l v) (s : Step (some b) v.ownBlock v'.ownBlock w w') (I : IsS w b' t cs) (ht : t ≠ 5) (hb : b' ≠ b) : IsS w' b' t cs :=
  I.step s (fun e => hb (by injection e)) (fun e => own_ne h.own I ht e.symm)
abbrev RF := Int × ByteArray
def rfL (r : RF) : List Value := [.int .i64 r.1, .string r.2]
def Wr (r : RF) : Prop := -9223372036854775808 ≤ r.1 ∧ r.1 ≤ 9223372036854775807
theorem infoRf : (Tryd.prog.info? 49).map (·.size) = some 2 := by kernel_rfl
theorem rfL_one (r : RF) : ∀ v ∈ rfL r, v.oneCell' = true := fun v hv => by
  simp only [rfL, List.mem_cons, List.not_mem_nil, or_false] at hv
  rcases hv with rfl | rfl <;> rfl
def tS (v : Int) : ByteArray := ⟨(textL v).toArray⟩
def ownS (r : RF) : ByteArray := if r.1 = -1 then ⟨#[]⟩ else tS r.1 ++ ⟨#[58]⟩
def nameS (r : RF) : ByteArray := if r.1 = -1 then r.2 else tS r.1 ++ ⟨#[58]⟩ ++ r.2
theorem textL_len (v : Int) (h0 : -9223372036854775808 ≤ v) (h1 : v ≤ 9223372036854775807) : (textL v).length ≤ 21 := by
  unfold textL
  split
  · have := dgs_len 10 (by omega) 20 v.natAbs (by omega) (by omega); simp; omega
  · have := dgs_len 10 (by omega) 20 v.toNat (by omega) (by omega); omega
theorem tS_size (v : Int) (h0 : -9223372036854775808 ≤ v) (h1 : v ≤ 9223372036854775807) : (tS v).size ≤ 21 := by
  have := textL_len v h0 h1
  unfold tS; rw [size_mk]; exact this
theorem exec_add {w : World} {op : Oper} {a : Act} {p q : Operand} {x y : ByteArray} (ho : op.op = .binOp .add 9 p q 9) (hx : a.eval p = .string x) (hy : a.eval q = .string y) (h : x.size + y.size ≤ 4611686018427387903) : (execOp a.eval op).run Tryd.prog w = .ok (.value (.string (x ++ y))) w := by
  generalize a.eval = ev at hx hy ⊢
  have h' : x.size + y.size ≤ 9223372036854775807 := by omega
  unfold execOp
  simp [ho, hx, hy, go_sem, h']
theorem s1 (c : UInt8) : (⟨#[c]⟩ : ByteArray).size = 1 := rfl
section
variable {w : World} {r : RF} {b : Nat} {ops : Array Oper} {rest : List Oper} {op : Oper} {a : Act} {Q : Exit → Act → World → Prop}
theorem wpList_loadRf (hgd : op.guard = none) (y : Operand) (ho : op.op = .load 49 y) {o : Nat} (hx : a.eval y = .pointer (some ⟨b, o, none⟩)) (hc : w.rangeAt b o (rfL r)) (h : wpList Tryd.prog ops Q rest (a.put op.dst (.agg (rfL r).toArray)) w) : wpList Tryd.prog ops Q (op :: rest) a w :=
  wpList_load_mid hgd 49 y ho b o hx _ _ hc Tryd.underlying49 rfl infoRf h
end
set_option maxRecDepth 100000 in
set_option maxHeartbeats 2000000 in
theorem owner_any (r : RF) (hr : Wr r) (w : World) (hT : Tab10 w) : Calls Tryd.prog 36 #[.agg (rfL r).toArray] w fun e w' => e = .returned (.string (ownS r)) ∧ Below w.heap.size w w' := by
  have hI := fun W (h : Tab10 W) => itoa_any r.1 hr.1 hr.2 W h
  have hsz := tS_size r.1 hr.1 hr.2
  have h0 : ∀ w b, IsS w b 49 (rfL r) → w.cell? ⟨b, 0, none⟩ = some (.int .i64 r.1) := fun w b I => I.cell 0
  have ta : True := trivial
  by_cases h : r.1 = -1
  · have HV : Hid (ownS r = ⟨#[]⟩) := by show _ = _; unfold ownS; rw [if_pos h]
    have heq : (r.1 == -1) = true := by simpa using h
    clear h hI
    go_enter Tryd.func36, Tryd.ntmps36
    go_wp2_with (first
      | (clear ta; refine wpList_boxS rfl _ _ rfl (rfL r) rfl ?_; intro W b F I; have c0 := h0 W b I))
    go_ret
    exact ⟨by rw [HV.out]; rfl, fresh_b F⟩
  · have HV : Hid (ownS r = tS r.1 ++ ⟨#[58]⟩) := by show _ = _; unfold ownS; rw [if_neg h]
    have heq : (r.1 == -1) = false := by simpa using h
    have hI' := fun W (h : Tab10 W) => (hI W h)
    change ∀ W, Tab10 W → Calls Tryd.prog 47 #[.int .i64 r.1] W fun e w' => e = .returned (.string (tS r.1)) ∧ Below W.heap.size W w' at hI'
    generalize tS r.1 = t at *
    clear h hI
    go_enter Tryd.func36, Tryd.ntmps36
    go_wp2_with (first
      | (clear ta; refine wpList_boxS rfl _ _ rfl (rfL r) rfl ?_; intro W b F I; have c0 := h0 W b I; have T1 := hT.below (fresh_b F))
      | (go_at_call 47; refine (hI' _ T1).mono ?_; rintro e w1 ⟨rfl, B1⟩))
    go_ret
    exact ⟨by rw [HV.out]; rfl, Below.then (fresh_b F) B1⟩
/-- What stands for a value. -/
def entL (r : RF) (v : Int) : List UInt8 := (ownS r).data.toList ++ (r.2.data.toList ++ (61 :: (textL v ++ [59])))
def txtK (rs : List RF) (vs : List Int) : Nat → List UInt8
  | 0 => []
  | k + 1 => txtK rs vs k ++ ((if k = 0 then [] else [32]) ++ entL (rs.getD k (0, ⟨#[]⟩)) (vs.getD k 0))
theorem app_list (a b : ByteArray) : (a ++ b).data.toList = a.data.toList ++ b.data.toList := by simp
theorem ent_own (r : RF) (v : Int) : ((ownS r ++ r.2) ++ ⟨#[61]⟩ ++ tS v ++ ⟨#[59]⟩ : ByteArray).data.toList = entL r v := by
  rw [app_list, app_list, app_list, app_list]
  unfold entL tS
  simp
theorem ent_name (s : ByteArray) (r : RF) (v : Int) : (s ++ nameS r ++ ⟨#[61]⟩ ++ tS v ++ ⟨#[59]⟩ : ByteArray).data.toList = s.data.toList ++ entL r v := by
  have h : (nameS r).data.toList = (ownS r).data.toList ++ r.2.data.toList := by
    unfold nameS ownS
    split
    · simp
    · rw [app_list]
  rw [app_list, app_list, app_list, app_list, h]
  unfold entL tS
  simp
theorem ba_ext {a b : ByteArray} (h : a.data.toList = b.data.toList) : a = b := by
  cases a; cases b; simp at h; simp [h]
theorem ownS_size (r : RF) (hr : Wr r) : (ownS r).size ≤ 22 := by
  have := tS_size r.1 hr.1 hr.2
  unfold ownS
  split
  · show 0 ≤ 22; omega
  · rw [ByteArray.size_append, s1]; omega
theorem nameS_size (r : RF) (hr : Wr r) : (nameS r).size ≤ 22 + r.2.size := by
  have := tS_size r.1 hr.1 hr.2
  unfold nameS
  split
  · omega
  · rw [ByteArray.size_append, ByteArray.size_append, s1]; omega
theorem entL_len (r : RF) (v : Int) (hr : Wr r) (h0 : -9223372036854775808 ≤ v) (h1 : v ≤ 9223372036854775807) : (entL r v).length ≤ 48 + r.2.size := by
  have h2 := ownS_size r hr
  have h3 := textL_len v h0 h1
  have e1 : (ownS r).data.toList.length = (ownS r).size := by simp
  have e2 : r.2.data.toList.length = r.2.size := by simp
  unfold entL
  rw [List.length_append, List.length_append, List.length_cons, List.length_append, e1, e2]
  simp; omega
theorem mem_le_sum : ∀ (l : List Nat) (x : Nat), x ∈ l → x ≤ l.sum
  | y :: l, x, h => by
    rcases List.mem_cons.1 h with rfl | h
    · simp
    · have := mem_le_sum l x h; simp; omega
theorem sum_take_le (l : List Nat) (k : Nat) : (l.take k).sum ≤ l.sum := by
  induction l generalizing k with
  | nil => simp
  | cons x l ih =>
    cases k with
    | zero => simp
    | succ k => have := ih k; simp; omega
theorem txtK_len (rs : List RF) (vs : List Int) (hr : ∀ r ∈ rs, Wr r) (hv : ∀ v ∈ vs, -9223372036854775808 ≤ v ∧ v ≤ 9223372036854775807) : ∀ k, k ≤ rs.length → (txtK rs vs k).length ≤ 49 * k + ((rs.take k).map (·.2.size)).sum
  | 0, _ => by simp [txtK]
  | k + 1, hk => by
    have ih := txtK_len rs vs hr hv k (by omega)
    have hw : Wr (rs.getD k (0, ⟨#[]⟩)) := by
      rw [List.getD_eq_getElem?_getD, List.getElem?_eq_getElem (by omega)]; exact hr _ (List.getElem_mem (by omega))
    have hvb : -9223372036854775808 ≤ vs.getD k 0 ∧ vs.getD k 0 ≤ 9223372036854775807 := by
      rw [List.getD_eq_getElem?_getD]
      cases hq : vs[k]? with
      | none => simp
      | some v => simpa using hv v (List.mem_of_getElem? hq)
    have h1 := entL_len (rs.getD k (0, ⟨#[]⟩)) (vs.getD k 0) hw hvb.1 hvb.2
    have h2 : (rs.take (k + 1)).map (·.2.size) = (rs.take k).map (·.2.size) ++ [(rs.getD k (0, ⟨#[]⟩)).2.size] := by
      rw [List.take_succ_eq_append_getElem (by omega), List.map_append]
      simp [show k < rs.length by omega]
    rw [h2, List.sum_append]
    unfold txtK
    rw [List.length_append, List.length_append]
    have h3 : (if k = 0 then ([] : List UInt8) else [32]).length ≤ 1 := by split <;> simp
    simp only [List.sum_cons, List.sum_nil]
    omega
def txtOk (x : FS) (n : Nat) : Bool := okF x && decide (x.n = (n : Int))
def txtE (x : FS) (rs : List RF) : Int := if txtOk x rs.length then 0 else 4
def txtV (x : FS) (rs : List RF) : Value := if txtOk x rs.length then .tuple #[.string ⟨(txtK rs x.v rs.length).toArray⟩, .int .i64 0] else .tuple #[.string ⟨#[]⟩, .int .i64 4]
/-- References in memory. -/
def RfS (w : World) (a : Option Addr) (rs : List RF) : Prop := Seg w a (rs.flatMap rfL)
theorem rfs_len (rs : List RF) : (rs.flatMap rfL).length = rs.length * 2 := by
  induction rs with
  | nil => rfl
  | cons r rs ih => rw [List.flatMap_cons, List.length_append, ih, List.length_cons]; simp [rfL]; omega
theorem rfs_get : ∀ (rs : List RF) (j i : Nat), j < rs.length → i < 2 → (rs.flatMap rfL)[j * 2 + i]? = (rfL (rs.getD j (0, ⟨#[]⟩)))[i]?
  | [], j, i, h, _ => by simp at h
  | r :: rs, 0, i, _, hi => by rw [List.flatMap_cons, Nat.zero_mul, Nat.zero_add, List.getElem?_append_left (by simp [rfL]; omega)]; rfl
  | r :: rs, j + 1, i, h, hi => by
    rw [List.flatMap_cons, List.getElem?_append_right (by simp [rfL]; omega)]
    have e : (j + 1) * 2 + i - (rfL r).length = j * 2 + i := by simp [rfL]; omega
    rw [e, rfs_get rs j i (by simpa using h) hi]; simp
theorem RfS.at {w : World} {a : Option Addr} {rs : List RF} (h : RfS w a rs) (j : Nat) (hj : j < rs.length) : ∃ b o, a = some ⟨b, o, none⟩ ∧ b < w.heap.size ∧ w.rangeAt b (o + j * 2) (rfL (rs.getD j (0, ⟨#[]⟩))) := by
  obtain ⟨b, o, e, hb, _⟩ := h (j * 2 + 0) (.int .i64 (rs.getD j (0, ⟨#[]⟩)).1) (by rw [rfs_get rs j 0 hj (by omega)]; rfl)
  refine ⟨b, o, e, hb, fun i v hv => ?_⟩
  have hi : i < 2 := by have := (List.getElem?_eq_some_iff.1 hv).1; simpa [rfL] using this
  obtain ⟨b', o', e', _, hc⟩ := h (j * 2 + i) v (by rw [rfs_get rs j i hj hi]; exact hv)
  rw [e] at e'
  cases e'
  rw [Nat.add_assoc]; exact hc

set_option maxRecDepth 100000 in
set_option maxHeartbeats 4000000 in
theorem txt_any (x : FS) (hx : Wf x) (a : Option Addr) (cap : Nat) (rs : List RF) (hr : ∀ r ∈ rs, Wr r) (hsum : (rs.map (·.2.size)).sum ≤ 100000) (hnn : rs.length ≤ 4611686018427387903) (w : World) (hS : RfS w a rs) (hT : Tab10 w) :
    Calls Tryd.prog 21 #[.agg (encF x).toArray, .slice a rs.length cap] w fun e w' => e = .returned (txtV x rs) ∧ Below w.heap.size w w' := by
  have hC := fun W => check_any x W
  have hnz : ((rs.length : Nat) : Int) ≤ 4611686018427387903 := by omega
  have h0 : ∀ w b, IsS w b 27 (encF x) → w.cell? ⟨b, 0, none⟩ = some (.int .i64 x.n) := fun w b I => I.cell 0
  have tk : True := trivial
  cases hok : okF x with
  | false =>
    have hck : ckF x = 4 := by unfold ckF; rw [hok]; rfl
    have HV : Hid (txtV x rs = .tuple #[.string ⟨#[]⟩, .int .i64 4]) := by show _ = _; unfold txtV txtOk; rw [hok]; rfl
    rw [hck] at hC
    clear hS hok hck hr hsum
    go_enter Tryd.func21, Tryd.ntmps21
    go_wp2_with (first
      | (clear tk; refine wpList_boxS rfl _ _ rfl (encF x) rfl ?_; intro W b F I)
      | (refine wpList_loadF rfl _ rfl rfl I ?_)
      | (go_at_call 15; refine (hC _).mono ?_; rintro e w1 ⟨rfl, B1⟩; have I1 := I.grown B1; have c0 := h0 _ _ I1))
    go_ret2
    exact ⟨congrArg Ending.returned HV.out.symm, Below.then (fresh_b F) B1⟩
  | true =>
    have hck : ckF x = 0 := by unfold ckF; rw [hok]; rfl
    rw [hck] at hC
    by_cases hne : x.n = (rs.length : Int)
    · have HV : Hid (txtV x rs = .tuple #[.string ⟨(txtK rs x.v rs.length).toArray⟩, .int .i64 0]) := by
        show _ = _
        have : txtOk x rs.length = true := by unfold txtOk; rw [hok]; simpa using hne
        unfold txtV; rw [this]; rfl
      obtain ⟨N, hN, hN'⟩ := okF_n hok
      have hn48 : rs.length ≤ 48 := by omega
      have hneI : ((rs.length : Int) != x.n) = false := by simp [hne]
      have hv : ∀ w b, IsS w b 27 (encF x) → ∀ j, j < 48 → w.cell? ⟨b, 1 + j, none⟩ = some (.int .i64 (x.v.getD j 0)) := fun w b I j hj => by
        rw [I.cell, show 1 + j = j + 1 by omega, encF_get x _ (by omega)]
      have hlen : ∀ k, k ≤ rs.length → (txtK rs x.v k).length ≤ 110000 := fun k hk => by
        have h1 := txtK_len rs x.v hr hx k hk
        have h2 := sum_take_le (rs.map (·.2.size)) k
        rw [← List.map_take] at h2
        omega
      have hszj : ∀ j, j < rs.length → (rs.getD j (0, ⟨#[]⟩)).2.size ≤ 100000 ∧ Wr (rs.getD j (0, ⟨#[]⟩)) := fun j hj => by
        rw [List.getD_eq_getElem?_getD, List.getElem?_eq_getElem hj]
        refine ⟨?_, hr _ (List.getElem_mem hj)⟩
        exact Nat.le_trans (mem_le_sum _ _ (List.mem_map.2 ⟨rs[j], List.getElem_mem hj, rfl⟩)) hsum
      have HS : Hid (RfS w a rs) := hS
      have hNx : x.n ≤ 48 := by omega
      have HNe : Hid (x.n = (rs.length : Int)) := hne
      clear hS hok hck hr hsum hne hN
      have tl : True := trivial
      go_enter Tryd.func21, Tryd.ntmps21
      go_wp2_with (first
        | (clear tk; refine wpList_boxS rfl _ _ rfl (encF x) rfl ?_; intro W b F I)
        | (refine wpList_loadF rfl _ rfl rfl I ?_)
        | (go_at_call 15; refine (hC _).mono ?_; rintro e w1 ⟨rfl, B1⟩; have I1 := I.grown B1; have c0 := h0 _ _ I1)
        | (clear tl; refine wpList_allocS rfl _ rfl [.pointer none, .slice none 0 0] zeroB ?_; intro w2 b2 F2 N2; have B2 := fresh_b F2; have hb2 : w1.heap.size ≤ b2 := (by rw [F2.at']; exact Nat.le_refl _); have L2 := bw_new hb2 N2))
      have B01 := Below.then (fresh_b F) B1
      have hb1 : b < w1.heap.size := I1.lt
      clear hC c0 F2 N2
      go_loopw [21] (fun i wr => ∃ k : Nat, k ≤ rs.length ∧ i = .int .i64 (k : Int) ∧ (∃ v, Hid (BW wr w1.heap.size b2 (txtK rs x.v k) v)) ∧ Below w1.heap.size w1 wr) (fun i _ => rs.length - (intOf i).toNat)
      case atStart => exact ⟨0, Nat.zero_le _, rfl, ⟨_, L2⟩, B2⟩
      case round =>
        obtain ⟨k, hk, rfl, ⟨vb, HL⟩, BR⟩ := hrel
        have hb2R : b2 < wr.heap.size := by obtain ⟨_, _, h⟩ := HL.out.blk; exact h.lt
        have hsR := BR.size
        have B0R := Below.then B01 BR
        clear L2 B2
        by_cases hlt : k < rs.length
        · obtain ⟨bn, on', rfl, HBN, HN⟩ := RfS.at (Seg.below HS.out B0R) k hlt
          obtain ⟨hsz2, hwr2⟩ := hszj k hlt
          have cv : ∀ W, Below w1.heap.size w1 W → W.cell? ⟨b, 1 + k, none⟩ = some (.int .i64 (x.v.getD k 0)) := fun W hB => hv W b (I1.below hB hb1) k (by omega)
          have hyb := hx.at k
          have HK : Hid (txtK rs x.v (k + 1) = txtK rs x.v k ++ ((if k = 0 then [] else [32]) ++ entL (rs.getD k (0, ⟨#[]⟩)) (x.v.getD k 0))) := rfl
          have hl0 := hlen k (by omega)
          have hl1 := hlen (k + 1) (by omega)
          have hOw := fun W (h : Tab10 W) => owner_any (rs.getD k (0, ⟨#[]⟩)) hwr2 W h
          have hTx := fun W (h : Tab10 W) => text_any (x.v.getD k 0) hyb.1 hyb.2 W h
          change ∀ W, Tab10 W → Calls Tryd.prog 37 #[.int .i64 (x.v.getD k 0)] W fun e w' => e = .returned (.string (tS (x.v.getD k 0))) ∧ Below W.heap.size W w' at hTx
          have HE : Hid (((ownS (rs.getD k (0, ⟨#[]⟩)) ++ (rs.getD k (0, ⟨#[]⟩)).2) ++ ⟨#[61]⟩ ++ tS (x.v.getD k 0) ++ ⟨#[59]⟩ : ByteArray).data.toList = entL (rs.getD k (0, ⟨#[]⟩)) (x.v.getD k 0)) := ent_own _ _
          have hs1 := ownS_size _ hwr2
          have hs2 := tS_size _ hyb.1 hyb.2
          have hkI : (k : Int) < (rs.length : Int) := by omega
          have hk48 : (k : Int) < 48 := by omega
          have hk48N : k < 48 := by omega
          have HLn : Hid ((entL (rs.getD k (0, ⟨#[]⟩)) (x.v.getD k 0)).length ≤ 100100) := by
            have := entL_len (rs.getD k (0, ⟨#[]⟩)) (x.v.getD k 0) hwr2 hyb.1 hyb.2
            show _ ≤ _; omega
          generalize ownS (rs.getD k (0, ⟨#[]⟩)) = oS at *
          generalize hEd : entL (rs.getD k (0, ⟨#[]⟩)) (x.v.getD k 0) = eL at *
          generalize hRd : rs.getD k (0, ⟨#[]⟩) = r at *
          generalize tS (x.v.getD k 0) = tV at *
          generalize x.v.getD k 0 = y at *
          generalize txtK rs x.v k = t0 at *
          clear hEd hRd hv hlen hszj
          obtain ⟨rt, rn⟩ := r
          dsimp only at hsz2 HE
          have ts : True := trivial
          have HT0 : Hid (Tab10 w) := hT
          by_cases hk0 : k = 0
          · have hkz : ¬ (0 < (k : Int)) := by omega
            have hkzN : ¬ (0 < k) := by omega
            rw [if_pos hk0, List.nil_append] at HK
            clear hk0
            go_wp2_with (first
              | (refine wpList_loadRf (r := (rt, rn)) rfl _ rfl rfl HN ?_)
              | (clear ts; refine wpList_allocS rfl _ rfl [.int .i64 0, .string ⟨#[]⟩] zeroRf ?_; intro w4 b4 F4 N4; have tu : True := trivial)
              | (clear tu; refine wpList_storeS rfl _ _ _ rfl rfl (rfL (rt, rn)) rfl N4 (by simp [rfL]) infoRf (rfL_one _) ?_; intro w5 U5 N5x; have N5 : IsS w5 b4 49 (rfL (rt, rn)) := N5x; have B45 : Below wr.heap.size wr w5 := U5.trans (fresh_b F4) (by rw [F4.at']; exact Nat.le_refl _)))
            have L5 := HL.out.below B45
            have B15 := Below.trans BR (B45.mono hsR)
            have N6 := N5
            have cv6 := cv w5 B15
            have T6 : Tab10 w5 := HT0.out.below (Below.then B01 B15)
            have LB6 := L5
            have BB6 := B15
            clear HN HBN HL cv N5
            refine grow_tailW 13 (by kernel_rfl) (by kernel_rfl) ?_
            simp only [List.take_succ_cons, List.take_zero, List.drop_succ_cons, List.drop_zero]
            refine WG.row rfl 49 _ rfl rfl N6 (rfL (rt, rn)) rfl _ Tryd.underlying49 rfl infoRf ?_
            simp only [Act.put, List.setIfInBounds_toArray, List.set_cons_succ, List.set_cons_zero]
            refine WG.call rfl (v := .string oS) (fun w h => hOw w (T6.below h)) (fun w => by first | rfl | (go_simp; done) | (simp [go_sem]; done)) ?_
            simp only [Act.put, List.setIfInBounds_toArray, List.set_cons_succ, List.set_cons_zero]
            refine WG.put rfl (v := .pointer (some ⟨b4, 1, none⟩)) (fun w => by first | rfl | (go_simp; done) | (simp [go_sem]; done)) ?_
            simp only [Act.put, List.setIfInBounds_toArray, List.set_cons_succ, List.set_cons_zero]
            refine WG.load1 rfl 9 _ rfl rfl N6 (v := .string rn) rfl ld9 ?_
            simp only [Act.put, List.setIfInBounds_toArray, List.set_cons_succ, List.set_cons_zero]
            refine WG.put rfl (v := .string (oS ++ rn)) (fun w => exec_add rfl rfl rfl (by omega)) ?_
            simp only [Act.put, List.setIfInBounds_toArray, List.set_cons_succ, List.set_cons_zero]
            refine WG.put rfl (v := .string (oS ++ rn ++ ⟨#[61]⟩)) (fun w => exec_add rfl rfl rfl (by rw [ByteArray.size_append, s1]; omega)) ?_
            simp only [Act.put, List.setIfInBounds_toArray, List.set_cons_succ, List.set_cons_zero]
            refine WG.put rfl (v := .int .i64 (k : Int)) (fun w => by first | rfl | (go_simp; done) | (simp [go_sem]; done)) ?_
            simp only [Act.put, List.setIfInBounds_toArray, List.set_cons_succ, List.set_cons_zero]
            refine WG.put rfl (v := .pointer (some ⟨b, 1, none⟩)) (fun w => by first | rfl | (go_simp; done) | (simp [go_sem]; done)) ?_
            simp only [Act.put, List.setIfInBounds_toArray, List.set_cons_succ, List.set_cons_zero]
            refine WG.put rfl (v := .pointer (some ⟨b, 1 + k, none⟩)) (fun w => by first | rfl | (go_simp; done) | (simp [go_sem, hk48, hk48N]; done)) ?_
            simp only [Act.put, List.setIfInBounds_toArray, List.set_cons_succ, List.set_cons_zero]
            refine WG.cell rfl 2 _ rfl rfl cv6 ld2 ?_
            simp only [Act.put, List.setIfInBounds_toArray, List.set_cons_succ, List.set_cons_zero]
            refine WG.call rfl (v := .string tV) (fun w h => hTx w (T6.below h)) (fun w => by first | rfl | (go_simp; done) | (simp [go_sem]; done)) ?_
            simp only [Act.put, List.setIfInBounds_toArray, List.set_cons_succ, List.set_cons_zero]
            refine WG.put rfl (v := .string (oS ++ rn ++ ⟨#[61]⟩ ++ tV)) (fun w => exec_add rfl rfl rfl (by rw [ByteArray.size_append, ByteArray.size_append, s1]; omega)) ?_
            simp only [Act.put, List.setIfInBounds_toArray, List.set_cons_succ, List.set_cons_zero]
            refine WG.put rfl (v := .string (oS ++ rn ++ ⟨#[61]⟩ ++ tV ++ ⟨#[59]⟩)) (fun w => exec_add rfl rfl rfl (by rw [ByteArray.size_append, ByteArray.size_append, ByteArray.size_append, s1, s1]; omega)) ?_
            simp only [Act.put, List.setIfInBounds_toArray, List.set_cons_succ, List.set_cons_zero]
            refine WG.nil ?_
            intro w8 B8
            have L8 := LB6.below B8
            have B18 := Below.trans BB6 (B8.mono (by have := BB6.size; omega))
            have HEs : Hid ((oS ++ rn ++ ⟨#[61]⟩ ++ tV ++ ⟨#[59]⟩ : ByteArray).size = eL.length) := by
              show _ = _
              rw [← HE.out, Array.length_toList]; rfl
            generalize (oS ++ rn ++ ⟨#[61]⟩ ++ tV ++ ⟨#[59]⟩ : ByteArray) = eS at *
            clear N6 cv6 T6
            go_wp2_with (first
              | (go_at_call 30; refine (writeString_own eS L8 (by rw [HEs.out]; have := HLn.out; simp; omega) (by have := B18.size; omega)).mono ?_; rintro e w9 ⟨rfl, v9, L9, ST9⟩; have B9 := bw_below L8 ST9 (by have := B18.size; omega)))
            go_roundw
            case rel => exact ⟨k + 1, by omega, by go_num, ⟨v9, by show BW _ _ _ _ _; rw [HK.out, ← HE.out]; first | exact L9 | (rw [← List.append_assoc]; exact L9)⟩, B18.trans B9⟩
            case measure => simp [intOf]; omega
          · have hkz : (0 < (k : Int)) := by omega
            have hkzN : (0 < k) := by omega
            rw [if_neg hk0] at HK
            clear hk0
            go_wp2_with (first
              | (refine wpList_loadRf (r := (rt, rn)) rfl _ rfl rfl HN ?_)
              | (clear ts; refine wpList_allocS rfl _ rfl [.int .i64 0, .string ⟨#[]⟩] zeroRf ?_; intro w4 b4 F4 N4; have tu : True := trivial)
              | (clear tu; refine wpList_storeS rfl _ _ _ rfl rfl (rfL (rt, rn)) rfl N4 (by simp [rfL]) infoRf (rfL_one _) ?_; intro w5 U5 N5x; have N5 : IsS w5 b4 49 (rfL (rt, rn)) := N5x; have B45 : Below wr.heap.size wr w5 := U5.trans (fresh_b F4) (by rw [F4.at']; exact Nat.le_refl _); have L5 := HL.out.below B45; have hb4 : wr.heap.size ≤ b4 := (by rw [F4.at']; exact Nat.le_refl _); have B15 := Below.trans BR (B45.mono hsR))
              | (go_at_call 30; refine (writeString_own ⟨#[32]⟩ L5 (by rw [s1]; omega) (by have := B15.size; omega)).mono ?_; rintro e w6 ⟨rfl, v6, L6, ST6⟩; have B6 := bw_below L5 ST6 (by have := B15.size; omega); have N6y := bw_keep L5 ST6 N5 (by decide) (by omega)))
            have N6x := N6y
            have N6 := N6x
            have cv6 := cv w6 (B15.trans B6)
            have T6 : Tab10 w6 := HT0.out.below (Below.then B01 (B15.trans B6))
            have LB6 := L6
            have BB6 := (B15.trans B6)
            clear HN HBN HL cv N5
            refine grow_tailW 13 (by kernel_rfl) (by kernel_rfl) ?_
            simp only [List.take_succ_cons, List.take_zero, List.drop_succ_cons, List.drop_zero]
            refine WG.row rfl 49 _ rfl rfl N6 (rfL (rt, rn)) rfl _ Tryd.underlying49 rfl infoRf ?_
            simp only [Act.put, List.setIfInBounds_toArray, List.set_cons_succ, List.set_cons_zero]
            refine WG.call rfl (v := .string oS) (fun w h => hOw w (T6.below h)) (fun w => by first | rfl | (go_simp; done) | (simp [go_sem]; done)) ?_
            simp only [Act.put, List.setIfInBounds_toArray, List.set_cons_succ, List.set_cons_zero]
            refine WG.put rfl (v := .pointer (some ⟨b4, 1, none⟩)) (fun w => by first | rfl | (go_simp; done) | (simp [go_sem]; done)) ?_
            simp only [Act.put, List.setIfInBounds_toArray, List.set_cons_succ, List.set_cons_zero]
            refine WG.load1 rfl 9 _ rfl rfl N6 (v := .string rn) rfl ld9 ?_
            simp only [Act.put, List.setIfInBounds_toArray, List.set_cons_succ, List.set_cons_zero]
            refine WG.put rfl (v := .string (oS ++ rn)) (fun w => exec_add rfl rfl rfl (by omega)) ?_
            simp only [Act.put, List.setIfInBounds_toArray, List.set_cons_succ, List.set_cons_zero]
            refine WG.put rfl (v := .string (oS ++ rn ++ ⟨#[61]⟩)) (fun w => exec_add rfl rfl rfl (by rw [ByteArray.size_append, s1]; omega)) ?_
            simp only [Act.put, List.setIfInBounds_toArray, List.set_cons_succ, List.set_cons_zero]
            refine WG.put rfl (v := .int .i64 (k : Int)) (fun w => by first | rfl | (go_simp; done) | (simp [go_sem]; done)) ?_
            simp only [Act.put, List.setIfInBounds_toArray, List.set_cons_succ, List.set_cons_zero]
            refine WG.put rfl (v := .pointer (some ⟨b, 1, none⟩)) (fun w => by first | rfl | (go_simp; done) | (simp [go_sem]; done)) ?_
            simp only [Act.put, List.setIfInBounds_toArray, List.set_cons_succ, List.set_cons_zero]
            refine WG.put rfl (v := .pointer (some ⟨b, 1 + k, none⟩)) (fun w => by first | rfl | (go_simp; done) | (simp [go_sem, hk48, hk48N]; done)) ?_
            simp only [Act.put, List.setIfInBounds_toArray, List.set_cons_succ, List.set_cons_zero]
            refine WG.cell rfl 2 _ rfl rfl cv6 ld2 ?_
            simp only [Act.put, List.setIfInBounds_toArray, List.set_cons_succ, List.set_cons_zero]
            refine WG.call rfl (v := .string tV) (fun w h => hTx w (T6.below h)) (fun w => by first | rfl | (go_simp; done) | (simp [go_sem]; done)) ?_
            simp only [Act.put, List.setIfInBounds_toArray, List.set_cons_succ, List.set_cons_zero]
            refine WG.put rfl (v := .string (oS ++ rn ++ ⟨#[61]⟩ ++ tV)) (fun w => exec_add rfl rfl rfl (by rw [ByteArray.size_append, ByteArray.size_append, s1]; omega)) ?_
            simp only [Act.put, List.setIfInBounds_toArray, List.set_cons_succ, List.set_cons_zero]
            refine WG.put rfl (v := .string (oS ++ rn ++ ⟨#[61]⟩ ++ tV ++ ⟨#[59]⟩)) (fun w => exec_add rfl rfl rfl (by rw [ByteArray.size_append, ByteArray.size_append, ByteArray.size_append, s1, s1]; omega)) ?_
            simp only [Act.put, List.setIfInBounds_toArray, List.set_cons_succ, List.set_cons_zero]
            refine WG.nil ?_
            intro w8 B8
            have L8 := LB6.below B8
            have B18 := Below.trans BB6 (B8.mono (by have := BB6.size; omega))
            have HEs : Hid ((oS ++ rn ++ ⟨#[61]⟩ ++ tV ++ ⟨#[59]⟩ : ByteArray).size = eL.length) := by
              show _ = _
              rw [← HE.out, Array.length_toList]; rfl
            generalize (oS ++ rn ++ ⟨#[61]⟩ ++ tV ++ ⟨#[59]⟩ : ByteArray) = eS at *
            clear N6 cv6 T6
            go_wp2_with (first
              | (go_at_call 30; refine (writeString_own eS L8 (by rw [HEs.out]; have := HLn.out; simp; omega) (by have := B18.size; omega)).mono ?_; rintro e w9 ⟨rfl, v9, L9, ST9⟩; have B9 := bw_below L8 ST9 (by have := B18.size; omega)))
            go_roundw
            case rel => exact ⟨k + 1, by omega, by go_num, ⟨v9, by show BW _ _ _ _ _; rw [HK.out, ← HE.out]; first | exact L9 | (rw [← List.append_assoc]; exact L9)⟩, B18.trans B9⟩
            case measure => simp [intOf]; omega
        · have e : k = rs.length := by omega
          subst e
          clear hv hlen hszj hlt
          go_wp2_with (first
            | (go_at_call 32; refine (Tryd.Builder_String_any w1.heap.size b2 _ _ HL.out.lib hsR).mono ?_; rintro e w7 ⟨rfl, B7⟩))
          go_ret2
          exact ⟨congrArg Ending.returned HV.out.symm, Below.then B01 (BR.trans B7)⟩
    · have HV : Hid (txtV x rs = .tuple #[.string ⟨#[]⟩, .int .i64 4]) := by
        show _ = _
        have : txtOk x rs.length = false := by unfold txtOk; rw [hok]; simpa using hne
        unfold txtV; rw [this]; rfl
      have hneI : ((rs.length : Int) != x.n) = true := by simp; omega
      clear hS hok hck hr hsum hne
      go_enter Tryd.func21, Tryd.ntmps21
      go_wp2_with (first
        | (clear tk; refine wpList_boxS rfl _ _ rfl (encF x) rfl ?_; intro W b F I)
        | (refine wpList_loadF rfl _ rfl rfl I ?_)
        | (go_at_call 15; refine (hC _).mono ?_; rintro e w1 ⟨rfl, B1⟩; have I1 := I.grown B1; have c0 := h0 _ _ I1))
      go_ret2
      exact ⟨congrArg Ending.returned HV.out.symm, Below.then (fresh_b F) B1⟩

end Go.Proofs.YtbhgchhoeokjhabDoor
