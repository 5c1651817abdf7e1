/- PL8 -/
import Derived.Test.YtegpnicajlndlaaQbn
namespace Go.Proofs.Ytegpnicajlndlaa
open Go.RowKit M
set_option linter.unusedSimpArgs false
set_option linter.unusedVariables false
theorem flat_leN {α : Type} : ∀ (l : List (List α)) (m : Nat), (∀ x ∈ l, x.length ≤ m) → l.flatten.length ≤ l.length * m
 | [], _, _ => by simp
 | x :: l, m, h => by
  have h1 := h x (by simp)
  have h2 := flat_leN l m fun y hy => h y (List.mem_cons_of_mem _ hy)
  rw [List.flatten_cons, List.length_append, List.length_cons, Nat.add_mul]
  omega
theorem vals_48 {p : PG} {s : ST} (hv : Vld p) (h : Fits (shpOf p) s) : (s.regs.flatten ++ s.mem).length ≤ 48 := by
 obtain ⟨hI, _⟩ := inv_fits hv h
 have h1 : s.regs.flatten.length ≤ s.regs.length * 8 := flat_leN _ _ fun x hx => by
  obtain ⟨j, hj⟩ := List.mem_iff_getElem?.1 hx
  have hjl : j < p.regs.length := by rw [hv.rl, ← hI.rl]; exact (List.getElem?_eq_some_iff.1 hj).1
  have := hI.rs j _ x (List.getElem?_eq_getElem hjl) hj
  have := hv.few j _ (List.getElem?_eq_getElem hjl)
  omega
 have h2 := hI.ml
 have h3 := hI.rl
 have h4 := hv.n4
 have h5 := hv.l16
 rw [List.length_append]
 omega
theorem SOwn.updF {W W' : World} {B b : Nat} {cs : List Value} {s : ST} {v1 v2 v3 v4 v5 : Value} {vs bs : List Value} (h : SOwn W B s v1 v2 v3 v4 v5 vs bs) (I : IsS W b 80 cs) (U : Upd W W' b) : SOwn W' B s v1 v2 v3 v4 v5 vs bs :=
 ⟨own_upd h.pc I U (by decide), own_upd h.ph I U (by decide), ⟨h.rg.len, own_upd h.rg.out I U (by decide), fun j u xs hu hx => own_upd (h.rg.row j u xs hu hx) I U (by decide), h.rg.apart⟩, own_upd h.mm I U (by decide), h.am, own_upd h.bf I U (by decide), h.bl, fun j u l hu hl => own_upd (h.be j u l hu hl) I U (by decide), h.ba⟩
theorem finalOf2_any (s : ST) (hf : s.Few) (h48 : (s.regs.flatten ++ s.mem).length ≤ 48) (v1 v2 v3 v4 v5 : Value) (w : World) (hS : STV w s v1 v2 v3 v4 v5) :
    Calls Try.prog 69 #[.agg #[v1, v2, v3, v4, v5, .int .i64 s.lock]] w fun e w' => e = .returned (.agg (finL (s.regs.flatten ++ s.mem)).toArray) ∧ Below w.heap.size w w' := by
 obtain ⟨ar, cr, rfl⟩ := hS.rg.form
 obtain ⟨am, cm, rfl, _, _⟩ := id hS.mm
 exact finalOf_any s.regs s.mem v1 v2 v5 (.int .i64 s.lock) ar am _ cr _ cm _ w rfl rfl hf.rg rfl h48 hS.rg hS.mm
def endV (s : Option ST) : Value := match s with | none => .tuple #[.agg (finL []).toArray, .bool false] | some s => .tuple #[.agg (finL (s.regs.flatten ++ s.mem)).toArray, .bool true]
set_option maxRecDepth 100000 in
set_option maxHeartbeats 4000000 in
theorem mach3_any (p : PG) (hv : Vld p) (hf : p.Few) (T : ByteArray) (hT : T.size ≤ 1099511627776) (bz bp bs be bt : Nat) (w : World) (hM : MM w p bz bp bs be bt) :
    Calls Try.prog 68 #[.string T, .pointer (some ⟨bz, 0, none⟩), .pointer (some ⟨be, 0, none⟩)] w fun e w' => e = .returned (endV (endT p T)) ∧ Below w.heap.size w w' := by
 obtain ⟨a1, c1, a2, c2, Z0, SG1, SG2⟩ := hM.z.ex
 have hSt := fun W h1 h2 => stateOf2_any p hv hf T hT a1 a2 c1 c2 W h1 h2
 have hfin0 : (finL []).length = 49 := finL_len (by simp)
 cases hrd : readS T (shpOf p) with
 | none =>
  have hpk : endT p T = none := by unfold endT; rw [hrd]
  rw [hpk]
  rw [hrd] at hSt
  have hSt' := fun W h1 h2 => (hSt W h1 h2).mono fun e w' h => h.1 rfl
  clear hSt
  obtain ⟨n, hn⟩ : ∃ n, p.threads.length = n := ⟨_, rfl⟩
  obtain ⟨nl, hnl⟩ : ∃ n, p.locs.length = n := ⟨_, rfl⟩
  have HM : Hid (MM w p bz bp bs be bt) := hM
  have HZ : Hid (IsS w bz 105 [.slice a1 n c1, .slice a2 n c2, .int .i64 (nl : Int)]) := by rw [← hn, ← hnl]; exact Z0
  have HG : Hid (Seg w a1 ((natI (shpOf p).ins).flatMap intE) ∧ Seg w a2 ((natI (shpOf p).rgs).flatMap intE)) := ⟨SG1, SG2⟩
  simp only [hn, hnl] at hSt'
  clear hM hv hf hT Z0 SG1 SG2 hn hnl hrd hpk
  have tf : True := trivial
  have tz : True := trivial
  have t2 : True := trivial
  have t3 : True := trivial
  have t4 : True := trivial
  go_enter Try.func68, Try.ntmps68
  go_wp2_with (first
   | (clear tf; refine wpList_allocS rfl 80 rfl (finL []) zeroFin ?_; intro W1 b4 F1 D1; have B1 := F_b F1; have hb4 : w.heap.size ≤ b4 := Nat.le_of_eq F1.at'.symm; have hb4l := D1.lt; clear F1)
   | (clear tz; refine wpList_loadW rfl 105 _ rfl rfl (HZ.out.grown B1) _ Try.underlying105 rfl infoShp ?_)
   | (go_at_call 44; refine (hSt' _ (HG.out.1.below B1) (HG.out.2.below B1)).mono ?_; rintro e W2 ⟨rfl, B2x⟩; have D2 := D1.grown B2x; have B2 := Below.then B1 B2x)
   | (clear t2; refine wpList_allocS rfl 32 rfl zst zeroSt ?_; intro W3 b6 F3 I3; have D3 := D2.fresh F3; have B3 := F3.trans B2 B2.size; have hb6 : w.heap.size ≤ b6 := Nat.le_trans B2.size (Nat.le_of_eq F3.at'.symm); clear F3)
   | (clear t3; refine wpList_storeW rfl 32 _ _ rfl rfl zst rfl I3 rfl infoSt zst_one ?_; intro W4 U4 I4; have D4 := isS_updT D3 I3 (by decide) U4; have B4 := U4.trans B3 hb6; clear U4)
   | (clear t4; refine wpList_b0Fin rfl rfl ?_)
   | (refine wpList_storeW rfl 80 _ _ rfl rfl (finL []) rfl D4 rfl (by rw [hfin0]; exact infoFin) (finL_one _) ?_; intro W8 U8 D8; have B8 := U8.trans B4 hb4))
  exact ret_ST rfl rfl rfl D8 _ Try.underlying80 rfl (by rw [hfin0]; exact infoFin) _ rfl ⟨rfl, B8⟩
 | some s =>
  have hfit := (readS_some hrd).1
  have h48 := vals_48 hv hfit
  have hfl : (finL (s.regs.flatten ++ s.mem)).length = 49 := finL_len h48
  obtain ⟨hI, _⟩ := inv_fits hv hfit
  have hfw := few_fits hv hfit
  rw [hrd] at hSt
  have hSt' := fun W h1 h2 => (hSt W h1 h2).mono fun e w' h => h.2 s rfl
  clear hSt
  have hN3 := fun W v1 v2 v3 v4 v5 (h1 : MT W p bt) (h2 : STV W s v1 v2 v3 v4 v5) => new3_any p hv hf s hfit bt v1 v2 v3 v4 v5 W h1 h2
  have hFin := fun W v1 v2 v3 v4 v5 (h : STV W s v1 v2 v3 v4 v5) => finalOf2_any s hfw h48 v1 v2 v3 v4 v5 W h
  obtain ⟨vals, hvals⟩ : ∃ l, s.regs.flatten ++ s.mem = l := ⟨_, rfl⟩
  rw [hvals] at hfl
  simp only [hvals] at hFin
  obtain ⟨eb, heb⟩ : ∃ b, (plainB s && doneB p.threads s.pc) = b := ⟨_, rfl⟩
  simp only [heb] at hN3
  have HE : Hid ((eb = true → endV (endT p T) = .tuple #[.agg (finL vals).toArray, .bool true]) ∧ (eb = false → endV (endT p T) = .tuple #[.agg (finL []).toArray, .bool false])) := by
   refine ⟨fun h => ?_, fun h => ?_⟩
   · have : endT p T = some s := by unfold endT; rw [hrd]; simp only [heb, h, if_true]
     rw [this, ← hvals]; rfl
   · have : endT p T = none := by unfold endT; rw [hrd]; simp only [heb, h, Bool.false_eq_true, if_false]
     rw [this]; rfl
  obtain ⟨V, hV⟩ : ∃ v, endV (endT p T) = v := ⟨_, rfl⟩
  rw [hV] at HE ⊢
  obtain ⟨lk, hlk⟩ : ∃ k, s.lock = k := ⟨_, rfl⟩
  simp only [hlk] at hSt' hN3 hFin
  obtain ⟨n, hn⟩ : ∃ n, p.threads.length = n := ⟨_, rfl⟩
  obtain ⟨nl, hnl⟩ : ∃ n, p.locs.length = n := ⟨_, rfl⟩
  have HM : Hid (MM w p bz bp bs be bt) := hM
  have HZ : Hid (IsS w bz 105 [.slice a1 n c1, .slice a2 n c2, .int .i64 (nl : Int)]) := by rw [← hn, ← hnl]; exact Z0
  have HG : Hid (Seg w a1 ((natI (shpOf p).ins).flatMap intE) ∧ Seg w a2 ((natI (shpOf p).rgs).flatMap intE)) := ⟨SG1, SG2⟩
  simp only [hn, hnl] at hSt'
  clear hM hv hf hT Z0 SG1 SG2 hn hnl hrd hfit h48 hI hfw hvals heb hV hlk
  have tf : True := trivial
  have tz : True := trivial
  have t2 : True := trivial
  have t3 : True := trivial
  have t4 : True := trivial
  have t5 : True := trivial
  have t6 : True := trivial
  have t7 : True := trivial
  have t8 : True := trivial
  have t9 : True := trivial
  cases eb with
  | true =>
   have HV : Hid (V = .tuple #[.agg (finL vals).toArray, .bool true]) := HE.out.1 rfl
   clear HE
   go_enter Try.func68, Try.ntmps68
   go_wp2_with (first
    | (clear tf; refine wpList_allocS rfl 80 rfl (finL []) zeroFin ?_; intro W1 b4 F1 D1; have B1 := F_b F1; have hb4 : w.heap.size ≤ b4 := Nat.le_of_eq F1.at'.symm; have hb4l := D1.lt; clear F1)
    | (clear tz; refine wpList_loadW rfl 105 _ rfl rfl (HZ.out.grown B1) _ Try.underlying105 rfl infoShp ?_)
    | (go_at_call 44; refine (hSt' _ (HG.out.1.below B1) (HG.out.2.below B1)).mono ?_; rintro e W2 ⟨v1, v2, v3, v4, v5, vs, bs2, rfl, S2, _, B2x⟩; have hone := stv_one lk S2.stv; have D2 := D1.grown B2x; have B2 := Below.then B1 B2x)
    | (clear t2; refine wpList_allocS rfl 32 rfl zst zeroSt ?_; intro W3 b6 F3 I3; have S3 := S2.below (F_b F3); have D3 := D2.fresh F3; have B3 := F3.trans B2 B2.size; have hb6 : W1.heap.size ≤ b6 := Nat.le_trans B2x.size (Nat.le_of_eq F3.at'.symm); clear F3)
    | (clear t3; refine wpList_storeW rfl 32 _ _ rfl rfl [v1, v2, v3, v4, v5, .int .i64 lk] rfl I3 rfl infoSt hone ?_; intro W4 U4 I4; have S4 := S3.updS I3 U4; have D4 := isS_updT D3 I3 (by decide) U4; have B4 := U4.trans B3 (Nat.le_trans B1.size hb6); clear U4 I3 S3 D3)
    | (clear t4; refine wpList_loadW rfl 32 _ rfl rfl I4 _ Try.underlying32 rfl infoSt ?_)
    | (go_at_call 69; refine (hFin _ _ _ _ _ _ S4.stv).mono ?_; rintro e W5 ⟨rfl, B5x⟩; have D5 := D4.grown B5x; have S5 := S4.below B5x; have I5 := I4.grown B5x; have B5 := Below.then B4 B5x)
    | (clear t5; refine wpList_allocS rfl 80 rfl (finL []) zeroFin ?_; intro W6 b8 F6 G6; have D6 := D5.fresh F6; have S6 := S5.below (F_b F6); have I6 := I5.fresh F6; have B6 := F6.trans B5 B5.size; have hb8 : w.heap.size ≤ b8 := Nat.le_trans B5.size (Nat.le_of_eq F6.at'.symm); have n48 : b4 ≠ b8 := (by have := D5.lt; have := F6.at'; omega); clear F6)
    | (clear t6; refine wpList_storeW rfl 80 _ _ rfl rfl (finL vals) rfl G6 (by rw [hfin0, hfl]) (by rw [hfl]; exact infoFin) (finL_one _) ?_; intro W7 U7 G7; have D7 := D6.upd U7 n48; have S7 := S6.updF G6 U7; have I7 := isS_updT I6 G6 (by decide) U7; have B7 := U7.trans B6 hb8; have M7 := HM.out.below B7; clear U7 G6)
    | (clear t7; refine wpList_loadF rfl _ _ rfl rfl M7.fe (fun w h => by simp [go_sem, h]) ?_)
    | (clear t8; refine wpList_loadW rfl 32 _ rfl rfl I7 _ Try.underlying32 rfl infoSt ?_)
    | (go_at_call 56; refine (hN3 _ _ _ _ _ _ M7.t S7.stv).mono ?_; rintro e W8 ⟨rfl, B8x⟩; have D8 := D7.grown B8x; have G8 := G7.grown B8x; have B8 := Below.then B7 B8x)
    | (clear t9; refine wpList_loadW rfl 80 _ rfl rfl G8 _ Try.underlying80 rfl (by rw [hfl]; exact infoFin) ?_)
    | (refine wpList_storeW rfl 80 _ _ rfl rfl (finL vals) rfl D8 (by rw [hfin0, hfl]) (by rw [hfl]; exact infoFin) (finL_one _) ?_; intro W9 U9 D9; have B9 := U9.trans B8 hb4))
   exact ret_ST rfl rfl rfl D9 _ Try.underlying80 rfl (by rw [hfl]; exact infoFin) _ rfl ⟨congrArg Ending.returned HV.out.symm, B9⟩
  | false =>
   have HV : Hid (V = .tuple #[.agg (finL []).toArray, .bool false]) := HE.out.2 rfl
   clear HE
   go_enter Try.func68, Try.ntmps68
   go_wp2_with (first
    | (clear tf; refine wpList_allocS rfl 80 rfl (finL []) zeroFin ?_; intro W1 b4 F1 D1; have B1 := F_b F1; have hb4 : w.heap.size ≤ b4 := Nat.le_of_eq F1.at'.symm; have hb4l := D1.lt; clear F1)
    | (clear tz; refine wpList_loadW rfl 105 _ rfl rfl (HZ.out.grown B1) _ Try.underlying105 rfl infoShp ?_)
    | (go_at_call 44; refine (hSt' _ (HG.out.1.below B1) (HG.out.2.below B1)).mono ?_; rintro e W2 ⟨v1, v2, v3, v4, v5, vs, bs2, rfl, S2, _, B2x⟩; have hone := stv_one lk S2.stv; have D2 := D1.grown B2x; have B2 := Below.then B1 B2x)
    | (clear t2; refine wpList_allocS rfl 32 rfl zst zeroSt ?_; intro W3 b6 F3 I3; have S3 := S2.below (F_b F3); have D3 := D2.fresh F3; have B3 := F3.trans B2 B2.size; have hb6 : W1.heap.size ≤ b6 := Nat.le_trans B2x.size (Nat.le_of_eq F3.at'.symm); clear F3)
    | (clear t3; refine wpList_storeW rfl 32 _ _ rfl rfl [v1, v2, v3, v4, v5, .int .i64 lk] rfl I3 rfl infoSt hone ?_; intro W4 U4 I4; have S4 := S3.updS I3 U4; have D4 := isS_updT D3 I3 (by decide) U4; have B4 := U4.trans B3 (Nat.le_trans B1.size hb6); clear U4 I3 S3 D3)
    | (clear t4; refine wpList_loadW rfl 32 _ rfl rfl I4 _ Try.underlying32 rfl infoSt ?_)
    | (go_at_call 69; refine (hFin _ _ _ _ _ _ S4.stv).mono ?_; rintro e W5 ⟨rfl, B5x⟩; have D5 := D4.grown B5x; have S5 := S4.below B5x; have I5 := I4.grown B5x; have B5 := Below.then B4 B5x)
    | (clear t5; refine wpList_allocS rfl 80 rfl (finL []) zeroFin ?_; intro W6 b8 F6 G6; have D6 := D5.fresh F6; have S6 := S5.below (F_b F6); have I6 := I5.fresh F6; have B6 := F6.trans B5 B5.size; have hb8 : w.heap.size ≤ b8 := Nat.le_trans B5.size (Nat.le_of_eq F6.at'.symm); have n48 : b4 ≠ b8 := (by have := D5.lt; have := F6.at'; omega); clear F6)
    | (clear t6; refine wpList_storeW rfl 80 _ _ rfl rfl (finL vals) rfl G6 (by rw [hfin0, hfl]) (by rw [hfl]; exact infoFin) (finL_one _) ?_; intro W7 U7 G7; have D7 := D6.upd U7 n48; have S7 := S6.updF G6 U7; have I7 := isS_updT I6 G6 (by decide) U7; have B7 := U7.trans B6 hb8; have M7 := HM.out.below B7; clear U7 G6)
    | (clear t7; refine wpList_loadF rfl _ _ rfl rfl M7.fe (fun w h => by simp [go_sem, h]) ?_)
    | (clear t8; refine wpList_loadW rfl 32 _ rfl rfl I7 _ Try.underlying32 rfl infoSt ?_)
    | (go_at_call 56; refine (hN3 _ _ _ _ _ _ M7.t S7.stv).mono ?_; rintro e W8 ⟨rfl, B8x⟩; have D8 := D7.grown B8x; have G8 := G7.grown B8x; have B8 := Below.then B7 B8x)
    | (clear t9; refine wpList_b0Fin rfl rfl ?_)
    | (refine wpList_storeW rfl 80 _ _ rfl rfl (finL []) rfl D8 rfl (by rw [hfin0]; exact infoFin) (finL_one _) ?_; intro W9 U9 D9; have B9 := U9.trans B8 hb4))
   exact ret_ST rfl rfl rfl D9 _ Try.underlying80 rfl (by rw [hfin0]; exact infoFin) _ rfl ⟨congrArg Ending.returned HV.out.symm, B9⟩
def stpV (s : Option ST) : Value := match s with | none => .tuple #[.string ⟨#[]⟩, .bool false] | some s => .tuple #[.string ⟨(textS s).toArray⟩, .bool true]
set_option maxRecDepth 100000 in
set_option maxHeartbeats 4000000 in
theorem mach2_any (p : PG) (hv : Vld p) (hf : p.Few) (hpw : PWid p) (T : ByteArray) (hT : T.size ≤ 1099511627776) (k : Int × Int × Int) (bz bp bs be bt : Nat) (w : World) (hM : MM w p bz bp bs be bt) :
    Calls Try.prog 67 #[.string T, .agg (pkL k).toArray, .pointer (some ⟨bz, 0, none⟩), .pointer (some ⟨bs, 0, none⟩)] w fun e w' => e = .returned (stpV (stepT p T k)) ∧ Below w.heap.size w w' := by
 obtain ⟨a1, c1, a2, c2, Z0, SG1, SG2⟩ := hM.z.ex
 have hSt := fun W h1 h2 => stateOf2_any p hv hf T hT a1 a2 c1 c2 W h1 h2
 cases hrd : readS T (shpOf p) with
 | none =>
  have hpk : stepT p T k = none := by unfold stepT; rw [hrd]
  rw [hpk]
  rw [hrd] at hSt
  have hSt' := fun W h1 h2 => (hSt W h1 h2).mono fun e w' h => h.1 rfl
  clear hSt
  obtain ⟨n, hn⟩ : ∃ n, p.threads.length = n := ⟨_, rfl⟩
  obtain ⟨nl, hnl⟩ : ∃ n, p.locs.length = n := ⟨_, rfl⟩
  have HM : Hid (MM w p bz bp bs be bt) := hM
  have HZ : Hid (IsS w bz 105 [.slice a1 n c1, .slice a2 n c2, .int .i64 (nl : Int)]) := by rw [← hn, ← hnl]; exact Z0
  have HG : Hid (Seg w a1 ((natI (shpOf p).ins).flatMap intE) ∧ Seg w a2 ((natI (shpOf p).rgs).flatMap intE)) := ⟨SG1, SG2⟩
  simp only [hn, hnl] at hSt'
  clear hM hv hf hT Z0 SG1 SG2 hn hnl hrd hpk hpw
  have tf : True := trivial
  have tz : True := trivial
  have t2 : True := trivial
  have t3 : True := trivial
  go_enter Try.func67, Try.ntmps67
  go_wp2_with (first
   | (clear tf; refine wpList_boxS rfl 68 _ rfl (pkL k) rfl ?_; intro W1 b5 F1 K1; have B1 := F_b F1; clear F1)
   | (clear tz; refine wpList_loadW rfl 105 _ rfl rfl (HZ.out.grown B1) _ Try.underlying105 rfl infoShp ?_)
   | (go_at_call 44; refine (hSt' _ (HG.out.1.below B1) (HG.out.2.below B1)).mono ?_; rintro e W2 ⟨rfl, B2x⟩; have B2 := Below.then B1 B2x)
   | (clear t2; refine wpList_allocS rfl 32 rfl zst zeroSt ?_; intro W3 b6 F3 I3; have B3 := F3.trans B2 B2.size; have hb6 : w.heap.size ≤ b6 := Nat.le_trans B2.size (Nat.le_of_eq F3.at'.symm); clear F3)
   | (clear t3; refine wpList_storeW rfl 32 _ _ rfl rfl zst rfl I3 rfl infoSt zst_one ?_; intro W4 U4 I4; have B4 := U4.trans B3 hb6; clear U4))
  go_ret2
  exact ⟨rfl, B4⟩
 | some s =>
  have hfit := (readS_some hrd).1
  have hwid := readS_wid hrd
  have hl := shp_len hv
  rw [hrd] at hSt
  have hSt' := fun W h1 h2 => (hSt W h1 h2).mono fun e w' h => h.2 s rfl
  clear hSt
  have hsp : stepT p T k = stepK p.threads s k := by unfold stepT; rw [hrd]
  rw [hsp]
  have hN2 := fun W B v1 v2 v3 v4 v5 vs bs2 (h0 : B ≤ W.heap.size) (h1 : MTF W B p bt) (h2 : SOwn W B s v1 v2 v3 v4 v5 vs bs2) h3 => new2_any p hv hf s hfit k bt B v1 v2 v3 v4 v5 vs bs2 W h0 h1 h2 h3
  have hFit := fun (u : ST) (hu : Fits (shpOf p) u) W v1 v2 v3 v4 v5 h1 h2 (h3 : STV W u v1 v2 v3 v4 v5) => fits_any (shpOf p) u p.threads.length p.locs.length a1 a2 c1 c2 v1 v2 v3 v4 v5 W hl.1 hf.t hf.l hl.2 rfl (few_fits hv hu) h1 h2 h3
  have hTx := fun (u : ST) (hu : Fits (shpOf p) u) (hw : Wid u) W v1 v2 v3 v4 v5 (h3 : STV W u v1 v2 v3 v4 v5) => textOf_any u p.threads.length (by rw [hu.pc, hl.1]) (few_fits hv hu) hw ⟨by rw [hu.ph, hl.1], by rw [hu.rg, hl.1], by rw [hu.bf, hl.1]⟩ v1 v2 v3 v4 v5 W h3
  have hKeep := fun u (h : stepK p.threads s k = some u) => step_keeps hv hpw hf hfit hwid h
  obtain ⟨r, hr⟩ : ∃ r, stepK p.threads s k = r := ⟨_, rfl⟩
  simp only [hr] at hN2 hKeep ⊢
  obtain ⟨lk, hlk⟩ : ∃ k, s.lock = k := ⟨_, rfl⟩
  simp only [hlk] at hSt' hN2
  obtain ⟨n, hn⟩ : ∃ n, p.threads.length = n := ⟨_, rfl⟩
  obtain ⟨nl, hnl⟩ : ∃ n, p.locs.length = n := ⟨_, rfl⟩
  have HM : Hid (MM w p bz bp bs be bt) := hM
  have HZ : Hid (IsS w bz 105 [.slice a1 n c1, .slice a2 n c2, .int .i64 (nl : Int)]) := by rw [← hn, ← hnl]; exact Z0
  have HG : Hid (Seg w a1 ((natI (shpOf p).ins).flatMap intE) ∧ Seg w a2 ((natI (shpOf p).rgs).flatMap intE)) := ⟨SG1, SG2⟩
  simp only [hn, hnl] at hSt'
  simp only [hn, hnl] at hFit
  have tf : True := trivial
  have tz : True := trivial
  have t2 : True := trivial
  have t3 : True := trivial
  have t4 : True := trivial
  have t5 : True := trivial
  have t6 : True := trivial
  have t7 : True := trivial
  have t8 : True := trivial
  have t9 : True := trivial
  have ta : True := trivial
  have tb : True := trivial
  cases r with
  | none =>
   have hN2' := fun W B v1 v2 v3 v4 v5 vs bs2 h0 h1 h2 h3 => (hN2 W B v1 v2 v3 v4 v5 vs bs2 h0 h1 h2 h3).mono fun e w' h => h.1 rfl
   clear hM hv hf hT Z0 SG1 SG2 hn hnl hrd hfit hwid hl hr hlk hsp hpw hKeep hFit hTx hN2
   go_enter Try.func67, Try.ntmps67
   go_wp2_with (first
    | (clear tf; refine wpList_boxS rfl 68 _ rfl (pkL k) rfl ?_; intro W1 b5 F1 K1; have B1 := F_b F1; clear F1)
    | (clear tz; refine wpList_loadW rfl 105 _ rfl rfl (HZ.out.grown B1) _ Try.underlying105 rfl infoShp ?_)
    | (go_at_call 44; refine (hSt' _ (HG.out.1.below B1) (HG.out.2.below B1)).mono ?_; rintro e W2 ⟨v1, v2, v3, v4, v5, vs, bs2, rfl, S2, hap, B2x⟩; have hone := stv_one lk S2.stv; have MF1 := ((HM.out.t.below B1).mtf).on B2x; have K2 := K1.grown B2x)
    | (clear t2; refine wpList_allocS rfl 32 rfl zst zeroSt ?_; intro W3 b8 F3 I3; have S3 := S2.below (F_b F3); have K3 := K2.fresh F3; have B13 := F3.trans B2x B2x.size; have MF3 := MF1.on ((F_b F3).mono B2x.size); have hb8 : W1.heap.size ≤ b8 := Nat.le_trans B2x.size (Nat.le_of_eq F3.at'.symm); clear F3)
    | (clear t3; refine wpList_storeW rfl 32 _ _ rfl rfl [v1, v2, v3, v4, v5, .int .i64 lk] rfl I3 rfl infoSt hone ?_; intro W4 U4 I4; have S4 := S3.updS I3 U4; have K4 := isS_updT K3 I3 (by decide) U4; have B14 := U4.trans B13 hb8; have MF4 := MF3.on (U4.trans bR hb8); have hs4 := B14.size; have hs4x := B14.size; have M4 := HM.out.below (Below.then B1 B14); clear U4 I3 S3 K3)
    | (clear t4; refine wpList_loadF rfl _ _ rfl rfl M4.fs (fun w h => by simp [go_sem, h]) ?_)
    | (clear t5; refine wpList_loadW rfl 32 _ rfl rfl I4 _ Try.underlying32 rfl infoSt ?_)
    | (clear t6; refine wpList_loadW rfl 68 _ rfl rfl K4 _ Try.underlying68 rfl infoPk3 ?_)
    | (go_at_call 54; refine (hN2' _ W1.heap.size _ _ _ _ _ _ _ hs4 MF4 S4 hap).mono ?_; rintro e W5 ⟨rfl, B5x⟩; have B5 := B1.trans (B14.trans B5x |>.mono B1.size))
    | (clear t7; refine wpList_allocS rfl 32 rfl zst zeroSt ?_; intro W6 b10 F6 I6; have B6 := F6.trans B5 B5.size; have hb10 : w.heap.size ≤ b10 := Nat.le_trans B5.size (Nat.le_of_eq F6.at'.symm); clear F6)
    | (clear t8; refine wpList_storeW rfl 32 _ _ rfl rfl [v1, v2, v3, v4, v5, .int .i64 lk] rfl I6 rfl infoSt hone ?_; intro W7 U7 I7; have B7 := U7.trans B6 hb10; clear U7))
   go_ret2
   exact ⟨rfl, B7⟩
  | some u =>
   obtain ⟨hfu, hwu, hlu, _⟩ := hKeep u rfl
   have hN2' := fun W B v1 v2 v3 v4 v5 vs bs2 h0 h1 h2 h3 => (hN2 W B v1 v2 v3 v4 v5 vs bs2 h0 h1 h2 h3).mono fun e w' h => h.2 u rfl
   have hFit' := hFit u hfu
   have hTx' := hTx u hfu hwu
   have hfb := (fitsB_iff _ _).2 hfu
   rw [hlk] at hlu
   simp only [hlu, hfb] at hFit' hTx'
   obtain ⟨X, hX⟩ : ∃ X : ByteArray, X = ⟨(textS u).toArray⟩ := ⟨_, rfl⟩
   have HV : Hid (stpV (some u) = .tuple #[.string X, .bool true]) := by rw [hX]; rfl
   simp only [← hX] at hTx'
   obtain ⟨V, hV⟩ : ∃ v, stpV (some u) = v := ⟨_, rfl⟩
   rw [hV] at HV ⊢
   clear hM hv hf hT Z0 SG1 SG2 hn hnl hrd hfit hwid hl hr hlk hsp hpw hKeep hFit hTx hN2 hfu hwu hlu hfb hX hV
   go_enter Try.func67, Try.ntmps67
   go_wp2_with (first
    | (clear tf; refine wpList_boxS rfl 68 _ rfl (pkL k) rfl ?_; intro W1 b5 F1 K1; have B1 := F_b F1; clear F1)
    | (clear tz; refine wpList_loadW rfl 105 _ rfl rfl (HZ.out.grown B1) _ Try.underlying105 rfl infoShp ?_)
    | (go_at_call 44; refine (hSt' _ (HG.out.1.below B1) (HG.out.2.below B1)).mono ?_; rintro e W2 ⟨v1, v2, v3, v4, v5, vs, bs2, rfl, S2, hap, B2x⟩; have hone := stv_one lk S2.stv; have MF1 := ((HM.out.t.below B1).mtf).on B2x; have K2 := K1.grown B2x)
    | (clear t2; refine wpList_allocS rfl 32 rfl zst zeroSt ?_; intro W3 b8 F3 I3; have S3 := S2.below (F_b F3); have K3 := K2.fresh F3; have B13 := F3.trans B2x B2x.size; have MF3 := MF1.on ((F_b F3).mono B2x.size); have hb8 : W1.heap.size ≤ b8 := Nat.le_trans B2x.size (Nat.le_of_eq F3.at'.symm); clear F3)
    | (clear t3; refine wpList_storeW rfl 32 _ _ rfl rfl [v1, v2, v3, v4, v5, .int .i64 lk] rfl I3 rfl infoSt hone ?_; intro W4 U4 I4; have S4 := S3.updS I3 U4; have K4 := isS_updT K3 I3 (by decide) U4; have B14 := U4.trans B13 hb8; have MF4 := MF3.on (U4.trans bR hb8); have hs4 := B14.size; have hs4x := B14.size; have M4 := HM.out.below (Below.then B1 B14); clear U4 I3 S3 K3)
    | (clear t4; refine wpList_loadF rfl _ _ rfl rfl M4.fs (fun w h => by simp [go_sem, h]) ?_)
    | (clear t5; refine wpList_loadW rfl 32 _ rfl rfl I4 _ Try.underlying32 rfl infoSt ?_)
    | (clear t6; refine wpList_loadW rfl 68 _ rfl rfl K4 _ Try.underlying68 rfl infoPk3 ?_)
    | (go_at_call 54; refine (hN2' _ W1.heap.size _ _ _ _ _ _ _ hs4 MF4 S4 hap).mono ?_; rintro e W5 ⟨rfl, S5, B5x⟩; have B15 := B14.trans B5x; have B5 := B1.trans (B15.mono B1.size); have hone5 := stv_one lk S5.stv)
    | (clear t7; refine wpList_allocS rfl 32 rfl zst zeroSt ?_; intro W6 b10 F6 I6; have S6 := S5.below (F_b F6); have B16 := F6.trans B15 (Nat.le_trans hs4x B5x.size); have hb10 : W1.heap.size ≤ b10 := (by have := F6.at'; have := B15.size; omega); clear F6)
    | (clear t8; refine wpList_storeW rfl 32 _ _ rfl rfl [v1, v2, v3, v4, v5, .int .i64 lk] rfl I6 rfl infoSt hone5 ?_; intro W7 U7 I7; have S7 := S6.updS I6 U7; have B17 := U7.trans B16 hb10; have B07 : Below w.heap.size w W7 := B1.trans (B17.mono B1.size); clear U7 I6 S6)
    | (clear t9; refine wpList_loadGW rfl 105 _ rfl rfl (HZ.out.grown B07) _ Try.underlying105 rfl infoShp ?_)
    | (clear ta; refine wpList_loadGW rfl 32 _ rfl rfl I7 _ Try.underlying32 rfl infoSt ?_)
    | (go_at_call 42; refine (hFit' _ _ _ _ _ _ (HG.out.1.below B07) (HG.out.2.below B07) S7.stv).mono ?_; rintro e W8 ⟨rfl, B8x⟩; have S8 := S7.below B8x; have I8 := I7.grown B8x; have B8 := Below.then B07 B8x)
    | (clear tb; refine wpList_loadW rfl 32 _ rfl rfl I8 _ Try.underlying32 rfl infoSt ?_)
    | (go_at_call 43; refine (hTx' _ _ _ _ _ _ S8.stv).mono ?_; rintro e W9 ⟨rfl, B9x⟩; have B9 := Below.then B8 B9x))
   go_ret2
   exact ⟨congrArg Ending.returned HV.out.symm, B9⟩
end Go.Proofs.Ytegpnicajlndlaa
