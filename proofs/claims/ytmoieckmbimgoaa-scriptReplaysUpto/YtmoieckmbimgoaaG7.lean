/- What a machine by a table answers to the program and to the reference, where it may lack functions. -/
import Derived.Test.YtmoieckmbimgoaaG6
namespace Go.Proofs.Ytmoieckmbimgoaa
open Go.RowKit M
set_option linter.unusedSimpArgs false
set_option linter.unusedVariables false

/-- A step of the table. -/
def stepG (g : GR) (T : ByteArray) (k : PK) : ByteArray × Bool := match numG g T with
  | none => (⟨#[]⟩, false)
  | some n => if k.2.1 = 1 ∧ k.2.2 = 0 ∧ 0 ≤ k.1 then (match (g.to.getD n [])[k.1.toNat]? with | none => (⟨#[]⟩, false) | some q => (byteS q, decide (0 ≤ q) && decide (q < (g.to.length : Int)))) else (⟨#[]⟩, false)
theorem gstep_any (g : GR) (hf : g.Few) (T : ByteArray) (hT : T.size ≤ 1099511627776) (bn bg : Nat) (k : PK) (w : World) (hM : MG w g bn bg) :
    Calls Try.prog 22 #[.string T, .agg (pkL k).toArray, .pointer (some ⟨bn, 0, none⟩), .pointer (some ⟨bg, 0, none⟩)] w fun e w' => e = .returned (.tuple #[.string (stepG g T k).1, .bool (stepG g T k).2]) ∧ Below w.heap.size w w' := by
  obtain ⟨k0, k1, k2⟩ := k
  cases hn : numG g T with
  | none =>
    have e : stepG g T (k0, k1, k2) = (⟨#[]⟩, false) := by unfold stepG; rw [hn]
    rw [e]; exact step_0 g hf T hT bn bg k0 k1 k2 hn w hM
  | some n =>
    by_cases h1 : k1 = 1
    · by_cases h2 : k2 = 0
      · by_cases h3 : k0 < 0
        · have e : stepG g T (k0, k1, k2) = (⟨#[]⟩, false) := by unfold stepG; rw [hn]; exact if_neg (fun h => by have := h.2.2; simp only at this; omega)
          rw [e]; exact step_3 g hf T hT bn bg k0 k1 k2 n _ _ hn rfl rfl h1 h2 h3 w hM
        · obtain ⟨j, rfl⟩ : ∃ j : Nat, k0 = (j : Int) := ⟨k0.toNat, by omega⟩
          by_cases h4 : j < (g.to.getD n []).length
          · obtain ⟨q, hq⟩ : ∃ q, (g.to.getD n [])[j]? = some q := ⟨_, List.getElem?_eq_getElem h4⟩
            have e : stepG g T ((j : Int), k1, k2) = (byteS q, decide (0 ≤ q) && decide (q < (g.to.length : Int))) := by
              unfold stepG; rw [hn]; simp only [h1, h2, Int.toNat_natCast, hq]; exact if_pos ⟨trivial, trivial, by omega⟩
            rw [e]; exact step_5 g hf T hT bn bg _ k1 k2 n _ _ hn rfl rfl h1 h2 j rfl h4 q hq w hM
          · have hq : (g.to.getD n [])[j]? = none := List.getElem?_eq_none (by omega)
            have e : stepG g T ((j : Int), k1, k2) = (⟨#[]⟩, false) := by unfold stepG; rw [hn]; simp only [Int.toNat_natCast, hq]; exact ite_self _
            rw [e]; exact step_4 g hf T hT bn bg _ k1 k2 n _ _ hn rfl rfl h1 h2 h3 (by omega) w hM
      · have e : stepG g T (k0, k1, k2) = (⟨#[]⟩, false) := by unfold stepG; rw [hn]; exact if_neg (fun h => h2 h.2.1)
        rw [e]; exact step_2 g hf T hT bn bg k0 k1 k2 n _ _ hn rfl rfl h1 h2 w hM
    · have e : stepG g T (k0, k1, k2) = (⟨#[]⟩, false) := by unfold stepG; rw [hn]; exact if_neg (fun h => h1 h.1)
      rw [e]; exact step_1 g hf T hT bn bg k0 k1 k2 n _ _ hn rfl rfl h1 w hM
theorem stepG_size (g : GR) (T : ByteArray) (k : PK) : (stepG g T k).1.size ≤ 1 := by
  unfold stepG
  split
  · decide
  · split
    · split
      · decide
      · exact Nat.le_refl 1
    · decide
/-- The same, of a machine that may lack functions. -/
def stepM (g : GR) (T : ByteArray) (k : PK) : ByteArray × Bool := if holB g 2 then stepG g T k else (⟨#[]⟩, false)
def endM (g : GR) (T : ByteArray) : List Int := if holB g 4 then endG g T else []
def picksM (g : GR) (T : ByteArray) : List PK := if holB g 1 then picksG g T else []
theorem stepM_size (g : GR) (T : ByteArray) (k : PK) : (stepM g T k).1.size ≤ 1 := by
  unfold stepM; split
  · exact stepG_size g T k
  · decide
theorem endM_len (g : GR) (T : ByteArray) : (endM g T).length ≤ 48 := by
  unfold endM; split
  · exact endG_len g T
  · simp
set_option maxRecDepth 100000 in
set_option maxHeartbeats 4000000 in
theorem sstep_any (g : GR) (hf : g.Few) (T : ByteArray) (hT : T.size ≤ 1099511627776) (bn bg : Nat) (k : PK) (S : ByteArray) (v1 v3 : Value) (w : World) (hM : MG w g bn bg) :
    Calls Try.prog 24 #[.agg [.string S, v1, fnV 22 bn bg (holB g 2), v3].toArray, .string T, .agg (pkL k).toArray] w fun e w' => e = .returned (.tuple #[.string (stepM g T k).1, .bool (stepM g T k).2]) ∧ Below w.heap.size w w' := by
  have HM : Hid (MG w g bn bg) := hM
  cases h2 : holB g 2 with
  | false =>
    have e : stepM g T k = (⟨#[]⟩, false) := by unfold stepM; rw [h2]; rfl
    rw [e]
    have e2 := fun w => eql_nil w 29 _ _ _ Try.underlying29
    clear hM hf hT e h2
    have t1 : True := trivial
    have t2 : True := trivial
    go_enter Try.func24, Try.ntmps24
    go_wp2_with (first
      | (clear t1; refine wpList_boxS rfl 32 _ rfl [.string S, v1, .nilFunc, v3] rfl ?_; intro W1 b1 F1 C1; have B1 := F_b F1; clear F1)
      | (clear t2; refine wpList_boxS rfl 35 _ rfl (pkL k) rfl ?_; intro W2 b2 F2 K2; have C2 := C1.fresh F2; have B2 := Below.then B1 (F_b F2); obtain ⟨y0, y1, y2, y3⟩ := five4 C2; clear F2 C1))
    go_ret2
    exact ⟨rfl, B2⟩
  | true =>
    have e : stepM g T k = stepG g T k := by unfold stepM; rw [h2]; rfl
    rw [e]
    have hC := fun W (h : MG W g bn bg) => gstep_any g hf T hT bn bg k W h
    obtain ⟨R, hR⟩ : ∃ R, stepG g T k = R := ⟨_, rfl⟩
    rw [hR] at hC ⊢
    obtain ⟨r1, r2⟩ := R
    have e2 := fun w => eql_fn w 29 _ _ _ (.func 22) #[.pointer (some ⟨bn, 0, none⟩), .pointer (some ⟨bg, 0, none⟩)] Try.underlying29
    clear hM hf hT e h2 hR
    have t1 : True := trivial
    have t2 : True := trivial
    have t3 : True := trivial
    go_enter Try.func24, Try.ntmps24
    go_wp2_with (first
      | (clear t1; refine wpList_boxS rfl 32 _ rfl [.string S, v1, .func (.func 22) #[] #[.pointer (some ⟨bn, 0, none⟩), .pointer (some ⟨bg, 0, none⟩)], v3] rfl ?_; intro W1 b1 F1 C1; have B1 := F_b F1; clear F1)
      | (clear t2; refine wpList_boxS rfl 35 _ rfl (pkL k) rfl ?_; intro W2 b2 F2 K2; have C2 := C1.fresh F2; have B2 := Below.then B1 (F_b F2); obtain ⟨y0, y1, y2, y3⟩ := five4 C2; clear F2 C1)
      | (clear t3; refine wpList_loadW rfl 35 _ rfl rfl K2 _ Try.underlying35 rfl infoPk ?_)
      | (go_at_call 22; refine (hC _ (HM.out.below B2)).mono ?_; rintro e W3 ⟨rfl, B3⟩))
    go_ret2
    exact ⟨rfl, Below.then B2 B3⟩
set_option maxRecDepth 100000 in
set_option maxHeartbeats 4000000 in
theorem rstep_any (g : GR) (hf : g.Few) (T : ByteArray) (hT : T.size ≤ 1099511627776) (bn bg : Nat) (k : PK) (S : ByteArray) (v1 v3 : Value) (w : World) (hM : MG w g bn bg) :
    Calls Try.prog 25 #[.agg [.string S, v1, fnV 22 bn bg (holB g 2), v3].toArray, .string T, .agg (pkL k).toArray] w fun e w' => e = .returned (.tuple #[.string (stepM g T k).1, .bool (stepM g T k).2]) ∧ Below w.heap.size w w' := by
  have HM : Hid (MG w g bn bg) := hM
  cases h2 : holB g 2 with
  | false =>
    have e : stepM g T k = (⟨#[]⟩, false) := by unfold stepM; rw [h2]; rfl
    rw [e]
    have e2 := fun w => eql_nil w 29 _ _ _ Try.underlying29
    clear hM hf hT e h2
    have t1 : True := trivial
    have t2 : True := trivial
    go_enter Try.func25, Try.ntmps25
    go_wp2_with (first
      | (clear t1; refine wpList_boxS rfl 32 _ rfl [.string S, v1, .nilFunc, v3] rfl ?_; intro W1 b1 F1 C1; have B1 := F_b F1; clear F1)
      | (clear t2; refine wpList_boxS rfl 35 _ rfl (pkL k) rfl ?_; intro W2 b2 F2 K2; have C2 := C1.fresh F2; have B2 := Below.then B1 (F_b F2); obtain ⟨y0, y1, y2, y3⟩ := five4 C2; clear F2 C1))
    go_ret2
    exact ⟨rfl, B2⟩
  | true =>
    have e : stepM g T k = stepG g T k := by unfold stepM; rw [h2]; rfl
    rw [e]
    have hC := fun W (h : MG W g bn bg) => gstep_any g hf T hT bn bg k W h
    obtain ⟨R, hR⟩ : ∃ R, stepG g T k = R := ⟨_, rfl⟩
    rw [hR] at hC ⊢
    obtain ⟨r1, r2⟩ := R
    have e2 := fun w => eql_fn w 29 _ _ _ (.func 22) #[.pointer (some ⟨bn, 0, none⟩), .pointer (some ⟨bg, 0, none⟩)] Try.underlying29
    clear hM hf hT e h2 hR
    have t1 : True := trivial
    have t2 : True := trivial
    have t3 : True := trivial
    go_enter Try.func25, Try.ntmps25
    go_wp2_with (first
      | (clear t1; refine wpList_boxS rfl 32 _ rfl [.string S, v1, .func (.func 22) #[] #[.pointer (some ⟨bn, 0, none⟩), .pointer (some ⟨bg, 0, none⟩)], v3] rfl ?_; intro W1 b1 F1 C1; have B1 := F_b F1; clear F1)
      | (clear t2; refine wpList_boxS rfl 35 _ rfl (pkL k) rfl ?_; intro W2 b2 F2 K2; have C2 := C1.fresh F2; have B2 := Below.then B1 (F_b F2); obtain ⟨y0, y1, y2, y3⟩ := five4 C2; clear F2 C1)
      | (clear t3; refine wpList_loadW rfl 35 _ rfl rfl K2 _ Try.underlying35 rfl infoPk ?_)
      | (go_at_call 22; refine (hC _ (HM.out.below B2)).mono ?_; rintro e W3 ⟨rfl, B3⟩))
    go_ret2
    exact ⟨rfl, Below.then B2 B3⟩
set_option maxRecDepth 100000 in
set_option maxHeartbeats 4000000 in
theorem send_any (g : GR) (hf : g.Few) (T : ByteArray) (hT : T.size ≤ 1099511627776) (bn bg : Nat) (S : ByteArray) (v1 v2 : Value) (w : World) (hM : MG w g bn bg) :
    Calls Try.prog 26 #[.agg [.string S, v1, v2, fnV 23 bn bg (holB g 4)].toArray, .string T] w fun e w' => e = .returned (.tuple #[.agg (finL (endM g T)).toArray, .bool (isEnd (endM g T))]) ∧ Below w.heap.size w w' := by
  have HM : Hid (MG w g bn bg) := hM
  cases h2 : holB g 4 with
  | false =>
    have e : endM g T = [] := by unfold endM; rw [h2]; rfl
    rw [e]
    have ee : isEnd [] = false := rfl
    rw [ee]
    have e2 := fun w => eql_nil w 30 _ _ _ Try.underlying30
    clear hM hf hT e h2 ee
    have t1 : True := trivial
    have t2 : True := trivial
    have t3 : True := trivial
    have t4 : True := trivial
    go_enter Try.func26, Try.ntmps26
    go_wp2_with (first
      | (clear t1; refine wpList_boxS rfl 32 _ rfl [.string S, v1, v2, .nilFunc] rfl ?_; intro W1 b1 F1 C1; have B1 := F_b F1; clear F1)
      | (clear t2; refine wpList_allocS rfl 42 rfl (finL []) zeroFin ?_; intro W2 b2 F2 K2; have C2 := C1.fresh F2; have hb2 : w.heap.size ≤ b2 := Nat.le_trans B1.size (Nat.le_of_eq F2.at'.symm); have B2 := Below.then B1 (F_b F2); obtain ⟨y0, y1, y2, y3⟩ := five4 C2; clear F2 C1)
      | (clear t3; refine wpList_b0Fin rfl rfl ?_)
      | (clear t4; refine wpList_storeW rfl 42 _ _ rfl rfl (finL []) rfl K2 (len_fin _ (by simp)) (info_fin _ (by simp)) (finL_one _) ?_; intro W4 U4 K4; have B4 := U4.trans B2 hb2; clear K2 U4))
    exact ret_ST rfl rfl rfl K4 _ Try.underlying42 rfl (info_fin _ (by simp)) _ rfl ⟨rfl, B4⟩
  | true =>
    have e : endM g T = endG g T := by unfold endM; rw [h2]; rfl
    rw [e]
    have hC := fun W (h : MG W g bn bg) => end_any g hf T hT bn bg W h
    obtain ⟨R, hR⟩ : ∃ R, endG g T = R := ⟨_, rfl⟩
    have HL : Hid (R.length ≤ 48) := by rw [← hR]; exact endG_len g T
    rw [hR] at hC ⊢
    obtain ⟨ie, hie⟩ : ∃ i, isEnd R = i := ⟨_, rfl⟩
    rw [hie] at hC ⊢
    have e2 := fun w => eql_fn w 30 _ _ _ (.func 23) #[.pointer (some ⟨bn, 0, none⟩), .pointer (some ⟨bg, 0, none⟩)] Try.underlying30
    clear hM hf hT e h2 hR hie
    have t1 : True := trivial
    have t2 : True := trivial
    have t4 : True := trivial
    go_enter Try.func26, Try.ntmps26
    go_wp2_with (first
      | (clear t1; refine wpList_boxS rfl 32 _ rfl [.string S, v1, v2, .func (.func 23) #[] #[.pointer (some ⟨bn, 0, none⟩), .pointer (some ⟨bg, 0, none⟩)]] rfl ?_; intro W1 b1 F1 C1; have B1 := F_b F1; clear F1)
      | (clear t2; refine wpList_allocS rfl 42 rfl (finL []) zeroFin ?_; intro W2 b2 F2 K2; have C2 := C1.fresh F2; have hb2 : w.heap.size ≤ b2 := Nat.le_trans B1.size (Nat.le_of_eq F2.at'.symm); have B2 := Below.then B1 (F_b F2); obtain ⟨y0, y1, y2, y3⟩ := five4 C2; clear F2 C1)
      | (go_at_call 23; refine (hC _ (HM.out.below B2)).mono ?_; rintro e W3 ⟨rfl, B3⟩; have K3 := K2.grown B3; have B5 := Below.then B2 B3)
      | (clear t4; refine wpList_storeW rfl 42 _ _ rfl rfl (finL R) rfl K3 (len_fin _ HL.out) (info_fin _ HL.out) (finL_one _) ?_; intro W4 U4 K4; have B4 := U4.trans B5 hb2; clear K3 U4))
    exact ret_ST rfl rfl rfl K4 _ Try.underlying42 rfl (info_fin _ HL.out) _ rfl ⟨rfl, B4⟩
set_option maxRecDepth 100000 in
set_option maxHeartbeats 4000000 in
theorem rend_any (g : GR) (hf : g.Few) (T : ByteArray) (hT : T.size ≤ 1099511627776) (bn bg : Nat) (S : ByteArray) (v1 v2 : Value) (w : World) (hM : MG w g bn bg) :
    Calls Try.prog 27 #[.agg [.string S, v1, v2, fnV 23 bn bg (holB g 4)].toArray, .string T] w fun e w' => e = .returned (.tuple #[.agg (finL (endM g T)).toArray, .bool (isEnd (endM g T))]) ∧ Below w.heap.size w w' := by
  have HM : Hid (MG w g bn bg) := hM
  cases h2 : holB g 4 with
  | false =>
    have e : endM g T = [] := by unfold endM; rw [h2]; rfl
    rw [e]
    have ee : isEnd [] = false := rfl
    rw [ee]
    have e2 := fun w => eql_nil w 30 _ _ _ Try.underlying30
    clear hM hf hT e h2 ee
    have t1 : True := trivial
    have t2 : True := trivial
    have t3 : True := trivial
    have t4 : True := trivial
    go_enter Try.func27, Try.ntmps27
    go_wp2_with (first
      | (clear t1; refine wpList_boxS rfl 32 _ rfl [.string S, v1, v2, .nilFunc] rfl ?_; intro W1 b1 F1 C1; have B1 := F_b F1; clear F1)
      | (clear t2; refine wpList_allocS rfl 42 rfl (finL []) zeroFin ?_; intro W2 b2 F2 K2; have C2 := C1.fresh F2; have hb2 : w.heap.size ≤ b2 := Nat.le_trans B1.size (Nat.le_of_eq F2.at'.symm); have B2 := Below.then B1 (F_b F2); obtain ⟨y0, y1, y2, y3⟩ := five4 C2; clear F2 C1)
      | (clear t3; refine wpList_b0Fin rfl rfl ?_)
      | (clear t4; refine wpList_storeW rfl 42 _ _ rfl rfl (finL []) rfl K2 (len_fin _ (by simp)) (info_fin _ (by simp)) (finL_one _) ?_; intro W4 U4 K4; have B4 := U4.trans B2 hb2; clear K2 U4))
    exact ret_ST rfl rfl rfl K4 _ Try.underlying42 rfl (info_fin _ (by simp)) _ rfl ⟨rfl, B4⟩
  | true =>
    have e : endM g T = endG g T := by unfold endM; rw [h2]; rfl
    rw [e]
    have hC := fun W (h : MG W g bn bg) => end_any g hf T hT bn bg W h
    obtain ⟨R, hR⟩ : ∃ R, endG g T = R := ⟨_, rfl⟩
    have HL : Hid (R.length ≤ 48) := by rw [← hR]; exact endG_len g T
    rw [hR] at hC ⊢
    obtain ⟨ie, hie⟩ : ∃ i, isEnd R = i := ⟨_, rfl⟩
    rw [hie] at hC ⊢
    have e2 := fun w => eql_fn w 30 _ _ _ (.func 23) #[.pointer (some ⟨bn, 0, none⟩), .pointer (some ⟨bg, 0, none⟩)] Try.underlying30
    clear hM hf hT e h2 hR hie
    have t1 : True := trivial
    have t2 : True := trivial
    have t4 : True := trivial
    go_enter Try.func27, Try.ntmps27
    go_wp2_with (first
      | (clear t1; refine wpList_boxS rfl 32 _ rfl [.string S, v1, v2, .func (.func 23) #[] #[.pointer (some ⟨bn, 0, none⟩), .pointer (some ⟨bg, 0, none⟩)]] rfl ?_; intro W1 b1 F1 C1; have B1 := F_b F1; clear F1)
      | (clear t2; refine wpList_allocS rfl 42 rfl (finL []) zeroFin ?_; intro W2 b2 F2 K2; have C2 := C1.fresh F2; have hb2 : w.heap.size ≤ b2 := Nat.le_trans B1.size (Nat.le_of_eq F2.at'.symm); have B2 := Below.then B1 (F_b F2); obtain ⟨y0, y1, y2, y3⟩ := five4 C2; clear F2 C1)
      | (go_at_call 23; refine (hC _ (HM.out.below B2)).mono ?_; rintro e W3 ⟨rfl, B3⟩; have K3 := K2.grown B3; have B5 := Below.then B2 B3)
      | (clear t4; refine wpList_storeW rfl 42 _ _ rfl rfl (finL R) rfl K3 (len_fin _ HL.out) (info_fin _ HL.out) (finL_one _) ?_; intro W4 U4 K4; have B4 := U4.trans B5 hb2; clear K3 U4))
    exact ret_ST rfl rfl rfl K4 _ Try.underlying42 rfl (info_fin _ HL.out) _ rfl ⟨rfl, B4⟩
end Go.Proofs.Ytmoieckmbimgoaa
