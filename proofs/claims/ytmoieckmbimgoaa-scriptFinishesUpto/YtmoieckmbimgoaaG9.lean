/- Finish, of both. -/
import Derived.Test.YtmoieckmbimgoaaG8
namespace Go.Proofs.Ytmoieckmbimgoaa
open Go.RowKit M
set_option linter.unusedSimpArgs false
set_option linter.unusedVariables false

/-- How a machine goes on from a state, so many picks at most. -/
def finM (g : GR) : Nat → ByteArray → List PK × ByteArray
  | 0, s => ([], s)
  | n + 1, s => if isEnd (endM g s) then ([], s) else match picksM g s with
    | [] => ([], s)
    | k :: _ => if (stepM g s k).2 then (k :: (finM g n (stepM g s k).1).1, (finM g n (stepM g s k).1).2) else ([], s)
theorem fin_end {g : GR} {n : Nat} {s : ByteArray} (h : isEnd (endM g s) = true) : finM g n s = ([], s) := by
  cases n with
  | zero => rfl
  | succ n => show (if isEnd (endM g s) then _ else _) = _; rw [h]; rfl
theorem fin_none {g : GR} {n : Nat} {s : ByteArray} (h : picksM g s = []) : finM g n s = ([], s) := by
  cases n with
  | zero => rfl
  | succ n => unfold finM; rw [h]; exact ite_self _
theorem fin_stuck {g : GR} {n : Nat} {s : ByteArray} {k : PK} {ks : List PK} (h : picksM g s = k :: ks) (hs : (stepM g s k).2 = false) : finM g n s = ([], s) := by
  cases n with
  | zero => rfl
  | succ n => unfold finM; rw [h]; simp only [hs]; exact ite_self _
theorem fin_on {g : GR} {n : Nat} {s : ByteArray} {k : PK} {ks : List PK} (he : isEnd (endM g s) = false) (h : picksM g s = k :: ks) (hs : (stepM g s k).2 = true) : finM g (n + 1) s = (k :: (finM g n (stepM g s k).1).1, (finM g n (stepM g s k).1).2) := by
  show (if isEnd (endM g s) then _ else _) = _
  rw [he, h]
  simp only [hs]
  rfl
/-- So far. -/
def FinTo (g : GR) (M : Nat) (s0 : ByteArray) (d : List PK) (s : ByteArray) : Prop := finM g M s0 = (d ++ (finM g (M - d.length) s).1, (finM g (M - d.length) s).2)
theorem FinTo.done {g : GR} {M : Nat} {s0 : ByteArray} {d : List PK} {s : ByteArray} (h : FinTo g M s0 d s) (hf : finM g (M - d.length) s = ([], s)) : finM g M s0 = (d, s) := by
  unfold FinTo at h; rw [h, hf]; simp
theorem FinTo.on {g : GR} {M : Nat} {s0 : ByteArray} {d : List PK} {s : ByteArray} {k : PK} {ks : List PK} (h : FinTo g M s0 d s) (hd : d.length < M) (he : isEnd (endM g s) = false) (hp : picksM g s = k :: ks) (hs : (stepM g s k).2 = true) : FinTo g M s0 (d ++ [k]) (stepM g s k).1 := by
  unfold FinTo at h ⊢
  rw [h, show M - d.length = (M - (d ++ [k]).length) + 1 by rw [List.length_append, List.length_singleton]; omega, fin_on he hp hs]
  simp
theorem gb_below1 {w W W' : World} {t b : Nat} {cs : List Value} (h : IsS W b t cs) (hB : Below W.heap.size W W') : IsS W' b t cs := h.grown hB
/-- What Finish answers. -/
def FinA (w : World) (r : List PK × ByteArray) (e : Ending) (w' : World) : Prop := ∃ v, e = .returned (.tuple #[v, .string r.2]) ∧ w'.ownsRow w.heap.size 35 3 v r.1.length (r.1.flatMap pkL) ∧ Below w.heap.size w w'
theorem FinA.mk {w : World} {r : List PK × ByteArray} {v : Value} {w' : World} {d : List PK} {s : ByteArray} (h : r = (d, s)) (ho : w'.ownsRow w.heap.size 35 3 v d.length (d.flatMap pkL)) (hB : Below w.heap.size w w') : FinA w r (.returned (.tuple #[v, .string s])) w' := by
  rw [h]; exact ⟨v, rfl, ho, hB⟩
theorem own_updT {W W' : World} {B t t' s n b : Nat} {v : Value} {xs cs : List Value} (h : W.ownsRow B t s v n xs) (I : IsS W b t' cs) (U : Upd W W' b) (hne : t ≠ t') : W'.ownsRow B t s v n xs := by
  refine ⟨h.1, ?_⟩
  rcases h.2 with hn | ⟨g, cap, cur, rfl, hg, hh, rest⟩
  · exact Or.inl hn
  · refine Or.inr ⟨g, cap, cur, rfl, hg, (U.block g (fun e => ?_)).trans hh, rest⟩
    subst e
    have I' : W.heap[g]? = some (.cells cs.toArray t' (0, 0)) := I
    rw [hh] at I'
    simp at I'
    exact hne I'.2
def lenV : Value → Nat | .slice _ n _ => n | _ => 0
set_option maxRecDepth 100000 in
set_option maxHeartbeats 8000000 in
theorem sfinish_any (g : GR) (hf : g.Few) (T : ByteArray) (hT : T.size ≤ 1099511627776) (most : Int) (hmost : most ≤ 3000) (bn bg : Nat) (S : ByteArray) (w : World) (hM : MG w g bn bg) :
    Calls Try.prog 18 #[.agg (mcL S g bn bg).toArray, .string T, .int .i64 most] w fun e w' => FinA w (finM g most.toNat T) e w' := by
  have hE := fun W s (hs : s.size ≤ 1099511627776) (h : MG W g bn bg) => send_any g hf s hs bn bg S (fnV 21 bn bg (holB g 1)) (fnV 22 bn bg (holB g 2)) W h
  have hF := fun W s (hs : s.size ≤ 1099511627776) (h : MG W g bn bg) => first_any g hf s hs bn bg S (fnV 22 bn bg (holB g 2)) (fnV 23 bn bg (holB g 4)) W h
  have hS := fun W s k (hs : s.size ≤ 1099511627776) (h : MG W g bn bg) => sstep_any g hf s hs bn bg k S (fnV 21 bn bg (holB g 1)) (fnV 23 bn bg (holB g 4)) W h
  have HMC : Hid (mcL S g bn bg = [.string S, fnV 21 bn bg (holB g 1), fnV 22 bn bg (holB g 2), fnV 23 bn bg (holB g 4)]) := rfl
  have hml : (mcL S g bn bg).length = 4 := rfl
  rw [← HMC.out] at hE hF hS
  generalize mcL S g bn bg = mc at hE hF hS hml ⊢
  clear HMC
  have HMl : Hid (mc.length = 4) := hml
  have HM : Hid (MG w g bn bg) := hM
  have HT : Hid (T.size ≤ 1099511627776) := hT
  obtain ⟨A, hA⟩ : ∃ A, FinA w (finM g most.toNat T) = A := ⟨_, rfl⟩
  have HA : Hid (∀ v w' d s, finM g most.toNat T = (d, s) → w'.ownsRow w.heap.size 35 3 v d.length (d.flatMap pkL) → Below w.heap.size w w' → A (.returned (.tuple #[v, .string s])) w') := by rw [← hA]; exact fun v w' d s h1 h2 h3 => FinA.mk h1 h2 h3
  rw [hA]
  clear hA hM hf hT hml
  have t1 : True := trivial
  go_enter Try.func18, Try.ntmps18
  go_wp2_with (first
    | (clear t1; refine wpList_boxS rfl 32 _ rfl mc rfl ?_; intro W1 b1 F1 C1; have B1 := F_b F1; clear F1))
  have HC1 : Hid (IsS W1 b1 32 mc) := C1
  have HB1 : Hid (Below w.heap.size w W1) := B1
  clear C1 B1
  go_loopw [1, 8] (fun sv v wr => ∃ (d : List PK) (s : ByteArray) (n : Nat), n = d.length ∧ sv = .string s ∧ (∃ av cv, v = .slice av n cv) ∧ Hid (s.size ≤ 1099511627776) ∧ Hid (n ≤ most.toNat) ∧ Hid (FinTo g most.toNat T d s) ∧ Hid (wr.ownsRow W1.heap.size 35 3 v n (d.flatMap pkL)) ∧ Hid (Below W1.heap.size W1 wr)) (fun _ v _ => most.toNat - lenV v)
  case atStart => exact ⟨[], T, 0, rfl, rfl, ⟨_, _, rfl⟩, HT, Nat.zero_le _, (by show finM _ _ _ = _; simp), own_nil _ _ _ _, Below.refl _ _⟩
  case round =>
    obtain ⟨d, s, n, hn, rfl, ⟨av, cv, rfl⟩, HS, HN, HF, HO, HB⟩ := hrel
    have HNl : Hid (n = d.length) := hn
    clear hn
    have HBB : Hid (Below w.heap.size w wr) := Below.then HB1.out HB.out
    have CC := HC1.out.grown HB.out
    by_cases hlt : (n : Int) < most
    · have hn3 : n ≤ 3000 := by omega
      have hE' := fun W (h : MG W g bn bg) => hE W s HS.out h
      have hF' := fun W (h : MG W g bn bg) => hF W s HS.out h
      have HEL : Hid ((endM g s).length ≤ 48) := endM_len g s
      cases he : isEnd (endM g s) with
      | true =>
        have HZ : Hid (finM g most.toNat T = (d, s)) := HF.out.done (fin_end he)
        rw [he] at hE'
        clear he
        have t2 : True := trivial
        have t3 : True := trivial
        have t4 : True := trivial
        have t5 : True := trivial
        have t6 : True := trivial
        have t7 : True := trivial
        have t8 : True := trivial
        have t9 : True := trivial
        have t10 : True := trivial
        have t11 : True := trivial
        have t12 : True := trivial
        go_wp2_with (first
          | (clear t2; refine wpList_loadW rfl 32 _ rfl rfl CC _ Try.underlying32 rfl (by rw [HMl.out]; exact infoMc) ?_)
          | (go_at_call 26; refine (hE' _ (HM.out.below HBB.out)).mono ?_; rintro e W2 ⟨rfl, B2⟩; have O2 := own_below HO.out B2; have V2 := Below.then HBB.out B2; have R2 := Below.then HB.out B2; clear B2)
          | (clear t3; refine wpList_allocS rfl 42 rfl (finL []) zeroFin ?_; intro W3 b3 F3 K3; have O3 := own_below O2 (F_b F3); have V3 := Below.then V2 (F_b F3); have R3 := Below.then R2 (F_b F3); have hb3 : w.heap.size ≤ b3 := Nat.le_trans V2.size (Nat.le_of_eq F3.at'.symm); have hc3 : W1.heap.size ≤ b3 := Nat.le_trans R2.size (Nat.le_of_eq F3.at'.symm); clear F3 O2 V2 R2)
          | (clear t4; refine wpList_storeW rfl 42 _ _ rfl rfl (finL (endM g s)) rfl K3 (len_fin _ HEL.out) (info_fin _ HEL.out) (finL_one _) ?_; intro W4 U4 K4; have O4 := own_updT O3 K3 U4 (by decide); have V4 := U4.trans V3 hb3; have R4 := U4.trans R3 hc3; clear K3 U4 O3 V3 R3))
        exact HA.out _ _ d s HZ.out (by rw [← HNl.out]; exact own_raise O4 HB1.out.size) V4
      | false =>
        rw [he] at hE'
        cases hp : picksM g s with
        | nil =>
          have HZ : Hid (finM g most.toNat T = (d, s)) := HF.out.done (fin_none hp)
          rw [hp] at hF'
          replace hF' : ∀ W, MG W g bn bg → Calls Try.prog 29 #[.agg mc.toArray, .string s] W fun e w' => e = .returned (.tuple #[.agg (pkL pk0).toArray, .bool false]) ∧ Below W.heap.size W w' := hF'
          clear he hp
          have t2 : True := trivial
          have t3 : True := trivial
          have t4 : True := trivial
          have t5 : True := trivial
          have t6 : True := trivial
          have t7 : True := trivial
          have t8 : True := trivial
          have t9 : True := trivial
          have t10 : True := trivial
          have t11 : True := trivial
          have t12 : True := trivial
          go_wp2_with (first
            | (clear t2; refine wpList_loadW rfl 32 _ rfl rfl CC _ Try.underlying32 rfl (by rw [HMl.out]; exact infoMc) ?_)
            | (go_at_call 26; refine (hE' _ (HM.out.below HBB.out)).mono ?_; rintro e W2 ⟨rfl, B2⟩; have O2 := own_below HO.out B2; have V2 := Below.then HBB.out B2; have R2 := Below.then HB.out B2; clear B2)
            | (clear t3; refine wpList_allocS rfl 42 rfl (finL []) zeroFin ?_; intro W3 b3 F3 K3; have O3 := own_below O2 (F_b F3); have V3 := Below.then V2 (F_b F3); have R3 := Below.then R2 (F_b F3); have hb3 : w.heap.size ≤ b3 := Nat.le_trans V2.size (Nat.le_of_eq F3.at'.symm); have hc3 : W1.heap.size ≤ b3 := Nat.le_trans R2.size (Nat.le_of_eq F3.at'.symm); clear F3 O2 V2 R2)
            | (clear t4; refine wpList_storeW rfl 42 _ _ rfl rfl (finL (endM g s)) rfl K3 (len_fin _ HEL.out) (info_fin _ HEL.out) (finL_one _) ?_; intro W4 U4 K4; have O4 := own_updT O3 K3 U4 (by decide); have V4 := U4.trans V3 hb3; have R4 := U4.trans R3 hc3; clear K3 U4 O3 V3 R3)
            | (clear t5; have CC4 := HC1.out.grown R4; refine wpList_loadW rfl 32 _ rfl rfl CC4 _ Try.underlying32 rfl (by rw [HMl.out]; exact infoMc) ?_)
            | (go_at_call 29; refine (hF' _ (HM.out.below V4)).mono ?_; rintro e W5 ⟨rfl, B5⟩; have O5 := own_below O4 B5; have V5 := Below.then V4 B5; have R5 := Below.then R4 B5; clear B5 O4)
            | (clear t6; refine wpList_allocS rfl 35 rfl (pkL pk0) zeroPk ?_; intro W6 b6 F6 K6; have V6 := Below.then V5 (F_b F6); have R6 := Below.then R5 (F_b F6); have O6 := own_below O5 (F_b F6); have hb6 : w.heap.size ≤ b6 := Nat.le_trans V5.size (Nat.le_of_eq F6.at'.symm); have hc6 : W1.heap.size ≤ b6 := Nat.le_trans R5.size (Nat.le_of_eq F6.at'.symm); have ho6 : ∀ k, (Value.slice av n cv).ownBlock = some k → k ≠ b6 := (fun k hk e => by have h1 := (own_lt O5 hk).2; have h2 := F6.at'; omega); clear F6 V5 R5 O5)
            | (clear t7; refine wpList_storeW rfl 35 _ _ rfl rfl (pkL pk0) rfl K6 rfl infoPk (pk_oneC _) ?_; intro W7 U7 K7; have O7 := own_same O6 (fun k hk => U7.block k (ho6 k hk)); have V7 := U7.trans V6 hb6; have R7 := U7.trans R6 hc6; clear K6 U7 O6 V6 R6))
          exact HA.out _ _ d s HZ.out (by rw [← HNl.out]; exact own_raise O7 HB1.out.size) V7
        | cons k ks =>
          rw [hp] at hF'
          replace hF' : ∀ W, MG W g bn bg → Calls Try.prog 29 #[.agg mc.toArray, .string s] W fun e w' => e = .returned (.tuple #[.agg (pkL k).toArray, .bool true]) ∧ Below W.heap.size W w' := hF'
          have hS' := fun W (h : MG W g bn bg) => hS W s k HS.out h
          cases hs : (stepM g s k).2 with
          | false =>
            have HZ : Hid (finM g most.toNat T = (d, s)) := HF.out.done (fin_stuck hp hs)
            rw [hs] at hS'
            clear he hp hs
            have t2 : True := trivial
            have t3 : True := trivial
            have t4 : True := trivial
            have t5 : True := trivial
            have t6 : True := trivial
            have t7 : True := trivial
            have t8 : True := trivial
            have t9 : True := trivial
            have t10 : True := trivial
            have t11 : True := trivial
            have t12 : True := trivial
            go_wp2_with (first
              | (clear t2; refine wpList_loadW rfl 32 _ rfl rfl CC _ Try.underlying32 rfl (by rw [HMl.out]; exact infoMc) ?_)
              | (go_at_call 26; refine (hE' _ (HM.out.below HBB.out)).mono ?_; rintro e W2 ⟨rfl, B2⟩; have O2 := own_below HO.out B2; have V2 := Below.then HBB.out B2; have R2 := Below.then HB.out B2; clear B2)
              | (clear t3; refine wpList_allocS rfl 42 rfl (finL []) zeroFin ?_; intro W3 b3 F3 K3; have O3 := own_below O2 (F_b F3); have V3 := Below.then V2 (F_b F3); have R3 := Below.then R2 (F_b F3); have hb3 : w.heap.size ≤ b3 := Nat.le_trans V2.size (Nat.le_of_eq F3.at'.symm); have hc3 : W1.heap.size ≤ b3 := Nat.le_trans R2.size (Nat.le_of_eq F3.at'.symm); clear F3 O2 V2 R2)
              | (clear t4; refine wpList_storeW rfl 42 _ _ rfl rfl (finL (endM g s)) rfl K3 (len_fin _ HEL.out) (info_fin _ HEL.out) (finL_one _) ?_; intro W4 U4 K4; have O4 := own_updT O3 K3 U4 (by decide); have V4 := U4.trans V3 hb3; have R4 := U4.trans R3 hc3; clear K3 U4 O3 V3 R3)
              | (clear t5; have CC4 := HC1.out.grown R4; refine wpList_loadW rfl 32 _ rfl rfl CC4 _ Try.underlying32 rfl (by rw [HMl.out]; exact infoMc) ?_)
              | (go_at_call 29; refine (hF' _ (HM.out.below V4)).mono ?_; rintro e W5 ⟨rfl, B5⟩; have O5 := own_below O4 B5; have V5 := Below.then V4 B5; have R5 := Below.then R4 B5; clear B5 O4)
              | (clear t6; refine wpList_allocS rfl 35 rfl (pkL pk0) zeroPk ?_; intro W6 b6 F6 K6; have V6 := Below.then V5 (F_b F6); have R6 := Below.then R5 (F_b F6); have O6 := own_below O5 (F_b F6); have hb6 : w.heap.size ≤ b6 := Nat.le_trans V5.size (Nat.le_of_eq F6.at'.symm); have hc6 : W1.heap.size ≤ b6 := Nat.le_trans R5.size (Nat.le_of_eq F6.at'.symm); have ho6 : ∀ k, (Value.slice av n cv).ownBlock = some k → k ≠ b6 := (fun k hk e => by have h1 := (own_lt O5 hk).2; have h2 := F6.at'; omega); clear F6 V5 R5 O5)
              | (clear t7; refine wpList_storeW rfl 35 _ _ rfl rfl (pkL k) rfl K6 rfl infoPk (pk_oneC _) ?_; intro W7 U7 K7; have O7 := own_same O6 (fun k hk => U7.block k (ho6 k hk)); have V7 := U7.trans V6 hb6; have R7 := U7.trans R6 hc6; clear K6 U7 O6 V6 R6)
              | (clear t8; have CC7 := HC1.out.grown R7; refine wpList_loadW rfl 32 _ rfl rfl CC7 _ Try.underlying32 rfl (by rw [HMl.out]; exact infoMc) ?_)
              | (clear t9; refine wpList_loadW rfl 35 _ rfl rfl K7 _ Try.underlying35 rfl infoPk ?_)
              | (go_at_call 24; refine (hS' _ (HM.out.below V7)).mono ?_; rintro e W8 ⟨rfl, B8⟩; have O8 := own_below O7 B8; have V8 := Below.then V7 B8; have R8 := Below.then R7 B8; have K8 := K7.grown B8; clear B8 O7 K7))
            exact HA.out _ _ d s HZ.out (by rw [← HNl.out]; exact own_raise O8 HB1.out.size) V8
          | true =>
            have HF2 : Hid (FinTo g most.toNat T (d ++ [k]) (stepM g s k).1) := HF.out.on (by rw [← HNl.out]; omega) he hp hs
            have HS2 : Hid ((stepM g s k).1.size ≤ 1099511627776) := Nat.le_trans (stepM_size g s k) (by decide)
            rw [hs] at hS'
            obtain ⟨s2, hs2⟩ : ∃ x, (stepM g s k).1 = x := ⟨_, rfl⟩
            rw [hs2] at hS' HF2 HS2
            clear he hp hs hs2
            have t2 : True := trivial
            have t3 : True := trivial
            have t4 : True := trivial
            have t5 : True := trivial
            have t6 : True := trivial
            have t7 : True := trivial
            have t8 : True := trivial
            have t9 : True := trivial
            have t10 : True := trivial
            have t11 : True := trivial
            have t12 : True := trivial
            go_wp2_with (first
              | (clear t2; refine wpList_loadW rfl 32 _ rfl rfl CC _ Try.underlying32 rfl (by rw [HMl.out]; exact infoMc) ?_)
              | (go_at_call 26; refine (hE' _ (HM.out.below HBB.out)).mono ?_; rintro e W2 ⟨rfl, B2⟩; have O2 := own_below HO.out B2; have V2 := Below.then HBB.out B2; have R2 := Below.then HB.out B2; clear B2)
              | (clear t3; refine wpList_allocS rfl 42 rfl (finL []) zeroFin ?_; intro W3 b3 F3 K3; have O3 := own_below O2 (F_b F3); have V3 := Below.then V2 (F_b F3); have R3 := Below.then R2 (F_b F3); have hb3 : w.heap.size ≤ b3 := Nat.le_trans V2.size (Nat.le_of_eq F3.at'.symm); have hc3 : W1.heap.size ≤ b3 := Nat.le_trans R2.size (Nat.le_of_eq F3.at'.symm); clear F3 O2 V2 R2)
              | (clear t4; refine wpList_storeW rfl 42 _ _ rfl rfl (finL (endM g s)) rfl K3 (len_fin _ HEL.out) (info_fin _ HEL.out) (finL_one _) ?_; intro W4 U4 K4; have O4 := own_updT O3 K3 U4 (by decide); have V4 := U4.trans V3 hb3; have R4 := U4.trans R3 hc3; clear K3 U4 O3 V3 R3)
              | (clear t5; have CC4 := HC1.out.grown R4; refine wpList_loadW rfl 32 _ rfl rfl CC4 _ Try.underlying32 rfl (by rw [HMl.out]; exact infoMc) ?_)
              | (go_at_call 29; refine (hF' _ (HM.out.below V4)).mono ?_; rintro e W5 ⟨rfl, B5⟩; have O5 := own_below O4 B5; have V5 := Below.then V4 B5; have R5 := Below.then R4 B5; clear B5 O4)
              | (clear t6; refine wpList_allocS rfl 35 rfl (pkL pk0) zeroPk ?_; intro W6 b6 F6 K6; have V6 := Below.then V5 (F_b F6); have R6 := Below.then R5 (F_b F6); have O6 := own_below O5 (F_b F6); have hb6 : w.heap.size ≤ b6 := Nat.le_trans V5.size (Nat.le_of_eq F6.at'.symm); have hc6 : W1.heap.size ≤ b6 := Nat.le_trans R5.size (Nat.le_of_eq F6.at'.symm); have ho6 : ∀ k, (Value.slice av n cv).ownBlock = some k → k ≠ b6 := (fun k hk e => by have h1 := (own_lt O5 hk).2; have h2 := F6.at'; omega); clear F6 V5 R5 O5)
              | (clear t7; refine wpList_storeW rfl 35 _ _ rfl rfl (pkL k) rfl K6 rfl infoPk (pk_oneC _) ?_; intro W7 U7 K7; have O7 := own_same O6 (fun k hk => U7.block k (ho6 k hk)); have V7 := U7.trans V6 hb6; have R7 := U7.trans R6 hc6; clear K6 U7 O6 V6 R6)
              | (clear t8; have CC7 := HC1.out.grown R7; refine wpList_loadW rfl 32 _ rfl rfl CC7 _ Try.underlying32 rfl (by rw [HMl.out]; exact infoMc) ?_)
              | (clear t9; refine wpList_loadW rfl 35 _ rfl rfl K7 _ Try.underlying35 rfl infoPk ?_)
              | (go_at_call 24; refine (hS' _ (HM.out.below V7)).mono ?_; rintro e W8 ⟨rfl, B8⟩; have O8 := own_below O7 B8; have V8 := Below.then V7 B8; have R8 := Below.then R7 B8; have K8 := K7.grown B8; clear B8 O7 K7)
              | (clear t10; refine wpList_loadW rfl 35 _ rfl rfl K8 _ Try.underlying35 rfl infoPk ?_)
              | (clear t11; refine wpList_build1P rfl _ rfl k rfl ?_; intro W9 b9 F9 C9; have V9 := Below.then V8 (F_b F9); have R9 := Below.then R8 (F_b F9); have O9 := own_below O8 (F_b F9); clear F9)
              | (clear t12; at_builtin; refine wpList_appM ePk rfl _ _ rfl W1.heap.size _ n _ rfl O9 _ 1 (pkL k) rfl (row_isS C9) rfl (pk_oneC _) (by omega) R9.size ?_; intro v10 W10 O10 G10; have R10 := grown_below R9 R9.size O9 G10; clear G10 C9 O9))
            have HO2 : Hid (W10.ownsRow W1.heap.size 35 3 v10 (n + 1) ((d ++ [k]).flatMap pkL)) := (by
              show World.ownsRow _ _ _ _ _ _ _
              rw [List.flatMap_append, List.flatMap_singleton]; exact O10)
            clear O10
            obtain ⟨a10, c10, ev10⟩ := own_form HO2.out
            subst ev10
            go_wp2_with fail
            go_roundw
            case rel => exact ⟨d ++ [k], s2, n + 1, by rw [List.length_append, List.length_singleton, HNl.out], rfl, ⟨_, _, rfl⟩, HS2, (by show n + 1 ≤ most.toNat; omega), HF2, HO2, R10⟩
            case measure => simp only [lenV]; omega
    · have HZ : Hid (finM g most.toNat T = (d, s)) := HF.out.done (by rw [show most.toNat - d.length = 0 by rw [← HNl.out]; omega]; rfl)
      go_wp2_with fail
      exact HA.out _ _ d s HZ.out (by rw [← HNl.out]; exact own_raise HO.out HB1.out.size) HBB.out
end Go.Proofs.Ytmoieckmbimgoaa
