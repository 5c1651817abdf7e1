/- Orders: a number taken out of a list; the list with a number. -/
import Derived.Test.YtghfomammdbgoaaO2
namespace Go.Proofs.Ytghfomammdbgoaa
open Go.RowKit Go.Shelf Go.Sort K
set_option linter.unusedSimpArgs false
set_option linter.unusedVariables false

theorem holds_grown {w w' : World} {row : Option Nat} {b : Nat} {d : Array Int} (h : Holds (Value.int .i64) w b 0 d) (hg : w.grownBy w' row) (hb : b < w.heap.size) (hne : row ≠ some b) : Holds (Value.int .i64) w' b 0 d := fun j hj => by
  have e : w'.heap[b]? = w.heap[b]? := hg.block b hb (fun e => hne e.symm)
  have h1 := h j hj
  simp only [World.cell?, World.frozen?, e] at h1 ⊢
  exact h1
theorem holds_below {w w' : World} {b : Nat} {d : Array Int} (h : Holds (Value.int .i64) w b 0 d) (hB : Below w.heap.size w w') (hb : b < w.heap.size) : Holds (Value.int .i64) w' b 0 d := fun j hj => by
  have e : w'.heap[b]? = w.heap[b]? := hB.block b hb
  have h1 := h j hj
  simp only [World.cell?, World.frozen?, e] at h1 ⊢
  exact h1
theorem holds_take {w : World} {b : Nat} {xs ys : List Int} (h : Holds (Value.int .i64) w b 0 (xs ++ ys).toArray) : Holds (Value.int .i64) w b 0 xs.toArray := fun j hj => by
  have hj1 : j < xs.length := by simpa using hj
  have hj2 : j < (xs ++ ys).toArray.size := by simp; omega
  have h1 := h j hj2
  rw [getElem!_pos _ j hj2] at h1
  rw [getElem!_pos _ j hj]
  have e : (xs ++ ys).toArray[j] = xs.toArray[j] := by simp [List.getElem_append, hj1]
  rw [e] at h1
  exact h1
theorem grow_none (w : World) : grow w #[] = w := by simp [grow]

theorem delete_any (b cap i : Nat) (zs : List Int) (w : World) (hH : Holds (Value.int .i64) w b 0 zs.toArray) (hcap : zs.length ≤ cap) (hm : cap ≤ 64) (hi : i < zs.length) :
    Calls Try.prog 82 #[.slice (some ⟨b, 0, none⟩) zs.length cap, .int .i64 (i : Nat), .int .i64 ((i : Int) + 1)] w fun e w' => e = .returned (.slice (some ⟨b, 0, none⟩) (zs.length - 1) cap) ∧ Holds (Value.int .i64) w' b 0 (zs.eraseIdx i).toArray ∧ w.grownBy w' (some b) := by
  have h := Try.slices_Delete_int b 0 cap i (i + 1) zs w hH hcap (by omega) (by omega) (by omega)
  rw [show (((i + 1 : Nat)) : Int) = (i : Int) + 1 by omega] at h
  refine h.mono ?_
  rintro e w' ⟨rfl, q, rfl⟩
  refine ⟨by rw [show i + 1 - i = 1 by omega], ?_, ?_⟩
  · have e1 : zs.take i ++ zs.drop (i + 1) ++ List.replicate (i + 1 - i) 0 = zs.eraseIdx i ++ [0] := by
      rw [List.eraseIdx_eq_take_drop_succ, show i + 1 - i = 1 by omega]; rfl
    rw [e1]
    refine holds_take (ys := [0]) (holds_putRow _ _ b 0 zs.toArray _ (holds_ahead _ w q b 0 _ hH) ?_)
    simp [List.length_eraseIdx_of_lt hi]; omega
  · have := grownBy_sortedI (w := w) (g := b) (n := q) (os := #[]) (zs.take i ++ zs.drop (i + 1) ++ List.replicate (i + 1 - i) 0).toArray
    rw [grow_none] at this
    exact this

/-- A list in memory, and where: for lists that are handed back. -/
def NewN (zs : List Int) (v : Value) (w : World) : Prop := ∃ a c, v = .slice a zs.length c ∧ Nums w a zs ∧ (a = none → zs = [])
theorem newN_own {W : World} {base : Nat} {v : Value} {zs : List Int} (h : W.ownsRow base 3 1 v zs.length (intsZ zs)) : NewN zs v W := by
  rcases h.2 with ⟨rfl, h0⟩ | ⟨g, cap, cur, rfl, hg, hh, rest⟩
  · exact ⟨none, 0, by rw [h0], fun j hj => by omega, fun _ => List.eq_nil_of_length_eq_zero h0⟩
  · refine ⟨_, cap, rfl, fun j hj => ⟨g, 0, rfl, ?_⟩, fun e => by cases e⟩
    rw [Nat.zero_add, h.cellAt j (by omega)]
    simp [intsZ, hj]
theorem intsZ_snoc (zs : List Int) (z : Int) : intsZ (zs ++ [z]) = intsZ zs ++ [.int .i64 z] := by simp [intsZ]

theorem atO_len : ∀ (d : Nat) (rest : List Int) (n : Nat), (atO d rest n).length = d
  | 0, _, _ => rfl
  | d + 1, rest, n => by rw [atO, List.length_cons, atO_len d]

/-- A list of the call's own. -/
def OwnZ (W : World) (base : Nat) (v : Value) (zs : List Int) : Prop := W.ownsRow base 3 1 v zs.length (intsZ zs)
def slen : Value → Nat
  | .slice _ n _ => n
  | _ => 0
theorem OwnZ.kept {W W' : World} {base b : Nat} {v : Value} {zs : List Int} (h : OwnZ W base v zs) (hg : W.grownBy W' (some b)) (hb : b < base) : OwnZ W' base v zs := by
  refine World.ownsRow.kept h hg ?_
  cases hv : v.ownBlock with
  | none => exact .inl rfl
  | some k =>
    have := (World.ownsRow.lt h k hv).1
    exact .inr fun e => by cases e; omega
theorem OwnZ.ne {W : World} {base b : Nat} {v : Value} {zs : List Int} (h : OwnZ W base v zs) (hb : b < base) : v.ownBlock ≠ some b := fun e => by
  have := (World.ownsRow.lt h b e).1
  omega

theorem ofn_ne {n : Nat} (h : 0 < n) : (n : Int) ≠ 0 := by omega
theorem wrap64N (K : Nat) (h : K < 64) : wrap64 (K : Int) = (K : Int) := by unfold wrap64; omega
theorem wrapI64N (K : Nat) (h : K < 64) : IntKind.i64.wrap (K : Int) = (K : Int) := by rw [IntKind.wrap_i64]; omega
theorem div_lt64 {p F : Nat} (h : p < 18446744073709551616) : p / F < 18446744073709551616 := Nat.lt_of_le_of_lt (Nat.div_le_self _ _) h
theorem mod_lt64 {p F : Nat} (h : p < 18446744073709551616) : p % F < 18446744073709551616 := Nat.lt_of_le_of_lt (Nat.mod_le _ _) h
/-- What a round reckons. -/
theorem o_arith (r p : Nat) (hp : p < factN (r + 1)) (hb : factN (r + 1) < 18446744073709551616) (hr : r < 64) :
    IntKind.u64.wrap ((factN (r + 1) : Nat) / ((r + 1 : Nat) : Int)) = ((factN r : Nat) : Int) ∧ p / factN r < r + 1 ∧ IntKind.u64.wrap ((p : Int) / ((factN r : Nat) : Int)) = ((p / factN r : Nat) : Int) ∧ IntKind.i64.wrap ((p : Int) / ((factN r : Nat) : Int)) = ((p / factN r : Nat) : Int) ∧ wrap64 ((p : Int) / ((factN r : Nat) : Int)) = ((p / factN r : Nat) : Int) ∧ wrap64 ((p / factN r : Nat) : Int) = ((p / factN r : Nat) : Int) ∧ IntKind.u64.wrap ((p : Int) % ((factN r : Nat) : Int)) = ((p % factN r : Nat) : Int) ∧ IntKind.u64.wrap ((r + 1 : Nat) : Int) = ((r + 1 : Nat) : Int) := by
  have hF0 := factN_pos r
  have hFs : factN (r + 1) = factN r * (r + 1) := rfl
  have hle : factN r ≤ factN (r + 1) := factN_mono (Nat.le_succ r)
  have hKq : p / factN r < r + 1 := Nat.div_lt_of_lt_mul (by rw [← hFs]; exact hp)
  have hK64 : p / factN r < 64 := Nat.lt_of_lt_of_le hKq hr
  have hpb : p < 18446744073709551616 := Nat.lt_trans hp hb
  refine ⟨?_, hKq, wrapU _ (div_lt64 hpb), wrapI64N _ hK64, wrap64N _ hK64, wrap64N _ hK64, wrapU _ (mod_lt64 hpb), wrapU _ (by omega)⟩
  rw [show ((factN (r + 1) : Nat) / ((r + 1 : Nat) : Int)) = ((factN (r + 1) / (r + 1) : Nat) : Int) from rfl, hFs, Nat.mul_div_cancel _ (Nat.succ_pos r)]
  exact wrapU _ (Nat.lt_of_le_of_lt hle hb)

set_option maxRecDepth 100000 in
set_option maxHeartbeats 1000000 in
theorem oat_any (n m : Nat) (w : World) (hn : n ≤ 64) (h64 : Hid (factN n < 18446744073709551616)) (hm : Hid (m < factN n)) :
    Calls Try.prog 75 #[.int .i64 n, .int .u64 m] w fun e w' => (∃ v', e = .returned v' ∧ NewN (atO n (risZ n) m) v' w') ∧ Below w.heap.size w w' := by
  obtain ⟨i0, hi, hz0, hz1, hz2⟩ := info_parts info3
  have hsz := osize_any n w hn
  rw [scV, if_pos h64.out] at hsz
  go_enter Try.func75, Try.ntmps75
  go_wp2_with (first
    | (go_at_call 80; refine hsz.mono ?_; rintro e w1 ⟨rfl, hB1⟩; clear hsz)
    | (go_at_call 81; refine (rising_any n _ hn).mono ?_; rintro e w2 ⟨⟨rfl, hr⟩, hB2⟩
       have hBB : Below w.heap.size w w2 := Below.then hB1 hB2
       have hlt2 := hr.lt
       have hr2 : Hid (RowZ w2 w1.heap.size (risZ n)) := hr
       have hs1 := hB1.size
       obtain ⟨b, hb⟩ : ∃ b, w1.heap.size = b := ⟨_, rfl⟩
       rw [hb] at hr2 hlt2 hs1 ⊢
       clear hr hB2 hB1 hb
       obtain ⟨w3, hmk, hown, hg3⟩ := run_make_own (P := Try.prog) w2 (b + 1) 22 3 i0 (.int .i64 0) 1 Try.underlying22 hi hz0 hz1 .i64 .i64 n (by rw [hz2]; omega) (by unfold maxLen; omega) (by omega)
       replace hown : OwnZ w3 (b + 1) (.slice (some ⟨w2.heap.size, 0, none⟩) 0 n) [] := hown
       have hH3 : Hid (Holds (Value.int .i64) w3 b 0 (risZ n).toArray) := holds_grown (holds_of_row hr2.out) hg3 hlt2 (by simp)
       have hB3 : Hid (Below w.heap.size w w3) := hBB.grown hg3 hBB.size (fun k e => by cases e)
       have hl3 : b < w3.heap.size := by have := hg3.size; omega
       clear hg3 hBB))
  clear hmk
  have HT : Hid (∀ zs, zs = atO n (risZ n) m → zs.length = n) := fun zs e => by rw [e, atO_len]
  obtain ⟨T, hT⟩ : ∃ T, atO n (risZ n) m = T := ⟨_, rfl⟩
  go_loopw [1, 5, 7, 8] (fun N E R L wr => ∃ (rest zs : List Int) (p : Nat), N = .int .u64 (p : Nat) ∧ E = .int .u64 (factN rest.length : Nat) ∧ R = .slice (some ⟨b, 0, none⟩) rest.length n ∧ rest.length + zs.length = n ∧ OwnZ wr (b + 1) L zs ∧ Hid (p < factN rest.length) ∧ Hid (zs ++ atO rest.length rest p = T) ∧ Hid (Holds (Value.int .i64) wr b 0 rest.toArray) ∧ b < wr.heap.size ∧ Hid (Below w.heap.size w wr)) (fun _ _ R _ _ => slen R)
  case atStart => exact ⟨risZ n, [], m, rfl, by rw [risZ_len], by rw [risZ_len], by rw [risZ_len]; simp, hown, by rw [risZ_len]; exact hm, by rw [risZ_len]; exact hT, hH3.out, hl3, hB3.out⟩
  case round =>
    obtain ⟨rest, zs, p, rfl, rfl, rfl, hlen, own, hp, hq, hH, hlb, hB⟩ := hrel
    clear hH3 hB3 hown hl3 hr2 hlt2 HT
    replace hT : Hid (atO n (risZ n) m = T) := hT
    cases hql : rest.length with
    | zero =>
      have HE : Hid (zs = T) := (show zs = T by have h := hq.out; rw [hql] at h; simpa [atO] using h)
      have HB : Hid (NewN (atO n (risZ n) m) u8 wr) := (show NewN _ _ _ by rw [hT.out, ← HE.out]; exact newN_own own)
      clear own hp hq hH hT HE hql
      go_wp2
      go_ret
      exact ⟨⟨_, rfl, HB.out⟩, hB.out⟩
    | succ r =>
      rw [hql] at hlen hp hq
      have hF0 := factN_pos r
      have hrl : r + 1 ≤ n := by omega
      have HAR : Hid _ := o_arith r p hp.out (Nat.lt_of_le_of_lt (factN_mono hrl) h64.out) (by omega)
      have hKq := HAR.out.2.1
      have hP2 : Hid (p % factN r < factN r) := Nat.mod_lt _ hF0
      clear h64 hm
      have hx : Hid (rest.getD (p / factN r) 0 = rest[p / factN r]'(by omega)) := (show rest.getD (p / factN r) 0 = _ by rw [List.getD_eq_getElem?_getD, List.getElem?_eq_getElem (by omega)]; rfl)
      have hc := ((nums_of_holds hH.out) (p / factN r) (by omega))
      have HA : Hid (zs ++ [rest.getD (p / factN r) 0] ++ atO r (rest.eraseIdx (p / factN r)) (p % factN r) = T) := (show _ = T by have := hq.out; rw [atO] at this; rw [List.append_assoc]; exact this)
      have hel : Hid ((rest.eraseIdx (p / factN r)).length = r) := erase_len hql (by omega)
      have hdel : Hid (∀ W, Holds (Value.int .i64) W b 0 rest.toArray → Calls Try.prog 82 #[.slice (some ⟨b, 0, none⟩) (r + 1) n, .int .i64 ((p / factN r : Nat) : Int), .int .i64 (((p / factN r : Nat) : Int) + 1)] W fun e w' => e = .returned (.slice (some ⟨b, 0, none⟩) r n) ∧ Holds (Value.int .i64) w' b 0 (rest.eraseIdx (p / factN r)).toArray ∧ W.grownBy w' (some b)) := fun W hW => by
        have := delete_any b n (p / factN r) rest W hW (by omega) hn (by omega)
        rw [hql] at this
        exact this
      obtain ⟨b', o', eb, hc⟩ := hc
      cases eb
      rw [Nat.zero_add] at hc
      have hFi : ((factN r : Nat) : Int) ≠ 0 := ofn_ne hF0
      have hqi : ((r + 1 : Nat) : Int) ≠ 0 := ofn_ne (Nat.succ_pos r)
      have hKi : ((p / factN r : Nat) : Int) < ((r + 1 : Nat) : Int) := Int.ofNat_lt.2 hKq
      have HPE : Hid ((p : Int) % ((factN r : Nat) : Int) = ((p % factN r : Nat) : Int)) := (show _ = _ from rfl)
      clear hx hq hp hF0
      obtain ⟨F1, hF1⟩ : ∃ F1, factN (r + 1) = F1 := ⟨_, rfl⟩
      rw [hF1] at HAR ⊢
      obtain ⟨F, hF⟩ : ∃ F, factN r = F := ⟨_, rfl⟩
      have HF : Hid (factN r = F) := hF
      rw [hF] at HAR hKq hP2 hc HA hel hdel hFi hKi HPE
      obtain ⟨K, hK⟩ : ∃ K, p / F = K := ⟨_, rfl⟩
      obtain ⟨P2, hP⟩ : ∃ P2, p % F = P2 := ⟨_, rfl⟩
      rw [hK] at HAR hKq hc HA hel hdel hKi
      rw [hP] at HAR hP2 HA HPE
      clear hF hF1 hK hP
      generalize rest.getD K 0 = x at *
      have hne : Hid (u8.ownBlock ≠ some b) := own.ne (by omega)
      have HQ : Hid (rest.length = r + 1) := hql
      clear hql
      obtain ⟨q, hqe⟩ : ∃ q, r + 1 = q := ⟨_, rfl⟩
      have HR : Hid (r + 1 = q) := hqe
      have hq64 : q ≤ 64 := by omega
      have hq0 : 0 < q := by omega
      rw [hqe] at HAR hKi hqi hdel hKq ⊢
      have hzl : zs.length + 1 ≤ 64 := by omega
      clear hqe
      have hownA : Hid (wr.ownsRow (b + 1) 3 1 u8 zs.length (intsZ zs)) := own
      obtain ⟨e2, -, e3, e3', e4, e6, e5, e1⟩ := HAR.out
      have HZ : Hid (w.heap.size ≤ b ∧ b < wr.heap.size ∧ zs.length + 1 ≤ 64 ∧ r + 1 = q ∧ r + 1 + zs.length = n ∧ 0 < q) := ⟨hs1, hlb, hzl, HR.out, hlen, hq0⟩
      have HI : Hid (Try.prog.info? 3 = some i0 ∧ i0.zero = some (.int .i64 0) ∧ i0.size = 1 ∧ i0.bytes = 8) := ⟨hi, hz0, hz1, hz2⟩
      clear HAR hs1 hlb hq0 hzl hlen HQ HR hi hz0 hz1 hz2
      go_wp2_with (first
        | (at_builtin; clear e1 e2 e3 e3' e4 e5 e6 hKi hFi hqi; obtain ⟨hs1, hlb, hzl, hrq, hlen, hq0⟩ := HZ.out; obtain ⟨hi, hz0, hz1, hz2⟩ := HI.out; refine wpList_append_own _ rfl _ _ 22 rfl (b + 1) 3 i0 (.int .i64 0) 1 8 Try.underlying22 hi hz0 hz1 hz2 rfl (by decide) _ _ _ rfl (World.ownsRow.alloc hownA.out _) ⟨wr.heap.size, 0, none⟩ 1 1 [Value.int .i64 x] rfl rfl (by intro j u' hj; match j, hj with | 0, hj => simp at hj; subst hj; simp [Addr.add]) (by intro u' hu'; simp at hu'; subst hu'; rfl) (by unfold maxLen; omega) (by omega) (by simp; omega) ?_
           intro v1 wa own1 grow1 hif1; clear hif1
           have own2 : OwnZ wa (b + 1) v1 (zs ++ [x]) := (show wa.ownsRow _ _ _ _ _ _ by rw [List.length_append, intsZ_snoc]; exact own1)
           have hHa : Holds (Value.int .i64) wa b 0 rest.toArray := holds_grown (holds_below hH.out ((Below.refl _ wr).alloc (Nat.le_refl _) _) hlb) grow1 (by rw [World.size_alloc]; omega) hne.out
           have hBa : Hid (Below w.heap.size w wa) := (hB.out.alloc hB.out.size (.cells #[.int .i64 x] 3)).grown grow1 (hB.out.alloc hB.out.size _).size (fun k e => by have := (World.ownsRow.lt own k e).1; omega)
           have hla : Hid (b < wa.heap.size) := (show b < wa.heap.size by have := grow1.size; rw [World.size_alloc] at this; omega)
           have hd := hdel.out wa hHa
           clear own1 grow1 hHa hownA own hdel hs1 hlb hzl hrq hlen hq0 hi hz0 hz1 hz2)
        | (go_at_call 82; refine hd.mono ?_; rintro e wb ⟨rfl, hHb, hgb⟩
           have own3 := own2.kept hgb (Nat.lt_succ_self b)
           have hBb : Hid (Below w.heap.size w wb) := hBa.out.grown hgb hBa.out.size (fun k e => by cases e; exact HZ.out.1)
           have hlb2 : Hid (b < wb.heap.size) := Nat.lt_of_lt_of_le hla.out hgb.size
           replace hHb : Hid _ := hHb
           clear hgb own2 hd))
      go_roundw
      case rel => exact ⟨rest.eraseIdx K, zs ++ [x], P2, by rw [HPE.out], by rw [hel.out, HF.out], by rw [hel.out], by obtain ⟨_, _, _, h4, h5, _⟩ := HZ.out; rw [hel.out, List.length_append, List.length_singleton]; omega, own3, by rw [hel.out, HF.out]; exact hP2, by rw [hel.out]; exact HA, hHb.out, hlb2.out, hBb.out⟩
      case measure => have := HZ.out.2.2.2.1; simp [slen]; omega
end Go.Proofs.Ytghfomammdbgoaa
