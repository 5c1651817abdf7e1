/- SameInts at two slices of the same numbers; the reference's text. -/
import Derived.Test.YtkjaphmcagifpaaDoorW4
import Derived.Deep.QuietTactic
import Derived.BigQuiet
import Derived.Laws.BytesArg
namespace Go.Proofs.YtkjaphmcagifpaaDoor
open Go.RowKit M
set_option linter.unusedSimpArgs false
set_option linter.unusedVariables false

theorem Nums.below {w w' : World} {a : Option Addr} {zs : List Int} (h : Nums w a zs) {B : Nat} (hb : Below B w w') (hB : ∀ b off, a = some ⟨b, off, none⟩ → b < B) : Nums w' a zs := fun j hj => by
  obtain ⟨b, off, rfl, hc⟩ := h j hj
  exact ⟨b, off, rfl, (hb.cell (p := ⟨b, off + j, none⟩) (hB b off rfl)).trans hc⟩

theorem Nums.drewN {w : World} {a : Option Addr} {zs : List Int} (h : Nums w a zs) (n : Nat) : Nums (w.drewN n) a zs := fun j hj => by
  obtain ⟨b, off, rfl, hc⟩ := h j hj
  exact ⟨b, off, rfl, by simpa using hc⟩

set_option maxHeartbeats 1000000 in
theorem same_any (a b : Option Addr) (c d : Nat) (zs : List Int) (w : World) (hA : Hid (Nums w a zs)) (hB : Hid (Nums w b zs)) (hl : zs.length ≤ 1152921504606846976) :
    Calls Tryd.prog 29 #[.slice a zs.length c, .slice b zs.length d] w fun e w' => e = .returned (.bool true) ∧ ∃ n, w' = w.drewN n := by
  go_enter Tryd.func29, Tryd.ntmps29
  go_wp2
  go_loopw [5] (fun i wr => ∃ k : Nat, k ≤ zs.length ∧ i = .int .i64 k ∧ ∃ n, wr = w.drewN n) (fun i _ => zs.length - (intOf i).toNat)
  case atStart => exact ⟨0, by omega, rfl, 0, rfl⟩
  case round =>
    obtain ⟨k, hk, rfl, n, rfl⟩ := hrel
    by_cases hlt : k < zs.length
    · obtain ⟨b1, o1, rfl, hc1⟩ := hA.out k hlt
      obtain ⟨b2, o2, rfl, hc2⟩ := hB.out k hlt
      clear hA hB
      generalize zs.getD k 0 = z at *
      go_wp2
      go_quiet (fail)
      go_wp2
      go_roundw
      case rel => exact ⟨k + 1, by omega, by go_num, _, rfl⟩
      case measure => simp [intOf]; omega
    · obtain rfl : k = zs.length := by omega
      go_wp2
      go_ret
      exact ⟨rfl, n, rfl⟩

/-- The text's beginning: the bracket, and the first k elements' texts. -/
def outB (l : List Nat) (k : Nat) : ByteArray := ⟨#[123]⟩ ++ joinB (l.take k)

theorem joinL_snoc (l : List Nat) (x : Nat) : joinL (l ++ [x]) = joinL l ++ ((if l.length = 0 then [] else [32]) ++ Lib.decDigits x) := by
  cases l with
  | nil => simp [joinL, Lib.join_one, Lib.join_nil]
  | cons a l =>
    unfold joinL
    rw [List.cons_append, List.map_cons, List.map_cons, List.map_append, Lib.join_cons, Lib.join_cons]
    simp [Lib.joinTail]

theorem outB_zero (l : List Nat) : outB l 0 = ⟨#[123]⟩ := by
  unfold outB joinB joinL
  rfl

theorem outB_size (l : List Nat) (k : Nat) (h : ∀ n ∈ l, n < 100) (hl : l.length ≤ 64) : (outB l k).size ≤ 193 := by
  have h1 := joinL_le (l.take k) (fun n hn => h n (List.mem_of_mem_take hn))
  have h2 : (l.take k).length ≤ 64 := Nat.le_trans (List.length_take_le' _ _) hl
  unfold outB joinB
  rw [ByteArray.size_append]
  show 1 + (joinL (l.take k)).toArray.size ≤ 193
  simp
  omega

theorem ba_eq {a b : ByteArray} (h : a.data.toList = b.data.toList) : a = b := by
  cases a; cases b
  congr 1
  exact Array.toList_inj.1 h

theorem outB_list (l : List Nat) (k : Nat) : (outB l k).data.toList = 123 :: joinL (l.take k) := by
  unfold outB joinB
  rw [ByteArray.data_append]
  simp

theorem outB_succ (l : List Nat) (k : Nat) (hk : k < l.length) : (outB l (k + 1)).data.toList = (outB l k).data.toList ++ ((if k = 0 then [] else [32]) ++ Lib.decDigits (l.getD k 0)) := by
  rw [outB_list, outB_list, List.take_succ_eq_append_getElem hk, joinL_snoc]
  have e : (l.take k).length = k := by simp; omega
  have e2 : l.getD k 0 = l[k] := by simp [hk]
  rw [e, e2]
  rfl

theorem nums_ten (x : Nat) (hx : x < 64) : (strOfNums [48 + (x : Int) / 10]).data.toList = [UInt8.ofNat (48 + x / 10)] ∧ (strOfNums [48 + (x : Int) % 10]).data.toList = [UInt8.ofNat (48 + x % 10)] := by
  rw [strOfNums_data, strOfNums_data]
  have e1 : (48 + (x : Int) / 10).toNat = 48 + x / 10 := by omega
  have e2 : (48 + (x : Int) % 10).toNat = 48 + x % 10 := by omega
  simp [e1, e2]

theorem out_step (l : List Nat) (k x : Nat) (hk : k < l.length) (hx : l.getD k 0 = x) (h64 : x < 64) :
    outB l (k + 1) = if k = 0 then (if x < 10 then outB l k ++ strOfNums [48 + (x : Int) % 10] else outB l k ++ strOfNums [48 + (x : Int) / 10] ++ strOfNums [48 + (x : Int) % 10])
      else (if x < 10 then outB l k ++ ⟨#[32]⟩ ++ strOfNums [48 + (x : Int) % 10] else outB l k ++ ⟨#[32]⟩ ++ strOfNums [48 + (x : Int) / 10] ++ strOfNums [48 + (x : Int) % 10]) := by
  apply ba_eq
  rw [outB_succ l k hk, hx]
  obtain ⟨n1, n2⟩ := nums_ten x h64
  by_cases h0 : k = 0 <;> by_cases h10 : x < 10
  · rw [if_pos h0, if_pos h0, if_pos h10, ByteArray.data_append, Array.toList_append, n2, Lib.decDigits_one h10, Nat.mod_eq_of_lt h10]; rfl
  · rw [if_pos h0, if_pos h0, if_neg h10, ByteArray.data_append, ByteArray.data_append, Array.toList_append, Array.toList_append, n1, n2, Lib.decDigits_two h10 (by omega)]; simp
  · rw [if_neg h0, if_neg h0, if_pos h10, ByteArray.data_append, ByteArray.data_append, Array.toList_append, Array.toList_append, n2, Lib.decDigits_one h10, Nat.mod_eq_of_lt h10]; simp
  · rw [if_neg h0, if_neg h0, if_neg h10, ByteArray.data_append, ByteArray.data_append, ByteArray.data_append, Array.toList_append, Array.toList_append, Array.toList_append, n1, n2, Lib.decDigits_two h10 (by omega)]; simp

theorem conv_one (W : World) (n : Int) :
    (convert 73 9 (.slice (some ⟨W.heap.size, 0, none⟩) 1 1)).run Tryd.prog (W.alloc (.cells #[.int .u8 n] 5)) = .ok (.string (strOfNums [n])) (W.alloc (.cells #[.int .u8 n] 5)) := by
  refine run_convert_bytes_arg (P := Tryd.prog) (W.alloc (.cells #[.int .u8 n] 5)) 73 5 Tryd.underlying73 Tryd.underlying5 W.heap.size 0 1 1 [n] rfl ?_ 9 Tryd.underlying9
  intro i hi
  obtain rfl : i = 0 := by omega
  rw [World.cell?_alloc_at _ _ _ _ rfl]
  rfl
theorem conv_two (W : World) (A : Obj) (n : Int) :
    (convert 73 9 (.slice (some ⟨W.heap.size + 1, 0, none⟩) 1 1)).run Tryd.prog ((W.alloc A).alloc (.cells #[.int .u8 n] 5)) = .ok (.string (strOfNums [n])) ((W.alloc A).alloc (.cells #[.int .u8 n] 5)) := by
  have := conv_one (W.alloc A) n
  rwa [World.size_alloc] at this

set_option maxRecDepth 1000000 in
set_option maxHeartbeats 2000000 in
theorem rtext_any (s : Nat) (w : World) (hs : s < 18446744073709551616) :
    Calls Tryd.prog 31 #[.int .u64 s] w fun e w' => e = .returned (.string (textB (lst s))) ∧ Below w.heap.size w w' := by
  have hle := length_lst_le s
  have hn : Hid (∀ n ∈ lst s, n < 64) := fun n hm => (mem_lst.1 hm).1
  have c := rlist_any s w hs
  generalize lst s = l at *
  go_enter Tryd.func31, Tryd.ntmps31
  go_wp2_with (go_at_call 28; refine c.mono ?_; rintro e w1 ⟨v, rfl, hown, hb⟩; obtain ⟨a, cap, rfl, H⟩ := owns_view hown)
  clear c
  go_loopw [4, 5] (fun o j wr => ∃ k : Nat, k ≤ l.length ∧ j = .int .i64 k ∧ o = .string (outB l k) ∧ Below w1.heap.size w1 wr) (fun _ j _ => l.length - (intOf j).toNat)
  case atStart => exact ⟨0, by omega, rfl, by rw [outB_zero], Below.refl _ _⟩
  case round =>
    obtain ⟨k, hk, rfl, rfl, hbr⟩ := hrel
    by_cases hlt : k < l.length
    · obtain ⟨g, rfl, hc⟩ := H.out k hlt
      have hg : g < w1.heap.size := by
        rcases hown.2 with ⟨hv, _⟩ | ⟨g', cap', cur, hv, _, hh, _⟩
        · cases hv
        · cases hv; exact (Array.getElem?_eq_some_iff.1 hh).1
      have hc' : wr.cell? ⟨g, k, none⟩ = some (.int .i64 (l.getD k 0 : Nat)) := (hbr.cell (p := ⟨g, k, none⟩) hg).trans hc
      have hca : ∀ o, (wr.alloc o).cell? ⟨g, k, none⟩ = some (.int .i64 (l.getD k 0 : Nat)) := fun o => (World.cell?_alloc_past _ _ _ (by have := hbr.size; omega)).trans hc'
      have hx : l.getD k 0 < 64 := hn.out _ (getD_mem hlt)
      have hsz := outB_size l k (fun n h => by have := hn.out n h; omega) hle
      obtain ⟨x, hxe⟩ : ∃ x, l.getD k 0 = x := ⟨_, rfl⟩
      rw [hxe] at hc hc' hca hx
      have OS : Hid (outB l (k + 1) = if k = 0 then (if x < 10 then outB l k ++ strOfNums [48 + (x : Int) % 10] else outB l k ++ strOfNums [48 + (x : Int) / 10] ++ strOfNums [48 + (x : Int) % 10])
        else (if x < 10 then outB l k ++ ⟨#[32]⟩ ++ strOfNums [48 + (x : Int) % 10] else outB l k ++ ⟨#[32]⟩ ++ strOfNums [48 + (x : Int) / 10] ++ strOfNums [48 + (x : Int) % 10])) := out_step l k x hlt hxe hx
      have hz := hbr.size
      clear hxe
      generalize outB l k = o at *
      clear hc H
      have cv1 := conv_one wr
      have cv2 := conv_two wr
      have hsn := strOfNums_size
      by_cases h0 : 0 < k
      · by_cases h10 : 10 ≤ x
        · go_wp2
          go_roundw
          case rel => exact ⟨k + 1, by omega, by go_num, by rw [OS.out, if_neg (by omega), if_neg (by omega)], (hbr.alloc hz _).alloc (by simp; omega) _⟩
          case measure => simp [intOf]; omega
        · go_wp2
          go_roundw
          case rel => exact ⟨k + 1, by omega, by go_num, by rw [OS.out, if_neg (by omega), if_pos (by omega)], hbr.alloc hz _⟩
          case measure => simp [intOf]; omega
      · by_cases h10 : 10 ≤ x
        · go_wp2
          go_roundw
          case rel => exact ⟨k + 1, by omega, by go_num, by rw [OS.out, if_pos (by omega), if_neg (by omega)], (hbr.alloc hz _).alloc (by simp; omega) _⟩
          case measure => simp [intOf]; omega
        · go_wp2
          go_roundw
          case rel => exact ⟨k + 1, by omega, by go_num, by rw [OS.out, if_pos (by omega), if_pos (by omega)], hbr.alloc hz _⟩
          case measure => simp [intOf]; omega
    · obtain rfl : k = l.length := by omega
      have hsz := outB_size l l.length (fun n h => by have := hn.out n h; omega) hle
      have E : Hid (textB l = outB l l.length ++ ⟨#[125]⟩) := by unfold textB outB; rw [List.take_length]; exact rfl
      generalize outB l l.length = o at *
      go_wp2
      go_ret
      exact ⟨by rw [E.out]; rfl, hb.trans (hbr.mono hb.size)⟩
end Go.Proofs.YtkjaphmcagifpaaDoor
