/- The law of Finish. -/
import Derived.Test.YtmoieckmbimgoaaGA
import Derived.Test.YtmoieckmbimgoaaGC
namespace Go.Proofs.Ytmoieckmbimgoaa
open Go.RowKit M
set_option linter.unusedSimpArgs false
set_option linter.unusedVariables false

theorem fin_len (g : GR) : ∀ (n : Nat) (s : ByteArray), (finM g n s).1.length ≤ n
  | 0, s => Nat.le_refl 0
  | n + 1, s => by
    unfold finM
    split
    · simp
    · split
      · simp
      · split
        · rw [List.length_cons]; have := fin_len g n; exact Nat.succ_le_succ (this _)
        · simp
theorem fin_size (g : GR) : ∀ (n : Nat) (s : ByteArray), s.size ≤ 1099511627776 → (finM g n s).2.size ≤ 1099511627776
  | 0, s, h => h
  | n + 1, s, h => by
    unfold finM
    split
    · exact h
    · split
      · exact h
      · split
        · exact fin_size g n _ (Nat.le_trans (stepM_size g s _) (by decide))
        · exact h
set_option maxRecDepth 100000 in
set_option maxHeartbeats 4000000 in
theorem scriptFinishes_any (g : GR) (hr : ∀ l ∈ g.to, l.length ≤ 1048576) (a : Option Addr) (c n : Nat) (hn : g.to.length = n) (hn2 : n ≤ 1048576) (T : ByteArray) (hT : T.size ≤ 1099511627776) (most : Int) (w : World) (hR : RowsV w (.slice a n c) intE g.to) :
    Calls Try.prog 4 #[.agg #[.slice a n c, .int .u64 g.ends, .bool g.odd, .int .i64 g.holes], .string T, .int .i64 most] w fun e w' => e = .returned (.bool true) ∧ Below w.heap.size w w' := by
  have hSm := fun W => small_any a n c (.int .u64 g.ends) (.bool g.odd) (.int .i64 g.holes) W
  have hMk := fun W h => machine_any g a c n hn W h
  obtain ⟨ge, hge⟩ : ∃ x, g.ends = x := ⟨_, rfl⟩
  obtain ⟨go, hgo⟩ : ∃ x, g.odd = x := ⟨_, rfl⟩
  obtain ⟨gh, hgh⟩ : ∃ x, g.holes = x := ⟨_, rfl⟩
  rw [hge, hgo, hgh] at hSm hMk
  rw [hge, hgo, hgh]
  clear hge hgo hgh
  by_cases h1 : (n : Int) ≤ 200
  · by_cases h2 : most ≤ 3000
    · have hf : g.Few := ⟨by omega, hr⟩
      have hA := fun W bn bg (h : MG W g bn bg) => sfinish_any g hf T hT most h2 bn bg str0 W h
      have hB := fun W bn bg (h : MG W g bn bg) => rfinish_any g hf T hT most h2 bn bg str0 W h
      have hl : (finM g most.toNat T).1.length ≤ 3000 := Nat.le_trans (fin_len g _ T) (by omega)
      have hz := fin_size g most.toNat T hT
      obtain ⟨r, hfr⟩ : ∃ r, finM g most.toNat T = r := ⟨_, rfl⟩
      rw [hfr] at hA hB hl hz
      obtain ⟨d, s⟩ := r
      obtain ⟨m, hm⟩ : ∃ m, d.length = m := ⟨_, rfl⟩
      have hSP := fun W a1 a2 c1 c2 (h1 : Seg W a1 (d.flatMap pkL)) (h2 : Seg W a2 (d.flatMap pkL)) => samePicks_any d m hm (by have : d.length ≤ 3000 := hl; omega) a1 a2 c1 c2 W h1 h2
      have HA : Hid (∀ W bn bg, MG W g bn bg → Calls Try.prog 18 #[.agg (mcL str0 g bn bg).toArray, .string T, .int .i64 most] W fun e w' => ∃ v, e = .returned (.tuple #[v, .string s]) ∧ w'.ownsRow W.heap.size 35 3 v m (d.flatMap pkL) ∧ Below W.heap.size W w') := by rw [← hm]; exact hA
      have HB : Hid (∀ W bn bg, MG W g bn bg → Calls Try.prog 19 #[.agg (mcL str0 g bn bg).toArray, .string T, .int .i64 most] W fun e w' => ∃ v, e = .returned (.tuple #[v, .string s]) ∧ w'.ownsRow W.heap.size 35 3 v m (d.flatMap pkL) ∧ Below W.heap.size W w') := by rw [← hm]; exact hB
      have HR : Hid (RowsV w (.slice a n c) intE g.to) := hR
      have hMl : ∀ bn bg, (mcL str0 g bn bg).length = 4 := fun _ _ => rfl
      have hMo : ∀ bn bg, ∀ v ∈ mcL str0 g bn bg, v.oneCell' = true := fun bn bg => one4 (fnV_one ..) (fnV_one ..) (fnV_one ..)
      have HMl : Hid (∀ bn bg, (mcL str0 g bn bg).length = 4) := hMl
      have HMo : Hid (∀ bn bg, ∀ v ∈ mcL str0 g bn bg, v.oneCell' = true) := hMo
      generalize mcL str0 g = mc at HA HB hMk HMl HMo
      have hge : ¬ (3000 < most) := by omega
      have hs2 : s.size ≤ 1099511627776 := hz
      clear hA hB hl hfr hf hT hR hr hm hMl hMo hn hz
      have t1 : True := trivial
      have t2 : True := trivial
      have t3 : True := trivial
      have t4 : True := trivial
      have t5 : True := trivial
      have t6 : True := trivial
      have t7 : True := trivial
      go_enter Try.func4, Try.ntmps4
      go_wp2_with (first
        | (clear t1; refine wpList_boxS rfl 25 _ rfl [.slice a n c, .int .u64 ge, .bool go, .int .i64 gh] rfl ?_; intro W1 b1 F1 C1; have B1 := F_b F1; clear F1)
        | (clear t2; refine wpList_loadW rfl 25 _ rfl rfl C1 _ Try.underlying25 rfl infoGr ?_)
        | (go_at_call 5; refine (hSm _).mono ?_; rintro e W2 ⟨rfl, B2⟩; have B3 := Below.then B1 B2; have C2 := C1.grown B2; clear B2 C1)
        | (clear t3; refine wpList_loadW rfl 25 _ rfl rfl C2 _ Try.underlying25 rfl infoGr ?_)
        | (go_at_call 6; refine (hMk _ (HR.out.below B3)).mono ?_; rintro e W4 ⟨bn, bg, rfl, M4, B4⟩; have B5 := Below.then B3 B4; clear B4 C2)
        | (clear t4; refine wpList_allocS rfl 32 rfl _ zeroMc ?_; intro W5 b5 F5 K5; have M5 := M4.below (F_b F5); have B6 := Below.then B5 (F_b F5); have hb5 : w.heap.size ≤ b5 := Nat.le_trans B5.size (Nat.le_of_eq F5.at'.symm); have hc5 : W4.heap.size ≤ b5 := Nat.le_of_eq F5.at'.symm; have D5 := F_b F5; clear F5)
        | (clear t5; refine wpList_storeW rfl 32 _ _ rfl rfl (mc bn bg) rfl K5 (HMl.out bn bg) (by rw [HMl.out]; exact infoMc) (HMo.out bn bg) ?_; intro W6 U6 K6; have M6 := M4.below (U6.trans D5 hc5); have B7 := U6.trans B6 hb5; clear U6 K5 M5 D5)
        | (clear t6; refine wpList_loadW rfl 32 _ rfl rfl K6 _ Try.underlying32 rfl (by rw [HMl.out]; exact infoMc) ?_)
        | (go_at_call 18; refine (HA.out _ bn bg M6).mono ?_; rintro e W7 ⟨v7, rfl, O7, Bx7⟩; have M7 := M6.below Bx7; have K7 := K6.grown Bx7; have B8 := Below.then B7 Bx7; clear Bx7 K6 M6)
        | (clear t7; refine wpList_loadW rfl 32 _ rfl rfl K7 _ Try.underlying32 rfl (by rw [HMl.out]; exact infoMc) ?_)
        | (go_at_call 19; refine (HB.out _ bn bg M7).mono ?_; rintro e W8 ⟨v8, rfl, O8, Bx8⟩; have B9 := Below.then B8 Bx8; obtain ⟨a7, c7, ev7, s7, _⟩ := own_row (own_below O7 Bx8); subst ev7; obtain ⟨a8, c8, ev8, s8, _⟩ := own_row O8; subst ev8; clear Bx8 K7 M7 O7 O8)
        | (go_at_call 15; refine (hSP _ a7 a8 c7 c8 s7 s8).mono ?_; rintro e W9 ⟨rfl, Bx9⟩; have BA := Below.then B9 Bx9))
      go_ret
      exact ⟨rfl, BA⟩
    · have hge : 3000 < most := by omega
      clear hMk hr hn hR hT h2
      have t1 : True := trivial
      have t2 : True := trivial
      go_enter Try.func4, Try.ntmps4
      go_wp2_with (first
        | (clear t1; refine wpList_boxS rfl 25 _ rfl [.slice a n c, .int .u64 ge, .bool go, .int .i64 gh] rfl ?_; intro W1 b1 F1 C1; have B1 := F_b F1; clear F1)
        | (clear t2; refine wpList_loadW rfl 25 _ rfl rfl C1 _ Try.underlying25 rfl infoGr ?_)
        | (go_at_call 5; refine (hSm _).mono ?_; rintro e W2 ⟨rfl, B2⟩; have B3 := Below.then B1 B2))
      go_ret
      exact ⟨rfl, B3⟩
  · clear hMk hr hn hR hT
    have t1 : True := trivial
    have t2 : True := trivial
    go_enter Try.func4, Try.ntmps4
    go_wp2_with (first
      | (clear t1; refine wpList_boxS rfl 25 _ rfl [.slice a n c, .int .u64 ge, .bool go, .int .i64 gh] rfl ?_; intro W1 b1 F1 C1; have B1 := F_b F1; clear F1)
      | (clear t2; refine wpList_loadW rfl 25 _ rfl rfl C1 _ Try.underlying25 rfl infoGr ?_)
      | (go_at_call 5; refine (hSm _).mono ?_; rintro e W2 ⟨rfl, B2⟩; have B3 := Below.then B1 B2))
    go_ret
    exact ⟨rfl, B3⟩
end Go.Proofs.Ytmoieckmbimgoaa
