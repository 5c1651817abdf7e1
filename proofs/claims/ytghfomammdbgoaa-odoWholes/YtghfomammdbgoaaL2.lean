/- The law OdoWholes. -/
import Derived.Test.YtghfomammdbgoaaL1
namespace Go.Proofs.Ytghfomammdbgoaa
open Go.RowKit Go.Shelf K
set_option linter.unusedSimpArgs false
set_option linter.unusedVariables false

theorem pascal_two (x y : Nat) : chs (x + 1 + (y + 1)) (y + 1) = chs (x + (y + 1)) (y + 1) + chs (x + 1 + y) y := by
  have e1 : x + 1 + (y + 1) = (x + y + 1) + 1 := by omega
  have e2 : x + (y + 1) = x + y + 1 := by omega
  have e3 : x + 1 + y = x + y + 1 := by omega
  rw [e1, e2, e3, chs_pascal]
  omega
theorem chs_word (x y : Nat) (hx : x ≤ 30) (hy : y ≤ 30) : chs (x + y) y < 18446744073709551616 := by
  have h1 := chs_two (x + y) y
  have h2 : 2 ^ (x + y) ≤ 2 ^ 60 := Nat.pow_le_pow_right (by omega) (by omega)
  have h3 : (2 : Nat) ^ 60 < 18446744073709551616 := by decide
  omega
theorem fact_word (n : Nat) (h : n ≤ 20) : factN n < 18446744073709551616 := by
  have h1 := factN_mono h
  have h2 : factN 20 < 18446744073709551616 := by decide
  omega
theorem two_cast (x y : Nat) (v u : Int) (hv : v = x) (hu : u = y) (w : World) (hx : x ≤ 30) (hy : y ≤ 30) :
    Calls Try.prog 24 #[.int .i64 v, .int .i64 u] w fun e w' => e = .returned (.int .u64 (chs (x + y) y : Nat)) ∧ Below w.heap.size w w' := by
  rw [hv, hu]
  exact two_any x y w hx hy
theorem orders_cast (n : Nat) (v : Int) (hv : v = n) (w : World) (hn : n ≤ 64) :
    Calls Try.prog 23 #[.int .i64 v] w fun e w' => (∃ b, e = .returned (.tuple #[.pointer (some ⟨b, 0, none⟩), .int .i64 0]) ∧ IsO w' b n) ∧ Below w.heap.size w w' := by
  rw [hv]
  exact orders_ok n w hn

theorem nats_of (zs : List Int) (h : negs zs = false) : ∃ l : List Nat, zs = zsOf l := by
  refine ⟨zs.map Int.toNat, ?_⟩
  unfold negs at h
  rw [List.any_eq_false] at h
  unfold zsOf
  rw [List.map_map]
  refine (List.map_id zs).symm.trans (List.map_congr_left fun z hz => ?_)
  have := h z hz
  simp at this
  simp
  omega
theorem new_listZ {W : World} {base : Nat} {v : Value} {zs : List Int} {s : Int} (h : W.ownsRow base 3 1 v (zs.length + 1) (intsZ zs ++ [.int .i64 s])) : ∃ g c, v = .slice (some ⟨g, 0, none⟩) (zs.length + 1) c ∧ Nums W (some ⟨g, 0, none⟩) (zs ++ [s]) := by
  obtain ⟨g, c, rfl⟩ := ownsRow_succ h
  have h2 : W.ownsRow base 3 1 (.slice (some ⟨g, 0, none⟩) (zs.length + 1) c) (zs ++ [s]).length (intsZ (zs ++ [s])) := by
    have : (zs ++ [s]).length = zs.length + 1 := by simp
    rw [this]
    simpa [intsZ] using h
  obtain ⟨a, c', hv, hN⟩ := view_of_own h2
  injection hv with h3 h4 h5
  subst h3
  exact ⟨g, c, rfl, hN⟩
theorem new_list {W : World} {base : Nat} {v : Value} {l : List Nat} {s : Nat} (e : zsOf (l ++ [s]) = zsOf l ++ [(s : Int)]) (h : W.ownsRow base 3 1 v (l.length + 1) (intsZ (zsOf l) ++ [.int .i64 (s : Int)])) : ∃ g c, v = .slice (some ⟨g, 0, none⟩) (l.length + 1) c ∧ Nums W (some ⟨g, 0, none⟩) (zsOf (l ++ [s])) := by
  rw [e]
  have := new_listZ (zs := zsOf l) (s := (s : Int)) (base := base) (v := v) (W := W) (by rw [zsOf_len]; exact h)
  rw [zsOf_len] at this
  exact this

set_option maxRecDepth 1000000 in
set_option maxHeartbeats 8000000 in
theorem wholes_of (a : Option Addr) (cap len : Nat) (zs : List Int) (hlen : zs.length = len) (s n x y : Int) (w : World) (hNw : Nums w a zs) (ha : a = none → zs = [] ∧ cap = 0) (hz : ∀ z ∈ zs, z < 9223372036854775808) (hbig : len ≤ 1152921504606846976) :
    Calls Try.prog 7 #[.slice a len cap, .int .i64 s, .int .i64 n, .int .i64 x, .int .i64 y] w fun e w' => e = .returned (.bool true) ∧ Below w.heap.size w w' := by
  have cw := awake_any w
  go_enter Try.func7, Try.ntmps7
  refine wp_seq_k (fun K0 h0 => ?_)
  have H0 : Hid (∀ a w, _ → K0 a w) := h0
  clear h0
  go_wp2
  refine H0.out _ _ ?_
  clear H0 K0
  refine wp_seq_k (fun K1 h1 => ?_)
  have H1 : Hid (∀ a w, _ → K1 a w) := h1
  clear h1
  go_wp2_with (go_at_call 20; refine cw.mono ?_; rintro e w1 ⟨rfl, HB⟩)
  refine H1.out _ _ ?_
  clear H1 K1 cw
  refine wp_seq_k (fun K2 h2 => ?_)
  have H2 : Hid (∀ a w, _ → K2 a w) := h2
  clear h2
  have S : ∀ (u11 u12 u13 u14 u15 u16 u17 u18 u29 u30 u31 u32 u33 u34 u35 u36 u37 u38 u39 u40 u41 u42 u43 u44 u45 u46 u47 u48 u49 u50 u51 u52 u53 u54 u55 u56 u57 u58 u59 u60 u61 u62 u63 u64 u65 u66 u67 u68 u69 u70 u71 u72 u73 u74 u75 u76 u77 u78 u79 u80 u81 u82 u83 u84 u85 u86 u87 u88 u89 u90 u91 u92 u93 u94 u95 u96 u97 u98 u99 u100 u101 u102 : Value) (W : World), Below w.heap.size w W → K2 { tmps := #[.slice a len cap, .int .i64 s, .int .i64 n, .int .i64 x, .int .i64 y, undef, undef, undef, undef, undef, .bool false, u11, u12, u13, u14, u15, u16, u17, u18, undef, undef, undef, undef, undef, undef, undef, undef, .bool true, .bool false, u29, u30, u31, u32, u33, u34, u35, u36, u37, u38, u39, u40, u41, u42, u43, u44, u45, u46, u47, u48, u49, u50, u51, u52, u53, u54, u55, u56, u57, u58, u59, u60, u61, u62, u63, u64, u65, u66, u67, u68, u69, u70, u71, u72, u73, u74, u75, u76, u77, u78, u79, u80, u81, u82, u83, u84, u85, u86, u87, u88, u89, u90, u91, u92, u93, u94, u95, u96, u97, u98, u99, u100, u101, u102, undef, undef, undef, undef, undef, undef, undef, undef, undef, undef, undef, undef, undef, undef, undef, undef, undef, undef, undef, undef, undef, undef, undef, undef, undef, undef, undef, undef, undef, undef, undef, undef, undef, undef, undef, undef, undef, undef, undef, undef, undef, undef, undef, undef, undef, undef, undef, undef, undef, undef, undef, undef, undef, undef, undef, undef, undef, undef, undef, undef, undef, undef, undef, undef, undef, undef, undef, undef, undef, undef, undef, undef, undef, undef, undef, undef], defers := [] } W := by
    intro u11 u12 u13 u14 u15 u16 u17 u18 u29 u30 u31 u32 u33 u34 u35 u36 u37 u38 u39 u40 u41 u42 u43 u44 u45 u46 u47 u48 u49 u50 u51 u52 u53 u54 u55 u56 u57 u58 u59 u60 u61 u62 u63 u64 u65 u66 u67 u68 u69 u70 u71 u72 u73 u74 u75 u76 u77 u78 u79 u80 u81 u82 u83 u84 u85 u86 u87 u88 u89 u90 u91 u92 u93 u94 u95 u96 u97 u98 u99 u100 u101 u102 W HW
    refine H2.out _ _ ?_
    clear H2 HB
    refine wp_seq_k (fun K3 h3 => ?_)
    have H3 : Hid (∀ a w, _ → K3 a w) := h3
    clear h3
    have S3 : ∀ (u11 u12 u13 u14 u15 u16 u17 u18 u19 u20 u21 u22 u23 u24 u25 u26 u29 u30 u31 u32 u33 u34 u35 u36 u37 u38 u39 u40 u41 u42 u43 u44 u45 u46 u47 u48 u49 u50 u51 u52 u53 u54 u55 u56 u57 u58 u59 u60 u61 u62 u63 u64 u65 u66 u67 u68 u69 u70 u71 u72 u73 u74 u75 u76 u77 u78 u79 u80 u81 u82 u83 u84 u85 u86 u87 u88 u89 u90 u91 u92 u93 u94 u95 u96 u97 u98 u99 u100 u101 u102 u103 u104 u105 u106 u107 u108 u109 u110 u111 u112 u113 u114 u115 u116 u117 u118 u119 u120 u121 u122 u123 u124 u125 u126 u127 u128 u129 u130 u131 u132 u133 u134 u135 u136 u137 u138 u139 u140 u141 u142 u143 u144 u145 u146 : Value) (W : World), Below w.heap.size w W → K3 { tmps := #[.slice a len cap, .int .i64 s, .int .i64 n, .int .i64 x, .int .i64 y, undef, undef, undef, undef, undef, .bool false, u11, u12, u13, u14, u15, u16, u17, u18, u19, u20, u21, u22, u23, u24, u25, u26, .bool true, .bool false, u29, u30, u31, u32, u33, u34, u35, u36, u37, u38, u39, u40, u41, u42, u43, u44, u45, u46, u47, u48, u49, u50, u51, u52, u53, u54, u55, u56, u57, u58, u59, u60, u61, u62, u63, u64, u65, u66, u67, u68, u69, u70, u71, u72, u73, u74, u75, u76, u77, u78, u79, u80, u81, u82, u83, u84, u85, u86, u87, u88, u89, u90, u91, u92, u93, u94, u95, u96, u97, u98, u99, u100, u101, u102, u103, u104, u105, u106, u107, u108, u109, u110, u111, u112, u113, u114, u115, u116, u117, u118, u119, u120, u121, u122, u123, u124, u125, u126, u127, u128, u129, u130, u131, u132, u133, u134, u135, u136, u137, u138, u139, u140, u141, u142, u143, u144, u145, u146, undef, undef, undef, undef, undef, undef, undef, undef, undef, undef, undef, undef, undef, undef, undef, undef, undef, undef, undef, undef, undef, undef, undef, undef, undef, undef, undef, undef, undef, undef, undef, undef], defers := [] } W := by
      clear HW
      clear u11 u12 u13 u14 u15 u16 u17 u18 u29 u30 u31 u32 u33 u34 u35 u36 u37 u38 u39 u40 u41 u42 u43 u44 u45 u46 u47 u48 u49 u50 u51 u52 u53 u54 u55 u56 u57 u58 u59 u60 u61 u62 u63 u64 u65 u66 u67 u68 u69 u70 u71 u72 u73 u74 u75 u76 u77 u78 u79 u80 u81 u82 u83 u84 u85 u86 u87 u88 u89 u90 u91 u92 u93 u94 u95 u96 u97 u98 u99 u100 u101 u102 W
      intro u11 u12 u13 u14 u15 u16 u17 u18 u19 u20 u21 u22 u23 u24 u25 u26 u29 u30 u31 u32 u33 u34 u35 u36 u37 u38 u39 u40 u41 u42 u43 u44 u45 u46 u47 u48 u49 u50 u51 u52 u53 u54 u55 u56 u57 u58 u59 u60 u61 u62 u63 u64 u65 u66 u67 u68 u69 u70 u71 u72 u73 u74 u75 u76 u77 u78 u79 u80 u81 u82 u83 u84 u85 u86 u87 u88 u89 u90 u91 u92 u93 u94 u95 u96 u97 u98 u99 u100 u101 u102 u103 u104 u105 u106 u107 u108 u109 u110 u111 u112 u113 u114 u115 u116 u117 u118 u119 u120 u121 u122 u123 u124 u125 u126 u127 u128 u129 u130 u131 u132 u133 u134 u135 u136 u137 u138 u139 u140 u141 u142 u143 u144 u145 u146 W HW
      refine H3.out _ _ ?_
      clear H3
      by_cases hC : 1 ≤ x ∧ x ≤ 30 ∧ 1 ≤ y ∧ y ≤ 30
      · obtain ⟨X, rfl⟩ : ∃ X : Nat, x = (X : Int) + 1 := ⟨(x - 1).toNat, by omega⟩
        obtain ⟨Y, rfl⟩ : ∃ Y : Nat, y = (Y : Int) + 1 := ⟨(y - 1).toNat, by omega⟩
        have hX : X ≤ 29 := by omega
        have hY : Y ≤ 29 := by omega
        have c1 : Hid (∀ W, Calls Try.prog 24 #[.int .i64 ((X : Int) + 1), .int .i64 ((Y : Int) + 1)] W fun e w' => e = .returned (.int .u64 ((chs (X + (Y + 1)) (Y + 1) + chs (X + 1 + Y) Y : Nat) : Int)) ∧ Below W.heap.size W w') := fun W => by
          have := two_cast (X + 1) (Y + 1) ((X : Int) + 1) ((Y : Int) + 1) (by omega) (by omega) W (by omega) (by omega)
          rw [pascal_two] at this
          exact this
        have c2 : Hid (∀ W, Calls Try.prog 24 #[.int .i64 (X : Int), .int .i64 ((Y : Int) + 1)] W fun e w' => e = .returned (.int .u64 (chs (X + (Y + 1)) (Y + 1) : Nat)) ∧ Below W.heap.size W w') := fun W => two_cast X (Y + 1) _ _ (by omega) (by omega) W (by omega) (by omega)
        have c3 : Hid (∀ W, Calls Try.prog 24 #[.int .i64 ((X : Int) + 1), .int .i64 (Y : Int)] W fun e w' => e = .returned (.int .u64 (chs (X + 1 + Y) Y : Nat)) ∧ Below W.heap.size W w') := fun W => two_cast (X + 1) Y _ _ (by omega) (by omega) W (by omega) (by omega)
        have c4 : Hid (∀ W, Calls Try.prog 24 #[.int .i64 ((X : Int) + 1), .int .i64 0] W fun e w' => e = .returned (.int .u64 1) ∧ Below W.heap.size W w') := fun W => by
          have := two_cast (X + 1) 0 ((X : Int) + 1) 0 (by omega) (by omega) W (by omega) (by omega)
          rw [chs_zero] at this
          exact this
        have hl := chs_word (X + 1) (Y + 1) (by omega) (by omega)
        rw [pascal_two] at hl
        generalize chs (X + (Y + 1)) (Y + 1) = p at *
        generalize chs (X + 1 + Y) Y = q at *
        have e1 : IntKind.u64.wrap ((p : Int) + (q : Int)) = (p : Int) + (q : Int) := by rw [addN]; exact wrapU _ hl
        clear hC
        have tk1 : True := trivial
        have tk2 : True := trivial
        have tk3 : True := trivial
        go_wp2_with (first
          | (go_at_call 24; clear tk1; refine (c1.out _).mono ?_; rintro e w1 ⟨rfl, hb⟩; replace HW := Below.then HW hb; clear hb c1)
          | (go_at_call 24; clear tk2; refine (c2.out _).mono ?_; rintro e w1 ⟨rfl, hb⟩; replace HW := Below.then HW hb; clear hb c2)
          | (go_at_call 24; clear tk3; refine (c3.out _).mono ?_; rintro e w1 ⟨rfl, hb⟩; replace HW := Below.then HW hb; clear hb c3)
          | (go_at_call 24; refine (c4.out _).mono ?_; rintro e w1 ⟨rfl, hb⟩; replace HW := Below.then HW hb; clear hb c4))
        go_ret
        exact ⟨rfl, HW⟩
      · have hC2 : x < 1 ∨ 30 < x ∨ y < 1 ∨ 30 < y := by omega
        clear hC
        rcases hC2 with h | h | h | h
        · go_wp2
          go_ret
          exact ⟨rfl, HW⟩
        · by_cases h1 : y < 1
          · have h2 : ¬ x < 1 := by omega
            go_wp2
            go_ret
            exact ⟨rfl, HW⟩
          · have h2 : ¬ x < 1 := by omega
            go_wp2
            go_ret
            exact ⟨rfl, HW⟩
        · by_cases h1 : x < 1
          · go_wp2
            go_ret
            exact ⟨rfl, HW⟩
          · go_wp2
            go_ret
            exact ⟨rfl, HW⟩
        · have h2 : ¬ y < 1 := by omega
          by_cases h1 : x < 1
          · go_wp2
            go_ret
            exact ⟨rfl, HW⟩
          · by_cases h3 : 30 < x
            · go_wp2
              go_ret
              exact ⟨rfl, HW⟩
            · go_wp2
              go_ret
              exact ⟨rfl, HW⟩
    clear H3
    by_cases hB : 0 ≤ n ∧ n < 20
    · obtain ⟨N, rfl⟩ : ∃ N : Nat, n = (N : Int) := ⟨n.toNat, by omega⟩
      have hN : N ≤ 19 := by omega
      clear hB
      have hF := fact_word N (by omega)
      have hG := fact_word (N + 1) (by omega)
      have c1 : Hid (∀ W, Calls Try.prog 23 #[.int .i64 (N : Int)] W fun e w' => (∃ b, e = .returned (.tuple #[.pointer (some ⟨b, 0, none⟩), .int .i64 0]) ∧ IsO w' b N) ∧ Below W.heap.size W w') := fun W => orders_ok N W (by omega)
      have c2 : Hid (∀ W, Calls Try.prog 23 #[.int .i64 ((N : Int) + 1)] W fun e w' => (∃ b, e = .returned (.tuple #[.pointer (some ⟨b, 0, none⟩), .int .i64 0]) ∧ IsO w' b (N + 1)) ∧ Below W.heap.size W w') := fun W => orders_cast (N + 1) _ (by omega) W (by omega)
      have LF : Hid (∀ b W, IsO W b N → Calls Try.prog 9 #[.pointer (some ⟨b, 0, none⟩)] W fun e w' => e = .returned (.tuple #[.int .u64 (factN N : Nat), .int .i64 0]) ∧ Below W.heap.size W w') := fun b W h => by
        have := olen h
        rw [lenV, if_pos hF] at this
        exact this
      have LG : Hid (∀ b W, IsO W b (N + 1) → Calls Try.prog 9 #[.pointer (some ⟨b, 0, none⟩)] W fun e w' => e = .returned (.tuple #[.int .u64 (factN (N + 1) : Nat), .int .i64 0]) ∧ Below W.heap.size W w') := fun b W h => by
        have := olen h
        rw [lenV, if_pos hG] at this
        exact this
      have hE : factN (N + 1) = factN N * (N + 1) := rfl
      generalize factN (N + 1) = G at *
      generalize factN N = F at *
      have e1 : IntKind.u64.wrap ((N : Int) + 1) = (N : Int) + 1 := by rw [IntKind.wrap_u64]; omega
      have e2 : IntKind.u64.wrap ((F : Int) * ((N : Int) + 1)) = (G : Int) := by
        have e : (F : Int) * ((N : Int) + 1) = ((F * (N + 1) : Nat) : Int) := by rw [Int.natCast_mul]; rfl
        rw [e, ← hE]
        exact wrapU _ hG
      clear hE hF hG
      have tk1 : True := trivial
      have tk2 : True := trivial
      go_wp2_with (first
        | (go_at_call 23; clear tk1; refine (c1.out _).mono ?_; rintro e w1 ⟨⟨b1, rfl, h1⟩, hb⟩; replace HW := Below.then HW hb; clear hb c1)
        | (go_at_call 23; refine (c2.out _).mono ?_; rintro e w1 ⟨⟨b2, rfl, h2⟩, hb⟩; replace HW := Below.then HW hb; replace h1 := h1.below hb; clear hb c2)
        | (go_at_call 9; clear tk2; refine (LF.out _ _ h1).mono ?_; rintro e w1 ⟨rfl, hb⟩; replace HW := Below.then HW hb; replace h2 := h2.below hb; clear hb LF h1)
        | (go_at_call 9; refine (LG.out _ _ h2).mono ?_; rintro e w1 ⟨rfl, hb⟩; replace HW := Below.then HW hb; clear hb LG h2))
      exact HW
    · have hB2 : n < 0 ∨ 19 < n := by omega
      clear hB
      rcases hB2 with h | h
      · go_wp2
      · have h2 : ¬ n < 20 := by omega
        have h3 : 0 ≤ n := by omega
        go_wp2
  clear H2
  replace hNw := hNw.below HB
  by_cases hA : len < 64 ∧ 0 ≤ s ∧ s < 1048576
  · obtain ⟨Sz, rfl⟩ : ∃ Sz : Nat, s = (Sz : Int) := ⟨s.toNat, by omega⟩
    have hl64 := hA.1
    have hS := hA.2.2
    clear hA
    obtain ⟨i0, hi, hz0, hz1, hz2⟩ := info_parts info3
    have OWN0 : Hid (∀ W : World, (W.alloc (.cells #[] 3)).ownsRow W.heap.size 3 1 (.slice (some ⟨W.heap.size, 0, none⟩) 0 0) 0 []) := fun W => World.ownsRow_lit W #[] 0 (Nat.le_refl _) (by decide) rfl
    have tk1 : True := trivial
    have tk2 : True := trivial
    cases hn : negs zs
    · obtain ⟨l, rfl⟩ := nats_of zs hn
      obtain rfl : l.length = len := by rw [← hlen, zsOf_len]
      have hx : ∀ n ∈ l, n < 9223372036854775808 := fun n hm => by
        have := hz (n : Int) (by simp only [zsOf, List.mem_map]; exact ⟨n, hm, rfl⟩)
        omega
      have hNil : Hid (a = none → l = []) := fun e => by have := (ha e).1; cases l with | nil => rfl | cons b l => simp [zsOf] at this
      have c1 : Hid (∀ W, Nums W a (zsOf l) → Calls Try.prog 22 #[.slice a l.length cap] W fun e w' => (∃ b, e = .returned (.tuple #[.pointer (some ⟨b, 0, none⟩), .int .i64 0]) ∧ IsP w' b l) ∧ Below W.heap.size W w') := fun W h => product_ok a cap l W h hNil.out (by omega) hx
      have c2 : Hid (∀ a2 cap2 W, Nums W a2 (zsOf (l ++ [Sz])) → (a2 ≠ none) → Calls Try.prog 22 #[.slice a2 (l.length + 1) cap2] W fun e w' => (∃ b, e = .returned (.tuple #[.pointer (some ⟨b, 0, none⟩), .int .i64 0]) ∧ IsP w' b (l ++ [Sz])) ∧ Below W.heap.size W w') := fun a2 cap2 W h h2 => by
        have := product_ok a2 cap2 (l ++ [Sz]) W h (fun e => absurd e h2) (by simp; omega) (fun n hn => by
          rcases List.mem_append.1 hn with h | h
          · exact hx n h
          · simp at h; omega)
        simpa using this
      have L1 : ∀ b W, IsP W b l → Calls Try.prog 9 #[.pointer (some ⟨b, 0, none⟩)] W fun e w' => e = .returned (lenV (prodN l)) ∧ Below W.heap.size W w' := fun b W h => plen h
      have L2 : ∀ b W, IsP W b (l ++ [Sz]) → Calls Try.prog 9 #[.pointer (some ⟨b, 0, none⟩)] W fun e w' => e = .returned (lenV (prodN l * Sz)) ∧ Below W.heap.size W w' := fun b W h => by
        have := plen h
        rw [prodN_snoc] at this
        exact this
      have HZ : Hid (zsOf (l ++ [Sz]) = zsOf l ++ [(Sz : Int)]) := (show zsOf (l ++ [Sz]) = zsOf l ++ [(Sz : Int)] by simp [zsOf])
      have hCap : Hid (a = none → cap = 0) := fun e => (ha e).2
      clear hx hz hn ha hlen
      have hli : (l.length : Int) < 64 := by omega
      have eS : IntKind.u64.wrap (Sz : Int) = (Sz : Int) := wrapU Sz (by omega)
      generalize prodN l = P at *
      have key : (P < 18446744073709551616 ∧ P * Sz < 18446744073709551616) ∨ (P < 18446744073709551616 ∧ ¬ P * Sz < 18446744073709551616 ∧ 1099511627776 ≤ P) ∨ (¬ P < 18446744073709551616 ∧ P * Sz < 18446744073709551616) ∨ (¬ P < 18446744073709551616 ∧ ¬ P * Sz < 18446744073709551616) := by
        by_cases h1 : P < 18446744073709551616 <;> by_cases h2 : P * Sz < 18446744073709551616
        · exact .inl ⟨h1, h2⟩
        · refine .inr (.inl ⟨h1, h2, ?_⟩)
          apply Nat.le_of_not_lt
          intro h3
          have := Nat.mul_lt_mul_of_lt_of_le h3 (show Sz ≤ 1048576 by omega) (by omega)
          omega
        · exact .inr (.inr (.inl ⟨h1, h2⟩))
        · exact .inr (.inr (.inr ⟨h1, h2⟩))
      cases a with
      | none =>
        obtain rfl : l = [] := hNil.out rfl
        obtain rfl : cap = 0 := hCap.out rfl
        simp only [List.length_nil, List.nil_append, Nat.zero_add] at c1 c2 L1 L2 HZ hNw hli
        rcases key with ⟨h1, h2⟩ | ⟨h1, h2, h40⟩ | ⟨h1, h2⟩ | ⟨h1, h2⟩
        · obtain ⟨R, hR⟩ : ∃ R, P * Sz = R := ⟨_, rfl⟩
          have M1 : Hid (∀ b W, IsP W b [] → Calls Try.prog 9 #[.pointer (some ⟨b, 0, none⟩)] W fun e w' => e = .returned (.tuple #[.int .u64 (P : Nat), .int .i64 0]) ∧ Below W.heap.size W w') := fun b W h => by have := L1 b W h; rw [lenV, if_pos h1] at this; exact this
          have M2 : Hid (∀ b W, IsP W b [Sz] → Calls Try.prog 9 #[.pointer (some ⟨b, 0, none⟩)] W fun e w' => e = .returned (.tuple #[.int .u64 (R : Nat), .int .i64 0]) ∧ Below W.heap.size W w') := fun b W h => by have := L2 b W h; rw [lenV, if_pos h2] at this; rw [hR] at this; exact this
          have eP : IntKind.u64.wrap ((P : Int) * (Sz : Int)) = (R : Int) := by rw [mulN, hR]; exact wrapU _ (by rw [← hR]; exact h2)
          clear h1 h2 L1 L2 hR
          by_cases hP40 : (P : Int) < 1099511627776
          · go_wp2_with (first
              | (go_at_call 22; clear tk1; refine (c1.out _ hNw).mono ?_; rintro e w2 ⟨⟨b1, rfl, h1⟩, hb⟩; replace HB := Below.then HB hb; have hN2 := hNw.below hb; clear hb c1)
              | (at_builtin; refine wpList_append_own_none rfl (.tmp 46) (.tmp 47) 22 rfl w2.heap.size 3 i0 1 Try.underlying22 hi _ 0 [] rfl (OWN0.out w2) rfl ?_; have Ba := below_lit w2 (.cells #[] 3); have own1 := OWN0.out w2; obtain ⟨wa, hwa⟩ : ∃ wa, w2.alloc (.cells #[] 3) = wa := ⟨_, rfl⟩; rw [hwa] at Ba own1 ⊢; clear hwa)
              | (at_builtin; refine wpList_append_own _ rfl (.tmp 48) (.tmp 50) 22 rfl w2.heap.size 3 i0 (.int .i64 0) 1 8 Try.underlying22 hi hz0 hz1 hz2 rfl (by decide) _ 0 [] rfl (own1.alloc _) ⟨wa.heap.size, 0, none⟩ 1 1 [.int .i64 (Sz : Int)] rfl rfl (cell_one_new _ _ _) (by simp [Value.oneCell']) (by unfold maxLen; omega) (by omega) (by have := Ba.size; simp; omega) ?_; intro v2 wb own2 grow2 hif2; clear hif2; have Bb := ((Ba.alloc Ba.size (.cells #[.int .i64 (Sz : Int)] 3)).grown grow2 (by have := Ba.size; simp; omega) (fun k e => ((own1.alloc (.cells #[.int .i64 (Sz : Int)] 3)).lt k e).1)); obtain ⟨g, cg, rfl, N2⟩ := new_list (l := []) HZ.out own2; replace h1 := h1.below Bb; replace HB := Below.then HB Bb; clear own1 own2 grow2 Ba Bb)
              | (go_at_call 22; refine (c2.out _ _ _ N2 (by simp)).mono ?_; rintro e w3 ⟨⟨b2, rfl, h2⟩, hb⟩; replace HB := Below.then HB hb; replace h1 := h1.below hb; clear hb c2)
              | (go_at_call 9; clear tk2; refine (M1.out _ _ h1).mono ?_; rintro e w4 ⟨rfl, hb⟩; replace HB := Below.then HB hb; replace h2 := h2.below hb; clear hb M1)
              | (go_at_call 9; refine (M2.out _ _ h2).mono ?_; rintro e w5 ⟨rfl, hb⟩; replace HB := Below.then HB hb; clear hb M2))
            all_goals exact HB
          · have hP41 : ((P : Int) < 1099511627776) = False := eq_false hP40
            clear hP40
            go_wp2_with (first
              | (go_at_call 22; clear tk1; refine (c1.out _ hNw).mono ?_; rintro e w2 ⟨⟨b1, rfl, h1⟩, hb⟩; replace HB := Below.then HB hb; have hN2 := hNw.below hb; clear hb c1)
              | (at_builtin; refine wpList_append_own_none rfl (.tmp 46) (.tmp 47) 22 rfl w2.heap.size 3 i0 1 Try.underlying22 hi _ 0 [] rfl (OWN0.out w2) rfl ?_; have Ba := below_lit w2 (.cells #[] 3); have own1 := OWN0.out w2; obtain ⟨wa, hwa⟩ : ∃ wa, w2.alloc (.cells #[] 3) = wa := ⟨_, rfl⟩; rw [hwa] at Ba own1 ⊢; clear hwa)
              | (at_builtin; refine wpList_append_own _ rfl (.tmp 48) (.tmp 50) 22 rfl w2.heap.size 3 i0 (.int .i64 0) 1 8 Try.underlying22 hi hz0 hz1 hz2 rfl (by decide) _ 0 [] rfl (own1.alloc _) ⟨wa.heap.size, 0, none⟩ 1 1 [.int .i64 (Sz : Int)] rfl rfl (cell_one_new _ _ _) (by simp [Value.oneCell']) (by unfold maxLen; omega) (by omega) (by have := Ba.size; simp; omega) ?_; intro v2 wb own2 grow2 hif2; clear hif2; have Bb := ((Ba.alloc Ba.size (.cells #[.int .i64 (Sz : Int)] 3)).grown grow2 (by have := Ba.size; simp; omega) (fun k e => ((own1.alloc (.cells #[.int .i64 (Sz : Int)] 3)).lt k e).1)); obtain ⟨g, cg, rfl, N2⟩ := new_list (l := []) HZ.out own2; replace h1 := h1.below Bb; replace HB := Below.then HB Bb; clear own1 own2 grow2 Ba Bb)
              | (go_at_call 22; refine (c2.out _ _ _ N2 (by simp)).mono ?_; rintro e w3 ⟨⟨b2, rfl, h2⟩, hb⟩; replace HB := Below.then HB hb; replace h1 := h1.below hb; clear hb c2)
              | (go_at_call 9; clear tk2; refine (M1.out _ _ h1).mono ?_; rintro e w4 ⟨rfl, hb⟩; replace HB := Below.then HB hb; replace h2 := h2.below hb; clear hb M1)
              | (go_at_call 9; refine (M2.out _ _ h2).mono ?_; rintro e w5 ⟨rfl, hb⟩; replace HB := Below.then HB hb; clear hb M2))
            all_goals exact HB
        · skip
          have M1 : Hid (∀ b W, IsP W b [] → Calls Try.prog 9 #[.pointer (some ⟨b, 0, none⟩)] W fun e w' => e = .returned (.tuple #[.int .u64 (P : Nat), .int .i64 0]) ∧ Below W.heap.size W w') := fun b W h => by have := L1 b W h; rw [lenV, if_pos h1] at this; exact this
          have M2 : Hid (∀ b W, IsP W b [Sz] → Calls Try.prog 9 #[.pointer (some ⟨b, 0, none⟩)] W fun e w' => e = .returned (.tuple #[.int .u64 0, .int .i64 30]) ∧ Below W.heap.size W w') := fun b W h => by have := L2 b W h; rw [lenV, if_neg h2] at this; exact this
          have hP41 : ((P : Int) < 1099511627776) = False := eq_false (by omega)
          clear h1 h2 L1 L2 h40
          go_wp2_with (first
            | (go_at_call 22; clear tk1; refine (c1.out _ hNw).mono ?_; rintro e w2 ⟨⟨b1, rfl, h1⟩, hb⟩; replace HB := Below.then HB hb; have hN2 := hNw.below hb; clear hb c1)
            | (at_builtin; refine wpList_append_own_none rfl (.tmp 46) (.tmp 47) 22 rfl w2.heap.size 3 i0 1 Try.underlying22 hi _ 0 [] rfl (OWN0.out w2) rfl ?_; have Ba := below_lit w2 (.cells #[] 3); have own1 := OWN0.out w2; obtain ⟨wa, hwa⟩ : ∃ wa, w2.alloc (.cells #[] 3) = wa := ⟨_, rfl⟩; rw [hwa] at Ba own1 ⊢; clear hwa)
            | (at_builtin; refine wpList_append_own _ rfl (.tmp 48) (.tmp 50) 22 rfl w2.heap.size 3 i0 (.int .i64 0) 1 8 Try.underlying22 hi hz0 hz1 hz2 rfl (by decide) _ 0 [] rfl (own1.alloc _) ⟨wa.heap.size, 0, none⟩ 1 1 [.int .i64 (Sz : Int)] rfl rfl (cell_one_new _ _ _) (by simp [Value.oneCell']) (by unfold maxLen; omega) (by omega) (by have := Ba.size; simp; omega) ?_; intro v2 wb own2 grow2 hif2; clear hif2; have Bb := ((Ba.alloc Ba.size (.cells #[.int .i64 (Sz : Int)] 3)).grown grow2 (by have := Ba.size; simp; omega) (fun k e => ((own1.alloc (.cells #[.int .i64 (Sz : Int)] 3)).lt k e).1)); obtain ⟨g, cg, rfl, N2⟩ := new_list (l := []) HZ.out own2; replace h1 := h1.below Bb; replace HB := Below.then HB Bb; clear own1 own2 grow2 Ba Bb)
            | (go_at_call 22; refine (c2.out _ _ _ N2 (by simp)).mono ?_; rintro e w3 ⟨⟨b2, rfl, h2⟩, hb⟩; replace HB := Below.then HB hb; replace h1 := h1.below hb; clear hb c2)
            | (go_at_call 9; clear tk2; refine (M1.out _ _ h1).mono ?_; rintro e w4 ⟨rfl, hb⟩; replace HB := Below.then HB hb; replace h2 := h2.below hb; clear hb M1)
            | (go_at_call 9; refine (M2.out _ _ h2).mono ?_; rintro e w5 ⟨rfl, hb⟩; replace HB := Below.then HB hb; clear hb M2))
          all_goals exact HB
        · obtain ⟨R, hR⟩ : ∃ R, P * Sz = R := ⟨_, rfl⟩
          have M1 : Hid (∀ b W, IsP W b [] → Calls Try.prog 9 #[.pointer (some ⟨b, 0, none⟩)] W fun e w' => e = .returned (.tuple #[.int .u64 0, .int .i64 30]) ∧ Below W.heap.size W w') := fun b W h => by have := L1 b W h; rw [lenV, if_neg h1] at this; exact this
          have M2 : Hid (∀ b W, IsP W b [Sz] → Calls Try.prog 9 #[.pointer (some ⟨b, 0, none⟩)] W fun e w' => e = .returned (.tuple #[.int .u64 (R : Nat), .int .i64 0]) ∧ Below W.heap.size W w') := fun b W h => by have := L2 b W h; rw [lenV, if_pos h2] at this; rw [hR] at this; exact this
          clear h1 h2 L1 L2 hR
          go_wp2_with (first
            | (go_at_call 22; clear tk1; refine (c1.out _ hNw).mono ?_; rintro e w2 ⟨⟨b1, rfl, h1⟩, hb⟩; replace HB := Below.then HB hb; have hN2 := hNw.below hb; clear hb c1)
            | (at_builtin; refine wpList_append_own_none rfl (.tmp 46) (.tmp 47) 22 rfl w2.heap.size 3 i0 1 Try.underlying22 hi _ 0 [] rfl (OWN0.out w2) rfl ?_; have Ba := below_lit w2 (.cells #[] 3); have own1 := OWN0.out w2; obtain ⟨wa, hwa⟩ : ∃ wa, w2.alloc (.cells #[] 3) = wa := ⟨_, rfl⟩; rw [hwa] at Ba own1 ⊢; clear hwa)
            | (at_builtin; refine wpList_append_own _ rfl (.tmp 48) (.tmp 50) 22 rfl w2.heap.size 3 i0 (.int .i64 0) 1 8 Try.underlying22 hi hz0 hz1 hz2 rfl (by decide) _ 0 [] rfl (own1.alloc _) ⟨wa.heap.size, 0, none⟩ 1 1 [.int .i64 (Sz : Int)] rfl rfl (cell_one_new _ _ _) (by simp [Value.oneCell']) (by unfold maxLen; omega) (by omega) (by have := Ba.size; simp; omega) ?_; intro v2 wb own2 grow2 hif2; clear hif2; have Bb := ((Ba.alloc Ba.size (.cells #[.int .i64 (Sz : Int)] 3)).grown grow2 (by have := Ba.size; simp; omega) (fun k e => ((own1.alloc (.cells #[.int .i64 (Sz : Int)] 3)).lt k e).1)); obtain ⟨g, cg, rfl, N2⟩ := new_list (l := []) HZ.out own2; replace h1 := h1.below Bb; replace HB := Below.then HB Bb; clear own1 own2 grow2 Ba Bb)
            | (go_at_call 22; refine (c2.out _ _ _ N2 (by simp)).mono ?_; rintro e w3 ⟨⟨b2, rfl, h2⟩, hb⟩; replace HB := Below.then HB hb; replace h1 := h1.below hb; clear hb c2)
            | (go_at_call 9; clear tk2; refine (M1.out _ _ h1).mono ?_; rintro e w4 ⟨rfl, hb⟩; replace HB := Below.then HB hb; replace h2 := h2.below hb; clear hb M1)
            | (go_at_call 9; refine (M2.out _ _ h2).mono ?_; rintro e w5 ⟨rfl, hb⟩; replace HB := Below.then HB hb; clear hb M2))
          all_goals exact HB
        · skip
          have M1 : Hid (∀ b W, IsP W b [] → Calls Try.prog 9 #[.pointer (some ⟨b, 0, none⟩)] W fun e w' => e = .returned (.tuple #[.int .u64 0, .int .i64 30]) ∧ Below W.heap.size W w') := fun b W h => by have := L1 b W h; rw [lenV, if_neg h1] at this; exact this
          have M2 : Hid (∀ b W, IsP W b [Sz] → Calls Try.prog 9 #[.pointer (some ⟨b, 0, none⟩)] W fun e w' => e = .returned (.tuple #[.int .u64 0, .int .i64 30]) ∧ Below W.heap.size W w') := fun b W h => by have := L2 b W h; rw [lenV, if_neg h2] at this; exact this
          clear h1 h2 L1 L2
          go_wp2_with (first
            | (go_at_call 22; clear tk1; refine (c1.out _ hNw).mono ?_; rintro e w2 ⟨⟨b1, rfl, h1⟩, hb⟩; replace HB := Below.then HB hb; have hN2 := hNw.below hb; clear hb c1)
            | (at_builtin; refine wpList_append_own_none rfl (.tmp 46) (.tmp 47) 22 rfl w2.heap.size 3 i0 1 Try.underlying22 hi _ 0 [] rfl (OWN0.out w2) rfl ?_; have Ba := below_lit w2 (.cells #[] 3); have own1 := OWN0.out w2; obtain ⟨wa, hwa⟩ : ∃ wa, w2.alloc (.cells #[] 3) = wa := ⟨_, rfl⟩; rw [hwa] at Ba own1 ⊢; clear hwa)
            | (at_builtin; refine wpList_append_own _ rfl (.tmp 48) (.tmp 50) 22 rfl w2.heap.size 3 i0 (.int .i64 0) 1 8 Try.underlying22 hi hz0 hz1 hz2 rfl (by decide) _ 0 [] rfl (own1.alloc _) ⟨wa.heap.size, 0, none⟩ 1 1 [.int .i64 (Sz : Int)] rfl rfl (cell_one_new _ _ _) (by simp [Value.oneCell']) (by unfold maxLen; omega) (by omega) (by have := Ba.size; simp; omega) ?_; intro v2 wb own2 grow2 hif2; clear hif2; have Bb := ((Ba.alloc Ba.size (.cells #[.int .i64 (Sz : Int)] 3)).grown grow2 (by have := Ba.size; simp; omega) (fun k e => ((own1.alloc (.cells #[.int .i64 (Sz : Int)] 3)).lt k e).1)); obtain ⟨g, cg, rfl, N2⟩ := new_list (l := []) HZ.out own2; replace h1 := h1.below Bb; replace HB := Below.then HB Bb; clear own1 own2 grow2 Ba Bb)
            | (go_at_call 22; refine (c2.out _ _ _ N2 (by simp)).mono ?_; rintro e w3 ⟨⟨b2, rfl, h2⟩, hb⟩; replace HB := Below.then HB hb; replace h1 := h1.below hb; clear hb c2)
            | (go_at_call 9; clear tk2; refine (M1.out _ _ h1).mono ?_; rintro e w4 ⟨rfl, hb⟩; replace HB := Below.then HB hb; replace h2 := h2.below hb; clear hb M1)
            | (go_at_call 9; refine (M2.out _ _ h2).mono ?_; rintro e w5 ⟨rfl, hb⟩; replace HB := Below.then HB hb; clear hb M2))
          all_goals exact HB
      | some ad =>
        rcases key with ⟨h1, h2⟩ | ⟨h1, h2, h40⟩ | ⟨h1, h2⟩ | ⟨h1, h2⟩
        · obtain ⟨R, hR⟩ : ∃ R, P * Sz = R := ⟨_, rfl⟩
          have M1 : Hid (∀ b W, IsP W b l → Calls Try.prog 9 #[.pointer (some ⟨b, 0, none⟩)] W fun e w' => e = .returned (.tuple #[.int .u64 (P : Nat), .int .i64 0]) ∧ Below W.heap.size W w') := fun b W h => by have := L1 b W h; rw [lenV, if_pos h1] at this; exact this
          have M2 : Hid (∀ b W, IsP W b (l ++ [Sz]) → Calls Try.prog 9 #[.pointer (some ⟨b, 0, none⟩)] W fun e w' => e = .returned (.tuple #[.int .u64 (R : Nat), .int .i64 0]) ∧ Below W.heap.size W w') := fun b W h => by have := L2 b W h; rw [lenV, if_pos h2] at this; rw [hR] at this; exact this
          have eP : IntKind.u64.wrap ((P : Int) * (Sz : Int)) = (R : Int) := by rw [mulN, hR]; exact wrapU _ (by rw [← hR]; exact h2)
          clear h1 h2 L1 L2 hR
          by_cases hP40 : (P : Int) < 1099511627776
          · go_wp2_with (first
              | (go_at_call 22; clear tk1; refine (c1.out _ hNw).mono ?_; rintro e w2 ⟨⟨b1, rfl, h1⟩, hb⟩; replace HB := Below.then HB hb; have hN2 := hNw.below hb; clear hb c1)
              | (at_builtin; refine wpList_append_own _ rfl (.tmp 46) (.tmp 47) 22 rfl w2.heap.size 3 i0 (.int .i64 0) 1 8 Try.underlying22 hi hz0 hz1 hz2 rfl (by decide) _ 0 [] rfl (OWN0.out w2) ad l.length cap (intsZ (zsOf l)) rfl (by rw [intsZ_len, zsOf_len, Nat.mul_one]) (news_of (hN2.below (below_lit w2 _))) (intsZ_one _) (by unfold maxLen; omega) (by omega) (by simp) ?_; intro v1 wa own1 grow1 hif1; clear hif1; simp only [Nat.zero_add, List.nil_append] at own1; have Ba := (below_lit w2 (.cells #[] 3)).grown grow1 (by simp) (fun k e => by cases e; exact Nat.le_refl _); clear grow1)
              | (at_builtin; refine wpList_append_own _ rfl (.tmp 48) (.tmp 50) 22 rfl w2.heap.size 3 i0 (.int .i64 0) 1 8 Try.underlying22 hi hz0 hz1 hz2 rfl (by decide) _ l.length (intsZ (zsOf l)) rfl (own1.alloc _) ⟨wa.heap.size, 0, none⟩ 1 1 [.int .i64 (Sz : Int)] rfl rfl (cell_one_new _ _ _) (by simp [Value.oneCell']) (by unfold maxLen; omega) (by omega) (by have := Ba.size; simp; omega) ?_; intro v2 wb own2 grow2 hif2; clear hif2; have Bb := ((Ba.alloc Ba.size (.cells #[.int .i64 (Sz : Int)] 3)).grown grow2 (by have := Ba.size; simp; omega) (fun k e => ((own1.alloc (.cells #[.int .i64 (Sz : Int)] 3)).lt k e).1)); obtain ⟨g, cg, rfl, N2⟩ := new_list HZ.out own2; replace h1 := h1.below Bb; replace HB := Below.then HB Bb; clear own1 own2 grow2 Ba Bb)
              | (go_at_call 22; refine (c2.out _ _ _ N2 (by simp)).mono ?_; rintro e w3 ⟨⟨b2, rfl, h2⟩, hb⟩; replace HB := Below.then HB hb; replace h1 := h1.below hb; clear hb c2)
              | (go_at_call 9; clear tk2; refine (M1.out _ _ h1).mono ?_; rintro e w4 ⟨rfl, hb⟩; replace HB := Below.then HB hb; replace h2 := h2.below hb; clear hb M1)
              | (go_at_call 9; refine (M2.out _ _ h2).mono ?_; rintro e w5 ⟨rfl, hb⟩; replace HB := Below.then HB hb; clear hb M2))
            all_goals exact HB
          · have hP41 : ((P : Int) < 1099511627776) = False := eq_false hP40
            clear hP40
            go_wp2_with (first
              | (go_at_call 22; clear tk1; refine (c1.out _ hNw).mono ?_; rintro e w2 ⟨⟨b1, rfl, h1⟩, hb⟩; replace HB := Below.then HB hb; have hN2 := hNw.below hb; clear hb c1)
              | (at_builtin; refine wpList_append_own _ rfl (.tmp 46) (.tmp 47) 22 rfl w2.heap.size 3 i0 (.int .i64 0) 1 8 Try.underlying22 hi hz0 hz1 hz2 rfl (by decide) _ 0 [] rfl (OWN0.out w2) ad l.length cap (intsZ (zsOf l)) rfl (by rw [intsZ_len, zsOf_len, Nat.mul_one]) (news_of (hN2.below (below_lit w2 _))) (intsZ_one _) (by unfold maxLen; omega) (by omega) (by simp) ?_; intro v1 wa own1 grow1 hif1; clear hif1; simp only [Nat.zero_add, List.nil_append] at own1; have Ba := (below_lit w2 (.cells #[] 3)).grown grow1 (by simp) (fun k e => by cases e; exact Nat.le_refl _); clear grow1)
              | (at_builtin; refine wpList_append_own _ rfl (.tmp 48) (.tmp 50) 22 rfl w2.heap.size 3 i0 (.int .i64 0) 1 8 Try.underlying22 hi hz0 hz1 hz2 rfl (by decide) _ l.length (intsZ (zsOf l)) rfl (own1.alloc _) ⟨wa.heap.size, 0, none⟩ 1 1 [.int .i64 (Sz : Int)] rfl rfl (cell_one_new _ _ _) (by simp [Value.oneCell']) (by unfold maxLen; omega) (by omega) (by have := Ba.size; simp; omega) ?_; intro v2 wb own2 grow2 hif2; clear hif2; have Bb := ((Ba.alloc Ba.size (.cells #[.int .i64 (Sz : Int)] 3)).grown grow2 (by have := Ba.size; simp; omega) (fun k e => ((own1.alloc (.cells #[.int .i64 (Sz : Int)] 3)).lt k e).1)); obtain ⟨g, cg, rfl, N2⟩ := new_list HZ.out own2; replace h1 := h1.below Bb; replace HB := Below.then HB Bb; clear own1 own2 grow2 Ba Bb)
              | (go_at_call 22; refine (c2.out _ _ _ N2 (by simp)).mono ?_; rintro e w3 ⟨⟨b2, rfl, h2⟩, hb⟩; replace HB := Below.then HB hb; replace h1 := h1.below hb; clear hb c2)
              | (go_at_call 9; clear tk2; refine (M1.out _ _ h1).mono ?_; rintro e w4 ⟨rfl, hb⟩; replace HB := Below.then HB hb; replace h2 := h2.below hb; clear hb M1)
              | (go_at_call 9; refine (M2.out _ _ h2).mono ?_; rintro e w5 ⟨rfl, hb⟩; replace HB := Below.then HB hb; clear hb M2))
            all_goals exact HB
        · skip
          have M1 : Hid (∀ b W, IsP W b l → Calls Try.prog 9 #[.pointer (some ⟨b, 0, none⟩)] W fun e w' => e = .returned (.tuple #[.int .u64 (P : Nat), .int .i64 0]) ∧ Below W.heap.size W w') := fun b W h => by have := L1 b W h; rw [lenV, if_pos h1] at this; exact this
          have M2 : Hid (∀ b W, IsP W b (l ++ [Sz]) → Calls Try.prog 9 #[.pointer (some ⟨b, 0, none⟩)] W fun e w' => e = .returned (.tuple #[.int .u64 0, .int .i64 30]) ∧ Below W.heap.size W w') := fun b W h => by have := L2 b W h; rw [lenV, if_neg h2] at this; exact this
          have hP41 : ((P : Int) < 1099511627776) = False := eq_false (by omega)
          clear h1 h2 L1 L2 h40
          go_wp2_with (first
            | (go_at_call 22; clear tk1; refine (c1.out _ hNw).mono ?_; rintro e w2 ⟨⟨b1, rfl, h1⟩, hb⟩; replace HB := Below.then HB hb; have hN2 := hNw.below hb; clear hb c1)
            | (at_builtin; refine wpList_append_own _ rfl (.tmp 46) (.tmp 47) 22 rfl w2.heap.size 3 i0 (.int .i64 0) 1 8 Try.underlying22 hi hz0 hz1 hz2 rfl (by decide) _ 0 [] rfl (OWN0.out w2) ad l.length cap (intsZ (zsOf l)) rfl (by rw [intsZ_len, zsOf_len, Nat.mul_one]) (news_of (hN2.below (below_lit w2 _))) (intsZ_one _) (by unfold maxLen; omega) (by omega) (by simp) ?_; intro v1 wa own1 grow1 hif1; clear hif1; simp only [Nat.zero_add, List.nil_append] at own1; have Ba := (below_lit w2 (.cells #[] 3)).grown grow1 (by simp) (fun k e => by cases e; exact Nat.le_refl _); clear grow1)
            | (at_builtin; refine wpList_append_own _ rfl (.tmp 48) (.tmp 50) 22 rfl w2.heap.size 3 i0 (.int .i64 0) 1 8 Try.underlying22 hi hz0 hz1 hz2 rfl (by decide) _ l.length (intsZ (zsOf l)) rfl (own1.alloc _) ⟨wa.heap.size, 0, none⟩ 1 1 [.int .i64 (Sz : Int)] rfl rfl (cell_one_new _ _ _) (by simp [Value.oneCell']) (by unfold maxLen; omega) (by omega) (by have := Ba.size; simp; omega) ?_; intro v2 wb own2 grow2 hif2; clear hif2; have Bb := ((Ba.alloc Ba.size (.cells #[.int .i64 (Sz : Int)] 3)).grown grow2 (by have := Ba.size; simp; omega) (fun k e => ((own1.alloc (.cells #[.int .i64 (Sz : Int)] 3)).lt k e).1)); obtain ⟨g, cg, rfl, N2⟩ := new_list HZ.out own2; replace h1 := h1.below Bb; replace HB := Below.then HB Bb; clear own1 own2 grow2 Ba Bb)
            | (go_at_call 22; refine (c2.out _ _ _ N2 (by simp)).mono ?_; rintro e w3 ⟨⟨b2, rfl, h2⟩, hb⟩; replace HB := Below.then HB hb; replace h1 := h1.below hb; clear hb c2)
            | (go_at_call 9; clear tk2; refine (M1.out _ _ h1).mono ?_; rintro e w4 ⟨rfl, hb⟩; replace HB := Below.then HB hb; replace h2 := h2.below hb; clear hb M1)
            | (go_at_call 9; refine (M2.out _ _ h2).mono ?_; rintro e w5 ⟨rfl, hb⟩; replace HB := Below.then HB hb; clear hb M2))
          all_goals exact HB
        · obtain ⟨R, hR⟩ : ∃ R, P * Sz = R := ⟨_, rfl⟩
          have M1 : Hid (∀ b W, IsP W b l → Calls Try.prog 9 #[.pointer (some ⟨b, 0, none⟩)] W fun e w' => e = .returned (.tuple #[.int .u64 0, .int .i64 30]) ∧ Below W.heap.size W w') := fun b W h => by have := L1 b W h; rw [lenV, if_neg h1] at this; exact this
          have M2 : Hid (∀ b W, IsP W b (l ++ [Sz]) → Calls Try.prog 9 #[.pointer (some ⟨b, 0, none⟩)] W fun e w' => e = .returned (.tuple #[.int .u64 (R : Nat), .int .i64 0]) ∧ Below W.heap.size W w') := fun b W h => by have := L2 b W h; rw [lenV, if_pos h2] at this; rw [hR] at this; exact this
          clear h1 h2 L1 L2 hR
          go_wp2_with (first
            | (go_at_call 22; clear tk1; refine (c1.out _ hNw).mono ?_; rintro e w2 ⟨⟨b1, rfl, h1⟩, hb⟩; replace HB := Below.then HB hb; have hN2 := hNw.below hb; clear hb c1)
            | (at_builtin; refine wpList_append_own _ rfl (.tmp 46) (.tmp 47) 22 rfl w2.heap.size 3 i0 (.int .i64 0) 1 8 Try.underlying22 hi hz0 hz1 hz2 rfl (by decide) _ 0 [] rfl (OWN0.out w2) ad l.length cap (intsZ (zsOf l)) rfl (by rw [intsZ_len, zsOf_len, Nat.mul_one]) (news_of (hN2.below (below_lit w2 _))) (intsZ_one _) (by unfold maxLen; omega) (by omega) (by simp) ?_; intro v1 wa own1 grow1 hif1; clear hif1; simp only [Nat.zero_add, List.nil_append] at own1; have Ba := (below_lit w2 (.cells #[] 3)).grown grow1 (by simp) (fun k e => by cases e; exact Nat.le_refl _); clear grow1)
            | (at_builtin; refine wpList_append_own _ rfl (.tmp 48) (.tmp 50) 22 rfl w2.heap.size 3 i0 (.int .i64 0) 1 8 Try.underlying22 hi hz0 hz1 hz2 rfl (by decide) _ l.length (intsZ (zsOf l)) rfl (own1.alloc _) ⟨wa.heap.size, 0, none⟩ 1 1 [.int .i64 (Sz : Int)] rfl rfl (cell_one_new _ _ _) (by simp [Value.oneCell']) (by unfold maxLen; omega) (by omega) (by have := Ba.size; simp; omega) ?_; intro v2 wb own2 grow2 hif2; clear hif2; have Bb := ((Ba.alloc Ba.size (.cells #[.int .i64 (Sz : Int)] 3)).grown grow2 (by have := Ba.size; simp; omega) (fun k e => ((own1.alloc (.cells #[.int .i64 (Sz : Int)] 3)).lt k e).1)); obtain ⟨g, cg, rfl, N2⟩ := new_list HZ.out own2; replace h1 := h1.below Bb; replace HB := Below.then HB Bb; clear own1 own2 grow2 Ba Bb)
            | (go_at_call 22; refine (c2.out _ _ _ N2 (by simp)).mono ?_; rintro e w3 ⟨⟨b2, rfl, h2⟩, hb⟩; replace HB := Below.then HB hb; replace h1 := h1.below hb; clear hb c2)
            | (go_at_call 9; clear tk2; refine (M1.out _ _ h1).mono ?_; rintro e w4 ⟨rfl, hb⟩; replace HB := Below.then HB hb; replace h2 := h2.below hb; clear hb M1)
            | (go_at_call 9; refine (M2.out _ _ h2).mono ?_; rintro e w5 ⟨rfl, hb⟩; replace HB := Below.then HB hb; clear hb M2))
          all_goals exact HB
        · skip
          have M1 : Hid (∀ b W, IsP W b l → Calls Try.prog 9 #[.pointer (some ⟨b, 0, none⟩)] W fun e w' => e = .returned (.tuple #[.int .u64 0, .int .i64 30]) ∧ Below W.heap.size W w') := fun b W h => by have := L1 b W h; rw [lenV, if_neg h1] at this; exact this
          have M2 : Hid (∀ b W, IsP W b (l ++ [Sz]) → Calls Try.prog 9 #[.pointer (some ⟨b, 0, none⟩)] W fun e w' => e = .returned (.tuple #[.int .u64 0, .int .i64 30]) ∧ Below W.heap.size W w') := fun b W h => by have := L2 b W h; rw [lenV, if_neg h2] at this; exact this
          clear h1 h2 L1 L2
          go_wp2_with (first
            | (go_at_call 22; clear tk1; refine (c1.out _ hNw).mono ?_; rintro e w2 ⟨⟨b1, rfl, h1⟩, hb⟩; replace HB := Below.then HB hb; have hN2 := hNw.below hb; clear hb c1)
            | (at_builtin; refine wpList_append_own _ rfl (.tmp 46) (.tmp 47) 22 rfl w2.heap.size 3 i0 (.int .i64 0) 1 8 Try.underlying22 hi hz0 hz1 hz2 rfl (by decide) _ 0 [] rfl (OWN0.out w2) ad l.length cap (intsZ (zsOf l)) rfl (by rw [intsZ_len, zsOf_len, Nat.mul_one]) (news_of (hN2.below (below_lit w2 _))) (intsZ_one _) (by unfold maxLen; omega) (by omega) (by simp) ?_; intro v1 wa own1 grow1 hif1; clear hif1; simp only [Nat.zero_add, List.nil_append] at own1; have Ba := (below_lit w2 (.cells #[] 3)).grown grow1 (by simp) (fun k e => by cases e; exact Nat.le_refl _); clear grow1)
            | (at_builtin; refine wpList_append_own _ rfl (.tmp 48) (.tmp 50) 22 rfl w2.heap.size 3 i0 (.int .i64 0) 1 8 Try.underlying22 hi hz0 hz1 hz2 rfl (by decide) _ l.length (intsZ (zsOf l)) rfl (own1.alloc _) ⟨wa.heap.size, 0, none⟩ 1 1 [.int .i64 (Sz : Int)] rfl rfl (cell_one_new _ _ _) (by simp [Value.oneCell']) (by unfold maxLen; omega) (by omega) (by have := Ba.size; simp; omega) ?_; intro v2 wb own2 grow2 hif2; clear hif2; have Bb := ((Ba.alloc Ba.size (.cells #[.int .i64 (Sz : Int)] 3)).grown grow2 (by have := Ba.size; simp; omega) (fun k e => ((own1.alloc (.cells #[.int .i64 (Sz : Int)] 3)).lt k e).1)); obtain ⟨g, cg, rfl, N2⟩ := new_list HZ.out own2; replace h1 := h1.below Bb; replace HB := Below.then HB Bb; clear own1 own2 grow2 Ba Bb)
            | (go_at_call 22; refine (c2.out _ _ _ N2 (by simp)).mono ?_; rintro e w3 ⟨⟨b2, rfl, h2⟩, hb⟩; replace HB := Below.then HB hb; replace h1 := h1.below hb; clear hb c2)
            | (go_at_call 9; clear tk2; refine (M1.out _ _ h1).mono ?_; rintro e w4 ⟨rfl, hb⟩; replace HB := Below.then HB hb; replace h2 := h2.below hb; clear hb M1)
            | (go_at_call 9; refine (M2.out _ _ h2).mono ?_; rintro e w5 ⟨rfl, hb⟩; replace HB := Below.then HB hb; clear hb M2))
          all_goals exact HB
    · have hpos : 0 < zs.length := by cases zs with | nil => simp [negs] at hn | cons z zs => simp
      cases a with
      | none => exact absurd (ha rfl).1 (by intro e; rw [e] at hpos; simp at hpos)
      | some ad =>
        subst hlen
        have e1 : chkE zs = 4 := by unfold chkE; rw [if_neg (by omega), hn]; rfl
        have e2 : chkE (zs ++ [(Sz : Int)]) = 4 := by
          unfold chkE
          have : negs (zs ++ [(Sz : Int)]) = true := by unfold negs at hn ⊢; rw [List.any_append, hn]; rfl
          rw [if_neg (by simp; omega), this]; rfl
        have c1 : Hid (∀ W, Nums W (some ad) zs → Calls Try.prog 22 #[.slice (some ad) zs.length cap] W fun e w' => e = .returned (.tuple #[.pointer none, .int .i64 4]) ∧ w' = W) := fun W h => by
          have := product_bad (some ad) cap zs W h hbig (by rw [e1]; decide)
          rw [e1] at this
          exact this
        have c2 : Hid (∀ a2 cap2 W, Nums W a2 (zs ++ [(Sz : Int)]) → Calls Try.prog 22 #[.slice a2 (zs.length + 1) cap2] W fun e w' => e = .returned (.tuple #[.pointer none, .int .i64 4]) ∧ w' = W) := fun a2 cap2 W h => by
          have := product_bad a2 cap2 (zs ++ [(Sz : Int)]) W h (by simp; omega) (by rw [e2]; decide)
          rw [e2] at this
          simpa using this
        clear hz hn ha e1 e2
        have hli : (zs.length : Int) < 64 := by omega
        go_wp2_with (first
          | (go_at_call 22; clear tk1; refine (c1.out _ hNw).mono ?_; rintro e w' ⟨rfl, hw'⟩; replace hw' := hw'.symm; subst hw'; have hN2 := hNw; clear c1)
          | (at_builtin; refine wpList_append_own _ rfl (.tmp 46) (.tmp 47) 22 rfl w1.heap.size 3 i0 (.int .i64 0) 1 8 Try.underlying22 hi hz0 hz1 hz2 rfl (by decide) _ 0 [] rfl (OWN0.out w1) ad zs.length cap (intsZ zs) rfl (by rw [intsZ_len, Nat.mul_one]) (news_of (hN2.below (below_lit w1 _))) (intsZ_one _) (by unfold maxLen; omega) (by omega) (by simp) ?_; intro v1 wa own1 grow1 hif1; clear hif1; simp only [Nat.zero_add, List.nil_append] at own1; have Ba := (below_lit w1 (.cells #[] 3)).grown grow1 (by simp) (fun k e => by cases e; exact Nat.le_refl _); clear grow1)
          | (at_builtin; refine wpList_append_own _ rfl (.tmp 48) (.tmp 50) 22 rfl w1.heap.size 3 i0 (.int .i64 0) 1 8 Try.underlying22 hi hz0 hz1 hz2 rfl (by decide) _ zs.length (intsZ zs) rfl (own1.alloc _) ⟨wa.heap.size, 0, none⟩ 1 1 [.int .i64 (Sz : Int)] rfl rfl (cell_one_new _ _ _) (by simp [Value.oneCell']) (by unfold maxLen; omega) (by omega) (by have := Ba.size; simp; omega) ?_; intro v2 wb own2 grow2 hif2; clear hif2; have Bb := ((Ba.alloc Ba.size (.cells #[.int .i64 (Sz : Int)] 3)).grown grow2 (by have := Ba.size; simp; omega) (fun k e => ((own1.alloc (.cells #[.int .i64 (Sz : Int)] 3)).lt k e).1)); obtain ⟨g, cg, rfl, N2⟩ := new_listZ own2; replace HB := Below.then HB Bb; clear own1 own2 grow2 Ba Bb)
          | (go_at_call 22; refine (c2.out _ _ _ N2).mono ?_; rintro e w' ⟨rfl, hw'⟩; replace hw' := hw'.symm; subst hw'; clear c2))
        all_goals exact HB
  · have hA2 : 64 ≤ len ∨ s < 0 ∨ 1048576 ≤ s := by omega
    clear hA hNw hz ha hlen
    by_cases h1 : 64 ≤ len
    · have h2 : ¬ ((len : Int) < 64) := by omega
      go_wp2
      all_goals exact HB
    · have h2 : (len : Int) < 64 := by omega
      by_cases h3 : s < 0
      · go_wp2
        all_goals exact HB
      · have h4 : ¬ s < 1048576 := by omega
        have h5 : 0 ≤ s := by omega
        go_wp2
        all_goals exact HB
end Go.Proofs.Ytghfomammdbgoaa
