/- A step of a table's machine. -/
import Derived.Test.YtmoieckmbimgoaaG2
namespace Go.Proofs.Ytmoieckmbimgoaa
open Go.RowKit M
set_option linter.unusedSimpArgs false
set_option linter.unusedVariables false

/-- The text of a byte. -/
def byteS (q : Int) : ByteArray := ⟨#[UInt8.ofNat (q % 256).toNat]⟩
theorem conv_byte (q : Int) (W : World) : (convert 55 9 (.slice (some ⟨W.heap.size, 0, none⟩) 1 1)).run Try.prog (W.alloc (Obj.cells #[.int .u8 (q % 256)] 5)).drew.drew = .ok (.string (byteS q)) (W.alloc (Obj.cells #[.int .u8 (q % 256)] 5)).drew.drew := by
  have hb : ((UInt8.ofNat (q % 256).toNat).toNat : Int) = q % 256 := by
    have h1 : (q % 256).toNat < 256 := by omega
    rw [UInt8.toNat_ofNat', Nat.mod_eq_of_lt h1]
    omega
  refine run_convert_bytes_back (P := Try.prog) _ 55 9 5 ⟨W.heap.size, 0, none⟩ 1 [UInt8.ofNat (q % 256).toNat] Try.underlying55 Try.underlying5 Try.underlying9 ?_
  intro j hj
  have e : j = 0 := by simp at hj; exact hj
  subst e
  have I : IsS (W.alloc (Obj.cells #[.int .u8 (q % 256)] 5)).drew.drew W.heap.size 5 [.int .u8 (q % 256)] := IsS.new W 5 [.int .u8 (q % 256)]
  have := I.cell 0
  rw [Addr.add_mid, Nat.add_zero, this]
  simp only [List.getElem_cons_zero, List.getElem?_cons_zero]
  exact congrArg (fun x => some (Value.int .u8 x)) hb.symm
set_option maxRecDepth 100000 in
set_option maxHeartbeats 4000000 in
theorem step_0 (g : GR) (hf : g.Few) (T : ByteArray) (hT : T.size ≤ 1099511627776) (bn bg : Nat) (k0 k1 k2 : Int) (hn : numG g T = none)  (w : World) (hM : MG w g bn bg) :
    Calls Try.prog 22 #[.string T, .agg (pkL (k0, k1, k2)).toArray, .pointer (some ⟨bn, 0, none⟩), .pointer (some ⟨bg, 0, none⟩)] w fun e w' => e = .returned (.tuple #[.string ⟨#[]⟩, .bool false]) ∧ Below w.heap.size w w' := by
  have hN := fun W (h : GB W g bg) => num_any g hf T hT bg W h
  have HM : Hid (MG w g bn bg) := hM
  have yf : w.cell? ⟨bn, 0, none⟩ = _ := hM.f.cell 0
  simp only [List.getElem?_cons_zero] at yf
  have en : numI g T = -1 := by unfold numI; rw [hn]
  rw [en] at hN
  clear hM hf hT en hn
  have t1 : True := trivial
  go_enter Try.func22, Try.ntmps22
  go_wp2_with (first
    | (clear t1; refine wpList_boxS rfl 35 _ rfl (pkL (k0, k1, k2)) rfl ?_; intro W1 b1 F1 C1; have B1 := F_b F1; have yf1 := cell_grow yf B1; clear F1)
    | (go_at_call 20; refine (hN _ (HM.out.t.below B1)).mono ?_; rintro e W2 ⟨rfl, B2⟩; have B3 := Below.then B1 B2; have C2 := C1.grown B2; have x0 := C2.cell 0; have x1 := C2.cell 1; have x2 := C2.cell 2; simp only [pkL, List.getElem?_cons_zero, List.getElem?_cons_succ] at x0 x1 x2; clear C1 C2 B1 B2 yf1))
  refine grow_allW (by kernel_rfl) (by kernel_rfl) ?_
  refine WG.put rfl (v := (.int .i64 (-1))) (fun w => by first | rfl | (go_simp; done) | (simp [go_sem]; done) | (simp [execOp, go_sem]; done)) ?_
  simp only [Act.put, List.setIfInBounds_toArray, List.set_cons_succ, List.set_cons_zero]
  refine WG.put rfl (v := (.bool true)) (fun w => by first | rfl | (go_simp; done) | (simp [go_sem]; done) | (simp [execOp, go_sem]; done)) ?_
  simp only [Act.put, List.setIfInBounds_toArray, List.set_cons_succ, List.set_cons_zero]
  refine WG.put rfl (v := (.bool true)) (fun w => by first | rfl | (go_simp; done) | (simp [go_sem]; done) | (simp [execOp, go_sem]; done)) ?_
  simp only [Act.put, List.setIfInBounds_toArray, List.set_cons_succ, List.set_cons_zero]
  refine WG.skip rfl ?_
  simp only [Act.put, List.setIfInBounds_toArray, List.set_cons_succ, List.set_cons_zero]
  refine WG.skip rfl ?_
  simp only [Act.put, List.setIfInBounds_toArray, List.set_cons_succ, List.set_cons_zero]
  refine WG.skip rfl ?_
  simp only [Act.put, List.setIfInBounds_toArray, List.set_cons_succ, List.set_cons_zero]
  refine WG.put rfl (v := (.bool true)) (fun w => by first | rfl | (go_simp; done) | (simp [go_sem]; done) | (simp [execOp, go_sem]; done)) ?_
  simp only [Act.put, List.setIfInBounds_toArray, List.set_cons_succ, List.set_cons_zero]
  refine WG.put rfl (v := (.bool true)) (fun w => by first | rfl | (go_simp; done) | (simp [go_sem]; done) | (simp [execOp, go_sem]; done)) ?_
  simp only [Act.put, List.setIfInBounds_toArray, List.set_cons_succ, List.set_cons_zero]
  refine WG.skip rfl ?_
  simp only [Act.put, List.setIfInBounds_toArray, List.set_cons_succ, List.set_cons_zero]
  refine WG.skip rfl ?_
  simp only [Act.put, List.setIfInBounds_toArray, List.set_cons_succ, List.set_cons_zero]
  refine WG.skip rfl ?_
  simp only [Act.put, List.setIfInBounds_toArray, List.set_cons_succ, List.set_cons_zero]
  refine WG.put rfl (v := (.bool true)) (fun w => by first | rfl | (go_simp; done) | (simp [go_sem]; done) | (simp [execOp, go_sem]; done)) ?_
  simp only [Act.put, List.setIfInBounds_toArray, List.set_cons_succ, List.set_cons_zero]
  refine WG.put rfl (v := (.bool true)) (fun w => by first | rfl | (go_simp; done) | (simp [go_sem]; done) | (simp [execOp, go_sem]; done)) ?_
  simp only [Act.put, List.setIfInBounds_toArray, List.set_cons_succ, List.set_cons_zero]
  refine WG.skip rfl ?_
  simp only [Act.put, List.setIfInBounds_toArray, List.set_cons_succ, List.set_cons_zero]
  refine WG.skip rfl ?_
  simp only [Act.put, List.setIfInBounds_toArray, List.set_cons_succ, List.set_cons_zero]
  refine WG.skip rfl ?_
  simp only [Act.put, List.setIfInBounds_toArray, List.set_cons_succ, List.set_cons_zero]
  refine WG.put rfl (v := (.bool true)) (fun w => by first | rfl | (go_simp; done) | (simp [go_sem]; done) | (simp [execOp, go_sem]; done)) ?_
  simp only [Act.put, List.setIfInBounds_toArray, List.set_cons_succ, List.set_cons_zero]
  refine WG.put rfl (v := (.bool true)) (fun w => by first | rfl | (go_simp; done) | (simp [go_sem]; done) | (simp [execOp, go_sem]; done)) ?_
  simp only [Act.put, List.setIfInBounds_toArray, List.set_cons_succ, List.set_cons_zero]
  refine WG.skip rfl ?_
  simp only [Act.put, List.setIfInBounds_toArray, List.set_cons_succ, List.set_cons_zero]
  refine WG.skip rfl ?_
  simp only [Act.put, List.setIfInBounds_toArray, List.set_cons_succ, List.set_cons_zero]
  refine WG.skip rfl ?_
  simp only [Act.put, List.setIfInBounds_toArray, List.set_cons_succ, List.set_cons_zero]
  refine WG.skip rfl ?_
  simp only [Act.put, List.setIfInBounds_toArray, List.set_cons_succ, List.set_cons_zero]
  refine WG.skip rfl ?_
  simp only [Act.put, List.setIfInBounds_toArray, List.set_cons_succ, List.set_cons_zero]
  refine WG.skip rfl ?_
  simp only [Act.put, List.setIfInBounds_toArray, List.set_cons_succ, List.set_cons_zero]
  refine WG.skip rfl ?_
  simp only [Act.put, List.setIfInBounds_toArray, List.set_cons_succ, List.set_cons_zero]
  refine WG.skip rfl ?_
  simp only [Act.put, List.setIfInBounds_toArray, List.set_cons_succ, List.set_cons_zero]
  refine WG.skip rfl ?_
  simp only [Act.put, List.setIfInBounds_toArray, List.set_cons_succ, List.set_cons_zero]
  refine WG.put rfl (v := (.bool true)) (fun w => by first | rfl | (go_simp; done) | (simp [go_sem]; done) | (simp [execOp, go_sem]; done)) ?_
  simp only [Act.put, List.setIfInBounds_toArray, List.set_cons_succ, List.set_cons_zero]
  refine WG.nil ?_
  intro W4 B4
  have B5 := Below.then B3 B4
  go_wp2
  go_ret2
  exact ⟨rfl, B5⟩
set_option maxRecDepth 100000 in
set_option maxHeartbeats 4000000 in
theorem step_1 (g : GR) (hf : g.Few) (T : ByteArray) (hT : T.size ≤ 1099511627776) (bn bg : Nat) (k0 k1 k2 : Int) (n m N : Nat) (hn : numG g T = some n) (hm : (g.to.getD n []).length = m) (hN0 : g.to.length = N) (h1 : ¬ k1 = 1) (w : World) (hM : MG w g bn bg) :
    Calls Try.prog 22 #[.string T, .agg (pkL (k0, k1, k2)).toArray, .pointer (some ⟨bn, 0, none⟩), .pointer (some ⟨bg, 0, none⟩)] w fun e w' => e = .returned (.tuple #[.string ⟨#[]⟩, .bool false]) ∧ Below w.heap.size w w' := by
  have hN := fun W (h : GB W g bg) => num_any g hf T hT bg W h
  have HM : Hid (MG w g bn bg) := hM
  have yf : w.cell? ⟨bn, 0, none⟩ = _ := hM.f.cell 0
  simp only [List.getElem?_cons_zero] at yf
  have hlt := num_lt hn
  have en : numI g T = n := by unfold numI; rw [hn]
  rw [en] at hN
  obtain ⟨a, c, hS, hR⟩ := hM.t.ex
  obtain ⟨r, hr⟩ : ∃ r, g.to[n]? = some r := ⟨_, List.getElem?_eq_getElem hlt⟩
  obtain ⟨b', o', a', c', rfl, hb', yr, sg, _⟩ := hR.at n r hr
  have em : r.length = m := by rw [← hm, List.getD_eq_getElem?_getD, hr]; rfl
  have hnN : (n : Int) < N := by omega
  have c0 : ¬ ((n : Int) < 0) := by omega
  have hN200 : N ≤ 200 := by rw [← hN0]; exact hf.t
  have hmm : m ≤ 1048576 := by rw [← em]; exact hf.r r (List.mem_of_getElem? hr)
  rw [hN0] at hS
  rw [em] at yr
  have y0 := hS.cell 0
  simp only [List.getElem?_cons_zero, List.getElem?_cons_succ] at y0
  clear hM hf hT en hR hS hr hlt em hm hN0 hn sg
  have c1 : (k1 != 1) = true := by simpa using h1
  clear h1
  have t1 : True := trivial
  go_enter Try.func22, Try.ntmps22
  go_wp2_with (first
    | (clear t1; refine wpList_boxS rfl 35 _ rfl (pkL (k0, k1, k2)) rfl ?_; intro W1 b1 F1 C1; have B1 := F_b F1; have yf1 := cell_grow yf B1; clear F1)
    | (go_at_call 20; refine (hN _ (HM.out.t.below B1)).mono ?_; rintro e W2 ⟨rfl, B2⟩; have B3 := Below.then B1 B2; have C2 := C1.grown B2; have x0 := C2.cell 0; have x1 := C2.cell 1; have x2 := C2.cell 2; simp only [pkL, List.getElem?_cons_zero, List.getElem?_cons_succ] at x0 x1 x2; clear C1 C2 B1 B2 yf1; have z0 := cell_grow y0 B3; have zr := cell_grow yr B3))
  refine grow_allW (by kernel_rfl) (by kernel_rfl) ?_
  refine WG.put rfl (v := (.int .i64 (n : Int))) (fun w => by first | rfl | (go_simp; done) | (simp [go_sem]; done) | (simp [execOp, go_sem]; done)) ?_
  simp only [Act.put, List.setIfInBounds_toArray, List.set_cons_succ, List.set_cons_zero]
  refine WG.put rfl (v := (.bool false)) (fun w => by first | rfl | (go_simp; done) | (simp [go_sem, c0]; done) | (simp [execOp, go_sem, c0]; done)) ?_
  simp only [Act.put, List.setIfInBounds_toArray, List.set_cons_succ, List.set_cons_zero]
  refine WG.put rfl (v := (.bool false)) (fun w => by first | rfl | (go_simp; done) | (simp [go_sem]; done) | (simp [execOp, go_sem]; done)) ?_
  simp only [Act.put, List.setIfInBounds_toArray, List.set_cons_succ, List.set_cons_zero]
  refine WG.put rfl (v := (.pointer (some ⟨b1, 1, none⟩))) (fun w => by first | rfl | (go_simp; done) | (simp [go_sem]; done) | (simp [execOp, go_sem]; done)) ?_
  simp only [Act.put, List.setIfInBounds_toArray, List.set_cons_succ, List.set_cons_zero]
  refine WG.cell rfl 3 _ rfl rfl x1 (fun w h => by simp [go_sem, h]) ?_
  simp only [Act.put, List.setIfInBounds_toArray, List.set_cons_succ, List.set_cons_zero]
  refine WG.put rfl (v := (.bool true)) (fun w => by first | rfl | (go_simp; done) | (simp [go_sem, c1]; done) | (simp [execOp, go_sem, c1]; done)) ?_
  simp only [Act.put, List.setIfInBounds_toArray, List.set_cons_succ, List.set_cons_zero]
  refine WG.put rfl (v := (.bool true)) (fun w => by first | rfl | (go_simp; done) | (simp [go_sem]; done) | (simp [execOp, go_sem]; done)) ?_
  simp only [Act.put, List.setIfInBounds_toArray, List.set_cons_succ, List.set_cons_zero]
  refine WG.put rfl (v := (.bool true)) (fun w => by first | rfl | (go_simp; done) | (simp [go_sem]; done) | (simp [execOp, go_sem]; done)) ?_
  simp only [Act.put, List.setIfInBounds_toArray, List.set_cons_succ, List.set_cons_zero]
  refine WG.skip rfl ?_
  simp only [Act.put, List.setIfInBounds_toArray, List.set_cons_succ, List.set_cons_zero]
  refine WG.skip rfl ?_
  simp only [Act.put, List.setIfInBounds_toArray, List.set_cons_succ, List.set_cons_zero]
  refine WG.skip rfl ?_
  simp only [Act.put, List.setIfInBounds_toArray, List.set_cons_succ, List.set_cons_zero]
  refine WG.put rfl (v := (.bool true)) (fun w => by first | rfl | (go_simp; done) | (simp [go_sem]; done) | (simp [execOp, go_sem]; done)) ?_
  simp only [Act.put, List.setIfInBounds_toArray, List.set_cons_succ, List.set_cons_zero]
  refine WG.put rfl (v := (.bool true)) (fun w => by first | rfl | (go_simp; done) | (simp [go_sem]; done) | (simp [execOp, go_sem]; done)) ?_
  simp only [Act.put, List.setIfInBounds_toArray, List.set_cons_succ, List.set_cons_zero]
  refine WG.skip rfl ?_
  simp only [Act.put, List.setIfInBounds_toArray, List.set_cons_succ, List.set_cons_zero]
  refine WG.skip rfl ?_
  simp only [Act.put, List.setIfInBounds_toArray, List.set_cons_succ, List.set_cons_zero]
  refine WG.skip rfl ?_
  simp only [Act.put, List.setIfInBounds_toArray, List.set_cons_succ, List.set_cons_zero]
  refine WG.put rfl (v := (.bool true)) (fun w => by first | rfl | (go_simp; done) | (simp [go_sem]; done) | (simp [execOp, go_sem]; done)) ?_
  simp only [Act.put, List.setIfInBounds_toArray, List.set_cons_succ, List.set_cons_zero]
  refine WG.put rfl (v := (.bool true)) (fun w => by first | rfl | (go_simp; done) | (simp [go_sem]; done) | (simp [execOp, go_sem]; done)) ?_
  simp only [Act.put, List.setIfInBounds_toArray, List.set_cons_succ, List.set_cons_zero]
  refine WG.skip rfl ?_
  simp only [Act.put, List.setIfInBounds_toArray, List.set_cons_succ, List.set_cons_zero]
  refine WG.skip rfl ?_
  simp only [Act.put, List.setIfInBounds_toArray, List.set_cons_succ, List.set_cons_zero]
  refine WG.skip rfl ?_
  simp only [Act.put, List.setIfInBounds_toArray, List.set_cons_succ, List.set_cons_zero]
  refine WG.skip rfl ?_
  simp only [Act.put, List.setIfInBounds_toArray, List.set_cons_succ, List.set_cons_zero]
  refine WG.skip rfl ?_
  simp only [Act.put, List.setIfInBounds_toArray, List.set_cons_succ, List.set_cons_zero]
  refine WG.skip rfl ?_
  simp only [Act.put, List.setIfInBounds_toArray, List.set_cons_succ, List.set_cons_zero]
  refine WG.skip rfl ?_
  simp only [Act.put, List.setIfInBounds_toArray, List.set_cons_succ, List.set_cons_zero]
  refine WG.skip rfl ?_
  simp only [Act.put, List.setIfInBounds_toArray, List.set_cons_succ, List.set_cons_zero]
  refine WG.skip rfl ?_
  simp only [Act.put, List.setIfInBounds_toArray, List.set_cons_succ, List.set_cons_zero]
  refine WG.put rfl (v := (.bool true)) (fun w => by first | rfl | (go_simp; done) | (simp [go_sem]; done) | (simp [execOp, go_sem]; done)) ?_
  simp only [Act.put, List.setIfInBounds_toArray, List.set_cons_succ, List.set_cons_zero]
  refine WG.nil ?_
  intro W4 B4
  have B5 := Below.then B3 B4
  go_wp2
  go_ret2
  exact ⟨rfl, B5⟩
set_option maxRecDepth 100000 in
set_option maxHeartbeats 4000000 in
theorem step_2 (g : GR) (hf : g.Few) (T : ByteArray) (hT : T.size ≤ 1099511627776) (bn bg : Nat) (k0 k1 k2 : Int) (n m N : Nat) (hn : numG g T = some n) (hm : (g.to.getD n []).length = m) (hN0 : g.to.length = N) (h1 : k1 = 1) (h2 : ¬ k2 = 0) (w : World) (hM : MG w g bn bg) :
    Calls Try.prog 22 #[.string T, .agg (pkL (k0, k1, k2)).toArray, .pointer (some ⟨bn, 0, none⟩), .pointer (some ⟨bg, 0, none⟩)] w fun e w' => e = .returned (.tuple #[.string ⟨#[]⟩, .bool false]) ∧ Below w.heap.size w w' := by
  have hN := fun W (h : GB W g bg) => num_any g hf T hT bg W h
  have HM : Hid (MG w g bn bg) := hM
  have yf : w.cell? ⟨bn, 0, none⟩ = _ := hM.f.cell 0
  simp only [List.getElem?_cons_zero] at yf
  have hlt := num_lt hn
  have en : numI g T = n := by unfold numI; rw [hn]
  rw [en] at hN
  obtain ⟨a, c, hS, hR⟩ := hM.t.ex
  obtain ⟨r, hr⟩ : ∃ r, g.to[n]? = some r := ⟨_, List.getElem?_eq_getElem hlt⟩
  obtain ⟨b', o', a', c', rfl, hb', yr, sg, _⟩ := hR.at n r hr
  have em : r.length = m := by rw [← hm, List.getD_eq_getElem?_getD, hr]; rfl
  have hnN : (n : Int) < N := by omega
  have c0 : ¬ ((n : Int) < 0) := by omega
  have hN200 : N ≤ 200 := by rw [← hN0]; exact hf.t
  have hmm : m ≤ 1048576 := by rw [← em]; exact hf.r r (List.mem_of_getElem? hr)
  rw [hN0] at hS
  rw [em] at yr
  have y0 := hS.cell 0
  simp only [List.getElem?_cons_zero, List.getElem?_cons_succ] at y0
  clear hM hf hT en hR hS hr hlt em hm hN0 hn sg
  subst h1
  have c2 : (k2 != 0) = true := by simpa using h2
  clear h2
  have t1 : True := trivial
  go_enter Try.func22, Try.ntmps22
  go_wp2_with (first
    | (clear t1; refine wpList_boxS rfl 35 _ rfl (pkL (k0, 1, k2)) rfl ?_; intro W1 b1 F1 C1; have B1 := F_b F1; have yf1 := cell_grow yf B1; clear F1)
    | (go_at_call 20; refine (hN _ (HM.out.t.below B1)).mono ?_; rintro e W2 ⟨rfl, B2⟩; have B3 := Below.then B1 B2; have C2 := C1.grown B2; have x0 := C2.cell 0; have x1 := C2.cell 1; have x2 := C2.cell 2; simp only [pkL, List.getElem?_cons_zero, List.getElem?_cons_succ] at x0 x1 x2; clear C1 C2 B1 B2 yf1; have z0 := cell_grow y0 B3; have zr := cell_grow yr B3))
  refine grow_allW (by kernel_rfl) (by kernel_rfl) ?_
  refine WG.put rfl (v := (.int .i64 (n : Int))) (fun w => by first | rfl | (go_simp; done) | (simp [go_sem]; done) | (simp [execOp, go_sem]; done)) ?_
  simp only [Act.put, List.setIfInBounds_toArray, List.set_cons_succ, List.set_cons_zero]
  refine WG.put rfl (v := (.bool false)) (fun w => by first | rfl | (go_simp; done) | (simp [go_sem, c0]; done) | (simp [execOp, go_sem, c0]; done)) ?_
  simp only [Act.put, List.setIfInBounds_toArray, List.set_cons_succ, List.set_cons_zero]
  refine WG.put rfl (v := (.bool false)) (fun w => by first | rfl | (go_simp; done) | (simp [go_sem]; done) | (simp [execOp, go_sem]; done)) ?_
  simp only [Act.put, List.setIfInBounds_toArray, List.set_cons_succ, List.set_cons_zero]
  refine WG.put rfl (v := (.pointer (some ⟨b1, 1, none⟩))) (fun w => by first | rfl | (go_simp; done) | (simp [go_sem]; done) | (simp [execOp, go_sem]; done)) ?_
  simp only [Act.put, List.setIfInBounds_toArray, List.set_cons_succ, List.set_cons_zero]
  refine WG.cell rfl 3 _ rfl rfl x1 (fun w h => by simp [go_sem, h]) ?_
  simp only [Act.put, List.setIfInBounds_toArray, List.set_cons_succ, List.set_cons_zero]
  refine WG.put rfl (v := (.bool false)) (fun w => by first | rfl | (go_simp; done) | (simp [go_sem]; done) | (simp [execOp, go_sem]; done)) ?_
  simp only [Act.put, List.setIfInBounds_toArray, List.set_cons_succ, List.set_cons_zero]
  refine WG.put rfl (v := (.bool false)) (fun w => by first | rfl | (go_simp; done) | (simp [go_sem]; done) | (simp [execOp, go_sem]; done)) ?_
  simp only [Act.put, List.setIfInBounds_toArray, List.set_cons_succ, List.set_cons_zero]
  refine WG.put rfl (v := (.bool false)) (fun w => by first | rfl | (go_simp; done) | (simp [go_sem]; done) | (simp [execOp, go_sem]; done)) ?_
  simp only [Act.put, List.setIfInBounds_toArray, List.set_cons_succ, List.set_cons_zero]
  refine WG.put rfl (v := (.pointer (some ⟨b1, 2, none⟩))) (fun w => by first | rfl | (go_simp; done) | (simp [go_sem]; done) | (simp [execOp, go_sem]; done)) ?_
  simp only [Act.put, List.setIfInBounds_toArray, List.set_cons_succ, List.set_cons_zero]
  refine WG.cell rfl 3 _ rfl rfl x2 (fun w h => by simp [go_sem, h]) ?_
  simp only [Act.put, List.setIfInBounds_toArray, List.set_cons_succ, List.set_cons_zero]
  refine WG.put rfl (v := (.bool true)) (fun w => by first | rfl | (go_simp; done) | (simp [go_sem, c2]; done) | (simp [execOp, go_sem, c2]; done)) ?_
  simp only [Act.put, List.setIfInBounds_toArray, List.set_cons_succ, List.set_cons_zero]
  refine WG.put rfl (v := (.bool true)) (fun w => by first | rfl | (go_simp; done) | (simp [go_sem]; done) | (simp [execOp, go_sem]; done)) ?_
  simp only [Act.put, List.setIfInBounds_toArray, List.set_cons_succ, List.set_cons_zero]
  refine WG.put rfl (v := (.bool true)) (fun w => by first | rfl | (go_simp; done) | (simp [go_sem]; done) | (simp [execOp, go_sem]; done)) ?_
  simp only [Act.put, List.setIfInBounds_toArray, List.set_cons_succ, List.set_cons_zero]
  refine WG.skip rfl ?_
  simp only [Act.put, List.setIfInBounds_toArray, List.set_cons_succ, List.set_cons_zero]
  refine WG.skip rfl ?_
  simp only [Act.put, List.setIfInBounds_toArray, List.set_cons_succ, List.set_cons_zero]
  refine WG.skip rfl ?_
  simp only [Act.put, List.setIfInBounds_toArray, List.set_cons_succ, List.set_cons_zero]
  refine WG.put rfl (v := (.bool true)) (fun w => by first | rfl | (go_simp; done) | (simp [go_sem]; done) | (simp [execOp, go_sem]; done)) ?_
  simp only [Act.put, List.setIfInBounds_toArray, List.set_cons_succ, List.set_cons_zero]
  refine WG.put rfl (v := (.bool true)) (fun w => by first | rfl | (go_simp; done) | (simp [go_sem]; done) | (simp [execOp, go_sem]; done)) ?_
  simp only [Act.put, List.setIfInBounds_toArray, List.set_cons_succ, List.set_cons_zero]
  refine WG.skip rfl ?_
  simp only [Act.put, List.setIfInBounds_toArray, List.set_cons_succ, List.set_cons_zero]
  refine WG.skip rfl ?_
  simp only [Act.put, List.setIfInBounds_toArray, List.set_cons_succ, List.set_cons_zero]
  refine WG.skip rfl ?_
  simp only [Act.put, List.setIfInBounds_toArray, List.set_cons_succ, List.set_cons_zero]
  refine WG.skip rfl ?_
  simp only [Act.put, List.setIfInBounds_toArray, List.set_cons_succ, List.set_cons_zero]
  refine WG.skip rfl ?_
  simp only [Act.put, List.setIfInBounds_toArray, List.set_cons_succ, List.set_cons_zero]
  refine WG.skip rfl ?_
  simp only [Act.put, List.setIfInBounds_toArray, List.set_cons_succ, List.set_cons_zero]
  refine WG.skip rfl ?_
  simp only [Act.put, List.setIfInBounds_toArray, List.set_cons_succ, List.set_cons_zero]
  refine WG.skip rfl ?_
  simp only [Act.put, List.setIfInBounds_toArray, List.set_cons_succ, List.set_cons_zero]
  refine WG.skip rfl ?_
  simp only [Act.put, List.setIfInBounds_toArray, List.set_cons_succ, List.set_cons_zero]
  refine WG.put rfl (v := (.bool true)) (fun w => by first | rfl | (go_simp; done) | (simp [go_sem]; done) | (simp [execOp, go_sem]; done)) ?_
  simp only [Act.put, List.setIfInBounds_toArray, List.set_cons_succ, List.set_cons_zero]
  refine WG.nil ?_
  intro W4 B4
  have B5 := Below.then B3 B4
  go_wp2
  go_ret2
  exact ⟨rfl, B5⟩
set_option maxRecDepth 100000 in
set_option maxHeartbeats 4000000 in
theorem step_3 (g : GR) (hf : g.Few) (T : ByteArray) (hT : T.size ≤ 1099511627776) (bn bg : Nat) (k0 k1 k2 : Int) (n m N : Nat) (hn : numG g T = some n) (hm : (g.to.getD n []).length = m) (hN0 : g.to.length = N) (h1 : k1 = 1) (h2 : k2 = 0) (h3 : k0 < 0) (w : World) (hM : MG w g bn bg) :
    Calls Try.prog 22 #[.string T, .agg (pkL (k0, k1, k2)).toArray, .pointer (some ⟨bn, 0, none⟩), .pointer (some ⟨bg, 0, none⟩)] w fun e w' => e = .returned (.tuple #[.string ⟨#[]⟩, .bool false]) ∧ Below w.heap.size w w' := by
  have hN := fun W (h : GB W g bg) => num_any g hf T hT bg W h
  have HM : Hid (MG w g bn bg) := hM
  have yf : w.cell? ⟨bn, 0, none⟩ = _ := hM.f.cell 0
  simp only [List.getElem?_cons_zero] at yf
  have hlt := num_lt hn
  have en : numI g T = n := by unfold numI; rw [hn]
  rw [en] at hN
  obtain ⟨a, c, hS, hR⟩ := hM.t.ex
  obtain ⟨r, hr⟩ : ∃ r, g.to[n]? = some r := ⟨_, List.getElem?_eq_getElem hlt⟩
  obtain ⟨b', o', a', c', rfl, hb', yr, sg, _⟩ := hR.at n r hr
  have em : r.length = m := by rw [← hm, List.getD_eq_getElem?_getD, hr]; rfl
  have hnN : (n : Int) < N := by omega
  have c0 : ¬ ((n : Int) < 0) := by omega
  have hN200 : N ≤ 200 := by rw [← hN0]; exact hf.t
  have hmm : m ≤ 1048576 := by rw [← em]; exact hf.r r (List.mem_of_getElem? hr)
  rw [hN0] at hS
  rw [em] at yr
  have y0 := hS.cell 0
  simp only [List.getElem?_cons_zero, List.getElem?_cons_succ] at y0
  clear hM hf hT en hR hS hr hlt em hm hN0 hn sg
  subst h1 h2
  have t1 : True := trivial
  go_enter Try.func22, Try.ntmps22
  go_wp2_with (first
    | (clear t1; refine wpList_boxS rfl 35 _ rfl (pkL (k0, 1, 0)) rfl ?_; intro W1 b1 F1 C1; have B1 := F_b F1; have yf1 := cell_grow yf B1; clear F1)
    | (go_at_call 20; refine (hN _ (HM.out.t.below B1)).mono ?_; rintro e W2 ⟨rfl, B2⟩; have B3 := Below.then B1 B2; have C2 := C1.grown B2; have x0 := C2.cell 0; have x1 := C2.cell 1; have x2 := C2.cell 2; simp only [pkL, List.getElem?_cons_zero, List.getElem?_cons_succ] at x0 x1 x2; clear C1 C2 B1 B2 yf1; have z0 := cell_grow y0 B3; have zr := cell_grow yr B3))
  refine grow_allW (by kernel_rfl) (by kernel_rfl) ?_
  refine WG.put rfl (v := (.int .i64 (n : Int))) (fun w => by first | rfl | (go_simp; done) | (simp [go_sem]; done) | (simp [execOp, go_sem]; done)) ?_
  simp only [Act.put, List.setIfInBounds_toArray, List.set_cons_succ, List.set_cons_zero]
  refine WG.put rfl (v := (.bool false)) (fun w => by first | rfl | (go_simp; done) | (simp [go_sem, c0]; done) | (simp [execOp, go_sem, c0]; done)) ?_
  simp only [Act.put, List.setIfInBounds_toArray, List.set_cons_succ, List.set_cons_zero]
  refine WG.put rfl (v := (.bool false)) (fun w => by first | rfl | (go_simp; done) | (simp [go_sem]; done) | (simp [execOp, go_sem]; done)) ?_
  simp only [Act.put, List.setIfInBounds_toArray, List.set_cons_succ, List.set_cons_zero]
  refine WG.put rfl (v := (.pointer (some ⟨b1, 1, none⟩))) (fun w => by first | rfl | (go_simp; done) | (simp [go_sem]; done) | (simp [execOp, go_sem]; done)) ?_
  simp only [Act.put, List.setIfInBounds_toArray, List.set_cons_succ, List.set_cons_zero]
  refine WG.cell rfl 3 _ rfl rfl x1 (fun w h => by simp [go_sem, h]) ?_
  simp only [Act.put, List.setIfInBounds_toArray, List.set_cons_succ, List.set_cons_zero]
  refine WG.put rfl (v := (.bool false)) (fun w => by first | rfl | (go_simp; done) | (simp [go_sem]; done) | (simp [execOp, go_sem]; done)) ?_
  simp only [Act.put, List.setIfInBounds_toArray, List.set_cons_succ, List.set_cons_zero]
  refine WG.put rfl (v := (.bool false)) (fun w => by first | rfl | (go_simp; done) | (simp [go_sem]; done) | (simp [execOp, go_sem]; done)) ?_
  simp only [Act.put, List.setIfInBounds_toArray, List.set_cons_succ, List.set_cons_zero]
  refine WG.put rfl (v := (.bool false)) (fun w => by first | rfl | (go_simp; done) | (simp [go_sem]; done) | (simp [execOp, go_sem]; done)) ?_
  simp only [Act.put, List.setIfInBounds_toArray, List.set_cons_succ, List.set_cons_zero]
  refine WG.put rfl (v := (.pointer (some ⟨b1, 2, none⟩))) (fun w => by first | rfl | (go_simp; done) | (simp [go_sem]; done) | (simp [execOp, go_sem]; done)) ?_
  simp only [Act.put, List.setIfInBounds_toArray, List.set_cons_succ, List.set_cons_zero]
  refine WG.cell rfl 3 _ rfl rfl x2 (fun w h => by simp [go_sem, h]) ?_
  simp only [Act.put, List.setIfInBounds_toArray, List.set_cons_succ, List.set_cons_zero]
  refine WG.put rfl (v := (.bool false)) (fun w => by first | rfl | (go_simp; done) | (simp [go_sem]; done) | (simp [execOp, go_sem]; done)) ?_
  simp only [Act.put, List.setIfInBounds_toArray, List.set_cons_succ, List.set_cons_zero]
  refine WG.put rfl (v := (.bool false)) (fun w => by first | rfl | (go_simp; done) | (simp [go_sem]; done) | (simp [execOp, go_sem]; done)) ?_
  simp only [Act.put, List.setIfInBounds_toArray, List.set_cons_succ, List.set_cons_zero]
  refine WG.put rfl (v := (.bool false)) (fun w => by first | rfl | (go_simp; done) | (simp [go_sem]; done) | (simp [execOp, go_sem]; done)) ?_
  simp only [Act.put, List.setIfInBounds_toArray, List.set_cons_succ, List.set_cons_zero]
  refine WG.put rfl (v := (.pointer (some ⟨b1, 0, none⟩))) (fun w => by first | rfl | (go_simp; done) | (simp [go_sem]; done) | (simp [execOp, go_sem]; done)) ?_
  simp only [Act.put, List.setIfInBounds_toArray, List.set_cons_succ, List.set_cons_zero]
  refine WG.cell rfl 3 _ rfl rfl x0 (fun w h => by simp [go_sem, h]) ?_
  simp only [Act.put, List.setIfInBounds_toArray, List.set_cons_succ, List.set_cons_zero]
  refine WG.put rfl (v := (.bool true)) (fun w => by first | rfl | (go_simp; done) | (simp [go_sem, h3]; done) | (simp [execOp, go_sem, h3]; done)) ?_
  simp only [Act.put, List.setIfInBounds_toArray, List.set_cons_succ, List.set_cons_zero]
  refine WG.put rfl (v := (.bool true)) (fun w => by first | rfl | (go_simp; done) | (simp [go_sem]; done) | (simp [execOp, go_sem]; done)) ?_
  simp only [Act.put, List.setIfInBounds_toArray, List.set_cons_succ, List.set_cons_zero]
  refine WG.put rfl (v := (.bool true)) (fun w => by first | rfl | (go_simp; done) | (simp [go_sem]; done) | (simp [execOp, go_sem]; done)) ?_
  simp only [Act.put, List.setIfInBounds_toArray, List.set_cons_succ, List.set_cons_zero]
  refine WG.skip rfl ?_
  simp only [Act.put, List.setIfInBounds_toArray, List.set_cons_succ, List.set_cons_zero]
  refine WG.skip rfl ?_
  simp only [Act.put, List.setIfInBounds_toArray, List.set_cons_succ, List.set_cons_zero]
  refine WG.skip rfl ?_
  simp only [Act.put, List.setIfInBounds_toArray, List.set_cons_succ, List.set_cons_zero]
  refine WG.skip rfl ?_
  simp only [Act.put, List.setIfInBounds_toArray, List.set_cons_succ, List.set_cons_zero]
  refine WG.skip rfl ?_
  simp only [Act.put, List.setIfInBounds_toArray, List.set_cons_succ, List.set_cons_zero]
  refine WG.skip rfl ?_
  simp only [Act.put, List.setIfInBounds_toArray, List.set_cons_succ, List.set_cons_zero]
  refine WG.skip rfl ?_
  simp only [Act.put, List.setIfInBounds_toArray, List.set_cons_succ, List.set_cons_zero]
  refine WG.skip rfl ?_
  simp only [Act.put, List.setIfInBounds_toArray, List.set_cons_succ, List.set_cons_zero]
  refine WG.skip rfl ?_
  simp only [Act.put, List.setIfInBounds_toArray, List.set_cons_succ, List.set_cons_zero]
  refine WG.put rfl (v := (.bool true)) (fun w => by first | rfl | (go_simp; done) | (simp [go_sem]; done) | (simp [execOp, go_sem]; done)) ?_
  simp only [Act.put, List.setIfInBounds_toArray, List.set_cons_succ, List.set_cons_zero]
  refine WG.nil ?_
  intro W4 B4
  have B5 := Below.then B3 B4
  go_wp2
  go_ret2
  exact ⟨rfl, B5⟩
set_option maxRecDepth 100000 in
set_option maxHeartbeats 4000000 in
theorem step_4 (g : GR) (hf : g.Few) (T : ByteArray) (hT : T.size ≤ 1099511627776) (bn bg : Nat) (k0 k1 k2 : Int) (n m N : Nat) (hn : numG g T = some n) (hm : (g.to.getD n []).length = m) (hN0 : g.to.length = N) (h1 : k1 = 1) (h2 : k2 = 0) (h3 : ¬ k0 < 0) (h4 : (m : Int) ≤ k0) (w : World) (hM : MG w g bn bg) :
    Calls Try.prog 22 #[.string T, .agg (pkL (k0, k1, k2)).toArray, .pointer (some ⟨bn, 0, none⟩), .pointer (some ⟨bg, 0, none⟩)] w fun e w' => e = .returned (.tuple #[.string ⟨#[]⟩, .bool false]) ∧ Below w.heap.size w w' := by
  have hN := fun W (h : GB W g bg) => num_any g hf T hT bg W h
  have HM : Hid (MG w g bn bg) := hM
  have yf : w.cell? ⟨bn, 0, none⟩ = _ := hM.f.cell 0
  simp only [List.getElem?_cons_zero] at yf
  have hlt := num_lt hn
  have en : numI g T = n := by unfold numI; rw [hn]
  rw [en] at hN
  obtain ⟨a, c, hS, hR⟩ := hM.t.ex
  obtain ⟨r, hr⟩ : ∃ r, g.to[n]? = some r := ⟨_, List.getElem?_eq_getElem hlt⟩
  obtain ⟨b', o', a', c', rfl, hb', yr, sg, _⟩ := hR.at n r hr
  have em : r.length = m := by rw [← hm, List.getD_eq_getElem?_getD, hr]; rfl
  have hnN : (n : Int) < N := by omega
  have c0 : ¬ ((n : Int) < 0) := by omega
  have hN200 : N ≤ 200 := by rw [← hN0]; exact hf.t
  have hmm : m ≤ 1048576 := by rw [← em]; exact hf.r r (List.mem_of_getElem? hr)
  rw [hN0] at hS
  rw [em] at yr
  have y0 := hS.cell 0
  simp only [List.getElem?_cons_zero, List.getElem?_cons_succ] at y0
  clear hM hf hT en hR hS hr hlt em hm hN0 hn sg
  subst h1 h2
  have t1 : True := trivial
  go_enter Try.func22, Try.ntmps22
  go_wp2_with (first
    | (clear t1; refine wpList_boxS rfl 35 _ rfl (pkL (k0, 1, 0)) rfl ?_; intro W1 b1 F1 C1; have B1 := F_b F1; have yf1 := cell_grow yf B1; clear F1)
    | (go_at_call 20; refine (hN _ (HM.out.t.below B1)).mono ?_; rintro e W2 ⟨rfl, B2⟩; have B3 := Below.then B1 B2; have C2 := C1.grown B2; have x0 := C2.cell 0; have x1 := C2.cell 1; have x2 := C2.cell 2; simp only [pkL, List.getElem?_cons_zero, List.getElem?_cons_succ] at x0 x1 x2; clear C1 C2 B1 B2 yf1; have z0 := cell_grow y0 B3; have zr := cell_grow yr B3))
  refine grow_allW (by kernel_rfl) (by kernel_rfl) ?_
  refine WG.put rfl (v := (.int .i64 (n : Int))) (fun w => by first | rfl | (go_simp; done) | (simp [go_sem]; done) | (simp [execOp, go_sem]; done)) ?_
  simp only [Act.put, List.setIfInBounds_toArray, List.set_cons_succ, List.set_cons_zero]
  refine WG.put rfl (v := (.bool false)) (fun w => by first | rfl | (go_simp; done) | (simp [go_sem, c0]; done) | (simp [execOp, go_sem, c0]; done)) ?_
  simp only [Act.put, List.setIfInBounds_toArray, List.set_cons_succ, List.set_cons_zero]
  refine WG.put rfl (v := (.bool false)) (fun w => by first | rfl | (go_simp; done) | (simp [go_sem]; done) | (simp [execOp, go_sem]; done)) ?_
  simp only [Act.put, List.setIfInBounds_toArray, List.set_cons_succ, List.set_cons_zero]
  refine WG.put rfl (v := (.pointer (some ⟨b1, 1, none⟩))) (fun w => by first | rfl | (go_simp; done) | (simp [go_sem]; done) | (simp [execOp, go_sem]; done)) ?_
  simp only [Act.put, List.setIfInBounds_toArray, List.set_cons_succ, List.set_cons_zero]
  refine WG.cell rfl 3 _ rfl rfl x1 (fun w h => by simp [go_sem, h]) ?_
  simp only [Act.put, List.setIfInBounds_toArray, List.set_cons_succ, List.set_cons_zero]
  refine WG.put rfl (v := (.bool false)) (fun w => by first | rfl | (go_simp; done) | (simp [go_sem]; done) | (simp [execOp, go_sem]; done)) ?_
  simp only [Act.put, List.setIfInBounds_toArray, List.set_cons_succ, List.set_cons_zero]
  refine WG.put rfl (v := (.bool false)) (fun w => by first | rfl | (go_simp; done) | (simp [go_sem]; done) | (simp [execOp, go_sem]; done)) ?_
  simp only [Act.put, List.setIfInBounds_toArray, List.set_cons_succ, List.set_cons_zero]
  refine WG.put rfl (v := (.bool false)) (fun w => by first | rfl | (go_simp; done) | (simp [go_sem]; done) | (simp [execOp, go_sem]; done)) ?_
  simp only [Act.put, List.setIfInBounds_toArray, List.set_cons_succ, List.set_cons_zero]
  refine WG.put rfl (v := (.pointer (some ⟨b1, 2, none⟩))) (fun w => by first | rfl | (go_simp; done) | (simp [go_sem]; done) | (simp [execOp, go_sem]; done)) ?_
  simp only [Act.put, List.setIfInBounds_toArray, List.set_cons_succ, List.set_cons_zero]
  refine WG.cell rfl 3 _ rfl rfl x2 (fun w h => by simp [go_sem, h]) ?_
  simp only [Act.put, List.setIfInBounds_toArray, List.set_cons_succ, List.set_cons_zero]
  refine WG.put rfl (v := (.bool false)) (fun w => by first | rfl | (go_simp; done) | (simp [go_sem]; done) | (simp [execOp, go_sem]; done)) ?_
  simp only [Act.put, List.setIfInBounds_toArray, List.set_cons_succ, List.set_cons_zero]
  refine WG.put rfl (v := (.bool false)) (fun w => by first | rfl | (go_simp; done) | (simp [go_sem]; done) | (simp [execOp, go_sem]; done)) ?_
  simp only [Act.put, List.setIfInBounds_toArray, List.set_cons_succ, List.set_cons_zero]
  refine WG.put rfl (v := (.bool false)) (fun w => by first | rfl | (go_simp; done) | (simp [go_sem]; done) | (simp [execOp, go_sem]; done)) ?_
  simp only [Act.put, List.setIfInBounds_toArray, List.set_cons_succ, List.set_cons_zero]
  refine WG.put rfl (v := (.pointer (some ⟨b1, 0, none⟩))) (fun w => by first | rfl | (go_simp; done) | (simp [go_sem]; done) | (simp [execOp, go_sem]; done)) ?_
  simp only [Act.put, List.setIfInBounds_toArray, List.set_cons_succ, List.set_cons_zero]
  refine WG.cell rfl 3 _ rfl rfl x0 (fun w h => by simp [go_sem, h]) ?_
  simp only [Act.put, List.setIfInBounds_toArray, List.set_cons_succ, List.set_cons_zero]
  refine WG.put rfl (v := (.bool false)) (fun w => by first | rfl | (go_simp; done) | (simp [go_sem, h3]; done) | (simp [execOp, go_sem, h3]; done)) ?_
  simp only [Act.put, List.setIfInBounds_toArray, List.set_cons_succ, List.set_cons_zero]
  refine WG.put rfl (v := (.bool false)) (fun w => by first | rfl | (go_simp; done) | (simp [go_sem]; done) | (simp [execOp, go_sem]; done)) ?_
  simp only [Act.put, List.setIfInBounds_toArray, List.set_cons_succ, List.set_cons_zero]
  refine WG.put rfl (v := (.bool false)) (fun w => by first | rfl | (go_simp; done) | (simp [go_sem]; done) | (simp [execOp, go_sem]; done)) ?_
  simp only [Act.put, List.setIfInBounds_toArray, List.set_cons_succ, List.set_cons_zero]
  refine WG.put rfl (v := (.pointer (some ⟨b1, 0, none⟩))) (fun w => by first | rfl | (go_simp; done) | (simp [go_sem]; done) | (simp [execOp, go_sem]; done)) ?_
  simp only [Act.put, List.setIfInBounds_toArray, List.set_cons_succ, List.set_cons_zero]
  refine WG.cell rfl 3 _ rfl rfl x0 (fun w h => by simp [go_sem, h]) ?_
  simp only [Act.put, List.setIfInBounds_toArray, List.set_cons_succ, List.set_cons_zero]
  refine WG.put rfl (v := (.pointer (some ⟨bg, 0, none⟩))) (fun w => by first | rfl | (go_simp; done) | (simp [go_sem]; done) | (simp [execOp, go_sem]; done)) ?_
  simp only [Act.put, List.setIfInBounds_toArray, List.set_cons_succ, List.set_cons_zero]
  refine WG.cell rfl 22 _ rfl rfl z0 (fun w h => by simp [go_sem, h]) ?_
  simp only [Act.put, List.setIfInBounds_toArray, List.set_cons_succ, List.set_cons_zero]
  refine WG.put rfl (v := (.int .i64 (n : Int))) (fun w => by first | rfl | (go_simp; done) | (simp [go_sem]; done) | (simp [execOp, go_sem]; done)) ?_
  simp only [Act.put, List.setIfInBounds_toArray, List.set_cons_succ, List.set_cons_zero]
  refine WG.put rfl (v := (.pointer (some ⟨b', o' + n, none⟩))) (fun w => by first | rfl | (go_simp; done) | (simp [go_sem, hnN]; done) | (simp [execOp, go_sem, hnN]; done)) ?_
  simp only [Act.put, List.setIfInBounds_toArray, List.set_cons_succ, List.set_cons_zero]
  refine WG.cell rfl 54 _ rfl rfl zr (fun w h => by simp [go_sem, h]) ?_
  simp only [Act.put, List.setIfInBounds_toArray, List.set_cons_succ, List.set_cons_zero]
  refine WG.put rfl (v := (.int .i64 (m : Int))) (fun w => by first | rfl | (go_simp; done) | (simp [go_sem]; done) | (simp [execOp, go_sem]; done)) ?_
  simp only [Act.put, List.setIfInBounds_toArray, List.set_cons_succ, List.set_cons_zero]
  refine WG.put rfl (v := (.bool true)) (fun w => by first | rfl | (go_simp; done) | (simp [go_sem, h4]; done) | (simp [execOp, go_sem, h4]; done)) ?_
  simp only [Act.put, List.setIfInBounds_toArray, List.set_cons_succ, List.set_cons_zero]
  refine WG.put rfl (v := (.bool true)) (fun w => by first | rfl | (go_simp; done) | (simp [go_sem]; done) | (simp [execOp, go_sem]; done)) ?_
  simp only [Act.put, List.setIfInBounds_toArray, List.set_cons_succ, List.set_cons_zero]
  refine WG.nil ?_
  intro W4 B4
  have B5 := Below.then B3 B4
  go_wp2
  go_ret2
  exact ⟨rfl, B5⟩
set_option maxRecDepth 100000 in
set_option maxHeartbeats 4000000 in
theorem step_5 (g : GR) (hf : g.Few) (T : ByteArray) (hT : T.size ≤ 1099511627776) (bn bg : Nat) (k0 k1 k2 : Int) (n m N : Nat) (hn : numG g T = some n) (hm : (g.to.getD n []).length = m) (hN0 : g.to.length = N) (h1 : k1 = 1) (h2 : k2 = 0) (j : Nat) (h3 : k0 = (j : Int)) (h4 : j < m) (q : Int) (hq : (g.to.getD n [])[j]? = some q) (w : World) (hM : MG w g bn bg) :
    Calls Try.prog 22 #[.string T, .agg (pkL (k0, k1, k2)).toArray, .pointer (some ⟨bn, 0, none⟩), .pointer (some ⟨bg, 0, none⟩)] w fun e w' => e = .returned (.tuple #[.string (byteS q), .bool (decide (0 ≤ q) && decide (q < N))]) ∧ Below w.heap.size w w' := by
  have hN := fun W (h : GB W g bg) => num_any g hf T hT bg W h
  have HM : Hid (MG w g bn bg) := hM
  have yf : w.cell? ⟨bn, 0, none⟩ = _ := hM.f.cell 0
  simp only [List.getElem?_cons_zero] at yf
  have hlt := num_lt hn
  have en : numI g T = n := by unfold numI; rw [hn]
  rw [en] at hN
  obtain ⟨a, c, hS, hR⟩ := hM.t.ex
  obtain ⟨r, hr⟩ : ∃ r, g.to[n]? = some r := ⟨_, List.getElem?_eq_getElem hlt⟩
  obtain ⟨b', o', a', c', rfl, hb', yr, sg, _⟩ := hR.at n r hr
  have em : r.length = m := by rw [← hm, List.getD_eq_getElem?_getD, hr]; rfl
  have hnN : (n : Int) < N := by omega
  have c0 : ¬ ((n : Int) < 0) := by omega
  have hN200 : N ≤ 200 := by rw [← hN0]; exact hf.t
  have hmm : m ≤ 1048576 := by rw [← em]; exact hf.r r (List.mem_of_getElem? hr)
  rw [hN0] at hS
  rw [em] at yr
  have y0 := hS.cell 0
  simp only [List.getElem?_cons_zero, List.getElem?_cons_succ] at y0
  rw [List.getD_eq_getElem?_getD, hr] at hq
  obtain ⟨S, hSb⟩ : ∃ S, byteS q = S := ⟨_, rfl⟩
  have HSb : Hid (byteS q = S) := hSb
  obtain ⟨R, hRb⟩ : ∃ R, (decide (0 ≤ q) && decide (q < (N : Int))) = R := ⟨_, rfl⟩
  have HRb : Hid ((decide (0 ≤ q) && decide (q < (N : Int))) = R) := hRb
  rw [hSb, hRb]
  clear hSb hRb
  obtain ⟨br, or', ea, hbr, yq⟩ := sg j _ (int_at hq)
  subst ea
  clear hM hf hT en hR hS hr hlt em hm hN0 hn sg
  subst h1 h2 h3
  have c4 : ¬ ((m : Int) ≤ (j : Int)) := by omega
  have c5 : (j : Int) < m := by omega
  have c6 : ¬ ((j : Int) < 0) := by omega
  clear hq
  have t1 : True := trivial
  go_enter Try.func22, Try.ntmps22
  go_wp2_with (first
    | (clear t1; refine wpList_boxS rfl 35 _ rfl (pkL ((j : Int), 1, 0)) rfl ?_; intro W1 b1 F1 C1; have B1 := F_b F1; have yf1 := cell_grow yf B1; clear F1)
    | (go_at_call 20; refine (hN _ (HM.out.t.below B1)).mono ?_; rintro e W2 ⟨rfl, B2⟩; have B3 := Below.then B1 B2; have C2 := C1.grown B2; have x0 := C2.cell 0; have x1 := C2.cell 1; have x2 := C2.cell 2; simp only [pkL, List.getElem?_cons_zero, List.getElem?_cons_succ] at x0 x1 x2; clear C1 C2 B1 B2 yf1; have z0 := cell_grow y0 B3; have zr := cell_grow yr B3; have zq := cell_grow yq B3))
  refine grow_allW (by kernel_rfl) (by kernel_rfl) ?_
  refine WG.put rfl (v := (.int .i64 (n : Int))) (fun w => by first | rfl | (go_simp; done) | (simp [go_sem]; done) | (simp [execOp, go_sem]; done)) ?_
  simp only [Act.put, List.setIfInBounds_toArray, List.set_cons_succ, List.set_cons_zero]
  refine WG.put rfl (v := (.bool false)) (fun w => by first | rfl | (go_simp; done) | (simp [go_sem, c0]; done) | (simp [execOp, go_sem, c0]; done)) ?_
  simp only [Act.put, List.setIfInBounds_toArray, List.set_cons_succ, List.set_cons_zero]
  refine WG.put rfl (v := (.bool false)) (fun w => by first | rfl | (go_simp; done) | (simp [go_sem]; done) | (simp [execOp, go_sem]; done)) ?_
  simp only [Act.put, List.setIfInBounds_toArray, List.set_cons_succ, List.set_cons_zero]
  refine WG.put rfl (v := (.pointer (some ⟨b1, 1, none⟩))) (fun w => by first | rfl | (go_simp; done) | (simp [go_sem]; done) | (simp [execOp, go_sem]; done)) ?_
  simp only [Act.put, List.setIfInBounds_toArray, List.set_cons_succ, List.set_cons_zero]
  refine WG.cell rfl 3 _ rfl rfl x1 (fun w h => by simp [go_sem, h]) ?_
  simp only [Act.put, List.setIfInBounds_toArray, List.set_cons_succ, List.set_cons_zero]
  refine WG.put rfl (v := (.bool false)) (fun w => by first | rfl | (go_simp; done) | (simp [go_sem]; done) | (simp [execOp, go_sem]; done)) ?_
  simp only [Act.put, List.setIfInBounds_toArray, List.set_cons_succ, List.set_cons_zero]
  refine WG.put rfl (v := (.bool false)) (fun w => by first | rfl | (go_simp; done) | (simp [go_sem]; done) | (simp [execOp, go_sem]; done)) ?_
  simp only [Act.put, List.setIfInBounds_toArray, List.set_cons_succ, List.set_cons_zero]
  refine WG.put rfl (v := (.bool false)) (fun w => by first | rfl | (go_simp; done) | (simp [go_sem]; done) | (simp [execOp, go_sem]; done)) ?_
  simp only [Act.put, List.setIfInBounds_toArray, List.set_cons_succ, List.set_cons_zero]
  refine WG.put rfl (v := (.pointer (some ⟨b1, 2, none⟩))) (fun w => by first | rfl | (go_simp; done) | (simp [go_sem]; done) | (simp [execOp, go_sem]; done)) ?_
  simp only [Act.put, List.setIfInBounds_toArray, List.set_cons_succ, List.set_cons_zero]
  refine WG.cell rfl 3 _ rfl rfl x2 (fun w h => by simp [go_sem, h]) ?_
  simp only [Act.put, List.setIfInBounds_toArray, List.set_cons_succ, List.set_cons_zero]
  refine WG.put rfl (v := (.bool false)) (fun w => by first | rfl | (go_simp; done) | (simp [go_sem]; done) | (simp [execOp, go_sem]; done)) ?_
  simp only [Act.put, List.setIfInBounds_toArray, List.set_cons_succ, List.set_cons_zero]
  refine WG.put rfl (v := (.bool false)) (fun w => by first | rfl | (go_simp; done) | (simp [go_sem]; done) | (simp [execOp, go_sem]; done)) ?_
  simp only [Act.put, List.setIfInBounds_toArray, List.set_cons_succ, List.set_cons_zero]
  refine WG.put rfl (v := (.bool false)) (fun w => by first | rfl | (go_simp; done) | (simp [go_sem]; done) | (simp [execOp, go_sem]; done)) ?_
  simp only [Act.put, List.setIfInBounds_toArray, List.set_cons_succ, List.set_cons_zero]
  refine WG.put rfl (v := (.pointer (some ⟨b1, 0, none⟩))) (fun w => by first | rfl | (go_simp; done) | (simp [go_sem]; done) | (simp [execOp, go_sem]; done)) ?_
  simp only [Act.put, List.setIfInBounds_toArray, List.set_cons_succ, List.set_cons_zero]
  refine WG.cell rfl 3 _ rfl rfl x0 (fun w h => by simp [go_sem, h]) ?_
  simp only [Act.put, List.setIfInBounds_toArray, List.set_cons_succ, List.set_cons_zero]
  refine WG.put rfl (v := (.bool false)) (fun w => by first | rfl | (go_simp; done) | (simp [go_sem, c6]; done) | (simp [execOp, go_sem, c6]; done)) ?_
  simp only [Act.put, List.setIfInBounds_toArray, List.set_cons_succ, List.set_cons_zero]
  refine WG.put rfl (v := (.bool false)) (fun w => by first | rfl | (go_simp; done) | (simp [go_sem]; done) | (simp [execOp, go_sem]; done)) ?_
  simp only [Act.put, List.setIfInBounds_toArray, List.set_cons_succ, List.set_cons_zero]
  refine WG.put rfl (v := (.bool false)) (fun w => by first | rfl | (go_simp; done) | (simp [go_sem]; done) | (simp [execOp, go_sem]; done)) ?_
  simp only [Act.put, List.setIfInBounds_toArray, List.set_cons_succ, List.set_cons_zero]
  refine WG.put rfl (v := (.pointer (some ⟨b1, 0, none⟩))) (fun w => by first | rfl | (go_simp; done) | (simp [go_sem]; done) | (simp [execOp, go_sem]; done)) ?_
  simp only [Act.put, List.setIfInBounds_toArray, List.set_cons_succ, List.set_cons_zero]
  refine WG.cell rfl 3 _ rfl rfl x0 (fun w h => by simp [go_sem, h]) ?_
  simp only [Act.put, List.setIfInBounds_toArray, List.set_cons_succ, List.set_cons_zero]
  refine WG.put rfl (v := (.pointer (some ⟨bg, 0, none⟩))) (fun w => by first | rfl | (go_simp; done) | (simp [go_sem]; done) | (simp [execOp, go_sem]; done)) ?_
  simp only [Act.put, List.setIfInBounds_toArray, List.set_cons_succ, List.set_cons_zero]
  refine WG.cell rfl 22 _ rfl rfl z0 (fun w h => by simp [go_sem, h]) ?_
  simp only [Act.put, List.setIfInBounds_toArray, List.set_cons_succ, List.set_cons_zero]
  refine WG.put rfl (v := (.int .i64 (n : Int))) (fun w => by first | rfl | (go_simp; done) | (simp [go_sem]; done) | (simp [execOp, go_sem]; done)) ?_
  simp only [Act.put, List.setIfInBounds_toArray, List.set_cons_succ, List.set_cons_zero]
  refine WG.put rfl (v := (.pointer (some ⟨b', o' + n, none⟩))) (fun w => by first | rfl | (go_simp; done) | (simp [go_sem, hnN]; done) | (simp [execOp, go_sem, hnN]; done)) ?_
  simp only [Act.put, List.setIfInBounds_toArray, List.set_cons_succ, List.set_cons_zero]
  refine WG.cell rfl 54 _ rfl rfl zr (fun w h => by simp [go_sem, h]) ?_
  simp only [Act.put, List.setIfInBounds_toArray, List.set_cons_succ, List.set_cons_zero]
  refine WG.put rfl (v := (.int .i64 (m : Int))) (fun w => by first | rfl | (go_simp; done) | (simp [go_sem]; done) | (simp [execOp, go_sem]; done)) ?_
  simp only [Act.put, List.setIfInBounds_toArray, List.set_cons_succ, List.set_cons_zero]
  refine WG.put rfl (v := (.bool false)) (fun w => by first | rfl | (go_simp; done) | (simp [go_sem, c4]; done) | (simp [execOp, go_sem, c4]; done)) ?_
  simp only [Act.put, List.setIfInBounds_toArray, List.set_cons_succ, List.set_cons_zero]
  refine WG.put rfl (v := (.bool false)) (fun w => by first | rfl | (go_simp; done) | (simp [go_sem]; done) | (simp [execOp, go_sem]; done)) ?_
  simp only [Act.put, List.setIfInBounds_toArray, List.set_cons_succ, List.set_cons_zero]
  refine WG.nil ?_
  intro W4 B4
  have B5 := Below.then B3 B4
  replace x0 := cell_grow x0 B4
  replace z0 := cell_grow z0 B4
  replace zr := cell_grow zr B4
  replace zq := cell_grow zq B4
  clear x1 x2 B4 B3 y0 yr yq
  go_wp2
  go_region
  go_wp2
  have hcv := conv_byte q W4
  have hB9 : Below w.heap.size w ((W4.alloc (Obj.cells #[.int .u8 (q % 256)] 5)).drew.drew) := below_drew (below_drew (B5.alloc B5.size _))
  rw [HSb.out] at hcv
  by_cases hq0 : 0 ≤ q
  · by_cases hqN : q < N
    · have e : q % 256 = q := by omega
      rw [e] at hcv hB9
      have z9 : (W4.alloc (Obj.cells #[.int .u8 q] 5)).cell? ⟨bg, 0, none⟩ = some (.slice (some ⟨b', o', none⟩) N c) := cell_grow z0 ((Below.refl _ W4).alloc (Nat.le_refl _) _)
      clear e
      go_region
      go_wp2
      go_ret2
      exact ⟨by have h : R = true := (by rw [← HRb.out, decide_eq_true (show 0 ≤ q by omega), decide_eq_true (show q < (N : Int) by omega)]; rfl); rw [h]; rfl, hB9⟩
    · have z9 : (W4.alloc (Obj.cells #[.int .u8 (q % 256)] 5)).cell? ⟨bg, 0, none⟩ = some (.slice (some ⟨b', o', none⟩) N c) := cell_grow z0 ((Below.refl _ W4).alloc (Nat.le_refl _) _)
      go_region
      go_wp2
      go_ret2
      exact ⟨by have h : R = false := (by rw [← HRb.out, decide_eq_false (show ¬ q < (N : Int) by omega), Bool.and_false]); rw [h]; rfl, hB9⟩
  · go_region
    go_wp2
    go_ret2
    exact ⟨by have h : R = false := (by rw [← HRb.out, decide_eq_false (show ¬ 0 ≤ q by omega), Bool.false_and]); rw [h]; rfl, hB9⟩
end Go.Proofs.Ytmoieckmbimgoaa
