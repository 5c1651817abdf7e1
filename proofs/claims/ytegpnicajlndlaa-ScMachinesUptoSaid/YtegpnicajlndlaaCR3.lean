/- CR3 -/
import Derived.Test.YtegpnicajlndlaaQbc
import Derived.Test.YtegpnicajlndlaaQap
namespace Go.Proofs.Ytegpnicajlndlaa
open Go.RowKit M
set_option linter.unusedSimpArgs false
set_option linter.unusedVariables false
theorem nowU {listed : Array Bool} {i : Nat} (h : listed.getD i true = false) : (listed.setIfInBounds i true).getD i false = true := by
 have hlt : i < listed.size := by
  rcases Nat.lt_or_ge i listed.size with h' | h'
  · exact h'
  · simp [Array.getElem?_eq_none h'] at h
 simp [hlt]
theorem one_cell {W W' : World} {b k o : Nat} (O : One W W' b) (hk : k < W.heap.size) (hne : k ≠ b) : W'.cell? ⟨k, o, none⟩ = W.cell? ⟨k, o, none⟩ := World.cell?_of_block (w := W) (O.block k hk hne)
theorem isS_updT {W W' : World} {k g t t' : Nat} {cs cs' : List Value} (h : IsS W k t cs) (hg : IsS W g t' cs') (ht : t ≠ t') (U : Upd W W' g) : IsS W' k t cs := h.upd U fun e => by subst e; exact ht (isS_ty h hg)
theorem one_below {w W W' : World} {B b : Nat} (h : Below B w W) (O : One W W' b) (hB : B ≤ b) (hW : B ≤ W.heap.size) : Below B w W' :=
 ⟨O.os.trans h.os, O.tape.trans h.tape, O.output.trans h.output, Nat.le_trans h.size O.size, fun k hk => (O.block k (by omega) (by omega)).trans (h.block k hk)⟩
def slc (g m : Nat) : Value := .slice (some ⟨g, 0, none⟩) m m
structure LA (w : World) (T : ByteArray) (n b2 b4 b6 b8 gp gh gr gb : Nat) (sh : List Value) (W : World) (r : RD) (pc ph : List Int) (rgV bfV : List Value) (mmV : Value) (lk : Int) (rows : List (Nat × List Int)) (brows : List (Nat × List (Int × Int))) : Prop where
 rd : RdS W b6 T r
 s8 : IsS W b8 32 [slc gp n, slc gh n, slc gr n, mmV, slc gb n, .int .i64 lk]
 c2 : IsS W b2 105 sh
 z4 : IsS W b4 32 [.slice none 0 0, .slice none 0 0, .slice none 0 0, .slice none 0 0, .slice none 0 0, .int .i64 0]
 pc : IsS W gp 3 (pc.map (.int .i64))
 ph : IsS W gh 3 (ph.map (.int .i64))
 rg : IsS W gr 26 rgV
 bf : IsS W gb 48 bfV
 rr : ∀ x ∈ rows, IsS W x.1 2 (x.2.map (.int .i64))
 bb : ∀ x ∈ brows, IsS W x.1 50 (x.2.flatMap wrE)
 bel : Below w.heap.size w W
 d1 : gp ≠ gh
 d8 : b4 ≠ b8
 low : w.heap.size ≤ b4 ∧ w.heap.size ≤ b6 ∧ w.heap.size ≤ b8 ∧ w.heap.size ≤ gp ∧ w.heap.size ≤ gh ∧ w.heap.size ≤ gr ∧ w.heap.size ≤ gb
 lr : ∀ x ∈ rows, w.heap.size ≤ x.1
 lb : ∀ x ∈ brows, w.heap.size ≤ x.1
 nr : (rows.map (·.1)).Nodup
 nb : (brows.map (·.1)).Nodup
section
variable {w W W' : World} {T : ByteArray} {n b2 b4 b6 b8 gp gh gr gb : Nat} {sh : List Value} {r r' : RD} {pc ph : List Int} {rgV bfV : List Value} {mmV : Value} {lk : Int} {rows : List (Nat × List Int)} {brows : List (Nat × List (Int × Int))}
theorem LA.one (h : LA w T n b2 b4 b6 b8 gp gh gr gb sh W r pc ph rgV bfV mmV lk rows brows) (R : RdS W' b6 T r') (O : One W W' b6) : LA w T n b2 b4 b6 b8 gp gh gr gb sh W' r' pc ph rgV bfV mmV lk rows brows :=
 ⟨R, isS_one h.s8 h.rd (by decide) O, isS_one h.c2 h.rd (by decide) O, isS_one h.z4 h.rd (by decide) O, isS_one h.pc h.rd (by decide) O, isS_one h.ph h.rd (by decide) O, isS_one h.rg h.rd (by decide) O, isS_one h.bf h.rd (by decide) O,
  fun x hx => isS_one (h.rr x hx) h.rd (by decide) O, fun x hx => isS_one (h.bb x hx) h.rd (by decide) O, one_below h.bel O h.low.2.1 h.bel.size, h.d1, h.d8, h.low, h.lr, h.lb, h.nr, h.nb⟩
theorem LA.upPc {pc' : List Int} (h : LA w T n b2 b4 b6 b8 gp gh gr gb sh W r pc ph rgV bfV mmV lk rows brows) (U : Upd W W' gp) (I : IsS W' gp 3 (pc'.map (.int .i64))) : LA w T n b2 b4 b6 b8 gp gh gr gb sh W' r pc' ph rgV bfV mmV lk rows brows :=
 ⟨isS_updT h.rd h.pc (by decide) U, isS_updT h.s8 h.pc (by decide) U, isS_updT h.c2 h.pc (by decide) U, isS_updT h.z4 h.pc (by decide) U, I, h.ph.upd U (fun e => h.d1 e.symm), isS_updT h.rg h.pc (by decide) U, isS_updT h.bf h.pc (by decide) U,
  fun x hx => isS_updT (h.rr x hx) h.pc (by decide) U, fun x hx => isS_updT (h.bb x hx) h.pc (by decide) U, U.trans h.bel h.low.2.2.2.1, h.d1, h.d8, h.low, h.lr, h.lb, h.nr, h.nb⟩
theorem LA.upPh {ph' : List Int} (h : LA w T n b2 b4 b6 b8 gp gh gr gb sh W r pc ph rgV bfV mmV lk rows brows) (U : Upd W W' gh) (I : IsS W' gh 3 (ph'.map (.int .i64))) : LA w T n b2 b4 b6 b8 gp gh gr gb sh W' r pc ph' rgV bfV mmV lk rows brows :=
 ⟨isS_updT h.rd h.ph (by decide) U, isS_updT h.s8 h.ph (by decide) U, isS_updT h.c2 h.ph (by decide) U, isS_updT h.z4 h.ph (by decide) U, h.pc.upd U h.d1, I, isS_updT h.rg h.ph (by decide) U, isS_updT h.bf h.ph (by decide) U,
  fun x hx => isS_updT (h.rr x hx) h.ph (by decide) U, fun x hx => isS_updT (h.bb x hx) h.ph (by decide) U, U.trans h.bel h.low.2.2.2.2.1, h.d1, h.d8, h.low, h.lr, h.lb, h.nr, h.nb⟩
theorem LA.upRg {rgV' : List Value} (h : LA w T n b2 b4 b6 b8 gp gh gr gb sh W r pc ph rgV bfV mmV lk rows brows) (U : Upd W W' gr) (I : IsS W' gr 26 rgV') : LA w T n b2 b4 b6 b8 gp gh gr gb sh W' r pc ph rgV' bfV mmV lk rows brows :=
 ⟨isS_updT h.rd h.rg (by decide) U, isS_updT h.s8 h.rg (by decide) U, isS_updT h.c2 h.rg (by decide) U, isS_updT h.z4 h.rg (by decide) U, isS_updT h.pc h.rg (by decide) U, isS_updT h.ph h.rg (by decide) U, I, isS_updT h.bf h.rg (by decide) U,
  fun x hx => isS_updT (h.rr x hx) h.rg (by decide) U, fun x hx => isS_updT (h.bb x hx) h.rg (by decide) U, U.trans h.bel h.low.2.2.2.2.2.1, h.d1, h.d8, h.low, h.lr, h.lb, h.nr, h.nb⟩
theorem LA.upBf {bfV' : List Value} (h : LA w T n b2 b4 b6 b8 gp gh gr gb sh W r pc ph rgV bfV mmV lk rows brows) (U : Upd W W' gb) (I : IsS W' gb 48 bfV') : LA w T n b2 b4 b6 b8 gp gh gr gb sh W' r pc ph rgV bfV' mmV lk rows brows :=
 ⟨isS_updT h.rd h.bf (by decide) U, isS_updT h.s8 h.bf (by decide) U, isS_updT h.c2 h.bf (by decide) U, isS_updT h.z4 h.bf (by decide) U, isS_updT h.pc h.bf (by decide) U, isS_updT h.ph h.bf (by decide) U, isS_updT h.rg h.bf (by decide) U, I,
  fun x hx => isS_updT (h.rr x hx) h.bf (by decide) U, fun x hx => isS_updT (h.bb x hx) h.bf (by decide) U, U.trans h.bel h.low.2.2.2.2.2.2, h.d1, h.d8, h.low, h.lr, h.lb, h.nr, h.nb⟩
theorem LA.upS8 {mmV' : Value} {lk' : Int} (h : LA w T n b2 b4 b6 b8 gp gh gr gb sh W r pc ph rgV bfV mmV lk rows brows) (U : Upd W W' b8) (I : IsS W' b8 32 [slc gp n, slc gh n, slc gr n, mmV', slc gb n, .int .i64 lk']) : LA w T n b2 b4 b6 b8 gp gh gr gb sh W' r pc ph rgV bfV mmV' lk' rows brows :=
 ⟨isS_updT h.rd h.s8 (by decide) U, I, isS_updT h.c2 h.s8 (by decide) U, h.z4.upd U h.d8, isS_updT h.pc h.s8 (by decide) U, isS_updT h.ph h.s8 (by decide) U, isS_updT h.rg h.s8 (by decide) U, isS_updT h.bf h.s8 (by decide) U,
  fun x hx => isS_updT (h.rr x hx) h.s8 (by decide) U, fun x hx => isS_updT (h.bb x hx) h.s8 (by decide) U, U.trans h.bel h.low.2.2.1, h.d1, h.d8, h.low, h.lr, h.lb, h.nr, h.nb⟩
theorem nodup_snoc {l : List Nat} {g N : Nat} (h : l.Nodup) (hl : ∀ x ∈ l, x < N) (hg : N ≤ g) : (l ++ [g]).Nodup := by
 rw [List.nodup_append]
 refine ⟨h, by simp, fun a ha b hb e => ?_⟩
 simp only [List.mem_singleton] at hb
 have := hl a ha
 omega
theorem LA.row {g : Nat} {l : List Int} (h : LA w T n b2 b4 b6 b8 gp gh gr gb sh W r pc ph rgV bfV mmV lk rows brows) (R : RdS W' b6 T r') (O : One W W' b6) (hg : W.heap.size ≤ g) (I : IsS W' g 2 (l.map (.int .i64))) :
    LA w T n b2 b4 b6 b8 gp gh gr gb sh W' r' pc ph rgV bfV mmV lk (rows ++ [(g, l)]) brows := by
 have h' := h.one R O
 refine ⟨h'.rd, h'.s8, h'.c2, h'.z4, h'.pc, h'.ph, h'.rg, h'.bf, fun x hx => ?_, h'.bb, h'.bel, h'.d1, h'.d8, h'.low, fun x hx => ?_, h'.lb, ?_, h'.nb⟩
 · rcases List.mem_append.1 hx with hx | hx
   · exact h'.rr x hx
   · simp only [List.mem_singleton] at hx; subst hx; exact I
 · rcases List.mem_append.1 hx with hx | hx
   · exact h'.lr x hx
   · simp only [List.mem_singleton] at hx; subst hx; exact Nat.le_trans h.bel.size hg
 · rw [List.map_append]
   refine nodup_snoc h.nr (fun x hx => ?_) hg
   obtain ⟨y, hy, rfl⟩ := List.mem_map.1 hx
   exact (h.rr y hy).lt
theorem LA.brow {g : Nat} {l : List (Int × Int)} (h : LA w T n b2 b4 b6 b8 gp gh gr gb sh W r pc ph rgV bfV mmV lk rows brows) (R : RdS W' b6 T r') (O : One W W' b6) (hg : W.heap.size ≤ g) (I : IsS W' g 50 (l.flatMap wrE)) :
    LA w T n b2 b4 b6 b8 gp gh gr gb sh W' r' pc ph rgV bfV mmV lk rows (brows ++ [(g, l)]) := by
 have h' := h.one R O
 refine ⟨h'.rd, h'.s8, h'.c2, h'.z4, h'.pc, h'.ph, h'.rg, h'.bf, h'.rr, fun x hx => ?_, h'.bel, h'.d1, h'.d8, h'.low, h'.lr, fun x hx => ?_, h'.nr, ?_⟩
 · rcases List.mem_append.1 hx with hx | hx
   · exact h'.bb x hx
   · simp only [List.mem_singleton] at hx; subst hx; exact I
 · rcases List.mem_append.1 hx with hx | hx
   · exact h'.lb x hx
   · simp only [List.mem_singleton] at hx; subst hx; exact Nat.le_trans h.bel.size hg
 · rw [List.map_append]
   refine nodup_snoc h.nb (fun x hx => ?_) hg
   obtain ⟨y, hy, rfl⟩ := List.mem_map.1 hx
   exact (h.bb y hy).lt
end
def rowsC {α : Type} (rows : List (Nat × List α)) : List Value := rows.map fun x => slc x.1 x.2.length
structure STB (w : World) (B : Nat) (s : ST) (gp gh gr gm gb : Nat) (rows : List (Nat × List Int)) (brows : List (Nat × List (Int × Int))) : Prop where
 pc : IsS w gp 3 (s.pc.map (.int .i64))
 ph : IsS w gh 3 (s.ph.map (.int .i64))
 rg : IsS w gr 26 (rowsC rows)
 mm : IsS w gm 2 (s.mem.map (.int .i64))
 bf : IsS w gb 48 (rowsC brows)
 er : s.regs = rows.map (·.2)
 eb : s.buf = brows.map (·.2)
 rr : ∀ x ∈ rows, IsS w x.1 2 (x.2.map (.int .i64))
 bb : ∀ x ∈ brows, IsS w x.1 50 (x.2.flatMap wrE)
 d1 : gp ≠ gh
 nr : (rows.map (·.1) ++ [gm]).Nodup
 nb : (brows.map (·.1)).Nodup
 low : B ≤ gp ∧ B ≤ gh ∧ B ≤ gr ∧ B ≤ gm ∧ B ≤ gb ∧ (∀ x ∈ rows, B ≤ x.1) ∧ ∀ x ∈ brows, B ≤ x.1
def stbV (s : ST) (gp gh gr gm gb : Nat) : List Value := [slc gp s.pc.length, slc gh s.ph.length, slc gr s.regs.length, slc gm s.mem.length, slc gb s.buf.length, .int .i64 s.lock]
end Go.Proofs.Ytegpnicajlndlaa
