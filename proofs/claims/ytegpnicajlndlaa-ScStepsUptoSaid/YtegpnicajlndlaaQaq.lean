/- SC3, SC4 -/
import Derived.Test.YtegpnicajlndlaaSC2
namespace Go.Proofs.Ytegpnicajlndlaa
open Go.RowKit M
set_option linter.unusedSimpArgs false
set_option linter.unusedVariables false
theorem ldcIs {b o : Nat} {v : Value} (w : World) (h : w.cell? ⟨b, o, none⟩ = some v) : (Instr.loadAt 29 (.pointer (some ⟨b, o, none⟩))).run Try.prog w = .ok v w := by simp [go_sem, h]
theorem ldcTt {b o : Nat} {v : Value} (w : World) (h : w.cell? ⟨b, o, none⟩ = some v) : (Instr.loadAt 22 (.pointer (some ⟨b, o, none⟩))).run Try.prog w = .ok v w := by simp [go_sem, h]
theorem ldcOps {b o : Nat} {v : Value} (w : World) (h : w.cell? ⟨b, o, none⟩ = some v) : (Instr.loadAt 61 (.pointer (some ⟨b, o, none⟩))).run Try.prog w = .ok v w := by simp [go_sem, h]
theorem ldcRr {b o : Nat} {v : Value} (w : World) (h : w.cell? ⟨b, o, none⟩ = some v) : (Instr.loadAt 25 (.pointer (some ⟨b, o, none⟩))).run Try.prog w = .ok v w := by simp [go_sem, h]
theorem ldcR {b o : Nat} {v : Value} (w : World) (h : w.cell? ⟨b, o, none⟩ = some v) : (Instr.loadAt 26 (.pointer (some ⟨b, o, none⟩))).run Try.prog w = .ok v w := by simp [go_sem, h]
theorem ldcI {b o : Nat} {v : Value} (w : World) (h : w.cell? ⟨b, o, none⟩ = some v) : (Instr.loadAt 3 (.pointer (some ⟨b, o, none⟩))).run Try.prog w = .ok v w := by simp [go_sem, h]
theorem infoOpL {o : Op5} : (Try.prog.info? 63).map (·.size) = some (op5L o).length := infoOp
theorem own_diff {w : World} {B B' t t' s s' n n' k : Nat} {v v' : Value} {xs xs' : List Value} (h : w.ownsRow B t s v n xs) (h' : w.ownsRow B' t' s' v' n' xs') (ht : t ≠ t') (hk : v.ownBlock = some k) : v'.ownBlock ≠ some k := by
 intro hk'
 rcases h.2 with ⟨rfl, _⟩ | ⟨g, cap, cur, rfl, _, hh, _⟩
 · cases hk
 · rcases h'.2 with ⟨rfl, _⟩ | ⟨g', cap', cur', rfl, _, hh', _⟩
   · cases hk'
   · simp [Value.ownBlock] at hk hk'
     subst hk hk'
     rw [hh] at hh'
     simp at hh'
     exact ht hh'.2
structure StO (w : World) (B : Nat) (vpc vrg vmm : Value) (vs : List Value) (pc : List Int) (regs : List (List Int)) (mem : List Int) : Prop where
 pc : w.ownsRow B 3 1 vpc pc.length (pc.flatMap intE)
 rg : OwnA w B vrg vs regs
 mm : w.ownsRow B 2 1 vmm mem.length (mem.flatMap intE)
 am : ∀ (j : Nat) u k, vs[j]? = some u → u.ownBlock = some k → vmm.ownBlock ≠ some k
theorem OwnA.below {w W : World} {B : Nat} {v : Value} {vs : List Value} {xss : List (List Int)} (h : OwnA w B v vs xss) (hB : Below w.heap.size w W) : OwnA W B v vs xss :=
 ⟨h.len, own_below h.out hB, fun j u xs hu hx => own_below (h.row j u xs hu hx) hB, h.apart⟩
theorem st6 {v0 v1 v2 v3 v4 v5 : Value} {W : World} {b t : Nat} (h : IsS W b t [v0, v1, v2, v3, v4, v5]) : W.cell? ⟨b, 0, none⟩ = some v0 ∧ W.cell? ⟨b, 1, none⟩ = some v1 ∧ W.cell? ⟨b, 2, none⟩ = some v2 ∧ W.cell? ⟨b, 3, none⟩ = some v3 ∧ W.cell? ⟨b, 4, none⟩ = some v4 ∧ W.cell? ⟨b, 5, none⟩ = some v5 := ⟨h.cell 0, h.cell 1, h.cell 2, h.cell 3, h.cell 4, h.cell 5⟩
set_option maxRecDepth 100000 in
set_option maxHeartbeats 4000000 in
theorem turn_neg (i : Int) (at0 : Option Addr) (nt ct : Nat) (vpc vph vrg vmm vbf vlk : Value) (hneg : i < 0) (w : World) :
    Calls Try.prog 75 #[.slice at0 nt ct, .agg #[vpc, vph, vrg, vmm, vbf, vlk], .int .i64 i] w fun e w' => e = .returned (.bool false) ∧ Below w.heap.size w w' := by
 have t1 : True := trivial
 go_enter Try.func75, Try.ntmps75
 go_wp2_with (first
  | (clear t1; refine wpList_boxS rfl 32 _ rfl [vpc, vph, vrg, vmm, vbf, vlk] rfl ?_; intro W1 b4 F1 C1; have B1 : Below w.heap.size w W1 := F1.trans (Below.refl _ w) (Nat.le_refl _); have hb4 : w.heap.size ≤ b4 := Nat.le_of_eq F1.at'.symm; clear F1))
 refine grow_allW (by kernel_rfl) (by kernel_rfl) ?_
 refine WG.put rfl (v := .int .i64 i) (fun w => by first | rfl | (go_simp; done) | (simp [go_sem]; done)) ?_; simp only [sP]
 refine WG.put rfl (v := .bool true) (fun w => by first | rfl | (go_simp; done) | (simp [go_sem, hneg]; done)) ?_; simp only [sP]
 refine WG.put rfl (v := .bool true) (fun w => by first | rfl | (go_simp; done) | (simp [go_sem]; done)) ?_; simp only [sP]
 refine WG.skip rfl ?_; simp only [sP]
 refine WG.skip rfl ?_; simp only [sP]
 refine WG.skip rfl ?_; simp only [sP]
 refine WG.skip rfl ?_; simp only [sP]
 refine WG.put rfl (v := .bool true) (fun w => by first | rfl | (go_simp; done) | (simp [go_sem]; done)) ?_; simp only [sP]
 refine WG.put rfl (v := .bool true) (fun w => by first | rfl | (go_simp; done) | (simp [go_sem]; done)) ?_; simp only [sP]
 refine WG.skip rfl ?_; simp only [sP]
 refine WG.skip rfl ?_; simp only [sP]
 refine WG.skip rfl ?_; simp only [sP]
 refine WG.skip rfl ?_; simp only [sP]
 refine WG.skip rfl ?_; simp only [sP]
 refine WG.skip rfl ?_; simp only [sP]
 refine WG.skip rfl ?_; simp only [sP]
 refine WG.skip rfl ?_; simp only [sP]
 refine WG.skip rfl ?_; simp only [sP]
 refine WG.skip rfl ?_; simp only [sP]
 refine WG.skip rfl ?_; simp only [sP]
 refine WG.put rfl (v := .bool true) (fun w => by first | rfl | (go_simp; done) | (simp [go_sem]; done)) ?_; simp only [sP]
 refine WG.nil ?_
 intro W2 B2
 go_wp2
 go_ret
 exact ⟨rfl, Below.then B1 B2⟩
set_option maxRecDepth 100000 in
set_option maxHeartbeats 4000000 in
theorem turn_big (i : Int) (at0 : Option Addr) (nt ct : Nat) (vpc vph vrg vmm vbf vlk : Value) (hneg : ¬ i < 0) (hbig : (nt : Int) ≤ i) (w : World) :
    Calls Try.prog 75 #[.slice at0 nt ct, .agg #[vpc, vph, vrg, vmm, vbf, vlk], .int .i64 i] w fun e w' => e = .returned (.bool false) ∧ Below w.heap.size w w' := by
 have t1 : True := trivial
 go_enter Try.func75, Try.ntmps75
 go_wp2_with (first
  | (clear t1; refine wpList_boxS rfl 32 _ rfl [vpc, vph, vrg, vmm, vbf, vlk] rfl ?_; intro W1 b4 F1 C1; have B1 : Below w.heap.size w W1 := F1.trans (Below.refl _ w) (Nat.le_refl _); have hb4 : w.heap.size ≤ b4 := Nat.le_of_eq F1.at'.symm; clear F1))
 refine grow_allW (by kernel_rfl) (by kernel_rfl) ?_
 refine WG.put rfl (v := .int .i64 i) (fun w => by first | rfl | (go_simp; done) | (simp [go_sem]; done)) ?_; simp only [sP]
 refine WG.put rfl (v := .bool false) (fun w => by first | rfl | (go_simp; done) | (simp [go_sem, hneg]; done)) ?_; simp only [sP]
 refine WG.put rfl (v := .bool false) (fun w => by first | rfl | (go_simp; done) | (simp [go_sem]; done)) ?_; simp only [sP]
 refine WG.put rfl (v := .int .i64 i) (fun w => by first | rfl | (go_simp; done) | (simp [go_sem]; done)) ?_; simp only [sP]
 refine WG.put rfl (v := .slice at0 nt ct) (fun w => by first | rfl | (go_simp; done) | (simp [go_sem]; done)) ?_; simp only [sP]
 refine WG.put rfl (v := .int .i64 (nt : Int)) (fun w => by first | rfl | (go_simp; done) | (simp [go_sem]; done)) ?_; simp only [sP]
 refine WG.put rfl (v := .bool true) (fun w => by first | rfl | (go_simp; done) | (simp [go_sem, hbig]; done)) ?_; simp only [sP]
 refine WG.put rfl (v := .bool true) (fun w => by first | rfl | (go_simp; done) | (simp [go_sem]; done)) ?_; simp only [sP]
 refine WG.put rfl (v := .bool true) (fun w => by first | rfl | (go_simp; done) | (simp [go_sem]; done)) ?_; simp only [sP]
 refine WG.skip rfl ?_; simp only [sP]
 refine WG.skip rfl ?_; simp only [sP]
 refine WG.skip rfl ?_; simp only [sP]
 refine WG.skip rfl ?_; simp only [sP]
 refine WG.skip rfl ?_; simp only [sP]
 refine WG.skip rfl ?_; simp only [sP]
 refine WG.skip rfl ?_; simp only [sP]
 refine WG.skip rfl ?_; simp only [sP]
 refine WG.skip rfl ?_; simp only [sP]
 refine WG.skip rfl ?_; simp only [sP]
 refine WG.skip rfl ?_; simp only [sP]
 refine WG.put rfl (v := .bool true) (fun w => by first | rfl | (go_simp; done) | (simp [go_sem]; done)) ?_; simp only [sP]
 refine WG.nil ?_
 intro W2 B2
 go_wp2
 go_ret
 exact ⟨rfl, Below.then B1 B2⟩
set_option maxRecDepth 100000 in
set_option maxHeartbeats 4000000 in
theorem turn_end (j : Nat) (nt ct : Nat) (ths : List (List Op5)) (th : List Op5) (pc : List Int) (q : Int) (B : Nat) (at0 : Option Addr) (vpc vph vrg vmm vbf vlk : Value) (w : World) (hnt : ths.length = nt) (hth : ths[j]? = some th) (hjpc : j < pc.length) (hq : pc[j]? = some q) (hend0 : (th.length : Int) ≤ q) (hT : RowsV w (.slice at0 nt ct) op5L ths) (hpc : w.ownsRow B 3 1 vpc pc.length (pc.flatMap intE)) :
    Calls Try.prog 75 #[.slice at0 nt ct, .agg #[vpc, vph, vrg, vmm, vbf, vlk], .int .i64 (j : Int)] w fun e w' => e = .returned (.bool false) ∧ Below w.heap.size w w' := by
 have t1 : True := trivial
 obtain ⟨bt, ot, al, cl, rfl, hbt, yt0, hsl, hnil⟩ := hT.at j th hth
 obtain ⟨gp, cp, cs, rfl, hgp, hIp, htp, hcp, hmp, hsp⟩ := own_opn hpc (Nat.lt_of_le_of_lt (Nat.zero_le _) hjpc)
 have yp0 : w.cell? ⟨gp, 0 + j, none⟩ = some (.int .i64 q) := (hIp.cell _).trans (cell_of htp hq)
 have hgl := hIp.lt
 obtain ⟨ln, hln⟩ : ∃ n, th.length = n := ⟨_, rfl⟩
 obtain ⟨np, hnp⟩ : ∃ n, pc.length = n := ⟨_, rfl⟩
 rw [hln] at yt0 hend0
 have hend : (ln : Int) ≤ q := hend0
 have hjt : (j : Int) < (nt : Int) := by have := (List.getElem?_eq_some_iff.1 hth).1; omega
 have hneg : ¬ ((j : Int) < 0) := by omega
 have hbn : j < nt := by omega
 have hjp : (j : Int) < (np : Int) := by omega
 simp only [hnp]
 clear hT hpc hIp htp hq hth hsl hnt hln hnp
 go_enter Try.func75, Try.ntmps75
 go_wp2_with (first
  | (clear t1; refine wpList_boxS rfl 32 _ rfl [.slice (some ⟨gp, 0, none⟩) np cp, vph, vrg, vmm, vbf, vlk] rfl ?_; intro W1 b4 F1 C1; have B1 : Below w.heap.size w W1 := F1.trans (Below.refl _ w) (Nat.le_refl _); have hb4 : w.heap.size ≤ b4 := Nat.le_of_eq F1.at'.symm; clear F1))
 obtain ⟨y0, y1, y2, y3, y4, y5⟩ := st6 C1
 have yp : W1.cell? ⟨gp, 0 + j, none⟩ = some (.int .i64 q) := by rw [B1.cell (p := ⟨gp, 0 + j, none⟩) hgl]; exact yp0
 have yt : W1.cell? ⟨bt, ot + j, none⟩ = some (.slice al ln cl) := by rw [B1.cell (p := ⟨bt, ot + j, none⟩) hbt]; exact yt0
 clear y1 y2 y3 y4 y5
 refine grow_allW (by kernel_rfl) (by kernel_rfl) ?_
 refine WG.put rfl (v := .int .i64 (j : Int)) (fun w => by first | rfl | (go_simp; done) | (simp [go_sem]; done)) ?_; simp only [sP]
 refine WG.put rfl (v := .bool false) (fun w => by first | rfl | (go_simp; done) | (simp [go_sem, hneg]; done)) ?_; simp only [sP]
 refine WG.put rfl (v := .bool false) (fun w => by first | rfl | (go_simp; done) | (simp [go_sem]; done)) ?_; simp only [sP]
 refine WG.put rfl (v := .int .i64 (j : Int)) (fun w => by first | rfl | (go_simp; done) | (simp [go_sem]; done)) ?_; simp only [sP]
 refine WG.put rfl (v := .slice (some ⟨bt, ot, none⟩) nt ct) (fun w => by first | rfl | (go_simp; done) | (simp [go_sem]; done)) ?_; simp only [sP]
 refine WG.put rfl (v := .int .i64 (nt : Int)) (fun w => by first | rfl | (go_simp; done) | (simp [go_sem]; done)) ?_; simp only [sP]
 refine WG.put rfl (v := .bool false) (fun w => by first | rfl | (go_simp; done) | (simp [go_sem, hbn]; done)) ?_; simp only [sP]
 refine WG.put rfl (v := .bool false) (fun w => by first | rfl | (go_simp; done) | (simp [go_sem]; done)) ?_; simp only [sP]
 refine WG.put rfl (v := .bool false) (fun w => by first | rfl | (go_simp; done) | (simp [go_sem]; done)) ?_; simp only [sP]
 refine WG.put rfl (v := .pointer (some ⟨b4, 0, none⟩)) (fun w => by first | rfl | (go_simp; done) | (simp [go_sem]; done)) ?_; simp only [sP]
 refine WG.cell rfl 29 _ rfl rfl y0 (fun w h => ldcIs w h) ?_; simp only [sP]
 refine WG.put rfl (v := .int .i64 (j : Int)) (fun w => by first | rfl | (go_simp; done) | (simp [go_sem]; done)) ?_; simp only [sP]
 refine WG.put rfl (v := .pointer (some ⟨gp, 0 + j, none⟩)) (fun w => by first | rfl | (go_simp; done) | (simp [go_sem, hjp]; done)) ?_; simp only [sP]
 refine WG.cell rfl 3 _ rfl rfl yp (fun w h => ldcI w h) ?_; simp only [sP]
 refine WG.put rfl (v := .slice (some ⟨bt, ot, none⟩) nt ct) (fun w => by first | rfl | (go_simp; done) | (simp [go_sem]; done)) ?_; simp only [sP]
 refine WG.put rfl (v := .int .i64 (j : Int)) (fun w => by first | rfl | (go_simp; done) | (simp [go_sem]; done)) ?_; simp only [sP]
 refine WG.put rfl (v := .pointer (some ⟨bt, ot + j, none⟩)) (fun w => by first | rfl | (go_simp; done) | (simp [go_sem, hjt]; done)) ?_; simp only [sP]
 refine WG.cell rfl 61 _ rfl rfl yt (fun w h => ldcOps w h) ?_; simp only [sP]
 refine WG.put rfl (v := .int .i64 (ln : Int)) (fun w => by first | rfl | (go_simp; done) | (simp [go_sem]; done)) ?_; simp only [sP]
 refine WG.put rfl (v := .bool true) (fun w => by first | rfl | (go_simp; done) | (simp [go_sem, hend]; done)) ?_; simp only [sP]
 refine WG.put rfl (v := .bool true) (fun w => by first | rfl | (go_simp; done) | (simp [go_sem]; done)) ?_; simp only [sP]
 refine WG.nil ?_
 intro W2 B2
 clear y0 yp yt
 go_wp2
 go_ret
 exact ⟨rfl, Below.then B1 B2⟩
set_option maxRecDepth 100000 in
set_option maxHeartbeats 4000000 in
theorem turn_go (j qn : Nat) (nt ct : Nat) (ths : List (List Op5)) (th : List Op5) (oo : Op5) (pc : List Int) (regs : List (List Int)) (rj mem : List Int) (B : Nat) (at0 : Option Addr) (vpc vph vrg vmm vbf vlk uu : Value) (vs : List Value) (w w0 : World) (hnt : ths.length = nt) (hth : ths[j]? = some th) (hoo : th[qn]? = some oo) (hjpc : j < pc.length) (hq : pc[j]? = some (qn : Int)) (hrj : regs[j]? = some rj) (huu : vs[j]? = some uu) (hlt : th.length ≤ 1048576) (hnr : rj.length ≤ 1048576) (hnm : mem.length ≤ 1048576) (hoi : OpIn oo rj.length mem.length)
    (hT : RowsV w (.slice at0 nt ct) op5L ths) (hS : StO w B vpc vrg vmm vs pc regs mem) :
    Calls Try.prog 75 #[.slice at0 nt ct, .agg #[vpc, vph, vrg, vmm, vbf, vlk], .int .i64 (j : Int)] w fun e w' => e = .returned (.bool true) ∧ w'.ownsRow B 3 1 vpc pc.length ((pc.set j ((qn : Int) + 1)).flatMap intE) ∧ w'.ownsRow B 2 1 uu rj.length ((doR oo rj mem).flatMap intE) ∧ w'.ownsRow B 2 1 vmm mem.length ((doM oo rj mem).flatMap intE) ∧ Fr w w' [uu, vmm, vpc] := by
 have hpc := hS.pc
 have hdo := fun W (h1 : W.ownsRow B 2 1 uu rj.length (rj.flatMap intE)) (h2 : W.ownsRow B 2 1 vmm mem.length (mem.flatMap intE)) => do_own oo rj mem B uu vmm hoi hnr hnm W h1 h2 (fun k hk => hS.am j uu k huu hk)
 have hru := hS.rg.row j uu rj huu hrj
 have hmu := hS.mm
 have hlu : ∀ k, uu.ownBlock = some k → vpc.ownBlock ≠ some k := fun k hk => own_diff hru hpc (by decide) hk
 have hlm : ∀ k, vmm.ownBlock = some k → vpc.ownBlock ≠ some k := fun k hk => own_diff hmu hpc (by decide) hk
 obtain ⟨gr, cr0, rs, rfl, hgr, hIr, htr, hcr, hmr, hsr⟩ := own_opn hS.rg.out (Nat.lt_of_le_of_lt (Nat.zero_le _) (List.getElem?_eq_some_iff.1 hrj).1)
 have yr0 : w.cell? ⟨gr, 0 + j, none⟩ = some uu := by
  rw [hIr.cell, Nat.zero_add]
  have h := huu
  rw [← htr, List.getElem?_take] at h
  split at h
  · exact h
  · cases h
 have hgrl := hIr.lt
 obtain ⟨nr0, hnr0⟩ : ∃ n, regs.length = n := ⟨_, rfl⟩
 have hjr : (j : Int) < (nr0 : Int) := by have := (List.getElem?_eq_some_iff.1 hrj).1; omega
 have t1 : True := trivial
 obtain ⟨bt, ot, al, cl, rfl, hbt, yt0, hsl, hnil⟩ := hT.at j th hth
 obtain ⟨gp, cp, cs, rfl, hgp, hIp, htp, hcp, hmp, hsp⟩ := own_opn hpc (Nat.lt_of_le_of_lt (Nat.zero_le _) hjpc)
 have yp0 : w.cell? ⟨gp, 0 + j, none⟩ = some (.int .i64 (qn : Int)) := (hIp.cell _).trans (cell_of htp hq)
 have hgl := hIp.lt
 obtain ⟨ln, hln⟩ : ∃ n, th.length = n := ⟨_, rfl⟩
 obtain ⟨np, hnp⟩ : ∃ n, pc.length = n := ⟨_, rfl⟩
 obtain ⟨bl, ol, rfl, hbl0, hrg0⟩ := hsl.op hoo
 have hql0 : qn < th.length := (List.getElem?_eq_some_iff.1 hoo).1
 rw [hln] at yt0 hql0 hlt
 have hql : (qn : Int) < (ln : Int) := by omega
 have hend : ¬ ((ln : Int) ≤ (qn : Int)) := by omega
 have hjt : (j : Int) < (nt : Int) := by have := (List.getElem?_eq_some_iff.1 hth).1; omega
 have hneg : ¬ ((j : Int) < 0) := by omega
 have hbn : j < nt := by omega
 have hjp : (j : Int) < (np : Int) := by omega
 have hlnI : (ln : Int) ≤ 1048576 := by omega
 have Hpc : Hid (w.ownsRow B 3 1 (.slice (some ⟨gp, 0, none⟩) pc.length cp) pc.length (pc.flatMap intE)) := hpc
 have Hru : Hid (w.ownsRow B 2 1 uu rj.length (rj.flatMap intE)) := hru
 have Hmu : Hid (w.ownsRow B 2 1 vmm mem.length (mem.flatMap intE)) := hmu
 have HIp : Hid (IsS w gp 3 cs) := hIp
 have Hlu : Hid (uu.ownBlock ≠ some gp) := fun e => hlu gp e rfl
 have Hlm : Hid (vmm.ownBlock ≠ some gp) := fun e => hlm gp e rfl
 clear hlu hlm
 have HP : Hid (pc.length = np ∧ cs.take pc.length = pc.flatMap intE ∧ pc[j]? = some (qn : Int) ∧ pc.length ≤ cp ∧ cp ≤ maxLen ∧ cs.length = cp ∧ B ≤ gp) := ⟨hnp, htp, hq, hcp, hmp, hsp, hgp⟩
 obtain ⟨cells, hcells⟩ : ∃ l, l = op5L oo := ⟨_, rfl⟩
 simp only [hnp, hnr0]
 clear hT hpc hru hmu hIp htp hq hth hsl hS hrj huu hIr htr hoo hoi hnt hln hnp hnr0
 go_enter Try.func75, Try.ntmps75
 go_wp2_with (first
  | (clear t1; refine wpList_boxS rfl 32 _ rfl [.slice (some ⟨gp, 0, none⟩) np cp, vph, .slice (some ⟨gr, 0, none⟩) nr0 cr0, vmm, vbf, vlk] rfl ?_; intro W1 b4 F1 C1; have B1 : Below w.heap.size w W1 := F1.trans (Below.refl _ w) (Nat.le_refl _); have hb4 : w.heap.size ≤ b4 := Nat.le_of_eq F1.at'.symm; clear F1))
 obtain ⟨y0, y1, y2, y3, y4, y5⟩ := st6 C1
 have yp : W1.cell? ⟨gp, 0 + j, none⟩ = some (.int .i64 (qn : Int)) := by rw [B1.cell (p := ⟨gp, 0 + j, none⟩) hgl]; exact yp0
 have yt : W1.cell? ⟨bt, ot + j, none⟩ = some (.slice (some ⟨bl, ol, none⟩) ln cl) := by rw [B1.cell (p := ⟨bt, ot + j, none⟩) hbt]; exact yt0
 clear y1 y2 y3 y4 y5
 refine grow_allW (by kernel_rfl) (by kernel_rfl) ?_
 refine WG.put rfl (v := .int .i64 (j : Int)) (fun w => by first | rfl | (go_simp; done) | (simp [go_sem]; done)) ?_; simp only [sP]
 refine WG.put rfl (v := .bool false) (fun w => by first | rfl | (go_simp; done) | (simp [go_sem, hneg]; done)) ?_; simp only [sP]
 refine WG.put rfl (v := .bool false) (fun w => by first | rfl | (go_simp; done) | (simp [go_sem]; done)) ?_; simp only [sP]
 refine WG.put rfl (v := .int .i64 (j : Int)) (fun w => by first | rfl | (go_simp; done) | (simp [go_sem]; done)) ?_; simp only [sP]
 refine WG.put rfl (v := .slice (some ⟨bt, ot, none⟩) nt ct) (fun w => by first | rfl | (go_simp; done) | (simp [go_sem]; done)) ?_; simp only [sP]
 refine WG.put rfl (v := .int .i64 (nt : Int)) (fun w => by first | rfl | (go_simp; done) | (simp [go_sem]; done)) ?_; simp only [sP]
 refine WG.put rfl (v := .bool false) (fun w => by first | rfl | (go_simp; done) | (simp [go_sem, hbn]; done)) ?_; simp only [sP]
 refine WG.put rfl (v := .bool false) (fun w => by first | rfl | (go_simp; done) | (simp [go_sem]; done)) ?_; simp only [sP]
 refine WG.put rfl (v := .bool false) (fun w => by first | rfl | (go_simp; done) | (simp [go_sem]; done)) ?_; simp only [sP]
 refine WG.put rfl (v := .pointer (some ⟨b4, 0, none⟩)) (fun w => by first | rfl | (go_simp; done) | (simp [go_sem]; done)) ?_; simp only [sP]
 refine WG.cell rfl 29 _ rfl rfl y0 (fun w h => ldcIs w h) ?_; simp only [sP]
 refine WG.put rfl (v := .int .i64 (j : Int)) (fun w => by first | rfl | (go_simp; done) | (simp [go_sem]; done)) ?_; simp only [sP]
 refine WG.put rfl (v := .pointer (some ⟨gp, 0 + j, none⟩)) (fun w => by first | rfl | (go_simp; done) | (simp [go_sem, hjp]; done)) ?_; simp only [sP]
 refine WG.cell rfl 3 _ rfl rfl yp (fun w h => ldcI w h) ?_; simp only [sP]
 refine WG.put rfl (v := .slice (some ⟨bt, ot, none⟩) nt ct) (fun w => by first | rfl | (go_simp; done) | (simp [go_sem]; done)) ?_; simp only [sP]
 refine WG.put rfl (v := .int .i64 (j : Int)) (fun w => by first | rfl | (go_simp; done) | (simp [go_sem]; done)) ?_; simp only [sP]
 refine WG.put rfl (v := .pointer (some ⟨bt, ot + j, none⟩)) (fun w => by first | rfl | (go_simp; done) | (simp [go_sem, hjt]; done)) ?_; simp only [sP]
 refine WG.cell rfl 61 _ rfl rfl yt (fun w h => ldcOps w h) ?_; simp only [sP]
 refine WG.put rfl (v := .int .i64 (ln : Int)) (fun w => by first | rfl | (go_simp; done) | (simp [go_sem]; done)) ?_; simp only [sP]
 refine WG.put rfl (v := .bool false) (fun w => by first | rfl | (go_simp; done) | (simp [go_sem, hql0]; done)) ?_; simp only [sP]
 refine WG.put rfl (v := .bool false) (fun w => by first | rfl | (go_simp; done) | (simp [go_sem]; done)) ?_; simp only [sP]
 refine WG.nil ?_
 intro W2 B2
 have C2 := C1.grown B2
 have B02 := Below.then B1 B2
 clear y0 yp yt C1
 go_wp2
 obtain ⟨y0, y1, y2, y3, y4, y5⟩ := st6 C2
 have yp : W2.cell? ⟨gp, 0 + j, none⟩ = some (.int .i64 (qn : Int)) := by rw [B02.cell (p := ⟨gp, 0 + j, none⟩) hgl]; exact yp0
 have yt : W2.cell? ⟨bt, ot + j, none⟩ = some (.slice (some ⟨bl, ol, none⟩) ln cl) := by rw [B02.cell (p := ⟨bt, ot + j, none⟩) hbt]; exact yt0
 have yr : W2.cell? ⟨gr, 0 + j, none⟩ = some uu := by rw [B02.cell (p := ⟨gr, 0 + j, none⟩) hgrl]; exact yr0
 have hbl : bl < W2.heap.size := Nat.lt_of_lt_of_le hbl0 B02.size
 have hrg : W2.rangeAt bl (ol + qn * 5) (op5L oo) := fun i v hv => by rw [B02.cell (p := ⟨bl, ol + qn * 5 + i, none⟩) hbl0]; exact hrg0 i v hv
 refine grow_tailV 18 (by kernel_rfl) (by kernel_rfl) ?_
 refine WG.put rfl (v := .slice (some ⟨bt, ot, none⟩) nt ct) (fun w => by first | rfl | (go_simp; done) | (simp [go_sem]; done)) ?_; simp only [sP]
 refine WG.put rfl (v := .int .i64 (j : Int)) (fun w => by first | rfl | (go_simp; done) | (simp [go_sem]; done)) ?_; simp only [sP]
 refine WG.put rfl (v := .pointer (some ⟨bt, ot + j, none⟩)) (fun w => by first | rfl | (go_simp; done) | (simp [go_sem, hjt]; done)) ?_; simp only [sP]
 refine WG.cell rfl 61 _ rfl rfl yt (fun w h => ldcOps w h) ?_; simp only [sP]
 refine WG.put rfl (v := .pointer (some ⟨b4, 0, none⟩)) (fun w => by first | rfl | (go_simp; done) | (simp [go_sem]; done)) ?_; simp only [sP]
 refine WG.cell rfl 29 _ rfl rfl y0 (fun w h => ldcIs w h) ?_; simp only [sP]
 refine WG.put rfl (v := .int .i64 (j : Int)) (fun w => by first | rfl | (go_simp; done) | (simp [go_sem]; done)) ?_; simp only [sP]
 refine WG.put rfl (v := .pointer (some ⟨gp, 0 + j, none⟩)) (fun w => by first | rfl | (go_simp; done) | (simp [go_sem, hjp]; done)) ?_; simp only [sP]
 refine WG.cell rfl 3 _ rfl rfl yp (fun w h => ldcI w h) ?_; simp only [sP]
 refine WG.put rfl (v := .pointer (some ⟨bl, ol + qn * 5, none⟩)) (fun w => by first | rfl | (go_simp; done) | (simp [go_sem, hql]; done)) ?_; simp only [sP]
 refine WG.range rfl 63 _ rfl rfl (op5L oo) hbl hrg _ Try.underlying63 rfl infoOpL ?_; simp only [sP]
 refine WG.put rfl (v := .pointer (some ⟨b4, 2, none⟩)) (fun w => by first | rfl | (go_simp; done) | (simp [go_sem]; done)) ?_; simp only [sP]
 refine WG.cell rfl 25 _ rfl rfl y2 (fun w h => ldcRr w h) ?_; simp only [sP]
 refine WG.put rfl (v := .int .i64 (j : Int)) (fun w => by first | rfl | (go_simp; done) | (simp [go_sem]; done)) ?_; simp only [sP]
 refine WG.put rfl (v := .pointer (some ⟨gr, 0 + j, none⟩)) (fun w => by first | rfl | (go_simp; done) | (simp [go_sem, hjr]; done)) ?_; simp only [sP]
 refine WG.cell rfl 26 _ rfl rfl yr (fun w h => ldcR w h) ?_; simp only [sP]
 refine WG.put rfl (v := .pointer (some ⟨b4, 3, none⟩)) (fun w => by first | rfl | (go_simp; done) | (simp [go_sem]; done)) ?_; simp only [sP]
 refine WG.cell rfl 26 _ rfl rfl y3 (fun w h => ldcR w h) ?_; simp only [sP]
 refine WG.nil ?_
 intro W3 B3
 have B03 := Below.then B02 B3
 have C3 := C2.grown B3
 clear y0 y1 y2 y3 y4 y5 yp yt yr hrg C2
 simp only [List.drop_succ_cons, List.drop_zero]
 have I3 := HIp.out.grown B03
 have kp : j < cs.length := by obtain ⟨h1, h2, h3, h4, h5, h6, h7⟩ := HP.out; rw [h6]; omega
 go_wp2_with (first
  | (go_at_call 108; refine (hdo _ (own_below Hru.out B03) (own_below Hmu.out B03)).mono ?_; rintro e W4 ⟨rfl, O4, M4, F4⟩; have C4 := (F4.block b4 C3.lt (fun v hv he => by simp at hv; rcases hv with hv | hv; (subst hv; have := (own_lt Hru.out he).2; omega); (subst hv; have := (own_lt Hmu.out he).2; omega))).trans C3; have I4 : IsS W4 gp 3 cs := (F4.block gp I3.lt (fun v hv he => by simp at hv; rcases hv with hv | hv; (subst hv; exact Hlu.out he); (subst hv; exact Hlm.out he))).trans I3; have z0 : W4.cell? ⟨b4, 0, none⟩ = some (.slice (some ⟨gp, 0, none⟩) np cp) := IsS.cell C4 0; have zp : W4.cell? ⟨gp, j, none⟩ = some (.int .i64 (qn : Int)) := (I4.cell _).trans (by have := cell_of HP.out.2.1 HP.out.2.2.1; rw [Nat.zero_add] at this; exact this); clear hdo C3)
  | (refine wpList_store1 rfl 3 _ _ rfl rfl (.int .i64 ((qn : Int) + 1)) rfl I4 kp info3' rfl ?_; intro W5 U5 I5; clear z0 zp C4))
 go_ret
 have hP := HP.out
 refine ⟨rfl, ?_, own_same O4 fun k hk => U5.block k (fun e => by subst e; exact Hlu.out hk), own_same M4 fun k hk => U5.block k (fun e => by subst e; exact Hlm.out hk), ?_⟩
 · have := put_own hP.2.2.2.2.2.2 (show IsS W5 gp 3 (cs.set (0 + j) (.int .i64 ((qn : Int) + 1))) by rw [Nat.zero_add]; exact I5) hP.2.1 hP.2.2.2.1 hP.2.2.2.2.1 hP.2.2.2.2.2.1
   rw [hP.1] at this
   exact this
 · exact ((Fr.of_below B03 _).trans (F4.more (by simp +contextual))).trans (fr_one (n := np) (c := cp) (o := 0) (One.of_upd U5) _ (by simp))
def doneB (ths : List (List Op5)) (pc : List Int) : Bool := (List.range ths.length).all fun i => !decide (pc.getD i 0 < ((ths.getD i []).length : Int))
theorem doneB_no {ths : List (List Op5)} {pc : List Int} {i : Nat} (hi : i < ths.length) (h : pc.getD i 0 < ((ths.getD i []).length : Int)) : doneB ths pc = false := by
 rw [Bool.eq_false_iff]
 intro e
 unfold doneB at e
 have := List.all_eq_true.1 e i (by simpa using hi)
 simp only [Bool.not_eq_true', decide_eq_false_iff_not] at this
 exact this h
theorem doneB_yes {ths : List (List Op5)} {pc : List Int} (h : ∀ i, i < ths.length → ¬ pc.getD i 0 < ((ths.getD i []).length : Int)) : doneB ths pc = true := by
 unfold doneB
 rw [List.all_eq_true]
 intro i hi
 simp only [Bool.not_eq_true', decide_eq_false_iff_not]
 exact h i (by simpa using hi)
set_option maxRecDepth 100000 in
set_option maxHeartbeats 2000000 in
theorem done_any (ths : List (List Op5)) (pc : List Int) (nt ct np cp : Nat) (at0 ap : Option Addr) (vph vrg vmm vbf vlk : Value) (w : World) (hnt : ths.length = nt) (hnp : pc.length = np) (hpt : np = nt) (hn : nt ≤ 1048576) (htt : ths.flatten.length ≤ 1048576) (hT : RowsV w (.slice at0 nt ct) op5L ths) (hP : Seg w ap (pc.flatMap intE)) :
    Calls Try.prog 76 #[.slice at0 nt ct, .agg #[.slice ap np cp, vph, vrg, vmm, vbf, vlk]] w fun e w' => e = .returned (.bool (doneB ths pc)) ∧ Below w.heap.size w w' := by
 have HT : Hid (RowsV w (.slice at0 nt ct) op5L ths) := hT
 have HP : Hid (Seg w ap (pc.flatMap intE)) := hP
 have HNT : Hid (ths.length = nt) := hnt
 have HNP : Hid (pc.length = nt) := by rw [hnp]; exact hpt
 have HTT : Hid (ths.flatten.length ≤ 1048576) := htt
 have hnI : (nt : Int) ≤ 1048576 := by omega
 subst hpt
 clear hT hP hnt hnp htt
 have t1 : True := trivial
 go_enter Try.func76, Try.ntmps76
 go_wp2_with (first
  | (clear t1; refine wpList_boxS rfl 32 _ rfl [.slice ap np cp, vph, vrg, vmm, vbf, vlk] rfl ?_; intro W1 b4 F1 C1; have B1 : Below w.heap.size w W1 := F1.trans (Below.refl _ w) (Nat.le_refl _); clear F1))
 obtain ⟨y0, y1, y2, y3, y4, y5⟩ := st6 C1
 clear y1 y2 y3 y4 y5
 go_loopw [9] (fun i wr => ∃ k : Nat, k ≤ np ∧ i = .int .i64 (k : Int) ∧ Hid (∀ j, j < k → ¬ pc.getD j 0 < ((ths.getD j []).length : Int)) ∧ wr = W1) (fun i _ => np - (intOf i).toNat)
 case atStart => exact ⟨0, Nat.zero_le _, rfl, fun j hj => absurd hj (Nat.not_lt_zero _), rfl⟩
 case round =>
  obtain ⟨k, hk, rfl, HJ, rfl⟩ := hrel
  by_cases hlt : k < np
  · have hki : (k : Int) < np := by omega
    obtain ⟨th, hth⟩ : ∃ q, ths[k]? = some q := ⟨_, List.getElem?_eq_getElem (by rw [HNT.out]; exact hlt)⟩
    obtain ⟨bt, ot, al, cl, rfl, hbt, yt, hsl, hnil⟩ := (HT.out.below B1).at k th hth
    obtain ⟨q, hq⟩ : ∃ q, pc[k]? = some q := ⟨_, List.getElem?_eq_getElem (by rw [HNP.out]; exact hlt)⟩
    obtain ⟨bp, op, rfl, hbp, yp⟩ := (HP.out.below B1).int hq
    have hql : th.length ≤ 1048576 := Nat.le_trans (by have := flat_at hth (Nat.le_refl _); rw [List.take_length, List.length_append] at this; omega) HTT.out
    have e1 : Hid (pc.getD k 0 = q) := by show _ = _; simp [hq]
    have e2 : Hid (ths.getD k [] = th) := by show _ = _; simp [hth]
    obtain ⟨ln, hln⟩ : ∃ n, th.length = n := ⟨_, rfl⟩
    have HLN : Hid (th.length = ln) := hln
    rw [hln] at yt hql
    clear hsl hnil hq hth hln
    have hlI : (ln : Int) ≤ 1048576 := by omega
    by_cases hd : q < (ln : Int)
    · have HD : Hid (doneB ths pc = false) := doneB_no (by rw [HNT.out]; exact hlt) (by rw [e1.out, e2.out, HLN.out]; exact hd)
      go_wp2
      go_ret
      exact ⟨by rw [HD.out]; rfl, B1⟩
    · go_wp2
      go_roundw
      case rel =>
       refine ⟨k + 1, by omega, by go_num, fun j hj => ?_, trivial⟩
       rcases Nat.lt_succ_iff_lt_or_eq.1 hj with h | h
       · exact HJ.out j h
       · subst h; rw [e1.out, e2.out, HLN.out]; exact hd
      case measure => simp [intOf]; omega
  · have ek : k = np := by omega
    subst ek
    have hki : ¬ ((k : Int) < k) := by omega
    have HD : Hid (doneB ths pc = true) := doneB_yes (by rw [HNT.out]; exact HJ.out)
    go_wp2
    go_ret
    exact ⟨by rw [HD.out]; rfl, B1⟩
theorem run_append_zero {P : Program} {w : World} (t u ty e : TypeId) (i : TypeInfo) (z : Value) (kk : IntKind) (ht : P.underlying t = some (.slice e)) (hu : P.underlying u = some (.int kk)) (hi : P.info? e = some i) (hz : i.zero = some z) (hsz : i.size = 1) (hby : i.bytes = 8) (hzc : z.cells = #[z])
    (n : Nat) (h0 : 0 < n) (hn : n ≤ 1048576) :
    (Builtin.append_ #[t, u] ty #[.slice none 0 0, .int .i64 (n : Int)]).run P w =
     .ok (.slice (some ⟨w.heap.size, 0, none⟩) n (grownCap w n 0 e)) (w.drew.alloc (.cells (Builtin.zeroCells #[z] n ++ Builtin.zeroCells #[z] (grownCap w n 0 e - n)) e)) := by
 have hn0 : n ≠ 0 := by omega
 have hw : IntKind.i64.wrap (n : Int) = (n : Int) := by rw [IntKind.wrap_i64]; omega
 have h1 : ¬ ((n : Int) < 0) := by omega
 have h2 : ¬ ((281474976710656 : Int) < (n : Int) * 8) := by omega
 have h63' : ¬ (9223372036854775807 < (n : Int)) := by omega
 have h48' : ¬ (281474976710656 < Builtin.nextslicecap n 0 * 8) := by rw [nextslicecap_zero h0]; omega
 simp [Builtin.append_, run_underlying ht, run_underlying hu, sizeOf, typeInfo, zeroValue, hi, hz, Builtin.lenOf, hn0, hw, h1, h2, h63', h48', hsz, hby, hzc, Question.forced, run_firstCells_none, newRow, grownCap, asInt, asIntOf]
end Go.Proofs.Ytegpnicajlndlaa
