/- SC8, SC9, RG -/
import Derived.Test.YtegpnicajlndlaaSC7
import Derived.Test.YtegpnicajlndlaaQai
import Derived.Test.YtegpnicajlndlaaQao
namespace Go.Proofs.Ytegpnicajlndlaa
open Go.RowKit M
set_option linter.unusedSimpArgs false
set_option linter.unusedVariables false
structure Vld (p : PG) : Prop where
 n0 : 0 < p.threads.length
 n4 : p.threads.length ≤ 4
 rl : p.regs.length = p.threads.length
 il : p.regInit.length = p.threads.length
 rows : ∀ (i : Nat) r q, p.regs[i]? = some r → p.regInit[i]? = some q → q.length = r.length
 few : ∀ (i : Nat) r, p.regs[i]? = some r → r.length ≤ 8
 ll : p.locInit.length = p.locs.length
 l16 : p.locs.length ≤ 16
 ops : OpsTo p.threads p.regs p.locs.length p.threads.length
theorem vld_of {p : PG} (h : validV p = 0) : Vld p := by
 unfold validV at h
 split at h
 · cases h
 · rename_i h1
   split at h
   · rename_i h2; exact absurd h h2
   · rename_i h2
     have hr : regsErr p = 0 := Classical.byContradiction h2
     unfold regsErr at hr
     split at hr
     · cases hr
     · rename_i h3
       split at hr
       · cases hr
       · rename_i h4
         split at hr
         · cases hr
         · rename_i h5
           split at h
           · cases h
           · rename_i h6
             split at h
             · cases h
             · rename_i h7
               split at h
               · cases h
               · rename_i h8
                 have hR : RegsTo p.regs p.regInit p.regs.length := Classical.byContradiction h4
                 refine ⟨by omega, by omega, Classical.byContradiction fun e => h3 (.inl e), Classical.byContradiction fun e => h3 (.inr e), fun i r q hr hq => (hR i r q (List.getElem?_eq_some_iff.1 hr).1 hr hq).1, fun i r hr => ?_, Classical.byContradiction fun e => h6 (.inl e), by omega, ?_⟩
                 · exact Classical.byContradiction fun e => h5 ⟨i, r, (List.getElem?_eq_some_iff.1 hr).1, hr, by omega⟩
                 · exact Classical.byContradiction fun e => h8 (opsB_f e)
theorem opIn_of {o : Op5} {r : List ByteArray} {nl : Nat} (h : opOk o r nl = true) : OpIn o r.length nl := by
 unfold opOk at h
 simp only [Bool.and_eq_true] at h
 obtain ⟨⟨⟨⟨⟨h1, h2⟩, h3⟩, h4⟩, h5⟩, h6⟩ := h
 have key : ∀ (n : Int) (m : Nat) (b : Bool), b = true → numOk n b m = true → 0 ≤ n ∧ n < m := fun n m b hb hn => by
  subst hb
  unfold numOk at hn
  simpa using hn
 refine ⟨fun hk => key _ _ _ ?_ h3, fun hk => key _ _ _ ?_ h4, fun hk => key _ _ _ ?_ h5⟩
 · unfold uReg
   rcases hk with h | h | h | h | h | h <;> simp [h]
 · unfold uSrc; exact decide_eq_true hk
 · unfold uLoc; exact decide_eq_true hk
def stepS (ths : List (List Op5)) (pc : List Int) (regs : List (List Int)) (mem : List Int) (i : Int) : Option (List Int × List (List Int) × List Int) :=
 if 0 ≤ i ∧ i < ths.length then
  if pc.getD i.toNat 0 < ((ths.getD i.toNat []).length : Int) then
   (fun o => (pc.set i.toNat (pc.getD i.toNat 0 + 1), regs.set i.toNat (doR o (regs.getD i.toNat []) mem), doM o (regs.getD i.toNat []) mem)) <$> (ths.getD i.toNat [])[(pc.getD i.toNat 0).toNat]?
  else none
 else none
structure Inv (p : PG) (pc : List Int) (regs : List (List Int)) (mem : List Int) : Prop where
 pl : pc.length = p.threads.length
 ps : ∀ (i : Nat) x, pc[i]? = some x → 0 ≤ x
 rl : regs.length = p.threads.length
 rs : ∀ (i : Nat) r q, p.regs[i]? = some r → regs[i]? = some q → q.length = r.length
 ml : mem.length = p.locs.length
theorem step_some {p : PG} {pc : List Int} {regs : List (List Int)} {mem : List Int} {i : Int} {t : List Int × List (List Int) × List Int} (hv : Vld p) (hI : Inv p pc regs mem) (h : stepS p.threads pc regs mem i = some t) :
    ∃ (j qn : Nat) (th : List Op5) (o : Op5) (rj : List Int), i = (j : Int) ∧ p.threads[j]? = some th ∧ pc[j]? = some (qn : Int) ∧ th[qn]? = some o ∧ regs[j]? = some rj ∧ OpIn o rj.length mem.length ∧ t = (pc.set j ((qn : Int) + 1), regs.set j (doR o rj mem), doM o rj mem) := by
 unfold stepS at h
 split at h
 · rename_i h1
   split at h
   · rename_i h2
     obtain ⟨j, rfl⟩ : ∃ j : Nat, i = (j : Int) := ⟨i.toNat, by omega⟩
     have hj : j < p.threads.length := by omega
     simp only [Int.toNat_natCast] at h h2
     obtain ⟨o, ho, ht⟩ := Option.map_eq_some_iff.1 h
     have hth : p.threads[j]? = some (p.threads.getD j []) := by simp [hj]
     have hpc : pc[j]? = some (pc.getD j 0) := by have := hI.pl; simp [show j < pc.length by omega]
     have hrj : regs[j]? = some (regs.getD j []) := by have := hI.rl; simp [show j < regs.length by omega]
     have hp0 := hI.ps j _ hpc
     have hr : p.regs[j]? = some (p.regs.getD j []) := by have := hv.rl; simp [show j < p.regs.length by omega]
     have hoi := opIn_of (hv.ops j _ _ hj hth hr o (List.mem_of_getElem? ho))
     refine ⟨j, (pc.getD j 0).toNat, _, o, _, rfl, hth, by rw [hpc]; congr 1; omega, ho, hrj, ?_, ?_⟩
     · rw [hI.rs j _ _ hr hrj, hI.ml]; exact hoi
     · rw [← ht, show (((pc.getD j 0).toNat : Nat) : Int) = pc.getD j 0 by omega]
   · cases h
 · cases h
theorem inv_step {p : PG} {pc : List Int} {regs : List (List Int)} {mem : List Int} {i : Int} {t : List Int × List (List Int) × List Int} (hv : Vld p) (hI : Inv p pc regs mem) (h : stepS p.threads pc regs mem i = some t) : Inv p t.1 t.2.1 t.2.2 := by
 obtain ⟨j, qn, th, o, rj, rfl, hth, hpc, ho, hrj, hoi, rfl⟩ := step_some hv hI h
 refine ⟨by rw [List.length_set]; exact hI.pl, fun i x hx => ?_, by rw [List.length_set]; exact hI.rl, fun i r q hr hq => ?_, by rw [doM_len]; exact hI.ml⟩
 · rw [List.getElem?_set] at hx
   split at hx
   · split at hx
     · cases hx; omega
     · cases hx
   · exact hI.ps i x hx
 · rw [List.getElem?_set] at hq
   split at hq
   · rename_i e
     subst e
     split at hq
     · cases hq; rw [doR_len]; exact hI.rs j r rj hr hrj
     · cases hq
   · exact hI.rs i r q hr hq
theorem step_none {p : PG} {pc : List Int} {regs : List (List Int)} {mem : List Int} {i : Int} (hI : Inv p pc regs mem) (h : stepS p.threads pc regs mem i = none) :
    i < 0 ∨ (¬ i < 0 ∧ (p.threads.length : Int) ≤ i) ∨ ∃ (j : Nat) (th : List Op5) (q : Int), i = (j : Int) ∧ p.threads[j]? = some th ∧ j < pc.length ∧ pc[j]? = some q ∧ (th.length : Int) ≤ q := by
 unfold stepS at h
 by_cases h0 : i < 0
 · exact .inl h0
 by_cases h1 : (p.threads.length : Int) ≤ i
 · exact .inr (.inl ⟨h0, h1⟩)
 rw [if_pos (by omega)] at h
 obtain ⟨j, rfl⟩ : ∃ j : Nat, i = (j : Int) := ⟨i.toNat, by omega⟩
 have hj : j < p.threads.length := by omega
 simp only [Int.toNat_natCast] at h
 have hth : p.threads[j]? = some (p.threads.getD j []) := by simp [hj]
 have hjp : j < pc.length := by have := hI.pl; omega
 have hpc : pc[j]? = some (pc.getD j 0) := by simp [hjp]
 have hp0 := hI.ps j _ hpc
 refine .inr (.inr ⟨j, _, _, rfl, hth, hjp, hpc, ?_⟩)
 split at h
 · rename_i h2
   have hlt : (pc.getD j 0).toNat < (p.threads.getD j []).length := by omega
   rw [List.getElem?_eq_getElem hlt] at h
   cases h
 · omega
theorem row_few {ths : List (List Op5)} {j : Nat} {th : List Op5} (h : ths[j]? = some th) (hf : ths.flatten.length ≤ 1048576) : th.length ≤ 1048576 :=
 Nat.le_trans (by have := flat_at h (Nat.le_refl _); rw [List.take_length, List.length_append] at this; omega) hf
theorem turn_none (p : PG) (hf : p.Few) (pc : List Int) (regs : List (List Int)) (mem : List Int) (hI : Inv p pc regs mem) (i : Int) (B ct : Nat) (at0 : Option Addr) (vpc vph vrg vmm vbf vlk : Value) (w : World) (h : stepS p.threads pc regs mem i = none)
    (hT : RowsV w (.slice at0 p.threads.length ct) op5L p.threads) (hpc : w.ownsRow B 3 1 vpc pc.length (pc.flatMap intE)) :
    Calls Try.prog 75 #[.slice at0 p.threads.length ct, .agg #[vpc, vph, vrg, vmm, vbf, vlk], .int .i64 i] w fun e w' => e = .returned (.bool false) ∧ Below w.heap.size w w' := by
 rcases step_none hI h with h0 | ⟨h0, h1⟩ | ⟨j, th, q, rfl, hth, hj, hq, hle⟩
 · exact turn_neg i at0 _ ct vpc vph vrg vmm vbf vlk h0 w
 · exact turn_big i at0 _ ct vpc vph vrg vmm vbf vlk h0 h1 w
 · exact turn_end j _ ct p.threads th pc q B at0 vpc vph vrg vmm vbf vlk w rfl hth hj hq hle hT hpc
theorem turn_some (p : PG) (hv : Vld p) (hf : p.Few) (pc : List Int) (regs : List (List Int)) (mem : List Int) (hI : Inv p pc regs mem) (i : Int) (B ct : Nat) (at0 : Option Addr) (vpc vph vrg vmm vbf vlk : Value) (vs : List Value) (w : World) (t : List Int × List (List Int) × List Int) (h : stepS p.threads pc regs mem i = some t)
    (hT : RowsV w (.slice at0 p.threads.length ct) op5L p.threads) (hS : StO w B vpc vrg vmm vs pc regs mem) :
    Calls Try.prog 75 #[.slice at0 p.threads.length ct, .agg #[vpc, vph, vrg, vmm, vbf, vlk], .int .i64 i] w fun e w' => e = .returned (.bool true) ∧ StO w' B vpc vrg vmm vs t.1 t.2.1 t.2.2 ∧ Fr w w' (vs ++ [vmm, vpc]) := by
 obtain ⟨j, qn, th, o, rj, rfl, hth, hpc, ho, hrj, hoi, rfl⟩ := step_some hv hI h
 have hjv : j < vs.length := by rw [hS.rg.len]; exact (List.getElem?_eq_some_iff.1 hrj).1
 obtain ⟨uu, huu⟩ : ∃ u, vs[j]? = some u := ⟨_, List.getElem?_eq_getElem hjv⟩
 have hr : p.regs[j]? = some (p.regs.getD j []) := by have := hv.rl; have := (List.getElem?_eq_some_iff.1 hth).1; simp [show j < p.regs.length by omega]
 have hrl : rj.length ≤ 1048576 := by rw [hI.rs j _ _ hr hrj]; have := hv.few j _ hr; omega
 have hml : mem.length ≤ 1048576 := by rw [hI.ml]; exact hf.l
 refine (turn_go j qn _ ct p.threads th o pc regs rj mem B at0 vpc vph vrg vmm vbf vlk uu vs w w rfl hth ho (List.getElem?_eq_some_iff.1 hpc).1 hpc hrj huu (row_few hth hf.tt) hrl hml hoi hT hS).mono ?_
 rintro e w' ⟨rfl, O1, O2, O3, F⟩
 have hdu : ∀ k, vrg.ownBlock = some k → ∀ v ∈ [uu, vmm, vpc], v.ownBlock ≠ some k := fun k hk v hv => by
  simp only [List.mem_cons, List.not_mem_nil, or_false] at hv
  rcases hv with rfl | rfl | rfl
  · exact own_diff hS.rg.out (hS.rg.row j v rj huu hrj) (by decide) hk
  · exact own_diff hS.rg.out hS.mm (by decide) hk
  · exact own_diff hS.rg.out hS.pc (by decide) hk
 refine ⟨rfl, ⟨by rw [List.length_set]; exact O1, ⟨by rw [List.length_set]; exact hS.rg.len, by rw [List.length_set]; exact F.own hS.rg.out hdu, fun j' u xs hu hx => ?_, hS.rg.apart⟩, by rw [doM_len]; exact O3, hS.am⟩, F.more ?_⟩
 · rw [List.getElem?_set] at hx
   split at hx
   · rename_i e
     subst e
     split at hx
     · cases hx
       rw [huu] at hu
       cases hu
       rw [doR_len]; exact O2
     · cases hx
   · rename_i e
     have hrow := hS.rg.row j' u xs hu hx
     refine F.own hrow fun k hk v hv => ?_
     simp only [List.mem_cons, List.not_mem_nil, or_false] at hv
     rcases hv with rfl | rfl | rfl
     · exact hS.rg.apart j' j u v k (fun e' => e e'.symm) hu huu hk
     · exact hS.am j' u k hu hk
     · exact own_diff hrow hS.pc (by decide) hk
 · intro v hv
   simp only [List.mem_cons, List.not_mem_nil, or_false] at hv
   rcases hv with rfl | rfl | rfl
   · exact List.mem_append_left _ (List.mem_of_getElem? huu)
   · simp
   · simp
theorem ret_ST {w : World} {b t k : Nat} {cs : List Value} {fn : Func} {p : Tmp} {R : Ending → World → Prop} {a : Act} (h : fn.results = #[.cell p t, .tmp k]) (hp : a.tmps.getD p undef = .pointer (some ⟨b, 0, none⟩))
    (hd : a.defers = []) (hc : IsS w b t cs) (d : TypeDesc) (hu : Try.prog.underlying t = some d) (hr : (match d with | .struct _ => true | .array _ _ => true | _ => false) = true) (hi : (Try.prog.info? t).map (·.size) = some cs.length) (v : Value) (hv : a.tmps.getD k undef = v) (hR : R (.returned (.tuple #[.agg cs.toArray, v])) w) : bodyPost Try.prog fn R .ret a w := by
 have hc' : w.heap[b]? = some (.cells cs.toArray t (0, 0)) := hc
 have hp' : a.tmps[p]?.getD undef = .pointer (some ⟨b, 0, none⟩) := by simpa using hp
 have hv' : a.tmps[k]?.getD undef = v := by simpa using hv
 refine ⟨hd, .tuple #[.agg cs.toArray, v], ?_, hR⟩
 simp [results, h, hp', hv', asAddr, run_loadVar_row w b t t cs.toArray (0, 0) d hc' hu (by cases d <;> simp_all) (by simpa using hi)]
theorem flat_le (m : Nat) : ∀ (l : List (List Int)), (∀ q ∈ l, q.length ≤ m) → l.flatten.length ≤ m * l.length
 | [], _ => by simp
 | q :: l, h => by
  rw [List.flatten_cons, List.length_append, List.length_cons, Nat.mul_succ]
  have h1 := h q (by simp)
  have h2 := flat_le m l fun x hx => h x (List.mem_cons_of_mem _ hx)
  omega
theorem inv_48 {p : PG} {pc : List Int} {regs : List (List Int)} {mem : List Int} (hv : Vld p) (hI : Inv p pc regs mem) : (regs.flatten ++ mem).length ≤ 48 := by
 have h1 := flat_le 8 regs fun q hq => by
  obtain ⟨i, hi⟩ := List.getElem?_of_mem hq
  have hl := (List.getElem?_eq_some_iff.1 hi).1
  have hr : p.regs[i]? = some (p.regs.getD i []) := by have := hv.rl; have := hI.rl; simp [show i < p.regs.length by omega]
  rw [hI.rs i _ _ hr hi]; exact hv.few i _ hr
 have h2 := hI.rl
 have h3 := hv.n4
 have h4 := hv.l16
 have h5 := hI.ml
 rw [List.length_append]
 have : 8 * regs.length ≤ 32 := by omega
 omega
theorem build0Fin {w : World} {op : Oper} {a : Act} (ho : op.op = .build 80 #[]) : (execOp a.eval op).run Try.prog w = .ok (.value (.agg (finL []).toArray)) w := by
 have h : Try.t80.zero = some (.agg (finL []).toArray) := by kernel_rfl
 unfold execOp
 simp [ho, go_sem, zeroValue, h]
theorem wpList_b0Fin {w : World} {ops : Array Oper} {rest : List Oper} {op : Oper} {a : Act} {Q : Exit → Act → World → Prop} (hgd : op.guard = none) (ho : op.op = .build 80 #[]) (h : wpList Try.prog ops Q rest (a.put op.dst (.agg (finL []).toArray)) w) : wpList Try.prog ops Q (op :: rest) a w := by
 refine wpList_plain hgd fun K hK => ?_
 unfold Oper.wp
 rw [build0Fin ho]
 exact hK _ _ h
theorem OwnA.rows {w : World} {B : Nat} {v : Value} {vs : List Value} {xss : List (List Int)} (h : OwnA w B v vs xss) : RowsV w v intE xss := ⟨vs, h.len, own_row h.out, fun j u xs hu hx => own_row (h.row j u xs hu hx)⟩
theorem isS_fr {w W : World} {vs : List Value} {b t : Nat} {cs : List Value} (h : IsS w b t cs) (F : Fr w W vs) (hb : ∀ v ∈ vs, v.ownBlock ≠ some b) : IsS W b t cs := (F.block b h.lt hb).trans h
theorem run_app0 {w : World} {t T k by' : Nat} {z : Value} (E : Elt t T k z by') (B b : Nat) (hown : w.ownsRow B t k (.slice (some ⟨b, 0, none⟩) 0 0) 0 []) (u : Value) (m : Nat) (cs : List Value) (hu : RowV w u m cs) (hl : cs.length = m * k) (h1 : ∀ x ∈ cs, x.oneCell' = true) (hn : m ≤ 4194304) (hB : B ≤ w.heap.size) (ty : TypeId) :
    ∃ v' w', (Builtin.append_ #[T, T] ty #[.slice (some ⟨b, 0, none⟩) 0 0, u]).run Try.prog w = .ok v' w' ∧ w'.ownsRow B t k v' m cs ∧ Below w.heap.size w w' := by
 obtain ⟨i0, hi, hz, hs, hby⟩ := E.info
 have hfew := E.few
 obtain ⟨ad, c, rfl, hT, hnil⟩ := hu
 by_cases hm : m = 0
 · subst hm
   have hcs : cs = [] := List.length_eq_zero_iff.1 (by rw [hl, Nat.zero_mul])
   subst hcs
   refine ⟨_, w, ?_, hown, Below.refl _ _⟩
   have hld : ∀ (x : Addr), (loadCells x 0).run Try.prog w = .ok #[] w := fun x => by simpa using run_loadCells_list (P := Try.prog) w x [] (by simp)
   cases ad with
   | none => simp [Builtin.append_, run_underlying E.und, sizeOf, typeInfo, hi, Builtin.lenOf, Builtin.firstCells, storeCells]
   | some x => simp [Builtin.append_, run_underlying E.und, sizeOf, typeInfo, hi, Builtin.lenOf, Builtin.firstCells, storeCells, hld]
 · have hpos := E.pos
   have : 0 < cs.length := by rw [hl]; exact Nat.mul_pos (by omega) hpos
   obtain ⟨b0, o0, rfl, _⟩ := hT 0 cs[0] (List.getElem?_eq_getElem this)
   have hnews : ∀ j y, cs[j]? = some y → w.cell? ((⟨b0, o0, none⟩ : Addr).add j) = some y := fun j y hj => by
    obtain ⟨b', o', e, _, hc⟩ := hT j y hj
    cases e
    rw [Addr.add_mid]
    exact hc
   have hb : (0 + m) * by' ≤ 140737488355328 := Nat.le_trans (Nat.mul_le_mul (by omega : 0 + m ≤ 4194304) hfew) (by decide)
   obtain ⟨v', w', hr, ho, hg, _⟩ := run_append_own (P := Try.prog) w B T ty t i0 z k by' E.und hi hz hs hby E.cells E.pos _ 0 [] hown ⟨b0, o0, none⟩ m c cs hl hnews h1 (by unfold maxLen; omega) hb hB
   have hfit : Builtin.nextslicecap (0 + m) 0 * i0.bytes ≤ 281474976710656 := by rw [Nat.zero_add, nextslicecap_zero (by omega), hby]; have := hb; rw [Nat.zero_add] at this; omega
   have hr2 := run_append_grow (P := Try.prog) (w := w) T ty t i0 z E.und hi hz ⟨b, 0, none⟩ 0 0 [] (by simp) (by simp) ⟨b0, o0, none⟩ m c cs (by rw [hs]; exact hl) hnews (by omega) (by omega) hfit
   rw [hr] at hr2
   injection hr2 with h2 h3
   refine ⟨v', w', hr, by rw [Nat.zero_add, List.nil_append] at ho; exact ho, ?_⟩
   rw [h3]
   exact (below_drew (Below.refl _ w)).alloc (Nat.le_refl _) _
end Go.Proofs.Ytegpnicajlndlaa
