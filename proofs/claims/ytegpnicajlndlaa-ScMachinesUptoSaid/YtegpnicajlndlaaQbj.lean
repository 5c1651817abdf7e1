/- RR4, RA3 -/
import Derived.Test.YtegpnicajlndlaaRR3
import Derived.Test.YtegpnicajlndlaaQau
namespace Go.Proofs.Ytegpnicajlndlaa
open Go.RowKit M
set_option linter.unusedSimpArgs false
set_option linter.unusedVariables false
def RdC (w : World) (p : PG) (T : ByteArray) (e : Ending) (w' : World) : Prop :=
 (validV p ≠ 0 → e = .returned (.tuple #[.agg zst.toArray, .int .i64 (validV p)]) ∧ Below w.heap.size w w') ∧ (validV p = 0 → RdB w (shpOf p) T e w')
set_option maxRecDepth 100000 in
set_option maxHeartbeats 8000000 in
theorem rread_any (p : PG) (hf : p.Few) (T : ByteArray) (hT : T.size ≤ 1099511627776) (vt vr vl vi vj : Value) (w : World) (hp : PGV w vt vr vl vi vj p) :
    Calls Try.prog 14 #[.agg #[vt, vr, vl, vi, vj], .string T] w fun e w' => RdC w p T e w' := by
 by_cases hv0 : validV p = 0
 · obtain ⟨at0, ct, hvt⟩ := hp.t.form
   obtain ⟨ar, cr, hvr⟩ := hp.r.form
   obtain ⟨al, cl, hvl, _, _⟩ := id hp.l
   rw [(vld_of hv0).rl] at hvr
   subst hvt hvr hvl
   exact (rread_t p (shpOf p) T p.threads.length p.locs.length at0 ar al ct cr cl vi vj hf rfl rfl (vld_of hv0).rl rfl hT hv0 w hp).mono fun e w' h => ⟨fun h0 => absurd hv0 h0, fun _ => h⟩
 · have hVal := fun W (h : PGV W vt vr vl vi vj p) => rvalid_any p hf vt vr vl vi vj W h
   have HP : Hid (PGV w vt vr vl vi vj p) := hp
   have hz1 : ∀ v ∈ zst, v.oneCell' = true := by
    intro v hv
    simp only [zst, List.mem_cons, List.not_mem_nil, or_false] at hv
    rcases hv with rfl | rfl | rfl | rfl | rfl | rfl <;> rfl
   have HQ : Hid (∀ e w', e = .returned (.tuple #[.agg zst.toArray, .int .i64 (validV p)]) ∧ Below w.heap.size w w' → RdC w p T e w') := fun e w' h => ⟨fun _ => h, fun h0 => absurd h0 hv0⟩
   obtain ⟨ev, hev⟩ : ∃ e, e = validV p := ⟨_, rfl⟩
   rw [← hev] at HQ hv0
   simp only [← hev] at hVal
   clear hp hf hev
   have t1 : True := trivial
   have t2 : True := trivial
   have t3 : True := trivial
   have t7 : True := trivial
   go_enter Try.func14, Try.ntmps14
   go_wp2_with (first
    | (clear t1; refine wpList_boxS rfl 28 _ rfl [vt, vr, vl, vi, vj] rfl ?_; intro W0 b2 F0 C0; have B0 := F_b F0; clear F0)
    | (clear t2; refine wpList_allocS rfl 32 rfl zst zeroSt ?_; intro W1 b4 F1 Z1; have C1 := C0.fresh F1; have B1 := F1.trans B0 B0.size; have hb4 : w.heap.size ≤ b4 := Nat.le_trans B0.size (Nat.le_of_eq F1.at'.symm); clear F1 C0)
    | (clear t3; refine wpList_loadW rfl 28 _ rfl rfl C1 _ Try.underlying28 rfl infoPg ?_)
    | (go_at_call 28; refine (hVal _ (HP.out.below B1)).mono ?_; rintro e W2 ⟨rfl, B2x⟩; have Z2 := Z1.grown B2x; have B2 := Below.then B1 B2x; clear hVal C1 Z1 B0 B1 B2x)
    | (clear t7; refine wpList_valueX rfl (build0_st rfl) ?_)
    | (refine wpList_storeW rfl 32 _ _ rfl rfl zst rfl Z2 rfl infoSt hz1 ?_; intro W7 U7 Z7; have B7 := U7.trans B2 hb4))
   exact ret_ST rfl rfl rfl Z7 _ Try.underlying32 rfl infoSt _ rfl (HQ.out _ _ ⟨rfl, B7⟩)
theorem run_bSt {w : World} {op : Oper} {a : Act} {x0 x1 x2 x3 x5 : Operand} {a0 a1 a2 a3 : Option Addr} {n0 n1 n2 n3 c0 c1 c2 c3 : Nat} {z : Int} (ho : op.op = .build 32 #[(0, x0), (1, x1), (2, x2), (3, x3), (5, x5)]) (h0 : a.eval x0 = .slice a0 n0 c0) (h1 : a.eval x1 = .slice a1 n1 c1) (h2 : a.eval x2 = .slice a2 n2 c2) (h3 : a.eval x3 = .slice a3 n3 c3) (h5 : a.eval x5 = .int .i64 z) :
    (execOp a.eval op).run Try.prog w = .ok (.value (.agg #[.slice a0 n0 c0, .slice a1 n1 c1, .slice a2 n2 c2, .slice a3 n3 c3, .slice none 0 0, .int .i64 z])) w := by
 generalize a.eval = ev at h0 h1 h2 h3 h5 ⊢
 unfold execOp
 simp [ho, h0, h1, h2, h3, h5, go_sem]
theorem run_allocSt {w : World} {op : Oper} {a : Act} (ho : op.op = .alloc 32) : (execOp a.eval op).run Try.prog w = .ok (.value (.pointer (some ⟨w.heap.size, 0, none⟩))) (w.alloc (.cells [Value.slice none 0 0, .slice none 0 0, .slice none 0 0, .slice none 0 0, .slice none 0 0, .int .i64 0].toArray 32)) := by
 unfold execOp
 simp [ho, go_sem, Value.cells]
theorem own_isS {w : World} {B t t' s n g k : Nat} {v : Value} {xs cs : List Value} (ho : w.ownsRow B t s v n xs) (I : IsS w g t' cs) (ht : t ≠ t') (hk : v.ownBlock = some k) : k ≠ g := by
 intro e
 subst e
 rcases ho.2 with ⟨rfl, _⟩ | ⟨g', cap', cur', rfl, _, hh', _⟩
 · cases hk
 · simp [Value.ownBlock] at hk
   subst hk
   unfold IsS at I
   rw [I] at hh'
   simp at hh'
   exact ht hh'.2.symm
theorem app_far {w : World} {m k : Nat} {v z : Value} (h : (m = 0 ∧ v = z) ∨ ∀ k, v.ownBlock = some k → w.heap.size ≤ k) (h0 : 0 < m) (hk : k < w.heap.size) (hv : v.ownBlock = some k) : False := by
 rcases h with ⟨h1, _⟩ | h1
 · omega
 · have := h1 k hv; omega
theorem eWr : Elt 50 48 2 (.agg #[.int .i64 0, .int .i64 0]) 16 := ⟨Try.underlying48, info_parts (by kernel_rfl), rfl, by decide, by decide⟩
theorem ldcWW {b o : Nat} {v : Value} (w : World) (h : w.cell? ⟨b, o, none⟩ = some v) : (Instr.loadAt 30 (.pointer (some ⟨b, o, none⟩))).run Try.prog w = .ok v w := by simp [go_sem, h]
theorem ldcW {b o : Nat} {v : Value} (w : World) (h : w.cell? ⟨b, o, none⟩ = some v) : (Instr.loadAt 48 (.pointer (some ⟨b, o, none⟩))).run Try.prog w = .ok v w := by simp [go_sem, h]
theorem infoWW : (Try.prog.info? 30).map (·.size) = some 1 := by kernel_rfl
theorem cp_one {v4 : Value} {a b c d : Option Addr} {n1 n2 n3 n4 c1 c2 c3 c4 : Nat} {z : Int} (h : v4.oneCell' = true) : ∀ v ∈ [Value.slice a n1 c1, .slice b n2 c2, .slice c n3 c3, .slice d n4 c4, v4, .int .i64 z], v.oneCell' = true := by
 intro v hv
 simp only [List.mem_cons, List.not_mem_nil, or_false] at hv
 rcases hv with rfl | rfl | rfl | rfl | rfl | rfl
 · rfl
 · rfl
 · rfl
 · rfl
 · exact h
 · rfl
end Go.Proofs.Ytegpnicajlndlaa
