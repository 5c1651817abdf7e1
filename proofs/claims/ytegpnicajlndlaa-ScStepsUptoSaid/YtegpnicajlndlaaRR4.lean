/- RR4 -/
import Derived.Test.YtegpnicajlndlaaRR3
namespace Go.Proofs.Ytegpnicajlndlaa
open Go.RowKit M
set_option linter.unusedSimpArgs false
set_option linter.unusedVariables false
def RdC (w : World) (p : PG) (T : ByteArray) (e : Ending) (w' : World) : Prop :=
 (validV p ≠ 0 → e = .returned (.tuple #[.agg zst.toArray, .int .i64 (validV p)]) ∧ Below w.heap.size w w') ∧ (validV p = 0 → RdB w (shpOf p) T e w')
set_option maxRecDepth 100000 in
set_option maxHeartbeats 8000000 in
theorem rread_any (p : PG) (hf : p.Few) (T : ByteArray) (hT : T.size ≤ 1099511627776) (vt vr vl vi vj : Value) (w : World) (hp : PGV w vt vr vl vi vj p) :
    Calls Try.prog 14 #[.agg #[vt, vr, vl, vi, vj], .string T] w fun e w' => RdC w p T e w' := by
 by_cases hv0 : validV p = 0
 · obtain ⟨at0, ct, hvt⟩ := hp.t.form
   obtain ⟨ar, cr, hvr⟩ := hp.r.form
   obtain ⟨al, cl, hvl, _, _⟩ := id hp.l
   rw [(vld_of hv0).rl] at hvr
   subst hvt hvr hvl
   exact (rread_t p (shpOf p) T p.threads.length p.locs.length at0 ar al ct cr cl vi vj hf rfl rfl (vld_of hv0).rl rfl hT hv0 w hp).mono fun e w' h => ⟨fun h0 => absurd hv0 h0, fun _ => h⟩
 · have hVal := fun W (h : PGV W vt vr vl vi vj p) => rvalid_any p hf vt vr vl vi vj W h
   have HP : Hid (PGV w vt vr vl vi vj p) := hp
   have hz1 : ∀ v ∈ zst, v.oneCell' = true := by
    intro v hv
    simp only [zst, List.mem_cons, List.not_mem_nil, or_false] at hv
    rcases hv with rfl | rfl | rfl | rfl | rfl | rfl <;> rfl
   have HQ : Hid (∀ e w', e = .returned (.tuple #[.agg zst.toArray, .int .i64 (validV p)]) ∧ Below w.heap.size w w' → RdC w p T e w') := fun e w' h => ⟨fun _ => h, fun h0 => absurd h0 hv0⟩
   obtain ⟨ev, hev⟩ : ∃ e, e = validV p := ⟨_, rfl⟩
   rw [← hev] at HQ hv0
   simp only [← hev] at hVal
   clear hp hf hev
   have t1 : True := trivial
   have t2 : True := trivial
   have t3 : True := trivial
   have t7 : True := trivial
   go_enter Try.func14, Try.ntmps14
   go_wp2_with (first
    | (clear t1; refine wpList_boxS rfl 28 _ rfl [vt, vr, vl, vi, vj] rfl ?_; intro W0 b2 F0 C0; have B0 := F_b F0; clear F0)
    | (clear t2; refine wpList_allocS rfl 32 rfl zst zeroSt ?_; intro W1 b4 F1 Z1; have C1 := C0.fresh F1; have B1 := F1.trans B0 B0.size; have hb4 : w.heap.size ≤ b4 := Nat.le_trans B0.size (Nat.le_of_eq F1.at'.symm); clear F1 C0)
    | (clear t3; refine wpList_loadW rfl 28 _ rfl rfl C1 _ Try.underlying28 rfl infoPg ?_)
    | (go_at_call 28; refine (hVal _ (HP.out.below B1)).mono ?_; rintro e W2 ⟨rfl, B2x⟩; have Z2 := Z1.grown B2x; have B2 := Below.then B1 B2x; clear hVal C1 Z1 B0 B1 B2x)
    | (clear t7; refine wpList_valueX rfl (build0_st rfl) ?_)
    | (refine wpList_storeW rfl 32 _ _ rfl rfl zst rfl Z2 rfl infoSt hz1 ?_; intro W7 U7 Z7; have B7 := U7.trans B2 hb4))
   exact ret_ST rfl rfl rfl Z7 _ Try.underlying32 rfl infoSt _ rfl (HQ.out _ _ ⟨rfl, B7⟩)
end Go.Proofs.Ytegpnicajlndlaa
