/- Structs loaded whole; texts put together. -/
import Derived.Test.YtjoppgilmlhfbaaDoorX5
import Derived.Test.YtjoppgilmlhfbaaDoorFD
namespace Go.Proofs.YtjoppgilmlhfbaaDoor
open Go.RowKit M
set_option linter.unusedSimpArgs false
set_option linter.unusedVariables false

theorem wpList_loadP {w : World} {b t o : Nat} {cs : List Value} {ops : Array Oper} {rest : List Oper} {op : Oper} {a : Act} {Q : Exit → Act → World → Prop} (hgd : op.guard = none) (ty : TypeId) (x : Operand) (ho : op.op = .load ty x) (hx : a.eval x = .pointer (some ⟨b, o, none⟩)) (hc : IsS w b t cs) (k : Nat) (sub : List Value) (hsub : (cs.drop o).take k = sub) (d : TypeDesc)
    (hu : Tryd.prog.underlying ty = some d) (hd : d.isRow = true) (hi : (Tryd.prog.info? ty).map (·.size) = some sub.length)
    (h : wpList Tryd.prog ops Q rest (a.put op.dst (.agg sub.toArray)) w) : wpList Tryd.prog ops Q (op :: rest) a w := by
  subst hsub
  exact wpList_loadS hgd ty x ho hx hc k d hu hd hi h
theorem wpG_loadP {ops : Array Oper} {W : World} {Q : Act → Prop} {rest : List Oper} {op : Oper} {a : Act} {b t o : Nat} {cs : List Value} (hw : Region.wanted op (yielded ops a.tmps) = true) (ty : TypeId) (x : Operand) (ho : op.op = .load ty x) (hx : a.eval x = .pointer (some ⟨b, o, none⟩)) (hc : IsS W b t cs) (k : Nat) (sub : List Value) (hsub : (cs.drop o).take k = sub) (d : TypeDesc)
    (hu : Tryd.prog.underlying ty = some d) (hd : d.isRow = true) (hi : (Tryd.prog.info? ty).map (·.size) = some sub.length)
    (h : wpG Tryd.prog ops W Q rest (a.put op.dst (.agg sub.toArray))) : wpG Tryd.prog ops W Q (op :: rest) a := by
  subst hsub
  exact wpG_loadS hw ty x ho hx hc k d hu hd hi h
def txB (v : Int) : ByteArray := ⟨(textL v).toArray⟩
theorem tx_len (v : Int) (h0 : -9223372036854775808 ≤ v) (h1 : v ≤ 9223372036854775807) : (txB v).size ≤ 20 := by
  unfold txB; rw [size_mk]; unfold textL
  by_cases h : v < 0
  · rw [if_pos h]
    have := dgs_len 10 (by omega) 19 v.natAbs (by omega) (by omega)
    simp; omega
  · rw [if_neg h]
    have := dgs_len 10 (by omega) 20 v.toNat (by omega) (by omega)
    omega
theorem sadd (A B : ByteArray) (h : A.size + B.size ≤ 4096) : ∀ W : World, (Op.stringOp .add A B).run Tryd.prog W = .ok (.string (A ++ B)) W := fun W => run_string_add_sum W A B (by omega)
end Go.Proofs.YtjoppgilmlhfbaaDoor
