/- RT0 -/
import Derived.Test.YtegpnicajlndlaaQbf
namespace Go.Proofs.Ytegpnicajlndlaa
open Go.RowKit M
set_option linter.unusedSimpArgs false
set_option linter.unusedVariables false
def codS (vs : List Int) : ByteArray := ⟨(cod vs).toArray⟩
theorem codS_snoc (vs : List Int) (v : Int) : codS vs ++ ⟨(M.putL v).toArray⟩ = codS (vs ++ [v]) := by
 have h : (codS vs ++ (⟨(M.putL v).toArray⟩ : ByteArray)).data.toList = (codS (vs ++ [v])).data.toList := by
  rw [Go.Joins.data_append]
  unfold codS
  rw [cod_snoc]
 cases hA : codS vs ++ (⟨(M.putL v).toArray⟩ : ByteArray) with
 | mk a =>
  cases hB : codS (vs ++ [v]) with
  | mk b =>
   rw [hA, hB] at h
   congr 1
   exact Array.toList_inj.1 h
end Go.Proofs.Ytegpnicajlndlaa
