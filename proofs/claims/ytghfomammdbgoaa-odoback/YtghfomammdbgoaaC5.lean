/- OdoBack: the law in all its cases; a slice of numbers, read. -/
import Derived.Test.YtghfomammdbgoaaC4
namespace Go.Proofs.Ytghfomammdbgoaa
open Go.RowKit Go.Shelf Go.Sort K
set_option linter.unusedSimpArgs false
set_option linter.unusedVariables false

theorem tmod_nat (P m : Nat) : (P : Int).tmod (m : Int) = ((P % m : Nat) : Int) := by
  rw [Int.tmod_eq_emod_of_nonneg (by omega)]; omega

theorem back_all (K N : Int) (a : Option Addr) (cap : Nat) (zs : List Int) (P Q : Nat) (al : Option Addr) (cl : Nat) (xs : List Int) (w : World)
    (hN : Nums w a zs) (ha : a = none → zs = []) (hl : zs.length ≤ 1152921504606846976) (hb : ∀ z ∈ zs, z < 9223372036854775808)
    (hNx : Nums w al xs) (hax : al = none → xs = []) (hxl : xs.length ≤ 1152921504606846976) :
    Calls Try.prog 5 #[.agg #[.int .i64 K, .slice a zs.length cap, .int .i64 N], .int .u64 (P : Nat), .int .u64 (Q : Nat), .slice al xs.length cl] w fun e w' => e = .returned (.bool true) ∧ Below w.heap.size w w' := by
  rcases space_two K N a cap zs w hN ha hl hb with ⟨er, her, hs⟩ | ⟨m, d, In, at', rk, hd, hs⟩
  · exact back_bad K N a _ cap P Q _ w er (by simpa using her) hs
  · by_cases hm : m < 18446744073709551616
    · by_cases h0 : m = 0
      · exact back_zero K N a _ cap P Q al cl xs w m d In at' rk h0 hs hNx hax
      · have hp : P % m < m := Nat.mod_lt _ (by omega)
        have hq : Q % m < m := Nat.mod_lt _ (by omega)
        by_cases hin : In xs
        · exact law_in K N a _ cap P Q al cl xs w m d In at' rk hm (by omega) hd (P % m) (Q % m) hp hq (tmod_nat P m) (tmod_nat Q m) hs hNx hax hxl hin
        · exact law_out K N a _ cap P Q al cl xs w m d In at' rk hm (by omega) hd (P % m) (Q % m) hp hq (tmod_nat P m) (tmod_nat Q m) hs hNx hax hxl hin
    · exact back_long K N a _ cap P Q _ w m d In at' rk hm hs
end Go.Proofs.Ytghfomammdbgoaa
