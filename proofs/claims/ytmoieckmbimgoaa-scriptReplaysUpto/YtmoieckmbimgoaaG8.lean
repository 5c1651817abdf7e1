/- The first pick. -/
import Derived.Test.YtmoieckmbimgoaaG7
namespace Go.Proofs.Ytmoieckmbimgoaa
open Go.RowKit M
set_option linter.unusedSimpArgs false
set_option linter.unusedVariables false

def pk0 : PK := (0, 0, 0)
def firstM (l : List PK) : PK × Bool := match l with | [] => (pk0, false) | k :: _ => (k, true)
theorem zeroPk (w : World) : (zeroValue 35).run Try.prog w = .ok (.agg (pkL pk0).toArray) w := by
  have h : Try.t35.zero = some (.agg (pkL pk0).toArray) := by kernel_rfl
  simp [go_sem, zeroValue, h]
set_option maxRecDepth 100000 in
set_option maxHeartbeats 4000000 in
theorem first_any (g : GR) (hf : g.Few) (T : ByteArray) (hT : T.size ≤ 1099511627776) (bn bg : Nat) (S : ByteArray) (v2 v3 : Value) (w : World) (hM : MG w g bn bg) :
    Calls Try.prog 29 #[.agg [.string S, fnV 21 bn bg (holB g 1), v2, v3].toArray, .string T] w fun e w' => e = .returned (.tuple #[.agg (pkL (firstM (picksM g T)).1).toArray, .bool (firstM (picksM g T)).2]) ∧ Below w.heap.size w w' := by
  have HM : Hid (MG w g bn bg) := hM
  cases h2 : holB g 1 with
  | false =>
    have e : picksM g T = [] := by unfold picksM; rw [h2]; rfl
    rw [e]
    show Calls _ _ _ _ fun e w' => e = .returned (.tuple #[.agg (pkL pk0).toArray, .bool false]) ∧ _
    have e2 := fun w => eql_nil w 28 _ _ _ Try.underlying28
    clear hM hf hT e h2
    have t1 : True := trivial
    have t2 : True := trivial
    have t4 : True := trivial
    go_enter Try.func29, Try.ntmps29
    go_wp2_with (first
      | (clear t1; refine wpList_boxS rfl 32 _ rfl [.string S, .nilFunc, v2, v3] rfl ?_; intro W1 b1 F1 C1; have B1 := F_b F1; clear F1)
      | (clear t2; refine wpList_allocS rfl 35 rfl (pkL pk0) zeroPk ?_; intro W2 b2 F2 K2; have C2 := C1.fresh F2; have hb2 : w.heap.size ≤ b2 := Nat.le_trans B1.size (Nat.le_of_eq F2.at'.symm); have B2 := Below.then B1 (F_b F2); obtain ⟨y0, y1, y2, y3⟩ := five4 C2; clear F2 C1)
      | (clear t4; refine wpList_storeW rfl 35 _ _ rfl rfl (pkL pk0) rfl K2 rfl infoPk (pk_oneC _) ?_; intro W4 U4 K4; have B4 := U4.trans B2 hb2; clear K2 U4))
    exact ret_ST rfl rfl rfl K4 _ Try.underlying35 rfl infoPk _ rfl ⟨rfl, B4⟩
  | true =>
    have e : picksM g T = picksG g T := by unfold picksM; rw [h2]; rfl
    rw [e]
    have hC := fun W (h : MG W g bn bg) => picks_any g hf T hT bn bg W h
    obtain ⟨R, hR⟩ : ∃ R, picksG g T = R := ⟨_, rfl⟩
    rw [hR] at hC ⊢
    have e2 := fun w => eql_fn w 28 _ _ _ (.func 21) #[.pointer (some ⟨bn, 0, none⟩), .pointer (some ⟨bg, 0, none⟩)] Try.underlying28
    clear hM hf hT e h2 hR
    cases R with
    | nil =>
      show Calls _ _ _ _ fun e w' => e = .returned (.tuple #[.agg (pkL pk0).toArray, .bool false]) ∧ _
      have t1 : True := trivial
      have t2 : True := trivial
      have t4 : True := trivial
      go_enter Try.func29, Try.ntmps29
      go_wp2_with (first
        | (clear t1; refine wpList_boxS rfl 32 _ rfl [.string S, .func (.func 21) #[] #[.pointer (some ⟨bn, 0, none⟩), .pointer (some ⟨bg, 0, none⟩)], v2, v3] rfl ?_; intro W1 b1 F1 C1; have B1 := F_b F1; clear F1)
        | (clear t2; refine wpList_allocS rfl 35 rfl (pkL pk0) zeroPk ?_; intro W2 b2 F2 K2; have C2 := C1.fresh F2; have hb2 : w.heap.size ≤ b2 := Nat.le_trans B1.size (Nat.le_of_eq F2.at'.symm); have B2 := Below.then B1 (F_b F2); obtain ⟨y0, y1, y2, y3⟩ := five4 C2; clear F2 C1)
        | (go_at_call 21; refine (hC _ (HM.out.below B2)).mono ?_; rintro e W3 ⟨v, rfl, O3, B3⟩; obtain ⟨a3, c3, ev⟩ := own_form O3; simp only [List.length_nil] at ev; subst ev; have K3 := K2.grown B3; have B5 := Below.then B2 B3; clear O3)
        | (clear t4; refine wpList_storeW rfl 35 _ _ rfl rfl (pkL pk0) rfl K3 rfl infoPk (pk_oneC _) ?_; intro W4 U4 K4; have B4 := U4.trans B5 hb2; clear K3 U4))
      exact ret_ST rfl rfl rfl K4 _ Try.underlying35 rfl infoPk _ rfl ⟨rfl, B4⟩
    | cons k ks =>
      show Calls _ _ _ _ fun e w' => e = .returned (.tuple #[.agg (pkL k).toArray, .bool true]) ∧ _
      obtain ⟨m, hm⟩ : ∃ m, (k :: ks).length = m := ⟨_, rfl⟩
      have hm0 : 0 < (m : Int) := by rw [← hm]; simp
      have HK : Hid ((k :: ks)[0]? = some k) := rfl
      rw [hm] at hC
      clear hm
      generalize k :: ks = L at hC HK
      have t1 : True := trivial
      have t2 : True := trivial
      have t3 : True := trivial
      have t4 : True := trivial
      go_enter Try.func29, Try.ntmps29
      go_wp2_with (first
        | (clear t1; refine wpList_boxS rfl 32 _ rfl [.string S, .func (.func 21) #[] #[.pointer (some ⟨bn, 0, none⟩), .pointer (some ⟨bg, 0, none⟩)], v2, v3] rfl ?_; intro W1 b1 F1 C1; have B1 := F_b F1; clear F1)
        | (clear t2; refine wpList_allocS rfl 35 rfl (pkL pk0) zeroPk ?_; intro W2 b2 F2 K2; have C2 := C1.fresh F2; have hb2 : w.heap.size ≤ b2 := Nat.le_trans B1.size (Nat.le_of_eq F2.at'.symm); have B2 := Below.then B1 (F_b F2); obtain ⟨y0, y1, y2, y3⟩ := five4 C2; clear F2 C1)
        | (go_at_call 21; refine (hC _ (HM.out.below B2)).mono ?_; rintro e W3 ⟨v, rfl, O3, B3⟩; obtain ⟨a3, c3, ev, sg, _⟩ := own_row O3; subst ev; obtain ⟨b5, o5, ea, hb5, rg⟩ := pk_range sg HK.out; subst ea; have K3 := K2.grown B3; have B5 := Below.then B2 B3; clear O3 sg)
        | (clear t3; refine wpList_load_mid rfl 35 _ rfl b5 o5 rfl (pkL k) _ (by simpa using rg) Try.underlying35 rfl infoPk ?_)
        | (clear t4; refine wpList_storeW rfl 35 _ _ rfl rfl (pkL k) rfl K3 rfl infoPk (pk_oneC _) ?_; intro W4 U4 K4; have B4 := U4.trans B5 hb2; clear K3 U4))
      exact ret_ST rfl rfl rfl K4 _ Try.underlying35 rfl infoPk _ rfl ⟨rfl, B4⟩
end Go.Proofs.Ytmoieckmbimgoaa
