/-
  THE PROGRAM'S OWN: the sets of a level in one struct; do they fit, their hash, their leaves.
-/
import Derived.Test.YthahnckjmlcehaaHs4
import Derived.Deep.MidRow
namespace Go.Proofs.Ythahnckjmlcehaa
open Go.RowKit
set_option maxRecDepth 100000
/-- the cells of a level's sets -/
def stC (a b : Nat) : List Value := [.int .u32 (lC a), .bool (lSh a), .int .i64 (lN a), .int .i64 (lH a : Int), .int .u32 (oC b), .bool (oR b).1, .int .i64 (oR b).2.1, .int .i64 (oR b).2.2.1, .int .i64 (oR b).2.2.2.1, .int .i64 (oR b).2.2.2.2]
def stV (a b : Nat) : Value := .agg (stC a b).toArray
def stZ : List Value := [.int .u32 0, .bool false, .int .i64 0, .int .i64 0, .int .u32 0, .bool false, .int .i64 0, .int .i64 0, .int .i64 0, .int .i64 0]
theorem info_st : (Try.prog.info? 52).map (·.size) = some 10 := by kernel_rfl
theorem oneCell10 {a : Int} {b : Bool} {c d e : Int} {f : Bool} {g h i j : Int} : ∀ u ∈ [Value.int .u32 a, .bool b, .int .i64 c, .int .i64 d, .int .u32 e, .bool f, .int .i64 g, .int .i64 h, .int .i64 i, .int .i64 j], u.oneCell' = true := by
  intro u hu
  simp only [List.mem_cons, List.not_mem_nil, or_false] at hu
  rcases hu with rfl | rfl | rfl | rfl | rfl | rfl | rfl | rfl | rfl | rfl <;> rfl
theorem setsOf_any (a b : Nat) (ha : a < 4294967296) (w : World) : Calls Try.prog 25 #[.agg #[.int .u32 (a : Int), .int .u32 (b : Int)]] w (OldIs (stV a b) w) := by
  unfold OldIs
  have HV : Shh ((∀ W, Calls Try.prog 42 #[.int .u32 (a : Int)] W (OldIs (.tuple #[lmsV a, .int .i64 (lE a)]) W)) ∧ ∀ W, Calls Try.prog 43 #[.int .u32 (b : Int)] W (OldIs (.tuple #[otsV b, .int .i64 (oE b)]) W)) := ⟨fun W => lms_any a ha W, fun W => ots_any b W⟩
  unfold lmsV otsV at HV
  unfold stV stC
  generalize lE a = le at HV
  generalize oE b = oe at HV
  generalize lC a = l0 at HV ⊢
  generalize lSh a = l1 at HV ⊢
  generalize lN a = l2 at HV ⊢
  generalize (lH a : Int) = l3 at HV ⊢
  generalize oC b = o0 at HV ⊢
  generalize (oR b).1 = o1 at HV ⊢
  generalize (oR b).2.1 = o2 at HV ⊢
  generalize (oR b).2.2.1 = o3 at HV ⊢
  generalize (oR b).2.2.2.1 = o4 at HV ⊢
  generalize (oR b).2.2.2.2 = o5 at HV ⊢
  obtain ⟨W, hW⟩ : ∃ W, W = (w.alloc (.cells #[.int .u32 (a : Int), .int .u32 (b : Int)] 43)).alloc (.cells #[.int .u32 0, .bool false, .int .i64 0, .int .i64 0, .int .u32 0, .bool false, .int .i64 0, .int .i64 0, .int .i64 0, .int .i64 0] 52) := ⟨_, rfl⟩
  have HW : Shh (Row W w.heap.size 43 [.int .u32 (a : Int), .int .u32 (b : Int)] ∧ Row W (w.heap.size + 1) 52 stZ ∧ Below w.heap.size w W ∧ W.heap.size = w.heap.size + 2) := by
    rw [hW]
    refine ⟨(Row.new_ rfl rfl).alloc _, Row.new_ (by rw [asz]) rfl, (Below.alloc (Below.refl _ _) (by omega) _).alloc (by rw [asz]; omega) _, by rw [asz, asz]⟩
  go_enter Try.func25, Try.ntmps25
  go_wp2_with (go_at_call 42; refine (HV.out.1 _).mono ?_)
  unfold OldIs
  rw [← hW]
  rintro e w2 ⟨rfl, b2⟩
  have F2 : Shh (Row w2 w.heap.size 43 [.int .u32 (a : Int), .int .u32 (b : Int)] ∧ Row w2 (w.heap.size + 1) 52 stZ ∧ Below w.heap.size w w2 ∧ w.heap.size + 2 ≤ w2.heap.size) := ⟨HW.out.1.go b2, HW.out.2.1.go b2, Below.chain HW.out.2.2.1 b2, by have := b2.size; have := HW.out.2.2.2; omega⟩
  clear HW b2 hW
  obtain ⟨M, hM⟩ : ∃ M, Shh (M = w2.heap.size) := ⟨_, ⟨rfl⟩⟩
  go_wp2_with (refine wpList_store_any rfl 37 (.tmp 3) (.tmp 11) rfl M (by rw [hM.out]; rfl) [.int .u32 l0, .bool l1, .int .i64 l2, .int .i64 l3] rfl 37 _ (Row.new_ hM.out rfl) info_lms rfl oneCell4 ?_)
  intro Z hr bt _
  have F3 : Shh (Row Z w.heap.size 43 [.int .u32 (a : Int), .int .u32 (b : Int)] ∧ Row Z (w.heap.size + 1) 52 stZ ∧ Row Z M 37 [.int .u32 l0, .bool l1, .int .i64 l2, .int .i64 l3] ∧ Below w.heap.size w Z ∧ w.heap.size + 2 ≤ M ∧ M < Z.heap.size) := by
    have hl := F2.out.2.2.2
    have hm := hM.out
    refine ⟨bt.row (F2.out.1.alloc _) (by first | omega | (rw [asz]; omega)) (by omega), bt.row (F2.out.2.1.alloc _) (by first | omega | (rw [asz]; omega)) (by omega), hr, Below.chain F2.out.2.2.1 ?_, by omega, hr.lt⟩
    exact (Below.alloc (Below.refl _ _) (Nat.le_refl _) _).trans (bt.under (by first | omega | (rw [asz]; omega)) (by omega))
  have c1 := F3.out.1.cell 1
  simp only [List.getElem?_cons_succ, List.getElem?_cons_zero] at c1
  rw [← hM.out]
  clear hr bt F2 hM
  go_wp2_with (go_at_call 43; refine (HV.out.2 _).mono ?_)
  unfold OldIs
  rintro e w3 ⟨rfl, b3⟩
  have F4 : Shh (Row w3 (w.heap.size + 1) 52 stZ ∧ Row w3 M 37 [.int .u32 l0, .bool l1, .int .i64 l2, .int .i64 l3] ∧ Below w.heap.size w w3 ∧ w.heap.size + 2 ≤ M ∧ M < w3.heap.size) := ⟨F3.out.2.1.go b3, F3.out.2.2.1.go b3, Below.chain F3.out.2.2.2.1 b3, F3.out.2.2.2.2.1, by have := b3.size; have := F3.out.2.2.2.2.2; omega⟩
  clear F3 b3 c1 HV
  obtain ⟨K, hK⟩ : ∃ K, Shh (K = w3.heap.size) := ⟨_, ⟨rfl⟩⟩
  go_wp2_with (refine wpList_store_any rfl 39 (.tmp 5) (.tmp 17) rfl K (by rw [hK.out]; rfl) [.int .u32 o0, .bool o1, .int .i64 o2, .int .i64 o3, .int .i64 o4, .int .i64 o5] rfl 39 _ (Row.new_ hK.out rfl) info_ots rfl oneCell6 ?_)
  intro Z hr bt _
  have F5 : Shh (Row Z (w.heap.size + 1) 52 stZ ∧ Row Z M 37 [.int .u32 l0, .bool l1, .int .i64 l2, .int .i64 l3] ∧ Row Z K 39 [.int .u32 o0, .bool o1, .int .i64 o2, .int .i64 o3, .int .i64 o4, .int .i64 o5] ∧ Below w.heap.size w Z ∧ w.heap.size + 2 ≤ M ∧ M < K) := by
    have hl := F4.out.2.2.2
    have hm := hK.out
    refine ⟨bt.row (F4.out.1.alloc _) (by first | omega | (rw [asz]; omega)) (by omega), bt.row (F4.out.2.1.alloc _) (by first | omega | (rw [asz]; omega)) (by omega), hr, Below.chain F4.out.2.2.1 ?_, by omega, by omega⟩
    exact (Below.alloc (Below.refl _ _) (Nat.le_refl _) _).trans (bt.under (by first | omega | (rw [asz]; omega)) (by omega))
  rw [← hK.out]
  clear hr bt F4 hK
  go_wp2_with (first | refine wpList_load_any rfl 37 (.tmp 3) rfl M rfl 37 [.int .u32 l0, .bool l1, .int .i64 l2, .int .i64 l3] _ F5.out.2.1 Try.underlying37 rfl info_lms ?_ | refine wpList_load_any rfl 39 (.tmp 5) rfl K rfl 39 [.int .u32 o0, .bool o1, .int .i64 o2, .int .i64 o3, .int .i64 o4, .int .i64 o5] _ F5.out.2.2.1 Try.underlying39 rfl info_ots ?_ | refine wpList_store_any rfl 52 (.tmp 2) (.tmp 21) rfl (w.heap.size + 1) rfl [.int .u32 l0, .bool l1, .int .i64 l2, .int .i64 l3, .int .u32 o0, .bool o1, .int .i64 o2, .int .i64 o3, .int .i64 o4, .int .i64 o5] rfl 52 stZ F5.out.1 info_st rfl oneCell10 ?_)
  intro Z2 hr bt _
  have F6 : Shh (Row Z2 (w.heap.size + 1) 52 [.int .u32 l0, .bool l1, .int .i64 l2, .int .i64 l3, .int .u32 o0, .bool o1, .int .i64 o2, .int .i64 o3, .int .i64 o4, .int .i64 o5] ∧ Below w.heap.size w Z2) := ⟨hr, F5.out.2.2.2.1.trans (bt.under (by have := F5.out.2.2.2.1.size; omega) (by omega))⟩
  clear hr bt F5
  go_wp2
  exact ret_row Try.results25 rfl rfl F6.out.1 Try.underlying52 rfl info_st ⟨rfl, F6.out.2⟩
theorem fit_any (a b : Nat) (ha : a < 4294967296) (w : World) : Calls Try.prog 26 #[stV a b] w (OldIs (.bool (fitL a b)) w) := by
  unfold OldIs
  have HV : Shh (∀ W, Calls Try.prog 30 #[lmsV a, otsV b] W (OldIs (.bool (fitL a b)) W)) := ⟨fun W => fit_lv a b ha W⟩
  unfold lmsV otsV at HV
  unfold stV stC
  generalize fitL a b = F at HV ⊢
  generalize lC a = l0 at HV ⊢
  generalize lSh a = l1 at HV ⊢
  generalize lN a = l2 at HV ⊢
  generalize (lH a : Int) = l3 at HV ⊢
  generalize oC b = o0 at HV ⊢
  generalize (oR b).1 = o1 at HV ⊢
  generalize (oR b).2.1 = o2 at HV ⊢
  generalize (oR b).2.2.1 = o3 at HV ⊢
  generalize (oR b).2.2.2.1 = o4 at HV ⊢
  generalize (oR b).2.2.2.2 = o5 at HV ⊢
  have HB : Shh (Below w.heap.size w (w.alloc (.cells #[.int .u32 l0, .bool l1, .int .i64 l2, .int .i64 l3, .int .u32 o0, .bool o1, .int .i64 o2, .int .i64 o3, .int .i64 o4, .int .i64 o5] 52)) ∧ (w.alloc (.cells #[.int .u32 l0, .bool l1, .int .i64 l2, .int .i64 l3, .int .u32 o0, .bool o1, .int .i64 o2, .int .i64 o3, .int .i64 o4, .int .i64 o5] 52)).rangeAt w.heap.size 0 [.int .u32 l0, .bool l1, .int .i64 l2, .int .i64 l3] ∧ (w.alloc (.cells #[.int .u32 l0, .bool l1, .int .i64 l2, .int .i64 l3, .int .u32 o0, .bool o1, .int .i64 o2, .int .i64 o3, .int .i64 o4, .int .i64 o5] 52)).rangeAt w.heap.size 4 [.int .u32 o0, .bool o1, .int .i64 o2, .int .i64 o3, .int .i64 o4, .int .i64 o5]) := ⟨Below.alloc (Below.refl _ _) (Nat.le_refl _) _, (Row.new_ rfl rfl : Row _ w.heap.size 52 [.int .u32 l0, .bool l1, .int .i64 l2, .int .i64 l3, .int .u32 o0, .bool o1, .int .i64 o2, .int .i64 o3, .int .i64 o4, .int .i64 o5]).mid 0 4, (Row.new_ rfl rfl : Row _ w.heap.size 52 [.int .u32 l0, .bool l1, .int .i64 l2, .int .i64 l3, .int .u32 o0, .bool o1, .int .i64 o2, .int .i64 o3, .int .i64 o4, .int .i64 o5]).mid 4 6⟩
  go_enter Try.func26, Try.ntmps26
  go_wp2_with (first | refine wpList_load_mid rfl 37 (.tmp 3) rfl w.heap.size 0 rfl [.int .u32 l0, .bool l1, .int .i64 l2, .int .i64 l3] _ HB.out.2.1 Try.underlying37 rfl info_lms ?_ | refine wpList_load_mid rfl 39 (.tmp 5) rfl w.heap.size 4 rfl [.int .u32 o0, .bool o1, .int .i64 o2, .int .i64 o3, .int .i64 o4, .int .i64 o5] _ HB.out.2.2 Try.underlying39 rfl info_ots ?_ | (go_at_call 30; refine (HV.out _).mono ?_))
  unfold OldIs
  rintro e w3 ⟨rfl, b3⟩
  have F4 : Shh (Below w.heap.size w w3) := ⟨Below.chain HB.out.1 b3⟩
  clear HB b3
  go_wp2
  go_ret
  exact ⟨rfl, F4.out⟩
/-- what levels must have in common -/
def hsC (a : Nat) : List Value := [.bool (lSh a), .int .i64 (lN a)]
theorem info_hs : (Try.prog.info? 63).map (·.size) = some 2 := by kernel_rfl
theorem hash_any (a b : Nat) (w : World) : Calls Try.prog 27 #[stV a b] w (OldIs (.agg (hsC a).toArray) w) := by
  unfold OldIs
  have HV : Shh True := ⟨trivial⟩
  unfold stV stC hsC
  generalize lC a = l0 at HV ⊢
  generalize lSh a = l1 at HV ⊢
  generalize lN a = l2 at HV ⊢
  generalize (lH a : Int) = l3 at HV ⊢
  generalize oC b = o0 at HV ⊢
  generalize (oR b).1 = o1 at HV ⊢
  generalize (oR b).2.1 = o2 at HV ⊢
  generalize (oR b).2.2.1 = o3 at HV ⊢
  generalize (oR b).2.2.2.1 = o4 at HV ⊢
  generalize (oR b).2.2.2.2 = o5 at HV ⊢
  go_enter Try.func27, Try.ntmps27
  go_wp2
  exact ret_row (T := 63) (cs := [.bool l1, .int .i64 l2]) Try.results27 rfl rfl (Row.new_ (by rw [asz]) rfl) Try.underlying63 rfl info_hs ⟨rfl, (Below.alloc (Below.refl _ _) (by omega) _).alloc (by rw [asz]; omega) _⟩
theorem wrap_pow (n : Nat) (h : n ≤ 60) : IntKind.u64.wrap ((2 : Int) ^ n) = ((2 ^ n : Nat) : Int) := by
  have e : (2 : Int) ^ n = ((2 ^ n : Nat) : Int) := by rw [Int.natCast_pow]; rfl
  have h1 := pow2_le n 60 h
  have h2 : 2 ^ 60 = 1152921504606846976 := by decide
  rw [e, IntKind.wrap_u64]
  generalize 2 ^ n = P at h1
  omega
theorem leaves_any (a b : Nat) (w : World) : Calls Try.prog 36 #[stV a b] w (OldIs (.int .u64 ((2 ^ lH a : Nat) : Int)) w) := by
  unfold OldIs
  have HV : Shh True := ⟨trivial⟩
  have hh := lH_le a
  obtain ⟨P, hP⟩ : ∃ P, P = 2 ^ lH a := ⟨_, rfl⟩
  rw [← hP]
  have HP : Shh (P = 2 ^ lH a) := ⟨hP⟩
  clear hP
  unfold stV stC
  generalize lC a = l0
  generalize lSh a = l1
  generalize lN a = l2
  generalize lH a = n at hh HP
  generalize oC b = o0
  generalize (oR b).1 = o1
  generalize (oR b).2.1 = o2
  generalize (oR b).2.2.1 = o3
  generalize (oR b).2.2.2.1 = o4
  generalize (oR b).2.2.2.2 = o5
  have HB : Shh (Below w.heap.size w (w.alloc (.cells #[.int .u32 l0, .bool l1, .int .i64 l2, .int .i64 (n : Int), .int .u32 o0, .bool o1, .int .i64 o2, .int .i64 o3, .int .i64 o4, .int .i64 o5] 52))) := ⟨Below.alloc (Below.refl _ _) (Nat.le_refl _) _⟩
  go_enter Try.func36, Try.ntmps36
  go_wp2
  go_ret
  refine ⟨ret_int ?_, HB.out⟩
  rw [HP.out]
  exact wrap_pow n (by omega)
end Go.Proofs.Ythahnckjmlcehaa
