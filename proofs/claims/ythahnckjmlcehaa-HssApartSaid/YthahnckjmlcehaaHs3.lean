/-
  WALKS: the document's own power, Leaves, fits, Count.
-/
import Derived.Test.YthahnckjmlcehaaHs2
namespace Go.Proofs.Ythahnckjmlcehaa
open Go.RowKit
set_option maxRecDepth 100000
theorem pow2_le (k n : Nat) (h : k ≤ n) : 2 ^ k ≤ 2 ^ n := Nat.pow_le_pow_right (by decide) h
theorem info_lv : (Try.prog.info? 43).map (·.size) = some 2 := by kernel_rfl
theorem power8_any (n : Nat) (hn : n ≤ 40) (w : World) : Calls Try.prog 32 #[.int .i64 (n : Int)] w (StayIs (.int .u64 ((2 ^ n : Nat) : Int)) w) := by
  unfold StayIs
  obtain ⟨P, hP⟩ : ∃ P, P = 2 ^ n := ⟨_, rfl⟩
  rw [← hP]
  have HP : Shh (P = 2 ^ n) := ⟨hP⟩
  clear hP
  go_enter Try.func32, Try.ntmps32
  go_wp2
  go_loop [3, 5] (fun p i => ∃ k q : Nat, k ≤ n ∧ p = .int .u64 (q : Int) ∧ i = .int .i64 (k : Int) ∧ Shh (q = 2 ^ k)) (fun _ i => n - (intOf i).toNat)
  case atStart => exact ⟨0, 1, Nat.zero_le _, rfl, rfl, ⟨rfl⟩⟩
  case round =>
    obtain ⟨k, q, hk, rfl, rfl, HQ⟩ := hrel
    by_cases hlt : k < n
    · have hb : q ≤ 1099511627776 := by
        have h1 := pow2_le k 40 (by omega)
        have h2 : 2 ^ 40 = 1099511627776 := by decide
        have := HQ.out
        omega
      have hw : IntKind.u64.wrap ((q : Int) * 2) = (q : Int) * 2 := by rw [IntKind.wrap_u64]; omega
      have HR : Shh (q * 2 = 2 ^ (k + 1)) := ⟨by rw [HQ.out, Nat.pow_succ]⟩
      go_wp2
      go_round
      case rel => exact ⟨k + 1, q * 2, by omega, by go_num, by go_num, HR⟩
      case measure => simp [intOf]; omega
    · obtain rfl : k = n := by omega
      have HR : Shh (P = q) := ⟨by rw [HP.out, HQ.out]⟩
      clear HQ HP
      go_wp2
      go_ret
      exact ⟨by rw [HR.out]; rfl, rfl⟩
theorem leaves_lv (a : Nat) (w : World) : Calls Try.prog 19 #[lmsV a] w (OldIs (.int .u64 ((2 ^ lH a : Nat) : Int)) w) := by
  unfold OldIs
  have HP : Shh (∀ W, Calls Try.prog 32 #[.int .i64 (lH a : Int)] W (StayIs (.int .u64 ((2 ^ lH a : Nat) : Int)) W)) := ⟨fun W => power8_any _ (by have := lH_le a; omega) W⟩
  generalize ((2 ^ lH a : Nat) : Int) = P at HP ⊢
  unfold lmsV
  generalize lC a = l0
  generalize lSh a = l1
  generalize lN a = l2
  generalize (lH a : Int) = l3 at HP ⊢
  go_enter Try.func19, Try.ntmps19
  go_wp2_with (go_at_call 32; refine (HP.out _).mono ?_)
  unfold StayIs
  rintro e w2 ⟨rfl, rfl⟩
  go_wp2
  go_ret
  exact ⟨rfl, Below.alloc (Below.refl _ _) (Nat.le_refl _) _⟩
theorem fits_lv (a b : Nat) (ha : a < 4294967296) (w : World) : Calls Try.prog 16 #[.agg #[.int .u32 (a : Int), .int .u32 (b : Int)]] w (OldIs (.bool (fitL a b)) w) := by
  unfold OldIs
  have HV : Shh ((∀ W, Calls Try.prog 13 #[.agg #[.int .u32 (a : Int), .int .u32 (b : Int)]] W (OldIs (.tuple #[lmsV a, otsV b]) W)) ∧ ∀ W, Calls Try.prog 28 #[lmsV a, otsV b] W (OldIs (.bool (fitL a b)) W)) := ⟨fun W => refSets_any a b ha W, fun W => refFit_lv a b ha W⟩
  unfold lmsV otsV at HV
  generalize fitL a b = F at HV ⊢
  generalize lC a = l0 at HV
  generalize lSh a = l1 at HV
  generalize lN a = l2 at HV
  generalize (lH a : Int) = l3 at HV
  generalize oC b = o0 at HV
  generalize (oR b).1 = o1 at HV
  generalize (oR b).2.1 = o2 at HV
  generalize (oR b).2.2.1 = o3 at HV
  generalize (oR b).2.2.2.1 = o4 at HV
  generalize (oR b).2.2.2.2 = o5 at HV
  have HB : Shh (Below w.heap.size w (w.alloc (.cells #[.int .u32 (a : Int), .int .u32 (b : Int)] 43)) ∧ Row (w.alloc (.cells #[.int .u32 (a : Int), .int .u32 (b : Int)] 43)) w.heap.size 43 [.int .u32 (a : Int), .int .u32 (b : Int)]) := ⟨Below.alloc (Below.refl _ _) (Nat.le_refl _) _, Row.new_ rfl rfl⟩
  go_enter Try.func16, Try.ntmps16
  go_wp2_with (go_at_call 13; refine (HV.out.1 _).mono ?_)
  unfold OldIs
  rintro e w2 ⟨rfl, b2⟩
  have HB2 : Shh (Below w.heap.size w w2) := ⟨Below.chain HB.out.1 b2⟩
  clear HB b2
  obtain ⟨M, hM⟩ : ∃ M, Shh (M = w2.heap.size) := ⟨_, ⟨rfl⟩⟩
  have FR : Shh (Below w.heap.size w w2) := ⟨HB2.out⟩
  go_wp2_with (refine wpList_store_any rfl 37 (.tmp 3) (.tmp 8) rfl M (by rw [hM.out]; rfl) [.int .u32 l0, .bool l1, .int .i64 l2, .int .i64 l3] rfl 37 [.int .u32 0, .bool false, .int .i64 0, .int .i64 0] ((Row.new_ hM.out rfl).alloc _) info_lms rfl oneCell4 ?_)
  intro Za hr bt _
  have FA : Shh (Row Za M 37 [.int .u32 l0, .bool l1, .int .i64 l2, .int .i64 l3] ∧ Row Za (M + 1) 39 [.int .u32 0, .bool false, .int .i64 0, .int .i64 0, .int .i64 0, .int .i64 0] ∧ Below w.heap.size w Za ∧ M + 2 ≤ Za.heap.size ∧ w.heap.size ≤ M) := by
    have hm := hM.out
    have hz := FR.out.size
    have bz := bt.size
    simp only [asz] at bz
    have a2 : Below w.heap.size w ((w2.alloc (.cells #[.int .u32 0, .bool false, .int .i64 0, .int .i64 0] 37)).alloc (.cells #[.int .u32 0, .bool false, .int .i64 0, .int .i64 0, .int .i64 0, .int .i64 0] 39)) := ((FR.out).alloc (by omega) _).alloc (by rw [asz]; omega) _
    refine ⟨hr, bt.row (Row.new_ (by rw [asz, hm]) rfl) (by first | omega | (simp only [asz]; omega)) (by omega), a2.trans (bt.under (by first | omega | (simp only [asz]; omega)) (by omega)), by omega, by omega⟩
  rw [← hM.out]
  clear hr bt FR hM
  go_wp2_with (refine wpList_store_any rfl 39 (.tmp 4) (.tmp 9) rfl (M + 1) rfl [.int .u32 o0, .bool o1, .int .i64 o2, .int .i64 o3, .int .i64 o4, .int .i64 o5] rfl 39 [.int .u32 0, .bool false, .int .i64 0, .int .i64 0, .int .i64 0, .int .i64 0] FA.out.2.1 info_ots rfl oneCell6 ?_)
  intro Z hr bt _
  have FZ : Shh (Row Z M 37 [.int .u32 l0, .bool l1, .int .i64 l2, .int .i64 l3] ∧ Row Z (M + 1) 39 [.int .u32 o0, .bool o1, .int .i64 o2, .int .i64 o3, .int .i64 o4, .int .i64 o5] ∧ Below w.heap.size w Z ∧ M + 2 ≤ Z.heap.size ∧ w.heap.size ≤ M) := by
    have hz := FA.out.2.2.2.1
    have hw := FA.out.2.2.2.2
    have bz := bt.size
    exact ⟨bt.row FA.out.1 (by omega) (by omega), hr, FA.out.2.2.1.trans (bt.under (by omega) (by omega)), by omega, hw⟩
  clear hr bt FA
  go_wp2_with (first | refine wpList_load_any rfl 37 (.tmp 3) rfl M rfl 37 [.int .u32 l0, .bool l1, .int .i64 l2, .int .i64 l3] _ FZ.out.1 Try.underlying37 rfl info_lms ?_ | refine wpList_load_any rfl 39 (.tmp 4) rfl (M + 1) rfl 39 [.int .u32 o0, .bool o1, .int .i64 o2, .int .i64 o3, .int .i64 o4, .int .i64 o5] _ FZ.out.2.1 Try.underlying39 rfl info_ots ?_ | (go_at_call 28; refine (HV.out.2 _).mono ?_))
  unfold OldIs
  rintro e w3 ⟨rfl, b3⟩
  have F4 : Shh (Below w.heap.size w w3) := ⟨Below.chain FZ.out.2.2.1 b3⟩
  clear FZ b3
  go_wp2
  go_ret
  exact ⟨rfl, F4.out⟩
end Go.Proofs.Ythahnckjmlcehaa
