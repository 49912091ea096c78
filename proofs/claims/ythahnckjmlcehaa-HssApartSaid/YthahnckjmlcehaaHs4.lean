/-
  WALKS: the document's own Count, May, Len.
-/
import Derived.Test.YthahnckjmlcehaaHs3
namespace Go.Proofs.Ythahnckjmlcehaa
open Go.RowKit
set_option maxRecDepth 100000
/-- the sum of the heights -/
def sumH (l : List (Nat × Nat)) : Nat := (l.map fun x => lH x.1).sum
theorem sumH_step (l : List (Nat × Nat)) (k : Nat) (h : k < l.length) : sumH (l.take (k + 1)) = sumH (l.take k) + lH l[k].1 := by
  unfold sumH
  rw [take_snoc l k h, List.map_append, List.sum_append]
  rfl
theorem sumH_le (l : List (Nat × Nat)) (k : Nat) : sumH (l.take k) ≤ sumH l := by
  have e : sumH l = sumH (l.take k) + sumH (l.drop k) := by
    unfold sumH
    rw [← List.sum_append, ← List.map_append, List.take_append_drop]
  omega
theorem refCount_any (v : Value) (l : List (Nat × Nat)) (w : World) (hl : Lvs w w.heap.size v l) (ho : LvOk l) (hs : sumH l ≤ 60) : Calls Try.prog 10 #[v] w (OldIs (.int .u64 ((2 ^ sumH l : Nat) : Int)) w) := by
  unfold OldIs
  obtain ⟨A, c, rfl, hc, hcm⟩ := hl.form
  have HL := Shh.mk hl
  have HO := Shh.mk ho
  have hll : l.length ≤ 9223372036854775807 := by unfold maxLen at hcm; omega
  obtain ⟨P, hP⟩ : ∃ P, P = 2 ^ sumH l := ⟨_, rfl⟩
  rw [← hP]
  have HP : Shh (P = 2 ^ sumH l ∧ sumH l ≤ 60) := ⟨hP, hs⟩
  clear hP hs hl ho
  go_enter Try.func10, Try.ntmps10
  go_wp2
  go_loopw [3, 10] (fun p i wr => ∃ k q : Nat, k ≤ l.length ∧ p = .int .u64 (q : Int) ∧ i = .int .i64 (k : Int) ∧ Shh (q = 2 ^ sumH (l.take k) ∧ Below w.heap.size w wr)) (fun _ i _ => l.length - (intOf i).toNat)
  case atStart => exact ⟨0, 1, Nat.zero_le _, rfl, rfl, ⟨rfl, Below.refl _ _⟩⟩
  case round =>
    obtain ⟨k, q, hk, rfl, rfl, HQ⟩ := hrel
    by_cases hlt : k < l.length
    · obtain ⟨g, off, rfl, hg, hcc⟩ := HL.out.at_ (by omega)
      have hcw := hcc k hlt
      clear hcc
      have HX : Shh (q * 2 ^ lH l[k].1 = 2 ^ sumH (l.take (k + 1)) ∧ l[k].1 < 4294967296 ∧ 2 ^ lH l[k].1 ≤ 33554432 ∧ q * 2 ^ lH l[k].1 ≤ 1152921504606846976 ∧ Below w.heap.size w wr) := by
        have e1 := sumH_step l k hlt
        have e2 := sumH_le l (k + 1)
        have e3 := pow2_le _ _ (lH_le l[k].1)
        have e4 := HP.out.2
        have e5 : q * 2 ^ lH l[k].1 = 2 ^ sumH (l.take (k + 1)) := by rw [HQ.out.1, e1, Nat.pow_add]
        have e6 := pow2_le (sumH (l.take (k + 1))) 60 (by omega)
        refine ⟨e5, (HO.out _ (List.getElem_mem hlt)).1, by simpa using e3, ?_, HQ.out.2⟩
        rw [e5]
        simpa using e6
      generalize l[k] = x at hcw HX
      obtain ⟨a, b⟩ := x
      simp only at hcw HX
      have c0 := (HQ.out.2.cell (p := ⟨g, off + k * 2, none⟩) hg).trans hcw.1
      have c1 := (HQ.out.2.cell (p := ⟨g, off + k * 2 + 1, none⟩) hg).trans hcw.2
      clear hcw HQ
      have HV : Shh ((∀ W, Calls Try.prog 13 #[.agg #[.int .u32 (a : Int), .int .u32 (b : Int)]] W (OldIs (.tuple #[lmsV a, otsV b]) W)) ∧ ∀ W, Calls Try.prog 19 #[lmsV a] W (OldIs (.int .u64 ((2 ^ lH a : Nat) : Int)) W)) := ⟨fun W => refSets_any a b HX.out.2.1 W, fun W => leaves_lv a W⟩
      generalize 2 ^ lH a = pa at HV HX
      unfold lmsV otsV at HV
      generalize lC a = l0 at HV
      generalize lSh a = l1 at HV
      generalize lN a = l2 at HV
      generalize (lH a : Int) = l3 at HV
      generalize oC b = o0 at HV
      generalize (oR b).1 = o1 at HV
      generalize (oR b).2.1 = o2 at HV
      generalize (oR b).2.2.1 = o3 at HV
      generalize (oR b).2.2.2.1 = o4 at HV
      generalize (oR b).2.2.2.2 = o5 at HV
      go_wp2_with (go_at_call 13; refine (HV.out.1 _).mono ?_)
      unfold OldIs
      rintro e w2 ⟨rfl, b2⟩
      have HB2 : Shh (Below w.heap.size w w2) := ⟨Below.chain (Below.chain HX.out.2.2.2.2 (Below.alloc (Below.refl _ _) (Nat.le_refl _) _)) b2⟩
      clear b2 c0 c1
      obtain ⟨M, hM⟩ : ∃ M, Shh (M = w2.heap.size) := ⟨_, ⟨rfl⟩⟩
      have FR : Shh (Below w.heap.size w w2) := ⟨HB2.out⟩
      go_wp2_with (refine wpList_store_any rfl 37 (.tmp 6) (.tmp 17) rfl M (by rw [hM.out]; rfl) [.int .u32 l0, .bool l1, .int .i64 l2, .int .i64 l3] rfl 37 [.int .u32 0, .bool false, .int .i64 0, .int .i64 0] ((Row.new_ hM.out rfl).alloc _) info_lms rfl oneCell4 ?_)
      intro Za hr bt _
      have FA : Shh (Row Za M 37 [.int .u32 l0, .bool l1, .int .i64 l2, .int .i64 l3] ∧ Row Za (M + 1) 39 [.int .u32 0, .bool false, .int .i64 0, .int .i64 0, .int .i64 0, .int .i64 0] ∧ Below w.heap.size w Za ∧ M + 2 ≤ Za.heap.size ∧ w.heap.size ≤ M) := by
        have hm := hM.out
        have hz := FR.out.size
        have bz := bt.size
        simp only [asz] at bz
        have a2 : Below w.heap.size w ((w2.alloc (.cells #[.int .u32 0, .bool false, .int .i64 0, .int .i64 0] 37)).alloc (.cells #[.int .u32 0, .bool false, .int .i64 0, .int .i64 0, .int .i64 0, .int .i64 0] 39)) := ((FR.out).alloc (by omega) _).alloc (by rw [asz]; omega) _
        refine ⟨hr, bt.row (Row.new_ (by rw [asz, hm]) rfl) (by first | omega | (simp only [asz]; omega)) (by omega), a2.trans (bt.under (by first | omega | (simp only [asz]; omega)) (by omega)), by omega, by omega⟩
      rw [← hM.out]
      clear hr bt FR hM
      go_wp2_with (refine wpList_store_any rfl 39 (.tmp 7) (.tmp 18) rfl (M + 1) rfl [.int .u32 o0, .bool o1, .int .i64 o2, .int .i64 o3, .int .i64 o4, .int .i64 o5] rfl 39 [.int .u32 0, .bool false, .int .i64 0, .int .i64 0, .int .i64 0, .int .i64 0] FA.out.2.1 info_ots rfl oneCell6 ?_)
      intro Z hr bt _
      have FZ : Shh (Row Z M 37 [.int .u32 l0, .bool l1, .int .i64 l2, .int .i64 l3] ∧ Row Z (M + 1) 39 [.int .u32 o0, .bool o1, .int .i64 o2, .int .i64 o3, .int .i64 o4, .int .i64 o5] ∧ Below w.heap.size w Z ∧ M + 2 ≤ Z.heap.size ∧ w.heap.size ≤ M) := by
        have hz := FA.out.2.2.2.1
        have hw := FA.out.2.2.2.2
        have bz := bt.size
        exact ⟨bt.row FA.out.1 (by omega) (by omega), hr, FA.out.2.2.1.trans (bt.under (by omega) (by omega)), by omega, hw⟩
      clear hr bt FA
      have hw : IntKind.u64.wrap ((q : Int) * (pa : Int)) = ((q * pa : Nat) : Int) := by
        have := HX.out.2.2.2.1
        rw [← Int.natCast_mul, IntKind.wrap_u64]
        omega
      go_wp2_with (first | refine wpList_load_any rfl 37 (.tmp 6) rfl M rfl 37 [.int .u32 l0, .bool l1, .int .i64 l2, .int .i64 l3] _ FZ.out.1 Try.underlying37 rfl info_lms ?_ | (go_at_call 19; refine (HV.out.2 _).mono ?_))
      unfold OldIs
      rintro e w3 ⟨rfl, b3⟩
      have HR : Shh (q * pa = 2 ^ sumH (l.take (k + 1)) ∧ Below w.heap.size w w3) := ⟨HX.out.1, Below.chain FZ.out.2.2.1 b3⟩
      clear FZ b3 HV HX HP HL HO
      go_wp2
      go_round
      case rel => exact ⟨k + 1, q * pa, by omega, by first | rfl | go_num, by go_num, HR⟩
      case measure => simp [intOf]; omega
    · obtain rfl : k = l.length := by omega
      have HR : Shh (P = q ∧ Below w.heap.size w wr) := ⟨by rw [HP.out.1, HQ.out.1, List.take_length], HQ.out.2⟩
      clear HQ HP HL HO
      go_wp2
      go_ret
      exact ⟨by rw [HR.out.1]; rfl, HR.out.2⟩
end Go.Proofs.Ythahnckjmlcehaa
