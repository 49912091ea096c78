/-
  WALK: the document's own Len.
-/
import Derived.Test.YthahnckjmlcehaaHs5
namespace Go.Proofs.Ythahnckjmlcehaa
open Go.RowKit
set_option maxRecDepth 100000
/-- the length of a signature of the first k levels -/
def lenK (l : List (Nat × Nat)) : Nat → Int
  | 0 => 4
  | k + 1 => lenK l k + lnL (l.getD k (0, 0)).1 (l.getD k (0, 0)).2 + (if 0 < k then pbL (l.getD k (0, 0)).1 else 0)
def sigL (l : List (Nat × Nat)) : Int := if mayL l then lenK l l.length else 0
theorem lenK_le (l : List (Nat × Nat)) (k : Nat) : 0 ≤ lenK l k ∧ lenK l k ≤ 4 + 10001000 * (k : Int) := by
  induction k with
  | zero => simp [lenK]
  | succ k ih =>
    have h1 := lnL_le (l.getD k (0, 0)).1 (l.getD k (0, 0)).2
    have h2 := pbL_le (l.getD k (0, 0)).1
    unfold lenK
    split <;> omega
theorem lenK_step (l : List (Nat × Nat)) (k : Nat) (h : k < l.length) : lenK l (k + 1) = lenK l k + lnL l[k].1 l[k].2 + (if 0 < k then pbL l[k].1 else 0) := by
  have e : l.getD k (0, 0) = l[k] := by rw [List.getD_eq_getElem?_getD, List.getElem?_eq_getElem h]; rfl
  show lenK l k + lnL (l.getD k (0, 0)).1 (l.getD k (0, 0)).2 + (if 0 < k then pbL (l.getD k (0, 0)).1 else 0) = _
  rw [e]
theorem mayL_short {l : List (Nat × Nat)} (h : mayL l = true) : 1 ≤ l.length ∧ l.length ≤ 8 := by
  by_cases h1 : 1 ≤ l.length ∧ l.length ≤ 8
  · exact h1
  · rw [mayL_len h1] at h; cases h
theorem mayL_sum {l : List (Nat × Nat)} (h : mayL l = true) : sumH l ≤ 60 := by
  unfold mayL at h
  simp only [Bool.and_eq_true, decide_eq_true_eq] at h
  exact h.2
set_option maxHeartbeats 1000000 in
theorem refLen_any (v : Value) (l : List (Nat × Nat)) (w : World) (hl : Lvs w w.heap.size v l) (ho : LvOk l) : Calls Try.prog 11 #[v] w (OldIs (.int .i64 (sigL l)) w) := by
  unfold OldIs
  obtain ⟨A, c, rfl, hc, hcm⟩ := hl.form
  have HM : Shh (∀ W, Below w.heap.size w W → Calls Try.prog 7 #[.slice A l.length c] W (OldIs (.bool (mayL l)) W)) := ⟨fun W b => refMay_any _ l W (hl.go b) ho⟩
  have HL := Shh.mk hl
  have HO := Shh.mk ho
  clear hl ho
  cases hm : mayL l with
  | false =>
    have HV : Shh (sigL l = 0) := ⟨by unfold sigL; rw [hm]; rfl⟩
    rw [hm] at HM
    clear hm
    go_enter Try.func11, Try.ntmps11
    go_wp2_with (go_at_call 7; refine (HM.out _ (Below.refl _ _)).mono ?_)
    unfold OldIs
    rintro e w2 ⟨rfl, b2⟩
    have HB := Shh.mk b2
    clear b2
    go_wp2
    go_ret
    exact ⟨by rw [HV.out]; rfl, HB.out⟩
  | true =>
    have h8 := (mayL_short hm).2
    obtain ⟨V, hV⟩ : ∃ V, V = sigL l := ⟨_, rfl⟩
    rw [← hV]
    have HV : Shh (V = lenK l l.length) := ⟨by rw [hV]; unfold sigL; rw [hm]; rfl⟩
    rw [hm] at HM
    clear hm hV
    go_enter Try.func11, Try.ntmps11
    go_wp2_with (go_at_call 7; refine (HM.out _ (Below.refl _ _)).mono ?_)
    unfold OldIs
    rintro e w2 ⟨rfl, b2⟩
    have HB := Shh.mk b2
    clear b2 HM
    go_wp2
    go_loopw [3, 13] (fun p i wr => ∃ (k : Nat) (q : Int), k ≤ l.length ∧ 0 ≤ q ∧ q ≤ 4 + 10001000 * (k : Int) ∧ p = .int .i64 q ∧ i = .int .i64 (k : Int) ∧ Shh (q = lenK l k ∧ Below w.heap.size w wr)) (fun _ i _ => l.length - (intOf i).toNat)
    case atStart => exact ⟨0, 4, Nat.zero_le _, by decide, by decide, rfl, rfl, ⟨rfl, HB.out⟩⟩
    case round =>
      clear HB
      obtain ⟨k, q, hk, hq0, hq1, rfl, rfl, HQ⟩ := hrel
      by_cases hlt : k < l.length
      · obtain ⟨g, off, rfl, hg, hcc⟩ := HL.out.at_ (by omega)
        have hcw := hcc k hlt
        clear hcc
        have hln := lnL_le l[k].1 l[k].2
        have hpb := pbL_le l[k].1
        have HX : Shh (lenK l (k + 1) = q + lnL l[k].1 l[k].2 + (if 0 < k then pbL l[k].1 else 0) ∧ l[k].1 < 4294967296) := ⟨by rw [lenK_step l k hlt, HQ.out.1], (HO.out _ (List.getElem_mem hlt)).1⟩
        generalize l[k] = x at hcw HX hln hpb
        obtain ⟨a, b⟩ := x
        simp only at hcw HX hln hpb
        have HB1 : Shh (Below w.heap.size w wr) := ⟨HQ.out.2⟩
        have c0 := (HQ.out.2.cell (p := ⟨g, off + k * 2, none⟩) hg).trans hcw.1
        have c1 := (HQ.out.2.cell (p := ⟨g, off + k * 2 + 1, none⟩) hg).trans hcw.2
        clear hcw HQ
        have HV2 : Shh ((∀ W, Calls Try.prog 13 #[.agg #[.int .u32 (a : Int), .int .u32 (b : Int)]] W (OldIs (.tuple #[lmsV a, otsV b]) W)) ∧ (∀ W, Calls Try.prog 20 #[lmsV a, otsV b] W (OldIs (.int .i64 (lnL a b)) W)) ∧ ∀ W, Calls Try.prog 21 #[lmsV a] W (OldIs (.int .i64 (pbL a)) W)) := ⟨fun W => refSets_any a b HX.out.2 W, fun W => refLmsLen_lv a b HX.out.2 W, fun W => refLmsPub_lv a HX.out.2 W⟩
        generalize lnL a b = ln at HV2 HX hln
        generalize pbL a = pb at HV2 HX hpb
        unfold lmsV otsV at HV2
        generalize lC a = l0 at HV2
        generalize lSh a = l1 at HV2
        generalize lN a = l2 at HV2
        generalize (lH a : Int) = l3 at HV2
        generalize oC b = o0 at HV2
        generalize (oR b).1 = o1 at HV2
        generalize (oR b).2.1 = o2 at HV2
        generalize (oR b).2.2.1 = o3 at HV2
        generalize (oR b).2.2.2.1 = o4 at HV2
        generalize (oR b).2.2.2.2 = o5 at HV2
        go_wp2_with (go_at_call 13; refine (HV2.out.1 _).mono ?_)
        unfold OldIs
        rintro e w2 ⟨rfl, b2⟩
        have HB2 : Shh (Below w.heap.size w w2) := ⟨Below.chain (Below.chain HB1.out (Below.alloc (Below.refl _ _) (Nat.le_refl _) _)) b2⟩
        clear b2 c0 c1 HB1
        obtain ⟨M, hM⟩ : ∃ M, Shh (M = w2.heap.size) := ⟨_, ⟨rfl⟩⟩
        have FR : Shh (Below w.heap.size w w2) := ⟨HB2.out⟩
        go_wp2_with (refine wpList_store_any rfl 37 (.tmp 6) (.tmp 21) rfl M (by rw [hM.out]; rfl) [.int .u32 l0, .bool l1, .int .i64 l2, .int .i64 l3] rfl 37 [.int .u32 0, .bool false, .int .i64 0, .int .i64 0] ((Row.new_ hM.out rfl).alloc _) info_lms rfl oneCell4 ?_)
        intro Za hr bt _
        have FA : Shh (Row Za M 37 [.int .u32 l0, .bool l1, .int .i64 l2, .int .i64 l3] ∧ Row Za (M + 1) 39 [.int .u32 0, .bool false, .int .i64 0, .int .i64 0, .int .i64 0, .int .i64 0] ∧ Below w.heap.size w Za ∧ M + 2 ≤ Za.heap.size ∧ w.heap.size ≤ M) := by
          have hm := hM.out
          have hz := FR.out.size
          have bz := bt.size
          simp only [asz] at bz
          have a2 : Below w.heap.size w ((w2.alloc (.cells #[.int .u32 0, .bool false, .int .i64 0, .int .i64 0] 37)).alloc (.cells #[.int .u32 0, .bool false, .int .i64 0, .int .i64 0, .int .i64 0, .int .i64 0] 39)) := ((FR.out).alloc (by omega) _).alloc (by rw [asz]; omega) _
          refine ⟨hr, bt.row (Row.new_ (by rw [asz, hm]) rfl) (by first | omega | (simp only [asz]; omega)) (by omega), a2.trans (bt.under (by first | omega | (simp only [asz]; omega)) (by omega)), by omega, by omega⟩
        rw [← hM.out]
        clear hr bt FR hM
        go_wp2_with (refine wpList_store_any rfl 39 (.tmp 7) (.tmp 22) rfl (M + 1) rfl [.int .u32 o0, .bool o1, .int .i64 o2, .int .i64 o3, .int .i64 o4, .int .i64 o5] rfl 39 [.int .u32 0, .bool false, .int .i64 0, .int .i64 0, .int .i64 0, .int .i64 0] FA.out.2.1 info_ots rfl oneCell6 ?_)
        intro Z hr bt _
        have FZ : Shh (Row Z M 37 [.int .u32 l0, .bool l1, .int .i64 l2, .int .i64 l3] ∧ Row Z (M + 1) 39 [.int .u32 o0, .bool o1, .int .i64 o2, .int .i64 o3, .int .i64 o4, .int .i64 o5] ∧ Below w.heap.size w Z ∧ M + 2 ≤ Z.heap.size ∧ w.heap.size ≤ M) := by
          have hz := FA.out.2.2.2.1
          have hw := FA.out.2.2.2.2
          have bz := bt.size
          exact ⟨bt.row FA.out.1 (by omega) (by omega), hr, FA.out.2.2.1.trans (bt.under (by omega) (by omega)), by omega, hw⟩
        clear hr bt FA
        go_wp2_with (first | refine wpList_load_any rfl 37 (.tmp 6) rfl M rfl 37 [.int .u32 l0, .bool l1, .int .i64 l2, .int .i64 l3] _ FZ.out.1 Try.underlying37 rfl info_lms ?_ | refine wpList_load_any rfl 39 (.tmp 7) rfl (M + 1) rfl 39 [.int .u32 o0, .bool o1, .int .i64 o2, .int .i64 o3, .int .i64 o4, .int .i64 o5] _ FZ.out.2.1 Try.underlying39 rfl info_ots ?_ | (go_at_call 20; refine (HV2.out.2.1 _).mono ?_))
        unfold OldIs
        rintro e w3 ⟨rfl, b3⟩
        have F3 : Shh (Row w3 M 37 [.int .u32 l0, .bool l1, .int .i64 l2, .int .i64 l3] ∧ Below w.heap.size w w3) := ⟨FZ.out.1.go b3, Below.chain FZ.out.2.2.1 b3⟩
        clear FZ b3
        by_cases h0 : k = 0
        · subst h0
          have HR : Shh (q + ln = lenK l (0 + 1) ∧ Below w.heap.size w w3) := ⟨by rw [HX.out.1]; simp, F3.out.2⟩
          clear F3 HX HV HV2 HL HO
          go_wp2
          go_round
          case rel => exact ⟨0 + 1, q + ln, by omega, by omega, by omega, by go_num, by go_num, HR⟩
          case measure => simp [intOf]; omega
        · have hk0 : (0 : Int) < (k : Int) := by omega
          have HX2 : Shh (q + ln + pb = lenK l (k + 1)) := ⟨by rw [HX.out.1, if_pos (by omega)]⟩
          clear HX
          go_wp2_with (first | refine wpList_load_any rfl 37 (.tmp 6) rfl M rfl 37 [.int .u32 l0, .bool l1, .int .i64 l2, .int .i64 l3] _ F3.out.1 Try.underlying37 rfl info_lms ?_ | (go_at_call 21; refine (HV2.out.2.2 _).mono ?_))
          unfold OldIs
          rintro e w4 ⟨rfl, b4⟩
          have HR : Shh (q + ln + pb = lenK l (k + 1) ∧ Below w.heap.size w w4) := ⟨HX2.out, Below.chain F3.out.2 b4⟩
          clear F3 HX2 HV HV2 HL HO b4
          go_wp2
          go_round
          case rel => exact ⟨k + 1, q + ln + pb, by omega, by omega, by omega, by go_num, by go_num, HR⟩
          case measure => simp [intOf]; omega
      · obtain rfl : k = l.length := by omega
        have HR : Shh (V = q ∧ Below w.heap.size w wr) := ⟨by rw [HV.out, HQ.out.1], HQ.out.2⟩
        clear HQ HV HL HO
        go_wp2
        go_ret
        exact ⟨by rw [HR.out.1]; rfl, HR.out.2⟩
end Go.Proofs.Ythahnckjmlcehaa
