/-
  WALKS: hss.May, Count, Len.
-/
import Derived.Test.YthahnckjmlcehaaHp4
namespace Go.Proofs.Ythahnckjmlcehaa
open Go.RowKit
set_option maxRecDepth 100000
theorem May_any (v : Value) (l : List (Nat × Nat)) (ho : LvOk l) (w : World) (hl : Lvs w w.heap.size v l) : Calls Try.prog 8 #[v] w (OldIs (mayE l) w) := by
  unfold OldIs
  have HA := Shh.mk (allSets_any v l w hl ho)
  clear hl ho
  go_enter Try.func8, Try.ntmps8
  go_wp2_with (go_at_call 14; refine (HA.out).mono ?_)
  unfold AllIs
  rintro e w2 h
  rcases h with ⟨hm, rfl, b⟩ | ⟨hm, _, g, rfl, _, b⟩
  · have HB := Shh.mk b
    have HM := Shh.mk hm
    clear b hm HA
    go_wp2
    go_ret
    exact ⟨by unfold mayE; rw [HM.out]; rfl, HB.out⟩
  · have HB := Shh.mk b
    have HM := Shh.mk hm
    clear b hm HA
    go_wp2
    go_ret
    exact ⟨by unfold mayE; rw [HM.out]; rfl, HB.out⟩
theorem Count_any (v : Value) (l : List (Nat × Nat)) (ho : LvOk l) (w : World) (hl : Lvs w w.heap.size v l) : Calls Try.prog 6 #[v] w (OldIs (cntV l) w) := by
  unfold OldIs
  have HA := Shh.mk (allSets_any v l w hl ho)
  clear hl ho
  go_enter Try.func6, Try.ntmps6
  go_wp2_with (go_at_call 14; refine (HA.out).mono ?_)
  unfold AllIs
  rintro e w2 h
  rcases h with ⟨hm, rfl, b⟩ | ⟨hm, h8, g, rfl, hs, b⟩
  · have HB := Shh.mk b
    have HM := Shh.mk hm
    clear b hm HA
    go_wp2
    go_ret2
    exact ⟨by unfold cntV; rw [HM.out]; rfl, HB.out⟩
  · have HB := Shh.mk b
    have HS := Shh.mk hs
    have hsum := mayL_sum hm
    have HM : Shh (cntV l = .tuple #[.int .u64 (IntKind.u64.wrap ((2 : Int) ^ sumH l)), .int .i64 0]) := ⟨by unfold cntV; rw [hm, wrap_pow _ hsum]; rfl⟩
    have HH : Shh (∀ W, StAt W g l → Calls Try.prog 15 #[.slice (some ⟨g, 0, none⟩) l.length l.length] W (OldIs (.int .i64 (sumH l : Int)) W)) := ⟨fun W h => height_any g l h8 W h⟩
    clear b hm HA hs h8
    generalize sumH l = q at HM HH hsum
    go_wp2_with (go_at_call 15; refine (HH.out _ HS.out).mono ?_)
    unfold OldIs
    rintro e w3 ⟨rfl, b3⟩
    have HB3 : Shh (Below w.heap.size w w3) := ⟨Below.chain HB.out b3⟩
    clear b3 HB HS HH
    go_wp2
    go_ret2
    exact ⟨by rw [HM.out]; rfl, HB3.out⟩
set_option maxHeartbeats 1000000 in
theorem Len_any (v : Value) (l : List (Nat × Nat)) (ho : LvOk l) (w : World) (hl : Lvs w w.heap.size v l) : Calls Try.prog 9 #[v] w (OldIs (.int .i64 (sigL l)) w) := by
  unfold OldIs
  have HA := Shh.mk (allSets_any v l w hl ho)
  have HO := Shh.mk ho
  obtain ⟨V, hVV⟩ : ∃ V, V = sigL l := ⟨_, rfl⟩
  rw [← hVV]
  have HVV := Shh.mk hVV
  clear hl ho hVV
  go_enter Try.func9, Try.ntmps9
  go_wp2_with (go_at_call 14; refine (HA.out).mono ?_)
  unfold AllIs
  rintro e w2 h
  rcases h with ⟨hm, rfl, b⟩ | ⟨hm, h8, g, rfl, hs, b⟩
  · have HB := Shh.mk b
    have HV : Shh (V = 0) := ⟨by rw [HVV.out]; unfold sigL; rw [hm]; rfl⟩
    clear b hm HA
    go_wp2
    go_ret
    exact ⟨by rw [HV.out]; rfl, HB.out⟩
  have HV : Shh (V = lenK l l.length) := ⟨by rw [HVV.out]; unfold sigL; rw [hm]; rfl⟩
  have HB := Shh.mk b
  have HS := Shh.mk hs
  clear b hm HA hs HVV
  go_wp2
  go_loopw [5, 17] (fun p i wr => ∃ (k : Nat) (q : Int), k ≤ l.length ∧ 0 ≤ q ∧ q ≤ 4 + 10001000 * (k : Int) ∧ p = .int .i64 q ∧ i = .int .i64 (k : Int) ∧ Shh (q = lenK l k ∧ StAt wr g l ∧ Below w.heap.size w wr)) (fun _ i _ => l.length - (intOf i).toNat)
  case atStart => exact ⟨0, 4, Nat.zero_le _, by decide, by decide, rfl, rfl, ⟨rfl, HS.out, HB.out⟩⟩
  case round =>
    clear HB HS
    obtain ⟨k, q, hk, hq0, hq1, rfl, rfl, HQ⟩ := hrel
    by_cases hlt : k < l.length
    · have hln := lnL_le l[k].1 l[k].2
      have hpb := pbL_le l[k].1
      have HX : Shh (lenK l (k + 1) = q + lnL l[k].1 l[k].2 + (if 0 < k then pbL l[k].1 else 0) ∧ wr.rangeAt g (k * 10) (stC l[k].1 l[k].2) ∧ StAt wr g l ∧ Below w.heap.size w wr) := ⟨by rw [lenK_step l k hlt, HQ.out.1], HQ.out.2.1.at_ k hlt, HQ.out.2.1, HQ.out.2.2⟩
      have ha := (HO.out _ (List.getElem_mem hlt)).1
      generalize l[k] = x at HX hln hpb ha
      obtain ⟨a, b⟩ := x
      simp only at HX hln hpb ha
      clear HQ
      have HV2 : Shh ((∀ W, Calls Try.prog 18 #[lmsV a, otsV b] W (OldIs (.int .i64 (lnL a b)) W)) ∧ ∀ W, Calls Try.prog 17 #[lmsV a] W (OldIs (.int .i64 (pbL a)) W)) := ⟨fun W => lmsLen_lv a b ha W, fun W => lmsPub_lv a ha W⟩
      clear ha
      generalize lnL a b = ln at HV2 HX hln
      generalize pbL a = pb at HV2 HX hpb
      unfold lmsV otsV at HV2
      unfold stC at HX
      generalize lC a = l0 at HX HV2
      generalize lSh a = l1 at HX HV2
      generalize lN a = l2 at HX HV2
      generalize (lH a : Int) = l3 at HX HV2
      generalize oC b = o0 at HX HV2
      generalize (oR b).1 = o1 at HX HV2
      generalize (oR b).2.1 = o2 at HX HV2
      generalize (oR b).2.2.1 = o3 at HX HV2
      generalize (oR b).2.2.2.1 = o4 at HX HV2
      generalize (oR b).2.2.2.2 = o5 at HX HV2
      have FZ : Shh (RAt (wr.alloc (.cells #[.int .u32 l0, .bool l1, .int .i64 l2, .int .i64 l3, .int .u32 o0, .bool o1, .int .i64 o2, .int .i64 o3, .int .i64 o4, .int .i64 o5] 52)) wr.heap.size 0 [.int .u32 l0, .bool l1, .int .i64 l2, .int .i64 l3] ∧ RAt (wr.alloc (.cells #[.int .u32 l0, .bool l1, .int .i64 l2, .int .i64 l3, .int .u32 o0, .bool o1, .int .i64 o2, .int .i64 o3, .int .i64 o4, .int .i64 o5] 52)) wr.heap.size 4 [.int .u32 o0, .bool o1, .int .i64 o2, .int .i64 o3, .int .i64 o4, .int .i64 o5] ∧ StAt (wr.alloc (.cells #[.int .u32 l0, .bool l1, .int .i64 l2, .int .i64 l3, .int .u32 o0, .bool o1, .int .i64 o2, .int .i64 o3, .int .i64 o4, .int .i64 o5] 52)) g l ∧ Below w.heap.size w (wr.alloc (.cells #[.int .u32 l0, .bool l1, .int .i64 l2, .int .i64 l3, .int .u32 o0, .bool o1, .int .i64 o2, .int .i64 o3, .int .i64 o4, .int .i64 o5] 52))) := by
        have hR : Row (wr.alloc (.cells #[.int .u32 l0, .bool l1, .int .i64 l2, .int .i64 l3, .int .u32 o0, .bool o1, .int .i64 o2, .int .i64 o3, .int .i64 o4, .int .i64 o5] 52)) wr.heap.size 52 [.int .u32 l0, .bool l1, .int .i64 l2, .int .i64 l3, .int .u32 o0, .bool o1, .int .i64 o2, .int .i64 o3, .int .i64 o4, .int .i64 o5] := Row.new_ rfl rfl
        exact ⟨⟨hR.lt, hR.mid 0 4⟩, ⟨hR.lt, hR.mid 4 6⟩, HX.out.2.2.1.alloc _, HX.out.2.2.2.alloc (by have := HX.out.2.2.2.size; omega) _⟩
      by_cases h0 : k = 0
      · subst h0
        have HX2 : Shh (q + ln = lenK l (0 + 1)) := ⟨by rw [HX.out.1]; simp⟩
        go_wp2_with (first | refine wpList_load_mid rfl 52 (.tmp 20) rfl g (0 * 10) (by go_num) [.int .u32 l0, .bool l1, .int .i64 l2, .int .i64 l3, .int .u32 o0, .bool o1, .int .i64 o2, .int .i64 o3, .int .i64 o4, .int .i64 o5] _ HX.out.2.1 Try.underlying52 rfl info_st ?_ | refine wpList_load_mid rfl 37 (.tmp 30) rfl wr.heap.size 0 rfl [.int .u32 l0, .bool l1, .int .i64 l2, .int .i64 l3] _ FZ.out.1.at_ Try.underlying37 rfl info_lms ?_ | refine wpList_load_mid rfl 39 (.tmp 32) rfl wr.heap.size 4 rfl [.int .u32 o0, .bool o1, .int .i64 o2, .int .i64 o3, .int .i64 o4, .int .i64 o5] _ FZ.out.2.1.at_ Try.underlying39 rfl info_ots ?_ | (go_at_call 18; refine (HV2.out.1 _).mono ?_))
        unfold OldIs
        rintro e w3 ⟨rfl, b3⟩
        have HR : Shh (q + ln = lenK l (0 + 1) ∧ StAt w3 g l ∧ Below w.heap.size w w3) := ⟨HX2.out, FZ.out.2.2.1.go b3, Below.chain FZ.out.2.2.2 b3⟩
        clear FZ HX HX2 HV HV2 HO b3
        go_wp2
        go_round
        case rel => exact ⟨0 + 1, q + ln, by omega, by omega, by omega, by go_num, by go_num, HR⟩
        case measure => simp [intOf]; omega
      · have hk0 : (0 : Int) < (k : Int) := by omega
        have HX2 : Shh (q + pb + ln = lenK l (k + 1)) := ⟨by rw [HX.out.1, if_pos (by omega)]; omega⟩
        go_wp2_with (first | refine wpList_load_mid rfl 52 (.tmp 20) rfl g (k * 10) (by go_num) [.int .u32 l0, .bool l1, .int .i64 l2, .int .i64 l3, .int .u32 o0, .bool o1, .int .i64 o2, .int .i64 o3, .int .i64 o4, .int .i64 o5] _ HX.out.2.1 Try.underlying52 rfl info_st ?_ | refine wpList_load_mid rfl 37 (.tmp 25) rfl wr.heap.size 0 rfl [.int .u32 l0, .bool l1, .int .i64 l2, .int .i64 l3] _ FZ.out.1.at_ Try.underlying37 rfl info_lms ?_ | (go_at_call 17; refine (HV2.out.2 _).mono ?_))
        unfold OldIs
        rintro e w3 ⟨rfl, b3⟩
        have F3 : Shh (RAt w3 wr.heap.size 0 [.int .u32 l0, .bool l1, .int .i64 l2, .int .i64 l3] ∧ RAt w3 wr.heap.size 4 [.int .u32 o0, .bool o1, .int .i64 o2, .int .i64 o3, .int .i64 o4, .int .i64 o5] ∧ StAt w3 g l ∧ Below w.heap.size w w3) := ⟨FZ.out.1.go b3, FZ.out.2.1.go b3, FZ.out.2.2.1.go b3, Below.chain FZ.out.2.2.2 b3⟩
        clear FZ HX HV HO b3
        go_wp2_with (first | refine wpList_load_mid rfl 37 (.tmp 30) rfl wr.heap.size 0 rfl [.int .u32 l0, .bool l1, .int .i64 l2, .int .i64 l3] _ F3.out.1.at_ Try.underlying37 rfl info_lms ?_ | refine wpList_load_mid rfl 39 (.tmp 32) rfl wr.heap.size 4 rfl [.int .u32 o0, .bool o1, .int .i64 o2, .int .i64 o3, .int .i64 o4, .int .i64 o5] _ F3.out.2.1.at_ Try.underlying39 rfl info_ots ?_ | (go_at_call 18; refine (HV2.out.1 _).mono ?_))
        unfold OldIs
        rintro e w4 ⟨rfl, b4⟩
        have HR : Shh (q + pb + ln = lenK l (k + 1) ∧ StAt w4 g l ∧ Below w.heap.size w w4) := ⟨HX2.out, F3.out.2.2.1.go b4, Below.chain F3.out.2.2.2 b4⟩
        clear F3 HX2 HV2 b4
        go_wp2
        go_round
        case rel => exact ⟨k + 1, q + pb + ln, by omega, by omega, by omega, by go_num, by go_num, HR⟩
        case measure => simp [intOf]; omega
    · obtain rfl : k = l.length := by omega
      have HR : Shh (V = q ∧ Below w.heap.size w wr) := ⟨by rw [HV.out, HQ.out.1], HQ.out.2.2⟩
      clear HQ HV HO
      go_wp2
      go_ret
      exact ⟨by rw [HR.out.1]; rfl, HR.out.2⟩
end Go.Proofs.Ythahnckjmlcehaa
