/-
  WALK: LmotsWinternitz at digits of 2 bits.
-/
import Derived.Test.YtcbcgegppnojmaaLm9
import Derived.Test.YtcbcgegppnojmaaLw0
namespace Go.Proofs.Ytcbcgegppnojmaa
open Go.RowKit
set_option maxRecDepth 100000
set_option maxHeartbeats 8000000 in
theorem win_2 (k : Nat) (yc : Int) (ys : Bool) (yn yp yl : Int) (a b : List UInt8) (n : Nat) (Da Db : List Nat)
    (hset : ∀ W, Calls Try.prog 6 #[.int .u32 (k : Int)] W (OldIs (.agg #[.int .u32 yc, .bool ys, .int .i64 yn, .int .i64 2, .int .i64 yp, .int .i64 yl]) W)) (ha : Pack a yc ys yn 2 yp yl 0 Da) (hb : Pack b yc ys yn 2 yp yl 0 Db)
    (hna : Da.length = n) (hnb : Db.length = n) (hlt : ∀ d ∈ Da, d < 4) (hyp : (n : Int) = yp) (hn3 : n ≤ 300) (hl : lessU Da Db n = !(a == b)) (hm : lessU Db Da n = !(a == b)) (B : Nat) (v1 v2 : Value) (w : World) (h1 : Sl w B v1 a) (h2 : Sl w B v2 b) (hB : B ≤ w.heap.size) :
    Calls Try.prog 4 #[.int .u32 (k : Int), v1, v2] w (TrueIs w) := by
  have HN : Shh (Da.length = n ∧ Db.length = n ∧ (∀ d ∈ Da, d < 4) ∧ lessU Da Db n = !(a == b) ∧ lessU Db Da n = !(a == b)) := ⟨hna, hnb, hlt, hl, hm⟩
  have q1 : ((n : Int) != yp) = false := by simp [hyp]
  have HYP := Shh.mk hyp
  clear hna hnb hlt hl hm hyp
  unfold TrueIs
  have HA := Shh.mk ha
  have HB := Shh.mk hb
  have hsl := fun (W : World) (q : Below w.heap.size w W) => (⟨h1.below (q.mono hB), h2.below (q.mono hB), Nat.le_trans hB q.size⟩ : Sl W B v1 a ∧ Sl W B v2 b ∧ B ≤ W.heap.size)
  have HSL := Shh.mk hsl
  obtain ⟨A1, c1, rfl, _, _⟩ := h1.form
  obtain ⟨A2, c2, rfl, _, _⟩ := h2.form
  clear h1 h2 hB hsl ha hb
  go_enter Try.func4, Try.ntmps4
  go_wp2_with (go_at_call 6; refine (hset _).mono ?_)
  unfold OldIs
  rintro e w1 ⟨rfl, b1⟩
  obtain ⟨G, hG⟩ : ∃ G, Shh (G = w1.heap.size) := ⟨_, ⟨rfl⟩⟩
  go_wp2_with (refine wpList_store_any rfl 24 (.tmp 7) (.tmp 17) rfl G (by rw [hG.out]; rfl) [.int .u32 yc, .bool ys, .int .i64 yn, .int .i64 2, .int .i64 yp, .int .i64 yl] rfl 24 _ (Row.new_ hG.out rfl) info_ots rfl oneCell6 ?_)
  intro Z hr bt _
  have bb : Below w1.heap.size w1 Z := (Below.alloc (Below.refl _ _) (Nat.le_refl _) _).trans (bt.under (by have := hG.out; first | omega | (simp only [asz]; omega)) (by have := hG.out; omega))
  have F1 : Shh (Row Z G 24 [.int .u32 yc, .bool ys, .int .i64 yn, .int .i64 2, .int .i64 yp, .int .i64 yl] ∧ Below w.heap.size w Z) := ⟨hr, Below.chain b1 bb⟩
  rw [← hG.out]
  clear hr bt bb b1 hG hset
  go_wp2_with (first | refine wl_loadW 24 (.tmp 7) rfl G rfl 24 [.int .u32 yc, .bool ys, .int .i64 yn, .int .i64 2, .int .i64 yp, .int .i64 yl] _ rfl F1.out.1 Try.underlying24 rfl info_ots ?_ | (go_at_call 7; refine (HA.out.dig B _ _ (HSL.out _ F1.out.2).1 (HSL.out _ F1.out.2).2.2).mono ?_))
  rintro e w3 ⟨v8, rfl, s8, b3⟩
  have F3 : Shh (Row w3 G 24 [.int .u32 yc, .bool ys, .int .i64 yn, .int .i64 2, .int .i64 yp, .int .i64 yl] ∧ Below w.heap.size w w3 ∧ SI w3 w3.heap.size v8 Da) := ⟨F1.out.1.go b3, Below.chain F1.out.2 b3, s8⟩
  obtain ⟨a8, c8, hv8, _, _⟩ := s8.form
  rw [HN.out.1] at hv8
  subst hv8
  clear F1 s8 b3
  go_wp2_with (first | refine wl_loadW 24 (.tmp 7) rfl G rfl 24 [.int .u32 yc, .bool ys, .int .i64 yn, .int .i64 2, .int .i64 yp, .int .i64 yl] _ rfl F3.out.1 Try.underlying24 rfl info_ots ?_ | (go_at_call 7; refine (HB.out.dig B _ _ (HSL.out _ F3.out.2.1).2.1 (HSL.out _ F3.out.2.1).2.2).mono ?_))
  rintro e w4 ⟨v10, rfl, s10, b4⟩
  have F4 : Shh (Row w4 G 24 [.int .u32 yc, .bool ys, .int .i64 yn, .int .i64 2, .int .i64 yp, .int .i64 yl] ∧ Below w.heap.size w w4 ∧ SI w4 w4.heap.size (.slice a8 n c8) Da ∧ SI w4 w4.heap.size v10 Db) := ⟨F3.out.1.go b4, Below.chain F3.out.2.1 b4, F3.out.2.2.go b4, s10⟩
  obtain ⟨a10, c10, hv10, _, _⟩ := s10.form
  rw [HN.out.2.1] at hv10
  subst hv10
  clear F3 s10 b4
  go_wp2_with (go_at_call 5; refine (live_any _).mono ?_)
  unfold TrueIs
  rintro e w5 ⟨rfl, b5⟩
  have F5 : Shh (Row w5 G 24 [.int .u32 yc, .bool ys, .int .i64 yn, .int .i64 2, .int .i64 yp, .int .i64 yl] ∧ Below w.heap.size w w5 ∧ SI w5 w5.heap.size (.slice a8 n c8) Da ∧ SI w5 w5.heap.size (.slice a10 n c10) Db) := ⟨F4.out.1.go b5, Below.chain F4.out.2.1 b5, F4.out.2.2.1.go b5, F4.out.2.2.2.go b5⟩
  clear F4 b5
  have c4 : w5.cell? ⟨G, 4, none⟩ = some (.int .i64 yp) := F5.out.1.cell 4
  go_wp2
  go_loopw [12, 13, 77] (fun l m i wr => ∃ (k : Nat) (r1 r2 : Bool), k ≤ n ∧ i = .int .i64 k ∧ l = .bool r1 ∧ m = .bool r2 ∧ Shh (r1 = lessU Da Db k) ∧ Shh (r2 = lessU Db Da k) ∧ Shh (Below w5.heap.size w5 wr)) (fun _ _ i _ => n - (intOf i).toNat)
  case atStart => exact ⟨0, false, false, Nat.zero_le _, rfl, rfl, rfl, ⟨rfl⟩, ⟨rfl⟩, ⟨Below.refl _ _⟩⟩
  case round =>
    obtain ⟨k, r1, r2, hk, rfl, rfl, rfl, HL, HM, HJ⟩ := hrel
    by_cases hkl : k < n
    · have hka : k < Da.length := by rw [HN.out.1]; exact hkl
      have hkb : k < Db.length := by rw [HN.out.2.1]; exact hkl
      obtain ⟨g1, rfl, _, _, hc1⟩ := (F5.out.2.2.1.go HJ.out).at_ (by omega)
      obtain ⟨g2, rfl, _, _, hc2⟩ := (F5.out.2.2.2.go HJ.out).at_ (by omega)
      have e1 := hc1 k hka
      have e2 := hc2 k hkb
      have e3 : wr.cell? ⟨G, 3, none⟩ = some (.int .i64 2) := (F5.out.1.go HJ.out).cell 3
      obtain ⟨d1, hd1⟩ : ∃ d, d = Da[k] := ⟨_, rfl⟩
      obtain ⟨d2, hd2⟩ : ∃ d, d = Db[k] := ⟨_, rfl⟩
      have hd1l : d1 < 4 := by rw [hd1]; exact HN.out.2.2.1 _ (List.getElem_mem hka)
      have HL2 : Shh (lessU Da Db (k + 1) = (r1 || decide (d1 < d2))) := ⟨by rw [lessU_succ Da Db k hka hkb, HL.out, hd1, hd2]⟩
      have HM2 : Shh (lessU Db Da (k + 1) = (r2 || decide (d2 < d1))) := ⟨by rw [lessU_succ Db Da k hkb hka, HM.out, hd1, hd2]⟩
      rw [← hd1] at e1
      rw [← hd2] at e2
      clear hc1 hc2 hd1 hd2 HL HM hka hkb c4
      go_wp2
      refine wp_region_held_drew (S := fun w' => w'.cell? ⟨g1, k, none⟩ = some (.int .i64 (d1 : Int)) ∧ w'.cell? ⟨g2, k, none⟩ = some (.int .i64 (d2 : Int)) ∧ w'.cell? ⟨G, 3, none⟩ = some (.int .i64 2)) (by kernel_rfl) (⟨e1, e2, e3⟩) (fun hS => ?_)
      clear hS
      generalize hV1 : World.drew _ = V1
      have s1 : V1.cell? ⟨g1, k, none⟩ = some (.int .i64 (d1 : Int)) ∧ V1.cell? ⟨g2, k, none⟩ = some (.int .i64 (d2 : Int)) ∧ V1.cell? ⟨G, 3, none⟩ = some (.int .i64 2) := by rw [← hV1]; exact ⟨e1, e2, e3⟩
      have b1 : Below w5.heap.size w5 V1 := by rw [← hV1]; exact HJ.out.drew
      clear hV1
      refine held_value 0 _ _ (some 80) (.slice (some ⟨g1, 0, none⟩) n c8) (by kernel_rfl) (by rfl) (by kernel_rfl) (fun w hS => by first | kernel_rfl | go_simp) (fun _ _ _ _ h => h) (s1) ?_
      simp only [Act.put, List.setIfInBounds_toArray, List.set_cons_zero, List.set_cons_succ]
      refine held_value 1 _ _ (some 81) (.int .i64 (k : Int)) (by kernel_rfl) (by rfl) (by kernel_rfl) (fun w hS => by first | kernel_rfl | go_simp) (fun _ _ _ _ h => h) (s1) ?_
      simp only [Act.put, List.setIfInBounds_toArray, List.set_cons_zero, List.set_cons_succ]
      refine held_value 2 _ _ (some 82) (.pointer (some ⟨g1, k, none⟩)) (by kernel_rfl) (by rfl) (by kernel_rfl) (fun w hS => by go_simp) (fun _ _ _ _ h => h) (s1) ?_
      simp only [Act.put, List.setIfInBounds_toArray, List.set_cons_zero, List.set_cons_succ]
      refine held_value 3 _ _ (some 83) (.int .i64 (d1 : Int)) (by kernel_rfl) (by rfl) (by kernel_rfl) (fun w hS => by have h2 := hS.1; go_simp) (fun _ _ _ _ h => h) (s1) ?_
      simp only [Act.put, List.setIfInBounds_toArray, List.set_cons_zero, List.set_cons_succ]
      refine held_value 4 _ _ (some 84) (.bool false) (by kernel_rfl) (by rfl) (by kernel_rfl) (fun w hS => by go_simp <;> omega) (fun _ _ _ _ h => h) (s1) ?_
      simp only [Act.put, List.setIfInBounds_toArray, List.set_cons_zero, List.set_cons_succ]
      refine held_value 5 _ _ (some 85) (.bool false) (by kernel_rfl) (by rfl) (by kernel_rfl) (fun w hS => by first | kernel_rfl | go_simp) (fun _ _ _ _ h => h) (s1) ?_
      simp only [Act.put, List.setIfInBounds_toArray, List.set_cons_zero, List.set_cons_succ]
      refine held_value 6 _ _ (some 86) (.slice (some ⟨g1, 0, none⟩) n c8) (by kernel_rfl) (by rfl) (by kernel_rfl) (fun w hS => by first | kernel_rfl | go_simp) (fun _ _ _ _ h => h) (s1) ?_
      simp only [Act.put, List.setIfInBounds_toArray, List.set_cons_zero, List.set_cons_succ]
      refine held_value 7 _ _ (some 87) (.int .i64 (k : Int)) (by kernel_rfl) (by rfl) (by kernel_rfl) (fun w hS => by first | kernel_rfl | go_simp) (fun _ _ _ _ h => h) (s1) ?_
      simp only [Act.put, List.setIfInBounds_toArray, List.set_cons_zero, List.set_cons_succ]
      refine held_value 8 _ _ (some 88) (.pointer (some ⟨g1, k, none⟩)) (by kernel_rfl) (by rfl) (by kernel_rfl) (fun w hS => by go_simp) (fun _ _ _ _ h => h) (s1) ?_
      simp only [Act.put, List.setIfInBounds_toArray, List.set_cons_zero, List.set_cons_succ]
      refine held_value 9 _ _ (some 89) (.int .i64 (d1 : Int)) (by kernel_rfl) (by rfl) (by kernel_rfl) (fun w hS => by have h2 := hS.1; go_simp) (fun _ _ _ _ h => h) (s1) ?_
      simp only [Act.put, List.setIfInBounds_toArray, List.set_cons_zero, List.set_cons_succ]
      refine held_value 10 _ _ (some 90) (.pointer (some ⟨G, 3, none⟩)) (by kernel_rfl) (by rfl) (by kernel_rfl) (fun w hS => by first | kernel_rfl | go_simp) (fun _ _ _ _ h => h) (s1) ?_
      simp only [Act.put, List.setIfInBounds_toArray, List.set_cons_zero, List.set_cons_succ]
      refine held_value 11 _ _ (some 91) (.int .i64 2) (by kernel_rfl) (by rfl) (by kernel_rfl) (fun w hS => by have h2 := hS.2.2; go_simp) (fun _ _ _ _ h => h) (s1) ?_
      simp only [Act.put, List.setIfInBounds_toArray, List.set_cons_zero, List.set_cons_succ]
      refine held_value 12 _ _ (some 92) (.int .u64 2) (by kernel_rfl) (by rfl) (by kernel_rfl) (fun w hS => by go_simp <;> rfl) (fun _ _ _ _ h => h) (s1) ?_
      simp only [Act.put, List.setIfInBounds_toArray, List.set_cons_zero, List.set_cons_succ]
      refine held_value 13 _ _ (some 93) (.int .i64 4) (by kernel_rfl) (by rfl) (by kernel_rfl) (fun w hS => by go_simp <;> rfl) (fun _ _ _ _ h => h) (s1) ?_
      simp only [Act.put, List.setIfInBounds_toArray, List.set_cons_zero, List.set_cons_succ]
      refine held_value 14 _ _ (some 94) (.bool false) (by kernel_rfl) (by rfl) (by kernel_rfl) (fun w hS => by go_simp <;> omega) (fun _ _ _ _ h => h) (s1) ?_
      simp only [Act.put, List.setIfInBounds_toArray, List.set_cons_zero, List.set_cons_succ]
      refine held_value 15 _ _ (some 95) (.bool false) (by kernel_rfl) (by rfl) (by kernel_rfl) (fun w hS => by first | kernel_rfl | go_simp) (fun _ _ _ _ h => h) (s1) ?_
      simp only [Act.put, List.setIfInBounds_toArray, List.set_cons_zero, List.set_cons_succ]
      refine wpAnyH_done (by kernel_rfl) ?_ _
      go_wp2
      cases r1
      · refine wp_region_held_drew (S := fun w' => w'.cell? ⟨g1, k, none⟩ = some (.int .i64 (d1 : Int)) ∧ w'.cell? ⟨g2, k, none⟩ = some (.int .i64 (d2 : Int)) ∧ w'.cell? ⟨G, 3, none⟩ = some (.int .i64 2)) (by kernel_rfl) (s1) (fun hS => ?_)
        clear hS
        generalize hV2 : World.drew _ = V2
        have s2 : V2.cell? ⟨g1, k, none⟩ = some (.int .i64 (d1 : Int)) ∧ V2.cell? ⟨g2, k, none⟩ = some (.int .i64 (d2 : Int)) ∧ V2.cell? ⟨G, 3, none⟩ = some (.int .i64 2) := by rw [← hV2]; exact s1
        have b2 : Below w5.heap.size w5 V2 := by rw [← hV2]; exact b1.drew
        clear hV2
        refine held_value 0 _ _ (some 96) (.bool false) (by kernel_rfl) (by rfl) (by kernel_rfl) (fun w hS => by first | kernel_rfl | go_simp) (fun _ _ _ _ h => h) (s2) ?_
        simp only [Act.put, List.setIfInBounds_toArray, List.set_cons_zero, List.set_cons_succ]
        refine held_value 1 _ _ (some 97) (.bool false) (by kernel_rfl) (by rfl) (by kernel_rfl) (fun w hS => by first | kernel_rfl | go_simp) (fun _ _ _ _ h => h) (s2) ?_
        simp only [Act.put, List.setIfInBounds_toArray, List.set_cons_zero, List.set_cons_succ]
        refine held_value 2 _ _ (some 98) (.slice (some ⟨g1, 0, none⟩) n c8) (by kernel_rfl) (by rfl) (by kernel_rfl) (fun w hS => by first | kernel_rfl | go_simp) (fun _ _ _ _ h => h) (s2) ?_
        simp only [Act.put, List.setIfInBounds_toArray, List.set_cons_zero, List.set_cons_succ]
        refine held_value 3 _ _ (some 99) (.int .i64 (k : Int)) (by kernel_rfl) (by rfl) (by kernel_rfl) (fun w hS => by first | kernel_rfl | go_simp) (fun _ _ _ _ h => h) (s2) ?_
        simp only [Act.put, List.setIfInBounds_toArray, List.set_cons_zero, List.set_cons_succ]
        refine held_value 4 _ _ (some 100) (.pointer (some ⟨g1, k, none⟩)) (by kernel_rfl) (by rfl) (by kernel_rfl) (fun w hS => by go_simp) (fun _ _ _ _ h => h) (s2) ?_
        simp only [Act.put, List.setIfInBounds_toArray, List.set_cons_zero, List.set_cons_succ]
        refine held_value 5 _ _ (some 101) (.int .i64 (d1 : Int)) (by kernel_rfl) (by rfl) (by kernel_rfl) (fun w hS => by have h2 := hS.1; go_simp) (fun _ _ _ _ h => h) (s2) ?_
        simp only [Act.put, List.setIfInBounds_toArray, List.set_cons_zero, List.set_cons_succ]
        refine held_value 6 _ _ (some 102) (.slice (some ⟨g2, 0, none⟩) n c10) (by kernel_rfl) (by rfl) (by kernel_rfl) (fun w hS => by first | kernel_rfl | go_simp) (fun _ _ _ _ h => h) (s2) ?_
        simp only [Act.put, List.setIfInBounds_toArray, List.set_cons_zero, List.set_cons_succ]
        refine held_value 7 _ _ (some 103) (.int .i64 (k : Int)) (by kernel_rfl) (by rfl) (by kernel_rfl) (fun w hS => by first | kernel_rfl | go_simp) (fun _ _ _ _ h => h) (s2) ?_
        simp only [Act.put, List.setIfInBounds_toArray, List.set_cons_zero, List.set_cons_succ]
        refine held_value 8 _ _ (some 104) (.pointer (some ⟨g2, k, none⟩)) (by kernel_rfl) (by rfl) (by kernel_rfl) (fun w hS => by go_simp) (fun _ _ _ _ h => h) (s2) ?_
        simp only [Act.put, List.setIfInBounds_toArray, List.set_cons_zero, List.set_cons_succ]
        refine held_value 9 _ _ (some 105) (.int .i64 (d2 : Int)) (by kernel_rfl) (by rfl) (by kernel_rfl) (fun w hS => by have h2 := hS.2.1; go_simp) (fun _ _ _ _ h => h) (s2) ?_
        simp only [Act.put, List.setIfInBounds_toArray, List.set_cons_zero, List.set_cons_succ]
        refine held_value 10 _ _ (some 106) (.bool (decide ((d1 : Int) < (d2 : Int)))) (by kernel_rfl) (by rfl) (by kernel_rfl) (fun w hS => by go_simp) (fun _ _ _ _ h => h) (s2) ?_
        simp only [Act.put, List.setIfInBounds_toArray, List.set_cons_zero, List.set_cons_succ]
        refine held_value 11 _ _ (some 107) (.bool (decide ((d1 : Int) < (d2 : Int)))) (by kernel_rfl) (by rfl) (by kernel_rfl) (fun w hS => by first | kernel_rfl | go_simp) (fun _ _ _ _ h => h) (s2) ?_
        simp only [Act.put, List.setIfInBounds_toArray, List.set_cons_zero, List.set_cons_succ]
        refine held_value 12 _ _ (some 12) (.bool (decide ((d1 : Int) < (d2 : Int)))) (by kernel_rfl) (by rfl) (by kernel_rfl) (fun w hS => by first | kernel_rfl | go_simp) (fun _ _ _ _ h => h) (s2) ?_
        simp only [Act.put, List.setIfInBounds_toArray, List.set_cons_zero, List.set_cons_succ]
        refine wpAnyH_done (by kernel_rfl) ?_ _
        go_wp2
        cases r2
        · refine wp_region_held_drew (S := fun w' => w'.cell? ⟨g1, k, none⟩ = some (.int .i64 (d1 : Int)) ∧ w'.cell? ⟨g2, k, none⟩ = some (.int .i64 (d2 : Int)) ∧ w'.cell? ⟨G, 3, none⟩ = some (.int .i64 2)) (by kernel_rfl) (s2) (fun hS => ?_)
          clear hS
          generalize hV3 : World.drew _ = V3
          have s3 : V3.cell? ⟨g1, k, none⟩ = some (.int .i64 (d1 : Int)) ∧ V3.cell? ⟨g2, k, none⟩ = some (.int .i64 (d2 : Int)) ∧ V3.cell? ⟨G, 3, none⟩ = some (.int .i64 2) := by rw [← hV3]; exact s2
          have b3 : Below w5.heap.size w5 V3 := by rw [← hV3]; exact b2.drew
          clear hV3
          refine held_value 0 _ _ (some 108) (.bool false) (by kernel_rfl) (by rfl) (by kernel_rfl) (fun w hS => by first | kernel_rfl | go_simp) (fun _ _ _ _ h => h) (s3) ?_
          simp only [Act.put, List.setIfInBounds_toArray, List.set_cons_zero, List.set_cons_succ]
          refine held_value 1 _ _ (some 109) (.bool false) (by kernel_rfl) (by rfl) (by kernel_rfl) (fun w hS => by first | kernel_rfl | go_simp) (fun _ _ _ _ h => h) (s3) ?_
          simp only [Act.put, List.setIfInBounds_toArray, List.set_cons_zero, List.set_cons_succ]
          refine held_value 2 _ _ (some 110) (.slice (some ⟨g1, 0, none⟩) n c8) (by kernel_rfl) (by rfl) (by kernel_rfl) (fun w hS => by first | kernel_rfl | go_simp) (fun _ _ _ _ h => h) (s3) ?_
          simp only [Act.put, List.setIfInBounds_toArray, List.set_cons_zero, List.set_cons_succ]
          refine held_value 3 _ _ (some 111) (.int .i64 (k : Int)) (by kernel_rfl) (by rfl) (by kernel_rfl) (fun w hS => by first | kernel_rfl | go_simp) (fun _ _ _ _ h => h) (s3) ?_
          simp only [Act.put, List.setIfInBounds_toArray, List.set_cons_zero, List.set_cons_succ]
          refine held_value 4 _ _ (some 112) (.pointer (some ⟨g1, k, none⟩)) (by kernel_rfl) (by rfl) (by kernel_rfl) (fun w hS => by go_simp) (fun _ _ _ _ h => h) (s3) ?_
          simp only [Act.put, List.setIfInBounds_toArray, List.set_cons_zero, List.set_cons_succ]
          refine held_value 5 _ _ (some 113) (.int .i64 (d1 : Int)) (by kernel_rfl) (by rfl) (by kernel_rfl) (fun w hS => by have h2 := hS.1; go_simp) (fun _ _ _ _ h => h) (s3) ?_
          simp only [Act.put, List.setIfInBounds_toArray, List.set_cons_zero, List.set_cons_succ]
          refine held_value 6 _ _ (some 114) (.slice (some ⟨g2, 0, none⟩) n c10) (by kernel_rfl) (by rfl) (by kernel_rfl) (fun w hS => by first | kernel_rfl | go_simp) (fun _ _ _ _ h => h) (s3) ?_
          simp only [Act.put, List.setIfInBounds_toArray, List.set_cons_zero, List.set_cons_succ]
          refine held_value 7 _ _ (some 115) (.int .i64 (k : Int)) (by kernel_rfl) (by rfl) (by kernel_rfl) (fun w hS => by first | kernel_rfl | go_simp) (fun _ _ _ _ h => h) (s3) ?_
          simp only [Act.put, List.setIfInBounds_toArray, List.set_cons_zero, List.set_cons_succ]
          refine held_value 8 _ _ (some 116) (.pointer (some ⟨g2, k, none⟩)) (by kernel_rfl) (by rfl) (by kernel_rfl) (fun w hS => by go_simp) (fun _ _ _ _ h => h) (s3) ?_
          simp only [Act.put, List.setIfInBounds_toArray, List.set_cons_zero, List.set_cons_succ]
          refine held_value 9 _ _ (some 117) (.int .i64 (d2 : Int)) (by kernel_rfl) (by rfl) (by kernel_rfl) (fun w hS => by have h2 := hS.2.1; go_simp) (fun _ _ _ _ h => h) (s3) ?_
          simp only [Act.put, List.setIfInBounds_toArray, List.set_cons_zero, List.set_cons_succ]
          refine held_value 10 _ _ (some 118) (.bool (decide ((d2 : Int) < (d1 : Int)))) (by kernel_rfl) (by rfl) (by kernel_rfl) (fun w hS => by go_simp) (fun _ _ _ _ h => h) (s3) ?_
          simp only [Act.put, List.setIfInBounds_toArray, List.set_cons_zero, List.set_cons_succ]
          refine held_value 11 _ _ (some 119) (.bool (decide ((d2 : Int) < (d1 : Int)))) (by kernel_rfl) (by rfl) (by kernel_rfl) (fun w hS => by first | kernel_rfl | go_simp) (fun _ _ _ _ h => h) (s3) ?_
          simp only [Act.put, List.setIfInBounds_toArray, List.set_cons_zero, List.set_cons_succ]
          refine held_value 12 _ _ (some 13) (.bool (decide ((d2 : Int) < (d1 : Int)))) (by kernel_rfl) (by rfl) (by kernel_rfl) (fun w hS => by first | kernel_rfl | go_simp) (fun _ _ _ _ h => h) (s3) ?_
          simp only [Act.put, List.setIfInBounds_toArray, List.set_cons_zero, List.set_cons_succ]
          refine wpAnyH_done (by kernel_rfl) ?_ _
          go_wp2
          go_roundw
          case rel => exact ⟨k + 1, _, _, by omega, by go_num, rfl, rfl, ⟨by rw [HL2.out]; simp⟩, ⟨by rw [HM2.out]; simp⟩, ⟨b3⟩⟩
          case measure => simp [intOf]; omega
        · refine wp_region_held_drew (S := fun w' => w'.cell? ⟨g1, k, none⟩ = some (.int .i64 (d1 : Int)) ∧ w'.cell? ⟨g2, k, none⟩ = some (.int .i64 (d2 : Int)) ∧ w'.cell? ⟨G, 3, none⟩ = some (.int .i64 2)) (by kernel_rfl) (s2) (fun hS => ?_)
          clear hS
          generalize hV3 : World.drew _ = V3
          have s3 : V3.cell? ⟨g1, k, none⟩ = some (.int .i64 (d1 : Int)) ∧ V3.cell? ⟨g2, k, none⟩ = some (.int .i64 (d2 : Int)) ∧ V3.cell? ⟨G, 3, none⟩ = some (.int .i64 2) := by rw [← hV3]; exact s2
          have b3 : Below w5.heap.size w5 V3 := by rw [← hV3]; exact b2.drew
          clear hV3
          refine held_value 0 _ _ (some 108) (.bool true) (by kernel_rfl) (by rfl) (by kernel_rfl) (fun w hS => by first | kernel_rfl | go_simp) (fun _ _ _ _ h => h) (s3) ?_
          simp only [Act.put, List.setIfInBounds_toArray, List.set_cons_zero, List.set_cons_succ]
          refine held_value 1 _ _ (some 109) (.bool true) (by kernel_rfl) (by rfl) (by kernel_rfl) (fun w hS => by first | kernel_rfl | go_simp) (fun _ _ _ _ h => h) (s3) ?_
          simp only [Act.put, List.setIfInBounds_toArray, List.set_cons_zero, List.set_cons_succ]
          refine held_skip 2 (some 110) (by kernel_rfl) (by rfl) (by kernel_rfl) (fun _ _ _ h => h) (s3) ?_
          simp only [Act.put, List.setIfInBounds_toArray, List.set_cons_zero, List.set_cons_succ]
          refine held_skip 3 (some 111) (by kernel_rfl) (by rfl) (by kernel_rfl) (fun _ _ _ h => h) (s3) ?_
          simp only [Act.put, List.setIfInBounds_toArray, List.set_cons_zero, List.set_cons_succ]
          refine held_skip 4 (some 112) (by kernel_rfl) (by rfl) (by kernel_rfl) (fun _ _ _ h => h) (s3) ?_
          simp only [Act.put, List.setIfInBounds_toArray, List.set_cons_zero, List.set_cons_succ]
          refine held_skip 5 (some 113) (by kernel_rfl) (by rfl) (by kernel_rfl) (fun _ _ _ h => h) (s3) ?_
          simp only [Act.put, List.setIfInBounds_toArray, List.set_cons_zero, List.set_cons_succ]
          refine held_skip 6 (some 114) (by kernel_rfl) (by rfl) (by kernel_rfl) (fun _ _ _ h => h) (s3) ?_
          simp only [Act.put, List.setIfInBounds_toArray, List.set_cons_zero, List.set_cons_succ]
          refine held_skip 7 (some 115) (by kernel_rfl) (by rfl) (by kernel_rfl) (fun _ _ _ h => h) (s3) ?_
          simp only [Act.put, List.setIfInBounds_toArray, List.set_cons_zero, List.set_cons_succ]
          refine held_skip 8 (some 116) (by kernel_rfl) (by rfl) (by kernel_rfl) (fun _ _ _ h => h) (s3) ?_
          simp only [Act.put, List.setIfInBounds_toArray, List.set_cons_zero, List.set_cons_succ]
          refine held_skip 9 (some 117) (by kernel_rfl) (by rfl) (by kernel_rfl) (fun _ _ _ h => h) (s3) ?_
          simp only [Act.put, List.setIfInBounds_toArray, List.set_cons_zero, List.set_cons_succ]
          refine held_skip 10 (some 118) (by kernel_rfl) (by rfl) (by kernel_rfl) (fun _ _ _ h => h) (s3) ?_
          simp only [Act.put, List.setIfInBounds_toArray, List.set_cons_zero, List.set_cons_succ]
          refine held_value 11 _ _ (some 119) (.bool true) (by kernel_rfl) (by rfl) (by kernel_rfl) (fun w hS => by first | kernel_rfl | go_simp) (fun _ _ _ _ h => h) (s3) ?_
          simp only [Act.put, List.setIfInBounds_toArray, List.set_cons_zero, List.set_cons_succ]
          refine held_value 12 _ _ (some 13) (.bool true) (by kernel_rfl) (by rfl) (by kernel_rfl) (fun w hS => by first | kernel_rfl | go_simp) (fun _ _ _ _ h => h) (s3) ?_
          simp only [Act.put, List.setIfInBounds_toArray, List.set_cons_zero, List.set_cons_succ]
          refine wpAnyH_done (by kernel_rfl) ?_ _
          go_wp2
          go_roundw
          case rel => exact ⟨k + 1, _, _, by omega, by go_num, rfl, rfl, ⟨by rw [HL2.out]; simp⟩, ⟨by rw [HM2.out]; simp⟩, ⟨b3⟩⟩
          case measure => simp [intOf]; omega
      · refine wp_region_held_drew (S := fun w' => w'.cell? ⟨g1, k, none⟩ = some (.int .i64 (d1 : Int)) ∧ w'.cell? ⟨g2, k, none⟩ = some (.int .i64 (d2 : Int)) ∧ w'.cell? ⟨G, 3, none⟩ = some (.int .i64 2)) (by kernel_rfl) (s1) (fun hS => ?_)
        clear hS
        generalize hV2 : World.drew _ = V2
        have s2 : V2.cell? ⟨g1, k, none⟩ = some (.int .i64 (d1 : Int)) ∧ V2.cell? ⟨g2, k, none⟩ = some (.int .i64 (d2 : Int)) ∧ V2.cell? ⟨G, 3, none⟩ = some (.int .i64 2) := by rw [← hV2]; exact s1
        have b2 : Below w5.heap.size w5 V2 := by rw [← hV2]; exact b1.drew
        clear hV2
        refine held_value 0 _ _ (some 96) (.bool true) (by kernel_rfl) (by rfl) (by kernel_rfl) (fun w hS => by first | kernel_rfl | go_simp) (fun _ _ _ _ h => h) (s2) ?_
        simp only [Act.put, List.setIfInBounds_toArray, List.set_cons_zero, List.set_cons_succ]
        refine held_value 1 _ _ (some 97) (.bool true) (by kernel_rfl) (by rfl) (by kernel_rfl) (fun w hS => by first | kernel_rfl | go_simp) (fun _ _ _ _ h => h) (s2) ?_
        simp only [Act.put, List.setIfInBounds_toArray, List.set_cons_zero, List.set_cons_succ]
        refine held_skip 2 (some 98) (by kernel_rfl) (by rfl) (by kernel_rfl) (fun _ _ _ h => h) (s2) ?_
        simp only [Act.put, List.setIfInBounds_toArray, List.set_cons_zero, List.set_cons_succ]
        refine held_skip 3 (some 99) (by kernel_rfl) (by rfl) (by kernel_rfl) (fun _ _ _ h => h) (s2) ?_
        simp only [Act.put, List.setIfInBounds_toArray, List.set_cons_zero, List.set_cons_succ]
        refine held_skip 4 (some 100) (by kernel_rfl) (by rfl) (by kernel_rfl) (fun _ _ _ h => h) (s2) ?_
        simp only [Act.put, List.setIfInBounds_toArray, List.set_cons_zero, List.set_cons_succ]
        refine held_skip 5 (some 101) (by kernel_rfl) (by rfl) (by kernel_rfl) (fun _ _ _ h => h) (s2) ?_
        simp only [Act.put, List.setIfInBounds_toArray, List.set_cons_zero, List.set_cons_succ]
        refine held_skip 6 (some 102) (by kernel_rfl) (by rfl) (by kernel_rfl) (fun _ _ _ h => h) (s2) ?_
        simp only [Act.put, List.setIfInBounds_toArray, List.set_cons_zero, List.set_cons_succ]
        refine held_skip 7 (some 103) (by kernel_rfl) (by rfl) (by kernel_rfl) (fun _ _ _ h => h) (s2) ?_
        simp only [Act.put, List.setIfInBounds_toArray, List.set_cons_zero, List.set_cons_succ]
        refine held_skip 8 (some 104) (by kernel_rfl) (by rfl) (by kernel_rfl) (fun _ _ _ h => h) (s2) ?_
        simp only [Act.put, List.setIfInBounds_toArray, List.set_cons_zero, List.set_cons_succ]
        refine held_skip 9 (some 105) (by kernel_rfl) (by rfl) (by kernel_rfl) (fun _ _ _ h => h) (s2) ?_
        simp only [Act.put, List.setIfInBounds_toArray, List.set_cons_zero, List.set_cons_succ]
        refine held_skip 10 (some 106) (by kernel_rfl) (by rfl) (by kernel_rfl) (fun _ _ _ h => h) (s2) ?_
        simp only [Act.put, List.setIfInBounds_toArray, List.set_cons_zero, List.set_cons_succ]
        refine held_value 11 _ _ (some 107) (.bool true) (by kernel_rfl) (by rfl) (by kernel_rfl) (fun w hS => by first | kernel_rfl | go_simp) (fun _ _ _ _ h => h) (s2) ?_
        simp only [Act.put, List.setIfInBounds_toArray, List.set_cons_zero, List.set_cons_succ]
        refine held_value 12 _ _ (some 12) (.bool true) (by kernel_rfl) (by rfl) (by kernel_rfl) (fun w hS => by first | kernel_rfl | go_simp) (fun _ _ _ _ h => h) (s2) ?_
        simp only [Act.put, List.setIfInBounds_toArray, List.set_cons_zero, List.set_cons_succ]
        refine wpAnyH_done (by kernel_rfl) ?_ _
        go_wp2
        cases r2
        · refine wp_region_held_drew (S := fun w' => w'.cell? ⟨g1, k, none⟩ = some (.int .i64 (d1 : Int)) ∧ w'.cell? ⟨g2, k, none⟩ = some (.int .i64 (d2 : Int)) ∧ w'.cell? ⟨G, 3, none⟩ = some (.int .i64 2)) (by kernel_rfl) (s2) (fun hS => ?_)
          clear hS
          generalize hV3 : World.drew _ = V3
          have s3 : V3.cell? ⟨g1, k, none⟩ = some (.int .i64 (d1 : Int)) ∧ V3.cell? ⟨g2, k, none⟩ = some (.int .i64 (d2 : Int)) ∧ V3.cell? ⟨G, 3, none⟩ = some (.int .i64 2) := by rw [← hV3]; exact s2
          have b3 : Below w5.heap.size w5 V3 := by rw [← hV3]; exact b2.drew
          clear hV3
          refine held_value 0 _ _ (some 108) (.bool false) (by kernel_rfl) (by rfl) (by kernel_rfl) (fun w hS => by first | kernel_rfl | go_simp) (fun _ _ _ _ h => h) (s3) ?_
          simp only [Act.put, List.setIfInBounds_toArray, List.set_cons_zero, List.set_cons_succ]
          refine held_value 1 _ _ (some 109) (.bool false) (by kernel_rfl) (by rfl) (by kernel_rfl) (fun w hS => by first | kernel_rfl | go_simp) (fun _ _ _ _ h => h) (s3) ?_
          simp only [Act.put, List.setIfInBounds_toArray, List.set_cons_zero, List.set_cons_succ]
          refine held_value 2 _ _ (some 110) (.slice (some ⟨g1, 0, none⟩) n c8) (by kernel_rfl) (by rfl) (by kernel_rfl) (fun w hS => by first | kernel_rfl | go_simp) (fun _ _ _ _ h => h) (s3) ?_
          simp only [Act.put, List.setIfInBounds_toArray, List.set_cons_zero, List.set_cons_succ]
          refine held_value 3 _ _ (some 111) (.int .i64 (k : Int)) (by kernel_rfl) (by rfl) (by kernel_rfl) (fun w hS => by first | kernel_rfl | go_simp) (fun _ _ _ _ h => h) (s3) ?_
          simp only [Act.put, List.setIfInBounds_toArray, List.set_cons_zero, List.set_cons_succ]
          refine held_value 4 _ _ (some 112) (.pointer (some ⟨g1, k, none⟩)) (by kernel_rfl) (by rfl) (by kernel_rfl) (fun w hS => by go_simp) (fun _ _ _ _ h => h) (s3) ?_
          simp only [Act.put, List.setIfInBounds_toArray, List.set_cons_zero, List.set_cons_succ]
          refine held_value 5 _ _ (some 113) (.int .i64 (d1 : Int)) (by kernel_rfl) (by rfl) (by kernel_rfl) (fun w hS => by have h2 := hS.1; go_simp) (fun _ _ _ _ h => h) (s3) ?_
          simp only [Act.put, List.setIfInBounds_toArray, List.set_cons_zero, List.set_cons_succ]
          refine held_value 6 _ _ (some 114) (.slice (some ⟨g2, 0, none⟩) n c10) (by kernel_rfl) (by rfl) (by kernel_rfl) (fun w hS => by first | kernel_rfl | go_simp) (fun _ _ _ _ h => h) (s3) ?_
          simp only [Act.put, List.setIfInBounds_toArray, List.set_cons_zero, List.set_cons_succ]
          refine held_value 7 _ _ (some 115) (.int .i64 (k : Int)) (by kernel_rfl) (by rfl) (by kernel_rfl) (fun w hS => by first | kernel_rfl | go_simp) (fun _ _ _ _ h => h) (s3) ?_
          simp only [Act.put, List.setIfInBounds_toArray, List.set_cons_zero, List.set_cons_succ]
          refine held_value 8 _ _ (some 116) (.pointer (some ⟨g2, k, none⟩)) (by kernel_rfl) (by rfl) (by kernel_rfl) (fun w hS => by go_simp) (fun _ _ _ _ h => h) (s3) ?_
          simp only [Act.put, List.setIfInBounds_toArray, List.set_cons_zero, List.set_cons_succ]
          refine held_value 9 _ _ (some 117) (.int .i64 (d2 : Int)) (by kernel_rfl) (by rfl) (by kernel_rfl) (fun w hS => by have h2 := hS.2.1; go_simp) (fun _ _ _ _ h => h) (s3) ?_
          simp only [Act.put, List.setIfInBounds_toArray, List.set_cons_zero, List.set_cons_succ]
          refine held_value 10 _ _ (some 118) (.bool (decide ((d2 : Int) < (d1 : Int)))) (by kernel_rfl) (by rfl) (by kernel_rfl) (fun w hS => by go_simp) (fun _ _ _ _ h => h) (s3) ?_
          simp only [Act.put, List.setIfInBounds_toArray, List.set_cons_zero, List.set_cons_succ]
          refine held_value 11 _ _ (some 119) (.bool (decide ((d2 : Int) < (d1 : Int)))) (by kernel_rfl) (by rfl) (by kernel_rfl) (fun w hS => by first | kernel_rfl | go_simp) (fun _ _ _ _ h => h) (s3) ?_
          simp only [Act.put, List.setIfInBounds_toArray, List.set_cons_zero, List.set_cons_succ]
          refine held_value 12 _ _ (some 13) (.bool (decide ((d2 : Int) < (d1 : Int)))) (by kernel_rfl) (by rfl) (by kernel_rfl) (fun w hS => by first | kernel_rfl | go_simp) (fun _ _ _ _ h => h) (s3) ?_
          simp only [Act.put, List.setIfInBounds_toArray, List.set_cons_zero, List.set_cons_succ]
          refine wpAnyH_done (by kernel_rfl) ?_ _
          go_wp2
          go_roundw
          case rel => exact ⟨k + 1, _, _, by omega, by go_num, rfl, rfl, ⟨by rw [HL2.out]; simp⟩, ⟨by rw [HM2.out]; simp⟩, ⟨b3⟩⟩
          case measure => simp [intOf]; omega
        · refine wp_region_held_drew (S := fun w' => w'.cell? ⟨g1, k, none⟩ = some (.int .i64 (d1 : Int)) ∧ w'.cell? ⟨g2, k, none⟩ = some (.int .i64 (d2 : Int)) ∧ w'.cell? ⟨G, 3, none⟩ = some (.int .i64 2)) (by kernel_rfl) (s2) (fun hS => ?_)
          clear hS
          generalize hV3 : World.drew _ = V3
          have s3 : V3.cell? ⟨g1, k, none⟩ = some (.int .i64 (d1 : Int)) ∧ V3.cell? ⟨g2, k, none⟩ = some (.int .i64 (d2 : Int)) ∧ V3.cell? ⟨G, 3, none⟩ = some (.int .i64 2) := by rw [← hV3]; exact s2
          have b3 : Below w5.heap.size w5 V3 := by rw [← hV3]; exact b2.drew
          clear hV3
          refine held_value 0 _ _ (some 108) (.bool true) (by kernel_rfl) (by rfl) (by kernel_rfl) (fun w hS => by first | kernel_rfl | go_simp) (fun _ _ _ _ h => h) (s3) ?_
          simp only [Act.put, List.setIfInBounds_toArray, List.set_cons_zero, List.set_cons_succ]
          refine held_value 1 _ _ (some 109) (.bool true) (by kernel_rfl) (by rfl) (by kernel_rfl) (fun w hS => by first | kernel_rfl | go_simp) (fun _ _ _ _ h => h) (s3) ?_
          simp only [Act.put, List.setIfInBounds_toArray, List.set_cons_zero, List.set_cons_succ]
          refine held_skip 2 (some 110) (by kernel_rfl) (by rfl) (by kernel_rfl) (fun _ _ _ h => h) (s3) ?_
          simp only [Act.put, List.setIfInBounds_toArray, List.set_cons_zero, List.set_cons_succ]
          refine held_skip 3 (some 111) (by kernel_rfl) (by rfl) (by kernel_rfl) (fun _ _ _ h => h) (s3) ?_
          simp only [Act.put, List.setIfInBounds_toArray, List.set_cons_zero, List.set_cons_succ]
          refine held_skip 4 (some 112) (by kernel_rfl) (by rfl) (by kernel_rfl) (fun _ _ _ h => h) (s3) ?_
          simp only [Act.put, List.setIfInBounds_toArray, List.set_cons_zero, List.set_cons_succ]
          refine held_skip 5 (some 113) (by kernel_rfl) (by rfl) (by kernel_rfl) (fun _ _ _ h => h) (s3) ?_
          simp only [Act.put, List.setIfInBounds_toArray, List.set_cons_zero, List.set_cons_succ]
          refine held_skip 6 (some 114) (by kernel_rfl) (by rfl) (by kernel_rfl) (fun _ _ _ h => h) (s3) ?_
          simp only [Act.put, List.setIfInBounds_toArray, List.set_cons_zero, List.set_cons_succ]
          refine held_skip 7 (some 115) (by kernel_rfl) (by rfl) (by kernel_rfl) (fun _ _ _ h => h) (s3) ?_
          simp only [Act.put, List.setIfInBounds_toArray, List.set_cons_zero, List.set_cons_succ]
          refine held_skip 8 (some 116) (by kernel_rfl) (by rfl) (by kernel_rfl) (fun _ _ _ h => h) (s3) ?_
          simp only [Act.put, List.setIfInBounds_toArray, List.set_cons_zero, List.set_cons_succ]
          refine held_skip 9 (some 117) (by kernel_rfl) (by rfl) (by kernel_rfl) (fun _ _ _ h => h) (s3) ?_
          simp only [Act.put, List.setIfInBounds_toArray, List.set_cons_zero, List.set_cons_succ]
          refine held_skip 10 (some 118) (by kernel_rfl) (by rfl) (by kernel_rfl) (fun _ _ _ h => h) (s3) ?_
          simp only [Act.put, List.setIfInBounds_toArray, List.set_cons_zero, List.set_cons_succ]
          refine held_value 11 _ _ (some 119) (.bool true) (by kernel_rfl) (by rfl) (by kernel_rfl) (fun w hS => by first | kernel_rfl | go_simp) (fun _ _ _ _ h => h) (s3) ?_
          simp only [Act.put, List.setIfInBounds_toArray, List.set_cons_zero, List.set_cons_succ]
          refine held_value 12 _ _ (some 13) (.bool true) (by kernel_rfl) (by rfl) (by kernel_rfl) (fun w hS => by first | kernel_rfl | go_simp) (fun _ _ _ _ h => h) (s3) ?_
          simp only [Act.put, List.setIfInBounds_toArray, List.set_cons_zero, List.set_cons_succ]
          refine wpAnyH_done (by kernel_rfl) ?_ _
          go_wp2
          go_roundw
          case rel => exact ⟨k + 1, _, _, by omega, by go_num, rfl, rfl, ⟨by rw [HL2.out]; simp⟩, ⟨by rw [HM2.out]; simp⟩, ⟨b3⟩⟩
          case measure => simp [intOf]; omega
    · have hkn : k = n := by omega
      have hr1 : r1 = !(a == b) := by rw [HL.out, hkn]; exact HN.out.2.2.2.1
      have hr2 : r2 = !(a == b) := by rw [HM.out, hkn]; exact HN.out.2.2.2.2
      have HJ2 : Shh (Below w.heap.size w wr) := ⟨Below.chain F5.out.2.1 HJ.out⟩
      subst hr1 hr2
      clear HL HM HJ F5 c4
      go_wp2_with (go_at_call 10; refine (refEqual_any _ _ _ _ _ _ _ (HSL.out _ HJ2.out).1 (HSL.out _ HJ2.out).2.1).mono ?_)
      rintro e w8 ⟨rfl, rfl⟩
      cases (a == b)
      · go_wp2
        go_ret
        exact ⟨rfl, HJ2.out⟩
      · go_wp2
        go_ret
        exact ⟨rfl, HJ2.out⟩
end Go.Proofs.Ytcbcgegppnojmaa
