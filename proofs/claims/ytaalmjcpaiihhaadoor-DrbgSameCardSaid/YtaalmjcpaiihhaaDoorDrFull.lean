/-
  WALK: the law DrbgFull.
-/
import Derived.Test.YtaalmjcpaiihhaaDoorDrLive
namespace Go.Proofs.YtaalmjcpaiihhaaDoor
open Go.RowKit
set_option maxRecDepth 100000
def long5B (b : List UInt8) : Bool := decide ((500 < b.length ∧ b.length ≤ 4096) ∨ 9000 < b.length)
theorem long5_any (B : Nat) (v : Value) (b : List UInt8) (w : World) (hs : Sl w B v b) : Calls Tryd.prog 30 #[v] w (KeepIs (.bool (long5B b)) w) := by
  unfold KeepIs
  obtain ⟨A, c, rfl, _, _⟩ := hs.form
  clear hs
  by_cases h1 : 500 < b.length
  · have h1i : (500 : Int) < (b.length : Int) := by omega
    by_cases h2 : b.length ≤ 4096
    · have h2i : (b.length : Int) ≤ 4096 := by omega
      have HB : Shh (long5B b = true) := ⟨by unfold long5B; simp; omega⟩
      rw [HB.out]
      go_enter Tryd.func30, Tryd.ntmps30
      go_wp2
      go_ret
      exact ⟨rfl, rfl⟩
    · have h2i : ¬ (b.length : Int) ≤ 4096 := by omega
      by_cases h3 : 9000 < b.length
      · have h3i : (9000 : Int) < (b.length : Int) := by omega
        have HB : Shh (long5B b = true) := ⟨by unfold long5B; simp; omega⟩
        rw [HB.out]
        go_enter Tryd.func30, Tryd.ntmps30
        go_wp2
        go_ret
        exact ⟨rfl, rfl⟩
      · have h3i : ¬ (9000 : Int) < (b.length : Int) := by omega
        have HB : Shh (long5B b = false) := ⟨by unfold long5B; simp; omega⟩
        rw [HB.out]
        go_enter Tryd.func30, Tryd.ntmps30
        go_wp2
        go_ret
        exact ⟨rfl, rfl⟩
  · have h3i : ¬ (9000 : Int) < (b.length : Int) := by omega
    have h1i : ¬ (500 : Int) < (b.length : Int) := by omega
    have HB : Shh (long5B b = false) := ⟨by unfold long5B; simp; omega⟩
    rw [HB.out]
    go_enter Tryd.func30, Tryd.ntmps30
    go_wp2
    go_ret
    exact ⟨rfl, rfl⟩
theorem fit_one (en : List UInt8) : (fitE en [[], []] = 0 ↔ 32 ≤ en.length ∧ en.length ≤ 4096) ∧ (fitE en [[]] = fitE en [[], []]) := by
  have e1 : (longB en || [([] : List UInt8), []].any longB) = longB en := by simp [longB]
  have e2 : (longB en || [([] : List UInt8)].any longB) = longB en := by simp [longB]
  unfold fitE
  rw [e1, e2]
  refine ⟨?_, rfl⟩
  unfold longB
  by_cases h : en.length < 32
  · rw [if_pos h]; simp <;> omega
  · rw [if_neg h]
    by_cases h2 : 4096 < en.length
    · simp [h2] <;> omega
    · simp [h2] <;> omega
set_option maxHeartbeats 4000000 in
theorem dr_full_any (v : Value) (en : List UInt8) (again : Bool) (more : Int) (w : World) (hv : Vars w) (he : Sl w w.heap.size v en) : Calls Tryd.prog 10 #[v, .bool again, .int .i64 more] w (TrueIs w) := by
  unfold TrueIs
  obtain ⟨A, c, rfl, _, _⟩ := he.form
  have HC : Shh (Sl w w.heap.size (.slice A en.length c) en ∧ Vars w) := ⟨he, hv⟩
  have hfit := fit_one en
  clear he hv
  by_cases hf : fitE en [[], []] = 0
  · have hlen := hfit.1.1 hf
    have hl1 := hlen.1
    have hl2 := hlen.2
    have HF : Shh (fitE en [[], []] = 0 ∧ fitE en [[]] = 0) := ⟨hf, hfit.2.trans hf⟩
    clear hf hlen hfit
    obtain ⟨n0, hn0⟩ : ∃ n0, n0 = w.heap.size := ⟨_, rfl⟩
    have HN : Shh (n0 = w.heap.size) := ⟨hn0⟩
    clear hn0
    cases again with
    | true =>
      go_enter Tryd.func10, Tryd.ntmps10
      go_wp2_with (go_at_call 32; refine (new_ok _ _ _ en [] [] w HC.out.1 Sl.nil_ Sl.nil_ HC.out.2 HF.out.1).mono ?_)
      rintro e Y ⟨g, rfl, hg, hd, bY⟩
      obtain ⟨s, hs⟩ : ∃ s, s = newL en [] [] := ⟨_, rfl⟩
      rw [← hs] at hd
      have H1 : Shh (DAt Y g s 1 ∧ Vars Y ∧ Below n0 w Y ∧ n0 ≤ g ∧ Sl Y Y.heap.size (.slice A en.length c) en) := ⟨hd, HC.out.2.go bY, by rw [HN.out]; exact bY, by rw [HN.out]; exact hg, HC.out.1.go bY⟩
      have hsl0 : Shh (Sl w w.heap.size (.slice A en.length c) en) := ⟨HC.out.1⟩
      have hgv : Shh (0 < g) := ⟨by have := HC.out.2.pos; omega⟩
      have hgn : Shh (n0 ≤ g) := ⟨by rw [HN.out]; exact hg⟩
      clear HC hg hd bY hs
      go_wp2_with (go_at_call 29; refine (dr_live_any Y H1.out.2.1).mono ?_)
      rintro e Y2 ⟨rfl, b2⟩
      have H2 : Shh (DAt Y2 g s 1 ∧ Vars Y2 ∧ Below n0 w Y2 ∧ n0 ≤ g ∧ Sl Y2 Y2.heap.size (.slice A en.length c) en) := ⟨H1.out.1.go b2, H1.out.2.1.go b2, H1.out.2.2.1.trans (b2.mono (by have := H1.out.2.2.1.size; have := HN.out; omega)), H1.out.2.2.2.1, H1.out.2.2.2.2.go b2⟩
      clear H1 b2
      go_wp2_with (go_at_call 30; refine (long5_any _ _ en Y2 H2.out.2.2.2.2).mono ?_)
      unfold KeepIs
      rintro e w2 ⟨rfl, rfl⟩
      cases hlong : long5B en with
      | true =>
        go_wp2_with (go_at_call 29; refine (dr_live_any Y2 H2.out.2.1).mono ?_)
        rintro e Y3 ⟨rfl, b3⟩
        have F : Shh (Below n0 w Y3) := ⟨H2.out.2.2.1.trans (b3.mono (by have := H2.out.2.2.1.size; have := HN.out; omega))⟩
        have HL : Shh (32 ≤ en.length ∧ en.length ≤ 4096) := ⟨hl1, hl2⟩
        have hl3 : ¬ (en.length : Int) < 32 := by omega
        have hl4 : ¬ (4096 : Int) < (en.length : Int) := by omega
        clear b3 H2 hlong hl1 hl2
        go_wp2
        go_ret
        refine ⟨congrArg (fun b => Ending.returned (Value.bool b)) (show (!decide ((en.length : Int) < 32) && !decide ((4096 : Int) < (en.length : Int))) = true by have := HL.out; simp; omega), by rw [← HN.out]; exact F.out⟩
      | false =>
        clear hlong
        skip
        go_wp2_with (go_at_call 37; refine (reseed_ok g 1 _ _ en [] s Y2 H2.out.1 H2.out.2.2.2.2 Sl.nil_ H2.out.2.1 (by omega) HF.out.2).mono ?_)
        rintro e Y3 ⟨rfl, hd3, b3⟩
        obtain ⟨s3, hs3⟩ : ∃ s3, s3 = updL (en ++ []) s := ⟨_, rfl⟩
        rw [← hs3] at hd3
        have H3 : Shh (DAt Y3 g s3 1 ∧ Vars Y3 ∧ Below n0 w Y3 ∧ n0 ≤ g ∧ Sl Y3 Y3.heap.size (.slice A en.length c) en) := ⟨hd3, H2.out.2.1.but b3 (by have := H2.out.2.1.pos; have := hgv.out; omega), H2.out.2.2.1.trans (b3.under (by have := H2.out.2.2.1.size; have := HN.out; omega) H2.out.2.2.2.1), H2.out.2.2.2.1, (((hsl0.out.below (by rw [← HN.out]; exact H2.out.2.2.1.trans (b3.under (by have := H2.out.2.2.1.size; have := HN.out; omega) H2.out.2.2.2.1)))).more (by have := H2.out.2.2.1.size; have := b3.size; omega))⟩
        clear H2 hs3 hd3 b3
        go_wp2_with (go_at_call 38; refine (dr_count_any g 1 s3 Y3 H3.out.1 (by omega)).mono ?_)
        unfold KeepIs
        rintro e w2 ⟨rfl, rfl⟩
        go_wp2
        go_loopw [9, 10, 11, 62] (fun _ _ _ i wr => ∃ k : Nat, k ≤ 1024 ∧ i = .int .i64 k ∧ Shh (∃ s, DAt wr g s (k + 1) ∧ Vars wr ∧ Below n0 w wr)) (fun _ _ _ i _ => 1024 - (intOf i).toNat)
        case atStart => exact ⟨0, by omega, rfl, ⟨_, H3.out.1, H3.out.2.1, H3.out.2.2.1⟩⟩
        case round =>
          obtain ⟨k, hk, rfl, HR⟩ := hrel
          obtain ⟨st, hst⟩ := HR.out
          have HS : Shh (DAt wr g st (k + 1) ∧ Vars wr ∧ Below n0 w wr) := ⟨hst⟩
          clear hst HR
          by_cases hlt : k < 1024
          · go_wp2_with (go_at_call 35; refine (draw_ok g (k + 1) 0 _ [] st wr HS.out.1 Sl.nil_ HS.out.2.1 (by omega) (by omega) (by omega) (by decide)).mono ?_)
            rintro e Z ⟨vz, rfl, ho, hd, bZ⟩
            obtain ⟨Az, cz, rfl⟩ := own_tup ho (drawB_length _ (drS1_length _ _ HS.out.1.len) 0)
            have HZ : Shh (DAt Z g (drS2 [] st 0) (k + 1 + 1) ∧ Vars Z ∧ Below n0 w Z) := ⟨hd, HS.out.2.1.but bZ (by have := HS.out.2.1.pos; have := hgv.out; omega), HS.out.2.2.trans (bZ.under (by have := HS.out.2.2.size; have := HN.out; omega) hgn.out)⟩
            clear ho hd bZ HS
            go_wp2_with (go_at_call 39; refine (dr_left_any g (k + 1 + 1) _ Z HZ.out.1 (by omega) (by omega)).mono ?_)
            unfold KeepIs
            rintro e w2 ⟨rfl, rfl⟩
            have hq : ((1025 - ((k + 1 + 1 : Nat) : Int)) != (1023 - (k : Int))) = false := by rw [bne_eq_false_iff_eq]; omega
            go_wp2
            go_roundw
            case rel => exact ⟨k + 1, by omega, by go_num, ⟨_, HZ.out⟩⟩
            case measure => simp [intOf]; omega
          · obtain rfl : k = 1024 := by omega
            have HE : Shh (drawE 7 [] (1024 + 1) = 51) := ⟨by decide⟩
            go_wp2_with (go_at_call 35; refine (draw_bad g (1024 + 1) 7 _ [] st wr HS.out.1 Sl.nil_ (by omega) (by rw [HE.out]; decide)).mono ?_)
            unfold KeepIs drNil
            rintro e w2 ⟨rfl, rfl⟩
            rw [HE.out]
            clear HE
            obtain ⟨X, hX⟩ : ∃ X, X = wr.alloc (.cells #[.int .u8 1] 5) := ⟨_, rfl⟩
            have bX : Below wr.heap.size wr X := by rw [hX]; exact below1 _ _
            have hrX : Row X wr.heap.size 5 (Lib.byteCells [1]) := by rw [hX]; exact Row.new_ rfl rfl
            have HX : Shh (DAt X g st (1024 + 1) ∧ Vars X ∧ Below n0 w X ∧ Sl X X.heap.size (.slice (some ⟨wr.heap.size, 0, none⟩) 1 1) [1]) := ⟨HS.out.1.go bX, HS.out.2.1.go bX, HS.out.2.2.trans (bX.mono (by have := HS.out.2.2.size; have := HN.out; omega)), hrX.sl rfl (by omega)⟩
            rw [hX] at HX
            clear HS bX hrX
            by_cases hm0 : more < 0
            · skip
              have HE : Shh (drawE more [1] (1024 + 1) = 1) := ⟨by unfold drawE; rw [if_pos hm0]⟩
              go_wp2_with (go_at_call 35; refine (draw_bad g (1024 + 1) more _ [1] st _ HX.out.1 HX.out.2.2.2 (by omega) (by rw [HE.out]; decide)).mono ?_)
              unfold KeepIs drNil
              rintro e w2 ⟨rfl, rfl⟩
              rw [HE.out]
              clear HE
              rw [← hX] at HX ⊢
              have HY : Shh (Sl X X.heap.size (.slice A en.length c) en ∧ DAt X g st (1024 + 1) ∧ Vars X ∧ Below n0 w X) := ⟨(hsl0.out.below (by rw [← HN.out]; exact HX.out.2.2.1)).more HX.out.2.2.1.size, HX.out.1, HX.out.2.1, HX.out.2.2.1⟩
              clear hX HX
              go_wp2_with (go_at_call 38; refine (dr_count_any g (1024 + 1) st X HY.out.2.1 (by omega)).mono ?_)
              unfold KeepIs
              rintro e w2 ⟨rfl, rfl⟩
              go_wp2_with (go_at_call 39; refine (dr_left_any g (1024 + 1) st X HY.out.2.1 (by omega) (by omega)).mono ?_)
              unfold KeepIs
              rintro e w2 ⟨rfl, rfl⟩
              go_wp2_with (go_at_call 37; refine (reseed_ok g (1024 + 1) _ _ en [] st X HY.out.2.1 HY.out.1 Sl.nil_ HY.out.2.2.1 (by omega) HF.out.2).mono ?_)
              rintro e V ⟨rfl, hdV, bV⟩
              have HV : Shh (DAt V g (updL (en ++ []) st) 1 ∧ Below n0 w V) := ⟨hdV, HY.out.2.2.2.trans (bV.under (by have := HY.out.2.2.2.size; have := HN.out; omega) hgn.out)⟩
              clear hdV bV HY
              go_wp2_with (go_at_call 39; refine (dr_left_any g 1 _ V HV.out.1 (by omega) (by omega)).mono ?_)
              unfold KeepIs
              rintro e w2 ⟨rfl, rfl⟩
              go_wp2
              go_ret
              exact ⟨rfl, by rw [← HN.out]; exact HV.out.2⟩
            · skip
              by_cases hm1 : 65536 < more
              · skip
                have HE : Shh (drawE more [1] (1024 + 1) = 3) := ⟨by unfold drawE; rw [if_neg hm0, if_pos hm1]⟩
                go_wp2_with (go_at_call 35; refine (draw_bad g (1024 + 1) more _ [1] st _ HX.out.1 HX.out.2.2.2 (by omega) (by rw [HE.out]; decide)).mono ?_)
                unfold KeepIs drNil
                rintro e w2 ⟨rfl, rfl⟩
                rw [HE.out]
                clear HE
                rw [← hX] at HX ⊢
                have HY : Shh (Sl X X.heap.size (.slice A en.length c) en ∧ DAt X g st (1024 + 1) ∧ Vars X ∧ Below n0 w X) := ⟨(hsl0.out.below (by rw [← HN.out]; exact HX.out.2.2.1)).more HX.out.2.2.1.size, HX.out.1, HX.out.2.1, HX.out.2.2.1⟩
                clear hX HX
                go_wp2_with (go_at_call 38; refine (dr_count_any g (1024 + 1) st X HY.out.2.1 (by omega)).mono ?_)
                unfold KeepIs
                rintro e w2 ⟨rfl, rfl⟩
                go_wp2_with (go_at_call 39; refine (dr_left_any g (1024 + 1) st X HY.out.2.1 (by omega) (by omega)).mono ?_)
                unfold KeepIs
                rintro e w2 ⟨rfl, rfl⟩
                go_wp2_with (go_at_call 37; refine (reseed_ok g (1024 + 1) _ _ en [] st X HY.out.2.1 HY.out.1 Sl.nil_ HY.out.2.2.1 (by omega) HF.out.2).mono ?_)
                rintro e V ⟨rfl, hdV, bV⟩
                have HV : Shh (DAt V g (updL (en ++ []) st) 1 ∧ Below n0 w V) := ⟨hdV, HY.out.2.2.2.trans (bV.under (by have := HY.out.2.2.2.size; have := HN.out; omega) hgn.out)⟩
                clear hdV bV HY
                go_wp2_with (go_at_call 39; refine (dr_left_any g 1 _ V HV.out.1 (by omega) (by omega)).mono ?_)
                unfold KeepIs
                rintro e w2 ⟨rfl, rfl⟩
                go_wp2
                go_ret
                exact ⟨rfl, by rw [← HN.out]; exact HV.out.2⟩
              · skip
                have HE : Shh (drawE more [1] (1024 + 1) = 51) := ⟨by unfold drawE; rw [if_neg hm0, if_neg hm1]; rfl⟩
                go_wp2_with (go_at_call 35; refine (draw_bad g (1024 + 1) more _ [1] st _ HX.out.1 HX.out.2.2.2 (by omega) (by rw [HE.out]; decide)).mono ?_)
                unfold KeepIs drNil
                rintro e w2 ⟨rfl, rfl⟩
                rw [HE.out]
                clear HE
                rw [← hX] at HX ⊢
                have HY : Shh (Sl X X.heap.size (.slice A en.length c) en ∧ DAt X g st (1024 + 1) ∧ Vars X ∧ Below n0 w X) := ⟨(hsl0.out.below (by rw [← HN.out]; exact HX.out.2.2.1)).more HX.out.2.2.1.size, HX.out.1, HX.out.2.1, HX.out.2.2.1⟩
                clear hX HX
                go_wp2_with (go_at_call 38; refine (dr_count_any g (1024 + 1) st X HY.out.2.1 (by omega)).mono ?_)
                unfold KeepIs
                rintro e w2 ⟨rfl, rfl⟩
                go_wp2_with (go_at_call 39; refine (dr_left_any g (1024 + 1) st X HY.out.2.1 (by omega) (by omega)).mono ?_)
                unfold KeepIs
                rintro e w2 ⟨rfl, rfl⟩
                go_wp2_with (go_at_call 37; refine (reseed_ok g (1024 + 1) _ _ en [] st X HY.out.2.1 HY.out.1 Sl.nil_ HY.out.2.2.1 (by omega) HF.out.2).mono ?_)
                rintro e V ⟨rfl, hdV, bV⟩
                have HV : Shh (DAt V g (updL (en ++ []) st) 1 ∧ Below n0 w V) := ⟨hdV, HY.out.2.2.2.trans (bV.under (by have := HY.out.2.2.2.size; have := HN.out; omega) hgn.out)⟩
                clear hdV bV HY
                go_wp2_with (go_at_call 39; refine (dr_left_any g 1 _ V HV.out.1 (by omega) (by omega)).mono ?_)
                unfold KeepIs
                rintro e w2 ⟨rfl, rfl⟩
                go_wp2
                go_ret
                exact ⟨rfl, by rw [← HN.out]; exact HV.out.2⟩
    | false =>
      go_enter Tryd.func10, Tryd.ntmps10
      go_wp2_with (go_at_call 32; refine (new_ok _ _ _ en [] [] w HC.out.1 Sl.nil_ Sl.nil_ HC.out.2 HF.out.1).mono ?_)
      rintro e Y ⟨g, rfl, hg, hd, bY⟩
      obtain ⟨s, hs⟩ : ∃ s, s = newL en [] [] := ⟨_, rfl⟩
      rw [← hs] at hd
      have H1 : Shh (DAt Y g s 1 ∧ Vars Y ∧ Below n0 w Y ∧ n0 ≤ g ∧ Sl Y Y.heap.size (.slice A en.length c) en) := ⟨hd, HC.out.2.go bY, by rw [HN.out]; exact bY, by rw [HN.out]; exact hg, HC.out.1.go bY⟩
      have hsl0 : Shh (Sl w w.heap.size (.slice A en.length c) en) := ⟨HC.out.1⟩
      have hgv : Shh (0 < g) := ⟨by have := HC.out.2.pos; omega⟩
      have hgn : Shh (n0 ≤ g) := ⟨by rw [HN.out]; exact hg⟩
      clear HC hg hd bY hs
      go_wp2_with (go_at_call 29; refine (dr_live_any Y H1.out.2.1).mono ?_)
      rintro e Y2 ⟨rfl, b2⟩
      have H2 : Shh (DAt Y2 g s 1 ∧ Vars Y2 ∧ Below n0 w Y2 ∧ n0 ≤ g ∧ Sl Y2 Y2.heap.size (.slice A en.length c) en) := ⟨H1.out.1.go b2, H1.out.2.1.go b2, H1.out.2.2.1.trans (b2.mono (by have := H1.out.2.2.1.size; have := HN.out; omega)), H1.out.2.2.2.1, H1.out.2.2.2.2.go b2⟩
      clear H1 b2
      go_wp2_with (go_at_call 30; refine (long5_any _ _ en Y2 H2.out.2.2.2.2).mono ?_)
      unfold KeepIs
      rintro e w2 ⟨rfl, rfl⟩
      cases hlong : long5B en with
      | true =>
        go_wp2_with (go_at_call 29; refine (dr_live_any Y2 H2.out.2.1).mono ?_)
        rintro e Y3 ⟨rfl, b3⟩
        have F : Shh (Below n0 w Y3) := ⟨H2.out.2.2.1.trans (b3.mono (by have := H2.out.2.2.1.size; have := HN.out; omega))⟩
        have HL : Shh (32 ≤ en.length ∧ en.length ≤ 4096) := ⟨hl1, hl2⟩
        have hl3 : ¬ (en.length : Int) < 32 := by omega
        have hl4 : ¬ (4096 : Int) < (en.length : Int) := by omega
        clear b3 H2 hlong hl1 hl2
        go_wp2
        go_ret
        refine ⟨congrArg (fun b => Ending.returned (Value.bool b)) (show (!decide ((en.length : Int) < 32) && !decide ((4096 : Int) < (en.length : Int))) = true by have := HL.out; simp; omega), by rw [← HN.out]; exact F.out⟩
      | false =>
        clear hlong
        skip
        go_wp2
        go_loopw [9, 10, 11, 62] (fun _ _ _ i wr => ∃ k : Nat, k ≤ 1024 ∧ i = .int .i64 k ∧ Shh (∃ s, DAt wr g s (k + 1) ∧ Vars wr ∧ Below n0 w wr)) (fun _ _ _ i _ => 1024 - (intOf i).toNat)
        case atStart => exact ⟨0, by omega, rfl, ⟨_, H2.out.1, H2.out.2.1, H2.out.2.2.1⟩⟩
        case round =>
          obtain ⟨k, hk, rfl, HR⟩ := hrel
          obtain ⟨st, hst⟩ := HR.out
          have HS : Shh (DAt wr g st (k + 1) ∧ Vars wr ∧ Below n0 w wr) := ⟨hst⟩
          clear hst HR
          by_cases hlt : k < 1024
          · go_wp2_with (go_at_call 35; refine (draw_ok g (k + 1) 0 _ [] st wr HS.out.1 Sl.nil_ HS.out.2.1 (by omega) (by omega) (by omega) (by decide)).mono ?_)
            rintro e Z ⟨vz, rfl, ho, hd, bZ⟩
            obtain ⟨Az, cz, rfl⟩ := own_tup ho (drawB_length _ (drS1_length _ _ HS.out.1.len) 0)
            have HZ : Shh (DAt Z g (drS2 [] st 0) (k + 1 + 1) ∧ Vars Z ∧ Below n0 w Z) := ⟨hd, HS.out.2.1.but bZ (by have := HS.out.2.1.pos; have := hgv.out; omega), HS.out.2.2.trans (bZ.under (by have := HS.out.2.2.size; have := HN.out; omega) hgn.out)⟩
            clear ho hd bZ HS
            go_wp2_with (go_at_call 39; refine (dr_left_any g (k + 1 + 1) _ Z HZ.out.1 (by omega) (by omega)).mono ?_)
            unfold KeepIs
            rintro e w2 ⟨rfl, rfl⟩
            have hq : ((1025 - ((k + 1 + 1 : Nat) : Int)) != (1023 - (k : Int))) = false := by rw [bne_eq_false_iff_eq]; omega
            go_wp2
            go_roundw
            case rel => exact ⟨k + 1, by omega, by go_num, ⟨_, HZ.out⟩⟩
            case measure => simp [intOf]; omega
          · obtain rfl : k = 1024 := by omega
            have HE : Shh (drawE 7 [] (1024 + 1) = 51) := ⟨by decide⟩
            go_wp2_with (go_at_call 35; refine (draw_bad g (1024 + 1) 7 _ [] st wr HS.out.1 Sl.nil_ (by omega) (by rw [HE.out]; decide)).mono ?_)
            unfold KeepIs drNil
            rintro e w2 ⟨rfl, rfl⟩
            rw [HE.out]
            clear HE
            obtain ⟨X, hX⟩ : ∃ X, X = wr.alloc (.cells #[.int .u8 1] 5) := ⟨_, rfl⟩
            have bX : Below wr.heap.size wr X := by rw [hX]; exact below1 _ _
            have hrX : Row X wr.heap.size 5 (Lib.byteCells [1]) := by rw [hX]; exact Row.new_ rfl rfl
            have HX : Shh (DAt X g st (1024 + 1) ∧ Vars X ∧ Below n0 w X ∧ Sl X X.heap.size (.slice (some ⟨wr.heap.size, 0, none⟩) 1 1) [1]) := ⟨HS.out.1.go bX, HS.out.2.1.go bX, HS.out.2.2.trans (bX.mono (by have := HS.out.2.2.size; have := HN.out; omega)), hrX.sl rfl (by omega)⟩
            rw [hX] at HX
            clear HS bX hrX
            by_cases hm0 : more < 0
            · skip
              have HE : Shh (drawE more [1] (1024 + 1) = 1) := ⟨by unfold drawE; rw [if_pos hm0]⟩
              go_wp2_with (go_at_call 35; refine (draw_bad g (1024 + 1) more _ [1] st _ HX.out.1 HX.out.2.2.2 (by omega) (by rw [HE.out]; decide)).mono ?_)
              unfold KeepIs drNil
              rintro e w2 ⟨rfl, rfl⟩
              rw [HE.out]
              clear HE
              rw [← hX] at HX ⊢
              have HY : Shh (Sl X X.heap.size (.slice A en.length c) en ∧ DAt X g st (1024 + 1) ∧ Vars X ∧ Below n0 w X) := ⟨(hsl0.out.below (by rw [← HN.out]; exact HX.out.2.2.1)).more HX.out.2.2.1.size, HX.out.1, HX.out.2.1, HX.out.2.2.1⟩
              clear hX HX
              go_wp2_with (go_at_call 38; refine (dr_count_any g (1024 + 1) st X HY.out.2.1 (by omega)).mono ?_)
              unfold KeepIs
              rintro e w2 ⟨rfl, rfl⟩
              go_wp2_with (go_at_call 39; refine (dr_left_any g (1024 + 1) st X HY.out.2.1 (by omega) (by omega)).mono ?_)
              unfold KeepIs
              rintro e w2 ⟨rfl, rfl⟩
              go_wp2_with (go_at_call 37; refine (reseed_ok g (1024 + 1) _ _ en [] st X HY.out.2.1 HY.out.1 Sl.nil_ HY.out.2.2.1 (by omega) HF.out.2).mono ?_)
              rintro e V ⟨rfl, hdV, bV⟩
              have HV : Shh (DAt V g (updL (en ++ []) st) 1 ∧ Below n0 w V) := ⟨hdV, HY.out.2.2.2.trans (bV.under (by have := HY.out.2.2.2.size; have := HN.out; omega) hgn.out)⟩
              clear hdV bV HY
              go_wp2_with (go_at_call 39; refine (dr_left_any g 1 _ V HV.out.1 (by omega) (by omega)).mono ?_)
              unfold KeepIs
              rintro e w2 ⟨rfl, rfl⟩
              go_wp2
              go_ret
              exact ⟨rfl, by rw [← HN.out]; exact HV.out.2⟩
            · skip
              by_cases hm1 : 65536 < more
              · skip
                have HE : Shh (drawE more [1] (1024 + 1) = 3) := ⟨by unfold drawE; rw [if_neg hm0, if_pos hm1]⟩
                go_wp2_with (go_at_call 35; refine (draw_bad g (1024 + 1) more _ [1] st _ HX.out.1 HX.out.2.2.2 (by omega) (by rw [HE.out]; decide)).mono ?_)
                unfold KeepIs drNil
                rintro e w2 ⟨rfl, rfl⟩
                rw [HE.out]
                clear HE
                rw [← hX] at HX ⊢
                have HY : Shh (Sl X X.heap.size (.slice A en.length c) en ∧ DAt X g st (1024 + 1) ∧ Vars X ∧ Below n0 w X) := ⟨(hsl0.out.below (by rw [← HN.out]; exact HX.out.2.2.1)).more HX.out.2.2.1.size, HX.out.1, HX.out.2.1, HX.out.2.2.1⟩
                clear hX HX
                go_wp2_with (go_at_call 38; refine (dr_count_any g (1024 + 1) st X HY.out.2.1 (by omega)).mono ?_)
                unfold KeepIs
                rintro e w2 ⟨rfl, rfl⟩
                go_wp2_with (go_at_call 39; refine (dr_left_any g (1024 + 1) st X HY.out.2.1 (by omega) (by omega)).mono ?_)
                unfold KeepIs
                rintro e w2 ⟨rfl, rfl⟩
                go_wp2_with (go_at_call 37; refine (reseed_ok g (1024 + 1) _ _ en [] st X HY.out.2.1 HY.out.1 Sl.nil_ HY.out.2.2.1 (by omega) HF.out.2).mono ?_)
                rintro e V ⟨rfl, hdV, bV⟩
                have HV : Shh (DAt V g (updL (en ++ []) st) 1 ∧ Below n0 w V) := ⟨hdV, HY.out.2.2.2.trans (bV.under (by have := HY.out.2.2.2.size; have := HN.out; omega) hgn.out)⟩
                clear hdV bV HY
                go_wp2_with (go_at_call 39; refine (dr_left_any g 1 _ V HV.out.1 (by omega) (by omega)).mono ?_)
                unfold KeepIs
                rintro e w2 ⟨rfl, rfl⟩
                go_wp2
                go_ret
                exact ⟨rfl, by rw [← HN.out]; exact HV.out.2⟩
              · skip
                have HE : Shh (drawE more [1] (1024 + 1) = 51) := ⟨by unfold drawE; rw [if_neg hm0, if_neg hm1]; rfl⟩
                go_wp2_with (go_at_call 35; refine (draw_bad g (1024 + 1) more _ [1] st _ HX.out.1 HX.out.2.2.2 (by omega) (by rw [HE.out]; decide)).mono ?_)
                unfold KeepIs drNil
                rintro e w2 ⟨rfl, rfl⟩
                rw [HE.out]
                clear HE
                rw [← hX] at HX ⊢
                have HY : Shh (Sl X X.heap.size (.slice A en.length c) en ∧ DAt X g st (1024 + 1) ∧ Vars X ∧ Below n0 w X) := ⟨(hsl0.out.below (by rw [← HN.out]; exact HX.out.2.2.1)).more HX.out.2.2.1.size, HX.out.1, HX.out.2.1, HX.out.2.2.1⟩
                clear hX HX
                go_wp2_with (go_at_call 38; refine (dr_count_any g (1024 + 1) st X HY.out.2.1 (by omega)).mono ?_)
                unfold KeepIs
                rintro e w2 ⟨rfl, rfl⟩
                go_wp2_with (go_at_call 39; refine (dr_left_any g (1024 + 1) st X HY.out.2.1 (by omega) (by omega)).mono ?_)
                unfold KeepIs
                rintro e w2 ⟨rfl, rfl⟩
                go_wp2_with (go_at_call 37; refine (reseed_ok g (1024 + 1) _ _ en [] st X HY.out.2.1 HY.out.1 Sl.nil_ HY.out.2.2.1 (by omega) HF.out.2).mono ?_)
                rintro e V ⟨rfl, hdV, bV⟩
                have HV : Shh (DAt V g (updL (en ++ []) st) 1 ∧ Below n0 w V) := ⟨hdV, HY.out.2.2.2.trans (bV.under (by have := HY.out.2.2.2.size; have := HN.out; omega) hgn.out)⟩
                clear hdV bV HY
                go_wp2_with (go_at_call 39; refine (dr_left_any g 1 _ V HV.out.1 (by omega) (by omega)).mono ?_)
                unfold KeepIs
                rintro e w2 ⟨rfl, rfl⟩
                go_wp2
                go_ret
                exact ⟨rfl, by rw [← HN.out]; exact HV.out.2⟩
  · have hcase : en.length < 32 ∨ (32 ≤ en.length ∧ 4096 < en.length) := by
      by_cases h1 : en.length < 32
      · exact .inl h1
      · by_cases h2 : 4096 < en.length
        · exact .inr ⟨by omega, h2⟩
        · exact absurd (hfit.1.2 ⟨by omega, by omega⟩) hf
    obtain ⟨er, her⟩ : ∃ er, er = fitE en [[], []] := ⟨_, rfl⟩
    have hne : (er != 0) = true := by rw [her]; simpa using hf
    have HER : Shh (fitE en [[], []] = er ∧ fitE en [[], []] ≠ 0) := ⟨her.symm, hf⟩
    clear her hf hfit
    rcases hcase with hl | ⟨hl0, hl⟩
    · skip
      go_enter Tryd.func10, Tryd.ntmps10
      go_wp2_with (go_at_call 32; refine (new_bad _ _ _ en [] [] w HC.out.1 Sl.nil_ Sl.nil_ HER.out.2).mono ?_)
      rintro e Y ⟨rfl, bY⟩
      rw [HER.out.1]
      have hli : (en.length : Int) < 32 := by omega
      have H1 : Shh (Vars Y ∧ Below w.heap.size w Y) := ⟨HC.out.2.go bY, bY⟩
      clear HC bY
      go_wp2_with (go_at_call 29; refine (dr_live_any Y H1.out.1).mono ?_)
      rintro e Y2 ⟨rfl, b2⟩
      have H2 : Shh (Vars Y2 ∧ Below w.heap.size w Y2) := ⟨H1.out.1.go b2, H1.out.2.trans (b2.mono H1.out.2.size)⟩
      clear H1 b2
      go_wp2_with (go_at_call 29; refine (dr_live_any Y2 H2.out.1).mono ?_)
      rintro e Y3 ⟨rfl, b3⟩
      have F : Shh (Below w.heap.size w Y3) := ⟨H2.out.2.trans (b3.mono H2.out.2.size)⟩
      clear H2 b3
      go_wp2
      go_ret
      exact ⟨rfl, F.out⟩
    · skip
      go_enter Tryd.func10, Tryd.ntmps10
      go_wp2_with (go_at_call 32; refine (new_bad _ _ _ en [] [] w HC.out.1 Sl.nil_ Sl.nil_ HER.out.2).mono ?_)
      rintro e Y ⟨rfl, bY⟩
      rw [HER.out.1]
      have hli : (4096 : Int) < (en.length : Int) ∧ ¬ (en.length : Int) < 32 := by omega
      obtain ⟨hli1, hli2⟩ := hli
      have H1 : Shh (Vars Y ∧ Below w.heap.size w Y) := ⟨HC.out.2.go bY, bY⟩
      clear HC bY
      go_wp2_with (go_at_call 29; refine (dr_live_any Y H1.out.1).mono ?_)
      rintro e Y2 ⟨rfl, b2⟩
      have H2 : Shh (Vars Y2 ∧ Below w.heap.size w Y2) := ⟨H1.out.1.go b2, H1.out.2.trans (b2.mono H1.out.2.size)⟩
      clear H1 b2
      go_wp2_with (go_at_call 29; refine (dr_live_any Y2 H2.out.1).mono ?_)
      rintro e Y3 ⟨rfl, b3⟩
      have F : Shh (Below w.heap.size w Y3) := ⟨H2.out.2.trans (b3.mono H2.out.2.size)⟩
      clear H2 b3
      go_wp2
      go_ret
      exact ⟨rfl, F.out⟩
end Go.Proofs.YtaalmjcpaiihhaaDoor
