/-
  WALK: the law DrbgParts.
-/
import Derived.Test.YtaalmjcpaiihhaaDoorDrFull
import Derived.Test.YtaalmjcpaiihhaaDoorME
namespace Go.Proofs.YtaalmjcpaiihhaaDoor
open Go.RowKit
set_option maxRecDepth 100000
theorem refEqual_yes5 (B B' : Nat) (v v' : Value) (bs : List UInt8) (w : World) (h1 : Sl w B v bs) (h2 : Sl w B' v' bs) :
    Calls Tryd.prog 21 #[v, v'] w (KeepIs (.bool true) w) := by
  have h := refEqual_any B B' v v' bs bs w h1 h2
  have e : (bs == bs) = true := by simp
  rw [e] at h
  exact h
theorem slice_to5 {w : World} {B n c : Nat} {A : Option Addr} {bs : List UInt8} (h : Sl w B (.slice A n c) bs) (j : Nat) (hj : j ≤ n) (hn : n ≤ c) :
    ∃ A' c', (∀ u, (Instr.sliceAt 24 (.slice A n c) none (some (.int .i64 (j : Int))) none).run Tryd.prog u = .ok (.slice A' (bs.take j).length c') u) ∧ Sl w B (.slice A' (bs.take j).length c') (bs.take j) := by
  have hcut := h.cut 0 j (Nat.zero_le _) hj (by omega)
  rw [List.drop_zero] at hcut
  obtain ⟨A', c', hv, _⟩ := hcut.form
  refine ⟨A', c', fun u => ?_, by rw [← hv]; exact hcut⟩
  rw [run_sliceAt_slice _ _ _ _ _ _ slice30, run_slice_h u 24 A n c slice30 .i64 (j : Int) (by omega) (by omega), elem30, run_sizeOf_u8, Result.andThen_ok, Int.toNat_natCast, hv]
theorem slice_from5 {w : World} {B n c : Nat} {A : Option Addr} {bs : List UInt8} (h : Sl w B (.slice A n c) bs) (j : Nat) (hj : j ≤ n) (hn : n ≤ c) :
    ∃ A' c', (∀ u, (Instr.sliceAt 24 (.slice A n c) (some (.int .i64 (j : Int))) none none).run Tryd.prog u = .ok (.slice A' (bs.drop j).length c') u) ∧ Sl w B (.slice A' (bs.drop j).length c') (bs.drop j) := by
  have hcut := h.cut j n hj (Nat.le_refl _) hn
  have hl := h.len
  rw [List.take_of_length_le (by omega)] at hcut
  obtain ⟨A', c', hv, _⟩ := hcut.form
  refine ⟨A', c', fun u => ?_, by rw [← hv]; exact hcut⟩
  rw [run_sliceAt_slice _ _ _ _ _ _ slice30, run_slice_l u 24 A n c slice30 .i64 (j : Int) (by omega) (by omega), elem30, run_sizeOf_u8, Result.andThen_ok, Int.toNat_natCast, hv]
theorem DAt.other {w w' : World} {g g2 c : Nat} {s : List UInt8} (h : DAt w g s c) (hb : But w.heap.size g2 w w') (hg : g ≠ g2) : DAt w' g s c := ⟨hb.row h.row h.lt hg, h.len⟩
set_option maxHeartbeats 8000000 in
theorem dr_parts_any (ve vt : Value) (en tx : List UInt8) (at_ n : Int) (w : World) (hv : Vars w) (he : Sl w w.heap.size ve en) (ht : Sl w w.heap.size vt tx) : Calls Tryd.prog 12 #[ve, vt, .int .i64 at_, .int .i64 n] w (TrueIs w) := by
  unfold TrueIs
  obtain ⟨Ae, ce, rfl, hce, hce2⟩ := he.form
  obtain ⟨At, ct, rfl, hct, hct2⟩ := ht.form
  have HB : Shh (Sl w w.heap.size (.slice Ae en.length ce) en ∧ Sl w w.heap.size (.slice At tx.length ct) tx ∧ Vars w) := ⟨he, ht, hv⟩
  have HVW : Shh (Vars w) := ⟨hv⟩
  clear he ht hv
  by_cases hc0 : (en.length : Int) < 32
  · go_enter Tryd.func12, Tryd.ntmps12
    go_wp2_with (go_at_call 29; refine (dr_live_any w HVW.out).mono ?_)
    rintro e Y ⟨rfl, bY⟩
    have H1 : Shh (Vars Y ∧ Below w.heap.size w Y) := ⟨HVW.out.go bY, bY⟩
    clear bY
    go_wp2_with (go_at_call 29; refine (dr_live_any Y H1.out.1).mono ?_)
    rintro e Y2 ⟨rfl, b2⟩
    have F : Shh (Below w.heap.size w Y2) := ⟨H1.out.2.trans (b2.mono H1.out.2.size)⟩
    clear H1 b2
    go_wp2
    go_ret
    exact ⟨rfl, F.out⟩
  · skip
    by_cases hc1 : (500 : Int) < (en.length : Int)
    · go_enter Tryd.func12, Tryd.ntmps12
      go_wp2_with (go_at_call 29; refine (dr_live_any w HVW.out).mono ?_)
      rintro e Y ⟨rfl, bY⟩
      have H1 : Shh (Vars Y ∧ Below w.heap.size w Y) := ⟨HVW.out.go bY, bY⟩
      clear bY
      go_wp2_with (go_at_call 29; refine (dr_live_any Y H1.out.1).mono ?_)
      rintro e Y2 ⟨rfl, b2⟩
      have F : Shh (Below w.heap.size w Y2) := ⟨H1.out.2.trans (b2.mono H1.out.2.size)⟩
      clear H1 b2
      go_wp2
      go_ret
      exact ⟨rfl, F.out⟩
    · skip
      by_cases hc2 : (500 : Int) < (tx.length : Int)
      · go_enter Tryd.func12, Tryd.ntmps12
        go_wp2_with (go_at_call 29; refine (dr_live_any w HVW.out).mono ?_)
        rintro e Y ⟨rfl, bY⟩
        have H1 : Shh (Vars Y ∧ Below w.heap.size w Y) := ⟨HVW.out.go bY, bY⟩
        clear bY
        go_wp2_with (go_at_call 29; refine (dr_live_any Y H1.out.1).mono ?_)
        rintro e Y2 ⟨rfl, b2⟩
        have F : Shh (Below w.heap.size w Y2) := ⟨H1.out.2.trans (b2.mono H1.out.2.size)⟩
        clear H1 b2
        go_wp2
        go_ret
        exact ⟨rfl, F.out⟩
      · skip
        by_cases hc3 : at_ < 0
        · go_enter Tryd.func12, Tryd.ntmps12
          go_wp2_with (go_at_call 29; refine (dr_live_any w HVW.out).mono ?_)
          rintro e Y ⟨rfl, bY⟩
          have H1 : Shh (Vars Y ∧ Below w.heap.size w Y) := ⟨HVW.out.go bY, bY⟩
          clear bY
          go_wp2_with (go_at_call 29; refine (dr_live_any Y H1.out.1).mono ?_)
          rintro e Y2 ⟨rfl, b2⟩
          have F : Shh (Below w.heap.size w Y2) := ⟨H1.out.2.trans (b2.mono H1.out.2.size)⟩
          clear H1 b2
          go_wp2
          go_ret
          exact ⟨rfl, F.out⟩
        · skip
          by_cases hc4 : (tx.length : Int) < at_
          · go_enter Tryd.func12, Tryd.ntmps12
            go_wp2_with (go_at_call 29; refine (dr_live_any w HVW.out).mono ?_)
            rintro e Y ⟨rfl, bY⟩
            have H1 : Shh (Vars Y ∧ Below w.heap.size w Y) := ⟨HVW.out.go bY, bY⟩
            clear bY
            go_wp2_with (go_at_call 29; refine (dr_live_any Y H1.out.1).mono ?_)
            rintro e Y2 ⟨rfl, b2⟩
            have F : Shh (Below w.heap.size w Y2) := ⟨H1.out.2.trans (b2.mono H1.out.2.size)⟩
            clear H1 b2
            go_wp2
            go_ret
            exact ⟨rfl, F.out⟩
          · skip
            by_cases hc5 : n < 0
            · go_enter Tryd.func12, Tryd.ntmps12
              go_wp2_with (go_at_call 29; refine (dr_live_any w HVW.out).mono ?_)
              rintro e Y ⟨rfl, bY⟩
              have H1 : Shh (Vars Y ∧ Below w.heap.size w Y) := ⟨HVW.out.go bY, bY⟩
              clear bY
              go_wp2_with (go_at_call 29; refine (dr_live_any Y H1.out.1).mono ?_)
              rintro e Y2 ⟨rfl, b2⟩
              have F : Shh (Below w.heap.size w Y2) := ⟨H1.out.2.trans (b2.mono H1.out.2.size)⟩
              clear H1 b2
              go_wp2
              go_ret
              exact ⟨rfl, F.out⟩
            · skip
              by_cases hc6 : 600 < n
              · go_enter Tryd.func12, Tryd.ntmps12
                go_wp2_with (go_at_call 29; refine (dr_live_any w HVW.out).mono ?_)
                rintro e Y ⟨rfl, bY⟩
                have H1 : Shh (Vars Y ∧ Below w.heap.size w Y) := ⟨HVW.out.go bY, bY⟩
                clear bY
                go_wp2_with (go_at_call 29; refine (dr_live_any Y H1.out.1).mono ?_)
                rintro e Y2 ⟨rfl, b2⟩
                have F : Shh (Below w.heap.size w Y2) := ⟨H1.out.2.trans (b2.mono H1.out.2.size)⟩
                clear H1 b2
                go_wp2
                go_ret
                exact ⟨rfl, F.out⟩
              · skip
                obtain ⟨k, rfl⟩ : ∃ k : Nat, at_ = (k : Int) := ⟨at_.toNat, by omega⟩
                obtain ⟨m, rfl⟩ : ∃ m : Nat, n = (m : Int) := ⟨n.toNat, by omega⟩
                obtain ⟨Ap, cp, hrp, HP⟩ := slice_to5 HB.out.2.1 k (by omega) hct
                obtain ⟨Aq, cq, hrq, HQ⟩ := slice_from5 HB.out.2.1 k (by omega) hct
                obtain ⟨pr, hpr⟩ : ∃ pr, pr = tx.take k := ⟨_, rfl⟩
                obtain ⟨po, hpo⟩ : ∃ po, po = tx.drop k := ⟨_, rfl⟩
                have hprl : pr.length ≤ 500 := by rw [hpr, List.length_take]; omega
                have hpol : po.length ≤ 500 := by rw [hpo, List.length_drop]; omega
                have HX : Shh (pr ++ po = tx) := ⟨by rw [hpr, hpo, List.take_append_drop]⟩
                rw [← hpr] at hrp HP
                rw [← hpo] at hrq HQ
                clear hpr hpo
                have HR : Shh ((∀ u, (Instr.sliceAt 24 (.slice At tx.length ct) none (some (.int .i64 (k : Int))) none).run Tryd.prog u = .ok (.slice Ap pr.length cp) u) ∧ (∀ u, (Instr.sliceAt 24 (.slice At tx.length ct) (some (.int .i64 (k : Int))) none none).run Tryd.prog u = .ok (.slice Aq po.length cq) u)) := ⟨hrp, hrq⟩
                have HS : Shh (Sl w w.heap.size (.slice Ae en.length ce) en ∧ Sl w w.heap.size (.slice At tx.length ct) tx ∧ Sl w w.heap.size (.slice Ap pr.length cp) pr ∧ Sl w w.heap.size (.slice Aq po.length cq) po ∧ Vars w) := ⟨HB.out.1, HB.out.2.1, HP, HQ, HVW.out⟩
                have hfa : fitE en [pr, po] = 0 := by unfold fitE; rw [if_neg (by omega)]; simp [longB]; omega
                have hfb : fitE (en ++ pr) [[], po] = 0 := by unfold fitE; rw [if_neg (by rw [List.length_append]; omega)]; simp [longB]; omega
                have hfc : fitE en [tx] = 0 := by unfold fitE; rw [if_neg (by omega)]; simp [longB]; omega
                have hfd : fitE (en ++ pr) [po] = 0 := by unfold fitE; rw [if_neg (by rw [List.length_append]; omega)]; simp [longB]; omega
                have HF : Shh (fitE en [pr, po] = 0 ∧ fitE (en ++ pr) [[], po] = 0 ∧ fitE en [tx] = 0 ∧ fitE (en ++ pr) [po] = 0 ∧ longB tx = false) := ⟨hfa, hfb, hfc, hfd, by simp [longB]; omega⟩
                have hjl : (en ++ pr).length ≤ 1000 := by rw [List.length_append]; omega
                obtain ⟨jn, hjn⟩ : ∃ jn, jn = en ++ pr := ⟨_, rfl⟩
                rw [← hjn] at HF hjl
                have HJ : Shh (jn = en ++ pr) := ⟨hjn⟩
                clear hrp hrq HP HQ hfa hfb hfc hfd hjn HB
                go_enter Tryd.func12, Tryd.ntmps12
                go_wp2_with (go_at_call 29; refine (dr_live_any w HVW.out).mono ?_)
                rintro e Y ⟨rfl, bY⟩
                have H1 : Shh (Below w.heap.size w Y.drew) := ⟨bY.drew⟩
                clear bY
                go_wp2
                refine wp_region_held_drew (S := fun _ => True) (by kernel_rfl) trivial (fun hS => ?_)
                generalize Y.drew = V at H1 ⊢
                refine held_value 0 _ _ (some 54) (.slice Ae en.length ce) (by kernel_rfl) (by rfl) (by kernel_rfl) (fun w hS => by first | kernel_rfl | go_simp) (fun _ _ _ _ h => h) (trivial) ?_
                simp only [Act.put, List.setIfInBounds_toArray, List.set_cons_zero, List.set_cons_succ]
                refine held_value 1 _ _ (some 55) (.slice At tx.length ct) (by kernel_rfl) (by rfl) (by kernel_rfl) (fun w hS => by first | kernel_rfl | go_simp) (fun _ _ _ _ h => h) (trivial) ?_
                simp only [Act.put, List.setIfInBounds_toArray, List.set_cons_zero, List.set_cons_succ]
                refine held_value 2 _ _ (some 56) (.int .i64 (k : Int)) (by kernel_rfl) (by rfl) (by kernel_rfl) (fun w hS => by first | kernel_rfl | go_simp) (fun _ _ _ _ h => h) (trivial) ?_
                simp only [Act.put, List.setIfInBounds_toArray, List.set_cons_zero, List.set_cons_succ]
                refine held_value 3 _ _ (some 57) (.slice Ap pr.length cp) (by kernel_rfl) (by rfl) (by kernel_rfl) (fun w hS => run_slice_op ⟨rfl, rfl⟩ (HR.out.1 w)) (fun _ _ _ _ h => h) (trivial) ?_
                simp only [Act.put, List.setIfInBounds_toArray, List.set_cons_zero, List.set_cons_succ]
                refine held_value 4 _ _ (some 58) (.slice At tx.length ct) (by kernel_rfl) (by rfl) (by kernel_rfl) (fun w hS => by first | kernel_rfl | go_simp) (fun _ _ _ _ h => h) (trivial) ?_
                simp only [Act.put, List.setIfInBounds_toArray, List.set_cons_zero, List.set_cons_succ]
                refine held_value 5 _ _ (some 59) (.int .i64 (k : Int)) (by kernel_rfl) (by rfl) (by kernel_rfl) (fun w hS => by first | kernel_rfl | go_simp) (fun _ _ _ _ h => h) (trivial) ?_
                simp only [Act.put, List.setIfInBounds_toArray, List.set_cons_zero, List.set_cons_succ]
                refine held_value 6 _ _ (some 60) (.slice Aq po.length cq) (by kernel_rfl) (by rfl) (by kernel_rfl) (fun w hS => run_slice_op_lo ⟨rfl, rfl⟩ (HR.out.2 w)) (fun _ _ _ _ h => h) (trivial) ?_
                simp only [Act.put, List.setIfInBounds_toArray, List.set_cons_zero, List.set_cons_succ]
                refine held_one 7 (by kernel_rfl) ?_
                refine step_call 7 _ _ (some 61) 32 #[.slice Ae en.length ce, .slice Ap pr.length cp, .slice Aq po.length cq] (by rfl) (by kernel_rfl) (by first | kernel_rfl | go_simp) ?_
                refine (new_ok _ _ _ en pr po V (HS.out.1.go H1.out) (HS.out.2.2.1.go H1.out) (HS.out.2.2.2.1.go H1.out) (HS.out.2.2.2.2.go H1.out) HF.out.1).mono ?_
                rintro e Y1 ⟨q1, rfl, hg1, hd1, bx1⟩
                have bx : Below V.heap.size V Y1 := bx1
                have b_V := bx
                have m_Y1 : V.heap.size ≤ Y1.heap.size := bx.size
                clear bx
                refine ⟨_, rfl, trivial, ?_⟩
                simp only [Act.put, List.setIfInBounds_toArray, List.set_cons_zero, List.set_cons_succ]
                refine held_value 8 _ _ (some 53) (.tuple #[.pointer (some ⟨q1, 0, none⟩), .int .i64 0]) (by kernel_rfl) (by rfl) (by kernel_rfl) (fun w hS => by first | kernel_rfl | go_simp) (fun _ _ _ _ h => h) (trivial) ?_
                simp only [Act.put, List.setIfInBounds_toArray, List.set_cons_zero, List.set_cons_succ]
                refine held_value 9 _ _ (some 62) (.pointer (some ⟨q1, 0, none⟩)) (by kernel_rfl) (by rfl) (by kernel_rfl) (fun w hS => by first | kernel_rfl | go_simp) (fun _ _ _ _ h => h) (trivial) ?_
                simp only [Act.put, List.setIfInBounds_toArray, List.set_cons_zero, List.set_cons_succ]
                refine held_value 10 _ _ (some 63) (.int .i64 0) (by kernel_rfl) (by rfl) (by kernel_rfl) (fun w hS => by first | kernel_rfl | go_simp) (fun _ _ _ _ h => h) (trivial) ?_
                simp only [Act.put, List.setIfInBounds_toArray, List.set_cons_zero, List.set_cons_succ]
                refine held_value 11 _ _ (some 9) (.pointer (some ⟨q1, 0, none⟩)) (by kernel_rfl) (by rfl) (by kernel_rfl) (fun w hS => by first | kernel_rfl | go_simp) (fun _ _ _ _ h => h) (trivial) ?_
                simp only [Act.put, List.setIfInBounds_toArray, List.set_cons_zero, List.set_cons_succ]
                refine held_value 12 _ _ (some 10) (.int .i64 0) (by kernel_rfl) (by rfl) (by kernel_rfl) (fun w hS => by first | kernel_rfl | go_simp) (fun _ _ _ _ h => h) (trivial) ?_
                simp only [Act.put, List.setIfInBounds_toArray, List.set_cons_zero, List.set_cons_succ]
                refine wpAnyH_done (by kernel_rfl) ?_ _
                have H2 : Shh (DAt Y1 q1 (newL en pr po) 1 ∧ Below w.heap.size w Y1 ∧ w.heap.size ≤ q1 ∧ q1 < Y1.heap.size) := ⟨hd1, Below.chain H1.out b_V, by have := H1.out.size; omega, hd1.lt⟩
                clear m_Y1 b_V bx1 hd1 hg1 H1 hS
                go_wp2
                have H2d : Shh (DAt Y1.drew q1 (newL en pr po) 1 ∧ Below w.heap.size w Y1.drew ∧ w.heap.size ≤ q1 ∧ q1 < Y1.drew.heap.size) := ⟨⟨H2.out.1.row.drew, H2.out.1.len⟩, H2.out.2.1.drew, H2.out.2.2⟩
                clear H2
                refine wp_region_held_drew (S := fun _ => True) (by kernel_rfl) trivial (fun hS => ?_)
                generalize Y1.drew = V2 at H2d ⊢
                refine held_value 0 _ _ (some 65) (.slice Ae en.length ce) (by kernel_rfl) (by rfl) (by kernel_rfl) (fun w hS => by first | kernel_rfl | go_simp) (fun _ _ _ _ h => h) (trivial) ?_
                simp only [Act.put, List.setIfInBounds_toArray, List.set_cons_zero, List.set_cons_succ]
                refine held_value 1 _ _ (some 66) (.slice At tx.length ct) (by kernel_rfl) (by rfl) (by kernel_rfl) (fun w hS => by first | kernel_rfl | go_simp) (fun _ _ _ _ h => h) (trivial) ?_
                simp only [Act.put, List.setIfInBounds_toArray, List.set_cons_zero, List.set_cons_succ]
                refine held_value 2 _ _ (some 67) (.int .i64 (k : Int)) (by kernel_rfl) (by rfl) (by kernel_rfl) (fun w hS => by first | kernel_rfl | go_simp) (fun _ _ _ _ h => h) (trivial) ?_
                simp only [Act.put, List.setIfInBounds_toArray, List.set_cons_zero, List.set_cons_succ]
                refine held_value 3 _ _ (some 68) (.slice Ap pr.length cp) (by kernel_rfl) (by rfl) (by kernel_rfl) (fun w hS => run_slice_op ⟨rfl, rfl⟩ (HR.out.1 w)) (fun _ _ _ _ h => h) (trivial) ?_
                simp only [Act.put, List.setIfInBounds_toArray, List.set_cons_zero, List.set_cons_succ]
                refine held_value 6 _ _ (some 71) (.slice At tx.length ct) (by kernel_rfl) (by rfl) (by kernel_rfl) (fun w hS => by first | kernel_rfl | go_simp) (fun _ _ _ _ h => h) (trivial) ?_
                simp only [Act.put, List.setIfInBounds_toArray, List.set_cons_zero, List.set_cons_succ]
                refine held_value 7 _ _ (some 72) (.int .i64 (k : Int)) (by kernel_rfl) (by rfl) (by kernel_rfl) (fun w hS => by first | kernel_rfl | go_simp) (fun _ _ _ _ h => h) (trivial) ?_
                simp only [Act.put, List.setIfInBounds_toArray, List.set_cons_zero, List.set_cons_succ]
                refine held_value 8 _ _ (some 73) (.slice Aq po.length cq) (by kernel_rfl) (by rfl) (by kernel_rfl) (fun w hS => run_slice_op_lo ⟨rfl, rfl⟩ (HR.out.2 w)) (fun _ _ _ _ h => h) (trivial) ?_
                simp only [Act.put, List.setIfInBounds_toArray, List.set_cons_zero, List.set_cons_succ]
                refine held_one 4 (by kernel_rfl) ?_
                refine step_value 4 _ _ (some 69) (.slice (some ⟨V2.heap.size, 0, none⟩) 2 2) (V2.alloc (.cells #[.slice Ae en.length ce, .slice Ap pr.length cp] 24)) (by rfl) (by kernel_rfl) (by first | kernel_rfl | go_simp) (trivial) ?_
                simp only [Act.put, List.setIfInBounds_toArray, List.set_cons_zero, List.set_cons_succ]
                have bx : Below V2.heap.size V2 (V2.alloc (.cells #[.slice Ae en.length ce, .slice Ap pr.length cp] 24)) := Below.alloc (Below.refl _ _) (Nat.le_refl _) _
                have rP : Row (V2.alloc (.cells #[.slice Ae en.length ce, .slice Ap pr.length cp] 24)) V2.heap.size 24 [.slice Ae en.length ce, .slice Ap pr.length cp] := Row.new_ rfl rfl
                have z_rP := asz V2 (.cells #[.slice Ae en.length ce, .slice Ap pr.length cp] 24)
                generalize V2.alloc (.cells #[.slice Ae en.length ce, .slice Ap pr.length cp] 24) = Y1 at *
                have b_V2 := bx
                have m_Y1 : V2.heap.size ≤ Y1.heap.size := bx.size
                clear bx
                refine held_one 5 (by kernel_rfl) ?_
                refine step_call 5 _ _ (some 70) 23 #[.slice (some ⟨V2.heap.size, 0, none⟩) 2 2] (by rfl) (by kernel_rfl) (by first | kernel_rfl | go_simp) ?_
                refine (refJoin_any Y1.heap.size Y1.heap.size _ [en, pr] Y1 (PartsO.two rP.lt (Nat.ne_of_lt rP.lt) rP (HS.out.1.go (Below.chain H2d.out.2.1 b_V2)) ((HS.out.1.go (Below.chain H2d.out.2.1 b_V2)).off (Nat.le_refl _)) (HS.out.2.2.1.go (Below.chain H2d.out.2.1 b_V2)) ((HS.out.2.2.1.go (Below.chain H2d.out.2.1 b_V2)).off (Nat.le_refl _))) (Nat.le_refl _) (by simp; omega) (by simp)).mono ?_
                rintro e Y2 ⟨v70, rfl, g70⟩
                have bx : Below Y1.heap.size Y1 Y2 := g70.2
                have s70 : Sl Y2 Y2.heap.size v70 jn := by have := gives_sl g70; rw [HJ.out]; simpa using this
                clear g70
                replace b_V2 := Below.chain b_V2 bx
                have b_Y1 := bx
                have m_Y2 : Y1.heap.size ≤ Y2.heap.size := bx.size
                clear bx
                refine ⟨_, rfl, trivial, ?_⟩
                simp only [Act.put, List.setIfInBounds_toArray, List.set_cons_zero, List.set_cons_succ]
                refine held_one 9 (by kernel_rfl) ?_
                refine step_call 9 _ _ (some 74) 32 #[v70, .slice none 0 0, .slice Aq po.length cq] (by rfl) (by kernel_rfl) (by first | kernel_rfl | go_simp) ?_
                refine (new_ok _ _ _ jn [] po Y2 s70 Sl.nil_ (HS.out.2.2.2.1.go (Below.chain H2d.out.2.1 b_V2)) (HS.out.2.2.2.2.go (Below.chain H2d.out.2.1 b_V2)) HF.out.2.1).mono ?_
                rintro e Y3 ⟨q2, rfl, hg2, hd2, bx2⟩
                have bx : Below Y2.heap.size Y2 Y3 := bx2
                replace b_V2 := Below.chain b_V2 bx
                replace b_Y1 := Below.chain b_Y1 bx
                have b_Y2 := bx
                have m_Y3 : Y2.heap.size ≤ Y3.heap.size := bx.size
                clear bx
                refine ⟨_, rfl, trivial, ?_⟩
                simp only [Act.put, List.setIfInBounds_toArray, List.set_cons_zero, List.set_cons_succ]
                refine held_value 10 _ _ (some 64) (.tuple #[.pointer (some ⟨q2, 0, none⟩), .int .i64 0]) (by kernel_rfl) (by rfl) (by kernel_rfl) (fun w hS => by first | kernel_rfl | go_simp) (fun _ _ _ _ h => h) (trivial) ?_
                simp only [Act.put, List.setIfInBounds_toArray, List.set_cons_zero, List.set_cons_succ]
                refine held_value 11 _ _ (some 75) (.pointer (some ⟨q2, 0, none⟩)) (by kernel_rfl) (by rfl) (by kernel_rfl) (fun w hS => by first | kernel_rfl | go_simp) (fun _ _ _ _ h => h) (trivial) ?_
                simp only [Act.put, List.setIfInBounds_toArray, List.set_cons_zero, List.set_cons_succ]
                refine held_value 12 _ _ (some 76) (.int .i64 0) (by kernel_rfl) (by rfl) (by kernel_rfl) (fun w hS => by first | kernel_rfl | go_simp) (fun _ _ _ _ h => h) (trivial) ?_
                simp only [Act.put, List.setIfInBounds_toArray, List.set_cons_zero, List.set_cons_succ]
                refine held_value 13 _ _ (some 11) (.pointer (some ⟨q2, 0, none⟩)) (by kernel_rfl) (by rfl) (by kernel_rfl) (fun w hS => by first | kernel_rfl | go_simp) (fun _ _ _ _ h => h) (trivial) ?_
                simp only [Act.put, List.setIfInBounds_toArray, List.set_cons_zero, List.set_cons_succ]
                refine held_value 14 _ _ (some 12) (.int .i64 0) (by kernel_rfl) (by rfl) (by kernel_rfl) (fun w hS => by first | kernel_rfl | go_simp) (fun _ _ _ _ h => h) (trivial) ?_
                simp only [Act.put, List.setIfInBounds_toArray, List.set_cons_zero, List.set_cons_succ]
                refine wpAnyH_done (by kernel_rfl) ?_ _
                have e1 : newL jn [] po = newL en pr po := by unfold newL; rw [HJ.out]; simp
                rw [e1] at hd2
                obtain ⟨s1, hs1⟩ : ∃ s1, s1 = newL en pr po := ⟨_, rfl⟩
                have H3 : Shh (DAt Y3 q1 s1 1 ∧ DAt Y3 q2 s1 1 ∧ Below w.heap.size w Y3 ∧ w.heap.size ≤ q1 ∧ w.heap.size ≤ q2 ∧ q1 ≠ q2) := ⟨by rw [hs1]; exact H2d.out.1.go b_V2, by rw [hs1]; exact hd2, Below.chain H2d.out.2.1 b_V2, H2d.out.2.2.1, by have := H2d.out.2.1.size; omega, by have := H2d.out.2.2.2; omega⟩
                clear m_Y3 b_Y2 bx2 hd2 hg2 m_Y2 b_Y1 s70 m_Y1 b_V2 z_rP rP H2d hS e1 hs1
                go_wp2
                have H3d : Shh (DAt Y3.drew q1 s1 1 ∧ DAt Y3.drew q2 s1 1 ∧ Below w.heap.size w Y3.drew ∧ w.heap.size ≤ q1 ∧ w.heap.size ≤ q2 ∧ q1 ≠ q2) := ⟨⟨H3.out.1.row.drew, H3.out.1.len⟩, ⟨H3.out.2.1.row.drew, H3.out.2.1.len⟩, H3.out.2.2.1.drew, H3.out.2.2.2⟩
                clear H3
                refine wp_region_held_drew (S := fun _ => True) (by kernel_rfl) trivial (fun hS => ?_)
                generalize Y3.drew = V3 at H3d ⊢
                refine held_value 0 _ _ (some 91) (.pointer (some ⟨q1, 0, none⟩)) (by kernel_rfl) (by rfl) (by kernel_rfl) (fun w hS => by first | kernel_rfl | go_simp) (fun _ _ _ _ h => h) (trivial) ?_
                simp only [Act.put, List.setIfInBounds_toArray, List.set_cons_zero, List.set_cons_succ]
                refine held_value 1 _ _ (some 92) (.slice Ae en.length ce) (by kernel_rfl) (by rfl) (by kernel_rfl) (fun w hS => by first | kernel_rfl | go_simp) (fun _ _ _ _ h => h) (trivial) ?_
                simp only [Act.put, List.setIfInBounds_toArray, List.set_cons_zero, List.set_cons_succ]
                refine held_value 2 _ _ (some 93) (.slice At tx.length ct) (by kernel_rfl) (by rfl) (by kernel_rfl) (fun w hS => by first | kernel_rfl | go_simp) (fun _ _ _ _ h => h) (trivial) ?_
                simp only [Act.put, List.setIfInBounds_toArray, List.set_cons_zero, List.set_cons_succ]
                refine held_one 3 (by kernel_rfl) ?_
                refine step_call 3 _ _ (some 94) 37 #[.pointer (some ⟨q1, 0, none⟩), .slice Ae en.length ce, .slice At tx.length ct] (by rfl) (by kernel_rfl) (by first | kernel_rfl | go_simp) ?_
                refine (reseed_ok q1 1 _ _ en tx s1 V3 H3d.out.1 (HS.out.1.go H3d.out.2.2.1) (HS.out.2.1.go H3d.out.2.2.1) (HS.out.2.2.2.2.go H3d.out.2.2.1) (by omega) HF.out.2.2.1).mono ?_
                rintro e Y1 ⟨rfl, hdy, byy⟩
                have HY1 : Shh (DAt Y1 q1 (updL (en ++ tx) s1) 1 ∧ DAt Y1 q2 s1 1 ∧ Below w.heap.size w Y1) := ⟨hdy, H3d.out.2.1.other byy (fun h => H3d.out.2.2.2.2.2 h.symm), H3d.out.2.2.1.trans (byy.under H3d.out.2.2.1.size H3d.out.2.2.2.1)⟩
                clear hdy byy
                refine ⟨_, rfl, trivial, ?_⟩
                simp only [Act.put, List.setIfInBounds_toArray, List.set_cons_zero, List.set_cons_succ]
                refine held_value 4 _ _ (some 95) (.bool false) (by kernel_rfl) (by rfl) (by kernel_rfl) (fun w hS => by go_simp) (fun _ _ _ _ h => h) (trivial) ?_
                simp only [Act.put, List.setIfInBounds_toArray, List.set_cons_zero, List.set_cons_succ]
                refine held_value 5 _ _ (some 96) (.bool false) (by kernel_rfl) (by rfl) (by kernel_rfl) (fun w hS => by first | kernel_rfl | go_simp) (fun _ _ _ _ h => h) (trivial) ?_
                simp only [Act.put, List.setIfInBounds_toArray, List.set_cons_zero, List.set_cons_succ]
                refine held_value 6 _ _ (some 97) (.pointer (some ⟨q2, 0, none⟩)) (by kernel_rfl) (by rfl) (by kernel_rfl) (fun w hS => by first | kernel_rfl | go_simp) (fun _ _ _ _ h => h) (trivial) ?_
                simp only [Act.put, List.setIfInBounds_toArray, List.set_cons_zero, List.set_cons_succ]
                refine held_value 7 _ _ (some 98) (.slice Ae en.length ce) (by kernel_rfl) (by rfl) (by kernel_rfl) (fun w hS => by first | kernel_rfl | go_simp) (fun _ _ _ _ h => h) (trivial) ?_
                simp only [Act.put, List.setIfInBounds_toArray, List.set_cons_zero, List.set_cons_succ]
                refine held_value 8 _ _ (some 99) (.slice At tx.length ct) (by kernel_rfl) (by rfl) (by kernel_rfl) (fun w hS => by first | kernel_rfl | go_simp) (fun _ _ _ _ h => h) (trivial) ?_
                simp only [Act.put, List.setIfInBounds_toArray, List.set_cons_zero, List.set_cons_succ]
                refine held_value 9 _ _ (some 100) (.int .i64 (k : Int)) (by kernel_rfl) (by rfl) (by kernel_rfl) (fun w hS => by first | kernel_rfl | go_simp) (fun _ _ _ _ h => h) (trivial) ?_
                simp only [Act.put, List.setIfInBounds_toArray, List.set_cons_zero, List.set_cons_succ]
                refine held_value 10 _ _ (some 101) (.slice Ap pr.length cp) (by kernel_rfl) (by rfl) (by kernel_rfl) (fun w hS => run_slice_op ⟨rfl, rfl⟩ (HR.out.1 w)) (fun _ _ _ _ h => h) (trivial) ?_
                simp only [Act.put, List.setIfInBounds_toArray, List.set_cons_zero, List.set_cons_succ]
                refine held_value 13 _ _ (some 104) (.slice At tx.length ct) (by kernel_rfl) (by rfl) (by kernel_rfl) (fun w hS => by first | kernel_rfl | go_simp) (fun _ _ _ _ h => h) (trivial) ?_
                simp only [Act.put, List.setIfInBounds_toArray, List.set_cons_zero, List.set_cons_succ]
                refine held_value 14 _ _ (some 105) (.int .i64 (k : Int)) (by kernel_rfl) (by rfl) (by kernel_rfl) (fun w hS => by first | kernel_rfl | go_simp) (fun _ _ _ _ h => h) (trivial) ?_
                simp only [Act.put, List.setIfInBounds_toArray, List.set_cons_zero, List.set_cons_succ]
                refine held_value 15 _ _ (some 106) (.slice Aq po.length cq) (by kernel_rfl) (by rfl) (by kernel_rfl) (fun w hS => run_slice_op_lo ⟨rfl, rfl⟩ (HR.out.2 w)) (fun _ _ _ _ h => h) (trivial) ?_
                simp only [Act.put, List.setIfInBounds_toArray, List.set_cons_zero, List.set_cons_succ]
                refine held_one 11 (by kernel_rfl) ?_
                refine step_value 11 _ _ (some 102) (.slice (some ⟨Y1.heap.size, 0, none⟩) 2 2) (Y1.alloc (.cells #[.slice Ae en.length ce, .slice Ap pr.length cp] 24)) (by rfl) (by kernel_rfl) (by first | kernel_rfl | go_simp) (trivial) ?_
                simp only [Act.put, List.setIfInBounds_toArray, List.set_cons_zero, List.set_cons_succ]
                have bx : Below Y1.heap.size Y1 (Y1.alloc (.cells #[.slice Ae en.length ce, .slice Ap pr.length cp] 24)) := Below.alloc (Below.refl _ _) (Nat.le_refl _) _
                have rP : Row (Y1.alloc (.cells #[.slice Ae en.length ce, .slice Ap pr.length cp] 24)) Y1.heap.size 24 [.slice Ae en.length ce, .slice Ap pr.length cp] := Row.new_ rfl rfl
                have z_rP := asz Y1 (.cells #[.slice Ae en.length ce, .slice Ap pr.length cp] 24)
                generalize Y1.alloc (.cells #[.slice Ae en.length ce, .slice Ap pr.length cp] 24) = Y2 at *
                have b_Y1 := bx
                have m_Y2 : Y1.heap.size ≤ Y2.heap.size := bx.size
                clear bx
                refine held_one 12 (by kernel_rfl) ?_
                refine step_call 12 _ _ (some 103) 23 #[.slice (some ⟨Y1.heap.size, 0, none⟩) 2 2] (by rfl) (by kernel_rfl) (by first | kernel_rfl | go_simp) ?_
                refine (refJoin_any Y2.heap.size Y2.heap.size _ [en, pr] Y2 (PartsO.two rP.lt (Nat.ne_of_lt rP.lt) rP (HS.out.1.go (Below.chain HY1.out.2.2 b_Y1)) ((HS.out.1.go (Below.chain HY1.out.2.2 b_Y1)).off (Nat.le_refl _)) (HS.out.2.2.1.go (Below.chain HY1.out.2.2 b_Y1)) ((HS.out.2.2.1.go (Below.chain HY1.out.2.2 b_Y1)).off (Nat.le_refl _))) (Nat.le_refl _) (by simp; omega) (by simp)).mono ?_
                rintro e Y3 ⟨v103, rfl, g103⟩
                have bx : Below Y2.heap.size Y2 Y3 := g103.2
                have s103 : Sl Y3 Y3.heap.size v103 jn := by have := gives_sl g103; rw [HJ.out]; simpa using this
                clear g103
                replace b_Y1 := Below.chain b_Y1 bx
                have b_Y2 := bx
                have m_Y3 : Y2.heap.size ≤ Y3.heap.size := bx.size
                clear bx
                refine ⟨_, rfl, trivial, ?_⟩
                simp only [Act.put, List.setIfInBounds_toArray, List.set_cons_zero, List.set_cons_succ]
                refine held_one 16 (by kernel_rfl) ?_
                refine step_call 16 _ _ (some 107) 37 #[.pointer (some ⟨q2, 0, none⟩), v103, .slice Aq po.length cq] (by rfl) (by kernel_rfl) (by first | kernel_rfl | go_simp) ?_
                refine (reseed_ok q2 1 _ _ jn po s1 Y3 (HY1.out.2.1.go b_Y1) s103 (HS.out.2.2.2.1.go (Below.chain HY1.out.2.2 b_Y1)) (HS.out.2.2.2.2.go (Below.chain HY1.out.2.2 b_Y1)) (by omega) HF.out.2.2.2.1).mono ?_
                rintro e Y4 ⟨rfl, hdy, byy⟩
                have e2 : updL (jn ++ po) s1 = updL (en ++ tx) s1 := by rw [HJ.out, List.append_assoc, HX.out]
                rw [e2] at hdy
                have HY4 : Shh (DAt Y4 q1 (updL (en ++ tx) s1) 1 ∧ DAt Y4 q2 (updL (en ++ tx) s1) 1 ∧ Below w.heap.size w Y4) := ⟨(HY1.out.1.go b_Y1).other byy H3d.out.2.2.2.2.2, hdy, (Below.chain HY1.out.2.2 b_Y1).trans (byy.under ((Below.chain HY1.out.2.2 b_Y1)).size H3d.out.2.2.2.2.1)⟩
                clear hdy byy e2
                refine ⟨_, rfl, trivial, ?_⟩
                simp only [Act.put, List.setIfInBounds_toArray, List.set_cons_zero, List.set_cons_succ]
                refine held_value 17 _ _ (some 108) (.bool false) (by kernel_rfl) (by rfl) (by kernel_rfl) (fun w hS => by go_simp) (fun _ _ _ _ h => h) (trivial) ?_
                simp only [Act.put, List.setIfInBounds_toArray, List.set_cons_zero, List.set_cons_succ]
                refine held_value 18 _ _ (some 109) (.bool false) (by kernel_rfl) (by rfl) (by kernel_rfl) (fun w hS => by first | kernel_rfl | go_simp) (fun _ _ _ _ h => h) (trivial) ?_
                simp only [Act.put, List.setIfInBounds_toArray, List.set_cons_zero, List.set_cons_succ]
                refine wpAnyH_done (by kernel_rfl) ?_ _
                obtain ⟨s2, hs2⟩ : ∃ s2, s2 = updL (en ++ tx) s1 := ⟨_, rfl⟩
                rw [← hs2] at HY4
                have HG : Shh (w.heap.size ≤ q1 ∧ w.heap.size ≤ q2 ∧ q1 ≠ q2) := ⟨H3d.out.2.2.2⟩
                clear HY1 hs2 hS H3d b_Y1 rP s103 z_rP m_Y2 m_Y3
                go_wp2_with (go_at_call 35; refine (draw_ok q1 1 m _ tx s2 Y4 HY4.out.1 (HS.out.2.1.go HY4.out.2.2) (HS.out.2.2.2.2.go HY4.out.2.2) (by omega) (by omega) (by omega) HF.out.2.2.2.2).mono ?_)
                rintro e Za ⟨vx, rfl, ho, hd, bz⟩
                have hbl := drawB_length (drS1 tx s2) (drS1_length tx s2 HY4.out.1.len) m
                obtain ⟨bx, hbx⟩ : ∃ bx, bx = drawB (drS1 tx s2) m := ⟨_, rfl⟩
                rw [← hbx] at ho hbl
                have HBL : Shh (bx.length = m) := ⟨hbl⟩
                clear hbl
                obtain ⟨Ax, cx, rfl⟩ := own_form ho
                have H5 : Shh (Za.ownsRow Y4.heap.size 5 1 (.slice Ax bx.length cx) bx.length (Lib.byteCells bx) ∧ DAt Za q2 s2 1 ∧ Below w.heap.size w Za ∧ q2 < Y4.heap.size ∧ bx = drawB (drS1 tx s2) m) := ⟨ho, HY4.out.2.1.other bz (fun h => HG.out.2.2 h.symm), HY4.out.2.2.trans (bz.under HY4.out.2.2.size HG.out.1), HY4.out.2.1.lt, hbx⟩
                clear ho hd bz HY4 hbx
                go_wp2_with (go_at_call 35; refine (draw_ok q2 1 m _ tx s2 Za H5.out.2.1 (HS.out.2.1.go H5.out.2.2.1) (HS.out.2.2.2.2.go H5.out.2.2.1) (by omega) (by omega) (by omega) HF.out.2.2.2.2).mono ?_)
                rintro e Zb ⟨vy, rfl, ho, hd, bz⟩
                rw [← H5.out.2.2.2.2] at ho
                obtain ⟨Ay, cy, rfl⟩ := own_form ho
                have H6 : Shh (Sl Zb Zb.heap.size (.slice Ax bx.length cx) bx ∧ Sl Zb Zb.heap.size (.slice Ay bx.length cy) bx ∧ Below w.heap.size w Zb) := ⟨Sl.of_own (own_but H5.out.1 bz H5.out.2.2.2.1), Sl.of_own ho, H5.out.2.2.1.trans (bz.under H5.out.2.2.1.size HG.out.2.1)⟩
                clear ho hd bz H5
                go_wp2_with (go_at_call 21; refine (refEqual_yes5 _ _ _ _ bx Zb H6.out.1 H6.out.2.1).mono ?_)
                unfold KeepIs
                rintro e w9 ⟨rfl, rfl⟩
                have hqm : ((bx.length : Int) == (m : Int)) = true := by rw [HBL.out]; simp
                go_wp2
                go_ret
                exact ⟨rfl, H6.out.2.2⟩
end Go.Proofs.YtaalmjcpaiihhaaDoor
