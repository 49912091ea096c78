/-
  WALK: hss.allSets.
-/
import Derived.Test.YthahnckjmlcehaaHp3
namespace Go.Proofs.Ythahnckjmlcehaa
open Go.RowKit
set_option maxRecDepth 100000
theorem lN_wf (a : Nat) : (Lit.int .i64 (lN a)).wf = true := by
  have h1 := hN_le (lF a)
  have hn : 0 ≤ lN a ∧ lN a ≤ 32 := by unfold lN; split <;> omega
  exact wf64 (by omega) (by omega)
theorem eq_hsC (a b : Nat) (w : World) : (Op.equalIn 10000 63 (.agg (hsC a).toArray) (.agg (hsC b).toArray)).run Try.prog w = .ok (lSh a == lSh b && decide (lN a = lN b)) w := eq_hs (lSh a) (lN a) (lSh b) (lN b) (lN_wf a) (lN_wf b) w
theorem mayL_long {l : List (Nat × Nat)} (h : mayL l = true) : 1 ≤ l.length ∧ l.length ≤ 8 := by
  refine Decidable.byContradiction fun h2 => ?_
  rw [mayL_len h2] at h
  cases h
set_option maxHeartbeats 4000000 in
theorem allSets_any (v : Value) (l : List (Nat × Nat)) (w : World) (hl : Lvs w w.heap.size v l) (ho : LvOk l) : Calls Try.prog 14 #[v] w (AllIs l w) := by
  unfold AllIs
  obtain ⟨A, c, rfl, hc, hcm⟩ := hl.form
  have hll : l.length ≤ 9223372036854775807 := by unfold maxLen at hcm; omega
  by_cases h1 : 0 < l.length
  rotate_left
  · have hm := Shh.mk (mayL_len (l := l) (fun h => h1 (by omega)))
    have h2 : (l.length : Int) < 1 := by omega
    clear h1 hl ho
    go_enter Try.func14, Try.ntmps14
    go_wp2
    go_ret2
    exact .inl ⟨hm.out, rfl, Below.refl _ _⟩
  by_cases h8 : l.length ≤ 8
  rotate_left
  · have hm := Shh.mk (mayL_len (l := l) (fun h => h8 h.2))
    have h2 : ¬ (l.length : Int) < 1 := by omega
    have h3 : (8 : Int) < (l.length : Int) := by omega
    clear h1 hl ho
    clear h8
    go_enter Try.func14, Try.ntmps14
    go_wp2
    go_ret2
    exact .inl ⟨hm.out, rfl, Below.refl _ _⟩
  obtain ⟨g, off, rfl, hg, hcc⟩ := hl.at_ h1
  have HC : Shh (∀ k (h : k < l.length), w.cell? ⟨g, off + k * 2, none⟩ = some (.int .u32 (l[k].1 : Int)) ∧ w.cell? ⟨g, off + k * 2 + 1, none⟩ = some (.int .u32 (l[k].2 : Int))) := ⟨hcc⟩
  have HO := Shh.mk ho
  clear hcc hl ho
  obtain ⟨a0, b0, H0⟩ : ∃ a0 b0, Shh (l.getD 0 (0, 0) = (a0, b0) ∧ l[0] = (a0, b0)) := ⟨l[0].1, l[0].2, ⟨by rw [List.getD_eq_getElem?_getD, List.getElem?_eq_getElem h1]; rfl, rfl⟩⟩
  have hmk := make_st l.length h8
  have h2 : ¬ (l.length : Int) < 1 := by omega
  have h3 : ¬ (8 : Int) < (l.length : Int) := by omega
  go_enter Try.func14, Try.ntmps14
  go_wp2
  go_loopw [20] (fun i wr => ∃ k : Nat, k ≤ l.length ∧ i = .int .i64 (k : Int) ∧ Shh (PAt wr w.heap.size (l.take k) (l.length - k) ∧ (∀ j (h : j < l.length), j < k → okS (l.getD 0 (0, 0)) l[j] = true) ∧ Below w.heap.size w wr)) (fun i _ => l.length - (intOf i).toNat)
  case atStart => exact ⟨0, Nat.zero_le _, rfl, ⟨Row.new_ rfl rfl, fun j _ h => absurd h (Nat.not_lt_zero _), Below.alloc (Below.refl _ _) (Nat.le_refl _) _⟩⟩
  case round =>
    obtain ⟨k, hk, rfl, HQ⟩ := hrel
    clear hmk
    by_cases hlt : k < l.length
    · have hcw := HC.out k hlt
      have HX : Shh (l[k].1 < 4294967296 ∧ l[k] ∈ l ∧ (okS (l.getD 0 (0, 0)) l[k] = true → ∀ j (h : j < l.length), j < k + 1 → okS (l.getD 0 (0, 0)) l[j] = true) ∧ l.take (k + 1) = l.take k ++ [l[k]] ∧ ∀ (W : World) (m : Nat), PAt W w.heap.size (l.take k ++ [l[k]]) m → RAt W w.heap.size (k * 10) (stC l[k].1 l[k].2) ∧ RAt W w.heap.size 0 (stC a0 b0)) := by
        refine ⟨(HO.out _ (List.getElem_mem hlt)).1, List.getElem_mem hlt, fun h j hj hjk => ?_, take_snoc l k hlt, fun W m hp => ?_⟩
        · by_cases e : j = k
          · subst e; exact h
          · exact HQ.out.2.1 j hj (by omega)
        · have hb := hp.both hlt
          rw [H0.out.2] at hb
          exact hb
      generalize l[k] = x at hcw HX
      obtain ⟨a, b⟩ := x
      simp only at hcw HX
      have c0 := (HQ.out.2.2.cell (p := ⟨g, off + k * 2, none⟩) hg).trans hcw.1
      have c1 := (HQ.out.2.2.cell (p := ⟨g, off + k * 2 + 1, none⟩) hg).trans hcw.2
      clear hcw
      have HV : Shh ((∀ W, Calls Try.prog 25 #[.agg #[.int .u32 (a : Int), .int .u32 (b : Int)]] W (OldIs (stV a b) W)) ∧ (∀ W, Calls Try.prog 26 #[.agg (stC a b).toArray] W (OldIs (.bool (fitL a b)) W)) ∧ (∀ W, Calls Try.prog 27 #[.agg (stC a b).toArray] W (OldIs (.agg (hsC a).toArray) W)) ∧ (∀ W, Calls Try.prog 27 #[.agg (stC a0 b0).toArray] W (OldIs (.agg (hsC a0).toArray) W))) := ⟨fun W => setsOf_any a b HX.out.1 W, fun W => fit_any a b HX.out.1 W, fun W => hash_any a b W, fun W => hash_any a0 b0 W⟩
      go_wp2_with (go_at_call 25; refine (HV.out.1 _).mono ?_)
      unfold OldIs
      rintro e w2 ⟨rfl, b2⟩
      have F2 : Shh (PAt w2 w.heap.size (l.take k) (l.length - (k + 1) + 1) ∧ Below w.heap.size w w2) := by
        refine ⟨?_, Below.chain (Below.chain HQ.out.2.2 (Below.alloc (Below.refl _ _) (Nat.le_refl _) _)) b2⟩
        rw [show l.length - (k + 1) + 1 = l.length - k by omega]
        exact (HQ.out.1.alloc _).go b2
      have hkl : (l.take k).length = k := by rw [List.length_take]; omega
      clear b2 c0 c1
      go_wp2_with (refine wpList_storeS rfl (.tmp 29) (.tmp 28) rfl w.heap.size k (by go_num) a b rfl (l.take k) (l.length - (k + 1)) F2.out.1 hkl ?_)
      intro Z hr bt _
      have hRB := HX.out.2.2.2.2 Z _ hr
      have HPZ : Shh (PAt Z w.heap.size (l.take (k + 1)) (l.length - (k + 1))) := ⟨by rw [HX.out.2.2.2.1]; exact hr⟩
      have HBZ : Shh (Below w.heap.size w Z) := ⟨F2.out.2.trans (bt.under (by have := F2.out.2.size; omega) (Nat.le_refl _))⟩
      clear hr bt F2 HQ hkl
      go_wp2_with fail
      refine wp_region_held_drew (S := fun w' => w'.rangeAt w.heap.size (k * 10) (stC a b) ∧ w'.rangeAt w.heap.size 0 (stC a0 b0)) (by kernel_rfl) ⟨hRB.1.drew.at_, hRB.2.drew.at_⟩ (fun hS => ?_)
      clear hS
      obtain ⟨V, hV⟩ : ∃ V, V = World.drew Z := ⟨_, rfl⟩
      rw [← hV]
      have R1 : RAt V w.heap.size (k * 10) (stC a b) := by rw [hV]; exact hRB.1.drew
      have R0 : RAt V w.heap.size 0 (stC a0 b0) := by rw [hV]; exact hRB.2.drew
      have HPV : Shh (PAt V w.heap.size (l.take (k + 1)) (l.length - (k + 1))) := ⟨by rw [hV]; exact Row.drew HPZ.out⟩
      have HBV : Shh (Below w.heap.size w V) := ⟨by rw [hV]; exact HBZ.out.drew⟩
      clear hV hRB HPZ HBZ
      have HOK : Shh (okS (l.getD 0 (0, 0)) (a, b) = (fitL a b && (lSh a == lSh a0) && decide (lN a = lN a0)) ∧ ∀ W, (Op.equalIn 10000 63 (.agg (hsC a).toArray) (.agg (hsC a0).toArray)).run Try.prog W = .ok (lSh a == lSh a0 && decide (lN a = lN a0)) W) := ⟨by rw [H0.out.1]; rfl, fun W => eq_hsC a a0 W⟩
      cases hft : fitL a b with
      | false =>
        have HBAD : Shh (mayL l = false) := ⟨mayL_bad HX.out.2.1 (by rw [HOK.out.1, hft]; rfl)⟩
        rw [hft] at HV
        clear hft HX HOK HPV H0 HC
        refine held_value 0 _ _ (some 30) (.slice (some ⟨w.heap.size, 0, none⟩) l.length l.length) (by kernel_rfl) (by rfl) (by kernel_rfl) (fun w hS => by first | kernel_rfl | go_simp) (fun _ _ _ _ h => h) (⟨(R1).at_, (R0).at_⟩) ?_
        simp only [Act.put, List.setIfInBounds_toArray, List.set_cons_zero, List.set_cons_succ]
        refine held_value 1 _ _ (some 31) (.int .i64 (k : Int)) (by kernel_rfl) (by rfl) (by kernel_rfl) (fun w hS => by first | kernel_rfl | go_simp) (fun _ _ _ _ h => h) (⟨(R1).at_, (R0).at_⟩) ?_
        simp only [Act.put, List.setIfInBounds_toArray, List.set_cons_zero, List.set_cons_succ]
        refine held_value 2 _ _ (some 32) (.pointer (some ⟨w.heap.size, k * 10, none⟩)) (by kernel_rfl) (by rfl) (by kernel_rfl) (fun w hS => index_st _ k l.length l.length hlt rfl (by kernel_rfl) (by kernel_rfl) _) (fun _ _ _ _ h => h) (⟨(R1).at_, (R0).at_⟩) ?_
        simp only [Act.put, List.setIfInBounds_toArray, List.set_cons_zero, List.set_cons_succ]
        refine held_load 3 52 (.tmp 32) (some 33) (by kernel_rfl) (by rfl) (by kernel_rfl) w.heap.size (k * 10) (by kernel_rfl) (stC a b) _ (fun w h => h.1) Try.underlying52 rfl (info_st) (fun _ _ _ _ h => h) (⟨(R1).at_, (R0).at_⟩) ?_
        simp only [Act.put, List.setIfInBounds_toArray, List.set_cons_zero, List.set_cons_succ]
        refine held_one 4 (by kernel_rfl) ?_
        refine step_call 4 _ _ (some 34) 26 #[.agg (stC a b).toArray] (by rfl) (by kernel_rfl) (by first | kernel_rfl | go_simp) ?_
        refine (HV.out.2.1 V).mono ?_
        unfold OldIs
        rintro e Y1 ⟨rfl, b4⟩
        have bx : Below V.heap.size V Y1 := b4
        clear b4
        have b_V := bx
        have m_Y1 : V.heap.size ≤ Y1.heap.size := bx.size
        clear bx
        refine ⟨_, rfl, ⟨((R1.go b_V)).at_, ((R0.go b_V)).at_⟩, ?_⟩
        simp only [Act.put, List.setIfInBounds_toArray, List.set_cons_zero, List.set_cons_succ]
        refine held_value 5 _ _ (some 35) (.bool true) (by kernel_rfl) (by rfl) (by kernel_rfl) (fun w hS => by first | kernel_rfl | go_simp) (fun _ _ _ _ h => h) (⟨((R1.go b_V)).at_, ((R0.go b_V)).at_⟩) ?_
        simp only [Act.put, List.setIfInBounds_toArray, List.set_cons_zero, List.set_cons_succ]
        refine held_value 6 _ _ (some 36) (.bool true) (by kernel_rfl) (by rfl) (by kernel_rfl) (fun w hS => by first | kernel_rfl | go_simp) (fun _ _ _ _ h => h) (⟨((R1.go b_V)).at_, ((R0.go b_V)).at_⟩) ?_
        simp only [Act.put, List.setIfInBounds_toArray, List.set_cons_zero, List.set_cons_succ]
        refine held_skip 7 (some 37) (by kernel_rfl) (by rfl) (by kernel_rfl) (fun _ _ _ h => h) (⟨((R1.go b_V)).at_, ((R0.go b_V)).at_⟩) ?_
        simp only [Act.put, List.setIfInBounds_toArray, List.set_cons_zero, List.set_cons_succ]
        refine held_skip 8 (some 38) (by kernel_rfl) (by rfl) (by kernel_rfl) (fun _ _ _ h => h) (⟨((R1.go b_V)).at_, ((R0.go b_V)).at_⟩) ?_
        simp only [Act.put, List.setIfInBounds_toArray, List.set_cons_zero, List.set_cons_succ]
        refine held_skip 9 (some 39) (by kernel_rfl) (by rfl) (by kernel_rfl) (fun _ _ _ h => h) (⟨((R1.go b_V)).at_, ((R0.go b_V)).at_⟩) ?_
        simp only [Act.put, List.setIfInBounds_toArray, List.set_cons_zero, List.set_cons_succ]
        refine held_skip 10 (some 40) (by kernel_rfl) (by rfl) (by kernel_rfl) (fun _ _ _ h => h) (⟨((R1.go b_V)).at_, ((R0.go b_V)).at_⟩) ?_
        simp only [Act.put, List.setIfInBounds_toArray, List.set_cons_zero, List.set_cons_succ]
        refine held_skip 11 (some 41) (by kernel_rfl) (by rfl) (by kernel_rfl) (fun _ _ _ h => h) (⟨((R1.go b_V)).at_, ((R0.go b_V)).at_⟩) ?_
        simp only [Act.put, List.setIfInBounds_toArray, List.set_cons_zero, List.set_cons_succ]
        refine held_skip 12 (some 42) (by kernel_rfl) (by rfl) (by kernel_rfl) (fun _ _ _ h => h) (⟨((R1.go b_V)).at_, ((R0.go b_V)).at_⟩) ?_
        simp only [Act.put, List.setIfInBounds_toArray, List.set_cons_zero, List.set_cons_succ]
        refine held_skip 13 (some 43) (by kernel_rfl) (by rfl) (by kernel_rfl) (fun _ _ _ h => h) (⟨((R1.go b_V)).at_, ((R0.go b_V)).at_⟩) ?_
        simp only [Act.put, List.setIfInBounds_toArray, List.set_cons_zero, List.set_cons_succ]
        refine held_skip 14 (some 44) (by kernel_rfl) (by rfl) (by kernel_rfl) (fun _ _ _ h => h) (⟨((R1.go b_V)).at_, ((R0.go b_V)).at_⟩) ?_
        simp only [Act.put, List.setIfInBounds_toArray, List.set_cons_zero, List.set_cons_succ]
        refine held_skip 15 (some 45) (by kernel_rfl) (by rfl) (by kernel_rfl) (fun _ _ _ h => h) (⟨((R1.go b_V)).at_, ((R0.go b_V)).at_⟩) ?_
        simp only [Act.put, List.setIfInBounds_toArray, List.set_cons_zero, List.set_cons_succ]
        refine held_skip 16 (some 46) (by kernel_rfl) (by rfl) (by kernel_rfl) (fun _ _ _ h => h) (⟨((R1.go b_V)).at_, ((R0.go b_V)).at_⟩) ?_
        simp only [Act.put, List.setIfInBounds_toArray, List.set_cons_zero, List.set_cons_succ]
        refine held_value 17 _ _ (some 47) (.bool true) (by kernel_rfl) (by rfl) (by kernel_rfl) (fun w hS => by first | kernel_rfl | go_simp) (fun _ _ _ _ h => h) (⟨((R1.go b_V)).at_, ((R0.go b_V)).at_⟩) ?_
        simp only [Act.put, List.setIfInBounds_toArray, List.set_cons_zero, List.set_cons_succ]
        refine wpAnyH_done (by kernel_rfl) ?_ _
        have HR : Shh (mayL l = false ∧ Below w.heap.size w Y1) := ⟨HBAD.out, Below.chain HBV.out b_V⟩
        clear m_Y1 b_V R1 R0 HBAD HBV
        clear HV HO
        go_wp2
        go_ret2
        exact .inl ⟨HR.out.1, rfl, HR.out.2⟩
      | true =>
        cases hre : (lSh a == lSh a0 && decide (lN a = lN a0)) with
        | false =>
          have HBAD : Shh (mayL l = false) := ⟨mayL_bad HX.out.2.1 (by rw [HOK.out.1, hft, Bool.true_and, hre])⟩
          have HQE : Shh (∀ W, (Op.equalIn 10000 63 (.agg (hsC a).toArray) (.agg (hsC a0).toArray)).run Try.prog W = .ok false W) := ⟨fun W => by rw [HOK.out.2 W, hre]⟩
          rw [hft] at HV
          clear hft hre HX HOK HPV H0 HC
          refine held_value 0 _ _ (some 30) (.slice (some ⟨w.heap.size, 0, none⟩) l.length l.length) (by kernel_rfl) (by rfl) (by kernel_rfl) (fun w hS => by first | kernel_rfl | go_simp) (fun _ _ _ _ h => h) (⟨(R1).at_, (R0).at_⟩) ?_
          simp only [Act.put, List.setIfInBounds_toArray, List.set_cons_zero, List.set_cons_succ]
          refine held_value 1 _ _ (some 31) (.int .i64 (k : Int)) (by kernel_rfl) (by rfl) (by kernel_rfl) (fun w hS => by first | kernel_rfl | go_simp) (fun _ _ _ _ h => h) (⟨(R1).at_, (R0).at_⟩) ?_
          simp only [Act.put, List.setIfInBounds_toArray, List.set_cons_zero, List.set_cons_succ]
          refine held_value 2 _ _ (some 32) (.pointer (some ⟨w.heap.size, k * 10, none⟩)) (by kernel_rfl) (by rfl) (by kernel_rfl) (fun w hS => index_st _ k l.length l.length hlt rfl (by kernel_rfl) (by kernel_rfl) _) (fun _ _ _ _ h => h) (⟨(R1).at_, (R0).at_⟩) ?_
          simp only [Act.put, List.setIfInBounds_toArray, List.set_cons_zero, List.set_cons_succ]
          refine held_load 3 52 (.tmp 32) (some 33) (by kernel_rfl) (by rfl) (by kernel_rfl) w.heap.size (k * 10) (by kernel_rfl) (stC a b) _ (fun w h => h.1) Try.underlying52 rfl (info_st) (fun _ _ _ _ h => h) (⟨(R1).at_, (R0).at_⟩) ?_
          simp only [Act.put, List.setIfInBounds_toArray, List.set_cons_zero, List.set_cons_succ]
          refine held_one 4 (by kernel_rfl) ?_
          refine step_call 4 _ _ (some 34) 26 #[.agg (stC a b).toArray] (by rfl) (by kernel_rfl) (by first | kernel_rfl | go_simp) ?_
          refine (HV.out.2.1 V).mono ?_
          unfold OldIs
          rintro e Y1 ⟨rfl, b4⟩
          have bx : Below V.heap.size V Y1 := b4
          clear b4
          have b_V := bx
          have m_Y1 : V.heap.size ≤ Y1.heap.size := bx.size
          clear bx
          refine ⟨_, rfl, ⟨((R1.go b_V)).at_, ((R0.go b_V)).at_⟩, ?_⟩
          simp only [Act.put, List.setIfInBounds_toArray, List.set_cons_zero, List.set_cons_succ]
          refine held_value 5 _ _ (some 35) (.bool false) (by kernel_rfl) (by rfl) (by kernel_rfl) (fun w hS => by first | kernel_rfl | go_simp) (fun _ _ _ _ h => h) (⟨((R1.go b_V)).at_, ((R0.go b_V)).at_⟩) ?_
          simp only [Act.put, List.setIfInBounds_toArray, List.set_cons_zero, List.set_cons_succ]
          refine held_value 6 _ _ (some 36) (.bool false) (by kernel_rfl) (by rfl) (by kernel_rfl) (fun w hS => by first | kernel_rfl | go_simp) (fun _ _ _ _ h => h) (⟨((R1.go b_V)).at_, ((R0.go b_V)).at_⟩) ?_
          simp only [Act.put, List.setIfInBounds_toArray, List.set_cons_zero, List.set_cons_succ]
          refine held_value 7 _ _ (some 37) (.slice (some ⟨w.heap.size, 0, none⟩) l.length l.length) (by kernel_rfl) (by rfl) (by kernel_rfl) (fun w hS => by first | kernel_rfl | go_simp) (fun _ _ _ _ h => h) (⟨((R1.go b_V)).at_, ((R0.go b_V)).at_⟩) ?_
          simp only [Act.put, List.setIfInBounds_toArray, List.set_cons_zero, List.set_cons_succ]
          refine held_value 8 _ _ (some 38) (.int .i64 (k : Int)) (by kernel_rfl) (by rfl) (by kernel_rfl) (fun w hS => by first | kernel_rfl | go_simp) (fun _ _ _ _ h => h) (⟨((R1.go b_V)).at_, ((R0.go b_V)).at_⟩) ?_
          simp only [Act.put, List.setIfInBounds_toArray, List.set_cons_zero, List.set_cons_succ]
          refine held_value 9 _ _ (some 39) (.pointer (some ⟨w.heap.size, k * 10, none⟩)) (by kernel_rfl) (by rfl) (by kernel_rfl) (fun w hS => index_st _ k l.length l.length hlt rfl (by kernel_rfl) (by kernel_rfl) _) (fun _ _ _ _ h => h) (⟨((R1.go b_V)).at_, ((R0.go b_V)).at_⟩) ?_
          simp only [Act.put, List.setIfInBounds_toArray, List.set_cons_zero, List.set_cons_succ]
          refine held_value 12 _ _ (some 42) (.slice (some ⟨w.heap.size, 0, none⟩) l.length l.length) (by kernel_rfl) (by rfl) (by kernel_rfl) (fun w hS => by first | kernel_rfl | go_simp) (fun _ _ _ _ h => h) (⟨((R1.go b_V)).at_, ((R0.go b_V)).at_⟩) ?_
          simp only [Act.put, List.setIfInBounds_toArray, List.set_cons_zero, List.set_cons_succ]
          refine held_value 13 _ _ (some 43) (.pointer (some ⟨w.heap.size, 0 * 10, none⟩)) (by kernel_rfl) (by rfl) (by kernel_rfl) (fun w hS => index_st _ 0 l.length l.length h1 rfl (by kernel_rfl) (by kernel_rfl) _) (fun _ _ _ _ h => h) (⟨((R1.go b_V)).at_, ((R0.go b_V)).at_⟩) ?_
          simp only [Act.put, List.setIfInBounds_toArray, List.set_cons_zero, List.set_cons_succ]
          refine held_load 10 52 (.tmp 39) (some 40) (by kernel_rfl) (by rfl) (by kernel_rfl) w.heap.size (k * 10) (by kernel_rfl) (stC a b) _ (fun w h => h.1) Try.underlying52 rfl (info_st) (fun _ _ _ _ h => h) (⟨((R1.go b_V)).at_, ((R0.go b_V)).at_⟩) ?_
          simp only [Act.put, List.setIfInBounds_toArray, List.set_cons_zero, List.set_cons_succ]
          refine held_load 14 52 (.tmp 43) (some 44) (by kernel_rfl) (by rfl) (by kernel_rfl) w.heap.size (0 * 10) (by kernel_rfl) (stC a0 b0) _ (fun w h => h.2) Try.underlying52 rfl (info_st) (fun _ _ _ _ h => h) (⟨((R1.go b_V)).at_, ((R0.go b_V)).at_⟩) ?_
          simp only [Act.put, List.setIfInBounds_toArray, List.set_cons_zero, List.set_cons_succ]
          refine held_one 11 (by kernel_rfl) ?_
          refine step_call 11 _ _ (some 41) 27 #[.agg (stC a b).toArray] (by rfl) (by kernel_rfl) (by first | kernel_rfl | go_simp) ?_
          refine (HV.out.2.2.1 Y1).mono ?_
          unfold OldIs
          rintro e Y2 ⟨rfl, b4⟩
          have bx : Below Y1.heap.size Y1 Y2 := b4
          clear b4
          replace b_V := Below.chain b_V bx
          have b_Y1 := bx
          have m_Y2 : Y1.heap.size ≤ Y2.heap.size := bx.size
          clear bx
          refine ⟨_, rfl, ⟨((R1.go b_V)).at_, ((R0.go b_V)).at_⟩, ?_⟩
          simp only [Act.put, List.setIfInBounds_toArray, List.set_cons_zero, List.set_cons_succ]
          refine held_one 15 (by kernel_rfl) ?_
          refine step_call 15 _ _ (some 45) 27 #[.agg (stC a0 b0).toArray] (by rfl) (by kernel_rfl) (by first | kernel_rfl | go_simp) ?_
          refine (HV.out.2.2.2 Y2).mono ?_
          unfold OldIs
          rintro e Y3 ⟨rfl, b4⟩
          have bx : Below Y2.heap.size Y2 Y3 := b4
          clear b4
          replace b_V := Below.chain b_V bx
          replace b_Y1 := Below.chain b_Y1 bx
          have b_Y2 := bx
          have m_Y3 : Y2.heap.size ≤ Y3.heap.size := bx.size
          clear bx
          refine ⟨_, rfl, ⟨((R1.go b_V)).at_, ((R0.go b_V)).at_⟩, ?_⟩
          simp only [Act.put, List.setIfInBounds_toArray, List.set_cons_zero, List.set_cons_succ]
          refine held_value 16 _ _ (some 46) (.bool true) (by kernel_rfl) (by rfl) (by kernel_rfl) (fun w hS => run_neq_agg (r := false) (by kernel_rfl) (HQE.out w) (by kernel_rfl) (by kernel_rfl)) (fun _ _ _ _ h => h) (⟨((R1.go b_V)).at_, ((R0.go b_V)).at_⟩) ?_
          simp only [Act.put, List.setIfInBounds_toArray, List.set_cons_zero, List.set_cons_succ]
          refine held_value 17 _ _ (some 47) (.bool true) (by kernel_rfl) (by rfl) (by kernel_rfl) (fun w hS => by first | kernel_rfl | go_simp) (fun _ _ _ _ h => h) (⟨((R1.go b_V)).at_, ((R0.go b_V)).at_⟩) ?_
          simp only [Act.put, List.setIfInBounds_toArray, List.set_cons_zero, List.set_cons_succ]
          refine wpAnyH_done (by kernel_rfl) ?_ _
          have HR : Shh (mayL l = false ∧ Below w.heap.size w Y3) := ⟨HBAD.out, Below.chain HBV.out b_V⟩
          clear m_Y3 b_Y2 m_Y2 b_Y1 m_Y1 b_V R1 R0 HBAD HBV
          clear HV HO
          go_wp2
          go_ret2
          exact .inl ⟨HR.out.1, rfl, HR.out.2⟩
        | true =>
          have HGOOD : Shh (∀ j (h : j < l.length), j < k + 1 → okS (l.getD 0 (0, 0)) l[j] = true) := ⟨HX.out.2.2.1 (by rw [HOK.out.1, hft, Bool.true_and, hre])⟩
          have HQE : Shh (∀ W, (Op.equalIn 10000 63 (.agg (hsC a).toArray) (.agg (hsC a0).toArray)).run Try.prog W = .ok true W) := ⟨fun W => by rw [HOK.out.2 W, hre]⟩
          rw [hft] at HV
          clear hft hre HX HOK H0 HC
          refine held_value 0 _ _ (some 30) (.slice (some ⟨w.heap.size, 0, none⟩) l.length l.length) (by kernel_rfl) (by rfl) (by kernel_rfl) (fun w hS => by first | kernel_rfl | go_simp) (fun _ _ _ _ h => h) (⟨(R1).at_, (R0).at_⟩) ?_
          simp only [Act.put, List.setIfInBounds_toArray, List.set_cons_zero, List.set_cons_succ]
          refine held_value 1 _ _ (some 31) (.int .i64 (k : Int)) (by kernel_rfl) (by rfl) (by kernel_rfl) (fun w hS => by first | kernel_rfl | go_simp) (fun _ _ _ _ h => h) (⟨(R1).at_, (R0).at_⟩) ?_
          simp only [Act.put, List.setIfInBounds_toArray, List.set_cons_zero, List.set_cons_succ]
          refine held_value 2 _ _ (some 32) (.pointer (some ⟨w.heap.size, k * 10, none⟩)) (by kernel_rfl) (by rfl) (by kernel_rfl) (fun w hS => index_st _ k l.length l.length hlt rfl (by kernel_rfl) (by kernel_rfl) _) (fun _ _ _ _ h => h) (⟨(R1).at_, (R0).at_⟩) ?_
          simp only [Act.put, List.setIfInBounds_toArray, List.set_cons_zero, List.set_cons_succ]
          refine held_load 3 52 (.tmp 32) (some 33) (by kernel_rfl) (by rfl) (by kernel_rfl) w.heap.size (k * 10) (by kernel_rfl) (stC a b) _ (fun w h => h.1) Try.underlying52 rfl (info_st) (fun _ _ _ _ h => h) (⟨(R1).at_, (R0).at_⟩) ?_
          simp only [Act.put, List.setIfInBounds_toArray, List.set_cons_zero, List.set_cons_succ]
          refine held_one 4 (by kernel_rfl) ?_
          refine step_call 4 _ _ (some 34) 26 #[.agg (stC a b).toArray] (by rfl) (by kernel_rfl) (by first | kernel_rfl | go_simp) ?_
          refine (HV.out.2.1 V).mono ?_
          unfold OldIs
          rintro e Y1 ⟨rfl, b4⟩
          have bx : Below V.heap.size V Y1 := b4
          clear b4
          have b_V := bx
          have m_Y1 : V.heap.size ≤ Y1.heap.size := bx.size
          clear bx
          refine ⟨_, rfl, ⟨((R1.go b_V)).at_, ((R0.go b_V)).at_⟩, ?_⟩
          simp only [Act.put, List.setIfInBounds_toArray, List.set_cons_zero, List.set_cons_succ]
          refine held_value 5 _ _ (some 35) (.bool false) (by kernel_rfl) (by rfl) (by kernel_rfl) (fun w hS => by first | kernel_rfl | go_simp) (fun _ _ _ _ h => h) (⟨((R1.go b_V)).at_, ((R0.go b_V)).at_⟩) ?_
          simp only [Act.put, List.setIfInBounds_toArray, List.set_cons_zero, List.set_cons_succ]
          refine held_value 6 _ _ (some 36) (.bool false) (by kernel_rfl) (by rfl) (by kernel_rfl) (fun w hS => by first | kernel_rfl | go_simp) (fun _ _ _ _ h => h) (⟨((R1.go b_V)).at_, ((R0.go b_V)).at_⟩) ?_
          simp only [Act.put, List.setIfInBounds_toArray, List.set_cons_zero, List.set_cons_succ]
          refine held_value 7 _ _ (some 37) (.slice (some ⟨w.heap.size, 0, none⟩) l.length l.length) (by kernel_rfl) (by rfl) (by kernel_rfl) (fun w hS => by first | kernel_rfl | go_simp) (fun _ _ _ _ h => h) (⟨((R1.go b_V)).at_, ((R0.go b_V)).at_⟩) ?_
          simp only [Act.put, List.setIfInBounds_toArray, List.set_cons_zero, List.set_cons_succ]
          refine held_value 8 _ _ (some 38) (.int .i64 (k : Int)) (by kernel_rfl) (by rfl) (by kernel_rfl) (fun w hS => by first | kernel_rfl | go_simp) (fun _ _ _ _ h => h) (⟨((R1.go b_V)).at_, ((R0.go b_V)).at_⟩) ?_
          simp only [Act.put, List.setIfInBounds_toArray, List.set_cons_zero, List.set_cons_succ]
          refine held_value 9 _ _ (some 39) (.pointer (some ⟨w.heap.size, k * 10, none⟩)) (by kernel_rfl) (by rfl) (by kernel_rfl) (fun w hS => index_st _ k l.length l.length hlt rfl (by kernel_rfl) (by kernel_rfl) _) (fun _ _ _ _ h => h) (⟨((R1.go b_V)).at_, ((R0.go b_V)).at_⟩) ?_
          simp only [Act.put, List.setIfInBounds_toArray, List.set_cons_zero, List.set_cons_succ]
          refine held_value 12 _ _ (some 42) (.slice (some ⟨w.heap.size, 0, none⟩) l.length l.length) (by kernel_rfl) (by rfl) (by kernel_rfl) (fun w hS => by first | kernel_rfl | go_simp) (fun _ _ _ _ h => h) (⟨((R1.go b_V)).at_, ((R0.go b_V)).at_⟩) ?_
          simp only [Act.put, List.setIfInBounds_toArray, List.set_cons_zero, List.set_cons_succ]
          refine held_value 13 _ _ (some 43) (.pointer (some ⟨w.heap.size, 0 * 10, none⟩)) (by kernel_rfl) (by rfl) (by kernel_rfl) (fun w hS => index_st _ 0 l.length l.length h1 rfl (by kernel_rfl) (by kernel_rfl) _) (fun _ _ _ _ h => h) (⟨((R1.go b_V)).at_, ((R0.go b_V)).at_⟩) ?_
          simp only [Act.put, List.setIfInBounds_toArray, List.set_cons_zero, List.set_cons_succ]
          refine held_load 10 52 (.tmp 39) (some 40) (by kernel_rfl) (by rfl) (by kernel_rfl) w.heap.size (k * 10) (by kernel_rfl) (stC a b) _ (fun w h => h.1) Try.underlying52 rfl (info_st) (fun _ _ _ _ h => h) (⟨((R1.go b_V)).at_, ((R0.go b_V)).at_⟩) ?_
          simp only [Act.put, List.setIfInBounds_toArray, List.set_cons_zero, List.set_cons_succ]
          refine held_load 14 52 (.tmp 43) (some 44) (by kernel_rfl) (by rfl) (by kernel_rfl) w.heap.size (0 * 10) (by kernel_rfl) (stC a0 b0) _ (fun w h => h.2) Try.underlying52 rfl (info_st) (fun _ _ _ _ h => h) (⟨((R1.go b_V)).at_, ((R0.go b_V)).at_⟩) ?_
          simp only [Act.put, List.setIfInBounds_toArray, List.set_cons_zero, List.set_cons_succ]
          refine held_one 11 (by kernel_rfl) ?_
          refine step_call 11 _ _ (some 41) 27 #[.agg (stC a b).toArray] (by rfl) (by kernel_rfl) (by first | kernel_rfl | go_simp) ?_
          refine (HV.out.2.2.1 Y1).mono ?_
          unfold OldIs
          rintro e Y2 ⟨rfl, b4⟩
          have bx : Below Y1.heap.size Y1 Y2 := b4
          clear b4
          replace b_V := Below.chain b_V bx
          have b_Y1 := bx
          have m_Y2 : Y1.heap.size ≤ Y2.heap.size := bx.size
          clear bx
          refine ⟨_, rfl, ⟨((R1.go b_V)).at_, ((R0.go b_V)).at_⟩, ?_⟩
          simp only [Act.put, List.setIfInBounds_toArray, List.set_cons_zero, List.set_cons_succ]
          refine held_one 15 (by kernel_rfl) ?_
          refine step_call 15 _ _ (some 45) 27 #[.agg (stC a0 b0).toArray] (by rfl) (by kernel_rfl) (by first | kernel_rfl | go_simp) ?_
          refine (HV.out.2.2.2 Y2).mono ?_
          unfold OldIs
          rintro e Y3 ⟨rfl, b4⟩
          have bx : Below Y2.heap.size Y2 Y3 := b4
          clear b4
          replace b_V := Below.chain b_V bx
          replace b_Y1 := Below.chain b_Y1 bx
          have b_Y2 := bx
          have m_Y3 : Y2.heap.size ≤ Y3.heap.size := bx.size
          clear bx
          refine ⟨_, rfl, ⟨((R1.go b_V)).at_, ((R0.go b_V)).at_⟩, ?_⟩
          simp only [Act.put, List.setIfInBounds_toArray, List.set_cons_zero, List.set_cons_succ]
          refine held_value 16 _ _ (some 46) (.bool false) (by kernel_rfl) (by rfl) (by kernel_rfl) (fun w hS => run_neq_agg (r := true) (by kernel_rfl) (HQE.out w) (by kernel_rfl) (by kernel_rfl)) (fun _ _ _ _ h => h) (⟨((R1.go b_V)).at_, ((R0.go b_V)).at_⟩) ?_
          simp only [Act.put, List.setIfInBounds_toArray, List.set_cons_zero, List.set_cons_succ]
          refine held_value 17 _ _ (some 47) (.bool false) (by kernel_rfl) (by rfl) (by kernel_rfl) (fun w hS => by first | kernel_rfl | go_simp) (fun _ _ _ _ h => h) (⟨((R1.go b_V)).at_, ((R0.go b_V)).at_⟩) ?_
          simp only [Act.put, List.setIfInBounds_toArray, List.set_cons_zero, List.set_cons_succ]
          refine wpAnyH_done (by kernel_rfl) ?_ _
          have HR : Shh (PAt Y3 w.heap.size (l.take (k + 1)) (l.length - (k + 1)) ∧ (∀ j (h : j < l.length), j < k + 1 → okS (l.getD 0 (0, 0)) l[j] = true) ∧ Below w.heap.size w Y3) := ⟨HPV.out.go b_V, HGOOD.out, Below.chain HBV.out b_V⟩
          clear m_Y3 b_Y2 m_Y2 b_Y1 m_Y1 b_V R1 R0 HGOOD HBV HPV
          clear HV HO
          go_wp2
          go_roundw
          case rel => exact ⟨k + 1, by omega, by go_num, HR⟩
          case measure => simp [intOf]; omega
    · obtain rfl : k = l.length := by omega
      have HR : Shh (StAt wr w.heap.size l ∧ mayL l = decide (sumH l ≤ 60) ∧ Below w.heap.size w wr) := by
        refine ⟨?_, mayL_end ⟨h1, h8⟩ (fun j hj => HQ.out.2.1 j hj hj), HQ.out.2.2⟩
        have h := HQ.out.1
        rw [List.take_length, Nat.sub_self] at h
        exact h.done
      clear HQ HO HC H0
      go_wp2_with (go_at_call 15; refine (height_any w.heap.size l h8 _ HR.out.1).mono ?_)
      unfold OldIs
      rintro e w3 ⟨rfl, b3⟩
      have HR3 : Shh (StAt w3 w.heap.size l ∧ mayL l = decide (sumH l ≤ 60) ∧ Below w.heap.size w w3) := ⟨HR.out.1.go b3, HR.out.2.1, Below.chain HR.out.2.2 b3⟩
      clear HR b3
      generalize sumH l = q at HR3
      by_cases h60 : q ≤ 60
      · have h61 : ¬ (60 : Int) < (q : Int) := by omega
        go_wp2
        go_ret2
        exact .inr ⟨by rw [HR3.out.2.1, decide_eq_true h60], h8, w.heap.size, rfl, HR3.out.1, HR3.out.2.2⟩
      · have h61 : (60 : Int) < (q : Int) := by omega
        go_wp2
        go_ret2
        exact .inl ⟨by rw [HR3.out.2.1, decide_eq_false h60], rfl, HR3.out.2.2⟩
end Go.Proofs.Ythahnckjmlcehaa
