/-
  THE WALK of seal.Stream.
-/
import Derived.Test.YtaalmjcpaiihhaaDoorCov
namespace Go.Proofs.YtaalmjcpaiihhaaDoor
open Go.RowKit
set_option maxRecDepth 100000
def strE (n : Int) : Int := if n < 0 then 1 else if 1048576 < n then 3 else 0
def strV (enc nonce : List UInt8) (n : Int) : List UInt8 := if n < 0 then [] else if 1048576 < n then [] else strB enc nonce n.toNat
theorem info_b12 : (Tryd.prog.info? 23).map (·.size) = some 12 := by kernel_rfl
theorem Row.sl2 {w : World} {g n : Nat} {T : TypeId} {bs : List UInt8} (hr : Row w g T (Lib.byteCells bs)) (hn : bs.length = n) (hm : n ≤ maxLen) : Sl w w.heap.size (.slice (some ⟨g, 0, none⟩) n n) bs :=
  Sl.of_row hr hr.lt hn (Nat.le_refl _) hm (fun k hk => by rw [Nat.zero_add]; exact byteCells_get bs k hk)
theorem put_nil (w w' : World) (hb : Below w.heap.size w w') : Gives w [] (.slice none 0 0) w' := ⟨⟨rfl, .inl ⟨rfl, rfl⟩⟩, hb⟩
set_option maxHeartbeats 2000000 in
theorem stream_any (B : Nat) (ve : Value) (enc nonce : List UInt8) (n : Int) (w : World) (he : Sl w B ve enc) (hB : B ≤ w.heap.size) (hv : Vars w) (hnl : nonce.length = 12) (hel : enc.length ≤ 1000000) :
    Calls Tryd.prog 18 #[ve, .agg (Lib.byteCells nonce).toArray, .int .i64 n] w (PutIs w (strE n) (strV enc nonce n)) := by
  unfold PutIs
  obtain ⟨A1, c1, rfl, _, _⟩ := he.form
  by_cases h0 : n < 0
  · have HE : Shh (strE n = 1 ∧ strV enc nonce n = []) := ⟨by unfold strE; rw [if_pos h0], by unfold strV; rw [if_pos h0]⟩
    rw [HE.out.1, HE.out.2]
    go_enter Tryd.func18, Tryd.ntmps18
    go_wp2
    go_ret2
    exact ⟨_, rfl, put_nil _ _ ((Below.refl _ _).alloc (Nat.le_refl _) _)⟩
  · by_cases h1 : 1048576 < n
    · have HE : Shh (strE n = 3 ∧ strV enc nonce n = []) := ⟨by unfold strE; rw [if_neg h0, if_pos h1], by unfold strV; rw [if_neg h0, if_pos h1]⟩
      rw [HE.out.1, HE.out.2]
      go_enter Tryd.func18, Tryd.ntmps18
      go_wp2
      go_ret2
      exact ⟨_, rfl, put_nil _ _ ((Below.refl _ _).alloc (Nat.le_refl _) _)⟩
    · obtain ⟨k, rfl⟩ : ∃ k : Nat, n = (k : Int) := ⟨n.toNat, by omega⟩
      have hk : k ≤ 1048576 := by omega
      have HE : Shh (strE (k : Int) = 0 ∧ strV enc nonce (k : Int) = strB enc nonce k) := ⟨by unfold strE; rw [if_neg h0, if_neg h1], by unfold strV; rw [if_neg h0, if_neg h1, Int.toNat_natCast]⟩
      rw [HE.out.1, HE.out.2]
      have hmk := fun u => make_run k (by omega) u
      generalize hN : w.heap.size = N at *
      obtain ⟨W1, hW1⟩ : ∃ W1, W1 = w.alloc (.cells (Lib.byteCells nonce).toArray 23) := ⟨_, rfl⟩
      have hb1 : Below N w W1 := by rw [hW1]; exact (Below.refl N w).alloc (by omega) _
      have hzW : W1.heap.size = N + 1 := by rw [hW1, asz, hN]
      have HC : Shh (Sl W1 W1.heap.size (.slice A1 enc.length c1) enc ∧ Row W1 N 23 (Lib.byteCells nonce) ∧ Vars W1 ∧ Below N w W1 ∧ W1.heap.size = N + 1) :=
        ⟨(he.below (hb1.mono hB)).more (by omega), by rw [hW1]; exact Row.new_ hN.symm rfl, hv.step (by rw [hN]; exact hb1), hb1, hzW⟩
      clear he hv hb1 hzW
      have HD : Shh (Sl W1.drew W1.drew.heap.size (.slice A1 enc.length c1) enc ∧ Row W1.drew N 23 (Lib.byteCells nonce) ∧ Vars W1.drew ∧ Below N w W1.drew ∧ W1.drew.heap.size = N + 1) :=
        ⟨HC.out.1, HC.out.2.1, HC.out.2.2.1, HC.out.2.2.2.1.drew, HC.out.2.2.2.2⟩
      clear HC
      rw [hW1] at HD
      clear hW1
      go_enter Tryd.func18, Tryd.ntmps18
      go_wp2
      refine wp_region_held_drew (S := fun w' => w'.rangeAt N 0 (Lib.byteCells nonce)) (by kernel_rfl) HD.out.2.1.range (fun hS => ?_)
      clear hS
      generalize World.drew _ = W at HD ⊢
      obtain ⟨HE1, HNR, HVA, HBW, hzW⟩ := HD.out
      refine held_value 0 _ _ (some 14) (.slice A1 enc.length c1) (by kernel_rfl) (by rfl) (by kernel_rfl) (fun w hS => by first | kernel_rfl | go_simp) (fun _ _ _ _ h => h) (HNR.range) ?_
      simp only [Act.put, List.setIfInBounds_toArray, List.set_cons_zero, List.set_cons_succ]
      refine held_value 2 _ _ (some 16) (.int .i64 (k : Int)) (by kernel_rfl) (by rfl) (by kernel_rfl) (fun w hS => by first | kernel_rfl | go_simp) (fun _ _ _ _ h => h) (HNR.range) ?_
      simp only [Act.put, List.setIfInBounds_toArray, List.set_cons_zero, List.set_cons_succ]
      refine held_load 1 23 (.tmp 4) (some 15) (by kernel_rfl) (by rfl) (by kernel_rfl) N 0 (by kernel_rfl) (Lib.byteCells nonce) (.array 12 5) (fun w h => h) Tryd.underlying23 rfl (info_b12.trans (size_bytes _ _ hnl)) (fun _ _ _ _ h => h) (HNR.range) ?_
      simp only [Act.put, List.setIfInBounds_toArray, List.set_cons_zero, List.set_cons_succ]
      refine held_one 3 (by kernel_rfl) ?_
      refine step_value 3 _ _ (some 17) (.slice (some ⟨W.heap.size, 0, none⟩) k k) (W.alloc (.cells (Lib.byteCells (List.replicate k 0)).toArray 5)) (by rfl) (by kernel_rfl) (run_makeSlice (hmk _)) ((HNR.alloc _).range) ?_
      simp only [Act.put, List.setIfInBounds_toArray, List.set_cons_zero, List.set_cons_succ]
      have bx : Below W.heap.size W (W.alloc (.cells (Lib.byteCells (List.replicate k 0)).toArray 5)) := Below.alloc (Below.refl _ _) (Nat.le_refl _) _
      have rZ : Row (W.alloc (.cells (Lib.byteCells (List.replicate k 0)).toArray 5)) W.heap.size 5 (Lib.byteCells (List.replicate k 0)) := Row.new_ rfl rfl
      have z_rZ := asz W (.cells (Lib.byteCells (List.replicate k 0)).toArray 5)
      generalize W.alloc (.cells (Lib.byteCells (List.replicate k 0)).toArray 5) = Y1 at *
      have b_W := bx
      have m_Y1 : W.heap.size ≤ Y1.heap.size := bx.size
      clear bx
      refine held_one 4 (by kernel_rfl) ?_
      refine step_call 4 _ _ (some 18) 42 #[.slice A1 enc.length c1, .agg (Lib.byteCells nonce).toArray, .slice (some ⟨W.heap.size, 0, none⟩) k k] (by rfl) (by kernel_rfl) (by first | kernel_rfl | go_simp) ?_
      refine (covered_any Y1.heap.size _ _ enc nonce (List.replicate k 0) Y1 (HE1.go b_W) (rZ.sl2 (List.length_replicate ..) (by unfold maxLen; omega)) (Nat.le_refl _) (HVA.go b_W) hnl hel (by simp; omega)).mono ?_
      rintro e Y2 ⟨v18, rfl, g18⟩
      have bx : Below Y1.heap.size Y1 Y2 := g18.2
      rw [covB_zeros] at g18
      replace b_W := Below.chain b_W bx
      have b_Y1 := bx
      have m_Y2 : Y1.heap.size ≤ Y2.heap.size := bx.size
      clear bx
      refine ⟨_, rfl, (HNR.go b_W).range, ?_⟩
      simp only [Act.put, List.setIfInBounds_toArray, List.set_cons_zero, List.set_cons_succ]
      refine held_value 5 _ _ (some 6) (v18) (by kernel_rfl) (by rfl) (by kernel_rfl) (fun w hS => by first | kernel_rfl | go_simp) (fun _ _ _ _ h => h) ((HNR.go b_W).range) ?_
      simp only [Act.put, List.setIfInBounds_toArray, List.set_cons_zero, List.set_cons_succ]
      refine held_value 6 _ _ (some 7) (.int .i64 0) (by kernel_rfl) (by rfl) (by kernel_rfl) (fun w hS => by first | kernel_rfl | go_simp) (fun _ _ _ _ h => h) ((HNR.go b_W).range) ?_
      simp only [Act.put, List.setIfInBounds_toArray, List.set_cons_zero, List.set_cons_succ]
      refine wpAnyH_done (by kernel_rfl) ?_ _
      have F : Shh (Gives w (strB enc nonce k) v18 Y2) := ⟨by unfold Gives; rw [hN]; exact ⟨own_base g18.1 (by omega), HBW.trans (b_W.mono (by omega))⟩⟩
      clear m_Y2 b_Y1 g18 m_Y1 b_W z_rZ rZ
      go_wp2
      go_ret2
      exact ⟨_, rfl, F.out⟩
end Go.Proofs.YtaalmjcpaiihhaaDoor
