/-
 THE LAW DringNtts.
-/
import Derived.Test.YtapjiknedghhfaaDq7
import Derived.Test.YtapjiknedghhfaaDq12
import Derived.Test.YtapjiknedghhfaaDl1
namespace Go.Proofs.Ytapjiknedghhfaa
open Go.RowKit
set_option maxRecDepth 100000
set_option maxHeartbeats 8000000 in
theorem dringNtts_law (p p2 : Nat → Int) (hp : ∀ i, i < 256 → i32 (p i)) (hp2 : ∀ i, i < 256 → i32 (p2 i)) (w : World) : Calls Try.prog 4 #[polyD p, polyD p2] w (TrueIs w) := by
 unfold TrueIs polyD
 have HLV : Shh (∀ W, Calls Try.prog 11 #[] W (TrueIs W)) := ⟨fun W => live15 W⟩
 have C0 : Shh (∀ W, Calls Try.prog 24 #[.agg (dc p).toArray] W (DPolyIs W (nttD p))) := ⟨fun W => Ntt_any p hp W⟩
 have C1 : Shh (∀ W, Calls Try.prog 25 #[.agg (dc p).toArray] W (DPolyIs W (nttD p))) := ⟨fun W => Direct_any p hp W⟩
 have C2 : Shh (∀ W, Calls Try.prog 26 #[.agg (dc p).toArray] W (DPolyIs W (nttD p))) := ⟨fun W => refNtt_any p hp W⟩
 have C3 : Shh (∀ W, Calls Try.prog 27 #[.agg (dc p).toArray] W (DPolyIs W (invD p))) := ⟨fun W => Inv_any p hp W⟩
 have C4 : Shh (∀ W, Calls Try.prog 28 #[.agg (dc p).toArray] W (DPolyIs W (invD p))) := ⟨fun W => refInv_any p hp W⟩
 have C5 : Shh (∀ W, Calls Try.prog 29 #[.agg (dc p).toArray, .agg (dc p2).toArray] W (DPolyIs W (pairD p p2))) := ⟨fun W => MulNtt_any p p2 hp hp2 W⟩
 have C6 : Shh (∀ W, Calls Try.prog 30 #[.agg (dc p).toArray, .agg (dc p2).toArray] W (DPolyIs W (pairD p p2))) := ⟨fun W => refMulNtt_any p p2 hp hp2 W⟩
 have E1 := Shh.mk (eq_dpoly (nttD p) fun i _ => qd_32 _)
 have E2 := Shh.mk (eq_dpoly (invD p) fun i _ => qd_32 _)
 have E3 := Shh.mk (eq_dpoly (pairD p p2) fun i _ => qd_32 _)
 clear hp hp2
 generalize nttD p = nt at *
 generalize invD p = iv at *
 generalize pairD p p2 = pr at *
 generalize hN : w.heap.size = N at *
 have FA : Shh (Row ((w.alloc (.cells (dc p).toArray 23)).alloc (.cells (dc p2).toArray 23)) N 23 (dc p) ∧ Row ((w.alloc (.cells (dc p).toArray 23)).alloc (.cells (dc p2).toArray 23)) (N + 1) 23 (dc p2) ∧ Below N w ((w.alloc (.cells (dc p).toArray 23)).alloc (.cells (dc p2).toArray 23))) := by
  refine ⟨((Row.new_ hN.symm rfl).alloc _), (Row.new_ (by rw [asz, hN]) rfl), ?_⟩
  rw [← hN]
  exact Below.chain (belA _ _) (belA _ _)
 go_enter Try.func4, Try.ntmps4
 obtain ⟨W, hW⟩ : ∃ W, W = ((w.alloc (.cells (dc p).toArray 23)).alloc (.cells (dc p2).toArray 23)) := ⟨_, rfl⟩
 have FB : Shh (Row W N 23 (dc p) ∧ Row W (N + 1) 23 (dc p2) ∧ Below N w W) := by rw [hW]; exact FA
 clear FA
 go_wp2
 try simp only [asz, hN]
 rw [← hW]
 clear hW
 try simp only [Act.put, arr9, hd9, tl9]
 refine wp_region_held_drew (S := fun w' => Row w' N 23 (dc p) ∧ Row w' (N + 1) 23 (dc p2)) (by kernel_rfl) ⟨FB.out.1.drew, FB.out.2.1.drew⟩ (fun hS => ?_)
 clear hS
 obtain ⟨X1, hX1⟩ : ∃ V, V = World.drew W := ⟨_, rfl⟩
 rw [← hX1]
 have FC : Shh (Row X1 N 23 (dc p) ∧ Row X1 (N + 1) 23 (dc p2) ∧ Below N w X1) := by
  obtain ⟨h0, h1, h2⟩ := FB.out
  rw [hX1]
  exact ⟨h0.drew, h1.drew, h2.drew⟩
 clear hX1 FB
 refine held_one 0 (by kernel_rfl) ?_
 refine step_call 0 _ _ (some 5) 11 #[] (by rfl) (by kernel_rfl) (by first | kernel_rfl | go_simp) ?_
 refine (HLV.out X1).mono ?_
 rintro e w3 ⟨rfl, b2⟩
 have FD : Shh (Row w3 N 23 (dc p) ∧ Row w3 (N + 1) 23 (dc p2) ∧ Below N w w3) := by
  obtain ⟨h0, h1, h2⟩ := FC.out
  have := h0.lt
  have := h1.lt
  have := b2.size
  exact ⟨h0.go b2, h1.go b2, h2.trans (b2.mono (by omega))⟩
 clear b2 FC
 refine ⟨_, rfl, ⟨FD.out.1, FD.out.2.1⟩, ?_⟩
 simp only [Act.put, arr9, hd9, tl9]
 refine hdv0 1 6 (.bool true) (by rfl) ⟨FD.out.1, FD.out.2.1⟩ ?_
 refine held_load 2 23 (.tmp 2) (some 7) (by kernel_rfl) (by rfl) (by kernel_rfl) (N) 0 (by kernel_rfl) (dc p) _ (fun w h => h.1.range) Try.underlying23 rfl (info_dD.trans (size_dc _)) (fun _ _ _ _ h => h) ⟨FD.out.1, FD.out.2.1⟩ ?_
 simp only [Act.put, arr9, hd9, tl9]
 refine held_load 4 23 (.tmp 2) (some 9) (by kernel_rfl) (by rfl) (by kernel_rfl) (N) 0 (by kernel_rfl) (dc p) _ (fun w h => h.1.range) Try.underlying23 rfl (info_dD.trans (size_dc _)) (fun _ _ _ _ h => h) ⟨FD.out.1, FD.out.2.1⟩ ?_
 simp only [Act.put, arr9, hd9, tl9]
 refine held_one 3 (by kernel_rfl) ?_
 refine step_call 3 _ _ (some 8) 24 #[.agg (dc p).toArray] (by rfl) (by kernel_rfl) (by first | kernel_rfl | go_simp) ?_
 refine (C0.out w3).mono ?_
 rintro e w5 ⟨rfl, b4⟩
 have FE : Shh (Row w5 N 23 (dc p) ∧ Row w5 (N + 1) 23 (dc p2) ∧ Below N w w5) := by
  obtain ⟨h0, h1, h2⟩ := FD.out
  have := h0.lt
  have := h1.lt
  have := b4.size
  exact ⟨h0.go b4, h1.go b4, h2.trans (b4.mono (by omega))⟩
 clear b4 FD
 refine ⟨_, rfl, ⟨FE.out.1, FE.out.2.1⟩, ?_⟩
 simp only [Act.put, arr9, hd9, tl9]
 refine held_one 5 (by kernel_rfl) ?_
 refine step_call 5 _ _ (some 10) 25 #[.agg (dc p).toArray] (by rfl) (by kernel_rfl) (by first | kernel_rfl | go_simp) ?_
 refine (C1.out w5).mono ?_
 rintro e w7 ⟨rfl, b6⟩
 have FF : Shh (Row w7 N 23 (dc p) ∧ Row w7 (N + 1) 23 (dc p2) ∧ Below N w w7) := by
  obtain ⟨h0, h1, h2⟩ := FE.out
  have := h0.lt
  have := h1.lt
  have := b6.size
  exact ⟨h0.go b6, h1.go b6, h2.trans (b6.mono (by omega))⟩
 clear b6 FE
 refine ⟨_, rfl, ⟨FF.out.1, FF.out.2.1⟩, ?_⟩
 simp only [Act.put, arr9, hd9, tl9]
 refine hdv 6 11 (.bool true) (by rfl) (fun w hS => run_eql_agg (by kernel_rfl) (E1.out w) (by kernel_rfl) (by kernel_rfl)) ⟨FF.out.1, FF.out.2.1⟩ ?_
 refine hdv0 7 12 (.bool true) (by rfl) ⟨FF.out.1, FF.out.2.1⟩ ?_
 refine hdv0 8 13 (.bool true) (by rfl) ⟨FF.out.1, FF.out.2.1⟩ ?_
 refine held_load 9 23 (.tmp 2) (some 14) (by kernel_rfl) (by rfl) (by kernel_rfl) (N) 0 (by kernel_rfl) (dc p) _ (fun w h => h.1.range) Try.underlying23 rfl (info_dD.trans (size_dc _)) (fun _ _ _ _ h => h) ⟨FF.out.1, FF.out.2.1⟩ ?_
 simp only [Act.put, arr9, hd9, tl9]
 refine held_load 11 23 (.tmp 2) (some 16) (by kernel_rfl) (by rfl) (by kernel_rfl) (N) 0 (by kernel_rfl) (dc p) _ (fun w h => h.1.range) Try.underlying23 rfl (info_dD.trans (size_dc _)) (fun _ _ _ _ h => h) ⟨FF.out.1, FF.out.2.1⟩ ?_
 simp only [Act.put, arr9, hd9, tl9]
 refine held_one 10 (by kernel_rfl) ?_
 refine step_call 10 _ _ (some 15) 26 #[.agg (dc p).toArray] (by rfl) (by kernel_rfl) (by first | kernel_rfl | go_simp) ?_
 refine (C2.out w7).mono ?_
 rintro e w9 ⟨rfl, b8⟩
 have FG : Shh (Row w9 N 23 (dc p) ∧ Row w9 (N + 1) 23 (dc p2) ∧ Below N w w9) := by
  obtain ⟨h0, h1, h2⟩ := FF.out
  have := h0.lt
  have := h1.lt
  have := b8.size
  exact ⟨h0.go b8, h1.go b8, h2.trans (b8.mono (by omega))⟩
 clear b8 FF
 refine ⟨_, rfl, ⟨FG.out.1, FG.out.2.1⟩, ?_⟩
 simp only [Act.put, arr9, hd9, tl9]
 refine held_one 12 (by kernel_rfl) ?_
 refine step_call 12 _ _ (some 17) 25 #[.agg (dc p).toArray] (by rfl) (by kernel_rfl) (by first | kernel_rfl | go_simp) ?_
 refine (C1.out w9).mono ?_
 rintro e w11 ⟨rfl, b10⟩
 have FH : Shh (Row w11 N 23 (dc p) ∧ Row w11 (N + 1) 23 (dc p2) ∧ Below N w w11) := by
  obtain ⟨h0, h1, h2⟩ := FG.out
  have := h0.lt
  have := h1.lt
  have := b10.size
  exact ⟨h0.go b10, h1.go b10, h2.trans (b10.mono (by omega))⟩
 clear b10 FG
 refine ⟨_, rfl, ⟨FH.out.1, FH.out.2.1⟩, ?_⟩
 simp only [Act.put, arr9, hd9, tl9]
 refine hdv 13 18 (.bool true) (by rfl) (fun w hS => run_eql_agg (by kernel_rfl) (E1.out w) (by kernel_rfl) (by kernel_rfl)) ⟨FH.out.1, FH.out.2.1⟩ ?_
 refine hdv0 14 19 (.bool true) (by rfl) ⟨FH.out.1, FH.out.2.1⟩ ?_
 refine hdv0 15 20 (.bool true) (by rfl) ⟨FH.out.1, FH.out.2.1⟩ ?_
 refine held_load 16 23 (.tmp 2) (some 21) (by kernel_rfl) (by rfl) (by kernel_rfl) (N) 0 (by kernel_rfl) (dc p) _ (fun w h => h.1.range) Try.underlying23 rfl (info_dD.trans (size_dc _)) (fun _ _ _ _ h => h) ⟨FH.out.1, FH.out.2.1⟩ ?_
 simp only [Act.put, arr9, hd9, tl9]
 refine held_load 18 23 (.tmp 2) (some 23) (by kernel_rfl) (by rfl) (by kernel_rfl) (N) 0 (by kernel_rfl) (dc p) _ (fun w h => h.1.range) Try.underlying23 rfl (info_dD.trans (size_dc _)) (fun _ _ _ _ h => h) ⟨FH.out.1, FH.out.2.1⟩ ?_
 simp only [Act.put, arr9, hd9, tl9]
 refine held_one 17 (by kernel_rfl) ?_
 refine step_call 17 _ _ (some 22) 27 #[.agg (dc p).toArray] (by rfl) (by kernel_rfl) (by first | kernel_rfl | go_simp) ?_
 refine (C3.out w11).mono ?_
 rintro e w13 ⟨rfl, b12⟩
 have FI : Shh (Row w13 N 23 (dc p) ∧ Row w13 (N + 1) 23 (dc p2) ∧ Below N w w13) := by
  obtain ⟨h0, h1, h2⟩ := FH.out
  have := h0.lt
  have := h1.lt
  have := b12.size
  exact ⟨h0.go b12, h1.go b12, h2.trans (b12.mono (by omega))⟩
 clear b12 FH
 refine ⟨_, rfl, ⟨FI.out.1, FI.out.2.1⟩, ?_⟩
 simp only [Act.put, arr9, hd9, tl9]
 refine held_one 19 (by kernel_rfl) ?_
 refine step_call 19 _ _ (some 24) 28 #[.agg (dc p).toArray] (by rfl) (by kernel_rfl) (by first | kernel_rfl | go_simp) ?_
 refine (C4.out w13).mono ?_
 rintro e w15 ⟨rfl, b14⟩
 have FJ : Shh (Row w15 N 23 (dc p) ∧ Row w15 (N + 1) 23 (dc p2) ∧ Below N w w15) := by
  obtain ⟨h0, h1, h2⟩ := FI.out
  have := h0.lt
  have := h1.lt
  have := b14.size
  exact ⟨h0.go b14, h1.go b14, h2.trans (b14.mono (by omega))⟩
 clear b14 FI
 refine ⟨_, rfl, ⟨FJ.out.1, FJ.out.2.1⟩, ?_⟩
 simp only [Act.put, arr9, hd9, tl9]
 refine hdv 20 25 (.bool true) (by rfl) (fun w hS => run_eql_agg (by kernel_rfl) (E2.out w) (by kernel_rfl) (by kernel_rfl)) ⟨FJ.out.1, FJ.out.2.1⟩ ?_
 refine hdv0 21 26 (.bool true) (by rfl) ⟨FJ.out.1, FJ.out.2.1⟩ ?_
 refine hdv0 22 27 (.bool true) (by rfl) ⟨FJ.out.1, FJ.out.2.1⟩ ?_
 refine held_load 23 23 (.tmp 2) (some 28) (by kernel_rfl) (by rfl) (by kernel_rfl) (N) 0 (by kernel_rfl) (dc p) _ (fun w h => h.1.range) Try.underlying23 rfl (info_dD.trans (size_dc _)) (fun _ _ _ _ h => h) ⟨FJ.out.1, FJ.out.2.1⟩ ?_
 simp only [Act.put, arr9, hd9, tl9]
 refine held_load 24 23 (.tmp 3) (some 29) (by kernel_rfl) (by rfl) (by kernel_rfl) ((N + 1)) 0 (by kernel_rfl) (dc p2) _ (fun w h => h.2.range) Try.underlying23 rfl (info_dD.trans (size_dc _)) (fun _ _ _ _ h => h) ⟨FJ.out.1, FJ.out.2.1⟩ ?_
 simp only [Act.put, arr9, hd9, tl9]
 refine held_load 26 23 (.tmp 2) (some 31) (by kernel_rfl) (by rfl) (by kernel_rfl) (N) 0 (by kernel_rfl) (dc p) _ (fun w h => h.1.range) Try.underlying23 rfl (info_dD.trans (size_dc _)) (fun _ _ _ _ h => h) ⟨FJ.out.1, FJ.out.2.1⟩ ?_
 simp only [Act.put, arr9, hd9, tl9]
 refine held_load 27 23 (.tmp 3) (some 32) (by kernel_rfl) (by rfl) (by kernel_rfl) ((N + 1)) 0 (by kernel_rfl) (dc p2) _ (fun w h => h.2.range) Try.underlying23 rfl (info_dD.trans (size_dc _)) (fun _ _ _ _ h => h) ⟨FJ.out.1, FJ.out.2.1⟩ ?_
 simp only [Act.put, arr9, hd9, tl9]
 refine held_one 25 (by kernel_rfl) ?_
 refine step_call 25 _ _ (some 30) 29 #[.agg (dc p).toArray, .agg (dc p2).toArray] (by rfl) (by kernel_rfl) (by first | kernel_rfl | go_simp) ?_
 refine (C5.out w15).mono ?_
 rintro e w17 ⟨rfl, b16⟩
 have FK : Shh (Row w17 N 23 (dc p) ∧ Row w17 (N + 1) 23 (dc p2) ∧ Below N w w17) := by
  obtain ⟨h0, h1, h2⟩ := FJ.out
  have := h0.lt
  have := h1.lt
  have := b16.size
  exact ⟨h0.go b16, h1.go b16, h2.trans (b16.mono (by omega))⟩
 clear b16 FJ
 refine ⟨_, rfl, ⟨FK.out.1, FK.out.2.1⟩, ?_⟩
 simp only [Act.put, arr9, hd9, tl9]
 refine held_one 28 (by kernel_rfl) ?_
 refine step_call 28 _ _ (some 33) 30 #[.agg (dc p).toArray, .agg (dc p2).toArray] (by rfl) (by kernel_rfl) (by first | kernel_rfl | go_simp) ?_
 refine (C6.out w17).mono ?_
 rintro e w19 ⟨rfl, b18⟩
 have FL : Shh (Row w19 N 23 (dc p) ∧ Row w19 (N + 1) 23 (dc p2) ∧ Below N w w19) := by
  obtain ⟨h0, h1, h2⟩ := FK.out
  have := h0.lt
  have := h1.lt
  have := b18.size
  exact ⟨h0.go b18, h1.go b18, h2.trans (b18.mono (by omega))⟩
 clear b18 FK
 refine ⟨_, rfl, ⟨FL.out.1, FL.out.2.1⟩, ?_⟩
 simp only [Act.put, arr9, hd9, tl9]
 refine hdv 29 34 (.bool true) (by rfl) (fun w hS => run_eql_agg (by kernel_rfl) (E3.out w) (by kernel_rfl) (by kernel_rfl)) ⟨FL.out.1, FL.out.2.1⟩ ?_
 refine hdv0 30 35 (.bool true) (by rfl) ⟨FL.out.1, FL.out.2.1⟩ ?_
 refine hdv0 31 4 (.bool true) (by rfl) ⟨FL.out.1, FL.out.2.1⟩ ?_
 refine wpAnyH_done (by kernel_rfl) ?_ _
 go_wp2
 go_ret
 exact ⟨rfl, FL.out.2.2⟩
end Go.Proofs.Ytapjiknedghhfaa
