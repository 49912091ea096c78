/-
 THE LAWS DringHints AND DringMends.
-/
import Derived.Test.YtapjiknedghhfaaDq6
import Derived.Test.YtapjiknedghhfaaDl1
namespace Go.Proofs.Ytapjiknedghhfaa
open Go.RowKit
set_option maxRecDepth 100000
theorem useD_32 (h : Nat → Bool) (r : Nat → Int) (i : Nat) : i32 (useD h r i) := by
 have h1 := decH_lt r i
 have h2 := nbD_lt (decH r i) (decL r i)
 unfold useD i32
 split <;> omega
set_option maxHeartbeats 8000000 in
theorem dringHints_law (z r : Nat → Int) (h : Nat → Bool) (hz : ∀ i, i < 256 → i32 (z i)) (hr : ∀ i, i < 256 → i32 (r i)) (w : World) : Calls Try.prog 6 #[polyD z, polyD r, .agg (hc h).toArray] w (TrueIs w) := by
 unfold TrueIs polyD
 have HLV : Shh (∀ W, Calls Try.prog 11 #[] W (TrueIs W)) := ⟨fun W => live15 W⟩
 have HA : Shh (∀ W, Calls Try.prog 35 #[.agg (dc z).toArray, .agg (dc r).toArray] W (HintIs W (mkH z r) (cntH (mkH z r) 256 : Int))) := ⟨fun W => MakeHint_any z r hz hr W⟩
 have HB : Shh (∀ W, Calls Try.prog 36 #[.agg (dc z).toArray, .agg (dc r).toArray] W (HintIs W (mkH z r) (cntH (mkH z r) 256 : Int))) := ⟨fun W => refMakeHint_any z r hz hr W⟩
 have HC : Shh (∀ W, Calls Try.prog 37 #[.agg (hc h).toArray, .agg (dc r).toArray] W (DPolyIs W (useD h r))) := ⟨fun W => UseHint_any h r hr W⟩
 have HD : Shh (∀ W, Calls Try.prog 38 #[.agg (hc h).toArray, .agg (dc r).toArray] W (DPolyIs W (useD h r))) := ⟨fun W => refUseHint_any h r hr W⟩
 have HE1 := Shh.mk (eq_hint (mkH z r))
 have HE2 := Shh.mk (eq_dpoly (useD h r) fun i _ => useD_32 h r i)
 clear hz hr
 generalize (cntH (mkH z r) 256 : Int) = n at *
 generalize mkH z r = b at *
 generalize useD h r = u at *
 generalize hN : w.heap.size = N at *
 have FA : Shh (Row (((w.alloc (.cells (dc z).toArray 23)).alloc (.cells (dc r).toArray 23)).alloc (.cells (hc h).toArray 33)) N 23 (dc z) ∧ Row (((w.alloc (.cells (dc z).toArray 23)).alloc (.cells (dc r).toArray 23)).alloc (.cells (hc h).toArray 33)) (N + 1) 23 (dc r) ∧ Row (((w.alloc (.cells (dc z).toArray 23)).alloc (.cells (dc r).toArray 23)).alloc (.cells (hc h).toArray 33)) (N + 2) 33 (hc h) ∧ Below N w (((w.alloc (.cells (dc z).toArray 23)).alloc (.cells (dc r).toArray 23)).alloc (.cells (hc h).toArray 33))) := by
  refine ⟨(((Row.new_ hN.symm rfl).alloc _).alloc _), ((Row.new_ (by rw [asz, hN]) rfl).alloc _), (Row.new_ (by rw [asz, asz, hN]) rfl), ?_⟩
  rw [← hN]
  exact Below.chain (Below.chain (belA _ _) (belA _ _)) (belA _ _)
 go_enter Try.func6, Try.ntmps6
 go_wp2_with (first | refine wpList_load_any rfl 23 (.tmp 3) rfl N rfl 23 (dc z) (.array 256 21) FA.out.1 Try.underlying23 rfl (info_dD.trans (size_dc _)) ?_ | refine wpList_load_any rfl 23 (.tmp 4) rfl (N + 1) rfl 23 (dc r) (.array 256 21) FA.out.2.1 Try.underlying23 rfl (info_dD.trans (size_dc _)) ?_ | (go_at_call 35; refine (HA.out _).mono ?_))
 rintro e w1 ⟨rfl, b2⟩
 have FB : Shh (Row w1 N 23 (dc z) ∧ Row w1 (N + 1) 23 (dc r) ∧ Row w1 (N + 2) 33 (hc h) ∧ Below N w w1) := by
  obtain ⟨h0, h1, h2, h3⟩ := FA.out
  have := h0.lt
  have := h1.lt
  have := h2.lt
  have := b2.size
  exact ⟨h0.go b2, h1.go b2, h2.go b2, h3.trans (b2.mono (by omega))⟩
 clear b2 FA HA
 go_wp2_with (first | refine wl_newdH 7 (b) rfl rfl rfl rfl rfl rfl rfl rfl ?_)
 intro G7 w4 hG7 r5 b3
 try simp only [Act.put, arr9, hd9, tl9]
 have FC : Shh (Row w4 N 23 (dc z) ∧ Row w4 (N + 1) 23 (dc r) ∧ Row w4 (N + 2) 33 (hc h) ∧ Below N w w4 ∧ Row w4 G7 33 (hc b)) := by
  obtain ⟨h0, h1, h2, h3⟩ := FB.out
  have := h0.lt
  have := h1.lt
  have := h2.lt
  have := b3.size
  have := hG7.out
  exact ⟨h0.go b3, h1.go b3, h2.go b3, h3.trans (b3.mono (by omega)), r5⟩
 clear b3 FB r5 hG7
 go_wp2_with (first | refine wpList_load_any rfl 23 (.tmp 3) rfl N rfl 23 (dc z) (.array 256 21) FC.out.1 Try.underlying23 rfl (info_dD.trans (size_dc _)) ?_ | refine wpList_load_any rfl 23 (.tmp 4) rfl (N + 1) rfl 23 (dc r) (.array 256 21) FC.out.2.1 Try.underlying23 rfl (info_dD.trans (size_dc _)) ?_ | (go_at_call 36; refine (HB.out _).mono ?_))
 rintro e w6 ⟨rfl, b7⟩
 have FD : Shh (Row w6 N 23 (dc z) ∧ Row w6 (N + 1) 23 (dc r) ∧ Row w6 (N + 2) 33 (hc h) ∧ Below N w w6 ∧ Row w6 G7 33 (hc b)) := by
  obtain ⟨h0, h1, h2, h3, h4⟩ := FC.out
  have := h0.lt
  have := h1.lt
  have := h2.lt
  have := h4.lt
  have := b7.size
  exact ⟨h0.go b7, h1.go b7, h2.go b7, h3.trans (b7.mono (by omega)), h4.go b7⟩
 clear b7 FC HB
 go_wp2_with (first | refine wl_newdH 9 (b) rfl rfl rfl rfl rfl rfl rfl rfl ?_)
 intro G9 w9 hG9 r10 b8
 try simp only [Act.put, arr9, hd9, tl9]
 have FE : Shh (Row w9 N 23 (dc z) ∧ Row w9 (N + 1) 23 (dc r) ∧ Row w9 (N + 2) 33 (hc h) ∧ Below N w w9 ∧ Row w9 G7 33 (hc b) ∧ Row w9 G9 33 (hc b)) := by
  obtain ⟨h0, h1, h2, h3, h4⟩ := FD.out
  have := h0.lt
  have := h1.lt
  have := h2.lt
  have := h4.lt
  have := b8.size
  have := hG9.out
  exact ⟨h0.go b8, h1.go b8, h2.go b8, h3.trans (b8.mono (by omega)), h4.go b8, r10⟩
 clear b8 FD r10 hG9
 go_wp2
 refine wp_region_held_drew (S := fun w' => Row w' G7 33 (hc b) ∧ Row w' G9 33 (hc b) ∧ Row w' (N + 2) 33 (hc h) ∧ Row w' (N + 1) 23 (dc r)) (by kernel_rfl) ⟨FE.out.2.2.2.2.1.drew, FE.out.2.2.2.2.2.drew, FE.out.2.2.1.drew, FE.out.2.1.drew⟩ (fun hS => ?_)
 clear hS
 obtain ⟨X11, hX11⟩ : ∃ V, V = World.drew w9 := ⟨_, rfl⟩
 rw [← hX11]
 have FF : Shh (Row X11 N 23 (dc z) ∧ Row X11 (N + 1) 23 (dc r) ∧ Row X11 (N + 2) 33 (hc h) ∧ Below N w X11 ∧ Row X11 G7 33 (hc b) ∧ Row X11 G9 33 (hc b)) := by
  obtain ⟨h0, h1, h2, h3, h4, h5⟩ := FE.out
  rw [hX11]
  exact ⟨h0.drew, h1.drew, h2.drew, h3.drew, h4.drew, h5.drew⟩
 clear hX11 FE
 refine held_one 0 (by kernel_rfl) ?_
 refine step_call 0 _ _ (some 23) 11 #[] (by rfl) (by kernel_rfl) (by first | kernel_rfl | go_simp) ?_
 refine (HLV.out X11).mono ?_
 rintro e w13 ⟨rfl, b12⟩
 have FG : Shh (Row w13 N 23 (dc z) ∧ Row w13 (N + 1) 23 (dc r) ∧ Row w13 (N + 2) 33 (hc h) ∧ Below N w w13 ∧ Row w13 G7 33 (hc b) ∧ Row w13 G9 33 (hc b)) := by
  obtain ⟨h0, h1, h2, h3, h4, h5⟩ := FF.out
  have := h0.lt
  have := h1.lt
  have := h2.lt
  have := h4.lt
  have := h5.lt
  have := b12.size
  exact ⟨h0.go b12, h1.go b12, h2.go b12, h3.trans (b12.mono (by omega)), h4.go b12, h5.go b12⟩
 clear b12 FF
 refine ⟨_, rfl, ⟨FG.out.2.2.2.2.1, FG.out.2.2.2.2.2, FG.out.2.2.1, FG.out.2.1⟩, ?_⟩
 simp only [Act.put, arr9, hd9, tl9]
 refine hdv0 1 24 (.bool true) (by rfl) ⟨FG.out.2.2.2.2.1, FG.out.2.2.2.2.2, FG.out.2.2.1, FG.out.2.1⟩ ?_
 refine held_load 2 33 (.tmp 7) (some 25) (by kernel_rfl) (by rfl) (by kernel_rfl) (G7) 0 (by kernel_rfl) (hc b) _ (fun w h => h.1.range) Try.underlying33 rfl (info_dH.trans (size_hc _)) (fun _ _ _ _ h => h) ⟨FG.out.2.2.2.2.1, FG.out.2.2.2.2.2, FG.out.2.2.1, FG.out.2.1⟩ ?_
 simp only [Act.put, arr9, hd9, tl9]
 refine held_load 3 33 (.tmp 9) (some 26) (by kernel_rfl) (by rfl) (by kernel_rfl) (G9) 0 (by kernel_rfl) (hc b) _ (fun w h => h.2.1.range) Try.underlying33 rfl (info_dH.trans (size_hc _)) (fun _ _ _ _ h => h) ⟨FG.out.2.2.2.2.1, FG.out.2.2.2.2.2, FG.out.2.2.1, FG.out.2.1⟩ ?_
 simp only [Act.put, arr9, hd9, tl9]
 refine hdv 4 27 (.bool true) (by rfl) (fun w hS => run_eql_agg (by kernel_rfl) (HE1.out w) (by kernel_rfl) (by kernel_rfl)) ⟨FG.out.2.2.2.2.1, FG.out.2.2.2.2.2, FG.out.2.2.1, FG.out.2.1⟩ ?_
 refine hdv0 5 28 (.bool true) (by rfl) ⟨FG.out.2.2.2.2.1, FG.out.2.2.2.2.2, FG.out.2.2.1, FG.out.2.1⟩ ?_
 refine hdv0 6 29 (.bool true) (by rfl) ⟨FG.out.2.2.2.2.1, FG.out.2.2.2.2.2, FG.out.2.2.1, FG.out.2.1⟩ ?_
 refine hdv0 7 30 (.int .i64 n) (by rfl) ⟨FG.out.2.2.2.2.1, FG.out.2.2.2.2.2, FG.out.2.2.1, FG.out.2.1⟩ ?_
 refine hdv0 8 31 (.int .i64 n) (by rfl) ⟨FG.out.2.2.2.2.1, FG.out.2.2.2.2.2, FG.out.2.2.1, FG.out.2.1⟩ ?_
 refine hdv 9 32 (.bool true) (by rfl) (fun w hS => eql_n (i := n) (j := n) true (by simp) rfl (by kernel_rfl) (by kernel_rfl)) ⟨FG.out.2.2.2.2.1, FG.out.2.2.2.2.2, FG.out.2.2.1, FG.out.2.1⟩ ?_
 refine hdv0 10 33 (.bool true) (by rfl) ⟨FG.out.2.2.2.2.1, FG.out.2.2.2.2.2, FG.out.2.2.1, FG.out.2.1⟩ ?_
 refine hdv0 11 34 (.bool true) (by rfl) ⟨FG.out.2.2.2.2.1, FG.out.2.2.2.2.2, FG.out.2.2.1, FG.out.2.1⟩ ?_
 refine held_load 12 33 (.tmp 5) (some 35) (by kernel_rfl) (by rfl) (by kernel_rfl) ((N + 2)) 0 (by kernel_rfl) (hc h) _ (fun w h => h.2.2.1.range) Try.underlying33 rfl (info_dH.trans (size_hc _)) (fun _ _ _ _ h => h) ⟨FG.out.2.2.2.2.1, FG.out.2.2.2.2.2, FG.out.2.2.1, FG.out.2.1⟩ ?_
 simp only [Act.put, arr9, hd9, tl9]
 refine held_load 13 23 (.tmp 4) (some 36) (by kernel_rfl) (by rfl) (by kernel_rfl) ((N + 1)) 0 (by kernel_rfl) (dc r) _ (fun w h => h.2.2.2.range) Try.underlying23 rfl (info_dD.trans (size_dc _)) (fun _ _ _ _ h => h) ⟨FG.out.2.2.2.2.1, FG.out.2.2.2.2.2, FG.out.2.2.1, FG.out.2.1⟩ ?_
 simp only [Act.put, arr9, hd9, tl9]
 refine held_load 15 33 (.tmp 5) (some 38) (by kernel_rfl) (by rfl) (by kernel_rfl) ((N + 2)) 0 (by kernel_rfl) (hc h) _ (fun w h => h.2.2.1.range) Try.underlying33 rfl (info_dH.trans (size_hc _)) (fun _ _ _ _ h => h) ⟨FG.out.2.2.2.2.1, FG.out.2.2.2.2.2, FG.out.2.2.1, FG.out.2.1⟩ ?_
 simp only [Act.put, arr9, hd9, tl9]
 refine held_load 16 23 (.tmp 4) (some 39) (by kernel_rfl) (by rfl) (by kernel_rfl) ((N + 1)) 0 (by kernel_rfl) (dc r) _ (fun w h => h.2.2.2.range) Try.underlying23 rfl (info_dD.trans (size_dc _)) (fun _ _ _ _ h => h) ⟨FG.out.2.2.2.2.1, FG.out.2.2.2.2.2, FG.out.2.2.1, FG.out.2.1⟩ ?_
 simp only [Act.put, arr9, hd9, tl9]
 refine held_one 14 (by kernel_rfl) ?_
 refine step_call 14 _ _ (some 37) 37 #[.agg (hc h).toArray, .agg (dc r).toArray] (by rfl) (by kernel_rfl) (by first | kernel_rfl | go_simp) ?_
 refine (HC.out w13).mono ?_
 rintro e w15 ⟨rfl, b14⟩
 have FH : Shh (Row w15 N 23 (dc z) ∧ Row w15 (N + 1) 23 (dc r) ∧ Row w15 (N + 2) 33 (hc h) ∧ Below N w w15 ∧ Row w15 G7 33 (hc b) ∧ Row w15 G9 33 (hc b)) := by
  obtain ⟨h0, h1, h2, h3, h4, h5⟩ := FG.out
  have := h0.lt
  have := h1.lt
  have := h2.lt
  have := h4.lt
  have := h5.lt
  have := b14.size
  exact ⟨h0.go b14, h1.go b14, h2.go b14, h3.trans (b14.mono (by omega)), h4.go b14, h5.go b14⟩
 clear b14 FG
 refine ⟨_, rfl, ⟨FH.out.2.2.2.2.1, FH.out.2.2.2.2.2, FH.out.2.2.1, FH.out.2.1⟩, ?_⟩
 simp only [Act.put, arr9, hd9, tl9]
 refine held_one 17 (by kernel_rfl) ?_
 refine step_call 17 _ _ (some 40) 38 #[.agg (hc h).toArray, .agg (dc r).toArray] (by rfl) (by kernel_rfl) (by first | kernel_rfl | go_simp) ?_
 refine (HD.out w15).mono ?_
 rintro e w17 ⟨rfl, b16⟩
 have FI : Shh (Row w17 N 23 (dc z) ∧ Row w17 (N + 1) 23 (dc r) ∧ Row w17 (N + 2) 33 (hc h) ∧ Below N w w17 ∧ Row w17 G7 33 (hc b) ∧ Row w17 G9 33 (hc b)) := by
  obtain ⟨h0, h1, h2, h3, h4, h5⟩ := FH.out
  have := h0.lt
  have := h1.lt
  have := h2.lt
  have := h4.lt
  have := h5.lt
  have := b16.size
  exact ⟨h0.go b16, h1.go b16, h2.go b16, h3.trans (b16.mono (by omega)), h4.go b16, h5.go b16⟩
 clear b16 FH
 refine ⟨_, rfl, ⟨FI.out.2.2.2.2.1, FI.out.2.2.2.2.2, FI.out.2.2.1, FI.out.2.1⟩, ?_⟩
 simp only [Act.put, arr9, hd9, tl9]
 refine hdv 18 41 (.bool true) (by rfl) (fun w hS => run_eql_agg (by kernel_rfl) (HE2.out w) (by kernel_rfl) (by kernel_rfl)) ⟨FI.out.2.2.2.2.1, FI.out.2.2.2.2.2, FI.out.2.2.1, FI.out.2.1⟩ ?_
 refine hdv0 19 42 (.bool true) (by rfl) ⟨FI.out.2.2.2.2.1, FI.out.2.2.2.2.2, FI.out.2.2.1, FI.out.2.1⟩ ?_
 refine hdv0 20 6 (.bool true) (by rfl) ⟨FI.out.2.2.2.2.1, FI.out.2.2.2.2.2, FI.out.2.2.1, FI.out.2.1⟩ ?_
 refine wpAnyH_done (by kernel_rfl) ?_ _
 go_wp2
 go_ret
 exact ⟨rfl, FI.out.2.2.2.1⟩
/-- a hint mends the high part -/
theorem mends (z r : Nat → Int) (h : normD z ≤ 261888) (k : Nat) (hk : k < 256) : useD (mkH z r) r k = decH (addD r z) k := by
 have hz := le_mxD (centD z) k 256 hk
 have hz2 : -261888 ≤ centD z k ∧ centD z k ≤ 261888 := by unfold normD at h; omega
 have e1 : addD r z k = qd (redD r k + centD z k) := by
  refine qd_of (((qM_qd (r k)).symm).add ?_)
  unfold centD redD qd qM
  split <;> omega
 have hx := qd_lt (r k)
 have hx2 : redD r k = qd (r k) := rfl
 have e2 : redD (addD r z) k = addD r z k := qd_qd _
 unfold useD mkH
 by_cases e : decH r k = decH (addD r z) k
 ·rw [e]
  simp
 ·have hb : (decH r k != decH (addD r z) k) = true := by simpa using e
  rw [if_pos hb]
  clear hb
  unfold decH decL nbD at *
  rw [e2, e1] at *
  rw [← hx2] at hx
  generalize redD r k = x at *
  generalize centD z k = c at *
  clear h hz hx2 e2 e1
  have h1 := highS_523776 x
  have h2 := lowS_523776 x
  have h3 := highS_523776 (qd (x + c))
  have h4 := lowS_523776 (qd (x + c))
  have h5 : qd (x + c) = x + c ∨ qd (x + c) = x + c + 8380417 ∨ qd (x + c) = x + c - 8380417 := by unfold qd; omega
  have h6 := qd_lt (x + c)
  generalize qd (x + c) = y at *
  generalize highS 523776 x = hx1 at *
  generalize lowS 523776 x = lx at *
  generalize highS 523776 y = hy1 at *
  generalize lowS 523776 y = ly at *
  split at e <;> split at e <;> split <;> (try omega)
  all_goals (split <;> omega)
set_option maxHeartbeats 8000000 in
theorem dringMends_law (z r : Nat → Int) (hz : ∀ i, i < 256 → i32 (z i)) (hr : ∀ i, i < 256 → i32 (r i)) (w : World) : Calls Try.prog 10 #[polyD z, polyD r] w (TrueIs w) := by
 unfold TrueIs polyD
 have HLV : Shh (∀ W, Calls Try.prog 11 #[] W (TrueIs W)) := ⟨fun W => live15 W⟩
 have HNM : Shh (∀ W, Calls Try.prog 16 #[.agg (dc z).toArray] W (I32Bl W (normD z))) := ⟨fun W => Norm_any z hz W⟩
 have HA : Shh (∀ W, Calls Try.prog 35 #[.agg (dc z).toArray, .agg (dc r).toArray] W (HintIs W (mkH z r) (cntH (mkH z r) 256 : Int))) := ⟨fun W => MakeHint_any z r hz hr W⟩
 have HAD : Shh (∀ W, Calls Try.prog 18 #[.agg (dc r).toArray, .agg (dc z).toArray] W (DPolyIs W (addD r z))) := ⟨fun W => Add_any r z hr hz W⟩
 have HD2 : Shh (∀ W, Calls Try.prog 33 #[.agg (dc (addD r z)).toArray] W (TwoIs W (decH (addD r z)) (decL (addD r z)))) := ⟨fun W => Decompose_any (addD r z) (fun i _ => addD_32 r z i) W⟩
 have HC : Shh (∀ W, Calls Try.prog 37 #[.agg (hc (mkH z r)).toArray, .agg (dc r).toArray] W (DPolyIs W (useD (mkH z r) r))) := ⟨fun W => UseHint_any _ r hr W⟩
 have HEQ : Shh (normD z ≤ 261888 → ∀ W, (Op.equalIn 10000 23 (.agg (dc (useD (mkH z r) r)).toArray) (.agg (dc (decH (addD r z))).toArray)).run Try.prog W = .ok true W) := ⟨fun h W => by
  rw [show dc (useD (mkH z r) r) = dc (decH (addD r z)) from dc_of fun i hi => mends z r h i hi]
  exact eq_dpoly _ (fun i _ => decH_32 _ i) W⟩
 clear hz hr
 generalize useD (mkH z r) r = u at *
 generalize decH (addD r z) = eh at *
 generalize decL (addD r z) = el at *
 generalize addD r z = sm at *
 generalize mkH z r = b at *
 generalize normD z = nz at *
 have HM0 : Shh (cntH b 0 = 0) := ⟨rfl⟩
 have HM1 : Shh (∀ k, cntH b (k + 1) = if b k then cntH b k + 1 else cntH b k) := ⟨fun _ => rfl⟩
 have HML := Shh.mk (cntH_le b)
 generalize cntH b = m at *
 generalize hN : w.heap.size = N at *
 have FA : Shh (Row ((w.alloc (.cells (dc z).toArray 23)).alloc (.cells (dc r).toArray 23)) N 23 (dc z) ∧ Row ((w.alloc (.cells (dc z).toArray 23)).alloc (.cells (dc r).toArray 23)) (N + 1) 23 (dc r) ∧ Below N w ((w.alloc (.cells (dc z).toArray 23)).alloc (.cells (dc r).toArray 23))) := by
  refine ⟨((Row.new_ hN.symm rfl).alloc _), (Row.new_ (by rw [asz, hN]) rfl), ?_⟩
  rw [← hN]
  exact Below.chain (belA _ _) (belA _ _)
 go_enter Try.func10, Try.ntmps10
 go_wp2_with (first | (go_at_call 11; refine (HLV.out _).mono ?_))
 rintro e w1 ⟨rfl, b2⟩
 have FB : Shh (Row w1 N 23 (dc z) ∧ Row w1 (N + 1) 23 (dc r) ∧ Below N w w1) := by
  obtain ⟨h0, h1, h2⟩ := FA.out
  have := h0.lt
  have := h1.lt
  have := b2.size
  exact ⟨h0.go b2, h1.go b2, h2.trans (b2.mono (by omega))⟩
 clear b2 FA
 go_wp2_with (first | refine wl_loadW 23 (.tmp 2) rfl N rfl 23 (dc z) _ (by kernel_rfl) FB.out.1 Try.underlying23 rfl (info_dD.trans (size_dc _)) ?_ | (go_at_call 16; refine (HNM.out _).mono ?_))
 rintro e w3 ⟨rfl, b4⟩
 have FC : Shh (Row w3 N 23 (dc z) ∧ Row w3 (N + 1) 23 (dc r) ∧ Below N w w3) := by
  obtain ⟨h0, h1, h2⟩ := FB.out
  have := h0.lt
  have := h1.lt
  have := b4.size
  exact ⟨h0.go b4, h1.go b4, h2.trans (b4.mono (by omega))⟩
 clear b4 FB HNM
 by_cases hn : 261888 < nz
 ·have HN1 : Shh (decide (261888 < nz) = true) := ⟨by simpa using hn⟩
  clear hn HEQ
  go_wp2_with (first | refine wl_atW 16 rfl (.bool true) (by kernel_rfl) (gtr_d true HN1.out rfl rfl rfl) ?_ | (go_at_call 11; refine (HLV.out _).mono ?_))
  rintro e w5 ⟨rfl, b6⟩
  have FD : Shh (Row w5 N 23 (dc z) ∧ Row w5 (N + 1) 23 (dc r) ∧ Below N w w5) := by
   obtain ⟨h0, h1, h2⟩ := FC.out
   have := h0.lt
   have := h1.lt
   have := b6.size
   exact ⟨h0.go b6, h1.go b6, h2.trans (b6.mono (by omega))⟩
  clear b6 FC
  go_wp2
  go_ret
  exact ⟨rfl, FD.out.2.2⟩
 ·have HN1 : Shh (decide (261888 < nz) = false) := ⟨by simpa using hn⟩
  have HE := Shh.mk (HEQ.out (by omega))
  clear hn HEQ
  go_wp2_with (first | refine wl_atW 16 rfl (.bool false) (by kernel_rfl) (gtr_d false HN1.out rfl rfl rfl) ?_ | refine wpList_load_any rfl 23 (.tmp 2) rfl N rfl 23 (dc z) (.array 256 21) FC.out.1 Try.underlying23 rfl (info_dD.trans (size_dc _)) ?_ | refine wpList_load_any rfl 23 (.tmp 3) rfl (N + 1) rfl 23 (dc r) (.array 256 21) FC.out.2.1 Try.underlying23 rfl (info_dD.trans (size_dc _)) ?_)
  go_wp2_with (first | (go_at_call 35; refine (HA.out _).mono ?_))
  rintro e w5 ⟨rfl, b6⟩
  have FD : Shh (Row w5 N 23 (dc z) ∧ Row w5 (N + 1) 23 (dc r) ∧ Below N w w5) := by
   obtain ⟨h0, h1, h2⟩ := FC.out
   have := h0.lt
   have := h1.lt
   have := b6.size
   exact ⟨h0.go b6, h1.go b6, h2.trans (b6.mono (by omega))⟩
  clear b6 FC HA
  go_wp2_with (first | refine wl_newdH 5 (b) rfl rfl rfl rfl rfl rfl rfl rfl ?_)
  intro G5 w8 hG5 r9 b7
  try simp only [Act.put, arr9, hd9, tl9]
  have FE : Shh (Row w8 N 23 (dc z) ∧ Row w8 (N + 1) 23 (dc r) ∧ Below N w w8 ∧ Row w8 G5 33 (hc b)) := by
   obtain ⟨h0, h1, h2⟩ := FD.out
   have := h0.lt
   have := h1.lt
   have := b7.size
   have := hG5.out
   exact ⟨h0.go b7, h1.go b7, h2.trans (b7.mono (by omega)), r9⟩
  clear b7 FD r9 hG5
  go_wp2_with (first | refine wpList_load_any rfl 23 (.tmp 3) rfl (N + 1) rfl 23 (dc r) (.array 256 21) FE.out.2.1 Try.underlying23 rfl (info_dD.trans (size_dc _)) ?_ | refine wpList_load_any rfl 23 (.tmp 2) rfl N rfl 23 (dc z) (.array 256 21) FE.out.1 Try.underlying23 rfl (info_dD.trans (size_dc _)) ?_ | (go_at_call 18; refine (HAD.out _).mono ?_))
  rintro e w10 ⟨rfl, b11⟩
  have FF : Shh (Row w10 N 23 (dc z) ∧ Row w10 (N + 1) 23 (dc r) ∧ Below N w w10 ∧ Row w10 G5 33 (hc b)) := by
   obtain ⟨h0, h1, h2, h3⟩ := FE.out
   have := h0.lt
   have := h1.lt
   have := h3.lt
   have := b11.size
   exact ⟨h0.go b11, h1.go b11, h2.trans (b11.mono (by omega)), h3.go b11⟩
  clear b11 FE HAD
  go_wp2_with (first | (go_at_call 33; refine (HD2.out _).mono ?_))
  rintro e w12 ⟨rfl, b13⟩
  have FG : Shh (Row w12 N 23 (dc z) ∧ Row w12 (N + 1) 23 (dc r) ∧ Below N w w12 ∧ Row w12 G5 33 (hc b)) := by
   obtain ⟨h0, h1, h2, h3⟩ := FF.out
   have := h0.lt
   have := h1.lt
   have := h3.lt
   have := b13.size
   exact ⟨h0.go b13, h1.go b13, h2.trans (b13.mono (by omega)), h3.go b13⟩
  clear b13 FF HD2
  go_wp2_with (first | refine wl_new2 7 8 (eh) (el) rfl rfl rfl rfl rfl rfl rfl rfl rfl rfl rfl rfl rfl rfl rfl rfl ?_)
  intro G7 G8 w15 hG7 hG8 r16 q17 b14
  try simp only [Act.put, arr9, hd9, tl9]
  have FH : Shh (Row w15 N 23 (dc z) ∧ Row w15 (N + 1) 23 (dc r) ∧ Below N w w15 ∧ Row w15 G5 33 (hc b) ∧ Row w15 G7 23 (dc eh) ∧ Row w15 G8 23 (dc el)) := by
   obtain ⟨h0, h1, h2, h3⟩ := FG.out
   have := h0.lt
   have := h1.lt
   have := h3.lt
   have := b14.size
   have := hG7.out
   have := hG8.out
   exact ⟨h0.go b14, h1.go b14, h2.trans (b14.mono (by omega)), h3.go b14, r16, q17⟩
  clear b14 FG r16 q17 hG7 hG8
  go_wp2
  go_loopw [9, 32] (fun c i wr => ∃ k : Nat, k ≤ 256 ∧ i = .int .i64 (k : Int) ∧ c = .int .i64 (m k : Int) ∧ Shh (Row wr N 23 (dc z) ∧ Row wr (N + 1) 23 (dc r) ∧ Below N w wr ∧ Row wr G5 33 (hc b) ∧ Row wr G7 23 (dc eh) ∧ Row wr G8 23 (dc el))) (fun _ i _ => 256 - (intOf i).toNat)
  case atStart => exact ⟨0, Nat.zero_le _, rfl, by rw [HM0.out]; rfl, FH⟩
  case round =>
   clear FH
   obtain ⟨k, hk, rfl, rfl, HI⟩ := hrel
   by_cases hlt : k < 256
   ·have HG0 := Shh.mk (hc_get b hlt)
    have HMK := HM1.out k
    have HLK := HML.out k
    generalize hMN : m (k + 1) = m1 at *
    have HMN := Shh.mk hMN
    clear hMN
    generalize m k = mk at *
    generalize b k = bk at *
    have hlt2 : (k : Int) < 256 := by omega
    have HL0 := Shh.mk ((HI.out.2.2.2.1.cell k).trans HG0.out)
    cases bk
    ·have HME : Shh (m1 = mk) := ⟨by have h := HMK; rw [if_neg (by decide)] at h; exact h⟩
     clear HMK HLK
     go_wp2_with (first | refine wl_at 36 rfl (.pointer (some ⟨G5, k, none⟩)) rfl (at_dH hlt rfl rfl rfl) ?_ | refine wl_at 37 rfl (.bool false) rfl (load_b rfl HL0.out rfl) ?_)
     go_roundw
     case rel => exact ⟨k + 1, by omega, by go_num, by rw [HMN.out, HME.out], HI⟩
     case measure => simp [intOf]; omega
    ·have HAD : Shh ((m1 : Int) = (mk : Int) + 1 ∧ -9223372036854775808 ≤ (m1 : Int) ∧ (m1 : Int) ≤ 9223372036854775807) := ⟨by have h := HMK; rw [if_pos rfl] at h; omega⟩
     clear HMK HLK
     go_wp2_with (first | refine wl_at 36 rfl (.pointer (some ⟨G5, k, none⟩)) rfl (at_dH hlt rfl rfl rfl) ?_ | refine wl_at 37 rfl (.bool true) rfl (load_b rfl HL0.out rfl) ?_ | refine wl_at 39 rfl (.int .i64 (m1 : Int)) rfl (add_n HAD.out rfl rfl rfl) ?_)
     go_roundw
     case rel => exact ⟨k + 1, by omega, by go_num, by rw [HMN.out], HI⟩
     case measure => simp [intOf]; omega
   ·have hlt2 : ¬ (k : Int) < 256 := by omega
    have e : k = 256 := by omega
    have HZ : Shh (((m 256 : Nat) : Int) == ((m k : Nat) : Int)) := ⟨by rw [e]; simp⟩
    clear e
    generalize (m k : Int) = mk at *
    generalize (m 256 : Int) = m2 at *
    go_wp2
    refine wp_region_held_drew (S := fun w' => Row w' G5 33 (hc b) ∧ Row w' (N + 1) 23 (dc r) ∧ Row w' G7 23 (dc eh)) (by kernel_rfl) ⟨HI.out.2.2.2.1.drew, HI.out.2.1.drew, HI.out.2.2.2.2.1.drew⟩ (fun hS => ?_)
    clear hS
    obtain ⟨X18, hX18⟩ : ∃ V, V = World.drew wr := ⟨_, rfl⟩
    rw [← hX18]
    have HJ : Shh (Row X18 N 23 (dc z) ∧ Row X18 (N + 1) 23 (dc r) ∧ Below N w X18 ∧ Row X18 G5 33 (hc b) ∧ Row X18 G7 23 (dc eh) ∧ Row X18 G8 23 (dc el)) := by
     obtain ⟨h0, h1, h2, h3, h4, h5⟩ := HI.out
     rw [hX18]
     exact ⟨h0.drew, h1.drew, h2.drew, h3.drew, h4.drew, h5.drew⟩
    clear hX18 HI
    refine held_load 0 33 (.tmp 5) (some 41) (by kernel_rfl) (by rfl) (by kernel_rfl) (G5) 0 (by kernel_rfl) (hc b) _ (fun w h => h.1.range) Try.underlying33 rfl (info_dH.trans (size_hc _)) (fun _ _ _ _ h => h) ⟨HJ.out.2.2.2.1, HJ.out.2.1, HJ.out.2.2.2.2.1⟩ ?_
    simp only [Act.put, arr9, hd9, tl9]
    refine held_load 1 23 (.tmp 3) (some 42) (by kernel_rfl) (by rfl) (by kernel_rfl) ((N + 1)) 0 (by kernel_rfl) (dc r) _ (fun w h => h.2.1.range) Try.underlying23 rfl (info_dD.trans (size_dc _)) (fun _ _ _ _ h => h) ⟨HJ.out.2.2.2.1, HJ.out.2.1, HJ.out.2.2.2.2.1⟩ ?_
    simp only [Act.put, arr9, hd9, tl9]
    refine held_load 3 23 (.tmp 7) (some 44) (by kernel_rfl) (by rfl) (by kernel_rfl) (G7) 0 (by kernel_rfl) (dc eh) _ (fun w h => h.2.2.range) Try.underlying23 rfl (info_dD.trans (size_dc _)) (fun _ _ _ _ h => h) ⟨HJ.out.2.2.2.1, HJ.out.2.1, HJ.out.2.2.2.2.1⟩ ?_
    simp only [Act.put, arr9, hd9, tl9]
    refine held_one 2 (by kernel_rfl) ?_
    refine step_call 2 _ _ (some 43) 37 #[.agg (hc b).toArray, .agg (dc r).toArray] (by rfl) (by kernel_rfl) (by first | kernel_rfl | go_simp) ?_
    refine (HC.out X18).mono ?_
    rintro e w20 ⟨rfl, b19⟩
    have HK : Shh (Row w20 N 23 (dc z) ∧ Row w20 (N + 1) 23 (dc r) ∧ Below N w w20 ∧ Row w20 G5 33 (hc b) ∧ Row w20 G7 23 (dc eh) ∧ Row w20 G8 23 (dc el)) := by
     obtain ⟨h0, h1, h2, h3, h4, h5⟩ := HJ.out
     have := h0.lt
     have := h1.lt
     have := h3.lt
     have := h4.lt
     have := h5.lt
     have := b19.size
     exact ⟨h0.go b19, h1.go b19, h2.trans (b19.mono (by omega)), h3.go b19, h4.go b19, h5.go b19⟩
    clear b19 HJ
    refine ⟨_, rfl, ⟨HK.out.2.2.2.1, HK.out.2.1, HK.out.2.2.2.2.1⟩, ?_⟩
    simp only [Act.put, arr9, hd9, tl9]
    refine hdv 4 45 (.bool true) (by rfl) (fun w hS => run_eql_agg (by kernel_rfl) (HE.out w) (by kernel_rfl) (by kernel_rfl)) ⟨HK.out.2.2.2.1, HK.out.2.1, HK.out.2.2.2.2.1⟩ ?_
    refine hdv0 5 46 (.bool true) (by rfl) ⟨HK.out.2.2.2.1, HK.out.2.1, HK.out.2.2.2.2.1⟩ ?_
    refine hdv0 6 47 (.int .i64 m2) (by rfl) ⟨HK.out.2.2.2.1, HK.out.2.1, HK.out.2.2.2.2.1⟩ ?_
    refine hdv0 7 48 (.int .i64 mk) (by rfl) ⟨HK.out.2.2.2.1, HK.out.2.1, HK.out.2.2.2.2.1⟩ ?_
    refine hdv 8 49 (.bool true) (by rfl) (fun w hS => eql_n true HZ.out rfl (by kernel_rfl) (by kernel_rfl)) ⟨HK.out.2.2.2.1, HK.out.2.1, HK.out.2.2.2.2.1⟩ ?_
    refine hdv0 9 50 (.bool true) (by rfl) ⟨HK.out.2.2.2.1, HK.out.2.1, HK.out.2.2.2.2.1⟩ ?_
    refine hdv0 10 4 (.bool true) (by rfl) ⟨HK.out.2.2.2.1, HK.out.2.1, HK.out.2.2.2.2.1⟩ ?_
    refine wpAnyH_done (by kernel_rfl) ?_ _
    go_wp2
    go_ret
    exact ⟨rfl, HK.out.2.2.1⟩
end Go.Proofs.Ytapjiknedghhfaa
