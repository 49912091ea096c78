/-
 THE LAW RingTurns.
-/
import Derived.Test.YtfcgdjgfdbcddaaRl1
import Derived.Test.YtfcgdjgfdbcddaaRp8
import Derived.Test.YtfcgdjgfdbcddaaRq9
namespace Go.Proofs.Ytfcgdjgfdbcddaa
open Go.RowKit
set_option maxRecDepth 100000
set_option maxHeartbeats 2000000 in
theorem ringTurns_law (p p2 : Nat → Nat) (hp : ∀ i, i < 256 → p i < 65536) (hp2 : ∀ i, i < 256 → p2 i < 65536) (w : World) : Calls Try.prog 10 #[polyV p, polyV p2] w (TrueIs w) := by
 unfold TrueIs
 have HLV : Shh (∀ W, Calls Try.prog 13 #[] W (TrueIs W)) := ⟨live13⟩
 have bN : ∀ q : Nat → Nat, ∀ i, i < 256 → nttN q i < 65536 := fun q i _ => rd_16 _
 have bM : ∀ q r : Nat → Nat, ∀ i, i < 256 → mulN q r i < 65536 := fun q r i _ => rd_16 _
 have bA : ∀ q r : Nat → Nat, ∀ i, i < 256 → addN q r i < 65536 := fun q r i _ => rd_16 _
 have bP : ∀ q r : Nat → Nat, ∀ i, i < 256 → pairN q r i < 65536 := fun q r i _ => rd_16 _
 obtain ⟨x, Hx⟩ : ∃ r, Shh (r = nttN p) := ⟨_, ⟨rfl⟩⟩
 obtain ⟨y, Hy⟩ : ∃ r, Shh (r = nttN p2) := ⟨_, ⟨rfl⟩⟩
 obtain ⟨m, Hm⟩ : ∃ r, Shh (r = mulN p p2) := ⟨_, ⟨rfl⟩⟩
 obtain ⟨s, Hs⟩ : ∃ r, Shh (r = addN p p2) := ⟨_, ⟨rfl⟩⟩
 obtain ⟨q, Hq⟩ : ∃ r, Shh (r = pairN x y) := ⟨_, ⟨rfl⟩⟩
 obtain ⟨t, Ht⟩ : ∃ r, Shh (r = addN x y) := ⟨_, ⟨rfl⟩⟩
 have HX : Shh (∀ W, Calls Try.prog 22 #[.agg (pc p).toArray] W (PolyIs W x)) := ⟨fun W => by rw [Hx.out]; exact Ntt_any p hp W⟩
 have HY : Shh (∀ W, Calls Try.prog 22 #[.agg (pc p2).toArray] W (PolyIs W y)) := ⟨fun W => by rw [Hy.out]; exact Ntt_any p2 hp2 W⟩
 have HM : Shh (∀ W, Calls Try.prog 20 #[.agg (pc p).toArray, .agg (pc p2).toArray] W (PolyIs W m)) := ⟨fun W => by rw [Hm.out]; exact Mul_any p p2 hp hp2 W⟩
 have HMN : Shh (∀ W, Calls Try.prog 22 #[.agg (pc m).toArray] W (PolyIs W q)) := ⟨fun W => by unfold PolyIs polyV; rw [show pc q = pc (nttN m) from pc_of fun i hi => by rw [Hq.out, Hx.out, Hy.out, Hm.out]; exact (ntt_mulN p p2 i hi).symm, Hm.out]; exact Ntt_any _ (bM _ _) W⟩
 have HQ : Shh (∀ W, Calls Try.prog 26 #[.agg (pc x).toArray, .agg (pc y).toArray] W (PolyIs W q)) := ⟨fun W => by rw [Hq.out, Hx.out, Hy.out]; exact MulNtt_any _ _ (bN _) (bN _) W⟩
 have HS : Shh (∀ W, Calls Try.prog 16 #[.agg (pc p).toArray, .agg (pc p2).toArray] W (PolyIs W s)) := ⟨fun W => by rw [Hs.out]; exact Add_any p p2 hp hp2 W⟩
 have HSN : Shh (∀ W, Calls Try.prog 22 #[.agg (pc s).toArray] W (PolyIs W t)) := ⟨fun W => by unfold PolyIs polyV; rw [show pc t = pc (nttN s) from pc_of fun i _ => by rw [Ht.out, Hx.out, Hy.out, Hs.out]; exact (ntt_addN p p2 i).symm, Hs.out]; exact Ntt_any _ (bA _ _) W⟩
 have HT2 : Shh (∀ W, Calls Try.prog 16 #[.agg (pc x).toArray, .agg (pc y).toArray] W (PolyIs W t)) := ⟨fun W => by rw [Ht.out, Hx.out, Hy.out]; exact Add_any _ _ (bN _) (bN _) W⟩
 have HQI : Shh (∀ W, Calls Try.prog 24 #[.agg (pc q).toArray] W (PolyIs W m)) := ⟨fun W => by unfold PolyIs polyV; rw [show pc m = pc (invN q) from pc_of fun i hi => by rw [Hq.out, Hx.out, Hy.out, Hm.out]; exact mul_inv p p2 i hi, Hq.out]; exact Inv_any _ (bP _ _) W⟩
 have Eq : Shh (∀ W, (Op.equalIn 10000 24 (.agg (pc q).toArray) (.agg (pc q).toArray)).run Try.prog W = .ok true W) := ⟨fun W => eq_poly _ (by rw [Hq.out]; exact fun i hi => rd_16 _) W⟩
 have Et : Shh (∀ W, (Op.equalIn 10000 24 (.agg (pc t).toArray) (.agg (pc t).toArray)).run Try.prog W = .ok true W) := ⟨fun W => eq_poly _ (by rw [Ht.out]; exact fun i hi => rd_16 _) W⟩
 have Em : Shh (∀ W, (Op.equalIn 10000 24 (.agg (pc m).toArray) (.agg (pc m).toArray)).run Try.prog W = .ok true W) := ⟨fun W => eq_poly _ (by rw [Hm.out]; exact fun i hi => rd_16 _) W⟩
 clear bN bM bA bP Hx Hy Hm Hs Hq Ht
 unfold polyV
 generalize hN : w.heap.size = N at *
 clear hp hp2
 obtain ⟨W, hW⟩ : ∃ W, W = (w.alloc (.cells (pc p).toArray 24)).alloc (.cells (pc p2).toArray 24) := ⟨_, rfl⟩
 have HW : Shh (Row W N 24 (pc p) ∧ Row W (N + 1) 24 (pc p2) ∧ Below N w W) := by
  refine ⟨by rw [hW]; exact (Row.new_ hN.symm rfl).alloc _, by rw [hW]; exact Row.new_ (by rw [asz, hN]) rfl, ?_⟩
  rw [hW, ← hN]
  exact Below.chain (bel1 _ _) (bel1 _ _)
 go_enter Try.func10, Try.ntmps10
 go_wp2
 try simp only [asz, hN]
 rw [← hW]
 clear hW
 refine wp_region_held_drew (S := fun w' => Row w' N 24 (pc p) ∧ Row w' (N + 1) 24 (pc p2)) (by kernel_rfl) ⟨HW.out.1.drew, HW.out.2.1.drew⟩ (fun hS => ?_)
 clear hS
 obtain ⟨V, hV⟩ : ∃ V, V = World.drew W := ⟨_, rfl⟩
 rw [← hV]
 have q0 : Row V N 24 (pc p) := by rw [hV]; exact HW.out.1.drew
 have q1 : Row V (N + 1) 24 (pc p2) := by rw [hV]; exact HW.out.2.1.drew
 have bN : Below N w V := by rw [hV]; exact HW.out.2.2.drew
 have hNV : N + 2 ≤ V.heap.size := by have := q1.lt; omega
 clear HW hV
 refine share (T := ?T0) (fun hT => ?gg0) ?tt0
 case gg0 =>
  refine held_load 0 24 (.tmp 2) (some 7) (by kernel_rfl) (by rfl) (by kernel_rfl) N 0 (by kernel_rfl) (pc p) _ (fun w h => h.1.range) Try.underlying24 rfl (info_poly.trans (size_poly _)) (fun _ _ _ _ h => h) (⟨q0, q1⟩) ?_
  simp only [Act.put, arr9, hd9, tl9]
  refine held_load 2 24 (.tmp 3) (some 9) (by kernel_rfl) (by rfl) (by kernel_rfl) (N + 1) 0 (by kernel_rfl) (pc p2) _ (fun w h => h.2.range) Try.underlying24 rfl (info_poly.trans (size_poly _)) (fun _ _ _ _ h => h) (⟨q0, q1⟩) ?_
  simp only [Act.put, arr9, hd9, tl9]
  refine held_three 1 4 5 (by kernel_rfl) ?_ ?_ ?_
  ·refine step_call 1 _ _ (some 8) 22 #[.agg (pc p).toArray] (by rfl) (by kernel_rfl) (by first | kernel_rfl | go_simp) ?_
   refine (HX.out V).mono ?_
   rintro e Y1 ⟨rfl, b1⟩
   have bx : Below V.heap.size V Y1 := b1
   clear b1
   have b_V := bx
   have m_Y1 : V.heap.size ≤ Y1.heap.size := bx.size
   clear bx
   refine ⟨_, rfl, ⟨(q0.go b_V), (q1.go b_V)⟩, ?_⟩
   simp only [Act.put, arr9, hd9, tl9]
   refine held_three 3 4 5 (by kernel_rfl) ?_ ?_ ?_
   ·refine step_call 3 _ _ (some 10) 22 #[.agg (pc p2).toArray] (by rfl) (by kernel_rfl) (by first | kernel_rfl | go_simp) ?_
    refine (HY.out Y1).mono ?_
    rintro e Y2 ⟨rfl, b1⟩
    have bx : Below Y1.heap.size Y1 Y2 := b1
    clear b1
    replace b_V := Below.chain b_V bx
    have b_Y1 := bx
    have m_Y2 : Y1.heap.size ≤ Y2.heap.size := bx.size
    clear bx
    refine ⟨_, rfl, ⟨(q0.go b_V), (q1.go b_V)⟩, ?_⟩
    simp only [Act.put, arr9, hd9, tl9]
    refine held_two 4 5 (by kernel_rfl) ?_ ?_
    ·refine step_value 4 _ _ (some 5) (.pointer (some ⟨Y2.heap.size, 0, none⟩)) (Y2.alloc (.cells (pc fun _ => 0).toArray 24)) (by rfl) (by kernel_rfl) (run_allocP rfl) (⟨((q0.go b_V)).alloc _, ((q1.go b_V)).alloc _⟩) ?_
     simp only [Act.put, arr9, hd9, tl9]
     have bx : Below Y2.heap.size Y2 (Y2.alloc (.cells (pc fun _ => 0).toArray 24)) := Below.alloc (Below.refl _ _) (Nat.le_refl _) _
     have rA : Row (Y2.alloc (.cells (pc fun _ => 0).toArray 24)) Y2.heap.size 24 (pc fun _ => 0) := Row.new_ rfl rfl
     have z_rA := asz Y2 (.cells (pc fun _ => 0).toArray 24)
     generalize Y2.alloc (.cells (pc fun _ => 0).toArray 24) = Y3 at *
     replace b_V := Below.chain b_V bx
     replace b_Y1 := Below.chain b_Y1 bx
     have b_Y2 := bx
     have m_Y3 : Y2.heap.size ≤ Y3.heap.size := bx.size
     clear bx
     refine held_one 5 (by kernel_rfl) ?_
     refine step_value 5 _ _ (some 6) (.pointer (some ⟨Y3.heap.size, 0, none⟩)) (Y3.alloc (.cells (pc fun _ => 0).toArray 24)) (by rfl) (by kernel_rfl) (run_allocP rfl) (⟨((q0.go b_V)).alloc _, ((q1.go b_V)).alloc _⟩) ?_
     simp only [Act.put, arr9, hd9, tl9]
     have bx : Below Y3.heap.size Y3 (Y3.alloc (.cells (pc fun _ => 0).toArray 24)) := Below.alloc (Below.refl _ _) (Nat.le_refl _) _
     have rB : Row (Y3.alloc (.cells (pc fun _ => 0).toArray 24)) Y3.heap.size 24 (pc fun _ => 0) := Row.new_ rfl rfl
     have z_rB := asz Y3 (.cells (pc fun _ => 0).toArray 24)
     generalize Y3.alloc (.cells (pc fun _ => 0).toArray 24) = Y4 at *
     replace b_V := Below.chain b_V bx
     replace b_Y1 := Below.chain b_Y1 bx
     replace b_Y2 := Below.chain b_Y2 bx
     have b_Y3 := bx
     have m_Y4 : Y3.heap.size ≤ Y4.heap.size := bx.size
     clear bx
     have hne : N + 2 ≤ Y2.heap.size ∧ N + 2 ≤ Y3.heap.size ∧ ¬ Y2.heap.size = Y3.heap.size := by refine ⟨?_, ?_, ?_⟩ <;> omega
     have HZ : Shh (Row Y4 N 24 (pc p) ∧ Row Y4 (N + 1) 24 (pc p2) ∧ Row Y4 Y2.heap.size 24 (pc fun _ => 0) ∧ Row Y4 Y3.heap.size 24 (pc fun _ => 0) ∧ Below N w Y4 ∧ N + 2 ≤ Y2.heap.size ∧ N + 2 ≤ Y3.heap.size ∧ ¬ Y2.heap.size = Y3.heap.size) := ⟨(q0.go b_V), (q1.go b_V), (rA.go b_Y3), rB, bN.trans (b_V.mono (by omega)), hne⟩
     clear hne
     generalize Y2.heap.size = gA at HZ ⊢
     generalize Y3.heap.size = gB at HZ ⊢
     clear m_Y4 b_Y3 z_rB rB m_Y3 b_Y2 z_rA rA m_Y2 b_Y1 m_Y1 b_V
     revert HZ
     revert Y4 gA gB
     exact hT.out
    ·refine step_value 5 _ _ (some 6) (.pointer (some ⟨Y2.heap.size, 0, none⟩)) (Y2.alloc (.cells (pc fun _ => 0).toArray 24)) (by rfl) (by kernel_rfl) (run_allocP rfl) (⟨((q0.go b_V)).alloc _, ((q1.go b_V)).alloc _⟩) ?_
     simp only [Act.put, arr9, hd9, tl9]
     have bx : Below Y2.heap.size Y2 (Y2.alloc (.cells (pc fun _ => 0).toArray 24)) := Below.alloc (Below.refl _ _) (Nat.le_refl _) _
     have rB : Row (Y2.alloc (.cells (pc fun _ => 0).toArray 24)) Y2.heap.size 24 (pc fun _ => 0) := Row.new_ rfl rfl
     have z_rB := asz Y2 (.cells (pc fun _ => 0).toArray 24)
     generalize Y2.alloc (.cells (pc fun _ => 0).toArray 24) = Y3 at *
     replace b_V := Below.chain b_V bx
     replace b_Y1 := Below.chain b_Y1 bx
     have b_Y2 := bx
     have m_Y3 : Y2.heap.size ≤ Y3.heap.size := bx.size
     clear bx
     refine held_one 4 (by kernel_rfl) ?_
     refine step_value 4 _ _ (some 5) (.pointer (some ⟨Y3.heap.size, 0, none⟩)) (Y3.alloc (.cells (pc fun _ => 0).toArray 24)) (by rfl) (by kernel_rfl) (run_allocP rfl) (⟨((q0.go b_V)).alloc _, ((q1.go b_V)).alloc _⟩) ?_
     simp only [Act.put, arr9, hd9, tl9]
     have bx : Below Y3.heap.size Y3 (Y3.alloc (.cells (pc fun _ => 0).toArray 24)) := Below.alloc (Below.refl _ _) (Nat.le_refl _) _
     have rA : Row (Y3.alloc (.cells (pc fun _ => 0).toArray 24)) Y3.heap.size 24 (pc fun _ => 0) := Row.new_ rfl rfl
     have z_rA := asz Y3 (.cells (pc fun _ => 0).toArray 24)
     generalize Y3.alloc (.cells (pc fun _ => 0).toArray 24) = Y4 at *
     replace b_V := Below.chain b_V bx
     replace b_Y1 := Below.chain b_Y1 bx
     replace b_Y2 := Below.chain b_Y2 bx
     have b_Y3 := bx
     have m_Y4 : Y3.heap.size ≤ Y4.heap.size := bx.size
     clear bx
     have hne : N + 2 ≤ Y3.heap.size ∧ N + 2 ≤ Y2.heap.size ∧ ¬ Y3.heap.size = Y2.heap.size := by refine ⟨?_, ?_, ?_⟩ <;> omega
     have HZ : Shh (Row Y4 N 24 (pc p) ∧ Row Y4 (N + 1) 24 (pc p2) ∧ Row Y4 Y3.heap.size 24 (pc fun _ => 0) ∧ Row Y4 Y2.heap.size 24 (pc fun _ => 0) ∧ Below N w Y4 ∧ N + 2 ≤ Y3.heap.size ∧ N + 2 ≤ Y2.heap.size ∧ ¬ Y3.heap.size = Y2.heap.size) := ⟨(q0.go b_V), (q1.go b_V), rA, (rB.go b_Y3), bN.trans (b_V.mono (by omega)), hne⟩
     clear hne
     generalize Y3.heap.size = gA at HZ ⊢
     generalize Y2.heap.size = gB at HZ ⊢
     clear m_Y4 b_Y3 z_rA rA m_Y3 b_Y2 z_rB rB m_Y2 b_Y1 m_Y1 b_V
     revert HZ
     revert Y4 gA gB
     exact hT.out
   ·refine step_value 4 _ _ (some 5) (.pointer (some ⟨Y1.heap.size, 0, none⟩)) (Y1.alloc (.cells (pc fun _ => 0).toArray 24)) (by rfl) (by kernel_rfl) (run_allocP rfl) (⟨((q0.go b_V)).alloc _, ((q1.go b_V)).alloc _⟩) ?_
    simp only [Act.put, arr9, hd9, tl9]
    have bx : Below Y1.heap.size Y1 (Y1.alloc (.cells (pc fun _ => 0).toArray 24)) := Below.alloc (Below.refl _ _) (Nat.le_refl _) _
    have rA : Row (Y1.alloc (.cells (pc fun _ => 0).toArray 24)) Y1.heap.size 24 (pc fun _ => 0) := Row.new_ rfl rfl
    have z_rA := asz Y1 (.cells (pc fun _ => 0).toArray 24)
    generalize Y1.alloc (.cells (pc fun _ => 0).toArray 24) = Y2 at *
    replace b_V := Below.chain b_V bx
    have b_Y1 := bx
    have m_Y2 : Y1.heap.size ≤ Y2.heap.size := bx.size
    clear bx
    refine held_two 3 5 (by kernel_rfl) ?_ ?_
    ·refine step_call 3 _ _ (some 10) 22 #[.agg (pc p2).toArray] (by rfl) (by kernel_rfl) (by first | kernel_rfl | go_simp) ?_
     refine (HY.out Y2).mono ?_
     rintro e Y3 ⟨rfl, b1⟩
     have bx : Below Y2.heap.size Y2 Y3 := b1
     clear b1
     replace b_V := Below.chain b_V bx
     replace b_Y1 := Below.chain b_Y1 bx
     have b_Y2 := bx
     have m_Y3 : Y2.heap.size ≤ Y3.heap.size := bx.size
     clear bx
     refine ⟨_, rfl, ⟨(q0.go b_V), (q1.go b_V)⟩, ?_⟩
     simp only [Act.put, arr9, hd9, tl9]
     refine held_one 5 (by kernel_rfl) ?_
     refine step_value 5 _ _ (some 6) (.pointer (some ⟨Y3.heap.size, 0, none⟩)) (Y3.alloc (.cells (pc fun _ => 0).toArray 24)) (by rfl) (by kernel_rfl) (run_allocP rfl) (⟨((q0.go b_V)).alloc _, ((q1.go b_V)).alloc _⟩) ?_
     simp only [Act.put, arr9, hd9, tl9]
     have bx : Below Y3.heap.size Y3 (Y3.alloc (.cells (pc fun _ => 0).toArray 24)) := Below.alloc (Below.refl _ _) (Nat.le_refl _) _
     have rB : Row (Y3.alloc (.cells (pc fun _ => 0).toArray 24)) Y3.heap.size 24 (pc fun _ => 0) := Row.new_ rfl rfl
     have z_rB := asz Y3 (.cells (pc fun _ => 0).toArray 24)
     generalize Y3.alloc (.cells (pc fun _ => 0).toArray 24) = Y4 at *
     replace b_V := Below.chain b_V bx
     replace b_Y1 := Below.chain b_Y1 bx
     replace b_Y2 := Below.chain b_Y2 bx
     have b_Y3 := bx
     have m_Y4 : Y3.heap.size ≤ Y4.heap.size := bx.size
     clear bx
     have hne : N + 2 ≤ Y1.heap.size ∧ N + 2 ≤ Y3.heap.size ∧ ¬ Y1.heap.size = Y3.heap.size := by refine ⟨?_, ?_, ?_⟩ <;> omega
     have HZ : Shh (Row Y4 N 24 (pc p) ∧ Row Y4 (N + 1) 24 (pc p2) ∧ Row Y4 Y1.heap.size 24 (pc fun _ => 0) ∧ Row Y4 Y3.heap.size 24 (pc fun _ => 0) ∧ Below N w Y4 ∧ N + 2 ≤ Y1.heap.size ∧ N + 2 ≤ Y3.heap.size ∧ ¬ Y1.heap.size = Y3.heap.size) := ⟨(q0.go b_V), (q1.go b_V), (rA.go b_Y2), rB, bN.trans (b_V.mono (by omega)), hne⟩
     clear hne
     generalize Y1.heap.size = gA at HZ ⊢
     generalize Y3.heap.size = gB at HZ ⊢
     clear m_Y4 b_Y3 z_rB rB m_Y3 b_Y2 m_Y2 b_Y1 z_rA rA m_Y1 b_V
     revert HZ
     revert Y4 gA gB
     exact hT.out
    ·refine step_value 5 _ _ (some 6) (.pointer (some ⟨Y2.heap.size, 0, none⟩)) (Y2.alloc (.cells (pc fun _ => 0).toArray 24)) (by rfl) (by kernel_rfl) (run_allocP rfl) (⟨((q0.go b_V)).alloc _, ((q1.go b_V)).alloc _⟩) ?_
     simp only [Act.put, arr9, hd9, tl9]
     have bx : Below Y2.heap.size Y2 (Y2.alloc (.cells (pc fun _ => 0).toArray 24)) := Below.alloc (Below.refl _ _) (Nat.le_refl _) _
     have rB : Row (Y2.alloc (.cells (pc fun _ => 0).toArray 24)) Y2.heap.size 24 (pc fun _ => 0) := Row.new_ rfl rfl
     have z_rB := asz Y2 (.cells (pc fun _ => 0).toArray 24)
     generalize Y2.alloc (.cells (pc fun _ => 0).toArray 24) = Y3 at *
     replace b_V := Below.chain b_V bx
     replace b_Y1 := Below.chain b_Y1 bx
     have b_Y2 := bx
     have m_Y3 : Y2.heap.size ≤ Y3.heap.size := bx.size
     clear bx
     refine held_one 3 (by kernel_rfl) ?_
     refine step_call 3 _ _ (some 10) 22 #[.agg (pc p2).toArray] (by rfl) (by kernel_rfl) (by first | kernel_rfl | go_simp) ?_
     refine (HY.out Y3).mono ?_
     rintro e Y4 ⟨rfl, b1⟩
     have bx : Below Y3.heap.size Y3 Y4 := b1
     clear b1
     replace b_V := Below.chain b_V bx
     replace b_Y1 := Below.chain b_Y1 bx
     replace b_Y2 := Below.chain b_Y2 bx
     have b_Y3 := bx
     have m_Y4 : Y3.heap.size ≤ Y4.heap.size := bx.size
     clear bx
     refine ⟨_, rfl, ⟨(q0.go b_V), (q1.go b_V)⟩, ?_⟩
     simp only [Act.put, arr9, hd9, tl9]
     have hne : N + 2 ≤ Y1.heap.size ∧ N + 2 ≤ Y2.heap.size ∧ ¬ Y1.heap.size = Y2.heap.size := by refine ⟨?_, ?_, ?_⟩ <;> omega
     have HZ : Shh (Row Y4 N 24 (pc p) ∧ Row Y4 (N + 1) 24 (pc p2) ∧ Row Y4 Y1.heap.size 24 (pc fun _ => 0) ∧ Row Y4 Y2.heap.size 24 (pc fun _ => 0) ∧ Below N w Y4 ∧ N + 2 ≤ Y1.heap.size ∧ N + 2 ≤ Y2.heap.size ∧ ¬ Y1.heap.size = Y2.heap.size) := ⟨(q0.go b_V), (q1.go b_V), (rA.go b_Y2), (rB.go b_Y3), bN.trans (b_V.mono (by omega)), hne⟩
     clear hne
     generalize Y1.heap.size = gA at HZ ⊢
     generalize Y2.heap.size = gB at HZ ⊢
     clear m_Y4 b_Y3 m_Y3 b_Y2 z_rB rB m_Y2 b_Y1 z_rA rA m_Y1 b_V
     revert HZ
     revert Y4 gA gB
     exact hT.out
   ·refine step_value 5 _ _ (some 6) (.pointer (some ⟨Y1.heap.size, 0, none⟩)) (Y1.alloc (.cells (pc fun _ => 0).toArray 24)) (by rfl) (by kernel_rfl) (run_allocP rfl) (⟨((q0.go b_V)).alloc _, ((q1.go b_V)).alloc _⟩) ?_
    simp only [Act.put, arr9, hd9, tl9]
    have bx : Below Y1.heap.size Y1 (Y1.alloc (.cells (pc fun _ => 0).toArray 24)) := Below.alloc (Below.refl _ _) (Nat.le_refl _) _
    have rB : Row (Y1.alloc (.cells (pc fun _ => 0).toArray 24)) Y1.heap.size 24 (pc fun _ => 0) := Row.new_ rfl rfl
    have z_rB := asz Y1 (.cells (pc fun _ => 0).toArray 24)
    generalize Y1.alloc (.cells (pc fun _ => 0).toArray 24) = Y2 at *
    replace b_V := Below.chain b_V bx
    have b_Y1 := bx
    have m_Y2 : Y1.heap.size ≤ Y2.heap.size := bx.size
    clear bx
    refine held_two 3 4 (by kernel_rfl) ?_ ?_
    ·refine step_call 3 _ _ (some 10) 22 #[.agg (pc p2).toArray] (by rfl) (by kernel_rfl) (by first | kernel_rfl | go_simp) ?_
     refine (HY.out Y2).mono ?_
     rintro e Y3 ⟨rfl, b1⟩
     have bx : Below Y2.heap.size Y2 Y3 := b1
     clear b1
     replace b_V := Below.chain b_V bx
     replace b_Y1 := Below.chain b_Y1 bx
     have b_Y2 := bx
     have m_Y3 : Y2.heap.size ≤ Y3.heap.size := bx.size
     clear bx
     refine ⟨_, rfl, ⟨(q0.go b_V), (q1.go b_V)⟩, ?_⟩
     simp only [Act.put, arr9, hd9, tl9]
     refine held_one 4 (by kernel_rfl) ?_
     refine step_value 4 _ _ (some 5) (.pointer (some ⟨Y3.heap.size, 0, none⟩)) (Y3.alloc (.cells (pc fun _ => 0).toArray 24)) (by rfl) (by kernel_rfl) (run_allocP rfl) (⟨((q0.go b_V)).alloc _, ((q1.go b_V)).alloc _⟩) ?_
     simp only [Act.put, arr9, hd9, tl9]
     have bx : Below Y3.heap.size Y3 (Y3.alloc (.cells (pc fun _ => 0).toArray 24)) := Below.alloc (Below.refl _ _) (Nat.le_refl _) _
     have rA : Row (Y3.alloc (.cells (pc fun _ => 0).toArray 24)) Y3.heap.size 24 (pc fun _ => 0) := Row.new_ rfl rfl
     have z_rA := asz Y3 (.cells (pc fun _ => 0).toArray 24)
     generalize Y3.alloc (.cells (pc fun _ => 0).toArray 24) = Y4 at *
     replace b_V := Below.chain b_V bx
     replace b_Y1 := Below.chain b_Y1 bx
     replace b_Y2 := Below.chain b_Y2 bx
     have b_Y3 := bx
     have m_Y4 : Y3.heap.size ≤ Y4.heap.size := bx.size
     clear bx
     have hne : N + 2 ≤ Y3.heap.size ∧ N + 2 ≤ Y1.heap.size ∧ ¬ Y3.heap.size = Y1.heap.size := by refine ⟨?_, ?_, ?_⟩ <;> omega
     have HZ : Shh (Row Y4 N 24 (pc p) ∧ Row Y4 (N + 1) 24 (pc p2) ∧ Row Y4 Y3.heap.size 24 (pc fun _ => 0) ∧ Row Y4 Y1.heap.size 24 (pc fun _ => 0) ∧ Below N w Y4 ∧ N + 2 ≤ Y3.heap.size ∧ N + 2 ≤ Y1.heap.size ∧ ¬ Y3.heap.size = Y1.heap.size) := ⟨(q0.go b_V), (q1.go b_V), rA, (rB.go b_Y2), bN.trans (b_V.mono (by omega)), hne⟩
     clear hne
     generalize Y3.heap.size = gA at HZ ⊢
     generalize Y1.heap.size = gB at HZ ⊢
     clear m_Y4 b_Y3 z_rA rA m_Y3 b_Y2 m_Y2 b_Y1 z_rB rB m_Y1 b_V
     revert HZ
     revert Y4 gA gB
     exact hT.out
    ·refine step_value 4 _ _ (some 5) (.pointer (some ⟨Y2.heap.size, 0, none⟩)) (Y2.alloc (.cells (pc fun _ => 0).toArray 24)) (by rfl) (by kernel_rfl) (run_allocP rfl) (⟨((q0.go b_V)).alloc _, ((q1.go b_V)).alloc _⟩) ?_
     simp only [Act.put, arr9, hd9, tl9]
     have bx : Below Y2.heap.size Y2 (Y2.alloc (.cells (pc fun _ => 0).toArray 24)) := Below.alloc (Below.refl _ _) (Nat.le_refl _) _
     have rA : Row (Y2.alloc (.cells (pc fun _ => 0).toArray 24)) Y2.heap.size 24 (pc fun _ => 0) := Row.new_ rfl rfl
     have z_rA := asz Y2 (.cells (pc fun _ => 0).toArray 24)
     generalize Y2.alloc (.cells (pc fun _ => 0).toArray 24) = Y3 at *
     replace b_V := Below.chain b_V bx
     replace b_Y1 := Below.chain b_Y1 bx
     have b_Y2 := bx
     have m_Y3 : Y2.heap.size ≤ Y3.heap.size := bx.size
     clear bx
     refine held_one 3 (by kernel_rfl) ?_
     refine step_call 3 _ _ (some 10) 22 #[.agg (pc p2).toArray] (by rfl) (by kernel_rfl) (by first | kernel_rfl | go_simp) ?_
     refine (HY.out Y3).mono ?_
     rintro e Y4 ⟨rfl, b1⟩
     have bx : Below Y3.heap.size Y3 Y4 := b1
     clear b1
     replace b_V := Below.chain b_V bx
     replace b_Y1 := Below.chain b_Y1 bx
     replace b_Y2 := Below.chain b_Y2 bx
     have b_Y3 := bx
     have m_Y4 : Y3.heap.size ≤ Y4.heap.size := bx.size
     clear bx
     refine ⟨_, rfl, ⟨(q0.go b_V), (q1.go b_V)⟩, ?_⟩
     simp only [Act.put, arr9, hd9, tl9]
     have hne : N + 2 ≤ Y2.heap.size ∧ N + 2 ≤ Y1.heap.size ∧ ¬ Y2.heap.size = Y1.heap.size := by refine ⟨?_, ?_, ?_⟩ <;> omega
     have HZ : Shh (Row Y4 N 24 (pc p) ∧ Row Y4 (N + 1) 24 (pc p2) ∧ Row Y4 Y2.heap.size 24 (pc fun _ => 0) ∧ Row Y4 Y1.heap.size 24 (pc fun _ => 0) ∧ Below N w Y4 ∧ N + 2 ≤ Y2.heap.size ∧ N + 2 ≤ Y1.heap.size ∧ ¬ Y2.heap.size = Y1.heap.size) := ⟨(q0.go b_V), (q1.go b_V), (rA.go b_Y3), (rB.go b_Y2), bN.trans (b_V.mono (by omega)), hne⟩
     clear hne
     generalize Y2.heap.size = gA at HZ ⊢
     generalize Y1.heap.size = gB at HZ ⊢
     clear m_Y4 b_Y3 m_Y3 b_Y2 z_rA rA m_Y2 b_Y1 z_rB rB m_Y1 b_V
     revert HZ
     revert Y4 gA gB
     exact hT.out
  ·refine step_value 4 _ _ (some 5) (.pointer (some ⟨V.heap.size, 0, none⟩)) (V.alloc (.cells (pc fun _ => 0).toArray 24)) (by rfl) (by kernel_rfl) (run_allocP rfl) (⟨(q0).alloc _, (q1).alloc _⟩) ?_
   simp only [Act.put, arr9, hd9, tl9]
   have bx : Below V.heap.size V (V.alloc (.cells (pc fun _ => 0).toArray 24)) := Below.alloc (Below.refl _ _) (Nat.le_refl _) _
   have rA : Row (V.alloc (.cells (pc fun _ => 0).toArray 24)) V.heap.size 24 (pc fun _ => 0) := Row.new_ rfl rfl
   have z_rA := asz V (.cells (pc fun _ => 0).toArray 24)
   generalize V.alloc (.cells (pc fun _ => 0).toArray 24) = Y1 at *
   have b_V := bx
   have m_Y1 : V.heap.size ≤ Y1.heap.size := bx.size
   clear bx
   refine held_two 1 5 (by kernel_rfl) ?_ ?_
   ·refine step_call 1 _ _ (some 8) 22 #[.agg (pc p).toArray] (by rfl) (by kernel_rfl) (by first | kernel_rfl | go_simp) ?_
    refine (HX.out Y1).mono ?_
    rintro e Y2 ⟨rfl, b1⟩
    have bx : Below Y1.heap.size Y1 Y2 := b1
    clear b1
    replace b_V := Below.chain b_V bx
    have b_Y1 := bx
    have m_Y2 : Y1.heap.size ≤ Y2.heap.size := bx.size
    clear bx
    refine ⟨_, rfl, ⟨(q0.go b_V), (q1.go b_V)⟩, ?_⟩
    simp only [Act.put, arr9, hd9, tl9]
    refine held_two 3 5 (by kernel_rfl) ?_ ?_
    ·refine step_call 3 _ _ (some 10) 22 #[.agg (pc p2).toArray] (by rfl) (by kernel_rfl) (by first | kernel_rfl | go_simp) ?_
     refine (HY.out Y2).mono ?_
     rintro e Y3 ⟨rfl, b1⟩
     have bx : Below Y2.heap.size Y2 Y3 := b1
     clear b1
     replace b_V := Below.chain b_V bx
     replace b_Y1 := Below.chain b_Y1 bx
     have b_Y2 := bx
     have m_Y3 : Y2.heap.size ≤ Y3.heap.size := bx.size
     clear bx
     refine ⟨_, rfl, ⟨(q0.go b_V), (q1.go b_V)⟩, ?_⟩
     simp only [Act.put, arr9, hd9, tl9]
     refine held_one 5 (by kernel_rfl) ?_
     refine step_value 5 _ _ (some 6) (.pointer (some ⟨Y3.heap.size, 0, none⟩)) (Y3.alloc (.cells (pc fun _ => 0).toArray 24)) (by rfl) (by kernel_rfl) (run_allocP rfl) (⟨((q0.go b_V)).alloc _, ((q1.go b_V)).alloc _⟩) ?_
     simp only [Act.put, arr9, hd9, tl9]
     have bx : Below Y3.heap.size Y3 (Y3.alloc (.cells (pc fun _ => 0).toArray 24)) := Below.alloc (Below.refl _ _) (Nat.le_refl _) _
     have rB : Row (Y3.alloc (.cells (pc fun _ => 0).toArray 24)) Y3.heap.size 24 (pc fun _ => 0) := Row.new_ rfl rfl
     have z_rB := asz Y3 (.cells (pc fun _ => 0).toArray 24)
     generalize Y3.alloc (.cells (pc fun _ => 0).toArray 24) = Y4 at *
     replace b_V := Below.chain b_V bx
     replace b_Y1 := Below.chain b_Y1 bx
     replace b_Y2 := Below.chain b_Y2 bx
     have b_Y3 := bx
     have m_Y4 : Y3.heap.size ≤ Y4.heap.size := bx.size
     clear bx
     have hne : N + 2 ≤ V.heap.size ∧ N + 2 ≤ Y3.heap.size ∧ ¬ V.heap.size = Y3.heap.size := by refine ⟨?_, ?_, ?_⟩ <;> omega
     have HZ : Shh (Row Y4 N 24 (pc p) ∧ Row Y4 (N + 1) 24 (pc p2) ∧ Row Y4 V.heap.size 24 (pc fun _ => 0) ∧ Row Y4 Y3.heap.size 24 (pc fun _ => 0) ∧ Below N w Y4 ∧ N + 2 ≤ V.heap.size ∧ N + 2 ≤ Y3.heap.size ∧ ¬ V.heap.size = Y3.heap.size) := ⟨(q0.go b_V), (q1.go b_V), (rA.go b_Y1), rB, bN.trans (b_V.mono (by omega)), hne⟩
     clear hne
     generalize V.heap.size = gA at HZ ⊢
     generalize Y3.heap.size = gB at HZ ⊢
     clear m_Y4 b_Y3 z_rB rB m_Y3 b_Y2 m_Y2 b_Y1 m_Y1 b_V z_rA rA
     revert HZ
     revert Y4 gA gB
     exact hT.out
    ·refine step_value 5 _ _ (some 6) (.pointer (some ⟨Y2.heap.size, 0, none⟩)) (Y2.alloc (.cells (pc fun _ => 0).toArray 24)) (by rfl) (by kernel_rfl) (run_allocP rfl) (⟨((q0.go b_V)).alloc _, ((q1.go b_V)).alloc _⟩) ?_
     simp only [Act.put, arr9, hd9, tl9]
     have bx : Below Y2.heap.size Y2 (Y2.alloc (.cells (pc fun _ => 0).toArray 24)) := Below.alloc (Below.refl _ _) (Nat.le_refl _) _
     have rB : Row (Y2.alloc (.cells (pc fun _ => 0).toArray 24)) Y2.heap.size 24 (pc fun _ => 0) := Row.new_ rfl rfl
     have z_rB := asz Y2 (.cells (pc fun _ => 0).toArray 24)
     generalize Y2.alloc (.cells (pc fun _ => 0).toArray 24) = Y3 at *
     replace b_V := Below.chain b_V bx
     replace b_Y1 := Below.chain b_Y1 bx
     have b_Y2 := bx
     have m_Y3 : Y2.heap.size ≤ Y3.heap.size := bx.size
     clear bx
     refine held_one 3 (by kernel_rfl) ?_
     refine step_call 3 _ _ (some 10) 22 #[.agg (pc p2).toArray] (by rfl) (by kernel_rfl) (by first | kernel_rfl | go_simp) ?_
     refine (HY.out Y3).mono ?_
     rintro e Y4 ⟨rfl, b1⟩
     have bx : Below Y3.heap.size Y3 Y4 := b1
     clear b1
     replace b_V := Below.chain b_V bx
     replace b_Y1 := Below.chain b_Y1 bx
     replace b_Y2 := Below.chain b_Y2 bx
     have b_Y3 := bx
     have m_Y4 : Y3.heap.size ≤ Y4.heap.size := bx.size
     clear bx
     refine ⟨_, rfl, ⟨(q0.go b_V), (q1.go b_V)⟩, ?_⟩
     simp only [Act.put, arr9, hd9, tl9]
     have hne : N + 2 ≤ V.heap.size ∧ N + 2 ≤ Y2.heap.size ∧ ¬ V.heap.size = Y2.heap.size := by refine ⟨?_, ?_, ?_⟩ <;> omega
     have HZ : Shh (Row Y4 N 24 (pc p) ∧ Row Y4 (N + 1) 24 (pc p2) ∧ Row Y4 V.heap.size 24 (pc fun _ => 0) ∧ Row Y4 Y2.heap.size 24 (pc fun _ => 0) ∧ Below N w Y4 ∧ N + 2 ≤ V.heap.size ∧ N + 2 ≤ Y2.heap.size ∧ ¬ V.heap.size = Y2.heap.size) := ⟨(q0.go b_V), (q1.go b_V), (rA.go b_Y1), (rB.go b_Y3), bN.trans (b_V.mono (by omega)), hne⟩
     clear hne
     generalize V.heap.size = gA at HZ ⊢
     generalize Y2.heap.size = gB at HZ ⊢
     clear m_Y4 b_Y3 m_Y3 b_Y2 z_rB rB m_Y2 b_Y1 m_Y1 b_V z_rA rA
     revert HZ
     revert Y4 gA gB
     exact hT.out
   ·refine step_value 5 _ _ (some 6) (.pointer (some ⟨Y1.heap.size, 0, none⟩)) (Y1.alloc (.cells (pc fun _ => 0).toArray 24)) (by rfl) (by kernel_rfl) (run_allocP rfl) (⟨((q0.go b_V)).alloc _, ((q1.go b_V)).alloc _⟩) ?_
    simp only [Act.put, arr9, hd9, tl9]
    have bx : Below Y1.heap.size Y1 (Y1.alloc (.cells (pc fun _ => 0).toArray 24)) := Below.alloc (Below.refl _ _) (Nat.le_refl _) _
    have rB : Row (Y1.alloc (.cells (pc fun _ => 0).toArray 24)) Y1.heap.size 24 (pc fun _ => 0) := Row.new_ rfl rfl
    have z_rB := asz Y1 (.cells (pc fun _ => 0).toArray 24)
    generalize Y1.alloc (.cells (pc fun _ => 0).toArray 24) = Y2 at *
    replace b_V := Below.chain b_V bx
    have b_Y1 := bx
    have m_Y2 : Y1.heap.size ≤ Y2.heap.size := bx.size
    clear bx
    refine held_one 1 (by kernel_rfl) ?_
    refine step_call 1 _ _ (some 8) 22 #[.agg (pc p).toArray] (by rfl) (by kernel_rfl) (by first | kernel_rfl | go_simp) ?_
    refine (HX.out Y2).mono ?_
    rintro e Y3 ⟨rfl, b1⟩
    have bx : Below Y2.heap.size Y2 Y3 := b1
    clear b1
    replace b_V := Below.chain b_V bx
    replace b_Y1 := Below.chain b_Y1 bx
    have b_Y2 := bx
    have m_Y3 : Y2.heap.size ≤ Y3.heap.size := bx.size
    clear bx
    refine ⟨_, rfl, ⟨(q0.go b_V), (q1.go b_V)⟩, ?_⟩
    simp only [Act.put, arr9, hd9, tl9]
    refine held_one 3 (by kernel_rfl) ?_
    refine step_call 3 _ _ (some 10) 22 #[.agg (pc p2).toArray] (by rfl) (by kernel_rfl) (by first | kernel_rfl | go_simp) ?_
    refine (HY.out Y3).mono ?_
    rintro e Y4 ⟨rfl, b1⟩
    have bx : Below Y3.heap.size Y3 Y4 := b1
    clear b1
    replace b_V := Below.chain b_V bx
    replace b_Y1 := Below.chain b_Y1 bx
    replace b_Y2 := Below.chain b_Y2 bx
    have b_Y3 := bx
    have m_Y4 : Y3.heap.size ≤ Y4.heap.size := bx.size
    clear bx
    refine ⟨_, rfl, ⟨(q0.go b_V), (q1.go b_V)⟩, ?_⟩
    simp only [Act.put, arr9, hd9, tl9]
    have hne : N + 2 ≤ V.heap.size ∧ N + 2 ≤ Y1.heap.size ∧ ¬ V.heap.size = Y1.heap.size := by refine ⟨?_, ?_, ?_⟩ <;> omega
    have HZ : Shh (Row Y4 N 24 (pc p) ∧ Row Y4 (N + 1) 24 (pc p2) ∧ Row Y4 V.heap.size 24 (pc fun _ => 0) ∧ Row Y4 Y1.heap.size 24 (pc fun _ => 0) ∧ Below N w Y4 ∧ N + 2 ≤ V.heap.size ∧ N + 2 ≤ Y1.heap.size ∧ ¬ V.heap.size = Y1.heap.size) := ⟨(q0.go b_V), (q1.go b_V), (rA.go b_Y1), (rB.go b_Y2), bN.trans (b_V.mono (by omega)), hne⟩
    clear hne
    generalize V.heap.size = gA at HZ ⊢
    generalize Y1.heap.size = gB at HZ ⊢
    clear m_Y4 b_Y3 m_Y3 b_Y2 m_Y2 b_Y1 z_rB rB m_Y1 b_V z_rA rA
    revert HZ
    revert Y4 gA gB
    exact hT.out
  ·refine step_value 5 _ _ (some 6) (.pointer (some ⟨V.heap.size, 0, none⟩)) (V.alloc (.cells (pc fun _ => 0).toArray 24)) (by rfl) (by kernel_rfl) (run_allocP rfl) (⟨(q0).alloc _, (q1).alloc _⟩) ?_
   simp only [Act.put, arr9, hd9, tl9]
   have bx : Below V.heap.size V (V.alloc (.cells (pc fun _ => 0).toArray 24)) := Below.alloc (Below.refl _ _) (Nat.le_refl _) _
   have rB : Row (V.alloc (.cells (pc fun _ => 0).toArray 24)) V.heap.size 24 (pc fun _ => 0) := Row.new_ rfl rfl
   have z_rB := asz V (.cells (pc fun _ => 0).toArray 24)
   generalize V.alloc (.cells (pc fun _ => 0).toArray 24) = Y1 at *
   have b_V := bx
   have m_Y1 : V.heap.size ≤ Y1.heap.size := bx.size
   clear bx
   refine held_two 1 4 (by kernel_rfl) ?_ ?_
   ·refine step_call 1 _ _ (some 8) 22 #[.agg (pc p).toArray] (by rfl) (by kernel_rfl) (by first | kernel_rfl | go_simp) ?_
    refine (HX.out Y1).mono ?_
    rintro e Y2 ⟨rfl, b1⟩
    have bx : Below Y1.heap.size Y1 Y2 := b1
    clear b1
    replace b_V := Below.chain b_V bx
    have b_Y1 := bx
    have m_Y2 : Y1.heap.size ≤ Y2.heap.size := bx.size
    clear bx
    refine ⟨_, rfl, ⟨(q0.go b_V), (q1.go b_V)⟩, ?_⟩
    simp only [Act.put, arr9, hd9, tl9]
    refine held_two 3 4 (by kernel_rfl) ?_ ?_
    ·refine step_call 3 _ _ (some 10) 22 #[.agg (pc p2).toArray] (by rfl) (by kernel_rfl) (by first | kernel_rfl | go_simp) ?_
     refine (HY.out Y2).mono ?_
     rintro e Y3 ⟨rfl, b1⟩
     have bx : Below Y2.heap.size Y2 Y3 := b1
     clear b1
     replace b_V := Below.chain b_V bx
     replace b_Y1 := Below.chain b_Y1 bx
     have b_Y2 := bx
     have m_Y3 : Y2.heap.size ≤ Y3.heap.size := bx.size
     clear bx
     refine ⟨_, rfl, ⟨(q0.go b_V), (q1.go b_V)⟩, ?_⟩
     simp only [Act.put, arr9, hd9, tl9]
     refine held_one 4 (by kernel_rfl) ?_
     refine step_value 4 _ _ (some 5) (.pointer (some ⟨Y3.heap.size, 0, none⟩)) (Y3.alloc (.cells (pc fun _ => 0).toArray 24)) (by rfl) (by kernel_rfl) (run_allocP rfl) (⟨((q0.go b_V)).alloc _, ((q1.go b_V)).alloc _⟩) ?_
     simp only [Act.put, arr9, hd9, tl9]
     have bx : Below Y3.heap.size Y3 (Y3.alloc (.cells (pc fun _ => 0).toArray 24)) := Below.alloc (Below.refl _ _) (Nat.le_refl _) _
     have rA : Row (Y3.alloc (.cells (pc fun _ => 0).toArray 24)) Y3.heap.size 24 (pc fun _ => 0) := Row.new_ rfl rfl
     have z_rA := asz Y3 (.cells (pc fun _ => 0).toArray 24)
     generalize Y3.alloc (.cells (pc fun _ => 0).toArray 24) = Y4 at *
     replace b_V := Below.chain b_V bx
     replace b_Y1 := Below.chain b_Y1 bx
     replace b_Y2 := Below.chain b_Y2 bx
     have b_Y3 := bx
     have m_Y4 : Y3.heap.size ≤ Y4.heap.size := bx.size
     clear bx
     have hne : N + 2 ≤ Y3.heap.size ∧ N + 2 ≤ V.heap.size ∧ ¬ Y3.heap.size = V.heap.size := by refine ⟨?_, ?_, ?_⟩ <;> omega
     have HZ : Shh (Row Y4 N 24 (pc p) ∧ Row Y4 (N + 1) 24 (pc p2) ∧ Row Y4 Y3.heap.size 24 (pc fun _ => 0) ∧ Row Y4 V.heap.size 24 (pc fun _ => 0) ∧ Below N w Y4 ∧ N + 2 ≤ Y3.heap.size ∧ N + 2 ≤ V.heap.size ∧ ¬ Y3.heap.size = V.heap.size) := ⟨(q0.go b_V), (q1.go b_V), rA, (rB.go b_Y1), bN.trans (b_V.mono (by omega)), hne⟩
     clear hne
     generalize Y3.heap.size = gA at HZ ⊢
     generalize V.heap.size = gB at HZ ⊢
     clear m_Y4 b_Y3 z_rA rA m_Y3 b_Y2 m_Y2 b_Y1 m_Y1 b_V z_rB rB
     revert HZ
     revert Y4 gA gB
     exact hT.out
    ·refine step_value 4 _ _ (some 5) (.pointer (some ⟨Y2.heap.size, 0, none⟩)) (Y2.alloc (.cells (pc fun _ => 0).toArray 24)) (by rfl) (by kernel_rfl) (run_allocP rfl) (⟨((q0.go b_V)).alloc _, ((q1.go b_V)).alloc _⟩) ?_
     simp only [Act.put, arr9, hd9, tl9]
     have bx : Below Y2.heap.size Y2 (Y2.alloc (.cells (pc fun _ => 0).toArray 24)) := Below.alloc (Below.refl _ _) (Nat.le_refl _) _
     have rA : Row (Y2.alloc (.cells (pc fun _ => 0).toArray 24)) Y2.heap.size 24 (pc fun _ => 0) := Row.new_ rfl rfl
     have z_rA := asz Y2 (.cells (pc fun _ => 0).toArray 24)
     generalize Y2.alloc (.cells (pc fun _ => 0).toArray 24) = Y3 at *
     replace b_V := Below.chain b_V bx
     replace b_Y1 := Below.chain b_Y1 bx
     have b_Y2 := bx
     have m_Y3 : Y2.heap.size ≤ Y3.heap.size := bx.size
     clear bx
     refine held_one 3 (by kernel_rfl) ?_
     refine step_call 3 _ _ (some 10) 22 #[.agg (pc p2).toArray] (by rfl) (by kernel_rfl) (by first | kernel_rfl | go_simp) ?_
     refine (HY.out Y3).mono ?_
     rintro e Y4 ⟨rfl, b1⟩
     have bx : Below Y3.heap.size Y3 Y4 := b1
     clear b1
     replace b_V := Below.chain b_V bx
     replace b_Y1 := Below.chain b_Y1 bx
     replace b_Y2 := Below.chain b_Y2 bx
     have b_Y3 := bx
     have m_Y4 : Y3.heap.size ≤ Y4.heap.size := bx.size
     clear bx
     refine ⟨_, rfl, ⟨(q0.go b_V), (q1.go b_V)⟩, ?_⟩
     simp only [Act.put, arr9, hd9, tl9]
     have hne : N + 2 ≤ Y2.heap.size ∧ N + 2 ≤ V.heap.size ∧ ¬ Y2.heap.size = V.heap.size := by refine ⟨?_, ?_, ?_⟩ <;> omega
     have HZ : Shh (Row Y4 N 24 (pc p) ∧ Row Y4 (N + 1) 24 (pc p2) ∧ Row Y4 Y2.heap.size 24 (pc fun _ => 0) ∧ Row Y4 V.heap.size 24 (pc fun _ => 0) ∧ Below N w Y4 ∧ N + 2 ≤ Y2.heap.size ∧ N + 2 ≤ V.heap.size ∧ ¬ Y2.heap.size = V.heap.size) := ⟨(q0.go b_V), (q1.go b_V), (rA.go b_Y3), (rB.go b_Y1), bN.trans (b_V.mono (by omega)), hne⟩
     clear hne
     generalize Y2.heap.size = gA at HZ ⊢
     generalize V.heap.size = gB at HZ ⊢
     clear m_Y4 b_Y3 m_Y3 b_Y2 z_rA rA m_Y2 b_Y1 m_Y1 b_V z_rB rB
     revert HZ
     revert Y4 gA gB
     exact hT.out
   ·refine step_value 4 _ _ (some 5) (.pointer (some ⟨Y1.heap.size, 0, none⟩)) (Y1.alloc (.cells (pc fun _ => 0).toArray 24)) (by rfl) (by kernel_rfl) (run_allocP rfl) (⟨((q0.go b_V)).alloc _, ((q1.go b_V)).alloc _⟩) ?_
    simp only [Act.put, arr9, hd9, tl9]
    have bx : Below Y1.heap.size Y1 (Y1.alloc (.cells (pc fun _ => 0).toArray 24)) := Below.alloc (Below.refl _ _) (Nat.le_refl _) _
    have rA : Row (Y1.alloc (.cells (pc fun _ => 0).toArray 24)) Y1.heap.size 24 (pc fun _ => 0) := Row.new_ rfl rfl
    have z_rA := asz Y1 (.cells (pc fun _ => 0).toArray 24)
    generalize Y1.alloc (.cells (pc fun _ => 0).toArray 24) = Y2 at *
    replace b_V := Below.chain b_V bx
    have b_Y1 := bx
    have m_Y2 : Y1.heap.size ≤ Y2.heap.size := bx.size
    clear bx
    refine held_one 1 (by kernel_rfl) ?_
    refine step_call 1 _ _ (some 8) 22 #[.agg (pc p).toArray] (by rfl) (by kernel_rfl) (by first | kernel_rfl | go_simp) ?_
    refine (HX.out Y2).mono ?_
    rintro e Y3 ⟨rfl, b1⟩
    have bx : Below Y2.heap.size Y2 Y3 := b1
    clear b1
    replace b_V := Below.chain b_V bx
    replace b_Y1 := Below.chain b_Y1 bx
    have b_Y2 := bx
    have m_Y3 : Y2.heap.size ≤ Y3.heap.size := bx.size
    clear bx
    refine ⟨_, rfl, ⟨(q0.go b_V), (q1.go b_V)⟩, ?_⟩
    simp only [Act.put, arr9, hd9, tl9]
    refine held_one 3 (by kernel_rfl) ?_
    refine step_call 3 _ _ (some 10) 22 #[.agg (pc p2).toArray] (by rfl) (by kernel_rfl) (by first | kernel_rfl | go_simp) ?_
    refine (HY.out Y3).mono ?_
    rintro e Y4 ⟨rfl, b1⟩
    have bx : Below Y3.heap.size Y3 Y4 := b1
    clear b1
    replace b_V := Below.chain b_V bx
    replace b_Y1 := Below.chain b_Y1 bx
    replace b_Y2 := Below.chain b_Y2 bx
    have b_Y3 := bx
    have m_Y4 : Y3.heap.size ≤ Y4.heap.size := bx.size
    clear bx
    refine ⟨_, rfl, ⟨(q0.go b_V), (q1.go b_V)⟩, ?_⟩
    simp only [Act.put, arr9, hd9, tl9]
    have hne : N + 2 ≤ Y1.heap.size ∧ N + 2 ≤ V.heap.size ∧ ¬ Y1.heap.size = V.heap.size := by refine ⟨?_, ?_, ?_⟩ <;> omega
    have HZ : Shh (Row Y4 N 24 (pc p) ∧ Row Y4 (N + 1) 24 (pc p2) ∧ Row Y4 Y1.heap.size 24 (pc fun _ => 0) ∧ Row Y4 V.heap.size 24 (pc fun _ => 0) ∧ Below N w Y4 ∧ N + 2 ≤ Y1.heap.size ∧ N + 2 ≤ V.heap.size ∧ ¬ Y1.heap.size = V.heap.size) := ⟨(q0.go b_V), (q1.go b_V), (rA.go b_Y2), (rB.go b_Y1), bN.trans (b_V.mono (by omega)), hne⟩
    clear hne
    generalize Y1.heap.size = gA at HZ ⊢
    generalize V.heap.size = gB at HZ ⊢
    clear m_Y4 b_Y3 m_Y3 b_Y2 m_Y2 b_Y1 z_rA rA m_Y1 b_V z_rB rB
    revert HZ
    revert Y4 gA gB
    exact hT.out
 case tt0 =>
  clear q0 q1 bN hNV HX HY
  intro V gA gB F
  refine held_one 6 (by kernel_rfl) ?_
  refine step_storeRow 6 24 (.tmp 5) (.tmp 8) (by rfl) (by kernel_rfl) gA (by kernel_rfl) (pc x) (by kernel_rfl) 24 _ F.out.2.2.1 (info_poly.trans (size_poly x)) (by rw [pc_length, pc_length]) (pc_one x) ?_
  intro Y1 r6 b6 z6
  have F2 : Shh (Row Y1 N 24 (pc p) ∧ Row Y1 (N + 1) 24 (pc p2) ∧ Row Y1 gA 24 (pc x) ∧ Row Y1 gB 24 (pc fun _ => 0) ∧ Below N w Y1 ∧ N + 2 ≤ gA ∧ N + 2 ≤ gB ∧ ¬ gA = gB) := ⟨b6.row F.out.1 F.out.1.lt (by have := F.out.2.2.2.2.2; omega), b6.row F.out.2.1 F.out.2.1.lt (by have := F.out.2.2.2.2.2; omega), r6, b6.row F.out.2.2.2.1 F.out.2.2.2.1.lt (by have := F.out.2.2.2.2.2; omega), F.out.2.2.2.2.1.trans (b6.under (Nat.le_of_lt F.out.1.lt) (by have := F.out.2.2.2.2.2; omega)), F.out.2.2.2.2.2⟩
  clear r6 b6 z6 F
  refine ⟨⟨F2.out.1, F2.out.2.1⟩, ?_⟩
  refine held_one 7 (by kernel_rfl) ?_
  refine step_storeRow 7 24 (.tmp 6) (.tmp 10) (by rfl) (by kernel_rfl) gB (by kernel_rfl) (pc y) (by kernel_rfl) 24 _ F2.out.2.2.2.1 (info_poly.trans (size_poly y)) (by rw [pc_length, pc_length]) (pc_one y) ?_
  intro Y2 r6 b6 z6
  have F3 : Shh (Row Y2 N 24 (pc p) ∧ Row Y2 (N + 1) 24 (pc p2) ∧ Row Y2 gA 24 (pc x) ∧ Row Y2 gB 24 (pc y) ∧ Below N w Y2 ∧ N + 2 ≤ gA ∧ N + 2 ≤ gB ∧ ¬ gA = gB) := ⟨b6.row F2.out.1 F2.out.1.lt (by have := F2.out.2.2.2.2.2; omega), b6.row F2.out.2.1 F2.out.2.1.lt (by have := F2.out.2.2.2.2.2; omega), b6.row F2.out.2.2.1 F2.out.2.2.1.lt (by have := F2.out.2.2.2.2.2; omega), r6, F2.out.2.2.2.2.1.trans (b6.under (Nat.le_of_lt F2.out.1.lt) (by have := F2.out.2.2.2.2.2; omega)), F2.out.2.2.2.2.2⟩
  clear r6 b6 z6 F2
  refine ⟨⟨F3.out.1, F3.out.2.1⟩, ?_⟩
  refine wpAnyH_done (by kernel_rfl) ?_ _
  go_wp2
  refine wp_region_held_drew (S := fun w' => Row w' N 24 (pc p) ∧ Row w' (N + 1) 24 (pc p2) ∧ Row w' gA 24 (pc x) ∧ Row w' gB 24 (pc y)) (by kernel_rfl) ⟨F3.out.1.drew, F3.out.2.1.drew, F3.out.2.2.1.drew, F3.out.2.2.2.1.drew⟩ (fun hS => ?_)
  clear hS
  obtain ⟨U, hU⟩ : ∃ U, U = World.drew Y2 := ⟨_, rfl⟩
  rw [← hU]
  have q0 : Row U N 24 (pc p) := by rw [hU]; exact F3.out.1.drew
  have q1 : Row U (N + 1) 24 (pc p2) := by rw [hU]; exact F3.out.2.1.drew
  have q2 : Row U gA 24 (pc x) := by rw [hU]; exact F3.out.2.2.1.drew
  have q3 : Row U gB 24 (pc y) := by rw [hU]; exact F3.out.2.2.2.1.drew
  have bN : Below N w U := by rw [hU]; exact F3.out.2.2.2.2.1.drew
  clear F3 hU
  refine held_one 0 (by kernel_rfl) ?_
  refine step_call 0 _ _ (some 11) 13 #[] (by rfl) (by kernel_rfl) (by first | kernel_rfl | go_simp) ?_
  refine (HLV.out U).mono ?_
  rintro e Y1 ⟨rfl, b1⟩
  have bx : Below U.heap.size U Y1 := b1
  clear b1
  have b_U := bx
  have m_Y1 : U.heap.size ≤ Y1.heap.size := bx.size
  clear bx
  refine ⟨_, rfl, ⟨(q0.go b_U), (q1.go b_U), (q2.go b_U), (q3.go b_U)⟩, ?_⟩
  simp only [Act.put, arr9, hd9, tl9]
  refine hdv0 1 12 (.bool true) (by rfl) (⟨(q0.go b_U), (q1.go b_U), (q2.go b_U), (q3.go b_U)⟩) ?_
  refine held_load 2 24 (.tmp 2) (some 13) (by kernel_rfl) (by rfl) (by kernel_rfl) N 0 (by kernel_rfl) (pc p) _ (fun w h => h.1.range) Try.underlying24 rfl (info_poly.trans (size_poly _)) (fun _ _ _ _ h => h) (⟨(q0.go b_U), (q1.go b_U), (q2.go b_U), (q3.go b_U)⟩) ?_
  simp only [Act.put, arr9, hd9, tl9]
  refine held_load 3 24 (.tmp 3) (some 14) (by kernel_rfl) (by rfl) (by kernel_rfl) (N + 1) 0 (by kernel_rfl) (pc p2) _ (fun w h => h.2.1.range) Try.underlying24 rfl (info_poly.trans (size_poly _)) (fun _ _ _ _ h => h) (⟨(q0.go b_U), (q1.go b_U), (q2.go b_U), (q3.go b_U)⟩) ?_
  simp only [Act.put, arr9, hd9, tl9]
  refine held_load 6 24 (.tmp 5) (some 17) (by kernel_rfl) (by rfl) (by kernel_rfl) gA 0 (by kernel_rfl) (pc x) _ (fun w h => h.2.2.1.range) Try.underlying24 rfl (info_poly.trans (size_poly _)) (fun _ _ _ _ h => h) (⟨(q0.go b_U), (q1.go b_U), (q2.go b_U), (q3.go b_U)⟩) ?_
  simp only [Act.put, arr9, hd9, tl9]
  refine held_load 7 24 (.tmp 6) (some 18) (by kernel_rfl) (by rfl) (by kernel_rfl) gB 0 (by kernel_rfl) (pc y) _ (fun w h => h.2.2.2.range) Try.underlying24 rfl (info_poly.trans (size_poly _)) (fun _ _ _ _ h => h) (⟨(q0.go b_U), (q1.go b_U), (q2.go b_U), (q3.go b_U)⟩) ?_
  simp only [Act.put, arr9, hd9, tl9]
  refine held_one 4 (by kernel_rfl) ?_
  refine step_call 4 _ _ (some 15) 20 #[.agg (pc p).toArray, .agg (pc p2).toArray] (by rfl) (by kernel_rfl) (by first | kernel_rfl | go_simp) ?_
  refine (HM.out Y1).mono ?_
  rintro e Y2 ⟨rfl, b1⟩
  have bx : Below Y1.heap.size Y1 Y2 := b1
  clear b1
  replace b_U := Below.chain b_U bx
  have b_Y1 := bx
  have m_Y2 : Y1.heap.size ≤ Y2.heap.size := bx.size
  clear bx
  refine ⟨_, rfl, ⟨(q0.go b_U), (q1.go b_U), (q2.go b_U), (q3.go b_U)⟩, ?_⟩
  simp only [Act.put, arr9, hd9, tl9]
  refine held_one 5 (by kernel_rfl) ?_
  refine step_call 5 _ _ (some 16) 22 #[.agg (pc m).toArray] (by rfl) (by kernel_rfl) (by first | kernel_rfl | go_simp) ?_
  refine (HMN.out Y2).mono ?_
  rintro e Y3 ⟨rfl, b1⟩
  have bx : Below Y2.heap.size Y2 Y3 := b1
  clear b1
  replace b_U := Below.chain b_U bx
  replace b_Y1 := Below.chain b_Y1 bx
  have b_Y2 := bx
  have m_Y3 : Y2.heap.size ≤ Y3.heap.size := bx.size
  clear bx
  refine ⟨_, rfl, ⟨(q0.go b_U), (q1.go b_U), (q2.go b_U), (q3.go b_U)⟩, ?_⟩
  simp only [Act.put, arr9, hd9, tl9]
  refine held_one 8 (by kernel_rfl) ?_
  refine step_call 8 _ _ (some 19) 26 #[.agg (pc x).toArray, .agg (pc y).toArray] (by rfl) (by kernel_rfl) (by first | kernel_rfl | go_simp) ?_
  refine (HQ.out Y3).mono ?_
  rintro e Y4 ⟨rfl, b1⟩
  have bx : Below Y3.heap.size Y3 Y4 := b1
  clear b1
  replace b_U := Below.chain b_U bx
  replace b_Y1 := Below.chain b_Y1 bx
  replace b_Y2 := Below.chain b_Y2 bx
  have b_Y3 := bx
  have m_Y4 : Y3.heap.size ≤ Y4.heap.size := bx.size
  clear bx
  refine ⟨_, rfl, ⟨(q0.go b_U), (q1.go b_U), (q2.go b_U), (q3.go b_U)⟩, ?_⟩
  simp only [Act.put, arr9, hd9, tl9]
  refine hdv 9 20 (.bool true) (by rfl) (fun w hS => run_eql_agg (by kernel_rfl) (Eq.out w) (by kernel_rfl) (by kernel_rfl)) (⟨(q0.go b_U), (q1.go b_U), (q2.go b_U), (q3.go b_U)⟩) ?_
  refine hdv0 10 21 (.bool true) (by rfl) (⟨(q0.go b_U), (q1.go b_U), (q2.go b_U), (q3.go b_U)⟩) ?_
  refine hdv0 11 22 (.bool true) (by rfl) (⟨(q0.go b_U), (q1.go b_U), (q2.go b_U), (q3.go b_U)⟩) ?_
  refine held_load 12 24 (.tmp 2) (some 23) (by kernel_rfl) (by rfl) (by kernel_rfl) N 0 (by kernel_rfl) (pc p) _ (fun w h => h.1.range) Try.underlying24 rfl (info_poly.trans (size_poly _)) (fun _ _ _ _ h => h) (⟨(q0.go b_U), (q1.go b_U), (q2.go b_U), (q3.go b_U)⟩) ?_
  simp only [Act.put, arr9, hd9, tl9]
  refine held_load 13 24 (.tmp 3) (some 24) (by kernel_rfl) (by rfl) (by kernel_rfl) (N + 1) 0 (by kernel_rfl) (pc p2) _ (fun w h => h.2.1.range) Try.underlying24 rfl (info_poly.trans (size_poly _)) (fun _ _ _ _ h => h) (⟨(q0.go b_U), (q1.go b_U), (q2.go b_U), (q3.go b_U)⟩) ?_
  simp only [Act.put, arr9, hd9, tl9]
  refine held_load 16 24 (.tmp 5) (some 27) (by kernel_rfl) (by rfl) (by kernel_rfl) gA 0 (by kernel_rfl) (pc x) _ (fun w h => h.2.2.1.range) Try.underlying24 rfl (info_poly.trans (size_poly _)) (fun _ _ _ _ h => h) (⟨(q0.go b_U), (q1.go b_U), (q2.go b_U), (q3.go b_U)⟩) ?_
  simp only [Act.put, arr9, hd9, tl9]
  refine held_load 17 24 (.tmp 6) (some 28) (by kernel_rfl) (by rfl) (by kernel_rfl) gB 0 (by kernel_rfl) (pc y) _ (fun w h => h.2.2.2.range) Try.underlying24 rfl (info_poly.trans (size_poly _)) (fun _ _ _ _ h => h) (⟨(q0.go b_U), (q1.go b_U), (q2.go b_U), (q3.go b_U)⟩) ?_
  simp only [Act.put, arr9, hd9, tl9]
  refine held_one 14 (by kernel_rfl) ?_
  refine step_call 14 _ _ (some 25) 16 #[.agg (pc p).toArray, .agg (pc p2).toArray] (by rfl) (by kernel_rfl) (by first | kernel_rfl | go_simp) ?_
  refine (HS.out Y4).mono ?_
  rintro e Y5 ⟨rfl, b1⟩
  have bx : Below Y4.heap.size Y4 Y5 := b1
  clear b1
  replace b_U := Below.chain b_U bx
  replace b_Y1 := Below.chain b_Y1 bx
  replace b_Y2 := Below.chain b_Y2 bx
  replace b_Y3 := Below.chain b_Y3 bx
  have b_Y4 := bx
  have m_Y5 : Y4.heap.size ≤ Y5.heap.size := bx.size
  clear bx
  refine ⟨_, rfl, ⟨(q0.go b_U), (q1.go b_U), (q2.go b_U), (q3.go b_U)⟩, ?_⟩
  simp only [Act.put, arr9, hd9, tl9]
  refine held_one 15 (by kernel_rfl) ?_
  refine step_call 15 _ _ (some 26) 22 #[.agg (pc s).toArray] (by rfl) (by kernel_rfl) (by first | kernel_rfl | go_simp) ?_
  refine (HSN.out Y5).mono ?_
  rintro e Y6 ⟨rfl, b1⟩
  have bx : Below Y5.heap.size Y5 Y6 := b1
  clear b1
  replace b_U := Below.chain b_U bx
  replace b_Y1 := Below.chain b_Y1 bx
  replace b_Y2 := Below.chain b_Y2 bx
  replace b_Y3 := Below.chain b_Y3 bx
  replace b_Y4 := Below.chain b_Y4 bx
  have b_Y5 := bx
  have m_Y6 : Y5.heap.size ≤ Y6.heap.size := bx.size
  clear bx
  refine ⟨_, rfl, ⟨(q0.go b_U), (q1.go b_U), (q2.go b_U), (q3.go b_U)⟩, ?_⟩
  simp only [Act.put, arr9, hd9, tl9]
  refine held_one 18 (by kernel_rfl) ?_
  refine step_call 18 _ _ (some 29) 16 #[.agg (pc x).toArray, .agg (pc y).toArray] (by rfl) (by kernel_rfl) (by first | kernel_rfl | go_simp) ?_
  refine (HT2.out Y6).mono ?_
  rintro e Y7 ⟨rfl, b1⟩
  have bx : Below Y6.heap.size Y6 Y7 := b1
  clear b1
  replace b_U := Below.chain b_U bx
  replace b_Y1 := Below.chain b_Y1 bx
  replace b_Y2 := Below.chain b_Y2 bx
  replace b_Y3 := Below.chain b_Y3 bx
  replace b_Y4 := Below.chain b_Y4 bx
  replace b_Y5 := Below.chain b_Y5 bx
  have b_Y6 := bx
  have m_Y7 : Y6.heap.size ≤ Y7.heap.size := bx.size
  clear bx
  refine ⟨_, rfl, ⟨(q0.go b_U), (q1.go b_U), (q2.go b_U), (q3.go b_U)⟩, ?_⟩
  simp only [Act.put, arr9, hd9, tl9]
  refine hdv 19 30 (.bool true) (by rfl) (fun w hS => run_eql_agg (by kernel_rfl) (Et.out w) (by kernel_rfl) (by kernel_rfl)) (⟨(q0.go b_U), (q1.go b_U), (q2.go b_U), (q3.go b_U)⟩) ?_
  refine hdv0 20 31 (.bool true) (by rfl) (⟨(q0.go b_U), (q1.go b_U), (q2.go b_U), (q3.go b_U)⟩) ?_
  refine hdv0 21 32 (.bool true) (by rfl) (⟨(q0.go b_U), (q1.go b_U), (q2.go b_U), (q3.go b_U)⟩) ?_
  refine held_load 22 24 (.tmp 5) (some 33) (by kernel_rfl) (by rfl) (by kernel_rfl) gA 0 (by kernel_rfl) (pc x) _ (fun w h => h.2.2.1.range) Try.underlying24 rfl (info_poly.trans (size_poly _)) (fun _ _ _ _ h => h) (⟨(q0.go b_U), (q1.go b_U), (q2.go b_U), (q3.go b_U)⟩) ?_
  simp only [Act.put, arr9, hd9, tl9]
  refine held_load 23 24 (.tmp 6) (some 34) (by kernel_rfl) (by rfl) (by kernel_rfl) gB 0 (by kernel_rfl) (pc y) _ (fun w h => h.2.2.2.range) Try.underlying24 rfl (info_poly.trans (size_poly _)) (fun _ _ _ _ h => h) (⟨(q0.go b_U), (q1.go b_U), (q2.go b_U), (q3.go b_U)⟩) ?_
  simp only [Act.put, arr9, hd9, tl9]
  refine held_load 26 24 (.tmp 2) (some 37) (by kernel_rfl) (by rfl) (by kernel_rfl) N 0 (by kernel_rfl) (pc p) _ (fun w h => h.1.range) Try.underlying24 rfl (info_poly.trans (size_poly _)) (fun _ _ _ _ h => h) (⟨(q0.go b_U), (q1.go b_U), (q2.go b_U), (q3.go b_U)⟩) ?_
  simp only [Act.put, arr9, hd9, tl9]
  refine held_load 27 24 (.tmp 3) (some 38) (by kernel_rfl) (by rfl) (by kernel_rfl) (N + 1) 0 (by kernel_rfl) (pc p2) _ (fun w h => h.2.1.range) Try.underlying24 rfl (info_poly.trans (size_poly _)) (fun _ _ _ _ h => h) (⟨(q0.go b_U), (q1.go b_U), (q2.go b_U), (q3.go b_U)⟩) ?_
  simp only [Act.put, arr9, hd9, tl9]
  refine held_one 24 (by kernel_rfl) ?_
  refine step_call 24 _ _ (some 35) 26 #[.agg (pc x).toArray, .agg (pc y).toArray] (by rfl) (by kernel_rfl) (by first | kernel_rfl | go_simp) ?_
  refine (HQ.out Y7).mono ?_
  rintro e Y8 ⟨rfl, b1⟩
  have bx : Below Y7.heap.size Y7 Y8 := b1
  clear b1
  replace b_U := Below.chain b_U bx
  replace b_Y1 := Below.chain b_Y1 bx
  replace b_Y2 := Below.chain b_Y2 bx
  replace b_Y3 := Below.chain b_Y3 bx
  replace b_Y4 := Below.chain b_Y4 bx
  replace b_Y5 := Below.chain b_Y5 bx
  replace b_Y6 := Below.chain b_Y6 bx
  have b_Y7 := bx
  have m_Y8 : Y7.heap.size ≤ Y8.heap.size := bx.size
  clear bx
  refine ⟨_, rfl, ⟨(q0.go b_U), (q1.go b_U), (q2.go b_U), (q3.go b_U)⟩, ?_⟩
  simp only [Act.put, arr9, hd9, tl9]
  refine held_one 25 (by kernel_rfl) ?_
  refine step_call 25 _ _ (some 36) 24 #[.agg (pc q).toArray] (by rfl) (by kernel_rfl) (by first | kernel_rfl | go_simp) ?_
  refine (HQI.out Y8).mono ?_
  rintro e Y9 ⟨rfl, b1⟩
  have bx : Below Y8.heap.size Y8 Y9 := b1
  clear b1
  replace b_U := Below.chain b_U bx
  replace b_Y1 := Below.chain b_Y1 bx
  replace b_Y2 := Below.chain b_Y2 bx
  replace b_Y3 := Below.chain b_Y3 bx
  replace b_Y4 := Below.chain b_Y4 bx
  replace b_Y5 := Below.chain b_Y5 bx
  replace b_Y6 := Below.chain b_Y6 bx
  replace b_Y7 := Below.chain b_Y7 bx
  have b_Y8 := bx
  have m_Y9 : Y8.heap.size ≤ Y9.heap.size := bx.size
  clear bx
  refine ⟨_, rfl, ⟨(q0.go b_U), (q1.go b_U), (q2.go b_U), (q3.go b_U)⟩, ?_⟩
  simp only [Act.put, arr9, hd9, tl9]
  refine held_one 28 (by kernel_rfl) ?_
  refine step_call 28 _ _ (some 39) 20 #[.agg (pc p).toArray, .agg (pc p2).toArray] (by rfl) (by kernel_rfl) (by first | kernel_rfl | go_simp) ?_
  refine (HM.out Y9).mono ?_
  rintro e Y10 ⟨rfl, b1⟩
  have bx : Below Y9.heap.size Y9 Y10 := b1
  clear b1
  replace b_U := Below.chain b_U bx
  replace b_Y1 := Below.chain b_Y1 bx
  replace b_Y2 := Below.chain b_Y2 bx
  replace b_Y3 := Below.chain b_Y3 bx
  replace b_Y4 := Below.chain b_Y4 bx
  replace b_Y5 := Below.chain b_Y5 bx
  replace b_Y6 := Below.chain b_Y6 bx
  replace b_Y7 := Below.chain b_Y7 bx
  replace b_Y8 := Below.chain b_Y8 bx
  have b_Y9 := bx
  have m_Y10 : Y9.heap.size ≤ Y10.heap.size := bx.size
  clear bx
  refine ⟨_, rfl, ⟨(q0.go b_U), (q1.go b_U), (q2.go b_U), (q3.go b_U)⟩, ?_⟩
  simp only [Act.put, arr9, hd9, tl9]
  refine hdv 29 40 (.bool true) (by rfl) (fun w hS => run_eql_agg (by kernel_rfl) (Em.out w) (by kernel_rfl) (by kernel_rfl)) (⟨(q0.go b_U), (q1.go b_U), (q2.go b_U), (q3.go b_U)⟩) ?_
  refine hdv0 30 41 (.bool true) (by rfl) (⟨(q0.go b_U), (q1.go b_U), (q2.go b_U), (q3.go b_U)⟩) ?_
  refine hdv0 31 4 (.bool true) (by rfl) (⟨(q0.go b_U), (q1.go b_U), (q2.go b_U), (q3.go b_U)⟩) ?_
  refine wpAnyH_done (by kernel_rfl) ?_ _
  have HR : Shh (Below N w Y10) := ⟨bN.trans (b_U.mono (by have := q1.lt; omega))⟩
  clear m_Y10 b_Y9 m_Y9 b_Y8 m_Y8 b_Y7 m_Y7 b_Y6 m_Y6 b_Y5 m_Y5 b_Y4 m_Y4 b_Y3 m_Y3 b_Y2 m_Y2 b_Y1 m_Y1 b_U bN q0 q1 q2 q3
  go_wp2
  go_ret
  exact ⟨rfl, HR.out⟩
end Go.Proofs.Ytfcgdjgfdbcddaa
