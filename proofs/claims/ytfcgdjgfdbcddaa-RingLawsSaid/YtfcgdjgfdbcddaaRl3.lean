/-
 THE LAW RingLaws.
-/
import Derived.Test.YtfcgdjgfdbcddaaRl2
namespace Go.Proofs.Ytfcgdjgfdbcddaa
open Go.RowKit
set_option maxRecDepth 100000
/-- the contract of a function of two polynomials, given that its result is r below 256 -/
theorem Poly_of {f : FuncId} {args : Array Value} {w : World} {r q : Nat → Nat} (h : Calls Try.prog f args w (PolyIs w q)) (e : ∀ i, i < 256 → r i = q i) : Calls Try.prog f args w (PolyIs w r) := by
 unfold PolyIs polyV at *
 rw [pc_of e]
 exact h
theorem one_e1 : pc oneN = pc e1P := pc_of fun _ _ => rfl
set_option maxHeartbeats 2000000 in
theorem ringLaws_law (p p2 p3 : Nat → Nat) (hp : ∀ i, i < 256 → p i < 65536) (hp2 : ∀ i, i < 256 → p2 i < 65536) (hp3 : ∀ i, i < 256 → p3 i < 65536) (w : World) : Calls Try.prog 11 #[polyV p, polyV p2, polyV p3] w (TrueIs w) := by
 unfold TrueIs
 have HLV : Shh (∀ W, Calls Try.prog 13 #[] W (TrueIs W)) := ⟨live13⟩
 have bM : ∀ q r : Nat → Nat, ∀ i, i < 256 → mulN q r i < 65536 := fun q r i _ => rd_16 _
 have bA : ∀ q r : Nat → Nat, ∀ i, i < 256 → addN q r i < 65536 := fun q r i _ => rd_16 _
 obtain ⟨s, Hs⟩ : ∃ r, Shh (r = addN p p2) := ⟨_, ⟨rfl⟩⟩
 obtain ⟨m, Hm⟩ : ∃ r, Shh (r = mulN p p2) := ⟨_, ⟨rfl⟩⟩
 obtain ⟨ra, Hra⟩ : ∃ r, Shh (r = redN p) := ⟨_, ⟨rfl⟩⟩
 obtain ⟨t, Ht⟩ : ∃ r, Shh (r = addN s p3) := ⟨_, ⟨rfl⟩⟩
 obtain ⟨u, Hu⟩ : ∃ r, Shh (r = addN p2 p3) := ⟨_, ⟨rfl⟩⟩
 obtain ⟨k, Hk⟩ : ∃ r, Shh (r = mulN m p3) := ⟨_, ⟨rfl⟩⟩
 obtain ⟨n, Hn⟩ : ∃ r, Shh (r = mulN p2 p3) := ⟨_, ⟨rfl⟩⟩
 obtain ⟨o, Ho⟩ : ∃ r, Shh (r = mulN p p3) := ⟨_, ⟨rfl⟩⟩
 obtain ⟨z, Hz⟩ : ∃ r, Shh (r = mulN p u) := ⟨_, ⟨rfl⟩⟩
 have bs : ∀ i, i < 256 → s i < 65536 := by rw [Hs.out]; exact bA _ _
 have bm : ∀ i, i < 256 → m i < 65536 := by rw [Hm.out]; exact bM _ _
 have bu : ∀ i, i < 256 → u i < 65536 := by rw [Hu.out]; exact bA _ _
 have bn : ∀ i, i < 256 → n i < 65536 := by rw [Hn.out]; exact bM _ _
 have bo : ∀ i, i < 256 → o i < 65536 := by rw [Ho.out]; exact bM _ _
 have A1 : Shh (∀ W, Calls Try.prog 16 #[.agg (pc p).toArray, .agg (pc p2).toArray] W (PolyIs W s)) := ⟨fun W => Poly_of (Add_any p p2 hp hp2 W) fun i _ => by rw [Hs.out]⟩
 have A2 : Shh (∀ W, Calls Try.prog 16 #[.agg (pc p2).toArray, .agg (pc p).toArray] W (PolyIs W s)) := ⟨fun W => Poly_of (Add_any p2 p hp2 hp W) fun i _ => by rw [Hs.out]; exact add_comm' p p2 i⟩
 have M1 : Shh (∀ W, Calls Try.prog 20 #[.agg (pc p).toArray, .agg (pc p2).toArray] W (PolyIs W m)) := ⟨fun W => Poly_of (Mul_any p p2 hp hp2 W) fun i _ => by rw [Hm.out]⟩
 have M2 : Shh (∀ W, Calls Try.prog 20 #[.agg (pc p2).toArray, .agg (pc p).toArray] W (PolyIs W m)) := ⟨fun W => Poly_of (Mul_any p2 p hp2 hp W) fun i hi => by rw [Hm.out]; exact mul_comm' p p2 i hi⟩
 have S1 : Shh (∀ W, Calls Try.prog 18 #[.agg (pc s).toArray, .agg (pc p2).toArray] W (PolyIs W ra)) := ⟨fun W => Poly_of (Sub_any s p2 bs hp2 W) fun i _ => by rw [Hs.out, Hra.out]; exact (sub_add' p p2 i).symm⟩
 have R1 : Shh (∀ W, Calls Try.prog 14 #[.agg (pc p).toArray] W (PolyIs W ra)) := ⟨fun W => Poly_of (Reduce_any p hp W) fun i _ => by rw [Hra.out]⟩
 have T1 : Shh (∀ W, Calls Try.prog 16 #[.agg (pc s).toArray, .agg (pc p3).toArray] W (PolyIs W t)) := ⟨fun W => Poly_of (Add_any s p3 bs hp3 W) fun i _ => by rw [Ht.out]⟩
 have U1 : Shh (∀ W, Calls Try.prog 16 #[.agg (pc p2).toArray, .agg (pc p3).toArray] W (PolyIs W u)) := ⟨fun W => Poly_of (Add_any p2 p3 hp2 hp3 W) fun i _ => by rw [Hu.out]⟩
 have T2 : Shh (∀ W, Calls Try.prog 16 #[.agg (pc p).toArray, .agg (pc u).toArray] W (PolyIs W t)) := ⟨fun W => Poly_of (Add_any p u hp bu W) fun i _ => by rw [Ht.out, Hs.out, Hu.out]; exact add_assoc' p p2 p3 i⟩
 have K1 : Shh (∀ W, Calls Try.prog 20 #[.agg (pc m).toArray, .agg (pc p3).toArray] W (PolyIs W k)) := ⟨fun W => Poly_of (Mul_any m p3 bm hp3 W) fun i _ => by rw [Hk.out]⟩
 have N1 : Shh (∀ W, Calls Try.prog 20 #[.agg (pc p2).toArray, .agg (pc p3).toArray] W (PolyIs W n)) := ⟨fun W => Poly_of (Mul_any p2 p3 hp2 hp3 W) fun i _ => by rw [Hn.out]⟩
 have K2 : Shh (∀ W, Calls Try.prog 20 #[.agg (pc p).toArray, .agg (pc n).toArray] W (PolyIs W k)) := ⟨fun W => Poly_of (Mul_any p n hp bn W) fun i hi => by rw [Hk.out, Hm.out, Hn.out]; exact mul_assoc' p p2 p3 i hi⟩
 have Z1 : Shh (∀ W, Calls Try.prog 20 #[.agg (pc p).toArray, .agg (pc u).toArray] W (PolyIs W z)) := ⟨fun W => Poly_of (Mul_any p u hp bu W) fun i _ => by rw [Hz.out]⟩
 have O1 : Shh (∀ W, Calls Try.prog 20 #[.agg (pc p).toArray, .agg (pc p3).toArray] W (PolyIs W o)) := ⟨fun W => Poly_of (Mul_any p p3 hp hp3 W) fun i _ => by rw [Ho.out]⟩
 have Z2 : Shh (∀ W, Calls Try.prog 16 #[.agg (pc m).toArray, .agg (pc o).toArray] W (PolyIs W z)) := ⟨fun W => Poly_of (Add_any m o bm bo W) fun i hi => by rw [Hz.out, Hm.out, Ho.out, Hu.out]; exact mul_add' p p2 p3 i hi⟩
 have E1 : Shh (∀ W, Calls Try.prog 20 #[.agg (pc p).toArray, .agg (pc e1P).toArray] W (PolyIs W ra)) := ⟨fun W => Poly_of (Mul_any p e1P hp e1_lt W) fun i hi => by rw [Hra.out]; exact (mul_one' p i hi).symm⟩
 have Es : Shh (∀ W, (Op.equalIn 10000 24 (.agg (pc s).toArray) (.agg (pc s).toArray)).run Try.prog W = .ok true W) := ⟨fun W => eq_poly _ (by rw [Hs.out]; exact fun i hi => rd_16 _) W⟩
 have Em : Shh (∀ W, (Op.equalIn 10000 24 (.agg (pc m).toArray) (.agg (pc m).toArray)).run Try.prog W = .ok true W) := ⟨fun W => eq_poly _ (by rw [Hm.out]; exact fun i hi => rd_16 _) W⟩
 have Era : Shh (∀ W, (Op.equalIn 10000 24 (.agg (pc ra).toArray) (.agg (pc ra).toArray)).run Try.prog W = .ok true W) := ⟨fun W => eq_poly _ (by rw [Hra.out]; exact fun i hi => rd_16 _) W⟩
 have Et : Shh (∀ W, (Op.equalIn 10000 24 (.agg (pc t).toArray) (.agg (pc t).toArray)).run Try.prog W = .ok true W) := ⟨fun W => eq_poly _ (by rw [Ht.out]; exact fun i hi => rd_16 _) W⟩
 have Ek : Shh (∀ W, (Op.equalIn 10000 24 (.agg (pc k).toArray) (.agg (pc k).toArray)).run Try.prog W = .ok true W) := ⟨fun W => eq_poly _ (by rw [Hk.out]; exact fun i hi => rd_16 _) W⟩
 have Ez : Shh (∀ W, (Op.equalIn 10000 24 (.agg (pc z).toArray) (.agg (pc z).toArray)).run Try.prog W = .ok true W) := ⟨fun W => eq_poly _ (by rw [Hz.out]; exact fun i hi => rd_16 _) W⟩
 clear bM bA bs bm bu bn bo Hz Ho Hn Hk Hu Ht Hra Hm Hs
 unfold polyV
 generalize hN : w.heap.size = N at *
 clear hp hp2 hp3
 obtain ⟨W, hW⟩ : ∃ W, W = ((w.alloc (.cells (pc p).toArray 24)).alloc (.cells (pc p2).toArray 24)).alloc (.cells (pc p3).toArray 24) := ⟨_, rfl⟩
 have HW : Shh ((Row W N 24 (pc p) ∧ Row W (N + 1) 24 (pc p2) ∧ Row W (N + 2) 24 (pc p3)) ∧ Below N w W) := by
  refine ⟨⟨by rw [hW]; exact ((Row.new_ hN.symm rfl).alloc _).alloc _, by rw [hW]; exact (Row.new_ (by rw [asz, hN]) rfl).alloc _, by rw [hW]; exact Row.new_ (by rw [asz, asz, hN]) rfl⟩, ?_⟩
  rw [hW, ← hN]
  exact Below.chain (Below.chain (bel1 _ _) (bel1 _ _)) (bel1 _ _)
 go_enter Try.func11, Try.ntmps11
 go_wp2
 try simp only [asz, hN]
 rw [← hW]
 clear hW
 refine wp_region_held_drew (S := fun w' => Row w' N 24 (pc p) ∧ Row w' (N + 1) 24 (pc p2) ∧ Row w' (N + 2) 24 (pc p3)) (by kernel_rfl) ⟨HW.out.1.1.drew, HW.out.1.2.1.drew, HW.out.1.2.2.drew⟩ (fun hS => ?_)
 clear hS
 obtain ⟨U, hU⟩ : ∃ V, V = World.drew W := ⟨_, rfl⟩
 rw [← hU]
 have q0 : Row U N 24 (pc p) := by rw [hU]; exact HW.out.1.1.drew
 have q1 : Row U (N + 1) 24 (pc p2) := by rw [hU]; exact HW.out.1.2.1.drew
 have q2 : Row U (N + 2) 24 (pc p3) := by rw [hU]; exact HW.out.1.2.2.drew
 have bN : Below N w U := by rw [hU]; exact HW.out.2.drew
 clear HW hU
 refine held_one 0 (by kernel_rfl) ?_
 refine step_call 0 _ _ (some 7) 13 #[] (by rfl) (by kernel_rfl) (by first | kernel_rfl | go_simp) ?_
 refine (HLV.out U).mono ?_
 rintro e Y1 ⟨rfl, b1⟩
 have bx : Below U.heap.size U Y1 := b1
 clear b1
 have b_U := bx
 have m_Y1 : U.heap.size ≤ Y1.heap.size := bx.size
 clear bx
 refine ⟨_, rfl, ⟨(q0.go b_U), (q1.go b_U), (q2.go b_U)⟩, ?_⟩
 simp only [Act.put, arr9, hd9, tl9]
 refine hdv0 1 8 (.bool false) (by rfl) (⟨(q0.go b_U), (q1.go b_U), (q2.go b_U)⟩) ?_
 refine hdv0 2 9 (.bool false) (by rfl) (⟨(q0.go b_U), (q1.go b_U), (q2.go b_U)⟩) ?_
 refine held_load 3 24 (.tmp 3) (some 10) (by kernel_rfl) (by rfl) (by kernel_rfl) N 0 (by kernel_rfl) (pc p) _ (fun w h => h.1.range) Try.underlying24 rfl (info_poly.trans (size_poly _)) (fun _ _ _ _ h => h) (⟨(q0.go b_U), (q1.go b_U), (q2.go b_U)⟩) ?_
 simp only [Act.put, arr9, hd9, tl9]
 refine held_load 4 24 (.tmp 4) (some 11) (by kernel_rfl) (by rfl) (by kernel_rfl) (N + 1) 0 (by kernel_rfl) (pc p2) _ (fun w h => h.2.1.range) Try.underlying24 rfl (info_poly.trans (size_poly _)) (fun _ _ _ _ h => h) (⟨(q0.go b_U), (q1.go b_U), (q2.go b_U)⟩) ?_
 simp only [Act.put, arr9, hd9, tl9]
 refine held_load 6 24 (.tmp 4) (some 13) (by kernel_rfl) (by rfl) (by kernel_rfl) (N + 1) 0 (by kernel_rfl) (pc p2) _ (fun w h => h.2.1.range) Try.underlying24 rfl (info_poly.trans (size_poly _)) (fun _ _ _ _ h => h) (⟨(q0.go b_U), (q1.go b_U), (q2.go b_U)⟩) ?_
 simp only [Act.put, arr9, hd9, tl9]
 refine held_load 7 24 (.tmp 3) (some 14) (by kernel_rfl) (by rfl) (by kernel_rfl) N 0 (by kernel_rfl) (pc p) _ (fun w h => h.1.range) Try.underlying24 rfl (info_poly.trans (size_poly _)) (fun _ _ _ _ h => h) (⟨(q0.go b_U), (q1.go b_U), (q2.go b_U)⟩) ?_
 simp only [Act.put, arr9, hd9, tl9]
 refine held_one 5 (by kernel_rfl) ?_
 refine step_call 5 _ _ (some 12) 16 #[.agg (pc p).toArray, .agg (pc p2).toArray] (by rfl) (by kernel_rfl) (by first | kernel_rfl | go_simp) ?_
 refine (A1.out Y1).mono ?_
 rintro e Y2 ⟨rfl, b1⟩
 have bx : Below Y1.heap.size Y1 Y2 := b1
 clear b1
 replace b_U := Below.chain b_U bx
 have b_Y1 := bx
 have m_Y2 : Y1.heap.size ≤ Y2.heap.size := bx.size
 clear bx
 refine ⟨_, rfl, ⟨(q0.go b_U), (q1.go b_U), (q2.go b_U)⟩, ?_⟩
 simp only [Act.put, arr9, hd9, tl9]
 refine held_one 8 (by kernel_rfl) ?_
 refine step_call 8 _ _ (some 15) 16 #[.agg (pc p2).toArray, .agg (pc p).toArray] (by rfl) (by kernel_rfl) (by first | kernel_rfl | go_simp) ?_
 refine (A2.out Y2).mono ?_
 rintro e Y3 ⟨rfl, b1⟩
 have bx : Below Y2.heap.size Y2 Y3 := b1
 clear b1
 replace b_U := Below.chain b_U bx
 replace b_Y1 := Below.chain b_Y1 bx
 have b_Y2 := bx
 have m_Y3 : Y2.heap.size ≤ Y3.heap.size := bx.size
 clear bx
 refine ⟨_, rfl, ⟨(q0.go b_U), (q1.go b_U), (q2.go b_U)⟩, ?_⟩
 simp only [Act.put, arr9, hd9, tl9]
 refine hdv 9 16 (.bool false) (by rfl) (fun w hS => run_neq_same (by kernel_rfl) (Es.out w) (by kernel_rfl) (by kernel_rfl)) (⟨(q0.go b_U), (q1.go b_U), (q2.go b_U)⟩) ?_
 refine hdv0 10 17 (.bool false) (by rfl) (⟨(q0.go b_U), (q1.go b_U), (q2.go b_U)⟩) ?_
 refine hdv0 11 18 (.bool false) (by rfl) (⟨(q0.go b_U), (q1.go b_U), (q2.go b_U)⟩) ?_
 refine held_load 12 24 (.tmp 3) (some 19) (by kernel_rfl) (by rfl) (by kernel_rfl) N 0 (by kernel_rfl) (pc p) _ (fun w h => h.1.range) Try.underlying24 rfl (info_poly.trans (size_poly _)) (fun _ _ _ _ h => h) (⟨(q0.go b_U), (q1.go b_U), (q2.go b_U)⟩) ?_
 simp only [Act.put, arr9, hd9, tl9]
 refine held_load 13 24 (.tmp 4) (some 20) (by kernel_rfl) (by rfl) (by kernel_rfl) (N + 1) 0 (by kernel_rfl) (pc p2) _ (fun w h => h.2.1.range) Try.underlying24 rfl (info_poly.trans (size_poly _)) (fun _ _ _ _ h => h) (⟨(q0.go b_U), (q1.go b_U), (q2.go b_U)⟩) ?_
 simp only [Act.put, arr9, hd9, tl9]
 refine held_load 15 24 (.tmp 4) (some 22) (by kernel_rfl) (by rfl) (by kernel_rfl) (N + 1) 0 (by kernel_rfl) (pc p2) _ (fun w h => h.2.1.range) Try.underlying24 rfl (info_poly.trans (size_poly _)) (fun _ _ _ _ h => h) (⟨(q0.go b_U), (q1.go b_U), (q2.go b_U)⟩) ?_
 simp only [Act.put, arr9, hd9, tl9]
 refine held_load 16 24 (.tmp 3) (some 23) (by kernel_rfl) (by rfl) (by kernel_rfl) N 0 (by kernel_rfl) (pc p) _ (fun w h => h.1.range) Try.underlying24 rfl (info_poly.trans (size_poly _)) (fun _ _ _ _ h => h) (⟨(q0.go b_U), (q1.go b_U), (q2.go b_U)⟩) ?_
 simp only [Act.put, arr9, hd9, tl9]
 refine held_one 14 (by kernel_rfl) ?_
 refine step_call 14 _ _ (some 21) 20 #[.agg (pc p).toArray, .agg (pc p2).toArray] (by rfl) (by kernel_rfl) (by first | kernel_rfl | go_simp) ?_
 refine (M1.out Y3).mono ?_
 rintro e Y4 ⟨rfl, b1⟩
 have bx : Below Y3.heap.size Y3 Y4 := b1
 clear b1
 replace b_U := Below.chain b_U bx
 replace b_Y1 := Below.chain b_Y1 bx
 replace b_Y2 := Below.chain b_Y2 bx
 have b_Y3 := bx
 have m_Y4 : Y3.heap.size ≤ Y4.heap.size := bx.size
 clear bx
 refine ⟨_, rfl, ⟨(q0.go b_U), (q1.go b_U), (q2.go b_U)⟩, ?_⟩
 simp only [Act.put, arr9, hd9, tl9]
 refine held_one 17 (by kernel_rfl) ?_
 refine step_call 17 _ _ (some 24) 20 #[.agg (pc p2).toArray, .agg (pc p).toArray] (by rfl) (by kernel_rfl) (by first | kernel_rfl | go_simp) ?_
 refine (M2.out Y4).mono ?_
 rintro e Y5 ⟨rfl, b1⟩
 have bx : Below Y4.heap.size Y4 Y5 := b1
 clear b1
 replace b_U := Below.chain b_U bx
 replace b_Y1 := Below.chain b_Y1 bx
 replace b_Y2 := Below.chain b_Y2 bx
 replace b_Y3 := Below.chain b_Y3 bx
 have b_Y4 := bx
 have m_Y5 : Y4.heap.size ≤ Y5.heap.size := bx.size
 clear bx
 refine ⟨_, rfl, ⟨(q0.go b_U), (q1.go b_U), (q2.go b_U)⟩, ?_⟩
 simp only [Act.put, arr9, hd9, tl9]
 refine hdv 18 25 (.bool false) (by rfl) (fun w hS => run_neq_same (by kernel_rfl) (Em.out w) (by kernel_rfl) (by kernel_rfl)) (⟨(q0.go b_U), (q1.go b_U), (q2.go b_U)⟩) ?_
 refine hdv0 19 26 (.bool false) (by rfl) (⟨(q0.go b_U), (q1.go b_U), (q2.go b_U)⟩) ?_
 refine hdv0 20 27 (.bool false) (by rfl) (⟨(q0.go b_U), (q1.go b_U), (q2.go b_U)⟩) ?_
 refine held_load 21 24 (.tmp 3) (some 28) (by kernel_rfl) (by rfl) (by kernel_rfl) N 0 (by kernel_rfl) (pc p) _ (fun w h => h.1.range) Try.underlying24 rfl (info_poly.trans (size_poly _)) (fun _ _ _ _ h => h) (⟨(q0.go b_U), (q1.go b_U), (q2.go b_U)⟩) ?_
 simp only [Act.put, arr9, hd9, tl9]
 refine held_load 22 24 (.tmp 4) (some 29) (by kernel_rfl) (by rfl) (by kernel_rfl) (N + 1) 0 (by kernel_rfl) (pc p2) _ (fun w h => h.2.1.range) Try.underlying24 rfl (info_poly.trans (size_poly _)) (fun _ _ _ _ h => h) (⟨(q0.go b_U), (q1.go b_U), (q2.go b_U)⟩) ?_
 simp only [Act.put, arr9, hd9, tl9]
 refine held_load 24 24 (.tmp 4) (some 31) (by kernel_rfl) (by rfl) (by kernel_rfl) (N + 1) 0 (by kernel_rfl) (pc p2) _ (fun w h => h.2.1.range) Try.underlying24 rfl (info_poly.trans (size_poly _)) (fun _ _ _ _ h => h) (⟨(q0.go b_U), (q1.go b_U), (q2.go b_U)⟩) ?_
 simp only [Act.put, arr9, hd9, tl9]
 refine held_load 26 24 (.tmp 3) (some 33) (by kernel_rfl) (by rfl) (by kernel_rfl) N 0 (by kernel_rfl) (pc p) _ (fun w h => h.1.range) Try.underlying24 rfl (info_poly.trans (size_poly _)) (fun _ _ _ _ h => h) (⟨(q0.go b_U), (q1.go b_U), (q2.go b_U)⟩) ?_
 simp only [Act.put, arr9, hd9, tl9]
 refine held_one 23 (by kernel_rfl) ?_
 refine step_call 23 _ _ (some 30) 16 #[.agg (pc p).toArray, .agg (pc p2).toArray] (by rfl) (by kernel_rfl) (by first | kernel_rfl | go_simp) ?_
 refine (A1.out Y5).mono ?_
 rintro e Y6 ⟨rfl, b1⟩
 have bx : Below Y5.heap.size Y5 Y6 := b1
 clear b1
 replace b_U := Below.chain b_U bx
 replace b_Y1 := Below.chain b_Y1 bx
 replace b_Y2 := Below.chain b_Y2 bx
 replace b_Y3 := Below.chain b_Y3 bx
 replace b_Y4 := Below.chain b_Y4 bx
 have b_Y5 := bx
 have m_Y6 : Y5.heap.size ≤ Y6.heap.size := bx.size
 clear bx
 refine ⟨_, rfl, ⟨(q0.go b_U), (q1.go b_U), (q2.go b_U)⟩, ?_⟩
 simp only [Act.put, arr9, hd9, tl9]
 refine held_one 25 (by kernel_rfl) ?_
 refine step_call 25 _ _ (some 32) 18 #[.agg (pc s).toArray, .agg (pc p2).toArray] (by rfl) (by kernel_rfl) (by first | kernel_rfl | go_simp) ?_
 refine (S1.out Y6).mono ?_
 rintro e Y7 ⟨rfl, b1⟩
 have bx : Below Y6.heap.size Y6 Y7 := b1
 clear b1
 replace b_U := Below.chain b_U bx
 replace b_Y1 := Below.chain b_Y1 bx
 replace b_Y2 := Below.chain b_Y2 bx
 replace b_Y3 := Below.chain b_Y3 bx
 replace b_Y4 := Below.chain b_Y4 bx
 replace b_Y5 := Below.chain b_Y5 bx
 have b_Y6 := bx
 have m_Y7 : Y6.heap.size ≤ Y7.heap.size := bx.size
 clear bx
 refine ⟨_, rfl, ⟨(q0.go b_U), (q1.go b_U), (q2.go b_U)⟩, ?_⟩
 simp only [Act.put, arr9, hd9, tl9]
 refine held_one 27 (by kernel_rfl) ?_
 refine step_call 27 _ _ (some 34) 14 #[.agg (pc p).toArray] (by rfl) (by kernel_rfl) (by first | kernel_rfl | go_simp) ?_
 refine (R1.out Y7).mono ?_
 rintro e Y8 ⟨rfl, b1⟩
 have bx : Below Y7.heap.size Y7 Y8 := b1
 clear b1
 replace b_U := Below.chain b_U bx
 replace b_Y1 := Below.chain b_Y1 bx
 replace b_Y2 := Below.chain b_Y2 bx
 replace b_Y3 := Below.chain b_Y3 bx
 replace b_Y4 := Below.chain b_Y4 bx
 replace b_Y5 := Below.chain b_Y5 bx
 replace b_Y6 := Below.chain b_Y6 bx
 have b_Y7 := bx
 have m_Y8 : Y7.heap.size ≤ Y8.heap.size := bx.size
 clear bx
 refine ⟨_, rfl, ⟨(q0.go b_U), (q1.go b_U), (q2.go b_U)⟩, ?_⟩
 simp only [Act.put, arr9, hd9, tl9]
 refine hdv 28 35 (.bool false) (by rfl) (fun w hS => run_neq_same (by kernel_rfl) (Era.out w) (by kernel_rfl) (by kernel_rfl)) (⟨(q0.go b_U), (q1.go b_U), (q2.go b_U)⟩) ?_
 refine hdv0 29 36 (.bool false) (by rfl) (⟨(q0.go b_U), (q1.go b_U), (q2.go b_U)⟩) ?_
 refine wpAnyH_done (by kernel_rfl) ?_ _
 have HZ : Shh ((Row Y8 N 24 (pc p) ∧ Row Y8 (N + 1) 24 (pc p2) ∧ Row Y8 (N + 2) 24 (pc p3)) ∧ Below N w Y8) := ⟨⟨(q0.go b_U), (q1.go b_U), (q2.go b_U)⟩, bN.trans (b_U.mono (by have := q1.lt; omega))⟩
 clear m_Y8 b_Y7 m_Y7 b_Y6 m_Y6 b_Y5 m_Y5 b_Y4 m_Y4 b_Y3 m_Y3 b_Y2 m_Y2 b_Y1 m_Y1 b_U bN q0 q1 q2
 go_wp2
 refine wp_region_held_drew (S := fun w' => Row w' N 24 (pc p) ∧ Row w' (N + 1) 24 (pc p2) ∧ Row w' (N + 2) 24 (pc p3)) (by kernel_rfl) ⟨HZ.out.1.1.drew, HZ.out.1.2.1.drew, HZ.out.1.2.2.drew⟩ (fun hS => ?_)
 clear hS
 obtain ⟨U2, hU⟩ : ∃ V, V = World.drew Y8 := ⟨_, rfl⟩
 rw [← hU]
 have q0 : Row U2 N 24 (pc p) := by rw [hU]; exact HZ.out.1.1.drew
 have q1 : Row U2 (N + 1) 24 (pc p2) := by rw [hU]; exact HZ.out.1.2.1.drew
 have q2 : Row U2 (N + 2) 24 (pc p3) := by rw [hU]; exact HZ.out.1.2.2.drew
 have bN : Below N w U2 := by rw [hU]; exact HZ.out.2.drew
 clear HZ hU
 refine held_load 0 24 (.tmp 3) (some 37) (by kernel_rfl) (by rfl) (by kernel_rfl) N 0 (by kernel_rfl) (pc p) _ (fun w h => h.1.range) Try.underlying24 rfl (info_poly.trans (size_poly _)) (fun _ _ _ _ h => h) (⟨q0, q1, q2⟩) ?_
 simp only [Act.put, arr9, hd9, tl9]
 refine held_load 1 24 (.tmp 4) (some 38) (by kernel_rfl) (by rfl) (by kernel_rfl) (N + 1) 0 (by kernel_rfl) (pc p2) _ (fun w h => h.2.1.range) Try.underlying24 rfl (info_poly.trans (size_poly _)) (fun _ _ _ _ h => h) (⟨q0, q1, q2⟩) ?_
 simp only [Act.put, arr9, hd9, tl9]
 refine held_load 3 24 (.tmp 5) (some 40) (by kernel_rfl) (by rfl) (by kernel_rfl) (N + 2) 0 (by kernel_rfl) (pc p3) _ (fun w h => h.2.2.range) Try.underlying24 rfl (info_poly.trans (size_poly _)) (fun _ _ _ _ h => h) (⟨q0, q1, q2⟩) ?_
 simp only [Act.put, arr9, hd9, tl9]
 refine held_load 5 24 (.tmp 3) (some 42) (by kernel_rfl) (by rfl) (by kernel_rfl) N 0 (by kernel_rfl) (pc p) _ (fun w h => h.1.range) Try.underlying24 rfl (info_poly.trans (size_poly _)) (fun _ _ _ _ h => h) (⟨q0, q1, q2⟩) ?_
 simp only [Act.put, arr9, hd9, tl9]
 refine held_load 6 24 (.tmp 4) (some 43) (by kernel_rfl) (by rfl) (by kernel_rfl) (N + 1) 0 (by kernel_rfl) (pc p2) _ (fun w h => h.2.1.range) Try.underlying24 rfl (info_poly.trans (size_poly _)) (fun _ _ _ _ h => h) (⟨q0, q1, q2⟩) ?_
 simp only [Act.put, arr9, hd9, tl9]
 refine held_load 7 24 (.tmp 5) (some 44) (by kernel_rfl) (by rfl) (by kernel_rfl) (N + 2) 0 (by kernel_rfl) (pc p3) _ (fun w h => h.2.2.range) Try.underlying24 rfl (info_poly.trans (size_poly _)) (fun _ _ _ _ h => h) (⟨q0, q1, q2⟩) ?_
 simp only [Act.put, arr9, hd9, tl9]
 refine held_one 2 (by kernel_rfl) ?_
 refine step_call 2 _ _ (some 39) 16 #[.agg (pc p).toArray, .agg (pc p2).toArray] (by rfl) (by kernel_rfl) (by first | kernel_rfl | go_simp) ?_
 refine (A1.out U2).mono ?_
 rintro e Y1 ⟨rfl, b1⟩
 have bx : Below U2.heap.size U2 Y1 := b1
 clear b1
 have b_U2 := bx
 have m_Y1 : U2.heap.size ≤ Y1.heap.size := bx.size
 clear bx
 refine ⟨_, rfl, ⟨(q0.go b_U2), (q1.go b_U2), (q2.go b_U2)⟩, ?_⟩
 simp only [Act.put, arr9, hd9, tl9]
 refine held_one 4 (by kernel_rfl) ?_
 refine step_call 4 _ _ (some 41) 16 #[.agg (pc s).toArray, .agg (pc p3).toArray] (by rfl) (by kernel_rfl) (by first | kernel_rfl | go_simp) ?_
 refine (T1.out Y1).mono ?_
 rintro e Y2 ⟨rfl, b1⟩
 have bx : Below Y1.heap.size Y1 Y2 := b1
 clear b1
 replace b_U2 := Below.chain b_U2 bx
 have b_Y1 := bx
 have m_Y2 : Y1.heap.size ≤ Y2.heap.size := bx.size
 clear bx
 refine ⟨_, rfl, ⟨(q0.go b_U2), (q1.go b_U2), (q2.go b_U2)⟩, ?_⟩
 simp only [Act.put, arr9, hd9, tl9]
 refine held_one 8 (by kernel_rfl) ?_
 refine step_call 8 _ _ (some 45) 16 #[.agg (pc p2).toArray, .agg (pc p3).toArray] (by rfl) (by kernel_rfl) (by first | kernel_rfl | go_simp) ?_
 refine (U1.out Y2).mono ?_
 rintro e Y3 ⟨rfl, b1⟩
 have bx : Below Y2.heap.size Y2 Y3 := b1
 clear b1
 replace b_U2 := Below.chain b_U2 bx
 replace b_Y1 := Below.chain b_Y1 bx
 have b_Y2 := bx
 have m_Y3 : Y2.heap.size ≤ Y3.heap.size := bx.size
 clear bx
 refine ⟨_, rfl, ⟨(q0.go b_U2), (q1.go b_U2), (q2.go b_U2)⟩, ?_⟩
 simp only [Act.put, arr9, hd9, tl9]
 refine held_one 9 (by kernel_rfl) ?_
 refine step_call 9 _ _ (some 46) 16 #[.agg (pc p).toArray, .agg (pc u).toArray] (by rfl) (by kernel_rfl) (by first | kernel_rfl | go_simp) ?_
 refine (T2.out Y3).mono ?_
 rintro e Y4 ⟨rfl, b1⟩
 have bx : Below Y3.heap.size Y3 Y4 := b1
 clear b1
 replace b_U2 := Below.chain b_U2 bx
 replace b_Y1 := Below.chain b_Y1 bx
 replace b_Y2 := Below.chain b_Y2 bx
 have b_Y3 := bx
 have m_Y4 : Y3.heap.size ≤ Y4.heap.size := bx.size
 clear bx
 refine ⟨_, rfl, ⟨(q0.go b_U2), (q1.go b_U2), (q2.go b_U2)⟩, ?_⟩
 simp only [Act.put, arr9, hd9, tl9]
 refine hdv 10 47 (.bool true) (by rfl) (fun w hS => run_eql_agg (by kernel_rfl) (Et.out w) (by kernel_rfl) (by kernel_rfl)) (⟨(q0.go b_U2), (q1.go b_U2), (q2.go b_U2)⟩) ?_
 refine hdv0 11 48 (.bool true) (by rfl) (⟨(q0.go b_U2), (q1.go b_U2), (q2.go b_U2)⟩) ?_
 refine held_load 12 24 (.tmp 3) (some 49) (by kernel_rfl) (by rfl) (by kernel_rfl) N 0 (by kernel_rfl) (pc p) _ (fun w h => h.1.range) Try.underlying24 rfl (info_poly.trans (size_poly _)) (fun _ _ _ _ h => h) (⟨(q0.go b_U2), (q1.go b_U2), (q2.go b_U2)⟩) ?_
 simp only [Act.put, arr9, hd9, tl9]
 refine held_load 13 24 (.tmp 4) (some 50) (by kernel_rfl) (by rfl) (by kernel_rfl) (N + 1) 0 (by kernel_rfl) (pc p2) _ (fun w h => h.2.1.range) Try.underlying24 rfl (info_poly.trans (size_poly _)) (fun _ _ _ _ h => h) (⟨(q0.go b_U2), (q1.go b_U2), (q2.go b_U2)⟩) ?_
 simp only [Act.put, arr9, hd9, tl9]
 refine held_load 15 24 (.tmp 5) (some 52) (by kernel_rfl) (by rfl) (by kernel_rfl) (N + 2) 0 (by kernel_rfl) (pc p3) _ (fun w h => h.2.2.range) Try.underlying24 rfl (info_poly.trans (size_poly _)) (fun _ _ _ _ h => h) (⟨(q0.go b_U2), (q1.go b_U2), (q2.go b_U2)⟩) ?_
 simp only [Act.put, arr9, hd9, tl9]
 refine held_load 17 24 (.tmp 3) (some 54) (by kernel_rfl) (by rfl) (by kernel_rfl) N 0 (by kernel_rfl) (pc p) _ (fun w h => h.1.range) Try.underlying24 rfl (info_poly.trans (size_poly _)) (fun _ _ _ _ h => h) (⟨(q0.go b_U2), (q1.go b_U2), (q2.go b_U2)⟩) ?_
 simp only [Act.put, arr9, hd9, tl9]
 refine held_load 18 24 (.tmp 4) (some 55) (by kernel_rfl) (by rfl) (by kernel_rfl) (N + 1) 0 (by kernel_rfl) (pc p2) _ (fun w h => h.2.1.range) Try.underlying24 rfl (info_poly.trans (size_poly _)) (fun _ _ _ _ h => h) (⟨(q0.go b_U2), (q1.go b_U2), (q2.go b_U2)⟩) ?_
 simp only [Act.put, arr9, hd9, tl9]
 refine held_load 19 24 (.tmp 5) (some 56) (by kernel_rfl) (by rfl) (by kernel_rfl) (N + 2) 0 (by kernel_rfl) (pc p3) _ (fun w h => h.2.2.range) Try.underlying24 rfl (info_poly.trans (size_poly _)) (fun _ _ _ _ h => h) (⟨(q0.go b_U2), (q1.go b_U2), (q2.go b_U2)⟩) ?_
 simp only [Act.put, arr9, hd9, tl9]
 refine held_one 14 (by kernel_rfl) ?_
 refine step_call 14 _ _ (some 51) 20 #[.agg (pc p).toArray, .agg (pc p2).toArray] (by rfl) (by kernel_rfl) (by first | kernel_rfl | go_simp) ?_
 refine (M1.out Y4).mono ?_
 rintro e Y5 ⟨rfl, b1⟩
 have bx : Below Y4.heap.size Y4 Y5 := b1
 clear b1
 replace b_U2 := Below.chain b_U2 bx
 replace b_Y1 := Below.chain b_Y1 bx
 replace b_Y2 := Below.chain b_Y2 bx
 replace b_Y3 := Below.chain b_Y3 bx
 have b_Y4 := bx
 have m_Y5 : Y4.heap.size ≤ Y5.heap.size := bx.size
 clear bx
 refine ⟨_, rfl, ⟨(q0.go b_U2), (q1.go b_U2), (q2.go b_U2)⟩, ?_⟩
 simp only [Act.put, arr9, hd9, tl9]
 refine held_one 16 (by kernel_rfl) ?_
 refine step_call 16 _ _ (some 53) 20 #[.agg (pc m).toArray, .agg (pc p3).toArray] (by rfl) (by kernel_rfl) (by first | kernel_rfl | go_simp) ?_
 refine (K1.out Y5).mono ?_
 rintro e Y6 ⟨rfl, b1⟩
 have bx : Below Y5.heap.size Y5 Y6 := b1
 clear b1
 replace b_U2 := Below.chain b_U2 bx
 replace b_Y1 := Below.chain b_Y1 bx
 replace b_Y2 := Below.chain b_Y2 bx
 replace b_Y3 := Below.chain b_Y3 bx
 replace b_Y4 := Below.chain b_Y4 bx
 have b_Y5 := bx
 have m_Y6 : Y5.heap.size ≤ Y6.heap.size := bx.size
 clear bx
 refine ⟨_, rfl, ⟨(q0.go b_U2), (q1.go b_U2), (q2.go b_U2)⟩, ?_⟩
 simp only [Act.put, arr9, hd9, tl9]
 refine held_one 20 (by kernel_rfl) ?_
 refine step_call 20 _ _ (some 57) 20 #[.agg (pc p2).toArray, .agg (pc p3).toArray] (by rfl) (by kernel_rfl) (by first | kernel_rfl | go_simp) ?_
 refine (N1.out Y6).mono ?_
 rintro e Y7 ⟨rfl, b1⟩
 have bx : Below Y6.heap.size Y6 Y7 := b1
 clear b1
 replace b_U2 := Below.chain b_U2 bx
 replace b_Y1 := Below.chain b_Y1 bx
 replace b_Y2 := Below.chain b_Y2 bx
 replace b_Y3 := Below.chain b_Y3 bx
 replace b_Y4 := Below.chain b_Y4 bx
 replace b_Y5 := Below.chain b_Y5 bx
 have b_Y6 := bx
 have m_Y7 : Y6.heap.size ≤ Y7.heap.size := bx.size
 clear bx
 refine ⟨_, rfl, ⟨(q0.go b_U2), (q1.go b_U2), (q2.go b_U2)⟩, ?_⟩
 simp only [Act.put, arr9, hd9, tl9]
 refine held_one 21 (by kernel_rfl) ?_
 refine step_call 21 _ _ (some 58) 20 #[.agg (pc p).toArray, .agg (pc n).toArray] (by rfl) (by kernel_rfl) (by first | kernel_rfl | go_simp) ?_
 refine (K2.out Y7).mono ?_
 rintro e Y8 ⟨rfl, b1⟩
 have bx : Below Y7.heap.size Y7 Y8 := b1
 clear b1
 replace b_U2 := Below.chain b_U2 bx
 replace b_Y1 := Below.chain b_Y1 bx
 replace b_Y2 := Below.chain b_Y2 bx
 replace b_Y3 := Below.chain b_Y3 bx
 replace b_Y4 := Below.chain b_Y4 bx
 replace b_Y5 := Below.chain b_Y5 bx
 replace b_Y6 := Below.chain b_Y6 bx
 have b_Y7 := bx
 have m_Y8 : Y7.heap.size ≤ Y8.heap.size := bx.size
 clear bx
 refine ⟨_, rfl, ⟨(q0.go b_U2), (q1.go b_U2), (q2.go b_U2)⟩, ?_⟩
 simp only [Act.put, arr9, hd9, tl9]
 refine hdv 22 59 (.bool true) (by rfl) (fun w hS => run_eql_agg (by kernel_rfl) (Ek.out w) (by kernel_rfl) (by kernel_rfl)) (⟨(q0.go b_U2), (q1.go b_U2), (q2.go b_U2)⟩) ?_
 refine hdv0 23 60 (.bool true) (by rfl) (⟨(q0.go b_U2), (q1.go b_U2), (q2.go b_U2)⟩) ?_
 refine hdv0 24 61 (.bool true) (by rfl) (⟨(q0.go b_U2), (q1.go b_U2), (q2.go b_U2)⟩) ?_
 refine held_load 25 24 (.tmp 3) (some 62) (by kernel_rfl) (by rfl) (by kernel_rfl) N 0 (by kernel_rfl) (pc p) _ (fun w h => h.1.range) Try.underlying24 rfl (info_poly.trans (size_poly _)) (fun _ _ _ _ h => h) (⟨(q0.go b_U2), (q1.go b_U2), (q2.go b_U2)⟩) ?_
 simp only [Act.put, arr9, hd9, tl9]
 refine held_load 26 24 (.tmp 4) (some 63) (by kernel_rfl) (by rfl) (by kernel_rfl) (N + 1) 0 (by kernel_rfl) (pc p2) _ (fun w h => h.2.1.range) Try.underlying24 rfl (info_poly.trans (size_poly _)) (fun _ _ _ _ h => h) (⟨(q0.go b_U2), (q1.go b_U2), (q2.go b_U2)⟩) ?_
 simp only [Act.put, arr9, hd9, tl9]
 refine held_load 27 24 (.tmp 5) (some 64) (by kernel_rfl) (by rfl) (by kernel_rfl) (N + 2) 0 (by kernel_rfl) (pc p3) _ (fun w h => h.2.2.range) Try.underlying24 rfl (info_poly.trans (size_poly _)) (fun _ _ _ _ h => h) (⟨(q0.go b_U2), (q1.go b_U2), (q2.go b_U2)⟩) ?_
 simp only [Act.put, arr9, hd9, tl9]
 refine held_load 30 24 (.tmp 3) (some 67) (by kernel_rfl) (by rfl) (by kernel_rfl) N 0 (by kernel_rfl) (pc p) _ (fun w h => h.1.range) Try.underlying24 rfl (info_poly.trans (size_poly _)) (fun _ _ _ _ h => h) (⟨(q0.go b_U2), (q1.go b_U2), (q2.go b_U2)⟩) ?_
 simp only [Act.put, arr9, hd9, tl9]
 refine held_load 31 24 (.tmp 4) (some 68) (by kernel_rfl) (by rfl) (by kernel_rfl) (N + 1) 0 (by kernel_rfl) (pc p2) _ (fun w h => h.2.1.range) Try.underlying24 rfl (info_poly.trans (size_poly _)) (fun _ _ _ _ h => h) (⟨(q0.go b_U2), (q1.go b_U2), (q2.go b_U2)⟩) ?_
 simp only [Act.put, arr9, hd9, tl9]
 refine held_load 33 24 (.tmp 3) (some 70) (by kernel_rfl) (by rfl) (by kernel_rfl) N 0 (by kernel_rfl) (pc p) _ (fun w h => h.1.range) Try.underlying24 rfl (info_poly.trans (size_poly _)) (fun _ _ _ _ h => h) (⟨(q0.go b_U2), (q1.go b_U2), (q2.go b_U2)⟩) ?_
 simp only [Act.put, arr9, hd9, tl9]
 refine held_load 34 24 (.tmp 5) (some 71) (by kernel_rfl) (by rfl) (by kernel_rfl) (N + 2) 0 (by kernel_rfl) (pc p3) _ (fun w h => h.2.2.range) Try.underlying24 rfl (info_poly.trans (size_poly _)) (fun _ _ _ _ h => h) (⟨(q0.go b_U2), (q1.go b_U2), (q2.go b_U2)⟩) ?_
 simp only [Act.put, arr9, hd9, tl9]
 refine held_one 28 (by kernel_rfl) ?_
 refine step_call 28 _ _ (some 65) 16 #[.agg (pc p2).toArray, .agg (pc p3).toArray] (by rfl) (by kernel_rfl) (by first | kernel_rfl | go_simp) ?_
 refine (U1.out Y8).mono ?_
 rintro e Y9 ⟨rfl, b1⟩
 have bx : Below Y8.heap.size Y8 Y9 := b1
 clear b1
 replace b_U2 := Below.chain b_U2 bx
 replace b_Y1 := Below.chain b_Y1 bx
 replace b_Y2 := Below.chain b_Y2 bx
 replace b_Y3 := Below.chain b_Y3 bx
 replace b_Y4 := Below.chain b_Y4 bx
 replace b_Y5 := Below.chain b_Y5 bx
 replace b_Y6 := Below.chain b_Y6 bx
 replace b_Y7 := Below.chain b_Y7 bx
 have b_Y8 := bx
 have m_Y9 : Y8.heap.size ≤ Y9.heap.size := bx.size
 clear bx
 refine ⟨_, rfl, ⟨(q0.go b_U2), (q1.go b_U2), (q2.go b_U2)⟩, ?_⟩
 simp only [Act.put, arr9, hd9, tl9]
 refine held_one 29 (by kernel_rfl) ?_
 refine step_call 29 _ _ (some 66) 20 #[.agg (pc p).toArray, .agg (pc u).toArray] (by rfl) (by kernel_rfl) (by first | kernel_rfl | go_simp) ?_
 refine (Z1.out Y9).mono ?_
 rintro e Y10 ⟨rfl, b1⟩
 have bx : Below Y9.heap.size Y9 Y10 := b1
 clear b1
 replace b_U2 := Below.chain b_U2 bx
 replace b_Y1 := Below.chain b_Y1 bx
 replace b_Y2 := Below.chain b_Y2 bx
 replace b_Y3 := Below.chain b_Y3 bx
 replace b_Y4 := Below.chain b_Y4 bx
 replace b_Y5 := Below.chain b_Y5 bx
 replace b_Y6 := Below.chain b_Y6 bx
 replace b_Y7 := Below.chain b_Y7 bx
 replace b_Y8 := Below.chain b_Y8 bx
 have b_Y9 := bx
 have m_Y10 : Y9.heap.size ≤ Y10.heap.size := bx.size
 clear bx
 refine ⟨_, rfl, ⟨(q0.go b_U2), (q1.go b_U2), (q2.go b_U2)⟩, ?_⟩
 simp only [Act.put, arr9, hd9, tl9]
 refine held_one 32 (by kernel_rfl) ?_
 refine step_call 32 _ _ (some 69) 20 #[.agg (pc p).toArray, .agg (pc p2).toArray] (by rfl) (by kernel_rfl) (by first | kernel_rfl | go_simp) ?_
 refine (M1.out Y10).mono ?_
 rintro e Y11 ⟨rfl, b1⟩
 have bx : Below Y10.heap.size Y10 Y11 := b1
 clear b1
 replace b_U2 := Below.chain b_U2 bx
 replace b_Y1 := Below.chain b_Y1 bx
 replace b_Y2 := Below.chain b_Y2 bx
 replace b_Y3 := Below.chain b_Y3 bx
 replace b_Y4 := Below.chain b_Y4 bx
 replace b_Y5 := Below.chain b_Y5 bx
 replace b_Y6 := Below.chain b_Y6 bx
 replace b_Y7 := Below.chain b_Y7 bx
 replace b_Y8 := Below.chain b_Y8 bx
 replace b_Y9 := Below.chain b_Y9 bx
 have b_Y10 := bx
 have m_Y11 : Y10.heap.size ≤ Y11.heap.size := bx.size
 clear bx
 refine ⟨_, rfl, ⟨(q0.go b_U2), (q1.go b_U2), (q2.go b_U2)⟩, ?_⟩
 simp only [Act.put, arr9, hd9, tl9]
 refine held_one 35 (by kernel_rfl) ?_
 refine step_call 35 _ _ (some 72) 20 #[.agg (pc p).toArray, .agg (pc p3).toArray] (by rfl) (by kernel_rfl) (by first | kernel_rfl | go_simp) ?_
 refine (O1.out Y11).mono ?_
 rintro e Y12 ⟨rfl, b1⟩
 have bx : Below Y11.heap.size Y11 Y12 := b1
 clear b1
 replace b_U2 := Below.chain b_U2 bx
 replace b_Y1 := Below.chain b_Y1 bx
 replace b_Y2 := Below.chain b_Y2 bx
 replace b_Y3 := Below.chain b_Y3 bx
 replace b_Y4 := Below.chain b_Y4 bx
 replace b_Y5 := Below.chain b_Y5 bx
 replace b_Y6 := Below.chain b_Y6 bx
 replace b_Y7 := Below.chain b_Y7 bx
 replace b_Y8 := Below.chain b_Y8 bx
 replace b_Y9 := Below.chain b_Y9 bx
 replace b_Y10 := Below.chain b_Y10 bx
 have b_Y11 := bx
 have m_Y12 : Y11.heap.size ≤ Y12.heap.size := bx.size
 clear bx
 refine ⟨_, rfl, ⟨(q0.go b_U2), (q1.go b_U2), (q2.go b_U2)⟩, ?_⟩
 simp only [Act.put, arr9, hd9, tl9]
 refine held_one 36 (by kernel_rfl) ?_
 refine step_call 36 _ _ (some 73) 16 #[.agg (pc m).toArray, .agg (pc o).toArray] (by rfl) (by kernel_rfl) (by first | kernel_rfl | go_simp) ?_
 refine (Z2.out Y12).mono ?_
 rintro e Y13 ⟨rfl, b1⟩
 have bx : Below Y12.heap.size Y12 Y13 := b1
 clear b1
 replace b_U2 := Below.chain b_U2 bx
 replace b_Y1 := Below.chain b_Y1 bx
 replace b_Y2 := Below.chain b_Y2 bx
 replace b_Y3 := Below.chain b_Y3 bx
 replace b_Y4 := Below.chain b_Y4 bx
 replace b_Y5 := Below.chain b_Y5 bx
 replace b_Y6 := Below.chain b_Y6 bx
 replace b_Y7 := Below.chain b_Y7 bx
 replace b_Y8 := Below.chain b_Y8 bx
 replace b_Y9 := Below.chain b_Y9 bx
 replace b_Y10 := Below.chain b_Y10 bx
 replace b_Y11 := Below.chain b_Y11 bx
 have b_Y12 := bx
 have m_Y13 : Y12.heap.size ≤ Y13.heap.size := bx.size
 clear bx
 refine ⟨_, rfl, ⟨(q0.go b_U2), (q1.go b_U2), (q2.go b_U2)⟩, ?_⟩
 simp only [Act.put, arr9, hd9, tl9]
 refine hdv 37 74 (.bool true) (by rfl) (fun w hS => run_eql_agg (by kernel_rfl) (Ez.out w) (by kernel_rfl) (by kernel_rfl)) (⟨(q0.go b_U2), (q1.go b_U2), (q2.go b_U2)⟩) ?_
 refine hdv0 38 75 (.bool true) (by rfl) (⟨(q0.go b_U2), (q1.go b_U2), (q2.go b_U2)⟩) ?_
 refine hdv0 39 76 (.bool true) (by rfl) (⟨(q0.go b_U2), (q1.go b_U2), (q2.go b_U2)⟩) ?_
 refine hdv 41 78 (.agg (pc e1P).toArray) (by rfl) (fun w hS => build_e1 rfl) (⟨(q0.go b_U2), (q1.go b_U2), (q2.go b_U2)⟩) ?_
 refine held_load 40 24 (.tmp 3) (some 77) (by kernel_rfl) (by rfl) (by kernel_rfl) N 0 (by kernel_rfl) (pc p) _ (fun w h => h.1.range) Try.underlying24 rfl (info_poly.trans (size_poly _)) (fun _ _ _ _ h => h) (⟨(q0.go b_U2), (q1.go b_U2), (q2.go b_U2)⟩) ?_
 simp only [Act.put, arr9, hd9, tl9]
 refine held_load 43 24 (.tmp 3) (some 80) (by kernel_rfl) (by rfl) (by kernel_rfl) N 0 (by kernel_rfl) (pc p) _ (fun w h => h.1.range) Try.underlying24 rfl (info_poly.trans (size_poly _)) (fun _ _ _ _ h => h) (⟨(q0.go b_U2), (q1.go b_U2), (q2.go b_U2)⟩) ?_
 simp only [Act.put, arr9, hd9, tl9]
 refine held_one 42 (by kernel_rfl) ?_
 refine step_call 42 _ _ (some 79) 20 #[.agg (pc p).toArray, .agg (pc e1P).toArray] (by rfl) (by kernel_rfl) (by first | kernel_rfl | go_simp) ?_
 refine (E1.out Y13).mono ?_
 rintro e Y14 ⟨rfl, b1⟩
 have bx : Below Y13.heap.size Y13 Y14 := b1
 clear b1
 replace b_U2 := Below.chain b_U2 bx
 replace b_Y1 := Below.chain b_Y1 bx
 replace b_Y2 := Below.chain b_Y2 bx
 replace b_Y3 := Below.chain b_Y3 bx
 replace b_Y4 := Below.chain b_Y4 bx
 replace b_Y5 := Below.chain b_Y5 bx
 replace b_Y6 := Below.chain b_Y6 bx
 replace b_Y7 := Below.chain b_Y7 bx
 replace b_Y8 := Below.chain b_Y8 bx
 replace b_Y9 := Below.chain b_Y9 bx
 replace b_Y10 := Below.chain b_Y10 bx
 replace b_Y11 := Below.chain b_Y11 bx
 replace b_Y12 := Below.chain b_Y12 bx
 have b_Y13 := bx
 have m_Y14 : Y13.heap.size ≤ Y14.heap.size := bx.size
 clear bx
 refine ⟨_, rfl, ⟨(q0.go b_U2), (q1.go b_U2), (q2.go b_U2)⟩, ?_⟩
 simp only [Act.put, arr9, hd9, tl9]
 refine held_one 44 (by kernel_rfl) ?_
 refine step_call 44 _ _ (some 81) 14 #[.agg (pc p).toArray] (by rfl) (by kernel_rfl) (by first | kernel_rfl | go_simp) ?_
 refine (R1.out Y14).mono ?_
 rintro e Y15 ⟨rfl, b1⟩
 have bx : Below Y14.heap.size Y14 Y15 := b1
 clear b1
 replace b_U2 := Below.chain b_U2 bx
 replace b_Y1 := Below.chain b_Y1 bx
 replace b_Y2 := Below.chain b_Y2 bx
 replace b_Y3 := Below.chain b_Y3 bx
 replace b_Y4 := Below.chain b_Y4 bx
 replace b_Y5 := Below.chain b_Y5 bx
 replace b_Y6 := Below.chain b_Y6 bx
 replace b_Y7 := Below.chain b_Y7 bx
 replace b_Y8 := Below.chain b_Y8 bx
 replace b_Y9 := Below.chain b_Y9 bx
 replace b_Y10 := Below.chain b_Y10 bx
 replace b_Y11 := Below.chain b_Y11 bx
 replace b_Y12 := Below.chain b_Y12 bx
 replace b_Y13 := Below.chain b_Y13 bx
 have b_Y14 := bx
 have m_Y15 : Y14.heap.size ≤ Y15.heap.size := bx.size
 clear bx
 refine ⟨_, rfl, ⟨(q0.go b_U2), (q1.go b_U2), (q2.go b_U2)⟩, ?_⟩
 simp only [Act.put, arr9, hd9, tl9]
 refine hdv 45 82 (.bool true) (by rfl) (fun w hS => run_eql_agg (by kernel_rfl) (Era.out w) (by kernel_rfl) (by kernel_rfl)) (⟨(q0.go b_U2), (q1.go b_U2), (q2.go b_U2)⟩) ?_
 refine hdv0 46 83 (.bool true) (by rfl) (⟨(q0.go b_U2), (q1.go b_U2), (q2.go b_U2)⟩) ?_
 refine hdv0 47 6 (.bool true) (by rfl) (⟨(q0.go b_U2), (q1.go b_U2), (q2.go b_U2)⟩) ?_
 refine wpAnyH_done (by kernel_rfl) ?_ _
 have HR : Shh (Below N w Y15) := ⟨bN.trans (b_U2.mono (by have := q1.lt; omega))⟩
 clear m_Y15 b_Y14 m_Y14 b_Y13 m_Y13 b_Y12 m_Y12 b_Y11 m_Y11 b_Y10 m_Y10 b_Y9 m_Y9 b_Y8 m_Y8 b_Y7 m_Y7 b_Y6 m_Y6 b_Y5 m_Y5 b_Y4 m_Y4 b_Y3 m_Y3 b_Y2 m_Y2 b_Y1 m_Y1 b_U2 bN q0 q1 q2
 go_wp2
 go_ret
 exact ⟨rfl, HR.out⟩
end Go.Proofs.Ytfcgdjgfdbcddaa
