/-
 THE PROGRAM'S OWN Ntt.
-/
import Derived.Test.YtfcgdjgfdbcddaaDoorZR3
import Derived.Test.YtfcgdjgfdbcddaaDoorZR2
namespace Go.Proofs.YtfcgdjgfdbcddaaDoor
open Go.RowKit
set_option maxRecDepth 100000
section
variable {md : Region.Mode} {ops : Array Oper} {Q : Exit → Act → World → Prop} {S : World → Prop} {fuel : Nat} {listed : Array Bool} {a : Act} {w : World}
/-- a store into a polynomial, in a drawn region -/
theorem step_storeP (i : Nat) {x y : Operand} (hop : (ops[i]?).map (fun o => (o.op, o.type, o.dst)) = some (.store 23 x y, 0, none)) (hw : (ops[i]?).map (fun o => Region.wanted o (yielded ops a.tmps)) = some true)
 {g k v : Nat} {T : TypeId} {q : Nat → Nat} (hk : k < 256) (hr : Row w g T (pc q)) (hx : a.eval x = .pointer (some ⟨g, k, none⟩)) (hy : a.eval y = .int .u16 (v : Int))
 (h : ∀ w2, Row w2 g T (pc (upd q k v)) → But w.heap.size g w w2 → w2.heap.size = w.heap.size → S w2 ∧ wpAnyH Tryd.prog md ops Q S fuel (listed.setIfInBounds i true) a w2) : HStep Tryd.prog md ops Q S fuel listed a w i := by
 have hs := hr.set_ k (.int .u16 (v : Int))
 rw [pc_set] at hs
 exact step_store1 i _ hop hw (w.setCell ⟨g, k, none⟩ (.int .u16 (v : Int))) (run_storeP hk hr rfl hx hy) (h _ hs ((But.refl _ _ _).setCell _ _) (by simp [World.setCell]))
end
/-- the blocks of a layer, and the half of a block's length -/
def isLay (J H : Nat) : Prop := J = 1 ∧ H = 128 ∨ J = 2 ∧ H = 64 ∨ J = 4 ∧ H = 32 ∨ J = 8 ∧ H = 16 ∨ J = 16 ∧ H = 8 ∨ J = 32 ∧ H = 4 ∨ J = 64 ∧ H = 2 ∨ J = 128 ∧ H = 1
theorem isLay.half {J H : Nat} (h : isLay J H) (hJ : J < 128) : isHalf H ∧ 1 ≤ J ∧ J ≤ 64 ∧ H = 128 / J ∧ H * J = 128 ∧ H ≤ 128 ∧ 2 ≤ H ∧ isLay (2 * J) (H / 2) ∧ 2 * (H / 2) = H := by
 unfold isHalf isLay
 rcases h with ⟨rfl, rfl⟩ | ⟨rfl, rfl⟩ | ⟨rfl, rfl⟩ | ⟨rfl, rfl⟩ | ⟨rfl, rfl⟩ | ⟨rfl, rfl⟩ | ⟨rfl, rfl⟩ | ⟨rfl, rfl⟩ <;> first | omega | simp
theorem isLay.le {J H : Nat} (h : isLay J H) : J ≤ 128 := by unfold isLay at h; omega
theorem isLay.last {J H : Nat} (h : isLay J H) (hJ : ¬ J < 128) : J = 128 ∧ H = 1 := by unfold isLay at h; omega
/-- the places in a block are places in the polynomial -/
theorem place_lt {J H k j : Nat} (h : H * J = 128) (hk : k < J) (hj : j < H) : 2 * H * k + j + H < 256 ∧ 2 * H * k ≤ 256 := by
 have h1 : 2 * H * (k + 1) ≤ 2 * H * J := Nat.mul_le_mul_left _ hk
 rw [Nat.mul_assoc 2 H J, h] at h1
 rw [Nat.mul_succ] at h1
 omega
set_option maxHeartbeats 2000000 in
theorem Ntt_any (p : Nat → Nat) (hp : ∀ i, i < 256 → p i < 65536) (w : World) : Calls Tryd.prog 11 #[polyV p] w (PolyIs w (nttN p)) := by
 unfold PolyIs polyV
 generalize hN : w.heap.size = N at *
 have HRT : Shh (∀ W, Calls Tryd.prog 19 #[] W (RootsIs W)) := ⟨fun W => roots_any W⟩
 obtain ⟨F, HRD, HLA, HS, HB⟩ : ∃ F : Nat → Nat → Nat → Nat, Shh (∀ W, Calls Tryd.prog 18 #[.agg (pc p).toArray] W (PolyIs W (F 256 1))) ∧ Shh (pc (F 2 128) = pc (nttN p)) ∧ Shh (∀ H J k j, 1 ≤ J → J ≤ 64 → k < J → j < H → F H (2 * J) (2 * H * k + j) = (F (2 * H) J (2 * H * k + j) + wN (J + k) * F (2 * H) J (2 * H * k + j + H) % 3329) % 3329 ∧ F H (2 * J) (2 * H * k + j + H) = (F (2 * H) J (2 * H * k + j) + 3329 - wN (J + k) * F (2 * H) J (2 * H * k + j + H) % 3329) % 3329) ∧ Shh (∀ L J i, F L J i < 3329) :=
  ⟨fun L J => layN 1 L J p, ⟨fun W => by unfold PolyIs polyV; rw [show pc (layN 1 256 1 p) = pc (redN p) from pc_of fun i hi => layN_first p i hi]; exact Reduce_any p hp W⟩, ⟨pc_of fun i hi => layN_last p i hi⟩, ⟨fun H J k j h1 h2 h3 h4 => ⟨layN_lo H J k j h1 h2 h3 h4 p, layN_hi H J k j h1 h2 h3 h4 p⟩⟩, ⟨fun L J i => layN_lt 1 L J p i⟩⟩
 generalize nttN p = fin at *
 clear hp
 have HL0 : Shh (Row ((w.alloc (.cells (pc p).toArray 25)).alloc (.cells (pc fun _ => 0).toArray 25)) N 25 (pc p) ∧ Row ((w.alloc (.cells (pc p).toArray 25)).alloc (.cells (pc fun _ => 0).toArray 25)) (N + 1) 25 (pc fun _ => 0) ∧ Below N w ((w.alloc (.cells (pc p).toArray 25)).alloc (.cells (pc fun _ => 0).toArray 25))) := by
  refine ⟨(Row.new_ hN.symm rfl).alloc _, Row.new_ (by rw [asz, hN]) rfl, ?_⟩
  rw [← hN]
  exact Below.chain (bel1 _ _) (bel1 _ _)
 go_enter Tryd.func11, Tryd.ntmps11
 go_wp2_with (first | refine wl_allocP rfl rfl ?_ | refine wpList_load_any rfl 25 (.tmp 1) rfl N rfl 25 (pc p) (.array 256 23) HL0.out.1 Tryd.underlying25 rfl (info_poly.trans (size_poly p)) ?_ | (go_at_call 18; refine (HRD.out _).mono ?_))
 rintro e w2 ⟨rfl, b2⟩
 have HW2 : Shh (Row w2 N 25 (pc p) ∧ Row w2 (N + 1) 25 (pc fun _ => 0) ∧ Below N w w2) := ⟨HL0.out.1.go b2, HL0.out.2.1.go b2, HL0.out.2.2.trans (b2.mono (by have := HL0.out.1.lt; omega))⟩
 clear b2 HL0 HRD
 go_wp2_with (refine wpList_store_any rfl 25 (.tmp 1) (.tmp 12) rfl N rfl (pc (F 256 1)) rfl 25 _ HW2.out.1 (info_poly.trans (size_poly _)) (by rw [pc_length, pc_length]) (pc_one _) ?_)
 intro w3 r3 b3 z3
 have HW3 : Shh (Row w3 N 25 (pc (F 256 1)) ∧ Row w3 (N + 1) 25 (pc fun _ => 0) ∧ Below N w w3) := ⟨r3, b3.row HW2.out.2.1 HW2.out.2.1.lt (by omega), HW2.out.2.2.trans (b3.under (Nat.le_of_lt HW2.out.1.lt) (by omega))⟩
 clear r3 b3 z3 HW2
 go_wp2_with (go_at_call 19; refine (HRT.out _).mono ?_)
 rintro e w4 ⟨rfl, b4⟩
 generalize hG : w4.heap.size = G
 have HW4 : Shh (Row w4 N 25 (pc (F 256 1)) ∧ Row w4 (N + 1) 25 (pc fun _ => 0) ∧ Below N w w4 ∧ N + 1 < G) := ⟨HW3.out.1.go b4, HW3.out.2.1.go b4, HW3.out.2.2.trans (b4.mono (Nat.le_of_lt HW3.out.1.lt)), by have := (HW3.out.2.1.go b4).lt; omega⟩
 clear b4 HW3 HRT
 have HG0 : Shh (Row (w4.alloc (.cells (uc 128 fun _ => 0).toArray 51)) w4.heap.size 51 (uc 128 fun _ => 0)) := ⟨Row.new_ rfl rfl⟩
 go_wp2_with (first | refine wl_allocR rfl rfl ?_ | refine wpList_store_any rfl 51 (.tmp 3) (.tmp 13) rfl w4.heap.size rfl (uc 128 wN) rfl 51 _ HG0.out (info_roots.trans (size_uc _ _)) (by rw [uc_length, uc_length]) (uc_one _ _) ?_)
 intro w5 r5 b5 z5
 try rw [hG] at r5
 try rw [hG] at b5
 have HW5 : Shh (Row w5 N 25 (pc (F (2 * 128) 1)) ∧ Row w5 (N + 1) 25 (pc fun _ => 0) ∧ Row w5 G 51 (uc 128 wN) ∧ Below N w w5 ∧ N + 1 < G) := ⟨b5.row (HW4.out.1.alloc _) (by have := HW4.out.2.2.2; omega) (by have := HW4.out.2.2.2; omega), b5.row (HW4.out.2.1.alloc _) (by have := HW4.out.2.2.2; omega) (by have := HW4.out.2.2.2; omega), r5, (HW4.out.2.2.1.alloc (Nat.le_of_lt HW4.out.1.lt) _).trans (b5.under (by have := HW4.out.2.2.2; omega) (by have := HW4.out.2.2.2; omega)), HW4.out.2.2.2⟩
 clear r5 b5 z5 HW4 HG0 hG
 go_wp2
 go_loopw [4] (fun b wr => ∃ J H : Nat, Shh (isLay J H) ∧ b = .int .i64 (J : Int) ∧ Shh (Row wr N 25 (pc (F (2 * H) J)) ∧ Row wr (N + 1) 25 (pc fun _ => 0) ∧ Row wr G 51 (uc 128 wN) ∧ Below N w wr ∧ N + 1 < G)) (fun b _ => 128 - (intOf b).toNat)
 case atStart => exact ⟨1, 128, ⟨Or.inl ⟨rfl, rfl⟩⟩, rfl, HW5⟩
 case round =>
  clear HW5
  obtain ⟨J, H, HJ, rfl, HI⟩ := hrel
  by_cases hlt : J < 128
  ·have hlt2 : (J : Int) < 128 := by omega
   have HH := Shh.mk (HJ.out.half hlt)
   have hJ0 : 0 < J := by have := HH.out.2.1; omega
   go_wp2_with (refine wl_at 19 rfl (.int .i64 (H : Int)) rfl (quo_ii (i := 128) (j := J) HH.out.2.2.2.1 hJ0 (by decide) rfl rfl rfl) ?_)
   go_loopw [21] (fun c wr2 => ∃ k : Nat, k ≤ J ∧ c = .int .i64 (k : Int) ∧ Shh (Row wr2 N 25 (pc (midN H k 0 (F H (2 * J)) (F (2 * H) J))) ∧ Row wr2 (N + 1) 25 (pc fun _ => 0) ∧ Row wr2 G 51 (uc 128 wN) ∧ Below N w wr2 ∧ N + 1 < G)) (fun c _ => J - (intOf c).toNat)
   case atStart => exact ⟨0, Nat.zero_le _, rfl, ⟨by rw [mid_start]; exact HI.out⟩⟩
   case round =>
    clear HI
    obtain ⟨k, hk, rfl, HI⟩ := hrel
    by_cases hkt : k < J
    ·have hkt2 : (k : Int) < (J : Int) := by omega
     obtain ⟨A, HA⟩ : ∃ A, Shh (A = 2 * H) := ⟨_, ⟨rfl⟩⟩
     obtain ⟨X0, HX0⟩ : ∃ X, Shh (X = A * k) := ⟨_, ⟨rfl⟩⟩
     have HPL : Shh (∀ j, j < H → X0 + j + H < 256 ∧ X0 = 2 * H * k) := ⟨fun j hj => by have := place_lt HH.out.2.2.2.2.1 hkt hj; rw [HX0.out, HA.out]; omega⟩
     have HX1 : Shh (X0 + H ≤ 256 ∧ A ≤ 1000000 ∧ X0 ≤ 1000000) := by
      have h1 := HPL.out 0 (by have := HH.out; omega)
      have h2 := HA.out
      have h3 := HH.out.2.2.2.2.2.1
      exact ⟨by omega⟩
     have V1 := Shh.mk (show A ≤ 1000000000000 by have := HX1.out; omega)
     have V2 := Shh.mk (show X0 ≤ 1000000000000 by have := HX1.out; omega)
     obtain ⟨E, HE⟩ : ∃ E, Shh (E = X0 + H ∧ E ≤ 1000000000000) := ⟨_, ⟨rfl, by have := HX1.out; omega⟩⟩
     go_wp2_with (first | refine wl_at 25 rfl (.int .i64 (A : Int)) rfl (mul_iin (i := 2) (j := H) HA.out V1.out rfl rfl rfl) ?_ | refine wl_at 27 rfl (.int .i64 (X0 : Int)) rfl (mul_iin (i := A) (j := k) HX0.out V2.out rfl rfl rfl) ?_)
     go_loopw [8] (fun i wr3 => ∃ j x : Nat, j ≤ H ∧ Shh (x = X0 + j) ∧ i = .int .i64 (x : Int) ∧ Shh (Row wr3 N 25 (pc (midN H k j (F H (2 * J)) (F (2 * H) J))) ∧ Row wr3 (N + 1) 25 (pc fun _ => 0) ∧ Row wr3 G 51 (uc 128 wN) ∧ Below N w wr3 ∧ N + 1 < G)) (fun i _ => X0 + H - (intOf i).toNat)
     case atStart => exact ⟨0, X0, Nat.zero_le _, ⟨rfl⟩, rfl, HI⟩
     case round =>
      clear HI
      obtain ⟨j, x, hj, Hx, rfl, HI⟩ := hrel
      by_cases hjt : j < H
      ·have hjt2 : (x : Int) < (E : Int) := by have := Hx.out; have := HE.out; omega
       have HPX := Shh.mk (HPL.out j hjt)
       obtain ⟨y, Hy⟩ : ∃ y, Shh (y = x + H ∧ y ≤ 1000000000000) := ⟨_, ⟨rfl, by have := Hx.out; have := HPX.out; omega⟩⟩
       obtain ⟨t, Ht⟩ : ∃ t, Shh (t = J + k ∧ t ≤ 1000000000000) := ⟨_, ⟨rfl, by have := HH.out; omega⟩⟩
       obtain ⟨x1, Hx1⟩ : ∃ x1, Shh (x1 = x + 1 ∧ x1 ≤ 1000000000000) := ⟨_, ⟨rfl, by have := Hx.out; have := HPX.out; omega⟩⟩
       have hx : x < 256 := by have := Hx.out; have := HPX.out; omega
       have hy : y < 256 := by have := Hx.out; have := HPX.out; have := Hy.out; omega
       have ht : t < 128 := by have := HH.out; have := Ht.out; omega
       have ex : x = 2 * H * k + j := by have := Hx.out; have := HPX.out; omega
       have ey : y = 2 * H * k + j + H := by have := Hy.out; omega
       have HST := HS.out H J k j HH.out.2.1 HH.out.2.2.1 hkt hjt
       have HM2 := Shh.mk (mid_two H k j HH.out.1 hjt (F H (2 * J)) (F (2 * H) J))
       have HML := mid_lo H k j hjt (F H (2 * J)) (F (2 * H) J)
       have HMH := mid_hi H k j hjt (F H (2 * J)) (F (2 * H) J)
       rw [← ey, ← ex, ← Ht.out.1] at HST
       rw [← ey, ← ex] at HM2
       rw [← ex] at HML
       rw [← ey] at HMH
       have c1 := HI.out.1.drew.cell x
       rw [pc_get _ hx, HML] at c1
       have c3 := HI.out.1.drew.cell y
       rw [pc_get _ hy, HMH] at c3
       have c2 := HI.out.2.2.1.drew.cell t
       rw [uc_get _ ht] at c2
       have B1 := HB.out (2 * H) J x
       have B3 := HB.out (2 * H) J y
       have B2 := wN_lt t
       clear HML HMH ex ey
       generalize F H (2 * J) x = s1 at *
       generalize F H (2 * J) y = s2 at *
       generalize F (2 * H) J x = a1 at *
       generalize F (2 * H) J y = a3 at *
       generalize wN t = a2 at *
       obtain ⟨m, Hm⟩ : ∃ m, Shh (m = a2 * a3 % 3329) := ⟨_, ⟨rfl⟩⟩
       rw [← Hm.out] at HST
       have Bm : m < 3329 := by rw [Hm.out]; exact Nat.mod_lt _ (by decide)
       have C1 : Shh (∀ W, Calls Tryd.prog 20 #[.int .u16 (a2 : Int), .int .u16 (a3 : Int)] W (U16Is W m)) := ⟨fun W => by rw [Hm.out]; exact product_any a2 a3 ⟨by omega, by omega⟩ W⟩
       have C2 : Shh (∀ W, Calls Tryd.prog 21 #[.int .u16 (a1 : Int), .int .u16 (m : Int)] W (U16Is W s1)) := ⟨fun W => by rw [HST.1]; exact sum_any a1 m (by omega) W⟩
       have C3 : Shh (∀ W, Calls Tryd.prog 22 #[.int .u16 (a1 : Int), .int .u16 (m : Int)] W (U16Is W s2)) := ⟨fun W => by rw [HST.2]; exact difference_any a1 m ⟨by omega, by omega⟩ W⟩
       have HC := Shh.mk (And.intro c1 (And.intro c2 c3))
       clear c1 c2 c3 HST B1 B2 B3 Bm Hm HPX
       go_wp2_with (refine wl_at 32 rfl (.int .i64 (E : Int)) rfl (add_ii (i := X0) (j := H) HE.out rfl rfl rfl) ?_)
       refine wp_region_held_drew (S := fun w' => w'.cell? ⟨N, x, none⟩ = some (.int .u16 (a1 : Int)) ∧ w'.cell? ⟨G, t, none⟩ = some (.int .u16 (a2 : Int)) ∧ w'.cell? ⟨N, y, none⟩ = some (.int .u16 (a3 : Int))) (by kernel_rfl) HC.out (fun hS => ?_)
       clear hS
       obtain ⟨V, hV⟩ : ∃ V, V = World.drew wr := ⟨_, rfl⟩
       rw [← hV] at HC ⊢
       have HIV : Shh (Row V N 25 (pc (midN H k j (F H (2 * J)) (F (2 * H) J))) ∧ Row V (N + 1) 25 (pc fun _ => 0) ∧ Row V G 51 (uc 128 wN) ∧ Below N w V ∧ N + 1 < G) := by rw [hV]; exact ⟨HI.out.1.drew, HI.out.2.1.drew, HI.out.2.2.1.drew, HI.out.2.2.2.1.drew, HI.out.2.2.2.2⟩
       clear HI hV
       refine hdv0 0 36 (.int .i64 (x : Int)) (by rfl) (HC.out) ?_
       refine hdv 1 37 (.pointer (some ⟨N, x, none⟩)) (by rfl) (fun w hS => at_poly hx rfl (by kernel_rfl) (by kernel_rfl)) (HC.out) ?_
       refine hdv 2 38 (.int .u16 (a1 : Int)) (by rfl) (fun w hS => load_u16 rfl hS.1 (by kernel_rfl)) (HC.out) ?_
       refine hdv0 3 39 (.int .i64 (J : Int)) (by rfl) (HC.out) ?_
       refine hdv0 4 40 (.int .i64 (k : Int)) (by rfl) (HC.out) ?_
       refine hdv 5 41 (.int .i64 (t : Int)) (by rfl) (fun w hS => add_ii (i := J) (j := k) Ht.out rfl (by kernel_rfl) (by kernel_rfl)) (HC.out) ?_
       refine hdv 6 42 (.pointer (some ⟨G, t, none⟩)) (by rfl) (fun w hS => at_roots ht rfl (by kernel_rfl) (by kernel_rfl)) (HC.out) ?_
       refine hdv 7 43 (.int .u16 (a2 : Int)) (by rfl) (fun w hS => load_u16 rfl hS.2.1 (by kernel_rfl)) (HC.out) ?_
       refine hdv0 8 44 (.int .i64 (x : Int)) (by rfl) (HC.out) ?_
       refine hdv0 9 45 (.int .i64 (H : Int)) (by rfl) (HC.out) ?_
       refine hdv 10 46 (.int .i64 (y : Int)) (by rfl) (fun w hS => add_ii (i := x) (j := H) Hy.out rfl (by kernel_rfl) (by kernel_rfl)) (HC.out) ?_
       refine hdv 11 47 (.pointer (some ⟨N, y, none⟩)) (by rfl) (fun w hS => at_poly hy rfl (by kernel_rfl) (by kernel_rfl)) (HC.out) ?_
       refine hdv 12 48 (.int .u16 (a3 : Int)) (by rfl) (fun w hS => load_u16 rfl hS.2.2 (by kernel_rfl)) (HC.out) ?_
       refine held_one 13 (by kernel_rfl) ?_
       refine step_call 13 _ _ (some 49) 20 #[.int .u16 (a2 : Int), .int .u16 (a3 : Int)] (by rfl) (by kernel_rfl) (by first | kernel_rfl | go_simp) ?_
       refine (C1.out V).mono ?_
       rintro e Y1 ⟨rfl, hq⟩
       obtain rfl : V = Y1 := hq
       refine ⟨_, rfl, HC.out, ?_⟩
       simp only [Act.put, arr9, hd9, tl9]
       refine hdv0 14 9 (.int .u16 (a1 : Int)) (by rfl) (HC.out) ?_
       refine hdv0 15 10 (.int .u16 (m : Int)) (by rfl) (HC.out) ?_
       refine wpAnyH_done (by kernel_rfl) ?_ _
       go_wp2
       refine wp_region_held_drew (S := fun _ => True) (by kernel_rfl) trivial (fun hS => ?_)
       clear hS HC
       obtain ⟨U, hU⟩ : ∃ U, U = World.drew V := ⟨_, rfl⟩
       rw [← hU]
       have HIU : Shh (Row U N 25 (pc (midN H k j (F H (2 * J)) (F (2 * H) J))) ∧ Row U (N + 1) 25 (pc fun _ => 0) ∧ Row U G 51 (uc 128 wN) ∧ Below N w U ∧ N + 1 < G) := by rw [hU]; exact ⟨HIV.out.1.drew, HIV.out.2.1.drew, HIV.out.2.2.1.drew, HIV.out.2.2.2.1.drew, HIV.out.2.2.2.2⟩
       clear HIV hU
       refine hdv0 0 50 (.int .i64 (x : Int)) (by rfl) (trivial) ?_
       refine hdv0 1 51 (.int .i64 (x : Int)) (by rfl) (trivial) ?_
       refine hdv0 2 52 (.int .i64 (H : Int)) (by rfl) (trivial) ?_
       refine hdv 3 53 (.int .i64 (y : Int)) (by rfl) (fun w hS => add_ii (i := x) (j := H) Hy.out rfl (by kernel_rfl) (by kernel_rfl)) (trivial) ?_
       refine hdv0 4 54 (.int .u16 (a1 : Int)) (by rfl) (trivial) ?_
       refine hdv0 5 55 (.int .u16 (m : Int)) (by rfl) (trivial) ?_
       refine hdv0 7 57 (.int .u16 (a1 : Int)) (by rfl) (trivial) ?_
       refine hdv0 8 58 (.int .u16 (m : Int)) (by rfl) (trivial) ?_
       refine held_one 6 (by kernel_rfl) ?_
       refine step_call 6 _ _ (some 56) 21 #[.int .u16 (a1 : Int), .int .u16 (m : Int)] (by rfl) (by kernel_rfl) (by first | kernel_rfl | go_simp) ?_
       refine (C2.out U).mono ?_
       rintro e Y1 ⟨rfl, hq⟩
       obtain rfl : U = Y1 := hq
       refine ⟨_, rfl, trivial, ?_⟩
       simp only [Act.put, arr9, hd9, tl9]
       refine hdv 10 60 (.pointer (some ⟨N, x, none⟩)) (by rfl) (fun w hS => at_poly hx rfl (by kernel_rfl) (by kernel_rfl)) (trivial) ?_
       refine held_one 9 (by kernel_rfl) ?_
       refine step_call 9 _ _ (some 59) 22 #[.int .u16 (a1 : Int), .int .u16 (m : Int)] (by rfl) (by kernel_rfl) (by first | kernel_rfl | go_simp) ?_
       refine (C3.out U).mono ?_
       rintro e Y2 ⟨rfl, hq⟩
       obtain rfl : U = Y2 := hq
       refine ⟨_, rfl, trivial, ?_⟩
       simp only [Act.put, arr9, hd9, tl9]
       refine held_one 11 (by kernel_rfl) ?_
       refine step_storeP 11 (v := s1) (by rfl) (by kernel_rfl) hx HIU.out.1 (by kernel_rfl) (by kernel_rfl) ?_
       intro Y3 r6 b6 z6
       have HI6 : Shh (Row Y3 N 25 (pc (upd (midN H k j (F H (2 * J)) (F (2 * H) J)) x s1)) ∧ Row Y3 (N + 1) 25 (pc fun _ => 0) ∧ Row Y3 G 51 (uc 128 wN) ∧ Below N w Y3 ∧ N + 1 < G) := ⟨r6, b6.row HIU.out.2.1 HIU.out.2.1.lt (by omega), b6.row HIU.out.2.2.1 HIU.out.2.2.1.lt (by have := HIU.out.2.2.2.2; omega), HIU.out.2.2.2.1.trans (b6.under (Nat.le_of_lt HIU.out.1.lt) (by omega)), HIU.out.2.2.2.2⟩
       clear r6 b6 z6 HIU
       refine ⟨trivial, ?_⟩
       refine hdv 12 61 (.pointer (some ⟨N, y, none⟩)) (by rfl) (fun w hS => at_poly hy rfl (by kernel_rfl) (by kernel_rfl)) (trivial) ?_
       refine held_one 13 (by kernel_rfl) ?_
       refine step_storeP 13 (v := s2) (by rfl) (by kernel_rfl) hy HI6.out.1 (by kernel_rfl) (by kernel_rfl) ?_
       intro Y4 r7 b7 z7
       rw [HM2.out] at r7
       have HI7 : Shh (Row Y4 N 25 (pc (midN H k (j + 1) (F H (2 * J)) (F (2 * H) J))) ∧ Row Y4 (N + 1) 25 (pc fun _ => 0) ∧ Row Y4 G 51 (uc 128 wN) ∧ Below N w Y4 ∧ N + 1 < G) := ⟨r7, b7.row HI6.out.2.1 HI6.out.2.1.lt (by omega), b7.row HI6.out.2.2.1 HI6.out.2.2.1.lt (by have := HI6.out.2.2.2.2; omega), HI6.out.2.2.2.1.trans (b7.under (Nat.le_of_lt HI6.out.1.lt) (by omega)), HI6.out.2.2.2.2⟩
       clear r7 b7 z7 HI6
       refine ⟨trivial, ?_⟩
       refine wpAnyH_done (by kernel_rfl) ?_ _
       go_wp2_with (refine wl_at 35 rfl (.int .i64 (x1 : Int)) rfl (add_ii (i := x) (j := 1) Hx1.out rfl rfl rfl) ?_)
       go_roundw
       case rel => exact ⟨j + 1, x1, by omega, ⟨by have := Hx.out; have := Hx1.out; omega⟩, rfl, HI7⟩
       case measure => (have := Hx.out; have := Hx1.out; simp [intOf]; omega)
      ·have hjt2 : ¬ (x : Int) < (E : Int) := by have := Hx.out; have := HE.out; omega
       have HMN : Shh (pc (midN H k j (F H (2 * J)) (F (2 * H) J)) = pc (midN H (k + 1) 0 (F H (2 * J)) (F (2 * H) J))) := ⟨by rw [show j = H by omega]; exact mid_next H k HH.out.1 _ _⟩
       rw [HMN.out] at HI
       go_wp2_with (refine wl_at 32 rfl (.int .i64 (E : Int)) rfl (add_ii (i := X0) (j := H) HE.out rfl rfl rfl) ?_)
       go_roundw
       case rel => exact ⟨k + 1, by omega, by go_num, HI⟩
       case measure => simp [intOf]; omega
    ·have hkt2 : ¬ (k : Int) < (J : Int) := by omega
     have HME : Shh (pc (midN H k 0 (F H (2 * J)) (F (2 * H) J)) = pc (F (2 * (H / 2)) (2 * J))) := ⟨by rw [show k = J by omega, mid_end H J HH.out.1 HH.out.2.2.2.2.1, HH.out.2.2.2.2.2.2.2.2]⟩
     rw [HME.out] at HI
     obtain ⟨J2, HJ2⟩ : ∃ J2, Shh (J2 = J * 2 ∧ J2 ≤ 1000000000000) := ⟨_, ⟨rfl, by have := HH.out; omega⟩⟩
     go_wp2_with (refine wl_at 17 rfl (.int .i64 (J2 : Int)) rfl (mul_iin (i := J) (j := 2) HJ2.out.1 HJ2.out.2 rfl rfl rfl) ?_)
     go_roundw
     case rel => exact ⟨2 * J, H / 2, ⟨HH.out.2.2.2.2.2.2.2.1⟩, by rw [HJ2.out.1, Nat.mul_comm], HI⟩
     case measure => (have := HJ2.out; simp [intOf]; omega)
  ·have hlt2 : ¬ (J : Int) < 128 := by omega
   have HI2 : Shh (Row wr N 25 (pc fin) ∧ Row wr (N + 1) 25 (pc fun _ => 0) ∧ Row wr G 51 (uc 128 wN) ∧ Below N w wr ∧ N + 1 < G) := ⟨by
    have h := HI.out
    obtain ⟨e1, e2⟩ := HJ.out.last hlt
    rw [e1, e2, show 2 * 1 = 2 from rfl, HLA.out] at h
    exact h⟩
   clear HI HLA HS HB
   go_wp2_with (first
    | refine wpList_load_any rfl 25 (.tmp 1) rfl N rfl 25 (pc fin) (.array 256 23) HI2.out.1 Tryd.underlying25 rfl (info_poly.trans (size_poly fin)) ?_
    | refine wpList_store_any rfl 25 (.tmp 2) (.tmp 63) rfl (N + 1) rfl (pc fin) rfl 25 _ HI2.out.2.1 (info_poly.trans (size_poly fin)) (by rw [pc_length, pc_length]) (pc_one fin) ?_)
   intro w9 hr9 b9 _
   have hb9 := HI2.out.2.2.2.1.trans (b9.under (Nat.le_of_lt HI2.out.1.lt) (Nat.le_succ _))
   go_wp2
   exact ret_row Tryd.results11 rfl rfl hr9 Tryd.underlying25 rfl (info_poly.trans (size_poly fin)) ⟨rfl, hb9⟩
end Go.Proofs.YtfcgdjgfdbcddaaDoor
