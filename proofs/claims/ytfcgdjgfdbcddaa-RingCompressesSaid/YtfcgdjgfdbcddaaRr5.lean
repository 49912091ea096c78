/-
 THE DOCUMENT'S OWN Mul.
-/
import Derived.Test.YtfcgdjgfdbcddaaRp4
namespace Go.Proofs.Ytfcgdjgfdbcddaa
open Go.RowKit
set_option maxRecDepth 100000
set_option maxHeartbeats 2000000 in
theorem refMul_any (p p2 : Nat → Nat) (hp : ∀ i, i < 256 → p i < 65536) (hp2 : ∀ i, i < 256 → p2 i < 65536) (w : World) : Calls Try.prog 21 #[polyV p, polyV p2] w (PolyIs w (mulN p p2)) := by
 unfold PolyIs polyV
 generalize hN : w.heap.size = N at *
 have HP := Shh.mk (And.intro hp hp2)
 obtain ⟨SM, HSM⟩ : ∃ SM, Shh (SM = sumP (fun i => p i % 3329) (fun i => p2 i % 3329)) := ⟨_, ⟨rfl⟩⟩
 have HZ : Shh (∀ k, (SM 256 0 k % 3329 + 3329 - SM 256 0 (k + 256) % 3329) % 3329 = mulN p p2 k) := ⟨fun k => by rw [HSM.out]; exact mul_out p p2 k⟩
 have H0 : Shh (SM 0 0 = (fun _ => 0) ∧ (∀ i, SM i 256 = SM (i + 1) 0) ∧ (∀ i k, upd (SM i k) (i + k) (SM i k (i + k) + p i % 3329 * (p2 k % 3329)) = SM i (k + 1)) ∧ ∀ i k m, i ≤ 256 → k ≤ 256 → SM i k m ≤ 800000000000) := ⟨by
  rw [HSM.out]
  exact ⟨sumP_zero _ _, sumP_row _ _, sumP_next _ _, fun i k m => sumP_le (fun _ => Nat.mod_lt _ (by decide)) (fun _ => Nat.mod_lt _ (by decide)) i k m⟩⟩
 generalize mulN p p2 = r at *
 clear hp hp2 HSM
 go_enter Try.func21, Try.ntmps21
 go_wp2_with (first | refine wl_allocP rfl rfl ?_ | refine wl_alloc512 rfl rfl ?_)
 obtain ⟨W, hW⟩ : ∃ W, W = (((w.alloc (.cells (pc p).toArray 24)).alloc (.cells (pc p2).toArray 24)).alloc (.cells (pc fun _ => 0).toArray 24)).alloc (.cells (ic 512 fun _ => 0).toArray 47) := ⟨_, rfl⟩
 have HW : Shh (Row W N 24 (pc p) ∧ Row W (N + 1) 24 (pc p2) ∧ Row W (N + 2) 24 (pc fun _ => 0) ∧ Row W (N + 3) 47 (ic 512 (SM 0 0)) ∧ Below N w W) := by
  rw [H0.out.1]
  refine ⟨by rw [hW]; exact (((Row.new_ hN.symm rfl).alloc _).alloc _).alloc _, by rw [hW]; exact ((Row.new_ (by rw [asz, hN]) rfl).alloc _).alloc _, by rw [hW]; exact (Row.new_ (by rw [asz, asz, hN]) rfl).alloc _, by rw [hW]; exact Row.new_ (by rw [asz, asz, asz, hN]) rfl, ?_⟩
  rw [hW, ← hN]
  exact Below.chain (Below.chain (Below.chain (bel1 _ _) (bel1 _ _)) (bel1 _ _)) (bel1 _ _)
 try simp only [asz, hN]
 rw [← hW]
 clear hW
 go_wp2
 go_loopw [6, 7, 10, 13] (fun _ _ i _ wr => ∃ k : Nat, k ≤ 256 ∧ i = .int .i64 (k : Int) ∧ Shh (Row wr N 24 (pc p) ∧ Row wr (N + 1) 24 (pc p2) ∧ Row wr (N + 2) 24 (pc fun _ => 0) ∧ Row wr (N + 3) 47 (ic 512 (SM k 0)) ∧ Below N w wr)) (fun _ _ i _ _ => 256 - (intOf i).toNat)
 case atStart => exact ⟨0, Nat.zero_le _, rfl, HW⟩
 case round =>
  clear HW
  obtain ⟨i, hi, rfl, HI⟩ := hrel
  by_cases hli : i < 256
  ·have hli2 : (i : Int) < 256 := by omega
   have HPI := Shh.mk (HP.out.1 i hli)
   go_wp2
   go_loopw [7, 13] (fun _ c wq => ∃ k : Nat, k ≤ 256 ∧ c = .int .i64 (k : Int) ∧ Shh (Row wq N 24 (pc p) ∧ Row wq (N + 1) 24 (pc p2) ∧ Row wq (N + 2) 24 (pc fun _ => 0) ∧ Row wq (N + 3) 47 (ic 512 (SM i k)) ∧ Below N w wq)) (fun _ c _ => 256 - (intOf c).toNat)
   case atStart => exact ⟨0, Nat.zero_le _, rfl, HI⟩
   case round =>
    clear HI
    obtain ⟨k, hk, rfl, HI⟩ := hrel
    by_cases hlk : k < 256
    ·have hlk2 : (k : Int) < 256 := by omega
     obtain ⟨m, Hm⟩ : ∃ m, Shh (m = i + k) := ⟨_, ⟨rfl⟩⟩
     have hm : m < 512 := by have := Hm.out; omega
     have Vm := Shh.mk (show m = i + k ∧ m ≤ 1000000000000 from ⟨Hm.out, by omega⟩)
     have HS := Shh.mk (H0.out.2.2.1 i k)
     have HL := Shh.mk (H0.out.2.2.2 i k m (Nat.le_of_lt hli) (Nat.le_of_lt hlk))
     rw [← Hm.out] at HS
     obtain ⟨V, hV⟩ : ∃ V, V = World.drew wr := ⟨_, rfl⟩
     have HIV : Shh (Row V N 24 (pc p) ∧ Row V (N + 1) 24 (pc p2) ∧ Row V (N + 2) 24 (pc fun _ => 0) ∧ Row V (N + 3) 47 (ic 512 (SM i k)) ∧ Below N w V) := by subst hV; exact ⟨HI.out.1.drew, HI.out.2.1.drew, HI.out.2.2.1.drew, HI.out.2.2.2.1.drew, HI.out.2.2.2.2.drew⟩
     have c1 : V.cell? ⟨N, i, none⟩ = some (.int .u16 (p i : Int)) := (HIV.out.1.cell i).trans (pc_get _ hli)
     have c2 : V.cell? ⟨N + 1, k, none⟩ = some (.int .u16 (p2 k : Int)) := (HIV.out.2.1.cell k).trans (pc_get _ hlk)
     have c3 : V.cell? ⟨N + 3, m, none⟩ = some (.int .i64 (SM i k m : Int)) := (HIV.out.2.2.2.1.cell m).trans (ic_get _ hm)
     have HB := Shh.mk (And.intro HPI.out (HP.out.2 k hlk))
     have HE : Shh (∀ v, v = SM i k m + p i % 3329 * (p2 k % 3329) → Row (V.setCell ⟨N + 3, m, none⟩ (.int .i64 (v : Int))) N 24 (pc p) ∧ Row (V.setCell ⟨N + 3, m, none⟩ (.int .i64 (v : Int))) (N + 1) 24 (pc p2) ∧ Row (V.setCell ⟨N + 3, m, none⟩ (.int .i64 (v : Int))) (N + 2) 24 (pc fun _ => 0) ∧ Row (V.setCell ⟨N + 3, m, none⟩ (.int .i64 (v : Int))) (N + 3) 47 (ic 512 (SM i (k + 1))) ∧ Below N w (V.setCell ⟨N + 3, m, none⟩ (.int .i64 (v : Int)))) := ⟨fun v hv => by
      have h := HIV.out.2.2.2.1.set_ m (.int .i64 (v : Int))
      rw [ic_set, hv, HS.out, ← hv] at h
      exact ⟨HIV.out.1.other _ _ (by simp), HIV.out.2.1.other _ _ (by simp), HIV.out.2.2.1.other _ _ (by simp), h, HIV.out.2.2.2.2.setCell (p := ⟨N + 3, m, none⟩) (Nat.le_add_right _ _) _⟩⟩
     obtain ⟨sm, Hsm⟩ : ∃ v, Shh (v = SM i k m) := ⟨_, ⟨rfl⟩⟩
     rw [← Hsm.out] at HE c3 HL
     obtain ⟨A, HA⟩ : ∃ v, Shh (v = p i) := ⟨_, ⟨rfl⟩⟩
     rw [← HA.out] at HE c1 HB
     obtain ⟨B, HBB⟩ : ∃ v, Shh (v = p2 k) := ⟨_, ⟨rfl⟩⟩
     rw [← HBB.out] at HE c2 HB
     obtain ⟨a, Ha⟩ : ∃ v, Shh (v = A % 3329) := ⟨_, ⟨rfl⟩⟩
     obtain ⟨b, Hb⟩ : ∃ v, Shh (v = B % 3329) := ⟨_, ⟨rfl⟩⟩
     rw [← Ha.out, ← Hb.out] at HE
     obtain ⟨ab, Hab⟩ : ∃ v, Shh (v = a * b) := ⟨_, ⟨rfl⟩⟩
     rw [← Hab.out] at HE
     obtain ⟨s, Hs⟩ : ∃ v, Shh (v = sm + ab) := ⟨_, ⟨rfl⟩⟩
     have HF := Shh.mk (HE.out s Hs.out)
     have hal : a < 3329 := by rw [Ha.out]; exact Nat.mod_lt _ (by decide)
     have hbl : b < 3329 := by rw [Hb.out]; exact Nat.mod_lt _ (by decide)
     have habl : ab ≤ 3329 * 3329 := by rw [Hab.out]; exact Nat.mul_le_mul (Nat.le_of_lt hal) (Nat.le_of_lt hbl)
     have VL : Shh (a < 65536 ∧ b < 65536 ∧ ab ≤ 1000000000000 ∧ (s = sm + ab ∧ s ≤ 1000000000000)) := ⟨by omega, by omega, by omega, Hs.out, by have := Hs.out; have := HL.out; omega⟩
     clear hal hbl habl HE Hsm HA HBB HI
     go_wp2
     refine wp_region_held_drew (S := fun w' => w'.cell? ⟨N, i, none⟩ = some (.int .u16 (A : Int)) ∧ w'.cell? ⟨N + 1, k, none⟩ = some (.int .u16 (B : Int))) (by kernel_rfl) (by rw [← hV]; exact ⟨c1, c2⟩) (fun hS => ?_)
     clear hS
     rw [← hV]
     have hc : V.cell? ⟨N, i, none⟩ = some (.int .u16 (A : Int)) ∧ V.cell? ⟨N + 1, k, none⟩ = some (.int .u16 (B : Int)) := ⟨c1, c2⟩
     clear hV c1 c2
     refine hdv0 0 16 (.int .i64 (i : Int)) (by rfl) (hc) ?_
     refine hdv0 1 17 (.int .i64 (k : Int)) (by rfl) (hc) ?_
     refine hdv 2 18 (.int .i64 (m : Int)) (by rfl) (fun w hS => add_ii Vm.out rfl (by kernel_rfl) (by kernel_rfl)) (hc) ?_
     refine hdv 3 19 (.pointer (some ⟨N + 3, m, none⟩)) (by rfl) (fun w hS => at_512 hm rfl (by kernel_rfl) (by kernel_rfl)) (hc) ?_
     refine hdv0 5 21 (.int .i64 (i : Int)) (by rfl) (hc) ?_
     refine hdv 6 22 (.pointer (some ⟨N, i, none⟩)) (by rfl) (fun w hS => at_poly hli rfl (by kernel_rfl) (by kernel_rfl)) (hc) ?_
     refine hdv 7 23 (.int .u16 (A : Int)) (by rfl) (fun w hS => load_u16 rfl hS.1 (by kernel_rfl)) (hc) ?_
     refine hdv 8 24 (.int .u16 (a : Int)) (by rfl) (fun w hS => rem_u16 Ha.out HB.out.1 rfl (by kernel_rfl)) (hc) ?_
     refine hdv 9 25 (.int .i64 (a : Int)) (by rfl) (fun w hS => conv_ui16 VL.out.1 rfl (by kernel_rfl)) (hc) ?_
     refine hdv0 10 26 (.int .i64 (k : Int)) (by rfl) (hc) ?_
     refine hdv 11 27 (.pointer (some ⟨N + 1, k, none⟩)) (by rfl) (fun w hS => at_poly hlk rfl (by kernel_rfl) (by kernel_rfl)) (hc) ?_
     refine hdv 12 28 (.int .u16 (B : Int)) (by rfl) (fun w hS => load_u16 rfl hS.2 (by kernel_rfl)) (hc) ?_
     refine hdv 13 29 (.int .u16 (b : Int)) (by rfl) (fun w hS => rem_u16 Hb.out HB.out.2 rfl (by kernel_rfl)) (hc) ?_
     refine hdv 14 30 (.int .i64 (b : Int)) (by rfl) (fun w hS => conv_ui16 VL.out.2.1 rfl (by kernel_rfl)) (hc) ?_
     refine hdv 15 31 (.int .i64 (ab : Int)) (by rfl) (fun w hS => mul_iin Hab.out VL.out.2.2.1 rfl (by kernel_rfl) (by kernel_rfl)) (hc) ?_
     refine held_one 4 (by kernel_rfl) ?_
     refine step_value 4 _ _ (some 20) (.int .i64 (sm : Int)) V (by rfl) (by kernel_rfl) (load_ir rfl c3 (by kernel_rfl)) (hc) ?_
     simp only [Act.put, arr9, hd9, tl9]
     refine hdv 16 32 (.int .i64 (s : Int)) (by rfl) (fun w hS => add_ii VL.out.2.2.2 rfl (by kernel_rfl) (by kernel_rfl)) (hc) ?_
     refine hdv 17 33 (.pointer (some ⟨N + 3, m, none⟩)) (by rfl) (fun w hS => at_512 hm rfl (by kernel_rfl) (by kernel_rfl)) (hc) ?_
     refine held_one 18 (by kernel_rfl) ?_
     refine step_store1 18 _ (by rfl) (by kernel_rfl) (V.setCell ⟨N + 3, m, none⟩ (.int .i64 (s : Int))) (run_storeI hm HIV.out.2.2.2.1 rfl (by kernel_rfl) (by kernel_rfl)) ⟨⟨(((But.refl V.heap.size (N + 3) V).setCell m _).cell (p := ⟨N, i, none⟩) HIV.out.1.lt (by simp)).trans hc.1, (((But.refl V.heap.size (N + 3) V).setCell m _).cell (p := ⟨N + 1, k, none⟩) HIV.out.2.1.lt (by simp)).trans hc.2⟩, ?_⟩
     refine wpAnyH_done (by kernel_rfl) ?_ _
     clear hc c3 HIV
     go_wp2
     go_roundw
     case rel => exact ⟨k + 1, by omega, by go_num, HF⟩
     case measure => simp [intOf]; omega
    ·have hlk2 : ¬ (k : Int) < 256 := by omega
     rw [show k = 256 by omega, H0.out.2.1 i] at HI
     go_wp2
     go_roundw
     case rel => exact ⟨i + 1, by omega, by go_num, HI⟩
     case measure => simp [intOf]; omega
  ·have hli2 : ¬ (i : Int) < 256 := by omega
   rw [show i = 256 by omega] at HI
   go_wp2_with (refine wl_allocP rfl rfl ?_)
   obtain ⟨M, hM⟩ : ∃ M, M = wr.heap.size := ⟨_, rfl⟩
   obtain ⟨W2, hW2⟩ : ∃ W2, W2 = wr.alloc (.cells (pc fun _ => 0).toArray 24) := ⟨_, rfl⟩
   have H2 : Shh ((Row W2 (N + 2) 24 (pc fun _ => 0) ∧ Row W2 (N + 3) 47 (ic 512 (SM 256 0)) ∧ Row W2 M 24 (pc (half r (fun _ => 0) 0)) ∧ Below N w W2) ∧ N + 3 < M) := by
    rw [half_zero]
    refine ⟨⟨by rw [hW2]; exact HI.out.2.2.1.alloc _, by rw [hW2]; exact HI.out.2.2.2.1.alloc _, by rw [hW2]; exact Row.new_ hM rfl, by rw [hW2]; exact HI.out.2.2.2.2.trans ((bel1 _ _).mono (Nat.le_of_lt HI.out.1.lt))⟩, by rw [hM]; exact HI.out.2.2.2.1.lt⟩
   have HMN := Shh.mk H2.out.2
   rw [← hW2, ← hM]
   clear hW2 hM HI HP
   go_wp2
   go_loopw [9, 36] (fun _ c wq => ∃ k : Nat, k ≤ 256 ∧ c = .int .i64 (k : Int) ∧ Shh (Row wq (N + 2) 24 (pc fun _ => 0) ∧ Row wq (N + 3) 47 (ic 512 (SM 256 0)) ∧ Row wq M 24 (pc (half r (fun _ => 0) k)) ∧ Below N w wq)) (fun _ c _ => 256 - (intOf c).toNat)
   case atStart => exact ⟨0, Nat.zero_le _, rfl, ⟨H2.out.1⟩⟩
   case round =>
    clear H2
    obtain ⟨k, hk, rfl, HI⟩ := hrel
    by_cases hlk : k < 256
    ·have hlk2 : (k : Int) < 256 := by omega
     obtain ⟨k2, Hk2⟩ : ∃ v, Shh (v = k + 256) := ⟨_, ⟨rfl⟩⟩
     have hk1 : k < 512 := by omega
     have hk2 : k2 < 512 := by have := Hk2.out; omega
     have hMN : ¬ N + 3 = M := by have := HMN.out; omega
     have hMN2 : ¬ N + 2 = M := by have := HMN.out; omega
     have HZK := Shh.mk (HZ.out k)
     rw [← Hk2.out] at HZK
     have HL := Shh.mk (And.intro (H0.out.2.2.2 256 0 k (by omega) (by omega)) (H0.out.2.2.2 256 0 k2 (by omega) (by omega)))
     obtain ⟨V, hV⟩ : ∃ V, V = World.drew wr := ⟨_, rfl⟩
     have HIV : Shh (Row V (N + 2) 24 (pc fun _ => 0) ∧ Row V (N + 3) 47 (ic 512 (SM 256 0)) ∧ Row V M 24 (pc (half r (fun _ => 0) k)) ∧ Below N w V) := by subst hV; exact ⟨HI.out.1.drew, HI.out.2.1.drew, HI.out.2.2.1.drew, HI.out.2.2.2.drew⟩
     have c1 : V.cell? ⟨N + 3, k, none⟩ = some (.int .i64 (SM 256 0 k : Int)) := (HIV.out.2.1.cell k).trans (ic_get _ hk1)
     have c2 : V.cell? ⟨N + 3, k2, none⟩ = some (.int .i64 (SM 256 0 k2 : Int)) := (HIV.out.2.1.cell k2).trans (ic_get _ hk2)
     have HF : Shh (Row (V.setCell ⟨M, k, none⟩ (.int .u16 (r k : Int))) (N + 2) 24 (pc fun _ => 0) ∧ Row (V.setCell ⟨M, k, none⟩ (.int .u16 (r k : Int))) (N + 3) 47 (ic 512 (SM 256 0)) ∧ Row (V.setCell ⟨M, k, none⟩ (.int .u16 (r k : Int))) M 24 (pc (half r (fun _ => 0) (k + 1))) ∧ Below N w (V.setCell ⟨M, k, none⟩ (.int .u16 (r k : Int)))) := by
      have h := HIV.out.2.2.1.set_ k (.int .u16 (r k : Int))
      rw [pc_set, half_next] at h
      exact ⟨⟨HIV.out.1.other _ _ hMN2, HIV.out.2.1.other _ _ hMN, h, HIV.out.2.2.2.setCell (p := ⟨M, k, none⟩) (by show N ≤ M; have := HMN.out; omega) _⟩⟩
     obtain ⟨x, Hx⟩ : ∃ v, Shh (v = SM 256 0 k) := ⟨_, ⟨rfl⟩⟩
     rw [← Hx.out] at c1 HL HZK
     obtain ⟨y, Hy⟩ : ∃ v, Shh (v = SM 256 0 k2) := ⟨_, ⟨rfl⟩⟩
     rw [← Hy.out] at c2 HL HZK
     obtain ⟨xm, Hxm⟩ : ∃ v, Shh (v = x % 3329) := ⟨_, ⟨rfl⟩⟩
     obtain ⟨ym, Hym⟩ : ∃ v, Shh (v = y % 3329) := ⟨_, ⟨rfl⟩⟩
     rw [← Hxm.out, ← Hym.out] at HZK
     obtain ⟨xp, Hxp⟩ : ∃ v, Shh (v = xm + 3329) := ⟨_, ⟨rfl⟩⟩
     rw [← Hxp.out] at HZK
     obtain ⟨df, Hdf⟩ : ∃ v, Shh (v = xp - ym) := ⟨_, ⟨rfl⟩⟩
     rw [← Hdf.out] at HZK
     obtain ⟨rk, Hrk⟩ : ∃ v, Shh (v = r k) := ⟨_, ⟨rfl⟩⟩
     rw [← Hrk.out] at HF HZK
     have hxm : xm < 3329 := by rw [Hxm.out]; exact Nat.mod_lt _ (by decide)
     have hym : ym < 3329 := by rw [Hym.out]; exact Nat.mod_lt _ (by decide)
     have VL : Shh ((x ≤ 1000000000000 ∧ y ≤ 1000000000000) ∧ (xp = xm + 3329 ∧ xp ≤ 1000000000000) ∧ (xp = df + ym ∧ xp ≤ 1000000000000) ∧ (rk = df % 3329 ∧ df ≤ 1000000000000) ∧ rk < 65536 ∧ (k2 = k + 256 ∧ k2 ≤ 1000000000000)) := by
      have h1 := HL.out
      have h2 := Hxp.out
      have h3 := Hdf.out
      have h4 := HZK.out
      have h5 := Hk2.out
      refine ⟨⟨by omega, by omega⟩, ⟨h2, by omega⟩, ⟨by omega, by omega⟩, ⟨h4.symm, by omega⟩, by omega, h5, by omega⟩
     clear hxm hym HI HL HZK
     go_wp2
     refine wp_region_held_drew (S := fun w' => w'.cell? ⟨N + 3, k, none⟩ = some (.int .i64 (x : Int)) ∧ w'.cell? ⟨N + 3, k2, none⟩ = some (.int .i64 (y : Int))) (by kernel_rfl) (by rw [← hV]; exact ⟨c1, c2⟩) (fun hS => ?_)
     clear hS
     rw [← hV]
     have hc : V.cell? ⟨N + 3, k, none⟩ = some (.int .i64 (x : Int)) ∧ V.cell? ⟨N + 3, k2, none⟩ = some (.int .i64 (y : Int)) := ⟨c1, c2⟩
     clear hV c1 c2
     refine hdv0 0 39 (.int .i64 (k : Int)) (by rfl) (hc) ?_
     refine hdv0 1 40 (.int .i64 (k : Int)) (by rfl) (hc) ?_
     refine hdv 2 41 (.pointer (some ⟨N + 3, k, none⟩)) (by rfl) (fun w hS => at_512 hk1 rfl (by kernel_rfl) (by kernel_rfl)) (hc) ?_
     refine hdv 3 42 (.int .i64 (x : Int)) (by rfl) (fun w hS => load_ir rfl hS.1 (by kernel_rfl)) (hc) ?_
     refine hdv 4 43 (.int .i64 (xm : Int)) (by rfl) (fun w hS => rem_iq Hxm.out VL.out.1.1 rfl (by kernel_rfl)) (hc) ?_
     refine hdv 5 44 (.int .i64 (xp : Int)) (by rfl) (fun w hS => add_ii VL.out.2.1 rfl (by kernel_rfl) (by kernel_rfl)) (hc) ?_
     refine hdv0 6 45 (.int .i64 (k : Int)) (by rfl) (hc) ?_
     refine hdv 7 46 (.int .i64 (k2 : Int)) (by rfl) (fun w hS => add_ii VL.out.2.2.2.2.2 rfl (by kernel_rfl) (by kernel_rfl)) (hc) ?_
     refine hdv 8 47 (.pointer (some ⟨N + 3, k2, none⟩)) (by rfl) (fun w hS => at_512 hk2 rfl (by kernel_rfl) (by kernel_rfl)) (hc) ?_
     refine hdv 9 48 (.int .i64 (y : Int)) (by rfl) (fun w hS => load_ir rfl hS.2 (by kernel_rfl)) (hc) ?_
     refine hdv 10 49 (.int .i64 (ym : Int)) (by rfl) (fun w hS => rem_iq Hym.out VL.out.1.2 rfl (by kernel_rfl)) (hc) ?_
     refine hdv 11 50 (.int .i64 (df : Int)) (by rfl) (fun w hS => sub_ii VL.out.2.2.1 rfl (by kernel_rfl) (by kernel_rfl)) (hc) ?_
     refine hdv 12 51 (.int .i64 (rk : Int)) (by rfl) (fun w hS => rem_iq VL.out.2.2.2.1.1 VL.out.2.2.2.1.2 rfl (by kernel_rfl)) (hc) ?_
     refine hdv 13 52 (.int .u16 (rk : Int)) (by rfl) (fun w hS => conv_iu16 VL.out.2.2.2.2.1 rfl (by kernel_rfl)) (hc) ?_
     refine hdv 14 53 (.pointer (some ⟨M, k, none⟩)) (by rfl) (fun w hS => at_poly hlk rfl (by kernel_rfl) (by kernel_rfl)) (hc) ?_
     refine held_one 15 (by kernel_rfl) ?_
     refine step_store1 15 _ (by rfl) (by kernel_rfl) (V.setCell ⟨M, k, none⟩ (.int .u16 (rk : Int))) (run_storeP hlk HIV.out.2.2.1 rfl (by kernel_rfl) (by kernel_rfl)) ⟨⟨(((But.refl V.heap.size M V).setCell k _).cell (p := ⟨N + 3, k, none⟩) HIV.out.2.1.lt hMN).trans hc.1, (((But.refl V.heap.size M V).setCell k _).cell (p := ⟨N + 3, k2, none⟩) HIV.out.2.1.lt hMN).trans hc.2⟩, ?_⟩
     refine wpAnyH_done (by kernel_rfl) ?_ _
     clear hc HIV
     go_wp2
     go_roundw
     case rel => exact ⟨k + 1, by omega, by go_num, HF⟩
     case measure => simp [intOf]; omega
    ·have hlk2 : ¬ (k : Int) < 256 := by omega
     have HL : Shh (pc (half r (fun _ => 0) k) = pc r) := ⟨by rw [show k = 256 by omega]; exact half_all _ _⟩
     rw [HL.out] at HI
     clear HL
     go_wp2_with (first
      | refine wpList_load_any rfl 24 (.tmp 8) rfl M rfl 24 (pc r) (.array 256 22) HI.out.2.2.1 Try.underlying24 rfl (info_poly.trans (size_poly r)) ?_
      | refine wpList_store_any rfl 24 (.tmp 4) (.tmp 55) rfl (N + 2) rfl (pc r) rfl 24 _ HI.out.1 (info_poly.trans (size_poly r)) (by rw [pc_length, pc_length]) (pc_one r) ?_)
     intro w9 hr9 b9 _
     have hb9 := HI.out.2.2.2.trans (b9.under (by have := HI.out.1.lt; omega) (by omega))
     go_wp2
     exact ret_row Try.results21 rfl rfl hr9 Try.underlying24 rfl (info_poly.trans (size_poly r)) ⟨rfl, hb9⟩
end Go.Proofs.Ytfcgdjgfdbcddaa
