/-
  WALKS: the document's own Expand, Ask; sha2.Extract; sha2.Expand's errors.
-/
import Derived.Test.YthafhghnciofaaaDoorRefMac
import Derived.Test.YthafhghnciofaaaDoorExp
namespace Go.Proofs.YthafhghnciofaaaDoor
open Go.RowKit
set_option maxRecDepth 100000

/-- bytes are handed back, wherever they lie -/
def BytesIs (w : World) (bs : List UInt8) (e : Ending) (w' : World) : Prop := ∃ v, e = .returned v ∧ Sl w' w'.heap.size v bs ∧ Below w.heap.size w w'
theorem three_flat (a b c : List UInt8) : [a, b, c].flatten = a ++ b ++ c := by simp
theorem run_cutE (A : Option Addr) (n c j : Nat) (hj : j ≤ c) (w : World) : (Instr.sliceAt 30 (.slice A n c) none (some (.int .i64 (j : Int))) none).run Tryd.prog w = .ok (sliced A 0 j c 1) w := by
  rw [run_sliceAt_slice _ _ _ _ _ _ slice30, run_slice_h w 30 A n c slice30 .i64 (j : Int) (by omega) (by omega), elem30, run_sizeOf_u8, Result.andThen_ok, Int.toNat_natCast]
theorem tB_le (prk info : List UInt8) (j : Nat) : (tB prk info j).length ≤ 32 := by
  cases j with
  | zero => simp [tB]
  | succ j => rw [tB_length]; omega

set_option maxHeartbeats 1000000 in
theorem refExpand_any (B : Nat) (vp vi : Value) (prk info : List UInt8) (n : Nat) (w : World) (hsp : Sl w B vp prk) (hsi : Sl w B vi info) (hB : B ≤ w.heap.size) (hp : prk.length ≤ 100000) (hi : info.length ≤ 100000) (hn : n ≤ 8160) :
    Calls Tryd.prog 46 #[vp, vi, .int .i64 (n : Int)] w (BytesIs w (expB prk info n)) := by
  unfold BytesIs
  obtain ⟨A1, c1, rfl, _, _⟩ := hsp.form
  obtain ⟨A2, c2, rfl, _, _⟩ := hsi.form
  have hal : ∀ (X : World) o, Below X.heap.size X (X.alloc o) := fun X o => Below.alloc (Below.refl _ _) (Nat.le_refl _) o
  generalize hn0 : w.heap.size = n0 at *
  go_enter Tryd.func46, Tryd.ntmps46
  go_wp2
  go_loopw [7, 8, 9] (fun o l i wr => ∃ (j : Nat) (Ao Al : Option Addr) (co cl lo ll : Nat), 32 * j < n + 32 ∧ i = .int .i64 ((j + 1 : Nat) : Int) ∧ o = .slice Ao lo co ∧ l = .slice Al ll cl ∧ Hid (lo = (okmB prk info j).length ∧ ll = (tB prk info j).length) ∧ lo = 32 * j ∧ ll ≤ 32 ∧ Hid (Sl wr wr.heap.size (.slice Ao lo co) (okmB prk info j)) ∧ Hid (Sl wr wr.heap.size (.slice Al ll cl) (tB prk info j)) ∧ Below n0 w wr) (fun o _ _ _ => n - slLen o)
  case atStart =>
    refine ⟨0, _, _, _, _, 0, 0, by omega, rfl, rfl, rfl, Lib.hid ⟨rfl, rfl⟩, rfl, by omega, Lib.hid ⟨_, 0, rfl, Nat.le_refl _, by unfold maxLen; omega, fun h => absurd h (by simp [okmB])⟩, Lib.hid ⟨_, 0, rfl, Nat.le_refl _, by unfold maxLen; omega, fun h => absurd h (by simp [tB])⟩, ?_⟩
    exact ((Below.refl n0 w).alloc (by omega) _).alloc (by rw [asz]; omega) _
  case round =>
    obtain ⟨j, Ao, Al, co, cl, lo, ll, hj, rfl, rfl, rfl, HLEN, hlo, hll, HO, HL, hbel⟩ := hrel
    have hsz := hbel.size
    rw [hn0] at hsz
    by_cases hlt : lo < n
    · have hj2 : j ≤ 254 := by omega
      have hj3 : 32 * (j + 1) < n + 32 := by omega
      have hmeas : Hid (n - 32 * (j + 1) < n - lo) := Lib.hid (by omega)
      obtain ⟨x, hx⟩ : ∃ x : UInt8, x = UInt8.ofNat (j + 1) := ⟨_, rfl⟩
      have HQ : Hid ((j : Int) + 1 = (x.toNat : Int)) := Lib.hid (by rw [hx]; simp; omega)
      have HT : Hid (macB prk (tB prk info j ++ info ++ [x]) = tB prk info (j + 1)) := Lib.hid (by rw [hx, tB])
      have HO2 : Hid (okmB prk info j ++ tB prk info (j + 1) = okmB prk info (j + 1)) := Lib.hid rfl
      have hTl : (tB prk info (j + 1)).length ≤ 32 := by rw [tB_length]; omega
      have hTl2 := Lib.hid (tB_length prk info j)
      have hol : (okmB prk info j).length ≤ 9000 := by rw [okmB_length]; omega
      have hol2 := Lib.hid (okmB_length prk info (j + 1))
      have htl := tB_le prk info j
      have HLOJ : Hid (lo = 32 * j) := Lib.hid hlo
      have hpr := hsp.below (hbel.mono hB)
      have hir := hsi.below (hbel.mono hB)
      have sO := HO.out
      have sL := HL.out
      have zA := fun o => asz wr o
      clear hx hlo HO HL
      generalize hT0 : tB prk info j = tj at *
      generalize hT1 : tB prk info (j + 1) = tj1 at *
      generalize hO0 : okmB prk info j = oj at *
      generalize hO1 : okmB prk info (j + 1) = oj1 at *
      have HID := Lib.hid (And.intro hT1 hO1)
      clear hT0 hT1 hO0 hO1
      have bA : ∀ o o2, Below wr.heap.size wr ((wr.alloc o).alloc o2) := fun o o2 => (hal wr o).trans ((hal _ o2).mono (by rw [asz]; omega))
      have hpa : ∀ o o2, Sl ((wr.alloc o).alloc o2) B (.slice A1 prk.length c1) prk := fun o o2 => hpr.below ((bA o o2).mono (by omega))
      have hia : ∀ o o2, Sl ((wr.alloc o).alloc o2) B (.slice A2 info.length c2) info := fun o o2 => hir.below ((bA o o2).mono (by omega))
      go_wp2_with (go_at_call 16; refine (refJoin_any (wr.heap.size + 2) (wr.heap.size + 2) _ [tj, info, [x]] _ (PartsO.three (q := wr.heap.size + 1) (u := .slice Al ll cl) (u2 := .slice A2 info.length c2) (u3 := .slice (some ⟨wr.heap.size, 0, none⟩) 1 1) (Nat.lt_succ_self _) (by omega) (Row.new_ (by rw [asz]) rfl) ((sL.below (bA _ _)).more (by omega)) (sL.off (by omega)) ((hia _ _).more (by omega)) (hir.off (by omega)) (Sl.of_bytes (T := 5) (bs := [x]) ((Row.new_ rfl (by rw [HQ.out]; rfl)).alloc _) (by omega) rfl (by decide)) (Off.at_ (by omega))) (by rw [asz, asz]; exact Nat.le_refl _) (by rw [three_flat, List.length_append, List.length_append, List.length_singleton]; omega) (by simp)).mono ?_)
      rintro e w3 ⟨v3, rfl, g3⟩
      rw [three_flat] at g3
      obtain ⟨t3, HT3⟩ : ∃ t3, Hid (t3 = tj ++ info ++ [x]) := ⟨_, Lib.hid rfl⟩
      have ht3 : t3.length ≤ 200000 := by rw [HT3.out, List.length_append, List.length_append, List.length_singleton]; omega
      rw [← HT3.out] at g3
      have s3 := gives_sl g3
      obtain ⟨A3, c3, rfl, _, _⟩ := s3.form
      have b3 := (bA _ _).trans (g3.2.mono (by rw [asz, asz]; omega))
      have hp3 := hpr.below (b3.mono (by omega))
      have hi3 := hir.below (b3.mono (by omega))
      have sO3 := sO.below b3
      have hbel3 := hbel.trans (b3.mono hsz)
      have z3 := b3.size
      clear g3 b3 bA hpa hia zA sL hpr hir sO hbel
      have hM := refMac_any w3.heap.size (.slice A1 prk.length c1) (.slice A3 t3.length c3) prk t3 w3 (hp3.more (by omega)) s3 (Nat.le_refl _) (by omega) (by omega)
      rw [HT3.out, HT.out, ← HT3.out] at hM
      go_wp2_with (go_at_call 29; refine hM.mono ?_)
      rintro e w4 ⟨v4, rfl, g4⟩
      have s4 := gives_sl g4
      obtain ⟨A4, c4, rfl, _, _⟩ := s4.form
      have b4 := g4.2
      have sO4 := sO3.below (b4.mono z3)
      have hbel4 := hbel3.trans (b4.mono (by omega))
      have z4 := b4.size
      clear g4 b4 sO3 s3 hbel3 hM
      obtain ⟨l1, hl1⟩ : ∃ l1, l1 = tj1.length := ⟨_, rfl⟩
      have HL1 := Lib.hid hl1
      rw [← hl1] at s4 hTl ⊢
      clear hl1
      go_wp2_with (go_at_call 16; refine (refJoin_any (w4.heap.size + 1) (w4.heap.size + 1) _ [oj, tj1] _ (PartsO.two (u := .slice Ao lo co) (u2 := .slice A4 l1 c4) (Nat.lt_succ_self _) (by omega) (Row.new_ rfl rfl) ((sO4.below ((hal w4 _).mono (by omega))).more (by omega)) (sO4.off (by omega)) ((s4.below (hal w4 _)).more (by omega)) (s4.off (by omega))) (by rw [asz]; exact Nat.le_refl _) (by rw [two_flat, List.length_append]; have := HL1.out; omega) (by simp)).mono ?_)
      rintro e w5 ⟨v5, rfl, g5⟩
      rw [two_flat, HO2.out] at g5
      have s5 := gives_sl g5
      obtain ⟨A5, c5, rfl, _, _⟩ := s5.form
      have b5 := (hal w4 _).trans (g5.2.mono (by rw [asz]; omega))
      have HS5 := Lib.hid s5
      have HS4 := Lib.hid ((s4.below b5).more b5.size)
      have hbel5 := hbel4.trans (b5.mono (by omega))
      clear g5 b5 s5 s4 sO4 hbel4
      go_wp2
      go_roundw
      case rel => exact ⟨j + 1, A5, A4, c5, c4, oj1.length, l1, hj3, by go_num, rfl, rfl, Lib.hid ⟨by rw [HID.out.2], by rw [HID.out.1]; exact HL1.out⟩, hol2.out, hTl, by rw [HID.out.2]; exact HS5, by rw [HID.out.1]; exact HS4, hbel5⟩
      case measure => simp only [slLen]; have h1 := hmeas.out; have h2 := hol2.out; omega
    · have hjn : (n + 31) / 32 = j := by omega
      have hle : lo ≤ co := by
        obtain ⟨_, _, hvv, hcc1, _⟩ := HO.out.form
        have e := HLEN.out.1
        injection hvv with _ _ e2
        omega
      have hcut := (HO.out).cut 0 n (Nat.zero_le _) (by omega) (by omega)
      rw [List.drop_zero] at hcut
      have hrc := run_cutE Ao lo co n (by omega)
      have HE : Hid ((okmB prk info j).take n = expB prk info n) := Lib.hid (by unfold expB; rw [hjn])
      rw [HE.out] at hcut
      have HC := Lib.hid hcut
      clear hcut hlo hjn hle hll hj HO HL
      generalize sliced Ao 0 n co 1 = vc at *
      go_wp2
      go_ret
      refine ⟨_, rfl, ?_, ?_⟩
      · exact HC.out
      · exact hbel
end Go.Proofs.YthafhghnciofaaaDoor
