/-
  WALK: the laws' own check 'live'.
-/
import Derived.Test.YtaalmjcpaiihhaaDoorLiveM
namespace Go.Proofs.YtaalmjcpaiihhaaDoor
open Go.RowKit
set_option maxRecDepth 100000

/-- a beginning of what a slice reads -/
theorem Sl.pre {w : World} {B : Nat} {A : Option Addr} {n c : Nat} {bs : List UInt8} (h : Sl w B (.slice A n c) bs) (j : Nat) (hj : j ≤ bs.length) : Sl w B (.slice A j c) (bs.take j) := by
  have hl := h.len
  subst hl
  obtain ⟨A', c', hv, h1, h2, hc⟩ := h
  cases hv
  have hjl : (bs.take j).length = j := by simp; omega
  refine ⟨A, c, by rw [hjl], by omega, h2, fun hn => ?_⟩
  rw [hjl] at hn
  obtain ⟨b, off, rfl, hb, hr⟩ := hc (by omega)
  refine ⟨b, off, rfl, hb, fun k hk => ?_⟩
  rw [hjl] at hk
  rw [hr k (by omega)]
  simp

set_option maxHeartbeats 2000000 in
theorem live_any (w : World) (hv : Vars w) : Calls Tryd.prog 14 #[] w (TrueIs w) := by
  unfold TrueIs
  generalize hN : w.heap.size = N at *
  have hcvA : ∀ (n : Nat) (u : World), n = u.heap.size → (convert 24 24 (.slice (some ⟨n, 0, none⟩) 2 2)).run Tryd.prog (u.alloc (.cells #[.int .u8 97, .int .u8 100] 5)) = .ok (.slice (some ⟨n, 0, none⟩) 2 2) (u.alloc (.cells #[.int .u8 97, .int .u8 100] 5 (2, 3))) := fun n u h => Go.Joins.run_convert_bytes_const_at u 24 5 #[.int .u8 97, .int .u8 100] 2 2 n h Tryd.underlying24 Tryd.underlying5
  have hcvP : ∀ (n : Nat) (u : World), n = u.heap.size → (convert 24 24 (.slice (some ⟨n, 0, none⟩) 5 5)).run Tryd.prog (u.alloc (.cells #[.int .u8 112, .int .u8 108, .int .u8 97, .int .u8 105, .int .u8 110] 5)) = .ok (.slice (some ⟨n, 0, none⟩) 5 5) (u.alloc (.cells #[.int .u8 112, .int .u8 108, .int .u8 97, .int .u8 105, .int .u8 110] 5 (5, 6))) := fun n u h => Go.Joins.run_convert_bytes_const_at u 24 5 #[.int .u8 112, .int .u8 108, .int .u8 97, .int .u8 105, .int .u8 110] 5 5 n h Tryd.underlying24 Tryd.underlying5
  have hc1 := hcvA N w hN.symm
  have hc2 := hcvP (N + 1) (w.alloc (.cells #[.int .u8 97, .int .u8 100] 5 (2, 3))) (by rw [asz, hN])
  obtain ⟨W1, hW1⟩ : ∃ W1, W1 = (w.alloc (.cells #[.int .u8 97, .int .u8 100] 5 (2, 3))).alloc (.cells #[.int .u8 112, .int .u8 108, .int .u8 97, .int .u8 105, .int .u8 110] 5 (5, 6)) := ⟨_, rfl⟩
  have hb1 : Below N w W1 := by rw [hW1]; exact ((Below.refl N w).alloc (by omega) _).alloc (by rw [asz]; omega) _
  have hzW : W1.heap.size = N + 2 := by rw [hW1, asz, asz, hN]
  have HC : Shh (Sl W1 W1.heap.size (.slice (some ⟨N, 0, none⟩) 2 2) adI ∧ Sl W1 W1.heap.size (.slice (some ⟨N + 1, 0, none⟩) 5 5) plI ∧ Vars W1 ∧ Below N w W1 ∧ N ≤ W1.heap.size) :=
    ⟨Sl.of_block (bs := adI) (by rw [hW1]; exact heap_under (heap_new hN.symm)) rfl (by omega) rfl (by decide), Sl.of_block (bs := plI) (by rw [hW1]; exact heap_new (by rw [asz, hN])) rfl (by omega) rfl (by decide), hv.step (by rw [hN]; exact hb1), hb1, by omega⟩
  rw [hW1] at HC
  have HV : Shh ((∀ (n : Nat) (u : World), n = u.heap.size → (convert 24 24 (.slice (some ⟨n, 0, none⟩) 2 2)).run Tryd.prog (u.alloc (.cells #[.int .u8 97, .int .u8 100] 5)) = .ok (.slice (some ⟨n, 0, none⟩) 2 2) (u.alloc (.cells #[.int .u8 97, .int .u8 100] 5 (2, 3)))) ∧ (∀ (n : Nat) (u : World), n = u.heap.size → (convert 24 24 (.slice (some ⟨n, 0, none⟩) 5 5)).run Tryd.prog (u.alloc (.cells #[.int .u8 112, .int .u8 108, .int .u8 97, .int .u8 105, .int .u8 110] 5)) = .ok (.slice (some ⟨n, 0, none⟩) 5 5) (u.alloc (.cells #[.int .u8 112, .int .u8 108, .int .u8 97, .int .u8 105, .int .u8 110] 5 (5, 6))))) := ⟨hcvA, hcvP⟩
  clear hv hb1 hzW hW1 hcvA hcvP
  go_enter Tryd.func14, Tryd.ntmps14
  go_wp2_with (go_at_call 24; refine (shut_any _ _ _ key1 non1 adI plI _ HC.out.1 HC.out.2.1 (Nat.le_refl _) HC.out.2.2.1 rfl rfl (by decide) (by decide)).mono ?_)
  rintro e Y1 ⟨v1, rfl, g1⟩
  have k1 := gives_sl g1
  have HY : Shh (Vars Y1 ∧ Below N w Y1 ∧ N ≤ Y1.heap.size) := ⟨HC.out.2.2.1.go g1.2, HC.out.2.2.2.1.trans (g1.2.mono HC.out.2.2.2.2), by have := HC.out.2.2.2.2; have := g1.2.size; omega⟩
  clear HC hc1 hc2
  have hsl := shutB_length key1 non1 adI plI
  obtain ⟨sd, hsd⟩ : ∃ sd, sd = shutB key1 non1 adI plI := ⟨_, rfl⟩
  rw [← hsd] at k1 hsl
  have hsl37 : sd.length = 37 := by rw [hsl]; rfl
  have HSD : Shh (sd.take 5 = covB (encK key1) non1 plI ∧ openE key1 non1 adI sd = 0 ∧ openV key1 non1 adI sd = plI) :=
    ⟨by rw [hsd, shut_take _ _ _ _ 5 (by decide), List.take_of_length_le (by rw [covB_length]; decide)], by rw [hsd]; exact (open_shut _ _ _ _).1, by rw [hsd]; exact (open_shut _ _ _ _).2⟩
  obtain ⟨A1, c1, rfl, hc1, hc2⟩ := k1.form
  have q37 : ((sd.length : Int) == 37) = true := by rw [hsl37]; rfl
  have h5 : 5 ≤ c1 := by omega
  have hs40 : sd.length ≤ 400000 := by omega
  have h50 : 5 ≤ sd.length := by omega
  clear g1 hsl hsl37 hsd
  generalize hn1 : Y1.heap.size = n1 at *
  have hcA := HV.out.1 n1 Y1 hn1.symm
  have HY2 : Shh (Sl (Y1.alloc (.cells #[.int .u8 97, .int .u8 100] 5 (2, 3))) (Y1.alloc (.cells #[.int .u8 97, .int .u8 100] 5 (2, 3))).heap.size (.slice (some ⟨n1, 0, none⟩) 2 2) adI ∧ Sl (Y1.alloc (.cells #[.int .u8 97, .int .u8 100] 5 (2, 3))) (Y1.alloc (.cells #[.int .u8 97, .int .u8 100] 5 (2, 3))).heap.size (.slice A1 sd.length c1) sd ∧ Vars (Y1.alloc (.cells #[.int .u8 97, .int .u8 100] 5 (2, 3))) ∧ Below N w (Y1.alloc (.cells #[.int .u8 97, .int .u8 100] 5 (2, 3))) ∧ N ≤ (Y1.alloc (.cells #[.int .u8 97, .int .u8 100] 5 (2, 3))).heap.size) := by
    have hb : Below n1 Y1 (Y1.alloc (.cells #[.int .u8 97, .int .u8 100] 5 (2, 3))) := (Below.refl _ _).alloc (by omega) _
    exact ⟨Sl.of_block (bs := adI) (heap_new hn1.symm) rfl (by rw [asz, hn1]; omega) rfl (by decide), (k1.below hb).more (by rw [asz, hn1]; omega), HY.out.1.step (by rw [hn1]; exact hb), HY.out.2.1.trans (hb.mono HY.out.2.2), by rw [asz, hn1]; have := HY.out.2.2; omega⟩
  clear k1 HY
  go_wp2_with (go_at_call 26; refine (open_any _ _ _ key1 non1 adI sd _ HY2.out.1 HY2.out.2.1 (Nat.le_refl _) HY2.out.2.2.1 rfl rfl (by decide) hs40).mono ?_)
  rintro e Y3 ⟨v3, rfl, g3⟩
  rw [HSD.out.2.1]
  rw [HSD.out.2.2] at g3
  have k3 := gives_sl g3
  have H3 : Shh (Sl Y3 Y3.heap.size v3 plI ∧ Sl Y3 Y3.heap.size (.slice A1 sd.length c1) sd ∧ Below N w Y3 ∧ N ≤ Y3.heap.size) := ⟨k3, HY2.out.2.1.go g3.2, HY2.out.2.2.2.1.trans (g3.2.mono HY2.out.2.2.2.2), by have := HY2.out.2.2.2.2; have := g3.2.size; omega⟩
  clear k3 g3 HY2 hcA hn1
  generalize hn3 : Y3.heap.size = n3 at *
  have hcP := HV.out.2 n3 Y3 hn3.symm
  have hcP2 := HV.out.2 (n3 + 1) (Y3.alloc (.cells #[.int .u8 112, .int .u8 108, .int .u8 97, .int .u8 105, .int .u8 110] 5 (5, 6))) (by rw [asz, hn3])
  have H4 : Shh (Sl (Y3.alloc (.cells #[.int .u8 112, .int .u8 108, .int .u8 97, .int .u8 105, .int .u8 110] 5 (5, 6))) (n3 + 1) (.slice (some ⟨n3, 0, none⟩) 5 5) plI ∧ Sl (Y3.alloc (.cells #[.int .u8 112, .int .u8 108, .int .u8 97, .int .u8 105, .int .u8 110] 5 (5, 6))) (n3 + 1) (.slice A1 5 c1) (sd.take 5) ∧ Sl ((Y3.alloc (.cells #[.int .u8 112, .int .u8 108, .int .u8 97, .int .u8 105, .int .u8 110] 5 (5, 6))).alloc (.cells #[.int .u8 112, .int .u8 108, .int .u8 97, .int .u8 105, .int .u8 110] 5 (5, 6))) (n3 + 2) v3 plI ∧ Sl ((Y3.alloc (.cells #[.int .u8 112, .int .u8 108, .int .u8 97, .int .u8 105, .int .u8 110] 5 (5, 6))).alloc (.cells #[.int .u8 112, .int .u8 108, .int .u8 97, .int .u8 105, .int .u8 110] 5 (5, 6))) (n3 + 2) (.slice (some ⟨n3 + 1, 0, none⟩) 5 5) plI ∧ Below N w ((Y3.alloc (.cells #[.int .u8 112, .int .u8 108, .int .u8 97, .int .u8 105, .int .u8 110] 5 (5, 6))).alloc (.cells #[.int .u8 112, .int .u8 108, .int .u8 97, .int .u8 105, .int .u8 110] 5 (5, 6)))) := by
    have hb : Below n3 Y3 (Y3.alloc (.cells #[.int .u8 112, .int .u8 108, .int .u8 97, .int .u8 105, .int .u8 110] 5 (5, 6))) := (Below.refl _ _).alloc (by omega) _
    have hb2 : Below n3 Y3 ((Y3.alloc (.cells #[.int .u8 112, .int .u8 108, .int .u8 97, .int .u8 105, .int .u8 110] 5 (5, 6))).alloc (.cells #[.int .u8 112, .int .u8 108, .int .u8 97, .int .u8 105, .int .u8 110] 5 (5, 6))) := hb.alloc (by rw [asz, hn3]; omega) _
    exact ⟨Sl.of_block (bs := plI) (heap_new hn3.symm) rfl (by omega) rfl (by decide), ((H3.out.2.1.pre 5 h50).below hb).more (by omega), (H3.out.1.below hb2).more (by omega), Sl.of_block (bs := plI) (heap_new (by rw [asz, hn3])) rfl (by omega) rfl (by decide), H3.out.2.2.1.trans (hb2.mono H3.out.2.2.2)⟩
  clear H3
  go_wp2_with (first | (go_at_call 21; refine (refEqual_any _ _ _ _ _ _ _ H4.out.2.1 H4.out.1).mono ?_))
  rintro e w8 ⟨rfl, rfl⟩
  have hd : (sd.take 5 == plI) = false := by rw [HSD.out.1]; exact covered_differs
  rw [hd]
  go_wp2_with (first | (go_at_call 21; refine (refEqual_any _ _ _ _ _ _ _ H4.out.2.2.1 H4.out.2.2.2.1).mono ?_))
  rintro e w9 ⟨rfl, rfl⟩
  have hd2 : (plI == plI) = true := by simp
  rw [hd2]
  have F : Shh (Below N w ((Y3.alloc (.cells #[.int .u8 112, .int .u8 108, .int .u8 97, .int .u8 105, .int .u8 110] 5 (5, 6))).alloc (.cells #[.int .u8 112, .int .u8 108, .int .u8 97, .int .u8 105, .int .u8 110] 5 (5, 6)))) := ⟨H4.out.2.2.2.2⟩
  clear H4 hcP hcP2 HSD HV
  go_wp2
  go_ret
  exact ⟨rfl, F.out⟩
end Go.Proofs.YtaalmjcpaiihhaaDoor
