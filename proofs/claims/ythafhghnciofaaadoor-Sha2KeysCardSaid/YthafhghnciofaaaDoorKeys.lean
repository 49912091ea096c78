/-
  WALK: the law Sha2Keys.
-/
import Derived.Test.YthafhghnciofaaaDoorAsk
namespace Go.Proofs.YthafhghnciofaaaDoor
open Go.RowKit
set_option maxRecDepth 100000

theorem flat_few {bss : List (List UInt8)} (hfa : ∀ b ∈ bss, b.length ≤ 3000) : bss.flatten.length ≤ 3000 * bss.length := by
  induction bss with
  | nil => simp
  | cons x r ih =>
    have h1 := hfa x (by simp)
    have h2 := ih (fun b hb => hfa b (by simp [hb]))
    simp only [List.flatten_cons, List.length_append, List.length_cons]
    omega

set_option maxHeartbeats 600000 in
theorem keys_walk (vk vp : Value) (k : List UInt8) (bss : List (List UInt8)) (n : Int) (w : World) (hnr : -9223372036854775808 ≤ n ∧ n ≤ 9223372036854775807) (hk : Sl w w.heap.size vk k) (hp : PartsO w w.heap.size w.heap.size vp bss) (hn : bss.length ≤ 9223372036854775807) (hv : Vars w) :
    Calls Tryd.prog 6 #[vk, vp, .int .i64 n] w (TrueIs w) := by
  unfold TrueIs
  obtain ⟨A, c, rfl⟩ := hp.form
  obtain ⟨Ak, ck, rfl, _, _⟩ := hk.form
  have hal : ∀ (X : World) o, Below X.heap.size X (X.alloc o) := fun X o => Below.alloc (Below.refl _ _) (Nat.le_refl _) o
  generalize hn0 : w.heap.size = n0 at *
  go_enter Tryd.func6, Tryd.ntmps6
  go_wp2_with (go_at_call 11; refine (live_any _ hv).mono ?_)
  rintro e w1 ⟨rfl, b1⟩
  rw [hn0] at b1
  have hv1 := hv.step (by rw [hn0]; exact b1)
  have hp1 := hp.below b1
  have hk1 := hk.below b1
  have hs1 := b1.size
  rw [hn0] at hs1
  go_wp2_with (go_at_call 14; refine (few_any _ _ _ bss _ hp1 hn).mono ?_)
  rintro e w2 ⟨rfl, rfl⟩
  clear hp hv hk
  cases hf : fewB bss with
  | false =>
    go_wp2_with (go_at_call 11; refine (live_any _ hv1).mono ?_)
    rintro e w3 ⟨rfl, b3⟩
    go_wp2
    go_ret
    exact ⟨rfl, b1.trans (b3.mono hs1)⟩
  | true =>
    obtain ⟨hfa, hfb⟩ := few_yes hf
    have hfl2 : bss.flatten.length ≤ 120000 := by have := flat_few hfa; omega
    clear hf hfa
    have hpk : ∀ T, PartsO (w2.alloc (.cells #[.slice Ak k.length ck] T)) (w2.heap.size + 1) (w2.heap.size + 1) (.slice (some ⟨w2.heap.size, 0, none⟩) 1 1) [k] := fun T =>
      PartsO.solo (Row.new_ rfl rfl) (Nat.lt_succ_self _) (by omega) ((hk1.below ((hal w2 _).mono hs1)).more (by omega)) (hk1.off (by omega))
    go_wp2_with (go_at_call 14; refine (few_any _ _ _ [k] _ (hpk _) (by simp)).mono ?_)
    rintro e w3 ⟨rfl, hw3⟩
    have b3 : Below w2.heap.size w2 w3 := by rw [hw3]; exact hal _ _
    have hb3 := b1.trans (b3.mono hs1)
    have hv3 := hv1.step b3
    have hk3 := hk1.below (b3.mono hs1)
    have hp3 := hp1.below (b3.mono hs1)
    have hs3 : n0 ≤ w3.heap.size := by have := b3.size; omega
    clear hw3 b3 hpk hv1 hk1 hp1 b1
    cases hf : fewB [k] with
    | false =>
      go_wp2_with (go_at_call 11; refine (live_any _ hv3).mono ?_)
      rintro e w4 ⟨rfl, b4⟩
      go_wp2
      go_ret
      exact ⟨rfl, hb3.trans (b4.mono hs3)⟩
    | true =>
      have hkl : k.length ≤ 3000 := (few_yes hf).1 k (by simp)
      clear hf hs1
      obtain ⟨m, HM⟩ : ∃ m, Hid (m = bss.flatten) := ⟨_, Lib.hid rfl⟩
      rw [← HM.out] at hfl2
      have hJ := refJoin_any n0 n0 _ bss _ hp3 hs3 (by rw [← HM.out]; omega) (by omega)
      rw [← HM.out] at hJ
      go_wp2_with (go_at_call 16; refine hJ.mono ?_)
      rintro e w4 ⟨v4, rfl, g4⟩
      have s4 := gives_sl g4
      obtain ⟨Am, cm, rfl, hcm, _⟩ := s4.form
      have b4 := g4.2
      have hb4 := hb3.trans (b4.mono hs3)
      have hv4 := hv3.step b4
      have hk4 := hk3.below (b4.mono hs3)
      have hp4 := hp3.below (b4.mono hs3)
      have hs4 := b4.size
      clear g4 b4 hv3 hk3 hp3 hb3 hJ
      have hcl := macB_length k m
      obtain ⟨mc, HMC⟩ : ∃ mc, Hid (mc = macB k m) := ⟨_, Lib.hid rfl⟩
      rw [← HMC.out] at hcl
      have hM := mac_any n0 _ _ k bss _ hk4 (hp4.moved (g' := w4.heap.size) (by omega)) (by omega) hv4 (by omega) (by rw [← HM.out]; omega) (by omega)
      rw [← HM.out, ← HMC.out] at hM
      go_wp2_with (go_at_call 25; refine hM.mono ?_)
      rintro e w5 ⟨rfl, b5⟩
      have hb5 := hb4.trans (b5.mono (by omega))
      have hv5 := hv4.step b5
      have hk5 := hk4.below (b5.mono (by omega))
      have s5 := s4.below b5
      have hs5 := b5.size
      clear hM b5 hv4 hk4 hp4 hb4 s4
      have hX := extract_any w5.heap.size _ _ k m _ (hk5.more (by omega)) (s5.more (by omega)) (Nat.le_refl _) hv5 (by omega) (by omega)
      rw [← HMC.out] at hX
      go_wp2_with (go_at_call 26; refine hX.mono ?_)
      rintro e w6 ⟨rfl, b6⟩
      have hb6 := hb5.trans (b6.mono (by omega))
      have hv6 := hv5.step b6
      have hk6 := hk5.below (b6.mono (by omega))
      have s6 := s5.below (b6.mono (by omega))
      have hs6 := b6.size
      clear hX b6 hv5 hk5 hb5 s5
      have hi33 : (Tryd.prog.info? 33).map (·.size) = some (Lib.byteCells mc).length := info_b32.trans (size_bytes _ _ hcl)
      have hzl : (Lib.byteCells (List.replicate 32 0)).length = (Lib.byteCells mc).length := by rw [Lib.byteCells_length, Lib.byteCells_length, hcl]; rfl
      go_wp2_with (refine wpList_store_any rfl 33 (.tmp 8) (.tmp 33) rfl w6.heap.size rfl (Lib.byteCells mc) rfl 33 (Lib.byteCells (List.replicate 32 0)) ((Row.new_ rfl zero32b).alloc _) hi33 hzl (cell_oneCell _) ?_)
      intro wA hrA bA zA
      try simp only [asz] at bA zA
      have hrA2 : Row wA (w6.heap.size + 1) 33 (Lib.byteCells (List.replicate 32 0)) := bA.row (Row.new_ (by rw [asz]) zero32b) (by omega) (by omega)
      have b6A : Below w6.heap.size w6 wA := (((Below.refl _ _).alloc (by omega) _).alloc (by rw [asz]; omega) _).trans (bA.under (by omega) (by omega))
      have hbA := hb6.trans (b6A.mono (by omega))
      have hvA := hv6.step b6A
      have hkA := hk6.below (b6A.mono (by omega))
      have sA := s6.below (b6A.mono (by omega))
      have h46 : w4.heap.size ≤ w6.heap.size := by omega
      have h6A : w6.heap.size + 1 < wA.heap.size := by omega
      clear bA zA b6A hb6 hv6 hk6 s6
      generalize hn6 : w6.heap.size = n6 at *
      clear hn6
      go_wp2_with (refine wpList_store_any rfl 33 (.tmp 9) (.tmp 36) rfl (n6 + 1) rfl (Lib.byteCells mc) rfl 33 _ hrA2 hi33 hzl (cell_oneCell _) ?_)
      intro w7 hr7' bB zB
      have hr7 := bB.row hrA (by omega) (by omega)
      have bAB : Below (n6 + 1) wA w7 := bB.under (by omega) (Nat.le_refl _)
      have hb7 := hbA.trans (bAB.mono (by omega))
      have hv7 := hvA.but bB (by have := hvA.pos; omega)
      have hk7 := hkA.below (bAB.mono (by omega))
      have sm7 := sA.below (bAB.mono (by omega))
      have h67 : n6 + 1 < w7.heap.size := by omega
      clear bB bAB zB hbA hvA hkA sA hrA hrA2 h6A hi33 hzl
      obtain ⟨q, hq⟩ : ∃ q, q = min m.length 200 := ⟨_, rfl⟩
      have hql : q ≤ m.length := by omega
      have hcut := sm7.cut 0 q (Nat.zero_le _) hql (by omega)
      rw [List.drop_zero] at hcut
      replace hcut := hcut.more (show w4.heap.size ≤ w7.heap.size by omega)
      have htq : (m.take q).length = q := by simp; omega
      have hq2 : q ≤ 200 := by omega
      have htl : (m.take q).length ≤ 200 := by omega
      have hrc := run_cutE Am m.length cm q (by omega)
      have hq3 : (if (200 : Int) < (m.length : Int) then (200 : Int) else (m.length : Int)) = (q : Int) := by split <;> omega
      have hq4 : (if (m.length : Int) < 200 then (m.length : Int) else (200 : Int)) = (q : Int) := by split <;> omega
      clear hq
      generalize sliced Am 0 q cm 1 = vc at *
      obtain ⟨Ac, cc, hvc, _, _⟩ := hcut.form
      subst hvc
      rw [htq] at hcut
      clear htq
      by_cases hneg : n < 0
      · go_wp2_with (go_at_call 27; refine (expand_neg _ _ n _ hneg).mono ?_)
        rintro e w8 ⟨rfl, rfl⟩
        go_wp2_with (go_at_call 28; refine (refAsk_neg _ _ n _ hneg).mono ?_)
        rintro e w9 ⟨rfl, rfl⟩
        go_wp2_with (go_at_call 29; refine (refMac_any w7.heap.size _ _ k m _ (hk7.more (by omega)) (sm7.more (by omega)) (Nat.le_refl _) (by omega) (by omega)).mono ?_)
        rintro e w10 ⟨v14, rfl, g10⟩
        rw [← HMC.out] at g10
        have s14 := gives_sl g10
        obtain ⟨A14, c14, rfl, _, _⟩ := s14.form
        rw [hcl] at s14
        have b10 := g10.2
        have hb10 := hb7.trans (b10.mono (by omega))
        have t1 : Sl w10 w7.heap.size (.slice (some ⟨n6, 0, none⟩) 32 32) mc := Sl.of_bytes (hr7.below b10 (by omega)) (by omega) hcl (by decide)
        have t2 : Sl w10 w7.heap.size (.slice (some ⟨n6 + 1, 0, none⟩) 32 32) mc := Sl.of_bytes (hr7'.below b10 (by omega)) (by omega) hcl (by decide)
        clear g10 b10 HMC
        have hml : mc.length ≤ 32 := by omega
        go_wp2_with (go_at_call 19; refine (refEqual_any _ _ _ _ mc mc _ t1 s14).mono ?_)
        rintro e w11 ⟨rfl, rfl⟩
        rw [show (mc == mc) = true by simp]
        go_wp2_with (go_at_call 19; refine (refEqual_any _ _ _ _ mc mc _ t2 s14).mono ?_)
        rintro e w11 ⟨rfl, rfl⟩
        rw [show (mc == mc) = true by simp]
        go_wp2_with (go_at_call 19; refine (refEqual_any (B := 0) (B' := 0) _ _ [] [] _ Sl.nil_ Sl.nil_).mono ?_)
        rintro e w11 ⟨rfl, rfl⟩
        rw [show (([] : List UInt8) == []) = true by simp]
        go_wp2
        go_ret
        exact ⟨rfl, hb10⟩
      · by_cases hlong : 8160 < n
        · go_wp2_with (go_at_call 27; refine (expand_long _ _ n _ (by omega)).mono ?_)
          rintro e w8 ⟨rfl, rfl⟩
          go_wp2_with (go_at_call 28; refine (refAsk_long _ _ n _ (by omega)).mono ?_)
          rintro e w9 ⟨rfl, rfl⟩
          go_wp2_with (go_at_call 29; refine (refMac_any w7.heap.size _ _ k m _ (hk7.more (by omega)) (sm7.more (by omega)) (Nat.le_refl _) (by omega) (by omega)).mono ?_)
          rintro e w10 ⟨v14, rfl, g10⟩
          rw [← HMC.out] at g10
          have s14 := gives_sl g10
          obtain ⟨A14, c14, rfl, _, _⟩ := s14.form
          rw [hcl] at s14
          have b10 := g10.2
          have hb10 := hb7.trans (b10.mono (by omega))
          have t1 : Sl w10 w7.heap.size (.slice (some ⟨n6, 0, none⟩) 32 32) mc := Sl.of_bytes (hr7.below b10 (by omega)) (by omega) hcl (by decide)
          have t2 : Sl w10 w7.heap.size (.slice (some ⟨n6 + 1, 0, none⟩) 32 32) mc := Sl.of_bytes (hr7'.below b10 (by omega)) (by omega) hcl (by decide)
          clear g10 b10 HMC
          have hml : mc.length ≤ 32 := by omega
          go_wp2_with (go_at_call 19; refine (refEqual_any _ _ _ _ mc mc _ t1 s14).mono ?_)
          rintro e w11 ⟨rfl, rfl⟩
          rw [show (mc == mc) = true by simp]
          go_wp2_with (go_at_call 19; refine (refEqual_any _ _ _ _ mc mc _ t2 s14).mono ?_)
          rintro e w11 ⟨rfl, rfl⟩
          rw [show (mc == mc) = true by simp]
          go_wp2_with (go_at_call 19; refine (refEqual_any (B := 0) (B' := 0) _ _ [] [] _ Sl.nil_ Sl.nil_).mono ?_)
          rintro e w11 ⟨rfl, rfl⟩
          rw [show (([] : List UInt8) == []) = true by simp]
          go_wp2
          go_ret
          exact ⟨rfl, hb10⟩
        · obtain ⟨nn, rfl⟩ : ∃ nn : Nat, n = (nn : Int) := ⟨n.toNat, by omega⟩
          have hnn : nn ≤ 8160 := by omega
          go_wp2_with (go_at_call 27; refine (expand_some w7.heap.size _ _ k (m.take q) nn _ (hk7.more (by omega)) hcut (Nat.le_refl _) hv7 (by omega) (by omega) hnn).mono ?_)
          rintro e w8 ⟨x, rfl, sx, b8⟩
          obtain ⟨Ax, cx, rfl, _, _⟩ := sx.form
          have z8 := b8.size
          have hr8 := hr7.below b8 (by omega)
          have hr8' := hr7'.below b8 (by omega)
          have hb8 := hb7.trans (b8.mono (by omega))
          have hk8 := hk7.below (b8.mono (by omega))
          have sm8 := sm7.below (b8.mono (by omega))
          have hcut8 := hcut.below b8
          clear b8 hr7 hr7' hb7 hk7 sm7 hcut
          go_wp2_with (go_at_call 28; refine (refAsk_yes w8.heap.size _ _ k (m.take q) nn _ (hk8.more (by omega)) (hcut8.more (by omega)) (Nat.le_refl _) (by omega) (by omega) hnn).mono ?_)
          rintro e w9 ⟨y, rfl, sy, b9⟩
          obtain ⟨Ay, cy, rfl, _, _⟩ := sy.form
          have z9 := b9.size
          have hr9 := hr8.below b9 (by omega)
          have hr9' := hr8'.below b9 (by omega)
          have hb9 := hb8.trans (b9.mono (by omega))
          have hk9 := hk8.below (b9.mono (by omega))
          have sm9 := sm8.below (b9.mono (by omega))
          have sx9 := sx.below b9
          clear b9 hr8 hr8' hb8 hk8 sm8 hcut8 sx
          generalize hEx : expB k (m.take q) nn = ex at *
          go_wp2_with (go_at_call 29; refine (refMac_any w9.heap.size _ _ k m _ (hk9.more (by omega)) (sm9.more (by omega)) (Nat.le_refl _) (by omega) (by omega)).mono ?_)
          rintro e w10 ⟨v14, rfl, g10⟩
          rw [← HMC.out] at g10
          have s14 := gives_sl g10
          obtain ⟨A14, c14, rfl, _, _⟩ := s14.form
          rw [hcl] at s14
          have b10 := g10.2
          have hb10 := hb9.trans (b10.mono (by omega))
          have t1 : Sl w10 w9.heap.size (.slice (some ⟨n6, 0, none⟩) 32 32) mc := Sl.of_bytes (hr9.below b10 (by omega)) (by omega) hcl (by decide)
          have t2 : Sl w10 w9.heap.size (.slice (some ⟨n6 + 1, 0, none⟩) 32 32) mc := Sl.of_bytes (hr9'.below b10 (by omega)) (by omega) hcl (by decide)
          have t3 := sx9.below (b10.mono z9)
          have t4 := sy.below b10
          clear g10 b10 HMC
          have hml : mc.length ≤ 32 := by omega
          go_wp2_with (go_at_call 19; refine (refEqual_any _ _ _ _ mc mc _ t1 s14).mono ?_)
          rintro e w11 ⟨rfl, rfl⟩
          rw [show (mc == mc) = true by simp]
          go_wp2_with (go_at_call 19; refine (refEqual_any _ _ _ _ mc mc _ t2 s14).mono ?_)
          rintro e w11 ⟨rfl, rfl⟩
          rw [show (mc == mc) = true by simp]
          go_wp2_with (go_at_call 19; refine (refEqual_any _ _ _ _ ex ex _ t3 t4).mono ?_)
          rintro e w11 ⟨rfl, rfl⟩
          rw [show (ex == ex) = true by simp]
          go_wp2
          go_ret
          exact ⟨rfl, hb10⟩
end Go.Proofs.YthafhghnciofaaaDoor
