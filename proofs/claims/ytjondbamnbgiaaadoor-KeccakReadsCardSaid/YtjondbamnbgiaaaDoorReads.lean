/-
  WALK: the law KeccakReads.
-/
import Derived.Test.YtjondbamnbgiaaaDoorClone
import Derived.Test.YtjondbamnbgiaaaDoorRAsk
import Derived.Test.YtjondbamnbgiaaaDoorLive
namespace Go.Proofs.YtjondbamnbgiaaaDoor
open Go.RowKit
set_option maxRecDepth 100000

theorem slice42 : Tryd.prog.underlying 42 = some (.slice (Tryd.prog.elem 42)) := by kernel_rfl
theorem elem42 : Tryd.prog.elem 42 = 47 := by kernel_rfl
theorem run_sizeOf_turn (w : World) : (sizeOf 47).run Tryd.prog w = .ok 2 w := by simp [go_sem]
theorem run_hiT (A : Option Addr) (n c j : Nat) (hj : j ≤ c) (w : World) : (Instr.sliceAt 42 (.slice A n c) none (some (.int .i64 (j : Int))) none).run Tryd.prog w = .ok (.slice A j c) w := by
  rw [run_sliceAt_slice _ _ _ _ _ _ slice42, run_slice_h w 42 A n c slice42 .i64 (j : Int) (by omega) (by omega), elem42, run_sizeOf_turn, Result.andThen_ok, Int.toNat_natCast]
  unfold sliced
  cases A with
  | none => by_cases h : c = 0 <;> simp [h]
  | some a => by_cases h : c = 0 <;> simp [h, Addr.add]
theorem run_lhT (A : Option Addr) (n c i j : Nat) (hi : i ≤ j) (hj : j ≤ c) (w : World) : (Instr.sliceAt 29 (.slice A n c) (some (.int .i64 (i : Int))) (some (.int .i64 (j : Int))) none).run Tryd.prog w = .ok (sliced A i j c 1) w := by
  rw [run_sliceAt_slice _ _ _ _ _ _ slice30, run_slice_lh w 29 A n c slice30 .i64 .i64 (i : Int) (j : Int) (by omega) (by omega) (by omega), elem30, run_sizeOf_u8, Result.andThen_ok, Int.toNat_natCast, Int.toNat_natCast]
theorem outs_mid (rate a n N : Nat) (h : a + n ≤ N) (s : Sp) : ((s.outs rate N).take (a + n)).drop a = (s.behind rate a).outs rate n := by
  obtain ⟨r, rfl⟩ : ∃ r, N = (a + n) + r := ⟨N - (a + n), by omega⟩
  rw [outs_app rate r (a + n) s, List.take_left' (Sp.outs_length _ _ _), outs_app rate n a s, List.drop_left' (Sp.outs_length _ _ _)]
theorem XofAt.but {w w' : World} {g g' : Nat} {s : Sp} {rate cnt : Nat} (h : XofAt w g s rate cnt) (hb : But w.heap.size g' w w') (hne : g ≠ g') : XofAt w' g s rate cnt := ⟨hb.row (SpAt.row h) (SpAt.lt h) hne, SpAt.pre h, SpAt.len h⟩

set_option maxHeartbeats 16000000 in
theorem reads_walk (wide : Bool) (v1 : Value) (m : List UInt8) (v2 : Value) (ts : List (Int × Bool)) (w : World) (hs : Sl w w.heap.size v1 m) (hts : Turns w w.heap.size v2 ts) (hv : Vars w) :
    Calls Tryd.prog 6 #[.bool wide, v1, v2] w (TrueIs w) := by
  unfold TrueIs
  obtain ⟨A, c, rfl, _, _⟩ := hs.form
  obtain ⟨At, ct, rfl, htc, htm, _⟩ := id hts
  have hpos := hv.pos
  generalize hN : w.heap.size = N at *
  go_enter Tryd.func6, Tryd.ntmps6
  go_wp2_with (go_at_call 12; refine (live_any _ hv).mono ?_)
  rintro e w1 ⟨rfl, b1⟩
  rw [hN] at b1
  have hv1 := hv.step (by rw [hN]; exact b1)
  have st1 := hs.below b1
  have tt1 := hts.below b1
  have hs1 := b1.size
  rw [hN] at hs1
  clear hs hv hts
  by_cases hlong : 2000 < m.length
  · have d1 : decide (2000 < (m.length : Int)) = true := by simp; omega
    go_wp2_with (go_at_call 12; refine (live_any _ hv1).mono ?_)
    rintro e w3 ⟨rfl, b3⟩
    go_wp2
    go_ret
    exact ⟨rfl, b1.trans (b3.mono hs1)⟩
  have d1 : decide (2000 < (m.length : Int)) = false := by simp; omega
  have hml : m.length ≤ 2000 := by omega
  clear hlong
  have bA1 : Below w1.heap.size w1 (w1.alloc (.cells #[.slice A m.length c] 29)) := Below.alloc (Below.refl _ _) (Nat.le_refl _) _
  have hq1 : PartsO (w1.alloc (.cells #[.slice A m.length c] 29)) (w1.heap.size + 1) (w1.heap.size + 1) (.slice (some ⟨w1.heap.size, 0, none⟩) 1 1) [m] :=
    PartsO.solo (Row.new_ rfl rfl) (Nat.lt_succ_self _) (by omega) ((st1.below (Below.alloc (Below.refl _ _) hs1 _)).more (by omega)) (st1.off (by omega))
  have hvA1 := hv1.step bA1
  have hS0 := shake128_any [m] (by simp) (w1.heap.size + 1) _ _ hq1 (by rw [asz]; exact Nat.le_refl _) hvA1
  obtain ⟨q, hq⟩ : ∃ q, q = min ts.length 30 := ⟨_, rfl⟩
  have hm1 : (if (ts.length : Int) < 30 then (ts.length : Int) else 30) = (q : Int) := by split <;> omega
  have hm2 : (if (30 : Int) < (ts.length : Int) then 30 else (ts.length : Int)) = (q : Int) := by split <;> omega
  have hm3 : (if ts.length < 30 then (ts.length : Int) else 30) = (q : Int) := by split <;> omega
  have hq30 : q ≤ 30 := by omega
  have hqt : q ≤ ts.length := by omega
  have hcu := fun u => run_hiT At ts.length ct q (by omega) u
  clear hq
  go_wp2_with (go_at_call 24; refine hS0.mono ?_)
  rintro e w2 ⟨g0, rfl, hg0, hx0, b2'⟩
  rw [asz] at hg0
  have b2 := bA1.trans (b2'.mono bA1.size)
  have hb2 := b1.trans (b2.mono hs1)
  have hv2 := hv1.step b2
  have st2 := st1.below (b2.mono hs1)
  have tt2 := tt1.below (b2.mono hs1)
  have hs2 : N ≤ w2.heap.size := by have := b2.size; omega
  have hgN0 : N ≤ g0 := by omega
  have hg0l : g0 < w2.heap.size := SpAt.lt hx0
  rw [flat_one] at hx0
  clear b1 b2 b2' bA1 hq1 hvA1 hS0 hv1 st1 tt1 hg0
  cases wide with
  | false =>
    obtain ⟨S0, HS0⟩ : ∃ S, Shh (S = absorbL 168 31 m) := ⟨_, Shh.mk rfl⟩
    have hS0a : S0.at_ ≤ 168 := by rw [HS0.out]; exact Nat.le_refl _
    rw [← HS0.out] at hx0
    have hal0 : (spongeL 168 31 m 6000).length = 6000 := Sp.outs_length _ _ _
    obtain ⟨all, HA⟩ : ∃ a, Shh (a = spongeL 168 31 m 6000) := ⟨_, Shh.mk rfl⟩
    have HALL : Shh (all = S0.outs 168 6000) := Shh.mk (by rw [HA.out, HS0.out]; rfl)
    rw [← HA.out] at hal0
    have hSk := refShake128_any 6000 (by decide) N _ m w2 st2 hs2 (by omega)
    rw [← HA.out] at hSk
    go_wp2_with (go_at_call 26; refine hSk.mono ?_)
    rintro e wA ⟨va, rfl, ga⟩
    have oa := own_len ga.1 hal0
    have sa := gives_sl ga
    obtain ⟨Aa, ca, rfl⟩ := own_form oa
    have hca : 6000 ≤ ca := by obtain ⟨_, _, hv', h1, _⟩ := sa; injection hv' with _ _ e3; omega
    have ba := ga.2
    have hga : g0 < w2.heap.size := SpAt.lt hx0
    replace hx0 : XofAt _ _ _ _ _ := SpAt.below hx0 ba
    have hv0 := hv2.step ba
    have tt0 := tt2.below (ba.mono hs2)
    have hb0 := hb2.trans (ba.mono hs2)
    obtain ⟨M, hM⟩ : ∃ M, M = wA.heap.size := ⟨_, rfl⟩
    have hM0 : M ≤ wA.heap.size := by omega
    have sa0 : Sl wA M (.slice Aa 6000 ca) all := by rw [hM]; exact sa
    have hNM : N ≤ M := by have := ba.size; omega
    have hg0M : g0 < M := by rw [hM]; exact SpAt.lt hx0
    clear ga sa ba hM hv2 tt2 hb2 hSk HS0 HA
    have hoff0 : Off g0 (.slice Aa 6000 ca) := off_own oa hga
    clear oa
    go_wp2
    go_loopw [8, 10, 41] (fun x a i wr => ∃ (k at0 g : Nat) (s : Sp), k ≤ q ∧ i = .int .i64 (k : Int) ∧ x = .pointer (some ⟨g, 0, none⟩) ∧ a = .int .i64 (at0 : Int) ∧ at0 ≤ 200 * k ∧ XofAt wr g s 168 at0 ∧ Shh (s = S0.behind 168 at0) ∧ Off g (.slice Aa 6000 ca) ∧ N ≤ g ∧ M ≤ wr.heap.size ∧ Sl wr M (.slice Aa 6000 ca) all ∧ Turns wr N (.slice At ts.length ct) ts ∧ Vars wr ∧ Below N w wr) (fun _ _ i _ => q - (intOf i).toNat)
    case atStart => exact ⟨0, 0, g0, S0, Nat.zero_le _, rfl, rfl, rfl, Nat.zero_le _, hx0, Shh.mk rfl, hoff0, hgN0, hM0, sa0, tt0, hv0, hb0⟩
    case round =>
      clear hx0 hoff0 hgN0 hM0 sa0 tt0 hv0 hb0 hcu hm1 hm2 hm3
      obtain ⟨k, at0, g, s, hk, rfl, rfl, rfl, hal, hx, HSB, hoff, hgN, hM, sa, tt, hv, hb⟩ := hrel
      by_cases hlt : k < q
      · obtain ⟨_, _, hvt, _, _, hct⟩ := id tt
        cases hvt
        obtain ⟨bt, ot, rfl, hbt, hcc⟩ := hct (by omega)
        obtain ⟨hc0, hc1⟩ := hcc k (by omega)
        clear hcc hct
        generalize ts[k].1 = nT at *
        generalize hcb : ts[k].2 = cT at *
        clear hcb
        have hgl : g < wr.heap.size := SpAt.lt hx
        have ik : (k : Int) < (q : Int) := by omega
        have ik0 : (0 : Int) ≤ (k : Int) := by omega
        obtain ⟨nW, hnW⟩ : ∃ n, wr.heap.size = n := ⟨_, rfl⟩
        have bT : Below wr.heap.size wr (wr.alloc (.cells #[.int .i64 nT, .bool cT] 47)) := Below.alloc (Below.refl _ _) (Nat.le_refl _) _
        have rT : Row (wr.alloc (.cells #[.int .i64 nT, .bool cT] 47)) nW 47 [.int .i64 nT, .bool cT] := Row.new_ hnW.symm rfl
        replace hx : XofAt _ _ _ _ _ := SpAt.below hx bT
        replace sa := sa.below (bT.mono hM)
        replace tt := tt.below (bT.mono (by omega))
        replace hv := hv.step bT
        replace hb := hb.trans (bT.mono (by omega))
        replace hM : M ≤ (wr.alloc (.cells #[.int .i64 nT, .bool cT] 47)).heap.size := Nat.le_trans hM bT.size
        have hzT : (wr.alloc (.cells #[.int .i64 nT, .bool cT] 47)).heap.size = nW + 1 := by rw [asz, hnW]
        clear bT
        have wK : IntKind.i64.wrap (k : Int) = (k : Int) := by rw [IntKind.wrap_i64]; omega
        cases cT with
        | false =>
          have hcN := rT.cell 0
          clear rT
          by_cases hn1 : nT < 0
          · have hnc := hn1
            have e1 : decide (200 < nT) = false := by simp; omega
            have e2 : decide (nT < 0) = true := by simpa using hn1
            have hRn : Calls Tryd.prog 28 #[.pointer (some ⟨g, 0, none⟩), .int .i64 nT] _ (NoneIs _ 1) := read_neg hx nT hnc
            go_wp2_with (go_at_call 28; refine hRn.mono ?_)
            rintro e wR ⟨rfl, rfl⟩
            go_wp2_with (go_at_call 29; refine (count_any hx).mono ?_)
            rintro e wR ⟨rfl, rfl⟩
            go_wp2
            go_roundw
            case rel => exact ⟨k + 1, at0, g, s, by omega, by go_num, rfl, rfl, by omega, hx, HSB, hoff, hgN, hM, sa, tt, hv, hb⟩
            case measure => simp [intOf]; omega
          by_cases hn2 : 1048576 < nT
          · have hnc := hn2
            have e1 : decide (200 < nT) = true := by simp; omega
            have e3 : decide (nT ≤ 1048576) = false := by simp; omega
            have e2 : decide (nT < 0) = false := by simp; omega
            have e4 : decide (1048576 < nT) = true := by simpa using hn2
            have hRn : Calls Tryd.prog 28 #[.pointer (some ⟨g, 0, none⟩), .int .i64 nT] _ (NoneIs _ 3) := read_much hx nT hnc
            go_wp2_with (go_at_call 28; refine hRn.mono ?_)
            rintro e wR ⟨rfl, rfl⟩
            go_wp2_with (go_at_call 29; refine (count_any hx).mono ?_)
            rintro e wR ⟨rfl, rfl⟩
            go_wp2
            go_roundw
            case rel => exact ⟨k + 1, at0, g, s, by omega, by go_num, rfl, rfl, by omega, hx, HSB, hoff, hgN, hM, sa, tt, hv, hb⟩
            case measure => simp [intOf]; omega
          by_cases hn3 : 200 < nT
          · obtain ⟨nn, hnn⟩ : ∃ nn, nn = 200 - k := ⟨_, rfl⟩
            have e1 : decide (200 < nT) = true := by simpa using hn3
            have e3 : decide (nT ≤ 1048576) = true := by simp; omega
            have qn : (200 : Int) - (k : Int) = (nn : Int) := by omega
            have wn : IntKind.i64.wrap (nn : Int) = (nn : Int) := by rw [IntKind.wrap_i64]; omega
            have e2 : decide ((nn : Int) < 0) = false := by simp
            have e4 : decide (1048576 < (nn : Int)) = false := by simp; omega
            have hnn2 : nn ≤ 200 := by omega
            clear hnn hn1 hn2 hn3
            have hal2 : at0 + nn ≤ 6000 := by omega
            have hR := read_any hx hv (by omega) (by rw [HSB.out]; exact Sp.behind_at 168 (by decide) at0 S0 hS0a) (by decide) (by decide) nn (by omega) (by omega)
            unfold ReadIs at hR
            have hzc := hM
            go_wp2_with (go_at_call 28; refine hR.mono ?_)
            rintro e w6 ⟨rfl, r6, hx6, b6⟩
            clear hR
            have hqb := hzT
            rw [hqb] at r6
            clear hqb
            have sa6 := sa.but hoff (b6.mono hzc)
            have tt6 := tt.below (b6.under (by omega) (by omega))
            have hv6 := hv.but b6 (by omega)
            have hb6 := hb.trans (b6.under (by omega) (by omega))
            have hM6 : M ≤ w6.heap.size := by have := b6.size; omega
            have hol : (s.outs 168 nn).length = nn := Sp.outs_length _ _ _
            have HMID : Shh ((all.take (at0 + nn)).drop at0 = s.outs 168 nn) := Shh.mk (by rw [HALL.out, HSB.out]; exact outs_mid 168 at0 nn 6000 hal2 S0)
            have HSB6 : Shh (s.behind 168 nn = S0.behind 168 (at0 + nn)) := Shh.mk (by rw [HSB.out, behind_app])
            have hX6 : Sl w6 w6.heap.size (.slice (some ⟨nW + 1, 0, none⟩) nn nn) (s.outs 168 nn) := Sl.of_bytes r6 r6.lt hol (by omega)
            have hcut := sa6.cut at0 (at0 + nn) (by omega) (by omega) (by omega)
            rw [HMID.out] at hcut
            have hcr := fun u => run_lhT Aa 6000 ca at0 (at0 + nn) (by omega) (by omega) u
            obtain ⟨a2, ha2⟩ : ∃ a, a = at0 + nn := ⟨_, rfl⟩
            rw [← ha2] at hcut hcr HSB6 hx6
            have qa2 : (at0 : Int) + (nn : Int) = (a2 : Int) := by omega
            have wa2 : IntKind.i64.wrap (a2 : Int) = (a2 : Int) := by rw [IntKind.wrap_i64]; omega
            have hal3 : a2 ≤ 200 * (k + 1) := by omega
            generalize s.outs 168 nn = ou at *
            obtain ⟨s6, HS6⟩ : ∃ s6, Shh (s6 = s.behind 168 nn) := ⟨_, Shh.mk rfl⟩
            rw [← HS6.out] at hx6 HSB6
            generalize sliced Aa at0 a2 ca 1 = vc at *
            clear HMID HS6 b6 hx HSB r6 ha2 sa tt hv hb hol hal2
            go_wp2_with (go_at_call 19; refine (refEqual_any _ _ _ _ ou ou _ hX6 hcut).mono ?_)
            rintro e wE ⟨rfl, rfl⟩
            rw [show (ou == ou) = true by simp]
            clear hX6 hcut hcr
            go_wp2_with (go_at_call 29; refine (count_any hx6).mono ?_)
            rintro e wR ⟨rfl, rfl⟩
            go_wp2
            go_roundw
            case rel => exact ⟨k + 1, a2, g, s6, by omega, by go_num, rfl, rfl, hal3, hx6, HSB6, hoff, hgN, hM6, sa6, tt6, hv6, hb6⟩
            case measure => simp [intOf]; omega
          · obtain ⟨nn, rfl⟩ := Int.eq_ofNat_of_zero_le (show 0 ≤ nT by omega)
            have e1 : decide (200 < (nn : Int)) = false := by simpa using hn3
            have e2 : decide ((nn : Int) < 0) = false := by simp
            have e4 : decide (1048576 < (nn : Int)) = false := by simp; omega
            have hnn2 : nn ≤ 200 := by omega
            clear hn1 hn2 hn3
            have hal2 : at0 + nn ≤ 6000 := by omega
            have hR := read_any hx hv (by omega) (by rw [HSB.out]; exact Sp.behind_at 168 (by decide) at0 S0 hS0a) (by decide) (by decide) nn (by omega) (by omega)
            unfold ReadIs at hR
            have hzc := hM
            go_wp2_with (go_at_call 28; refine hR.mono ?_)
            rintro e w6 ⟨rfl, r6, hx6, b6⟩
            clear hR
            have hqb := hzT
            rw [hqb] at r6
            clear hqb
            have sa6 := sa.but hoff (b6.mono hzc)
            have tt6 := tt.below (b6.under (by omega) (by omega))
            have hv6 := hv.but b6 (by omega)
            have hb6 := hb.trans (b6.under (by omega) (by omega))
            have hM6 : M ≤ w6.heap.size := by have := b6.size; omega
            have hol : (s.outs 168 nn).length = nn := Sp.outs_length _ _ _
            have HMID : Shh ((all.take (at0 + nn)).drop at0 = s.outs 168 nn) := Shh.mk (by rw [HALL.out, HSB.out]; exact outs_mid 168 at0 nn 6000 hal2 S0)
            have HSB6 : Shh (s.behind 168 nn = S0.behind 168 (at0 + nn)) := Shh.mk (by rw [HSB.out, behind_app])
            have hX6 : Sl w6 w6.heap.size (.slice (some ⟨nW + 1, 0, none⟩) nn nn) (s.outs 168 nn) := Sl.of_bytes r6 r6.lt hol (by omega)
            have hcut := sa6.cut at0 (at0 + nn) (by omega) (by omega) (by omega)
            rw [HMID.out] at hcut
            have hcr := fun u => run_lhT Aa 6000 ca at0 (at0 + nn) (by omega) (by omega) u
            obtain ⟨a2, ha2⟩ : ∃ a, a = at0 + nn := ⟨_, rfl⟩
            rw [← ha2] at hcut hcr HSB6 hx6
            have qa2 : (at0 : Int) + (nn : Int) = (a2 : Int) := by omega
            have wa2 : IntKind.i64.wrap (a2 : Int) = (a2 : Int) := by rw [IntKind.wrap_i64]; omega
            have hal3 : a2 ≤ 200 * (k + 1) := by omega
            generalize s.outs 168 nn = ou at *
            obtain ⟨s6, HS6⟩ : ∃ s6, Shh (s6 = s.behind 168 nn) := ⟨_, Shh.mk rfl⟩
            rw [← HS6.out] at hx6 HSB6
            generalize sliced Aa at0 a2 ca 1 = vc at *
            clear HMID HS6 b6 hx HSB r6 ha2 sa tt hv hb hol hal2
            go_wp2_with (go_at_call 19; refine (refEqual_any _ _ _ _ ou ou _ hX6 hcut).mono ?_)
            rintro e wE ⟨rfl, rfl⟩
            rw [show (ou == ou) = true by simp]
            clear hX6 hcut hcr
            go_wp2_with (go_at_call 29; refine (count_any hx6).mono ?_)
            rintro e wR ⟨rfl, rfl⟩
            go_wp2
            go_roundw
            case rel => exact ⟨k + 1, a2, g, s6, by omega, by go_num, rfl, rfl, hal3, hx6, HSB6, hoff, hgN, hM6, sa6, tt6, hv6, hb6⟩
            case measure => simp [intOf]; omega
        | true =>
          go_wp2_with (go_at_call 27; refine (clone_any hx).mono ?_)
          rintro e w4 ⟨g4, rfl, hg4, hx4, b4⟩
          have hgl4 : g4 < w4.heap.size := SpAt.lt hx4
          rw [hzT] at hg4
          have hMn : M ≤ nW + 1 := by rw [← hzT]; exact hM
          have hxo : XofAt w4 g s 168 at0 := SpAt.below hx b4
          replace sa := sa.below (b4.mono hM)
          replace tt := tt.below (b4.mono (by omega))
          replace hv := hv.step b4
          replace hb := hb.trans (b4.mono (by omega))
          replace rT := rT.below b4 rT.lt
          replace hM : M ≤ w4.heap.size := Nat.le_trans hM b4.size
          clear b4 hx
          have hR := read_any hxo hv (by omega) (by rw [HSB.out]; exact Sp.behind_at 168 (by decide) at0 S0 hS0a) (by decide) (by decide) 7 (by omega) (by omega)
          unfold ReadIs at hR
          go_wp2_with (go_at_call 28; refine hR.mono ?_)
          rintro e w5 ⟨rfl, -, -, b5⟩
          have hx := hx4.but b5 (by omega)
          replace sa := sa.but hoff (b5.mono hM)
          replace tt := tt.below (b5.under (by omega) (by omega))
          replace hv := hv.but b5 (by omega)
          replace hb := hb.trans (b5.under (by omega) (by omega))
          replace rT := b5.row rT rT.lt (by omega)
          replace hM : M ≤ w5.heap.size := Nat.le_trans hM b5.size
          replace hoff := sa.off (g := g4) (by omega)
          replace hgN : N ≤ g4 := by omega
          have hgl5 : g4 < w5.heap.size := SpAt.lt hx
          clear b5 hR hx4 hxo
          have hcN := rT.cell 0
          go_wp2_with (go_at_call 29; refine (count_any hx).mono ?_)
          rintro e wC ⟨rfl, rfl⟩
          clear rT hzT hgl4
          by_cases hn1 : nT < 0
          · have hnc := hn1
            have e1 : decide (200 < nT) = false := by simp; omega
            have e2 : decide (nT < 0) = true := by simpa using hn1
            have hRn : Calls Tryd.prog 28 #[.pointer (some ⟨g4, 0, none⟩), .int .i64 nT] _ (NoneIs _ 1) := read_neg hx nT hnc
            go_wp2_with (go_at_call 28; refine hRn.mono ?_)
            rintro e wR ⟨rfl, rfl⟩
            go_wp2_with (go_at_call 29; refine (count_any hx).mono ?_)
            rintro e wR ⟨rfl, rfl⟩
            go_wp2
            go_roundw
            case rel => exact ⟨k + 1, at0, g4, s, by omega, by go_num, rfl, rfl, by omega, hx, HSB, hoff, hgN, hM, sa, tt, hv, hb⟩
            case measure => simp [intOf]; omega
          by_cases hn2 : 1048576 < nT
          · have hnc := hn2
            have e1 : decide (200 < nT) = true := by simp; omega
            have e3 : decide (nT ≤ 1048576) = false := by simp; omega
            have e2 : decide (nT < 0) = false := by simp; omega
            have e4 : decide (1048576 < nT) = true := by simpa using hn2
            have hRn : Calls Tryd.prog 28 #[.pointer (some ⟨g4, 0, none⟩), .int .i64 nT] _ (NoneIs _ 3) := read_much hx nT hnc
            go_wp2_with (go_at_call 28; refine hRn.mono ?_)
            rintro e wR ⟨rfl, rfl⟩
            go_wp2_with (go_at_call 29; refine (count_any hx).mono ?_)
            rintro e wR ⟨rfl, rfl⟩
            go_wp2
            go_roundw
            case rel => exact ⟨k + 1, at0, g4, s, by omega, by go_num, rfl, rfl, by omega, hx, HSB, hoff, hgN, hM, sa, tt, hv, hb⟩
            case measure => simp [intOf]; omega
          by_cases hn3 : 200 < nT
          · obtain ⟨nn, hnn⟩ : ∃ nn, nn = 200 - k := ⟨_, rfl⟩
            have e1 : decide (200 < nT) = true := by simpa using hn3
            have e3 : decide (nT ≤ 1048576) = true := by simp; omega
            have qn : (200 : Int) - (k : Int) = (nn : Int) := by omega
            have wn : IntKind.i64.wrap (nn : Int) = (nn : Int) := by rw [IntKind.wrap_i64]; omega
            have e2 : decide ((nn : Int) < 0) = false := by simp
            have e4 : decide (1048576 < (nn : Int)) = false := by simp; omega
            have hnn2 : nn ≤ 200 := by omega
            clear hnn hn1 hn2 hn3
            have hal2 : at0 + nn ≤ 6000 := by omega
            have hR := read_any hx hv (by omega) (by rw [HSB.out]; exact Sp.behind_at 168 (by decide) at0 S0 hS0a) (by decide) (by decide) nn (by omega) (by omega)
            unfold ReadIs at hR
            have hzc := hM
            go_wp2_with (go_at_call 28; refine hR.mono ?_)
            rintro e w6 ⟨rfl, r6, hx6, b6⟩
            clear hR
            have sa6 := sa.but hoff (b6.mono hzc)
            have tt6 := tt.below (b6.under (by omega) (by omega))
            have hv6 := hv.but b6 (by omega)
            have hb6 := hb.trans (b6.under (by omega) (by omega))
            have hM6 : M ≤ w6.heap.size := by have := b6.size; omega
            have hol : (s.outs 168 nn).length = nn := Sp.outs_length _ _ _
            have HMID : Shh ((all.take (at0 + nn)).drop at0 = s.outs 168 nn) := Shh.mk (by rw [HALL.out, HSB.out]; exact outs_mid 168 at0 nn 6000 hal2 S0)
            have HSB6 : Shh (s.behind 168 nn = S0.behind 168 (at0 + nn)) := Shh.mk (by rw [HSB.out, behind_app])
            have hX6 : Sl w6 w6.heap.size (.slice (some ⟨wC.heap.size, 0, none⟩) nn nn) (s.outs 168 nn) := Sl.of_bytes r6 r6.lt hol (by omega)
            have hcut := sa6.cut at0 (at0 + nn) (by omega) (by omega) (by omega)
            rw [HMID.out] at hcut
            have hcr := fun u => run_lhT Aa 6000 ca at0 (at0 + nn) (by omega) (by omega) u
            obtain ⟨a2, ha2⟩ : ∃ a, a = at0 + nn := ⟨_, rfl⟩
            rw [← ha2] at hcut hcr HSB6 hx6
            have qa2 : (at0 : Int) + (nn : Int) = (a2 : Int) := by omega
            have wa2 : IntKind.i64.wrap (a2 : Int) = (a2 : Int) := by rw [IntKind.wrap_i64]; omega
            have hal3 : a2 ≤ 200 * (k + 1) := by omega
            generalize s.outs 168 nn = ou at *
            obtain ⟨s6, HS6⟩ : ∃ s6, Shh (s6 = s.behind 168 nn) := ⟨_, Shh.mk rfl⟩
            rw [← HS6.out] at hx6 HSB6
            generalize sliced Aa at0 a2 ca 1 = vc at *
            clear HMID HS6 b6 hx HSB r6 ha2 sa tt hv hb hol hal2
            go_wp2_with (go_at_call 19; refine (refEqual_any _ _ _ _ ou ou _ hX6 hcut).mono ?_)
            rintro e wE ⟨rfl, rfl⟩
            rw [show (ou == ou) = true by simp]
            clear hX6 hcut hcr
            go_wp2_with (go_at_call 29; refine (count_any hx6).mono ?_)
            rintro e wR ⟨rfl, rfl⟩
            go_wp2
            go_roundw
            case rel => exact ⟨k + 1, a2, g4, s6, by omega, by go_num, rfl, rfl, hal3, hx6, HSB6, hoff, hgN, hM6, sa6, tt6, hv6, hb6⟩
            case measure => simp [intOf]; omega
          · obtain ⟨nn, rfl⟩ := Int.eq_ofNat_of_zero_le (show 0 ≤ nT by omega)
            have e1 : decide (200 < (nn : Int)) = false := by simpa using hn3
            have e2 : decide ((nn : Int) < 0) = false := by simp
            have e4 : decide (1048576 < (nn : Int)) = false := by simp; omega
            have hnn2 : nn ≤ 200 := by omega
            clear hn1 hn2 hn3
            have hal2 : at0 + nn ≤ 6000 := by omega
            have hR := read_any hx hv (by omega) (by rw [HSB.out]; exact Sp.behind_at 168 (by decide) at0 S0 hS0a) (by decide) (by decide) nn (by omega) (by omega)
            unfold ReadIs at hR
            have hzc := hM
            go_wp2_with (go_at_call 28; refine hR.mono ?_)
            rintro e w6 ⟨rfl, r6, hx6, b6⟩
            clear hR
            have sa6 := sa.but hoff (b6.mono hzc)
            have tt6 := tt.below (b6.under (by omega) (by omega))
            have hv6 := hv.but b6 (by omega)
            have hb6 := hb.trans (b6.under (by omega) (by omega))
            have hM6 : M ≤ w6.heap.size := by have := b6.size; omega
            have hol : (s.outs 168 nn).length = nn := Sp.outs_length _ _ _
            have HMID : Shh ((all.take (at0 + nn)).drop at0 = s.outs 168 nn) := Shh.mk (by rw [HALL.out, HSB.out]; exact outs_mid 168 at0 nn 6000 hal2 S0)
            have HSB6 : Shh (s.behind 168 nn = S0.behind 168 (at0 + nn)) := Shh.mk (by rw [HSB.out, behind_app])
            have hX6 : Sl w6 w6.heap.size (.slice (some ⟨wC.heap.size, 0, none⟩) nn nn) (s.outs 168 nn) := Sl.of_bytes r6 r6.lt hol (by omega)
            have hcut := sa6.cut at0 (at0 + nn) (by omega) (by omega) (by omega)
            rw [HMID.out] at hcut
            have hcr := fun u => run_lhT Aa 6000 ca at0 (at0 + nn) (by omega) (by omega) u
            obtain ⟨a2, ha2⟩ : ∃ a, a = at0 + nn := ⟨_, rfl⟩
            rw [← ha2] at hcut hcr HSB6 hx6
            have qa2 : (at0 : Int) + (nn : Int) = (a2 : Int) := by omega
            have wa2 : IntKind.i64.wrap (a2 : Int) = (a2 : Int) := by rw [IntKind.wrap_i64]; omega
            have hal3 : a2 ≤ 200 * (k + 1) := by omega
            generalize s.outs 168 nn = ou at *
            obtain ⟨s6, HS6⟩ : ∃ s6, Shh (s6 = s.behind 168 nn) := ⟨_, Shh.mk rfl⟩
            rw [← HS6.out] at hx6 HSB6
            generalize sliced Aa at0 a2 ca 1 = vc at *
            clear HMID HS6 b6 hx HSB r6 ha2 sa tt hv hb hol hal2
            go_wp2_with (go_at_call 19; refine (refEqual_any _ _ _ _ ou ou _ hX6 hcut).mono ?_)
            rintro e wE ⟨rfl, rfl⟩
            rw [show (ou == ou) = true by simp]
            clear hX6 hcut hcr
            go_wp2_with (go_at_call 29; refine (count_any hx6).mono ?_)
            rintro e wR ⟨rfl, rfl⟩
            go_wp2
            go_roundw
            case rel => exact ⟨k + 1, a2, g4, s6, by omega, by go_num, rfl, rfl, hal3, hx6, HSB6, hoff, hgN, hM6, sa6, tt6, hv6, hb6⟩
            case measure => simp [intOf]; omega
      · go_wp2
        go_ret
        exact ⟨rfl, hb⟩
  | true =>
    clear hx0
    have bA2 : Below w2.heap.size w2 (w2.alloc (.cells #[.slice A m.length c] 29)) := Below.alloc (Below.refl _ _) (Nat.le_refl _) _
    have hq2 : PartsO (w2.alloc (.cells #[.slice A m.length c] 29)) (w2.heap.size + 1) (w2.heap.size + 1) (.slice (some ⟨w2.heap.size, 0, none⟩) 1 1) [m] :=
      PartsO.solo (Row.new_ rfl rfl) (Nat.lt_succ_self _) (by omega) ((st2.below (Below.alloc (Below.refl _ _) hs2 _)).more (by omega)) (st2.off (by omega))
    have hvA2 := hv2.step bA2
    have hS1 := shake256_any [m] (by simp) (w2.heap.size + 1) _ _ hq2 (by rw [asz]; exact Nat.le_refl _) hvA2
    clear hgN0 hg0l
    go_wp2_with (go_at_call 25; refine hS1.mono ?_)
    rintro e w3 ⟨g0, rfl, hg0, hx0, b3'⟩
    rw [asz] at hg0
    have b3 := bA2.trans (b3'.mono bA2.size)
    have hb3 := hb2.trans (b3.mono hs2)
    have hv3 := hv2.step b3
    have st3 := st2.below (b3.mono hs2)
    have tt3 := tt2.below (b3.mono hs2)
    have hs3 : N ≤ w3.heap.size := by have := b3.size; omega
    have hgN0 : N ≤ g0 := by omega
    rw [flat_one] at hx0
    clear b3 b3' bA2 hq2 hvA2 hS1 hv2 st2 tt2 hg0 hb2
    obtain ⟨S0, HS0⟩ : ∃ S, Shh (S = absorbL 136 31 m) := ⟨_, Shh.mk rfl⟩
    have hS0a : S0.at_ ≤ 136 := by rw [HS0.out]; exact Nat.le_refl _
    rw [← HS0.out] at hx0
    have hal0 : (spongeL 136 31 m 6000).length = 6000 := Sp.outs_length _ _ _
    obtain ⟨all, HA⟩ : ∃ a, Shh (a = spongeL 136 31 m 6000) := ⟨_, Shh.mk rfl⟩
    have HALL : Shh (all = S0.outs 136 6000) := Shh.mk (by rw [HA.out, HS0.out]; rfl)
    rw [← HA.out] at hal0
    have hSk := refShake256_any 6000 (by decide) N _ m w3 st3 hs3 (by omega)
    rw [← HA.out] at hSk
    go_wp2_with (go_at_call 26; refine hSk.mono ?_)
    rintro e wA ⟨va, rfl, ga⟩
    have oa := own_len ga.1 hal0
    have sa := gives_sl ga
    obtain ⟨Aa, ca, rfl⟩ := own_form oa
    have hca : 6000 ≤ ca := by obtain ⟨_, _, hv', h1, _⟩ := sa; injection hv' with _ _ e3; omega
    have ba := ga.2
    have hga : g0 < w3.heap.size := SpAt.lt hx0
    replace hx0 : XofAt _ _ _ _ _ := SpAt.below hx0 ba
    have hv0 := hv3.step ba
    have tt0 := tt3.below (ba.mono hs3)
    have hb0 := hb3.trans (ba.mono hs3)
    obtain ⟨M, hM⟩ : ∃ M, M = wA.heap.size := ⟨_, rfl⟩
    have hM0 : M ≤ wA.heap.size := by omega
    have sa0 : Sl wA M (.slice Aa 6000 ca) all := by rw [hM]; exact sa
    have hNM : N ≤ M := by have := ba.size; omega
    have hg0M : g0 < M := by rw [hM]; exact SpAt.lt hx0
    clear ga sa ba hM hv3 tt3 hb3 hSk HS0 HA
    have hoff0 : Off g0 (.slice Aa 6000 ca) := off_own oa hga
    clear oa
    go_wp2
    go_loopw [8, 10, 41] (fun x a i wr => ∃ (k at0 g : Nat) (s : Sp), k ≤ q ∧ i = .int .i64 (k : Int) ∧ x = .pointer (some ⟨g, 0, none⟩) ∧ a = .int .i64 (at0 : Int) ∧ at0 ≤ 200 * k ∧ XofAt wr g s 136 at0 ∧ Shh (s = S0.behind 136 at0) ∧ Off g (.slice Aa 6000 ca) ∧ N ≤ g ∧ M ≤ wr.heap.size ∧ Sl wr M (.slice Aa 6000 ca) all ∧ Turns wr N (.slice At ts.length ct) ts ∧ Vars wr ∧ Below N w wr) (fun _ _ i _ => q - (intOf i).toNat)
    case atStart => exact ⟨0, 0, g0, S0, Nat.zero_le _, rfl, rfl, rfl, Nat.zero_le _, hx0, Shh.mk rfl, hoff0, hgN0, hM0, sa0, tt0, hv0, hb0⟩
    case round =>
      clear hx0 hoff0 hgN0 hM0 sa0 tt0 hv0 hb0 hcu hm1 hm2 hm3
      obtain ⟨k, at0, g, s, hk, rfl, rfl, rfl, hal, hx, HSB, hoff, hgN, hM, sa, tt, hv, hb⟩ := hrel
      by_cases hlt : k < q
      · obtain ⟨_, _, hvt, _, _, hct⟩ := id tt
        cases hvt
        obtain ⟨bt, ot, rfl, hbt, hcc⟩ := hct (by omega)
        obtain ⟨hc0, hc1⟩ := hcc k (by omega)
        clear hcc hct
        generalize ts[k].1 = nT at *
        generalize hcb : ts[k].2 = cT at *
        clear hcb
        have hgl : g < wr.heap.size := SpAt.lt hx
        have ik : (k : Int) < (q : Int) := by omega
        have ik0 : (0 : Int) ≤ (k : Int) := by omega
        obtain ⟨nW, hnW⟩ : ∃ n, wr.heap.size = n := ⟨_, rfl⟩
        have bT : Below wr.heap.size wr (wr.alloc (.cells #[.int .i64 nT, .bool cT] 47)) := Below.alloc (Below.refl _ _) (Nat.le_refl _) _
        have rT : Row (wr.alloc (.cells #[.int .i64 nT, .bool cT] 47)) nW 47 [.int .i64 nT, .bool cT] := Row.new_ hnW.symm rfl
        replace hx : XofAt _ _ _ _ _ := SpAt.below hx bT
        replace sa := sa.below (bT.mono hM)
        replace tt := tt.below (bT.mono (by omega))
        replace hv := hv.step bT
        replace hb := hb.trans (bT.mono (by omega))
        replace hM : M ≤ (wr.alloc (.cells #[.int .i64 nT, .bool cT] 47)).heap.size := Nat.le_trans hM bT.size
        have hzT : (wr.alloc (.cells #[.int .i64 nT, .bool cT] 47)).heap.size = nW + 1 := by rw [asz, hnW]
        clear bT
        have wK : IntKind.i64.wrap (k : Int) = (k : Int) := by rw [IntKind.wrap_i64]; omega
        cases cT with
        | false =>
          have hcN := rT.cell 0
          clear rT
          by_cases hn1 : nT < 0
          · have hnc := hn1
            have e1 : decide (200 < nT) = false := by simp; omega
            have e2 : decide (nT < 0) = true := by simpa using hn1
            have hRn : Calls Tryd.prog 28 #[.pointer (some ⟨g, 0, none⟩), .int .i64 nT] _ (NoneIs _ 1) := read_neg hx nT hnc
            go_wp2_with (go_at_call 28; refine hRn.mono ?_)
            rintro e wR ⟨rfl, rfl⟩
            go_wp2_with (go_at_call 29; refine (count_any hx).mono ?_)
            rintro e wR ⟨rfl, rfl⟩
            go_wp2
            go_roundw
            case rel => exact ⟨k + 1, at0, g, s, by omega, by go_num, rfl, rfl, by omega, hx, HSB, hoff, hgN, hM, sa, tt, hv, hb⟩
            case measure => simp [intOf]; omega
          by_cases hn2 : 1048576 < nT
          · have hnc := hn2
            have e1 : decide (200 < nT) = true := by simp; omega
            have e3 : decide (nT ≤ 1048576) = false := by simp; omega
            have e2 : decide (nT < 0) = false := by simp; omega
            have e4 : decide (1048576 < nT) = true := by simpa using hn2
            have hRn : Calls Tryd.prog 28 #[.pointer (some ⟨g, 0, none⟩), .int .i64 nT] _ (NoneIs _ 3) := read_much hx nT hnc
            go_wp2_with (go_at_call 28; refine hRn.mono ?_)
            rintro e wR ⟨rfl, rfl⟩
            go_wp2_with (go_at_call 29; refine (count_any hx).mono ?_)
            rintro e wR ⟨rfl, rfl⟩
            go_wp2
            go_roundw
            case rel => exact ⟨k + 1, at0, g, s, by omega, by go_num, rfl, rfl, by omega, hx, HSB, hoff, hgN, hM, sa, tt, hv, hb⟩
            case measure => simp [intOf]; omega
          by_cases hn3 : 200 < nT
          · obtain ⟨nn, hnn⟩ : ∃ nn, nn = 200 - k := ⟨_, rfl⟩
            have e1 : decide (200 < nT) = true := by simpa using hn3
            have e3 : decide (nT ≤ 1048576) = true := by simp; omega
            have qn : (200 : Int) - (k : Int) = (nn : Int) := by omega
            have wn : IntKind.i64.wrap (nn : Int) = (nn : Int) := by rw [IntKind.wrap_i64]; omega
            have e2 : decide ((nn : Int) < 0) = false := by simp
            have e4 : decide (1048576 < (nn : Int)) = false := by simp; omega
            have hnn2 : nn ≤ 200 := by omega
            clear hnn hn1 hn2 hn3
            have hal2 : at0 + nn ≤ 6000 := by omega
            have hR := read_any hx hv (by omega) (by rw [HSB.out]; exact Sp.behind_at 136 (by decide) at0 S0 hS0a) (by decide) (by decide) nn (by omega) (by omega)
            unfold ReadIs at hR
            have hzc := hM
            go_wp2_with (go_at_call 28; refine hR.mono ?_)
            rintro e w6 ⟨rfl, r6, hx6, b6⟩
            clear hR
            have hqb := hzT
            rw [hqb] at r6
            clear hqb
            have sa6 := sa.but hoff (b6.mono hzc)
            have tt6 := tt.below (b6.under (by omega) (by omega))
            have hv6 := hv.but b6 (by omega)
            have hb6 := hb.trans (b6.under (by omega) (by omega))
            have hM6 : M ≤ w6.heap.size := by have := b6.size; omega
            have hol : (s.outs 136 nn).length = nn := Sp.outs_length _ _ _
            have HMID : Shh ((all.take (at0 + nn)).drop at0 = s.outs 136 nn) := Shh.mk (by rw [HALL.out, HSB.out]; exact outs_mid 136 at0 nn 6000 hal2 S0)
            have HSB6 : Shh (s.behind 136 nn = S0.behind 136 (at0 + nn)) := Shh.mk (by rw [HSB.out, behind_app])
            have hX6 : Sl w6 w6.heap.size (.slice (some ⟨nW + 1, 0, none⟩) nn nn) (s.outs 136 nn) := Sl.of_bytes r6 r6.lt hol (by omega)
            have hcut := sa6.cut at0 (at0 + nn) (by omega) (by omega) (by omega)
            rw [HMID.out] at hcut
            have hcr := fun u => run_lhT Aa 6000 ca at0 (at0 + nn) (by omega) (by omega) u
            obtain ⟨a2, ha2⟩ : ∃ a, a = at0 + nn := ⟨_, rfl⟩
            rw [← ha2] at hcut hcr HSB6 hx6
            have qa2 : (at0 : Int) + (nn : Int) = (a2 : Int) := by omega
            have wa2 : IntKind.i64.wrap (a2 : Int) = (a2 : Int) := by rw [IntKind.wrap_i64]; omega
            have hal3 : a2 ≤ 200 * (k + 1) := by omega
            generalize s.outs 136 nn = ou at *
            obtain ⟨s6, HS6⟩ : ∃ s6, Shh (s6 = s.behind 136 nn) := ⟨_, Shh.mk rfl⟩
            rw [← HS6.out] at hx6 HSB6
            generalize sliced Aa at0 a2 ca 1 = vc at *
            clear HMID HS6 b6 hx HSB r6 ha2 sa tt hv hb hol hal2
            go_wp2_with (go_at_call 19; refine (refEqual_any _ _ _ _ ou ou _ hX6 hcut).mono ?_)
            rintro e wE ⟨rfl, rfl⟩
            rw [show (ou == ou) = true by simp]
            clear hX6 hcut hcr
            go_wp2_with (go_at_call 29; refine (count_any hx6).mono ?_)
            rintro e wR ⟨rfl, rfl⟩
            go_wp2
            go_roundw
            case rel => exact ⟨k + 1, a2, g, s6, by omega, by go_num, rfl, rfl, hal3, hx6, HSB6, hoff, hgN, hM6, sa6, tt6, hv6, hb6⟩
            case measure => simp [intOf]; omega
          · obtain ⟨nn, rfl⟩ := Int.eq_ofNat_of_zero_le (show 0 ≤ nT by omega)
            have e1 : decide (200 < (nn : Int)) = false := by simpa using hn3
            have e2 : decide ((nn : Int) < 0) = false := by simp
            have e4 : decide (1048576 < (nn : Int)) = false := by simp; omega
            have hnn2 : nn ≤ 200 := by omega
            clear hn1 hn2 hn3
            have hal2 : at0 + nn ≤ 6000 := by omega
            have hR := read_any hx hv (by omega) (by rw [HSB.out]; exact Sp.behind_at 136 (by decide) at0 S0 hS0a) (by decide) (by decide) nn (by omega) (by omega)
            unfold ReadIs at hR
            have hzc := hM
            go_wp2_with (go_at_call 28; refine hR.mono ?_)
            rintro e w6 ⟨rfl, r6, hx6, b6⟩
            clear hR
            have hqb := hzT
            rw [hqb] at r6
            clear hqb
            have sa6 := sa.but hoff (b6.mono hzc)
            have tt6 := tt.below (b6.under (by omega) (by omega))
            have hv6 := hv.but b6 (by omega)
            have hb6 := hb.trans (b6.under (by omega) (by omega))
            have hM6 : M ≤ w6.heap.size := by have := b6.size; omega
            have hol : (s.outs 136 nn).length = nn := Sp.outs_length _ _ _
            have HMID : Shh ((all.take (at0 + nn)).drop at0 = s.outs 136 nn) := Shh.mk (by rw [HALL.out, HSB.out]; exact outs_mid 136 at0 nn 6000 hal2 S0)
            have HSB6 : Shh (s.behind 136 nn = S0.behind 136 (at0 + nn)) := Shh.mk (by rw [HSB.out, behind_app])
            have hX6 : Sl w6 w6.heap.size (.slice (some ⟨nW + 1, 0, none⟩) nn nn) (s.outs 136 nn) := Sl.of_bytes r6 r6.lt hol (by omega)
            have hcut := sa6.cut at0 (at0 + nn) (by omega) (by omega) (by omega)
            rw [HMID.out] at hcut
            have hcr := fun u => run_lhT Aa 6000 ca at0 (at0 + nn) (by omega) (by omega) u
            obtain ⟨a2, ha2⟩ : ∃ a, a = at0 + nn := ⟨_, rfl⟩
            rw [← ha2] at hcut hcr HSB6 hx6
            have qa2 : (at0 : Int) + (nn : Int) = (a2 : Int) := by omega
            have wa2 : IntKind.i64.wrap (a2 : Int) = (a2 : Int) := by rw [IntKind.wrap_i64]; omega
            have hal3 : a2 ≤ 200 * (k + 1) := by omega
            generalize s.outs 136 nn = ou at *
            obtain ⟨s6, HS6⟩ : ∃ s6, Shh (s6 = s.behind 136 nn) := ⟨_, Shh.mk rfl⟩
            rw [← HS6.out] at hx6 HSB6
            generalize sliced Aa at0 a2 ca 1 = vc at *
            clear HMID HS6 b6 hx HSB r6 ha2 sa tt hv hb hol hal2
            go_wp2_with (go_at_call 19; refine (refEqual_any _ _ _ _ ou ou _ hX6 hcut).mono ?_)
            rintro e wE ⟨rfl, rfl⟩
            rw [show (ou == ou) = true by simp]
            clear hX6 hcut hcr
            go_wp2_with (go_at_call 29; refine (count_any hx6).mono ?_)
            rintro e wR ⟨rfl, rfl⟩
            go_wp2
            go_roundw
            case rel => exact ⟨k + 1, a2, g, s6, by omega, by go_num, rfl, rfl, hal3, hx6, HSB6, hoff, hgN, hM6, sa6, tt6, hv6, hb6⟩
            case measure => simp [intOf]; omega
        | true =>
          go_wp2_with (go_at_call 27; refine (clone_any hx).mono ?_)
          rintro e w4 ⟨g4, rfl, hg4, hx4, b4⟩
          have hgl4 : g4 < w4.heap.size := SpAt.lt hx4
          rw [hzT] at hg4
          have hMn : M ≤ nW + 1 := by rw [← hzT]; exact hM
          have hxo : XofAt w4 g s 136 at0 := SpAt.below hx b4
          replace sa := sa.below (b4.mono hM)
          replace tt := tt.below (b4.mono (by omega))
          replace hv := hv.step b4
          replace hb := hb.trans (b4.mono (by omega))
          replace rT := rT.below b4 rT.lt
          replace hM : M ≤ w4.heap.size := Nat.le_trans hM b4.size
          clear b4 hx
          have hR := read_any hxo hv (by omega) (by rw [HSB.out]; exact Sp.behind_at 136 (by decide) at0 S0 hS0a) (by decide) (by decide) 7 (by omega) (by omega)
          unfold ReadIs at hR
          go_wp2_with (go_at_call 28; refine hR.mono ?_)
          rintro e w5 ⟨rfl, -, -, b5⟩
          have hx := hx4.but b5 (by omega)
          replace sa := sa.but hoff (b5.mono hM)
          replace tt := tt.below (b5.under (by omega) (by omega))
          replace hv := hv.but b5 (by omega)
          replace hb := hb.trans (b5.under (by omega) (by omega))
          replace rT := b5.row rT rT.lt (by omega)
          replace hM : M ≤ w5.heap.size := Nat.le_trans hM b5.size
          replace hoff := sa.off (g := g4) (by omega)
          replace hgN : N ≤ g4 := by omega
          have hgl5 : g4 < w5.heap.size := SpAt.lt hx
          clear b5 hR hx4 hxo
          have hcN := rT.cell 0
          go_wp2_with (go_at_call 29; refine (count_any hx).mono ?_)
          rintro e wC ⟨rfl, rfl⟩
          clear rT hzT hgl4
          by_cases hn1 : nT < 0
          · have hnc := hn1
            have e1 : decide (200 < nT) = false := by simp; omega
            have e2 : decide (nT < 0) = true := by simpa using hn1
            have hRn : Calls Tryd.prog 28 #[.pointer (some ⟨g4, 0, none⟩), .int .i64 nT] _ (NoneIs _ 1) := read_neg hx nT hnc
            go_wp2_with (go_at_call 28; refine hRn.mono ?_)
            rintro e wR ⟨rfl, rfl⟩
            go_wp2_with (go_at_call 29; refine (count_any hx).mono ?_)
            rintro e wR ⟨rfl, rfl⟩
            go_wp2
            go_roundw
            case rel => exact ⟨k + 1, at0, g4, s, by omega, by go_num, rfl, rfl, by omega, hx, HSB, hoff, hgN, hM, sa, tt, hv, hb⟩
            case measure => simp [intOf]; omega
          by_cases hn2 : 1048576 < nT
          · have hnc := hn2
            have e1 : decide (200 < nT) = true := by simp; omega
            have e3 : decide (nT ≤ 1048576) = false := by simp; omega
            have e2 : decide (nT < 0) = false := by simp; omega
            have e4 : decide (1048576 < nT) = true := by simpa using hn2
            have hRn : Calls Tryd.prog 28 #[.pointer (some ⟨g4, 0, none⟩), .int .i64 nT] _ (NoneIs _ 3) := read_much hx nT hnc
            go_wp2_with (go_at_call 28; refine hRn.mono ?_)
            rintro e wR ⟨rfl, rfl⟩
            go_wp2_with (go_at_call 29; refine (count_any hx).mono ?_)
            rintro e wR ⟨rfl, rfl⟩
            go_wp2
            go_roundw
            case rel => exact ⟨k + 1, at0, g4, s, by omega, by go_num, rfl, rfl, by omega, hx, HSB, hoff, hgN, hM, sa, tt, hv, hb⟩
            case measure => simp [intOf]; omega
          by_cases hn3 : 200 < nT
          · obtain ⟨nn, hnn⟩ : ∃ nn, nn = 200 - k := ⟨_, rfl⟩
            have e1 : decide (200 < nT) = true := by simpa using hn3
            have e3 : decide (nT ≤ 1048576) = true := by simp; omega
            have qn : (200 : Int) - (k : Int) = (nn : Int) := by omega
            have wn : IntKind.i64.wrap (nn : Int) = (nn : Int) := by rw [IntKind.wrap_i64]; omega
            have e2 : decide ((nn : Int) < 0) = false := by simp
            have e4 : decide (1048576 < (nn : Int)) = false := by simp; omega
            have hnn2 : nn ≤ 200 := by omega
            clear hnn hn1 hn2 hn3
            have hal2 : at0 + nn ≤ 6000 := by omega
            have hR := read_any hx hv (by omega) (by rw [HSB.out]; exact Sp.behind_at 136 (by decide) at0 S0 hS0a) (by decide) (by decide) nn (by omega) (by omega)
            unfold ReadIs at hR
            have hzc := hM
            go_wp2_with (go_at_call 28; refine hR.mono ?_)
            rintro e w6 ⟨rfl, r6, hx6, b6⟩
            clear hR
            have sa6 := sa.but hoff (b6.mono hzc)
            have tt6 := tt.below (b6.under (by omega) (by omega))
            have hv6 := hv.but b6 (by omega)
            have hb6 := hb.trans (b6.under (by omega) (by omega))
            have hM6 : M ≤ w6.heap.size := by have := b6.size; omega
            have hol : (s.outs 136 nn).length = nn := Sp.outs_length _ _ _
            have HMID : Shh ((all.take (at0 + nn)).drop at0 = s.outs 136 nn) := Shh.mk (by rw [HALL.out, HSB.out]; exact outs_mid 136 at0 nn 6000 hal2 S0)
            have HSB6 : Shh (s.behind 136 nn = S0.behind 136 (at0 + nn)) := Shh.mk (by rw [HSB.out, behind_app])
            have hX6 : Sl w6 w6.heap.size (.slice (some ⟨wC.heap.size, 0, none⟩) nn nn) (s.outs 136 nn) := Sl.of_bytes r6 r6.lt hol (by omega)
            have hcut := sa6.cut at0 (at0 + nn) (by omega) (by omega) (by omega)
            rw [HMID.out] at hcut
            have hcr := fun u => run_lhT Aa 6000 ca at0 (at0 + nn) (by omega) (by omega) u
            obtain ⟨a2, ha2⟩ : ∃ a, a = at0 + nn := ⟨_, rfl⟩
            rw [← ha2] at hcut hcr HSB6 hx6
            have qa2 : (at0 : Int) + (nn : Int) = (a2 : Int) := by omega
            have wa2 : IntKind.i64.wrap (a2 : Int) = (a2 : Int) := by rw [IntKind.wrap_i64]; omega
            have hal3 : a2 ≤ 200 * (k + 1) := by omega
            generalize s.outs 136 nn = ou at *
            obtain ⟨s6, HS6⟩ : ∃ s6, Shh (s6 = s.behind 136 nn) := ⟨_, Shh.mk rfl⟩
            rw [← HS6.out] at hx6 HSB6
            generalize sliced Aa at0 a2 ca 1 = vc at *
            clear HMID HS6 b6 hx HSB r6 ha2 sa tt hv hb hol hal2
            go_wp2_with (go_at_call 19; refine (refEqual_any _ _ _ _ ou ou _ hX6 hcut).mono ?_)
            rintro e wE ⟨rfl, rfl⟩
            rw [show (ou == ou) = true by simp]
            clear hX6 hcut hcr
            go_wp2_with (go_at_call 29; refine (count_any hx6).mono ?_)
            rintro e wR ⟨rfl, rfl⟩
            go_wp2
            go_roundw
            case rel => exact ⟨k + 1, a2, g4, s6, by omega, by go_num, rfl, rfl, hal3, hx6, HSB6, hoff, hgN, hM6, sa6, tt6, hv6, hb6⟩
            case measure => simp [intOf]; omega
          · obtain ⟨nn, rfl⟩ := Int.eq_ofNat_of_zero_le (show 0 ≤ nT by omega)
            have e1 : decide (200 < (nn : Int)) = false := by simpa using hn3
            have e2 : decide ((nn : Int) < 0) = false := by simp
            have e4 : decide (1048576 < (nn : Int)) = false := by simp; omega
            have hnn2 : nn ≤ 200 := by omega
            clear hn1 hn2 hn3
            have hal2 : at0 + nn ≤ 6000 := by omega
            have hR := read_any hx hv (by omega) (by rw [HSB.out]; exact Sp.behind_at 136 (by decide) at0 S0 hS0a) (by decide) (by decide) nn (by omega) (by omega)
            unfold ReadIs at hR
            have hzc := hM
            go_wp2_with (go_at_call 28; refine hR.mono ?_)
            rintro e w6 ⟨rfl, r6, hx6, b6⟩
            clear hR
            have sa6 := sa.but hoff (b6.mono hzc)
            have tt6 := tt.below (b6.under (by omega) (by omega))
            have hv6 := hv.but b6 (by omega)
            have hb6 := hb.trans (b6.under (by omega) (by omega))
            have hM6 : M ≤ w6.heap.size := by have := b6.size; omega
            have hol : (s.outs 136 nn).length = nn := Sp.outs_length _ _ _
            have HMID : Shh ((all.take (at0 + nn)).drop at0 = s.outs 136 nn) := Shh.mk (by rw [HALL.out, HSB.out]; exact outs_mid 136 at0 nn 6000 hal2 S0)
            have HSB6 : Shh (s.behind 136 nn = S0.behind 136 (at0 + nn)) := Shh.mk (by rw [HSB.out, behind_app])
            have hX6 : Sl w6 w6.heap.size (.slice (some ⟨wC.heap.size, 0, none⟩) nn nn) (s.outs 136 nn) := Sl.of_bytes r6 r6.lt hol (by omega)
            have hcut := sa6.cut at0 (at0 + nn) (by omega) (by omega) (by omega)
            rw [HMID.out] at hcut
            have hcr := fun u => run_lhT Aa 6000 ca at0 (at0 + nn) (by omega) (by omega) u
            obtain ⟨a2, ha2⟩ : ∃ a, a = at0 + nn := ⟨_, rfl⟩
            rw [← ha2] at hcut hcr HSB6 hx6
            have qa2 : (at0 : Int) + (nn : Int) = (a2 : Int) := by omega
            have wa2 : IntKind.i64.wrap (a2 : Int) = (a2 : Int) := by rw [IntKind.wrap_i64]; omega
            have hal3 : a2 ≤ 200 * (k + 1) := by omega
            generalize s.outs 136 nn = ou at *
            obtain ⟨s6, HS6⟩ : ∃ s6, Shh (s6 = s.behind 136 nn) := ⟨_, Shh.mk rfl⟩
            rw [← HS6.out] at hx6 HSB6
            generalize sliced Aa at0 a2 ca 1 = vc at *
            clear HMID HS6 b6 hx HSB r6 ha2 sa tt hv hb hol hal2
            go_wp2_with (go_at_call 19; refine (refEqual_any _ _ _ _ ou ou _ hX6 hcut).mono ?_)
            rintro e wE ⟨rfl, rfl⟩
            rw [show (ou == ou) = true by simp]
            clear hX6 hcut hcr
            go_wp2_with (go_at_call 29; refine (count_any hx6).mono ?_)
            rintro e wR ⟨rfl, rfl⟩
            go_wp2
            go_roundw
            case rel => exact ⟨k + 1, a2, g4, s6, by omega, by go_num, rfl, rfl, hal3, hx6, HSB6, hoff, hgN, hM6, sa6, tt6, hv6, hb6⟩
            case measure => simp [intOf]; omega
      · go_wp2
        go_ret
        exact ⟨rfl, hb⟩
end Go.Proofs.YtjondbamnbgiaaaDoor
