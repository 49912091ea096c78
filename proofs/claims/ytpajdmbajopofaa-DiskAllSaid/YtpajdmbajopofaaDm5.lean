/-
 WALK: the law DiskDoes.
-/
import Derived.Test.YtpajdmbajopofaaDm4
namespace Go.Proofs.Ytpajdmbajopofaa
open Go.RowKit
set_option maxRecDepth 100000
/-- a disk of the program and one of the document -/
def TwoE (g r : Nat) (s t : DS) : Nat → Option Ent := putE (putE noE 1 (some ⟨false, g, s⟩)) 2 (some ⟨true, r, t⟩)
theorem twoE_1 (g r : Nat) (s t : DS) : TwoE g r s t 1 = some ⟨false, g, s⟩ := rfl
theorem twoE_2 (g r : Nat) (s t : DS) : TwoE g r s t 2 = some ⟨true, r, t⟩ := rfl
theorem twoE_put (g r : Nat) (s t s2 t2 : DS) : putE (putE (TwoE g r s t) 1 (some ⟨false, g, s2⟩)) 2 (some ⟨true, r, t2⟩) = TwoE g r s2 t2 := by
 funext k
 simp only [TwoE, putE, noE]
 by_cases h2 : k = 2
 ·simp [h2]
 ·by_cases h1 : k = 1
  ·simp [h1]
  ·simp [h1, h2]
theorem twoE_move (g g2 r : Nat) (s t s2 s3 : DS) : putE (putE (putE (putE (TwoE g r s t) 3 (some ⟨false, g2, s2⟩)) 1 (some ⟨false, g, s3⟩)) 3 none) 1 (some ⟨false, g2, s2⟩) = TwoE g2 r s2 t := by
 funext k
 simp only [TwoE, putE, noE]
 by_cases h1 : k = 1
 ·subst h1; rfl
 ·by_cases h2 : k = 2
  ·subst h2; rfl
  ·by_cases h3 : k = 3
   ·subst h3; rfl
   ·simp [h1, h2, h3]
theorem slb_nil (w : World) (B : Nat) : Slb w B (.slice none 0 0) [] := ⟨none, 0, rfl, Nat.le_refl _, by unfold maxLen; omega, fun h => absurd h (by simp)⟩
def opRow (y : OpV) (A1 A2 : Option Addr) (c1 c2 : Nat) : List Value := opC y.d y.i y.n y.x (.slice A1 y.b.length c1) (.slice A2 y.p.length c2)
/-- an operation of the script: its values at the law's entry and now -/
theorem op_now {w W : World} {B q o : Nat} {y : OpV} (h : OpAt w B q o y) (b : Below B w W) (hq : q < B) : y.n ≤ 9223372036854775807 ∧ ∃ A1 c1 A2 c2, W.rangeAt q o (opRow y A1 A2 c1 c2) ∧ Sl w B (.slice A1 y.b.length c1) y.b ∧ Slb w B (.slice A2 y.p.length c2) y.p := by
 obtain ⟨h0, vb, vp, h1, h2, h3⟩ := h
 obtain ⟨A1, c1, rfl, _, _⟩ := h2.form
 obtain ⟨A2, c2, rfl, _, _⟩ : ∃ A cp, vp = .slice A y.p.length cp ∧ y.p.length ≤ cp ∧ cp ≤ maxLen := by obtain ⟨A, cp, h1, h2, h3, _⟩ := h3; exact ⟨A, cp, h1, h2, h3⟩
 exact ⟨h0, A1, c1, A2, c2, fun j v hv => (b.cell (p := ⟨q, o + j, none⟩) hq).trans (h1 j v hv), h2, h3⟩
set_option maxHeartbeats 4000000 in
theorem does_law (n : Int) (v : Value) (l : List OpV) (w : World) (hl : Ops w w.heap.size v l) : Calls Try.prog 3 #[.int .i64 n, v] w (TrueIs w) := by
 unfold TrueIs
 obtain ⟨A, cv, rfl, hlc, hcm⟩ := hl.form
 have HO := Shh.mk hl
 have HNB : Shh (l.length ≤ 9223372036854775807) := ⟨by unfold maxLen at hcm; omega⟩
 obtain ⟨nl, hnl⟩ : ∃ nl, nl = l.length := ⟨_, rfl⟩
 have HN := Shh.mk hnl
 rw [← hnl]
 clear hl hlc hcm hnl
 by_cases hbad : n < 8 ∨ 2048 < n
 ·have H1 := Shh.mk (New_any (fun _ => 9) 1 n w)
  have H2 : Shh (∀ W, Calls Try.prog 11 #[.int .i64 n] W (RmkIs 2 W (decide (n < 8 ∨ 2048 < n)) (newS (secs (List.replicate (256 * n.toNat) 0) n.toNat)))) := ⟨fun W => rNew_any 2 (by decide) n W⟩
  rw [decide_eq_true hbad] at H1 H2
  unfold MkIs at H1
  unfold RmkIs at H2
  simp only [↓reduceIte] at H1 H2
  clear hbad
  go_enter Try.func3, Try.ntmps3
  go_wp2_with (go_at_call 10; refine (H1.out).mono ?_)
  rintro e w1 ⟨rfl, b1⟩
  have HB1 := Shh.mk b1
  clear b1 H1
  go_wp2_with (go_at_call 11; refine (H2.out _).mono ?_)
  rintro e w2 ⟨rfl, b2⟩
  have HB2 := Shh.mk (Below.chain HB1.out b2)
  clear b2 H2 HB1
  go_wp2_with (go_at_call 12; refine (live_any _).mono ?_)
  unfold TrueIs
  rintro e w3 ⟨rfl, b3⟩
  have F := Shh.mk (Below.chain HB2.out b3)
  clear b3 HB2
  go_wp2
  go_ret
  exact ⟨rfl, F.out⟩
 ·obtain ⟨m, rfl⟩ : ∃ m : Nat, n = (m : Int) := ⟨n.toNat, by omega⟩
  have h8 : 8 ≤ m := by omega
  have hm : m ≤ 2048 := by omega
  have H1 := Shh.mk (sys_New (Sys.start w) (c := 1) rfl (by decide) (by decide) m h8 hm)
  obtain ⟨s0, hs0⟩ : ∃ s0, s0 = newS (secs (List.replicate (256 * m) 0) m) := ⟨_, rfl⟩
  have H2 : Shh (∀ W E, Sys w W E → E 2 = none → Calls Try.prog 11 #[.int .i64 (m : Int)] W (SysRNew w W E 2 s0)) := ⟨fun W E h hx => by rw [hs0]; exact sys_rNew h hx (by decide) (by decide) m h8 hm⟩
  have HW0 : Shh (s0.wait.length ≤ 0) := ⟨by rw [hs0]; exact Nat.le_refl _⟩
  rw [← hs0] at H1
  clear hs0 h8 hbad
  go_enter Try.func3, Try.ntmps3
  go_wp2_with (go_at_call 10; refine (H1.out).mono ?_)
  unfold SysNew
  rintro e w1 ⟨g, rfl, h1, _, _⟩
  have HS1 := Shh.mk h1
  clear h1 H1
  go_wp2_with (go_at_call 11; refine (H2.out _ _ HS1.out rfl).mono ?_)
  unfold SysRNew
  rintro e w2 ⟨r, rfl, h2, _⟩
  have HS2 : Shh (Sys w w2 (TwoE g r s0 s0)) := ⟨h2⟩
  clear h2 H2 HS1
  go_wp2_with (go_at_call 12; refine (live_any _).mono ?_)
  unfold TrueIs
  rintro e w3 ⟨rfl, b3⟩
  have HS3 := Shh.mk (HS2.out.go b3)
  have HM3 := Shh.mk (same_any HS3.out (twoE_1 _ _ _ _) (twoE_2 _ _ _ _))
  clear b3 HS2
  by_cases h64 : 64 < m
  ·have h64' : (64 : Int) < (m : Int) := by omega
   go_wp2_with (go_at_call 14; refine (HM3.out).mono ?_)
   unfold TrueIs
   rintro e w4 ⟨rfl, b4⟩
   have F := Shh.mk (Below.chain HS3.out.bel b4)
   clear b4 HS3 HM3
   go_wp2
   go_ret
   exact ⟨rfl, F.out⟩
  ·have h64' : ¬ (64 : Int) < (m : Int) := by omega
   have HFA : Shh (Calls Try.prog 13 #[.slice A nl cv] w3 (FewOIs w3 l)) := ⟨by rw [HN.out]; exact few_any w.heap.size _ l w3 (HO.out.below HS3.out.bel) HS3.out.bel.size⟩
   go_wp2_with (go_at_call 13; refine (HFA.out).mono ?_)
   unfold FewOIs
   rintro e w4 ⟨rfl, b4⟩
   have HS4 := Shh.mk (HS3.out.go b4)
   have HM4 := Shh.mk (same_any HS4.out (twoE_1 _ _ _ _) (twoE_2 _ _ _ _))
   clear b4 HS3 HM3 HFA
   cases hfw : fewO l with
   | false =>
    go_wp2_with (go_at_call 14; refine (HM4.out).mono ?_)
    unfold TrueIs
    rintro e w5 ⟨rfl, b5⟩
    have F := Shh.mk (Below.chain HS4.out.bel b5)
    clear b5 HS4 HM4
    go_wp2
    go_ret
    exact ⟨rfl, F.out⟩
   | true =>
    have HFW := Shh.mk (fewO_iff.1 hfw)
    have HNL : Shh (nl ≤ 200) := ⟨by rw [HN.out]; exact HFW.out.2⟩
    clear hfw HM4 hm h64
    go_wp2
    clear h64'
    go_loopw [5, 56] (fun dv j wr => ∃ (k g : Nat) (s1 : DS), k ≤ nl ∧ j = .int .i64 (k : Int) ∧ dv = .pointer (some ⟨g, 0, none⟩) ∧ Shh (Sys w wr (TwoE g r s1 s1) ∧ s1.wait.length ≤ k)) (fun _ j _ => nl - (intOf j).toNat)
    case atStart => exact ⟨0, g, s0, Nat.zero_le _, rfl, rfl, HS4.out, HW0.out⟩
    case round =>
     clear HS4 HW0
     obtain ⟨k, g, s1, hk, rfl, rfl, H⟩ := hrel
     by_cases hlt : k < nl
     ·have hlt2 : (k : Int) < (nl : Int) := by omega
      have hz : (0 : Int) ≤ (k : Int) := by omega
      have hkl : k < l.length := by rw [← HN.out]; exact hlt
      have HK : Shh (k < nl ∧ k < l.length) := ⟨hlt, hkl⟩
      obtain ⟨q, off, rfl, hq, hop⟩ := HO.out.at_ (by omega)
      have hb := H.out.1.bel
      have hol := hop k hkl
      obtain ⟨y, hy⟩ : ∃ y, y = l[k] := ⟨_, rfl⟩
      have hfy : y.b.length ≤ 1000 := by rw [hy]; exact (HFW.out.1 _ (List.getElem_mem hkl)).1
      rw [← hy] at hol
      obtain ⟨yn, A1, c1, A2, c2, y1, y2, y3⟩ := op_now hol hb hq
      have HY := Shh.mk (And.intro yn (And.intro y2 (And.intro y3 hfy)))
      have hRZ : Row (w := wr.alloc (.cells #[.int .i64 0, .int .i64 0, .int .i64 0, .int .u8 0, .slice none 0 0, .slice none 0 0] 36)) (g := wr.heap.size) (T := 36) (cs := opZ) := Row.new_ rfl rfl
      clear y2 y3 hop hol hb yn hfy hy hkl hlt
      go_wp2_with (first | refine wpList_load_mid rfl 36 (.tmp 58) rfl q (off + k * 6) (by go_num) (opRow y A1 A2 c1 c2) _ y1 Try.underlying36 rfl info_op6 ?_ | refine wpList_store_any rfl 36 (.tmp 10) (.tmp 59) rfl wr.heap.size rfl (opRow y A1 A2 c1 c2) rfl 36 _ hRZ info_op6 rfl opC_one ?_)
      intro Z hr bt hz2
      have bZ : Below wr.heap.size wr Z := (Below.alloc (Below.refl _ _) (Nat.le_refl _) _).trans (bt.under (by omega) (Nat.le_refl _))
      have hqZ : SysQ w Z (TwoE g r s1 s1) (fun k => k = wr.heap.size) := (H.out.1.q.new bZ).less fun k hk => .inr ⟨by omega, by have := hr.lt; omega⟩
      have HRW := Shh.mk hr
      have hrg := hr.range
      clear y1 hRZ hz2 bt bZ hr
      obtain ⟨M, hM⟩ : ∃ M, M = wr.heap.size := ⟨_, rfl⟩
      rw [← hM] at hqZ HRW hrg ⊢
      have HLW : Shh (s1.wait.length ≤ k ∧ k < 200) := ⟨H.out.2, by have := HK.out.1; have := HNL.out; omega⟩
      have HD := Shh.mk (does_any hqZ (twoE_1 _ _ _ _) (twoE_2 _ _ _ _) (by decide) (by have := HLW.out; omega) (by have := HLW.out; omega) y _ _ HY.out.1 HY.out.2.1 HY.out.2.2.1 HY.out.2.2.2)
      clear hqZ H hM
      go_wp2_with (first | refine wpList_load_mid rfl 36 (.tmp 10) rfl M 0 rfl (opRow y A1 A2 c1 c2) _ hrg Try.underlying36 rfl info_op6 ?_ | (go_at_call 15; refine (HD.out).mono ?_))
      unfold DoesIs
      rintro e w5 ⟨b, rfl, hbt, q5, k5⟩
      have hb1 := hbt rfl
      subst hb1
      rw [twoE_put] at q5
      have hr5 : Row w5 M _ _ := (k5 M rfl).trans HRW.out
      obtain ⟨s2, hs2⟩ : ∃ s2, s2 = stS s1 y := ⟨_, rfl⟩
      rw [← hs2] at q5
      have HW2 : Shh (s2.wait.length ≤ k + 1) := ⟨by rw [hs2]; have := stS_wait s1 y; have := HLW.out; omega⟩
      have HS5 := Shh.mk (And.intro q5.sys hr5)
      have HM5 := Shh.mk (same_any HS5.out.1 (twoE_1 _ _ _ _) (twoE_2 _ _ _ _))
      clear hrg hbt q5 k5 hr5 HD HRW hs2
      go_wp2_with (go_at_call 14; refine (HM5.out).mono ?_)
      unfold TrueIs
      rintro e w6 ⟨rfl, b6⟩
      have HS6 := Shh.mk (HS5.out.1.go b6)
      have c0 : w6.cell? ⟨M, 0, none⟩ = some (.int .i64 y.d) := (HS5.out.2.go b6).cell 0
      clear b6 HS5 HM5
      have HKB : Shh (k ≤ 1000000000 ∧ k < nl) := ⟨by have := HLW.out; omega, HK.out.1⟩
      by_cases hd6 : y.d = 6
      ·rw [hd6] at c0
       clear hd6
       have HCL := Shh.mk (sys_Clone HS6.out (twoE_1 _ _ _ _) (by have := HW2.out; have := HLW.out; omega) (c2 := 3) rfl (by decide) (by decide))
       go_wp2_with (go_at_call 16; refine (HCL.out).mono ?_)
       unfold SysNew
       rintro e w7 ⟨g2, rfl, h7, _, _⟩
       have HCR := Shh.mk (sys_Crash h7 (c := 1) (g := g) (s := s2) rfl (by have := HW2.out; have := HLW.out; omega) (.slice none 0 0) [] (slb_nil _ _))
       clear h7 HCL c0 HS6
       go_wp2_with (go_at_call 17; refine (HCR.out).mono ?_)
       unfold SysIs
       rintro e w8 ⟨rfl, h8⟩
       have h9 := h8.move (a := 3) (c := 1) (x := ⟨false, g2, s2⟩) rfl (by decide) (by decide)
       rw [twoE_move] at h9
       have HS9 := Shh.mk h9
       have HM9 := Shh.mk (same_any HS9.out (twoE_1 _ _ _ _) (twoE_2 _ _ _ _))
       clear h8 h9 HCR
       go_wp2_with (go_at_call 14; refine (HM9.out).mono ?_)
       unfold TrueIs
       rintro e w10 ⟨rfl, b10⟩
       have HI := Shh.mk (And.intro (HS9.out.go b10) HW2.out)
       clear b10 HS9 HM9
       go_wp2_with (refine wl_at 87 rfl (.int .i64 ((k + 1 : Nat) : Int)) rfl (add_i1 HKB.out.1 rfl rfl) ?_)
       go_roundw
       case rel => exact ⟨k + 1, g2, s2, HKB.out.2, by go_num, rfl, HI⟩
       case measure => have := HKB.out.2; simp [intOf]; omega
      ·have HD6 := Shh.mk hd6
       clear hd6
       have HI := Shh.mk (And.intro HS6.out HW2.out)
       clear HS6
       go_wp2_with (first | refine wl_at 73 rfl (.bool false) rfl (eqc_no HD6.out rfl rfl) ?_ | refine wl_at 87 rfl (.int .i64 ((k + 1 : Nat) : Int)) rfl (add_i1 HKB.out.1 rfl rfl) ?_)
       go_roundw
       case rel => exact ⟨k + 1, g, s2, HKB.out.2, by go_num, rfl, HI⟩
       case measure => have := HKB.out.2; simp [intOf]; omega
     ·obtain rfl : k = nl := by omega
      have hlt2 : ¬ (k : Int) < (k : Int) := by omega
      have HIM := Shh.mk (sys_Image H.out.1 (twoE_1 _ _ _ _))
      have HS := Shh.mk H.out.1
      clear H hlt hk
      go_wp2_with (go_at_call 19; refine (HIM.out).mono ?_)
      unfold OwnIs Gives
      rintro e w5 ⟨v5, rfl, k5, b5⟩
      have HS5 := Shh.mk (And.intro (HS.out.go b5) (Sl.of_own k5))
      have HIR := Shh.mk (sys_rImage HS5.out.1 (twoE_2 _ _ _ _))
      clear k5 b5 HS HIM
      go_wp2_with (go_at_call 20; refine (HIR.out).mono ?_)
      unfold OwnIs Gives
      rintro e w6 ⟨v6, rfl, k6, b6⟩
      have EQ := Shh.mk (refEqual_any _ _ v5 v6 _ _ w6 (HS5.out.2.below b6) (Sl.of_own k6))
      rw [show (s1.good.flatten == s1.good.flatten) = true from by simp] at EQ
      have F := Shh.mk (Below.chain HS5.out.1.bel b6)
      clear k6 b6 HS5 HIR
      go_wp2_with (go_at_call 18; refine (EQ.out).mono ?_)
      rintro e w7 ⟨rfl, rfl⟩
      clear EQ
      go_wp2
      go_ret
      exact ⟨rfl, F.out⟩
end Go.Proofs.Ytpajdmbajopofaa
