/-
 WALK: worn.
-/
import Derived.Test.YtpajdmbajopofaaDm5
namespace Go.Proofs.Ytpajdmbajopofaa
open Go.RowKit
set_option maxRecDepth 100000
/-- a worn disk, or none -/
def WornIs (w : World) (e : Ending) (w' : World) : Prop := (e = .returned (.pointer none) ∧ Below w.heap.size w w') ∨ ∃ g s, e = .returned (.pointer (some ⟨g, 0, none⟩)) ∧ Sys w w' (OneE g s) ∧ s.on = true ∧ s.fuse = -1 ∧ s.wait.length ≤ 200
theorem twoE_one (g r : Nat) (s t s2 : DS) : putE (putE (TwoE g r s t) 2 none) 1 (some ⟨false, g, s2⟩) = OneE g s2 := by
 funext k
 simp only [TwoE, putE, noE, OneE]
 by_cases h2 : k = 2
 ·simp [h2]
 ·by_cases h1 : k = 1
  ·simp [h1]
  ·simp [h1, h2]
set_option maxHeartbeats 4000000 in
theorem worn_any (n : Int) (v : Value) (l : List OpV) (w : World) (hl : Ops w w.heap.size v l) : Calls Try.prog 26 #[.int .i64 n, v] w (WornIs w) := by
 unfold WornIs
 obtain ⟨A, cv, rfl, hlc, hcm⟩ := hl.form
 have HO := Shh.mk hl
 have HNB : Shh (l.length ≤ 9223372036854775807) := ⟨by unfold maxLen at hcm; omega⟩
 obtain ⟨nl, hnl⟩ : ∃ nl, nl = l.length := ⟨_, rfl⟩
 have HN := Shh.mk hnl
 rw [← hnl]
 clear hl hlc hcm hnl
 by_cases hbad : n < 8 ∨ 2048 < n
 ·have H1 := Shh.mk (New_any (fun _ => 9) 1 n w)
  have H2 : Shh (∀ W, Calls Try.prog 11 #[.int .i64 n] W (RmkIs 2 W (decide (n < 8 ∨ 2048 < n)) (newS (secs (List.replicate (256 * n.toNat) 0) n.toNat)))) := ⟨fun W => rNew_any 2 (by decide) n W⟩
  rw [decide_eq_true hbad] at H1 H2
  unfold MkIs at H1
  unfold RmkIs at H2
  simp only [↓reduceIte] at H1 H2
  clear hbad
  go_enter Try.func26, Try.ntmps26
  go_wp2_with (go_at_call 10; refine (H1.out).mono ?_)
  rintro e w1 ⟨rfl, b1⟩
  have HB1 := Shh.mk b1
  clear b1 H1
  go_wp2_with (go_at_call 11; refine (H2.out _).mono ?_)
  rintro e w2 ⟨rfl, b2⟩
  have F := Shh.mk (Below.chain HB1.out b2)
  clear b2 H2 HB1
  go_wp2
  go_ret
  exact .inl ⟨rfl, F.out⟩
 ·obtain ⟨m, rfl⟩ : ∃ m : Nat, n = (m : Int) := ⟨n.toNat, by omega⟩
  have h8 : 8 ≤ m := by omega
  have hm : m ≤ 2048 := by omega
  have H1 := Shh.mk (sys_New (Sys.start w) (c := 1) rfl (by decide) (by decide) m h8 hm)
  obtain ⟨s0, hs0⟩ : ∃ s0, s0 = newS (secs (List.replicate (256 * m) 0) m) := ⟨_, rfl⟩
  have H2 : Shh (∀ W E, Sys w W E → E 2 = none → Calls Try.prog 11 #[.int .i64 (m : Int)] W (SysRNew w W E 2 s0)) := ⟨fun W E h hx => by rw [hs0]; exact sys_rNew h hx (by decide) (by decide) m h8 hm⟩
  have HW0 : Shh (s0.wait.length ≤ 0) := ⟨by rw [hs0]; exact Nat.le_refl _⟩
  rw [← hs0] at H1
  clear hs0 h8 hbad
  go_enter Try.func26, Try.ntmps26
  go_wp2_with (go_at_call 10; refine (H1.out).mono ?_)
  unfold SysNew
  rintro e w1 ⟨g, rfl, h1, _, _⟩
  have HS1 := Shh.mk h1
  clear h1 H1
  go_wp2_with (go_at_call 11; refine (H2.out _ _ HS1.out rfl).mono ?_)
  unfold SysRNew
  rintro e w3 ⟨r, rfl, h2, _⟩
  have HS3 : Shh (Sys w w3 (TwoE g r s0 s0)) := ⟨h2⟩
  clear h2 H2 HS1
  by_cases h64 : 64 < m
  ·have h64' : (64 : Int) < (m : Int) := by omega
   have F := Shh.mk HS3.out.bel
   go_wp2
   go_ret
   exact .inl ⟨rfl, F.out⟩
  ·have h64' : ¬ (64 : Int) < (m : Int) := by omega
   have HFA : Shh (Calls Try.prog 13 #[.slice A nl cv] w3 (FewOIs w3 l)) := ⟨by rw [HN.out]; exact few_any w.heap.size _ l w3 (HO.out.below HS3.out.bel) HS3.out.bel.size⟩
   go_wp2_with (go_at_call 13; refine (HFA.out).mono ?_)
   unfold FewOIs
   rintro e w4 ⟨rfl, b4⟩
   have HS4 := Shh.mk (HS3.out.go b4)
   clear b4 HS3 HFA
   cases hfw : fewO l with
   | false =>
    have F := Shh.mk HS4.out.bel
    go_wp2
    go_ret
    exact .inl ⟨rfl, F.out⟩
   | true =>
    have HFW := Shh.mk (fewO_iff.1 hfw)
    have HNL : Shh (nl ≤ 200) := ⟨by rw [HN.out]; exact HFW.out.2⟩
    clear hfw hm h64
    go_wp2
    clear h64'
    go_loopw [38] (fun j wr => ∃ (k : Nat) (s1 t1 : DS), k ≤ nl ∧ j = .int .i64 (k : Int) ∧ Shh (Sys w wr (TwoE g r s1 t1) ∧ s1.wait.length ≤ k ∧ t1.wait.length ≤ k)) (fun j _ => nl - (intOf j).toNat)
    case atStart => exact ⟨0, s0, s0, Nat.zero_le _, rfl, HS4.out, HW0.out, HW0.out⟩
    case round =>
     clear HS4 HW0
     obtain ⟨k, s1, t1, hk, rfl, H⟩ := hrel
     by_cases hlt : k < nl
     ·have hlt2 : (k : Int) < (nl : Int) := by omega
      have hz : (0 : Int) ≤ (k : Int) := by omega
      have hkl : k < l.length := by rw [← HN.out]; exact hlt
      have HK : Shh (k < nl ∧ k < l.length) := ⟨hlt, hkl⟩
      obtain ⟨q, off, rfl, hq, hop⟩ := HO.out.at_ (by omega)
      have hb := H.out.1.bel
      have hol := hop k hkl
      obtain ⟨y, hy⟩ : ∃ y, y = l[k] := ⟨_, rfl⟩
      have hfy : y.b.length ≤ 1000 := by rw [hy]; exact (HFW.out.1 _ (List.getElem_mem hkl)).1
      rw [← hy] at hol
      obtain ⟨yn, A1, c1, A2, c2, y1, y2, y3⟩ := op_now hol hb hq
      have HY := Shh.mk (And.intro yn (And.intro y2 (And.intro y3 hfy)))
      have hRZ : Row (w := wr.alloc (.cells #[.int .i64 0, .int .i64 0, .int .i64 0, .int .u8 0, .slice none 0 0, .slice none 0 0] 36)) (g := wr.heap.size) (T := 36) (cs := opZ) := Row.new_ rfl rfl
      clear y2 y3 hop hol hb yn hfy hy hkl hlt
      go_wp2_with (first | refine wpList_load_mid rfl 36 (.tmp 40) rfl q (off + k * 6) (by go_num) (opRow y A1 A2 c1 c2) _ y1 Try.underlying36 rfl info_op6 ?_ | refine wpList_store_any rfl 36 (.tmp 10) (.tmp 41) rfl wr.heap.size rfl (opRow y A1 A2 c1 c2) rfl 36 _ hRZ info_op6 rfl opC_one ?_)
      intro Z hr bt hz2
      have bZ : Below wr.heap.size wr Z := (Below.alloc (Below.refl _ _) (Nat.le_refl _) _).trans (bt.under (by omega) (Nat.le_refl _))
      have hqZ : SysQ w Z (TwoE g r s1 t1) (fun k => k = wr.heap.size) := (H.out.1.q.new bZ).less fun k hk => .inr ⟨by omega, by have := hr.lt; omega⟩
      have HRW := Shh.mk hr
      have hrg := hr.range
      clear y1 hRZ hz2 bt bZ hr
      obtain ⟨M, hM⟩ : ∃ M, M = wr.heap.size := ⟨_, rfl⟩
      rw [← hM] at hqZ HRW hrg ⊢
      have HLW : Shh (s1.wait.length ≤ k ∧ t1.wait.length ≤ k ∧ k < 200) := ⟨H.out.2.1, H.out.2.2, by have := HK.out.1; have := HNL.out; omega⟩
      have HD := Shh.mk (does_any hqZ (twoE_1 _ _ _ _) (twoE_2 _ _ _ _) (by decide) (by have := HLW.out; omega) (by have := HLW.out; omega) y _ _ HY.out.1 HY.out.2.1 HY.out.2.2.1 HY.out.2.2.2)
      clear hqZ H hM
      go_wp2_with (first | refine wpList_load_mid rfl 36 (.tmp 10) rfl M 0 rfl (opRow y A1 A2 c1 c2) _ hrg Try.underlying36 rfl info_op6 ?_ | (go_at_call 15; refine (HD.out).mono ?_))
      unfold DoesIs
      rintro e w5 ⟨b, rfl, _, q5, _⟩
      rw [twoE_put] at q5
      have HI : Shh (Sys w w5 (TwoE g r (stS s1 y) (stS t1 y)) ∧ (stS s1 y).wait.length ≤ k + 1 ∧ (stS t1 y).wait.length ≤ k + 1) := ⟨q5.sys, by have := stS_wait s1 y; have := HLW.out; omega, by have := stS_wait t1 y; have := HLW.out; omega⟩
      have HKB : Shh (k ≤ 1000000000 ∧ k < nl) := ⟨by have := HLW.out; omega, HK.out.1⟩
      clear q5 hrg HD HRW
      go_wp2_with (refine wl_at 46 rfl (.int .i64 ((k + 1 : Nat) : Int)) rfl (add_i1 HKB.out.1 rfl rfl) ?_)
      go_roundw
      case rel => exact ⟨k + 1, _, _, HKB.out.2, by go_num, HI⟩
      case measure => have := HKB.out.2; simp [intOf]; omega
     ·obtain rfl : k = nl := by omega
      have hlt2 : ¬ (k : Int) < (k : Int) := by omega
      have HON := Shh.mk (sys_On H.out.1 (twoE_1 _ _ _ _))
      have HS := Shh.mk H.out
      have HW2 : Shh (s1.wait.length ≤ 200) := ⟨by have := HS.out.2.1; have := HNL.out; omega⟩
      clear H hlt hk
      go_wp2_with (go_at_call 32; refine (HON.out).mono ?_)
      unfold AnsIs
      rintro e w5 ⟨rfl, rfl⟩
      clear HON
      cases hon : s1.on with
      | true =>
       have HCA := Shh.mk (sys_Calm (HS.out.1.drop 2) (c := 1) (g := g) (s := s1) rfl)
       rw [twoE_one] at HCA
       go_wp2_with (go_at_call 34; refine (HCA.out).mono ?_)
       unfold SysIs
       rintro e w6 ⟨rfl, h6⟩
       have F : Shh (Sys w w6 (OneE g (caS s1)) ∧ (caS s1).on = true ∧ (caS s1).fuse = -1 ∧ (caS s1).wait.length ≤ 200) := ⟨h6, hon, rfl, HW2.out⟩
       clear h6 HCA HS hon
       go_wp2
       go_ret
       exact .inr ⟨_, _, rfl, F.out⟩
      | false =>
       have HCR := Shh.mk (sys_Crash (HS.out.1.drop 2) (c := 1) (g := g) (s := s1) rfl (by have := HW2.out; omega) (.slice none 0 0) [] (slb_nil _ _))
       rw [twoE_one] at HCR
       go_wp2_with (go_at_call 17; refine (HCR.out).mono ?_)
       unfold SysIs
       rintro e w6 ⟨rfl, h6⟩
       have HCA := Shh.mk (sys_Calm h6 (oneE_1 _ _))
       rw [oneE_put] at HCA
       clear h6 HCR HS hon
       go_wp2_with (go_at_call 34; refine (HCA.out).mono ?_)
       unfold SysIs
       rintro e w7 ⟨rfl, h7⟩
       have F : Shh (Sys w w7 (OneE g (caS (crS s1 []))) ∧ (caS (crS s1 [])).on = true ∧ (caS (crS s1 [])).fuse = -1 ∧ (caS (crS s1 [])).wait.length ≤ 200) := ⟨h7, rfl, rfl, Nat.zero_le _⟩
       clear h7 HCA
       go_wp2
       go_ret
       exact .inr ⟨_, _, rfl, F.out⟩
end Go.Proofs.Ytpajdmbajopofaa
