/-
 WALK: the law DiskDouble.
-/
import Derived.Test.YtpajdmbajopofaaDm6
namespace Go.Proofs.Ytpajdmbajopofaa
open Go.RowKit
set_option maxRecDepth 100000
theorem SysQ.radd {w W Z : World} {E : Nat → Option Ent} {Q : Nat → Prop} {c g : Nat} {s : DS} {col2 : Nat → Nat} (h : SysQ w W E Q) (hx : E c = none) (hc0 : c ≠ 0) (hc9 : c ≠ 9) (hb : Below W.heap.size W Z) (h2 : ∀ j, j < W.heap.size → col2 j = c + 1) (h3 : RAt col2 c Z g s) : SysQ w Z (putE E c (some ⟨true, g, s⟩)) Q := by
 obtain ⟨h1, h0, col, k2, hq, k3, k4, k5⟩ := h
 have hs := h1.size
 let col3 : Nat → Nat := fun k => if k < W.heap.size then col k else col2 k
 have hl : ∀ k, k < W.heap.size → col3 k = col k := fun k hk => if_pos hk
 have hg : ∀ k, ¬ k < W.heap.size → col3 k = col2 k := fun k hk => if_neg hk
 have h4 : RAt col3 c Z g s := h3.tint (fun k hk => by
   by_cases hkl : k < W.heap.size
   ·rw [h2 k hkl] at hk; omega
   ·rw [hg k hkl]; exact hk) (fun k hk => by
   by_cases hkl : k < W.heap.size
   ·rw [h2 k hkl] at hk; omega
   ·rw [hg k hkl]; exact hk)
 refine ⟨Below.chain h1 hb, fun k hk => Nat.lt_of_lt_of_le (h0 k hk) hb.size, col3, fun k hk => by rw [hl k (by omega)]; exact k2 k hk, fun k hk => by rw [hl k (h0 k hk)]; exact hq k hk, ?_, ?_, fun d z hz => ?_⟩
 ·rw [putE_ne E _ (Ne.symm hc0)]; exact k3
 ·rw [putE_ne E _ (Ne.symm hc9)]; exact k4
 ·by_cases hd' : d = c
  ·subst hd'
   rw [putE_same] at hz
   cases hz
   exact h4
  ·rw [putE_ne E _ hd'] at hz
   exact (k5 d z hz).ext ((Ext.of_below col c hb).re hl) hd' hc0
def QRNew (w W : World) (E : Nat → Option Ent) (Q : Nat → Prop) (c : Nat) (s : DS) (e : Ending) (w' : World) : Prop := ∃ g, e = .returned (.tuple #[.pointer (some ⟨g, 0, none⟩), .int .i64 0]) ∧ SysQ w w' (putE E c (some ⟨true, g, s⟩)) Q ∧ Below W.heap.size W w'
theorem q_rNew {w W : World} {E : Nat → Option Ent} {Q : Nat → Prop} {c : Nat} (h : SysQ w W E Q) (hx : E c = none) (hc0 : c ≠ 0) (hc9 : c ≠ 9) (n : Nat) (h8 : 8 ≤ n) (hm : n ≤ 2048) : Calls Try.prog 11 #[.int .i64 (n : Int)] W (QRNew w W E Q c (newS (secs (List.replicate (256 * n) 0) n))) := by
 have hn := rNew_any c hc0 (n : Int) W
 unfold RmkIs at hn
 rw [show decide ((n : Int) < 8 ∨ 2048 < (n : Int)) = false from by simp; omega] at hn
 simp only [Bool.false_eq_true, ↓reduceIte, Int.toNat_natCast] at hn
 refine hn.mono ?_
 rintro e w' ⟨g, he, hb, col2, h2, h3⟩
 exact ⟨g, he, h.radd hx hc0 hc9 hb h2 h3, hb⟩
theorem own_bel {w w' : World} {base sz n : Nat} {T : TypeId} {v : Value} {xs : List Value} (h : w.ownsRow base T sz v n xs) (b : Below w.heap.size w w') : w'.ownsRow base T sz v n xs := own_keep h fun k hk => b.block k (h.lt k hk).2
def runS (s : DS) (l : List OpV) : DS := l.foldl stS s
theorem runS_take (s : DS) (l : List OpV) (k : Nat) (h : k < l.length) : runS s (l.take (k + 1)) = stS (runS s (l.take k)) l[k] := by unfold runS; rw [take_snoc l k h, List.foldl_append]; rfl
theorem runS_wait (s : DS) (l : List OpV) : (runS s l).wait.length ≤ s.wait.length + l.length := by
 induction l generalizing s with
 | nil => exact Nat.le_refl _
 | cons y l ih =>
  have := ih (stS s y)
  have := stS_wait s y
  show (runS (stS s y) l).wait.length ≤ _
  rw [List.length_cons]
  omega
/-- a disk, two clones, one of the document -/
def FourE (g g3 g4 r : Nat) (s t z u : DS) : Nat → Option Ent := putE (putE (putE (OneE g s) 3 (some ⟨false, g3, t⟩)) 4 (some ⟨false, g4, z⟩)) 2 (some ⟨true, r, u⟩)
theorem fourE_1 (g g3 g4 r : Nat) (s t z u : DS) : FourE g g3 g4 r s t z u 1 = some ⟨false, g, s⟩ := rfl
theorem fourE_2 (g g3 g4 r : Nat) (s t z u : DS) : FourE g g3 g4 r s t z u 2 = some ⟨true, r, u⟩ := rfl
theorem fourE_3 (g g3 g4 r : Nat) (s t z u : DS) : FourE g g3 g4 r s t z u 3 = some ⟨false, g3, t⟩ := rfl
theorem fourE_4 (g g3 g4 r : Nat) (s t z u : DS) : FourE g g3 g4 r s t z u 4 = some ⟨false, g4, z⟩ := rfl
theorem fourE_p1 (g g3 g4 r : Nat) (s t z u s2 u2 : DS) : putE (putE (FourE g g3 g4 r s t z u) 1 (some ⟨false, g, s2⟩)) 2 (some ⟨true, r, u2⟩) = FourE g g3 g4 r s2 t z u2 := by
 funext k
 simp only [FourE, OneE, putE, noE]
 by_cases h2 : k = 2
 ·simp [h2]
 ·by_cases h1 : k = 1
  ·simp [h1]
  ·simp [h1, h2]
theorem fourE_p3 (g g3 g4 r : Nat) (s t z u t2 u2 : DS) : putE (putE (FourE g g3 g4 r s t z u) 3 (some ⟨false, g3, t2⟩)) 2 (some ⟨true, r, u2⟩) = FourE g g3 g4 r s t2 z u2 := by
 funext k
 simp only [FourE, OneE, putE, noE]
 by_cases h2 : k = 2
 ·simp [h2]
 ·by_cases h3 : k = 3
  ·simp [h3]
  ·simp [h3, h2]
set_option maxHeartbeats 4000000 in
theorem double_law (n : Int) (v1 v2 : Value) (l1 l : List OpV) (w : World) (hl1 : Ops w w.heap.size v1 l1) (hl : Ops w w.heap.size v2 l) : Calls Try.prog 8 #[.int .i64 n, v1, v2] w (TrueIs w) := by
 unfold TrueIs
 obtain ⟨A, cv, rfl, hlc, hcm⟩ := hl.form
 obtain ⟨A0, cv0, rfl, _, _⟩ := hl1.form
 have HO := Shh.mk hl
 have HNB : Shh (l.length ≤ 9223372036854775807) := ⟨by unfold maxLen at hcm; omega⟩
 have HWO := Shh.mk (worn_any n _ l1 w hl1)
 obtain ⟨nl, hnl⟩ : ∃ nl, nl = l.length := ⟨_, rfl⟩
 have HN := Shh.mk hnl
 rw [← hnl]
 obtain ⟨n0, hn0⟩ : ∃ n0, n0 = l1.length := ⟨_, rfl⟩
 rw [← hn0] at HWO ⊢
 clear hl hlc hcm hnl hl1 hn0
 go_enter Try.func8, Try.ntmps8
 go_wp2_with (go_at_call 26; refine (HWO.out).mono ?_)
 unfold WornIs
 rintro e w1 (⟨rfl, b1⟩ | ⟨g, s, rfl, h1, hon, hfu, hwl⟩)
 ·have HB1 := Shh.mk b1
  clear b1 HWO
  go_wp2_with (go_at_call 12; refine (live_any _).mono ?_)
  unfold TrueIs
  rintro e w2 ⟨rfl, b2⟩
  have HB2 := Shh.mk (Below.chain HB1.out b2)
  clear b2 HB1
  go_wp2_with (go_at_call 12; refine (live_any _).mono ?_)
  unfold TrueIs
  rintro e w3 ⟨rfl, b3⟩
  have F := Shh.mk (Below.chain HB2.out b3)
  clear b3 HB2
  go_wp2
  go_ret
  exact ⟨rfl, F.out⟩
 have HS1 := Shh.mk h1
 have HWN := Shh.mk (And.intro hon (And.intro hfu hwl))
 clear h1 hon hfu hwl HWO
 go_wp2_with (go_at_call 12; refine (live_any _).mono ?_)
 unfold TrueIs
 rintro e w2 ⟨rfl, b2⟩
 have HS2 := Shh.mk (HS1.out.go b2)
 clear b2 HS1
 have HFA : Shh (Calls Try.prog 13 #[.slice A nl cv] w2 (FewOIs w2 l)) := ⟨by rw [HN.out]; exact few_any w.heap.size _ l w2 (HO.out.below HS2.out.bel) HS2.out.bel.size⟩
 go_wp2_with (go_at_call 13; refine (HFA.out).mono ?_)
 unfold FewOIs
 rintro e w3 ⟨rfl, b3⟩
 have HS3 := Shh.mk (HS2.out.go b3)
 clear b3 HS2 HFA
 cases hfw : fewO l with
 | false =>
  go_wp2_with (go_at_call 12; refine (live_any _).mono ?_)
  unfold TrueIs
  rintro e w4 ⟨rfl, b4⟩
  have F := Shh.mk (Below.chain HS3.out.bel b4)
  clear b4 HS3
  go_wp2
  go_ret
  exact ⟨rfl, F.out⟩
 | true =>
  have HFW := Shh.mk (fewO_iff.1 hfw)
  have HNL : Shh (nl ≤ 200) := ⟨by rw [HN.out]; exact HFW.out.2⟩
  clear hfw
  have HC1 := Shh.mk (sys_Clone HS3.out (oneE_1 _ _) (by have := HWN.out; omega) (c2 := 3) rfl (by decide) (by decide))
  go_wp2_with (go_at_call 16; refine (HC1.out).mono ?_)
  unfold SysNew
  rintro e w4 ⟨g3, rfl, h4, _, _⟩
  have HC2 := Shh.mk (sys_Clone h4 (c := 1) (g := g) (s := s) rfl (by have := HWN.out; omega) (c2 := 4) rfl (by decide) (by decide))
  clear h4 HC1 HS3
  go_wp2_with (go_at_call 16; refine (HC2.out).mono ?_)
  unfold SysNew
  rintro e w5 ⟨g4, rfl, h5, _, _⟩
  have HS5 := Shh.mk h5
  have HIM := Shh.mk (sys_Image h5 (c := 4) (g := g4) (s := s) rfl)
  clear h5 HC2
  go_wp2_with (go_at_call 19; refine (HIM.out).mono ?_)
  unfold OwnIs Gives
  rintro e w6 ⟨v6, rfl, k6, b6⟩
  obtain ⟨Q, hQ⟩ : ∃ Q : Nat → Prop, Q = fun k => v6.ownBlock = some k := ⟨_, rfl⟩
  have hq6 : SysQ w w6 _ Q := (HS5.out.q.new b6).less fun k hk => by rw [hQ] at hk; exact .inr (k6.lt k hk)
  have k6b : w6.ownsRow w.heap.size 5 1 v6 s.good.flatten.length (Lib.byteCells s.good.flatten) := own_base k6 HS5.out.bel.size
  have HQ := Shh.mk hQ
  have HRN := Shh.mk (q_rNew hq6 (c := 2) rfl (by decide) (by decide) 8 (by decide) (by decide))
  have HK6 := Shh.mk k6b
  clear hq6 k6 k6b b6 HIM HS5 hQ
  go_wp2_with (go_at_call 11; refine (HRN.out).mono ?_)
  unfold QRNew
  rintro e w7 ⟨r, rfl, h7, b7⟩
  obtain ⟨u0, hu0⟩ : ∃ u0, u0 = newS (secs (List.replicate (256 * 8) 0) 8) := ⟨_, rfl⟩
  rw [← hu0] at h7
  have HW0 : Shh (u0.wait.length ≤ 0) := ⟨by rw [hu0]; exact Nat.le_refl _⟩
  have HI0 : Shh (SysQ w w7 (FourE g g3 g4 r (runS s (l.take 0)) s s u0) Q ∧ u0.wait.length ≤ 0 ∧ w7.ownsRow w.heap.size 5 1 v6 s.good.flatten.length (Lib.byteCells s.good.flatten)) := ⟨h7, HW0.out, own_bel HK6.out b7⟩
  clear h7 b7 HRN hu0 HW0 HK6
  go_wp2
  go_loopw [50] (fun j wr => ∃ (k : Nat) (u1 : DS), k ≤ nl ∧ j = .int .i64 (k : Int) ∧ Shh (SysQ w wr (FourE g g3 g4 r (runS s (l.take k)) s s u1) Q ∧ u1.wait.length ≤ k ∧ wr.ownsRow w.heap.size 5 1 v6 s.good.flatten.length (Lib.byteCells s.good.flatten))) (fun j _ => nl - (intOf j).toNat)
  case atStart => exact ⟨0, _, Nat.zero_le _, rfl, HI0⟩
  case round =>
   clear HI0
   obtain ⟨k, u1, hk, rfl, H⟩ := hrel
   by_cases hlt : k < nl
   ·have hlt2 : (k : Int) < (nl : Int) := by omega
    have hz : (0 : Int) ≤ (k : Int) := by omega
    have hkl : k < l.length := by rw [← HN.out]; exact hlt
    have HK : Shh (k < nl ∧ k < l.length) := ⟨hlt, hkl⟩
    obtain ⟨q, off, rfl, hq, hop⟩ := HO.out.at_ (by omega)
    have hb := H.out.1.1
    have hol := hop k hkl
    obtain ⟨y, hy⟩ : ∃ y, y = l[k] := ⟨_, rfl⟩
    have hfy : y.b.length ≤ 1000 := by rw [hy]; exact (HFW.out.1 _ (List.getElem_mem hkl)).1
    rw [← hy] at hol
    obtain ⟨yn, A1, c1, A2, c2, y1, y2, y3⟩ := op_now hol hb hq
    have HY := Shh.mk (And.intro yn (And.intro y2 (And.intro y3 hfy)))
    have hRZ : Row (w := wr.alloc (.cells #[.int .i64 0, .int .i64 0, .int .i64 0, .int .u8 0, .slice none 0 0, .slice none 0 0] 36)) (g := wr.heap.size) (T := 36) (cs := opZ) := Row.new_ rfl rfl
    have HYK : Shh (runS s (l.take (k + 1)) = stS (runS s (l.take k)) y) := ⟨by rw [hy]; exact runS_take s l k hkl⟩
    have HWL : Shh ((runS s (l.take k)).wait.length ≤ 400) := ⟨by have := runS_wait s (l.take k); have := HWN.out; have := HNL.out; have := List.length_take_le k l; omega⟩
    clear y2 y3 hop hol hb yn hfy hy hkl hlt
    go_wp2_with (first | refine wpList_load_mid rfl 36 (.tmp 52) rfl q (off + k * 6) (by go_num) (opRow y A1 A2 c1 c2) _ y1 Try.underlying36 rfl info_op6 ?_ | refine wpList_store_any rfl 36 (.tmp 14) (.tmp 53) rfl wr.heap.size rfl (opRow y A1 A2 c1 c2) rfl 36 _ hRZ info_op6 rfl opC_one ?_)
    intro Z hr bt hz2
    have bZ : Below wr.heap.size wr Z := (Below.alloc (Below.refl _ _) (Nat.le_refl _) _).trans (bt.under (by omega) (Nat.le_refl _))
    have hqZ := H.out.1.go bZ
    have HRW := Shh.mk hr
    have hrg := hr.range
    have HKZ := Shh.mk (own_bel H.out.2.2 bZ)
    clear y1 hRZ hz2 bt bZ hr
    obtain ⟨M, hM⟩ : ∃ M, M = wr.heap.size := ⟨_, rfl⟩
    rw [← hM] at HRW hrg ⊢
    have HLW : Shh (u1.wait.length ≤ k ∧ k < 200) := ⟨H.out.2.1, by have := HK.out.1; have := HNL.out; omega⟩
    have HD := Shh.mk (does_any hqZ (fourE_1 _ _ _ _ _ _ _ _) (fourE_2 _ _ _ _ _ _ _ _) (by decide) (by have := HWL.out; omega) (by have := HLW.out; have := HNL.out; omega) y _ _ HY.out.1 HY.out.2.1 HY.out.2.2.1 HY.out.2.2.2)
    clear hqZ H hM
    go_wp2_with (first | refine wpList_load_mid rfl 36 (.tmp 14) rfl M 0 rfl (opRow y A1 A2 c1 c2) _ hrg Try.underlying36 rfl info_op6 ?_ | (go_at_call 15; refine (HD.out).mono ?_))
    unfold DoesIs
    rintro e w8 ⟨b, rfl, _, q8, k8⟩
    rw [fourE_p1, ← HYK.out] at q8
    have HI : Shh (SysQ w w8 (FourE g g3 g4 r (runS s (l.take (k + 1))) s s (stS u1 y)) Q ∧ (stS u1 y).wait.length ≤ (k + 1) ∧ w8.ownsRow w.heap.size 5 1 v6 s.good.flatten.length (Lib.byteCells s.good.flatten)) := ⟨q8, by have := stS_wait u1 y; have := HLW.out; omega, own_keep HKZ.out fun k hk => k8 k (by rw [HQ.out]; exact hk)⟩
    have HKB : Shh (k ≤ 1000000000 ∧ k < nl) := ⟨by have := HLW.out; omega, HK.out.1⟩
    clear q8 k8 hrg HD HRW HKZ
    go_wp2_with (refine wl_at 58 rfl (.int .i64 ((k + 1 : Nat) : Int)) rfl (add_i1 HKB.out.1 rfl rfl) ?_)
    go_roundw
    case rel => exact ⟨k + 1, _, HKB.out.2, by go_num, HI⟩
    case measure => have := HKB.out.2; simp [intOf]; omega
   ·obtain rfl : nl = k := by omega
    have hlt2 : ¬ (nl : Int) < (nl : Int) := by omega
    have htk : l.take nl = l := by rw [HN.out, List.take_length]
    obtain ⟨sf, hsf⟩ : ∃ sf, sf = runS s l := ⟨_, rfl⟩
    have HSF := Shh.mk hsf
    have HI0 : Shh (SysQ w wr (FourE g g3 g4 r sf (runS s (l.take 0)) s u1) Q ∧ u1.wait.length ≤ nl + 0 ∧ wr.ownsRow w.heap.size 5 1 v6 s.good.flatten.length (Lib.byteCells s.good.flatten)) := by
     have := H.out
     rw [htk, ← hsf] at this
     exact ⟨this⟩
    clear H hlt hk htk hsf
    have HNK : Shh (nl ≤ 200) := ⟨HNL.out⟩
    go_wp2
    clear hlt2
    go_loopw [61] (fun j wr => ∃ (k : Nat) (u1 : DS), k ≤ nl ∧ j = .int .i64 (k : Int) ∧ Shh (SysQ w wr (FourE g g3 g4 r sf (runS s (l.take k)) s u1) Q ∧ u1.wait.length ≤ nl + k ∧ wr.ownsRow w.heap.size 5 1 v6 s.good.flatten.length (Lib.byteCells s.good.flatten))) (fun j _ => nl - (intOf j).toNat)
    case atStart => exact ⟨0, _, Nat.zero_le _, rfl, HI0⟩
    case round =>
     clear HI0
     obtain ⟨k, u1, hk, rfl, H⟩ := hrel
     by_cases hlt : k < nl
     ·have hlt2 : (k : Int) < (nl : Int) := by omega
      have hz : (0 : Int) ≤ (k : Int) := by omega
      have hkl : k < l.length := by rw [← HN.out]; exact hlt
      have HK : Shh (k < nl ∧ k < l.length) := ⟨hlt, hkl⟩
      obtain ⟨q, off, rfl, hq, hop⟩ := HO.out.at_ (by omega)
      have hb := H.out.1.1
      have hol := hop k hkl
      obtain ⟨y, hy⟩ : ∃ y, y = l[k] := ⟨_, rfl⟩
      have hfy : y.b.length ≤ 1000 := by rw [hy]; exact (HFW.out.1 _ (List.getElem_mem hkl)).1
      rw [← hy] at hol
      obtain ⟨yn, A1, c1, A2, c2, y1, y2, y3⟩ := op_now hol hb hq
      have HY := Shh.mk (And.intro yn (And.intro y2 (And.intro y3 hfy)))
      have hRZ : Row (w := wr.alloc (.cells #[.int .i64 0, .int .i64 0, .int .i64 0, .int .u8 0, .slice none 0 0, .slice none 0 0] 36)) (g := wr.heap.size) (T := 36) (cs := opZ) := Row.new_ rfl rfl
      have HYK : Shh (runS s (l.take (k + 1)) = stS (runS s (l.take k)) y) := ⟨by rw [hy]; exact runS_take s l k hkl⟩
      have HWL : Shh ((runS s (l.take k)).wait.length ≤ 400) := ⟨by have := runS_wait s (l.take k); have := HWN.out; have := HNL.out; have := List.length_take_le k l; omega⟩
      clear y2 y3 hop hol hb yn hfy hy hkl hlt
      go_wp2_with (first | refine wpList_load_mid rfl 36 (.tmp 63) rfl q (off + k * 6) (by go_num) (opRow y A1 A2 c1 c2) _ y1 Try.underlying36 rfl info_op6 ?_ | refine wpList_store_any rfl 36 (.tmp 16) (.tmp 64) rfl wr.heap.size rfl (opRow y A1 A2 c1 c2) rfl 36 _ hRZ info_op6 rfl opC_one ?_)
      intro Z hr bt hz2
      have bZ : Below wr.heap.size wr Z := (Below.alloc (Below.refl _ _) (Nat.le_refl _) _).trans (bt.under (by omega) (Nat.le_refl _))
      have hqZ := H.out.1.go bZ
      have HRW := Shh.mk hr
      have hrg := hr.range
      have HKZ := Shh.mk (own_bel H.out.2.2 bZ)
      clear y1 hRZ hz2 bt bZ hr
      obtain ⟨M, hM⟩ : ∃ M, M = wr.heap.size := ⟨_, rfl⟩
      rw [← hM] at HRW hrg ⊢
      have HLW : Shh (u1.wait.length ≤ nl + k ∧ k < 200) := ⟨H.out.2.1, by have := HK.out.1; have := HNL.out; omega⟩
      have HD := Shh.mk (does_any hqZ (fourE_3 _ _ _ _ _ _ _ _) (fourE_2 _ _ _ _ _ _ _ _) (by decide) (by have := HWL.out; omega) (by have := HLW.out; have := HNL.out; omega) y _ _ HY.out.1 HY.out.2.1 HY.out.2.2.1 HY.out.2.2.2)
      clear hqZ H hM
      go_wp2_with (first | refine wpList_load_mid rfl 36 (.tmp 16) rfl M 0 rfl (opRow y A1 A2 c1 c2) _ hrg Try.underlying36 rfl info_op6 ?_ | (go_at_call 15; refine (HD.out).mono ?_))
      unfold DoesIs
      rintro e w8 ⟨b, rfl, _, q8, k8⟩
      rw [fourE_p3, ← HYK.out] at q8
      have HI : Shh (SysQ w w8 (FourE g g3 g4 r sf (runS s (l.take (k + 1))) s (stS u1 y)) Q ∧ (stS u1 y).wait.length ≤ nl + (k + 1) ∧ w8.ownsRow w.heap.size 5 1 v6 s.good.flatten.length (Lib.byteCells s.good.flatten)) := ⟨q8, by have := stS_wait u1 y; have := HLW.out; omega, own_keep HKZ.out fun k hk => k8 k (by rw [HQ.out]; exact hk)⟩
      have HKB : Shh (k ≤ 1000000000 ∧ k < nl) := ⟨by have := HLW.out; omega, HK.out.1⟩
      clear q8 k8 hrg HD HRW HKZ
      go_wp2_with (refine wl_at 69 rfl (.int .i64 ((k + 1 : Nat) : Int)) rfl (add_i1 HKB.out.1 rfl rfl) ?_)
      go_roundw
      case rel => exact ⟨k + 1, _, HKB.out.2, by go_num, HI⟩
      case measure => have := HKB.out.2; simp [intOf]; omega
     ·obtain rfl : k = nl := by omega
      have hlt2 : ¬ (k : Int) < (k : Int) := by omega
      have htk : l.take k = l := by rw [HN.out, List.take_length]
      have HS : Shh (SysQ w wr (FourE g g3 g4 r sf sf s u1) Q ∧ wr.ownsRow w.heap.size 5 1 v6 s.good.flatten.length (Lib.byteCells s.good.flatten)) := by
       have := H.out
       rw [htk, ← HSF.out] at this
       exact ⟨⟨this.1, this.2.2⟩⟩
      clear H hlt hk htk
      have HIA := Shh.mk (sys_Image HS.out.1.sys (fourE_1 _ _ _ _ _ _ _ _))
      go_wp2_with (go_at_call 19; refine (HIA.out).mono ?_)
      unfold OwnIs Gives
      rintro e wa ⟨va, rfl, ka, ba⟩
      have HSa := Shh.mk (And.intro (HS.out.1.go ba) (And.intro (own_bel HS.out.2 ba) (Sl.of_own ka)))
      have HIB := Shh.mk (sys_Image HSa.out.1.sys (fourE_3 _ _ _ _ _ _ _ _))
      clear ka ba HIA HS
      go_wp2_with (go_at_call 19; refine (HIB.out).mono ?_)
      unfold OwnIs Gives
      rintro e wb ⟨vb, rfl, kb, bb⟩
      have EQ := Shh.mk (refEqual_any _ _ va vb _ _ wb (HSa.out.2.2.below bb) (Sl.of_own kb))
      rw [show (sf.good.flatten == sf.good.flatten) = true from by simp] at EQ
      have HSb := Shh.mk (And.intro (HSa.out.1.go bb) (own_bel HSa.out.2.1 bb))
      clear kb bb HIB HSa
      go_wp2_with (go_at_call 18; refine (EQ.out).mono ?_)
      rintro e wc ⟨rfl, rfl⟩
      clear EQ
      have O1 := Shh.mk (sys_On HSb.out.1.sys (fourE_1 _ _ _ _ _ _ _ _))
      have O3 := Shh.mk (sys_On HSb.out.1.sys (fourE_3 _ _ _ _ _ _ _ _))
      have W1 := Shh.mk (sys_Waits HSb.out.1.sys (fourE_1 _ _ _ _ _ _ _ _))
      have W3 := Shh.mk (sys_Waits HSb.out.1.sys (fourE_3 _ _ _ _ _ _ _ _))
      have P1 := Shh.mk (sys_Ops HSb.out.1.sys (fourE_1 _ _ _ _ _ _ _ _))
      have P3 := Shh.mk (sys_Ops HSb.out.1.sys (fourE_3 _ _ _ _ _ _ _ _))
      have IK := Shh.mk (sys_Image HSb.out.1.sys (fourE_4 _ _ _ _ _ _ _ _))
      obtain ⟨onv, honv⟩ : ∃ onv, onv = sf.on := ⟨_, rfl⟩
      rw [← honv] at O1 O3
      clear honv
      obtain ⟨wtv, hwtv⟩ : ∃ wtv, wtv = sf.wait.length := ⟨_, rfl⟩
      rw [← hwtv] at W1 W3
      clear hwtv
      obtain ⟨dnv, hdnv⟩ : ∃ dnv, dnv = sf.done := ⟨_, rfl⟩
      rw [← hdnv] at P1 P3
      clear hdnv
      go_wp2_with (go_at_call 32; refine (O1.out).mono ?_)
      unfold AnsIs
      rintro e wc ⟨rfl, rfl⟩
      clear O1
      go_wp2_with (go_at_call 32; refine (O3.out).mono ?_)
      unfold AnsIs
      rintro e wc ⟨rfl, rfl⟩
      clear O3
      go_wp2_with (first | refine wl_atW 80 rfl (.bool true) (by kernel_rfl) (by cases onv <;> kernel_rfl) ?_ | (go_at_call 31; refine (W1.out).mono ?_))
      unfold AnsIs
      rintro e wc ⟨rfl, rfl⟩
      clear W1
      go_wp2_with (first | refine wl_atW 80 rfl (.bool true) (by kernel_rfl) (by cases onv <;> kernel_rfl) ?_ | (go_at_call 31; refine (W3.out).mono ?_))
      unfold AnsIs
      rintro e wc ⟨rfl, rfl⟩
      clear W3
      go_wp2_with (first | refine wl_atW 87 rfl (.bool true) (by kernel_rfl) (eqi_yes (i := (wtv : Int)) (j := (wtv : Int)) rfl rfl rfl rfl) ?_ | (go_at_call 33; refine (P1.out).mono ?_))
      unfold AnsIs
      rintro e wc ⟨rfl, rfl⟩
      clear P1
      go_wp2_with (first | refine wl_atW 87 rfl (.bool true) (by kernel_rfl) (eqi_yes (i := (wtv : Int)) (j := (wtv : Int)) rfl rfl rfl rfl) ?_ | (go_at_call 33; refine (P3.out).mono ?_))
      unfold AnsIs
      rintro e wc ⟨rfl, rfl⟩
      clear P3
      go_wp2_with (first | refine wl_atW 94 rfl (.bool true) (by kernel_rfl) (eqi_yes (i := dnv) (j := dnv) rfl rfl rfl rfl) ?_ | (go_at_call 19; refine (IK.out).mono ?_))
      unfold OwnIs Gives
      rintro e wd ⟨vd, rfl, kd, bd⟩
      have EQ := Shh.mk (refEqual_any _ _ vd v6 _ _ wd (Sl.of_own kd) (Sl.of_own (own_bel HSb.out.2 bd)))
      rw [show (s.good.flatten == s.good.flatten) = true from by simp] at EQ
      have F := Shh.mk (Below.chain HSb.out.1.1 bd)
      clear kd bd IK HSb
      go_wp2_with (go_at_call 18; refine (EQ.out).mono ?_)
      rintro e wc ⟨rfl, rfl⟩
      clear EQ
      go_wp2
      go_ret
      exact ⟨rfl, F.out⟩
end Go.Proofs.Ytpajdmbajopofaa
