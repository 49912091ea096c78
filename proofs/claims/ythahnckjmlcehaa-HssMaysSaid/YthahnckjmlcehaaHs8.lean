/-
  WALK: HssApart, over contracts of the program's own functions: the leaves of an index are its digits.
-/
import Derived.Test.YthahnckjmlcehaaHs7
import Derived.BigQuiet
namespace Go.Proofs.Ythahnckjmlcehaa
open Go.RowKit
set_option maxRecDepth 100000
/-- v is a slice of uint32 that reads as the numbers l -/
def Us (w : World) (B : Nat) (v : Value) (l : List Nat) : Prop :=
  ∃ A c, v = .slice A l.length c ∧ l.length ≤ c ∧ c ≤ maxLen ∧ (0 < l.length → ∃ q off, A = some ⟨q, off, none⟩ ∧ q < B ∧ ∀ k (h : k < l.length), w.cell? ⟨q, off + k, none⟩ = some (.int .u32 ((l[k] : Nat) : Int)))
theorem Us.below {w w' : World} {B : Nat} {v : Value} {l : List Nat} (h : Us w B v l) (hb : Below B w w') : Us w' B v l := by
  obtain ⟨A, c, hv, h1, h2, hc⟩ := h
  refine ⟨A, c, hv, h1, h2, fun hn => ?_⟩
  obtain ⟨q, off, hA, hq, hr⟩ := hc hn
  exact ⟨q, off, hA, hq, fun k hk => (hb.cell (p := ⟨q, off + k, none⟩) hq).trans (hr k hk)⟩
theorem Us.more {w : World} {B B' : Nat} {v : Value} {l : List Nat} (h : Us w B v l) (hB : B ≤ B') : Us w B' v l := by
  obtain ⟨A, c, hv, h1, h2, hc⟩ := h
  refine ⟨A, c, hv, h1, h2, fun hn => ?_⟩
  obtain ⟨q, off, hA, hq, hr⟩ := hc hn
  exact ⟨q, off, hA, by omega, hr⟩
theorem Us.go {w w' : World} {v : Value} {l : List Nat} (h : Us w w.heap.size v l) (b : Below w.heap.size w w') : Us w' w'.heap.size v l := (h.below b).more b.size
theorem Us.form {w : World} {B : Nat} {v : Value} {l : List Nat} (h : Us w B v l) : ∃ A c, v = .slice A l.length c ∧ l.length ≤ c ∧ c ≤ maxLen := by
  obtain ⟨A, c, hv, h1, h2, _⟩ := h
  exact ⟨A, c, hv, h1, h2⟩
theorem Us.at_ {w : World} {B n c : Nat} {A : Option Addr} {l : List Nat} (h : Us w B (.slice A n c) l) (hn : 0 < l.length) : ∃ q off, A = some ⟨q, off, none⟩ ∧ q < B ∧ ∀ k (h : k < l.length), w.cell? ⟨q, off + k, none⟩ = some (.int .u32 ((l[k] : Nat) : Int)) := by
  obtain ⟨A', c', hv, _, _, hc⟩ := h
  cases hv
  exact hc hn
/-! the digits of an index -/
/-- the index of the first k levels -/
def preL (l : List (Nat × Nat)) (n k : Nat) : Nat := n / 2 ^ sumH (l.drop k)
/-- the leaf of level k -/
def dgt (l : List (Nat × Nat)) (n k : Nat) : Nat := preL l n (k + 1) % 2 ^ lH (l.getD k (0, 0)).1
def splitL (l : List (Nat × Nat)) (n : Nat) : List Nat := (List.range l.length).map (dgt l n)
theorem splitL_length (l : List (Nat × Nat)) (n : Nat) : (splitL l n).length = l.length := by simp [splitL]
theorem splitL_get (l : List (Nat × Nat)) (n k : Nat) (h : k < (splitL l n).length) : (splitL l n)[k] = dgt l n k := by simp [splitL]
theorem getD_lv (l : List (Nat × Nat)) (k : Nat) (h : k < l.length) : l.getD k (0, 0) = l[k] := by rw [List.getD_eq_getElem?_getD, List.getElem?_eq_getElem h]; rfl
theorem drop_sum (l : List (Nat × Nat)) (k : Nat) (h : k < l.length) : sumH (l.drop k) = lH l[k].1 + sumH (l.drop (k + 1)) := by
  unfold sumH
  rw [List.drop_eq_getElem_cons h, List.map_cons, List.sum_cons]
theorem pre_step (l : List (Nat × Nat)) (n k : Nat) (h : k < l.length) : preL l n (k + 1) = preL l n k * 2 ^ lH l[k].1 + dgt l n k ∧ dgt l n k < 2 ^ lH l[k].1 := by
  have e : preL l n k = preL l n (k + 1) / 2 ^ lH l[k].1 := by
    unfold preL
    rw [drop_sum l k h, Nat.div_div_eq_div_mul, ← Nat.pow_add, Nat.add_comm]
  have ed : dgt l n k = preL l n (k + 1) % 2 ^ lH l[k].1 := by unfold dgt; rw [getD_lv l k h]
  rw [e, ed]
  refine ⟨?_, Nat.mod_lt _ (Nat.two_pow_pos _)⟩
  rw [Nat.mul_comm]
  exact (Nat.div_add_mod _ _).symm
theorem pre_zero (l : List (Nat × Nat)) (n : Nat) (h : n < 2 ^ sumH l) : preL l n 0 = 0 := Nat.div_eq_of_lt h
theorem pre_end (l : List (Nat × Nat)) (n : Nat) : preL l n l.length = n := by
  unfold preL
  rw [List.drop_length]
  show n / 2 ^ 0 = n
  rw [Nat.pow_zero, Nat.div_one]
theorem pre_le (l : List (Nat × Nat)) (n k : Nat) : preL l n k ≤ n := Nat.div_le_self _ _
theorem pre_eq (l : List (Nat × Nat)) (a b k : Nat) (h : k < l.length) : preL l a (k + 1) = preL l b (k + 1) ↔ preL l a k = preL l b k ∧ dgt l a k = dgt l b k := by
  have ha := pre_step l a k h
  have hb := pre_step l b k h
  constructor
  · intro e
    have ea : dgt l a k = preL l a (k + 1) % 2 ^ lH l[k].1 := by unfold dgt; rw [getD_lv l k h]
    have eb : dgt l b k = preL l b (k + 1) % 2 ^ lH l[k].1 := by unfold dgt; rw [getD_lv l k h]
    have ed : dgt l a k = dgt l b k := by rw [ea, eb, e]
    refine ⟨?_, ed⟩
    have e2 : preL l a k * 2 ^ lH l[k].1 = preL l b k * 2 ^ lH l[k].1 := by omega
    exact Nat.eq_of_mul_eq_mul_right (Nat.two_pow_pos _) e2
  · intro ⟨e1, e2⟩
    rw [ha.1, hb.1, e1, e2]
theorem below_drewN8 {B : Nat} {a w : World} (h : Below B a w) (n : Nat) : Below B a (w.drewN n) := ⟨h.os, h.tape, h.output, h.size, h.block⟩
/-- what Split hands back -/
def splitE (l : List (Nat × Nat)) (n : Nat) : Int := if mayL l then (if n < 2 ^ sumH l then 0 else 80) else 90
def SplitIs (l : List (Nat × Nat)) (n : Nat) (w : World) (e : Ending) (w' : World) : Prop := ∃ v, e = .returned (.tuple #[v, .int .i64 (splitE l n)]) ∧ Below w.heap.size w w' ∧ (splitE l n = 0 → Us w' w'.heap.size v (splitL l n)) ∧ (splitE l n ≠ 0 → v = .slice none 0 0)
set_option maxHeartbeats 2000000 in
theorem hssApart_of (v : Value) (l : List (Nat × Nat)) (a b : Nat) (w : World) (hl : Lvs w w.heap.size v l) (ho : LvOk l) (ha : a < 18446744073709551616) (hb : b < 18446744073709551616)
    (hlive : ∀ W, Calls Try.prog 5 #[] W (TrueIs W))
    (hCount : ∀ W, Lvs W W.heap.size v l → Calls Try.prog 6 #[v] W (OldIs (cntV l) W))
    (hSplit : ∀ (n : Nat) W, n < 18446744073709551616 → Lvs W W.heap.size v l → Calls Try.prog 12 #[v, .int .u64 (n : Int)] W (SplitIs l n W)) :
    Calls Try.prog 4 #[v, .int .u64 (a : Int), .int .u64 (b : Int)] w (TrueIs w) := by
  unfold TrueIs
  obtain ⟨A, c, rfl, hc, hcm⟩ := hl.form
  have hll : l.length ≤ 9223372036854775807 := by unfold maxLen at hcm; omega
  have HL := Shh.mk hl
  have HO := Shh.mk ho
  obtain ⟨cn, hcn⟩ : ∃ cn, cn = 2 ^ sumH l := ⟨_, rfl⟩
  have HC : Shh ((∀ W, Below w.heap.size w W → Calls Try.prog 6 #[.slice A l.length c] W (OldIs (cntV l) W)) ∧ (∀ W, Below w.heap.size w W → Calls Try.prog 12 #[.slice A l.length c, .int .u64 (a : Int)] W (SplitIs l a W)) ∧ (∀ W, Below w.heap.size w W → Calls Try.prog 12 #[.slice A l.length c, .int .u64 (b : Int)] W (SplitIs l b W)) ∧ (∀ W, Below w.heap.size w W → Calls Try.prog 7 #[.slice A l.length c] W (OldIs (.bool (mayL l)) W)) ∧ (mayL l = true → ∀ W, Below w.heap.size w W → Calls Try.prog 10 #[.slice A l.length c] W (OldIs (.int .u64 (cn : Int)) W))) :=
    ⟨fun W b => hCount W (hl.go b), fun W b => hSplit a W ha (hl.go b), fun W b => hSplit _ W hb (hl.go b), fun W b => refMay_any _ l W (hl.go b) ho, fun h W b => by rw [hcn]; exact refCount_any _ l W (hl.go b) ho (mayL_sum h)⟩
  have HT : Shh (∀ W, Calls Try.prog 5 #[] W (TrueIs W)) := ⟨hlive⟩
  clear hl ho hlive hCount hSplit
  obtain ⟨C1, E1, HE⟩ : ∃ C1 E1 : Int, Shh (C1 = (if mayL l then (cn : Int) else 0) ∧ E1 = (if mayL l then 0 else 90)) := ⟨_, _, ⟨rfl, rfl⟩⟩
  have HS : Shh (cntV l = .tuple #[.int .u64 C1, .int .i64 E1]) := ⟨by rw [HE.out.1, HE.out.2, hcn]; rfl⟩
  have HCN := Shh.mk hcn
  clear hcn
  go_enter Try.func4, Try.ntmps4
  go_wp2_with (go_at_call 12; refine (HC.out.2.1 _ (Below.refl _ _)).mono ?_)
  rintro e w2 ⟨v1, rfl, b2, k1, z1⟩
  have HB2 := Shh.mk b2
  clear b2
  go_wp2_with (go_at_call 12; refine (HC.out.2.2.1 _ HB2.out).mono ?_)
  rintro e w3 ⟨v2, rfl, b3, k2, z2⟩
  have HB3 : Shh (Below w.heap.size w w3) := ⟨Below.chain HB2.out b3⟩
  have HX : Shh ((splitE l a = 0 → Us w3 w3.heap.size v1 (splitL l a)) ∧ (splitE l b = 0 → Us w3 w3.heap.size v2 (splitL l b))) := ⟨fun h => (k1 h).go b3, k2⟩
  clear b3 HB2 k1 k2
  rw [HS.out] at HC
  go_wp2_with (go_at_call 6; refine (HC.out.1 _ HB3.out).mono ?_)
  unfold OldIs
  rintro e w4 ⟨rfl, b4⟩
  have HB4 : Shh (Below w.heap.size w w4) := ⟨Below.chain HB3.out b4⟩
  have HX4 : Shh ((splitE l a = 0 → Us w4 w4.heap.size v1 (splitL l a)) ∧ (splitE l b = 0 → Us w4 w4.heap.size v2 (splitL l b))) := ⟨fun h => (HX.out.1 h).go b4, fun h => (HX.out.2 h).go b4⟩
  clear b4 HB3 HX
  go_wp2_with (go_at_call 5; refine (HT.out _).mono ?_)
  unfold TrueIs
  rintro e w5 ⟨rfl, b5⟩
  have HB5 : Shh (Below w.heap.size w w5) := ⟨Below.chain HB4.out b5⟩
  have HX5 : Shh ((splitE l a = 0 → Us w5 w5.heap.size v1 (splitL l a)) ∧ (splitE l b = 0 → Us w5 w5.heap.size v2 (splitL l b))) := ⟨fun h => (HX4.out.1 h).go b5, fun h => (HX4.out.2 h).go b5⟩
  clear b5 HB4 HX4
  cases hm : mayL l with
  | false =>
    have ea : splitE l a = 90 := by unfold splitE; rw [hm]; rfl
    have hce := HE.out
    simp only [hm, Bool.false_eq_true, if_false] at hce
    obtain ⟨rfl, rfl⟩ := hce
    clear HE
    have HM : Shh (∀ W, Below w.heap.size w W → Calls Try.prog 7 #[.slice A l.length c] W (OldIs (.bool false) W)) := ⟨fun W b => by have := HC.out.2.2.2.1 W b; rw [hm] at this; exact this⟩
    rw [ea]
    clear HC hm HX5
    go_wp2_with (go_at_call 5; refine (HT.out _).mono ?_)
    unfold TrueIs
    rintro e w6 ⟨rfl, b6⟩
    have HB6 : Shh (Below w.heap.size w w6) := ⟨Below.chain HB5.out b6⟩
    clear b6 HB5
    go_wp2_with (go_at_call 7; refine (HM.out _ HB6.out).mono ?_)
    unfold OldIs
    rintro e w7 ⟨rfl, b7⟩
    have HB7 : Shh (Below w.heap.size w w7) := ⟨Below.chain HB6.out b7⟩
    clear b7 HB6
    go_wp2
    go_ret
    exact ⟨rfl, HB7.out⟩
  | true =>
    simp only [hm, forall_const] at HC
    have hce := HE.out
    simp only [hm, if_true] at hce
    obtain ⟨rfl, rfl⟩ := hce
    clear HE
    by_cases hca : a < cn
    rotate_left
    · have ea : splitE l a = 80 := by unfold splitE; rw [hm, ← HCN.out, if_neg hca]; rfl
      have hge : (cn : Int) ≤ (a : Int) := by omega
      rw [ea]
      clear hm HX5
      go_wp2_with (go_at_call 5; refine (HT.out _).mono ?_)
      unfold TrueIs
      rintro e w6 ⟨rfl, b6⟩
      have HB6 : Shh (Below w.heap.size w w6) := ⟨Below.chain HB5.out b6⟩
      clear b6 HB5
      go_wp2_with (go_at_call 7; refine (HC.out.2.2.2.1 _ HB6.out).mono ?_)
      unfold OldIs
      rintro e w7 ⟨rfl, b7⟩
      have HB7 : Shh (Below w.heap.size w w7) := ⟨Below.chain HB6.out b7⟩
      clear b7 HB6
      go_wp2_with (go_at_call 10; refine (HC.out.2.2.2.2 _ HB7.out).mono ?_)
      unfold OldIs
      rintro e w8 ⟨rfl, b8⟩
      have HB8 : Shh (Below w.heap.size w w8) := ⟨Below.chain HB7.out b8⟩
      clear b8 HB7
      go_wp2
      go_ret
      exact ⟨rfl, HB8.out⟩
    have ea : splitE l a = 0 := by unfold splitE; rw [hm, ← HCN.out, if_pos hca]; rfl
    by_cases hcb : b < cn
    rotate_left
    · have eb : splitE l b = 80 := by unfold splitE; rw [hm, ← HCN.out, if_neg hcb]; rfl
      have hge : (cn : Int) ≤ (b : Int) := by omega
      have hge2 : ¬ (cn : Int) ≤ (a : Int) := by omega
      rw [ea, eb]
      clear hm HX5
      go_wp2_with (go_at_call 5; refine (HT.out _).mono ?_)
      unfold TrueIs
      rintro e w6 ⟨rfl, b6⟩
      have HB6 : Shh (Below w.heap.size w w6) := ⟨Below.chain HB5.out b6⟩
      clear b6 HB5
      go_wp2_with (go_at_call 7; refine (HC.out.2.2.2.1 _ HB6.out).mono ?_)
      unfold OldIs
      rintro e w7 ⟨rfl, b7⟩
      have HB7 : Shh (Below w.heap.size w w7) := ⟨Below.chain HB6.out b7⟩
      clear b7 HB6
      go_wp2_with (go_at_call 10; refine (HC.out.2.2.2.2 _ HB7.out).mono ?_)
      unfold OldIs
      rintro e w8 ⟨rfl, b8⟩
      have HB8 : Shh (Below w.heap.size w w8) := ⟨Below.chain HB7.out b8⟩
      clear b8 HB7
      go_wp2_with (go_at_call 10; refine (HC.out.2.2.2.2 _ HB8.out).mono ?_)
      unfold OldIs
      rintro e w9 ⟨rfl, b9⟩
      have HB9 : Shh (Below w.heap.size w w9) := ⟨Below.chain HB8.out b9⟩
      clear b9 HB8
      go_wp2
      go_ret
      exact ⟨rfl, HB9.out⟩
    have eb : splitE l b = 0 := by unfold splitE; rw [hm, ← HCN.out, if_pos hcb]; rfl
    have HU : Shh (Us w5 w5.heap.size v1 (splitL l a) ∧ Us w5 w5.heap.size v2 (splitL l b)) := ⟨HX5.out.1 ea, HX5.out.2 eb⟩
    obtain ⟨A1, c1, rfl, g1, m1⟩ := HU.out.1.form
    obtain ⟨A2, c2, rfl, g2, m2⟩ := HU.out.2.form
    rw [splitL_length] at HU g1 g2
    rw [ea, eb]
    have HN : Shh (sumH l ≤ 60 ∧ a < 2 ^ sumH l ∧ b < 2 ^ sumH l) := ⟨mayL_sum hm, by rw [← HCN.out]; exact hca, by rw [← HCN.out]; exact hcb⟩
    have h60 : a < 1152921504606846976 ∧ b < 1152921504606846976 := by
      have := pow2_le _ 60 (mayL_sum hm)
      have := HCN.out
      have e : 2 ^ 60 = 1152921504606846976 := by decide
      omega
    have hge : ¬ (cn : Int) ≤ (a : Int) := by omega
    have hge2 : ¬ (cn : Int) ≤ (b : Int) := by omega
    clear HX5 HCN HS hm z1 z2 HC
    simp only [splitL_length]
    go_wp2
    go_loopw [13, 14, 91] (fun p q i wr => ∃ (k : Nat) (s : Nat) (t : Bool), k ≤ l.length ∧ s < 1152921504606846976 ∧ p = .int .u64 (s : Int) ∧ q = .bool t ∧ i = .int .i64 (k : Int) ∧ Shh (s = preL l a k ∧ t = decide (preL l a k = preL l b k) ∧ Below w5.heap.size w5 wr)) (fun _ _ i _ => l.length - (intOf i).toNat)
    case atStart => exact ⟨0, 0, true, Nat.zero_le _, by decide, rfl, rfl, rfl, ⟨(pre_zero l a HN.out.2.1).symm, by rw [pre_zero l a HN.out.2.1, pre_zero l b HN.out.2.2]; rfl, Below.refl _ _⟩⟩
    case round =>
      obtain ⟨k, s, t, hk, hs, rfl, rfl, rfl, HQ⟩ := hrel
      by_cases hlt : k < l.length
      · obtain ⟨g, off, rfl, hg, hcc⟩ := HL.out.at_ (by omega)
        obtain ⟨p1, f1, rfl, hp1, hx1⟩ := HU.out.1.at_ (by rw [splitL_length]; omega)
        obtain ⟨p2, f2, rfl, hp2, hx2⟩ := HU.out.2.at_ (by rw [splitL_length]; omega)
        have hcw := hcc k hlt
        have hd1 := hx1 k (by rw [splitL_length]; exact hlt)
        have hd2 := hx2 k (by rw [splitL_length]; exact hlt)
        rw [splitL_get] at hd1 hd2
        clear hcc hx1 hx2
        have hh := lH_le l[k].1
        have hs1 := pre_step l a k hlt
        have hs2 := pre_step l b k hlt
        have hse := pre_eq l a b k hlt
        have hpl := pre_le l a (k + 1)
        have hpb := pre_le l b (k + 1)
        rw [← HQ.out.1] at hs1
        have HX : Shh (l[k].1 < 4294967296 ∧ preL l a (k + 1) = s * 2 ^ lH l[k].1 + dgt l a k ∧ (decide (preL l a (k + 1) = preL l b (k + 1)) = (t && decide (dgt l a k = dgt l b k))) ∧ Below w5.heap.size w5 wr) := by
          refine ⟨(HO.out _ (List.getElem_mem hlt)).1, hs1.1, ?_, HQ.out.2.2⟩
          rw [HQ.out.2.1, ← Bool.decide_and]
          exact decide_eq_decide.2 hse
        have hd1b := hs1.2
        have hsum : s * 2 ^ lH l[k].1 + dgt l a k < 1152921504606846976 := by rw [← hs1.1]; omega
        have hd2b := hs2.2
        clear hs1 hs2 hse hpl hpb
        generalize dgt l a k = d1 at hd1 HX hd1b hsum
        generalize dgt l b k = d2 at hd2 HX hd2b
        generalize l[k] = x at hcw HX hh hd1b hd2b hsum
        obtain ⟨a1, b1⟩ := x
        simp only at hcw HX hh hd1b hd2b hsum
        have c0 := ((Below.chain HB5.out HX.out.2.2.2).cell (p := ⟨g, off + k * 2, none⟩) hg).trans hcw.1
        have c1' := ((Below.chain HB5.out HX.out.2.2.2).cell (p := ⟨g, off + k * 2 + 1, none⟩) hg).trans hcw.2
        have HB1 : Shh (Below w5.heap.size w5 wr) := ⟨HX.out.2.2.2⟩
        clear hcw HQ
        have HV : Shh (∀ W, Calls Try.prog 13 #[.agg #[.int .u32 (a1 : Int), .int .u32 (b1 : Int)]] W (OldIs (.tuple #[lmsV a1, otsV b1]) W)) := ⟨fun W => refSets_any a1 b1 HX.out.1 W⟩
        unfold lmsV otsV at HV
        generalize lH a1 = l3 at HV HX hh hd1b hd2b hsum
        generalize lC a1 = l0 at HV
        generalize lSh a1 = l1 at HV
        generalize lN a1 = l2 at HV
        generalize oC b1 = o0 at HV
        generalize (oR b1).1 = o1 at HV
        generalize (oR b1).2.1 = o2 at HV
        generalize (oR b1).2.2.1 = o3 at HV
        generalize (oR b1).2.2.2.1 = o4 at HV
        generalize (oR b1).2.2.2.2 = o5 at HV
        go_wp2_with (go_at_call 13; refine (HV.out _).mono ?_)
        unfold OldIs
        rintro e w2 ⟨rfl, b2⟩
        have HB2 : Shh (Below w5.heap.size w5 w2) := ⟨Below.chain HB1.out b2⟩
        clear b2 c0 c1' HB1 HV
        obtain ⟨M, hM⟩ : ∃ M, Shh (M = w2.heap.size) := ⟨_, ⟨rfl⟩⟩
        have FR : Shh (Below w5.heap.size w5 w2) := ⟨HB2.out⟩
        go_wp2_with (refine wpList_store_any rfl 37 (.tmp 16) (.tmp 100) rfl M (by rw [hM.out]; rfl) [.int .u32 l0, .bool l1, .int .i64 l2, .int .i64 (l3 : Int)] rfl 37 [.int .u32 0, .bool false, .int .i64 0, .int .i64 0] ((Row.new_ hM.out rfl).alloc _) info_lms rfl oneCell4 ?_)
        intro Za hr bt _
        have FA : Shh (Row Za M 37 [.int .u32 l0, .bool l1, .int .i64 l2, .int .i64 (l3 : Int)] ∧ Row Za (M + 1) 39 [.int .u32 0, .bool false, .int .i64 0, .int .i64 0, .int .i64 0, .int .i64 0] ∧ Below w5.heap.size w5 Za ∧ M + 2 ≤ Za.heap.size ∧ w5.heap.size ≤ M) := by
          have hm := hM.out
          have hz := FR.out.size
          have bz := bt.size
          simp only [asz] at bz
          have a2 : Below w5.heap.size w5 ((w2.alloc (.cells #[.int .u32 0, .bool false, .int .i64 0, .int .i64 0] 37)).alloc (.cells #[.int .u32 0, .bool false, .int .i64 0, .int .i64 0, .int .i64 0, .int .i64 0] 39)) := ((FR.out).alloc (by omega) _).alloc (by rw [asz]; omega) _
          refine ⟨hr, bt.row (Row.new_ (by rw [asz, hm]) rfl) (by first | omega | (simp only [asz]; omega)) (by omega), a2.trans (bt.under (by first | omega | (simp only [asz]; omega)) (by omega)), by omega, by omega⟩
        rw [← hM.out]
        clear hr bt FR hM
        go_wp2_with (refine wpList_store_any rfl 39 (.tmp 17) (.tmp 101) rfl (M + 1) rfl [.int .u32 o0, .bool o1, .int .i64 o2, .int .i64 o3, .int .i64 o4, .int .i64 o5] rfl 39 [.int .u32 0, .bool false, .int .i64 0, .int .i64 0, .int .i64 0, .int .i64 0] FA.out.2.1 info_ots rfl oneCell6 ?_)
        intro Z hr bt _
        have FZ : Shh (Row Z M 37 [.int .u32 l0, .bool l1, .int .i64 l2, .int .i64 (l3 : Int)] ∧ Row Z (M + 1) 39 [.int .u32 o0, .bool o1, .int .i64 o2, .int .i64 o3, .int .i64 o4, .int .i64 o5] ∧ Below w5.heap.size w5 Z ∧ M + 2 ≤ Z.heap.size ∧ w5.heap.size ≤ M) := by
          have hz := FA.out.2.2.2.1
          have hw := FA.out.2.2.2.2
          have bz := bt.size
          exact ⟨bt.row FA.out.1 (by omega) (by omega), hr, FA.out.2.2.1.trans (bt.under (by omega) (by omega)), by omega, hw⟩
        clear hr bt FA
        have e1 := FZ.out.1.cell 3
        simp only [List.getElem?_cons_succ, List.getElem?_cons_zero] at e1
        have x1 := (FZ.out.2.2.1.cell (p := ⟨p1, f1 + k, none⟩) hp1).trans hd1
        have x2 := (FZ.out.2.2.1.cell (p := ⟨p2, f2 + k, none⟩) hp2).trans hd2
        have FB : Shh (Below w5.heap.size w5 Z) := ⟨FZ.out.2.2.1⟩
        clear FZ hd1 hd2
        have hpw : (2 : Int) ^ l3 = ((2 ^ l3 : Nat) : Int) := by simp
        have hq2 : IntKind.u64.wrap ((2 : Int) ^ l3) = ((2 ^ l3 : Nat) : Int) := by
          have := pow2_le _ 25 hh
          have e : 2 ^ 25 = 33554432 := by decide
          rw [hpw, IntKind.wrap_u64]
          omega
        have hq : ¬ (IntKind.u64.wrap ((2 : Int) ^ l3) ≤ (d1 : Int)) := by rw [hq2]; omega
        obtain ⟨T, hT⟩ : ∃ T, T = s * 2 ^ l3 := ⟨_, rfl⟩
        have hw : IntKind.u64.wrap ((s : Int) * 2 ^ l3) = (T : Int) := by
          rw [hpw, ← Int.natCast_mul, ← hT, IntKind.wrap_u64]
          omega
        rw [← hT] at hsum HX
        clear hT hq2 hpw hd1b hd2b
        go_wp2_with fail
        go_quiet (fail)
        go_wp2_with fail
        go_quiet (fail)
        go_wp2_with fail
        cases t with
        | false =>
          go_quiet (fail)
          have HR : Shh (T + d1 = preL l a (k + 1) ∧ false = decide (preL l a (k + 1) = preL l b (k + 1)) ∧ Below w5.heap.size w5 Z) := ⟨HX.out.2.1.symm, by rw [HX.out.2.2.1]; rfl, FB.out⟩
          clear HX FB e1 x1 x2 hq hw HL HU HO HN HB5
          go_wp2
          go_round
          case rel => exact ⟨k + 1, T + d1, false, by omega, hsum, by go_num, rfl, by go_num, ⟨HR.out.1, HR.out.2.1, below_drewN8 HR.out.2.2 _⟩⟩
          case measure => simp [intOf]; omega
        | true =>
          by_cases hdd : d1 = d2
          · have hdi : ((d1 : Int) == (d2 : Int)) = true := by simp [hdd]
            have HR : Shh (T + d1 = preL l a (k + 1) ∧ true = decide (preL l a (k + 1) = preL l b (k + 1)) ∧ Below w5.heap.size w5 Z) := ⟨HX.out.2.1.symm, by rw [HX.out.2.2.1, decide_eq_true hdd]; rfl, FB.out⟩
            go_quiet (fail)
            clear HX FB e1 x1 x2 hq hw HL HU HO HN HB5
            go_wp2
            go_round
            case rel => exact ⟨k + 1, T + d1, true, by omega, hsum, by go_num, by simp, by go_num, ⟨HR.out.1, HR.out.2.1, below_drewN8 HR.out.2.2 _⟩⟩
            case measure => simp [intOf]; omega
          · have hdi : ((d1 : Int) == (d2 : Int)) = false := by simpa using fun h => hdd (Int.ofNat.inj h)
            have HR : Shh (T + d1 = preL l a (k + 1) ∧ false = decide (preL l a (k + 1) = preL l b (k + 1)) ∧ Below w5.heap.size w5 Z) := ⟨HX.out.2.1.symm, by rw [HX.out.2.2.1, decide_eq_false hdd]; rfl, FB.out⟩
            go_quiet (fail)
            clear HX FB e1 x1 x2 hq hw HL HU HO HN HB5
            go_wp2
            go_round
            case rel => exact ⟨k + 1, T + d1, false, by omega, hsum, by go_num, by simp, by go_num, ⟨HR.out.1, HR.out.2.1, below_drewN8 HR.out.2.2 _⟩⟩
            case measure => simp [intOf]; omega
      · obtain rfl : k = l.length := by omega
        have HR : Shh (Below w.heap.size w wr) := ⟨Below.chain HB5.out HQ.out.2.2⟩
        have hsa : s = a := by rw [HQ.out.1, pre_end]
        have ht : t = decide (a = b) := by rw [HQ.out.2.1, pre_end, pre_end]
        subst hsa
        subst ht
        clear HQ HB5 HU HL HO HN
        by_cases hab : s = b
        · subst hab
          go_wp2
          go_ret
          exact ⟨by simp, HR.out⟩
        · have hne : ((s : Int) == (b : Int)) = false := by simpa using fun h => hab (Int.ofNat.inj h)
          rw [decide_eq_false hab]
          go_wp2
          go_ret
          exact ⟨by simp, HR.out⟩
end Go.Proofs.Ythahnckjmlcehaa
