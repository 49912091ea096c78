/-
 THE ITERATORS over pending writes: slices.Backward; raw pending writes as they lie.
-/
import Derived.Test.YtpajdmbajopofaaDk5
namespace Go.Proofs.Ytpajdmbajopofaa
open Go.RowKit
set_option maxRecDepth 100000
attribute [local go_sem] Oper.semAt_some
/-- the cells of a pending write -/
def wcC (x : Nat × Value) : List Value := [.int .i64 (x.1 : Int), x.2]
/-- raw pending writes in block p -/
def WAt (W : World) (A : Option Addr) (p : Nat) (l : List (Nat × Value)) : Prop := p < W.heap.size ∧ ∀ k (h : k < l.length), A = some ⟨p, 0, none⟩ ∧ W.rangeAt p (k * 2) (wcC l[k])
/-- blocks p and q lie as they lay -/
def Kp2 (p q : Nat) (W W' : World) : Prop := W.heap.size ≤ W'.heap.size ∧ W'.heap[p]? = W.heap[p]? ∧ W'.heap[q]? = W.heap[q]?
theorem Kp2.refl (p q : Nat) (W : World) : Kp2 p q W W := ⟨Nat.le_refl _, rfl, rfl⟩
theorem Kp2.trans {p q : Nat} {A B C : World} (h : Kp2 p q A B) (k : Kp2 p q B C) : Kp2 p q A C := ⟨Nat.le_trans h.1 k.1, k.2.1.trans h.2.1, k.2.2.trans h.2.2⟩
theorem WAt.same {W Z : World} {A : Option Addr} {p : Nat} {l : List (Nat × Value)} (h : WAt W A p l) (hs : W.heap.size ≤ Z.heap.size) (hp : Z.heap[p]? = W.heap[p]?) : WAt Z A p l :=
 ⟨Nat.lt_of_lt_of_le h.1 hs, fun k hk => ⟨(h.2 k hk).1, fun j v hv => (World.cell?_of_block (a := ⟨p, k * 2 + j, none⟩) hp).trans ((h.2 k hk).2 j v hv)⟩⟩
theorem WAt.go {W Z : World} {A : Option Addr} {p : Nat} {l : List (Nat × Value)} (h : WAt W A p l) (b : Below W.heap.size W Z) : WAt Z A p l := h.same b.size (b.block p h.1)
def rawL (l : List (Nat × List UInt8)) (xs : List Value) : List (Nat × Value) := (List.range l.length).map fun j => ((l.getD j (0, [])).1, xs.getD (2 * j + 1) undef)
theorem rawL_length (l : List (Nat × List UInt8)) (xs : List Value) : (rawL l xs).length = l.length := by simp [rawL]
theorem rawL_get (l : List (Nat × List UInt8)) (xs : List Value) (j : Nat) (h : j < (rawL l xs).length) (h2 : j < l.length) : (rawL l xs)[j] = (l[j].1, xs.getD (2 * j + 1) undef) := by simp [rawL, h2]
/-- pending writes, opened -/
theorem PAt.raw {col : Nat → Nat} {c : Nat} {w : World} {T : TypeId} {v : Value} {l : List (Nat × List UInt8)} (h : PAt col c w T v l) {p0 : Nat} (hw : p0 < w.heap.size) : ∃ A cap p raw, v = .slice A raw.length cap ∧ WAt w A p raw ∧ raw.length = l.length ∧ (p = p0 ∨ ∃ cur, w.heap[p]? = some (.cells cur T (0, 0))) ∧ ∀ k (h1 : k < raw.length) (h2 : k < l.length), raw[k].1 = l[k].1 ∧ Dat col w raw[k].2 l[k].2 := by
 obtain ⟨xs, h1, h2, h3⟩ := h
 have hdat : ∀ k (h1 : k < (rawL l xs).length) (h2 : k < l.length), (rawL l xs)[k].1 = l[k].1 ∧ Dat col w (rawL l xs)[k].2 l[k].2 := by
  intro k k1 k2
  obtain ⟨u, h4, h5, h6⟩ := h3 k k2
  rw [rawL_get l xs k k1 k2]
  refine ⟨rfl, ?_⟩
  have : xs.getD (2 * k + 1) undef = u := by simp [List.getD, h5]
  show Dat col w (xs.getD (2 * k + 1) undef) _
  rw [this]
  exact h6
 rcases h1.2 with ⟨rfl, e⟩ | ⟨p, cap, cur, rfl, _, hp, hn, hm, hs, ht⟩
 ·refine ⟨none, 0, p0, rawL l xs, by rw [rawL_length, e], ⟨hw, fun k hk => ?_⟩, rawL_length _ _, .inl rfl, hdat⟩
  rw [rawL_length] at hk
  omega
 ·refine ⟨some ⟨p, 0, none⟩, cap, p, rawL l xs, by rw [rawL_length], ⟨(Array.getElem?_eq_some_iff.1 hp).1, fun k hk => ⟨rfl, fun j v hv => ?_⟩⟩, rawL_length _ _, .inr ⟨cur, hp⟩, hdat⟩
  have hk2 : k < l.length := by rw [rawL_length] at hk; exact hk
  rw [rawL_get l xs k hk hk2] at hv
  obtain ⟨u, h4, h5, _⟩ := h3 k hk2
  have hg : xs.getD (2 * k + 1) undef = u := by simp [List.getD, h5]
  have key : ∀ i v, xs[i]? = some v → w.cell? ⟨p, i, none⟩ = some v := fun i v hi => by
   have := h1.cells (g := p) rfl i v hi
   rwa [addr_add, Nat.zero_add] at this
  match j, hv with
  | 0, hv =>
   have : v = .int .i64 (l[k].1 : Int) := by simpa [wcC] using hv.symm
   rw [this, Nat.add_zero, Nat.mul_comm]
   exact key _ _ h4
  | 1, hv =>
   have : v = xs.getD (2 * k + 1) undef := by simpa [wcC] using hv.symm
   rw [this, hg, Nat.mul_comm]
   exact key _ _ h5
  | j + 2, hv => simp [wcC] at hv
/-! slices.Backward -/
def bkE (lv : List (Nat × Value)) (k : Fin lv.length) : Array Value := #[.int .i64 (k.val : Int), .agg (wcC lv[k]).toArray]
def dnL (n t : Nat) : List (Fin n) := (List.range t).filterMap fun i => if h : n - 1 - i < n then some ⟨n - 1 - i, h⟩ else none
theorem dnL_succ {n t : Nat} (h : t < n) : dnL n (t + 1) = dnL n t ++ [⟨n - 1 - t, by omega⟩] := by
 unfold dnL
 rw [List.range_succ, List.filterMap_append]
 simp only [List.filterMap_cons, List.filterMap_nil]
 rw [dif_pos (by omega)]
theorem dnL_length {n t : Nat} (h : t ≤ n) : (dnL n t).length = t := by
 induction t with
 | zero => rfl
 | succ t ih => rw [dnL_succ (by omega), List.length_append, ih (by omega)]; rfl
theorem dnL_pre {n t u : Nat} (h : t ≤ u) (hu : u ≤ n) : dnL n t <+: dnL n u := by
 induction u with
 | zero =>
  obtain rfl : t = 0 := by omega
  exact List.prefix_refl _
 | succ u ih =>
  by_cases e : t = u + 1
  ·subst e
   exact List.prefix_refl _
  ·exact (ih (by omega) (by omega)).trans (by rw [dnL_succ (by omega)]; exact List.prefix_append _ _)
theorem info_wr : (Try.prog.info? 71).map (·.size) = some 2 := by kernel_rfl
set_option maxHeartbeats 4000000 in
theorem back_in (l bS p cap : Nat) (A : Option Addr) (lv : List (Nat × Value)) (hlen : lv.length ≤ 1000000) (J Jx : List (Fin lv.length) → World → Prop) (W : World)
  (hY : ∀ pre x W1, J pre W1 → pre.length < lv.length + 1 → YieldAt Fence.wide 2 Try.prog l (bkE lv x) W1 fun e W' =>
   (e = .returned (.bool true) ∧ J (pre ++ [x]) W' ∧ Kp2 bS p W1 W') ∨ (e = .returned (.bool false) ∧ Jx (pre ++ [x]) W'))
  (hB : Boxed W bS 65 (.slice A lv.length cap)) (hg : WAt W A p lv) (h0 : J [] W) :
  CallsIn Fence.wide 3 Try.prog 56 (#[.func (.yield l) #[] #[]] ++ #[.pointer (some ⟨bS, 0, none⟩)]) W fun e W' => (∃ v, e = .returned v) ∧ ((∃ xs, xs = dnL lv.length lv.length ∧ J xs W') ∨ (∃ pre : List (Fin lv.length), pre <+: dnL lv.length lv.length ∧ Jx pre W')) := by
 have H0 : Shh (J (dnL lv.length (lv.length - lv.length)) W ∧ Kp2 bS p W W) := ⟨by rw [Nat.sub_self]; exact h0, Kp2.refl _ _ _⟩
 have HB : Shh (∀ Z, Kp2 bS p W Z → Boxed Z bS 65 (.slice A lv.length cap) ∧ WAt Z A p lv) := ⟨fun Z hZ => ⟨hZ.2.1.trans hB, hg.same hZ.1 hZ.2.2⟩⟩
 have HY := Shh.mk hY
 have hc0 := hB.cell
 have hw0 : wrap64 ((lv.length : Int) - 1) = (lv.length : Int) - 1 := by unfold wrap64; omega
 have HL := Shh.mk hlen
 clear hY h0 hB hg
 refine callsIn_of_wp Try.func56 rfl trivial ?_ rfl
 simp only [Try.ntmps56, List.size_toArray, List.length_cons, List.length_nil, Nat.reduceAdd, Nat.reduceSub, Array.replicate_succ, Array.replicate_zero, List.push_toArray, List.append_toArray, List.nil_append, List.cons_append]
 gi_wp2
 gi_loopw [3] (fun i wr => ∃ (m : Nat) (z : Int), m ≤ lv.length ∧ z = (m : Int) - 1 ∧ i = .int .i64 z ∧ Shh (J (dnL lv.length (lv.length - m)) wr ∧ Kp2 bS p W wr)) (fun i _ => (intOf i + 1).toNat)
 case atStart => exact ⟨lv.length, (lv.length : Int) - 1, Nat.le_refl _, rfl, by go_num, H0⟩
 case round =>
  clear H0 hc0 hw0
  obtain ⟨m, z, hm, hz, rfl, H⟩ := hrel
  by_cases hpos : 0 < m
  ·obtain ⟨k, rfl⟩ : ∃ k, m = k + 1 := ⟨m - 1, by omega⟩
   obtain rfl : z = (k : Int) := by omega
   have hklt : k < lv.length := by omega
   have hbx := HB.out wr H.out.2
   have hc1 := hbx.1.cell
   obtain ⟨hA, hrg⟩ := hbx.2.2 k hklt
   rw [hA] at hc1
   clear hbx hz hA
   obtain ⟨fn, tmps, assign, body, hy, hR⟩ := HY.out _ ⟨k, hklt⟩ wr H.out.1 (by rw [dnL_length (by omega)]; omega)
   have hy2 : (Instr.yield l #[.int .i64 (k : Int), .agg (wcC lv[k]).toArray]).run Try.prog wr = .ok (.round l fn tmps assign body) wr := hy
   have HD : Shh (dnL lv.length (lv.length - k) = dnL lv.length (lv.length - (k + 1)) ++ [⟨k, hklt⟩]) := ⟨by
    have e : lv.length - k = lv.length - (k + 1) + 1 := by omega
    rw [e, dnL_succ (by omega)]
    congr 2
    apply Fin.ext
    show lv.length - 1 - (lv.length - (k + 1)) = k
    omega⟩
   have HR := Shh.mk hR
   clear hy hR
   generalize lv[k] = x at hrg hy2
   gi_wp2_with (refine wlIn_load_mid rfl 71 (.tmp 15) rfl p (k * 2) (by go_num) (wcC x) _ hrg Try.underlying71 rfl info_wr ?_)
   refine HR.out.mono ?_
   rintro e W3 (⟨rfl, hJ3, hk3⟩ | ⟨rfl, hJx3⟩)
   ·have F3 : Shh (J (dnL lv.length (lv.length - k)) W3 ∧ Kp2 bS p W W3) := ⟨by rw [HD.out]; exact hJ3, H.out.2.trans hk3⟩
    clear H hJ3 hk3 hy2 hrg hc1 HR HD
    gi_wp2
    go_roundw
    case rel => exact ⟨k, (k : Int) - 1, by omega, rfl, by go_num, F3⟩
    case measure => simp [intOf]
   ·have F3 : Shh (dnL lv.length (lv.length - (k + 1)) ++ [⟨k, hklt⟩] <+: dnL lv.length lv.length ∧ Jx (dnL lv.length (lv.length - (k + 1)) ++ [⟨k, hklt⟩]) W3) := ⟨by rw [← HD.out]; exact dnL_pre (by omega) (Nat.le_refl _), hJx3⟩
    clear H hJx3 hy2 hrg hc1 HR HD
    gi_wp2
    refine bodyPost_ret (results_none rfl _ _ _) rfl ?_
    exact ⟨⟨_, rfl⟩, .inr ⟨_, F3.out.1, F3.out.2⟩⟩
  ·obtain rfl : m = 0 := by omega
   have hz1 : ¬ (0 : Int) ≤ z := by omega
   have HE : Shh (J (dnL lv.length lv.length) wr) := ⟨H.out.1⟩
   clear H
   gi_wp2
   go_end0
   exact ⟨⟨_, rfl⟩, .inl HE.out⟩
end Go.Proofs.Ytpajdmbajopofaa
