/-
  WALK: (*sha2.Hash).Write; parts of bytes, wherever they lie.
-/
import Derived.Test.YthafhghnciofaaaDoorAdd
namespace Go.Proofs.YthafhghnciofaaaDoor
open Go.RowKit
set_option maxRecDepth 100000

/-- v is a slice of slices of bytes that read as bss; all that it reads lies below block B, and not in block g -/
def PartsO (w : World) (B g : Nat) (v : Value) (bss : List (List UInt8)) : Prop :=
  ∃ A c, v = .slice A bss.length c ∧ (0 < bss.length → ∃ q off, A = some ⟨q, off, none⟩ ∧ q < B ∧ q ≠ g ∧ ∀ i (h : i < bss.length), ∃ u, w.cell? ⟨q, off + i, none⟩ = some u ∧ Sl w B u bss[i] ∧ Off g u)
section
variable {w w' : World} {B B' g : Nat} {v : Value} {bss : List (List UInt8)}
theorem PartsO.form (h : PartsO w B g v bss) : ∃ A c, v = .slice A bss.length c := by
  obtain ⟨A, c, hv, _⟩ := h
  exact ⟨A, c, hv⟩
theorem PartsO.at_ {A : Option Addr} {n c : Nat} (h : PartsO w B g (.slice A n c) bss) (hn : 0 < bss.length) : ∃ q off, A = some ⟨q, off, none⟩ ∧ q < B ∧ q ≠ g ∧ ∀ i (h : i < bss.length), ∃ u, w.cell? ⟨q, off + i, none⟩ = some u ∧ Sl w B u bss[i] ∧ Off g u := by
  obtain ⟨A', c', hv, hc⟩ := h
  cases hv
  exact hc hn
theorem PartsO.but (h : PartsO w B g v bss) (hb : But B g w w') : PartsO w' B g v bss := by
  obtain ⟨A, c, hv, hc⟩ := h
  refine ⟨A, c, hv, fun hn => ?_⟩
  obtain ⟨q, off, hA, hq, hg, hr⟩ := hc hn
  refine ⟨q, off, hA, hq, hg, fun i hi => ?_⟩
  obtain ⟨u, hu, hs, ho⟩ := hr i hi
  exact ⟨u, (hb.cell (p := ⟨q, off + i, none⟩) hq hg).trans hu, hs.but ho hb, ho⟩
theorem PartsO.below (h : PartsO w B g v bss) (hb : Below B w w') : PartsO w' B g v bss := h.but (But.of hb g)
theorem PartsO.more (h : PartsO w B g v bss) (hB : B ≤ B') : PartsO w B' g v bss := by
  obtain ⟨A, c, hv, hc⟩ := h
  refine ⟨A, c, hv, fun hn => ?_⟩
  obtain ⟨q, off, hA, hq, hg, hr⟩ := hc hn
  refine ⟨q, off, hA, by omega, hg, fun i hi => ?_⟩
  obtain ⟨u, hu, hs, ho⟩ := hr i hi
  exact ⟨u, hu, hs.more hB, ho⟩
/-- what lies below a block does not lie in it -/
theorem PartsO.moved {g' : Nat} (h : PartsO w B g v bss) (hg' : B ≤ g') : PartsO w B g' v bss := by
  obtain ⟨A, c, hv, hc⟩ := h
  refine ⟨A, c, hv, fun hn => ?_⟩
  obtain ⟨q, off, hA, hq, hg, hr⟩ := hc hn
  refine ⟨q, off, hA, hq, by omega, fun i hi => ?_⟩
  obtain ⟨u, hu, hs, ho⟩ := hr i hi
  exact ⟨u, hu, hs, hs.off hg'⟩
/-- one part, in a row of its own -/
theorem PartsO.one {q n : Nat} {T : TypeId} {u : Value} {bs : List UInt8} {w0 : World} (hq : q < B) (hg : q ≠ g) (hr : Row w q T [u]) (hs : Sl w0 B u bs) (ho : Off g u) (hk : Sl w0 B u bs → Sl w B u bs) : PartsO w B g (.slice (some ⟨q, 0, none⟩) 1 n) [bs] :=
  ⟨_, n, rfl, fun _ => ⟨q, 0, rfl, hq, hg, fun i hi => by
    obtain rfl : i = 0 := by simp at hi; omega
    exact ⟨u, hr.cell 0, hk hs, ho⟩⟩⟩
theorem PartsO.two {q n : Nat} {T : TypeId} {u u2 : Value} {bs bs2 : List UInt8} (hq : q < B) (hg : q ≠ g) (hr : Row w q T [u, u2]) (hs : Sl w B u bs) (ho : Off g u) (hs2 : Sl w B u2 bs2) (ho2 : Off g u2) : PartsO w B g (.slice (some ⟨q, 0, none⟩) 2 n) [bs, bs2] :=
  ⟨_, n, rfl, fun _ => ⟨q, 0, rfl, hq, hg, fun i hi => by
    match i, hi with
    | 0, _ => exact ⟨u, hr.cell 0, hs, ho⟩
    | 1, _ => exact ⟨u2, hr.cell 1, hs2, ho2⟩⟩⟩
theorem PartsO.three {q n : Nat} {T : TypeId} {u u2 u3 : Value} {bs bs2 bs3 : List UInt8} (hq : q < B) (hg : q ≠ g) (hr : Row w q T [u, u2, u3]) (hs : Sl w B u bs) (ho : Off g u) (hs2 : Sl w B u2 bs2) (ho2 : Off g u2) (hs3 : Sl w B u3 bs3) (ho3 : Off g u3) : PartsO w B g (.slice (some ⟨q, 0, none⟩) 3 n) [bs, bs2, bs3] :=
  ⟨_, n, rfl, fun _ => ⟨q, 0, rfl, hq, hg, fun i hi => by
    match i, hi with
    | 0, _ => exact ⟨u, hr.cell 0, hs, ho⟩
    | 1, _ => exact ⟨u2, hr.cell 1, hs2, ho2⟩
    | 2, _ => exact ⟨u3, hr.cell 2, hs3, ho3⟩⟩⟩
end
theorem flat_snoc (bss : List (List UInt8)) (k : Nat) (h : k < bss.length) : (bss.take (k + 1)).flatten = (bss.take k).flatten ++ bss[k] := by
  rw [List.take_succ_eq_append_getElem h, List.flatten_append]
  simp only [List.flatten_cons, List.flatten_nil, List.append_nil]
theorem flat_le (bss : List (List UInt8)) (k : Nat) : (bss.take k).flatten.length ≤ bss.flatten.length := by
  conv => rhs; rw [← List.take_append_drop k bss, List.flatten_append, List.length_append]
  omega

/-- the bytes have been written -/
def WriteIs (w : World) (g : Nat) (m : List UInt8) (e : Ending) (w' : World) : Prop := e = .returned (.int .i64 0) ∧ HashAt w' g m ∧ But w.heap.size g w w'

set_option maxHeartbeats 1000000 in
theorem write_any (g : Nat) (m : List UInt8) (bss : List (List UInt8)) (B : Nat) (v : Value) (w : World) (h : HashAt w g m) (hp : PartsO w B g v bss) (hB : B ≤ w.heap.size) (hv : Vars w) (hl : m.length + bss.flatten.length ≤ 1099511627776) (hn : bss.length ≤ 1000) :
    Calls Tryd.prog 21 #[.pointer (some ⟨g, 0, none⟩), v] w (WriteIs w g (m ++ bss.flatten)) := by
  unfold WriteIs
  obtain ⟨A, c, rfl⟩ := hp.form
  have hg0 := h.1
  go_enter Tryd.func21, Tryd.ntmps21
  go_wp2_with (go_at_call 41; refine (isMade_yes g m _ h).mono ?_)
  rintro e wK ⟨rfl, rfl⟩
  go_wp2
  go_loopw [6, 12] (fun _ i wr => ∃ k : Nat, k ≤ bss.length ∧ i = .int .i64 k ∧ HashAt wr g (m ++ (bss.take k).flatten) ∧ Vars wr ∧ But wK.heap.size g wK wr) (fun _ i _ => bss.length - (intOf i).toNat)
  case atStart => exact ⟨0, Nat.zero_le _, rfl, by simpa using h, hv, But.refl _ _ _⟩
  case round =>
    clear h hv
    obtain ⟨k, hk, rfl, hh, hv, hbut⟩ := hrel
    by_cases hlt : k < bss.length
    · have hpr := hp.but (hbut.mono hB)
      obtain ⟨q, off, rfl, hq, hqg, hc⟩ := hpr.at_ (by omega)
      obtain ⟨u, hu, hs, ho⟩ := hc k hlt
      have HF := Lib.hid (flat_snoc bss k hlt)
      have hfl := flat_le bss (k + 1)
      rw [HF.out, List.length_append] at hfl
      clear hpr hc
      generalize bss[k] = bk at *
      generalize hfk : (bss.take k).flatten = fk at *
      go_wp2_with (go_at_call 42; refine (add_any g _ bk B u _ hh hs (Nat.le_trans hB hbut.size) ho hv (by rw [List.length_append]; omega)).mono ?_)
      rintro e w2 ⟨rfl, hh2, hb2⟩
      rw [List.append_assoc, ← HF.out] at hh2
      go_wp2
      go_roundw
      case rel => exact ⟨k + 1, by omega, by go_num, hh2, hv.but hb2 hg0, hbut.chain hb2⟩
      case measure => simp [intOf]; omega
    · obtain rfl : k = bss.length := by omega
      rw [List.take_length] at hh
      go_wp2
      go_ret
      exact ⟨rfl, hh, hbut⟩
end Go.Proofs.YthafhghnciofaaaDoor
