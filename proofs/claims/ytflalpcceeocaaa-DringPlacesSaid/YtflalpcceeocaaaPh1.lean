/-
 HINTS AS BYTES: the mathematics; slices of hints in memory.
-/
import Derived.Test.YtflalpcceeocaaaDh1
import Derived.Test.YtflalpcceeocaaaME
import Derived.BigQuiet
namespace Go.Proofs.Ytflalpcceeocaaa
open Go.RowKit
set_option maxRecDepth 100000
/-- the places of the marks among the first k -/
def pls (h : Nat → Bool) : Nat → List UInt8
 | 0 => []
 | k + 1 => pls h k ++ (if h k then [UInt8.ofNat k] else [])
def plc (L : Nat → Nat → Bool) : Nat → List UInt8
 | 0 => []
 | n + 1 => plc L n ++ pls (L n) 256
def endsB (L : Nat → Nat → Bool) : Nat → List UInt8
 | 0 => []
 | n + 1 => endsB L n ++ [UInt8.ofNat (plc L (n + 1)).length]
def packB (L : Nat → Nat → Bool) (n most : Nat) : List UInt8 := plc L n ++ (List.replicate (most - (plc L n).length) 0 ++ endsB L n)
theorem pls_succ (h : Nat → Bool) (k : Nat) : pls h (k + 1) = pls h k ++ (if h k then [UInt8.ofNat k] else []) := rfl
theorem plc_succ (L : Nat → Nat → Bool) (n : Nat) : plc L (n + 1) = plc L n ++ pls (L n) 256 := rfl
theorem pls_mono (h : Nat → Bool) {i j : Nat} (hij : i ≤ j) : (pls h i).length ≤ (pls h j).length := by
 induction hij with
 | refl => exact Nat.le_refl _
 | step _ ih =>
  refine Nat.le_trans ih ?_
  rw [pls_succ, List.length_append]
  exact Nat.le_add_right _ _
theorem pls_le (h : Nat → Bool) : ∀ k, (pls h k).length ≤ k
 | 0 => Nat.le_refl _
 | k + 1 => by
  have h1 := pls_le h k
  rw [pls_succ, List.length_append]
  by_cases hk : h k = true
  ·rw [if_pos hk]; simp; omega
  ·rw [if_neg hk]; simp; omega
theorem pls_yes {h : Nat → Bool} {k : Nat} (hk : h k = true) : pls h (k + 1) = pls h k ++ [UInt8.ofNat k] := by
 rw [pls_succ, if_pos hk]
theorem pls_no {h : Nat → Bool} {k : Nat} (hk : h k = false) : pls h (k + 1) = pls h k := by
 rw [pls_succ, hk]; simp
theorem plc_mono (L : Nat → Nat → Bool) {i j : Nat} (hij : i ≤ j) : (plc L i).length ≤ (plc L j).length := by
 induction hij with
 | refl => exact Nat.le_refl _
 | step _ ih =>
  refine Nat.le_trans ih ?_
  rw [plc_succ, List.length_append]
  exact Nat.le_add_right _ _
theorem plc_le (L : Nat → Nat → Bool) : ∀ n, (plc L n).length ≤ 256 * n
 | 0 => Nat.le_refl _
 | n + 1 => by
  have h1 := plc_le L n
  have h2 := pls_le (L n) 256
  rw [plc_succ, List.length_append]
  omega
/-- what is there within a row is there at the end -/
theorem plc_in (L : Nat → Nat → Bool) {n k j : Nat} (hk : k < n) (hj : j ≤ 256) : (plc L k ++ pls (L k) j).length ≤ (plc L n).length := by
 refine Nat.le_trans ?_ (plc_mono L (show k + 1 ≤ n from hk))
 rw [plc_succ, List.length_append, List.length_append]
 exact Nat.add_le_add_left (pls_mono _ hj) _
theorem endsB_length (L : Nat → Nat → Bool) : ∀ n, (endsB L n).length = n
 | 0 => rfl
 | n + 1 => by rw [endsB, List.length_append, endsB_length L n]; rfl
/-- X, zeros up to m, Y, and r more zeros -/
def pst (X : List UInt8) (m : Nat) (Y : List UInt8) (r : Nat) : List UInt8 := X ++ (List.replicate (m - X.length) 0 ++ (Y ++ List.replicate r 0))
theorem pst_length {X Y : List UInt8} {m r : Nat} (h : X.length ≤ m) : (pst X m Y r).length = m + Y.length + r := by
 unfold pst
 simp
 omega
theorem pst_place {X Y : List UInt8} {m r : Nat} (h : X.length < m) (b : UInt8) : (pst X m Y r).set X.length b = pst (X ++ [b]) m Y r := by
 unfold pst
 obtain ⟨t, ht⟩ : ∃ t, m - X.length = t + 1 := ⟨m - X.length - 1, by omega⟩
 have h2 : m - (X ++ [b]).length = t := by simp; omega
 rw [List.set_append_right _ _ (Nat.le_refl _), Nat.sub_self, ht, h2, List.replicate_succ, List.cons_append, List.set_cons_zero]
 simp
theorem pst_end {X Y : List UInt8} {m r : Nat} (h : X.length ≤ m) (b : UInt8) : (pst X m Y (r + 1)).set (m + Y.length) b = pst X m (Y ++ [b]) r := by
 unfold pst
 rw [List.set_append_right _ _ (by omega), List.set_append_right _ _ (by simp; omega), List.set_append_right _ _ (by simp; omega)]
 have h2 : m + Y.length - X.length - (List.replicate (m - X.length) (0 : UInt8)).length - Y.length = 0 := by simp; omega
 rw [h2, List.replicate_succ, List.set_cons_zero]
 simp
theorem pst_zero (m r : Nat) : pst [] m [] r = List.replicate (m + r) 0 := by
 unfold pst
 simp [List.replicate_append_replicate]
theorem pst_pack (L : Nat → Nat → Bool) (n most : Nat) : pst (plc L n) most (endsB L n) 0 = packB L n most := by
 unfold pst packB
 simp
/-- where row r of the bytes b begins -/
def stU (b : List UInt8) (most : Nat) : Nat → Nat
 | 0 => 0
 | r + 1 => (b.getD (most + r) 0).toNat
/-- the marks of t places from s on -/
def mkU (b : List UInt8) (s : Nat) : Nat → Nat → Bool
 | 0 => fun _ => false
 | t + 1 => hup (mkU b s t) (b.getD (s + t) 0).toNat true
def unL (b : List UInt8) (most r : Nat) : Nat → Bool := mkU b (stU b most r) (stU b most (r + 1) - stU b most r)
def sthU (b : List UInt8) (most i t r : Nat) : Nat → Bool := if r < i then unL b most r else if r = i then mkU b (stU b most i) t else fun _ => false
theorem sthU_zero (b : List UInt8) (most : Nat) : sthU b most 0 0 = fun _ _ => false := by
 funext r
 unfold sthU
 rw [if_neg (by omega)]
 by_cases h : r = 0
 ·rw [if_pos h]; rfl
 ·rw [if_neg h]
theorem sthU_step (b : List UInt8) (most i t : Nat) : (fun r => if r = i then hup (sthU b most i t i) (b.getD (stU b most i + t) 0).toNat true else sthU b most i t r) = sthU b most i (t + 1) := by
 funext r
 by_cases h : r = i
 ·rw [if_pos h, h]
  unfold sthU
  rw [if_neg (by omega), if_pos rfl, if_neg (by omega), if_pos rfl]
  rfl
 ·rw [if_neg h]
  unfold sthU
  by_cases h2 : r < i
  ·rw [if_pos h2, if_pos h2]
  ·rw [if_neg h2, if_neg h, if_neg h2, if_neg h]
theorem sthU_next (b : List UInt8) (most i t : Nat) (ht : t = stU b most (i + 1) - stU b most i) : sthU b most i t = sthU b most (i + 1) 0 := by
 funext r
 unfold sthU
 by_cases h2 : r < i
 ·rw [if_pos h2, if_pos (by omega)]
 ·rw [if_neg h2]
  by_cases h : r = i
  ·rw [if_pos h, if_pos (by omega), h, ht]
   rfl
  ·rw [if_neg h, if_neg (by omega)]
   by_cases h3 : r = i + 1
   ·rw [if_pos h3]; rfl
   ·rw [if_neg h3]
theorem sthU_all (b : List UInt8) (most n r : Nat) (h : r < n) : sthU b most n 0 r = unL b most r := by
 unfold sthU
 rw [if_pos h]
theorem stU_lt (b : List UInt8) (most r : Nat) : stU b most r < 256 := by
 cases r with
 | zero => exact (by decide : 0 < 256)
 | succ r => exact UInt8.toNat_lt _
def okU (b : List UInt8) (most n : Nat) : Prop := ∀ r, r < n → stU b most r ≤ stU b most (r + 1) ∧ stU b most (r + 1) ≤ most
/-- n hints, one behind the other -/
def hl (n : Nat) (L : Nat → Nat → Bool) : List Value := (List.range (n * 256)).map fun i => .bool (L (i / 256) (i % 256))
theorem hl_length (n : Nat) (L : Nat → Nat → Bool) : (hl n L).length = n * 256 := by simp [hl]
theorem hl_get {n k j : Nat} (L : Nat → Nat → Bool) (hk : k < n) (hj : j < 256) : (hl n L)[k * 256 + j]? = some (.bool (L k j)) := by
 unfold hl
 rw [List.getElem?_map, List.getElem?_range (by omega), Option.map_some]
 rw [show (k * 256 + j) / 256 = k by omega, show (k * 256 + j) % 256 = j by omega]
theorem hl_of {n : Nat} {L M : Nat → Nat → Bool} (h : ∀ r, r < n → L r = M r) : hl n L = hl n M := by
 unfold hl
 exact List.map_congr_left fun i hi => by rw [h (i / 256) (by have := List.mem_range.1 hi; omega)]
theorem hl_set {n k j : Nat} (L : Nat → Nat → Bool) (v : Bool) (hk : k < n) (hj : j < 256) : (hl n L).set (k * 256 + j) (.bool v) = hl n (fun r => if r = k then hup (L k) j v else L r) := by
 apply List.ext_getElem?
 intro i
 rw [List.getElem?_set]
 by_cases hi : i < n * 256
 ·have e : (i / 256) * 256 + i % 256 = i := by omega
  have h1 := hl_get L (show i / 256 < n by omega) (Nat.mod_lt i (by decide : 256 > 0))
  have h2 := hl_get (fun r => if r = k then hup (L k) j v else L r) (show i / 256 < n by omega) (Nat.mod_lt i (by decide : 256 > 0))
  rw [e] at h1 h2
  rw [h1, h2]
  by_cases h : k * 256 + j = i
  ·rw [if_pos h, if_pos (by rw [hl_length]; omega), if_pos (by omega)]
   unfold hup
   rw [if_pos (by omega)]
  ·rw [if_neg h]
   by_cases h3 : i / 256 = k
   ·rw [if_pos h3]
    unfold hup
    rw [if_neg (by omega), h3]
   ·rw [if_neg h3]
 ·rw [List.getElem?_eq_none (l := hl n L) (by rw [hl_length]; omega), List.getElem?_eq_none (l := hl n fun r => if r = k then hup (L k) j v else L r) (by rw [hl_length]; omega)]
  by_cases h : k * 256 + j = i
  ·rw [if_pos h, if_neg (by rw [hl_length]; omega)]
  ·rw [if_neg h]
theorem made_hl (n : Nat) : madeCells (hc fun _ => false).toArray (n * 256) = (hl n fun _ _ => false).toArray := by
 apply Array.ext
 ·simp [madeCells, hl]
 ·intro i h1 h2
  have h3 : i % 256 < 256 := Nat.mod_lt _ (by decide)
  simp [madeCells, hl, hc_length, hc, h3]
/-- v reads as n hints, in a block below B -/
def HintsAt (w : World) (B : Nat) (v : Value) (n : Nat) (L : Nat → Nat → Bool) : Prop := ∃ A c, v = .slice A n c ∧ n ≤ c ∧ c ≤ maxLen ∧ (0 < n → ∃ g o, A = some ⟨g, o, none⟩ ∧ g < B ∧ ∀ k, k < n → w.rangeAt g (o + k * 256) (hc (L k)))
theorem HintsAt.nil_ (w : World) (B : Nat) (L : Nat → Nat → Bool) : HintsAt w B (.slice none 0 0) 0 L := ⟨none, 0, rfl, Nat.le_refl _, by unfold maxLen; omega, fun h => absurd h (by omega)⟩
theorem HintsAt.form {w : World} {B n : Nat} {v : Value} {L : Nat → Nat → Bool} (h : HintsAt w B v n L) : ∃ A c, v = .slice A n c := by
 obtain ⟨A, c, h1, _⟩ := h
 exact ⟨A, c, h1⟩
theorem HintsAt.at_ {w : World} {B n c : Nat} {A : Option Addr} {L : Nat → Nat → Bool} (h : HintsAt w B (.slice A n c) n L) (hn : 0 < n) : ∃ g o, A = some ⟨g, o, none⟩ ∧ g < B ∧ ∀ k, k < n → w.rangeAt g (o + k * 256) (hc (L k)) := by
 obtain ⟨A', c', e, _, _, h4⟩ := h
 cases e
 exact h4 hn
theorem HintsAt.below {w w' : World} {B n : Nat} {v : Value} {L : Nat → Nat → Bool} (h : HintsAt w B v n L) (b : Below B w w') : HintsAt w' B v n L := by
 obtain ⟨A, c, e, h1, h2, h4⟩ := h
 refine ⟨A, c, e, h1, h2, fun hn => ?_⟩
 obtain ⟨g, o, h5, h6, h7⟩ := h4 hn
 exact ⟨g, o, h5, h6, fun k hk j v hv => (b.cell (p := ⟨g, o + k * 256 + j, none⟩) h6).trans (h7 k hk j v hv)⟩
theorem HintsAt.more {w : World} {B B' n : Nat} {v : Value} {L : Nat → Nat → Bool} (h : HintsAt w B v n L) (hB : B ≤ B') : HintsAt w B' v n L := by
 obtain ⟨A, c, e, h1, h2, h4⟩ := h
 refine ⟨A, c, e, h1, h2, fun hn => ?_⟩
 obtain ⟨g, o, h5, h6, h7⟩ := h4 hn
 exact ⟨g, o, h5, by omega, h7⟩
theorem HintsAt.go {w w' : World} {n : Nat} {v : Value} {L : Nat → Nat → Bool} (h : HintsAt w w.heap.size v n L) (b : Below w.heap.size w w') : HintsAt w' w'.heap.size v n L := (h.below b).more b.size
theorem HintsAt.of_row {w : World} {g n B : Nat} {L : Nat → Nat → Bool} (h : Row w g 39 (hl n L)) (hn : n ≤ maxLen) (hB : g < B) : HintsAt w B (.slice (some ⟨g, 0, none⟩) n n) n L :=
 ⟨_, n, rfl, Nat.le_refl _, hn, fun _ => ⟨g, 0, rfl, hB, fun k hk j v hv => by
  have hj : j < 256 := by
   have := (List.getElem?_eq_some_iff.1 hv).1
   rw [hc_length] at this
   exact this
  rw [hc_get _ hj] at hv
  rw [Nat.zero_add, h.cell, hl_get L hk hj]
  exact hv⟩⟩
theorem HintsAt.of_eq {w : World} {B n : Nat} {v : Value} {L M : Nat → Nat → Bool} (h : HintsAt w B v n L) (e : ∀ r, r < n → L r = M r) : HintsAt w B v n M := by
 obtain ⟨A, c, e1, h1, h2, h4⟩ := h
 refine ⟨A, c, e1, h1, h2, fun hn => ?_⟩
 obtain ⟨g, o, h5, h6, h7⟩ := h4 hn
 exact ⟨g, o, h5, h6, fun k hk => by rw [← e k hk]; exact h7 k hk⟩
theorem info_hint : ∃ i, Try.prog.info? 39 = some i ∧ i.zero = some (.agg (hc fun _ => false).toArray) ∧ i.size = 256 ∧ i.bytes = 256 := by
 have h1 : (Try.prog.info? 39).map (fun i => (i.zero, i.size, i.bytes)) = some (some (.agg (hc fun _ => false).toArray), 256, 256) := by kernel_rfl
 cases h : Try.prog.info? 39 with
 | none => rw [h] at h1; cases h1
 | some i =>
  rw [h] at h1
  simp only [Option.map_some, Option.some.injEq, Prod.mk.injEq] at h1
  exact ⟨i, rfl, h1.1, h1.2.1, h1.2.2⟩
theorem size_hint (W : World) : (sizeOf 39).run Try.prog W = .ok 256 W := by kernel_rfl
theorem make_hl (n : Nat) (hn : n ≤ 1000000) (u : World) : (Instr.makeSlice 22 (.int .i64 (n : Int)) (.int .i64 (n : Int))).run Try.prog u = .ok (.slice (some ⟨u.heap.size, 0, none⟩) n n) (u.alloc (.cells (hl n fun _ _ => false).toArray 39)) := by
 obtain ⟨i0, hi, hz0, hz1, hz2⟩ := info_hint
 have h := run_make (P := Try.prog) u 22 39 i0 _ Try.underlying22 hi hz0 .i64 .i64 (n : Int) (n : Int) (by omega) (Int.le_refl _) (by rw [hz2]; omega) (by omega)
 have e : (n : Int).toNat = n := by omega
 rw [e, hz1] at h
 rw [← made_hl]
 exact h
section
variable {ops : Array Oper} {rest : List Oper} {o : Oper} {a : Act} {w : World} {Q : Exit → Act → World → Prop} {x y : Operand} {op : Oper}
theorem wl_makeHL (n d : Nat) (hn : n ≤ 1000000) (hgd : o.guard = none) (hd : o.dst = some d) (ho : o.op = .makeSlice 22 x y) (hx : a.eval x = .int .i64 (n : Int)) (hy : a.eval y = .int .i64 (n : Int))
 (h : ∀ g w2, Shh (g = w.heap.size) → Row w2 g 39 (hl n fun _ _ => false) → Below w.heap.size w w2 → wpList Try.prog ops Q rest (a.put (some d) (.slice (some ⟨g, 0, none⟩) n n)) w2) : wpList Try.prog ops Q (o :: rest) a w := by
 refine wl_valueW (.slice (some ⟨w.heap.size, 0, none⟩) n n) (w.alloc (.cells (hl n fun _ _ => false).toArray 39)) hgd ?_ ?_
 ·have hm := make_hl n hn w
  unfold execOp
  simp only [ho, hx, hy, Sem.run_bind, hm, Result.andThen_ok]
  rfl
 ·rw [hd]
  exact h _ _ ⟨rfl⟩ (Row.new_ rfl rfl) (belA _ _)
/-- bytes made: zeros -/
theorem wl_makeB (n d : Nat) (hn : n ≤ 1000000) (hgd : o.guard = none) (hd : o.dst = some d) (ho : o.op = .makeSlice 23 x y) (hx : a.eval x = .int .i64 (n : Int)) (hy : a.eval y = .int .i64 (n : Int))
 (h : ∀ g w2, Shh (g = w.heap.size) → Row w2 g 5 (Lib.byteCells (List.replicate n 0)) → Below w.heap.size w w2 → wpList Try.prog ops Q rest (a.put (some d) (.slice (some ⟨g, 0, none⟩) n n)) w2) : wpList Try.prog ops Q (o :: rest) a w := by
 refine wl_valueW (.slice (some ⟨w.heap.size, 0, none⟩) n n) (w.alloc (.cells (Lib.byteCells (List.replicate n 0)).toArray 5)) hgd ?_ ?_
 ·have hm := make_run n (by omega) w
  unfold execOp
  simp only [ho, hx, hy, Sem.run_bind, hm, Result.andThen_ok]
  rfl
 ·rw [hd]
  exact h _ _ ⟨rfl⟩ (Row.new_ rfl rfl) (belA _ _)
theorem at_hl {g oo n c k : Nat} (hk : k < n) (ho : op.op = .indexAddr 22 x y) (hx : a.eval x = .slice (some ⟨g, oo, none⟩) n c) (hy : a.eval y = .int .i64 (k : Int)) : (execOp a.eval op).run Try.prog w = .ok (.value (.pointer (some ⟨g, oo + k * 256, none⟩))) w := by
 have h1 : (k : Int) < (n : Int) := by omega
 have h2 : (0 : Int) ≤ (k : Int) := by omega
 have hs := size_hint w
 unfold execOp
 simp only [ho, hx, hy]
 go_simp
theorem at_hin {g oo k : Nat} (hk : k < 256) (ho : op.op = .indexAddr 39 x y) (hx : a.eval x = .pointer (some ⟨g, oo, none⟩)) (hy : a.eval y = .int .i64 (k : Int)) : (execOp a.eval op).run Try.prog w = .ok (.value (.pointer (some ⟨g, oo + k, none⟩))) w := by
 have h1 : (k : Int) < 256 := by omega
 have h2 : (0 : Int) ≤ (k : Int) := by omega
 unfold execOp
 simp only [ho, hx, hy]
 go_simp
theorem at_hin8 {g oo k : Nat} (hk : k < 256) (ho : op.op = .indexAddr 39 x y) (hx : a.eval x = .pointer (some ⟨g, oo, none⟩)) (hy : a.eval y = .int .u8 (k : Int)) : (execOp a.eval op).run Try.prog w = .ok (.value (.pointer (some ⟨g, oo + k, none⟩))) w := by
 have h1 : (k : Int) < 256 := by omega
 have h2 : (0 : Int) ≤ (k : Int) := by omega
 unfold execOp
 simp only [ho, hx, hy]
 go_simp
theorem run_storeHL {g k j n p : Nat} {v : Bool} {T : TypeId} {L : Nat → Nat → Bool} (hp : p = k * 256 + j) (hk : k < n) (hj : j < 256) (hr : Row w g T (hl n L)) (ho : op.op = .store 4 x y) (hx : a.eval x = .pointer (some ⟨g, p, none⟩)) (hy : a.eval y = .bool v) : (execOp a.eval op).run Try.prog w = .ok .skip (w.setCell ⟨g, p, none⟩ (.bool v)) := by
 have hc := hr.cell p
 rw [hp, hl_get _ hk hj, ← hp] at hc
 have hf := hr.free p
 clear hp
 unfold execOp
 simp only [ho, hx, hy]
 go_simp
theorem wl_storeHL {g k j n p : Nat} {v : Bool} {T : TypeId} {L : Nat → Nat → Bool} (hgd : o.guard = none) (hp : p = k * 256 + j) (hk : k < n) (hj : j < 256) (ho : o.op = .store 4 x y) (hx : a.eval x = .pointer (some ⟨g, p, none⟩)) (hy : a.eval y = .bool v) (hr : Row w g T (hl n L))
 (h : ∀ w2, Row w2 g T (hl n (fun r => if r = k then hup (L k) j v else L r)) → But w.heap.size g w w2 → w2.heap.size = w.heap.size → wpList Try.prog ops Q rest (a.put o.dst undef) w2) : wpList Try.prog ops Q (o :: rest) a w := by
 have hs := hr.set_ p (.bool v)
 rw [hp, hl_set L v hk hj, ← hp] at hs
 refine wpList_plain hgd fun K hK => ?_
 unfold Oper.wp
 rw [run_storeHL hp hk hj hr ho hx hy]
 exact hK _ _ (h _ hs ((But.refl _ _ _).setCell _ _) (by simp [World.setCell]))
theorem run_storeB {g k : Nat} {b : UInt8} {T : TypeId} {bs : List UInt8} (hk : k < bs.length) (hr : Row w g T (Lib.byteCells bs)) (ho : op.op = .store 5 x y) (hx : a.eval x = .pointer (some ⟨g, k, none⟩)) (hy : a.eval y = .int .u8 (b.toNat : Int)) : (execOp a.eval op).run Try.prog w = .ok .skip (w.setCell ⟨g, k, none⟩ (.int .u8 (b.toNat : Int))) := by
 have hc := hr.cell k
 rw [byteCells_get bs k hk] at hc
 have hf := hr.free k
 unfold execOp
 simp only [ho, hx, hy]
 go_simp
theorem wl_storeB {g k : Nat} {b : UInt8} {T : TypeId} {bs : List UInt8} (hgd : o.guard = none) (hk : k < bs.length) (ho : o.op = .store 5 x y) (hx : a.eval x = .pointer (some ⟨g, k, none⟩)) (hy : a.eval y = .int .u8 (b.toNat : Int)) (hr : Row w g T (Lib.byteCells bs))
 (h : ∀ w2, Row w2 g T (Lib.byteCells (bs.set k b)) → But w.heap.size g w w2 → w2.heap.size = w.heap.size → wpList Try.prog ops Q rest (a.put o.dst undef) w2) : wpList Try.prog ops Q (o :: rest) a w := by
 have hs := hr.set_ k (.int .u8 (b.toNat : Int))
 rw [show (Lib.byteCells bs).set k (.int .u8 (b.toNat : Int)) = Lib.byteCells (bs.set k b) by simp [Lib.byteCells, List.map_set]] at hs
 refine wpList_plain hgd fun K hK => ?_
 unfold Oper.wp
 rw [run_storeB hk hr ho hx hy]
 exact hK _ _ (h _ hs ((But.refl _ _ _).setCell _ _) (by simp [World.setCell]))
theorem at_b0 {g n c k : Nat} (hk : k < n) (ho : op.op = .indexAddr 23 x y) (hx : a.eval x = .slice (some ⟨g, 0, none⟩) n c) (hy : a.eval y = .int .i64 (k : Int)) : (execOp a.eval op).run Try.prog w = .ok (.value (.pointer (some ⟨g, k, none⟩))) w := by
 have h1 : (k : Int) < (n : Int) := by omega
 have h2 : (0 : Int) ≤ (k : Int) := by omega
 unfold execOp
 simp only [ho, hx, hy]
 go_simp
theorem conv_b {n : Nat} {b : UInt8} (h : b = UInt8.ofNat n) (ho : op.op = .convert 3 5 x) (hx : a.eval x = .int .i64 (n : Int)) : (execOp a.eval op).run Try.prog w = .ok (.value (.int .u8 (b.toNat : Int))) w := by
 have hw : IntKind.u8.wrap (n : Int) = (b.toNat : Int) := by
  rw [IntKind.wrap_u8, h, UInt8.toNat_ofNat']
  omega
 have hw2 : (n : Int) % 256 = (b.toNat : Int) := by
  rw [h, UInt8.toNat_ofNat']
  omega
 clear h
 unfold execOp
 simp only [ho, hx]
 go_simp
theorem conv_8i {n : Nat} (hn : n < 256) (ho : op.op = .convert 5 3 x) (hx : a.eval x = .int .u8 (n : Int)) : (execOp a.eval op).run Try.prog w = .ok (.value (.int .i64 (n : Int))) w := by
 have hw : IntKind.i64.wrap (n : Int) = (n : Int) := by rw [IntKind.wrap_i64]; omega
 unfold execOp
 simp only [ho, hx]
 go_simp
end
end Go.Proofs.Ytflalpcceeocaaa
