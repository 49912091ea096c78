/-
 ARGUMENTS OPENED: what is done with a disk (a struct of four numbers and two slices), by value and in a slice; bools.
-/
import Derived.Test.YtpajdmbajopofaaLaw
import Derived.Test.YtpajdmbajopofaaDk21
import Derived.Deep.Slices
import Derived.Deep.SlicePairs
namespace Go.Proofs.Ytpajdmbajopofaa
open Go.ChangeShapes Go.WideShapes Go.ChangeAt Go.RowKit
open Go.Deep (open_bools)
set_option maxRecDepth 100000
/-- what is done -/
structure OpV where
 d : Int
 i : Int
 n : Int
 x : UInt8
 b : List UInt8
 p : List Bool
/-- its six cells at place o of block q -/
def OpAt (w : World) (B q o : Nat) (y : OpV) : Prop := y.n ≤ 9223372036854775807 ∧ ∃ vb vp, w.rangeAt q o (opC y.d y.i y.n y.x vb vp) ∧ Sl w B vb y.b ∧ Slb w B vp y.p
/-- a script -/
def Ops (w : World) (B : Nat) (v : Value) (l : List OpV) : Prop :=
 ∃ A c, v = .slice A l.length c ∧ l.length ≤ c ∧ c ≤ maxLen ∧ (0 < l.length → ∃ q off, A = some ⟨q, off, none⟩ ∧ q < B ∧ ∀ k (h : k < l.length), OpAt w B q (off + k * 6) l[k])
theorem OpAt.below {w w' : World} {B q o : Nat} {y : OpV} (h : OpAt w B q o y) (hb : Below B w w') (hq : q < B) : OpAt w' B q o y := by
 obtain ⟨h0, vb, vp, h1, h2, h3⟩ := h
 exact ⟨h0, vb, vp, fun j v hv => (hb.cell (p := ⟨q, o + j, none⟩) hq).trans (h1 j v hv), h2.below hb, h3.below hb⟩
theorem Ops.below {w w' : World} {B : Nat} {v : Value} {l : List OpV} (h : Ops w B v l) (hb : Below B w w') : Ops w' B v l := by
 obtain ⟨A, c, hv, h1, h2, hc⟩ := h
 refine ⟨A, c, hv, h1, h2, fun hn => ?_⟩
 obtain ⟨q, off, hA, hq, hr⟩ := hc hn
 exact ⟨q, off, hA, hq, fun k hk => (hr k hk).below hb hq⟩
theorem Ops.form {w : World} {B : Nat} {v : Value} {l : List OpV} (h : Ops w B v l) : ∃ A c, v = .slice A l.length c ∧ l.length ≤ c ∧ c ≤ maxLen := by
 obtain ⟨A, c, hv, h1, h2, _⟩ := h
 exact ⟨A, c, hv, h1, h2⟩
theorem Ops.at_ {w : World} {B c : Nat} {A : Option Addr} {l : List OpV} (h : Ops w B (.slice A l.length c) l) (hn : 0 < l.length) : ∃ q off, A = some ⟨q, off, none⟩ ∧ q < B ∧ ∀ k (h : k < l.length), OpAt w B q (off + k * 6) l[k] := by
 obtain ⟨A', c', hv, _, _, hc⟩ := h
 cases hv
 exact hc hn
section
variable {H : Type} {enc : TypeId × Value → H} {P : Program}
theorem trod_bytes {W : World} {n : Nat} {t e : TypeId} {v : Value} {y : DataW H × List MemPlace} (ht : P.underlying t = some (.slice e)) (he : P.underlying e = some (.int .u8)) (hc : P.cellsOf e = 1)
  (h : DataW.trod enc P W 0 (fun _ => true) true n t [v] = some y) : ∃ bs : List UInt8, Sl W W.heap.size v bs := by
 rcases open_ints ht he hc h with ⟨hcs, _⟩ | ⟨a, len, cap, zs, hcs, _, hl, hm, hz, _, hcell, hwz⟩
 ·simp only [List.cons.injEq, and_true] at hcs
  subst hcs
  exact ⟨[], Sl.nil_⟩
 ·simp only [List.cons.injEq, and_true] at hcs
  subst hcs
  have hzl : zs.length = cap := by simpa using hz
  have hbl : ((zs.take len).map fun z => UInt8.ofNat z.toNat).length = len := by simp; omega
  refine ⟨(zs.take len).map fun z => UInt8.ofNat z.toNat, ⟨some a, cap, by rw [hbl], by omega, hm, fun hn => ?_⟩⟩
  rw [hbl] at hn
  have h0 := hcell 0 (by omega)
  have hsp : a.spot = none := by
   simp only [Addr.add, if_true, World.cell?] at h0
   split at h0
   ·split at h0
    ·cases h0
    ·rename_i hns; simpa using hns
   ·cases h0
  obtain ⟨b, off, sp⟩ := a
  simp only at hsp
  subst hsp
  have hb : b < W.heap.size := by
   have := World.block_lt_of_cell? W _ h0
   simpa [Addr.add] using this
  refine ⟨b, off, rfl, hb, fun k hk => ?_⟩
  rw [hbl] at hk
  have hck := hcell k (by omega)
  rw [addr_add] at hck
  rw [hck]
  have hkz : k < zs.length := by omega
  have hwf := hwz zs[k] (List.getElem_mem hkz)
  have hg : zs.getD k 0 = zs[k] := by simp [List.getD, List.getElem?_eq_getElem hkz]
  have hr : 0 ≤ zs[k] ∧ zs[k] ≤ 255 := by simpa [Lit.wf, IntKind.min, IntKind.max, IntKind.signed, IntKind.bits] using hwf
  have hu : ((UInt8.ofNat zs[k].toNat).toNat : Int) = zs[k] := by
   have : (UInt8.ofNat zs[k].toNat).toNat = zs[k].toNat := by simp; omega
   rw [this]; omega
  rw [hg]
  simp only [List.getElem_map, List.getElem_take]
  rw [hu]
theorem slb_of {W : World} {a : Addr} {len cap : Nat} {Z : Nat → Bool} (hl : len ≤ cap) (hm : cap ≤ maxLen) (hcell : ∀ i, i < cap → W.cell? (a.add i) = some (.bool (Z i))) : Slb W W.heap.size (.slice (some a) len cap) ((List.range len).map Z) := by
 have hbl : ((List.range len).map Z).length = len := by simp
 refine ⟨some a, cap, by rw [hbl], by omega, hm, fun hn => ?_⟩
 rw [hbl] at hn
 have h0 := hcell 0 (by omega)
 have hsp : a.spot = none := by
  simp only [Addr.add, if_true, World.cell?] at h0
  split at h0
  ·split at h0
   ·cases h0
   ·rename_i hns; simpa using hns
  ·cases h0
 obtain ⟨b, off, sp⟩ := a
 simp only at hsp
 subst hsp
 have hb : b < W.heap.size := by
  have := World.block_lt_of_cell? W _ h0
  simpa [Addr.add] using this
 refine ⟨b, off, rfl, hb, fun k hk => ?_⟩
 rw [hbl] at hk
 have hck := hcell k (by omega)
 rw [addr_add] at hck
 rw [hck]
 simp
theorem trod_bools {W : World} {n : Nat} {t e : TypeId} {v : Value} {y : DataW H × List MemPlace} (ht : P.underlying t = some (.slice e)) (he : P.underlying e = some .bool) (hc : P.cellsOf e = 1)
  (h : DataW.trod enc P W 0 (fun _ => true) true n t [v] = some y) : ∃ l : List Bool, Slb W W.heap.size v l := by
 rcases open_bools ht he hc h with ⟨hcs, _⟩ | ⟨a, len, cap, Z, hcs, _, hl, hm, hx, hcell⟩
 ·simp only [List.cons.injEq, and_true] at hcs
  subst hcs
  exact ⟨[], ⟨none, 0, rfl, Nat.le_refl _, by unfold maxLen; omega, fun h => absurd h (by simp)⟩⟩
 ·simp only [List.cons.injEq, and_true] at hcs
  subst hcs
  exact ⟨_, slb_of hl hm hcell⟩
theorem open_boolsl {W : World} {base : Nat} {t e : TypeId} {v : Value} {d : DataW H} {ps : List MemPlace} (ht : P.underlying t = some (.slice e)) (he : P.underlying e = some .bool) (hc : P.cellsOf e = 1)
  (hval : Value.okWide P W .any base t v) (h : DataW.Trod enc P W 0 (fun _ => true) true t v d ps) : ∃ l : List Bool, Slb W W.heap.size v l := by
 obtain ⟨a0, len, cap, rfl⟩ := okWide_slice ht hval
 obtain ⟨fuel, hf⟩ := h
 exact trod_bools ht he hc hf
theorem cells_op : Try.prog.cellsOf 36 = 6 := by kernel_rfl
theorem cells_int : Try.prog.cellsOf 3 = 1 := by kernel_rfl
theorem cells_slu : Try.prog.cellsOf 33 = 1 := by kernel_rfl
theorem cells_slb : Try.prog.cellsOf 34 = 1 := by kernel_rfl
/-- six values that read as what is done -/
def OpVs (W : World) (u : List Value) (y : OpV) : Prop := y.n ≤ 9223372036854775807 ∧ ∃ vb vp, u = opC y.d y.i y.n y.x vb vp ∧ Sl W W.heap.size vb y.b ∧ Slb W W.heap.size vp y.p
theorem open_opT {W : World} {n : Nat} {cs : List Value} {z : DataW H × List MemPlace} (hl : cs.length = 6) (h : DataW.trod enc Try.prog W 0 (fun _ => true) true n 36 cs = some z) : ∃ y, OpVs W cs y := by
 obtain ⟨ys, k, hk, hxy, _, hxl, hfd⟩ := DataW.trod_struct Try.underlying36 h
 match ys, hxl, cs, hl with
 | [y0, y1, y2, y3, y4, y5], _, [u0, u1, u2, u3, u4, u5], _ =>
  have g0 := hfd 0 _ rfl
  have g1 := hfd 1 _ rfl
  have g2 := hfd 2 _ rfl
  have g3 := hfd 3 _ rfl
  have g4 := hfd 4 _ rfl
  have g5 := hfd 5 _ rfl
  simp [cells_int, cells_u8, cells_slu, cells_slb] at g0 g1 g2 g3 g4 g5
  obtain ⟨z0, e0, _, _⟩ := DataW.trod_int Try.underlying3 g0
  obtain ⟨z1, e1, _, _⟩ := DataW.trod_int Try.underlying3 g1
  obtain ⟨z2, e2, _, w2⟩ := DataW.trod_int Try.underlying3 g2
  obtain ⟨z3, e3, _, w3⟩ := DataW.trod_int Try.underlying5 g3
  obtain ⟨bs, s4⟩ := trod_bytes Try.underlying33 Try.underlying5 cells_u8 g4
  obtain ⟨ps, s5⟩ := trod_bools Try.underlying34 Try.underlying4 cells_bool g5
  simp only [List.cons.injEq, and_true] at e0 e1 e2 e3
  have h2 : -9223372036854775808 ≤ z2 ∧ z2 ≤ 9223372036854775807 := by simpa [Lit.wf, IntKind.min, IntKind.max, IntKind.signed, IntKind.bits] using w2
  have h3 : 0 ≤ z3 ∧ z3 ≤ 255 := by simpa [Lit.wf, IntKind.min, IntKind.max, IntKind.signed, IntKind.bits] using w3
  have h3u : ((UInt8.ofNat z3.toNat).toNat : Int) = z3 := by
   have : (UInt8.ofNat z3.toNat).toNat = z3.toNat := by simp; omega
   rw [this]; omega
  subst e0 e1 e2 e3
  exact ⟨⟨z0, z1, z2, UInt8.ofNat z3.toNat, bs, ps⟩, h2.2, u4, u5, by unfold opC; simp only [h3u], s4, s5⟩
theorem open_op {W : World} {base : Nat} {v : Value} {d : DataW H} {ps : List MemPlace} (hval : Value.okWide Try.prog W .any base 36 v) (h : DataW.Trod enc Try.prog W 0 (fun _ => true) true 36 v d ps) :
  ∃ (y : OpV) (vb vp : Value), v = .agg (opC y.d y.i y.n y.x vb vp).toArray ∧ Sl W W.heap.size vb y.b ∧ Slb W W.heap.size vp y.p := by
 simp only [Value.okWide, Try.underlying36] at hval
 obtain ⟨xs, rfl, hsz, _⟩ := hval
 rw [cells_op] at hsz
 obtain ⟨fuel, hf⟩ := h
 obtain ⟨y, _, vb, vp, he, h1, h2⟩ := open_opT (cs := xs.toList) (by simpa using hsz) hf
 exact ⟨y, vb, vp, by rw [← he], h1, h2⟩
instance : Inhabited OpV := ⟨⟨0, 0, 0, 0, [], []⟩⟩
theorem open_ops {W : World} {base : Nat} {v : Value} {d : DataW H} {ps : List MemPlace} (hval : Value.okWide Try.prog W .any base 22 v) (h : DataW.Trod enc Try.prog W 0 (fun _ => true) true 22 v d ps) :
  ∃ l : List OpV, Ops W W.heap.size v l := by
 obtain ⟨a0, len, cap, rfl⟩ := okWide_slice Try.underlying22 hval
 obtain ⟨fuel, hf⟩ := h
 rcases Deep.open_slice Try.underlying22 hf with ⟨hcs, _⟩ | ⟨a, len', cap', m, n, D, Pl, hcs, _, hl, hm, hmm, _, hx⟩
 ·simp [Value.cells] at hcs
  obtain ⟨rfl, rfl, rfl⟩ := hcs
  exact ⟨[], ⟨none, 0, rfl, Nat.le_refl _, by unfold maxLen; omega, fun h => by cases h⟩⟩
 ·simp [Value.cells] at hcs
  obtain ⟨rfl, rfl, rfl⟩ := hcs
  simp only [if_true] at hmm
  subst hmm
  rw [cells_op] at hx
  have each : ∀ i, i < len → ∃ y : OpV, ∃ cs', W.cells? 0 (a.add (i * 6)) 6 = some cs' ∧ OpVs W cs' y := by
   intro i hi
   obtain ⟨cs', h1, h2⟩ := hx i (by omega)
   obtain ⟨_, hlen, hcell⟩ := World.cells?_some h1
   obtain ⟨y, hy⟩ := open_opT hlen h2
   exact ⟨y, cs', h1, hy⟩
  obtain ⟨q, hq⟩ := Deep.choose_lt (α := OpV) each
  refine ⟨(List.range len).map q, ⟨some a, m, by simp, by simpa using hl, hm, fun hn => ?_⟩⟩
  simp only [List.length_map, List.length_range] at hn
  obtain ⟨cs0, h00, _, vb0, vp0, he0, _⟩ := hq 0 (by omega)
  obtain ⟨_, hlen0, hcell0⟩ := World.cells?_some h00
  have h0 := hcell0 0 (by omega)
  rw [Deep.add_add, Nat.zero_mul, he0] at h0
  have h0 : W.cell? (a.add 0) = some (.int .i64 (q 0).d) := h0
  have hsp : a.spot = none := by
   simp only [Addr.add, if_true, World.cell?] at h0
   split at h0
   ·split at h0
    ·cases h0
    ·rename_i hns; simpa using hns
   ·cases h0
  obtain ⟨b, off, sp⟩ := a
  simp only at hsp
  subst hsp
  have hb : b < W.heap.size := by
   have := World.block_lt_of_cell? W _ h0
   simpa [Addr.add] using this
  refine ⟨b, off, rfl, hb, fun k hk => ?_⟩
  simp only [List.length_map, List.length_range] at hk
  simp only [List.getElem_map, List.getElem_range]
  obtain ⟨cs', h1, h2, vb, vp, he, h3, h4⟩ := hq k (by omega)
  obtain ⟨_, hlen, hcell⟩ := World.cells?_some h1
  refine ⟨h2, vb, vp, fun j u hu => ?_, h3, h4⟩
  have hj : j < 6 := by
   have := (List.getElem?_eq_some_iff.1 hu).1
   simpa [opC] using this
  have hc := hcell j (by omega)
  rw [Deep.add_add, addr_add] at hc
  rw [Nat.add_assoc, hc, he]
  exact hu
end
end Go.Proofs.Ytpajdmbajopofaa
