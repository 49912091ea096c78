/-
  A SCRIPT OPENED: a slice of structs of a bool, a number, two slices of bytes and a bool.
-/
import Derived.Test.YtanpplniedphkaaDoorLaw
import Derived.Test.YtanpplniedphkaaDoorDrParts
import Derived.Deep.Slices
import Derived.Deep.SlicePairs
namespace Go.Proofs.YtanpplniedphkaaDoor
open Go.ChangeShapes Go.WideShapes Go.ChangeAt Go.RowKit
set_option maxRecDepth 100000

structure OpV where
  re : Bool
  n : Int
  b : List UInt8
  ad : List UInt8
  cp : Bool
/-- the five cells of what is done -/
def OpCells (w : World) (B q o : Nat) (x : OpV) : Prop := ∃ vb va, w.cell? ⟨q, o, none⟩ = some (.bool x.re) ∧ w.cell? ⟨q, o + 1, none⟩ = some (.int .i64 x.n) ∧ w.cell? ⟨q, o + 2, none⟩ = some vb ∧ w.cell? ⟨q, o + 3, none⟩ = some va ∧ w.cell? ⟨q, o + 4, none⟩ = some (.bool x.cp) ∧ Sl w B vb x.b ∧ Sl w B va x.ad
def Ops (w : World) (B : Nat) (v : Value) (l : List OpV) : Prop :=
  ∃ A c, v = .slice A l.length c ∧ l.length ≤ c ∧ c ≤ maxLen ∧ (0 < l.length → ∃ q off, A = some ⟨q, off, none⟩ ∧ q < B ∧ ∀ k (h : k < l.length), OpCells w B q (off + k * 5) l[k])
theorem OpCells.below {w w' : World} {B q o : Nat} {x : OpV} (h : OpCells w B q o x) (hb : Below B w w') (hq : q < B) : OpCells w' B q o x := by
  obtain ⟨vb, va, h0, h1, h2, h3, h4, h5, h6⟩ := h
  exact ⟨vb, va, (hb.cell (p := ⟨q, o, none⟩) hq).trans h0, (hb.cell (p := ⟨q, o + 1, none⟩) hq).trans h1, (hb.cell (p := ⟨q, o + 2, none⟩) hq).trans h2, (hb.cell (p := ⟨q, o + 3, none⟩) hq).trans h3, (hb.cell (p := ⟨q, o + 4, none⟩) hq).trans h4, h5.below hb, h6.below hb⟩
theorem Ops.below {w w' : World} {B : Nat} {v : Value} {l : List OpV} (h : Ops w B v l) (hb : Below B w w') : Ops w' B v l := by
  obtain ⟨A, c, hv, h1, h2, hc⟩ := h
  refine ⟨A, c, hv, h1, h2, fun hn => ?_⟩
  obtain ⟨q, off, hA, hq, hr⟩ := hc hn
  exact ⟨q, off, hA, hq, fun k hk => (hr k hk).below hb hq⟩
theorem Ops.form {w : World} {B : Nat} {v : Value} {l : List OpV} (h : Ops w B v l) : ∃ A c, v = .slice A l.length c := by
  obtain ⟨A, c, hv, _⟩ := h
  exact ⟨A, c, hv⟩
theorem Ops.at_ {w : World} {B c : Nat} {A : Option Addr} {l : List OpV} (h : Ops w B (.slice A l.length c) l) (hn : 0 < l.length) : ∃ q off, A = some ⟨q, off, none⟩ ∧ q < B ∧ ∀ k (h : k < l.length), OpCells w B q (off + k * 5) l[k] := by
  obtain ⟨A', c', hv, _, _, hc⟩ := h
  cases hv
  exact hc hn

section
variable {H : Type} {enc : TypeId × Value → H} {P : Program}
def boolOf : Value → Bool
  | .bool b => b
  | _ => false
def intOf' : Value → Int
  | .int _ a => a
  | _ => 0
theorem trod_boolv5 {w : World} {base : Nat} {spare : Nat → Bool} {held : Bool} {t : TypeId} {fuel : Nat} {v : Value} {y : DataW H × List MemPlace} (ht : P.underlying t = some .bool) (h : DataW.trod enc P w base spare held fuel t [v] = some y) : ∃ b, v = .bool b := by
  cases fuel with
  | zero => simp [DataW.trod] at h
  | succ m =>
    rw [DataW.trod_step] at h
    unfold DataW.trodStep at h
    simp only [ht] at h
    cases v <;> first | exact ⟨_, rfl⟩ | simp at h
theorem trod_bytes {W : World} {n : Nat} {t e : TypeId} {v : Value} {y : DataW H × List MemPlace} (ht : P.underlying t = some (.slice e)) (he : P.underlying e = some (.int .u8)) (hc : P.cellsOf e = 1)
    (h : DataW.trod enc P W 0 (fun _ => true) true n t [v] = some y) : ∃ bs : List UInt8, Sl W W.heap.size v bs := by
  rcases open_ints ht he hc h with ⟨hcs, _⟩ | ⟨a, len, cap, zs, hcs, _, hl, hm, hz, _, hcell, hwz⟩
  · simp only [List.cons.injEq, and_true] at hcs
    subst hcs
    exact ⟨[], Sl.nil_⟩
  · simp only [List.cons.injEq, and_true] at hcs
    subst hcs
    have hzl : zs.length = cap := by simpa using hz
    have hbl : ((zs.take len).map fun z => UInt8.ofNat z.toNat).length = len := by simp; omega
    refine ⟨(zs.take len).map fun z => UInt8.ofNat z.toNat, ⟨some a, cap, by rw [hbl], by omega, hm, fun hn => ?_⟩⟩
    rw [hbl] at hn
    have h0 := hcell 0 (by omega)
    have hsp : a.spot = none := by
      simp only [Addr.add, if_true, World.cell?] at h0
      split at h0
      · split at h0
        · cases h0
        · rename_i hns; simpa using hns
      · cases h0
    obtain ⟨b, off, sp⟩ := a
    simp only at hsp
    subst hsp
    have hb : b < W.heap.size := by
      have := World.block_lt_of_cell? W _ h0
      simpa [Addr.add] using this
    refine ⟨b, off, rfl, hb, fun k hk => ?_⟩
    rw [hbl] at hk
    have hck := hcell k (by omega)
    rw [addr_add] at hck
    rw [hck]
    have hkz : k < zs.length := by omega
    have hwf := hwz zs[k] (List.getElem_mem hkz)
    have hg : zs.getD k 0 = zs[k] := by simp [List.getD, List.getElem?_eq_getElem hkz]
    have hr : 0 ≤ zs[k] ∧ zs[k] ≤ 255 := by simpa [Lit.wf, IntKind.min, IntKind.max, IntKind.signed, IntKind.bits] using hwf
    have hu : ((UInt8.ofNat zs[k].toNat).toNat : Int) = zs[k] := by
      have : (UInt8.ofNat zs[k].toNat).toNat = zs[k].toNat := by simp; omega
      rw [this]; omega
    rw [hg]
    simp only [List.getElem_map, List.getElem_take]
    rw [hu]
theorem cells_op : Tryd.prog.cellsOf 37 = 5 := by kernel_rfl
theorem cells_int5 : Tryd.prog.cellsOf 3 = 1 := by kernel_rfl
theorem cells_sl5 : Tryd.prog.cellsOf 22 = 1 := by kernel_rfl

theorem open_ops {W : World} {base : Nat} {v : Value} {d : DataW H} {ps : List MemPlace} (hval : Value.okWide Tryd.prog W .any base 23 v) (h : DataW.Trod enc Tryd.prog W 0 (fun _ => true) true 23 v d ps) :
    ∃ l : List OpV, Ops W W.heap.size v l ∧ l.length ≤ 9223372036854775807 := by
  obtain ⟨a0, len, cap, rfl⟩ := okWide_slice Tryd.underlying23 hval
  obtain ⟨fuel, hf⟩ := h
  rcases Deep.open_slice Tryd.underlying23 hf with ⟨hcs, _⟩ | ⟨a, len', cap', m, n, D, Pl, hcs, _, hl, hm, hmm, _, hx⟩
  · simp [Value.cells] at hcs
    obtain ⟨rfl, rfl, rfl⟩ := hcs
    exact ⟨[], ⟨none, 0, rfl, Nat.le_refl _, by unfold maxLen; omega, fun h => by cases h⟩, by decide⟩
  · simp [Value.cells] at hcs
    obtain ⟨rfl, rfl, rfl⟩ := hcs
    simp only [if_true] at hmm
    subst hmm
    rw [cells_op] at hx
    have each : ∀ i, i < len → ∃ q : Value × Value × Value × Value × Value × List UInt8 × List UInt8, W.cell? (a.add (i * 5)) = some q.1 ∧ W.cell? (a.add (i * 5 + 1)) = some q.2.1 ∧ W.cell? (a.add (i * 5 + 2)) = some q.2.2.1 ∧ W.cell? (a.add (i * 5 + 3)) = some q.2.2.2.1 ∧ W.cell? (a.add (i * 5 + 4)) = some q.2.2.2.2.1 ∧
        (∃ r, q.1 = .bool r) ∧ (∃ z, q.2.1 = .int .i64 z) ∧ Sl W W.heap.size q.2.2.1 q.2.2.2.2.2.1 ∧ Sl W W.heap.size q.2.2.2.1 q.2.2.2.2.2.2 ∧ (∃ r, q.2.2.2.2.1 = .bool r) := by
      intro i hi
      obtain ⟨cs', h1, h2⟩ := hx i (by omega)
      obtain ⟨_, hlen, hcell⟩ := World.cells?_some h1
      obtain ⟨xs, k, hk, hxy, _, hxl, hfd⟩ := DataW.trod_struct Tryd.underlying37 h2
      match xs, hxl, cs', hlen with
      | [y0, y1, y2, y3, y4], _, [u0, u1, u2, u3, u4], _ =>
        have g0 := hfd 0 _ rfl
        have g1 := hfd 1 _ rfl
        have g2 := hfd 2 _ rfl
        have g3 := hfd 3 _ rfl
        have g4 := hfd 4 _ rfl
        simp [cells_int5, cells_bool, cells_sl5] at g0 g1 g2 g3 g4
        have e0 := hcell 0 (by omega)
        have e1 := hcell 1 (by omega)
        have e2 := hcell 2 (by omega)
        have e3 := hcell 3 (by omega)
        have e4 := hcell 4 (by omega)
        rw [Deep.add_add] at e0 e1 e2 e3 e4
        obtain ⟨z, hz, _⟩ := DataW.trod_int Tryd.underlying3 g1
        simp only [List.cons.injEq, and_true] at hz
        obtain ⟨bs2, s2⟩ := trod_bytes Tryd.underlying22 Tryd.underlying5 cells_u8 g2
        obtain ⟨bs3, s3⟩ := trod_bytes Tryd.underlying22 Tryd.underlying5 cells_u8 g3
        exact ⟨(u0, u1, u2, u3, u4, bs2, bs3), by simpa using e0, by simpa using e1, by simpa using e2, by simpa using e3, by simpa using e4, trod_boolv5 Tryd.underlying4 g0, ⟨z, hz⟩, s2, s3, trod_boolv5 Tryd.underlying4 g4⟩
    obtain ⟨q, hq⟩ := Deep.choose_lt (α := Value × Value × Value × Value × Value × List UInt8 × List UInt8) each
    refine ⟨(List.range len).map fun i => ⟨boolOf (q i).1, intOf' (q i).2.1, (q i).2.2.2.2.2.1, (q i).2.2.2.2.2.2, boolOf (q i).2.2.2.2.1⟩, ⟨some a, m, by simp, by simpa using hl, hm, fun hn => ?_⟩, by unfold maxLen at hm; simp only [List.length_map, List.length_range]; omega⟩
    simp only [List.length_map, List.length_range] at hn
    have h0 := (hq 0 (by omega)).1
    have hsp : a.spot = none := by
      rw [Nat.zero_mul] at h0
      simp only [Addr.add, if_true, World.cell?] at h0
      split at h0
      · split at h0
        · cases h0
        · rename_i hns; simpa using hns
      · cases h0
    obtain ⟨b, off, sp⟩ := a
    simp only at hsp
    subst hsp
    have hb : b < W.heap.size := by
      have := World.block_lt_of_cell? W _ h0
      simpa [Addr.add] using this
    refine ⟨b, off, rfl, hb, fun k hk => ?_⟩
    simp only [List.length_map, List.length_range] at hk
    obtain ⟨c0, c1, c2, c3, c4, ⟨r, hr⟩, ⟨z, hz⟩, s2, s3, ⟨r2, hr2⟩⟩ := hq k (by omega)
    rw [addr_add] at c0 c1 c2 c3 c4
    simp only [List.getElem_map, List.getElem_range]
    refine ⟨(q k).2.2.1, (q k).2.2.2.1, ?_, ?_, ?_, ?_, ?_, s2, s3⟩
    · rw [c0, hr]; rfl
    · rw [Nat.add_assoc, c1, hz]; rfl
    · rw [Nat.add_assoc, c2]
    · rw [Nat.add_assoc, c3]
    · rw [Nat.add_assoc, c4, hr2]; rfl
end
end Go.Proofs.YtanpplniedphkaaDoor
