import Derived.Deep.Slices
import Derived.Deep.SlicePairs
import Derived.BigRegion
import Derived.Deep.RegionWith
import Derived.Deep.RegionHeld
import Derived.Deep.Matrix
import Derived.WideKeyArr2
import Derived.Deep.Grids
import Derived.BigQuiet
import Derived.Deep.QuietTactic
import Derived.StillTailTactics
import Derived.WalkKit
import Derived.Test.YtdakbipiifkmfaaGreatDoorProg
import Derived.WalkSpells
import Derived.WalkLawsBesides
import Derived.Lib.UnsafeStr
import Derived.Lib.Hide
import Derived.Laws.BytesArg
import Derived.Deep.Draws
import Derived.RegionTactic
import Derived.ChangeAlike
import Derived.Laws.AppendOwnNone
import Derived.Laws.Cover3
import Derived.Deep.MidRow
import Derived.Deep.WholeRow
import Derived.Deep.RegionHeld3
import Derived.Test.YtdakbipiifkmfaaGreatDoorRows
import Derived.ProofKit
import Derived.OpenShut
import Derived.JoinedCond
import Derived.SizedLaws
import Derived.Carry
import Derived.Lib.ConvBytes
import Derived.Lib.AtoiErrMem
import Derived.Laws.AppendOwn
import Derived.Deep.RegionLaw
import Derived.Laws.CopyOwn
import Derived.DeepKeys
import Derived.Lib.SmallJoins
import Derived.Test.YtdakbipiifkmfaaGreatDoorHX
namespace Go.Proofs.YtdakbipiifkmfaaGreatDoor
open Go.ChangeShapes Go.WideShapes Go.ChangeAt Go.RowKit
set_option maxRecDepth 100000
section
variable {H : Type} {enc : TypeId × Value -> H} {P : Program}
theorem trod_bytes11 {W : World} {n : Nat} {t e : TypeId} {v : Value} {y : DataW H × List MemPlace} (ht : P.underlying t = some (.slice e)) (he : P.underlying e = some (.int .u8)) (hc : P.cellsOf e = 1)
  (h : DataW.trod enc P W 0 (fun _ => true) true n t [v] = some y) : ∃ bs : List UInt8, Sl W W.heap.size v bs := by
 rcases open_ints ht he hc h with ⟨hcs, _⟩ | ⟨a, len, cap, zs, hcs, _, hl, hm, hz, _, hcell, hwz⟩
 ·simp only [List.cons.injEq, and_true] at hcs;subst hcs;exact ⟨[], Sl.nil_⟩
 ·simp only [List.cons.injEq, and_true] at hcs;subst hcs;have hzl : zs.length = cap := by simpa using hz
  have hbl : ((zs.take len).map fun z => UInt8.ofNat z.toNat).length = len := by simp; omega
  refine ⟨(zs.take len).map fun z => UInt8.ofNat z.toNat, ⟨some a, cap, by rw [hbl], by omega, hm, fun hn => ?_⟩⟩;rw [hbl] at hn;have h0 := hcell 0 (by omega);have hsp : a.spot = none := by
   simp only [Addr.add, if_true, World.cell?] at h0
   split at h0
   ·split at h0
    ·cases h0
    ·rename_i hns; simpa using hns
   ·cases h0
  obtain ⟨b, off, sp⟩ := a;simp only at hsp;subst hsp;have hb : b < W.heap.size := by
   have := World.block_lt_of_cell? W _ h0
   simpa [Addr.add] using this
  refine ⟨b, off, rfl, hb, fun k hk => ?_⟩;rw [hbl] at hk;have hck := hcell k (by omega);rw [addr_add] at hck;rw [hck];have hkz : k < zs.length := by omega
  have hwf := hwz zs[k] (List.getElem_mem hkz);have hg : zs.getD k 0 = zs[k] := by simp [List.getD, List.getElem?_eq_getElem hkz]
  have hr : 0 <= zs[k] /\ zs[k] <= 255 := by simpa [Lit.wf, IntKind.min, IntKind.max, IntKind.signed, IntKind.bits] using hwf
  have hu : ((UInt8.ofNat zs[k].toNat).toNat : Int) = zs[k] := by
   have : (UInt8.ofNat zs[k].toNat).toNat = zs[k].toNat := by simp; omega
   rw [this]; omega
  rw [hg];simp only [List.getElem_map, List.getElem_take];rw [hu]
theorem cells_sl11 : Tryz.prog.cellsOf 23 = 1 := by kernel_rfl
theorem cells_key11 : Tryz.prog.cellsOf 25 = 3 := by kernel_rfl
theorem open_key {W : World} {base : Nat} {v : Value} {d : DataW H} {ps : List MemPlace} (hval : Value.okWide Tryz.prog W .any base 25 v) (h : DataW.Trod enc Tryz.prog W 0 (fun _ => true) true 25 v d ps) :
  ∃ (vs vp vb : Value) (sd pf pb : List UInt8), v = keyV vs vp vb /\ Sl W W.heap.size vs sd /\ Sl W W.heap.size vp pf /\ Sl W W.heap.size vb pb := by
 simp only [Value.okWide, Tryz.underlying25] at hval;obtain ⟨xs, rfl, hsz, _⟩ := hval;rw [cells_key11] at hsz;obtain ⟨fuel, hf⟩ := h;obtain ⟨ys, k, hk, hxy, _, hxl, hfd⟩ := DataW.trod_struct Tryz.underlying25 hf;have hzs : xs.toList.length = 3 := by simpa using hsz
 have hag : Value.agg xs = .agg xs.toList.toArray := by simp
 rw [hag];simp only [Value.cells] at hfd;generalize xs.toList = L at hzs hfd ⊢
 match ys, hxl, L, hzs with
 | [y0, y1, y2], _, [u0, u1, u2], _ =>
  have g0 := hfd 0 _ rfl;have g1 := hfd 1 _ rfl;have g2 := hfd 2 _ rfl;simp [cells_sl11] at g0 g1 g2;obtain ⟨bs0, s0⟩ := trod_bytes11 Tryz.underlying23 Tryz.underlying5 cells_u8 g0;obtain ⟨bs1, s1⟩ := trod_bytes11 Tryz.underlying23 Tryz.underlying5 cells_u8 g1;obtain ⟨bs2, s2⟩ := trod_bytes11 Tryz.underlying23 Tryz.underlying5 cells_u8 g2;exact ⟨u0, u1, u2, bs0, bs1, bs2, rfl, s0, s1, s2⟩
end
end Go.Proofs.YtdakbipiifkmfaaGreatDoor
