import Derived.WalkKit
import Derived.Test.YtdakbipiifkmfaaGreatDoorProg
import Derived.WalkSpells
import Derived.WalkLawsBesides
import Derived.Lib.UnsafeStr
import Derived.Lib.Hide
import Derived.Laws.BytesArg
import Derived.Deep.Draws
import Derived.RegionTactic
import Derived.ChangeAlike
import Derived.Laws.AppendOwnNone
import Derived.BigQuiet
import Derived.Deep.QuietTactic
import Derived.Lib.ConvBytes
import Derived.Lib.AtoiErrMem
import Derived.Laws.AppendOwn
import Derived.StillTailTactics
import Derived.BigRegion
import Derived.Deep.RegionWith
import Derived.Deep.RegionHeld
import Derived.Laws.Cover3
import Derived.Test.YtdakbipiifkmfaaGreatDoorRows
import Derived.ProofKit
import Derived.OpenShut
import Derived.JoinedCond
import Derived.SizedLaws
import Derived.Carry
import Derived.Deep.Grids
import Derived.Deep.RegionHeld3
import Derived.Laws.CopyOwn
import Derived.Deep.RegionLaw
import Derived.DeepKeys
import Derived.Lib.SmallJoins
import Derived.Deep.MidRow
import Derived.Deep.WholeRow
import Derived.Laws.EntriesVeiled
import Derived.Test.YtdakbipiifkmfaaGreatDoorGJ
namespace Go.Proofs.YtdakbipiifkmfaaGreatDoor
open Go.RowKit
set_option maxRecDepth 100000
def WalkIs (w : World) (v : Value) (bs : List UInt8) (e : Ending) (w' : World) : Prop := ∃ r, e = .returned r /\ Sl w' w'.heap.size r bs /\ Below w.heap.size w w' /\ ∀ g, g < w.heap.size -> Off g v -> Off g r
theorem withA_again (a : List UInt32) (ha : a.length = 8) (s t s' t' : Nat) : withA (withA a s t) s' t' = withA a s' t' := by
 obtain ⟨a0, a1, a2, a3, a4, a5, a6, a7, rfl⟩ := eight ha;rfl
theorem withA_one (a : List UInt32) (ha : a.length = 8) (s t t' : Nat) : (withA a s t).set 7 (UInt32.ofNat t') = withA a s t' := by
 obtain ⟨a0, a1, a2, a3, a4, a5, a6, a7, rfl⟩ := eight ha;rfl
theorem rows_two {w : World} {g : Nat} {T : TypeId} {a a' : List UInt32} (ha : a'.length = 8) (hw : ∀ s t, withA a' s t = withA a s t) (h : Row w g T (wordCells a')) (st : Nat) (hs : st < 4294967296) (t : Nat) (ht : t < 4294967296) :
  ∃ x6 x7 : Int, w.cell? ⟨g, 6, none⟩ = some (.int .u32 x6) /\ w.frozen? ⟨g, 6, none⟩ = false /\
  (w.setCell ⟨g, 6, none⟩ (.int .u32 (st : Int))).cell? ⟨g, 7, none⟩ = some (.int .u32 x7) /\ (w.setCell ⟨g, 6, none⟩ (.int .u32 (st : Int))).frozen? ⟨g, 7, none⟩ = false /\
  Row ((w.setCell ⟨g, 6, none⟩ (.int .u32 (st : Int))).setCell ⟨g, 7, none⟩ (.int .u32 (t : Int))) g T (wordCells (withA a st t)) := by
 have h1 := wordRow_set h 6 st hs;refine ⟨_, _, wordRow_cell h 6 (by omega), h.free 6, wordRow_cell h1 7 (by rw [List.length_set]; omega), h1.free 7, ?_⟩
 ·have h2 := wordRow_set h1 7 t ht;rw [show (a'.set 6 (UInt32.ofNat st)).set 7 (UInt32.ofNat t) = withA a' st t from rfl, hw] at h2;exact h2
set_option maxHeartbeats 2000000 in
theorem walk1_any (x : S5) (hx : x.ok = true) (g0 px pp : Nat) (vp vb : Value) (seed b : List UInt8) (f k : Nat) (hfk : f + k <= 15) (a : List UInt32) (ha : a.length = 8) (w : World) (hX : Row w px 27 [.int .u32 x.c, .bool x.s, .int .i64 x.n, .int .i64 x.h, .int .i64 x.l]) (hP : Row w pp 142 [vp]) (hK : KeyAt w g0 vp x.s x.n 3 seed) (hb : Sl w w.heap.size vb b) (hbl : b.length = x.n.toNat) (ht : Tabs w) :
  Calls Tryz.prog 129 #[vb, .int .i64 (f : Int), .int .i64 (k : Int), adrV a, .pointer (some ⟨pp, 0, none⟩), .pointer (some ⟨px, 0, none⟩)] w (WalkIs w vb (goB x.s x.n seed a b f k)) := by
 unfold WalkIs;have HKY : Shh (∀ (vk : Value) (key : List UInt8) (W : World), Sl W W.heap.size vk key -> key.length <= 100000 -> Tabs W -> w.heap.size < W.heap.size -> Calls Tryz.prog 121 #[x.v, .int .u8 0, vk] W (KeyIs W w.heap.size x.s x.n 0 key)) := ⟨fun vk key W h1 h2 h3 h4 => keyed_any x hx 0 (by decide) vk key W h1 h2 h3 w.heap.size h4⟩;have HLN : Shh ((∀ k, (goB x.s x.n seed a b f k).length = x.n.toNat) /\ (∀ kind key m, (keyd x.s x.n kind key m).length = x.n.toNat) /\ x.n.toNat <= 32) := ⟨fun k => goB_length hx seed a b f k hbl, fun kind key m => (ok_len hx kind key m).1, (ok_len hx 0 [] []).2⟩;have HGB : Shh (∀ k, goB x.s x.n seed a b f (k + 1) = stepB x.s x.n seed a (f + k) (goB x.s x.n seed a b f k)) := ⟨fun k => rfl⟩;have HKA : Shh (KeyAt w g0 vp x.s x.n 3 seed /\ Row w px 27 [.int .u32 x.c, .bool x.s, .int .i64 x.n, .int .i64 x.h, .int .i64 x.l] /\ Row w pp 142 [vp] /\ Tabs w) := ⟨hK, hX, hP, ht⟩;obtain ⟨W, hW⟩ : ∃ W, W = w.alloc (.cells (wordCells a).toArray 64) := ⟨_, rfl⟩;have HW : Shh (Row W w.heap.size 64 (wordCells a) /\ Sl W W.heap.size vb (goB x.s x.n seed a b f 0) /\ Below w.heap.size w W) := by
  rw [hW];exact ⟨Row.new_ rfl rfl, hb.go (below1 _ _), below1 _ _⟩
 have HO0 : Shh (Off w.heap.size vb) := ⟨hb.off (Nat.le_refl _)⟩;clear hb hbl hx hK hX hP ht;unfold S5.v at HKY;unfold adrV;have HA : Shh (a.length = 8) := ⟨ha⟩;have HLA : Shh ((wordCells a).length = 8 /\ ∀ s t, (wordCells (withA a s t)).length = 8) := ⟨by rw [wordCells_length]; exact ha, fun s t => by rw [wordCells_length, withA_length]; exact ha⟩;clear ha;generalize x.c = xc at *;generalize x.s = xs at *;generalize x.n = xn at *;generalize x.h = xh at *;generalize x.l = xl at *;go_enter Tryz.func129, Tryz.ntmps129;go_wp2;rw [<- hW];clear hW;go_loopw [0, 16] (fun o i wr => ∃ (j : Nat) (a' : List UInt32), j <= k /\ i = .int .i64 (j : Int) /\ Shh (a'.length = 8 /\ (∀ s t, withA a' s t = withA a s t) /\ Row wr w.heap.size 64 (wordCells a') /\ Below w.heap.size w wr) /\ Shh (Sl wr wr.heap.size o (goB xs xn seed a b f j) /\ Off w.heap.size o /\ ∀ g, g < w.heap.size -> Off g vb -> Off g o)) (fun _ i _ => k - (intOf i).toNat)
 case atStart => exact ⟨0, a, Nat.zero_le _, rfl, ⟨HA.out, fun _ _ => rfl, HW.out.1, HW.out.2.2⟩, ⟨HW.out.2.1, HO0.out, fun _ _ h => h⟩⟩
 case round =>
  clear HW;obtain ⟨j, a', hj, rfl, HL, HB⟩ := hrel;have hl3 := HB.out.1;obtain ⟨Ab, cb, rfl, _, _⟩ := hl3.form;clear hl3
  by_cases hlt : j < k
  ·obtain ⟨st, hst⟩ : ∃ st, st = f + j := ⟨_, rfl⟩;have hst2 : st <= 15 := by omega
   have hsum : (f : Int) + (j : Int) = (st : Int) := by omega
   have q1 : (st : Int) % 4294967296 = (st : Int) := by omega
   obtain ⟨bk, hbk⟩ : ∃ bk, bk = goB xs xn seed a b f j := ⟨_, rfl⟩;obtain ⟨ta, hta⟩ : ∃ ta, ta = adrB (withA a st 0) := ⟨_, rfl⟩;obtain ⟨tb, htb⟩ : ∃ tb, tb = adrB (withA a st 1) := ⟨_, rfl⟩;obtain ⟨kb, hkb⟩ : ∃ kb, kb = keyd xs xn 3 seed ta := ⟨_, rfl⟩;obtain ⟨mb, hmb⟩ : ∃ mb, mb = keyd xs xn 3 seed tb := ⟨_, rfl⟩;obtain ⟨xb, hxb⟩ : ∃ xb, xb = List.zipWith (· ^^^ ·) bk mb := ⟨_, rfl⟩;obtain ⟨nb, hnb⟩ : ∃ nb, nb = keyd xs xn 0 kb xb := ⟨_, rfl⟩;have HN : Shh (nb = goB xs xn seed a b f (j + 1)) := ⟨by rw [hnb, hxb, hmb, hkb, htb, hta, hbk, hst]; exact (HGB.out j).symm⟩;have HQ : Shh (kb = keyd xs xn 3 seed (adrB (withA a st 0)) /\ mb = keyd xs xn 3 seed (adrB (withA a st 1)) /\ pairE bk mb = 0 /\ xored bk mb = xb /\ nb = keyd xs xn 0 kb xb) := by
    have l1 := HLN.out.1 j;rw [<- hbk] at l1;have l2 := HLN.out.2.1 3 seed tb;rw [<- hmb] at l2;refine ⟨by rw [hkb, hta], by rw [hmb, htb], by unfold pairE; rw [if_pos (by omega)], by unfold xored; rw [if_pos (by omega), hxb], hnb⟩
   have HLL : Shh (bk.length <= 32 /\ kb.length <= 32 /\ xb.length <= 32 /\ mb.length <= 32) := by
    have l1 := HLN.out.1 j;rw [<- hbk] at l1;have l2 := HLN.out.2.1 3 seed tb;rw [<- hmb] at l2;have l3 := HLN.out.2.1 3 seed ta;rw [<- hkb] at l3;have l4 := HLN.out.2.2;exact ⟨by omega, by omega, by rw [hxb, List.length_zipWith]; omega, by omega⟩
   rw [<- hbk] at HB;rw [show (goB xs xn seed a b f j).length = bk.length by rw [hbk]] at *;clear hta htb hkb hmb hxb hnb hbk HGB hst;obtain ⟨x6, x7, c6, f6, c7, f7, r1⟩ := rows_two HL.out.1 HL.out.2.1 HL.out.2.2.1 st (by omega) 0 (by decide);obtain ⟨Z1, hZ1⟩ : ∃ Z1, Z1 = (wr.setCell ⟨w.heap.size, 6, none⟩ (.int .u32 (st : Int))).setCell ⟨w.heap.size, 7, none⟩ (.int .u32 0) := ⟨_, rfl⟩;have HZ1 : Shh (Row Z1 w.heap.size 64 (wordCells (withA a st 0)) /\ Row Z1 px 27 [.int .u32 xc, .bool xs, .int .i64 xn, .int .i64 xh, .int .i64 xl] /\ Row Z1 pp 142 [vp] /\ KeyAt Z1 g0 vp xs xn 3 seed /\ Tabs Z1 /\ Sl Z1 Z1.heap.size (.slice Ab bk.length cb) bk /\ Below w.heap.size w Z1) := by
    have bz : Below w.heap.size w Z1 := by rw [hZ1]; exact (HL.out.2.2.2.setCell (Nat.le_refl _) _).setCell (Nat.le_refl _) _
    have s1 : Sl Z1 Z1.heap.size (.slice Ab bk.length cb) bk := by
     have hbu : But wr.heap.size w.heap.size wr Z1 := by rw [hZ1]; exact ((But.refl _ _ _).setCell _ _).setCell _ _
     exact (HB.out.1.but HB.out.2.1 hbu).more hbu.size
    exact ⟨by rw [hZ1]; exact r1, HKA.out.2.1.go bz, HKA.out.2.2.1.go bz, HKA.out.1.go bz, HKA.out.2.2.2.go bz, s1, bz⟩
   have HB2 : Shh (Off w.heap.size (.slice Ab bk.length cb) /\ ∀ g, g < w.heap.size -> Off g vb -> Off g (.slice Ab bk.length cb)) := ⟨HB.out.2⟩;have ep : ((wr.setCell ⟨w.heap.size, 6, none⟩ (.int .u32 (st : Int))).setCell ⟨w.heap.size, 7, none⟩ (.int .u32 0)).cell? ⟨pp, 0, none⟩ = some vp := by rw [<- hZ1]; exact HZ1.out.2.2.1.cell 0
   clear HB HL r1;have a1 : (wordCells (withA a st 0)).length = 8 := HLA.out.2 st 0
   go_wp2_with (first | (rw [<- hZ1]; refine wpList_load_any rfl 64 (.tmp 9) rfl w.heap.size rfl 64 _ _ HZ1.out.1 Tryz.underlying64 rfl (info_adr10 a1) ?_) | (go_at_call 130; rw [<- hZ1]; refine (of_any g0 vp xs xn 3 seed (withA a st 0) (by rw [withA_length]; exact HA.out) _ HZ1.out.2.2.2.1 HZ1.out.2.2.2.2.1).mono ?_))
   try rw [<- hZ1]
   unfold NewSl;rintro e w3 ⟨vk, rfl, s3, b3, o3⟩;rw [<- HQ.out.1] at s3;obtain ⟨Ak, ck, rfl, _, _⟩ := s3.form;have H3 : Shh (Row w3 w.heap.size 64 (wordCells (withA a st 0)) /\ Sl w3 w3.heap.size (.slice Ab bk.length cb) bk /\ Sl w3 w3.heap.size (.slice Ak kb.length ck) kb /\ Off w.heap.size (.slice Ak kb.length ck) /\ Below w.heap.size w w3) := ⟨HZ1.out.1.go b3, HZ1.out.2.2.2.2.2.1.go b3, s3, o3 _ HZ1.out.1.lt, HZ1.out.2.2.2.2.2.2.trans (b3.mono HZ1.out.2.2.2.2.2.2.size)⟩;clear HZ1 s3 b3 o3 c6 f6 c7 f7 ep hZ1;obtain ⟨y7, d7⟩ : ∃ y7 : Int, w3.cell? ⟨w.heap.size, 7, none⟩ = some (.int .u32 y7) := ⟨_, wordRow_cell H3.out.1 7 (by rw [withA_length, HA.out]; decide)⟩;have g7 := H3.out.1.free 7;obtain ⟨Z2, hZ2⟩ : ∃ Z2, Z2 = w3.setCell ⟨w.heap.size, 7, none⟩ (.int .u32 1) := ⟨_, rfl⟩;have HZ2 : Shh (Row Z2 w.heap.size 64 (wordCells (withA a st 1)) /\ Row Z2 px 27 [.int .u32 xc, .bool xs, .int .i64 xn, .int .i64 xh, .int .i64 xl] /\ Row Z2 pp 142 [vp] /\ KeyAt Z2 g0 vp xs xn 3 seed /\ Tabs Z2 /\ Sl Z2 Z2.heap.size (.slice Ab bk.length cb) bk /\ Sl Z2 Z2.heap.size (.slice Ak kb.length ck) kb /\ Below w.heap.size w Z2) := by
    have bz : Below w.heap.size w Z2 := by rw [hZ2]; exact H3.out.2.2.2.2.setCell (Nat.le_refl _) _
    have hbu : But w3.heap.size w.heap.size w3 Z2 := by rw [hZ2]; exact (But.refl _ _ _).setCell _ _
    refine ⟨?_, HKA.out.2.1.go bz, HKA.out.2.2.1.go bz, HKA.out.1.go bz, HKA.out.2.2.2.go bz, (H3.out.2.1.but HB2.out.1 hbu).more hbu.size, (H3.out.2.2.1.but H3.out.2.2.2.1 hbu).more hbu.size, bz⟩;rw [<- withA_one a HA.out st 0 1, hZ2];exact wordRow_set H3.out.1 7 1 (by decide)
   have ep2 : (w3.setCell ⟨w.heap.size, 7, none⟩ (.int .u32 1)).cell? ⟨pp, 0, none⟩ = some vp := by rw [<- hZ2]; exact HZ2.out.2.2.1.cell 0
   clear H3;have a2 : (wordCells (withA a st 1)).length = 8 := HLA.out.2 st 1
   go_wp2_with (first | (rw [<- hZ2]; refine wpList_load_any rfl 64 (.tmp 9) rfl w.heap.size rfl 64 _ _ HZ2.out.1 Tryz.underlying64 rfl (info_adr10 a2) ?_) | (go_at_call 130; rw [<- hZ2]; refine (of_any g0 vp xs xn 3 seed (withA a st 1) (by rw [withA_length]; exact HA.out) _ HZ2.out.2.2.2.1 HZ2.out.2.2.2.2.1).mono ?_))
   try rw [<- hZ2]
   unfold NewSl;rintro e w4 ⟨vm, rfl, s4, b4, o4⟩;rw [<- HQ.out.2.1] at s4;obtain ⟨Am, cm, rfl, _, _⟩ := s4.form;have H4 : Shh (Row w4 w.heap.size 64 (wordCells (withA a st 1)) /\ Sl w4 w4.heap.size (.slice Ab bk.length cb) bk /\ Sl w4 w4.heap.size (.slice Ak kb.length ck) kb /\ Sl w4 w4.heap.size (.slice Am mb.length cm) mb /\ Below w.heap.size w w4) := ⟨HZ2.out.1.go b4, HZ2.out.2.2.2.2.2.1.go b4, HZ2.out.2.2.2.2.2.2.1.go b4, s4, HZ2.out.2.2.2.2.2.2.2.trans (b4.mono HZ2.out.2.2.2.2.2.2.2.size)⟩;clear HZ2 s4 b4 o4 d7 g7 ep2 hZ2
   go_wp2_with (go_at_call 112; refine (xor_any w4.heap.size w4.heap.size _ _ bk mb w4 H4.out.2.1 H4.out.2.2.2.1 (Nat.le_refl _) (Nat.le_refl _) (by have := HLL.out; omega) (by have := HLL.out; omega)).mono ?_)
   unfold PutIs;rintro e w5 ⟨vx, rfl, g5⟩;rw [HQ.out.2.2.1];rw [HQ.out.2.2.2.1] at g5;obtain ⟨Ax, cx, rfl⟩ := own_form g5.1;have H5 : Shh (Row w5 w.heap.size 64 (wordCells (withA a st 1)) /\ Row w5 px 27 [.int .u32 xc, .bool xs, .int .i64 xn, .int .i64 xh, .int .i64 xl] /\ Sl w5 w5.heap.size (.slice Ak kb.length ck) kb /\ Sl w5 w5.heap.size (.slice Ax xb.length cx) xb /\ Tabs w5 /\ Below w.heap.size w w5) := by
    have bz : Below w.heap.size w w5 := H4.out.2.2.2.2.trans (g5.2.mono H4.out.2.2.2.2.size);exact ⟨H4.out.1.go g5.2, HKA.out.2.1.go bz, H4.out.2.2.1.go g5.2, gives_sl g5, HKA.out.2.2.2.go bz, bz⟩
   clear H4 g5
   go_wp2_with (first | refine wpList_load_any rfl 27 (.tmp 5) rfl px rfl 27 [.int .u32 xc, .bool xs, .int .i64 xn, .int .i64 xh, .int .i64 xl] _ H5.out.2.1 Tryz.underlying27 rfl info_xms ?_ | (go_at_call 121; refine (HKY.out _ kb w5 H5.out.2.2.1 (by have := HLL.out; omega) H5.out.2.2.2.2.1 H5.out.1.lt).mono ?_))
   unfold KeyIs;rintro e w6 ⟨v6, rfl, k6, b6⟩;obtain ⟨F, q7, q8, rfl, hcf, kf⟩ := k6;have KF := Shh.mk kf;have H6 : Shh (Row w6 w.heap.size 64 (wordCells (withA a st 1)) /\ Sl w6 w6.heap.size (.slice Ax xb.length cx) xb /\ Tabs w6 /\ Below w.heap.size w w6) := ⟨H5.out.1.go b6, H5.out.2.2.2.1.go b6, H5.out.2.2.2.2.1.go b6, H5.out.2.2.2.2.2.trans (b6.mono H5.out.2.2.2.2.2.size)⟩;clear H5 b6 kf
   go_wp2_with (with_reducible show Calls Tryz.prog F _ _ _; refine (KF.out w6 _ xb (But.refl _ _ _) H6.out.2.2.1 H6.out.2.1 (by have := HLL.out; omega)).mono ?_)
   unfold NewSl;rintro e w7 ⟨v7, rfl, s7, b7, o7⟩;rw [<- HQ.out.2.2.2.2, HN.out] at s7;have H7 : Shh (Row w7 w.heap.size 64 (wordCells (withA a st 1)) /\ Below w.heap.size w w7) := ⟨H6.out.1.go b7, H6.out.2.2.2.trans (b7.mono H6.out.2.2.2.size)⟩;have H8 : Shh (Sl w7 w7.heap.size v7 (goB xs xn seed a b f (j + 1)) /\ Off w.heap.size v7 /\ ∀ g, g < w.heap.size -> Off g vb -> Off g v7) := ⟨s7, o7 _ H6.out.1.lt, fun g hg _ => o7 g (Nat.lt_of_lt_of_le hg H6.out.2.2.2.size)⟩;have H9 : Shh ((withA a st 1).length = 8 /\ (∀ s t, withA (withA a st 1) s t = withA a s t) /\ Row w7 w.heap.size 64 (wordCells (withA a st 1)) /\ Below w.heap.size w w7) := ⟨by rw [withA_length]; exact HA.out, fun s t => withA_again a HA.out st 1 s t, H7.out⟩;clear H6 s7 b7 o7 KF hcf H7 HQ HN HLL HB2;go_wp2
   go_roundw
   case rel => exact ⟨j + 1, _, by omega, by go_num, H9, H8⟩
   case measure => simp [intOf]; omega
  ·obtain rfl : j = k := by omega
   have HR : Shh (Sl wr wr.heap.size (.slice Ab (goB xs xn seed a b f j).length cb) (goB xs xn seed a b f j) /\ Below w.heap.size w wr /\ ∀ g, g < w.heap.size -> Off g vb -> Off g (.slice Ab (goB xs xn seed a b f j).length cb)) := ⟨HB.out.1, HL.out.2.2.2, HB.out.2.2⟩;clear HB HL HGB HLN;go_wp2;go_ret;exact ⟨_, rfl, HR.out⟩
end Go.Proofs.YtdakbipiifkmfaaGreatDoor
namespace Go.Proofs.YtdakbipiifkmfaaGreatDoor
open Go.RowKit
set_option maxRecDepth 100000
def WalkAt (w : World) (g : Nat) (v : Value) (x : S5) (seed : List UInt8) : Prop :=
 ∃ F c1 c2, v = .func (.func F) #[] #[c1, c2] /\ (∀ (xs : Array Value) (W : World), (callFunc F xs).run Tryz.prog W = .ok (.enter F xs) W) /\ ∀ (W : World) (vb : Value) (b : List UInt8) (f k : Nat) (a : List UInt32), But w.heap.size g w W -> Tabs W -> Sl W W.heap.size vb b -> b.length = x.n.toNat -> f + k <= 15 -> a.length = 8 -> Calls Tryz.prog F #[vb, .int .i64 (f : Int), .int .i64 (k : Int), adrV a, c1, c2] W (WalkIs W vb (goB x.s x.n seed a b f k))
theorem WalkAt.but {w w' : World} {g : Nat} {v : Value} {x : S5} {seed : List UInt8} (h : WalkAt w g v x seed) (b : But w.heap.size g w w') : WalkAt w' g v x seed := by
 obtain ⟨F, c1, c2, rfl, hf, h⟩ := h;exact ⟨F, c1, c2, rfl, hf, fun W vb b' f k a hb => h W vb b' f k a (b.chain hb)⟩
theorem WalkAt.go {w w' : World} {g : Nat} {v : Value} {x : S5} {seed : List UInt8} (h : WalkAt w g v x seed) (b : Below w.heap.size w w') : WalkAt w' g v x seed := h.but (But.of b g)
def StartAt (w : World) (g : Nat) (v : Value) (x : S5) (sk seed : List UInt8) : Prop :=
 ∃ F c1 c2, v = .func (.func F) #[] #[c1, c2] /\ (∀ (xs : Array Value) (W : World), (callFunc F xs).run Tryz.prog W = .ok (.enter F xs) W) /\ ∀ (W : World) (a : List UInt32), But w.heap.size g w W -> Tabs W -> a.length = 8 -> Calls Tryz.prog F #[adrV a, c1, c2] W (NewSl W (keyd x.s x.n 4 sk (seed ++ adrB (withA a 0 0))))
theorem StartAt.but {w w' : World} {g : Nat} {v : Value} {x : S5} {sk seed : List UInt8} (h : StartAt w g v x sk seed) (b : But w.heap.size g w w') : StartAt w' g v x sk seed := by
 obtain ⟨F, c1, c2, rfl, hf, h⟩ := h;exact ⟨F, c1, c2, rfl, hf, fun W a hb => h W a (b.chain hb)⟩
theorem StartAt.go {w w' : World} {g : Nat} {v : Value} {x : S5} {sk seed : List UInt8} (h : StartAt w g v x sk seed) (b : Below w.heap.size w w') : StartAt w' g v x sk seed := h.but (But.of b g)
def WalkerIs (w : World) (g : Nat) (x : S5) (seed : List UInt8) (e : Ending) (w' : World) : Prop := ∃ v, e = .returned v /\ WalkAt w' g v x seed /\ Below w.heap.size w w'
set_option maxHeartbeats 1000000 in
theorem walker_any (x : S5) (hx : x.ok = true) (vs : Value) (seed : List UInt8) (w : World) (hs : Sl w w.heap.size vs seed) (hl : seed.length <= 100000) (ht : Tabs w) (g : Nat) (hg : g < w.heap.size) :
  Calls Tryz.prog 105 #[x.v, vs] w (WalkerIs w g x seed) := by
 unfold WalkerIs;have hmf : ∀ (fn : Fn) (first cap : Array Value) (w : World), (Instr.makeFunc fn first cap).run Tryz.prog w = .ok (.func fn first cap) w := fun _ _ _ _ => rfl
 have HKY : Shh (∀ (W : World), Sl W W.heap.size vs seed -> Tabs W -> g < W.heap.size -> Calls Tryz.prog 121 #[x.v, .int .u8 3, vs] W (KeyIs W g x.s x.n 3 seed)) := ⟨fun W h1 h2 h3 => keyed_any x hx 3 (by decide) vs seed W h1 hl h2 g h3⟩;have HFN : Shh (∀ (px pp : Nat) (vp : Value) (w : World), px ≠ g -> pp ≠ g -> Row w px 27 [.int .u32 x.c, .bool x.s, .int .i64 x.n, .int .i64 x.h, .int .i64 x.l] -> Row w pp 142 [vp] -> KeyAt w g vp x.s x.n 3 seed -> WalkAt w g (.func (.func 129) #[] #[.pointer (some ⟨pp, 0, none⟩), .pointer (some ⟨px, 0, none⟩)]) x seed) := ⟨fun px pp vp w n1 n2 h1 h2 h3 => ⟨_, _, _, rfl, fun _ _ => by kernel_rfl, fun W vb b f k a hb hT hsb hbl hfk ha => walk1_any x hx g px pp vp vb seed b f k hfk a ha W (hb.row h1 h1.lt n1) (hb.row h2 h2.lt n2) (h3.but hb) hsb hbl hT⟩⟩;obtain ⟨As, cs, rfl, _, _⟩ := hs.form;obtain ⟨W, hW⟩ : ∃ W, W = w.alloc (.cells #[.int .u32 x.c, .bool x.s, .int .i64 x.n, .int .i64 x.h, .int .i64 x.l] 27) := ⟨_, rfl⟩;have HW : Shh (Row W w.heap.size 27 [.int .u32 x.c, .bool x.s, .int .i64 x.n, .int .i64 x.h, .int .i64 x.l] /\ Sl W W.heap.size (.slice As seed.length cs) seed /\ Tabs W /\ Below w.heap.size w W) := by
  rw [hW];exact ⟨Row.new_ rfl rfl, hs.go (below1 _ _), ht.go (below1 _ _), below1 _ _⟩
 clear hs hx ht;obtain ⟨X, hX⟩ : ∃ X, X = x := ⟨_, rfl⟩;have HF2 : Shh (∀ (px pp : Nat) (vp : Value) (w : World), px ≠ g -> pp ≠ g -> Row w px 27 [.int .u32 x.c, .bool x.s, .int .i64 x.n, .int .i64 x.h, .int .i64 x.l] -> Row w pp 142 [vp] -> KeyAt w g vp x.s x.n 3 seed -> WalkAt w g (.func (.func 129) #[] #[.pointer (some ⟨pp, 0, none⟩), .pointer (some ⟨px, 0, none⟩)]) X seed) := by rw [hX]; exact HFN
 rw [<- hX];rw [hX];have HG : Shh (∀ e w', (∃ v, e = Ending.returned v /\ WalkAt w' g v X seed /\ Below w.heap.size w w') -> (∃ v, e = Ending.returned v /\ WalkAt w' g v x seed /\ Below w.heap.size w w')) := by rw [hX]; exact ⟨fun _ _ h => h⟩
 refine Calls.mono (R := fun e w' => ∃ v, e = Ending.returned v /\ WalkAt w' g v X seed /\ Below w.heap.size w w') ?_ HG.out;clear HG HFN hX;unfold S5.v at HKY ⊢;generalize x.c = xc at *;generalize x.s = xs at *;generalize x.n = xn at *;generalize x.h = xh at *;generalize x.l = xl at *;go_enter Tryz.func105, Tryz.ntmps105
 go_wp2_with (first | (rw [<- hW]; refine wpList_load_any rfl 27 (.tmp 2) rfl w.heap.size rfl 27 [.int .u32 xc, .bool xs, .int .i64 xn, .int .i64 xh, .int .i64 xl] _ HW.out.1 Tryz.underlying27 rfl info_xms ?_) | (go_at_call 121; rw [<- hW]; refine (HKY.out _ HW.out.2.1 HW.out.2.2.1 (Nat.lt_of_lt_of_le hg HW.out.2.2.2.size)).mono ?_))
 clear hW;unfold KeyIs;rintro e w2 ⟨vp, rfl, k2, b2⟩;obtain ⟨Z, hZ⟩ : ∃ Z, Z = w2.alloc (.cells #[vp] 142) := ⟨_, rfl⟩;have HR : Shh (WalkAt Z g (.func (.func 129) #[] #[.pointer (some ⟨w2.heap.size, 0, none⟩), .pointer (some ⟨w.heap.size, 0, none⟩)]) X seed /\ Below w.heap.size w Z) := by
  have bz : Below w2.heap.size w2 Z := by rw [hZ]; exact below1 _ _
  have q0 := (Below.chain HW.out.2.2.2 b2).size;exact ⟨HF2.out w.heap.size w2.heap.size vp Z (by omega) (by omega) ((HW.out.1.go b2).go bz) (by rw [hZ]; exact Row.new_ rfl rfl) (k2.go bz), Below.chain (Below.chain HW.out.2.2.2 b2) bz⟩
 obtain ⟨F, q1, q2, rfl, _, _⟩ := k2;clear HW b2 HKY HF2;go_wp2;rw [<- hZ];go_ret;exact ⟨_, rfl, HR.out⟩
end Go.Proofs.YtdakbipiifkmfaaGreatDoor
namespace Go.Proofs.YtdakbipiifkmfaaGreatDoor
open Go.RowKit
set_option maxRecDepth 100000
def ResNew (w : World) (er : Int) (bs : List UInt8) (e : Ending) (w' : World) : Prop := ∃ r, e = .returned (.tuple #[r, .int .i64 er]) /\ Sl w' w'.heap.size r bs /\ Below w.heap.size w w' /\ ∀ g, g < w.heap.size -> Off g r
theorem ResNew.off {u v : Value} {w : World} {er : Int} {bs : List UInt8} {e : Ending} {w' : World} (h : ResNew w er bs e w') : ResOff u v w er bs e w' := by
 obtain ⟨r, a, b, c, d⟩ := h;exact ⟨r, a, b, c, fun g hg _ _ => d g hg⟩
end Go.Proofs.YtdakbipiifkmfaaGreatDoor
namespace Go.Proofs.YtdakbipiifkmfaaGreatDoor
open Go.RowKit
set_option maxRecDepth 100000
section
variable {P : Program} {md : Region.Mode} {ops : Array Oper} {Q : Exit -> Act -> World -> Prop} {S : World -> Prop} {fuel : Nat} {listed : Array Bool} {a : Act}
theorem step_appendSl (w : World) (i : Nat) (ty : TypeId) (dst : Option Tmp) (t e : TypeId) (i0 : TypeInfo) (ht : P.underlying t = some (.slice e)) (hi : P.info? e = some i0) (hz : i0.zero = some (.int .u8 0)) (hsz : i0.size = 1) (hby : i0.bytes = 1)
  (s x : Operand) (hop : (ops[i]?).map (fun o => (o.op, o.type, o.dst)) = some (.call { callee := .builtin .append, args := #[s, x], argTypes := #[t, t] }, ty, dst)) (hw : (ops[i]?).map (fun o => Region.wanted o (yielded ops a.tmps)) = some true)
  {base B0 : Nat} {v : Value} {bs : List UInt8} {y : Value} {cs : List UInt8} (hown : w.ownsRow base e 1 v bs.length (Lib.byteCells bs)) (hy : Sl w B0 y cs) (h0 : 0 < cs.length) (hs : a.eval s = v) (hx : a.eval x = y)
  (hlen : bs.length + cs.length <= 1099511627776) (hbase : base <= w.heap.size)
  (h : ∀ v' w', w'.ownsRow base e 1 v' (bs ++ cs).length (Lib.byteCells (bs ++ cs)) -> w.grownBy w' v.ownBlock -> (∀ B, B <= base -> Below B w w') -> S w' /\ wpAnyH P md ops Q S fuel (listed.setIfInBounds i true) (a.put dst v') w') : HStep P md ops Q S fuel listed a w i := by
 unfold HStep;cases ho : ops[i]? with
 | none => rw [ho] at hop; cases hop
 | some op =>
  rw [ho] at hop hw;simp only [Option.map_some, Option.some.injEq, Prod.mk.injEq] at hop hw;obtain ⟨hop1, _, hop3⟩ := hop;obtain ⟨A, c, rfl, _, _⟩ := hy.form;obtain ⟨b, off, rfl, _, hr⟩ := hy.at_ h0;refine wpOp_step ho fun K' hK => ?_
  rw [if_pos hw];refine wp_append_own w s x t hop1 base e i0 (.int .u8 0) 1 1 ht hi hz hsz hby rfl (by decide) v bs.length (Lib.byteCells bs) hs hown ⟨b, off, none⟩ cs.length c (Lib.byteCells cs) hx (by rw [Lib.byteCells_length, Nat.mul_one]) ?_ (cell_oneCell cs) (by unfold maxLen; omega) (by omega) hbase ?_
  ·intro j u hj;obtain ⟨hjl, rfl⟩ := byteCells_at cs j u hj;rw [addr_add];exact hr j hjl
  ·intro v' w' ho' hg _;rw [hop3];exact hK _ _ (h v' w' (by simpa [Lib.byteCells_append] using ho') hg fun B hB => (Below.refl B w).grown hg (by omega) (fun k hk => by have := (hown.lt k hk).1; omega))
end
theorem atA_again (a : List UInt32) (i j : Nat) : atA (atA a i) j = atA a j := by
 unfold atA;rw [List.set_set]
end Go.Proofs.YtdakbipiifkmfaaGreatDoor
