import Derived.Test.YtdakbipiifkmfaaGreatDoorHJ
import Derived.Laws.EntriesVeiled
import Derived.Test.YtdakbipiifkmfaaGreatDoorHI
/-
 THE PROGRAM'S OWN walker and starter: functions that are handed back.
-/
namespace Go.Proofs.YtdakbipiifkmfaaGreatDoor
open Go.RowKit
set_option maxRecDepth 100000
/-- a slice of bytes that lies in no block that was there, but those of v -/
def WalkIs (w : World) (v : Value) (bs : List UInt8) (e : Ending) (w' : World) : Prop := ∃ r, e = .returned r ∧ Sl w' w'.heap.size r bs ∧ Below w.heap.size w w' ∧ ∀ g, g < w.heap.size → Off g v → Off g r
theorem withA_again (a : List UInt32) (ha : a.length = 8) (s t s' t' : Nat) : withA (withA a s t) s' t' = withA a s' t' := by
 obtain ⟨a0, a1, a2, a3, a4, a5, a6, a7, rfl⟩ := eight ha
 rfl
theorem withA_one (a : List UInt32) (ha : a.length = 8) (s t t' : Nat) : (withA a s t).set 7 (UInt32.ofNat t') = withA a s t' := by
 obtain ⟨a0, a1, a2, a3, a4, a5, a6, a7, rfl⟩ := eight ha
 rfl
theorem rows_two {w : World} {g : Nat} {T : TypeId} {a a' : List UInt32} (ha : a'.length = 8) (hw : ∀ s t, withA a' s t = withA a s t) (h : Row w g T (wordCells a')) (st : Nat) (hs : st < 4294967296) (t : Nat) (ht : t < 4294967296) :
  ∃ x6 x7 : Int, w.cell? ⟨g, 6, none⟩ = some (.int .u32 x6) ∧ w.frozen? ⟨g, 6, none⟩ = false ∧
  (w.setCell ⟨g, 6, none⟩ (.int .u32 (st : Int))).cell? ⟨g, 7, none⟩ = some (.int .u32 x7) ∧ (w.setCell ⟨g, 6, none⟩ (.int .u32 (st : Int))).frozen? ⟨g, 7, none⟩ = false ∧
  Row ((w.setCell ⟨g, 6, none⟩ (.int .u32 (st : Int))).setCell ⟨g, 7, none⟩ (.int .u32 (t : Int))) g T (wordCells (withA a st t)) := by
 have h1 := wordRow_set h 6 st hs
 refine ⟨_, _, wordRow_cell h 6 (by omega), h.free 6, wordRow_cell h1 7 (by rw [List.length_set]; omega), h1.free 7, ?_⟩
 ·have h2 := wordRow_set h1 7 t ht
  rw [show (a'.set 6 (UInt32.ofNat st)).set 7 (UInt32.ofNat t) = withA a' st t from rfl, hw] at h2
  exact h2
set_option maxHeartbeats 2000000 in
theorem walk1_any (x : S5) (hx : x.ok = true) (g0 px pp : Nat) (vp vb : Value) (seed b : List UInt8) (f k : Nat) (hfk : f + k ≤ 15) (a : List UInt32) (ha : a.length = 8) (w : World) (hX : Row w px 27 [.int .u32 x.c, .bool x.s, .int .i64 x.n, .int .i64 x.h, .int .i64 x.l]) (hP : Row w pp 142 [vp]) (hK : KeyAt w g0 vp x.s x.n 3 seed) (hb : Sl w w.heap.size vb b) (hbl : b.length = x.n.toNat) (ht : Tabs w) :
  Calls Tryz.prog 129 #[vb, .int .i64 (f : Int), .int .i64 (k : Int), adrV a, .pointer (some ⟨pp, 0, none⟩), .pointer (some ⟨px, 0, none⟩)] w (WalkIs w vb (goB x.s x.n seed a b f k)) := by
 unfold WalkIs
 have HKY : Shh (∀ (vk : Value) (key : List UInt8) (W : World), Sl W W.heap.size vk key → key.length ≤ 100000 → Tabs W → w.heap.size < W.heap.size → Calls Tryz.prog 121 #[x.v, .int .u8 0, vk] W (KeyIs W w.heap.size x.s x.n 0 key)) := ⟨fun vk key W h1 h2 h3 h4 => keyed_any x hx 0 (by decide) vk key W h1 h2 h3 w.heap.size h4⟩
 have HLN : Shh ((∀ k, (goB x.s x.n seed a b f k).length = x.n.toNat) ∧ (∀ kind key m, (keyd x.s x.n kind key m).length = x.n.toNat) ∧ x.n.toNat ≤ 32) := ⟨fun k => goB_length hx seed a b f k hbl, fun kind key m => (ok_len hx kind key m).1, (ok_len hx 0 [] []).2⟩
 have HGB : Shh (∀ k, goB x.s x.n seed a b f (k + 1) = stepB x.s x.n seed a (f + k) (goB x.s x.n seed a b f k)) := ⟨fun k => rfl⟩
 have HKA : Shh (KeyAt w g0 vp x.s x.n 3 seed ∧ Row w px 27 [.int .u32 x.c, .bool x.s, .int .i64 x.n, .int .i64 x.h, .int .i64 x.l] ∧ Row w pp 142 [vp] ∧ Tabs w) := ⟨hK, hX, hP, ht⟩
 obtain ⟨W, hW⟩ : ∃ W, W = w.alloc (.cells (wordCells a).toArray 64) := ⟨_, rfl⟩
 have HW : Shh (Row W w.heap.size 64 (wordCells a) ∧ Sl W W.heap.size vb (goB x.s x.n seed a b f 0) ∧ Below w.heap.size w W) := by
  rw [hW]
  exact ⟨Row.new_ rfl rfl, hb.go (below1 _ _), below1 _ _⟩
 have HO0 : Shh (Off w.heap.size vb) := ⟨hb.off (Nat.le_refl _)⟩
 clear hb hbl hx hK hX hP ht
 unfold S5.v at HKY
 unfold adrV
 have HA : Shh (a.length = 8) := ⟨ha⟩
 have HLA : Shh ((wordCells a).length = 8 ∧ ∀ s t, (wordCells (withA a s t)).length = 8) := ⟨by rw [wordCells_length]; exact ha, fun s t => by rw [wordCells_length, withA_length]; exact ha⟩
 clear ha
 generalize x.c = xc at *
 generalize x.s = xs at *
 generalize x.n = xn at *
 generalize x.h = xh at *
 generalize x.l = xl at *
 go_enter Tryz.func129, Tryz.ntmps129
 go_wp2
 rw [← hW]
 clear hW
 go_loopw [0, 16] (fun o i wr => ∃ (j : Nat) (a' : List UInt32), j ≤ k ∧ i = .int .i64 (j : Int) ∧ Shh (a'.length = 8 ∧ (∀ s t, withA a' s t = withA a s t) ∧ Row wr w.heap.size 64 (wordCells a') ∧ Below w.heap.size w wr) ∧ Shh (Sl wr wr.heap.size o (goB xs xn seed a b f j) ∧ Off w.heap.size o ∧ ∀ g, g < w.heap.size → Off g vb → Off g o)) (fun _ i _ => k - (intOf i).toNat)
 case atStart => exact ⟨0, a, Nat.zero_le _, rfl, ⟨HA.out, fun _ _ => rfl, HW.out.1, HW.out.2.2⟩, ⟨HW.out.2.1, HO0.out, fun _ _ h => h⟩⟩
 case round =>
  clear HW
  obtain ⟨j, a', hj, rfl, HL, HB⟩ := hrel
  have hl3 := HB.out.1
  obtain ⟨Ab, cb, rfl, _, _⟩ := hl3.form
  clear hl3
  by_cases hlt : j < k
  ·obtain ⟨st, hst⟩ : ∃ st, st = f + j := ⟨_, rfl⟩
   have hst2 : st ≤ 15 := by omega
   have hsum : (f : Int) + (j : Int) = (st : Int) := by omega
   have q1 : (st : Int) % 4294967296 = (st : Int) := by omega
   obtain ⟨bk, hbk⟩ : ∃ bk, bk = goB xs xn seed a b f j := ⟨_, rfl⟩
   obtain ⟨ta, hta⟩ : ∃ ta, ta = adrB (withA a st 0) := ⟨_, rfl⟩
   obtain ⟨tb, htb⟩ : ∃ tb, tb = adrB (withA a st 1) := ⟨_, rfl⟩
   obtain ⟨kb, hkb⟩ : ∃ kb, kb = keyd xs xn 3 seed ta := ⟨_, rfl⟩
   obtain ⟨mb, hmb⟩ : ∃ mb, mb = keyd xs xn 3 seed tb := ⟨_, rfl⟩
   obtain ⟨xb, hxb⟩ : ∃ xb, xb = List.zipWith (· ^^^ ·) bk mb := ⟨_, rfl⟩
   obtain ⟨nb, hnb⟩ : ∃ nb, nb = keyd xs xn 0 kb xb := ⟨_, rfl⟩
   have HN : Shh (nb = goB xs xn seed a b f (j + 1)) := ⟨by rw [hnb, hxb, hmb, hkb, htb, hta, hbk, hst]; exact (HGB.out j).symm⟩
   have HQ : Shh (kb = keyd xs xn 3 seed (adrB (withA a st 0)) ∧ mb = keyd xs xn 3 seed (adrB (withA a st 1)) ∧ pairE bk mb = 0 ∧ xored bk mb = xb ∧ nb = keyd xs xn 0 kb xb) := by
    have l1 := HLN.out.1 j
    rw [← hbk] at l1
    have l2 := HLN.out.2.1 3 seed tb
    rw [← hmb] at l2
    refine ⟨by rw [hkb, hta], by rw [hmb, htb], by unfold pairE; rw [if_pos (by omega)], by unfold xored; rw [if_pos (by omega), hxb], hnb⟩
   have HLL : Shh (bk.length ≤ 32 ∧ kb.length ≤ 32 ∧ xb.length ≤ 32 ∧ mb.length ≤ 32) := by
    have l1 := HLN.out.1 j
    rw [← hbk] at l1
    have l2 := HLN.out.2.1 3 seed tb
    rw [← hmb] at l2
    have l3 := HLN.out.2.1 3 seed ta
    rw [← hkb] at l3
    have l4 := HLN.out.2.2
    exact ⟨by omega, by omega, by rw [hxb, List.length_zipWith]; omega, by omega⟩
   rw [← hbk] at HB
   rw [show (goB xs xn seed a b f j).length = bk.length by rw [hbk]] at *
   clear hta htb hkb hmb hxb hnb hbk HGB hst
   obtain ⟨x6, x7, c6, f6, c7, f7, r1⟩ := rows_two HL.out.1 HL.out.2.1 HL.out.2.2.1 st (by omega) 0 (by decide)
   obtain ⟨Z1, hZ1⟩ : ∃ Z1, Z1 = (wr.setCell ⟨w.heap.size, 6, none⟩ (.int .u32 (st : Int))).setCell ⟨w.heap.size, 7, none⟩ (.int .u32 0) := ⟨_, rfl⟩
   have HZ1 : Shh (Row Z1 w.heap.size 64 (wordCells (withA a st 0)) ∧ Row Z1 px 27 [.int .u32 xc, .bool xs, .int .i64 xn, .int .i64 xh, .int .i64 xl] ∧ Row Z1 pp 142 [vp] ∧ KeyAt Z1 g0 vp xs xn 3 seed ∧ Tabs Z1 ∧ Sl Z1 Z1.heap.size (.slice Ab bk.length cb) bk ∧ Below w.heap.size w Z1) := by
    have bz : Below w.heap.size w Z1 := by rw [hZ1]; exact (HL.out.2.2.2.setCell (Nat.le_refl _) _).setCell (Nat.le_refl _) _
    have s1 : Sl Z1 Z1.heap.size (.slice Ab bk.length cb) bk := by
     have hbu : But wr.heap.size w.heap.size wr Z1 := by rw [hZ1]; exact ((But.refl _ _ _).setCell _ _).setCell _ _
     exact (HB.out.1.but HB.out.2.1 hbu).more hbu.size
    exact ⟨by rw [hZ1]; exact r1, HKA.out.2.1.go bz, HKA.out.2.2.1.go bz, HKA.out.1.go bz, HKA.out.2.2.2.go bz, s1, bz⟩
   have HB2 : Shh (Off w.heap.size (.slice Ab bk.length cb) ∧ ∀ g, g < w.heap.size → Off g vb → Off g (.slice Ab bk.length cb)) := ⟨HB.out.2⟩
   have ep : ((wr.setCell ⟨w.heap.size, 6, none⟩ (.int .u32 (st : Int))).setCell ⟨w.heap.size, 7, none⟩ (.int .u32 0)).cell? ⟨pp, 0, none⟩ = some vp := by rw [← hZ1]; exact HZ1.out.2.2.1.cell 0
   clear HB HL r1
   have a1 : (wordCells (withA a st 0)).length = 8 := HLA.out.2 st 0
   go_wp2_with (first | (rw [← hZ1]; refine wpList_load_any rfl 64 (.tmp 9) rfl w.heap.size rfl 64 _ _ HZ1.out.1 Tryz.underlying64 rfl (info_adr10 a1) ?_) | (go_at_call 130; rw [← hZ1]; refine (of_any g0 vp xs xn 3 seed (withA a st 0) (by rw [withA_length]; exact HA.out) _ HZ1.out.2.2.2.1 HZ1.out.2.2.2.2.1).mono ?_))
   try rw [← hZ1]
   unfold NewSl
   rintro e w3 ⟨vk, rfl, s3, b3, o3⟩
   rw [← HQ.out.1] at s3
   obtain ⟨Ak, ck, rfl, _, _⟩ := s3.form
   have H3 : Shh (Row w3 w.heap.size 64 (wordCells (withA a st 0)) ∧ Sl w3 w3.heap.size (.slice Ab bk.length cb) bk ∧ Sl w3 w3.heap.size (.slice Ak kb.length ck) kb ∧ Off w.heap.size (.slice Ak kb.length ck) ∧ Below w.heap.size w w3) := ⟨HZ1.out.1.go b3, HZ1.out.2.2.2.2.2.1.go b3, s3, o3 _ HZ1.out.1.lt, HZ1.out.2.2.2.2.2.2.trans (b3.mono HZ1.out.2.2.2.2.2.2.size)⟩
   clear HZ1 s3 b3 o3 c6 f6 c7 f7 ep hZ1
   obtain ⟨y7, d7⟩ : ∃ y7 : Int, w3.cell? ⟨w.heap.size, 7, none⟩ = some (.int .u32 y7) := ⟨_, wordRow_cell H3.out.1 7 (by rw [withA_length, HA.out]; decide)⟩
   have g7 := H3.out.1.free 7
   obtain ⟨Z2, hZ2⟩ : ∃ Z2, Z2 = w3.setCell ⟨w.heap.size, 7, none⟩ (.int .u32 1) := ⟨_, rfl⟩
   have HZ2 : Shh (Row Z2 w.heap.size 64 (wordCells (withA a st 1)) ∧ Row Z2 px 27 [.int .u32 xc, .bool xs, .int .i64 xn, .int .i64 xh, .int .i64 xl] ∧ Row Z2 pp 142 [vp] ∧ KeyAt Z2 g0 vp xs xn 3 seed ∧ Tabs Z2 ∧ Sl Z2 Z2.heap.size (.slice Ab bk.length cb) bk ∧ Sl Z2 Z2.heap.size (.slice Ak kb.length ck) kb ∧ Below w.heap.size w Z2) := by
    have bz : Below w.heap.size w Z2 := by rw [hZ2]; exact H3.out.2.2.2.2.setCell (Nat.le_refl _) _
    have hbu : But w3.heap.size w.heap.size w3 Z2 := by rw [hZ2]; exact (But.refl _ _ _).setCell _ _
    refine ⟨?_, HKA.out.2.1.go bz, HKA.out.2.2.1.go bz, HKA.out.1.go bz, HKA.out.2.2.2.go bz, (H3.out.2.1.but HB2.out.1 hbu).more hbu.size, (H3.out.2.2.1.but H3.out.2.2.2.1 hbu).more hbu.size, bz⟩
    rw [← withA_one a HA.out st 0 1, hZ2]
    exact wordRow_set H3.out.1 7 1 (by decide)
   have ep2 : (w3.setCell ⟨w.heap.size, 7, none⟩ (.int .u32 1)).cell? ⟨pp, 0, none⟩ = some vp := by rw [← hZ2]; exact HZ2.out.2.2.1.cell 0
   clear H3
   have a2 : (wordCells (withA a st 1)).length = 8 := HLA.out.2 st 1
   go_wp2_with (first | (rw [← hZ2]; refine wpList_load_any rfl 64 (.tmp 9) rfl w.heap.size rfl 64 _ _ HZ2.out.1 Tryz.underlying64 rfl (info_adr10 a2) ?_) | (go_at_call 130; rw [← hZ2]; refine (of_any g0 vp xs xn 3 seed (withA a st 1) (by rw [withA_length]; exact HA.out) _ HZ2.out.2.2.2.1 HZ2.out.2.2.2.2.1).mono ?_))
   try rw [← hZ2]
   unfold NewSl
   rintro e w4 ⟨vm, rfl, s4, b4, o4⟩
   rw [← HQ.out.2.1] at s4
   obtain ⟨Am, cm, rfl, _, _⟩ := s4.form
   have H4 : Shh (Row w4 w.heap.size 64 (wordCells (withA a st 1)) ∧ Sl w4 w4.heap.size (.slice Ab bk.length cb) bk ∧ Sl w4 w4.heap.size (.slice Ak kb.length ck) kb ∧ Sl w4 w4.heap.size (.slice Am mb.length cm) mb ∧ Below w.heap.size w w4) := ⟨HZ2.out.1.go b4, HZ2.out.2.2.2.2.2.1.go b4, HZ2.out.2.2.2.2.2.2.1.go b4, s4, HZ2.out.2.2.2.2.2.2.2.trans (b4.mono HZ2.out.2.2.2.2.2.2.2.size)⟩
   clear HZ2 s4 b4 o4 d7 g7 ep2 hZ2
   go_wp2_with (go_at_call 112; refine (xor_any w4.heap.size w4.heap.size _ _ bk mb w4 H4.out.2.1 H4.out.2.2.2.1 (Nat.le_refl _) (Nat.le_refl _) (by have := HLL.out; omega) (by have := HLL.out; omega)).mono ?_)
   unfold PutIs
   rintro e w5 ⟨vx, rfl, g5⟩
   rw [HQ.out.2.2.1]
   rw [HQ.out.2.2.2.1] at g5
   obtain ⟨Ax, cx, rfl⟩ := own_form g5.1
   have H5 : Shh (Row w5 w.heap.size 64 (wordCells (withA a st 1)) ∧ Row w5 px 27 [.int .u32 xc, .bool xs, .int .i64 xn, .int .i64 xh, .int .i64 xl] ∧ Sl w5 w5.heap.size (.slice Ak kb.length ck) kb ∧ Sl w5 w5.heap.size (.slice Ax xb.length cx) xb ∧ Tabs w5 ∧ Below w.heap.size w w5) := by
    have bz : Below w.heap.size w w5 := H4.out.2.2.2.2.trans (g5.2.mono H4.out.2.2.2.2.size)
    exact ⟨H4.out.1.go g5.2, HKA.out.2.1.go bz, H4.out.2.2.1.go g5.2, gives_sl g5, HKA.out.2.2.2.go bz, bz⟩
   clear H4 g5
   go_wp2_with (first | refine wpList_load_any rfl 27 (.tmp 5) rfl px rfl 27 [.int .u32 xc, .bool xs, .int .i64 xn, .int .i64 xh, .int .i64 xl] _ H5.out.2.1 Tryz.underlying27 rfl info_xms ?_ | (go_at_call 121; refine (HKY.out _ kb w5 H5.out.2.2.1 (by have := HLL.out; omega) H5.out.2.2.2.2.1 H5.out.1.lt).mono ?_))
   unfold KeyIs
   rintro e w6 ⟨v6, rfl, k6, b6⟩
   obtain ⟨F, q7, q8, rfl, hcf, kf⟩ := k6
   have KF := Shh.mk kf
   have H6 : Shh (Row w6 w.heap.size 64 (wordCells (withA a st 1)) ∧ Sl w6 w6.heap.size (.slice Ax xb.length cx) xb ∧ Tabs w6 ∧ Below w.heap.size w w6) := ⟨H5.out.1.go b6, H5.out.2.2.2.1.go b6, H5.out.2.2.2.2.1.go b6, H5.out.2.2.2.2.2.trans (b6.mono H5.out.2.2.2.2.2.size)⟩
   clear H5 b6 kf
   go_wp2_with (with_reducible show Calls Tryz.prog F _ _ _; refine (KF.out w6 _ xb (But.refl _ _ _) H6.out.2.2.1 H6.out.2.1 (by have := HLL.out; omega)).mono ?_)
   unfold NewSl
   rintro e w7 ⟨v7, rfl, s7, b7, o7⟩
   rw [← HQ.out.2.2.2.2, HN.out] at s7
   have H7 : Shh (Row w7 w.heap.size 64 (wordCells (withA a st 1)) ∧ Below w.heap.size w w7) := ⟨H6.out.1.go b7, H6.out.2.2.2.trans (b7.mono H6.out.2.2.2.size)⟩
   have H8 : Shh (Sl w7 w7.heap.size v7 (goB xs xn seed a b f (j + 1)) ∧ Off w.heap.size v7 ∧ ∀ g, g < w.heap.size → Off g vb → Off g v7) := ⟨s7, o7 _ H6.out.1.lt, fun g hg _ => o7 g (Nat.lt_of_lt_of_le hg H6.out.2.2.2.size)⟩
   have H9 : Shh ((withA a st 1).length = 8 ∧ (∀ s t, withA (withA a st 1) s t = withA a s t) ∧ Row w7 w.heap.size 64 (wordCells (withA a st 1)) ∧ Below w.heap.size w w7) := ⟨by rw [withA_length]; exact HA.out, fun s t => withA_again a HA.out st 1 s t, H7.out⟩
   clear H6 s7 b7 o7 KF hcf H7 HQ HN HLL HB2
   go_wp2
   go_roundw
   case rel => exact ⟨j + 1, _, by omega, by go_num, H9, H8⟩
   case measure => simp [intOf]; omega
  ·obtain rfl : j = k := by omega
   have HR : Shh (Sl wr wr.heap.size (.slice Ab (goB xs xn seed a b f j).length cb) (goB xs xn seed a b f j) ∧ Below w.heap.size w wr ∧ ∀ g, g < w.heap.size → Off g vb → Off g (.slice Ab (goB xs xn seed a b f j).length cb)) := ⟨HB.out.1, HL.out.2.2.2, HB.out.2.2⟩
   clear HB HL HGB HLN
   go_wp2
   go_ret
   exact ⟨_, rfl, HR.out⟩
end Go.Proofs.YtdakbipiifkmfaaGreatDoor

/-
 THE PROGRAM'S OWN walker and starter: what they hand back.
-/
namespace Go.Proofs.YtdakbipiifkmfaaGreatDoor
open Go.RowKit
set_option maxRecDepth 100000
/-- a function value that walks a chain, from now on -/
def WalkAt (w : World) (g : Nat) (v : Value) (x : S5) (seed : List UInt8) : Prop :=
 ∃ F c1 c2, v = .func (.func F) #[] #[c1, c2] ∧ (∀ (xs : Array Value) (W : World), (callFunc F xs).run Tryz.prog W = .ok (.enter F xs) W) ∧ ∀ (W : World) (vb : Value) (b : List UInt8) (f k : Nat) (a : List UInt32), But w.heap.size g w W → Tabs W → Sl W W.heap.size vb b → b.length = x.n.toNat → f + k ≤ 15 → a.length = 8 → Calls Tryz.prog F #[vb, .int .i64 (f : Int), .int .i64 (k : Int), adrV a, c1, c2] W (WalkIs W vb (goB x.s x.n seed a b f k))
theorem WalkAt.but {w w' : World} {g : Nat} {v : Value} {x : S5} {seed : List UInt8} (h : WalkAt w g v x seed) (b : But w.heap.size g w w') : WalkAt w' g v x seed := by
 obtain ⟨F, c1, c2, rfl, hf, h⟩ := h
 exact ⟨F, c1, c2, rfl, hf, fun W vb b' f k a hb => h W vb b' f k a (b.chain hb)⟩
theorem WalkAt.go {w w' : World} {g : Nat} {v : Value} {x : S5} {seed : List UInt8} (h : WalkAt w g v x seed) (b : Below w.heap.size w w') : WalkAt w' g v x seed := h.but (But.of b g)
/-- a function value that begins a chain, from now on -/
def StartAt (w : World) (g : Nat) (v : Value) (x : S5) (sk seed : List UInt8) : Prop :=
 ∃ F c1 c2, v = .func (.func F) #[] #[c1, c2] ∧ (∀ (xs : Array Value) (W : World), (callFunc F xs).run Tryz.prog W = .ok (.enter F xs) W) ∧ ∀ (W : World) (a : List UInt32), But w.heap.size g w W → Tabs W → a.length = 8 → Calls Tryz.prog F #[adrV a, c1, c2] W (NewSl W (keyd x.s x.n 4 sk (seed ++ adrB (withA a 0 0))))
theorem StartAt.but {w w' : World} {g : Nat} {v : Value} {x : S5} {sk seed : List UInt8} (h : StartAt w g v x sk seed) (b : But w.heap.size g w w') : StartAt w' g v x sk seed := by
 obtain ⟨F, c1, c2, rfl, hf, h⟩ := h
 exact ⟨F, c1, c2, rfl, hf, fun W a hb => h W a (b.chain hb)⟩
theorem StartAt.go {w w' : World} {g : Nat} {v : Value} {x : S5} {sk seed : List UInt8} (h : StartAt w g v x sk seed) (b : Below w.heap.size w w') : StartAt w' g v x sk seed := h.but (But.of b g)
def WalkerIs (w : World) (g : Nat) (x : S5) (seed : List UInt8) (e : Ending) (w' : World) : Prop := ∃ v, e = .returned v ∧ WalkAt w' g v x seed ∧ Below w.heap.size w w'
def StarterIs (w : World) (g : Nat) (x : S5) (sk seed : List UInt8) (e : Ending) (w' : World) : Prop := ∃ v, e = .returned v ∧ StartAt w' g v x sk seed ∧ Below w.heap.size w w'
set_option maxHeartbeats 1000000 in
theorem walker_any (x : S5) (hx : x.ok = true) (vs : Value) (seed : List UInt8) (w : World) (hs : Sl w w.heap.size vs seed) (hl : seed.length ≤ 100000) (ht : Tabs w) (g : Nat) (hg : g < w.heap.size) :
  Calls Tryz.prog 105 #[x.v, vs] w (WalkerIs w g x seed) := by
 unfold WalkerIs
 have hmf : ∀ (fn : Fn) (first cap : Array Value) (w : World), (Instr.makeFunc fn first cap).run Tryz.prog w = .ok (.func fn first cap) w := fun _ _ _ _ => rfl
 have HKY : Shh (∀ (W : World), Sl W W.heap.size vs seed → Tabs W → g < W.heap.size → Calls Tryz.prog 121 #[x.v, .int .u8 3, vs] W (KeyIs W g x.s x.n 3 seed)) := ⟨fun W h1 h2 h3 => keyed_any x hx 3 (by decide) vs seed W h1 hl h2 g h3⟩
 have HFN : Shh (∀ (px pp : Nat) (vp : Value) (w : World), px ≠ g → pp ≠ g → Row w px 27 [.int .u32 x.c, .bool x.s, .int .i64 x.n, .int .i64 x.h, .int .i64 x.l] → Row w pp 142 [vp] → KeyAt w g vp x.s x.n 3 seed → WalkAt w g (.func (.func 129) #[] #[.pointer (some ⟨pp, 0, none⟩), .pointer (some ⟨px, 0, none⟩)]) x seed) := ⟨fun px pp vp w n1 n2 h1 h2 h3 => ⟨_, _, _, rfl, fun _ _ => by kernel_rfl, fun W vb b f k a hb hT hsb hbl hfk ha => walk1_any x hx g px pp vp vb seed b f k hfk a ha W (hb.row h1 h1.lt n1) (hb.row h2 h2.lt n2) (h3.but hb) hsb hbl hT⟩⟩
 obtain ⟨As, cs, rfl, _, _⟩ := hs.form
 obtain ⟨W, hW⟩ : ∃ W, W = w.alloc (.cells #[.int .u32 x.c, .bool x.s, .int .i64 x.n, .int .i64 x.h, .int .i64 x.l] 27) := ⟨_, rfl⟩
 have HW : Shh (Row W w.heap.size 27 [.int .u32 x.c, .bool x.s, .int .i64 x.n, .int .i64 x.h, .int .i64 x.l] ∧ Sl W W.heap.size (.slice As seed.length cs) seed ∧ Tabs W ∧ Below w.heap.size w W) := by
  rw [hW]
  exact ⟨Row.new_ rfl rfl, hs.go (below1 _ _), ht.go (below1 _ _), below1 _ _⟩
 clear hs hx ht
 obtain ⟨X, hX⟩ : ∃ X, X = x := ⟨_, rfl⟩
 have HF2 : Shh (∀ (px pp : Nat) (vp : Value) (w : World), px ≠ g → pp ≠ g → Row w px 27 [.int .u32 x.c, .bool x.s, .int .i64 x.n, .int .i64 x.h, .int .i64 x.l] → Row w pp 142 [vp] → KeyAt w g vp x.s x.n 3 seed → WalkAt w g (.func (.func 129) #[] #[.pointer (some ⟨pp, 0, none⟩), .pointer (some ⟨px, 0, none⟩)]) X seed) := by rw [hX]; exact HFN
 rw [← hX]
 rw [hX]
 have HG : Shh (∀ e w', (∃ v, e = Ending.returned v ∧ WalkAt w' g v X seed ∧ Below w.heap.size w w') → (∃ v, e = Ending.returned v ∧ WalkAt w' g v x seed ∧ Below w.heap.size w w')) := by rw [hX]; exact ⟨fun _ _ h => h⟩
 refine Calls.mono (R := fun e w' => ∃ v, e = Ending.returned v ∧ WalkAt w' g v X seed ∧ Below w.heap.size w w') ?_ HG.out
 clear HG HFN hX
 unfold S5.v at HKY ⊢
 generalize x.c = xc at *
 generalize x.s = xs at *
 generalize x.n = xn at *
 generalize x.h = xh at *
 generalize x.l = xl at *
 go_enter Tryz.func105, Tryz.ntmps105
 go_wp2_with (first | (rw [← hW]; refine wpList_load_any rfl 27 (.tmp 2) rfl w.heap.size rfl 27 [.int .u32 xc, .bool xs, .int .i64 xn, .int .i64 xh, .int .i64 xl] _ HW.out.1 Tryz.underlying27 rfl info_xms ?_) | (go_at_call 121; rw [← hW]; refine (HKY.out _ HW.out.2.1 HW.out.2.2.1 (Nat.lt_of_lt_of_le hg HW.out.2.2.2.size)).mono ?_))
 clear hW
 unfold KeyIs
 rintro e w2 ⟨vp, rfl, k2, b2⟩
 obtain ⟨Z, hZ⟩ : ∃ Z, Z = w2.alloc (.cells #[vp] 142) := ⟨_, rfl⟩
 have HR : Shh (WalkAt Z g (.func (.func 129) #[] #[.pointer (some ⟨w2.heap.size, 0, none⟩), .pointer (some ⟨w.heap.size, 0, none⟩)]) X seed ∧ Below w.heap.size w Z) := by
  have bz : Below w2.heap.size w2 Z := by rw [hZ]; exact below1 _ _
  have q0 := (Below.chain HW.out.2.2.2 b2).size
  exact ⟨HF2.out w.heap.size w2.heap.size vp Z (by omega) (by omega) ((HW.out.1.go b2).go bz) (by rw [hZ]; exact Row.new_ rfl rfl) (k2.go bz), Below.chain (Below.chain HW.out.2.2.2 b2) bz⟩
 obtain ⟨F, q1, q2, rfl, _, _⟩ := k2
 clear HW b2 HKY HF2
 go_wp2
 rw [← hZ]
 go_ret
 exact ⟨_, rfl, HR.out⟩
set_option maxHeartbeats 1000000 in
theorem starter1_any (s : Bool) (n : Int) (g0 pg ps : Nat) (vg vs : Value) (sk seed : List UInt8) (a : List UInt32) (ha : a.length = 8) (w : World) (hG : Row w pg 142 [vg]) (hS : Row w ps 23 [vs]) (hK : KeyAt w g0 vg s n 4 sk) (hs : Sl w w.heap.size vs seed) (hl : seed.length ≤ 50000) (ht : Tabs w) :
  Calls Tryz.prog 142 #[adrV a, .pointer (some ⟨pg, 0, none⟩), .pointer (some ⟨ps, 0, none⟩)] w (NewSl w (keyd s n 4 sk (seed ++ adrB (withA a 0 0)))) := by
 have HB : Shh ((∀ W, Calls Tryz.prog 133 #[adrV (withA a 0 0)] W (SumIs W (adrB (withA a 0 0)))) ∧ (adrB (withA a 0 0)).length = 32) := ⟨fun W => bytes_any _ (by rw [withA_length]; exact ha) W, by rw [adrB_length, withA_length, ha]⟩
 unfold NewSl
 generalize adrB (withA a 0 0) = ob at HB ⊢
 obtain ⟨As, cs, rfl, _, _⟩ := hs.form
 obtain ⟨F, q1, q2, rfl, hcf, kf⟩ := hK
 have HF : Shh ((∀ (xs : Array Value) (W : World), (callFunc F xs).run Tryz.prog W = .ok (.enter F xs) W) ∧ ∀ (W : World) (vm : Value) (m : List UInt8), But w.heap.size g0 w W → Tabs W → Sl W W.heap.size vm m → m.length ≤ 100000 → Calls Tryz.prog F #[vm, q1, q2] W (NewSl W (keyd s n 4 sk m))) := ⟨hcf, kf⟩
 have H0 : Shh (Row w pg 142 [.func (.func F) #[] #[q1, q2]] ∧ Row w ps 23 [.slice As seed.length cs] ∧ Sl w w.heap.size (.slice As seed.length cs) seed ∧ Tabs w) := ⟨hG, hS, hs, ht⟩
 clear hcf kf hG hS hs ht
 obtain ⟨a0, a1, a2, a3, a4, a5, a6, a7, rfl⟩ := eight ha
 have e : adrV (withA [a0, a1, a2, a3, a4, a5, a6, a7] 0 0) = .agg #[.int .u32 (a0.toNat : Int), .int .u32 (a1.toNat : Int), .int .u32 (a2.toNat : Int), .int .u32 (a3.toNat : Int), .int .u32 (a4.toNat : Int), .int .u32 (a5.toNat : Int), .int .u32 0, .int .u32 0] := rfl
 rw [e] at HB
 have e2 : adrV [a0, a1, a2, a3, a4, a5, a6, a7] = .agg #[.int .u32 (a0.toNat : Int), .int .u32 (a1.toNat : Int), .int .u32 (a2.toNat : Int), .int .u32 (a3.toNat : Int), .int .u32 (a4.toNat : Int), .int .u32 (a5.toNat : Int), .int .u32 (a6.toNat : Int), .int .u32 (a7.toNat : Int)] := rfl
 rw [e2]
 clear e e2 ha
 go_enter Tryz.func142, Tryz.ntmps142
 go_wp2_with (go_at_call 133; refine (HB.out.1 _).mono ?_)
 unfold SumIs
 rintro e w2 ⟨rfl, b2⟩
 have H2 : Shh (Below w.heap.size w w2) := ⟨Below.chain (below1 _ _) b2⟩
 clear b2
 obtain ⟨G, hG⟩ : ∃ G, Shh (G = w2.heap.size) := ⟨_, ⟨rfl⟩⟩
 go_wp2_with (refine wpList_store_any rfl 155 (.tmp 5) (.tmp 9) rfl G (by rw [hG.out]; rfl) (Lib.byteCells ob) rfl 155 _ (Row.new_ hG.out zero32b) (info_b32.trans (size_bytes _ _ HB.out.2)) (by rw [Lib.byteCells_length, Lib.byteCells_length, HB.out.2]; rfl) (cell_oneCell _) ?_)
 intro Z hr bt zt
 have H3 : Shh (Row Z G 155 (Lib.byteCells ob) ∧ Below w.heap.size w Z) := by
  have q1 := H2.out.size
  have q3 := hG.out
  have bz : Below w2.heap.size w2 Z := (below1 w2 _).trans (bt.under (by first | omega | (rw [asz]; omega)) (by omega))
  exact ⟨hr, Below.chain H2.out bz⟩
 rw [← hG.out]
 clear hr bt zt H2 hG
 have HL32 : Shh (ob.length = 32) := ⟨HB.out.2⟩
 clear HB
 go_wp2_with fail
 refine wp_region_held_drew (S := fun w' => w'.cell? ⟨pg, 0, none⟩ = some (.func (.func F) #[] #[q1, q2]) ∧ w'.cell? ⟨ps, 0, none⟩ = some (.slice As seed.length cs)) (by kernel_rfl) ⟨(H0.out.1.go H3.out.2).cell 0, (H0.out.2.1.go H3.out.2).cell 0⟩ (fun hS => ?_)
 clear hS
 obtain ⟨V, hV⟩ : ∃ V, V = World.drew Z := ⟨_, rfl⟩
 rw [← hV]
 have HBV : Below w.heap.size w V := by rw [hV]; exact H3.out.2.drew
 have rB : Row V G 155 (Lib.byteCells ob) := by rw [hV]; exact H3.out.1.drew
 have rG : Row V pg 142 [.func (.func F) #[] #[q1, q2]] := H0.out.1.go HBV
 have rS : Row V ps 23 [.slice As seed.length cs] := H0.out.2.1.go HBV
 have sS : Sl V V.heap.size (.slice As seed.length cs) seed := H0.out.2.2.1.go HBV
 clear hV H3
 have hcf := HF.out.1
 refine hdv 0 10 (.func (.func F) #[] #[q1, q2]) (by rfl) (fun w hS => by have h2 := hS.1; go_simp) (⟨(rG).cell 0, (rS).cell 0⟩) ?_
 refine hdv 1 11 (.slice As seed.length cs) (by rfl) (fun w hS => by have h2 := hS.2; go_simp) (⟨(rG).cell 0, (rS).cell 0⟩) ?_
 refine hdv0 2 12 (.slice (some ⟨G, 0, none⟩) 32 32) (by rfl) (⟨(rG).cell 0, (rS).cell 0⟩) ?_
 refine held_one 3 (by kernel_rfl) ?_
 refine step_value 3 _ _ (some 13) (.slice (some ⟨V.heap.size, 0, none⟩) 2 2) (V.alloc (.cells #[.slice As seed.length cs, .slice (some ⟨G, 0, none⟩) 32 32] 23)) (by rfl) (by kernel_rfl) (by first | kernel_rfl | go_simp) (⟨((rG).alloc _).cell 0, ((rS).alloc _).cell 0⟩) ?_
 simp only [Act.put, arr9, hd9, tl9]
 have bx : Below V.heap.size V (V.alloc (.cells #[.slice As seed.length cs, .slice (some ⟨G, 0, none⟩) 32 32] 23)) := Below.alloc (Below.refl _ _) (Nat.le_refl _) _
 have rP : Row (V.alloc (.cells #[.slice As seed.length cs, .slice (some ⟨G, 0, none⟩) 32 32] 23)) V.heap.size 23 [.slice As seed.length cs, .slice (some ⟨G, 0, none⟩) 32 32] := Row.new_ rfl rfl
 have z_rP := asz V (.cells #[.slice As seed.length cs, .slice (some ⟨G, 0, none⟩) 32 32] 23)
 generalize V.alloc (.cells #[.slice As seed.length cs, .slice (some ⟨G, 0, none⟩) 32 32] 23) = Y1 at *
 have b_V := bx
 have m_Y1 : V.heap.size ≤ Y1.heap.size := bx.size
 clear bx
 refine held_one 4 (by kernel_rfl) ?_
 refine step_call 4 _ _ (some 14) 52 #[.slice (some ⟨V.heap.size, 0, none⟩) 2 2] (by rfl) (by kernel_rfl) (by first | kernel_rfl | go_simp) ?_
 refine (show Calls Tryz.prog 52 #[.slice (some ⟨V.heap.size, 0, none⟩) 2 2] Y1 (OwnIs Y1 (seed ++ ob)) by have h := join_any Y1.heap.size Y1.heap.size _ [seed, ob] Y1 (PartsO.two (n := 2) rP.lt (Nat.ne_of_lt rP.lt) rP ((sS.go b_V)) (((sS.go b_V)).off (Nat.le_refl _)) (Row.sl (n := 32) ((rB.go b_V)) HL32.out (by decide)) ((Row.sl (n := 32) ((rB.go b_V)) HL32.out (by decide)).off (Nat.le_refl _))) (Nat.le_refl _) (by rw [two_flat10, List.length_append, HL32.out]; omega) (by simp); rw [two_flat10] at h; exact h).mono ?_
 rintro e Y2 ⟨v, rfl, gv⟩
 have bx : Below Y1.heap.size Y1 Y2 := gv.2
 obtain ⟨Aj, cj, vEq⟩ := own_form gv.1
 subst vEq
 have sJ : Sl Y2 Y2.heap.size (.slice Aj (seed ++ ob).length cj) (seed ++ ob) := gives_sl gv
 clear gv
 replace b_V := Below.chain b_V bx
 have b_Y1 := bx
 have m_Y2 : Y1.heap.size ≤ Y2.heap.size := bx.size
 clear bx
 refine ⟨_, rfl, ⟨((rG.go b_V)).cell 0, ((rS.go b_V)).cell 0⟩, ?_⟩
 simp only [Act.put, arr9, hd9, tl9]
 refine held_one 5 (by kernel_rfl) ?_
 refine step_call 5 _ _ (some 15) F #[.slice Aj (seed ++ ob).length cj, q1, q2] (by rfl) (by kernel_rfl) (by go_simp) ?_
 refine (HF.out.2 Y2 _ _ (But.of (Below.chain HBV b_V) g0) (H0.out.2.2.2.go (Below.chain HBV b_V)) (sJ) (by rw [List.length_append, HL32.out]; omega)).mono ?_
 rintro e Y3 ⟨vr, rfl, gr, br, or⟩
 have bx : Below Y2.heap.size Y2 Y3 := br
 have oR : ∀ g, g < w.heap.size → Off g vr := fun g hg => or g (Nat.lt_of_lt_of_le hg (Below.chain HBV b_V).size)
 have sR := gr
 clear gr or
 replace b_V := Below.chain b_V bx
 replace b_Y1 := Below.chain b_Y1 bx
 have b_Y2 := bx
 have m_Y3 : Y2.heap.size ≤ Y3.heap.size := bx.size
 clear bx
 refine ⟨_, rfl, ⟨((rG.go b_V)).cell 0, ((rS.go b_V)).cell 0⟩, ?_⟩
 simp only [Act.put, arr9, hd9, tl9]
 refine hdv0 6 4 (vr) (by rfl) (⟨((rG.go b_V)).cell 0, ((rS.go b_V)).cell 0⟩) ?_
 refine wpAnyH_done (by kernel_rfl) ?_ _
 have HR : Shh (Sl Y3 Y3.heap.size vr (keyd s n 4 sk (seed ++ ob)) ∧ Below w.heap.size w Y3 ∧ ∀ g, g < w.heap.size → Off g vr) := ⟨sR, Below.chain HBV b_V, oR⟩
 clear m_Y3 b_Y2 sR oR br m_Y2 b_Y1 sJ m_Y1 b_V z_rP rP HBV rB rG rS sS hcf
 go_wp2
 go_ret
 exact ⟨_, rfl, HR.out⟩
end Go.Proofs.YtdakbipiifkmfaaGreatDoor

/-
 THE PROGRAM'S OWN starter, Digits.
-/
namespace Go.Proofs.YtdakbipiifkmfaaGreatDoor
open Go.RowKit
set_option maxRecDepth 100000
set_option maxHeartbeats 1000000 in
theorem starter_any (x : S5) (hx : x.ok = true) (vk vs : Value) (sk seed : List UInt8) (w : World) (hk : Sl w w.heap.size vk sk) (hkl : sk.length ≤ 100000) (hs : Sl w w.heap.size vs seed) (hl : seed.length ≤ 50000) (ht : Tabs w) (g : Nat) (hg : g < w.heap.size) (hog : Off g vs) :
  Calls Tryz.prog 122 #[x.v, vk, vs] w (StarterIs w g x sk seed) := by
 unfold StarterIs
 have hmf : ∀ (fn : Fn) (first cap : Array Value) (w : World), (Instr.makeFunc fn first cap).run Tryz.prog w = .ok (.func fn first cap) w := fun _ _ _ _ => rfl
 have HKY : Shh (∀ (W : World), Sl W W.heap.size vk sk → Tabs W → g < W.heap.size → Calls Tryz.prog 121 #[x.v, .int .u8 4, vk] W (KeyIs W g x.s x.n 4 sk)) := ⟨fun W h1 h2 h3 => keyed_any x hx 4 (by decide) vk sk W h1 hkl h2 g h3⟩
 obtain ⟨X, hX⟩ : ∃ X, X = x := ⟨_, rfl⟩
 have HF2 : Shh (∀ (pg ps : Nat) (vg : Value) (w : World), pg ≠ g → ps ≠ g → Row w pg 142 [vg] → Row w ps 23 [vs] → KeyAt w g vg x.s x.n 4 sk → Sl w w.heap.size vs seed → StartAt w g (.func (.func 142) #[] #[.pointer (some ⟨pg, 0, none⟩), .pointer (some ⟨ps, 0, none⟩)]) X sk seed) := ⟨fun pg ps vg w n1 n2 h1 h2 h3 h4 => by
  rw [hX]
  exact ⟨_, _, _, rfl, fun _ _ => by kernel_rfl, fun W a hb hT ha => starter1_any x.s x.n g pg ps vg vs sk seed a ha W (hb.row h1 h1.lt n1) (hb.row h2 h2.lt n2) (h3.but hb) ((h4.but hog hb).more hb.size) hl hT⟩⟩
 have HG : Shh (∀ e w', (∃ v, e = Ending.returned v ∧ StartAt w' g v X sk seed ∧ Below w.heap.size w w') → (∃ v, e = Ending.returned v ∧ StartAt w' g v x sk seed ∧ Below w.heap.size w w')) := by rw [hX]; exact ⟨fun _ _ h => h⟩
 refine Calls.mono (R := fun e w' => ∃ v, e = Ending.returned v ∧ StartAt w' g v X sk seed ∧ Below w.heap.size w w') ?_ HG.out
 clear HG hX
 obtain ⟨Ak, ck, rfl, _, _⟩ := hk.form
 obtain ⟨As, cs, rfl, _, _⟩ := hs.form
 obtain ⟨W, hW⟩ : ∃ W, W = (w.alloc (.cells #[.int .u32 x.c, .bool x.s, .int .i64 x.n, .int .i64 x.h, .int .i64 x.l] 27)).alloc (.cells #[.slice As seed.length cs] 23) := ⟨_, rfl⟩
 have HW : Shh (Row W w.heap.size 27 [.int .u32 x.c, .bool x.s, .int .i64 x.n, .int .i64 x.h, .int .i64 x.l] ∧ Row W (w.heap.size + 1) 23 [.slice As seed.length cs] ∧ Sl W W.heap.size (.slice Ak sk.length ck) sk ∧ Sl W W.heap.size (.slice As seed.length cs) seed ∧ Tabs W ∧ Below w.heap.size w W) := by
  rw [hW]
  exact ⟨(Row.new_ rfl rfl).alloc _, Row.new_ (by rw [asz]) rfl, (hk.go (below1 _ _)).go (below1 _ _), (hs.go (below1 _ _)).go (below1 _ _), (ht.go (below1 _ _)).go (below1 _ _), Below.chain (below1 _ _) (below1 _ _)⟩
 clear hs hk hx ht
 unfold S5.v at HKY ⊢
 generalize x.c = xc at *
 generalize x.s = xs at *
 generalize x.n = xn at *
 generalize x.h = xh at *
 generalize x.l = xl at *
 go_enter Tryz.func122, Tryz.ntmps122
 go_wp2_with (first | (rw [← hW]; refine wpList_load_any rfl 27 (.tmp 3) rfl w.heap.size rfl 27 [.int .u32 xc, .bool xs, .int .i64 xn, .int .i64 xh, .int .i64 xl] _ HW.out.1 Tryz.underlying27 rfl info_xms ?_) | (go_at_call 121; rw [← hW]; refine (HKY.out _ HW.out.2.2.1 HW.out.2.2.2.2.1 (Nat.lt_of_lt_of_le hg HW.out.2.2.2.2.2.size)).mono ?_))
 clear hW
 unfold KeyIs
 rintro e w2 ⟨vp, rfl, k2, b2⟩
 obtain ⟨Z, hZ⟩ : ∃ Z, Z = w2.alloc (.cells #[vp] 142) := ⟨_, rfl⟩
 have HR : Shh (StartAt Z g (.func (.func 142) #[] #[.pointer (some ⟨w2.heap.size, 0, none⟩), .pointer (some ⟨w.heap.size + 1, 0, none⟩)]) X sk seed ∧ Below w.heap.size w Z) := by
  have bz : Below w2.heap.size w2 Z := by rw [hZ]; exact below1 _ _
  have q0 := (Below.chain HW.out.2.2.2.2.2 b2).size
  exact ⟨HF2.out w2.heap.size (w.heap.size + 1) vp Z (by omega) (by omega) (by rw [hZ]; exact Row.new_ rfl rfl) ((HW.out.2.1.go b2).go bz) (k2.go bz) ((HW.out.2.2.2.1.go b2).go bz), Below.chain (Below.chain HW.out.2.2.2.2.2 b2) bz⟩
 obtain ⟨F, q1, q2, rfl, _, _⟩ := k2
 clear HW b2 HKY HF2
 go_wp2
 rw [← hZ]
 go_ret
 exact ⟨_, rfl, HR.out⟩
end Go.Proofs.YtdakbipiifkmfaaGreatDoor

/-
 THE PROGRAM'S OWN Secret and Chain.
-/
namespace Go.Proofs.YtdakbipiifkmfaaGreatDoor
open Go.RowKit
set_option maxRecDepth 100000
/-- bytes in new memory and an error are handed back -/
def ResNew (w : World) (er : Int) (bs : List UInt8) (e : Ending) (w' : World) : Prop := ∃ r, e = .returned (.tuple #[r, .int .i64 er]) ∧ Sl w' w'.heap.size r bs ∧ Below w.heap.size w w' ∧ ∀ g, g < w.heap.size → Off g r
theorem ResNew.off {u v : Value} {w : World} {er : Int} {bs : List UInt8} {e : Ending} {w' : World} (h : ResNew w er bs e w') : ResOff u v w er bs e w' := by
 obtain ⟨r, a, b, c, d⟩ := h
 exact ⟨r, a, b, c, fun g hg _ _ => d g hg⟩
end Go.Proofs.YtdakbipiifkmfaaGreatDoor

/-
 THE PROGRAM'S OWN FromSig.
-/
namespace Go.Proofs.YtdakbipiifkmfaaGreatDoor
open Go.RowKit
set_option maxRecDepth 100000
section
variable {P : Program} {md : Region.Mode} {ops : Array Oper} {Q : Exit → Act → World → Prop} {S : World → Prop} {fuel : Nat} {listed : Array Bool} {a : Act}
/-- the bytes of another slice, joined in a region that draws its order -/
theorem step_appendSl (w : World) (i : Nat) (ty : TypeId) (dst : Option Tmp) (t e : TypeId) (i0 : TypeInfo) (ht : P.underlying t = some (.slice e)) (hi : P.info? e = some i0) (hz : i0.zero = some (.int .u8 0)) (hsz : i0.size = 1) (hby : i0.bytes = 1)
  (s x : Operand) (hop : (ops[i]?).map (fun o => (o.op, o.type, o.dst)) = some (.call { callee := .builtin .append, args := #[s, x], argTypes := #[t, t] }, ty, dst)) (hw : (ops[i]?).map (fun o => Region.wanted o (yielded ops a.tmps)) = some true)
  {base B0 : Nat} {v : Value} {bs : List UInt8} {y : Value} {cs : List UInt8} (hown : w.ownsRow base e 1 v bs.length (Lib.byteCells bs)) (hy : Sl w B0 y cs) (h0 : 0 < cs.length) (hs : a.eval s = v) (hx : a.eval x = y)
  (hlen : bs.length + cs.length ≤ 1099511627776) (hbase : base ≤ w.heap.size)
  (h : ∀ v' w', w'.ownsRow base e 1 v' (bs ++ cs).length (Lib.byteCells (bs ++ cs)) → w.grownBy w' v.ownBlock → (∀ B, B ≤ base → Below B w w') → S w' ∧ wpAnyH P md ops Q S fuel (listed.setIfInBounds i true) (a.put dst v') w') : HStep P md ops Q S fuel listed a w i := by
 unfold HStep
 cases ho : ops[i]? with
 | none => rw [ho] at hop; cases hop
 | some op =>
  rw [ho] at hop hw
  simp only [Option.map_some, Option.some.injEq, Prod.mk.injEq] at hop hw
  obtain ⟨hop1, _, hop3⟩ := hop
  obtain ⟨A, c, rfl, _, _⟩ := hy.form
  obtain ⟨b, off, rfl, _, hr⟩ := hy.at_ h0
  refine wpOp_step ho fun K' hK => ?_
  rw [if_pos hw]
  refine wp_append_own w s x t hop1 base e i0 (.int .u8 0) 1 1 ht hi hz hsz hby rfl (by decide) v bs.length (Lib.byteCells bs) hs hown ⟨b, off, none⟩ cs.length c (Lib.byteCells cs) hx (by rw [Lib.byteCells_length, Nat.mul_one]) ?_ (cell_oneCell cs) (by unfold maxLen; omega) (by omega) hbase ?_
  ·intro j u hj
   obtain ⟨hjl, rfl⟩ := byteCells_at cs j u hj
   rw [addr_add]
   exact hr j hjl
  ·intro v' w' ho' hg _
   rw [hop3]
   exact hK _ _ (h v' w' (by simpa [Lib.byteCells_append] using ho') hg fun B hB => (Below.refl B w).grown hg (by omega) (fun k hk => by have := (hown.lt k hk).1; omega))
end
theorem atA_again (a : List UInt32) (i j : Nat) : atA (atA a i) j = atA a j := by
 unfold atA
 rw [List.set_set]
end Go.Proofs.YtdakbipiifkmfaaGreatDoor

/-
 slices.Repeat of one number: its walk.
-/
namespace Go.Proofs.YtdakbipiifkmfaaGreatDoor
open Go.RowKit
set_option maxRecDepth 100000
/-- ints that can be read are handed back -/
def SeeI9 (w : World) (l : List Nat) (e : Ending) (w' : World) : Prop := ∃ v, e = .returned v ∧ SI w' w'.heap.size v l ∧ Below w.heap.size w w'
theorem splice_mid {α : Type} (A B C D : List α) (k : Nat) (hk : A.length = k) (h : B.length = C.length) : splice (A ++ (B ++ D)) k C = A ++ (C ++ D) := by
 subst hk
 unfold splice
 rw [List.take_left' rfl, ← List.drop_drop, List.drop_left' rfl, List.drop_left' h]
def rep9 (n L : Nat) : List Nat := List.replicate n 15 ++ List.replicate (L - n) 0
theorem rep9_splice (n m L : Nat) (h : n + m ≤ L) : splice (intCells (rep9 n L)) n (intCells (List.replicate m 15)) = intCells (rep9 (n + m) L) := by
 unfold rep9
 rw [show L - n = m + (L - (n + m)) by omega, ← List.replicate_append_replicate, ← List.replicate_append_replicate, intCells_append, intCells_append, splice_mid _ _ _ _ _ (by rw [intCells_length, List.length_replicate]) (by rw [intCells_length, intCells_length, List.length_replicate, List.length_replicate]), intCells_append, intCells_append, List.append_assoc]
theorem rep9_length (n L : Nat) (h : n ≤ L) : (rep9 n L).length = L := by
 unfold rep9
 rw [List.length_append, List.length_replicate, List.length_replicate]
 omega
theorem rep9_get (n L j : Nat) (u : Value) (_hn : n ≤ L) (h : (intCells (List.replicate n 15))[j]? = some u) : (intCells (rep9 n L))[j]? = some u := by
 have hj : j < (intCells (List.replicate n 15)).length := by
  rcases Nat.lt_or_ge j (intCells (List.replicate n 15)).length with h1 | h1
  ·exact h1
  ·rw [List.getElem?_eq_none h1] at h; cases h
 unfold rep9
 rw [intCells_append, List.getElem?_append_left hj]
 exact h
theorem sliceI9 : Tryz.prog.underlying 91 = some (.slice (Tryz.prog.elem 91)) := by kernel_rfl
theorem elemI9 : Tryz.prog.elem 91 = 3 := by kernel_rfl
theorem run_sizeOf_int9 (w : World) : (sizeOf 3).run Tryz.prog w = .ok 1 w := by simp [go_sem]
theorem info_ints9 : (Tryz.prog.info? 3).map (·.size) = some 1 := by kernel_rfl
theorem run_cutI9 (g n c j : Nat) (hj : j ≤ c) (w : World) : (Instr.sliceAt 91 (.slice (some ⟨g, 0, none⟩) n c) none (some (.int .i64 (j : Int))) none).run Tryz.prog w = .ok (.slice (some ⟨g, 0, none⟩) j c) w := by
 have h : (Instr.sliceAt 91 (.slice (some ⟨g, 0, none⟩) n c) none (some (.int .i64 (j : Int))) none).run Tryz.prog w = .ok (sliced (some ⟨g, 0, none⟩) 0 j c 1) w := by
  rw [run_sliceAt_slice _ _ _ _ _ _ sliceI9, run_slice_h w 91 (some ⟨g, 0, none⟩) n c sliceI9 .i64 (j : Int) (by omega) (by omega), elemI9, run_sizeOf_int9, Result.andThen_ok, Int.toNat_natCast]
 rw [h]
 unfold sliced
 simp [Addr.add]
theorem run_lowI9 (g n j : Nat) (hj : j < n) (w : World) : (Instr.sliceAt 91 (.slice (some ⟨g, 0, none⟩) n n) (some (.int .i64 (j : Int))) none none).run Tryz.prog w = .ok (.slice (some ⟨g, j, none⟩) (n - j) (n - j)) w := by
 have h : (Instr.sliceAt 91 (.slice (some ⟨g, 0, none⟩) n n) (some (.int .i64 (j : Int))) none none).run Tryz.prog w = .ok (sliced (some ⟨g, 0, none⟩) j n n 1) w := by
  rw [run_sliceAt_slice _ _ _ _ _ _ sliceI9, run_slice_l w 91 (some ⟨g, 0, none⟩) n n sliceI9 .i64 (j : Int) (by omega) (by omega), elemI9, run_sizeOf_int9, Result.andThen_ok, Int.toNat_natCast]
 rw [h]
 unfold sliced
 rw [if_neg (by omega)]
 show Result.ok (Value.slice (some (Addr.add ⟨g, 0, none⟩ (j * 1))) (n - j) (n - j)) w = _
 rw [addr_add, Nat.mul_one, Nat.zero_add]
theorem mul64_51 (w : World) : Calls Tryz.prog 150 #[.int .u64 1, .int .u64 51] w (OldIs (.tuple #[.int .u64 0, .int .u64 51]) w) := by
 unfold OldIs
 go_enter Tryz.func150, Tryz.ntmps150
 go_wp2
 go_ret2
 exact ⟨rfl, Below.refl _ _⟩
theorem mul_51 (w : World) : Calls Tryz.prog 134 #[.int .u64 1, .int .u64 51] w (OldIs (.tuple #[.int .u64 0, .int .u64 51]) w) := by
 unfold OldIs
 go_enter Tryz.func134, Tryz.ntmps134
 go_wp2_with (go_at_call 150; refine (mul64_51 w).mono ?_)
 unfold OldIs
 rintro e w2 ⟨rfl, b2⟩
 have HB := Shh.mk b2
 clear b2
 go_wp2
 go_ret2
 exact ⟨rfl, HB.out⟩
theorem makeI_51 (u : World) : (Instr.makeSlice 91 (.int .i64 51) (.int .i64 51)).run Tryz.prog u = .ok (.slice (some ⟨u.heap.size, 0, none⟩) 51 51) (u.alloc (.cells (intCells (rep9 0 51)).toArray 3)) := by kernel_rfl
set_option maxHeartbeats 2000000 in
theorem repeat_51 (g c : Nat) (w : World) (hg : g < w.heap.size) (hc : w.cell? ⟨g, 0, none⟩ = some (.int .i64 15)) (_hc1 : 1 ≤ c) :
  Calls Tryz.prog 114 #[.slice (some ⟨g, 0, none⟩) 1 c, .int .i64 51] w (SeeI9 w (List.replicate 51 15)) := by
 unfold SeeI9
 have HC : Shh (w.cell? ⟨g, 0, none⟩ = some (.int .i64 15) ∧ g < w.heap.size) := ⟨hc, hg⟩
 clear hc hg
 go_enter Tryz.func114, Tryz.ntmps114
 go_wp2_with (go_at_call 134; refine (mul_51 w).mono ?_)
 unfold OldIs
 rintro e w1 ⟨rfl, b1⟩
 have H1 : Shh (w1.cell? ⟨g, 0, none⟩ = some (.int .i64 15) ∧ g < w1.heap.size ∧ Below w.heap.size w w1) := ⟨(b1.cell (p := ⟨g, 0, none⟩) HC.out.2).trans HC.out.1, Nat.lt_of_lt_of_le HC.out.2 b1.size, b1⟩
 clear b1 HC
 obtain ⟨l0, hl0⟩ : ∃ l, Shh (l = intCells (rep9 0 51)) := ⟨_, ⟨rfl⟩⟩
 have hmk : ∀ u : World, (Instr.makeSlice 91 (.int .i64 51) (.int .i64 51)).run Tryz.prog u = .ok (.slice (some ⟨u.heap.size, 0, none⟩) 51 51) (u.alloc (.cells l0.toArray 3)) := fun u => by rw [hl0.out]; exact makeI_51 u
 obtain ⟨W2, hW2⟩ : ∃ W2, W2 = w1.alloc (.cells l0.toArray 3) := ⟨_, rfl⟩
 obtain ⟨G, hG⟩ : ∃ G, Shh (G = w1.heap.size) := ⟨_, ⟨rfl⟩⟩
 have H2 : Shh (Row W2 G 3 l0 ∧ W2.cell? ⟨g, 0, none⟩ = some (.int .i64 15) ∧ Below w.heap.size w W2 ∧ w.heap.size ≤ G) := by
  rw [hW2]
  exact ⟨Row.new_ hG.out rfl, ((below1 w1 _).cell (p := ⟨g, 0, none⟩) H1.out.2.1).trans H1.out.1, Below.chain H1.out.2.2 (below1 _ _), by rw [hG.out]; exact H1.out.2.2.size⟩
 have HSR : Shh (∀ j v, ([.int .i64 15] : List Value)[j]? = some v → W2.cell? ((⟨g, 0, none⟩ : Addr).add j) = some v) := ⟨fun j v hj => by
  match j, hj with
  | 0, hj =>
   rw [addr_add]
   cases hj
   exact H2.out.2.1
  | _ + 1, hj => simp at hj⟩
 go_wp2_with (first | (rw [← hG.out, ← hW2]; refine wpList_copy_splice rfl (.tmp 31) (.tmp 32) 91 91 rfl 3 Tryz.underlying91 info_ints9 (some ⟨G, 0, none⟩) (some ⟨g, 0, none⟩) 51 51 1 c rfl rfl G 0 l0 3 H2.out.1 [.int .i64 15] rfl (fun _ => ⟨rfl, _, rfl, HSR.out⟩) (by rw [hl0.out, intCells_length, rep9_length _ _ (Nat.zero_le _)]; decide) (by intro v hv; simp only [List.mem_cons, List.not_mem_nil, or_false] at hv; rw [hv]; rfl) w.heap.size w H2.out.2.2.1 H2.out.2.2.2 ?_))
 intro W3 hr3 hb3
 have H3 : Shh (Row W3 G 3 (intCells (rep9 1 51)) ∧ Below w.heap.size w W3) := by
  have h := hr3.out
  rw [hl0.out, show splice (intCells (rep9 0 51)) 0 [.int .i64 15] = intCells (rep9 1 51) from rep9_splice 0 1 51 (by decide)] at h
  exact ⟨h, hb3⟩
 have HG2 : Shh (w.heap.size ≤ G) := ⟨H2.out.2.2.2⟩
 clear hr3 hb3 H2 hW2 hmk hG H1 hl0 HSR
 go_wp2
 go_loopw [8] (fun i wr => ∃ n : Nat, 1 ≤ n ∧ n ≤ 51 ∧ i = .int .i64 (n : Int) ∧ Shh (Row wr G 3 (intCells (rep9 n 51)) ∧ Below w.heap.size w wr)) (fun i _ => 51 - (intOf i).toNat)
 case atStart => exact ⟨1, Nat.le_refl _, by decide, rfl, H3⟩
 case round =>
  clear H3
  obtain ⟨n, hn1, hn, rfl, HL⟩ := hrel
  by_cases hlt : n < 51
  ·obtain ⟨m, hm⟩ : ∃ m, m = Nat.min n (51 - n) := ⟨_, rfl⟩
   have hm2 : 1 ≤ m ∧ n + m ≤ 51 ∧ m ≤ n := by
    rw [hm]
    exact ⟨by have : Nat.min n (51 - n) = min n (51 - n) := rfl; omega, by have : Nat.min n (51 - n) = min n (51 - n) := rfl; omega, by have : Nat.min n (51 - n) = min n (51 - n) := rfl; omega⟩
   have HM := Shh.mk hm
   clear hm
   have hsum : IntKind.i64.wrap ((n : Int) + (m : Int)) = ((n + m : Nat) : Int) := by rw [IntKind.wrap_i64]; omega
   have runL : ∀ u, (Instr.sliceAt 91 (.slice (some ⟨G, 0, none⟩) 51 51) (some (.int .i64 (n : Int))) none none).run Tryz.prog u = .ok (.slice (some ⟨G, n, none⟩) (51 - n) (51 - n)) u := fun u => run_lowI9 G 51 n hlt u
   have runH : ∀ u, (Instr.sliceAt 91 (.slice (some ⟨G, 0, none⟩) 51 51) none (some (.int .i64 (n : Int))) none).run Tryz.prog u = .ok (.slice (some ⟨G, 0, none⟩) n 51) u := fun u => run_cutI9 G 51 51 n (by omega) u
   go_wp2_with fail
   refine wp_region_held_drew (S := fun _ => True) (by kernel_rfl) trivial (fun hS => ?_)
   clear hS
   obtain ⟨V, hV⟩ : ∃ V, V = World.drew wr := ⟨_, rfl⟩
   rw [← hV]
   have rG : Row V G 3 (intCells (rep9 n 51)) := by rw [hV]; exact HL.out.1.drew
   have HBV : Below w.heap.size w V := by rw [hV]; exact HL.out.2.drew
   clear hV HL
   have hsrc : ∀ j v, (intCells (List.replicate m 15))[j]? = some v → V.cell? ((⟨G, 0, none⟩ : Addr).add j) = some v := fun j v hj => by
    obtain ⟨hj2, rfl⟩ := intCells_get _ _ _ hj
    rw [addr_add, Nat.zero_add, rG.cell]
    refine rep9_get n 51 j _ hn ?_
    rw [List.length_replicate] at hj2
    rw [intCells, List.getElem?_map, List.getElem?_eq_getElem (by rw [List.length_replicate]; omega)]
    simp
   refine hdv0 0 38 (.int .i64 (n : Int)) (by rfl) (trivial) ?_
   refine hdv0 1 39 (.slice (some ⟨G, 0, none⟩) 51 51) (by rfl) (trivial) ?_
   refine hdv0 2 40 (.int .i64 (n : Int)) (by rfl) (trivial) ?_
   refine hdv 3 41 (.slice (some ⟨G, n, none⟩) (51 - n) (51 - n)) (by rfl) (fun w hS => run_slice_op_lo ⟨rfl, rfl⟩ (runL w)) (trivial) ?_
   refine hdv0 4 42 (.slice (some ⟨G, 0, none⟩) 51 51) (by rfl) (trivial) ?_
   refine hdv0 5 43 (.int .i64 (n : Int)) (by rfl) (trivial) ?_
   refine hdv 6 44 (.slice (some ⟨G, 0, none⟩) n 51) (by rfl) (fun w hS => run_slice_op ⟨rfl, rfl⟩ (runH w)) (trivial) ?_
   refine held_one 7 (by kernel_rfl) ?_
   refine step_copyS V 7 _ (some 45) (.tmp 41) (.tmp 44) 91 91 (by rfl) (by kernel_rfl) 3 Tryz.underlying91 info_ints9 (51 - n) (51 - n) n 51 ⟨G, 0, none⟩ G n rfl rfl _ 3 rG (intCells (List.replicate m 15)) (by rw [intCells_length, List.length_replicate]; exact HM.out) hsrc (by rw [intCells_length, List.length_replicate, intCells_length, rep9_length n 51 hn]; exact hm2.2.1) (intCells_one _) (fun Y1 r9 t9 z9 => ⟨trivial, ?_⟩)
   rw [rep9_splice n m 51 hm2.2.1] at r9
   have q1 : Below w.heap.size w Y1 := HBV.trans (t9.under HBV.size HG2.out)
   have hlen : goInt (intCells (List.replicate m 15)).length = .int .i64 (m : Int) := by rw [intCells_length, List.length_replicate]; rfl
   rw [hlen]
   simp only [Act.put, arr9, hd9, tl9]
   refine hdv 8 46 (.int .i64 ((n + m : Nat) : Int)) (by rfl) (fun w hS => by go_simp) (trivial) ?_
   refine hdv0 9 8 (.int .i64 ((n + m : Nat) : Int)) (by rfl) (trivial) ?_
   refine wpAnyH_done (by kernel_rfl) ?_ _
   have H9 : Shh (Row Y1 G 3 (intCells (rep9 (n + m) 51)) ∧ Below w.heap.size w Y1) := ⟨r9, q1⟩
   clear r9 t9 z9 q1 hlen HBV rG HM hsum runL runH hsrc
   go_wp2
   go_roundw
   case rel => exact ⟨n + m, by omega, hm2.2.1, rfl, H9⟩
   case measure => simp [intOf]; omega
  ·have HN : Shh (n = 51) := ⟨by omega⟩
   have HR : Shh (SI wr wr.heap.size (.slice (some ⟨G, 0, none⟩) 51 51) (List.replicate 51 15) ∧ Below w.heap.size w wr) := by
    refine ⟨⟨_, 51, by rw [List.length_replicate], by rw [List.length_replicate]; exact Nat.le_refl _, by unfold maxLen; omega, .inr ⟨G, rfl, HL.out.1.lt, HL.out.1.lt, fun j hj => ?_⟩⟩, HL.out.2⟩
    rw [HL.out.1.cell, HN.out]
    refine rep9_get 51 51 j _ (Nat.le_refl _) ?_
    rw [intCells, List.getElem?_map, List.getElem?_eq_getElem hj]
    simp
   clear HL HN
   go_wp2
   go_ret
   exact ⟨_, rfl, HR.out⟩
theorem mul64_67 (w : World) : Calls Tryz.prog 150 #[.int .u64 1, .int .u64 67] w (OldIs (.tuple #[.int .u64 0, .int .u64 67]) w) := by
 unfold OldIs
 go_enter Tryz.func150, Tryz.ntmps150
 go_wp2
 go_ret2
 exact ⟨rfl, Below.refl _ _⟩
theorem mul_67 (w : World) : Calls Tryz.prog 134 #[.int .u64 1, .int .u64 67] w (OldIs (.tuple #[.int .u64 0, .int .u64 67]) w) := by
 unfold OldIs
 go_enter Tryz.func134, Tryz.ntmps134
 go_wp2_with (go_at_call 150; refine (mul64_67 w).mono ?_)
 unfold OldIs
 rintro e w2 ⟨rfl, b2⟩
 have HB := Shh.mk b2
 clear b2
 go_wp2
 go_ret2
 exact ⟨rfl, HB.out⟩
theorem makeI_67 (u : World) : (Instr.makeSlice 91 (.int .i64 67) (.int .i64 67)).run Tryz.prog u = .ok (.slice (some ⟨u.heap.size, 0, none⟩) 67 67) (u.alloc (.cells (intCells (rep9 0 67)).toArray 3)) := by kernel_rfl
set_option maxHeartbeats 2000000 in
theorem repeat_67 (g c : Nat) (w : World) (hg : g < w.heap.size) (hc : w.cell? ⟨g, 0, none⟩ = some (.int .i64 15)) (_hc1 : 1 ≤ c) :
  Calls Tryz.prog 114 #[.slice (some ⟨g, 0, none⟩) 1 c, .int .i64 67] w (SeeI9 w (List.replicate 67 15)) := by
 unfold SeeI9
 have HC : Shh (w.cell? ⟨g, 0, none⟩ = some (.int .i64 15) ∧ g < w.heap.size) := ⟨hc, hg⟩
 clear hc hg
 go_enter Tryz.func114, Tryz.ntmps114
 go_wp2_with (go_at_call 134; refine (mul_67 w).mono ?_)
 unfold OldIs
 rintro e w1 ⟨rfl, b1⟩
 have H1 : Shh (w1.cell? ⟨g, 0, none⟩ = some (.int .i64 15) ∧ g < w1.heap.size ∧ Below w.heap.size w w1) := ⟨(b1.cell (p := ⟨g, 0, none⟩) HC.out.2).trans HC.out.1, Nat.lt_of_lt_of_le HC.out.2 b1.size, b1⟩
 clear b1 HC
 obtain ⟨l0, hl0⟩ : ∃ l, Shh (l = intCells (rep9 0 67)) := ⟨_, ⟨rfl⟩⟩
 have hmk : ∀ u : World, (Instr.makeSlice 91 (.int .i64 67) (.int .i64 67)).run Tryz.prog u = .ok (.slice (some ⟨u.heap.size, 0, none⟩) 67 67) (u.alloc (.cells l0.toArray 3)) := fun u => by rw [hl0.out]; exact makeI_67 u
 obtain ⟨W2, hW2⟩ : ∃ W2, W2 = w1.alloc (.cells l0.toArray 3) := ⟨_, rfl⟩
 obtain ⟨G, hG⟩ : ∃ G, Shh (G = w1.heap.size) := ⟨_, ⟨rfl⟩⟩
 have H2 : Shh (Row W2 G 3 l0 ∧ W2.cell? ⟨g, 0, none⟩ = some (.int .i64 15) ∧ Below w.heap.size w W2 ∧ w.heap.size ≤ G) := by
  rw [hW2]
  exact ⟨Row.new_ hG.out rfl, ((below1 w1 _).cell (p := ⟨g, 0, none⟩) H1.out.2.1).trans H1.out.1, Below.chain H1.out.2.2 (below1 _ _), by rw [hG.out]; exact H1.out.2.2.size⟩
 have HSR : Shh (∀ j v, ([.int .i64 15] : List Value)[j]? = some v → W2.cell? ((⟨g, 0, none⟩ : Addr).add j) = some v) := ⟨fun j v hj => by
  match j, hj with
  | 0, hj =>
   rw [addr_add]
   cases hj
   exact H2.out.2.1
  | _ + 1, hj => simp at hj⟩
 go_wp2_with (first | (rw [← hG.out, ← hW2]; refine wpList_copy_splice rfl (.tmp 31) (.tmp 32) 91 91 rfl 3 Tryz.underlying91 info_ints9 (some ⟨G, 0, none⟩) (some ⟨g, 0, none⟩) 67 67 1 c rfl rfl G 0 l0 3 H2.out.1 [.int .i64 15] rfl (fun _ => ⟨rfl, _, rfl, HSR.out⟩) (by rw [hl0.out, intCells_length, rep9_length _ _ (Nat.zero_le _)]; decide) (by intro v hv; simp only [List.mem_cons, List.not_mem_nil, or_false] at hv; rw [hv]; rfl) w.heap.size w H2.out.2.2.1 H2.out.2.2.2 ?_))
 intro W3 hr3 hb3
 have H3 : Shh (Row W3 G 3 (intCells (rep9 1 67)) ∧ Below w.heap.size w W3) := by
  have h := hr3.out
  rw [hl0.out, show splice (intCells (rep9 0 67)) 0 [.int .i64 15] = intCells (rep9 1 67) from rep9_splice 0 1 67 (by decide)] at h
  exact ⟨h, hb3⟩
 have HG2 : Shh (w.heap.size ≤ G) := ⟨H2.out.2.2.2⟩
 clear hr3 hb3 H2 hW2 hmk hG H1 hl0 HSR
 go_wp2
 go_loopw [8] (fun i wr => ∃ n : Nat, 1 ≤ n ∧ n ≤ 67 ∧ i = .int .i64 (n : Int) ∧ Shh (Row wr G 3 (intCells (rep9 n 67)) ∧ Below w.heap.size w wr)) (fun i _ => 67 - (intOf i).toNat)
 case atStart => exact ⟨1, Nat.le_refl _, by decide, rfl, H3⟩
 case round =>
  clear H3
  obtain ⟨n, hn1, hn, rfl, HL⟩ := hrel
  by_cases hlt : n < 67
  ·obtain ⟨m, hm⟩ : ∃ m, m = Nat.min n (67 - n) := ⟨_, rfl⟩
   have hm2 : 1 ≤ m ∧ n + m ≤ 67 ∧ m ≤ n := by
    rw [hm]
    exact ⟨by have : Nat.min n (67 - n) = min n (67 - n) := rfl; omega, by have : Nat.min n (67 - n) = min n (67 - n) := rfl; omega, by have : Nat.min n (67 - n) = min n (67 - n) := rfl; omega⟩
   have HM := Shh.mk hm
   clear hm
   have hsum : IntKind.i64.wrap ((n : Int) + (m : Int)) = ((n + m : Nat) : Int) := by rw [IntKind.wrap_i64]; omega
   have runL : ∀ u, (Instr.sliceAt 91 (.slice (some ⟨G, 0, none⟩) 67 67) (some (.int .i64 (n : Int))) none none).run Tryz.prog u = .ok (.slice (some ⟨G, n, none⟩) (67 - n) (67 - n)) u := fun u => run_lowI9 G 67 n hlt u
   have runH : ∀ u, (Instr.sliceAt 91 (.slice (some ⟨G, 0, none⟩) 67 67) none (some (.int .i64 (n : Int))) none).run Tryz.prog u = .ok (.slice (some ⟨G, 0, none⟩) n 67) u := fun u => run_cutI9 G 67 67 n (by omega) u
   go_wp2_with fail
   refine wp_region_held_drew (S := fun _ => True) (by kernel_rfl) trivial (fun hS => ?_)
   clear hS
   obtain ⟨V, hV⟩ : ∃ V, V = World.drew wr := ⟨_, rfl⟩
   rw [← hV]
   have rG : Row V G 3 (intCells (rep9 n 67)) := by rw [hV]; exact HL.out.1.drew
   have HBV : Below w.heap.size w V := by rw [hV]; exact HL.out.2.drew
   clear hV HL
   have hsrc : ∀ j v, (intCells (List.replicate m 15))[j]? = some v → V.cell? ((⟨G, 0, none⟩ : Addr).add j) = some v := fun j v hj => by
    obtain ⟨hj2, rfl⟩ := intCells_get _ _ _ hj
    rw [addr_add, Nat.zero_add, rG.cell]
    refine rep9_get n 67 j _ hn ?_
    rw [List.length_replicate] at hj2
    rw [intCells, List.getElem?_map, List.getElem?_eq_getElem (by rw [List.length_replicate]; omega)]
    simp
   refine hdv0 0 38 (.int .i64 (n : Int)) (by rfl) (trivial) ?_
   refine hdv0 1 39 (.slice (some ⟨G, 0, none⟩) 67 67) (by rfl) (trivial) ?_
   refine hdv0 2 40 (.int .i64 (n : Int)) (by rfl) (trivial) ?_
   refine hdv 3 41 (.slice (some ⟨G, n, none⟩) (67 - n) (67 - n)) (by rfl) (fun w hS => run_slice_op_lo ⟨rfl, rfl⟩ (runL w)) (trivial) ?_
   refine hdv0 4 42 (.slice (some ⟨G, 0, none⟩) 67 67) (by rfl) (trivial) ?_
   refine hdv0 5 43 (.int .i64 (n : Int)) (by rfl) (trivial) ?_
   refine hdv 6 44 (.slice (some ⟨G, 0, none⟩) n 67) (by rfl) (fun w hS => run_slice_op ⟨rfl, rfl⟩ (runH w)) (trivial) ?_
   refine held_one 7 (by kernel_rfl) ?_
   refine step_copyS V 7 _ (some 45) (.tmp 41) (.tmp 44) 91 91 (by rfl) (by kernel_rfl) 3 Tryz.underlying91 info_ints9 (67 - n) (67 - n) n 67 ⟨G, 0, none⟩ G n rfl rfl _ 3 rG (intCells (List.replicate m 15)) (by rw [intCells_length, List.length_replicate]; exact HM.out) hsrc (by rw [intCells_length, List.length_replicate, intCells_length, rep9_length n 67 hn]; exact hm2.2.1) (intCells_one _) (fun Y1 r9 t9 z9 => ⟨trivial, ?_⟩)
   rw [rep9_splice n m 67 hm2.2.1] at r9
   have q1 : Below w.heap.size w Y1 := HBV.trans (t9.under HBV.size HG2.out)
   have hlen : goInt (intCells (List.replicate m 15)).length = .int .i64 (m : Int) := by rw [intCells_length, List.length_replicate]; rfl
   rw [hlen]
   simp only [Act.put, arr9, hd9, tl9]
   refine hdv 8 46 (.int .i64 ((n + m : Nat) : Int)) (by rfl) (fun w hS => by go_simp) (trivial) ?_
   refine hdv0 9 8 (.int .i64 ((n + m : Nat) : Int)) (by rfl) (trivial) ?_
   refine wpAnyH_done (by kernel_rfl) ?_ _
   have H9 : Shh (Row Y1 G 3 (intCells (rep9 (n + m) 67)) ∧ Below w.heap.size w Y1) := ⟨r9, q1⟩
   clear r9 t9 z9 q1 hlen HBV rG HM hsum runL runH hsrc
   go_wp2
   go_roundw
   case rel => exact ⟨n + m, by omega, hm2.2.1, rfl, H9⟩
   case measure => simp [intOf]; omega
  ·have HN : Shh (n = 67) := ⟨by omega⟩
   have HR : Shh (SI wr wr.heap.size (.slice (some ⟨G, 0, none⟩) 67 67) (List.replicate 67 15) ∧ Below w.heap.size w wr) := by
    refine ⟨⟨_, 67, by rw [List.length_replicate], by rw [List.length_replicate]; exact Nat.le_refl _, by unfold maxLen; omega, .inr ⟨G, rfl, HL.out.1.lt, HL.out.1.lt, fun j hj => ?_⟩⟩, HL.out.2⟩
    rw [HL.out.1.cell, HN.out]
    refine rep9_get 67 67 j _ (Nat.le_refl _) ?_
    rw [intCells, List.getElem?_map, List.getElem?_eq_getElem hj]
    simp
   clear HL HN
   go_wp2
   go_ret
   exact ⟨_, rfl, HR.out⟩
end Go.Proofs.YtdakbipiifkmfaaGreatDoor

/-
 THE PROGRAM'S OWN grown.
-/
namespace Go.Proofs.YtdakbipiifkmfaaGreatDoor
open Go.RowKit
set_option maxRecDepth 100000
set_option maxHeartbeats 2000000 in
theorem grown_24 (xc : Int) (xs : Bool) (xh : Int) (hx : (⟨xc, xs, 24, xh, 51⟩ : S5).ok = true) (vk vs vc : Value) (sk seed : List UInt8) (a : List UInt32) (ha : a.length = 8) (cl : List Nat) (d : Nat → Nat) (hcl : cl.length = 51) (hd : ∀ i, i < 51 → cl.getD i 0 = d i ∧ d i ≤ 15) (w : World) (hk : Sl w w.heap.size vk sk) (hs : Sl w w.heap.size vs seed) (hc : SI w w.heap.size vc cl) (ht : Tabs w)
  (hkl : sk.length = 24) (hsl : seed.length = 24) :
  Calls Tryz.prog 96 #[.agg #[.int .u32 xc, .bool xs, .int .i64 24, .int .i64 xh, .int .i64 51], vk, vs, adrV a, vc] w (SlIs w (endsB xs 24 sk seed a d 51)) := by
 unfold SlIs
 obtain ⟨Ak, ck, rfl, _, _⟩ := hk.form
 obtain ⟨As, cs, rfl, _, _⟩ := hs.form
 obtain ⟨Ac, cc, rfl, _, _⟩ := hc.form
 obtain ⟨gc, hAc, hgc, hgc2, hcc⟩ := hc.at_ (by omega)
 subst hAc
 have H0 : Shh (Sl w w.heap.size (.slice Ak sk.length ck) sk ∧ Sl w w.heap.size (.slice As seed.length cs) seed ∧ Tabs w ∧ gc < w.heap.size ∧ ∀ j (h : j < cl.length), w.cell? ⟨gc, j, none⟩ = some (.int .i64 ((cl[j] : Nat) : Int))) := ⟨hk, hs, ht, hgc2, hcc⟩
 clear hk hs ht hc hcc hgc hgc2
 have HST : Shh (∀ W, Sl W W.heap.size (.slice Ak sk.length ck) sk → Sl W W.heap.size (.slice As seed.length cs) seed → Tabs W → (w.heap.size + 1) < W.heap.size → Calls Tryz.prog 122 #[.agg #[.int .u32 xc, .bool xs, .int .i64 24, .int .i64 xh, .int .i64 51], .slice Ak sk.length ck, .slice As seed.length cs] W (StarterIs W (w.heap.size + 1) (⟨xc, xs, 24, xh, 51⟩ : S5) sk seed)) := ⟨fun W h1 h2 h3 h4 => starter_any (⟨xc, xs, 24, xh, 51⟩ : S5) hx _ _ sk seed W h1 (by omega) h2 (by omega) h3 (w.heap.size + 1) h4 (H0.out.2.1.off (by omega))⟩
 have HWK : Shh (∀ W, Sl W W.heap.size (.slice As seed.length cs) seed → Tabs W → (w.heap.size + 1) < W.heap.size → Calls Tryz.prog 105 #[.agg #[.int .u32 xc, .bool xs, .int .i64 24, .int .i64 xh, .int .i64 51], .slice As seed.length cs] W (WalkerIs W (w.heap.size + 1) (⟨xc, xs, 24, xh, 51⟩ : S5) seed)) := ⟨fun W h1 h2 h3 => walker_any (⟨xc, xs, 24, xh, 51⟩ : S5) hx _ seed W h1 (by omega) h2 (w.heap.size + 1) h3⟩
 have HLE : Shh (∀ k, (endsB xs 24 sk seed a d k).length = 24 * k) := ⟨fun k => endsB_len (x := (⟨xc, xs, 24, xh, 51⟩ : S5)) hx sk seed a d k⟩
 have HLB : Shh (∀ key m, (keyd xs 24 4 key m).length = 24) := ⟨fun key m => (ok_len (x := (⟨xc, xs, 24, xh, 51⟩ : S5)) hx 4 key m).1⟩
 have HGO : Shh (∀ a b f k, b.length = 24 → (goB xs 24 seed a b f k).length = 24) := ⟨fun a b f k hb => goB_length (x := (⟨xc, xs, 24, xh, 51⟩ : S5)) hx seed a b f k hb⟩
 have HD : Shh (cl.length = 51 ∧ ∀ i, i < 51 → cl.getD i 0 = d i ∧ d i ≤ 15) := ⟨hcl, hd⟩
 have HA : Shh (a.length = 8 ∧ (wordCells a).length = 8 ∧ ∀ k, (wordCells (atA a k)).length = 8) := ⟨ha, by rw [wordCells_length]; exact ha, fun k => by rw [wordCells_length, atA_length]; exact ha⟩
 clear ha hcl hd hx
 obtain ⟨zl, HZL⟩ : ∃ zl : List UInt8, Shh (zl = List.replicate 1224 0) := ⟨_, ⟨rfl⟩⟩
 have hmk : ∀ u : World, (Instr.makeSlice 23 (.int .i64 0) (.int .i64 1224)).run Tryz.prog u = .ok (.slice (some ⟨u.heap.size, 0, none⟩) 0 1224) (u.alloc (.cells (Lib.byteCells zl).toArray 5)) := fun u => by rw [HZL.out]; exact make0_run 1224 (by decide) u
 obtain ⟨W, hW⟩ : ∃ W, W = (w.alloc (.cells #[.int .u32 xc, .bool xs, .int .i64 24, .int .i64 xh, .int .i64 51] 27)).alloc (.cells (wordCells a).toArray 64) := ⟨_, rfl⟩
 have HW : Shh (Row W w.heap.size 27 [.int .u32 xc, .bool xs, .int .i64 24, .int .i64 xh, .int .i64 51] ∧ Row W (w.heap.size + 1) 64 (wordCells a) ∧ Below w.heap.size w W) := by
  rw [hW]
  exact ⟨(Row.new_ rfl rfl).alloc _, Row.new_ (by rw [asz]) rfl, Below.chain (below1 _ _) (below1 _ _)⟩
 unfold adrV
 go_enter Tryz.func96, Tryz.ntmps96
 go_wp2_with fail
 rw [← hW]
 clear hW
 refine wp_region_held_drew (S := fun w' => Row w' w.heap.size 27 [.int .u32 xc, .bool xs, .int .i64 24, .int .i64 xh, .int .i64 51]) (by kernel_rfl) HW.out.1.drew (fun hS => ?_)
 clear hS
 obtain ⟨V, hV⟩ : ∃ V, V = World.drew W := ⟨_, rfl⟩
 rw [← hV]
 have rX : Row V w.heap.size 27 [.int .u32 xc, .bool xs, .int .i64 24, .int .i64 xh, .int .i64 51] := by rw [hV]; exact HW.out.1.drew
 have rA : Row V (w.heap.size + 1) 64 (wordCells a) := by rw [hV]; exact HW.out.2.1.drew
 have HBV : Below w.heap.size w V := by rw [hV]; exact HW.out.2.2.drew
 have sK : Sl V V.heap.size (.slice Ak sk.length ck) sk := H0.out.1.go HBV
 have sS : Sl V V.heap.size (.slice As seed.length cs) seed := H0.out.2.1.go HBV
 have rT : Tabs V := H0.out.2.2.1.go HBV
 clear hV HW
 refine hdv0 1 17 (.slice Ak sk.length ck) (by rfl) (rX) ?_
 refine hdv0 2 18 (.slice As seed.length cs) (by rfl) (rX) ?_
 refine hdv0 5 21 (.slice As seed.length cs) (by rfl) (rX) ?_
 refine held_load 0 27 (.tmp 5) (some 16) (by kernel_rfl) (by rfl) (by kernel_rfl) w.heap.size 0 (by kernel_rfl) ([.int .u32 xc, .bool xs, .int .i64 24, .int .i64 xh, .int .i64 51]) _ (fun w h => h.range) Tryz.underlying27 rfl (info_xms) (fun _ _ _ _ h => h) (rX) ?_
 simp only [Act.put, arr9, hd9, tl9]
 refine held_load 4 27 (.tmp 5) (some 20) (by kernel_rfl) (by rfl) (by kernel_rfl) w.heap.size 0 (by kernel_rfl) ([.int .u32 xc, .bool xs, .int .i64 24, .int .i64 xh, .int .i64 51]) _ (fun w h => h.range) Tryz.underlying27 rfl (info_xms) (fun _ _ _ _ h => h) (rX) ?_
 simp only [Act.put, arr9, hd9, tl9]
 refine held_one 3 (by kernel_rfl) ?_
 refine step_call 3 _ _ (some 19) 122 #[.agg ([.int .u32 xc, .bool xs, .int .i64 24, .int .i64 xh, .int .i64 51]).toArray, .slice Ak sk.length ck, .slice As seed.length cs] (by rfl) (by kernel_rfl) (by first | kernel_rfl | go_simp) ?_
 refine (HST.out V (sK) (sS) (rT) (rA).lt).mono ?_
 rintro e Y1 ⟨v, rfl, kv, bv⟩
 have bx : Below V.heap.size V Y1 := bv
 have kS := kv
 obtain ⟨Fs, p1, p2, vEq, _, _⟩ := kv
 subst vEq
 have b_V := bx
 have m_Y1 : V.heap.size ≤ Y1.heap.size := bx.size
 clear bx
 refine ⟨_, rfl, (rX.go b_V), ?_⟩
 simp only [Act.put, arr9, hd9, tl9]
 refine held_one 6 (by kernel_rfl) ?_
 refine step_call 6 _ _ (some 22) 105 #[.agg ([.int .u32 xc, .bool xs, .int .i64 24, .int .i64 xh, .int .i64 51]).toArray, .slice As seed.length cs] (by rfl) (by kernel_rfl) (by first | kernel_rfl | go_simp) ?_
 refine (HWK.out Y1 ((sS.go b_V)) ((rT.go b_V)) ((rA.go b_V)).lt).mono ?_
 rintro e Y2 ⟨v, rfl, kv, bv⟩
 have bx : Below Y1.heap.size Y1 Y2 := bv
 have kW := kv
 obtain ⟨Fw, q1, q2, vEq, _, _⟩ := kv
 subst vEq
 replace b_V := Below.chain b_V bx
 have b_Y1 := bx
 have m_Y2 : Y1.heap.size ≤ Y2.heap.size := bx.size
 clear bx
 refine ⟨_, rfl, (rX.go b_V), ?_⟩
 simp only [Act.put, arr9, hd9, tl9]
 refine hdv0 7 11 (.func (.func Fs) #[] #[p1, p2]) (by rfl) ((rX.go b_V)) ?_
 refine hdv0 8 12 (.func (.func Fw) #[] #[q1, q2]) (by rfl) ((rX.go b_V)) ?_
 refine wpAnyH_done (by kernel_rfl) ?_ _
 have H2 : Shh (Row Y2 w.heap.size 27 [.int .u32 xc, .bool xs, .int .i64 24, .int .i64 xh, .int .i64 51] ∧ Row Y2 (w.heap.size + 1) 64 (wordCells a) ∧ Below w.heap.size w Y2) := ⟨(rX.go b_V), (rA.go b_V), Below.chain HBV b_V⟩
 have kS2 := (kS.go b_Y1)
 have kW2 := kW
 obtain ⟨_, _, _, eS, hcs, hks⟩ := kS2
 cases eS
 obtain ⟨_, _, _, eW, hcw, hkw⟩ := kW2
 cases eW
 have HKS := Shh.mk hks
 have HKW := Shh.mk hkw
 clear m_Y2 b_Y1 kW m_Y1 b_V kS bv HBV rX rA sK sS rT hks hkw
 have e2 := H2.out.1.cell 2
 have e4 := H2.out.1.cell 4
 simp only [List.getElem?_cons_succ, List.getElem?_cons_zero] at e2 e4
 obtain ⟨W4, hW4⟩ : ∃ W4, W4 = Y2.alloc (.cells (Lib.byteCells zl).toArray 5) := ⟨_, rfl⟩
 obtain ⟨B, hB⟩ : ∃ B, Shh (B = Y2.heap.size) := ⟨_, ⟨rfl⟩⟩
 have H5 : Shh (But Y2.heap.size (w.heap.size + 1) Y2 W4 ∧ Row W4 w.heap.size 27 [.int .u32 xc, .bool xs, .int .i64 24, .int .i64 xh, .int .i64 51] ∧ Own W4 B (.slice (some ⟨B, 0, none⟩) 0 1224) [] ∧ Row W4 (w.heap.size + 1) 64 (wordCells a) ∧ B ≤ W4.heap.size) := by
  rw [hW4, hB.out]
  exact ⟨But.of (below1 _ _) _, H2.out.1.alloc _, World.ownsRow_made Y2 _ 1224 (Nat.le_refl _) (by unfold maxLen; omega) (by rw [HZL.out]; simp [Lib.byteCells]), H2.out.2.1.alloc _, by rw [asz]; omega⟩
 have HB2 : Shh (w.heap.size + 1 < B ∧ Below w.heap.size w Y2 ∧ B = Y2.heap.size) := ⟨by rw [hB.out]; exact H2.out.2.1.lt, H2.out.2.2, hB.out⟩
 go_wp2
 rw [← hB.out, ← hW4]
 clear H2 hW4 hB e2 e4 hmk HZL HST HWK
 go_loopw [13, 31] (fun o i wr => ∃ (k : Nat) (a' : List UInt32), k ≤ 51 ∧ i = .int .i64 (k : Int) ∧ Shh (a'.length = 8 ∧ (∀ i, atA a' i = atA a i) ∧ Row wr (w.heap.size + 1) 64 (wordCells a') ∧ Row wr w.heap.size 27 [.int .u32 xc, .bool xs, .int .i64 24, .int .i64 xh, .int .i64 51] ∧ But Y2.heap.size (w.heap.size + 1) Y2 wr ∧ B ≤ wr.heap.size) ∧ Shh (Own wr B o (endsB xs 24 sk seed a d k))) (fun _ i _ => 51 - (intOf i).toNat)
 case atStart => exact ⟨0, a, Nat.zero_le _, rfl, ⟨HA.out.1, fun _ => rfl, H5.out.2.2.2.1, H5.out.2.1, H5.out.1, H5.out.2.2.2.2⟩, ⟨H5.out.2.2.1⟩⟩
 case round =>
  clear H5
  obtain ⟨k, a', hk, rfl, HL, HO⟩ := hrel
  have ho := HO.out
  obtain ⟨Ao, co, rfl⟩ := own_form ho
  clear ho
  have HBW : Shh (Below w.heap.size w wr) := ⟨HB2.out.2.1.trans (HL.out.2.2.2.2.1.under (by have := HB2.out; omega) (by omega))⟩
  by_cases hlt : k < 51
  ·obtain ⟨dk, hdk⟩ : ∃ dk, dk = d k := ⟨_, rfl⟩
   have hkd : k < cl.length := by rw [HD.out.1]; exact hlt
   have hdg : cl[k] = dk := by
    have h := (HD.out.2 k hlt).1
    rw [List.getD_eq_getElem?_getD, List.getElem?_eq_getElem hkd] at h
    rw [hdk]
    exact h
   have hd16 : dk ≤ 15 := by rw [hdk]; exact (HD.out.2 k hlt).2
   have hck := (HBW.out.cell (p := ⟨gc, k, none⟩) H0.out.2.2.2.1).trans (H0.out.2.2.2.2 k hkd)
   rw [hdg] at hck
   have hkdi : (k : Int) < (cl.length : Int) := by omega
   have hkq : (k : Int) % 4294967296 = (k : Int) := by omega
   obtain ⟨bg, hbg⟩ : ∃ bg, bg = keyd xs 24 4 sk (seed ++ adrB (withA (atA a k) 0 0)) := ⟨_, rfl⟩
   obtain ⟨nb, hnb⟩ : ∃ nb, nb = goB xs 24 seed (atA a k) bg 0 dk := ⟨_, rfl⟩
   have HE : Shh ((endsB xs 24 sk seed a d (k + 1)) = (endsB xs 24 sk seed a d k) ++ nb ∧ (endsB xs 24 sk seed a d k).length ≤ 3000 ∧ nb.length = 24 ∧ bg.length = 24) := by
    have hp : bg.length = 24 := by rw [hbg]; exact HLB.out _ _
    refine ⟨by rw [hnb, hbg, hdk]; exact endsB_step xs 24 sk seed a d k, by rw [HLE.out k]; omega, by rw [hnb]; exact HGO.out _ _ _ _ hp, hp⟩
   have HNB : Shh (nb = goB xs 24 seed (atA a k) bg 0 dk ∧ bg = keyd xs 24 4 sk (seed ++ adrB (withA (atA a k) 0 0))) := ⟨hnb, hbg⟩
   clear hnb hbg hdk hdg
   obtain ⟨E2, hE2⟩ : ∃ E2, E2 = (endsB xs 24 sk seed a d (k + 1)) := ⟨_, rfl⟩
   have HE2 : Shh (E2 = (endsB xs 24 sk seed a d (k + 1))) := ⟨hE2⟩
   rw [← hE2] at HE
   clear hE2
   generalize (endsB xs 24 sk seed a d k) = E at HE HO
   obtain ⟨y5, c5⟩ : ∃ y : Int, wr.cell? ⟨w.heap.size + 1, 5, none⟩ = some (.int .u32 y) := ⟨_, wordRow_cell HL.out.2.2.1 5 (by rw [HL.out.1]; decide)⟩
   have f5 := HL.out.2.2.1.free 5
   obtain ⟨Z, hZ⟩ : ∃ Z, Z = wr.setCell ⟨w.heap.size + 1, 5, none⟩ (.int .u32 (k : Int)) := ⟨_, rfl⟩
   have HZ : Shh (Row Z w.heap.size 27 [.int .u32 xc, .bool xs, .int .i64 24, .int .i64 xh, .int .i64 51] ∧ Row Z (w.heap.size + 1) 64 (wordCells (atA a k)) ∧ Below w.heap.size w Z ∧ But Y2.heap.size (w.heap.size + 1) Y2 Z ∧ Own Z B (.slice Ao E.length co) E ∧ B ≤ Z.heap.size) := by
    rw [hZ]
    refine ⟨HL.out.2.2.2.1.other _ _ (by show w.heap.size ≠ w.heap.size + 1; omega), ?_, HBW.out.setCell (Nat.le_succ _) _, HL.out.2.2.2.2.1.setCell _ _, ownsRow_setCell_below HO.out HB2.out.1 _, by simpa using HL.out.2.2.2.2.2⟩
    rw [← HL.out.2.1 k]
    exact wordRow_set HL.out.2.2.1 5 k (by omega)
   clear HL HO HBW
   go_wp2_with fail
   rw [← hZ]
   clear hZ c5 f5 hck hkdi hkq
   refine wp_region_held_drew (S := fun w' => Row w' w.heap.size 27 [.int .u32 xc, .bool xs, .int .i64 24, .int .i64 xh, .int .i64 51] ∧ Row w' (w.heap.size + 1) 64 (wordCells (atA a k))) (by kernel_rfl) ⟨HZ.out.1.drew, HZ.out.2.1.drew⟩ (fun hS => ?_)
   clear hS
   obtain ⟨V3, hV3⟩ : ∃ V3, V3 = World.drew Z := ⟨_, rfl⟩
   rw [← hV3]
   have rX3 : Row V3 w.heap.size 27 [.int .u32 xc, .bool xs, .int .i64 24, .int .i64 xh, .int .i64 51] := by rw [hV3]; exact HZ.out.1.drew
   have rA3 : Row V3 (w.heap.size + 1) 64 (wordCells (atA a k)) := by rw [hV3]; exact HZ.out.2.1.drew
   have HBV3 : Below w.heap.size w V3 := by rw [hV3]; exact HZ.out.2.2.1.drew
   have HBu : But Y2.heap.size (w.heap.size + 1) Y2 V3 := by rw [hV3]; exact HZ.out.2.2.2.1.drew
   have oE : Own V3 B (.slice Ao E.length co) E := by rw [hV3]; exact HZ.out.2.2.2.2.1.drew
   have hBV : B ≤ V3.heap.size := by rw [hV3]; exact HZ.out.2.2.2.2.2
   have rT3 : Tabs V3 := H0.out.2.2.1.go HBV3
   clear hV3 HZ
   refine hdv0 0 39 (.slice Ao E.length co) (by rfl) (⟨rX3, rA3⟩) ?_
   refine hdv0 1 40 (.func (.func Fw) #[] #[q1, q2]) (by rfl) (⟨rX3, rA3⟩) ?_
   refine hdv0 2 41 (.func (.func Fs) #[] #[p1, p2]) (by rfl) (⟨rX3, rA3⟩) ?_
   refine hdv0 5 44 (.int .i64 (dk : Int)) (by rfl) (⟨rX3, rA3⟩) ?_
   refine held_load 3 64 (.tmp 8) (some 42) (by kernel_rfl) (by rfl) (by kernel_rfl) (w.heap.size + 1) 0 (by kernel_rfl) (wordCells (atA a k)) _ (fun w h => h.2.range) Tryz.underlying64 rfl (info_adr10 (HA.out.2.2 k)) (fun _ _ _ _ h => h) (⟨rX3, rA3⟩) ?_
   simp only [Act.put, arr9, hd9, tl9]
   refine held_load 6 64 (.tmp 8) (some 45) (by kernel_rfl) (by rfl) (by kernel_rfl) (w.heap.size + 1) 0 (by kernel_rfl) (wordCells (atA a k)) _ (fun w h => h.2.range) Tryz.underlying64 rfl (info_adr10 (HA.out.2.2 k)) (fun _ _ _ _ h => h) (⟨rX3, rA3⟩) ?_
   simp only [Act.put, arr9, hd9, tl9]
   refine held_one 4 (by kernel_rfl) ?_
   refine step_call 4 _ _ (some 43) Fs #[.agg (wordCells (atA a k)).toArray, p1, p2] (by rfl) (by kernel_rfl) (by go_simp) ?_
   refine (HKS.out V3 (atA a k) (HBu.chain (But.of (Below.refl _ _) _)) (rT3) (by rw [atA_length]; exact HA.out.1)).mono ?_
   rintro e Y3 ⟨vb, rfl, gb, bb, ob⟩
   have bx : Below V3.heap.size V3 Y3 := bb
   have sB : Sl Y3 Y3.heap.size vb bg := by rw [HNB.out.2]; exact gb
   clear gb ob
   have b_V3 := bx
   have m_Y3 : V3.heap.size ≤ Y3.heap.size := bx.size
   clear bx
   refine ⟨_, rfl, ⟨(rX3.go b_V3), (rA3.go b_V3)⟩, ?_⟩
   simp only [Act.put, arr9, hd9, tl9]
   refine held_one 7 (by kernel_rfl) ?_
   refine step_call 7 _ _ (some 46) Fw #[vb, .int .i64 0, .int .i64 (dk : Int), .agg (wordCells (atA a k)).toArray, q1, q2] (by rfl) (by kernel_rfl) (by go_simp) ?_
   refine (HKW.out Y3 _ bg 0 dk (atA a k) (HBu.chain (But.of b_V3 _)) ((rT3.go b_V3)) (sB) HE.out.2.2.2 (by omega) (by rw [atA_length]; exact HA.out.1)).mono ?_
   rintro e Y4 ⟨vr, rfl, gr, br, or⟩
   have bx : Below Y3.heap.size Y3 Y4 := br
   have sR : Sl Y4 Y4.heap.size vr nb := by rw [HNB.out.1]; exact gr
   clear gr or
   replace b_V3 := Below.chain b_V3 bx
   have b_Y3 := bx
   have m_Y4 : Y3.heap.size ≤ Y4.heap.size := bx.size
   clear bx
   refine ⟨_, rfl, ⟨(rX3.go b_V3), (rA3.go b_V3)⟩, ?_⟩
   simp only [Act.put, arr9, hd9, tl9]
   refine held_one 8 (by kernel_rfl) ?_
   obtain ⟨i0, hi, hz0, hz1, hz2⟩ := info_parts info_u8
   refine step_appendSl Y4 8 _ (some 47) 23 5 i0 Tryz.underlying23 hi hz0 hz1 hz2 (.tmp 39) (.tmp 46) (by rfl) (by kernel_rfl) ((oE.go b_V3)) (sR) (by rw [HE.out.2.2.1]; decide) rfl rfl (by rw [HE.out.2.2.1]; have := HE.out.2.1; omega) (Nat.le_trans hBV (b_V3).size) (fun v9 Y5 o9 g9 b9 => ?_)
   rw [← HE.out.1] at o9
   have q0 : Row Y5 w.heap.size 27 [.int .u32 xc, .bool xs, .int .i64 24, .int .i64 xh, .int .i64 51] := ((rX3.go b_V3)).below (b9 _ (Nat.le_refl _)) (by have := HB2.out; omega)
   have q1x : Row Y5 (w.heap.size + 1) 64 (wordCells (atA a k)) := ((rA3.go b_V3)).below (b9 _ (Nat.le_refl _)) (by have := HB2.out; omega)
   have q3 : But Y2.heap.size (w.heap.size + 1) Y2 Y5 := (HBu.chain (But.of b_V3 _)).trans (But.of (b9 _ (by have := HB2.out; omega)) _)
   have q4 : B ≤ Y5.heap.size := Nat.le_trans (Nat.le_trans hBV (b_V3).size) (b9 _ (Nat.le_refl _)).size
   replace rX3 := q0
   replace rA3 := q1x
   refine ⟨⟨rX3, rA3⟩, ?_⟩
   simp only [Act.put, arr9, hd9, tl9]
   refine hdv0 9 13 (v9) (by rfl) (⟨rX3, rA3⟩) ?_
   refine wpAnyH_done (by kernel_rfl) ?_ _
   have H9 : Shh ((atA a k).length = 8 ∧ (∀ i, atA (atA a k) i = atA a i) ∧ Row Y5 (w.heap.size + 1) 64 (wordCells (atA a k)) ∧ Row Y5 w.heap.size 27 [.int .u32 xc, .bool xs, .int .i64 24, .int .i64 xh, .int .i64 51] ∧ But Y2.heap.size (w.heap.size + 1) Y2 Y5 ∧ B ≤ Y5.heap.size) := ⟨by rw [atA_length]; exact HA.out.1, fun i => atA_again a k i, q1x, q0, q3, q4⟩
   have H11 : Shh (Own Y5 B v9 (endsB xs 24 sk seed a d (k + 1))) := ⟨by rw [← HE2.out]; exact o9⟩
   clear q0 q1x q3 q4 o9 g9 b9 HBV3 HBu oE hBV rT3 rX3 rA3 HE HE2 HNB
   go_wp2
   go_roundw
   case rel => exact ⟨k + 1, _, by omega, by go_num, H9, H11⟩
   case measure => simp [intOf]; omega
  ·have hkd : ¬ ((k : Int) < (cl.length : Int)) := by have := HD.out.1; omega
   have HR : Shh (Sl wr wr.heap.size (.slice Ao (endsB xs 24 sk seed a d k).length co) (endsB xs 24 sk seed a d 51) ∧ Below w.heap.size w wr) := ⟨by
    have hk2 : k = 51 := by omega
    have h := Sl.of_own HO.out
    rw [hk2] at h ⊢
    exact h, HBW.out⟩
   clear HL HO HBW HLE HGO
   go_wp2
   go_ret
   exact ⟨_, rfl, HR.out⟩
set_option maxHeartbeats 2000000 in
theorem grown_32 (xc : Int) (xs : Bool) (xh : Int) (hx : (⟨xc, xs, 32, xh, 67⟩ : S5).ok = true) (vk vs vc : Value) (sk seed : List UInt8) (a : List UInt32) (ha : a.length = 8) (cl : List Nat) (d : Nat → Nat) (hcl : cl.length = 67) (hd : ∀ i, i < 67 → cl.getD i 0 = d i ∧ d i ≤ 15) (w : World) (hk : Sl w w.heap.size vk sk) (hs : Sl w w.heap.size vs seed) (hc : SI w w.heap.size vc cl) (ht : Tabs w)
  (hkl : sk.length = 32) (hsl : seed.length = 32) :
  Calls Tryz.prog 96 #[.agg #[.int .u32 xc, .bool xs, .int .i64 32, .int .i64 xh, .int .i64 67], vk, vs, adrV a, vc] w (SlIs w (endsB xs 32 sk seed a d 67)) := by
 unfold SlIs
 obtain ⟨Ak, ck, rfl, _, _⟩ := hk.form
 obtain ⟨As, cs, rfl, _, _⟩ := hs.form
 obtain ⟨Ac, cc, rfl, _, _⟩ := hc.form
 obtain ⟨gc, hAc, hgc, hgc2, hcc⟩ := hc.at_ (by omega)
 subst hAc
 have H0 : Shh (Sl w w.heap.size (.slice Ak sk.length ck) sk ∧ Sl w w.heap.size (.slice As seed.length cs) seed ∧ Tabs w ∧ gc < w.heap.size ∧ ∀ j (h : j < cl.length), w.cell? ⟨gc, j, none⟩ = some (.int .i64 ((cl[j] : Nat) : Int))) := ⟨hk, hs, ht, hgc2, hcc⟩
 clear hk hs ht hc hcc hgc hgc2
 have HST : Shh (∀ W, Sl W W.heap.size (.slice Ak sk.length ck) sk → Sl W W.heap.size (.slice As seed.length cs) seed → Tabs W → (w.heap.size + 1) < W.heap.size → Calls Tryz.prog 122 #[.agg #[.int .u32 xc, .bool xs, .int .i64 32, .int .i64 xh, .int .i64 67], .slice Ak sk.length ck, .slice As seed.length cs] W (StarterIs W (w.heap.size + 1) (⟨xc, xs, 32, xh, 67⟩ : S5) sk seed)) := ⟨fun W h1 h2 h3 h4 => starter_any (⟨xc, xs, 32, xh, 67⟩ : S5) hx _ _ sk seed W h1 (by omega) h2 (by omega) h3 (w.heap.size + 1) h4 (H0.out.2.1.off (by omega))⟩
 have HWK : Shh (∀ W, Sl W W.heap.size (.slice As seed.length cs) seed → Tabs W → (w.heap.size + 1) < W.heap.size → Calls Tryz.prog 105 #[.agg #[.int .u32 xc, .bool xs, .int .i64 32, .int .i64 xh, .int .i64 67], .slice As seed.length cs] W (WalkerIs W (w.heap.size + 1) (⟨xc, xs, 32, xh, 67⟩ : S5) seed)) := ⟨fun W h1 h2 h3 => walker_any (⟨xc, xs, 32, xh, 67⟩ : S5) hx _ seed W h1 (by omega) h2 (w.heap.size + 1) h3⟩
 have HLE : Shh (∀ k, (endsB xs 32 sk seed a d k).length = 32 * k) := ⟨fun k => endsB_len (x := (⟨xc, xs, 32, xh, 67⟩ : S5)) hx sk seed a d k⟩
 have HLB : Shh (∀ key m, (keyd xs 32 4 key m).length = 32) := ⟨fun key m => (ok_len (x := (⟨xc, xs, 32, xh, 67⟩ : S5)) hx 4 key m).1⟩
 have HGO : Shh (∀ a b f k, b.length = 32 → (goB xs 32 seed a b f k).length = 32) := ⟨fun a b f k hb => goB_length (x := (⟨xc, xs, 32, xh, 67⟩ : S5)) hx seed a b f k hb⟩
 have HD : Shh (cl.length = 67 ∧ ∀ i, i < 67 → cl.getD i 0 = d i ∧ d i ≤ 15) := ⟨hcl, hd⟩
 have HA : Shh (a.length = 8 ∧ (wordCells a).length = 8 ∧ ∀ k, (wordCells (atA a k)).length = 8) := ⟨ha, by rw [wordCells_length]; exact ha, fun k => by rw [wordCells_length, atA_length]; exact ha⟩
 clear ha hcl hd hx
 obtain ⟨zl, HZL⟩ : ∃ zl : List UInt8, Shh (zl = List.replicate 2144 0) := ⟨_, ⟨rfl⟩⟩
 have hmk : ∀ u : World, (Instr.makeSlice 23 (.int .i64 0) (.int .i64 2144)).run Tryz.prog u = .ok (.slice (some ⟨u.heap.size, 0, none⟩) 0 2144) (u.alloc (.cells (Lib.byteCells zl).toArray 5)) := fun u => by rw [HZL.out]; exact make0_run 2144 (by decide) u
 obtain ⟨W, hW⟩ : ∃ W, W = (w.alloc (.cells #[.int .u32 xc, .bool xs, .int .i64 32, .int .i64 xh, .int .i64 67] 27)).alloc (.cells (wordCells a).toArray 64) := ⟨_, rfl⟩
 have HW : Shh (Row W w.heap.size 27 [.int .u32 xc, .bool xs, .int .i64 32, .int .i64 xh, .int .i64 67] ∧ Row W (w.heap.size + 1) 64 (wordCells a) ∧ Below w.heap.size w W) := by
  rw [hW]
  exact ⟨(Row.new_ rfl rfl).alloc _, Row.new_ (by rw [asz]) rfl, Below.chain (below1 _ _) (below1 _ _)⟩
 unfold adrV
 go_enter Tryz.func96, Tryz.ntmps96
 go_wp2_with fail
 rw [← hW]
 clear hW
 refine wp_region_held_drew (S := fun w' => Row w' w.heap.size 27 [.int .u32 xc, .bool xs, .int .i64 32, .int .i64 xh, .int .i64 67]) (by kernel_rfl) HW.out.1.drew (fun hS => ?_)
 clear hS
 obtain ⟨V, hV⟩ : ∃ V, V = World.drew W := ⟨_, rfl⟩
 rw [← hV]
 have rX : Row V w.heap.size 27 [.int .u32 xc, .bool xs, .int .i64 32, .int .i64 xh, .int .i64 67] := by rw [hV]; exact HW.out.1.drew
 have rA : Row V (w.heap.size + 1) 64 (wordCells a) := by rw [hV]; exact HW.out.2.1.drew
 have HBV : Below w.heap.size w V := by rw [hV]; exact HW.out.2.2.drew
 have sK : Sl V V.heap.size (.slice Ak sk.length ck) sk := H0.out.1.go HBV
 have sS : Sl V V.heap.size (.slice As seed.length cs) seed := H0.out.2.1.go HBV
 have rT : Tabs V := H0.out.2.2.1.go HBV
 clear hV HW
 refine hdv0 1 17 (.slice Ak sk.length ck) (by rfl) (rX) ?_
 refine hdv0 2 18 (.slice As seed.length cs) (by rfl) (rX) ?_
 refine hdv0 5 21 (.slice As seed.length cs) (by rfl) (rX) ?_
 refine held_load 0 27 (.tmp 5) (some 16) (by kernel_rfl) (by rfl) (by kernel_rfl) w.heap.size 0 (by kernel_rfl) ([.int .u32 xc, .bool xs, .int .i64 32, .int .i64 xh, .int .i64 67]) _ (fun w h => h.range) Tryz.underlying27 rfl (info_xms) (fun _ _ _ _ h => h) (rX) ?_
 simp only [Act.put, arr9, hd9, tl9]
 refine held_load 4 27 (.tmp 5) (some 20) (by kernel_rfl) (by rfl) (by kernel_rfl) w.heap.size 0 (by kernel_rfl) ([.int .u32 xc, .bool xs, .int .i64 32, .int .i64 xh, .int .i64 67]) _ (fun w h => h.range) Tryz.underlying27 rfl (info_xms) (fun _ _ _ _ h => h) (rX) ?_
 simp only [Act.put, arr9, hd9, tl9]
 refine held_one 3 (by kernel_rfl) ?_
 refine step_call 3 _ _ (some 19) 122 #[.agg ([.int .u32 xc, .bool xs, .int .i64 32, .int .i64 xh, .int .i64 67]).toArray, .slice Ak sk.length ck, .slice As seed.length cs] (by rfl) (by kernel_rfl) (by first | kernel_rfl | go_simp) ?_
 refine (HST.out V (sK) (sS) (rT) (rA).lt).mono ?_
 rintro e Y1 ⟨v, rfl, kv, bv⟩
 have bx : Below V.heap.size V Y1 := bv
 have kS := kv
 obtain ⟨Fs, p1, p2, vEq, _, _⟩ := kv
 subst vEq
 have b_V := bx
 have m_Y1 : V.heap.size ≤ Y1.heap.size := bx.size
 clear bx
 refine ⟨_, rfl, (rX.go b_V), ?_⟩
 simp only [Act.put, arr9, hd9, tl9]
 refine held_one 6 (by kernel_rfl) ?_
 refine step_call 6 _ _ (some 22) 105 #[.agg ([.int .u32 xc, .bool xs, .int .i64 32, .int .i64 xh, .int .i64 67]).toArray, .slice As seed.length cs] (by rfl) (by kernel_rfl) (by first | kernel_rfl | go_simp) ?_
 refine (HWK.out Y1 ((sS.go b_V)) ((rT.go b_V)) ((rA.go b_V)).lt).mono ?_
 rintro e Y2 ⟨v, rfl, kv, bv⟩
 have bx : Below Y1.heap.size Y1 Y2 := bv
 have kW := kv
 obtain ⟨Fw, q1, q2, vEq, _, _⟩ := kv
 subst vEq
 replace b_V := Below.chain b_V bx
 have b_Y1 := bx
 have m_Y2 : Y1.heap.size ≤ Y2.heap.size := bx.size
 clear bx
 refine ⟨_, rfl, (rX.go b_V), ?_⟩
 simp only [Act.put, arr9, hd9, tl9]
 refine hdv0 7 11 (.func (.func Fs) #[] #[p1, p2]) (by rfl) ((rX.go b_V)) ?_
 refine hdv0 8 12 (.func (.func Fw) #[] #[q1, q2]) (by rfl) ((rX.go b_V)) ?_
 refine wpAnyH_done (by kernel_rfl) ?_ _
 have H2 : Shh (Row Y2 w.heap.size 27 [.int .u32 xc, .bool xs, .int .i64 32, .int .i64 xh, .int .i64 67] ∧ Row Y2 (w.heap.size + 1) 64 (wordCells a) ∧ Below w.heap.size w Y2) := ⟨(rX.go b_V), (rA.go b_V), Below.chain HBV b_V⟩
 have kS2 := (kS.go b_Y1)
 have kW2 := kW
 obtain ⟨_, _, _, eS, hcs, hks⟩ := kS2
 cases eS
 obtain ⟨_, _, _, eW, hcw, hkw⟩ := kW2
 cases eW
 have HKS := Shh.mk hks
 have HKW := Shh.mk hkw
 clear m_Y2 b_Y1 kW m_Y1 b_V kS bv HBV rX rA sK sS rT hks hkw
 have e2 := H2.out.1.cell 2
 have e4 := H2.out.1.cell 4
 simp only [List.getElem?_cons_succ, List.getElem?_cons_zero] at e2 e4
 obtain ⟨W4, hW4⟩ : ∃ W4, W4 = Y2.alloc (.cells (Lib.byteCells zl).toArray 5) := ⟨_, rfl⟩
 obtain ⟨B, hB⟩ : ∃ B, Shh (B = Y2.heap.size) := ⟨_, ⟨rfl⟩⟩
 have H5 : Shh (But Y2.heap.size (w.heap.size + 1) Y2 W4 ∧ Row W4 w.heap.size 27 [.int .u32 xc, .bool xs, .int .i64 32, .int .i64 xh, .int .i64 67] ∧ Own W4 B (.slice (some ⟨B, 0, none⟩) 0 2144) [] ∧ Row W4 (w.heap.size + 1) 64 (wordCells a) ∧ B ≤ W4.heap.size) := by
  rw [hW4, hB.out]
  exact ⟨But.of (below1 _ _) _, H2.out.1.alloc _, World.ownsRow_made Y2 _ 2144 (Nat.le_refl _) (by unfold maxLen; omega) (by rw [HZL.out]; simp [Lib.byteCells]), H2.out.2.1.alloc _, by rw [asz]; omega⟩
 have HB2 : Shh (w.heap.size + 1 < B ∧ Below w.heap.size w Y2 ∧ B = Y2.heap.size) := ⟨by rw [hB.out]; exact H2.out.2.1.lt, H2.out.2.2, hB.out⟩
 go_wp2
 rw [← hB.out, ← hW4]
 clear H2 hW4 hB e2 e4 hmk HZL HST HWK
 go_loopw [13, 31] (fun o i wr => ∃ (k : Nat) (a' : List UInt32), k ≤ 67 ∧ i = .int .i64 (k : Int) ∧ Shh (a'.length = 8 ∧ (∀ i, atA a' i = atA a i) ∧ Row wr (w.heap.size + 1) 64 (wordCells a') ∧ Row wr w.heap.size 27 [.int .u32 xc, .bool xs, .int .i64 32, .int .i64 xh, .int .i64 67] ∧ But Y2.heap.size (w.heap.size + 1) Y2 wr ∧ B ≤ wr.heap.size) ∧ Shh (Own wr B o (endsB xs 32 sk seed a d k))) (fun _ i _ => 67 - (intOf i).toNat)
 case atStart => exact ⟨0, a, Nat.zero_le _, rfl, ⟨HA.out.1, fun _ => rfl, H5.out.2.2.2.1, H5.out.2.1, H5.out.1, H5.out.2.2.2.2⟩, ⟨H5.out.2.2.1⟩⟩
 case round =>
  clear H5
  obtain ⟨k, a', hk, rfl, HL, HO⟩ := hrel
  have ho := HO.out
  obtain ⟨Ao, co, rfl⟩ := own_form ho
  clear ho
  have HBW : Shh (Below w.heap.size w wr) := ⟨HB2.out.2.1.trans (HL.out.2.2.2.2.1.under (by have := HB2.out; omega) (by omega))⟩
  by_cases hlt : k < 67
  ·obtain ⟨dk, hdk⟩ : ∃ dk, dk = d k := ⟨_, rfl⟩
   have hkd : k < cl.length := by rw [HD.out.1]; exact hlt
   have hdg : cl[k] = dk := by
    have h := (HD.out.2 k hlt).1
    rw [List.getD_eq_getElem?_getD, List.getElem?_eq_getElem hkd] at h
    rw [hdk]
    exact h
   have hd16 : dk ≤ 15 := by rw [hdk]; exact (HD.out.2 k hlt).2
   have hck := (HBW.out.cell (p := ⟨gc, k, none⟩) H0.out.2.2.2.1).trans (H0.out.2.2.2.2 k hkd)
   rw [hdg] at hck
   have hkdi : (k : Int) < (cl.length : Int) := by omega
   have hkq : (k : Int) % 4294967296 = (k : Int) := by omega
   obtain ⟨bg, hbg⟩ : ∃ bg, bg = keyd xs 32 4 sk (seed ++ adrB (withA (atA a k) 0 0)) := ⟨_, rfl⟩
   obtain ⟨nb, hnb⟩ : ∃ nb, nb = goB xs 32 seed (atA a k) bg 0 dk := ⟨_, rfl⟩
   have HE : Shh ((endsB xs 32 sk seed a d (k + 1)) = (endsB xs 32 sk seed a d k) ++ nb ∧ (endsB xs 32 sk seed a d k).length ≤ 3000 ∧ nb.length = 32 ∧ bg.length = 32) := by
    have hp : bg.length = 32 := by rw [hbg]; exact HLB.out _ _
    refine ⟨by rw [hnb, hbg, hdk]; exact endsB_step xs 32 sk seed a d k, by rw [HLE.out k]; omega, by rw [hnb]; exact HGO.out _ _ _ _ hp, hp⟩
   have HNB : Shh (nb = goB xs 32 seed (atA a k) bg 0 dk ∧ bg = keyd xs 32 4 sk (seed ++ adrB (withA (atA a k) 0 0))) := ⟨hnb, hbg⟩
   clear hnb hbg hdk hdg
   obtain ⟨E2, hE2⟩ : ∃ E2, E2 = (endsB xs 32 sk seed a d (k + 1)) := ⟨_, rfl⟩
   have HE2 : Shh (E2 = (endsB xs 32 sk seed a d (k + 1))) := ⟨hE2⟩
   rw [← hE2] at HE
   clear hE2
   generalize (endsB xs 32 sk seed a d k) = E at HE HO
   obtain ⟨y5, c5⟩ : ∃ y : Int, wr.cell? ⟨w.heap.size + 1, 5, none⟩ = some (.int .u32 y) := ⟨_, wordRow_cell HL.out.2.2.1 5 (by rw [HL.out.1]; decide)⟩
   have f5 := HL.out.2.2.1.free 5
   obtain ⟨Z, hZ⟩ : ∃ Z, Z = wr.setCell ⟨w.heap.size + 1, 5, none⟩ (.int .u32 (k : Int)) := ⟨_, rfl⟩
   have HZ : Shh (Row Z w.heap.size 27 [.int .u32 xc, .bool xs, .int .i64 32, .int .i64 xh, .int .i64 67] ∧ Row Z (w.heap.size + 1) 64 (wordCells (atA a k)) ∧ Below w.heap.size w Z ∧ But Y2.heap.size (w.heap.size + 1) Y2 Z ∧ Own Z B (.slice Ao E.length co) E ∧ B ≤ Z.heap.size) := by
    rw [hZ]
    refine ⟨HL.out.2.2.2.1.other _ _ (by show w.heap.size ≠ w.heap.size + 1; omega), ?_, HBW.out.setCell (Nat.le_succ _) _, HL.out.2.2.2.2.1.setCell _ _, ownsRow_setCell_below HO.out HB2.out.1 _, by simpa using HL.out.2.2.2.2.2⟩
    rw [← HL.out.2.1 k]
    exact wordRow_set HL.out.2.2.1 5 k (by omega)
   clear HL HO HBW
   go_wp2_with fail
   rw [← hZ]
   clear hZ c5 f5 hck hkdi hkq
   refine wp_region_held_drew (S := fun w' => Row w' w.heap.size 27 [.int .u32 xc, .bool xs, .int .i64 32, .int .i64 xh, .int .i64 67] ∧ Row w' (w.heap.size + 1) 64 (wordCells (atA a k))) (by kernel_rfl) ⟨HZ.out.1.drew, HZ.out.2.1.drew⟩ (fun hS => ?_)
   clear hS
   obtain ⟨V3, hV3⟩ : ∃ V3, V3 = World.drew Z := ⟨_, rfl⟩
   rw [← hV3]
   have rX3 : Row V3 w.heap.size 27 [.int .u32 xc, .bool xs, .int .i64 32, .int .i64 xh, .int .i64 67] := by rw [hV3]; exact HZ.out.1.drew
   have rA3 : Row V3 (w.heap.size + 1) 64 (wordCells (atA a k)) := by rw [hV3]; exact HZ.out.2.1.drew
   have HBV3 : Below w.heap.size w V3 := by rw [hV3]; exact HZ.out.2.2.1.drew
   have HBu : But Y2.heap.size (w.heap.size + 1) Y2 V3 := by rw [hV3]; exact HZ.out.2.2.2.1.drew
   have oE : Own V3 B (.slice Ao E.length co) E := by rw [hV3]; exact HZ.out.2.2.2.2.1.drew
   have hBV : B ≤ V3.heap.size := by rw [hV3]; exact HZ.out.2.2.2.2.2
   have rT3 : Tabs V3 := H0.out.2.2.1.go HBV3
   clear hV3 HZ
   refine hdv0 0 39 (.slice Ao E.length co) (by rfl) (⟨rX3, rA3⟩) ?_
   refine hdv0 1 40 (.func (.func Fw) #[] #[q1, q2]) (by rfl) (⟨rX3, rA3⟩) ?_
   refine hdv0 2 41 (.func (.func Fs) #[] #[p1, p2]) (by rfl) (⟨rX3, rA3⟩) ?_
   refine hdv0 5 44 (.int .i64 (dk : Int)) (by rfl) (⟨rX3, rA3⟩) ?_
   refine held_load 3 64 (.tmp 8) (some 42) (by kernel_rfl) (by rfl) (by kernel_rfl) (w.heap.size + 1) 0 (by kernel_rfl) (wordCells (atA a k)) _ (fun w h => h.2.range) Tryz.underlying64 rfl (info_adr10 (HA.out.2.2 k)) (fun _ _ _ _ h => h) (⟨rX3, rA3⟩) ?_
   simp only [Act.put, arr9, hd9, tl9]
   refine held_load 6 64 (.tmp 8) (some 45) (by kernel_rfl) (by rfl) (by kernel_rfl) (w.heap.size + 1) 0 (by kernel_rfl) (wordCells (atA a k)) _ (fun w h => h.2.range) Tryz.underlying64 rfl (info_adr10 (HA.out.2.2 k)) (fun _ _ _ _ h => h) (⟨rX3, rA3⟩) ?_
   simp only [Act.put, arr9, hd9, tl9]
   refine held_one 4 (by kernel_rfl) ?_
   refine step_call 4 _ _ (some 43) Fs #[.agg (wordCells (atA a k)).toArray, p1, p2] (by rfl) (by kernel_rfl) (by go_simp) ?_
   refine (HKS.out V3 (atA a k) (HBu.chain (But.of (Below.refl _ _) _)) (rT3) (by rw [atA_length]; exact HA.out.1)).mono ?_
   rintro e Y3 ⟨vb, rfl, gb, bb, ob⟩
   have bx : Below V3.heap.size V3 Y3 := bb
   have sB : Sl Y3 Y3.heap.size vb bg := by rw [HNB.out.2]; exact gb
   clear gb ob
   have b_V3 := bx
   have m_Y3 : V3.heap.size ≤ Y3.heap.size := bx.size
   clear bx
   refine ⟨_, rfl, ⟨(rX3.go b_V3), (rA3.go b_V3)⟩, ?_⟩
   simp only [Act.put, arr9, hd9, tl9]
   refine held_one 7 (by kernel_rfl) ?_
   refine step_call 7 _ _ (some 46) Fw #[vb, .int .i64 0, .int .i64 (dk : Int), .agg (wordCells (atA a k)).toArray, q1, q2] (by rfl) (by kernel_rfl) (by go_simp) ?_
   refine (HKW.out Y3 _ bg 0 dk (atA a k) (HBu.chain (But.of b_V3 _)) ((rT3.go b_V3)) (sB) HE.out.2.2.2 (by omega) (by rw [atA_length]; exact HA.out.1)).mono ?_
   rintro e Y4 ⟨vr, rfl, gr, br, or⟩
   have bx : Below Y3.heap.size Y3 Y4 := br
   have sR : Sl Y4 Y4.heap.size vr nb := by rw [HNB.out.1]; exact gr
   clear gr or
   replace b_V3 := Below.chain b_V3 bx
   have b_Y3 := bx
   have m_Y4 : Y3.heap.size ≤ Y4.heap.size := bx.size
   clear bx
   refine ⟨_, rfl, ⟨(rX3.go b_V3), (rA3.go b_V3)⟩, ?_⟩
   simp only [Act.put, arr9, hd9, tl9]
   refine held_one 8 (by kernel_rfl) ?_
   obtain ⟨i0, hi, hz0, hz1, hz2⟩ := info_parts info_u8
   refine step_appendSl Y4 8 _ (some 47) 23 5 i0 Tryz.underlying23 hi hz0 hz1 hz2 (.tmp 39) (.tmp 46) (by rfl) (by kernel_rfl) ((oE.go b_V3)) (sR) (by rw [HE.out.2.2.1]; decide) rfl rfl (by rw [HE.out.2.2.1]; have := HE.out.2.1; omega) (Nat.le_trans hBV (b_V3).size) (fun v9 Y5 o9 g9 b9 => ?_)
   rw [← HE.out.1] at o9
   have q0 : Row Y5 w.heap.size 27 [.int .u32 xc, .bool xs, .int .i64 32, .int .i64 xh, .int .i64 67] := ((rX3.go b_V3)).below (b9 _ (Nat.le_refl _)) (by have := HB2.out; omega)
   have q1x : Row Y5 (w.heap.size + 1) 64 (wordCells (atA a k)) := ((rA3.go b_V3)).below (b9 _ (Nat.le_refl _)) (by have := HB2.out; omega)
   have q3 : But Y2.heap.size (w.heap.size + 1) Y2 Y5 := (HBu.chain (But.of b_V3 _)).trans (But.of (b9 _ (by have := HB2.out; omega)) _)
   have q4 : B ≤ Y5.heap.size := Nat.le_trans (Nat.le_trans hBV (b_V3).size) (b9 _ (Nat.le_refl _)).size
   replace rX3 := q0
   replace rA3 := q1x
   refine ⟨⟨rX3, rA3⟩, ?_⟩
   simp only [Act.put, arr9, hd9, tl9]
   refine hdv0 9 13 (v9) (by rfl) (⟨rX3, rA3⟩) ?_
   refine wpAnyH_done (by kernel_rfl) ?_ _
   have H9 : Shh ((atA a k).length = 8 ∧ (∀ i, atA (atA a k) i = atA a i) ∧ Row Y5 (w.heap.size + 1) 64 (wordCells (atA a k)) ∧ Row Y5 w.heap.size 27 [.int .u32 xc, .bool xs, .int .i64 32, .int .i64 xh, .int .i64 67] ∧ But Y2.heap.size (w.heap.size + 1) Y2 Y5 ∧ B ≤ Y5.heap.size) := ⟨by rw [atA_length]; exact HA.out.1, fun i => atA_again a k i, q1x, q0, q3, q4⟩
   have H11 : Shh (Own Y5 B v9 (endsB xs 32 sk seed a d (k + 1))) := ⟨by rw [← HE2.out]; exact o9⟩
   clear q0 q1x q3 q4 o9 g9 b9 HBV3 HBu oE hBV rT3 rX3 rA3 HE HE2 HNB
   go_wp2
   go_roundw
   case rel => exact ⟨k + 1, _, by omega, by go_num, H9, H11⟩
   case measure => simp [intOf]; omega
  ·have hkd : ¬ ((k : Int) < (cl.length : Int)) := by have := HD.out.1; omega
   have HR : Shh (Sl wr wr.heap.size (.slice Ao (endsB xs 32 sk seed a d k).length co) (endsB xs 32 sk seed a d 67) ∧ Below w.heap.size w wr) := ⟨by
    have hk2 : k = 67 := by omega
    have h := Sl.of_own HO.out
    rw [hk2] at h ⊢
    exact h, HBW.out⟩
   clear HL HO HBW HLE HGO
   go_wp2
   go_ret
   exact ⟨_, rfl, HR.out⟩
theorem grown_any (x : S5) (hx : x.ok = true) (vk vs vc : Value) (sk seed : List UInt8) (a : List UInt32) (ha : a.length = 8) (cl : List Nat) (d : Nat → Nat) (hcl : (cl.length : Int) = x.l) (hd : ∀ i, i < x.l.toNat → cl.getD i 0 = d i ∧ d i ≤ 15) (w : World) (hk : Sl w w.heap.size vk sk) (hs : Sl w w.heap.size vs seed) (hc : SI w w.heap.size vc cl) (ht : Tabs w)
  (hkl : (sk.length : Int) = x.n) (hsl : (seed.length : Int) = x.n) :
  Calls Tryz.prog 96 #[x.v, vk, vs, adrV a, vc] w (SlIs w (endsB x.s x.n sk seed a d x.l.toNat)) := by
 have hn := S5.ok_is hx
 obtain ⟨c, s, n, h, l⟩ := x
 simp only at hn hkl hsl hcl
 rcases hn with ⟨rfl, rfl⟩ | ⟨rfl, rfl⟩
 ·exact grown_24 c s h hx vk vs vc sk seed a ha cl d (by omega) hd w hk hs hc ht (by omega) (by omega)
 ·exact grown_32 c s h hx vk vs vc sk seed a ha cl d (by omega) hd w hk hs hc ht (by omega) (by omega)
end Go.Proofs.YtdakbipiifkmfaaGreatDoor

/-
 THE PROGRAM'S OWN Public and Sign.
-/
namespace Go.Proofs.YtdakbipiifkmfaaGreatDoor
open Go.RowKit
set_option maxRecDepth 100000
theorem repeat_any (x : S5) (hx : x.ok = true) (g c : Nat) (w : World) (hg : g < w.heap.size) (hc : w.cell? ⟨g, 0, none⟩ = some (.int .i64 15)) (hc1 : 1 ≤ c) :
  Calls Tryz.prog 114 #[.slice (some ⟨g, 0, none⟩) 1 c, .int .i64 x.l] w (SeeI9 w (List.replicate x.l.toNat 15)) := by
 rcases S5.ok_is hx with ⟨_, h⟩ | ⟨_, h⟩ <;> rw [h]
 ·exact repeat_51 g c w hg hc hc1
 ·exact repeat_67 g c w hg hc hc1
set_option maxHeartbeats 2000000 in
theorem Public_any (x : S5) (hw : x.wf) (vk vs : Value) (sk seed : List UInt8) (a : List UInt32) (ha : a.length = 8) (w : World) (hk : Sl w w.heap.size vk sk) (hs : Sl w w.heap.size vs seed) (ht : Tabs w) :
  Calls Tryz.prog 86 #[x.v, vk, vs, adrV a] w (ResIs w (badE x [sk, seed]) (pubB x sk seed a)) := by
 unfold ResIs
 obtain ⟨Ak, ck, rfl, _, _⟩ := hk.form
 obtain ⟨As, cs, rfl, _, _⟩ := hs.form
 have H0 : Shh (Sl w w.heap.size (.slice Ak sk.length ck) sk ∧ Sl w w.heap.size (.slice As seed.length cs) seed ∧ Tabs w) := ⟨hk, hs, ht⟩
 clear hk hs ht
 have HC : Shh (∀ (v : Value) (B : Nat) W, PartsO W B B v [sk, seed] → B ≤ W.heap.size → Calls Tryz.prog 95 #[x.v, v] W (OldIs (.int .i64 (badE x [sk, seed])) W)) := ⟨fun v B W h hB => check_any x hw v [sk, seed] B B W h hB (by simp)⟩
 obtain ⟨X, hX⟩ : ∃ X, X = x := ⟨_, rfl⟩
 have HE : Shh ((badE x [sk, seed] = 0 → pubB x sk seed a = endsB X.s X.n sk seed a (dOf []) X.l.toNat ∧ (∀ (g c : Nat) W, g < W.heap.size → W.cell? ⟨g, 0, none⟩ = some (.int .i64 15) → 1 ≤ c → Calls Tryz.prog 114 #[.slice (some ⟨g, 0, none⟩) 1 c, .int .i64 x.l] W (SeeI9 W (List.replicate X.l.toNat 15))) ∧ (∀ (vc : Value) W, Sl W W.heap.size (.slice Ak sk.length ck) sk → Sl W W.heap.size (.slice As seed.length cs) seed → SI W W.heap.size vc (List.replicate X.l.toNat 15) → Tabs W → Calls Tryz.prog 96 #[x.v, .slice Ak sk.length ck, .slice As seed.length cs, adrV a, vc] W (SlIs W (endsB X.s X.n sk seed a (dOf []) X.l.toNat)))) ∧ (badE x [sk, seed] ≠ 0 → pubB x sk seed a = [])) := by
  rw [hX]
  refine ⟨fun h => ?_, fun h => by unfold pubB; rw [if_neg h]⟩
  obtain ⟨hx, hall⟩ := badE_ok h
  have h1 := hall sk (by simp)
  have h2 := hall seed (by simp)
  have hl : 0 < x.l.toNat := by rcases S5.ok_is hx with h3 | h3 <;> omega
  refine ⟨by unfold pubB; rw [if_pos h], fun g c W h3 h4 h5 => repeat_any x hx g c W h3 h4 h5, fun vc W h3 h4 h5 h6 => grown_any x hx _ _ vc sk seed a ha (List.replicate x.l.toNat 15) (dOf []) (by rw [List.length_replicate]; omega) (fun i hi => ⟨?_, by simp [dOf]⟩) W h3 h4 h5 h6 h1 h2⟩
  rw [List.getD_eq_getElem?_getD, List.getElem?_eq_getElem (by rw [List.length_replicate]; exact hi), Option.getD_some, List.getElem_replicate]
  simp [dOf]
 generalize badE x [sk, seed] = er at HC HE ⊢
 generalize pubB x sk seed a = out at HE ⊢
 obtain ⟨W0, hW0⟩ : ∃ W0, W0 = (w.alloc (.cells #[.int .u32 x.c, .bool x.s, .int .i64 x.n, .int .i64 x.h, .int .i64 x.l] 27)).alloc (.cells (wordCells a).toArray 64) := ⟨_, rfl⟩
 have HW0 : Shh (Row W0 w.heap.size 27 [.int .u32 x.c, .bool x.s, .int .i64 x.n, .int .i64 x.h, .int .i64 x.l] ∧ Row W0 (w.heap.size + 1) 64 (wordCells a) ∧ W0.heap.size = w.heap.size + 2 ∧ Below w.heap.size w W0) := by
  rw [hW0]
  exact ⟨(Row.new_ rfl rfl).alloc _, Row.new_ (by rw [asz]) rfl, by rw [asz, asz], Below.chain (below1 _ _) (below1 _ _)⟩
 obtain ⟨W, hW⟩ : ∃ W, W = W0.alloc (.cells #[.slice Ak sk.length ck, .slice As seed.length cs] 23) := ⟨_, rfl⟩
 have HW : Shh (Row W w.heap.size 27 [.int .u32 x.c, .bool x.s, .int .i64 x.n, .int .i64 x.h, .int .i64 x.l] ∧ Row W (w.heap.size + 1) 64 (wordCells a) ∧ PartsO W (w.heap.size + 3) (w.heap.size + 3) (.slice (some ⟨w.heap.size + 2, 0, none⟩) 2 2) [sk, seed] ∧ w.heap.size + 3 ≤ W.heap.size ∧ Below w.heap.size w W) := by
  have b0 : Below w.heap.size w W := by rw [hW]; exact Below.chain HW0.out.2.2.2 (below1 _ _)
  refine ⟨by rw [hW]; exact HW0.out.1.alloc _, by rw [hW]; exact HW0.out.2.1.alloc _, ?_, by rw [hW, asz, HW0.out.2.2.1]; exact Nat.le_refl _, b0⟩
  exact PartsO.two (by omega) (by omega) (by rw [hW]; exact Row.new_ HW0.out.2.2.1.symm rfl) ((H0.out.1.below b0).more (by omega)) (H0.out.1.off (by omega)) ((H0.out.2.1.below b0).more (by omega)) (H0.out.2.1.off (by omega))
 clear hw hX
 have HA : Shh (a.length = 8 ∧ (wordCells a).length = 8) := ⟨ha, by rw [wordCells_length]; exact ha⟩
 clear ha
 unfold adrV at HE
 unfold adrV
 unfold S5.v at HC HE ⊢
 generalize x.c = xc at *
 generalize x.s = xs at *
 generalize x.n = xn at *
 generalize x.h = xh at *
 generalize x.l = xl at *
 by_cases her : er = 0
 ·have HE2 := Shh.mk (HE.out.1 her)
  subst her
  rw [HE2.out.1]
  clear HE
  go_enter Tryz.func86, Tryz.ntmps86
  go_wp2_with (first | (rw [← hW0]; refine wpList_load_any rfl 27 (.tmp 4) rfl w.heap.size rfl 27 [.int .u32 xc, .bool xs, .int .i64 xn, .int .i64 xh, .int .i64 xl] _ HW0.out.1 Tryz.underlying27 rfl info_xms ?_) | (go_at_call 95; rw [← hW0, ← hW]; refine (HC.out _ _ _ HW.out.2.2.1 HW.out.2.2.2.1).mono ?_))
  try rw [← hW0, ← hW]
  unfold OldIs
  rintro e w2 ⟨rfl, b2⟩
  have HZ : Shh (Row w2 w.heap.size 27 [.int .u32 xc, .bool xs, .int .i64 xn, .int .i64 xh, .int .i64 xl] ∧ Row w2 (w.heap.size + 1) 64 (wordCells a) ∧ Below w.heap.size w w2) := ⟨HW.out.1.go b2, HW.out.2.1.go b2, Below.chain HW.out.2.2.2.2 b2⟩
  clear HW hW b2 HC HW0 hW0
  go_wp2_with fail
  refine wp_region_held_drew (S := fun w' => Row w' w.heap.size 27 [.int .u32 xc, .bool xs, .int .i64 xn, .int .i64 xh, .int .i64 xl] ∧ Row w' (w.heap.size + 1) 64 (wordCells a)) (by kernel_rfl) ⟨HZ.out.1.drew, HZ.out.2.1.drew⟩ (fun hS => ?_)
  clear hS
  obtain ⟨V, hV⟩ : ∃ V, V = World.drew w2 := ⟨_, rfl⟩
  rw [← hV]
  have rX : Row V w.heap.size 27 [.int .u32 xc, .bool xs, .int .i64 xn, .int .i64 xh, .int .i64 xl] := by rw [hV]; exact HZ.out.1.drew
  have rA : Row V (w.heap.size + 1) 64 (wordCells a) := by rw [hV]; exact HZ.out.2.1.drew
  have HBV : Below w.heap.size w V := by rw [hV]; exact HZ.out.2.2.drew
  have sK : Sl V V.heap.size (.slice Ak sk.length ck) sk := H0.out.1.go HBV
  have sS : Sl V V.heap.size (.slice As seed.length cs) seed := H0.out.2.1.go HBV
  have rT : Tabs V := H0.out.2.2.go HBV
  clear hV HZ
  refine hdv0 1 20 (.slice Ak sk.length ck) (by rfl) (⟨rX, rA⟩) ?_
  refine hdv0 2 21 (.slice As seed.length cs) (by rfl) (⟨rX, rA⟩) ?_
  refine hdv0 5 24 (.pointer (some ⟨w.heap.size, 4, none⟩)) (by rfl) (⟨rX, rA⟩) ?_
  refine hdv 6 25 (.int .i64 xl) (by rfl) (fun w hS => by have h2 := hS.1.cell 4; simp only [List.getElem?_cons_succ, List.getElem?_cons_zero] at h2; go_simp) (⟨rX, rA⟩) ?_
  refine held_load 0 27 (.tmp 4) (some 19) (by kernel_rfl) (by rfl) (by kernel_rfl) w.heap.size 0 (by kernel_rfl) ([.int .u32 xc, .bool xs, .int .i64 xn, .int .i64 xh, .int .i64 xl]) _ (fun w h => h.1.range) Tryz.underlying27 rfl (info_xms) (fun _ _ _ _ h => h) (⟨rX, rA⟩) ?_
  simp only [Act.put, arr9, hd9, tl9]
  refine held_load 3 64 (.tmp 7) (some 22) (by kernel_rfl) (by rfl) (by kernel_rfl) (w.heap.size + 1) 0 (by kernel_rfl) (wordCells a) _ (fun w h => h.2.range) Tryz.underlying64 rfl (info_adr10 HA.out.2) (fun _ _ _ _ h => h) (⟨rX, rA⟩) ?_
  simp only [Act.put, arr9, hd9, tl9]
  refine held_one 4 (by kernel_rfl) ?_
  refine step_value 4 _ _ (some 23) (.slice (some ⟨V.heap.size, 0, none⟩) 1 1) (V.alloc (.cells #[.int .i64 15] 3)) (by rfl) (by kernel_rfl) (by first | kernel_rfl | go_simp) (⟨rX.alloc _, rA.alloc _⟩) ?_
  simp only [Act.put, arr9, hd9, tl9]
  have bx : Below V.heap.size V (V.alloc (.cells #[.int .i64 15] 3)) := Below.alloc (Below.refl _ _) (Nat.le_refl _) _
  have rP : Row (V.alloc (.cells #[.int .i64 15] 3)) V.heap.size 3 [.int .i64 15] := Row.new_ rfl rfl
  have z_rP := asz V (.cells #[.int .i64 15] 3)
  generalize V.alloc (.cells #[.int .i64 15] 3) = Y1 at *
  have b_V := bx
  have m_Y1 : V.heap.size ≤ Y1.heap.size := bx.size
  clear bx
  refine held_one 7 (by kernel_rfl) ?_
  refine step_call 7 _ _ (some 26) 114 #[.slice (some ⟨V.heap.size, 0, none⟩) 1 1, .int .i64 xl] (by rfl) (by kernel_rfl) (by first | kernel_rfl | go_simp) ?_
  refine (HE2.out.2.1 _ 1 Y1 rP.lt (rP.cell 0) (Nat.le_refl _)).mono ?_
  rintro e Y2 ⟨vc, rfl, gc, bc⟩
  have bx : Below Y1.heap.size Y1 Y2 := bc
  have sC := gc
  clear gc
  replace b_V := Below.chain b_V bx
  have b_Y1 := bx
  have m_Y2 : Y1.heap.size ≤ Y2.heap.size := bx.size
  clear bx
  refine ⟨_, rfl, ⟨(rX.go b_V), (rA.go b_V)⟩, ?_⟩
  simp only [Act.put, arr9, hd9, tl9]
  refine held_one 8 (by kernel_rfl) ?_
  refine step_call 8 _ _ (some 27) 96 #[.agg ([.int .u32 xc, .bool xs, .int .i64 xn, .int .i64 xh, .int .i64 xl]).toArray, .slice Ak sk.length ck, .slice As seed.length cs, .agg (wordCells a).toArray, vc] (by rfl) (by kernel_rfl) (by first | kernel_rfl | go_simp) ?_
  refine (HE2.out.2.2 vc Y2 ((sK.go b_V)) ((sS.go b_V)) (sC) ((rT.go b_V))).mono ?_
  rintro e Y3 ⟨vr, rfl, gr, br⟩
  have bx : Below Y2.heap.size Y2 Y3 := br
  have sR := gr
  clear gr
  replace b_V := Below.chain b_V bx
  replace b_Y1 := Below.chain b_Y1 bx
  have b_Y2 := bx
  have m_Y3 : Y2.heap.size ≤ Y3.heap.size := bx.size
  clear bx
  refine ⟨_, rfl, ⟨(rX.go b_V), (rA.go b_V)⟩, ?_⟩
  simp only [Act.put, arr9, hd9, tl9]
  refine hdv0 9 8 (vr) (by rfl) (⟨(rX.go b_V), (rA.go b_V)⟩) ?_
  refine hdv0 10 9 (.int .i64 0) (by rfl) (⟨(rX.go b_V), (rA.go b_V)⟩) ?_
  refine wpAnyH_done (by kernel_rfl) ?_ _
  have HR : Shh (Sl Y3 Y3.heap.size vr (endsB X.s X.n sk seed a (dOf []) X.l.toNat) ∧ Below w.heap.size w Y3) := ⟨sR, Below.chain HBV b_V⟩
  clear m_Y3 b_Y2 sR br m_Y2 b_Y1 sC bc m_Y1 b_V z_rP rP HBV rX rA rT sK sS
  go_wp2
  go_ret2
  exact ⟨_, rfl, HR.out⟩
 ·have HL : Shh (out = []) := ⟨HE.out.2 her⟩
  have hne : (er != 0) = true := by simp [her]
  rw [HL.out]
  clear HE HL her
  go_enter Tryz.func86, Tryz.ntmps86
  go_wp2_with (first | (rw [← hW0]; refine wpList_load_any rfl 27 (.tmp 4) rfl w.heap.size rfl 27 [.int .u32 xc, .bool xs, .int .i64 xn, .int .i64 xh, .int .i64 xl] _ HW0.out.1 Tryz.underlying27 rfl info_xms ?_) | (go_at_call 95; rw [← hW0, ← hW]; refine (HC.out _ _ _ HW.out.2.2.1 HW.out.2.2.2.1).mono ?_))
  try rw [← hW0, ← hW]
  unfold OldIs
  rintro e w2 ⟨rfl, b2⟩
  have H2 : Shh (Below w.heap.size w w2) := ⟨Below.chain HW.out.2.2.2.2 b2⟩
  clear HW hW b2 HC HW0 hW0
  go_wp2
  go_ret2
  exact ⟨_, rfl, Sl.nil_, H2.out⟩
end Go.Proofs.YtdakbipiifkmfaaGreatDoor
