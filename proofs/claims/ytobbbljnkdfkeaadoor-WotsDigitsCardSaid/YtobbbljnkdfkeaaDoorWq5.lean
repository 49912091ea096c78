/-
  THE PROGRAM'S OWN walker and starter: functions that are handed back.
-/
import Derived.Test.YtobbbljnkdfkeaaDoorWq4
namespace Go.Proofs.YtobbbljnkdfkeaaDoor
open Go.RowKit
set_option maxRecDepth 100000
/-- a slice of bytes that lies in no block that was there, but those of v -/
def WalkIs (w : World) (v : Value) (bs : List UInt8) (e : Ending) (w' : World) : Prop := ∃ r, e = .returned r ∧ Sl w' w'.heap.size r bs ∧ Below w.heap.size w w' ∧ ∀ g, g < w.heap.size → Off g v → Off g r
theorem withA_again (a : List UInt32) (ha : a.length = 8) (s t s' t' : Nat) : withA (withA a s t) s' t' = withA a s' t' := by
  obtain ⟨a0, a1, a2, a3, a4, a5, a6, a7, rfl⟩ := eight ha
  rfl
theorem withA_one (a : List UInt32) (ha : a.length = 8) (s t t' : Nat) : (withA a s t).set 7 (UInt32.ofNat t') = withA a s t' := by
  obtain ⟨a0, a1, a2, a3, a4, a5, a6, a7, rfl⟩ := eight ha
  rfl
theorem rows_two {w : World} {g : Nat} {T : TypeId} {a a' : List UInt32} (ha : a'.length = 8) (hw : ∀ s t, withA a' s t = withA a s t) (h : Row w g T (wordCells a')) (st : Nat) (hs : st < 4294967296) (t : Nat) (ht : t < 4294967296) :
    ∃ x6 x7 : Int, w.cell? ⟨g, 6, none⟩ = some (.int .u32 x6) ∧ w.frozen? ⟨g, 6, none⟩ = false ∧
    (w.setCell ⟨g, 6, none⟩ (.int .u32 (st : Int))).cell? ⟨g, 7, none⟩ = some (.int .u32 x7) ∧ (w.setCell ⟨g, 6, none⟩ (.int .u32 (st : Int))).frozen? ⟨g, 7, none⟩ = false ∧
    Row ((w.setCell ⟨g, 6, none⟩ (.int .u32 (st : Int))).setCell ⟨g, 7, none⟩ (.int .u32 (t : Int))) g T (wordCells (withA a st t)) := by
  have h1 := wordRow_set h 6 st hs
  refine ⟨_, _, wordRow_cell h 6 (by omega), h.free 6, wordRow_cell h1 7 (by rw [List.length_set]; omega), h1.free 7, ?_⟩
  · have h2 := wordRow_set h1 7 t ht
    rw [show (a'.set 6 (UInt32.ofNat st)).set 7 (UInt32.ofNat t) = withA a' st t from rfl, hw] at h2
    exact h2
set_option maxHeartbeats 2000000 in
theorem walk1_any (x : S5) (hx : x.ok = true) (g0 px pp : Nat) (vp vb : Value) (seed b : List UInt8) (f k : Nat) (hfk : f + k ≤ 15) (a : List UInt32) (ha : a.length = 8) (w : World) (hX : Row w px 24 [.int .u32 x.c, .bool x.s, .int .i64 x.n, .int .i64 x.h, .int .i64 x.l]) (hP : Row w pp 71 [vp]) (hK : KeyAt w g0 vp x.s x.n 3 seed) (hb : Sl w w.heap.size vb b) (hbl : b.length = x.n.toNat) (ht : Tabs w) :
    Calls Tryd.prog 51 #[vb, .int .i64 (f : Int), .int .i64 (k : Int), adrV a, .pointer (some ⟨pp, 0, none⟩), .pointer (some ⟨px, 0, none⟩)] w (WalkIs w vb (goB x.s x.n seed a b f k)) := by
  unfold WalkIs
  have HKY : Shh (∀ (vk : Value) (key : List UInt8) (W : World), Sl W W.heap.size vk key → key.length ≤ 100000 → Tabs W → w.heap.size < W.heap.size → Calls Tryd.prog 48 #[x.v, .int .u8 0, vk] W (KeyIs W w.heap.size x.s x.n 0 key)) := ⟨fun vk key W h1 h2 h3 h4 => keyed_any x hx 0 (by decide) vk key W h1 h2 h3 w.heap.size h4⟩
  have HLN : Shh ((∀ k, (goB x.s x.n seed a b f k).length = x.n.toNat) ∧ (∀ kind key m, (keyd x.s x.n kind key m).length = x.n.toNat) ∧ x.n.toNat ≤ 32) := ⟨fun k => goB_length hx seed a b f k hbl, fun kind key m => (ok_len hx kind key m).1, (ok_len hx 0 [] []).2⟩
  have HGB : Shh (∀ k, goB x.s x.n seed a b f (k + 1) = stepB x.s x.n seed a (f + k) (goB x.s x.n seed a b f k)) := ⟨fun k => rfl⟩
  have HKA : Shh (KeyAt w g0 vp x.s x.n 3 seed ∧ Row w px 24 [.int .u32 x.c, .bool x.s, .int .i64 x.n, .int .i64 x.h, .int .i64 x.l] ∧ Row w pp 71 [vp] ∧ Tabs w) := ⟨hK, hX, hP, ht⟩
  obtain ⟨W, hW⟩ : ∃ W, W = w.alloc (.cells (wordCells a).toArray 27) := ⟨_, rfl⟩
  have HW : Shh (Row W w.heap.size 27 (wordCells a) ∧ Sl W W.heap.size vb (goB x.s x.n seed a b f 0) ∧ Below w.heap.size w W) := by
    rw [hW]
    exact ⟨Row.new_ rfl rfl, hb.go (below1 _ _), below1 _ _⟩
  have HO0 : Shh (Off w.heap.size vb) := ⟨hb.off (Nat.le_refl _)⟩
  clear hb hbl hx hK hX hP ht
  unfold S5.v at HKY
  unfold adrV
  have HA : Shh (a.length = 8) := ⟨ha⟩
  have HLA : Shh ((wordCells a).length = 8 ∧ ∀ s t, (wordCells (withA a s t)).length = 8) := ⟨by rw [wordCells_length]; exact ha, fun s t => by rw [wordCells_length, withA_length]; exact ha⟩
  clear ha
  generalize x.c = xc at *
  generalize x.s = xs at *
  generalize x.n = xn at *
  generalize x.h = xh at *
  generalize x.l = xl at *
  go_enter Tryd.func51, Tryd.ntmps51
  go_wp2
  rw [← hW]
  clear hW
  go_loopw [0, 16] (fun o i wr => ∃ (j : Nat) (a' : List UInt32), j ≤ k ∧ i = .int .i64 (j : Int) ∧ Shh (a'.length = 8 ∧ (∀ s t, withA a' s t = withA a s t) ∧ Row wr w.heap.size 27 (wordCells a') ∧ Below w.heap.size w wr) ∧ Shh (Sl wr wr.heap.size o (goB xs xn seed a b f j) ∧ Off w.heap.size o ∧ ∀ g, g < w.heap.size → Off g vb → Off g o)) (fun _ i _ => k - (intOf i).toNat)
  case atStart => exact ⟨0, a, Nat.zero_le _, rfl, ⟨HA.out, fun _ _ => rfl, HW.out.1, HW.out.2.2⟩, ⟨HW.out.2.1, HO0.out, fun _ _ h => h⟩⟩
  case round =>
    clear HW
    obtain ⟨j, a', hj, rfl, HL, HB⟩ := hrel
    have hl3 := HB.out.1
    obtain ⟨Ab, cb, rfl, _, _⟩ := hl3.form
    clear hl3
    by_cases hlt : j < k
    · obtain ⟨st, hst⟩ : ∃ st, st = f + j := ⟨_, rfl⟩
      have hst2 : st ≤ 15 := by omega
      have hsum : (f : Int) + (j : Int) = (st : Int) := by omega
      have q1 : (st : Int) % 4294967296 = (st : Int) := by omega
      obtain ⟨bk, hbk⟩ : ∃ bk, bk = goB xs xn seed a b f j := ⟨_, rfl⟩
      obtain ⟨ta, hta⟩ : ∃ ta, ta = adrB (withA a st 0) := ⟨_, rfl⟩
      obtain ⟨tb, htb⟩ : ∃ tb, tb = adrB (withA a st 1) := ⟨_, rfl⟩
      obtain ⟨kb, hkb⟩ : ∃ kb, kb = keyd xs xn 3 seed ta := ⟨_, rfl⟩
      obtain ⟨mb, hmb⟩ : ∃ mb, mb = keyd xs xn 3 seed tb := ⟨_, rfl⟩
      obtain ⟨xb, hxb⟩ : ∃ xb, xb = List.zipWith (· ^^^ ·) bk mb := ⟨_, rfl⟩
      obtain ⟨nb, hnb⟩ : ∃ nb, nb = keyd xs xn 0 kb xb := ⟨_, rfl⟩
      have HN : Shh (nb = goB xs xn seed a b f (j + 1)) := ⟨by rw [hnb, hxb, hmb, hkb, htb, hta, hbk, hst]; exact (HGB.out j).symm⟩
      have HQ : Shh (kb = keyd xs xn 3 seed (adrB (withA a st 0)) ∧ mb = keyd xs xn 3 seed (adrB (withA a st 1)) ∧ pairE bk mb = 0 ∧ xored bk mb = xb ∧ nb = keyd xs xn 0 kb xb) := by
        have l1 := HLN.out.1 j
        rw [← hbk] at l1
        have l2 := HLN.out.2.1 3 seed tb
        rw [← hmb] at l2
        refine ⟨by rw [hkb, hta], by rw [hmb, htb], by unfold pairE; rw [if_pos (by omega)], by unfold xored; rw [if_pos (by omega), hxb], hnb⟩
      have HLL : Shh (bk.length ≤ 32 ∧ kb.length ≤ 32 ∧ xb.length ≤ 32 ∧ mb.length ≤ 32) := by
        have l1 := HLN.out.1 j
        rw [← hbk] at l1
        have l2 := HLN.out.2.1 3 seed tb
        rw [← hmb] at l2
        have l3 := HLN.out.2.1 3 seed ta
        rw [← hkb] at l3
        have l4 := HLN.out.2.2
        exact ⟨by omega, by omega, by rw [hxb, List.length_zipWith]; omega, by omega⟩
      rw [← hbk] at HB
      rw [show (goB xs xn seed a b f j).length = bk.length by rw [hbk]] at *
      clear hta htb hkb hmb hxb hnb hbk HGB hst
      obtain ⟨x6, x7, c6, f6, c7, f7, r1⟩ := rows_two HL.out.1 HL.out.2.1 HL.out.2.2.1 st (by omega) 0 (by decide)
      obtain ⟨Z1, hZ1⟩ : ∃ Z1, Z1 = (wr.setCell ⟨w.heap.size, 6, none⟩ (.int .u32 (st : Int))).setCell ⟨w.heap.size, 7, none⟩ (.int .u32 0) := ⟨_, rfl⟩
      have HZ1 : Shh (Row Z1 w.heap.size 27 (wordCells (withA a st 0)) ∧ Row Z1 px 24 [.int .u32 xc, .bool xs, .int .i64 xn, .int .i64 xh, .int .i64 xl] ∧ Row Z1 pp 71 [vp] ∧ KeyAt Z1 g0 vp xs xn 3 seed ∧ Tabs Z1 ∧ Sl Z1 Z1.heap.size (.slice Ab bk.length cb) bk ∧ Below w.heap.size w Z1) := by
        have bz : Below w.heap.size w Z1 := by rw [hZ1]; exact (HL.out.2.2.2.setCell (Nat.le_refl _) _).setCell (Nat.le_refl _) _
        have s1 : Sl Z1 Z1.heap.size (.slice Ab bk.length cb) bk := by
          have hbu : But wr.heap.size w.heap.size wr Z1 := by rw [hZ1]; exact ((But.refl _ _ _).setCell _ _).setCell _ _
          exact (HB.out.1.but HB.out.2.1 hbu).more hbu.size
        exact ⟨by rw [hZ1]; exact r1, HKA.out.2.1.go bz, HKA.out.2.2.1.go bz, HKA.out.1.go bz, HKA.out.2.2.2.go bz, s1, bz⟩
      have HB2 : Shh (Off w.heap.size (.slice Ab bk.length cb) ∧ ∀ g, g < w.heap.size → Off g vb → Off g (.slice Ab bk.length cb)) := ⟨HB.out.2⟩
      have ep : ((wr.setCell ⟨w.heap.size, 6, none⟩ (.int .u32 (st : Int))).setCell ⟨w.heap.size, 7, none⟩ (.int .u32 0)).cell? ⟨pp, 0, none⟩ = some vp := by rw [← hZ1]; exact HZ1.out.2.2.1.cell 0
      clear HB HL r1
      have a1 : (wordCells (withA a st 0)).length = 8 := HLA.out.2 st 0
      go_wp2_with (first | (rw [← hZ1]; refine wpList_load_any rfl 27 (.tmp 9) rfl w.heap.size rfl 27 _ _ HZ1.out.1 Tryd.underlying27 rfl (info_adr10 a1) ?_) | (go_at_call 52; rw [← hZ1]; refine (of_any g0 vp xs xn 3 seed (withA a st 0) (by rw [withA_length]; exact HA.out) _ HZ1.out.2.2.2.1 HZ1.out.2.2.2.2.1).mono ?_))
      try rw [← hZ1]
      unfold NewSl
      rintro e w3 ⟨vk, rfl, s3, b3, o3⟩
      rw [← HQ.out.1] at s3
      obtain ⟨Ak, ck, rfl, _, _⟩ := s3.form
      have H3 : Shh (Row w3 w.heap.size 27 (wordCells (withA a st 0)) ∧ Sl w3 w3.heap.size (.slice Ab bk.length cb) bk ∧ Sl w3 w3.heap.size (.slice Ak kb.length ck) kb ∧ Off w.heap.size (.slice Ak kb.length ck) ∧ Below w.heap.size w w3) := ⟨HZ1.out.1.go b3, HZ1.out.2.2.2.2.2.1.go b3, s3, o3 _ HZ1.out.1.lt, HZ1.out.2.2.2.2.2.2.trans (b3.mono HZ1.out.2.2.2.2.2.2.size)⟩
      clear HZ1 s3 b3 o3 c6 f6 c7 f7 ep hZ1
      obtain ⟨y7, d7⟩ : ∃ y7 : Int, w3.cell? ⟨w.heap.size, 7, none⟩ = some (.int .u32 y7) := ⟨_, wordRow_cell H3.out.1 7 (by rw [withA_length, HA.out]; decide)⟩
      have g7 := H3.out.1.free 7
      obtain ⟨Z2, hZ2⟩ : ∃ Z2, Z2 = w3.setCell ⟨w.heap.size, 7, none⟩ (.int .u32 1) := ⟨_, rfl⟩
      have HZ2 : Shh (Row Z2 w.heap.size 27 (wordCells (withA a st 1)) ∧ Row Z2 px 24 [.int .u32 xc, .bool xs, .int .i64 xn, .int .i64 xh, .int .i64 xl] ∧ Row Z2 pp 71 [vp] ∧ KeyAt Z2 g0 vp xs xn 3 seed ∧ Tabs Z2 ∧ Sl Z2 Z2.heap.size (.slice Ab bk.length cb) bk ∧ Sl Z2 Z2.heap.size (.slice Ak kb.length ck) kb ∧ Below w.heap.size w Z2) := by
        have bz : Below w.heap.size w Z2 := by rw [hZ2]; exact H3.out.2.2.2.2.setCell (Nat.le_refl _) _
        have hbu : But w3.heap.size w.heap.size w3 Z2 := by rw [hZ2]; exact (But.refl _ _ _).setCell _ _
        refine ⟨?_, HKA.out.2.1.go bz, HKA.out.2.2.1.go bz, HKA.out.1.go bz, HKA.out.2.2.2.go bz, (H3.out.2.1.but HB2.out.1 hbu).more hbu.size, (H3.out.2.2.1.but H3.out.2.2.2.1 hbu).more hbu.size, bz⟩
        rw [← withA_one a HA.out st 0 1, hZ2]
        exact wordRow_set H3.out.1 7 1 (by decide)
      have ep2 : (w3.setCell ⟨w.heap.size, 7, none⟩ (.int .u32 1)).cell? ⟨pp, 0, none⟩ = some vp := by rw [← hZ2]; exact HZ2.out.2.2.1.cell 0
      clear H3
      have a2 : (wordCells (withA a st 1)).length = 8 := HLA.out.2 st 1
      go_wp2_with (first | (rw [← hZ2]; refine wpList_load_any rfl 27 (.tmp 9) rfl w.heap.size rfl 27 _ _ HZ2.out.1 Tryd.underlying27 rfl (info_adr10 a2) ?_) | (go_at_call 52; rw [← hZ2]; refine (of_any g0 vp xs xn 3 seed (withA a st 1) (by rw [withA_length]; exact HA.out) _ HZ2.out.2.2.2.1 HZ2.out.2.2.2.2.1).mono ?_))
      try rw [← hZ2]
      unfold NewSl
      rintro e w4 ⟨vm, rfl, s4, b4, o4⟩
      rw [← HQ.out.2.1] at s4
      obtain ⟨Am, cm, rfl, _, _⟩ := s4.form
      have H4 : Shh (Row w4 w.heap.size 27 (wordCells (withA a st 1)) ∧ Sl w4 w4.heap.size (.slice Ab bk.length cb) bk ∧ Sl w4 w4.heap.size (.slice Ak kb.length ck) kb ∧ Sl w4 w4.heap.size (.slice Am mb.length cm) mb ∧ Below w.heap.size w w4) := ⟨HZ2.out.1.go b4, HZ2.out.2.2.2.2.2.1.go b4, HZ2.out.2.2.2.2.2.2.1.go b4, s4, HZ2.out.2.2.2.2.2.2.2.trans (b4.mono HZ2.out.2.2.2.2.2.2.2.size)⟩
      clear HZ2 s4 b4 o4 d7 g7 ep2 hZ2
      go_wp2_with (go_at_call 53; refine (xor_any w4.heap.size w4.heap.size _ _ bk mb w4 H4.out.2.1 H4.out.2.2.2.1 (Nat.le_refl _) (Nat.le_refl _) (by have := HLL.out; omega) (by have := HLL.out; omega)).mono ?_)
      unfold PutIs
      rintro e w5 ⟨vx, rfl, g5⟩
      rw [HQ.out.2.2.1]
      rw [HQ.out.2.2.2.1] at g5
      obtain ⟨Ax, cx, rfl⟩ := own_form g5.1
      have H5 : Shh (Row w5 w.heap.size 27 (wordCells (withA a st 1)) ∧ Row w5 px 24 [.int .u32 xc, .bool xs, .int .i64 xn, .int .i64 xh, .int .i64 xl] ∧ Sl w5 w5.heap.size (.slice Ak kb.length ck) kb ∧ Sl w5 w5.heap.size (.slice Ax xb.length cx) xb ∧ Tabs w5 ∧ Below w.heap.size w w5) := by
        have bz : Below w.heap.size w w5 := H4.out.2.2.2.2.trans (g5.2.mono H4.out.2.2.2.2.size)
        exact ⟨H4.out.1.go g5.2, HKA.out.2.1.go bz, H4.out.2.2.1.go g5.2, gives_sl g5, HKA.out.2.2.2.go bz, bz⟩
      clear H4 g5
      go_wp2_with (first | refine wpList_load_any rfl 24 (.tmp 5) rfl px rfl 24 [.int .u32 xc, .bool xs, .int .i64 xn, .int .i64 xh, .int .i64 xl] _ H5.out.2.1 Tryd.underlying24 rfl info_xms ?_ | (go_at_call 48; refine (HKY.out _ kb w5 H5.out.2.2.1 (by have := HLL.out; omega) H5.out.2.2.2.2.1 H5.out.1.lt).mono ?_))
      unfold KeyIs
      rintro e w6 ⟨v6, rfl, k6, b6⟩
      obtain ⟨F, q7, q8, rfl, hcf, kf⟩ := k6
      have KF := Shh.mk kf
      have H6 : Shh (Row w6 w.heap.size 27 (wordCells (withA a st 1)) ∧ Sl w6 w6.heap.size (.slice Ax xb.length cx) xb ∧ Tabs w6 ∧ Below w.heap.size w w6) := ⟨H5.out.1.go b6, H5.out.2.2.2.1.go b6, H5.out.2.2.2.2.1.go b6, H5.out.2.2.2.2.2.trans (b6.mono H5.out.2.2.2.2.2.size)⟩
      clear H5 b6 kf
      go_wp2_with (with_reducible show Calls Tryd.prog F _ _ _; refine (KF.out w6 _ xb (But.refl _ _ _) H6.out.2.2.1 H6.out.2.1 (by have := HLL.out; omega)).mono ?_)
      unfold NewSl
      rintro e w7 ⟨v7, rfl, s7, b7, o7⟩
      rw [← HQ.out.2.2.2.2, HN.out] at s7
      have H7 : Shh (Row w7 w.heap.size 27 (wordCells (withA a st 1)) ∧ Below w.heap.size w w7) := ⟨H6.out.1.go b7, H6.out.2.2.2.trans (b7.mono H6.out.2.2.2.size)⟩
      have H8 : Shh (Sl w7 w7.heap.size v7 (goB xs xn seed a b f (j + 1)) ∧ Off w.heap.size v7 ∧ ∀ g, g < w.heap.size → Off g vb → Off g v7) := ⟨s7, o7 _ H6.out.1.lt, fun g hg _ => o7 g (Nat.lt_of_lt_of_le hg H6.out.2.2.2.size)⟩
      have H9 : Shh ((withA a st 1).length = 8 ∧ (∀ s t, withA (withA a st 1) s t = withA a s t) ∧ Row w7 w.heap.size 27 (wordCells (withA a st 1)) ∧ Below w.heap.size w w7) := ⟨by rw [withA_length]; exact HA.out, fun s t => withA_again a HA.out st 1 s t, H7.out⟩
      clear H6 s7 b7 o7 KF hcf H7 HQ HN HLL HB2
      go_wp2
      go_roundw
      case rel => exact ⟨j + 1, _, by omega, by go_num, H9, H8⟩
      case measure => simp [intOf]; omega
    · obtain rfl : j = k := by omega
      have HR : Shh (Sl wr wr.heap.size (.slice Ab (goB xs xn seed a b f j).length cb) (goB xs xn seed a b f j) ∧ Below w.heap.size w wr ∧ ∀ g, g < w.heap.size → Off g vb → Off g (.slice Ab (goB xs xn seed a b f j).length cb)) := ⟨HB.out.1, HL.out.2.2.2, HB.out.2.2⟩
      clear HB HL HGB HLN
      go_wp2
      go_ret
      exact ⟨_, rfl, HR.out⟩
end Go.Proofs.YtobbbljnkdfkeaaDoor
