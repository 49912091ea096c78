import Derived.Test.YtdakbipiifkmfaaGreatDoorHP1
import Derived.Test.YtdakbipiifkmfaaGreatDoorHX
/-
 THE PROGRAM'S OWN nodes of two: selected, combine, Node, inner.
-/
namespace Go.Proofs.YtdakbipiifkmfaaGreatDoor
open Go.RowKit
set_option maxRecDepth 100000
theorem two_flat11 (a b : List UInt8) : [a, b].flatten = a ++ b := by simp
set_option maxHeartbeats 1000000 in
theorem selected_any (x : S5) (hw : x.wf) (hx : x.ok = true) (vs : Value) (seed : List UInt8) (a : List UInt32) (ha : a.length = 8) (j : Nat) (hj : j < 3) (w : World) (hs : Sl w w.heap.size vs seed) (hsl : seed.length ≤ 1000) (ht : Tabs w) :
  Calls Tryz.prog 111 #[x.v, vs, adrV a, .int .u32 (j : Int)] w (NewSl w (key11 x.s x.n seed a j)) := by
 unfold NewSl
 obtain ⟨As, cs, rfl, _, _⟩ := hs.form
 obtain ⟨ob, hob⟩ : ∃ ob, ob = adrB (last11 a j) := ⟨_, rfl⟩
 obtain ⟨out, hout⟩ : ∃ out, out = key11 x.s x.n seed a j := ⟨_, rfl⟩
 rw [← hout]
 have hol : ob.length = 32 := by rw [hob, adrB_length, last11_length, ha]
 have HB : Shh ((∀ W, Calls Tryz.prog 133 #[adrV (last11 a j)] W (SumIs W ob)) ∧ ob.length = 32) := ⟨fun W => by rw [hob]; exact bytes_any _ (by rw [last11_length]; exact ha) W, hol⟩
 have HF : Shh (∀ vm W, Sl W W.heap.size (.slice As seed.length cs) seed → Sl W W.heap.size vm ob → Tabs W → Calls Tryz.prog 58 #[x.v, .slice As seed.length cs, vm] W (NewSl W out)) := ⟨fun vm W h1 h2 h3 => by
  have e : out = sumK x 3 seed ob := by rw [hout, hob]; unfold key11 sumK; rw [hx]; rfl
  rw [e]
  exact PrfN_any x hw _ vm seed ob W h1 h2 h3 (by omega) (by omega)⟩
 have HA : Shh (a.length = 8 ∧ (wordCells (last11 a j)).length = 8) := ⟨ha, by rw [wordCells_length, last11_length]; exact ha⟩
 obtain ⟨W, hW⟩ : ∃ W, W = (w.alloc (.cells #[.int .u32 x.c, .bool x.s, .int .i64 x.n, .int .i64 x.h, .int .i64 x.l] 27)).alloc (.cells (wordCells a).toArray 64) := ⟨_, rfl⟩
 have rA : Row W (w.heap.size + 1) 64 (wordCells a) := by rw [hW]; exact Row.new_ (by rw [asz]) rfl
 have eL : (wordCells a).set 7 (.int .u32 (j : Int)) = wordCells (last11 a j) := by
  rw [ofNat_cell (show j < 4294967296 by omega)]
  unfold wordCells last11
  rw [List.map_set]
 obtain ⟨Z, hZ⟩ : ∃ Z, Z = (w.alloc (.cells #[.int .u32 x.c, .bool x.s, .int .i64 x.n, .int .i64 x.h, .int .i64 x.l] 27)).alloc (.cells ((wordCells a).set 7 (.int .u32 (j : Int))).toArray 64) := ⟨_, rfl⟩
 have HZ : Shh (Row Z w.heap.size 27 [.int .u32 x.c, .bool x.s, .int .i64 x.n, .int .i64 x.h, .int .i64 x.l] ∧ Row Z (w.heap.size + 1) 64 (wordCells (last11 a j)) ∧ Sl Z Z.heap.size (.slice As seed.length cs) seed ∧ Tabs Z ∧ Below w.heap.size w Z) := by
  have bZ : Below w.heap.size w Z := by rw [hZ]; exact Below.chain (below1 _ _) (below1 _ _)
  exact ⟨by rw [hZ]; exact (Row.new_ rfl rfl).alloc _, by rw [hZ, eL]; exact Row.new_ (by rw [asz]) rfl, hs.go bZ, ht.go bZ, bZ⟩
 obtain ⟨y7, c7⟩ : ∃ y : Int, W.cell? ⟨w.heap.size + 1, 7, none⟩ = some (.int .u32 y) := ⟨_, wordRow_cell rA 7 (by rw [ha]; decide)⟩
 have f7 := rA.free 7
 rw [hW] at c7 f7
 clear eL rA hs ht hsl hj ha hol hx hw hW
 unfold adrV at HB ⊢
 unfold S5.v at HF ⊢
 generalize wordCells (last11 a j) = L at HZ HB HA
 clear hob hout
 generalize x.c = xc at *
 generalize x.s = xs at *
 generalize x.n = xn at *
 generalize x.h = xh at *
 generalize x.l = xl at *
 go_enter Tryz.func111, Tryz.ntmps111
 go_wp2_with (first | (rw [← hZ]; refine wpList_load_any rfl 64 (.tmp 6) rfl (w.heap.size + 1) rfl 64 L _ HZ.out.2.1 Tryz.underlying64 rfl (info_adr10 HA.out.2) ?_) | (go_at_call 133; rw [← hZ]; refine (HB.out.1 _).mono ?_))
 try rw [← hZ]
 unfold SumIs
 rintro e w2 ⟨rfl, b2⟩
 have H2 : Shh (Row w2 w.heap.size 27 [.int .u32 xc, .bool xs, .int .i64 xn, .int .i64 xh, .int .i64 xl] ∧ Sl w2 w2.heap.size (.slice As seed.length cs) seed ∧ Tabs w2 ∧ Below w.heap.size w w2) := ⟨HZ.out.1.go b2, HZ.out.2.2.1.go b2, HZ.out.2.2.2.1.go b2, Below.chain HZ.out.2.2.2.2 b2⟩
 clear HZ b2 c7 f7 hZ
 obtain ⟨Gb, hG⟩ : ∃ Gb, Shh (Gb = w2.heap.size) := ⟨_, ⟨rfl⟩⟩
 go_wp2_with (refine wpList_store_any rfl 155 (.tmp 9) (.tmp 13) rfl Gb (by rw [hG.out]; rfl) (Lib.byteCells ob) rfl 155 _ (Row.new_ hG.out zero32b) (info_b32.trans (size_bytes _ _ HB.out.2)) (by rw [Lib.byteCells_length, Lib.byteCells_length, HB.out.2]; rfl) (cell_oneCell _) ?_)
 intro Y hr bt hsz
 have H3 : Shh (Row Y w.heap.size 27 [.int .u32 xc, .bool xs, .int .i64 xn, .int .i64 xh, .int .i64 xl] ∧ Sl Y Y.heap.size (.slice As seed.length cs) seed ∧ Sl Y Y.heap.size (.slice (some ⟨Gb, 0, none⟩) 32 32) ob ∧ Tabs Y ∧ Below w.heap.size w Y) := by
  have q3 := hG.out
  have bz : Below w2.heap.size w2 Y := (below1 w2 _).trans (bt.under (by first | omega | (rw [asz]; omega)) (by omega))
  exact ⟨H2.out.1.go bz, H2.out.2.1.go bz, hr.sl HB.out.2 (by decide), H2.out.2.2.1.go bz, Below.chain H2.out.2.2.2 bz⟩
 rw [← hG.out]
 clear hr bt hsz H2 hG HB
 go_wp2_with fail
 refine wp_region_held_drew (S := fun w' => Row w' w.heap.size 27 [.int .u32 xc, .bool xs, .int .i64 xn, .int .i64 xh, .int .i64 xl]) (by kernel_rfl) H3.out.1.drew (fun hS => ?_)
 clear hS
 obtain ⟨V, hV⟩ : ∃ V, V = World.drew Y := ⟨_, rfl⟩
 rw [← hV]
 have rX : Row V w.heap.size 27 [.int .u32 xc, .bool xs, .int .i64 xn, .int .i64 xh, .int .i64 xl] := by rw [hV]; exact H3.out.1.drew
 have sS : Sl V V.heap.size (.slice As seed.length cs) seed := by rw [hV]; exact H3.out.2.1.drew
 have sO : Sl V V.heap.size (.slice (some ⟨Gb, 0, none⟩) 32 32) ob := by rw [hV]; exact H3.out.2.2.1.drew
 have rT : Tabs V := H3.out.2.2.2.1.go (by rw [hV]; exact (Below.refl _ _).drew)
 have HBV : Below w.heap.size w V := by rw [hV]; exact H3.out.2.2.2.2.drew
 clear hV H3
 refine hdv0 1 15 (.slice As seed.length cs) (by rfl) (rX) ?_
 refine hdv0 2 16 (.slice (some ⟨Gb, 0, none⟩) 32 32) (by rfl) (rX) ?_
 refine held_load 0 27 (.tmp 4) (some 14) (by kernel_rfl) (by rfl) (by kernel_rfl) w.heap.size 0 (by kernel_rfl) ([.int .u32 xc, .bool xs, .int .i64 xn, .int .i64 xh, .int .i64 xl]) _ (fun w h => h.range) Tryz.underlying27 rfl (info_xms) (fun _ _ _ _ h => h) (rX) ?_
 simp only [Act.put, arr9, hd9, tl9]
 refine held_one 3 (by kernel_rfl) ?_
 refine step_call 3 _ _ (some 17) 58 #[.agg ([.int .u32 xc, .bool xs, .int .i64 xn, .int .i64 xh, .int .i64 xl]).toArray, .slice As seed.length cs, .slice (some ⟨Gb, 0, none⟩) 32 32] (by rfl) (by kernel_rfl) (by first | kernel_rfl | go_simp) ?_
 refine (HF.out _ V (sS) (sO) (rT)).mono ?_
 unfold NewSl; rintro e Y1 ⟨vr, rfl, gr, br, orr⟩
 have bx : Below V.heap.size V Y1 := br
 have sR := gr
 have oR : ∀ g, g < w.heap.size → Off g vr := fun g hg => orr g (Nat.lt_of_lt_of_le hg (Below.chain HBV (Below.refl _ _)).size)
 clear gr orr
 have b_V := bx
 have m_Y1 : V.heap.size ≤ Y1.heap.size := bx.size
 clear bx
 refine ⟨_, rfl, (rX.go b_V), ?_⟩
 simp only [Act.put, arr9, hd9, tl9]
 refine hdv0 4 8 (vr) (by rfl) ((rX.go b_V)) ?_
 refine wpAnyH_done (by kernel_rfl) ?_ _
 have HR : Shh (Sl Y1 Y1.heap.size vr out ∧ Below w.heap.size w Y1 ∧ ∀ g, g < w.heap.size → Off g vr) := ⟨sR, Below.chain HBV b_V, oR⟩
 clear m_Y1 b_V oR sR HBV rX sS sO rT HF
 go_wp2
 go_ret
 exact ⟨_, rfl, HR.out⟩
set_option maxHeartbeats 2000000 in
theorem combine_any (x : S5) (hw : x.wf) (hx : x.ok = true) (vs vl vr : Value) (seed l r : List UInt8) (a : List UInt32) (ha : a.length = 8) (w : World) (hs : Sl w w.heap.size vs seed) (hl : Sl w w.heap.size vl l) (hr : Sl w w.heap.size vr r) (hsl : seed.length ≤ 1000) (hll : l.length = x.n.toNat) (hrl : r.length = x.n.toNat) (ht : Tabs w) :
  Calls Tryz.prog 83 #[x.v, vs, adrV a, vl, vr] w (NewSl w (nodeB x.s x.n seed a l r)) := by
 unfold NewSl
 obtain ⟨As, cs, rfl, _, _⟩ := hs.form
 obtain ⟨Al, cl, rfl, _, _⟩ := hl.form
 obtain ⟨Ar, cr, rfl, _, _⟩ := hr.form
 have HSEL : Shh (∀ (j : Nat) W, j < 3 → Sl W W.heap.size (.slice As seed.length cs) seed → Tabs W → Calls Tryz.prog 111 #[x.v, .slice As seed.length cs, adrV a, .int .u32 (j : Int)] W (NewSl W (key11 x.s x.n seed a j))) := ⟨fun j W h1 h2 h3 => selected_any x hw hx _ seed a ha j h1 W h2 hsl h3⟩
 obtain ⟨K, hK⟩ : ∃ K, K = key11 x.s x.n seed a := ⟨_, rfl⟩
 obtain ⟨x1, hx1⟩ : ∃ x1, x1 = List.zipWith (· ^^^ ·) l (K 1) := ⟨_, rfl⟩
 obtain ⟨x2, hx2⟩ : ∃ x2, x2 = List.zipWith (· ^^^ ·) r (K 2) := ⟨_, rfl⟩
 obtain ⟨out, hout⟩ : ∃ out, out = nodeB x.s x.n seed a l r := ⟨_, rfl⟩
 have hn := (ok_len hx 0 [] []).2
 have hkl : ∀ j, (K j).length = x.n.toNat := fun j => by rw [hK]; exact key11_length hx seed a j
 have l1 : x1.length = x.n.toNat := by rw [hx1, List.length_zipWith, hkl, hll, Nat.min_self]
 have l2 : x2.length = x.n.toNat := by rw [hx2, List.length_zipWith, hkl, hrl, Nat.min_self]
 have HQ : Shh (pairE l (K 1) = 0 ∧ xored l (K 1) = x1 ∧ pairE r (K 2) = 0 ∧ xored r (K 2) = x2 ∧ l.length ≤ 32 ∧ r.length ≤ 32 ∧ (∀ j, (K j).length ≤ 32) ∧ x1.length ≤ 32 ∧ x2.length ≤ 32) := by
  refine ⟨by unfold pairE; rw [hkl, hll, if_pos rfl], by unfold xored; rw [hkl, hll, if_pos rfl, hx1], by unfold pairE; rw [hkl, hrl, if_pos rfl], by unfold xored; rw [hkl, hrl, if_pos rfl, hx2], by omega, by omega, fun j => by rw [hkl]; exact hn, by omega, by omega⟩
 have HH : Shh (∀ vk vm W, Sl W W.heap.size vk (K 0) → Sl W W.heap.size vm (x1 ++ x2) → Tabs W → Calls Tryz.prog 113 #[x.v, vk, vm] W (NewSl W out)) := ⟨fun vk vm W h1 h2 h3 => by
  have e : out = sumK x 1 (K 0) (x1 ++ x2) := by rw [hout, hx1, hx2, hK]; unfold nodeB sumK; rw [hx]; rfl
  rw [e]
  exact HN_any x hw vk vm (K 0) (x1 ++ x2) W h1 h2 h3 (by rw [hkl]; omega) (by rw [List.length_append]; omega)⟩
 rw [← hout]
 rw [← hK] at HSEL
 have HA : Shh ((wordCells a).length = 8) := ⟨by rw [wordCells_length]; exact ha⟩
 obtain ⟨W, hW⟩ : ∃ W, W = (w.alloc (.cells #[.int .u32 x.c, .bool x.s, .int .i64 x.n, .int .i64 x.h, .int .i64 x.l] 27)).alloc (.cells (wordCells a).toArray 64) := ⟨_, rfl⟩
 have HW : Shh (Row W w.heap.size 27 [.int .u32 x.c, .bool x.s, .int .i64 x.n, .int .i64 x.h, .int .i64 x.l] ∧ Row W (w.heap.size + 1) 64 (wordCells a) ∧ Sl W W.heap.size (.slice As seed.length cs) seed ∧ Sl W W.heap.size (.slice Al l.length cl) l ∧ Sl W W.heap.size (.slice Ar r.length cr) r ∧ Tabs W ∧ Below w.heap.size w W) := by
  have bW : Below w.heap.size w W := by rw [hW]; exact Below.chain (below1 _ _) (below1 _ _)
  refine ⟨by rw [hW]; exact (Row.new_ rfl rfl).alloc _, by rw [hW]; exact Row.new_ (by rw [asz]) rfl, hs.go bW, hl.go bW, hr.go bW, ht.go bW, bW⟩
 clear hs hl hr ht hsl hll hrl hkl l1 l2 hn hK hx1 hx2 hout hx hw ha
 unfold adrV at HSEL ⊢
 unfold S5.v at HSEL HH ⊢
 generalize wordCells a = L at HSEL HW HA hW ⊢
 generalize x.c = xc at *
 generalize x.s = xs at *
 generalize x.n = xn at *
 generalize x.h = xh at *
 generalize x.l = xl at *
 go_enter Tryz.func83, Tryz.ntmps83
 go_wp2_with (first | (rw [← hW]; refine wpList_load_any rfl 27 (.tmp 5) rfl w.heap.size rfl 27 [.int .u32 xc, .bool xs, .int .i64 xn, .int .i64 xh, .int .i64 xl] _ HW.out.1 Tryz.underlying27 rfl info_xms ?_) | (rw [← hW]; refine wpList_load_any rfl 64 (.tmp 7) rfl (w.heap.size + 1) rfl 64 L _ HW.out.2.1 Tryz.underlying64 rfl (info_adr10 HA.out) ?_) | (go_at_call 111; rw [← hW]; refine (HSEL.out 0 _ (by decide) HW.out.2.2.1 HW.out.2.2.2.2.2.1).mono ?_))
 try rw [← hW]
 unfold NewSl
 rintro e w2 ⟨v2, rfl, s2, b2, _⟩
 obtain ⟨A0, c0, rfl, _, _⟩ := s2.form
 have H2 : Shh (Row w2 w.heap.size 27 [.int .u32 xc, .bool xs, .int .i64 xn, .int .i64 xh, .int .i64 xl] ∧ Row w2 (w.heap.size + 1) 64 L ∧ Sl w2 w2.heap.size (.slice As seed.length cs) seed ∧ Sl w2 w2.heap.size (.slice Al l.length cl) l ∧ Sl w2 w2.heap.size (.slice Ar r.length cr) r ∧ Tabs w2 ∧ Sl w2 w2.heap.size (.slice A0 (K 0).length c0) (K 0) ∧ Below w.heap.size w w2) := ⟨HW.out.1.go b2, HW.out.2.1.go b2, HW.out.2.2.1.go b2, HW.out.2.2.2.1.go b2, HW.out.2.2.2.2.1.go b2, HW.out.2.2.2.2.2.1.go b2, s2, Below.chain HW.out.2.2.2.2.2.2 b2⟩
 clear s2 b2 HW hW
 go_wp2_with (first | (refine wpList_load_any rfl 27 (.tmp 5) rfl w.heap.size rfl 27 [.int .u32 xc, .bool xs, .int .i64 xn, .int .i64 xh, .int .i64 xl] _ H2.out.1 Tryz.underlying27 rfl info_xms ?_) | (refine wpList_load_any rfl 64 (.tmp 7) rfl (w.heap.size + 1) rfl 64 L _ H2.out.2.1 Tryz.underlying64 rfl (info_adr10 HA.out) ?_) | (go_at_call 111; refine (HSEL.out 1 _ (by decide) H2.out.2.2.1 H2.out.2.2.2.2.2.1).mono ?_))
 unfold NewSl
 rintro e w3 ⟨v3, rfl, s3, b3, _⟩
 obtain ⟨A1, c1, rfl, _, _⟩ := s3.form
 have H3 : Shh (Row w3 w.heap.size 27 [.int .u32 xc, .bool xs, .int .i64 xn, .int .i64 xh, .int .i64 xl] ∧ Row w3 (w.heap.size + 1) 64 L ∧ Sl w3 w3.heap.size (.slice As seed.length cs) seed ∧ Sl w3 w3.heap.size (.slice Al l.length cl) l ∧ Sl w3 w3.heap.size (.slice Ar r.length cr) r ∧ Tabs w3 ∧ Sl w3 w3.heap.size (.slice A0 (K 0).length c0) (K 0) ∧ Sl w3 w3.heap.size (.slice A1 (K 1).length c1) (K 1) ∧ Below w.heap.size w w3) := ⟨H2.out.1.go b3, H2.out.2.1.go b3, H2.out.2.2.1.go b3, H2.out.2.2.2.1.go b3, H2.out.2.2.2.2.1.go b3, H2.out.2.2.2.2.2.1.go b3, H2.out.2.2.2.2.2.2.1.go b3, s3, Below.chain H2.out.2.2.2.2.2.2.2 b3⟩
 clear s3 b3 H2
 go_wp2_with (go_at_call 112; refine (xor_any w3.heap.size w3.heap.size _ _ l (K 1) w3 H3.out.2.2.2.1 H3.out.2.2.2.2.2.2.2.1 (Nat.le_refl _) (Nat.le_refl _) (by have := HQ.out.2.2.2.2.1; omega) (by have := HQ.out.2.2.2.2.2.2.1 1; omega)).mono ?_)
 unfold PutIs
 rintro e w4 ⟨vx, rfl, g4⟩
 rw [HQ.out.1]
 rw [HQ.out.2.1] at g4
 obtain ⟨A3, c3, rfl⟩ := own_form g4.1
 have H4 : Shh (Row w4 w.heap.size 27 [.int .u32 xc, .bool xs, .int .i64 xn, .int .i64 xh, .int .i64 xl] ∧ Row w4 (w.heap.size + 1) 64 L ∧ Sl w4 w4.heap.size (.slice As seed.length cs) seed ∧ Sl w4 w4.heap.size (.slice Al l.length cl) l ∧ Sl w4 w4.heap.size (.slice Ar r.length cr) r ∧ Tabs w4 ∧ Sl w4 w4.heap.size (.slice A0 (K 0).length c0) (K 0) ∧ Sl w4 w4.heap.size (.slice A3 x1.length c3) x1 ∧ Below w.heap.size w w4) := ⟨H3.out.1.go g4.2, H3.out.2.1.go g4.2, H3.out.2.2.1.go g4.2, H3.out.2.2.2.1.go g4.2, H3.out.2.2.2.2.1.go g4.2, H3.out.2.2.2.2.2.1.go g4.2, H3.out.2.2.2.2.2.2.1.go g4.2, gives_sl g4, Below.chain H3.out.2.2.2.2.2.2.2.2 g4.2⟩
 clear g4 H3
 go_wp2_with (first | (refine wpList_load_any rfl 27 (.tmp 5) rfl w.heap.size rfl 27 [.int .u32 xc, .bool xs, .int .i64 xn, .int .i64 xh, .int .i64 xl] _ H4.out.1 Tryz.underlying27 rfl info_xms ?_) | (refine wpList_load_any rfl 64 (.tmp 7) rfl (w.heap.size + 1) rfl 64 L _ H4.out.2.1 Tryz.underlying64 rfl (info_adr10 HA.out) ?_) | (go_at_call 111; refine (HSEL.out 2 _ (by decide) H4.out.2.2.1 H4.out.2.2.2.2.2.1).mono ?_))
 unfold NewSl
 rintro e w5 ⟨v5, rfl, s5, b5, _⟩
 obtain ⟨A4, c4, rfl, _, _⟩ := s5.form
 have H5 : Shh (Row w5 w.heap.size 27 [.int .u32 xc, .bool xs, .int .i64 xn, .int .i64 xh, .int .i64 xl] ∧ Sl w5 w5.heap.size (.slice Ar r.length cr) r ∧ Tabs w5 ∧ Sl w5 w5.heap.size (.slice A0 (K 0).length c0) (K 0) ∧ Sl w5 w5.heap.size (.slice A3 x1.length c3) x1 ∧ Sl w5 w5.heap.size (.slice A4 (K 2).length c4) (K 2) ∧ Below w.heap.size w w5) := ⟨H4.out.1.go b5, H4.out.2.2.2.2.1.go b5, H4.out.2.2.2.2.2.1.go b5, H4.out.2.2.2.2.2.2.1.go b5, H4.out.2.2.2.2.2.2.2.1.go b5, s5, Below.chain H4.out.2.2.2.2.2.2.2.2 b5⟩
 clear s5 b5 H4 HSEL
 go_wp2_with (go_at_call 112; refine (xor_any w5.heap.size w5.heap.size _ _ r (K 2) w5 H5.out.2.1 H5.out.2.2.2.2.2.1 (Nat.le_refl _) (Nat.le_refl _) (by have := HQ.out.2.2.2.2.2.1; omega) (by have := HQ.out.2.2.2.2.2.2.1 2; omega)).mono ?_)
 unfold PutIs
 rintro e w6 ⟨vx, rfl, g6⟩
 rw [HQ.out.2.2.1]
 rw [HQ.out.2.2.2.1] at g6
 obtain ⟨A6, c6, rfl⟩ := own_form g6.1
 have H6 : Shh (Row w6 w.heap.size 27 [.int .u32 xc, .bool xs, .int .i64 xn, .int .i64 xh, .int .i64 xl] ∧ Tabs w6 ∧ Sl w6 w6.heap.size (.slice A0 (K 0).length c0) (K 0) ∧ Sl w6 w6.heap.size (.slice A3 x1.length c3) x1 ∧ Sl w6 w6.heap.size (.slice A6 x2.length c6) x2 ∧ Below w.heap.size w w6) := ⟨H5.out.1.go g6.2, H5.out.2.2.1.go g6.2, H5.out.2.2.2.1.go g6.2, H5.out.2.2.2.2.1.go g6.2, gives_sl g6, Below.chain H5.out.2.2.2.2.2.2 g6.2⟩
 clear g6 H5
 go_wp2_with fail
 refine wp_region_held_drew (S := fun w' => Row w' w.heap.size 27 [.int .u32 xc, .bool xs, .int .i64 xn, .int .i64 xh, .int .i64 xl]) (by kernel_rfl) H6.out.1.drew (fun hS => ?_)
 clear hS
 obtain ⟨V, hV⟩ : ∃ V, V = World.drew w6 := ⟨_, rfl⟩
 rw [← hV]
 have rX : Row V w.heap.size 27 [.int .u32 xc, .bool xs, .int .i64 xn, .int .i64 xh, .int .i64 xl] := by rw [hV]; exact H6.out.1.drew
 have s0 : Sl V V.heap.size (.slice A0 (K 0).length c0) (K 0) := by rw [hV]; exact H6.out.2.2.1.drew
 have s1 : Sl V V.heap.size (.slice A3 x1.length c3) x1 := by rw [hV]; exact H6.out.2.2.2.1.drew
 have s2 : Sl V V.heap.size (.slice A6 x2.length c6) x2 := by rw [hV]; exact H6.out.2.2.2.2.1.drew
 have rT : Tabs V := H6.out.2.1.go (by rw [hV]; exact (Below.refl _ _).drew)
 have HBV : Below w.heap.size w V := by rw [hV]; exact H6.out.2.2.2.2.2.drew
 clear hV H6
 refine hdv0 1 39 (.slice A0 (K 0).length c0) (by rfl) (rX) ?_
 refine hdv0 2 40 (.slice A3 x1.length c3) (by rfl) (rX) ?_
 refine hdv0 3 41 (.slice A6 x2.length c6) (by rfl) (rX) ?_
 refine held_load 0 27 (.tmp 5) (some 38) (by kernel_rfl) (by rfl) (by kernel_rfl) w.heap.size 0 (by kernel_rfl) ([.int .u32 xc, .bool xs, .int .i64 xn, .int .i64 xh, .int .i64 xl]) _ (fun w h => h.range) Tryz.underlying27 rfl (info_xms) (fun _ _ _ _ h => h) (rX) ?_
 simp only [Act.put, arr9, hd9, tl9]
 refine held_one 4 (by kernel_rfl) ?_
 refine step_value 4 _ _ (some 42) (.slice (some ⟨V.heap.size, 0, none⟩) 2 2) (V.alloc (.cells #[.slice A3 x1.length c3, .slice A6 x2.length c6] 23)) (by rfl) (by kernel_rfl) (by first | kernel_rfl | go_simp) (rX.alloc _) ?_
 simp only [Act.put, arr9, hd9, tl9]
 have bx : Below V.heap.size V (V.alloc (.cells #[.slice A3 x1.length c3, .slice A6 x2.length c6] 23)) := Below.alloc (Below.refl _ _) (Nat.le_refl _) _
 have rP : Row (V.alloc (.cells #[.slice A3 x1.length c3, .slice A6 x2.length c6] 23)) V.heap.size 23 [.slice A3 x1.length c3, .slice A6 x2.length c6] := Row.new_ rfl rfl
 have z_rP := asz V (.cells #[.slice A3 x1.length c3, .slice A6 x2.length c6] 23)
 generalize V.alloc (.cells #[.slice A3 x1.length c3, .slice A6 x2.length c6] 23) = Y1 at *
 have b_V := bx
 have m_Y1 : V.heap.size ≤ Y1.heap.size := bx.size
 clear bx
 refine held_one 5 (by kernel_rfl) ?_
 refine step_call 5 _ _ (some 43) 52 #[.slice (some ⟨V.heap.size, 0, none⟩) 2 2] (by rfl) (by kernel_rfl) (by first | kernel_rfl | go_simp) ?_
 refine (show Calls Tryz.prog 52 #[.slice (some ⟨V.heap.size, 0, none⟩) 2 2] Y1 (OwnIs Y1 (x1 ++ x2)) by have h := join_any Y1.heap.size Y1.heap.size _ [x1, x2] Y1 (PartsO.two (n := 2) rP.lt (Nat.ne_of_lt rP.lt) rP ((s1.go b_V)) (((s1.go b_V)).off (Nat.le_refl _)) ((s2.go b_V)) (((s2.go b_V)).off (Nat.le_refl _))) (Nat.le_refl _) (by rw [two_flat11, List.length_append]; have := HQ.out.2.2.2.2.2.2.2; omega) (by simp); rw [two_flat11] at h; exact h).mono ?_
 rintro e Y2 ⟨v, rfl, gv⟩
 have bx : Below Y1.heap.size Y1 Y2 := gv.2
 obtain ⟨Aj, cj, vEq⟩ := own_form gv.1
 subst vEq
 have sJ : Sl Y2 Y2.heap.size (.slice Aj (x1 ++ x2).length cj) (x1 ++ x2) := gives_sl gv
 clear gv
 replace b_V := Below.chain b_V bx
 have b_Y1 := bx
 have m_Y2 : Y1.heap.size ≤ Y2.heap.size := bx.size
 clear bx
 refine ⟨_, rfl, (rX.go b_V), ?_⟩
 simp only [Act.put, arr9, hd9, tl9]
 refine held_one 6 (by kernel_rfl) ?_
 refine step_call 6 _ _ (some 44) 113 #[.agg ([.int .u32 xc, .bool xs, .int .i64 xn, .int .i64 xh, .int .i64 xl]).toArray, .slice A0 (K 0).length c0, .slice Aj (x1 ++ x2).length cj] (by rfl) (by kernel_rfl) (by first | kernel_rfl | go_simp) ?_
 refine (HH.out _ _ Y2 ((s0.go b_V)) (sJ) ((rT.go b_V))).mono ?_
 unfold NewSl; rintro e Y3 ⟨vr, rfl, gr, br, orr⟩
 have bx : Below Y2.heap.size Y2 Y3 := br
 have sR := gr
 have oR : ∀ g, g < w.heap.size → Off g vr := fun g hg => orr g (Nat.lt_of_lt_of_le hg (Below.chain HBV b_V).size)
 clear gr orr
 replace b_V := Below.chain b_V bx
 replace b_Y1 := Below.chain b_Y1 bx
 have b_Y2 := bx
 have m_Y3 : Y2.heap.size ≤ Y3.heap.size := bx.size
 clear bx
 refine ⟨_, rfl, (rX.go b_V), ?_⟩
 simp only [Act.put, arr9, hd9, tl9]
 refine hdv0 7 10 (vr) (by rfl) ((rX.go b_V)) ?_
 refine wpAnyH_done (by kernel_rfl) ?_ _
 have HR : Shh (Sl Y3 Y3.heap.size vr out ∧ Below w.heap.size w Y3 ∧ ∀ g, g < w.heap.size → Off g vr) := ⟨sR, Below.chain HBV b_V, oR⟩
 clear m_Y3 b_Y2 oR sR m_Y2 b_Y1 sJ m_Y1 b_V z_rP rP HBV rX s0 s1 s2 rT HH HQ
 go_wp2
 go_ret
 exact ⟨_, rfl, HR.out⟩
set_option maxHeartbeats 2000000 in
theorem Node_any (x : S5) (vs vl vr : Value) (seed l r : List UInt8) (a : List UInt32) (w : World) (hw : x.wf) (ha : a.length = 8) (ht : Tabs w) (hs : Sl w w.heap.size vs seed) (hl : Sl w w.heap.size vl l) (hr : Sl w w.heap.size vr r) :
  Calls Tryz.prog 40 #[x.v, vs, adrV a, vl, vr] w (ResIs w (badE x [seed, l, r]) (nodR x seed a l r)) := by
 unfold ResIs
 obtain ⟨As, cs, rfl, _, _⟩ := hs.form
 obtain ⟨Al, cl, rfl, _, _⟩ := hl.form
 obtain ⟨Ar, cr, rfl, _, _⟩ := hr.form
 have HC : Shh (∀ (v : Value) (B : Nat) W, PartsO W B B v [seed, l, r] → B ≤ W.heap.size → Calls Tryz.prog 82 #[x.v, v] W (OldIs (.int .i64 (badE x [seed, l, r])) W)) := ⟨fun v B W h hB => check11_any x hw v [seed, l, r] B B W h hB (by simp)⟩
 have HE : Shh ((badE x [seed, l, r] = 0 → ∀ W, Sl W W.heap.size (.slice As seed.length cs) seed → Sl W W.heap.size (.slice Al l.length cl) l → Sl W W.heap.size (.slice Ar r.length cr) r → Tabs W → Calls Tryz.prog 83 #[x.v, .slice As seed.length cs, adrV a, .slice Al l.length cl, .slice Ar r.length cr] W (NewSl W (nodR x seed a l r))) ∧ (badE x [seed, l, r] ≠ 0 → nodR x seed a l r = [])) := ⟨fun h W h1 h2 h3 h4 => by
  have hk := badE_ok h
  have hn := ok_n hk.1
  have e1 := hk.2 seed (by simp)
  have e2 := hk.2 l (by simp)
  have e3 := hk.2 r (by simp)
  have e : nodR x seed a l r = nodeB x.s x.n seed a l r := by unfold nodR; rw [if_pos h]
  rw [e]
  exact combine_any x hw hk.1 _ _ _ seed l r a ha W h1 h2 h3 (by omega) (by omega) (by omega) h4, fun h => by unfold nodR; rw [if_neg h]⟩
 generalize badE x [seed, l, r] = er at HC HE ⊢
 generalize nodR x seed a l r = out at HE ⊢
 obtain ⟨W0, hW0⟩ : ∃ W0, W0 = (w.alloc (.cells #[.int .u32 x.c, .bool x.s, .int .i64 x.n, .int .i64 x.h, .int .i64 x.l] 27)).alloc (.cells (wordCells a).toArray 64) := ⟨_, rfl⟩
 have HW0 : Shh (Row W0 w.heap.size 27 [.int .u32 x.c, .bool x.s, .int .i64 x.n, .int .i64 x.h, .int .i64 x.l] ∧ Row W0 (w.heap.size + 1) 64 (wordCells a) ∧ W0.heap.size = w.heap.size + 2 ∧ Below w.heap.size w W0) := by
  rw [hW0]
  exact ⟨(Row.new_ rfl rfl).alloc _, Row.new_ (by rw [asz]) rfl, by rw [asz, asz], Below.chain (below1 _ _) (below1 _ _)⟩
 obtain ⟨W, hW⟩ : ∃ W, W = W0.alloc (.cells #[.slice As seed.length cs, .slice Al l.length cl, .slice Ar r.length cr] 23) := ⟨_, rfl⟩
 have HW : Shh (Row W w.heap.size 27 [.int .u32 x.c, .bool x.s, .int .i64 x.n, .int .i64 x.h, .int .i64 x.l] ∧ Row W (w.heap.size + 1) 64 (wordCells a) ∧ PartsO W (w.heap.size + 3) (w.heap.size + 3) (.slice (some ⟨w.heap.size + 2, 0, none⟩) 3 3) [seed, l, r] ∧ w.heap.size + 3 ≤ W.heap.size ∧ Below w.heap.size w W ∧ Sl W W.heap.size (.slice As seed.length cs) seed ∧ Sl W W.heap.size (.slice Al l.length cl) l ∧ Sl W W.heap.size (.slice Ar r.length cr) r ∧ Tabs W) := by
  have b0 : Below w.heap.size w W := by rw [hW]; exact Below.chain HW0.out.2.2.2 (below1 _ _)
  refine ⟨by rw [hW]; exact HW0.out.1.alloc _, by rw [hW]; exact HW0.out.2.1.alloc _, ?_, by rw [hW, asz, HW0.out.2.2.1]; exact Nat.le_refl _, b0, hs.go b0, hl.go b0, hr.go b0, ht.go b0⟩
  exact PartsO.three (by omega) (by omega) (by rw [hW]; exact Row.new_ HW0.out.2.2.1.symm rfl) ((hs.below b0).more (by omega)) (hs.off (by omega)) ((hl.below b0).more (by omega)) (hl.off (by omega)) ((hr.below b0).more (by omega)) (hr.off (by omega))
 have HA : Shh ((wordCells a).length = 8) := ⟨by rw [wordCells_length]; exact ha⟩
 clear hs hl hr ht hw ha
 unfold adrV at HE ⊢
 unfold S5.v at HC HE ⊢
 generalize wordCells a = L at *
 generalize x.c = xc at *
 generalize x.s = xs at *
 generalize x.n = xn at *
 generalize x.h = xh at *
 generalize x.l = xl at *
 go_enter Tryz.func40, Tryz.ntmps40
 go_wp2_with (first | (rw [← hW0]; refine wpList_load_any rfl 27 (.tmp 5) rfl w.heap.size rfl 27 [.int .u32 xc, .bool xs, .int .i64 xn, .int .i64 xh, .int .i64 xl] _ HW0.out.1 Tryz.underlying27 rfl info_xms ?_) | (go_at_call 82; rw [← hW0, ← hW]; refine (HC.out _ _ _ HW.out.2.2.1 HW.out.2.2.2.1).mono ?_))
 try rw [← hW0, ← hW]
 unfold OldIs
 rintro e w2 ⟨rfl, b2⟩
 have H2 : Shh (Row w2 w.heap.size 27 [.int .u32 xc, .bool xs, .int .i64 xn, .int .i64 xh, .int .i64 xl] ∧ Row w2 (w.heap.size + 1) 64 L ∧ Sl w2 w2.heap.size (.slice As seed.length cs) seed ∧ Sl w2 w2.heap.size (.slice Al l.length cl) l ∧ Sl w2 w2.heap.size (.slice Ar r.length cr) r ∧ Tabs w2 ∧ Below w.heap.size w w2) := ⟨HW.out.1.go b2, HW.out.2.1.go b2, HW.out.2.2.2.2.2.1.go b2, HW.out.2.2.2.2.2.2.1.go b2, HW.out.2.2.2.2.2.2.2.1.go b2, HW.out.2.2.2.2.2.2.2.2.go b2, Below.chain HW.out.2.2.2.2.1 b2⟩
 clear HW hW b2 HC HW0 hW0
 by_cases her : er = 0
 ·have HE2 := Shh.mk (HE.out.1 her)
  subst her
  clear HE
  go_wp2_with (first | refine wpList_load_any rfl 27 (.tmp 5) rfl w.heap.size rfl 27 [.int .u32 xc, .bool xs, .int .i64 xn, .int .i64 xh, .int .i64 xl] _ H2.out.1 Tryz.underlying27 rfl info_xms ?_ | refine wpList_load_any rfl 64 (.tmp 7) rfl (w.heap.size + 1) rfl 64 L _ H2.out.2.1 Tryz.underlying64 rfl (info_adr10 HA.out) ?_ | (go_at_call 83; refine (HE2.out _ H2.out.2.2.1 H2.out.2.2.2.1 H2.out.2.2.2.2.1 H2.out.2.2.2.2.2.1).mono ?_))
  unfold NewSl
  rintro e w3 ⟨v3, rfl, s3, b3, _⟩
  have HR : Shh (Sl w3 w3.heap.size v3 out ∧ Below w.heap.size w w3) := ⟨s3, Below.chain H2.out.2.2.2.2.2.2 b3⟩
  clear H2 s3 b3 HE2
  go_wp2
  go_ret2
  exact ⟨_, rfl, HR.out⟩
 ·have HL : Shh (out = [] ∧ Below w.heap.size w w2) := ⟨HE.out.2 her, H2.out.2.2.2.2.2.2⟩
  have hne : (er != 0) = true := by simp [her]
  clear HE H2 her
  go_wp2
  go_ret2
  exact ⟨_, rfl, by rw [HL.out.1]; exact Sl.nil_, HL.out.2⟩
set_option maxHeartbeats 1000000 in
theorem inner_any (x : S5) (hw : x.wf) (hx : x.ok = true) (vs vl vr : Value) (seed l r : List UInt8) (h i : Nat) (hh : h ≤ 100) (hi : i < 4294967296) (w : World) (hs : Sl w w.heap.size vs seed) (hl : Sl w w.heap.size vl l) (hr : Sl w w.heap.size vr r) (hsl : seed.length ≤ 1000) (hll : l.length = x.n.toNat) (hrl : r.length = x.n.toNat) (ht : Tabs w) :
  Calls Tryz.prog 93 #[x.v, vs, .int .i64 ((h + 1 : Nat) : Int), .int .u32 (i : Int), vl, vr] w (NewSl w (rwF x.s x.n seed h i l r)) := by
 unfold NewSl rwF
 obtain ⟨As, cs, rfl, _, _⟩ := hs.form
 obtain ⟨Al, cl, rfl, _, _⟩ := hl.form
 obtain ⟨Ar, cr, rfl, _, _⟩ := hr.form
 have HC : Shh (∀ W, Sl W W.heap.size (.slice As seed.length cs) seed → Sl W W.heap.size (.slice Al l.length cl) l → Sl W W.heap.size (.slice Ar r.length cr) r → Tabs W → Calls Tryz.prog 83 #[x.v, .slice As seed.length cs, adrV (adr11 2 0 h i), .slice Al l.length cl, .slice Ar r.length cr] W (NewSl W (nodeB x.s x.n seed (adr11 2 0 h i) l r))) := ⟨fun W h1 h2 h3 h4 => combine_any x hw hx _ _ _ seed l r _ rfl W h1 h2 h3 hsl hll hrl h4⟩
 generalize nodeB x.s x.n seed (adr11 2 0 h i) l r = out at HC ⊢
 have HL : Shh (wordCells (adr11 2 0 h i) = [.int .u32 0, .int .u32 0, .int .u32 0, .int .u32 2, .int .u32 0, .int .u32 (h : Int), .int .u32 (i : Int), .int .u32 0]) := ⟨by
  have e : adrV (adr11 2 0 h i) = .agg ([.int .u32 0, .int .u32 0, .int .u32 0, .int .u32 (2 : Int), .int .u32 (0 : Int), .int .u32 (h : Int), .int .u32 (i : Int), .int .u32 0] : List Value).toArray := by
   rw [ofNat_cell (show h < 4294967296 by omega), ofNat_cell hi]
   rfl
  unfold adrV at e
  injection e with e
  exact congrArg Array.toList e⟩
 unfold adrV at HC
 rw [HL.out] at HC
 clear HL
 have hq1 : ((h + 1 : Nat) : Int) - 1 = (h : Int) := by omega
 have hq2 : IntKind.i64.wrap (h : Int) = (h : Int) := by rw [IntKind.wrap_i64]; omega
 have hq3 : (h : Int) % 4294967296 = (h : Int) := by omega
 obtain ⟨h1, hh1⟩ : ∃ h1 : Int, h1 = ((h + 1 : Nat) : Int) := ⟨_, rfl⟩
 rw [← hh1] at hq1 ⊢
 clear hh1
 have HARG : Shh (∀ W, Below w.heap.size w W → Sl W W.heap.size (.slice As seed.length cs) seed ∧ Sl W W.heap.size (.slice Al l.length cl) l ∧ Sl W W.heap.size (.slice Ar r.length cr) r ∧ Tabs W) := ⟨fun W b => ⟨hs.go b, hl.go b, hr.go b, ht.go b⟩⟩
 clear hs hl hr ht hsl hll hrl hw hx hi hh
 unfold S5.v at HC ⊢
 generalize x.c = xc at *
 generalize x.s = xs at *
 generalize x.n = xn at *
 generalize x.h = xh at *
 generalize x.l = xl at *
 go_enter Tryz.func93, Tryz.ntmps93
 obtain ⟨Z, hZ⟩ : ∃ Z, Z = (w.alloc (.cells #[.int .u32 xc, .bool xs, .int .i64 xn, .int .i64 xh, .int .i64 xl] 27)).alloc (.cells #[.int .u32 0, .int .u32 0, .int .u32 0, .int .u32 2, .int .u32 0, .int .u32 (h : Int), .int .u32 (i : Int), .int .u32 0] 64) := ⟨_, rfl⟩
 have bZ : Below w.heap.size w Z := by rw [hZ]; exact Below.chain (below1 _ _) (below1 _ _)
 have HZ : Shh (Below w.heap.size w Z) := ⟨bZ⟩
 clear bZ
 go_wp2_with (go_at_call 83; rw [← hZ]; refine (HC.out _ (HARG.out _ HZ.out).1 (HARG.out _ HZ.out).2.1 (HARG.out _ HZ.out).2.2.1 (HARG.out _ HZ.out).2.2.2).mono ?_)
 clear hZ
 unfold NewSl
 rintro e w3 ⟨v3, rfl, s3, b3, o3⟩
 have HR : Shh (Sl w3 w3.heap.size v3 out ∧ Below w.heap.size w w3 ∧ ∀ g, g < w.heap.size → Off g v3) := ⟨s3, Below.chain HZ.out b3, fun g hg => o3 g (Nat.lt_of_lt_of_le hg HZ.out.size)⟩
 clear HZ s3 b3 o3 HC HARG
 go_wp2
 go_ret
 exact ⟨_, rfl, HR.out⟩
end Go.Proofs.YtdakbipiifkmfaaGreatDoor
