/-
 THE PROGRAM'S OWN keyed hashes of package wots: the result lies in no block that was there.
-/
import Derived.Test.YtdakbipiifkmfaaDoorXp2
namespace Go.Proofs.YtdakbipiifkmfaaDoor
open Go.RowKit
set_option maxRecDepth 100000
theorem off_none {n : Nat} : ∀ g, g < n → Off g (.slice none 0 0) := fun g _ x l c h hl => by cases h
theorem ksumN_any (x : S5) (hw : x.wf) (kind : Nat) (hk : kind ≤ 4) (vk vm : Value) (key m : List UInt8) (w : World) (hkey : Sl w w.heap.size vk key) (hm : Sl w w.heap.size vm m) (ht : Tabs w) (hl1 : key.length ≤ 100000) (hl2 : m.length ≤ 100000) :
  Calls Tryd.prog 40 #[x.v, .int .u8 (kind : Int), vk, vm] w (NewSl w (sumK x kind key m)) := by
 unfold NewSl
 obtain ⟨A1, c1, rfl, _, _⟩ := hkey.form
 obtain ⟨A2, c2, rfl, _, _⟩ := hm.form
 have HM : Shh (∀ W, Calls Tryd.prog 49 #[x.v] W (OldIs (.bool x.ok) W)) := ⟨fun W => isSet_any x hw W⟩
 obtain ⟨W, hW⟩ : ∃ W, W = w.alloc (.cells #[.int .u32 x.c, .bool x.s, .int .i64 x.n, .int .i64 x.h, .int .i64 x.l] 27) := ⟨_, rfl⟩
 have HW : Shh (Row W w.heap.size 27 [.int .u32 x.c, .bool x.s, .int .i64 x.n, .int .i64 x.h, .int .i64 x.l] ∧ Sl W W.heap.size (.slice A1 key.length c1) key ∧ Sl W W.heap.size (.slice A2 m.length c2) m ∧ Tabs W ∧ Below w.heap.size w W) := by
  rw [hW]
  exact ⟨Row.new_ rfl rfl, hkey.go (below1 _ _), hm.go (below1 _ _), ht.go (below1 _ _), below1 _ _⟩
 clear hkey hm ht
 unfold S5.v at HM ⊢
 cases hok : x.ok with
 | false =>
  have HS : Shh (sumK x kind key m = []) := ⟨by unfold sumK; rw [hok]; rfl⟩
  rw [HS.out]
  rw [hok] at HM
  clear hok HS hw
  generalize x.c = xc at *
  generalize x.s = xs at *
  generalize x.n = xn at *
  generalize x.h = xh at *
  generalize x.l = xl at *
  go_enter Tryd.func40, Tryd.ntmps40
  go_wp2_with (first | (rw [← hW]; refine wpList_load_any rfl 27 (.tmp 4) rfl w.heap.size rfl 27 [.int .u32 xc, .bool xs, .int .i64 xn, .int .i64 xh, .int .i64 xl] _ HW.out.1 Tryd.underlying27 rfl info_xms ?_) | (go_at_call 49; refine (HM.out _).mono ?_))
  rw [← hW]
  unfold OldIs
  rintro e w2 ⟨rfl, b2⟩
  have HB : Shh (Below w.heap.size w w2) := ⟨Below.chain HW.out.2.2.2.2 b2⟩
  clear b2 HW hW HM
  go_wp2
  go_ret
  exact ⟨_, rfl, Sl.nil_, HB.out, off_none⟩
 | true =>
  have HK : Shh (∀ W, Sl W W.heap.size (.slice A1 key.length c1) key → Tabs W → w.heap.size < W.heap.size → Calls Tryd.prog 50 #[x.v, .int .u8 (kind : Int), .slice A1 key.length c1] W (KeyIs W w.heap.size x.s x.n kind key)) := ⟨fun W h1 h2 h3 => keyed_any x hok kind hk _ key W h1 hl1 h2 w.heap.size h3⟩
  have HS : Shh (sumK x kind key m = keyd x.s x.n kind key m) := ⟨by unfold sumK; rw [hok]; rfl⟩
  rw [HS.out]
  unfold S5.v at HK
  rw [hok] at HM
  clear hok hw HS
  generalize x.c = xc at *
  generalize x.s = xs at *
  generalize x.n = xn at *
  generalize x.h = xh at *
  generalize x.l = xl at *
  go_enter Tryd.func40, Tryd.ntmps40
  go_wp2_with (first | (rw [← hW]; refine wpList_load_any rfl 27 (.tmp 4) rfl w.heap.size rfl 27 [.int .u32 xc, .bool xs, .int .i64 xn, .int .i64 xh, .int .i64 xl] _ HW.out.1 Tryd.underlying27 rfl info_xms ?_) | (go_at_call 49; refine (HM.out _).mono ?_))
  rw [← hW]
  unfold OldIs
  rintro e w2 ⟨rfl, b2⟩
  have H2 : Shh (Row w2 w.heap.size 27 [.int .u32 xc, .bool xs, .int .i64 xn, .int .i64 xh, .int .i64 xl] ∧ Sl w2 w2.heap.size (.slice A1 key.length c1) key ∧ Sl w2 w2.heap.size (.slice A2 m.length c2) m ∧ Tabs w2 ∧ Below w.heap.size w w2) := ⟨HW.out.1.go b2, HW.out.2.1.go b2, HW.out.2.2.1.go b2, HW.out.2.2.2.1.go b2, Below.chain HW.out.2.2.2.2 b2⟩
  clear b2 HW hW HM
  go_wp2_with (first | refine wpList_load_any rfl 27 (.tmp 4) rfl w.heap.size rfl 27 [.int .u32 xc, .bool xs, .int .i64 xn, .int .i64 xh, .int .i64 xl] _ H2.out.1 Tryd.underlying27 rfl info_xms ?_ | (go_at_call 50; refine (HK.out _ H2.out.2.1 H2.out.2.2.2.1 H2.out.1.lt).mono ?_))
  unfold KeyIs
  rintro e w3 ⟨v3, rfl, k3, b3⟩
  obtain ⟨F, q1, q2, rfl, hcf, kf⟩ := k3
  have KF := Shh.mk kf
  have H3 : Shh (Sl w3 w3.heap.size (.slice A2 m.length c2) m ∧ Tabs w3 ∧ Below w.heap.size w w3) := ⟨H2.out.2.2.1.go b3, H2.out.2.2.2.1.go b3, Below.chain H2.out.2.2.2.2 b3⟩
  clear H2 b3 HK kf
  go_wp2_with (with_reducible show Calls Tryd.prog F _ _ _; refine (KF.out w3 _ m (But.refl _ _ _) H3.out.2.1 H3.out.1 hl2).mono ?_)
  unfold NewSl
  rintro e w4 ⟨v, rfl, s4, b4, o4⟩
  have HR : Shh (Sl w4 w4.heap.size v (keyd xs xn kind key m) ∧ Below w.heap.size w w4 ∧ ∀ g, g < w.heap.size → Off g v) := ⟨s4, Below.chain H3.out.2.2 b4, fun g hg => o4 g (Nat.lt_of_lt_of_le hg H3.out.2.2.size)⟩
  clear H3 s4 b4 o4 KF hcf
  go_wp2
  go_ret
  exact ⟨_, rfl, HR.out⟩
theorem HN_any (x : S5) (hw : x.wf) (vk vm : Value) (key m : List UInt8) (w : World) (hkey : Sl w w.heap.size vk key) (hm : Sl w w.heap.size vm m) (ht : Tabs w) (hl1 : key.length ≤ 100000) (hl2 : m.length ≤ 100000) :
  Calls Tryd.prog 28 #[x.v, vk, vm] w (NewSl w (sumK x 1 key m)) := by
 unfold NewSl
 have HK : Shh (∀ W, Sl W W.heap.size vk key → Sl W W.heap.size vm m → Tabs W → Calls Tryd.prog 40 #[x.v, .int .u8 (1 : Int), vk, vm] W (NewSl W (sumK x 1 key m))) := ⟨fun W h1 h2 h3 => ksumN_any x hw 1 (by decide) vk vm key m W h1 h2 h3 hl1 hl2⟩
 obtain ⟨A1, c1, rfl, _, _⟩ := hkey.form
 obtain ⟨A2, c2, rfl, _, _⟩ := hm.form
 obtain ⟨W, hW⟩ : ∃ W, W = w.alloc (.cells #[.int .u32 x.c, .bool x.s, .int .i64 x.n, .int .i64 x.h, .int .i64 x.l] 27) := ⟨_, rfl⟩
 have HW : Shh (Row W w.heap.size 27 [.int .u32 x.c, .bool x.s, .int .i64 x.n, .int .i64 x.h, .int .i64 x.l] ∧ Sl W W.heap.size (.slice A1 key.length c1) key ∧ Sl W W.heap.size (.slice A2 m.length c2) m ∧ Tabs W ∧ Below w.heap.size w W) := by
  rw [hW]
  exact ⟨Row.new_ rfl rfl, hkey.go (below1 _ _), hm.go (below1 _ _), ht.go (below1 _ _), below1 _ _⟩
 clear hkey hm ht
 unfold S5.v at HK ⊢
 generalize sumK x 1 key m = out at HK ⊢
 clear hw
 generalize x.c = xc at *
 generalize x.s = xs at *
 generalize x.n = xn at *
 generalize x.h = xh at *
 generalize x.l = xl at *
 go_enter Tryd.func28, Tryd.ntmps28
 go_wp2_with (first | (rw [← hW]; refine wpList_load_any rfl 27 (.tmp 3) rfl w.heap.size rfl 27 [.int .u32 xc, .bool xs, .int .i64 xn, .int .i64 xh, .int .i64 xl] _ HW.out.1 Tryd.underlying27 rfl info_xms ?_) | (go_at_call 40; rw [← hW]; refine (HK.out _ HW.out.2.1 HW.out.2.2.1 HW.out.2.2.2.1).mono ?_))
 clear hW
 unfold NewSl
 rintro e w2 ⟨v, rfl, s2, b2, o2⟩
 have HR : Shh (Sl w2 w2.heap.size v out ∧ Below w.heap.size w w2 ∧ ∀ g, g < w.heap.size → Off g v) := ⟨s2, Below.chain HW.out.2.2.2.2 b2, fun g hg => o2 g (Nat.lt_of_lt_of_le hg HW.out.2.2.2.2.size)⟩
 clear HW s2 b2 o2 HK
 go_wp2
 go_ret
 exact ⟨_, rfl, HR.out⟩
theorem PrfN_any (x : S5) (hw : x.wf) (vk vm : Value) (key m : List UInt8) (w : World) (hkey : Sl w w.heap.size vk key) (hm : Sl w w.heap.size vm m) (ht : Tabs w) (hl1 : key.length ≤ 100000) (hl2 : m.length ≤ 100000) :
  Calls Tryd.prog 39 #[x.v, vk, vm] w (NewSl w (sumK x 3 key m)) := by
 unfold NewSl
 have HK : Shh (∀ W, Sl W W.heap.size vk key → Sl W W.heap.size vm m → Tabs W → Calls Tryd.prog 40 #[x.v, .int .u8 (3 : Int), vk, vm] W (NewSl W (sumK x 3 key m))) := ⟨fun W h1 h2 h3 => ksumN_any x hw 3 (by decide) vk vm key m W h1 h2 h3 hl1 hl2⟩
 obtain ⟨A1, c1, rfl, _, _⟩ := hkey.form
 obtain ⟨A2, c2, rfl, _, _⟩ := hm.form
 obtain ⟨W, hW⟩ : ∃ W, W = w.alloc (.cells #[.int .u32 x.c, .bool x.s, .int .i64 x.n, .int .i64 x.h, .int .i64 x.l] 27) := ⟨_, rfl⟩
 have HW : Shh (Row W w.heap.size 27 [.int .u32 x.c, .bool x.s, .int .i64 x.n, .int .i64 x.h, .int .i64 x.l] ∧ Sl W W.heap.size (.slice A1 key.length c1) key ∧ Sl W W.heap.size (.slice A2 m.length c2) m ∧ Tabs W ∧ Below w.heap.size w W) := by
  rw [hW]
  exact ⟨Row.new_ rfl rfl, hkey.go (below1 _ _), hm.go (below1 _ _), ht.go (below1 _ _), below1 _ _⟩
 clear hkey hm ht
 unfold S5.v at HK ⊢
 generalize sumK x 3 key m = out at HK ⊢
 clear hw
 generalize x.c = xc at *
 generalize x.s = xs at *
 generalize x.n = xn at *
 generalize x.h = xh at *
 generalize x.l = xl at *
 go_enter Tryd.func39, Tryd.ntmps39
 go_wp2_with (first | (rw [← hW]; refine wpList_load_any rfl 27 (.tmp 3) rfl w.heap.size rfl 27 [.int .u32 xc, .bool xs, .int .i64 xn, .int .i64 xh, .int .i64 xl] _ HW.out.1 Tryd.underlying27 rfl info_xms ?_) | (go_at_call 40; rw [← hW]; refine (HK.out _ HW.out.2.1 HW.out.2.2.1 HW.out.2.2.2.1).mono ?_))
 clear hW
 unfold NewSl
 rintro e w2 ⟨v, rfl, s2, b2, o2⟩
 have HR : Shh (Sl w2 w2.heap.size v out ∧ Below w.heap.size w w2 ∧ ∀ g, g < w.heap.size → Off g v) := ⟨s2, Below.chain HW.out.2.2.2.2 b2, fun g hg => o2 g (Nat.lt_of_lt_of_le hg HW.out.2.2.2.2.size)⟩
 clear HW s2 b2 o2 HK
 go_wp2
 go_ret
 exact ⟨_, rfl, HR.out⟩
end Go.Proofs.YtdakbipiifkmfaaDoor
