/-
  THE PROGRAM'S OWN: keyed hashes; check; digits.
-/
import Derived.Test.YtobbbljnkdfkeaaDoorWq2
import Derived.Test.YtobbbljnkdfkeaaDoorWq3
namespace Go.Proofs.YtobbbljnkdfkeaaDoor
open Go.RowKit
set_option maxRecDepth 100000
theorem keyed_any (x : S5) (hx : x.ok = true) (kind : Nat) (hk : kind ≤ 4) (vk : Value) (key : List UInt8) (w : World) (hkey : Sl w w.heap.size vk key) (hl1 : key.length ≤ 100000) (ht : Tabs w) (g : Nat) (hg : g < w.heap.size) :
    Calls Tryd.prog 48 #[x.v, .int .u8 (kind : Int), vk] w (KeyIs w g x.s x.n kind key) := by
  have hn := S5.ok_is hx
  obtain ⟨c, s, n, h, l⟩ := x
  simp only at hn
  clear hx
  rcases hn with ⟨rfl, rfl⟩ | ⟨rfl, rfl⟩ <;> cases s
  · exact keyed_24_false c h _ kind hk vk key w hkey hl1 ht g hg
  · exact keyed_24_true c h _ kind hk vk key w hkey hl1 ht g hg
  · exact keyed_32_false c h _ kind hk vk key w hkey hl1 ht g hg
  · exact keyed_32_true c h _ kind hk vk key w hkey hl1 ht g hg
set_option maxHeartbeats 1000000 in
theorem ksum_any (x : S5) (hw : x.wf) (kind : Nat) (hk : kind ≤ 4) (vk vm : Value) (key m : List UInt8) (w : World) (hkey : Sl w w.heap.size vk key) (hm : Sl w w.heap.size vm m) (ht : Tabs w) (hl1 : key.length ≤ 100000) (hl2 : m.length ≤ 100000) :
    Calls Tryd.prog 30 #[x.v, .int .u8 (kind : Int), vk, vm] w (SlIs w (sumK x kind key m)) := by
  unfold SlIs
  obtain ⟨A1, c1, rfl, _, _⟩ := hkey.form
  obtain ⟨A2, c2, rfl, _, _⟩ := hm.form
  have HM : Shh (∀ W, Calls Tryd.prog 47 #[x.v] W (OldIs (.bool x.ok) W)) := ⟨fun W => isSet_any x hw W⟩
  obtain ⟨W, hW⟩ : ∃ W, W = w.alloc (.cells #[.int .u32 x.c, .bool x.s, .int .i64 x.n, .int .i64 x.h, .int .i64 x.l] 24) := ⟨_, rfl⟩
  have HW : Shh (Row W w.heap.size 24 [.int .u32 x.c, .bool x.s, .int .i64 x.n, .int .i64 x.h, .int .i64 x.l] ∧ Sl W W.heap.size (.slice A1 key.length c1) key ∧ Sl W W.heap.size (.slice A2 m.length c2) m ∧ Tabs W ∧ Below w.heap.size w W) := by
    rw [hW]
    exact ⟨Row.new_ rfl rfl, hkey.go (below1 _ _), hm.go (below1 _ _), ht.go (below1 _ _), below1 _ _⟩
  clear hkey hm ht
  unfold S5.v at HM ⊢
  cases hok : x.ok with
  | false =>
    have HS : Shh (sumK x kind key m = []) := ⟨by unfold sumK; rw [hok]; rfl⟩
    rw [HS.out]
    rw [hok] at HM
    clear hok HS hw
    generalize x.c = xc at *
    generalize x.s = xs at *
    generalize x.n = xn at *
    generalize x.h = xh at *
    generalize x.l = xl at *
    go_enter Tryd.func30, Tryd.ntmps30
    go_wp2_with (first | (rw [← hW]; refine wpList_load_any rfl 24 (.tmp 4) rfl w.heap.size rfl 24 [.int .u32 xc, .bool xs, .int .i64 xn, .int .i64 xh, .int .i64 xl] _ HW.out.1 Tryd.underlying24 rfl info_xms ?_) | (go_at_call 47; refine (HM.out _).mono ?_))
    rw [← hW]
    unfold OldIs
    rintro e w2 ⟨rfl, b2⟩
    have HB : Shh (Below w.heap.size w w2) := ⟨Below.chain HW.out.2.2.2.2 b2⟩
    clear b2 HW hW HM
    go_wp2
    go_ret
    exact ⟨_, rfl, Sl.nil_, HB.out⟩
  | true =>
    have HK : Shh (∀ W, Sl W W.heap.size (.slice A1 key.length c1) key → Tabs W → w.heap.size < W.heap.size → Calls Tryd.prog 48 #[x.v, .int .u8 (kind : Int), .slice A1 key.length c1] W (KeyIs W w.heap.size x.s x.n kind key)) := ⟨fun W h1 h2 h3 => keyed_any x hok kind hk _ key W h1 hl1 h2 w.heap.size h3⟩
    have HS : Shh (sumK x kind key m = keyd x.s x.n kind key m) := ⟨by unfold sumK; rw [hok]; rfl⟩
    rw [HS.out]
    unfold S5.v at HK
    rw [hok] at HM
    clear hok hw HS
    generalize x.c = xc at *
    generalize x.s = xs at *
    generalize x.n = xn at *
    generalize x.h = xh at *
    generalize x.l = xl at *
    go_enter Tryd.func30, Tryd.ntmps30
    go_wp2_with (first | (rw [← hW]; refine wpList_load_any rfl 24 (.tmp 4) rfl w.heap.size rfl 24 [.int .u32 xc, .bool xs, .int .i64 xn, .int .i64 xh, .int .i64 xl] _ HW.out.1 Tryd.underlying24 rfl info_xms ?_) | (go_at_call 47; refine (HM.out _).mono ?_))
    rw [← hW]
    unfold OldIs
    rintro e w2 ⟨rfl, b2⟩
    have H2 : Shh (Row w2 w.heap.size 24 [.int .u32 xc, .bool xs, .int .i64 xn, .int .i64 xh, .int .i64 xl] ∧ Sl w2 w2.heap.size (.slice A1 key.length c1) key ∧ Sl w2 w2.heap.size (.slice A2 m.length c2) m ∧ Tabs w2 ∧ Below w.heap.size w w2) := ⟨HW.out.1.go b2, HW.out.2.1.go b2, HW.out.2.2.1.go b2, HW.out.2.2.2.1.go b2, Below.chain HW.out.2.2.2.2 b2⟩
    clear b2 HW hW HM
    go_wp2_with (first | refine wpList_load_any rfl 24 (.tmp 4) rfl w.heap.size rfl 24 [.int .u32 xc, .bool xs, .int .i64 xn, .int .i64 xh, .int .i64 xl] _ H2.out.1 Tryd.underlying24 rfl info_xms ?_ | (go_at_call 48; refine (HK.out _ H2.out.2.1 H2.out.2.2.2.1 H2.out.1.lt).mono ?_))
    unfold KeyIs
    rintro e w3 ⟨v3, rfl, k3, b3⟩
    obtain ⟨F, q1, q2, rfl, hcf, kf⟩ := k3
    have KF := Shh.mk kf
    have H3 : Shh (Sl w3 w3.heap.size (.slice A2 m.length c2) m ∧ Tabs w3 ∧ Below w.heap.size w w3) := ⟨H2.out.2.2.1.go b3, H2.out.2.2.2.1.go b3, Below.chain H2.out.2.2.2.2 b3⟩
    clear H2 b3 HK kf
    go_wp2_with (with_reducible show Calls Tryd.prog F _ _ _; refine (KF.out w3 _ m (But.refl _ _ _) H3.out.2.1 H3.out.1 hl2).mono ?_)
    unfold NewSl
    rintro e w4 ⟨v, rfl, s4, b4, _⟩
    have HR : Shh (Sl w4 w4.heap.size v (keyd xs xn kind key m) ∧ Below w.heap.size w w4) := ⟨s4, Below.chain H3.out.2.2 b4⟩
    clear H3 s4 b4 KF hcf
    go_wp2
    go_ret
    exact ⟨_, rfl, HR.out⟩
theorem F_any (x : S5) (hw : x.wf) (vk vm : Value) (key m : List UInt8) (w : World) (hkey : Sl w w.heap.size vk key) (hm : Sl w w.heap.size vm m) (ht : Tabs w) (hl1 : key.length ≤ 100000) (hl2 : m.length ≤ 100000) :
    Calls Tryd.prog 13 #[x.v, vk, vm] w (SlIs w (sumK x 0 key m)) := by
  unfold SlIs
  have HK : Shh (∀ W, Sl W W.heap.size vk key → Sl W W.heap.size vm m → Tabs W → Calls Tryd.prog 30 #[x.v, .int .u8 (0 : Int), vk, vm] W (SlIs W (sumK x 0 key m))) := ⟨fun W h1 h2 h3 => ksum_any x hw 0 (by decide) vk vm key m W h1 h2 h3 hl1 hl2⟩
  obtain ⟨A1, c1, rfl, _, _⟩ := hkey.form
  obtain ⟨A2, c2, rfl, _, _⟩ := hm.form
  obtain ⟨W, hW⟩ : ∃ W, W = w.alloc (.cells #[.int .u32 x.c, .bool x.s, .int .i64 x.n, .int .i64 x.h, .int .i64 x.l] 24) := ⟨_, rfl⟩
  have HW : Shh (Row W w.heap.size 24 [.int .u32 x.c, .bool x.s, .int .i64 x.n, .int .i64 x.h, .int .i64 x.l] ∧ Sl W W.heap.size (.slice A1 key.length c1) key ∧ Sl W W.heap.size (.slice A2 m.length c2) m ∧ Tabs W ∧ Below w.heap.size w W) := by
    rw [hW]
    exact ⟨Row.new_ rfl rfl, hkey.go (below1 _ _), hm.go (below1 _ _), ht.go (below1 _ _), below1 _ _⟩
  clear hkey hm ht
  unfold S5.v at HK ⊢
  generalize sumK x 0 key m = out at HK ⊢
  clear hw
  generalize x.c = xc at *
  generalize x.s = xs at *
  generalize x.n = xn at *
  generalize x.h = xh at *
  generalize x.l = xl at *
  go_enter Tryd.func13, Tryd.ntmps13
  go_wp2_with (first | (rw [← hW]; refine wpList_load_any rfl 24 (.tmp 3) rfl w.heap.size rfl 24 [.int .u32 xc, .bool xs, .int .i64 xn, .int .i64 xh, .int .i64 xl] _ HW.out.1 Tryd.underlying24 rfl info_xms ?_) | (go_at_call 30; rw [← hW]; refine (HK.out _ HW.out.2.1 HW.out.2.2.1 HW.out.2.2.2.1).mono ?_))
  clear hW
  unfold SlIs
  rintro e w2 ⟨v, rfl, s2, b2⟩
  have HR : Shh (Sl w2 w2.heap.size v out ∧ Below w.heap.size w w2) := ⟨s2, Below.chain HW.out.2.2.2.2 b2⟩
  clear HW s2 b2 HK
  go_wp2
  go_ret
  exact ⟨_, rfl, HR.out⟩
theorem H_any (x : S5) (hw : x.wf) (vk vm : Value) (key m : List UInt8) (w : World) (hkey : Sl w w.heap.size vk key) (hm : Sl w w.heap.size vm m) (ht : Tabs w) (hl1 : key.length ≤ 100000) (hl2 : m.length ≤ 100000) :
    Calls Tryd.prog 15 #[x.v, vk, vm] w (SlIs w (sumK x 1 key m)) := by
  unfold SlIs
  have HK : Shh (∀ W, Sl W W.heap.size vk key → Sl W W.heap.size vm m → Tabs W → Calls Tryd.prog 30 #[x.v, .int .u8 (1 : Int), vk, vm] W (SlIs W (sumK x 1 key m))) := ⟨fun W h1 h2 h3 => ksum_any x hw 1 (by decide) vk vm key m W h1 h2 h3 hl1 hl2⟩
  obtain ⟨A1, c1, rfl, _, _⟩ := hkey.form
  obtain ⟨A2, c2, rfl, _, _⟩ := hm.form
  obtain ⟨W, hW⟩ : ∃ W, W = w.alloc (.cells #[.int .u32 x.c, .bool x.s, .int .i64 x.n, .int .i64 x.h, .int .i64 x.l] 24) := ⟨_, rfl⟩
  have HW : Shh (Row W w.heap.size 24 [.int .u32 x.c, .bool x.s, .int .i64 x.n, .int .i64 x.h, .int .i64 x.l] ∧ Sl W W.heap.size (.slice A1 key.length c1) key ∧ Sl W W.heap.size (.slice A2 m.length c2) m ∧ Tabs W ∧ Below w.heap.size w W) := by
    rw [hW]
    exact ⟨Row.new_ rfl rfl, hkey.go (below1 _ _), hm.go (below1 _ _), ht.go (below1 _ _), below1 _ _⟩
  clear hkey hm ht
  unfold S5.v at HK ⊢
  generalize sumK x 1 key m = out at HK ⊢
  clear hw
  generalize x.c = xc at *
  generalize x.s = xs at *
  generalize x.n = xn at *
  generalize x.h = xh at *
  generalize x.l = xl at *
  go_enter Tryd.func15, Tryd.ntmps15
  go_wp2_with (first | (rw [← hW]; refine wpList_load_any rfl 24 (.tmp 3) rfl w.heap.size rfl 24 [.int .u32 xc, .bool xs, .int .i64 xn, .int .i64 xh, .int .i64 xl] _ HW.out.1 Tryd.underlying24 rfl info_xms ?_) | (go_at_call 30; rw [← hW]; refine (HK.out _ HW.out.2.1 HW.out.2.2.1 HW.out.2.2.2.1).mono ?_))
  clear hW
  unfold SlIs
  rintro e w2 ⟨v, rfl, s2, b2⟩
  have HR : Shh (Sl w2 w2.heap.size v out ∧ Below w.heap.size w w2) := ⟨s2, Below.chain HW.out.2.2.2.2 b2⟩
  clear HW s2 b2 HK
  go_wp2
  go_ret
  exact ⟨_, rfl, HR.out⟩
theorem HMsg_any (x : S5) (hw : x.wf) (vk vm : Value) (key m : List UInt8) (w : World) (hkey : Sl w w.heap.size vk key) (hm : Sl w w.heap.size vm m) (ht : Tabs w) (hl1 : key.length ≤ 100000) (hl2 : m.length ≤ 100000) :
    Calls Tryd.prog 16 #[x.v, vk, vm] w (SlIs w (sumK x 2 key m)) := by
  unfold SlIs
  have HK : Shh (∀ W, Sl W W.heap.size vk key → Sl W W.heap.size vm m → Tabs W → Calls Tryd.prog 30 #[x.v, .int .u8 (2 : Int), vk, vm] W (SlIs W (sumK x 2 key m))) := ⟨fun W h1 h2 h3 => ksum_any x hw 2 (by decide) vk vm key m W h1 h2 h3 hl1 hl2⟩
  obtain ⟨A1, c1, rfl, _, _⟩ := hkey.form
  obtain ⟨A2, c2, rfl, _, _⟩ := hm.form
  obtain ⟨W, hW⟩ : ∃ W, W = w.alloc (.cells #[.int .u32 x.c, .bool x.s, .int .i64 x.n, .int .i64 x.h, .int .i64 x.l] 24) := ⟨_, rfl⟩
  have HW : Shh (Row W w.heap.size 24 [.int .u32 x.c, .bool x.s, .int .i64 x.n, .int .i64 x.h, .int .i64 x.l] ∧ Sl W W.heap.size (.slice A1 key.length c1) key ∧ Sl W W.heap.size (.slice A2 m.length c2) m ∧ Tabs W ∧ Below w.heap.size w W) := by
    rw [hW]
    exact ⟨Row.new_ rfl rfl, hkey.go (below1 _ _), hm.go (below1 _ _), ht.go (below1 _ _), below1 _ _⟩
  clear hkey hm ht
  unfold S5.v at HK ⊢
  generalize sumK x 2 key m = out at HK ⊢
  clear hw
  generalize x.c = xc at *
  generalize x.s = xs at *
  generalize x.n = xn at *
  generalize x.h = xh at *
  generalize x.l = xl at *
  go_enter Tryd.func16, Tryd.ntmps16
  go_wp2_with (first | (rw [← hW]; refine wpList_load_any rfl 24 (.tmp 3) rfl w.heap.size rfl 24 [.int .u32 xc, .bool xs, .int .i64 xn, .int .i64 xh, .int .i64 xl] _ HW.out.1 Tryd.underlying24 rfl info_xms ?_) | (go_at_call 30; rw [← hW]; refine (HK.out _ HW.out.2.1 HW.out.2.2.1 HW.out.2.2.2.1).mono ?_))
  clear hW
  unfold SlIs
  rintro e w2 ⟨v, rfl, s2, b2⟩
  have HR : Shh (Sl w2 w2.heap.size v out ∧ Below w.heap.size w w2) := ⟨s2, Below.chain HW.out.2.2.2.2 b2⟩
  clear HW s2 b2 HK
  go_wp2
  go_ret
  exact ⟨_, rfl, HR.out⟩
theorem Prf_any (x : S5) (hw : x.wf) (vk vm : Value) (key m : List UInt8) (w : World) (hkey : Sl w w.heap.size vk key) (hm : Sl w w.heap.size vm m) (ht : Tabs w) (hl1 : key.length ≤ 100000) (hl2 : m.length ≤ 100000) :
    Calls Tryd.prog 17 #[x.v, vk, vm] w (SlIs w (sumK x 3 key m)) := by
  unfold SlIs
  have HK : Shh (∀ W, Sl W W.heap.size vk key → Sl W W.heap.size vm m → Tabs W → Calls Tryd.prog 30 #[x.v, .int .u8 (3 : Int), vk, vm] W (SlIs W (sumK x 3 key m))) := ⟨fun W h1 h2 h3 => ksum_any x hw 3 (by decide) vk vm key m W h1 h2 h3 hl1 hl2⟩
  obtain ⟨A1, c1, rfl, _, _⟩ := hkey.form
  obtain ⟨A2, c2, rfl, _, _⟩ := hm.form
  obtain ⟨W, hW⟩ : ∃ W, W = w.alloc (.cells #[.int .u32 x.c, .bool x.s, .int .i64 x.n, .int .i64 x.h, .int .i64 x.l] 24) := ⟨_, rfl⟩
  have HW : Shh (Row W w.heap.size 24 [.int .u32 x.c, .bool x.s, .int .i64 x.n, .int .i64 x.h, .int .i64 x.l] ∧ Sl W W.heap.size (.slice A1 key.length c1) key ∧ Sl W W.heap.size (.slice A2 m.length c2) m ∧ Tabs W ∧ Below w.heap.size w W) := by
    rw [hW]
    exact ⟨Row.new_ rfl rfl, hkey.go (below1 _ _), hm.go (below1 _ _), ht.go (below1 _ _), below1 _ _⟩
  clear hkey hm ht
  unfold S5.v at HK ⊢
  generalize sumK x 3 key m = out at HK ⊢
  clear hw
  generalize x.c = xc at *
  generalize x.s = xs at *
  generalize x.n = xn at *
  generalize x.h = xh at *
  generalize x.l = xl at *
  go_enter Tryd.func17, Tryd.ntmps17
  go_wp2_with (first | (rw [← hW]; refine wpList_load_any rfl 24 (.tmp 3) rfl w.heap.size rfl 24 [.int .u32 xc, .bool xs, .int .i64 xn, .int .i64 xh, .int .i64 xl] _ HW.out.1 Tryd.underlying24 rfl info_xms ?_) | (go_at_call 30; rw [← hW]; refine (HK.out _ HW.out.2.1 HW.out.2.2.1 HW.out.2.2.2.1).mono ?_))
  clear hW
  unfold SlIs
  rintro e w2 ⟨v, rfl, s2, b2⟩
  have HR : Shh (Sl w2 w2.heap.size v out ∧ Below w.heap.size w w2) := ⟨s2, Below.chain HW.out.2.2.2.2 b2⟩
  clear HW s2 b2 HK
  go_wp2
  go_ret
  exact ⟨_, rfl, HR.out⟩
theorem PrfKeygen_any (x : S5) (hw : x.wf) (vk vm : Value) (key m : List UInt8) (w : World) (hkey : Sl w w.heap.size vk key) (hm : Sl w w.heap.size vm m) (ht : Tabs w) (hl1 : key.length ≤ 100000) (hl2 : m.length ≤ 100000) :
    Calls Tryd.prog 18 #[x.v, vk, vm] w (SlIs w (sumK x 4 key m)) := by
  unfold SlIs
  have HK : Shh (∀ W, Sl W W.heap.size vk key → Sl W W.heap.size vm m → Tabs W → Calls Tryd.prog 30 #[x.v, .int .u8 (4 : Int), vk, vm] W (SlIs W (sumK x 4 key m))) := ⟨fun W h1 h2 h3 => ksum_any x hw 4 (by decide) vk vm key m W h1 h2 h3 hl1 hl2⟩
  obtain ⟨A1, c1, rfl, _, _⟩ := hkey.form
  obtain ⟨A2, c2, rfl, _, _⟩ := hm.form
  obtain ⟨W, hW⟩ : ∃ W, W = w.alloc (.cells #[.int .u32 x.c, .bool x.s, .int .i64 x.n, .int .i64 x.h, .int .i64 x.l] 24) := ⟨_, rfl⟩
  have HW : Shh (Row W w.heap.size 24 [.int .u32 x.c, .bool x.s, .int .i64 x.n, .int .i64 x.h, .int .i64 x.l] ∧ Sl W W.heap.size (.slice A1 key.length c1) key ∧ Sl W W.heap.size (.slice A2 m.length c2) m ∧ Tabs W ∧ Below w.heap.size w W) := by
    rw [hW]
    exact ⟨Row.new_ rfl rfl, hkey.go (below1 _ _), hm.go (below1 _ _), ht.go (below1 _ _), below1 _ _⟩
  clear hkey hm ht
  unfold S5.v at HK ⊢
  generalize sumK x 4 key m = out at HK ⊢
  clear hw
  generalize x.c = xc at *
  generalize x.s = xs at *
  generalize x.n = xn at *
  generalize x.h = xh at *
  generalize x.l = xl at *
  go_enter Tryd.func18, Tryd.ntmps18
  go_wp2_with (first | (rw [← hW]; refine wpList_load_any rfl 24 (.tmp 3) rfl w.heap.size rfl 24 [.int .u32 xc, .bool xs, .int .i64 xn, .int .i64 xh, .int .i64 xl] _ HW.out.1 Tryd.underlying24 rfl info_xms ?_) | (go_at_call 30; rw [← hW]; refine (HK.out _ HW.out.2.1 HW.out.2.2.1 HW.out.2.2.2.1).mono ?_))
  clear hW
  unfold SlIs
  rintro e w2 ⟨v, rfl, s2, b2⟩
  have HR : Shh (Sl w2 w2.heap.size v out ∧ Below w.heap.size w w2) := ⟨s2, Below.chain HW.out.2.2.2.2 b2⟩
  clear HW s2 b2 HK
  go_wp2
  go_ret
  exact ⟨_, rfl, HR.out⟩
set_option maxHeartbeats 1000000 in
theorem of_any (g : Nat) (v : Value) (s : Bool) (n : Int) (kind : Nat) (key : List UInt8) (a : List UInt32) (ha : a.length = 8) (w : World) (hk : KeyAt w g v s n kind key) (ht : Tabs w) :
    Calls Tryd.prog 52 #[v, adrV a] w (NewSl w (keyd s n kind key (adrB a))) := by
  unfold NewSl
  obtain ⟨F, q1, q2, rfl, hcf, kf⟩ := hk
  have KF := Shh.mk kf
  have HB : Shh ((∀ W, Calls Tryd.prog 11 #[adrV a] W (SumIs W (adrB a))) ∧ (adrB a).length = 32) := ⟨fun W => bytes_any a ha W, by rw [adrB_length, ha]⟩
  have HA : Shh ((wordCells a).length = 8) := ⟨by rw [wordCells_length]; exact ha⟩
  obtain ⟨W, hW⟩ : ∃ W, W = w.alloc (.cells (wordCells a).toArray 27) := ⟨_, rfl⟩
  have HW : Shh (Row W w.heap.size 27 (wordCells a) ∧ Tabs W ∧ Below w.heap.size w W) := by
    rw [hW]
    exact ⟨Row.new_ rfl rfl, ht.go (below1 _ _), below1 _ _⟩
  clear kf ht
  unfold adrV at HB ⊢
  generalize wordCells a = L at HB HA HW hW ⊢
  generalize adrB a = ob at HB KF ⊢
  go_enter Tryd.func52, Tryd.ntmps52
  go_wp2_with (first | (rw [← hW]; refine wpList_load_any rfl 27 (.tmp 3) rfl w.heap.size rfl 27 L _ HW.out.1 Tryd.underlying27 rfl (info_adr10 HA.out) ?_) | (go_at_call 11; rw [← hW]; refine (HB.out.1 _).mono ?_))
  clear hW
  unfold SumIs
  rintro e w2 ⟨rfl, b2⟩
  have H2 : Shh (Tabs w2 ∧ Below w.heap.size w w2) := ⟨HW.out.2.1.go b2, Below.chain HW.out.2.2 b2⟩
  clear HW b2
  obtain ⟨G, hG⟩ : ∃ G, Shh (G = w2.heap.size) := ⟨_, ⟨rfl⟩⟩
  go_wp2_with (refine wpList_store_any rfl 30 (.tmp 5) (.tmp 7) rfl G (by rw [hG.out]; rfl) (Lib.byteCells ob) rfl 30 _ (Row.new_ hG.out zero32b) (info_b32.trans (size_bytes _ _ HB.out.2)) (by rw [Lib.byteCells_length, Lib.byteCells_length, HB.out.2]; rfl) (cell_oneCell _) ?_)
  intro Z hr bt zt
  have H3 : Shh (Tabs Z ∧ Row Z G 30 (Lib.byteCells ob) ∧ Below w.heap.size w Z ∧ ob.length = 32) := by
    have q1 := H2.out.2.size
    have q3 := hG.out
    have bz : Below w2.heap.size w2 Z := (below1 w2 _).trans (bt.under (by first | omega | (rw [asz]; omega)) (by omega))
    exact ⟨H2.out.1.go bz, hr, Below.chain H2.out.2 bz, HB.out.2⟩
  rw [← hG.out]
  clear hr bt zt H2 hG HB
  go_wp2_with (with_reducible show Calls Tryd.prog F _ _ _; refine (KF.out Z _ ob (But.of H3.out.2.2.1 g) H3.out.1 (H3.out.2.1.sl H3.out.2.2.2 (by decide)) (by rw [H3.out.2.2.2]; decide)).mono ?_)
  unfold NewSl
  rintro e w4 ⟨v, rfl, s4, b4, o4⟩
  have HR : Shh (Sl w4 w4.heap.size v (keyd s n kind key ob) ∧ Below w.heap.size w w4 ∧ ∀ g, g < w.heap.size → Off g v) := ⟨s4, Below.chain H3.out.2.2.1 b4, fun g hg => o4 g (Nat.lt_of_lt_of_le hg H3.out.2.2.1.size)⟩
  clear H3 s4 b4 o4 KF hcf
  go_wp2
  go_ret
  exact ⟨_, rfl, HR.out⟩
set_option maxHeartbeats 1000000 in
theorem check_any (x : S5) (hw : x.wf) (v : Value) (bss : List (List UInt8)) (B g : Nat) (w : World) (hp : PartsO w B g v bss) (hB : B ≤ w.heap.size) (hn : bss.length ≤ 1000000) :
    Calls Tryd.prog 35 #[x.v, v] w (OldIs (.int .i64 (badE x bss)) w) := by
  unfold OldIs
  obtain ⟨A, c, rfl⟩ := hp.form
  have HM : Shh (∀ W, Calls Tryd.prog 47 #[x.v] W (OldIs (.bool x.ok) W)) := ⟨fun W => isSet_any x hw W⟩
  unfold S5.v at HM ⊢
  have HP := Shh.mk hp
  clear hp
  have HW : Shh (Row (w.alloc (.cells #[.int .u32 x.c, .bool x.s, .int .i64 x.n, .int .i64 x.h, .int .i64 x.l] 24)) w.heap.size 24 [.int .u32 x.c, .bool x.s, .int .i64 x.n, .int .i64 x.h, .int .i64 x.l] ∧ Below w.heap.size w (w.alloc (.cells #[.int .u32 x.c, .bool x.s, .int .i64 x.n, .int .i64 x.h, .int .i64 x.l] 24))) := ⟨Row.new_ rfl rfl, below1 _ _⟩
  cases hok : x.ok with
  | false =>
    have HE : Shh (badE x bss = 60) := ⟨by unfold badE; rw [hok]; rfl⟩
    rw [HE.out]
    rw [hok] at HM
    clear hok HE hw
    generalize x.c = xc at *
    generalize x.s = xs at *
    generalize x.n = xn at *
    generalize x.h = xh at *
    generalize x.l = xl at *
    go_enter Tryd.func35, Tryd.ntmps35
    go_wp2_with (go_at_call 47; refine (HM.out _).mono ?_)
    unfold OldIs
    rintro e w2 ⟨rfl, b2⟩
    have HB := Shh.mk (Below.chain HW.out.2 b2)
    clear b2 HW HM
    go_wp2
    go_ret
    exact ⟨rfl, HB.out⟩
  | true =>
    obtain ⟨E, hE⟩ : ∃ E, E = badE x bss := ⟨_, rfl⟩
    rw [← hE]
    have HE : Shh (E = if bss.all (fun b => decide ((b.length : Int) = x.n)) then 0 else 1) := ⟨by rw [hE]; unfold badE; rw [hok]; rfl⟩
    rw [hok] at HM
    clear hok hE hw
    generalize x.c = xc at *
    generalize x.s = xs at *
    generalize x.n = xn at *
    generalize x.h = xh at *
    generalize x.l = xl at *
    go_enter Tryd.func35, Tryd.ntmps35
    go_wp2_with (go_at_call 47; refine (HM.out _).mono ?_)
    unfold OldIs
    rintro e w2 ⟨rfl, b2⟩
    have H2 : Shh (Row w2 w.heap.size 24 [.int .u32 xc, .bool xs, .int .i64 xn, .int .i64 xh, .int .i64 xl] ∧ Below w.heap.size w w2) := ⟨HW.out.1.go b2, Below.chain HW.out.2 b2⟩
    clear b2 HW HM
    go_wp2
    go_loopw [12] (fun i wr => ∃ k : Nat, k ≤ bss.length ∧ i = .int .i64 (k : Int) ∧ Shh (Row wr w.heap.size 24 [.int .u32 xc, .bool xs, .int .i64 xn, .int .i64 xh, .int .i64 xl] ∧ Below w.heap.size w wr ∧ ∀ j (h : j < bss.length), j < k → (bss[j].length : Int) = xn)) (fun i _ => bss.length - (intOf i).toNat)
    case atStart => exact ⟨0, Nat.zero_le _, rfl, ⟨H2.out.1, H2.out.2, fun _ _ h => absurd h (Nat.not_lt_zero _)⟩⟩
    case round =>
      clear H2
      obtain ⟨k, hk, rfl, HL⟩ := hrel
      by_cases hlt : k < bss.length
      · obtain ⟨q, off, rfl, hq, hqg, hcc⟩ := HP.out.at_ (by omega)
        obtain ⟨u, hcu, hsu, _⟩ := hcc k hlt
        obtain ⟨Au, cu, rfl, _, _⟩ := hsu.form
        have hcx := (HL.out.2.1.cell (p := ⟨q, off + k, none⟩) (show q < w.heap.size by omega)).trans hcu
        have e2 := HL.out.1.cell 2
        simp only [List.getElem?_cons_succ, List.getElem?_cons_zero] at e2
        have HX : Shh (bss[k] ∈ bss ∧ ∀ j (h : j < bss.length), j < k + 1 → (bss[k].length : Int) = xn → (bss[j].length : Int) = xn) := ⟨List.getElem_mem hlt, fun j hj hjk he => by
          by_cases e : j = k
          · subst e; exact he
          · exact HL.out.2.2 j hj (by omega)⟩
        clear hcu hsu hcc
        obtain ⟨ln, hln⟩ : ∃ ln, ln = bss[k].length := ⟨_, rfl⟩
        have HLN := Shh.mk hln
        rw [← hln] at hcx
        clear hln
        by_cases heq : (ln : Int) = xn
        · have hne : ((ln : Int) != xn) = false := by simp [heq]
          have HR : Shh (Row wr w.heap.size 24 [.int .u32 xc, .bool xs, .int .i64 xn, .int .i64 xh, .int .i64 xl] ∧ Below w.heap.size w wr ∧ ∀ j (h : j < bss.length), j < k + 1 → (bss[j].length : Int) = xn) := ⟨HL.out.1, HL.out.2.1, fun j hj hjk => HX.out.2 j hj hjk (by rw [← HLN.out]; exact heq)⟩
          clear heq HL HX HLN
          go_wp2
          go_round
          case rel => exact ⟨k + 1, by omega, by go_num, ⟨HR.out.1, HR.out.2.1, HR.out.2.2⟩⟩
          case measure => simp [intOf]; omega
        · have hne : ((ln : Int) != xn) = true := by simp [heq]
          have HR : Shh (E = 1 ∧ Below w.heap.size w wr) := ⟨by
            rw [HE.out, if_neg]
            intro hh
            exact heq (by rw [HLN.out]; exact of_decide_eq_true (List.all_eq_true.1 hh _ HX.out.1)), HL.out.2.1⟩
          clear heq HL HX HLN HE
          go_wp2
          go_ret
          exact ⟨by rw [HR.out.1]; rfl, HR.out.2⟩
      · obtain rfl : k = bss.length := by omega
        have HR : Shh (E = 0 ∧ Below w.heap.size w wr) := ⟨by
          rw [HE.out, if_pos]
          rw [List.all_eq_true]
          intro b hb
          obtain ⟨j, hj, rfl⟩ := List.getElem_of_mem hb
          exact decide_eq_true (HL.out.2.2 j hj hj), HL.out.2.1⟩
        clear HL HE
        go_wp2
        go_ret
        exact ⟨by rw [HR.out.1]; rfl, HR.out.2⟩
theorem digits_any (v : Value) (bs : List UInt8) (w : World) (hs : Sl w w.heap.size v bs) (hl : bs.length ≤ 100000) : Calls Tryd.prog 36 #[v] w (IntsIs w (dig10 bs)) := by
  unfold IntsIs
  obtain ⟨i0, hi, hz0, hz1, hz2⟩ := info_parts info_int
  obtain ⟨A, c, rfl, _, hcm⟩ := hs.form
  have HS := Shh.mk hs
  clear hs
  have HW : Shh (OwnI w w.heap.size (.slice none 0 0) [] ∧ Below w.heap.size w w) := ⟨OwnI.nil _ _, Below.refl _ _⟩
  go_enter Tryd.func36, Tryd.ntmps36
  go_wp2
  go_loopw [3, 4, 11] (fun o s i wr => ∃ k q : Nat, k ≤ bs.length ∧ q ≤ 30 * k ∧ s = .int .i64 (q : Int) ∧ i = .int .i64 (k : Int) ∧ Shh (q = csL (bs.take k) ∧ OwnI wr w.heap.size o (hxL (bs.take k)) ∧ Below w.heap.size w wr)) (fun _ _ i _ => bs.length - (intOf i).toNat)
  case atStart => exact ⟨0, 0, Nat.zero_le _, Nat.zero_le _, rfl, rfl, ⟨rfl, HW.out⟩⟩
  case round =>
    clear HW
    obtain ⟨k, q, hk, hq, rfl, rfl, HL⟩ := hrel
    by_cases hlt : k < bs.length
    · obtain ⟨g, off, rfl, hg, hcc⟩ := HS.out.at_ (by omega)
      have hcx := (HL.out.2.2.cell (p := ⟨g, off + k, none⟩) hg).trans (hcc k hlt)
      clear hcc
      have HX : Shh (hxL (bs.take (k + 1)) = hxL (bs.take k) ++ [bs[k].toNat / 16, bs[k].toNat % 16] ∧ csL (bs.take (k + 1)) = q + (30 - bs[k].toNat / 16 - bs[k].toNat % 16)) := ⟨hxL_take bs k hlt, by rw [csL_take bs k hlt, HL.out.1]⟩
      generalize bs[k] = x at hcx HX
      have hx := x.toNat_lt
      obtain ⟨h4, hh4⟩ : ∃ h4, h4 = x.toNat / 16 := ⟨_, rfl⟩
      obtain ⟨l4, hl4⟩ : ∃ l4, l4 = x.toNat % 16 := ⟨_, rfl⟩
      have eh : (x.toNat : Int) / 16 = (h4 : Int) := by omega
      have el : (x.toNat : Int) % 16 = (l4 : Int) := by omega
      have bh : h4 ≤ 15 ∧ l4 ≤ 15 := by omega
      rw [← hh4, ← hl4] at HX
      clear hh4 hl4
      have H2 : Shh (OwnI wr w.heap.size u3 (hxL (bs.take k)) ∧ Below w.heap.size w wr) := ⟨HL.out.2.1, HL.out.2.2⟩
      obtain ⟨W, hW⟩ : ∃ W, W = wr := ⟨_, rfl⟩
      rw [← hW] at H2
      subst hW
      clear HL
      have H3 : Shh (OwnI (W.alloc (.cells #[.int .i64 (h4 : Int), .int .i64 (l4 : Int)] 3)) w.heap.size u3 (hxL (bs.take k)) ∧ Below w.heap.size w (W.alloc (.cells #[.int .i64 (h4 : Int), .int .i64 (l4 : Int)] 3)) ∧ Row (W.alloc (.cells #[.int .i64 (h4 : Int), .int .i64 (l4 : Int)] 3)) W.heap.size 3 (intCells [h4, l4]) ∧ (hxL (bs.take k)).length ≤ 200000) := ⟨H2.out.1.go (below1 _ _), Below.chain H2.out.2 (below1 _ _), Row.new_ rfl rfl, by rw [hxL_length, List.length_take]; omega⟩
      go_wp2_with (at_builtin; refine wp_appendI _ 37 3 i0 (.int .i64 0) Tryd.underlying37 hi hz0 hz1 hz2 rfl rfl _ _ rfl (us := intCells [h4, l4]) H3.out.1 rfl rfl rfl (fun j u hu => (H3.out.2.2.1.cell j).trans hu) (intCells_one _) (by have := H3.out.2.2.2; omega) H3.out.2.1.size ?_)
      intro v' w1 hown' hbl
      have H4 : Shh (OwnI w1 w.heap.size v' (hxL (bs.take (k + 1))) ∧ Below w.heap.size w w1) := ⟨by rw [HX.out.1]; exact OwnI.join hown', H3.out.2.1.trans (hbl _ (Nat.le_refl _))⟩
      have HQ : Shh (q + (30 - h4 - l4) = csL (bs.take (k + 1))) := ⟨HX.out.2.symm⟩
      clear hown' hbl H3 H2 HX
      go_wp2
      go_roundw
      case rel => exact ⟨k + 1, q + (30 - h4 - l4), by omega, by omega, by go_num, by go_num, HQ.out, H4.out⟩
      case measure => simp [intOf]; omega
    · obtain rfl : k = bs.length := by omega
      have HQ : Shh (q = csL bs ∧ OwnI wr w.heap.size u3 (hxL bs) ∧ Below w.heap.size w wr) := by
        have h := HL.out
        rw [List.take_length] at h
        exact ⟨h⟩
      clear HL
      obtain ⟨d1, hd1⟩ : ∃ d, d = q / 256 := ⟨_, rfl⟩
      obtain ⟨d2, hd2⟩ : ∃ d, d = q / 16 % 16 := ⟨_, rfl⟩
      obtain ⟨d3, hd3⟩ : ∃ d, d = q % 16 := ⟨_, rfl⟩
      have HD : Shh (dig10 bs = hxL bs ++ [d1, d2, d3]) := ⟨by unfold dig10; rw [← HQ.out.1, hd1, hd2, hd3]⟩
      have e1 : (q : Int) / 16 / 16 = (d1 : Int) := by omega
      have e2 : (q : Int) / 16 % 16 = (d2 : Int) := by omega
      have e3 : (q : Int) % 16 = (d3 : Int) := by omega
      clear hd1 hd2 hd3
      have H3 : Shh (OwnI (wr.alloc (.cells #[.int .i64 (d1 : Int), .int .i64 (d2 : Int), .int .i64 (d3 : Int)] 3)) w.heap.size u3 (hxL bs) ∧ Below w.heap.size w (wr.alloc (.cells #[.int .i64 (d1 : Int), .int .i64 (d2 : Int), .int .i64 (d3 : Int)] 3)) ∧ Row (wr.alloc (.cells #[.int .i64 (d1 : Int), .int .i64 (d2 : Int), .int .i64 (d3 : Int)] 3)) wr.heap.size 3 (intCells [d1, d2, d3]) ∧ (hxL bs).length ≤ 200000) := ⟨HQ.out.2.1.go (below1 _ _), Below.chain HQ.out.2.2 (below1 _ _), Row.new_ rfl rfl, by rw [hxL_length]; omega⟩
      go_wp2_with (at_builtin; refine wp_appendI _ 37 3 i0 (.int .i64 0) Tryd.underlying37 hi hz0 hz1 hz2 rfl rfl _ _ rfl (us := intCells [d1, d2, d3]) H3.out.1 rfl rfl rfl (fun j u hu => (H3.out.2.2.1.cell j).trans hu) (intCells_one _) (by have := H3.out.2.2.2; omega) H3.out.2.1.size ?_)
      intro v' w1 hown' hbl
      have H4 : Shh (OwnI w1 w.heap.size v' (dig10 bs) ∧ Below w.heap.size w w1) := ⟨by rw [HD.out]; exact OwnI.join hown', H3.out.2.1.trans (hbl _ (Nat.le_refl _))⟩
      clear hown' hbl H3 HQ
      go_wp2
      go_ret
      exact ⟨_, rfl, H4.out⟩
end Go.Proofs.YtobbbljnkdfkeaaDoor
