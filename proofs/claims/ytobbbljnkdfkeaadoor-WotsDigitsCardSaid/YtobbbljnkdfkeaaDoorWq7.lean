/-
  THE PROGRAM'S OWN starter, Digits.
-/
import Derived.Test.YtobbbljnkdfkeaaDoorWq6
namespace Go.Proofs.YtobbbljnkdfkeaaDoor
open Go.RowKit
set_option maxRecDepth 100000
set_option maxHeartbeats 1000000 in
theorem starter_any (x : S5) (hx : x.ok = true) (vk vs : Value) (sk seed : List UInt8) (w : World) (hk : Sl w w.heap.size vk sk) (hkl : sk.length ≤ 100000) (hs : Sl w w.heap.size vs seed) (hl : seed.length ≤ 50000) (ht : Tabs w) (g : Nat) (hg : g < w.heap.size) (hog : Off g vs) :
    Calls Tryd.prog 42 #[x.v, vk, vs] w (StarterIs w g x sk seed) := by
  unfold StarterIs
  have hmf : ∀ (fn : Fn) (first cap : Array Value) (w : World), (Instr.makeFunc fn first cap).run Tryd.prog w = .ok (.func fn first cap) w := fun _ _ _ _ => rfl
  have HKY : Shh (∀ (W : World), Sl W W.heap.size vk sk → Tabs W → g < W.heap.size → Calls Tryd.prog 48 #[x.v, .int .u8 4, vk] W (KeyIs W g x.s x.n 4 sk)) := ⟨fun W h1 h2 h3 => keyed_any x hx 4 (by decide) vk sk W h1 hkl h2 g h3⟩
  obtain ⟨X, hX⟩ : ∃ X, X = x := ⟨_, rfl⟩
  have HF2 : Shh (∀ (pg ps : Nat) (vg : Value) (w : World), pg ≠ g → ps ≠ g → Row w pg 71 [vg] → Row w ps 25 [vs] → KeyAt w g vg x.s x.n 4 sk → Sl w w.heap.size vs seed → StartAt w g (.func (.func 55) #[] #[.pointer (some ⟨pg, 0, none⟩), .pointer (some ⟨ps, 0, none⟩)]) X sk seed) := ⟨fun pg ps vg w n1 n2 h1 h2 h3 h4 => by
    rw [hX]
    exact ⟨_, _, _, rfl, fun _ _ => by kernel_rfl, fun W a hb hT ha => starter1_any x.s x.n g pg ps vg vs sk seed a ha W (hb.row h1 h1.lt n1) (hb.row h2 h2.lt n2) (h3.but hb) ((h4.but hog hb).more hb.size) hl hT⟩⟩
  have HG : Shh (∀ e w', (∃ v, e = Ending.returned v ∧ StartAt w' g v X sk seed ∧ Below w.heap.size w w') → (∃ v, e = Ending.returned v ∧ StartAt w' g v x sk seed ∧ Below w.heap.size w w')) := by rw [hX]; exact ⟨fun _ _ h => h⟩
  refine Calls.mono (R := fun e w' => ∃ v, e = Ending.returned v ∧ StartAt w' g v X sk seed ∧ Below w.heap.size w w') ?_ HG.out
  clear HG hX
  obtain ⟨Ak, ck, rfl, _, _⟩ := hk.form
  obtain ⟨As, cs, rfl, _, _⟩ := hs.form
  obtain ⟨W, hW⟩ : ∃ W, W = (w.alloc (.cells #[.int .u32 x.c, .bool x.s, .int .i64 x.n, .int .i64 x.h, .int .i64 x.l] 24)).alloc (.cells #[.slice As seed.length cs] 25) := ⟨_, rfl⟩
  have HW : Shh (Row W w.heap.size 24 [.int .u32 x.c, .bool x.s, .int .i64 x.n, .int .i64 x.h, .int .i64 x.l] ∧ Row W (w.heap.size + 1) 25 [.slice As seed.length cs] ∧ Sl W W.heap.size (.slice Ak sk.length ck) sk ∧ Sl W W.heap.size (.slice As seed.length cs) seed ∧ Tabs W ∧ Below w.heap.size w W) := by
    rw [hW]
    exact ⟨(Row.new_ rfl rfl).alloc _, Row.new_ (by rw [asz]) rfl, (hk.go (below1 _ _)).go (below1 _ _), (hs.go (below1 _ _)).go (below1 _ _), (ht.go (below1 _ _)).go (below1 _ _), Below.chain (below1 _ _) (below1 _ _)⟩
  clear hs hk hx ht
  unfold S5.v at HKY ⊢
  generalize x.c = xc at *
  generalize x.s = xs at *
  generalize x.n = xn at *
  generalize x.h = xh at *
  generalize x.l = xl at *
  go_enter Tryd.func42, Tryd.ntmps42
  go_wp2_with (first | (rw [← hW]; refine wpList_load_any rfl 24 (.tmp 3) rfl w.heap.size rfl 24 [.int .u32 xc, .bool xs, .int .i64 xn, .int .i64 xh, .int .i64 xl] _ HW.out.1 Tryd.underlying24 rfl info_xms ?_) | (go_at_call 48; rw [← hW]; refine (HKY.out _ HW.out.2.2.1 HW.out.2.2.2.2.1 (Nat.lt_of_lt_of_le hg HW.out.2.2.2.2.2.size)).mono ?_))
  clear hW
  unfold KeyIs
  rintro e w2 ⟨vp, rfl, k2, b2⟩
  obtain ⟨Z, hZ⟩ : ∃ Z, Z = w2.alloc (.cells #[vp] 71) := ⟨_, rfl⟩
  have HR : Shh (StartAt Z g (.func (.func 55) #[] #[.pointer (some ⟨w2.heap.size, 0, none⟩), .pointer (some ⟨w.heap.size + 1, 0, none⟩)]) X sk seed ∧ Below w.heap.size w Z) := by
    have bz : Below w2.heap.size w2 Z := by rw [hZ]; exact below1 _ _
    have q0 := (Below.chain HW.out.2.2.2.2.2 b2).size
    exact ⟨HF2.out w2.heap.size (w.heap.size + 1) vp Z (by omega) (by omega) (by rw [hZ]; exact Row.new_ rfl rfl) ((HW.out.2.1.go b2).go bz) (k2.go bz) ((HW.out.2.2.2.1.go b2).go bz), Below.chain (Below.chain HW.out.2.2.2.2.2 b2) bz⟩
  obtain ⟨F, q1, q2, rfl, _, _⟩ := k2
  clear HW b2 HKY HF2
  go_wp2
  rw [← hZ]
  go_ret
  exact ⟨_, rfl, HR.out⟩
theorem badE_len {x : S5} {bss : List (List UInt8)} (h : badE x bss = 0) {b : List UInt8} (hb : b ∈ bss) : b.length ≤ 32 := by
  obtain ⟨hx, hall⟩ := badE_ok h
  have h1 := hall b hb
  rcases ok_n hx with h2 | h2 <;> omega
set_option maxHeartbeats 1000000 in
theorem Digits_any (x : S5) (hw : x.wf) (vm : Value) (m : List UInt8) (w : World) (hm : Sl w w.heap.size vm m) :
    Calls Tryd.prog 20 #[x.v, vm] w (ResI w (badE x [m]) (askD x m)) := by
  unfold ResI
  obtain ⟨Am, cm, rfl, _, _⟩ := hm.form
  have HC : Shh (∀ (v : Value) (B : Nat) W, PartsO W B B v [m] → B ≤ W.heap.size → Calls Tryd.prog 35 #[x.v, v] W (OldIs (.int .i64 (badE x [m])) W)) := ⟨fun v B W h hB => check_any x hw v [m] B B W h hB (by simp)⟩
  have HD : Shh (badE x [m] = 0 → ∀ W, Sl W W.heap.size (.slice Am m.length cm) m → Calls Tryd.prog 36 #[.slice Am m.length cm] W (IntsIs W (dig10 m))) := ⟨fun h W hs => digits_any _ m W hs (by have := badE_len h (List.mem_cons_self ..); omega)⟩
  have HE : Shh ((badE x [m] = 0 → askD x m = dig10 m) ∧ (badE x [m] ≠ 0 → askD x m = [])) := ⟨fun h => by unfold askD; rw [if_pos h], fun h => by unfold askD; rw [if_neg h]⟩
  generalize badE x [m] = er at HC HD HE ⊢
  generalize askD x m = l at HE ⊢
  obtain ⟨W, hW⟩ : ∃ W, W = (w.alloc (.cells #[.int .u32 x.c, .bool x.s, .int .i64 x.n, .int .i64 x.h, .int .i64 x.l] 24)).alloc (.cells #[.slice Am m.length cm] 25) := ⟨_, rfl⟩
  have HW : Shh (Sl W W.heap.size (.slice Am m.length cm) m ∧ PartsO W (w.heap.size + 2) (w.heap.size + 2) (.slice (some ⟨w.heap.size + 1, 0, none⟩) 1 1) [m] ∧ w.heap.size + 2 ≤ W.heap.size ∧ Below w.heap.size w W) := by
    rw [hW]
    exact ⟨(hm.go (below1 _ _)).go (below1 _ _), PartsO.solo (Row.new_ (by rw [asz]) rfl) (by omega) (by omega) (((hm.go (below1 _ _)).below (below1 _ _)).more (by rw [asz]; omega)) (hm.off (by omega)), by rw [asz, asz]; exact Nat.le_refl _, Below.chain (below1 _ _) (below1 _ _)⟩
  have HX : Shh (Row (w.alloc (.cells #[.int .u32 x.c, .bool x.s, .int .i64 x.n, .int .i64 x.h, .int .i64 x.l] 24)) w.heap.size 24 [.int .u32 x.c, .bool x.s, .int .i64 x.n, .int .i64 x.h, .int .i64 x.l]) := ⟨Row.new_ rfl rfl⟩
  clear hm
  unfold S5.v at HC ⊢
  clear hw
  generalize x.c = xc at *
  generalize x.s = xs at *
  generalize x.n = xn at *
  generalize x.h = xh at *
  generalize x.l = xl at *
  by_cases her : er = 0
  · have HL : Shh (l = dig10 m) := ⟨HE.out.1 her⟩
    have HD2 := Shh.mk (HD.out her)
    subst her
    rw [HL.out]
    clear HE HD HL
    go_enter Tryd.func20, Tryd.ntmps20
    go_wp2_with (first | refine wpList_load_any rfl 24 (.tmp 2) rfl w.heap.size rfl 24 [.int .u32 xc, .bool xs, .int .i64 xn, .int .i64 xh, .int .i64 xl] _ HX.out Tryd.underlying24 rfl info_xms ?_ | (go_at_call 35; rw [← hW]; refine (HC.out _ _ _ HW.out.2.1 HW.out.2.2.1).mono ?_))
    unfold OldIs
    rintro e w2 ⟨rfl, b2⟩
    have H2 : Shh (Sl w2 w2.heap.size (.slice Am m.length cm) m ∧ Below w.heap.size w w2) := ⟨HW.out.1.go b2, Below.chain HW.out.2.2.2 b2⟩
    clear HW hW b2 HC HX
    go_wp2_with (go_at_call 36; refine (HD2.out _ H2.out.1).mono ?_)
    unfold IntsIs
    rintro e w3 ⟨v, rfl, o3, b3⟩
    have HR : Shh (SI w3 w3.heap.size v (dig10 m) ∧ Below w.heap.size w w3) := ⟨SI.of_own o3, Below.chain H2.out.2 b3⟩
    clear H2 o3 b3 HD2
    go_wp2
    go_ret2
    exact ⟨_, rfl, HR.out⟩
  · have HL : Shh (l = []) := ⟨HE.out.2 her⟩
    have hne : (er != 0) = true := by simp [her]
    rw [HL.out]
    clear HE HD HL her
    go_enter Tryd.func20, Tryd.ntmps20
    go_wp2_with (first | refine wpList_load_any rfl 24 (.tmp 2) rfl w.heap.size rfl 24 [.int .u32 xc, .bool xs, .int .i64 xn, .int .i64 xh, .int .i64 xl] _ HX.out Tryd.underlying24 rfl info_xms ?_ | (go_at_call 35; rw [← hW]; refine (HC.out _ _ _ HW.out.2.1 HW.out.2.2.1).mono ?_))
    unfold OldIs
    rintro e w2 ⟨rfl, b2⟩
    have H2 : Shh (Below w.heap.size w w2) := ⟨Below.chain HW.out.2.2.2 b2⟩
    clear HW hW b2 HC HX
    go_wp2
    go_ret2
    exact ⟨_, rfl, SI.nil_, H2.out⟩
end Go.Proofs.YtobbbljnkdfkeaaDoor
