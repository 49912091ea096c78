/-
  THE PROGRAM'S OWN walker and starter: what they hand back.
-/
import Derived.Test.YtobbbljnkdfkeaaDoorWq5
import Derived.Laws.EntriesVeiled
namespace Go.Proofs.YtobbbljnkdfkeaaDoor
open Go.RowKit
set_option maxRecDepth 100000
/-- a function value that walks a chain, from now on -/
def WalkAt (w : World) (g : Nat) (v : Value) (x : S5) (seed : List UInt8) : Prop :=
  ∃ F c1 c2, v = .func (.func F) #[] #[c1, c2] ∧ (∀ (xs : Array Value) (W : World), (callFunc F xs).run Tryd.prog W = .ok (.enter F xs) W) ∧ ∀ (W : World) (vb : Value) (b : List UInt8) (f k : Nat) (a : List UInt32), But w.heap.size g w W → Tabs W → Sl W W.heap.size vb b → b.length = x.n.toNat → f + k ≤ 15 → a.length = 8 → Calls Tryd.prog F #[vb, .int .i64 (f : Int), .int .i64 (k : Int), adrV a, c1, c2] W (WalkIs W vb (goB x.s x.n seed a b f k))
theorem WalkAt.but {w w' : World} {g : Nat} {v : Value} {x : S5} {seed : List UInt8} (h : WalkAt w g v x seed) (b : But w.heap.size g w w') : WalkAt w' g v x seed := by
  obtain ⟨F, c1, c2, rfl, hf, h⟩ := h
  exact ⟨F, c1, c2, rfl, hf, fun W vb b' f k a hb => h W vb b' f k a (b.chain hb)⟩
theorem WalkAt.go {w w' : World} {g : Nat} {v : Value} {x : S5} {seed : List UInt8} (h : WalkAt w g v x seed) (b : Below w.heap.size w w') : WalkAt w' g v x seed := h.but (But.of b g)
/-- a function value that begins a chain, from now on -/
def StartAt (w : World) (g : Nat) (v : Value) (x : S5) (sk seed : List UInt8) : Prop :=
  ∃ F c1 c2, v = .func (.func F) #[] #[c1, c2] ∧ (∀ (xs : Array Value) (W : World), (callFunc F xs).run Tryd.prog W = .ok (.enter F xs) W) ∧ ∀ (W : World) (a : List UInt32), But w.heap.size g w W → Tabs W → a.length = 8 → Calls Tryd.prog F #[adrV a, c1, c2] W (NewSl W (keyd x.s x.n 4 sk (seed ++ adrB (withA a 0 0))))
theorem StartAt.but {w w' : World} {g : Nat} {v : Value} {x : S5} {sk seed : List UInt8} (h : StartAt w g v x sk seed) (b : But w.heap.size g w w') : StartAt w' g v x sk seed := by
  obtain ⟨F, c1, c2, rfl, hf, h⟩ := h
  exact ⟨F, c1, c2, rfl, hf, fun W a hb => h W a (b.chain hb)⟩
theorem StartAt.go {w w' : World} {g : Nat} {v : Value} {x : S5} {sk seed : List UInt8} (h : StartAt w g v x sk seed) (b : Below w.heap.size w w') : StartAt w' g v x sk seed := h.but (But.of b g)
def WalkerIs (w : World) (g : Nat) (x : S5) (seed : List UInt8) (e : Ending) (w' : World) : Prop := ∃ v, e = .returned v ∧ WalkAt w' g v x seed ∧ Below w.heap.size w w'
def StarterIs (w : World) (g : Nat) (x : S5) (sk seed : List UInt8) (e : Ending) (w' : World) : Prop := ∃ v, e = .returned v ∧ StartAt w' g v x sk seed ∧ Below w.heap.size w w'
set_option maxHeartbeats 1000000 in
theorem walker_any (x : S5) (hx : x.ok = true) (vs : Value) (seed : List UInt8) (w : World) (hs : Sl w w.heap.size vs seed) (hl : seed.length ≤ 100000) (ht : Tabs w) (g : Nat) (hg : g < w.heap.size) :
    Calls Tryd.prog 39 #[x.v, vs] w (WalkerIs w g x seed) := by
  unfold WalkerIs
  have hmf : ∀ (fn : Fn) (first cap : Array Value) (w : World), (Instr.makeFunc fn first cap).run Tryd.prog w = .ok (.func fn first cap) w := fun _ _ _ _ => rfl
  have HKY : Shh (∀ (W : World), Sl W W.heap.size vs seed → Tabs W → g < W.heap.size → Calls Tryd.prog 48 #[x.v, .int .u8 3, vs] W (KeyIs W g x.s x.n 3 seed)) := ⟨fun W h1 h2 h3 => keyed_any x hx 3 (by decide) vs seed W h1 hl h2 g h3⟩
  have HFN : Shh (∀ (px pp : Nat) (vp : Value) (w : World), px ≠ g → pp ≠ g → Row w px 24 [.int .u32 x.c, .bool x.s, .int .i64 x.n, .int .i64 x.h, .int .i64 x.l] → Row w pp 71 [vp] → KeyAt w g vp x.s x.n 3 seed → WalkAt w g (.func (.func 51) #[] #[.pointer (some ⟨pp, 0, none⟩), .pointer (some ⟨px, 0, none⟩)]) x seed) := ⟨fun px pp vp w n1 n2 h1 h2 h3 => ⟨_, _, _, rfl, fun _ _ => by kernel_rfl, fun W vb b f k a hb hT hsb hbl hfk ha => walk1_any x hx g px pp vp vb seed b f k hfk a ha W (hb.row h1 h1.lt n1) (hb.row h2 h2.lt n2) (h3.but hb) hsb hbl hT⟩⟩
  obtain ⟨As, cs, rfl, _, _⟩ := hs.form
  obtain ⟨W, hW⟩ : ∃ W, W = w.alloc (.cells #[.int .u32 x.c, .bool x.s, .int .i64 x.n, .int .i64 x.h, .int .i64 x.l] 24) := ⟨_, rfl⟩
  have HW : Shh (Row W w.heap.size 24 [.int .u32 x.c, .bool x.s, .int .i64 x.n, .int .i64 x.h, .int .i64 x.l] ∧ Sl W W.heap.size (.slice As seed.length cs) seed ∧ Tabs W ∧ Below w.heap.size w W) := by
    rw [hW]
    exact ⟨Row.new_ rfl rfl, hs.go (below1 _ _), ht.go (below1 _ _), below1 _ _⟩
  clear hs hx ht
  obtain ⟨X, hX⟩ : ∃ X, X = x := ⟨_, rfl⟩
  have HF2 : Shh (∀ (px pp : Nat) (vp : Value) (w : World), px ≠ g → pp ≠ g → Row w px 24 [.int .u32 x.c, .bool x.s, .int .i64 x.n, .int .i64 x.h, .int .i64 x.l] → Row w pp 71 [vp] → KeyAt w g vp x.s x.n 3 seed → WalkAt w g (.func (.func 51) #[] #[.pointer (some ⟨pp, 0, none⟩), .pointer (some ⟨px, 0, none⟩)]) X seed) := by rw [hX]; exact HFN
  rw [← hX]
  rw [hX]
  have HG : Shh (∀ e w', (∃ v, e = Ending.returned v ∧ WalkAt w' g v X seed ∧ Below w.heap.size w w') → (∃ v, e = Ending.returned v ∧ WalkAt w' g v x seed ∧ Below w.heap.size w w')) := by rw [hX]; exact ⟨fun _ _ h => h⟩
  refine Calls.mono (R := fun e w' => ∃ v, e = Ending.returned v ∧ WalkAt w' g v X seed ∧ Below w.heap.size w w') ?_ HG.out
  clear HG HFN hX
  unfold S5.v at HKY ⊢
  generalize x.c = xc at *
  generalize x.s = xs at *
  generalize x.n = xn at *
  generalize x.h = xh at *
  generalize x.l = xl at *
  go_enter Tryd.func39, Tryd.ntmps39
  go_wp2_with (first | (rw [← hW]; refine wpList_load_any rfl 24 (.tmp 2) rfl w.heap.size rfl 24 [.int .u32 xc, .bool xs, .int .i64 xn, .int .i64 xh, .int .i64 xl] _ HW.out.1 Tryd.underlying24 rfl info_xms ?_) | (go_at_call 48; rw [← hW]; refine (HKY.out _ HW.out.2.1 HW.out.2.2.1 (Nat.lt_of_lt_of_le hg HW.out.2.2.2.size)).mono ?_))
  clear hW
  unfold KeyIs
  rintro e w2 ⟨vp, rfl, k2, b2⟩
  obtain ⟨Z, hZ⟩ : ∃ Z, Z = w2.alloc (.cells #[vp] 71) := ⟨_, rfl⟩
  have HR : Shh (WalkAt Z g (.func (.func 51) #[] #[.pointer (some ⟨w2.heap.size, 0, none⟩), .pointer (some ⟨w.heap.size, 0, none⟩)]) X seed ∧ Below w.heap.size w Z) := by
    have bz : Below w2.heap.size w2 Z := by rw [hZ]; exact below1 _ _
    have q0 := (Below.chain HW.out.2.2.2 b2).size
    exact ⟨HF2.out w.heap.size w2.heap.size vp Z (by omega) (by omega) ((HW.out.1.go b2).go bz) (by rw [hZ]; exact Row.new_ rfl rfl) (k2.go bz), Below.chain (Below.chain HW.out.2.2.2 b2) bz⟩
  obtain ⟨F, q1, q2, rfl, _, _⟩ := k2
  clear HW b2 HKY HF2
  go_wp2
  rw [← hZ]
  go_ret
  exact ⟨_, rfl, HR.out⟩
set_option maxHeartbeats 1000000 in
theorem starter1_any (s : Bool) (n : Int) (g0 pg ps : Nat) (vg vs : Value) (sk seed : List UInt8) (a : List UInt32) (ha : a.length = 8) (w : World) (hG : Row w pg 71 [vg]) (hS : Row w ps 25 [vs]) (hK : KeyAt w g0 vg s n 4 sk) (hs : Sl w w.heap.size vs seed) (hl : seed.length ≤ 50000) (ht : Tabs w) :
    Calls Tryd.prog 55 #[adrV a, .pointer (some ⟨pg, 0, none⟩), .pointer (some ⟨ps, 0, none⟩)] w (NewSl w (keyd s n 4 sk (seed ++ adrB (withA a 0 0)))) := by
  have HB : Shh ((∀ W, Calls Tryd.prog 11 #[adrV (withA a 0 0)] W (SumIs W (adrB (withA a 0 0)))) ∧ (adrB (withA a 0 0)).length = 32) := ⟨fun W => bytes_any _ (by rw [withA_length]; exact ha) W, by rw [adrB_length, withA_length, ha]⟩
  unfold NewSl
  generalize adrB (withA a 0 0) = ob at HB ⊢
  obtain ⟨As, cs, rfl, _, _⟩ := hs.form
  obtain ⟨F, q1, q2, rfl, hcf, kf⟩ := hK
  have HF : Shh ((∀ (xs : Array Value) (W : World), (callFunc F xs).run Tryd.prog W = .ok (.enter F xs) W) ∧ ∀ (W : World) (vm : Value) (m : List UInt8), But w.heap.size g0 w W → Tabs W → Sl W W.heap.size vm m → m.length ≤ 100000 → Calls Tryd.prog F #[vm, q1, q2] W (NewSl W (keyd s n 4 sk m))) := ⟨hcf, kf⟩
  have H0 : Shh (Row w pg 71 [.func (.func F) #[] #[q1, q2]] ∧ Row w ps 25 [.slice As seed.length cs] ∧ Sl w w.heap.size (.slice As seed.length cs) seed ∧ Tabs w) := ⟨hG, hS, hs, ht⟩
  clear hcf kf hG hS hs ht
  obtain ⟨a0, a1, a2, a3, a4, a5, a6, a7, rfl⟩ := eight ha
  have e : adrV (withA [a0, a1, a2, a3, a4, a5, a6, a7] 0 0) = .agg #[.int .u32 (a0.toNat : Int), .int .u32 (a1.toNat : Int), .int .u32 (a2.toNat : Int), .int .u32 (a3.toNat : Int), .int .u32 (a4.toNat : Int), .int .u32 (a5.toNat : Int), .int .u32 0, .int .u32 0] := rfl
  rw [e] at HB
  have e2 : adrV [a0, a1, a2, a3, a4, a5, a6, a7] = .agg #[.int .u32 (a0.toNat : Int), .int .u32 (a1.toNat : Int), .int .u32 (a2.toNat : Int), .int .u32 (a3.toNat : Int), .int .u32 (a4.toNat : Int), .int .u32 (a5.toNat : Int), .int .u32 (a6.toNat : Int), .int .u32 (a7.toNat : Int)] := rfl
  rw [e2]
  clear e e2 ha
  go_enter Tryd.func55, Tryd.ntmps55
  go_wp2_with (go_at_call 11; refine (HB.out.1 _).mono ?_)
  unfold SumIs
  rintro e w2 ⟨rfl, b2⟩
  have H2 : Shh (Below w.heap.size w w2) := ⟨Below.chain (below1 _ _) b2⟩
  clear b2
  obtain ⟨G, hG⟩ : ∃ G, Shh (G = w2.heap.size) := ⟨_, ⟨rfl⟩⟩
  go_wp2_with (refine wpList_store_any rfl 30 (.tmp 5) (.tmp 9) rfl G (by rw [hG.out]; rfl) (Lib.byteCells ob) rfl 30 _ (Row.new_ hG.out zero32b) (info_b32.trans (size_bytes _ _ HB.out.2)) (by rw [Lib.byteCells_length, Lib.byteCells_length, HB.out.2]; rfl) (cell_oneCell _) ?_)
  intro Z hr bt zt
  have H3 : Shh (Row Z G 30 (Lib.byteCells ob) ∧ Below w.heap.size w Z) := by
    have q1 := H2.out.size
    have q3 := hG.out
    have bz : Below w2.heap.size w2 Z := (below1 w2 _).trans (bt.under (by first | omega | (rw [asz]; omega)) (by omega))
    exact ⟨hr, Below.chain H2.out bz⟩
  rw [← hG.out]
  clear hr bt zt H2 hG
  have HL32 : Shh (ob.length = 32) := ⟨HB.out.2⟩
  clear HB
  go_wp2_with fail
  refine wp_region_held_drew (S := fun w' => w'.cell? ⟨pg, 0, none⟩ = some (.func (.func F) #[] #[q1, q2]) ∧ w'.cell? ⟨ps, 0, none⟩ = some (.slice As seed.length cs)) (by kernel_rfl) ⟨(H0.out.1.go H3.out.2).cell 0, (H0.out.2.1.go H3.out.2).cell 0⟩ (fun hS => ?_)
  clear hS
  obtain ⟨V, hV⟩ : ∃ V, V = World.drew Z := ⟨_, rfl⟩
  rw [← hV]
  have HBV : Below w.heap.size w V := by rw [hV]; exact H3.out.2.drew
  have rB : Row V G 30 (Lib.byteCells ob) := by rw [hV]; exact H3.out.1.drew
  have rG : Row V pg 71 [.func (.func F) #[] #[q1, q2]] := H0.out.1.go HBV
  have rS : Row V ps 25 [.slice As seed.length cs] := H0.out.2.1.go HBV
  have sS : Sl V V.heap.size (.slice As seed.length cs) seed := H0.out.2.2.1.go HBV
  clear hV H3
  have hcf := HF.out.1
  refine held_value 0 _ _ (some 10) (.func (.func F) #[] #[q1, q2]) (by kernel_rfl) (by rfl) (by kernel_rfl) (fun w hS => by have h2 := hS.1; go_simp) (fun _ _ _ _ h => h) (⟨(rG).cell 0, (rS).cell 0⟩) ?_
  simp only [Act.put, List.setIfInBounds_toArray, List.set_cons_zero, List.set_cons_succ]
  refine held_value 1 _ _ (some 11) (.slice As seed.length cs) (by kernel_rfl) (by rfl) (by kernel_rfl) (fun w hS => by have h2 := hS.2; go_simp) (fun _ _ _ _ h => h) (⟨(rG).cell 0, (rS).cell 0⟩) ?_
  simp only [Act.put, List.setIfInBounds_toArray, List.set_cons_zero, List.set_cons_succ]
  refine held_value 2 _ _ (some 12) (.slice (some ⟨G, 0, none⟩) 32 32) (by kernel_rfl) (by rfl) (by kernel_rfl) (fun w hS => by first | kernel_rfl | go_simp) (fun _ _ _ _ h => h) (⟨(rG).cell 0, (rS).cell 0⟩) ?_
  simp only [Act.put, List.setIfInBounds_toArray, List.set_cons_zero, List.set_cons_succ]
  refine held_one 3 (by kernel_rfl) ?_
  refine step_value 3 _ _ (some 13) (.slice (some ⟨V.heap.size, 0, none⟩) 2 2) (V.alloc (.cells #[.slice As seed.length cs, .slice (some ⟨G, 0, none⟩) 32 32] 25)) (by rfl) (by kernel_rfl) (by first | kernel_rfl | go_simp) (⟨((rG).alloc _).cell 0, ((rS).alloc _).cell 0⟩) ?_
  simp only [Act.put, List.setIfInBounds_toArray, List.set_cons_zero, List.set_cons_succ]
  have bx : Below V.heap.size V (V.alloc (.cells #[.slice As seed.length cs, .slice (some ⟨G, 0, none⟩) 32 32] 25)) := Below.alloc (Below.refl _ _) (Nat.le_refl _) _
  have rP : Row (V.alloc (.cells #[.slice As seed.length cs, .slice (some ⟨G, 0, none⟩) 32 32] 25)) V.heap.size 25 [.slice As seed.length cs, .slice (some ⟨G, 0, none⟩) 32 32] := Row.new_ rfl rfl
  have z_rP := asz V (.cells #[.slice As seed.length cs, .slice (some ⟨G, 0, none⟩) 32 32] 25)
  generalize V.alloc (.cells #[.slice As seed.length cs, .slice (some ⟨G, 0, none⟩) 32 32] 25) = Y1 at *
  have b_V := bx
  have m_Y1 : V.heap.size ≤ Y1.heap.size := bx.size
  clear bx
  refine held_one 4 (by kernel_rfl) ?_
  refine step_call 4 _ _ (some 14) 56 #[.slice (some ⟨V.heap.size, 0, none⟩) 2 2] (by rfl) (by kernel_rfl) (by first | kernel_rfl | go_simp) ?_
  refine (show Calls Tryd.prog 56 #[.slice (some ⟨V.heap.size, 0, none⟩) 2 2] Y1 (OwnIs Y1 (seed ++ ob)) by have h := join_any Y1.heap.size Y1.heap.size _ [seed, ob] Y1 (PartsO.two (n := 2) rP.lt (Nat.ne_of_lt rP.lt) rP ((sS.go b_V)) (((sS.go b_V)).off (Nat.le_refl _)) (Row.sl (n := 32) ((rB.go b_V)) HL32.out (by decide)) ((Row.sl (n := 32) ((rB.go b_V)) HL32.out (by decide)).off (Nat.le_refl _))) (Nat.le_refl _) (by rw [two_flat10, List.length_append, HL32.out]; omega) (by simp); rw [two_flat10] at h; exact h).mono ?_
  rintro e Y2 ⟨v, rfl, gv⟩
  have bx : Below Y1.heap.size Y1 Y2 := gv.2
  obtain ⟨Aj, cj, vEq⟩ := own_form gv.1
  subst vEq
  have sJ : Sl Y2 Y2.heap.size (.slice Aj (seed ++ ob).length cj) (seed ++ ob) := gives_sl gv
  clear gv
  replace b_V := Below.chain b_V bx
  have b_Y1 := bx
  have m_Y2 : Y1.heap.size ≤ Y2.heap.size := bx.size
  clear bx
  refine ⟨_, rfl, ⟨((rG.go b_V)).cell 0, ((rS.go b_V)).cell 0⟩, ?_⟩
  simp only [Act.put, List.setIfInBounds_toArray, List.set_cons_zero, List.set_cons_succ]
  refine held_one 5 (by kernel_rfl) ?_
  refine step_call 5 _ _ (some 15) F #[.slice Aj (seed ++ ob).length cj, q1, q2] (by rfl) (by kernel_rfl) (by go_simp) ?_
  refine (HF.out.2 Y2 _ _ (But.of (Below.chain HBV b_V) g0) (H0.out.2.2.2.go (Below.chain HBV b_V)) (sJ) (by rw [List.length_append, HL32.out]; omega)).mono ?_
  rintro e Y3 ⟨vr, rfl, gr, br, or⟩
  have bx : Below Y2.heap.size Y2 Y3 := br
  have oR : ∀ g, g < w.heap.size → Off g vr := fun g hg => or g (Nat.lt_of_lt_of_le hg (Below.chain HBV b_V).size)
  have sR := gr
  clear gr or
  replace b_V := Below.chain b_V bx
  replace b_Y1 := Below.chain b_Y1 bx
  have b_Y2 := bx
  have m_Y3 : Y2.heap.size ≤ Y3.heap.size := bx.size
  clear bx
  refine ⟨_, rfl, ⟨((rG.go b_V)).cell 0, ((rS.go b_V)).cell 0⟩, ?_⟩
  simp only [Act.put, List.setIfInBounds_toArray, List.set_cons_zero, List.set_cons_succ]
  refine held_value 6 _ _ (some 4) (vr) (by kernel_rfl) (by rfl) (by kernel_rfl) (fun w hS => by first | kernel_rfl | go_simp) (fun _ _ _ _ h => h) (⟨((rG.go b_V)).cell 0, ((rS.go b_V)).cell 0⟩) ?_
  simp only [Act.put, List.setIfInBounds_toArray, List.set_cons_zero, List.set_cons_succ]
  refine wpAnyH_done (by kernel_rfl) ?_ _
  have HR : Shh (Sl Y3 Y3.heap.size vr (keyd s n 4 sk (seed ++ ob)) ∧ Below w.heap.size w Y3 ∧ ∀ g, g < w.heap.size → Off g vr) := ⟨sR, Below.chain HBV b_V, oR⟩
  clear m_Y3 b_Y2 sR oR br m_Y2 b_Y1 sJ m_Y1 b_V z_rP rP HBV rB rG rS sS hcf
  go_wp2
  go_ret
  exact ⟨_, rfl, HR.out⟩
end Go.Proofs.YtobbbljnkdfkeaaDoor
