/-
  LAW over contracts of the program's own functions: Verifies.
-/
import Derived.Test.YtobbbljnkdfkeaaGreatDoorWs12
namespace Go.Proofs.YtobbbljnkdfkeaaGreatDoor
open Go.RowKit
set_option maxRecDepth 100000
set_option maxHeartbeats 2000000 in
theorem wotsVerifies_of (x : S5) (_hw : x.wf) (vk : Value) (vs : Value) (vm : Value) (sk seed m : List UInt8) (a : List UInt32) (ha : a.length = 8) (w : World) (hk : Sl w w.heap.size vk sk) (hs : Sl w w.heap.size vs seed) (hm : Sl w w.heap.size vm m) (ht : Tabs w)
    (hlive : ∀ W, Tabs W → Calls Tryz.prog 6 #[] W (TrueIs W))
    (hSign : ∀ W, Tabs W → Sl W W.heap.size vk sk → Sl W W.heap.size vs seed → Sl W W.heap.size vm m → Calls Tryz.prog 11 #[x.v, vk, vs, vm, adrV a] W (ResIs W (badE x [sk, seed, m]) (sgB x sk seed m a)))
    (hPub : ∀ W, Tabs W → Sl W W.heap.size vk sk → Sl W W.heap.size vs seed → Calls Tryz.prog 8 #[x.v, vk, vs, adrV a] W (ResIs W (badE x [sk, seed]) (pubB x sk seed a)))
    (hFs : ∀ (vg : Value) (sig : List UInt8) W, Tabs W → Sl W W.heap.size vs seed → Sl W W.heap.size vm m → Sl W W.heap.size vg sig → Calls Tryz.prog 13 #[x.v, vs, vm, vg, adrV a] W (ResIs W (fsE x seed m sig) (fsB x seed m sig a))) :
    Calls Tryz.prog 5 #[x.v, vk, vs, vm, adrV a] w (TrueIs w) := by
  unfold TrueIs
  obtain ⟨Ak, ck, rfl, _, _⟩ := hk.form
  obtain ⟨As, cs, rfl, _, _⟩ := hs.form
  obtain ⟨Am, cm, rfl, _, _⟩ := hm.form
  obtain ⟨sg, hsg⟩ : ∃ sg, sg = sgB x sk seed m a := ⟨_, rfl⟩
  obtain ⟨pb, hpb⟩ : ∃ pb, pb = pubB x sk seed a := ⟨_, rfl⟩
  obtain ⟨er, her⟩ : ∃ er, er = badE x [sk, seed, m] := ⟨_, rfl⟩
  have HP : Shh ((∀ W, Tabs W → Sl W W.heap.size (.slice Ak sk.length ck) sk → Sl W W.heap.size (.slice As seed.length cs) seed → Sl W W.heap.size (.slice Am m.length cm) m → Calls Tryz.prog 11 #[x.v, .slice Ak sk.length ck, .slice As seed.length cs, .slice Am m.length cm, adrV a] W (ResIs W er sg)) ∧ (er = 0 → (∀ W, Tabs W → Sl W W.heap.size (.slice Ak sk.length ck) sk → Sl W W.heap.size (.slice As seed.length cs) seed → Calls Tryz.prog 8 #[x.v, .slice Ak sk.length ck, .slice As seed.length cs, adrV a] W (ResIs W 0 pb)) ∧ (∀ (vg : Value) W, Tabs W → Sl W W.heap.size (.slice As seed.length cs) seed → Sl W W.heap.size (.slice Am m.length cm) m → Sl W W.heap.size vg sg → Calls Tryz.prog 13 #[x.v, .slice As seed.length cs, .slice Am m.length cm, vg, adrV a] W (ResIs W 0 pb)) ∧ (pb.length : Int) = x.l * x.n ∧ IntKind.i64.wrap (x.l * x.n) = x.l * x.n) ∧ (er ≠ 0 → sg = [])) := by
    refine ⟨by rw [her, hsg]; exact hSign, fun h0 => ?_, fun h0 => ?_⟩
    · rw [her] at h0
      obtain ⟨g1, g2, g3, g4⟩ := sg_verifies (a := a) h0
      refine ⟨fun W h1 h2 h3 => ?_, fun vg W h1 h2 h3 h4 => ?_, by rw [hpb]; exact g4, ?_⟩
      · have := hPub W h1 h2 h3
        rw [g1, ← hpb] at this
        exact this
      · have := hFs vg sg W h1 h2 h3 h4
        rw [hsg, g2, g3, ← hpb] at this
        exact this
      · rw [IntKind.wrap_i64]
        rcases S5.ok_is (badE_ok h0).1 with h | h <;> rw [h.1, h.2] <;> decide
    · rw [hsg]
      unfold sgB
      rw [if_neg (by rw [← her]; exact h0)]
  clear hsg hpb her
  have HT : Shh (∀ W, Tabs W → Calls Tryz.prog 6 #[] W (TrueIs W)) := ⟨hlive⟩
  obtain ⟨W, hW⟩ : ∃ W, W = (w.alloc (.cells #[.int .u32 x.c, .bool x.s, .int .i64 x.n, .int .i64 x.h, .int .i64 x.l] 24)).alloc (.cells (wordCells a).toArray 27) := ⟨_, rfl⟩
  have HW : Shh (Row W w.heap.size 24 [.int .u32 x.c, .bool x.s, .int .i64 x.n, .int .i64 x.h, .int .i64 x.l] ∧ Row W (w.heap.size + 1) 27 (wordCells a) ∧ Sl W W.heap.size (.slice Ak sk.length ck) sk ∧ Sl W W.heap.size (.slice As seed.length cs) seed ∧ Sl W W.heap.size (.slice Am m.length cm) m ∧ Tabs W ∧ Below w.heap.size w W) := by
    rw [hW]
    exact ⟨(Row.new_ rfl rfl).alloc _, Row.new_ (by rw [asz]) rfl, (hk.go (below1 _ _)).go (below1 _ _), (hs.go (below1 _ _)).go (below1 _ _), (hm.go (below1 _ _)).go (below1 _ _), (ht.go (below1 _ _)).go (below1 _ _), Below.chain (below1 _ _) (below1 _ _)⟩
  clear hk hs hm ht hlive hSign hPub hFs
  have HA : Shh ((wordCells a).length = 8) := ⟨by rw [wordCells_length]; exact ha⟩
  unfold S5.v adrV at HP
  unfold S5.v adrV
  generalize wordCells a = L at HP HA HW hW ⊢
  generalize x.c = xc at *
  generalize x.s = xs at *
  generalize x.n = xn at *
  generalize x.h = xh at *
  generalize x.l = xl at *
  go_enter Tryz.func5, Tryz.ntmps5
  go_wp2_with fail
  rw [← hW]
  clear hW
  go_at_call 6
  refine (HT.out _ HW.out.2.2.2.2.2.1).mono ?_
  unfold TrueIs
  rintro e w2 ⟨rfl, b2⟩
  have H2 : Shh (Row w2 w.heap.size 24 [.int .u32 xc, .bool xs, .int .i64 xn, .int .i64 xh, .int .i64 xl] ∧ Row w2 (w.heap.size + 1) 27 L ∧ Sl w2 w2.heap.size (.slice Ak sk.length ck) sk ∧ Sl w2 w2.heap.size (.slice As seed.length cs) seed ∧ Sl w2 w2.heap.size (.slice Am m.length cm) m ∧ Tabs w2 ∧ Below w.heap.size w w2) := ⟨HW.out.1.go b2, HW.out.2.1.go b2, HW.out.2.2.1.go b2, HW.out.2.2.2.1.go b2, HW.out.2.2.2.2.1.go b2, HW.out.2.2.2.2.2.1.go b2, Below.chain HW.out.2.2.2.2.2.2 b2⟩
  clear b2 HW
  cases hf : few10B [sk, seed, m] with
  | false =>
    go_wp2_with (go_at_call 7; refine (few10_any (w2.heap.size + 1) (w2.heap.size + 1) _ [sk, seed, m] _ (PartsO.three (q := w2.heap.size) (n := 3) (Nat.lt_succ_self _) (by omega) (Row.new_ rfl rfl) ((H2.out.2.2.1.below (below1 _ _)).more (by omega)) (H2.out.2.2.1.off (by omega)) ((H2.out.2.2.2.1.below (below1 _ _)).more (by omega)) (H2.out.2.2.2.1.off (by omega)) ((H2.out.2.2.2.2.1.below (below1 _ _)).more (by omega)) (H2.out.2.2.2.2.1.off (by omega))) (by simp)).mono ?_)
    rw [hf]
    rintro e w3 ⟨rfl, rfl⟩
    have H3 : Shh (Tabs (w2.alloc (.cells #[.slice Ak sk.length ck, .slice As seed.length cs, .slice Am m.length cm] 25)) ∧ Below w.heap.size w (w2.alloc (.cells #[.slice Ak sk.length ck, .slice As seed.length cs, .slice Am m.length cm] 25))) := ⟨H2.out.2.2.2.2.2.1.go (below1 _ _), Below.chain H2.out.2.2.2.2.2.2 (below1 _ _)⟩
    clear H2 hf
    go_wp2_with (go_at_call 6; refine (HT.out _ H3.out.1).mono ?_)
    unfold TrueIs
    rintro e w4 ⟨rfl, b4⟩
    have H4 : Shh (Below w.heap.size w w4) := ⟨Below.chain H3.out.2 b4⟩
    clear b4 H3
    go_wp2
    go_ret
    exact ⟨rfl, H4.out⟩
  | true =>
    go_wp2_with (go_at_call 7; refine (few10_any (w2.heap.size + 1) (w2.heap.size + 1) _ [sk, seed, m] _ (PartsO.three (q := w2.heap.size) (n := 3) (Nat.lt_succ_self _) (by omega) (Row.new_ rfl rfl) ((H2.out.2.2.1.below (below1 _ _)).more (by omega)) (H2.out.2.2.1.off (by omega)) ((H2.out.2.2.2.1.below (below1 _ _)).more (by omega)) (H2.out.2.2.2.1.off (by omega)) ((H2.out.2.2.2.2.1.below (below1 _ _)).more (by omega)) (H2.out.2.2.2.2.1.off (by omega))) (by simp)).mono ?_)
    rw [hf]
    rintro e w3 ⟨rfl, rfl⟩
    have H3 : Shh (Row (w2.alloc (.cells #[.slice Ak sk.length ck, .slice As seed.length cs, .slice Am m.length cm] 25)) w.heap.size 24 [.int .u32 xc, .bool xs, .int .i64 xn, .int .i64 xh, .int .i64 xl] ∧ Row (w2.alloc (.cells #[.slice Ak sk.length ck, .slice As seed.length cs, .slice Am m.length cm] 25)) (w.heap.size + 1) 27 L ∧ Sl (w2.alloc (.cells #[.slice Ak sk.length ck, .slice As seed.length cs, .slice Am m.length cm] 25)) (w2.alloc (.cells #[.slice Ak sk.length ck, .slice As seed.length cs, .slice Am m.length cm] 25)).heap.size (.slice Ak sk.length ck) sk ∧ Sl (w2.alloc (.cells #[.slice Ak sk.length ck, .slice As seed.length cs, .slice Am m.length cm] 25)) (w2.alloc (.cells #[.slice Ak sk.length ck, .slice As seed.length cs, .slice Am m.length cm] 25)).heap.size (.slice As seed.length cs) seed ∧ Sl (w2.alloc (.cells #[.slice Ak sk.length ck, .slice As seed.length cs, .slice Am m.length cm] 25)) (w2.alloc (.cells #[.slice Ak sk.length ck, .slice As seed.length cs, .slice Am m.length cm] 25)).heap.size (.slice Am m.length cm) m ∧ Tabs (w2.alloc (.cells #[.slice Ak sk.length ck, .slice As seed.length cs, .slice Am m.length cm] 25)) ∧ Below w.heap.size w (w2.alloc (.cells #[.slice Ak sk.length ck, .slice As seed.length cs, .slice Am m.length cm] 25))) := ⟨H2.out.1.go (below1 _ _), H2.out.2.1.go (below1 _ _), H2.out.2.2.1.go (below1 _ _), H2.out.2.2.2.1.go (below1 _ _), H2.out.2.2.2.2.1.go (below1 _ _), H2.out.2.2.2.2.2.1.go (below1 _ _), Below.chain H2.out.2.2.2.2.2.2 (below1 _ _)⟩
    clear H2 hf HT
    generalize hZ : w2.alloc _ = Z3 at H3 ⊢
    clear hZ
    by_cases h0 : er = 0
    · subst h0
      obtain ⟨p1, p2, p3, p4⟩ := HP.out.2.1 rfl
      have HP1 := Shh.mk HP.out.1
      have HP2 := Shh.mk p1
      have HP3 := Shh.mk p2
      have hpl : ((pb.length : Int) == xl * xn) = true := by simp [p3]
      clear p1 p2 p3 HP
      go_wp2_with (first | refine wpList_load_any rfl 24 (.tmp 5) rfl w.heap.size rfl 24 [.int .u32 xc, .bool xs, .int .i64 xn, .int .i64 xh, .int .i64 xl] _ H3.out.1 Tryz.underlying24 rfl info_xms ?_ | refine wpList_load_any rfl 27 (.tmp 9) rfl (w.heap.size + 1) rfl 27 L _ H3.out.2.1 Tryz.underlying27 rfl (info_adr10 HA.out) ?_ | (go_at_call 11; refine (HP1.out _ H3.out.2.2.2.2.2.1 H3.out.2.2.1 H3.out.2.2.2.1 H3.out.2.2.2.2.1).mono ?_))
      rintro e w4 ⟨v4, rfl, s4, b4⟩
      obtain ⟨A4, c4, rfl, _, _⟩ := s4.form
      have HS := Shh.mk s4
      have H4 : Shh (Row w4 w.heap.size 24 [.int .u32 xc, .bool xs, .int .i64 xn, .int .i64 xh, .int .i64 xl] ∧ Row w4 (w.heap.size + 1) 27 L ∧ Sl w4 w4.heap.size (.slice Ak sk.length ck) sk ∧ Sl w4 w4.heap.size (.slice As seed.length cs) seed ∧ Sl w4 w4.heap.size (.slice Am m.length cm) m ∧ Tabs w4 ∧ Below w.heap.size w w4) := ⟨H3.out.1.go b4, H3.out.2.1.go b4, H3.out.2.2.1.go b4, H3.out.2.2.2.1.go b4, H3.out.2.2.2.2.1.go b4, H3.out.2.2.2.2.2.1.go b4, Below.chain H3.out.2.2.2.2.2.2 b4⟩
      clear s4 b4 H3
      go_wp2_with (first | refine wpList_load_any rfl 24 (.tmp 5) rfl w.heap.size rfl 24 [.int .u32 xc, .bool xs, .int .i64 xn, .int .i64 xh, .int .i64 xl] _ H4.out.1 Tryz.underlying24 rfl info_xms ?_ | refine wpList_load_any rfl 27 (.tmp 9) rfl (w.heap.size + 1) rfl 27 L _ H4.out.2.1 Tryz.underlying27 rfl (info_adr10 HA.out) ?_ | (go_at_call 8; refine (HP2.out _ H4.out.2.2.2.2.2.1 H4.out.2.2.1 H4.out.2.2.2.1).mono ?_))
      rintro e w5 ⟨v5, rfl, s5, b5⟩
      obtain ⟨A5, c5, rfl, _, _⟩ := s5.form
      have HS5 : Shh (Sl w5 w5.heap.size (.slice A4 sg.length c4) sg ∧ Sl w5 w5.heap.size (.slice A5 pb.length c5) pb) := ⟨HS.out.go b5, s5⟩
      have H5 : Shh (Row w5 w.heap.size 24 [.int .u32 xc, .bool xs, .int .i64 xn, .int .i64 xh, .int .i64 xl] ∧ Row w5 (w.heap.size + 1) 27 L ∧ Sl w5 w5.heap.size (.slice Ak sk.length ck) sk ∧ Sl w5 w5.heap.size (.slice As seed.length cs) seed ∧ Sl w5 w5.heap.size (.slice Am m.length cm) m ∧ Tabs w5 ∧ Below w.heap.size w w5) := ⟨H4.out.1.go b5, H4.out.2.1.go b5, H4.out.2.2.1.go b5, H4.out.2.2.2.1.go b5, H4.out.2.2.2.2.1.go b5, H4.out.2.2.2.2.2.1.go b5, Below.chain H4.out.2.2.2.2.2.2 b5⟩
      clear s5 b5 H4 HS
      go_wp2_with (first | refine wpList_load_any rfl 24 (.tmp 5) rfl w.heap.size rfl 24 [.int .u32 xc, .bool xs, .int .i64 xn, .int .i64 xh, .int .i64 xl] _ H5.out.1 Tryz.underlying24 rfl info_xms ?_ | refine wpList_load_any rfl 27 (.tmp 9) rfl (w.heap.size + 1) rfl 27 L _ H5.out.2.1 Tryz.underlying27 rfl (info_adr10 HA.out) ?_ | (go_at_call 13; refine (HP3.out _ _ H5.out.2.2.2.2.2.1 H5.out.2.2.2.1 H5.out.2.2.2.2.1 HS5.out.1).mono ?_))
      rintro e w6 ⟨v6, rfl, s6, b6⟩
      obtain ⟨A6, c6, rfl, _, _⟩ := s6.form
      have HS6 : Shh (Sl w6 w6.heap.size (.slice A5 pb.length c5) pb ∧ Sl w6 w6.heap.size (.slice A6 pb.length c6) pb ∧ Below w.heap.size w w6) := ⟨HS5.out.2.go b6, s6, Below.chain H5.out.2.2.2.2.2.2 b6⟩
      have e2 := (H5.out.1.go b6).cell 2
      have e4 := (H5.out.1.go b6).cell 4
      simp only [List.getElem?_cons_succ, List.getElem?_cons_zero] at e2 e4
      have hob : (pb == pb) = true := by simp
      clear s6 b6 H5 HS5 HP1 HP2 HP3
      go_wp2_with (go_at_call 10; refine (refEqual_any w6.heap.size w6.heap.size _ _ pb pb _ HS6.out.1 HS6.out.2.1).mono ?_)
      rintro e w7 ⟨rfl, rfl⟩
      rw [hob]
      go_wp2
      go_ret
      exact ⟨rfl, HS6.out.2.2⟩
    · have hs0 := HP.out.2.2 h0
      have HP1 := Shh.mk HP.out.1
      have hne : (er != (0 : Int)) = true := by simpa using h0
      clear h0 HP
      subst hs0
      go_wp2_with (first | refine wpList_load_any rfl 24 (.tmp 5) rfl w.heap.size rfl 24 [.int .u32 xc, .bool xs, .int .i64 xn, .int .i64 xh, .int .i64 xl] _ H3.out.1 Tryz.underlying24 rfl info_xms ?_ | refine wpList_load_any rfl 27 (.tmp 9) rfl (w.heap.size + 1) rfl 27 L _ H3.out.2.1 Tryz.underlying27 rfl (info_adr10 HA.out) ?_ | (go_at_call 11; refine (HP1.out _ H3.out.2.2.2.2.2.1 H3.out.2.2.1 H3.out.2.2.2.1 H3.out.2.2.2.2.1).mono ?_))
      rintro e w4 ⟨v4, rfl, s4, b4⟩
      obtain ⟨A4, c4, rfl, _, _⟩ := s4.form
      have H4 : Shh (Below w.heap.size w w4) := ⟨Below.chain H3.out.2.2.2.2.2.2 b4⟩
      clear s4 b4 H3 HP1
      go_wp2
      go_ret
      exact ⟨rfl, H4.out⟩
end Go.Proofs.YtobbbljnkdfkeaaGreatDoor
