/-
  LAW over contracts of the program's own functions: Steps.
-/
import Derived.Test.YtobbbljnkdfkeaaDoorWs12
namespace Go.Proofs.YtobbbljnkdfkeaaDoor
open Go.RowKit
set_option maxRecDepth 100000
/-- some steps, if they may be asked -/
def chN (x : S5) (b seed : List UInt8) (a : List UInt32) (f n : Nat) : List UInt8 := if badE x [b, seed] = 0 then goB x.s x.n seed a b f n else []
set_option maxHeartbeats 2000000 in
theorem wotsSteps_of (x : S5) (_hw : x.wf) (vb : Value) (vs : Value) (b seed : List UInt8) (f0 s0 m0 : UInt8) (a : List UInt32) (ha : a.length = 8) (w : World) (hb : Sl w w.heap.size vb b) (hs : Sl w w.heap.size vs seed) (ht : Tabs w)
    (hlive : ∀ W, Tabs W → Calls Tryd.prog 9 #[] W (TrueIs W))
    (hCh : ∀ (vb' : Value) (b' : List UInt8) (f n : Nat) W, f + n ≤ 15 → Tabs W → Sl W W.heap.size vb' b' → Sl W W.heap.size vs seed → Calls Tryd.prog 25 #[x.v, vb', .int .i64 (f : Int), .int .i64 (n : Int), vs, adrV a] W (ResIs W (badE x [b', seed]) (chN x b' seed a f n))) :
    Calls Tryd.prog 6 #[x.v, vb, .int .u8 (f0.toNat : Int), .int .u8 (s0.toNat : Int), .int .u8 (m0.toNat : Int), vs, adrV a] w (TrueIs w) := by
  unfold TrueIs
  obtain ⟨Ab, cb, rfl, _, _⟩ := hb.form
  obtain ⟨As, cs, rfl, _, _⟩ := hs.form
  obtain ⟨f, hf0⟩ : ∃ f, f = f0.toNat % 16 := ⟨_, rfl⟩
  obtain ⟨n, hn0⟩ : ∃ n, n = s0.toNat % (16 - f) := ⟨_, rfl⟩
  obtain ⟨m, hm0⟩ : ∃ m, m = m0.toNat % (16 - f - n) := ⟨_, rfl⟩
  have hf15 : f ≤ 15 := by omega
  have hn15 : n ≤ 15 - f := by have := Nat.mod_lt s0.toNat (show 0 < 16 - f by omega); omega
  have hm15 : m ≤ 15 - f - n := by have := Nat.mod_lt m0.toNat (show 0 < 16 - f - n by omega); omega
  obtain ⟨p, hp⟩ : ∃ p, p = chN x b seed a f n := ⟨_, rfl⟩
  obtain ⟨q, hq⟩ : ∃ q, q = chN x b seed a f (n + m) := ⟨_, rfl⟩
  obtain ⟨er, her⟩ : ∃ er, er = badE x [b, seed] := ⟨_, rfl⟩
  have HP : Shh ((∀ W, Tabs W → Sl W W.heap.size (.slice Ab b.length cb) b → Sl W W.heap.size (.slice As seed.length cs) seed → Calls Tryd.prog 25 #[x.v, .slice Ab b.length cb, .int .i64 (f : Int), .int .i64 (n : Int), .slice As seed.length cs, adrV a] W (ResIs W er p)) ∧ (er = 0 → (∀ (vp : Value) W, Tabs W → Sl W W.heap.size vp p → Sl W W.heap.size (.slice As seed.length cs) seed → Calls Tryd.prog 25 #[x.v, vp, .int .i64 ((f : Int) + (n : Int)), .int .i64 (m : Int), .slice As seed.length cs, adrV a] W (ResIs W 0 q)) ∧ (∀ W, Tabs W → Sl W W.heap.size (.slice Ab b.length cb) b → Sl W W.heap.size (.slice As seed.length cs) seed → Calls Tryd.prog 25 #[x.v, .slice Ab b.length cb, .int .i64 (f : Int), .int .i64 ((n : Int) + (m : Int)), .slice As seed.length cs, adrV a] W (ResIs W 0 q)) ∧ (q.length : Int) = x.n) ∧ (er ≠ 0 → p = [] ∧ (er = 1 ∨ er = 60))) := by
    refine ⟨fun W h1 h2 h3 => ?_, fun h0 => ?_, fun h0 => ?_⟩
    · have := hCh _ b f n W (by omega) h1 h2 h3
      rw [← her, ← hp] at this
      exact this
    · rw [her] at h0
      obtain ⟨hx, hall⟩ := badE_ok h0
      have lb : b.length = x.n.toNat := by have := hall b (by simp); rcases ok_n hx with h | h <;> omega
      have hpe : p = goB x.s x.n seed a b f n := by rw [hp]; unfold chN; rw [if_pos h0]
      have hqe : q = goB x.s x.n seed a b f (n + m) := by rw [hq]; unfold chN; rw [if_pos h0]
      have lp : p.length = x.n.toNat := by rw [hpe]; exact goB_length hx seed a b f n lb
      have lq : q.length = x.n.toNat := by rw [hqe]; exact goB_length hx seed a b f (n + m) lb
      have hxn : (x.n.toNat : Int) = x.n := by rcases ok_n hx with h | h <;> rw [h] <;> rfl
      have h1 : badE x [p, seed] = 0 := badE_of hx (fun y hy => by
        simp only [List.mem_cons, List.not_mem_nil, or_false] at hy
        rcases hy with rfl | rfl
        · rw [lp]; exact hxn
        · exact hall _ (by simp))
      refine ⟨fun vp W h2 h3 h4 => ?_, fun W h2 h3 h4 => ?_, by rw [lq]; exact hxn⟩
      · have := hCh vp p (f + n) m W (by omega) h2 h3 h4
        have e : chN x p seed a (f + n) m = q := by unfold chN; rw [if_pos h1, hpe, hqe]; exact goB_add _ _ _ _ _ _ _ _
        rw [h1, e, Int.natCast_add] at this
        exact this
      · have := hCh _ b f (n + m) W (by omega) h2 h3 h4
        rw [h0, ← hq, Int.natCast_add] at this
        exact this
    · refine ⟨by rw [hp]; unfold chN; rw [if_neg (by rw [← her]; exact h0)], ?_⟩
      rw [her] at h0 ⊢
      unfold badE at h0 ⊢
      split
      · split
        · rename_i h1 h2; rw [if_pos h1, if_pos h2] at h0; exact absurd rfl h0
        · exact .inl rfl
      · exact .inr rfl
  have hff : (f0.toNat : Int) % 16 = (f : Int) := by omega
  have hnn : (s0.toNat : Int) % (16 - (f : Int)) = (n : Int) := by
    rw [hn0, Int.natCast_emod, Int.natCast_sub (by omega)]
    rfl
  have hmm : (m0.toNat : Int) % (16 - (f : Int) - (n : Int)) = (m : Int) := by
    rw [hm0, Int.natCast_emod, Int.natCast_sub (by omega), Int.natCast_sub (by omega)]
    rfl
  have h16 : ¬ (16 : Int) - (f : Int) = 0 ∧ ¬ (16 : Int) - (f : Int) - (n : Int) = 0 := by omega
  have hfb := f0.toNat_lt
  have hsb := s0.toNat_lt
  have hmb := m0.toNat_lt
  clear hf0 hn0 hm0 hp hq her
  have HT : Shh (∀ W, Tabs W → Calls Tryd.prog 9 #[] W (TrueIs W)) := ⟨hlive⟩
  obtain ⟨W, hW⟩ : ∃ W, W = (w.alloc (.cells #[.int .u32 x.c, .bool x.s, .int .i64 x.n, .int .i64 x.h, .int .i64 x.l] 24)).alloc (.cells (wordCells a).toArray 27) := ⟨_, rfl⟩
  have HW : Shh (Row W w.heap.size 24 [.int .u32 x.c, .bool x.s, .int .i64 x.n, .int .i64 x.h, .int .i64 x.l] ∧ Row W (w.heap.size + 1) 27 (wordCells a) ∧ Sl W W.heap.size (.slice Ab b.length cb) b ∧ Sl W W.heap.size (.slice As seed.length cs) seed ∧ Tabs W ∧ Below w.heap.size w W) := by
    rw [hW]
    exact ⟨(Row.new_ rfl rfl).alloc _, Row.new_ (by rw [asz]) rfl, (hb.go (below1 _ _)).go (below1 _ _), (hs.go (below1 _ _)).go (below1 _ _), (ht.go (below1 _ _)).go (below1 _ _), Below.chain (below1 _ _) (below1 _ _)⟩
  clear hb hs ht hlive hCh
  have HA : Shh ((wordCells a).length = 8) := ⟨by rw [wordCells_length]; exact ha⟩
  unfold S5.v adrV at HP
  unfold S5.v adrV
  generalize wordCells a = L at HP HA HW hW ⊢
  generalize x.c = xc at *
  generalize x.s = xs at *
  generalize x.n = xn at *
  generalize x.h = xh at *
  generalize x.l = xl at *
  go_enter Tryd.func6, Tryd.ntmps6
  go_wp2_with fail
  rw [← hW]
  clear hW
  go_at_call 9
  refine (HT.out _ HW.out.2.2.2.2.1).mono ?_
  unfold TrueIs
  rintro e w2 ⟨rfl, b2⟩
  have H2 : Shh (Row w2 w.heap.size 24 [.int .u32 xc, .bool xs, .int .i64 xn, .int .i64 xh, .int .i64 xl] ∧ Row w2 (w.heap.size + 1) 27 L ∧ Sl w2 w2.heap.size (.slice Ab b.length cb) b ∧ Sl w2 w2.heap.size (.slice As seed.length cs) seed ∧ Tabs w2 ∧ Below w.heap.size w w2) := ⟨HW.out.1.go b2, HW.out.2.1.go b2, HW.out.2.2.1.go b2, HW.out.2.2.2.1.go b2, HW.out.2.2.2.2.1.go b2, Below.chain HW.out.2.2.2.2.2 b2⟩
  clear b2 HW
  cases hf : few10B [b, seed] with
  | false =>
    go_wp2_with (go_at_call 10; refine (few10_any (w2.heap.size + 1) (w2.heap.size + 1) _ [b, seed] _ (PartsO.two (q := w2.heap.size) (n := 2) (Nat.lt_succ_self _) (by omega) (Row.new_ rfl rfl) ((H2.out.2.2.1.below (below1 _ _)).more (by omega)) (H2.out.2.2.1.off (by omega)) ((H2.out.2.2.2.1.below (below1 _ _)).more (by omega)) (H2.out.2.2.2.1.off (by omega))) (by simp)).mono ?_)
    rw [hf]
    rintro e w3 ⟨rfl, rfl⟩
    have H3 : Shh (Tabs (w2.alloc (.cells #[.slice Ab b.length cb, .slice As seed.length cs] 25)) ∧ Below w.heap.size w (w2.alloc (.cells #[.slice Ab b.length cb, .slice As seed.length cs] 25))) := ⟨H2.out.2.2.2.2.1.go (below1 _ _), Below.chain H2.out.2.2.2.2.2 (below1 _ _)⟩
    clear H2 hf
    go_wp2_with (go_at_call 9; refine (HT.out _ H3.out.1).mono ?_)
    unfold TrueIs
    rintro e w4 ⟨rfl, b4⟩
    have H4 : Shh (Below w.heap.size w w4) := ⟨Below.chain H3.out.2 b4⟩
    clear b4 H3
    go_wp2
    go_ret
    exact ⟨rfl, H4.out⟩
  | true =>
    go_wp2_with (go_at_call 10; refine (few10_any (w2.heap.size + 1) (w2.heap.size + 1) _ [b, seed] _ (PartsO.two (q := w2.heap.size) (n := 2) (Nat.lt_succ_self _) (by omega) (Row.new_ rfl rfl) ((H2.out.2.2.1.below (below1 _ _)).more (by omega)) (H2.out.2.2.1.off (by omega)) ((H2.out.2.2.2.1.below (below1 _ _)).more (by omega)) (H2.out.2.2.2.1.off (by omega))) (by simp)).mono ?_)
    rw [hf]
    rintro e w3 ⟨rfl, rfl⟩
    have H3 : Shh (Row (w2.alloc (.cells #[.slice Ab b.length cb, .slice As seed.length cs] 25)) w.heap.size 24 [.int .u32 xc, .bool xs, .int .i64 xn, .int .i64 xh, .int .i64 xl] ∧ Row (w2.alloc (.cells #[.slice Ab b.length cb, .slice As seed.length cs] 25)) (w.heap.size + 1) 27 L ∧ Sl (w2.alloc (.cells #[.slice Ab b.length cb, .slice As seed.length cs] 25)) (w2.alloc (.cells #[.slice Ab b.length cb, .slice As seed.length cs] 25)).heap.size (.slice Ab b.length cb) b ∧ Sl (w2.alloc (.cells #[.slice Ab b.length cb, .slice As seed.length cs] 25)) (w2.alloc (.cells #[.slice Ab b.length cb, .slice As seed.length cs] 25)).heap.size (.slice As seed.length cs) seed ∧ Tabs (w2.alloc (.cells #[.slice Ab b.length cb, .slice As seed.length cs] 25)) ∧ Below w.heap.size w (w2.alloc (.cells #[.slice Ab b.length cb, .slice As seed.length cs] 25))) := ⟨H2.out.1.go (below1 _ _), H2.out.2.1.go (below1 _ _), H2.out.2.2.1.go (below1 _ _), H2.out.2.2.2.1.go (below1 _ _), H2.out.2.2.2.2.1.go (below1 _ _), Below.chain H2.out.2.2.2.2.2 (below1 _ _)⟩
    clear H2 hf HT
    generalize hZ : w2.alloc _ = Z3 at H3 ⊢
    clear hZ
    by_cases h0 : er = 0
    · subst h0
      obtain ⟨p1, p2, p3⟩ := HP.out.2.1 rfl
      have HP1 := Shh.mk HP.out.1
      have HP2 := Shh.mk p1
      have HP3 := Shh.mk p2
      have hpl : ((q.length : Int) == xn) = true := by simp [p3]
      clear p1 p2 p3 HP
      go_wp2_with (first | refine wpList_load_any rfl 24 (.tmp 7) rfl w.heap.size rfl 24 [.int .u32 xc, .bool xs, .int .i64 xn, .int .i64 xh, .int .i64 xl] _ H3.out.1 Tryd.underlying24 rfl info_xms ?_ | refine wpList_load_any rfl 27 (.tmp 13) rfl (w.heap.size + 1) rfl 27 L _ H3.out.2.1 Tryd.underlying27 rfl (info_adr10 HA.out) ?_ | (go_at_call 25; refine (HP1.out _ H3.out.2.2.2.2.1 H3.out.2.2.1 H3.out.2.2.2.1).mono ?_))
      rintro e w4 ⟨v4, rfl, s4, b4⟩
      obtain ⟨A4, c4, rfl, _, _⟩ := s4.form
      have HS := Shh.mk s4
      have H4 : Shh (Row w4 w.heap.size 24 [.int .u32 xc, .bool xs, .int .i64 xn, .int .i64 xh, .int .i64 xl] ∧ Row w4 (w.heap.size + 1) 27 L ∧ Sl w4 w4.heap.size (.slice Ab b.length cb) b ∧ Sl w4 w4.heap.size (.slice As seed.length cs) seed ∧ Tabs w4 ∧ Below w.heap.size w w4) := ⟨H3.out.1.go b4, H3.out.2.1.go b4, H3.out.2.2.1.go b4, H3.out.2.2.2.1.go b4, H3.out.2.2.2.2.1.go b4, Below.chain H3.out.2.2.2.2.2 b4⟩
      clear s4 b4 H3
      go_wp2_with (first | refine wpList_load_any rfl 24 (.tmp 7) rfl w.heap.size rfl 24 [.int .u32 xc, .bool xs, .int .i64 xn, .int .i64 xh, .int .i64 xl] _ H4.out.1 Tryd.underlying24 rfl info_xms ?_ | refine wpList_load_any rfl 27 (.tmp 13) rfl (w.heap.size + 1) rfl 27 L _ H4.out.2.1 Tryd.underlying27 rfl (info_adr10 HA.out) ?_ | (go_at_call 25; refine (HP2.out _ _ H4.out.2.2.2.2.1 HS.out H4.out.2.2.2.1).mono ?_))
      rintro e w5 ⟨v5, rfl, s5, b5⟩
      obtain ⟨A5, c5, rfl, _, _⟩ := s5.form
      have HS5 := Shh.mk s5
      have H5 : Shh (Row w5 w.heap.size 24 [.int .u32 xc, .bool xs, .int .i64 xn, .int .i64 xh, .int .i64 xl] ∧ Row w5 (w.heap.size + 1) 27 L ∧ Sl w5 w5.heap.size (.slice Ab b.length cb) b ∧ Sl w5 w5.heap.size (.slice As seed.length cs) seed ∧ Tabs w5 ∧ Below w.heap.size w w5) := ⟨H4.out.1.go b5, H4.out.2.1.go b5, H4.out.2.2.1.go b5, H4.out.2.2.2.1.go b5, H4.out.2.2.2.2.1.go b5, Below.chain H4.out.2.2.2.2.2 b5⟩
      clear s5 b5 H4 HS
      go_wp2_with (first | refine wpList_load_any rfl 24 (.tmp 7) rfl w.heap.size rfl 24 [.int .u32 xc, .bool xs, .int .i64 xn, .int .i64 xh, .int .i64 xl] _ H5.out.1 Tryd.underlying24 rfl info_xms ?_ | refine wpList_load_any rfl 27 (.tmp 13) rfl (w.heap.size + 1) rfl 27 L _ H5.out.2.1 Tryd.underlying27 rfl (info_adr10 HA.out) ?_ | (go_at_call 25; refine (HP3.out _ H5.out.2.2.2.2.1 H5.out.2.2.1 H5.out.2.2.2.1).mono ?_))
      rintro e w6 ⟨v6, rfl, s6, b6⟩
      obtain ⟨A6, c6, rfl, _, _⟩ := s6.form
      have HS6 : Shh (Sl w6 w6.heap.size (.slice A5 q.length c5) q ∧ Sl w6 w6.heap.size (.slice A6 q.length c6) q ∧ Below w.heap.size w w6) := ⟨HS5.out.go b6, s6, Below.chain H5.out.2.2.2.2.2 b6⟩
      have e2 := (H5.out.1.go b6).cell 2
      simp only [List.getElem?_cons_succ, List.getElem?_cons_zero] at e2
      have hob : (q == q) = true := by simp
      clear s6 b6 H5 HS5 HP1 HP2 HP3
      go_wp2_with (go_at_call 12; refine (refEqual_any w6.heap.size w6.heap.size _ _ q q _ HS6.out.1 HS6.out.2.1).mono ?_)
      rintro e w7 ⟨rfl, rfl⟩
      rw [hob]
      go_wp2
      go_ret
      exact ⟨rfl, HS6.out.2.2⟩
    · obtain ⟨hs0, he⟩ := HP.out.2.2 h0
      have HP1 := Shh.mk HP.out.1
      have hne : (er != (0 : Int)) = true := by simpa using h0
      clear h0 HP
      subst hs0
      rcases he with rfl | rfl
      · go_wp2_with (first | refine wpList_load_any rfl 24 (.tmp 7) rfl w.heap.size rfl 24 [.int .u32 xc, .bool xs, .int .i64 xn, .int .i64 xh, .int .i64 xl] _ H3.out.1 Tryd.underlying24 rfl info_xms ?_ | refine wpList_load_any rfl 27 (.tmp 13) rfl (w.heap.size + 1) rfl 27 L _ H3.out.2.1 Tryd.underlying27 rfl (info_adr10 HA.out) ?_ | (go_at_call 25; refine (HP1.out _ H3.out.2.2.2.2.1 H3.out.2.2.1 H3.out.2.2.2.1).mono ?_))
        rintro e w4 ⟨v4, rfl, s4, b4⟩
        obtain ⟨A4, c4, rfl, _, _⟩ := s4.form
        have H4 : Shh (Below w.heap.size w w4) := ⟨Below.chain H3.out.2.2.2.2.2 b4⟩
        clear s4 b4 H3 HP1
        go_wp2
        go_ret
        exact ⟨rfl, H4.out⟩
      · go_wp2_with (first | refine wpList_load_any rfl 24 (.tmp 7) rfl w.heap.size rfl 24 [.int .u32 xc, .bool xs, .int .i64 xn, .int .i64 xh, .int .i64 xl] _ H3.out.1 Tryd.underlying24 rfl info_xms ?_ | refine wpList_load_any rfl 27 (.tmp 13) rfl (w.heap.size + 1) rfl 27 L _ H3.out.2.1 Tryd.underlying27 rfl (info_adr10 HA.out) ?_ | (go_at_call 25; refine (HP1.out _ H3.out.2.2.2.2.1 H3.out.2.2.1 H3.out.2.2.2.1).mono ?_))
        rintro e w4 ⟨v4, rfl, s4, b4⟩
        obtain ⟨A4, c4, rfl, _, _⟩ := s4.form
        have H4 : Shh (Below w.heap.size w w4) := ⟨Below.chain H3.out.2.2.2.2.2 b4⟩
        clear s4 b4 H3 HP1
        go_wp2
        go_ret
        exact ⟨rfl, H4.out⟩
end Go.Proofs.YtobbbljnkdfkeaaDoor
