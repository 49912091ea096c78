/-
  LAW over contracts of the program's own functions: Below.
-/
import Derived.Test.YtobbbljnkdfkeaaDoorWs15
namespace Go.Proofs.YtobbbljnkdfkeaaDoor
open Go.RowKit
set_option maxRecDepth 100000
/-- each digit of the one is at least the other's -/
def geL : List Nat → List Nat → Prop
  | [], [] => True
  | d :: r, e :: s => e ≤ d ∧ geL r s
  | _, _ => False
theorem geL_of : ∀ (l m : List Nat), l.length = m.length → (∀ i, i < l.length → m.getD i 0 ≤ l.getD i 0) → geL l m
  | [], [], _, _ => trivial
  | [], _ :: _, h, _ => by simp at h
  | _ :: _, [], h, _ => by simp at h
  | d :: r, e :: s, h, hi => by
    refine ⟨by simpa using hi 0 (by simp), geL_of r s (by simpa using h) fun i hl => ?_⟩
    have := hi (i + 1) (by simpa using hl)
    simpa using this
theorem geL_append : ∀ (a c b d : List Nat), a.length = c.length → geL (a ++ b) (c ++ d) → geL a c ∧ geL b d
  | [], [], _, _, _, h => ⟨trivial, h⟩
  | [], _ :: _, _, _, h, _ => by simp at h
  | _ :: _, [], _, _, h, _ => by simp at h
  | x :: a, y :: c, b, d, hl, h => by
    have h' : y ≤ x ∧ geL (a ++ b) (c ++ d) := h
    have h2 := geL_append a c b d (by simpa using hl) h'.2
    exact ⟨⟨h'.1, h2.1⟩, h2.2⟩
theorem geL_len : ∀ (l m : List Nat), geL l m → l.length = m.length
  | [], [], _ => rfl
  | [], _ :: _, h => h.elim
  | _ :: _, [], h => h.elim
  | _ :: r, _ :: s, h => by
    have h' : _ ∧ geL r s := h
    simp [geL_len r s h'.2]
theorem hxL_cons (x : UInt8) (r : List UInt8) : hxL (x :: r) = x.toNat / 16 :: x.toNat % 16 :: hxL r := rfl
theorem csL_cons (x : UInt8) (r : List UInt8) : csL (x :: r) = (30 - x.toNat / 16 - x.toNat % 16) + csL r := by simp [csL]
theorem cs_ge : ∀ (bs cs : List UInt8), bs.length = cs.length → geL (hxL bs) (hxL cs) → csL bs ≤ csL cs ∧ (csL bs = csL cs → bs = cs)
  | [], [], _, _ => ⟨Nat.le_refl _, fun _ => rfl⟩
  | [], _ :: _, h, _ => by simp at h
  | _ :: _, [], h, _ => by simp at h
  | x :: r, y :: s, hl, h => by
    rw [hxL_cons, hxL_cons] at h
    have h1 : y.toNat / 16 ≤ x.toNat / 16 ∧ (y.toNat % 16 ≤ x.toNat % 16 ∧ geL (hxL r) (hxL s)) := h
    have ih := cs_ge r s (by simpa using hl) h1.2.2
    have hx := x.toNat_lt
    have hy := y.toNat_lt
    rw [csL_cons, csL_cons]
    refine ⟨by omega, fun he => ?_⟩
    have e1 : x = y := UInt8.toNat_inj.1 (by omega)
    have e2 : csL r = csL s := by omega
    rw [e1, ih.2 e2]
/-- digits that are nowhere less are the same text's -/
theorem below10 {m o : List UInt8} (hl : m.length = o.length) (h : ∀ i, i < (dig10 m).length → (dig10 o).getD i 0 ≤ (dig10 m).getD i 0) : m = o := by
  have hg := geL_of (dig10 m) (dig10 o) (by rw [dig10_length, dig10_length, hl]) h
  unfold dig10 at hg
  obtain ⟨g1, g2⟩ := geL_append (hxL m) (hxL o) _ _ (by rw [hxL_length, hxL_length, hl]) hg
  have c1 := cs_ge m o hl g1
  have g3 : csL o / 256 ≤ csL m / 256 ∧ (csL o / 16 % 16 ≤ csL m / 16 % 16 ∧ (csL o % 16 ≤ csL m % 16 ∧ True)) := g2
  exact c1.2 (by omega)
/-- has the one a digit among the first k that is less? -/
def lessK (A B : List Nat) (k : Nat) : Bool := (List.range k).any fun i => decide (A.getD i 0 < B.getD i 0)
theorem lessK_step (A B : List Nat) (k : Nat) : lessK A B (k + 1) = (lessK A B k || decide (A.getD k 0 < B.getD k 0)) := by
  unfold lessK
  rw [List.range_succ, List.any_append]
  simp
theorem lessK_self (A : List Nat) (k : Nat) : lessK A A k = false := by
  unfold lessK
  rw [List.any_eq_false]
  intro i _
  simp
theorem lessK_all {m o : List UInt8} (hl : m.length = o.length) (h : m ≠ o) : lessK (dig10 m) (dig10 o) (dig10 m).length = true := by
  cases hb : lessK (dig10 m) (dig10 o) (dig10 m).length with
  | true => rfl
  | false =>
    exfalso
    refine h (below10 hl fun i hi => ?_)
    unfold lessK at hb
    rw [List.any_eq_false] at hb
    have := hb i (List.mem_range.2 hi)
    simp only [decide_eq_true_eq] at this
    omega
theorem dig10_inj {m o : List UInt8} (hl : m.length = o.length) (h : dig10 m = dig10 o) : m = o := below10 hl fun i _ => by rw [h]; exact Nat.le_refl _
set_option maxHeartbeats 2000000 in
theorem wotsBelow_of (x : S5) (_hw : x.wf) (vm : Value) (vo : Value) (m o : List UInt8) (w : World) (hm : Sl w w.heap.size vm m) (ho : Sl w w.heap.size vo o) (ht : Tabs w)
    (hlive : ∀ W, Tabs W → Calls Tryd.prog 9 #[] W (TrueIs W))
    (hD : ∀ (vy : Value) (y : List UInt8) W, Tabs W → Sl W W.heap.size vy y → Calls Tryd.prog 20 #[x.v, vy] W (ResI W (badE x [y]) (askD x y))) :
    Calls Tryd.prog 7 #[x.v, vm, vo] w (TrueIs w) := by
  unfold TrueIs
  obtain ⟨Am, cm, rfl, _, _⟩ := hm.form
  obtain ⟨Ao, co, rfl, _, _⟩ := ho.form
  obtain ⟨A, hA⟩ : ∃ A, A = askD x m := ⟨_, rfl⟩
  obtain ⟨B, hB⟩ : ∃ B, B = askD x o := ⟨_, rfl⟩
  obtain ⟨e1, he1⟩ : ∃ e, e = badE x [m] := ⟨_, rfl⟩
  obtain ⟨e2, he2⟩ : ∃ e, e = badE x [o] := ⟨_, rfl⟩
  have HP : Shh ((∀ W, Tabs W → Sl W W.heap.size (.slice Am m.length cm) m → Calls Tryd.prog 20 #[x.v, .slice Am m.length cm] W (ResI W e1 A)) ∧ (∀ W, Tabs W → Sl W W.heap.size (.slice Ao o.length co) o → Calls Tryd.prog 20 #[x.v, .slice Ao o.length co] W (ResI W e2 B))) := ⟨by rw [hA, he1]; exact fun W => hD _ m W, by rw [hB, he2]; exact fun W => hD _ o W⟩
  have HF : Shh ((e1 ≠ 0 → A = []) ∧ (e2 ≠ 0 → B = []) ∧ (e1 = 0 → e2 = 0 → A.length = B.length ∧ A.length ≤ 100 ∧ 0 < A.length ∧ decide (A = B) = (m == o) ∧ (m = o → lessK A B A.length = false ∧ lessK B A A.length = false) ∧ (m ≠ o → lessK A B A.length = true ∧ lessK B A A.length = true))) := by
    refine ⟨fun h => by rw [hA]; unfold askD; rw [if_neg (by rw [← he1]; exact h)], fun h => by rw [hB]; unfold askD; rw [if_neg (by rw [← he2]; exact h)], fun h1 h2 => ?_⟩
    rw [he1] at h1
    rw [he2] at h2
    obtain ⟨hx, hm1⟩ := badE_ok h1
    have hm := hm1 m (by simp)
    have ho := (badE_ok h2).2 o (by simp)
    have hl : m.length = o.length := by omega
    have hml : m.length ≤ 32 := by rcases ok_n hx with h | h <;> omega
    have eA : A = dig10 m := by rw [hA]; unfold askD; rw [if_pos h1]
    have eB : B = dig10 o := by rw [hB]; unfold askD; rw [if_pos h2]
    have lA : A.length = 2 * m.length + 3 := by rw [eA, dig10_length]
    have lB : B.length = 2 * o.length + 3 := by rw [eB, dig10_length]
    refine ⟨by omega, by omega, by omega, ?_, fun h => ?_, fun h => ?_⟩
    · by_cases h : m = o
      · rw [eA, eB, h]; simp
      · have hne : ¬ A = B := fun hh => h (dig10_inj hl (by rw [← eA, ← eB]; exact hh))
        rw [decide_eq_false hne]
        simp [h]
    · rw [eA, eB, h]
      exact ⟨lessK_self _ _, lessK_self _ _⟩
    · rw [eA, eB]
      refine ⟨lessK_all hl h, ?_⟩
      have := lessK_all hl.symm (fun hh => h hh.symm)
      rw [dig10_length, ← hl, ← dig10_length] at this
      exact this
  clear hA hB he1 he2
  have HT : Shh (∀ W, Tabs W → Calls Tryd.prog 9 #[] W (TrueIs W)) := ⟨hlive⟩
  obtain ⟨W, hW⟩ : ∃ W, W = w.alloc (.cells #[.int .u32 x.c, .bool x.s, .int .i64 x.n, .int .i64 x.h, .int .i64 x.l] 24) := ⟨_, rfl⟩
  have HW : Shh (Row W w.heap.size 24 [.int .u32 x.c, .bool x.s, .int .i64 x.n, .int .i64 x.h, .int .i64 x.l] ∧ Sl W W.heap.size (.slice Am m.length cm) m ∧ Sl W W.heap.size (.slice Ao o.length co) o ∧ Tabs W ∧ Below w.heap.size w W) := by
    rw [hW]
    exact ⟨Row.new_ rfl rfl, hm.go (below1 _ _), ho.go (below1 _ _), ht.go (below1 _ _), below1 _ _⟩
  clear hm ho ht hlive hD
  unfold S5.v at HP
  unfold S5.v
  generalize x.c = xc at *
  generalize x.s = xs at *
  generalize x.n = xn at *
  generalize x.h = xh at *
  generalize x.l = xl at *
  go_enter Tryd.func7, Tryd.ntmps7
  go_wp2_with fail
  rw [← hW]
  clear hW
  go_at_call 9
  refine (HT.out _ HW.out.2.2.2.1).mono ?_
  unfold TrueIs
  rintro e w2 ⟨rfl, b2⟩
  have H2 : Shh (Row w2 w.heap.size 24 [.int .u32 xc, .bool xs, .int .i64 xn, .int .i64 xh, .int .i64 xl] ∧ Sl w2 w2.heap.size (.slice Am m.length cm) m ∧ Sl w2 w2.heap.size (.slice Ao o.length co) o ∧ Tabs w2 ∧ Below w.heap.size w w2) := ⟨HW.out.1.go b2, HW.out.2.1.go b2, HW.out.2.2.1.go b2, HW.out.2.2.2.1.go b2, Below.chain HW.out.2.2.2.2 b2⟩
  clear b2 HW
  cases hf : few10B [m, o] with
  | false =>
    go_wp2_with (go_at_call 10; refine (few10_any (w2.heap.size + 1) (w2.heap.size + 1) _ [m, o] _ (PartsO.two (q := w2.heap.size) (n := 2) (Nat.lt_succ_self _) (by omega) (Row.new_ rfl rfl) ((H2.out.2.1.below (below1 _ _)).more (by omega)) (H2.out.2.1.off (by omega)) ((H2.out.2.2.1.below (below1 _ _)).more (by omega)) (H2.out.2.2.1.off (by omega))) (by simp)).mono ?_)
    rw [hf]
    rintro e w3 ⟨rfl, rfl⟩
    have H3 : Shh (Tabs (w2.alloc (.cells #[.slice Am m.length cm, .slice Ao o.length co] 25)) ∧ Below w.heap.size w (w2.alloc (.cells #[.slice Am m.length cm, .slice Ao o.length co] 25))) := ⟨H2.out.2.2.2.1.go (below1 _ _), Below.chain H2.out.2.2.2.2 (below1 _ _)⟩
    clear H2 hf
    go_wp2_with (go_at_call 9; refine (HT.out _ H3.out.1).mono ?_)
    unfold TrueIs
    rintro e w4 ⟨rfl, b4⟩
    have H4 : Shh (Below w.heap.size w w4) := ⟨Below.chain H3.out.2 b4⟩
    clear b4 H3
    go_wp2
    go_ret
    exact ⟨rfl, H4.out⟩
  | true =>
    go_wp2_with (go_at_call 10; refine (few10_any (w2.heap.size + 1) (w2.heap.size + 1) _ [m, o] _ (PartsO.two (q := w2.heap.size) (n := 2) (Nat.lt_succ_self _) (by omega) (Row.new_ rfl rfl) ((H2.out.2.1.below (below1 _ _)).more (by omega)) (H2.out.2.1.off (by omega)) ((H2.out.2.2.1.below (below1 _ _)).more (by omega)) (H2.out.2.2.1.off (by omega))) (by simp)).mono ?_)
    rw [hf]
    rintro e w3 ⟨rfl, rfl⟩
    have H3 : Shh (Row (w2.alloc (.cells #[.slice Am m.length cm, .slice Ao o.length co] 25)) w.heap.size 24 [.int .u32 xc, .bool xs, .int .i64 xn, .int .i64 xh, .int .i64 xl] ∧ Sl (w2.alloc (.cells #[.slice Am m.length cm, .slice Ao o.length co] 25)) (w2.alloc (.cells #[.slice Am m.length cm, .slice Ao o.length co] 25)).heap.size (.slice Am m.length cm) m ∧ Sl (w2.alloc (.cells #[.slice Am m.length cm, .slice Ao o.length co] 25)) (w2.alloc (.cells #[.slice Am m.length cm, .slice Ao o.length co] 25)).heap.size (.slice Ao o.length co) o ∧ Tabs (w2.alloc (.cells #[.slice Am m.length cm, .slice Ao o.length co] 25)) ∧ Below w.heap.size w (w2.alloc (.cells #[.slice Am m.length cm, .slice Ao o.length co] 25))) := ⟨H2.out.1.go (below1 _ _), H2.out.2.1.go (below1 _ _), H2.out.2.2.1.go (below1 _ _), H2.out.2.2.2.1.go (below1 _ _), Below.chain H2.out.2.2.2.2 (below1 _ _)⟩
    clear H2 hf HT
    generalize hZ : w2.alloc _ = Z3 at H3 ⊢
    clear hZ
    have HP1 := Shh.mk HP.out.1
    have HP2 := Shh.mk HP.out.2
    clear HP
    go_wp2_with (first | refine wpList_load_any rfl 24 (.tmp 3) rfl w.heap.size rfl 24 [.int .u32 xc, .bool xs, .int .i64 xn, .int .i64 xh, .int .i64 xl] _ H3.out.1 Tryd.underlying24 rfl info_xms ?_ | (go_at_call 20; refine (HP1.out _ H3.out.2.2.2.1 H3.out.2.1).mono ?_))
    rintro e w4 ⟨v4, rfl, s4, b4⟩
    obtain ⟨A4, c4, rfl, _, _⟩ := s4.form
    have HS := Shh.mk s4
    have H4 : Shh (Row w4 w.heap.size 24 [.int .u32 xc, .bool xs, .int .i64 xn, .int .i64 xh, .int .i64 xl] ∧ Sl w4 w4.heap.size (.slice Am m.length cm) m ∧ Sl w4 w4.heap.size (.slice Ao o.length co) o ∧ Tabs w4 ∧ Below w.heap.size w w4) := ⟨H3.out.1.go b4, H3.out.2.1.go b4, H3.out.2.2.1.go b4, H3.out.2.2.2.1.go b4, Below.chain H3.out.2.2.2.2 b4⟩
    clear s4 b4 H3
    go_wp2_with (first | refine wpList_load_any rfl 24 (.tmp 3) rfl w.heap.size rfl 24 [.int .u32 xc, .bool xs, .int .i64 xn, .int .i64 xh, .int .i64 xl] _ H4.out.1 Tryd.underlying24 rfl info_xms ?_ | (go_at_call 20; refine (HP2.out _ H4.out.2.2.2.1 H4.out.2.2.1).mono ?_))
    rintro e w5 ⟨v5, rfl, s5, b5⟩
    obtain ⟨A5, c5, rfl, _, _⟩ := s5.form
    have H5 : Shh (Row w5 w.heap.size 24 [.int .u32 xc, .bool xs, .int .i64 xn, .int .i64 xh, .int .i64 xl] ∧ Sl w5 w5.heap.size (.slice Am m.length cm) m ∧ Sl w5 w5.heap.size (.slice Ao o.length co) o ∧ Tabs w5 ∧ Below w.heap.size w w5) := ⟨H4.out.1.go b5, H4.out.2.1.go b5, H4.out.2.2.1.go b5, H4.out.2.2.2.1.go b5, Below.chain H4.out.2.2.2.2 b5⟩
    have HS5 : Shh (SI w5 w5.heap.size (.slice A4 A.length c4) A ∧ SI w5 w5.heap.size (.slice A5 B.length c5) B) := ⟨HS.out.go b5, s5⟩
    clear s5 b5 H4 HS HP1 HP2
    by_cases h1 : e1 = 0
    rotate_left
    · have hA0 := HF.out.1 h1
      have hne : (e1 != (0 : Int)) = true := by simpa using h1
      have HB : Shh (Below w.heap.size w w5) := ⟨H5.out.2.2.2.2⟩
      subst hA0
      clear H5 HS5 HF h1
      go_wp2
      go_ret
      exact ⟨rfl, HB.out⟩
    subst h1
    by_cases h2 : e2 = 0
    rotate_left
    · have hB0 := HF.out.2.1 h2
      have hne : (e2 != (0 : Int)) = true := by simpa using h2
      have HB : Shh (Below w.heap.size w w5) := ⟨H5.out.2.2.2.2⟩
      subst hB0
      clear H5 HS5 HF h2
      by_cases hz : A.length = 0
      · have hz2 : ((A.length : Int) == 0) = true := by simp [hz]
        go_wp2
        go_ret
        exact ⟨by first | rfl | simp, HB.out⟩
      · have hz2 : ((A.length : Int) == 0) = false := by rw [beq_eq_false_iff_ne]; omega
        go_wp2
        go_ret
        exact ⟨rfl, HB.out⟩
    subst h2
    obtain ⟨k1, k2, k3, k4, k5, k6⟩ := HF.out.2.2 rfl rfl
    have HK : Shh ((m = o → lessK A B A.length = false ∧ lessK B A A.length = false) ∧ (m ≠ o → lessK A B A.length = true ∧ lessK B A A.length = true)) := ⟨k5, k6⟩
    have HLE : Shh (A.length = B.length) := ⟨k1⟩
    have HEQ : Shh (decide (A = B) = (m == o)) := ⟨k4⟩
    have hlen : ((A.length : Int) != (B.length : Int)) = false := by simp [k1]
    clear HF k1 k4 k5 k6
    go_wp2_with (go_at_call 22; refine (equal_ints _ _ A B _ HS5.out.1 HS5.out.2 (by omega) (by rw [← HLE.out]; omega)).mono ?_)
    rw [HEQ.out]
    unfold OldIs
    rintro e w6 ⟨rfl, b6⟩
    have H6 : Shh (Row w6 w.heap.size 24 [.int .u32 xc, .bool xs, .int .i64 xn, .int .i64 xh, .int .i64 xl] ∧ Sl w6 w6.heap.size (.slice Am m.length cm) m ∧ Sl w6 w6.heap.size (.slice Ao o.length co) o ∧ Tabs w6 ∧ Below w.heap.size w w6) := ⟨H5.out.1.go b6, H5.out.2.1.go b6, H5.out.2.2.1.go b6, H5.out.2.2.2.1.go b6, Below.chain H5.out.2.2.2.2 b6⟩
    have HS6 : Shh (SI w6 w6.heap.size (.slice A4 A.length c4) A ∧ SI w6 w6.heap.size (.slice A5 B.length c5) B) := ⟨HS5.out.1.go b6, HS5.out.2.go b6⟩
    clear b6 H5 HS5
    obtain ⟨eq, heq⟩ : ∃ eq, eq = (m == o) := ⟨_, rfl⟩
    rw [← heq]
    have HEQ2 := Shh.mk heq
    go_wp2_with (go_at_call 12; refine (refEqual_any w6.heap.size w6.heap.size _ _ m o _ H6.out.2.1 H6.out.2.2.1).mono ?_)
    rintro e w7 ⟨rfl, rfl⟩
    rw [← heq]
    clear heq
    have hee : (eq != eq) = false := by simp
    go_wp2
    go_loopw [11, 12, 66] (fun p q i wr => ∃ (k : Nat) (s t : Bool), k ≤ A.length ∧ p = .bool s ∧ q = .bool t ∧ i = .int .i64 (k : Int) ∧ Shh (s = lessK A B k ∧ t = lessK B A k ∧ Below w6.heap.size w6 wr)) (fun _ _ i _ => A.length - (intOf i).toNat)
    case atStart => exact ⟨0, false, false, Nat.zero_le _, rfl, rfl, rfl, ⟨rfl, rfl, Below.refl _ _⟩⟩
    case round =>
      obtain ⟨k, s, t, hk, rfl, rfl, rfl, HL⟩ := hrel
      by_cases hlt : k < A.length
      · obtain ⟨g1, rfl, hg10, hg1, hc1⟩ := (HS6.out.1.go HL.out.2.2).at_ (by omega)
        obtain ⟨g2, rfl, hg20, hg2, hc2⟩ := (HS6.out.2.go HL.out.2.2).at_ (by rw [← HLE.out]; omega)
        have hkb : k < B.length := by rw [← HLE.out]; exact hlt
        have hx := hc1 k hlt
        have hy := hc2 k hkb
        have HST : Shh (lessK A B (k + 1) = (s || decide (A[k] < B[k])) ∧ lessK B A (k + 1) = (t || decide (B[k] < A[k]))) := by
          have eA : A.getD k 0 = A[k] := by rw [List.getD_eq_getElem?_getD, List.getElem?_eq_getElem hlt]; rfl
          have eB : B.getD k 0 = B[k] := by rw [List.getD_eq_getElem?_getD, List.getElem?_eq_getElem hkb]; rfl
          refine ⟨?_, ?_⟩
          · rw [lessK_step, eA, eB, HL.out.1]
          · rw [lessK_step, eA, eB, HL.out.2.1]
        have HLB : Shh (Below w6.heap.size w6 wr) := ⟨HL.out.2.2⟩
        clear hc1 hc2 HL
        generalize A[k] = d1 at hx HST
        generalize B[k] = d2 at hy HST
        have hki : (k : Int) < (B.length : Int) := by omega
        clear HEQ HEQ2 HK HLE HS6 H6
        go_wp2_with fail
        rcases Nat.lt_trichotomy d1 d2 with hd | hd | hd
        · have i1 : (d1 : Int) < (d2 : Int) := by omega
          have i2 : ¬ (d2 : Int) < (d1 : Int) := by omega
          cases s with
          | false =>
            cases t with
            | false =>
              go_quiet (fail)
              go_wp2_with fail
              go_quiet (fail)
              have HR : Shh (true = lessK A B (k + 1) ∧ false = lessK B A (k + 1)) := ⟨by rw [HST.out.1]; simp <;> omega, by rw [HST.out.2]; simp <;> omega⟩
              clear hx hy HST
              go_wp2
              go_roundw
              case rel => exact ⟨k + 1, true, false, by omega, by first | rfl | exact congrArg Value.bool (decide_eq_false (by omega)) | exact congrArg Value.bool (decide_eq_true (by omega)), by first | rfl | exact congrArg Value.bool (decide_eq_false (by omega)) | exact congrArg Value.bool (decide_eq_true (by omega)), by go_num, ⟨HR.out.1, HR.out.2, below_drewN10 HLB.out _⟩⟩
              case measure => simp [intOf]; omega
            | true =>
              go_quiet (fail)
              go_wp2_with fail
              go_quiet (fail)
              have HR : Shh (true = lessK A B (k + 1) ∧ true = lessK B A (k + 1)) := ⟨by rw [HST.out.1]; simp <;> omega, by rw [HST.out.2]; simp <;> omega⟩
              clear hx hy HST
              go_wp2
              go_roundw
              case rel => exact ⟨k + 1, true, true, by omega, by first | rfl | exact congrArg Value.bool (decide_eq_false (by omega)) | exact congrArg Value.bool (decide_eq_true (by omega)), by first | rfl | exact congrArg Value.bool (decide_eq_false (by omega)) | exact congrArg Value.bool (decide_eq_true (by omega)), by go_num, ⟨HR.out.1, HR.out.2, below_drewN10 HLB.out _⟩⟩
              case measure => simp [intOf]; omega
          | true =>
            cases t with
            | false =>
              go_quiet (fail)
              go_wp2_with fail
              go_quiet (fail)
              have HR : Shh (true = lessK A B (k + 1) ∧ false = lessK B A (k + 1)) := ⟨by rw [HST.out.1]; simp <;> omega, by rw [HST.out.2]; simp <;> omega⟩
              clear hx hy HST
              go_wp2
              go_roundw
              case rel => exact ⟨k + 1, true, false, by omega, by first | rfl | exact congrArg Value.bool (decide_eq_false (by omega)) | exact congrArg Value.bool (decide_eq_true (by omega)), by first | rfl | exact congrArg Value.bool (decide_eq_false (by omega)) | exact congrArg Value.bool (decide_eq_true (by omega)), by go_num, ⟨HR.out.1, HR.out.2, below_drewN10 HLB.out _⟩⟩
              case measure => simp [intOf]; omega
            | true =>
              go_quiet (fail)
              go_wp2_with fail
              go_quiet (fail)
              have HR : Shh (true = lessK A B (k + 1) ∧ true = lessK B A (k + 1)) := ⟨by rw [HST.out.1]; simp <;> omega, by rw [HST.out.2]; simp <;> omega⟩
              clear hx hy HST
              go_wp2
              go_roundw
              case rel => exact ⟨k + 1, true, true, by omega, by first | rfl | exact congrArg Value.bool (decide_eq_false (by omega)) | exact congrArg Value.bool (decide_eq_true (by omega)), by first | rfl | exact congrArg Value.bool (decide_eq_false (by omega)) | exact congrArg Value.bool (decide_eq_true (by omega)), by go_num, ⟨HR.out.1, HR.out.2, below_drewN10 HLB.out _⟩⟩
              case measure => simp [intOf]; omega
        · have i1 : ¬ (d1 : Int) < (d2 : Int) := by omega
          have i2 : ¬ (d2 : Int) < (d1 : Int) := by omega
          cases s with
          | false =>
            cases t with
            | false =>
              go_quiet (fail)
              go_wp2_with fail
              go_quiet (fail)
              have HR : Shh (false = lessK A B (k + 1) ∧ false = lessK B A (k + 1)) := ⟨by rw [HST.out.1]; simp <;> omega, by rw [HST.out.2]; simp <;> omega⟩
              clear hx hy HST
              go_wp2
              go_roundw
              case rel => exact ⟨k + 1, false, false, by omega, by first | rfl | exact congrArg Value.bool (decide_eq_false (by omega)) | exact congrArg Value.bool (decide_eq_true (by omega)), by first | rfl | exact congrArg Value.bool (decide_eq_false (by omega)) | exact congrArg Value.bool (decide_eq_true (by omega)), by go_num, ⟨HR.out.1, HR.out.2, below_drewN10 HLB.out _⟩⟩
              case measure => simp [intOf]; omega
            | true =>
              go_quiet (fail)
              go_wp2_with fail
              go_quiet (fail)
              have HR : Shh (false = lessK A B (k + 1) ∧ true = lessK B A (k + 1)) := ⟨by rw [HST.out.1]; simp <;> omega, by rw [HST.out.2]; simp <;> omega⟩
              clear hx hy HST
              go_wp2
              go_roundw
              case rel => exact ⟨k + 1, false, true, by omega, by first | rfl | exact congrArg Value.bool (decide_eq_false (by omega)) | exact congrArg Value.bool (decide_eq_true (by omega)), by first | rfl | exact congrArg Value.bool (decide_eq_false (by omega)) | exact congrArg Value.bool (decide_eq_true (by omega)), by go_num, ⟨HR.out.1, HR.out.2, below_drewN10 HLB.out _⟩⟩
              case measure => simp [intOf]; omega
          | true =>
            cases t with
            | false =>
              go_quiet (fail)
              go_wp2_with fail
              go_quiet (fail)
              have HR : Shh (true = lessK A B (k + 1) ∧ false = lessK B A (k + 1)) := ⟨by rw [HST.out.1]; simp <;> omega, by rw [HST.out.2]; simp <;> omega⟩
              clear hx hy HST
              go_wp2
              go_roundw
              case rel => exact ⟨k + 1, true, false, by omega, by first | rfl | exact congrArg Value.bool (decide_eq_false (by omega)) | exact congrArg Value.bool (decide_eq_true (by omega)), by first | rfl | exact congrArg Value.bool (decide_eq_false (by omega)) | exact congrArg Value.bool (decide_eq_true (by omega)), by go_num, ⟨HR.out.1, HR.out.2, below_drewN10 HLB.out _⟩⟩
              case measure => simp [intOf]; omega
            | true =>
              go_quiet (fail)
              go_wp2_with fail
              go_quiet (fail)
              have HR : Shh (true = lessK A B (k + 1) ∧ true = lessK B A (k + 1)) := ⟨by rw [HST.out.1]; simp <;> omega, by rw [HST.out.2]; simp <;> omega⟩
              clear hx hy HST
              go_wp2
              go_roundw
              case rel => exact ⟨k + 1, true, true, by omega, by first | rfl | exact congrArg Value.bool (decide_eq_false (by omega)) | exact congrArg Value.bool (decide_eq_true (by omega)), by first | rfl | exact congrArg Value.bool (decide_eq_false (by omega)) | exact congrArg Value.bool (decide_eq_true (by omega)), by go_num, ⟨HR.out.1, HR.out.2, below_drewN10 HLB.out _⟩⟩
              case measure => simp [intOf]; omega
        · have i1 : ¬ (d1 : Int) < (d2 : Int) := by omega
          have i2 : (d2 : Int) < (d1 : Int) := by omega
          cases s with
          | false =>
            cases t with
            | false =>
              go_quiet (fail)
              go_wp2_with fail
              go_quiet (fail)
              have HR : Shh (false = lessK A B (k + 1) ∧ true = lessK B A (k + 1)) := ⟨by rw [HST.out.1]; simp <;> omega, by rw [HST.out.2]; simp <;> omega⟩
              clear hx hy HST
              go_wp2
              go_roundw
              case rel => exact ⟨k + 1, false, true, by omega, by first | rfl | exact congrArg Value.bool (decide_eq_false (by omega)) | exact congrArg Value.bool (decide_eq_true (by omega)), by first | rfl | exact congrArg Value.bool (decide_eq_false (by omega)) | exact congrArg Value.bool (decide_eq_true (by omega)), by go_num, ⟨HR.out.1, HR.out.2, below_drewN10 HLB.out _⟩⟩
              case measure => simp [intOf]; omega
            | true =>
              go_quiet (fail)
              go_wp2_with fail
              go_quiet (fail)
              have HR : Shh (false = lessK A B (k + 1) ∧ true = lessK B A (k + 1)) := ⟨by rw [HST.out.1]; simp <;> omega, by rw [HST.out.2]; simp <;> omega⟩
              clear hx hy HST
              go_wp2
              go_roundw
              case rel => exact ⟨k + 1, false, true, by omega, by first | rfl | exact congrArg Value.bool (decide_eq_false (by omega)) | exact congrArg Value.bool (decide_eq_true (by omega)), by first | rfl | exact congrArg Value.bool (decide_eq_false (by omega)) | exact congrArg Value.bool (decide_eq_true (by omega)), by go_num, ⟨HR.out.1, HR.out.2, below_drewN10 HLB.out _⟩⟩
              case measure => simp [intOf]; omega
          | true =>
            cases t with
            | false =>
              go_quiet (fail)
              go_wp2_with fail
              go_quiet (fail)
              have HR : Shh (true = lessK A B (k + 1) ∧ true = lessK B A (k + 1)) := ⟨by rw [HST.out.1]; simp <;> omega, by rw [HST.out.2]; simp <;> omega⟩
              clear hx hy HST
              go_wp2
              go_roundw
              case rel => exact ⟨k + 1, true, true, by omega, by first | rfl | exact congrArg Value.bool (decide_eq_false (by omega)) | exact congrArg Value.bool (decide_eq_true (by omega)), by first | rfl | exact congrArg Value.bool (decide_eq_false (by omega)) | exact congrArg Value.bool (decide_eq_true (by omega)), by go_num, ⟨HR.out.1, HR.out.2, below_drewN10 HLB.out _⟩⟩
              case measure => simp [intOf]; omega
            | true =>
              go_quiet (fail)
              go_wp2_with fail
              go_quiet (fail)
              have HR : Shh (true = lessK A B (k + 1) ∧ true = lessK B A (k + 1)) := ⟨by rw [HST.out.1]; simp <;> omega, by rw [HST.out.2]; simp <;> omega⟩
              clear hx hy HST
              go_wp2
              go_roundw
              case rel => exact ⟨k + 1, true, true, by omega, by first | rfl | exact congrArg Value.bool (decide_eq_false (by omega)) | exact congrArg Value.bool (decide_eq_true (by omega)), by first | rfl | exact congrArg Value.bool (decide_eq_false (by omega)) | exact congrArg Value.bool (decide_eq_true (by omega)), by go_num, ⟨HR.out.1, HR.out.2, below_drewN10 HLB.out _⟩⟩
              case measure => simp [intOf]; omega
      · obtain rfl : k = A.length := by omega
        have HB : Shh (Below w.heap.size w wr) := ⟨Below.chain H6.out.2.2.2.2 HL.out.2.2⟩
        have hmo : eq = (m == o) := HEQ2.out
        have HSm : Shh (Sl wr wr.heap.size (.slice Am m.length cm) m ∧ Sl wr wr.heap.size (.slice Ao o.length co) o) := ⟨H6.out.2.1.go HL.out.2.2, H6.out.2.2.1.go HL.out.2.2⟩
        by_cases hmo2 : m = o
        · have hq := HK.out.1 hmo2
          have hs : s = false := by rw [HL.out.1]; exact hq.1
          have ht : t = false := by rw [HL.out.2.1]; exact hq.2
          have hb : (m == o) = true := by simp [hmo2]
          subst hs
          subst ht
          clear HL HK HEQ HEQ2 H6 HS6 hmo hmo2 hq
          go_wp2_with (go_at_call 12; refine (refEqual_any wr.heap.size wr.heap.size _ _ m o _ HSm.out.1 HSm.out.2).mono ?_)
          rw [hb]
          rintro e w8 ⟨rfl, rfl⟩
          go_wp2
          go_ret
          exact ⟨rfl, HB.out⟩
        · have hq := HK.out.2 hmo2
          have hs : s = true := by rw [HL.out.1]; exact hq.1
          have ht : t = true := by rw [HL.out.2.1]; exact hq.2
          have hb : (m == o) = false := by simp [hmo2]
          subst hs
          subst ht
          clear HL HK HEQ HEQ2 H6 HS6 hmo hmo2 hq
          go_wp2_with (go_at_call 12; refine (refEqual_any wr.heap.size wr.heap.size _ _ m o _ HSm.out.1 HSm.out.2).mono ?_)
          rw [hb]
          rintro e w8 ⟨rfl, rfl⟩
          go_wp2
          go_ret
          exact ⟨rfl, HB.out⟩
end Go.Proofs.YtobbbljnkdfkeaaDoor
