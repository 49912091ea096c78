/-
  LAW over contracts of the program's own functions: Digits; ints compared.
-/
import Derived.Test.YtobbbljnkdfkeaaDoorWs12
namespace Go.Proofs.YtobbbljnkdfkeaaDoor
open Go.RowKit
set_option maxRecDepth 100000
set_option maxHeartbeats 1000000 in
theorem equal_ints (v u : Value) (l m : List Nat) (w : World) (hv : SI w w.heap.size v l) (hu : SI w w.heap.size u m) (hl : l.length ≤ 1000000) (hm : m.length ≤ 1000000) :
    Calls Tryd.prog 22 #[v, u] w (OldIs (.bool (decide (l = m))) w) := by
  unfold OldIs
  obtain ⟨a, ca, rfl, _, _⟩ := hv.form
  obtain ⟨b, cb, rfl, _, _⟩ := hu.form
  have HV := Shh.mk hv
  have HU := Shh.mk hu
  clear hv hu
  by_cases hlen : l.length = m.length
  · have hc : ((l.length : Int) == (m.length : Int)) = true := by simp [hlen]
    go_enter Tryd.func22, Tryd.ntmps22
    go_wp2
    go_loopw [5, 13] (fun _ i wr => ∃ k : Nat, k ≤ l.length ∧ i = .int .i64 (k : Int) ∧ Shh ((∀ j (h : j < l.length) (h' : j < m.length), j < k → l[j] = m[j]) ∧ Below w.heap.size w wr)) (fun _ i _ => l.length - (intOf i).toNat)
    case atStart => exact ⟨0, Nat.zero_le _, rfl, ⟨fun j _ _ h => absurd h (Nat.not_lt_zero _), Below.refl _ _⟩⟩
    case round =>
      obtain ⟨k, hk, rfl, HL⟩ := hrel
      by_cases hlt : k < l.length
      · have HS : Shh (l.length = m.length) := ⟨hlen⟩
        have hlt2 : k < m.length := by omega
        obtain ⟨g, rfl, hg0, hg, hcell⟩ := (HV.out.go HL.out.2).at_ (by omega)
        obtain ⟨q, rfl, hq0, hq, hcell2⟩ := (HU.out.go HL.out.2).at_ (by omega)
        have hx := hcell k hlt
        have hy := hcell2 k hlt2
        clear hcell hcell2
        obtain ⟨x, hxe⟩ : ∃ x, l[k] = x := ⟨_, rfl⟩
        obtain ⟨y, hye⟩ : ∃ y, m[k] = y := ⟨_, rfl⟩
        rw [hxe] at hx
        rw [hye] at hy
        by_cases e : x = y
        · have HF : Shh ((∀ j (h : j < l.length) (h' : j < m.length), j < k + 1 → l[j] = m[j]) ∧ Below w.heap.size w wr.drew) := ⟨fun j hj hj2 hjk => by
            by_cases e2 : j = k
            · subst e2; rw [hxe, hye, e]
            · exact HL.out.1 j hj hj2 (by omega), HL.out.2.drew⟩
          have ee : ((x : Int) != (y : Int)) = false := by simp [e]
          clear hxe hye HL hlen e
          go_wp2
          go_region
          go_wp2
          go_roundw
          case rel => exact ⟨k + 1, by omega, by go_num, HF⟩
          case measure => simp [intOf]; omega
        · have HF : Shh (decide (l = m) = false ∧ Below w.heap.size w wr.drew) := ⟨decide_eq_false (fun h => e (by subst h; rw [← hxe, ← hye])), HL.out.2.drew⟩
          have ee : ((x : Int) != (y : Int)) = true := by simp; omega
          clear hxe hye HL hlen e
          go_wp2
          go_region
          go_wp2
          go_ret
          exact ⟨by rw [HF.out.1]; rfl, HF.out.2⟩
      · have HF : Shh (decide (l = m) = true ∧ Below w.heap.size w wr) := ⟨decide_eq_true (List.ext_getElem hlen (fun j h1 h2 => HL.out.1 j h1 h2 (by omega))), HL.out.2⟩
        have hlt2 : ¬ k < m.length := by omega
        clear HL hlen
        go_wp2
        go_ret
        exact ⟨by rw [HF.out.1]; rfl, HF.out.2⟩
  · have hc : ((l.length : Int) == (m.length : Int)) = false := by simp; omega
    have HF : Shh (decide (l = m) = false) := ⟨decide_eq_false (fun h => hlen (by rw [h]))⟩
    clear hlen
    go_enter Tryd.func22, Tryd.ntmps22
    go_wp2
    go_ret
    exact ⟨by rw [HF.out]; rfl, Below.refl _ _⟩
set_option maxHeartbeats 2000000 in
theorem wotsDigits_of (x : S5) (hw : x.wf) (vm : Value) (m : List UInt8) (w : World) (hm : Sl w w.heap.size vm m) (ht : Tabs w)
    (hlive : ∀ W, Tabs W → Calls Tryd.prog 9 #[] W (TrueIs W))
    (hP : ∀ W, Tabs W → Sl W W.heap.size vm m → Calls Tryd.prog 20 #[x.v, vm] W (ResI W (badE x [m]) (askD x m))) :
    Calls Tryd.prog 4 #[x.v, vm] w (TrueIs w) := by
  unfold TrueIs
  obtain ⟨Am, cm, rfl, _, _⟩ := hm.form
  have HP : Shh ((∀ W, Tabs W → Sl W W.heap.size (.slice Am m.length cm) m → Calls Tryd.prog 20 #[x.v, .slice Am m.length cm] W (ResI W (badE x [m]) (askD x m))) ∧ (m.length ≤ 100000 → ∀ W, Sl W W.heap.size (.slice Am m.length cm) m → Calls Tryd.prog 21 #[x.v, .slice Am m.length cm] W (ResI W (badE x [m]) (askD x m)))) := ⟨hP, fun hl W h => refAskDigits_any x hw _ m W h hl⟩
  have HLN : Shh (few10B [m] = true → m.length ≤ 100000 ∧ (askD x m).length ≤ 1000000) := ⟨fun h => by
    have := few10_yes h m (by simp)
    refine ⟨by omega, ?_⟩
    unfold askD
    split
    · rw [dig10_length]; omega
    · simp⟩
  generalize badE x [m] = er at HP
  generalize askD x m = out at HP HLN
  have HT : Shh (∀ W, Tabs W → Calls Tryd.prog 9 #[] W (TrueIs W)) := ⟨hlive⟩
  obtain ⟨W, hW⟩ : ∃ W, W = w.alloc (.cells #[.int .u32 x.c, .bool x.s, .int .i64 x.n, .int .i64 x.h, .int .i64 x.l] 24) := ⟨_, rfl⟩
  have HW : Shh (Row W w.heap.size 24 [.int .u32 x.c, .bool x.s, .int .i64 x.n, .int .i64 x.h, .int .i64 x.l] ∧ Sl W W.heap.size (.slice Am m.length cm) m ∧ Tabs W ∧ Below w.heap.size w W) := by
    rw [hW]
    exact ⟨Row.new_ rfl rfl, hm.go (below1 _ _), ht.go (below1 _ _), below1 _ _⟩
  clear hm ht hlive hP hw
  unfold S5.v at HP
  unfold S5.v
  generalize x.c = xc at *
  generalize x.s = xs at *
  generalize x.n = xn at *
  generalize x.h = xh at *
  generalize x.l = xl at *
  go_enter Tryd.func4, Tryd.ntmps4
  go_wp2_with fail
  rw [← hW]
  clear hW
  go_at_call 9
  refine (HT.out _ HW.out.2.2.1).mono ?_
  unfold TrueIs
  rintro e w2 ⟨rfl, b2⟩
  have H2 : Shh (Row w2 w.heap.size 24 [.int .u32 xc, .bool xs, .int .i64 xn, .int .i64 xh, .int .i64 xl] ∧ Sl w2 w2.heap.size (.slice Am m.length cm) m ∧ Tabs w2 ∧ Below w.heap.size w w2) := ⟨HW.out.1.go b2, HW.out.2.1.go b2, HW.out.2.2.1.go b2, Below.chain HW.out.2.2.2 b2⟩
  clear b2 HW
  cases hf : few10B [m] with
  | false =>
    go_wp2_with (go_at_call 10; refine (few10_any (w2.heap.size + 1) (w2.heap.size + 1) _ [m] _ (PartsO.solo (q := w2.heap.size) (n := 1) (Row.new_ rfl rfl) (Nat.lt_succ_self _) (by omega) ((H2.out.2.1.below (below1 _ _)).more (by omega)) (H2.out.2.1.off (by omega))) (by simp)).mono ?_)
    rw [hf]
    rintro e w3 ⟨rfl, rfl⟩
    have H3 : Shh (Tabs (w2.alloc (.cells #[.slice Am m.length cm] 25)) ∧ Below w.heap.size w (w2.alloc (.cells #[.slice Am m.length cm] 25))) := ⟨H2.out.2.2.1.go (below1 _ _), Below.chain H2.out.2.2.2 (below1 _ _)⟩
    clear H2 hf
    go_wp2_with (go_at_call 9; refine (HT.out _ H3.out.1).mono ?_)
    unfold TrueIs
    rintro e w4 ⟨rfl, b4⟩
    have H4 : Shh (Below w.heap.size w w4) := ⟨Below.chain H3.out.2 b4⟩
    clear b4 H3
    go_wp2
    go_ret
    exact ⟨rfl, H4.out⟩
  | true =>
    go_wp2_with (go_at_call 10; refine (few10_any (w2.heap.size + 1) (w2.heap.size + 1) _ [m] _ (PartsO.solo (q := w2.heap.size) (n := 1) (Row.new_ rfl rfl) (Nat.lt_succ_self _) (by omega) ((H2.out.2.1.below (below1 _ _)).more (by omega)) (H2.out.2.1.off (by omega))) (by simp)).mono ?_)
    rw [hf]
    rintro e w3 ⟨rfl, rfl⟩
    have H3 : Shh (Row (w2.alloc (.cells #[.slice Am m.length cm] 25)) w.heap.size 24 [.int .u32 xc, .bool xs, .int .i64 xn, .int .i64 xh, .int .i64 xl] ∧ Sl (w2.alloc (.cells #[.slice Am m.length cm] 25)) (w2.alloc (.cells #[.slice Am m.length cm] 25)).heap.size (.slice Am m.length cm) m ∧ Tabs (w2.alloc (.cells #[.slice Am m.length cm] 25)) ∧ Below w.heap.size w (w2.alloc (.cells #[.slice Am m.length cm] 25))) := ⟨H2.out.1.go (below1 _ _), H2.out.2.1.go (below1 _ _), H2.out.2.2.1.go (below1 _ _), Below.chain H2.out.2.2.2 (below1 _ _)⟩
    have HF := Shh.mk (HLN.out hf)
    clear H2 hf HT HLN
    generalize hZ : w2.alloc _ = Z3 at H3 ⊢
    clear hZ
    have HP1 := Shh.mk HP.out.1
    have HP2 := Shh.mk (HP.out.2 HF.out.1)
    have hee : ((er : Int) == er) = true := by simp
    clear HP
    go_wp2_with (first | refine wpList_load_any rfl 24 (.tmp 2) rfl w.heap.size rfl 24 [.int .u32 xc, .bool xs, .int .i64 xn, .int .i64 xh, .int .i64 xl] _ H3.out.1 Tryd.underlying24 rfl info_xms ?_ | (go_at_call 20; refine (HP1.out _ H3.out.2.2.1 H3.out.2.1).mono ?_))
    rintro e w4 ⟨v4, rfl, s4, b4⟩
    obtain ⟨A4, c4, rfl, _, _⟩ := s4.form
    have HS := Shh.mk s4
    have H4 : Shh (Row w4 w.heap.size 24 [.int .u32 xc, .bool xs, .int .i64 xn, .int .i64 xh, .int .i64 xl] ∧ Sl w4 w4.heap.size (.slice Am m.length cm) m ∧ Tabs w4 ∧ Below w.heap.size w w4) := ⟨H3.out.1.go b4, H3.out.2.1.go b4, H3.out.2.2.1.go b4, Below.chain H3.out.2.2.2 b4⟩
    clear s4 b4 H3
    go_wp2_with (first | refine wpList_load_any rfl 24 (.tmp 2) rfl w.heap.size rfl 24 [.int .u32 xc, .bool xs, .int .i64 xn, .int .i64 xh, .int .i64 xl] _ H4.out.1 Tryd.underlying24 rfl info_xms ?_ | (go_at_call 21; refine (HP2.out _ H4.out.2.1).mono ?_))
    rintro e w6 ⟨v6, rfl, s6, b6⟩
    obtain ⟨A6, c6, rfl, _, _⟩ := s6.form
    have H6 : Shh (SI w6 w6.heap.size (.slice A4 out.length c4) out ∧ SI w6 w6.heap.size (.slice A6 out.length c6) out ∧ Below w.heap.size w w6) := ⟨HS.out.go b6, s6, Below.chain H4.out.2.2.2 b6⟩
    clear s6 b6 H4 HS HP1 HP2
    go_wp2_with (go_at_call 22; refine (equal_ints _ _ out out _ H6.out.1 H6.out.2.1 HF.out.2 HF.out.2).mono ?_)
    unfold OldIs
    rintro e w7 ⟨rfl, b7⟩
    have H7 : Shh (Below w.heap.size w w7) := ⟨Below.chain H6.out.2.2 b7⟩
    clear b7 H6
    go_wp2
    go_ret
    exact ⟨rfl, H7.out⟩
end Go.Proofs.YtobbbljnkdfkeaaDoor
