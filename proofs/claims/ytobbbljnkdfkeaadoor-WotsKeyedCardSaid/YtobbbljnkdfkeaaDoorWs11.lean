/-
  LAWS over contracts of the program's own functions: few, Public, On, Digits.
-/
import Derived.Test.YtobbbljnkdfkeaaDoorWZ
namespace Go.Proofs.YtobbbljnkdfkeaaDoor
open Go.RowKit
set_option maxRecDepth 100000
/-- both tables lie in memory -/
def Tabs (w : World) : Prop := Vars w ∧ KVars w
theorem Tabs.go {w w' : World} (h : Tabs w) (b : Below w.heap.size w w') : Tabs w' := ⟨h.1.go b, h.2.step b⟩
/-- texts of at most 5000 bytes each -/
def few10B (bss : List (List UInt8)) : Bool := bss.all (fun b => decide (b.length ≤ 5000))
theorem few10_no (bss : List (List UInt8)) (k : Nat) (h : k < bss.length) (hb : 5000 < bss[k].length) : few10B bss = false := by
  unfold few10B
  rw [List.all_eq_false]
  exact ⟨bss[k], List.getElem_mem h, by simp; omega⟩
theorem few10_yes {bss : List (List UInt8)} (h : few10B bss = true) : ∀ b ∈ bss, b.length ≤ 5000 := by
  unfold few10B at h
  simp only [List.all_eq_true, decide_eq_true_eq] at h
  exact h
theorem few10_any (B g : Nat) (v : Value) (bss : List (List UInt8)) (w : World) (hp : PartsO w B g v bss) (hn : bss.length ≤ 9223372036854775807) :
    Calls Tryd.prog 10 #[v] w fun e w' => e = .returned (.bool (few10B bss)) ∧ w' = w := by
  obtain ⟨A, c, rfl⟩ := hp.form
  go_enter Tryd.func10, Tryd.ntmps10
  go_wp2
  go_loop [4, 7] (fun _ i => ∃ k : Nat, k ≤ bss.length ∧ i = .int .i64 k ∧ Hid (∀ j (h : j < bss.length), j < k → bss[j].length ≤ 5000)) (fun _ i => bss.length - (intOf i).toNat)
  case atStart => exact ⟨0, Nat.zero_le _, rfl, Lib.hid (fun j _ h => absurd h (Nat.not_lt_zero _))⟩
  case round =>
    obtain ⟨k, hk, rfl, HL⟩ := hrel
    by_cases hlt : k < bss.length
    · obtain ⟨q, off, rfl, _, _, hc⟩ := hp.at_ (by omega)
      obtain ⟨u, hu, hs, _⟩ := hc k hlt
      obtain ⟨A2, c2, rfl, _, _⟩ := hs.form
      have HN := fun h => few10_no bss k hlt h
      have HK : bss[k].length ≤ 5000 → ∀ j (h : j < bss.length), j < k + 1 → bss[j].length ≤ 5000 := fun h j hj hjk => by
        by_cases e : j = k
        · subst e; exact h
        · exact HL.out j hj (by omega)
      by_cases hb : 5000 < bss[k].length
      · have HF := Lib.hid (HN hb)
        have hb2 : (5000 : Int) < (bss[k].length : Int) := by omega
        clear hc HN HK hs HL
        go_wp2
        go_ret
        exact ⟨by rw [HF.out]; rfl, rfl⟩
      · have HF := Lib.hid (HK (by omega))
        have hb2 : ¬ (5000 : Int) < (bss[k].length : Int) := by omega
        clear hc HN HK hs HL
        go_wp2
        go_round
        case rel => exact ⟨k + 1, by omega, by go_num, HF⟩
        case measure => simp [intOf]; omega
    · obtain rfl : k = bss.length := by omega
      have HF : Hid (few10B bss = true) := Lib.hid (by
        unfold few10B
        have : bss.all (fun b => decide (b.length ≤ 5000)) = true := by
          rw [List.all_eq_true]
          intro b hb
          obtain ⟨j, hj, rfl⟩ := List.getElem_of_mem hb
          simpa using HL.out j hj hj
        exact this)
      clear HL
      go_wp2
      go_ret
      refine ⟨?_, rfl⟩
      rw [HF.out]
      rfl

set_option maxHeartbeats 1000000 in
theorem wotsOn_of (x : S5) (hw : x.wf) (vs : Value) (vm : Value) (vg : Value) (seed m sig : List UInt8) (a : List UInt32) (ha : a.length = 8) (w : World) (hs : Sl w w.heap.size vs seed) (hm : Sl w w.heap.size vm m) (hg : Sl w w.heap.size vg sig) (ht : Tabs w)
    (hlive : ∀ W, Tabs W → Calls Tryd.prog 9 #[] W (TrueIs W))
    (hP : ∀ W, Tabs W → Sl W W.heap.size vs seed → Sl W W.heap.size vm m → Sl W W.heap.size vg sig → Calls Tryd.prog 23 #[x.v, vs, vm, vg, adrV a] W (ResIs W (fsE x seed m sig) (fsB x seed m sig a))) :
    Calls Tryd.prog 5 #[x.v, vs, vm, vg, adrV a] w (TrueIs w) := by
  unfold TrueIs
  obtain ⟨As, cs, rfl, _, _⟩ := hs.form
  obtain ⟨Am, cm, rfl, _, _⟩ := hm.form
  obtain ⟨Ag, cg, rfl, _, _⟩ := hg.form
  have HP : Shh ((∀ W, Tabs W → Sl W W.heap.size (.slice As seed.length cs) seed → Sl W W.heap.size (.slice Am m.length cm) m → Sl W W.heap.size (.slice Ag sig.length cg) sig → Calls Tryd.prog 23 #[x.v, .slice As seed.length cs, .slice Am m.length cm, .slice Ag sig.length cg, adrV a] W (ResIs W (fsE x seed m sig) (fsB x seed m sig a))) ∧ (∀ W, Sl W W.heap.size (.slice As seed.length cs) seed → Sl W W.heap.size (.slice Am m.length cm) m → Sl W W.heap.size (.slice Ag sig.length cg) sig → Calls Tryd.prog 24 #[x.v, .slice As seed.length cs, .slice Am m.length cm, .slice Ag sig.length cg, adrV a] W (ResIs W (fsE x seed m sig) (fsB x seed m sig a)))) := ⟨hP, fun W h0 h1 h2 => refFromSig_any x hw _ _ _ seed m sig a ha W h0 h1 h2⟩
  have HT : Shh (∀ W, Tabs W → Calls Tryd.prog 9 #[] W (TrueIs W)) := ⟨hlive⟩
  obtain ⟨W, hW⟩ : ∃ W, W = (w.alloc (.cells #[.int .u32 x.c, .bool x.s, .int .i64 x.n, .int .i64 x.h, .int .i64 x.l] 24)).alloc (.cells (wordCells a).toArray 27) := ⟨_, rfl⟩
  have HW : Shh (Row W w.heap.size 24 [.int .u32 x.c, .bool x.s, .int .i64 x.n, .int .i64 x.h, .int .i64 x.l] ∧ Row W (w.heap.size + 1) 27 (wordCells a) ∧ Sl W W.heap.size (.slice As seed.length cs) seed ∧ Sl W W.heap.size (.slice Am m.length cm) m ∧ Sl W W.heap.size (.slice Ag sig.length cg) sig ∧ Tabs W ∧ Below w.heap.size w W) := by
    rw [hW]
    exact ⟨(Row.new_ rfl rfl).alloc _, Row.new_ (by rw [asz]) rfl, (hs.go (below1 _ _)).go (below1 _ _), (hm.go (below1 _ _)).go (below1 _ _), (hg.go (below1 _ _)).go (below1 _ _), (ht.go (below1 _ _)).go (below1 _ _), Below.chain (below1 _ _) (below1 _ _)⟩
  clear hs hm hg ht hlive hP hw
  have HA : Shh ((wordCells a).length = 8) := ⟨by rw [wordCells_length]; exact ha⟩
  generalize fsE x seed m sig = er at HP
  generalize fsB x seed m sig a = out at HP
  unfold S5.v adrV at HP
  unfold S5.v adrV
  generalize wordCells a = L at HP HA HW hW ⊢
  generalize x.c = xc at *
  generalize x.s = xs at *
  generalize x.n = xn at *
  generalize x.h = xh at *
  generalize x.l = xl at *
  go_enter Tryd.func5, Tryd.ntmps5
  go_wp2_with fail
  rw [← hW]
  clear hW
  go_at_call 9
  refine (HT.out _ HW.out.2.2.2.2.2.1).mono ?_
  unfold TrueIs
  rintro e w2 ⟨rfl, b2⟩
  have H2 : Shh (Row w2 w.heap.size 24 [.int .u32 xc, .bool xs, .int .i64 xn, .int .i64 xh, .int .i64 xl] ∧ Row w2 (w.heap.size + 1) 27 L ∧ Sl w2 w2.heap.size (.slice As seed.length cs) seed ∧ Sl w2 w2.heap.size (.slice Am m.length cm) m ∧ Sl w2 w2.heap.size (.slice Ag sig.length cg) sig ∧ Tabs w2 ∧ Below w.heap.size w w2) := ⟨HW.out.1.go b2, HW.out.2.1.go b2, HW.out.2.2.1.go b2, HW.out.2.2.2.1.go b2, HW.out.2.2.2.2.1.go b2, HW.out.2.2.2.2.2.1.go b2, Below.chain HW.out.2.2.2.2.2.2 b2⟩
  clear b2 HW
  cases hf : few10B [seed, m, sig] with
  | false =>
    go_wp2_with (go_at_call 10; refine (few10_any (w2.heap.size + 1) (w2.heap.size + 1) _ [seed, m, sig] _ (PartsO.three (q := w2.heap.size) (n := 3) (Nat.lt_succ_self _) (by omega) (Row.new_ rfl rfl) ((H2.out.2.2.1.below (below1 _ _)).more (by omega)) (H2.out.2.2.1.off (by omega)) ((H2.out.2.2.2.1.below (below1 _ _)).more (by omega)) (H2.out.2.2.2.1.off (by omega)) ((H2.out.2.2.2.2.1.below (below1 _ _)).more (by omega)) (H2.out.2.2.2.2.1.off (by omega))) (by simp)).mono ?_)
    rw [hf]
    rintro e w3 ⟨rfl, rfl⟩
    have H3 : Shh (Tabs (w2.alloc (.cells #[.slice As seed.length cs, .slice Am m.length cm, .slice Ag sig.length cg] 25)) ∧ Below w.heap.size w (w2.alloc (.cells #[.slice As seed.length cs, .slice Am m.length cm, .slice Ag sig.length cg] 25))) := ⟨H2.out.2.2.2.2.2.1.go (below1 _ _), Below.chain H2.out.2.2.2.2.2.2 (below1 _ _)⟩
    clear H2 hf
    go_wp2_with (go_at_call 9; refine (HT.out _ H3.out.1).mono ?_)
    unfold TrueIs
    rintro e w4 ⟨rfl, b4⟩
    have H4 : Shh (Below w.heap.size w w4) := ⟨Below.chain H3.out.2 b4⟩
    clear b4 H3
    go_wp2
    go_ret
    exact ⟨rfl, H4.out⟩
  | true =>
    have hee : ((er : Int) == er) = true := by simp
    go_wp2_with (go_at_call 10; refine (few10_any (w2.heap.size + 1) (w2.heap.size + 1) _ [seed, m, sig] _ (PartsO.three (q := w2.heap.size) (n := 3) (Nat.lt_succ_self _) (by omega) (Row.new_ rfl rfl) ((H2.out.2.2.1.below (below1 _ _)).more (by omega)) (H2.out.2.2.1.off (by omega)) ((H2.out.2.2.2.1.below (below1 _ _)).more (by omega)) (H2.out.2.2.2.1.off (by omega)) ((H2.out.2.2.2.2.1.below (below1 _ _)).more (by omega)) (H2.out.2.2.2.2.1.off (by omega))) (by simp)).mono ?_)
    rw [hf]
    rintro e w3 ⟨rfl, rfl⟩
    have H3 : Shh (Row (w2.alloc (.cells #[.slice As seed.length cs, .slice Am m.length cm, .slice Ag sig.length cg] 25)) w.heap.size 24 [.int .u32 xc, .bool xs, .int .i64 xn, .int .i64 xh, .int .i64 xl] ∧ Row (w2.alloc (.cells #[.slice As seed.length cs, .slice Am m.length cm, .slice Ag sig.length cg] 25)) (w.heap.size + 1) 27 L ∧ Sl (w2.alloc (.cells #[.slice As seed.length cs, .slice Am m.length cm, .slice Ag sig.length cg] 25)) (w2.alloc (.cells #[.slice As seed.length cs, .slice Am m.length cm, .slice Ag sig.length cg] 25)).heap.size (.slice As seed.length cs) seed ∧ Sl (w2.alloc (.cells #[.slice As seed.length cs, .slice Am m.length cm, .slice Ag sig.length cg] 25)) (w2.alloc (.cells #[.slice As seed.length cs, .slice Am m.length cm, .slice Ag sig.length cg] 25)).heap.size (.slice Am m.length cm) m ∧ Sl (w2.alloc (.cells #[.slice As seed.length cs, .slice Am m.length cm, .slice Ag sig.length cg] 25)) (w2.alloc (.cells #[.slice As seed.length cs, .slice Am m.length cm, .slice Ag sig.length cg] 25)).heap.size (.slice Ag sig.length cg) sig ∧ Tabs (w2.alloc (.cells #[.slice As seed.length cs, .slice Am m.length cm, .slice Ag sig.length cg] 25)) ∧ Below w.heap.size w (w2.alloc (.cells #[.slice As seed.length cs, .slice Am m.length cm, .slice Ag sig.length cg] 25))) := ⟨H2.out.1.go (below1 _ _), H2.out.2.1.go (below1 _ _), H2.out.2.2.1.go (below1 _ _), H2.out.2.2.2.1.go (below1 _ _), H2.out.2.2.2.2.1.go (below1 _ _), H2.out.2.2.2.2.2.1.go (below1 _ _), Below.chain H2.out.2.2.2.2.2.2 (below1 _ _)⟩
    clear H2 hf
    generalize hZ : w2.alloc _ = Z3 at H3 ⊢
    clear hZ
    go_wp2_with (first | refine wpList_load_any rfl 24 (.tmp 5) rfl w.heap.size rfl 24 [.int .u32 xc, .bool xs, .int .i64 xn, .int .i64 xh, .int .i64 xl] _ H3.out.1 Tryd.underlying24 rfl info_xms ?_ | refine wpList_load_any rfl 27 (.tmp 9) rfl (w.heap.size + 1) rfl 27 L _ H3.out.2.1 Tryd.underlying27 rfl (info_adr10 HA.out) ?_ | (go_at_call 23; refine (HP.out.1 _ H3.out.2.2.2.2.2.1 H3.out.2.2.1 H3.out.2.2.2.1 H3.out.2.2.2.2.1).mono ?_))
    rintro e w4 ⟨v4, rfl, s4, b4⟩
    obtain ⟨A4, c4, rfl, _, _⟩ := s4.form
    have H4 : Shh ((Sl w4 w4.heap.size (.slice A4 out.length c4) out) ∧ Row w4 w.heap.size 24 [.int .u32 xc, .bool xs, .int .i64 xn, .int .i64 xh, .int .i64 xl] ∧ Row w4 (w.heap.size + 1) 27 L ∧ Sl w4 w4.heap.size (.slice As seed.length cs) seed ∧ Sl w4 w4.heap.size (.slice Am m.length cm) m ∧ Sl w4 w4.heap.size (.slice Ag sig.length cg) sig ∧ Tabs w4 ∧ Below w.heap.size w w4) := ⟨s4, H3.out.1.go b4, H3.out.2.1.go b4, H3.out.2.2.1.go b4, H3.out.2.2.2.1.go b4, H3.out.2.2.2.2.1.go b4, H3.out.2.2.2.2.2.1.go b4, Below.chain H3.out.2.2.2.2.2.2 b4⟩
    clear s4 b4 H3
    have H5 := Shh.mk H4.out.2
    go_wp2_with (first | refine wpList_load_any rfl 24 (.tmp 5) rfl w.heap.size rfl 24 [.int .u32 xc, .bool xs, .int .i64 xn, .int .i64 xh, .int .i64 xl] _ H5.out.1 Tryd.underlying24 rfl info_xms ?_ | refine wpList_load_any rfl 27 (.tmp 9) rfl (w.heap.size + 1) rfl 27 L _ H5.out.2.1 Tryd.underlying27 rfl (info_adr10 HA.out) ?_ | (go_at_call 24; refine (HP.out.2 _ H5.out.2.2.1 H5.out.2.2.2.1 H5.out.2.2.2.2.1).mono ?_))
    rintro e w6 ⟨v6, rfl, s6, b6⟩
    obtain ⟨A6, c6, rfl, _, _⟩ := s6.form
    have H6 : Shh (Sl w6 w6.heap.size (.slice A4 out.length c4) out ∧ Sl w6 w6.heap.size (.slice A6 out.length c6) out ∧ Below w.heap.size w w6) := ⟨H4.out.1.go b6, s6, Below.chain H5.out.2.2.2.2.2.2 b6⟩
    clear s6 b6 H4 H5 HP HT
    have hob : (out == out) = true := by simp
    go_wp2_with (go_at_call 12; refine (refEqual_any w6.heap.size w6.heap.size _ _ out out _ H6.out.1 H6.out.2.1).mono ?_)
    rintro e w7 ⟨rfl, rfl⟩
    rw [hob]
    go_wp2
    go_ret
    exact ⟨rfl, H6.out.2.2⟩
end Go.Proofs.YtobbbljnkdfkeaaDoor
