/-
  WALK: the document's own May.
-/
import Derived.Test.YthahnckjmlcehaaHs4
namespace Go.Proofs.Ythahnckjmlcehaa
open Go.RowKit
set_option maxRecDepth 100000
/-- does a level go with the first one? -/
def okS (x0 x : Nat × Nat) : Bool := fitL x.1 x.2 && (lSh x.1 == lSh x0.1) && decide (lN x.1 = lN x0.1)
/-- may levels be? -/
def mayL (l : List (Nat × Nat)) : Bool := decide (1 ≤ l.length ∧ l.length ≤ 8) && l.all (okS (l.getD 0 (0, 0))) && decide (sumH l ≤ 60)
theorem mayL_len {l : List (Nat × Nat)} (h : ¬ (1 ≤ l.length ∧ l.length ≤ 8)) : mayL l = false := by
  unfold mayL
  rw [decide_eq_false h]
  rfl
theorem mayL_bad {l : List (Nat × Nat)} {x : Nat × Nat} (hx : x ∈ l) (h : okS (l.getD 0 (0, 0)) x = false) : mayL l = false := by
  unfold mayL
  have : l.all (okS (l.getD 0 (0, 0))) = false := by
    rw [List.all_eq_false]
    exact ⟨x, hx, fun hh => by rw [h] at hh; cases hh⟩
  rw [this, Bool.and_false]
  rfl
theorem mayL_end {l : List (Nat × Nat)} (h1 : 1 ≤ l.length ∧ l.length ≤ 8) (h : ∀ j (hj : j < l.length), okS (l.getD 0 (0, 0)) l[j] = true) : mayL l = decide (sumH l ≤ 60) := by
  unfold mayL
  have : l.all (okS (l.getD 0 (0, 0))) = true := by
    rw [List.all_eq_true]
    intro x hx
    obtain ⟨j, hj, rfl⟩ := List.getElem_of_mem hx
    exact h j hj
  rw [this, decide_eq_true h1]
  rfl
theorem sumH_small (l : List (Nat × Nat)) : sumH l ≤ 25 * l.length := by
  unfold sumH
  induction l with
  | nil => simp
  | cons x r ih =>
    have := lH_le x.1
    simp only [List.map_cons, List.sum_cons, List.length_cons]
    omega
set_option maxHeartbeats 1000000 in
theorem refMay_any (v : Value) (l : List (Nat × Nat)) (w : World) (hl : Lvs w w.heap.size v l) (ho : LvOk l) : Calls Try.prog 7 #[v] w (OldIs (.bool (mayL l)) w) := by
  unfold OldIs
  obtain ⟨A, c, rfl, hc, hcm⟩ := hl.form
  have hll : l.length ≤ 9223372036854775807 := by unfold maxLen at hcm; omega
  by_cases h1 : 1 ≤ l.length
  rotate_left
  · rw [mayL_len (fun h => h1 h.1)]
    have h2 : (l.length : Int) < 1 := by omega
    clear h1 hl ho
    go_enter Try.func7, Try.ntmps7
    go_wp2
    go_ret
    exact ⟨rfl, Below.refl _ _⟩
  by_cases h8 : l.length ≤ 8
  rotate_left
  · rw [mayL_len (fun h => h8 h.2)]
    have h2 : ¬ (l.length : Int) < 1 := by omega
    have h3 : (8 : Int) < (l.length : Int) := by omega
    clear h1 h8 hl ho
    go_enter Try.func7, Try.ntmps7
    go_wp2
    go_ret
    exact ⟨rfl, Below.refl _ _⟩
  obtain ⟨V, hV⟩ : ∃ V, V = mayL l := ⟨_, rfl⟩
  rw [← hV]
  have HE : Shh (V = mayL l ∧ 1 ≤ l.length ∧ l.length ≤ 8) := ⟨hV, h1, h8⟩
  clear hV
  obtain ⟨g, off, rfl, hg, hcc⟩ := hl.at_ h1
  have HC : Shh (∀ k (h : k < l.length), w.cell? ⟨g, off + k * 2, none⟩ = some (.int .u32 (l[k].1 : Int)) ∧ w.cell? ⟨g, off + k * 2 + 1, none⟩ = some (.int .u32 (l[k].2 : Int))) := ⟨hcc⟩
  have HO := Shh.mk ho
  have hcw := hcc 0 h1
  clear hcc hl ho
  have H0 : Shh (l.getD 0 (0, 0) = l[0] ∧ l[0].1 < 4294967296) := ⟨by rw [List.getD_eq_getElem?_getD, List.getElem?_eq_getElem h1]; rfl, (HO.out _ (List.getElem_mem h1)).1⟩
  generalize l[0] = x0 at hcw H0
  obtain ⟨a, b⟩ := x0
  simp only [Nat.zero_mul, Nat.add_zero] at hcw H0
  obtain ⟨c0, c1⟩ := hcw
  have HV : Shh (∀ W, Calls Try.prog 13 #[.agg #[.int .u32 (a : Int), .int .u32 (b : Int)]] W (OldIs (.tuple #[lmsV a, otsV b]) W)) := ⟨fun W => refSets_any a b H0.out.2 W⟩
  obtain ⟨s0, hs0⟩ : ∃ s0, Shh (s0 = lSh a) := ⟨_, ⟨rfl⟩⟩
  obtain ⟨n0, hn0⟩ : ∃ n0, Shh (n0 = lN a) := ⟨_, ⟨rfl⟩⟩
  unfold lmsV otsV at HV
  rw [← hs0.out, ← hn0.out] at HV
  have HS : Shh (∀ x : Nat × Nat, okS (l.getD 0 (0, 0)) x = (fitL x.1 x.2 && (lSh x.1 == s0) && decide (lN x.1 = n0))) := ⟨fun x => by rw [H0.out.1, hs0.out, hn0.out]; rfl⟩
  clear H0 hs0 hn0
  generalize lC a = f0 at HV
  generalize (lH a : Int) = f3 at HV
  generalize oC b = o0 at HV
  generalize (oR b).1 = o1 at HV
  generalize (oR b).2.1 = o2 at HV
  generalize (oR b).2.2.1 = o3 at HV
  generalize (oR b).2.2.2.1 = o4 at HV
  generalize (oR b).2.2.2.2 = o5 at HV
  have h2 : ¬ (l.length : Int) < 1 := by omega
  have h3 : ¬ (8 : Int) < (l.length : Int) := by omega
  go_enter Try.func7, Try.ntmps7
  go_wp2_with (go_at_call 13; refine (HV.out _).mono ?_)
  unfold OldIs
  rintro e w2 ⟨rfl, b2⟩
  have HB2 : Shh (Below w.heap.size w w2) := ⟨b2⟩
  clear b2 c0 c1 HV
  obtain ⟨M0, hM⟩ : ∃ M, Shh (M = w2.heap.size) := ⟨_, ⟨rfl⟩⟩
  have FR : Shh (Below w.heap.size w w2) := ⟨HB2.out⟩
  go_wp2_with (refine wpList_store_any rfl 37 (.tmp 3) (.tmp 23) rfl M0 (by rw [hM.out]; rfl) [.int .u32 f0, .bool s0, .int .i64 n0, .int .i64 f3] rfl 37 [.int .u32 0, .bool false, .int .i64 0, .int .i64 0] ((Row.new_ hM.out rfl).alloc _) info_lms rfl oneCell4 ?_)
  intro Za hr bt _
  have FA : Shh (Row Za M0 37 [.int .u32 f0, .bool s0, .int .i64 n0, .int .i64 f3] ∧ Row Za (M0 + 1) 39 [.int .u32 0, .bool false, .int .i64 0, .int .i64 0, .int .i64 0, .int .i64 0] ∧ Below w.heap.size w Za ∧ M0 + 2 ≤ Za.heap.size ∧ w.heap.size ≤ M0) := by
    have hm := hM.out
    have hz := FR.out.size
    have bz := bt.size
    simp only [asz] at bz
    have a2 : Below w.heap.size w ((w2.alloc (.cells #[.int .u32 0, .bool false, .int .i64 0, .int .i64 0] 37)).alloc (.cells #[.int .u32 0, .bool false, .int .i64 0, .int .i64 0, .int .i64 0, .int .i64 0] 39)) := ((FR.out).alloc (by omega) _).alloc (by rw [asz]; omega) _
    refine ⟨hr, bt.row (Row.new_ (by rw [asz, hm]) rfl) (by first | omega | (simp only [asz]; omega)) (by omega), a2.trans (bt.under (by first | omega | (simp only [asz]; omega)) (by omega)), by omega, by omega⟩
  rw [← hM.out]
  clear hr bt FR hM
  go_wp2_with (refine wpList_store_any rfl 39 (.tmp 4) (.tmp 24) rfl (M0 + 1) rfl [.int .u32 o0, .bool o1, .int .i64 o2, .int .i64 o3, .int .i64 o4, .int .i64 o5] rfl 39 [.int .u32 0, .bool false, .int .i64 0, .int .i64 0, .int .i64 0, .int .i64 0] FA.out.2.1 info_ots rfl oneCell6 ?_)
  intro Z hr bt _
  have FZ : Shh (Row Z M0 37 [.int .u32 f0, .bool s0, .int .i64 n0, .int .i64 f3] ∧ Row Z (M0 + 1) 39 [.int .u32 o0, .bool o1, .int .i64 o2, .int .i64 o3, .int .i64 o4, .int .i64 o5] ∧ Below w.heap.size w Z ∧ M0 + 2 ≤ Z.heap.size ∧ w.heap.size ≤ M0) := by
    have hz := FA.out.2.2.2.1
    have hw := FA.out.2.2.2.2
    have bz := bt.size
    exact ⟨bt.row FA.out.1 (by omega) (by omega), hr, FA.out.2.2.1.trans (bt.under (by omega) (by omega)), by omega, hw⟩
  clear hr bt FA
  have FL : Shh (Row Z M0 37 [.int .u32 f0, .bool s0, .int .i64 n0, .int .i64 f3] ∧ Below w.heap.size w Z ∧ w.heap.size ≤ M0) := ⟨FZ.out.1, FZ.out.2.2.1, FZ.out.2.2.2.2⟩
  clear FZ
  go_wp2
  go_loopw [5, 27] (fun p i wr => ∃ k q : Nat, k ≤ l.length ∧ q ≤ 25 * k ∧ p = .int .i64 (q : Int) ∧ i = .int .i64 (k : Int) ∧ Shh (q = sumH (l.take k) ∧ (∀ j (h : j < l.length), j < k → okS (l.getD 0 (0, 0)) l[j] = true) ∧ Row wr M0 37 [.int .u32 f0, .bool s0, .int .i64 n0, .int .i64 f3] ∧ Below w.heap.size w wr)) (fun _ i _ => l.length - (intOf i).toNat)
  case atStart => exact ⟨0, 0, Nat.zero_le _, Nat.zero_le _, rfl, rfl, ⟨rfl, fun j _ h => absurd h (Nat.not_lt_zero _), FL.out.1, FL.out.2.1⟩⟩
  case round =>
    obtain ⟨k, q, hk, hq, rfl, rfl, HQ⟩ := hrel
    have hM0 := FL.out.2.2
    clear FL
    by_cases hlt : k < l.length
    · have hcw := HC.out k hlt
      have HX : Shh (q + lH l[k].1 = sumH (l.take (k + 1)) ∧ q + lH l[k].1 ≤ 25 * (k + 1) ∧ l[k].1 < 4294967296 ∧ l[k] ∈ l ∧ (okS (l.getD 0 (0, 0)) l[k] = true → ∀ j (h : j < l.length), j < k + 1 → okS (l.getD 0 (0, 0)) l[j] = true)) := by
        have e1 := sumH_step l k hlt
        have e2 := lH_le l[k].1
        refine ⟨by rw [HQ.out.1, e1], by omega, (HO.out _ (List.getElem_mem hlt)).1, List.getElem_mem hlt, fun h j hj hjk => ?_⟩
        by_cases e : j = k
        · subst e; exact h
        · exact HQ.out.2.1 j hj (by omega)
      have hh := HX.out.2.1
      generalize l[k] = x at hcw HX hh
      obtain ⟨a, b⟩ := x
      simp only at hcw HX hh
      have HQ2 : Shh (Row wr M0 37 [.int .u32 f0, .bool s0, .int .i64 n0, .int .i64 f3] ∧ Below w.heap.size w wr ∧ M0 < wr.heap.size) := ⟨HQ.out.2.2.1, HQ.out.2.2.2, HQ.out.2.2.1.lt⟩
      have c0 := (HQ.out.2.2.2.cell (p := ⟨g, off + k * 2, none⟩) hg).trans hcw.1
      have c1 := (HQ.out.2.2.2.cell (p := ⟨g, off + k * 2 + 1, none⟩) hg).trans hcw.2
      clear hcw HQ
      have HV : Shh ((∀ W, Calls Try.prog 13 #[.agg #[.int .u32 (a : Int), .int .u32 (b : Int)]] W (OldIs (.tuple #[lmsV a, otsV b]) W)) ∧ ∀ W, Calls Try.prog 16 #[.agg #[.int .u32 (a : Int), .int .u32 (b : Int)]] W (OldIs (.bool (fitL a b)) W)) := ⟨fun W => refSets_any a b HX.out.2.2.1 W, fun W => fits_lv a b HX.out.2.2.1 W⟩
      have HK : Shh (okS (l.getD 0 (0, 0)) (a, b) = (fitL a b && (lSh a == s0) && decide (lN a = n0))) := ⟨HS.out (a, b)⟩
      unfold lmsV otsV at HV
      generalize fitL a b = ft at HV HK
      generalize lC a = l0 at HV
      generalize lSh a = l1 at HV HK
      generalize lN a = l2 at HV HK
      generalize lH a = l3 at HV HX hh
      generalize oC b = p0 at HV
      generalize (oR b).1 = p1 at HV
      generalize (oR b).2.1 = p2 at HV
      generalize (oR b).2.2.1 = p3 at HV
      generalize (oR b).2.2.2.1 = p4 at HV
      generalize (oR b).2.2.2.2 = p5 at HV
      go_wp2_with (go_at_call 13; refine (HV.out.1 _).mono ?_)
      unfold OldIs
      rintro e w2 ⟨rfl, b2⟩
      have HB2 : Shh (Below w.heap.size w w2 ∧ Row w2 wr.heap.size 43 [.int .u32 (a : Int), .int .u32 (b : Int)] ∧ Row w2 M0 37 [.int .u32 f0, .bool s0, .int .i64 n0, .int .i64 f3] ∧ wr.heap.size < w2.heap.size ∧ M0 < w2.heap.size) :=
        ⟨Below.chain (Below.chain HQ2.out.2.1 (Below.alloc (Below.refl _ _) (Nat.le_refl _) _)) b2, (Row.new_ rfl rfl).go b2, (HQ2.out.1.alloc _).go b2, by have := b2.size; rw [asz] at this; omega, by have := b2.size; rw [asz] at this; have := HQ2.out.2.2; omega⟩
      clear b2 c0 c1 HQ2
      obtain ⟨M, hM⟩ : ∃ M, Shh (M = w2.heap.size) := ⟨_, ⟨rfl⟩⟩
      have HM1 : Shh (wr.heap.size < M ∧ M0 < M) := ⟨by have := hM.out; have := HB2.out.2.2.2; omega⟩
      have FR : Shh (Below w.heap.size w w2 ∧ Row w2 wr.heap.size 43 [.int .u32 (a : Int), .int .u32 (b : Int)] ∧ Row w2 M0 37 [.int .u32 f0, .bool s0, .int .i64 n0, .int .i64 f3]) := ⟨HB2.out.1, HB2.out.2.1, HB2.out.2.2.1⟩
      go_wp2_with (refine wpList_store_any rfl 37 (.tmp 8) (.tmp 34) rfl M (by rw [hM.out]; rfl) [.int .u32 l0, .bool l1, .int .i64 l2, .int .i64 (l3 : Int)] rfl 37 [.int .u32 0, .bool false, .int .i64 0, .int .i64 0] ((Row.new_ hM.out rfl).alloc _) info_lms rfl oneCell4 ?_)
      intro Za hr bt _
      have FA : Shh (Row Za M 37 [.int .u32 l0, .bool l1, .int .i64 l2, .int .i64 (l3 : Int)] ∧ Row Za (M + 1) 39 [.int .u32 0, .bool false, .int .i64 0, .int .i64 0, .int .i64 0, .int .i64 0] ∧ Below w.heap.size w Za ∧ M + 2 ≤ Za.heap.size ∧ w.heap.size ≤ M ∧ Row Za wr.heap.size 43 [.int .u32 (a : Int), .int .u32 (b : Int)] ∧ Row Za M0 37 [.int .u32 f0, .bool s0, .int .i64 n0, .int .i64 f3]) := by
        have hm := hM.out
        have hz := FR.out.1.size
        have bz := bt.size
        simp only [asz] at bz
        have a2 : Below w.heap.size w ((w2.alloc (.cells #[.int .u32 0, .bool false, .int .i64 0, .int .i64 0] 37)).alloc (.cells #[.int .u32 0, .bool false, .int .i64 0, .int .i64 0, .int .i64 0, .int .i64 0] 39)) := ((FR.out.1).alloc (by omega) _).alloc (by rw [asz]; omega) _
        refine ⟨hr, bt.row (Row.new_ (by rw [asz, hm]) rfl) (by first | omega | (simp only [asz]; omega)) (by omega), a2.trans (bt.under (by first | omega | (simp only [asz]; omega)) (by omega)), by omega, by omega, bt.row (((FR.out.2.1).alloc _).alloc _) (by have := (FR.out.2.1).lt; first | omega | (simp only [asz]; omega)) (by have := (FR.out.2.1).lt; omega), bt.row (((FR.out.2.2).alloc _).alloc _) (by have := (FR.out.2.2).lt; first | omega | (simp only [asz]; omega)) (by have := (FR.out.2.2).lt; omega)⟩
      rw [← hM.out]
      clear hr bt FR hM
      go_wp2_with (refine wpList_store_any rfl 39 (.tmp 9) (.tmp 35) rfl (M + 1) rfl [.int .u32 p0, .bool p1, .int .i64 p2, .int .i64 p3, .int .i64 p4, .int .i64 p5] rfl 39 [.int .u32 0, .bool false, .int .i64 0, .int .i64 0, .int .i64 0, .int .i64 0] FA.out.2.1 info_ots rfl oneCell6 ?_)
      intro Z hr bt _
      have FZ : Shh (Row Z M 37 [.int .u32 l0, .bool l1, .int .i64 l2, .int .i64 (l3 : Int)] ∧ Row Z (M + 1) 39 [.int .u32 p0, .bool p1, .int .i64 p2, .int .i64 p3, .int .i64 p4, .int .i64 p5] ∧ Below w.heap.size w Z ∧ M + 2 ≤ Z.heap.size ∧ w.heap.size ≤ M ∧ Row Z wr.heap.size 43 [.int .u32 (a : Int), .int .u32 (b : Int)] ∧ Row Z M0 37 [.int .u32 f0, .bool s0, .int .i64 n0, .int .i64 f3]) := by
        have hz := FA.out.2.2.2.1
        have hw := FA.out.2.2.2.2.1
        have bz := bt.size
        exact ⟨bt.row FA.out.1 (by omega) (by omega), hr, FA.out.2.2.1.trans (bt.under (by omega) (by omega)), by omega, hw, bt.row (FA.out.2.2.2.2.2.1) (by have := (FA.out.2.2.2.2.2.1).lt; omega) (by have := HM1.out; omega), bt.row (FA.out.2.2.2.2.2.2) (by have := (FA.out.2.2.2.2.2.2).lt; omega) (by have := HM1.out; omega)⟩
      clear hr bt FA
      go_wp2_with (first | refine wpList_load_any rfl 43 (.tmp 7) rfl wr.heap.size rfl 43 [.int .u32 (a : Int), .int .u32 (b : Int)] _ FZ.out.2.2.2.2.2.1 Try.underlying43 rfl info_lv ?_ | (go_at_call 16; refine (HV.out.2 _).mono ?_))
      unfold OldIs
      rintro e w4 ⟨rfl, b4⟩
      have F4 : Shh (Row w4 M0 37 [.int .u32 f0, .bool s0, .int .i64 n0, .int .i64 f3] ∧ Below w.heap.size w w4) := ⟨FZ.out.2.2.2.2.2.2.go b4, Below.chain FZ.out.2.2.1 b4⟩
      have e1 := (FZ.out.1.go b4).cell 1
      have e2 := (FZ.out.1.go b4).cell 2
      have e3 := (FZ.out.1.go b4).cell 3
      have d1 := F4.out.1.cell 1
      have d2 := F4.out.1.cell 2
      simp only [List.getElem?_cons_succ, List.getElem?_cons_zero] at e1 e2 e3 d1 d2
      clear FZ b4 HV
      cases ft with
      | false =>
        have HR : Shh (V = false ∧ Below w.heap.size w w4) := ⟨by rw [HE.out.1]; exact mayL_bad HX.out.2.2.2.1 (by rw [HK.out]; rfl), F4.out.2⟩
        clear F4 HX HK HE HS HO
        go_wp2
        go_ret
        exact ⟨by rw [HR.out.1]; rfl, HR.out.2⟩
      | true =>
        by_cases es : l1 = s0
        rotate_left
        · have es3 : s0 = !l1 := by cases l1 <;> cases s0 <;> first | rfl | exact absurd rfl es
          have HR : Shh (V = false ∧ Below w.heap.size w w4) := ⟨by rw [HE.out.1]; exact mayL_bad HX.out.2.2.2.1 (by rw [HK.out]; simp [es]), F4.out.2⟩
          clear F4 HX HK HE HS HO es
          subst es3
          cases l1 with
          | false =>
            go_wp2
            go_ret
            exact ⟨by rw [HR.out.1]; rfl, HR.out.2⟩
          | true =>
            go_wp2
            go_ret
            exact ⟨by rw [HR.out.1]; rfl, HR.out.2⟩
        subst es
        by_cases en : l2 = n0
        rotate_left
        · have en2 : (l2 != n0) = true := by simpa using en
          have HR : Shh (V = false ∧ Below w.heap.size w w4) := ⟨by rw [HE.out.1]; exact mayL_bad HX.out.2.2.2.1 (by rw [HK.out]; simp [en]), F4.out.2⟩
          clear F4 HX HK HE HS HO en
          cases l1 with
          | false =>
            go_wp2
            go_ret
            exact ⟨by rw [HR.out.1]; rfl, HR.out.2⟩
          | true =>
            go_wp2
            go_ret
            exact ⟨by rw [HR.out.1]; rfl, HR.out.2⟩
        have en2 : (l2 != n0) = false := by simpa using en
        have HR : Shh (q + l3 = sumH (l.take (k + 1)) ∧ (∀ j (h : j < l.length), j < k + 1 → okS (l.getD 0 (0, 0)) l[j] = true) ∧ Row w4 M0 37 [.int .u32 f0, .bool l1, .int .i64 n0, .int .i64 f3] ∧ Below w.heap.size w w4) := ⟨HX.out.1, HX.out.2.2.2.2 (by rw [HK.out, en]; simp), F4.out⟩
        clear F4 HX HK HE HS HO en
        cases l1 with
        | false =>
          go_wp2
          go_round
          case rel => exact ⟨k + 1, q + l3, by omega, by omega, by go_num, by go_num, HR⟩
          case measure => simp [intOf]; omega
        | true =>
          go_wp2
          go_round
          case rel => exact ⟨k + 1, q + l3, by omega, by omega, by go_num, by go_num, HR⟩
          case measure => simp [intOf]; omega
    · obtain rfl : k = l.length := by omega
      have HR : Shh (V = decide (q ≤ 60) ∧ Below w.heap.size w wr) := ⟨by rw [HE.out.1, mayL_end HE.out.2 (fun j hj => HQ.out.2.1 j hj hj), HQ.out.1, List.take_length], HQ.out.2.2.2⟩
      clear HQ HE HO HC HS
      by_cases h60 : q ≤ 60
      · have h61 : (q : Int) ≤ 60 := by omega
        go_wp2
        go_ret
        exact ⟨by rw [HR.out.1, decide_eq_true h60]; rfl, HR.out.2⟩
      · have h61 : ¬ (q : Int) ≤ 60 := by omega
        go_wp2
        go_ret
        exact ⟨by rw [HR.out.1, decide_eq_false h60]; rfl, HR.out.2⟩
end Go.Proofs.Ythahnckjmlcehaa
