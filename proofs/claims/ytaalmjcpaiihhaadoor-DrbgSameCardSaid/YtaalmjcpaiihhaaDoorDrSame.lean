/-
  WALK: the law DrbgSame.
-/
import Derived.Test.YtaalmjcpaiihhaaDoorDrMuch
namespace Go.Proofs.YtaalmjcpaiihhaaDoor
open Go.RowKit
set_option maxRecDepth 100000
theorem drO_take (s : List UInt8) (h : s.length = 64) (j k : Nat) (hjk : j ≤ k) : (drO s k).take (32 * j) = drO s j := by
  induction k with
  | zero =>
    obtain rfl : j = 0 := by omega
    rfl
  | succ k ih =>
    by_cases e : j = k + 1
    · subst e
      rw [List.take_of_length_le (by rw [drO_length s h]; omega)]
    · rw [drO, List.take_append_of_le_length (by rw [drO_length s h]; omega), ih (by omega)]
theorem drawB_take (s : List UInt8) (h : s.length = 64) (n m : Nat) (hnm : n ≤ m) : (drawB s m).take n = drawB s n := by
  have hb : blocksN n ≤ blocksN m := by unfold blocksN; omega
  have h1 := drO_take s h (blocksN n) (blocksN m) hb
  have h2 : n ≤ 32 * blocksN n := by unfold blocksN; omega
  unfold drawB
  rw [List.take_take, Nat.min_eq_left hnm, ← h1, List.take_take, Nat.min_eq_left h2]
theorem drawE_zero {n : Int} {ad : List UInt8} {c : Nat} (h : drawE n ad c = 0) : 0 ≤ n ∧ n ≤ 65536 ∧ longB ad = false ∧ c ≤ 1024 := by
  unfold drawE at h
  by_cases h1 : n < 0
  · rw [if_pos h1] at h; cases h
  · rw [if_neg h1] at h
    by_cases h2 : 65536 < n
    · rw [if_pos h2] at h; cases h
    · rw [if_neg h2] at h
      cases h3 : longB ad with
      | true => rw [h3] at h; cases h
      | false =>
        rw [h3, if_neg (by decide)] at h
        by_cases h4 : 1024 < c
        · rw [if_pos h4] at h; cases h
        · exact ⟨by omega, by omega, rfl, by omega⟩
set_option maxHeartbeats 16000000 in
theorem dr_same_any (ve vl : Value) (en : List UInt8) (l : List OpV) (less n : Int) (w : World) (hv : Vars w) (he : Sl w w.heap.size ve en) (ho : Ops w w.heap.size vl l) (hn : l.length ≤ 9223372036854775807) : Calls Tryd.prog 11 #[ve, vl, .int .i64 less, .int .i64 n] w (TrueIs w) := by
  unfold TrueIs
  obtain ⟨Ae, ce, rfl, _, _⟩ := he.form
  obtain ⟨Al, cl, rfl⟩ := ho.form
  have HW : Shh (Sl w w.heap.size (.slice Ae en.length ce) en ∧ Ops w w.heap.size (.slice Al l.length cl) l ∧ Vars w) := ⟨he, ho, hv⟩
  clear he ho hv
  cases hlo : long5B en with
  | true =>
    go_enter Tryd.func11, Tryd.ntmps11
    go_wp2_with (go_at_call 29; refine (dr_live_any w HW.out.2.2).mono ?_)
    rintro e Y1 ⟨rfl, b1⟩
    have H1 : Shh (Below w.heap.size w Y1) := ⟨b1⟩
    clear b1
    go_wp2_with (go_at_call 30; refine (long5_any _ _ en Y1 (HW.out.1.go H1.out)).mono ?_)
    unfold KeepIs
    rintro e w9 ⟨rfl, rfl⟩
    rw [hlo]
    go_wp2_with (go_at_call 29; refine (dr_live_any Y1 (HW.out.2.2.go H1.out)).mono ?_)
    rintro e Y9 ⟨rfl, b9⟩
    have F : Shh (Below w.heap.size w Y9) := ⟨Below.chain H1.out b9⟩
    clear H1 b9
    go_wp2
    go_ret
    exact ⟨rfl, F.out⟩
  | false =>
    cases hmu : much5B l with
    | true =>
      go_enter Tryd.func11, Tryd.ntmps11
      go_wp2_with (go_at_call 29; refine (dr_live_any w HW.out.2.2).mono ?_)
      rintro e Y1 ⟨rfl, b1⟩
      have H1 : Shh (Below w.heap.size w Y1) := ⟨b1⟩
      clear b1
      go_wp2_with (go_at_call 30; refine (long5_any _ _ en Y1 (HW.out.1.go H1.out)).mono ?_)
      unfold KeepIs
      rintro e w9 ⟨rfl, rfl⟩
      rw [hlo]
      go_wp2_with (go_at_call 31; refine (much5_any w.heap.size _ l Y1 (HW.out.2.1.below H1.out) H1.out.size hn).mono ?_)
      unfold BelowIs
      rintro e Y2 ⟨rfl, b2⟩
      rw [hmu]
      have H2 : Shh (Below w.heap.size w Y2) := ⟨Below.chain H1.out b2⟩
      clear b2 H1
      go_wp2_with (go_at_call 29; refine (dr_live_any Y2 (HW.out.2.2.go H2.out)).mono ?_)
      rintro e Y9 ⟨rfl, b9⟩
      have F : Shh (Below w.heap.size w Y9) := ⟨Below.chain H2.out b9⟩
      clear H2 b9
      go_wp2
      go_ret
      exact ⟨rfl, F.out⟩
    | false =>
      by_cases hc0 : n < 0
      · skip
        go_enter Tryd.func11, Tryd.ntmps11
        go_wp2_with (go_at_call 29; refine (dr_live_any w HW.out.2.2).mono ?_)
        rintro e Y1 ⟨rfl, b1⟩
        have H1 : Shh (Below w.heap.size w Y1) := ⟨b1⟩
        clear b1
        go_wp2_with (go_at_call 30; refine (long5_any _ _ en Y1 (HW.out.1.go H1.out)).mono ?_)
        unfold KeepIs
        rintro e w9 ⟨rfl, rfl⟩
        rw [hlo]
        go_wp2_with (go_at_call 31; refine (much5_any w.heap.size _ l Y1 (HW.out.2.1.below H1.out) H1.out.size hn).mono ?_)
        unfold BelowIs
        rintro e Y2 ⟨rfl, b2⟩
        rw [hmu]
        have H2 : Shh (Below w.heap.size w Y2) := ⟨Below.chain H1.out b2⟩
        clear b2 H1
        go_wp2_with (go_at_call 29; refine (dr_live_any Y2 (HW.out.2.2.go H2.out)).mono ?_)
        rintro e Y9 ⟨rfl, b9⟩
        have F : Shh (Below w.heap.size w Y9) := ⟨Below.chain H2.out b9⟩
        clear H2 b9
        go_wp2
        go_ret
        exact ⟨rfl, F.out⟩
      · skip
        by_cases hc1 : 600 < n
        · skip
          go_enter Tryd.func11, Tryd.ntmps11
          go_wp2_with (go_at_call 29; refine (dr_live_any w HW.out.2.2).mono ?_)
          rintro e Y1 ⟨rfl, b1⟩
          have H1 : Shh (Below w.heap.size w Y1) := ⟨b1⟩
          clear b1
          go_wp2_with (go_at_call 30; refine (long5_any _ _ en Y1 (HW.out.1.go H1.out)).mono ?_)
          unfold KeepIs
          rintro e w9 ⟨rfl, rfl⟩
          rw [hlo]
          go_wp2_with (go_at_call 31; refine (much5_any w.heap.size _ l Y1 (HW.out.2.1.below H1.out) H1.out.size hn).mono ?_)
          unfold BelowIs
          rintro e Y2 ⟨rfl, b2⟩
          rw [hmu]
          have H2 : Shh (Below w.heap.size w Y2) := ⟨Below.chain H1.out b2⟩
          clear b2 H1
          go_wp2_with (go_at_call 29; refine (dr_live_any Y2 (HW.out.2.2.go H2.out)).mono ?_)
          rintro e Y9 ⟨rfl, b9⟩
          have F : Shh (Below w.heap.size w Y9) := ⟨Below.chain H2.out b9⟩
          clear H2 b9
          go_wp2
          go_ret
          exact ⟨rfl, F.out⟩
        · skip
          by_cases hc2 : less < 0
          · skip
            go_enter Tryd.func11, Tryd.ntmps11
            go_wp2_with (go_at_call 29; refine (dr_live_any w HW.out.2.2).mono ?_)
            rintro e Y1 ⟨rfl, b1⟩
            have H1 : Shh (Below w.heap.size w Y1) := ⟨b1⟩
            clear b1
            go_wp2_with (go_at_call 30; refine (long5_any _ _ en Y1 (HW.out.1.go H1.out)).mono ?_)
            unfold KeepIs
            rintro e w9 ⟨rfl, rfl⟩
            rw [hlo]
            go_wp2_with (go_at_call 31; refine (much5_any w.heap.size _ l Y1 (HW.out.2.1.below H1.out) H1.out.size hn).mono ?_)
            unfold BelowIs
            rintro e Y2 ⟨rfl, b2⟩
            rw [hmu]
            have H2 : Shh (Below w.heap.size w Y2) := ⟨Below.chain H1.out b2⟩
            clear b2 H1
            go_wp2_with (go_at_call 29; refine (dr_live_any Y2 (HW.out.2.2.go H2.out)).mono ?_)
            rintro e Y9 ⟨rfl, b9⟩
            have F : Shh (Below w.heap.size w Y9) := ⟨Below.chain H2.out b9⟩
            clear H2 b9
            go_wp2
            go_ret
            exact ⟨rfl, F.out⟩
          · skip
            by_cases hc3 : n < less
            · skip
              go_enter Tryd.func11, Tryd.ntmps11
              go_wp2_with (go_at_call 29; refine (dr_live_any w HW.out.2.2).mono ?_)
              rintro e Y1 ⟨rfl, b1⟩
              have H1 : Shh (Below w.heap.size w Y1) := ⟨b1⟩
              clear b1
              go_wp2_with (go_at_call 30; refine (long5_any _ _ en Y1 (HW.out.1.go H1.out)).mono ?_)
              unfold KeepIs
              rintro e w9 ⟨rfl, rfl⟩
              rw [hlo]
              go_wp2_with (go_at_call 31; refine (much5_any w.heap.size _ l Y1 (HW.out.2.1.below H1.out) H1.out.size hn).mono ?_)
              unfold BelowIs
              rintro e Y2 ⟨rfl, b2⟩
              rw [hmu]
              have H2 : Shh (Below w.heap.size w Y2) := ⟨Below.chain H1.out b2⟩
              clear b2 H1
              go_wp2_with (go_at_call 29; refine (dr_live_any Y2 (HW.out.2.2.go H2.out)).mono ?_)
              rintro e Y9 ⟨rfl, b9⟩
              have F : Shh (Below w.heap.size w Y9) := ⟨Below.chain H2.out b9⟩
              clear H2 b9
              go_wp2
              go_ret
              exact ⟨rfl, F.out⟩
            · skip
              obtain ⟨m, rfl⟩ : ∃ m : Nat, n = (m : Int) := ⟨n.toNat, by omega⟩
              obtain ⟨ls, rfl⟩ : ∃ k : Nat, less = (k : Int) := ⟨less.toNat, by omega⟩
              by_cases hf : fitE en [[], []] = 0
              · skip
                have HF : Shh (fitE en [[], []] = 0) := ⟨hf⟩
                clear hf
                go_enter Tryd.func11, Tryd.ntmps11
                go_wp2_with (go_at_call 29; refine (dr_live_any w HW.out.2.2).mono ?_)
                rintro e Y1 ⟨rfl, b1⟩
                have H1 : Shh (Below w.heap.size w Y1) := ⟨b1⟩
                clear b1
                go_wp2_with (go_at_call 30; refine (long5_any _ _ en Y1 (HW.out.1.go H1.out)).mono ?_)
                unfold KeepIs
                rintro e w9 ⟨rfl, rfl⟩
                rw [hlo]
                go_wp2_with (go_at_call 31; refine (much5_any w.heap.size _ l Y1 (HW.out.2.1.below H1.out) H1.out.size hn).mono ?_)
                unfold BelowIs
                rintro e Y2 ⟨rfl, b2⟩
                rw [hmu]
                have H2 : Shh (Below w.heap.size w Y2) := ⟨Below.chain H1.out b2⟩
                clear b2 H1
                go_wp2_with (go_at_call 32; refine (new_ok _ _ _ en [] [] Y2 (HW.out.1.go H2.out) Sl.nil_ Sl.nil_ (HW.out.2.2.go H2.out) HF.out).mono ?_)
                rintro e Y3 ⟨q1, rfl, hg1, hd1, b3⟩
                obtain ⟨s0, hs0⟩ : ∃ s, s = newL en [] [] := ⟨_, rfl⟩
                rw [← hs0] at hd1
                have H3 : Shh (DAt Y3 q1 s0 1 ∧ Below w.heap.size w Y3 ∧ w.heap.size ≤ q1 ∧ s0 = newL en [] []) := ⟨hd1, Below.chain H2.out b3, by have := H2.out.size; omega, hs0⟩
                clear hg1 hd1 b3 H2 hs0
                have hel : en.length ≤ 4096 := (fitE_lens HF.out).1
                obtain ⟨X, hX⟩ : ∃ X, X = Y3.alloc (.cells #[.slice Ae en.length ce] 24) := ⟨_, rfl⟩
                have bX : Below Y3.heap.size Y3 X := by rw [hX]; exact below1 _ _
                have HX : Shh (PartsO X X.heap.size X.heap.size (.slice (some ⟨Y3.heap.size, 0, none⟩) 1 1) [en] ∧ Below Y3.heap.size Y3 X) := ⟨by rw [hX]; exact parts1 (HW.out.1.go H3.out.2.1), bX⟩
                rw [hX] at HX
                clear bX
                go_wp2_with (go_at_call 23; refine (refJoin_any _ _ _ [en] _ HX.out.1 (Nat.le_refl _) (by simp; omega) (by simp)).mono ?_)
                rintro e Y4 ⟨v4, rfl, g4⟩
                have e4 : [en].flatten = en := by simp
                rw [e4] at g4
                rw [← hX] at HX g4
                have H4 : Shh (Sl Y4 Y4.heap.size v4 en ∧ Below Y3.heap.size Y3 Y4) := ⟨gives_sl g4, Below.chain HX.out.2 g4.2⟩
                clear g4 HX e4 hX
                go_wp2_with (go_at_call 32; refine (new_ok _ _ _ en [] [] Y4 H4.out.1 Sl.nil_ Sl.nil_ (HW.out.2.2.go (Below.chain H3.out.2.1 H4.out.2)) HF.out).mono ?_)
                rintro e Y5 ⟨q2, rfl, hg2, hd2, b5⟩
                rw [← H3.out.2.2.2] at hd2
                have H5 : Shh (DAt Y5 q1 s0 1 ∧ DAt Y5 q2 s0 1 ∧ Below w.heap.size w Y5) := ⟨(H3.out.1.go H4.out.2).go b5, hd2, Below.chain H3.out.2.1 (Below.chain H4.out.2 b5)⟩
                have HG : Shh (w.heap.size ≤ q1 ∧ w.heap.size ≤ q2 ∧ q1 ≠ q2) := ⟨H3.out.2.2.1, by have := H3.out.2.1.size; have := H4.out.2.size; omega, by have := H3.out.1.lt; have := H4.out.2.size; omega⟩
                clear hg2 hd2 b5 H3 H4
                go_wp2
                go_loopw [14, 15, 16, 17, 18, 84] (fun _ _ _ _ _ i wr => ∃ k : Nat, k ≤ l.length ∧ i = .int .i64 k ∧ Shh (∃ s c, DAt wr q1 s c ∧ DAt wr q2 s c ∧ 0 < c ∧ c ≤ 1025 ∧ Below w.heap.size w wr)) (fun _ _ _ _ _ i _ => l.length - (intOf i).toNat)
                case atStart => exact ⟨0, Nat.zero_le _, rfl, ⟨s0, 1, H5.out.1, H5.out.2.1, by omega, by omega, H5.out.2.2⟩⟩
                case round =>
                  obtain ⟨k, hk, rfl, HL⟩ := hrel
                  obtain ⟨s, c, hl0⟩ := HL.out
                  have HS : Shh (DAt wr q1 s c ∧ DAt wr q2 s c ∧ 0 < c ∧ c ≤ 1025 ∧ Below w.heap.size w wr) := ⟨hl0⟩
                  have hc0 := hl0.2.2.1
                  have hc1 := hl0.2.2.2.1
                  clear hl0 HL H5
                  by_cases hlt : k < l.length
                  · skip
                    obtain ⟨q, off, rfl, hq, hcc⟩ := HW.out.2.1.at_ (by omega)
                    have hcw := hcc k hlt
                    clear hcc
                    generalize l[k] = x at *
                    obtain ⟨r, nn, bb, aa, cp⟩ := x
                    obtain ⟨vb, va, d0, d1, d2, d3, d4, tb, ta⟩ := hcw
                    obtain ⟨Ab, cb, rfl, _, _⟩ := tb.form
                    obtain ⟨Aa, ca, rfl, _, _⟩ := ta.form
                    have HC2 : Shh ((∀ Z, Below w.heap.size w Z → Sl Z Z.heap.size (.slice Ab bb.length cb) bb) ∧ (∀ Z, Below w.heap.size w Z → Sl Z Z.heap.size (.slice Aa aa.length ca) aa)) := ⟨fun Z hZ => tb.go hZ, fun Z hZ => ta.go hZ⟩
                    have hbw := HS.out.2.2.2.2
                    have c0 := (hbw.cell (p := ⟨q, off + k * 5, none⟩) hq).trans d0
                    have c1 := (hbw.cell (p := ⟨q, off + k * 5 + 1, none⟩) hq).trans d1
                    have c2 := (hbw.cell (p := ⟨q, off + k * 5 + 2, none⟩) hq).trans d2
                    have c3 := (hbw.cell (p := ⟨q, off + k * 5 + 3, none⟩) hq).trans d3
                    have c4 := (hbw.cell (p := ⟨q, off + k * 5 + 4, none⟩) hq).trans d4
                    have sb := tb.below hbw
                    have sa := ta.below hbw
                    clear d0 d1 d2 d3 d4 tb ta hbw
                    have HsB : Shh (∀ Z, Below w.heap.size w Z → Sl Z Z.heap.size (.slice Ab bb.length cb) bb) := ⟨fun Z hZ => HC2.out.1 Z hZ⟩
                    have HsA : Shh (∀ Z, Below w.heap.size w Z → Sl Z Z.heap.size (.slice Aa aa.length ca) aa) := ⟨fun Z hZ => HC2.out.2 Z hZ⟩
                    obtain ⟨nW, hnW⟩ : ∃ n, wr.heap.size = n := ⟨_, rfl⟩
                    have bT : Below nW wr (wr.alloc (.cells #[.bool r, .int .i64 nn, .slice Ab bb.length cb, .slice Aa aa.length ca, .bool cp] 56)) := (Below.refl _ _).alloc (by omega) _
                    have rT : Row (wr.alloc (.cells #[.bool r, .int .i64 nn, .slice Ab bb.length cb, .slice Aa aa.length ca, .bool cp] 56)) nW 56 [.bool r, .int .i64 nn, .slice Ab bb.length cb, .slice Aa aa.length ca, .bool cp] := Row.new_ hnW.symm rfl
                    have hws : w.heap.size ≤ nW := by have := HS.out.2.2.2.2.size; omega
                    have HT : Shh (DAt (wr.alloc (.cells #[.bool r, .int .i64 nn, .slice Ab bb.length cb, .slice Aa aa.length ca, .bool cp] 56)) q1 s c ∧ DAt (wr.alloc (.cells #[.bool r, .int .i64 nn, .slice Ab bb.length cb, .slice Aa aa.length ca, .bool cp] 56)) q2 s c ∧ Below w.heap.size w (wr.alloc (.cells #[.bool r, .int .i64 nn, .slice Ab bb.length cb, .slice Aa aa.length ca, .bool cp] 56)) ∧ Sl (wr.alloc (.cells #[.bool r, .int .i64 nn, .slice Ab bb.length cb, .slice Aa aa.length ca, .bool cp] 56)) (wr.alloc (.cells #[.bool r, .int .i64 nn, .slice Ab bb.length cb, .slice Aa aa.length ca, .bool cp] 56)).heap.size (.slice Ab bb.length cb) bb ∧ Sl (wr.alloc (.cells #[.bool r, .int .i64 nn, .slice Ab bb.length cb, .slice Aa aa.length ca, .bool cp] 56)) (wr.alloc (.cells #[.bool r, .int .i64 nn, .slice Ab bb.length cb, .slice Aa aa.length ca, .bool cp] 56)).heap.size (.slice Aa aa.length ca) aa ∧ Row (wr.alloc (.cells #[.bool r, .int .i64 nn, .slice Ab bb.length cb, .slice Aa aa.length ca, .bool cp] 56)) nW 56 [.bool r, .int .i64 nn, .slice Ab bb.length cb, .slice Aa aa.length ca, .bool cp] ∧ q1 < nW ∧ q2 < nW) :=
                      ⟨HS.out.1.go (by rw [hnW]; exact bT), HS.out.2.1.go (by rw [hnW]; exact bT), HS.out.2.2.2.2.trans (bT.mono hws), (sb.below (bT.mono hws)).more (by rw [asz]; omega), (sa.below (bT.mono hws)).more (by rw [asz]; omega), rT, by have := HS.out.1.lt; omega, by have := HS.out.2.1.lt; omega⟩
                    have h0 := rT.cell 0
                    have h1 := rT.cell 1
                    have h3 := rT.cell 3
                    clear bT sb sa HS rT
                    cases r with
                    | true =>
                      go_wp2
                      have HD : Shh (DAt (wr.alloc (.cells #[.bool true, .int .i64 nn, .slice Ab bb.length cb, .slice Aa aa.length ca, .bool cp] 56)).drew q1 s c ∧ DAt (wr.alloc (.cells #[.bool true, .int .i64 nn, .slice Ab bb.length cb, .slice Aa aa.length ca, .bool cp] 56)).drew q2 s c ∧ Below w.heap.size w (wr.alloc (.cells #[.bool true, .int .i64 nn, .slice Ab bb.length cb, .slice Aa aa.length ca, .bool cp] 56)).drew ∧ Sl (wr.alloc (.cells #[.bool true, .int .i64 nn, .slice Ab bb.length cb, .slice Aa aa.length ca, .bool cp] 56)).drew (wr.alloc (.cells #[.bool true, .int .i64 nn, .slice Ab bb.length cb, .slice Aa aa.length ca, .bool cp] 56)).drew.heap.size (.slice Ab bb.length cb) bb ∧ Sl (wr.alloc (.cells #[.bool true, .int .i64 nn, .slice Ab bb.length cb, .slice Aa aa.length ca, .bool cp] 56)).drew (wr.alloc (.cells #[.bool true, .int .i64 nn, .slice Ab bb.length cb, .slice Aa aa.length ca, .bool cp] 56)).drew.heap.size (.slice Aa aa.length ca) aa ∧ Row (wr.alloc (.cells #[.bool true, .int .i64 nn, .slice Ab bb.length cb, .slice Aa aa.length ca, .bool cp] 56)).drew nW 56 [.bool true, .int .i64 nn, .slice Ab bb.length cb, .slice Aa aa.length ca, .bool cp] ∧ q1 < nW ∧ q2 < nW) :=
                        ⟨⟨HT.out.1.row.drew, HT.out.1.len⟩, ⟨HT.out.2.1.row.drew, HT.out.2.1.len⟩, HT.out.2.2.1.drew, HT.out.2.2.2⟩
                      clear HT h0 h1 h3 c0 c1 c2 c3 c4
                      by_cases hfr : fitE bb [aa] = 0
                      · skip
                        refine wp_region_held_drew (S := fun w' => Row w' nW 56 [.bool true, .int .i64 nn, .slice Ab bb.length cb, .slice Aa aa.length ca, .bool cp]) (by kernel_rfl) HD.out.2.2.2.2.2.1 (fun hS => ?_)
                        clear hS
                        generalize World.drew _ = V at HD ⊢
                        have rW := HD.out.2.2.2.2.2.1
                        refine held_value 0 _ _ (some 90) (.pointer (some ⟨q1, 0, none⟩)) (by kernel_rfl) (by rfl) (by kernel_rfl) (fun w hS => by first | kernel_rfl | go_simp) (fun _ _ _ _ h => h) (rW) ?_
                        simp only [Act.put, List.setIfInBounds_toArray, List.set_cons_zero, List.set_cons_succ]
                        refine held_value 1 _ _ (some 91) (.pointer (some ⟨nW, 2, none⟩)) (by kernel_rfl) (by rfl) (by kernel_rfl) (fun w hS => by first | kernel_rfl | go_simp) (fun _ _ _ _ h => h) (rW) ?_
                        simp only [Act.put, List.setIfInBounds_toArray, List.set_cons_zero, List.set_cons_succ]
                        refine held_value 2 _ _ (some 92) (.slice Ab bb.length cb) (by kernel_rfl) (by rfl) (by kernel_rfl) (fun w hS => by have h2 : w.cell? ⟨nW, 2, none⟩ = some (.slice Ab bb.length cb) := hS.cell 2; go_simp) (fun _ _ _ _ h => h) (rW) ?_
                        simp only [Act.put, List.setIfInBounds_toArray, List.set_cons_zero, List.set_cons_succ]
                        refine held_value 3 _ _ (some 93) (.pointer (some ⟨nW, 3, none⟩)) (by kernel_rfl) (by rfl) (by kernel_rfl) (fun w hS => by first | kernel_rfl | go_simp) (fun _ _ _ _ h => h) (rW) ?_
                        simp only [Act.put, List.setIfInBounds_toArray, List.set_cons_zero, List.set_cons_succ]
                        refine held_value 4 _ _ (some 94) (.slice Aa aa.length ca) (by kernel_rfl) (by rfl) (by kernel_rfl) (fun w hS => by have h2 : w.cell? ⟨nW, 3, none⟩ = some (.slice Aa aa.length ca) := hS.cell 3; go_simp) (fun _ _ _ _ h => h) (rW) ?_
                        simp only [Act.put, List.setIfInBounds_toArray, List.set_cons_zero, List.set_cons_succ]
                        refine held_value 6 _ _ (some 96) (.pointer (some ⟨q2, 0, none⟩)) (by kernel_rfl) (by rfl) (by kernel_rfl) (fun w hS => by first | kernel_rfl | go_simp) (fun _ _ _ _ h => h) (rW) ?_
                        simp only [Act.put, List.setIfInBounds_toArray, List.set_cons_zero, List.set_cons_succ]
                        refine held_value 7 _ _ (some 97) (.pointer (some ⟨nW, 2, none⟩)) (by kernel_rfl) (by rfl) (by kernel_rfl) (fun w hS => by first | kernel_rfl | go_simp) (fun _ _ _ _ h => h) (rW) ?_
                        simp only [Act.put, List.setIfInBounds_toArray, List.set_cons_zero, List.set_cons_succ]
                        refine held_value 8 _ _ (some 98) (.slice Ab bb.length cb) (by kernel_rfl) (by rfl) (by kernel_rfl) (fun w hS => by have h2 : w.cell? ⟨nW, 2, none⟩ = some (.slice Ab bb.length cb) := hS.cell 2; go_simp) (fun _ _ _ _ h => h) (rW) ?_
                        simp only [Act.put, List.setIfInBounds_toArray, List.set_cons_zero, List.set_cons_succ]
                        refine held_value 9 _ _ (some 99) (.pointer (some ⟨nW, 3, none⟩)) (by kernel_rfl) (by rfl) (by kernel_rfl) (fun w hS => by first | kernel_rfl | go_simp) (fun _ _ _ _ h => h) (rW) ?_
                        simp only [Act.put, List.setIfInBounds_toArray, List.set_cons_zero, List.set_cons_succ]
                        refine held_value 10 _ _ (some 100) (.slice Aa aa.length ca) (by kernel_rfl) (by rfl) (by kernel_rfl) (fun w hS => by have h2 : w.cell? ⟨nW, 3, none⟩ = some (.slice Aa aa.length ca) := hS.cell 3; go_simp) (fun _ _ _ _ h => h) (rW) ?_
                        simp only [Act.put, List.setIfInBounds_toArray, List.set_cons_zero, List.set_cons_succ]
                        refine held_one 5 (by kernel_rfl) ?_
                        refine step_call 5 _ _ (some 95) 37 #[.pointer (some ⟨q1, 0, none⟩), .slice Ab bb.length cb, .slice Aa aa.length ca] (by rfl) (by kernel_rfl) (by first | kernel_rfl | go_simp) ?_
                        refine (reseed_ok q1 c _ _ bb aa s V HD.out.1 HD.out.2.2.2.1 HD.out.2.2.2.2.1 (HW.out.2.2.go HD.out.2.2.1) hc0 hfr).mono ?_
                        rintro e Y1 ⟨rfl, hdy, byy⟩
                        have HY1 : Shh (DAt Y1 q1 (updL (bb ++ aa) s) 1 ∧ DAt Y1 q2 s c ∧ Below w.heap.size w Y1 ∧ Sl Y1 Y1.heap.size (.slice Ab bb.length cb) bb ∧ Sl Y1 Y1.heap.size (.slice Aa aa.length ca) aa ∧ q1 < Y1.heap.size) := ⟨hdy, HD.out.2.1.other byy (fun h => HG.out.2.2 h.symm), HD.out.2.2.1.trans (byy.under HD.out.2.2.1.size HG.out.1), HsB.out Y1 (HD.out.2.2.1.trans (byy.under HD.out.2.2.1.size HG.out.1)), HsA.out Y1 (HD.out.2.2.1.trans (byy.under HD.out.2.2.1.size HG.out.1)), hdy.lt⟩
                        replace rW := byy.row rW rW.lt (by have := HD.out.2.2.2.2.2.2.1; omega)
                        clear hdy byy
                        refine ⟨_, rfl, rW, ?_⟩
                        simp only [Act.put, List.setIfInBounds_toArray, List.set_cons_zero, List.set_cons_succ]
                        refine held_one 11 (by kernel_rfl) ?_
                        refine step_call 11 _ _ (some 101) 37 #[.pointer (some ⟨q2, 0, none⟩), .slice Ab bb.length cb, .slice Aa aa.length ca] (by rfl) (by kernel_rfl) (by first | kernel_rfl | go_simp) ?_
                        refine (reseed_ok q2 c _ _ bb aa s Y1 HY1.out.2.1 HY1.out.2.2.2.1 HY1.out.2.2.2.2.1 (HW.out.2.2.go HY1.out.2.2.1) hc0 hfr).mono ?_
                        rintro e Y2 ⟨rfl, hdy, byy⟩
                        have HY2 : Shh (DAt Y2 q1 (updL (bb ++ aa) s) 1 ∧ DAt Y2 q2 (updL (bb ++ aa) s) 1 ∧ Below w.heap.size w Y2) := ⟨HY1.out.1.other byy HG.out.2.2, hdy, HY1.out.2.2.1.trans (byy.under HY1.out.2.2.1.size HG.out.2.1)⟩
                        replace rW := byy.row rW rW.lt (by have := HD.out.2.2.2.2.2.2.2; omega)
                        clear hdy byy
                        refine ⟨_, rfl, rW, ?_⟩
                        simp only [Act.put, List.setIfInBounds_toArray, List.set_cons_zero, List.set_cons_succ]
                        refine held_value 12 _ _ (some 102) (.bool false) (by kernel_rfl) (by rfl) (by kernel_rfl) (fun w hS => by go_simp) (fun _ _ _ _ h => h) (rW) ?_
                        simp only [Act.put, List.setIfInBounds_toArray, List.set_cons_zero, List.set_cons_succ]
                        refine wpAnyH_done (by kernel_rfl) ?_ _
                        have F : Shh (∃ s c, DAt Y2 q1 s c ∧ DAt Y2 q2 s c ∧ 0 < c ∧ c ≤ 1025 ∧ Below w.heap.size w Y2) := ⟨_, 1, HY2.out.1, HY2.out.2.1, by omega, by omega, HY2.out.2.2⟩
                        clear HY1 HY2 rW HD hfr
                        go_wp2
                        go_roundw
                        case rel => exact ⟨k + 1, by omega, by go_num, F⟩
                        case measure => simp [intOf]; omega
                      · skip
                        refine wp_region_held_drew (S := fun w' => Row w' nW 56 [.bool true, .int .i64 nn, .slice Ab bb.length cb, .slice Aa aa.length ca, .bool cp]) (by kernel_rfl) HD.out.2.2.2.2.2.1 (fun hS => ?_)
                        clear hS
                        generalize World.drew _ = V at HD ⊢
                        have rW := HD.out.2.2.2.2.2.1
                        obtain ⟨er, her⟩ : ∃ er, er = fitE bb [aa] := ⟨_, rfl⟩
                        have HER : Shh (er = fitE bb [aa]) := ⟨her⟩
                        clear her
                        refine held_value 0 _ _ (some 90) (.pointer (some ⟨q1, 0, none⟩)) (by kernel_rfl) (by rfl) (by kernel_rfl) (fun w hS => by first | kernel_rfl | go_simp) (fun _ _ _ _ h => h) (rW) ?_
                        simp only [Act.put, List.setIfInBounds_toArray, List.set_cons_zero, List.set_cons_succ]
                        refine held_value 1 _ _ (some 91) (.pointer (some ⟨nW, 2, none⟩)) (by kernel_rfl) (by rfl) (by kernel_rfl) (fun w hS => by first | kernel_rfl | go_simp) (fun _ _ _ _ h => h) (rW) ?_
                        simp only [Act.put, List.setIfInBounds_toArray, List.set_cons_zero, List.set_cons_succ]
                        refine held_value 2 _ _ (some 92) (.slice Ab bb.length cb) (by kernel_rfl) (by rfl) (by kernel_rfl) (fun w hS => by have h2 : w.cell? ⟨nW, 2, none⟩ = some (.slice Ab bb.length cb) := hS.cell 2; go_simp) (fun _ _ _ _ h => h) (rW) ?_
                        simp only [Act.put, List.setIfInBounds_toArray, List.set_cons_zero, List.set_cons_succ]
                        refine held_value 3 _ _ (some 93) (.pointer (some ⟨nW, 3, none⟩)) (by kernel_rfl) (by rfl) (by kernel_rfl) (fun w hS => by first | kernel_rfl | go_simp) (fun _ _ _ _ h => h) (rW) ?_
                        simp only [Act.put, List.setIfInBounds_toArray, List.set_cons_zero, List.set_cons_succ]
                        refine held_value 4 _ _ (some 94) (.slice Aa aa.length ca) (by kernel_rfl) (by rfl) (by kernel_rfl) (fun w hS => by have h2 : w.cell? ⟨nW, 3, none⟩ = some (.slice Aa aa.length ca) := hS.cell 3; go_simp) (fun _ _ _ _ h => h) (rW) ?_
                        simp only [Act.put, List.setIfInBounds_toArray, List.set_cons_zero, List.set_cons_succ]
                        refine held_value 6 _ _ (some 96) (.pointer (some ⟨q2, 0, none⟩)) (by kernel_rfl) (by rfl) (by kernel_rfl) (fun w hS => by first | kernel_rfl | go_simp) (fun _ _ _ _ h => h) (rW) ?_
                        simp only [Act.put, List.setIfInBounds_toArray, List.set_cons_zero, List.set_cons_succ]
                        refine held_value 7 _ _ (some 97) (.pointer (some ⟨nW, 2, none⟩)) (by kernel_rfl) (by rfl) (by kernel_rfl) (fun w hS => by first | kernel_rfl | go_simp) (fun _ _ _ _ h => h) (rW) ?_
                        simp only [Act.put, List.setIfInBounds_toArray, List.set_cons_zero, List.set_cons_succ]
                        refine held_value 8 _ _ (some 98) (.slice Ab bb.length cb) (by kernel_rfl) (by rfl) (by kernel_rfl) (fun w hS => by have h2 : w.cell? ⟨nW, 2, none⟩ = some (.slice Ab bb.length cb) := hS.cell 2; go_simp) (fun _ _ _ _ h => h) (rW) ?_
                        simp only [Act.put, List.setIfInBounds_toArray, List.set_cons_zero, List.set_cons_succ]
                        refine held_value 9 _ _ (some 99) (.pointer (some ⟨nW, 3, none⟩)) (by kernel_rfl) (by rfl) (by kernel_rfl) (fun w hS => by first | kernel_rfl | go_simp) (fun _ _ _ _ h => h) (rW) ?_
                        simp only [Act.put, List.setIfInBounds_toArray, List.set_cons_zero, List.set_cons_succ]
                        refine held_value 10 _ _ (some 100) (.slice Aa aa.length ca) (by kernel_rfl) (by rfl) (by kernel_rfl) (fun w hS => by have h2 : w.cell? ⟨nW, 3, none⟩ = some (.slice Aa aa.length ca) := hS.cell 3; go_simp) (fun _ _ _ _ h => h) (rW) ?_
                        simp only [Act.put, List.setIfInBounds_toArray, List.set_cons_zero, List.set_cons_succ]
                        refine held_one 5 (by kernel_rfl) ?_
                        refine step_call 5 _ _ (some 95) 37 #[.pointer (some ⟨q1, 0, none⟩), .slice Ab bb.length cb, .slice Aa aa.length ca] (by rfl) (by kernel_rfl) (by first | kernel_rfl | go_simp) ?_
                        refine (reseed_bad q1 c _ _ bb aa s V HD.out.1 HD.out.2.2.2.1 HD.out.2.2.2.2.1 hc0 hfr).mono ?_
                        rintro e Y1 ⟨rfl, bx1⟩
                        have bx : Below V.heap.size V Y1 := bx1
                        rw [← HER.out]
                        have b_V := bx
                        have m_Y1 : V.heap.size ≤ Y1.heap.size := bx.size
                        clear bx
                        refine ⟨_, rfl, (rW.go b_V), ?_⟩
                        simp only [Act.put, List.setIfInBounds_toArray, List.set_cons_zero, List.set_cons_succ]
                        refine held_one 11 (by kernel_rfl) ?_
                        refine step_call 11 _ _ (some 101) 37 #[.pointer (some ⟨q2, 0, none⟩), .slice Ab bb.length cb, .slice Aa aa.length ca] (by rfl) (by kernel_rfl) (by first | kernel_rfl | go_simp) ?_
                        refine (reseed_bad q2 c _ _ bb aa s Y1 (HD.out.2.1.go b_V) (HD.out.2.2.2.1.go b_V) (HD.out.2.2.2.2.1.go b_V) hc0 hfr).mono ?_
                        rintro e Y2 ⟨rfl, bx2⟩
                        have bx : Below Y1.heap.size Y1 Y2 := bx2
                        rw [← HER.out]
                        replace b_V := Below.chain b_V bx
                        have b_Y1 := bx
                        have m_Y2 : Y1.heap.size ≤ Y2.heap.size := bx.size
                        clear bx
                        refine ⟨_, rfl, (rW.go b_V), ?_⟩
                        simp only [Act.put, List.setIfInBounds_toArray, List.set_cons_zero, List.set_cons_succ]
                        refine held_value 12 _ _ (some 102) (.bool false) (by kernel_rfl) (by rfl) (by kernel_rfl) (fun w hS => by go_simp) (fun _ _ _ _ h => h) ((rW.go b_V)) ?_
                        simp only [Act.put, List.setIfInBounds_toArray, List.set_cons_zero, List.set_cons_succ]
                        refine wpAnyH_done (by kernel_rfl) ?_ _
                        have F : Shh (∃ s c, DAt Y2 q1 s c ∧ DAt Y2 q2 s c ∧ 0 < c ∧ c ≤ 1025 ∧ Below w.heap.size w Y2) := ⟨s, c, HD.out.1.go b_V, HD.out.2.1.go b_V, hc0, hc1, Below.chain HD.out.2.2.1 b_V⟩
                        clear m_Y2 b_Y1 bx2 m_Y1 b_V bx1 rW HD hfr
                        go_wp2
                        go_roundw
                        case rel => exact ⟨k + 1, by omega, by go_num, F⟩
                        case measure => simp [intOf]; omega
                    | false =>
                      by_cases hde : drawE nn aa c = 0
                      · skip
                        obtain ⟨hz0, hz1, hz2, hz3⟩ := drawE_zero hde
                        obtain ⟨j, rfl⟩ : ∃ j : Nat, nn = (j : Int) := ⟨nn.toNat, by omega⟩
                        clear hde hz0
                        go_wp2_with (go_at_call 35; refine (draw_ok q1 c j _ aa s _ HT.out.1 HT.out.2.2.2.2.1 (HW.out.2.2.go HT.out.2.2.1) hc0 hz3 (by omega) hz2).mono ?_)
                        rintro e Za ⟨vx, rfl, ho, hd, bz⟩
                        have rZ := bz.row HT.out.2.2.2.2.2.1 (HT.out.2.2.2.2.2.1).lt (by have := HT.out.2.2.2.2.2.2.1; omega)
                        obtain ⟨bx, hbx⟩ : ∃ bx, bx = drawB (drS1 aa s) j := ⟨_, rfl⟩
                        rw [← hbx] at ho
                        obtain ⟨Ax, cx, rfl⟩ := own_form ho
                        have HZ : Shh (Za.ownsRow (wr.alloc (.cells #[.bool false, .int .i64 (j : Int), .slice Ab bb.length cb, .slice Aa aa.length ca, .bool cp] 56)).heap.size 5 1 (.slice Ax bx.length cx) bx.length (Lib.byteCells bx) ∧ DAt Za q1 (drS2 aa s j) (c + 1) ∧ DAt Za q2 s c ∧ Below w.heap.size w Za ∧ q2 < (wr.alloc (.cells #[.bool false, .int .i64 (j : Int), .slice Ab bb.length cb, .slice Aa aa.length ca, .bool cp] 56)).heap.size ∧ bx = drawB (drS1 aa s) j ∧ Sl Za Za.heap.size (.slice Aa aa.length ca) aa ∧ q1 < Za.heap.size) :=
                          ⟨ho, hd, HT.out.2.1.other bz (fun h => HG.out.2.2 h.symm), HT.out.2.2.1.trans (bz.under HT.out.2.2.1.size HG.out.1), HT.out.2.1.lt, hbx, HsA.out Za (HT.out.2.2.1.trans (bz.under HT.out.2.2.1.size HG.out.1)), hd.lt⟩
                        have g1c := rZ.cell 1
                        have g3c := rZ.cell 3
                        clear ho hd bz HT hbx rZ h0 h1 h3 c0 c1 c2 c3 c4 hnW
                        go_wp2_with (go_at_call 35; refine (draw_ok q2 c j _ aa s Za HZ.out.2.2.1 HZ.out.2.2.2.2.2.2.1 (HW.out.2.2.go HZ.out.2.2.2.1) hc0 hz3 (by omega) hz2).mono ?_)
                        rintro e Zb ⟨vy, rfl, ho, hd, bz⟩
                        rw [← HZ.out.2.2.2.2.2.1] at ho
                        obtain ⟨Ay, cy, rfl⟩ := own_form ho
                        have HB : Shh (Sl Zb Zb.heap.size (.slice Ax bx.length cx) bx ∧ Sl Zb Zb.heap.size (.slice Ay bx.length cy) bx ∧ DAt Zb q1 (drS2 aa s j) (c + 1) ∧ DAt Zb q2 (drS2 aa s j) (c + 1) ∧ Below w.heap.size w Zb) :=
                          ⟨Sl.of_own (own_but HZ.out.1 bz HZ.out.2.2.2.2.1), Sl.of_own ho, HZ.out.2.1.other bz HG.out.2.2, hd, HZ.out.2.2.2.1.trans (bz.under HZ.out.2.2.2.1.size HG.out.2.1)⟩
                        clear ho hd bz HZ g1c g3c
                        go_wp2_with (go_at_call 21; refine (refEqual_yes5 _ _ _ _ bx Zb HB.out.1 HB.out.2.1).mono ?_)
                        unfold KeepIs
                        rintro e w9 ⟨rfl, rfl⟩
                        have F : Shh (∃ s c, DAt Zb q1 s c ∧ DAt Zb q2 s c ∧ 0 < c ∧ c ≤ 1025 ∧ Below w.heap.size w Zb) := ⟨_, _, HB.out.2.2.1, HB.out.2.2.2.1, by omega, by omega, HB.out.2.2.2.2⟩
                        clear HB
                        go_wp2
                        go_roundw
                        case rel => exact ⟨k + 1, by omega, by go_num, F⟩
                        case measure => simp [intOf]; omega
                      · skip
                        obtain ⟨er, her⟩ : ∃ er, er = drawE nn aa c := ⟨_, rfl⟩
                        have HER : Shh (drawE nn aa c = er) := ⟨her.symm⟩
                        clear her
                        go_wp2_with (go_at_call 35; refine (draw_bad q1 c nn _ aa s _ HT.out.1 HT.out.2.2.2.2.1 hc0 hde).mono ?_)
                        unfold KeepIs drNil
                        rintro e w9 ⟨rfl, rfl⟩
                        rw [HER.out]
                        go_wp2_with (go_at_call 35; refine (draw_bad q2 c nn _ aa s _ HT.out.2.1 HT.out.2.2.2.2.1 hc0 hde).mono ?_)
                        unfold KeepIs drNil
                        rintro e w9 ⟨rfl, rfl⟩
                        rw [HER.out]
                        go_wp2_with (go_at_call 21; refine (refEqual_yes5 0 0 _ _ [] _ Sl.nil_ Sl.nil_).mono ?_)
                        unfold KeepIs
                        rintro e w9 ⟨rfl, rfl⟩
                        have F : Shh (∃ s c, DAt (wr.alloc (.cells #[.bool false, .int .i64 nn, .slice Ab bb.length cb, .slice Aa aa.length ca, .bool cp] 56)) q1 s c ∧ DAt (wr.alloc (.cells #[.bool false, .int .i64 nn, .slice Ab bb.length cb, .slice Aa aa.length ca, .bool cp] 56)) q2 s c ∧ 0 < c ∧ c ≤ 1025 ∧ Below w.heap.size w (wr.alloc (.cells #[.bool false, .int .i64 nn, .slice Ab bb.length cb, .slice Aa aa.length ca, .bool cp] 56))) := ⟨s, c, HT.out.1, HT.out.2.1, hc0, hc1, HT.out.2.2.1⟩
                        clear HT h0 h1 h3 c0 c1 c2 c3 c4
                        go_wp2
                        go_roundw
                        case rel => exact ⟨k + 1, by omega, by go_num, F⟩
                        case measure => simp [intOf]; omega
                  · obtain rfl : k = l.length := by omega
                    by_cases hcc : c ≤ 1024
                    · skip
                      go_wp2_with (go_at_call 35; refine (draw_ok q1 c m _ [] s wr HS.out.1 Sl.nil_ (HW.out.2.2.go HS.out.2.2.2.2) hc0 hcc (by omega) (by decide)).mono ?_)
                      rintro e Za ⟨vx, rfl, ho, hd, bz⟩
                      have hbl := drawB_length (drS1 [] s) (drS1_length [] s HS.out.1.len) m
                      have hbt := drawB_take (drS1 [] s) (drS1_length [] s HS.out.1.len) ls m (by omega)
                      obtain ⟨bx, hbx⟩ : ∃ bx, bx = drawB (drS1 [] s) m := ⟨_, rfl⟩
                      rw [← hbx] at ho hbl hbt
                      have HBL : Shh (bx.length = m ∧ bx.take ls = drawB (drS1 [] s) ls) := ⟨hbl, hbt⟩
                      obtain ⟨Ax, cx, rfl⟩ := own_form ho
                      have hcx := (Sl.of_own ho).form
                      have HZ : Shh (Za.ownsRow wr.heap.size 5 1 (.slice Ax bx.length cx) bx.length (Lib.byteCells bx) ∧ DAt Za q2 s c ∧ Below w.heap.size w Za ∧ q2 < wr.heap.size) := ⟨ho, HS.out.2.1.other bz (fun h => HG.out.2.2 h.symm), HS.out.2.2.2.2.trans (bz.under HS.out.2.2.2.2.size HG.out.1), HS.out.2.1.lt⟩
                      have hcx2 : bx.length ≤ cx := by obtain ⟨_, _, hv, h1, _⟩ := hcx; cases hv; exact h1
                      clear ho hd bz HS hbx hbl hbt hcx
                      go_wp2_with (go_at_call 35; refine (draw_ok q2 c ls _ [] s Za HZ.out.2.1 Sl.nil_ (HW.out.2.2.go HZ.out.2.2.1) hc0 hcc (by omega) (by decide)).mono ?_)
                      rintro e Zb ⟨vy, rfl, ho, hd, bz⟩
                      rw [← HBL.out.2] at ho
                      have HB : Shh (Sl Zb Zb.heap.size (.slice Ax bx.length cx) bx ∧ Sl Zb Zb.heap.size vy (bx.take ls) ∧ Below w.heap.size w Zb) := ⟨Sl.of_own (own_but HZ.out.1 bz HZ.out.2.2.2), Sl.of_own ho, HZ.out.2.2.1.trans (bz.under HZ.out.2.2.1.size HG.out.2.1)⟩
                      have HP := HB.out.1.begins ls (by rw [HBL.out.1]; omega)
                      have hqm : ((bx.length : Int) == (m : Int)) = true := by rw [HBL.out.1]; simp
                      have hlc : ls ≤ cx := by have := HBL.out.1; omega
                      have HP2 : Shh (Sl Zb Zb.heap.size (.slice Ax ls cx) (bx.take ls)) := ⟨HP⟩
                      clear ho hd bz HZ HP
                      go_wp2_with (go_at_call 21; refine (refEqual_yes5 _ _ _ _ (bx.take ls) Zb HP2.out HB.out.2.1).mono ?_)
                      unfold KeepIs
                      rintro e w9 ⟨rfl, rfl⟩
                      go_wp2
                      go_ret
                      exact ⟨rfl, HB.out.2.2⟩
                    · obtain rfl : c = 1025 := by omega
                      have HEq1 : Shh (drawE (m : Int) [] 1025 = 51) := ⟨by unfold drawE; rw [if_neg (by omega), if_neg (by omega)]; rfl⟩
                      go_wp2_with (go_at_call 35; refine (draw_bad q1 1025 (m : Int) _ [] s wr HS.out.1 Sl.nil_ (by omega) (by rw [HEq1.out]; decide)).mono ?_)
                      unfold KeepIs drNil
                      rintro e w9 ⟨rfl, rfl⟩
                      rw [HEq1.out]
                      have HEq2 : Shh (drawE (ls : Int) [] 1025 = 51) := ⟨by unfold drawE; rw [if_neg (by omega), if_neg (by omega)]; rfl⟩
                      go_wp2_with (go_at_call 35; refine (draw_bad q2 1025 (ls : Int) _ [] s wr HS.out.2.1 Sl.nil_ (by omega) (by rw [HEq2.out]; decide)).mono ?_)
                      unfold KeepIs drNil
                      rintro e w9 ⟨rfl, rfl⟩
                      rw [HEq2.out]
                      have F : Shh (Below w.heap.size w wr) := ⟨HS.out.2.2.2.2⟩
                      clear HS
                      go_wp2
                      go_ret
                      exact ⟨rfl, F.out⟩
              · have HF : Shh (fitE en [[], []] ≠ 0) := ⟨hf⟩
                obtain ⟨er, her⟩ : ∃ er, er = fitE en [[], []] := ⟨_, rfl⟩
                have hne : (er != 0) = true := by rw [her]; simpa using hf
                have HER : Shh (fitE en [[], []] = er) := ⟨her.symm⟩
                clear hf her
                have hel : en.length ≤ 9000 := by have h := hlo; unfold long5B at h; simp at h; omega
                go_enter Tryd.func11, Tryd.ntmps11
                go_wp2_with (go_at_call 29; refine (dr_live_any w HW.out.2.2).mono ?_)
                rintro e Y1 ⟨rfl, b1⟩
                have H1 : Shh (Below w.heap.size w Y1) := ⟨b1⟩
                clear b1
                go_wp2_with (go_at_call 30; refine (long5_any _ _ en Y1 (HW.out.1.go H1.out)).mono ?_)
                unfold KeepIs
                rintro e w9 ⟨rfl, rfl⟩
                rw [hlo]
                go_wp2_with (go_at_call 31; refine (much5_any w.heap.size _ l Y1 (HW.out.2.1.below H1.out) H1.out.size hn).mono ?_)
                unfold BelowIs
                rintro e Y2 ⟨rfl, b2⟩
                rw [hmu]
                have H2 : Shh (Below w.heap.size w Y2) := ⟨Below.chain H1.out b2⟩
                clear b2 H1
                go_wp2_with (go_at_call 32; refine (new_bad _ _ _ en [] [] Y2 (HW.out.1.go H2.out) Sl.nil_ Sl.nil_ HF.out).mono ?_)
                rintro e Y3 ⟨rfl, b3⟩
                rw [HER.out]
                have H3 : Shh (Below w.heap.size w Y3) := ⟨Below.chain H2.out b3⟩
                clear b3 H2
                obtain ⟨X, hX⟩ : ∃ X, X = Y3.alloc (.cells #[.slice Ae en.length ce] 24) := ⟨_, rfl⟩
                have bX : Below Y3.heap.size Y3 X := by rw [hX]; exact below1 _ _
                have HX : Shh (PartsO X X.heap.size X.heap.size (.slice (some ⟨Y3.heap.size, 0, none⟩) 1 1) [en] ∧ Below Y3.heap.size Y3 X) := ⟨by rw [hX]; exact parts1 (HW.out.1.go H3.out), bX⟩
                rw [hX] at HX
                clear bX
                go_wp2_with (go_at_call 23; refine (refJoin_any _ _ _ [en] _ HX.out.1 (Nat.le_refl _) (by simp; omega) (by simp)).mono ?_)
                rintro e Y4 ⟨v4, rfl, g4⟩
                have e4 : [en].flatten = en := by simp
                rw [e4] at g4
                rw [← hX] at HX g4
                have H4 : Shh (Sl Y4 Y4.heap.size v4 en ∧ Below Y3.heap.size Y3 Y4) := ⟨gives_sl g4, Below.chain HX.out.2 g4.2⟩
                clear g4 HX e4 hX
                go_wp2_with (go_at_call 32; refine (new_bad _ _ _ en [] [] Y4 H4.out.1 Sl.nil_ Sl.nil_ HF.out).mono ?_)
                rintro e Y5 ⟨rfl, b5⟩
                rw [HER.out]
                have F : Shh (Below w.heap.size w Y5) := ⟨Below.chain H3.out (Below.chain H4.out.2 b5)⟩
                clear b5 H3 H4
                go_wp2
                go_ret
                exact ⟨rfl, F.out⟩
end Go.Proofs.YtaalmjcpaiihhaaDoor
