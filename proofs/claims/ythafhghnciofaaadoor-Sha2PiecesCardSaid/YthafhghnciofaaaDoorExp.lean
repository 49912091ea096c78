/-
  WALKS: sha2.Expand; the law's 'few'.
-/
import Derived.Test.YthafhghnciofaaaDoorHmac
namespace Go.Proofs.YthafhghnciofaaaDoor
open Go.RowKit
set_option maxRecDepth 100000

theorem own_step {w w' : World} {base : Nat} {e : TypeId} {v : Value} {n : Nat} {xs : List Value} (h : w.ownsRow base e 1 v n xs) (hb : Below w.heap.size w w') : w'.ownsRow base e 1 v n xs := by
  refine ⟨h.1, ?_⟩
  rcases h.2 with h0 | ⟨g, cap, cur, hv, hg, hr, hrest⟩
  · exact .inl h0
  · exact .inr ⟨g, cap, cur, hv, hg, (hb.block g (Array.getElem?_eq_some_iff.1 hr).1).trans hr, hrest⟩
/-- at most 40 texts of at most 3000 bytes each -/
def fewB (bss : List (List UInt8)) : Bool := bss.all (fun b => decide (b.length ≤ 3000)) && decide (bss.length ≤ 40)
theorem few_no (bss : List (List UInt8)) (k : Nat) (h : k < bss.length) (hb : 3000 < bss[k].length) : fewB bss = false := by
  unfold fewB
  have : bss.all (fun b => decide (b.length ≤ 3000)) = false := by
    rw [List.all_eq_false]
    exact ⟨bss[k], List.getElem_mem h, by simp; omega⟩
  rw [this]; rfl
theorem few_yes {bss : List (List UInt8)} (h : fewB bss = true) : (∀ b ∈ bss, b.length ≤ 3000) ∧ bss.length ≤ 40 := by
  unfold fewB at h
  simp only [Bool.and_eq_true, List.all_eq_true, decide_eq_true_eq] at h
  exact h
theorem few_any (B g : Nat) (v : Value) (bss : List (List UInt8)) (w : World) (hp : PartsO w B g v bss) (hn : bss.length ≤ 9223372036854775807) :
    Calls Tryd.prog 14 #[v] w fun e w' => e = .returned (.bool (fewB bss)) ∧ w' = w := by
  obtain ⟨A, c, rfl⟩ := hp.form
  go_enter Tryd.func14, Tryd.ntmps14
  go_wp2
  go_loop [4, 7] (fun _ i => ∃ k : Nat, k ≤ bss.length ∧ i = .int .i64 k ∧ Hid (∀ j (h : j < bss.length), j < k → bss[j].length ≤ 3000)) (fun _ i => bss.length - (intOf i).toNat)
  case atStart => exact ⟨0, Nat.zero_le _, rfl, Lib.hid (fun j _ h => absurd h (Nat.not_lt_zero _))⟩
  case round =>
    obtain ⟨k, hk, rfl, HL⟩ := hrel
    by_cases hlt : k < bss.length
    · obtain ⟨q, off, rfl, _, _, hc⟩ := hp.at_ (by omega)
      obtain ⟨u, hu, hs, _⟩ := hc k hlt
      obtain ⟨A2, c2, rfl, _, _⟩ := hs.form
      have HN := fun h => few_no bss k hlt h
      have HK : bss[k].length ≤ 3000 → ∀ j (h : j < bss.length), j < k + 1 → bss[j].length ≤ 3000 := fun h j hj hjk => by
        by_cases e : j = k
        · subst e; exact h
        · exact HL.out j hj (by omega)
      by_cases hb : 3000 < bss[k].length
      · have HF := Lib.hid (HN hb)
        have hb2 : (3000 : Int) < (bss[k].length : Int) := by omega
        clear hc HN HK hs HL
        go_wp2
        go_ret
        exact ⟨by rw [HF.out]; rfl, rfl⟩
      · have HF := Lib.hid (HK (by omega))
        have hb2 : ¬ (3000 : Int) < (bss[k].length : Int) := by omega
        clear hc HN HK hs HL
        go_wp2
        go_round
        case rel => exact ⟨k + 1, by omega, by go_num, HF⟩
        case measure => simp [intOf]; omega
    · obtain rfl : k = bss.length := by omega
      have HF : Hid (fewB bss = decide (bss.length ≤ 40)) := Lib.hid (by
        unfold fewB
        have : bss.all (fun b => decide (b.length ≤ 3000)) = true := by
          rw [List.all_eq_true]
          intro b hb
          obtain ⟨j, hj, rfl⟩ := List.getElem_of_mem hb
          simpa using HL.out j hj hj
        rw [this, Bool.true_and])
      clear HL
      go_wp2
      go_ret
      refine ⟨?_, rfl⟩
      rw [HF.out]
      simp
      omega

set_option maxHeartbeats 2000000 in
theorem expand_any (B : Nat) (vp vi : Value) (prk info : List UInt8) (n : Nat) (w : World) (hsp : Sl w B vp prk) (hsi : Sl w B vi info) (hB : B ≤ w.heap.size) (hv : Vars w) (hp : prk.length ≤ 100000) (hi : info.length ≤ 100000) (hn : n ≤ 8160) :
    Calls Tryd.prog 27 #[vp, vi, .int .i64 (n : Int)] w (fun e w' => ∃ v, e = .returned (.tuple #[v, .int .i64 0]) ∧ Gives w (expB prk info n) v w') := by
  have hmk := make0_run n (by omega)
  obtain ⟨i0, hi0, hz0, hz1, hz2⟩ := info_parts info_u8
  obtain ⟨A1, c1, rfl, _, _⟩ := hsp.form
  obtain ⟨A2, c2, rfl, _, _⟩ := hsi.form
  go_enter Tryd.func27, Tryd.ntmps27
  go_wp2
  go_loopw [8, 9, 10, 11] (fun o l i _ wr => ∃ (j : Nat) (q : Nat) (cl : Nat) (Al : Option Addr) (x : UInt8), j ≤ 255 ∧ q = min (32 * j) n ∧ i = .int .u8 (x.toNat : Int) ∧ Hid (x = UInt8.ofNat (j + 1)) ∧ l = .slice Al (tB prk info j).length cl ∧ Hid (Sl wr wr.heap.size l (tB prk info j)) ∧ wr.ownsRow w.heap.size 5 1 o q (Lib.byteCells ((okmB prk info j).take n)) ∧ Below w.heap.size w wr) (fun o _ _ _ _ => n - slLen o)
  case atStart =>
    refine ⟨0, 0, 0, none, 1, by omega, by simp, rfl, Lib.hid (by decide), rfl, Lib.hid Sl.nil_, ?_, (Below.refl _ _).alloc (Nat.le_refl _) _⟩
    have := World.ownsRow_made (base := w.heap.size) (e := 5) (size := 1) w (Lib.byteCells (List.replicate n 0)).toArray n (Nat.le_refl _) (by unfold maxLen; omega) (by simp [Lib.byteCells_length])
    simpa [okmB, Lib.byteCells] using this
  case round =>
    obtain ⟨j, q, cl, Al, x, hj, hq, rfl, HX0, rfl, HL, hown, hbel⟩ := hrel
    obtain ⟨Ao, co, rfl⟩ := own_form hown
    have hqn : q ≤ n := by omega
    by_cases hlt : q < n
    · have hj2 : 32 * j < n := by omega
      have hqj : q = 32 * j := by omega
      have hx := HX0.out
      have HI : Hid (((x.toNat : Int) + 1) % 256 = ((UInt8.ofNat (j + 1 + 1)).toNat : Int)) := Lib.hid (by rw [hx]; simp)
      have HT : Hid (macB prk [tB prk info j, info, [x]].flatten = tB prk info (j + 1)) := Lib.hid (by rw [hx, tB]; simp)
      have htl : (tB prk info j).length ≤ 32 := by
        cases j with
        | zero => simp [tB]
        | succ j => rw [tB_length]; omega
      have hTl := tB_length prk info j
      obtain ⟨m, hm⟩ : ∃ m, m = min 32 (n - q) := ⟨_, rfl⟩
      have hm32 : m ≤ 32 := by omega
      have hmn : m ≤ n - q := by omega
      have hqm : q + m = min (32 * (j + 1)) n := by omega
      have HO : Hid ((okmB prk info j).take n ++ (tB prk info (j + 1)).take m = (okmB prk info (j + 1)).take n) := Lib.hid (by
        rw [okmB, List.take_append, okmB_length, List.take_of_length_le (by rw [okmB_length]; omega), hm, hqj]
        congr 1
        rw [List.take_eq_take_iff, hTl]
        omega)
      have HQ := Lib.hid (And.intro hqj (And.intro hm hqm))
      clear hx hqm hqj hq hm
      have bA : Below wr.heap.size wr ((wr.alloc (.cells #[.int .u8 (x.toNat : Int)] 5)).alloc (.cells #[.slice Al (tB prk info j).length cl, .slice A2 info.length c2, .slice (some ⟨wr.heap.size, 0, none⟩) 1 1] 30)) := (Below.alloc (Below.refl _ _) (Nat.le_refl _) _).alloc (by rw [asz]; omega) _
      have hBr : B ≤ wr.heap.size := Nat.le_trans hB hbel.size
      have hsL := HL.out.below bA
      have hsP := ((hsp.below (hbel.mono hB)).below (bA.mono hBr))
      have hsI := ((hsi.below (hbel.mono hB)).below (bA.mono hBr))
      have hvA := (hv.step hbel).step bA
      have hpA : PartsO ((wr.alloc (.cells #[.int .u8 (x.toNat : Int)] 5)).alloc (.cells #[.slice Al (tB prk info j).length cl, .slice A2 info.length c2, .slice (some ⟨wr.heap.size, 0, none⟩) 1 1] 30)) (wr.heap.size + 2) (wr.heap.size + 2) (.slice (some ⟨wr.heap.size + 1, 0, none⟩) 3 3) [tB prk info j, info, [x]] :=
        PartsO.three (Nat.lt_succ_self _) (by omega) (Row.new_ (by rw [asz]) rfl) (hsL.more (by omega)) ((hsL.more (B' := wr.heap.size + 2) (by omega)).off (Nat.le_refl _)) (hsI.more (by omega)) ((hsI.more (B' := wr.heap.size + 2) (by omega)).off (Nat.le_refl _)) (Sl.of_block (heap_under (heap_new rfl)) rfl (by omega) rfl (by decide)) (Off.at_ (by omega))
      clear hsL hsI
      generalize tB prk info j = tj at *
      go_wp2_with (go_at_call 25; (refine (mac_any (wr.heap.size + 2) _ _ prk [tj, info, [x]] _ (hsP.more (by omega)) (by rw [asz, asz]; exact hpA) (by rw [asz, asz]; exact Nat.le_refl _) hvA (by omega) (by simp; omega) (by simp)).mono ?_))
      rintro e w3 ⟨rfl, b3⟩
      rw [HT.out]
      have hown3 := own_step (own_step hown bA) b3
      have hb3 : Below wr.heap.size wr w3 := Below.chain bA b3
      have hbel3 := hbel.trans (hb3.mono hbel.size)
      clear hvA hpA hsP bA b3 hown HT
      obtain ⟨T, HT0⟩ : ∃ T, Hid (T = tB prk info (j + 1)) := ⟨_, Lib.hid rfl⟩
      rw [← HT0.out] at HO hTl ⊢
      go_wp2_with (refine wpList_store_any rfl 33 (.tmp 11) (.tmp 32) rfl w3.heap.size rfl (Lib.byteCells T) rfl 33 (Lib.byteCells (List.replicate 32 0)) (Row.new_ rfl zero32b) (info_b32.trans (size_bytes _ _ hTl)) (by rw [Lib.byteCells_length, Lib.byteCells_length, hTl]; rfl) (cell_oneCell _) ?_)
      intro w4 hr4 bt hs4
      try simp only [asz] at bt hs4
      have hb4 : Below w3.heap.size w3 w4 := (Below.alloc (Below.refl _ _) (Nat.le_refl _) _).trans (bt.under (Nat.le_succ _) (Nat.le_refl _))
      have hown4 := own_step hown3 hb4
      have hbel4 := hbel3.trans (hb4.mono hbel3.size)
      have hnl : ∀ k, (Value.slice Ao q co).ownBlock = some k → k < w3.heap.size := fun k hk => (hown3.lt k hk).2
      have hsT : Sl w4 w4.heap.size (.slice (some ⟨w3.heap.size, 0, none⟩) 32 32) T := Sl.of_bytes hr4 hr4.lt hTl (by decide)
      generalize w3.heap.size = n11 at *
      clear bt hown3 hb3 hbel3 hb4
      have qd : (n : Int) - (q : Int) = ((n - q : Nat) : Int) := by omega
      have qm1 : (if ((n - q : Nat) : Int) < 32 then ((n - q : Nat) : Int) else 32) = (m : Int) := by have := HQ.out.2.1; split <;> omega
      have qm2 : (if (n - q : Nat) < 32 then ((n - q : Nat) : Int) else 32) = (m : Int) := by have := HQ.out.2.1; split <;> omega
      go_wp2_with (refine wpList_slice_to rfl (.tmp 35) (.tmp 40) rfl w4.heap.size _ rfl T hsT m rfl (by omega) ?_)
      intro vs hsv _
      have hTm : (T.take m).length = m := by simp; omega
      have hkl : ((okmB prk info j).take n).length = q := by have := hown4.1; rw [Lib.byteCells_length] at this; omega
      go_wp2_with (at_builtin; refine wp_appendSl _ 30 5 i0 Tryd.underlying30 hi0 hz0 hz1 hz2 rfl _ _ rfl (own_len hown4 hkl.symm) hsv rfl rfl (by omega) hbel4.size ?_)
      intro v' w5 hown5 hg5 hb5
      rw [HO.out] at hown5
      have hown6 := own_len hown5 (show _ = min (32 * (j + 1)) n by have := HQ.out.2.2; omega)
      obtain ⟨A5, c5, rfl⟩ := own_form hown6
      have hbel5 : Below w.heap.size w w5 := hbel4.trans (hb5 _ (Nat.le_refl _))
      have hr5 : Row w5 n11 33 (Lib.byteCells T) := (hg5.block n11 hr4.lt (fun h => Nat.lt_irrefl _ (hnl n11 h.symm))).trans hr4
      have hsT5 : Sl w5 w5.heap.size (.slice (some ⟨n11, 0, none⟩) 32 32) T := Sl.of_bytes hr5 hr5.lt hTl (by decide)
      rw [HT0.out] at hsT5
      have HS5 := Lib.hid hsT5
      have HLn : Hid ((tB prk info (j + 1)).length = 32) := Lib.hid (by rw [← HT0.out]; exact hTl)
      clear hsT5 hr5 hg5 hb5 hown5 hr4 hsT hown4 hsv
      go_wp2
      go_roundw
      case rel =>
        refine ⟨j + 1, min (32 * (j + 1)) n, 32, some ⟨n11, 0, none⟩, UInt8.ofNat (j + 1 + 1), by omega, rfl, ?_, Lib.hid rfl, ?_, HS5, hown6, hbel5⟩
        · rw [HI.out]
        · rw [HLn.out]
      case measure => simp [slLen]; have := HQ.out.2.2; omega
    · obtain rfl : q = n := by omega
      have HE : Hid ((okmB prk info j).take q = expB prk info q) := Lib.hid (by
        unfold expB
        have h2 := okmB_take prk info ((q + 31) / 32) j (by omega)
        rw [← h2, List.take_take, show min q (32 * ((q + 31) / 32)) = q by omega])
      rw [HE.out] at hown
      have hel : (expB prk info q).length = q := by have := hown.1; rw [Lib.byteCells_length] at this; omega
      have HO := Lib.hid (own_len hown hel.symm)
      clear hown hq hel hqn
      go_wp2
      go_ret2
      exact ⟨_, rfl, HO.out, hbel⟩
end Go.Proofs.YthafhghnciofaaaDoor
