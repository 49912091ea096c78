import Derived.Test.YtapjiknedghhfaaDoorTz1
import Derived.Test.YtapjiknedghhfaaDoorKRAsk
import Derived.Test.YtapjiknedghhfaaDoorMF
/-
 THE DOCUMENT'S OWN RejBounded.
-/
namespace Go.Proofs.YtapjiknedghhfaaDoor
open Go.RowKit
set_option maxRecDepth 100000
theorem shake_cells {w w' : World} {v : Value} {bs : List UInt8} (h : Gives w bs v w') (hn : 0 < bs.length) : ∃ gb c, v = .slice (some ⟨gb, 0, none⟩) bs.length c ∧ w.heap.size ≤ gb ∧ gb < w'.heap.size ∧ (∀ i, i < bs.length → w'.cell? ⟨gb, i, none⟩ = some (.int .u8 (nb bs i : Int))) ∧ Below w.heap.size w w' := by
 have hs := gives_sl h
 obtain ⟨ho, hb⟩ := h
 rcases ho with ⟨_, ⟨rfl, h0⟩ | ⟨g, cap, cur, rfl, hbase, hgb, _⟩⟩
 ·omega
 have hlt := Array.getElem?_eq_some_iff.1 hgb
 obtain ⟨b, off, hA, hbb, hc⟩ := hs.at_ hn
 cases hA
 exact ⟨_, cap, rfl, hbase, hlt.1, fun i hi => by rw [nb_get bs hi, ← hc i hi, Nat.zero_add], hb⟩
/-- the first n of the bytes bb are handed back -/
def GotIs (W : World) (bb : Nat → Nat) (n : Nat) (e : Ending) (w' : World) : Prop := ∃ gb c, e = .returned (.slice (some ⟨gb, 0, none⟩) n c) ∧ W.heap.size ≤ gb ∧ gb < w'.heap.size ∧ (∀ i, i < n → w'.cell? ⟨gb, i, none⟩ = some (.int .u8 (bb i : Int))) ∧ Below W.heap.size W w'
section
variable {a : Act} {x y : Operand} {op : Oper} {w : World}
theorem conv_8l {n : Nat} (hn : n < 256) (ho : op.op = .convert 5 2 x) (hx : a.eval x = .int .u8 (n : Int)) : (execOp a.eval op).run Tryd.prog w = .ok (.value (.int .i64 (n : Int))) w := by
 have hw : IntKind.i64.wrap (n : Int) = (n : Int) := by rw [IntKind.wrap_i64]; omega
 unfold execOp
 simp only [ho, hx]
 go_simp
end
set_option maxHeartbeats 8000000 in
theorem refRejBounded_2 (B : Nat) (v : Value) (m : List UInt8) (hl : m.length = 66) (w : World) (hs : Sl w B v m) (hB : B ≤ w.heap.size) : Calls Tryd.prog 9 #[.int .i64 2, v] w (CdIs w (svF 2048 (drwB 2 (nsB 136 m 1024))) (svE 2048 (drwB 2 (nsB 136 m 1024)))) := by
 unfold CdIs
 have i3 : (m.length : Int) ≤ 66 := by omega
 have i4 : (66 : Int) ≤ (m.length : Int) := by omega
 generalize hN : w.heap.size = N at *
 obtain ⟨bb, hbb⟩ : ∃ b : Nat → Nat, b = nsB 136 m 1024 := ⟨_, rfl⟩
 obtain ⟨val, hval⟩ : ∃ f, f = drwB 2 (nsB 136 m 1024) := ⟨_, rfl⟩
 rw [← hval]
 have HX : Shh (∀ t, val t = numB 2 (halfB bb t)) := ⟨fun t => by rw [hval, hbb]; rfl⟩
 have HB8 : Shh (∀ i, bb i < 256) := ⟨fun i => by rw [hbb]; exact nb_lt _ _⟩
 obtain ⟨FF, hFF⟩ : ∃ F, F = svF 2048 val := ⟨_, rfl⟩
 obtain ⟨ee, hee⟩ : ∃ F, F = svE 2048 val := ⟨_, rfl⟩
 have HF : Shh ((∀ n f, StV val 2048 n f → n < 256 → ee = 130 ∧ FF = fun _ => 0) ∧ ∀ k f, k ≤ 2048 → StV val k 256 f → ee = 0 ∧ FF = f) := ⟨by
  rw [hFF, hee]
  exact ⟨fun n f h hn => h.short hn, fun k f hk h => (h.full hk).whole⟩⟩
 rw [← hFF, ← hee]
 clear hFF hee hval
 obtain ⟨A, c, rfl, _, _⟩ := hs.form
 have HC : Shh (∀ W, Below N w W → N ≤ W.heap.size → Calls Tryd.prog 20 #[.int .i64 256, .int .i64 1024, .slice A m.length c] W (GotIs W bb 1024)) := ⟨fun W hb hW => by
  refine (refShake256_any 1024 (by decide) B _ m W (hs.below (hb.mono hB)) (by omega) (by omega)).mono ?_
  rintro e w' ⟨v1, rfl, hg⟩
  have hln : (spongeL 136 31 m 1024).length = 1024 := Sp.outs_length _ _ _
  obtain ⟨gb, c1, rfl, h1, h2, h3, h4⟩ := shake_cells hg (by omega)
  rw [hln]
  exact ⟨gb, c1, rfl, h1, h2, fun i hi => by rw [h3 i (by omega), hbb]; rfl, h4⟩⟩
 have HD : Shh (True ∧ StV val 0 0 (fun _ => 0) ∧ w.heap.size = N) := ⟨trivial, StV.start val, hN⟩
 clear hs hB hl hbb hN
 generalize m.length = ln at *
 go_enter Tryd.func9, Tryd.ntmps9
 go_wp2_with (refine wl_newzD 4 rfl rfl rfl ?_)
 intro N1 w2 hN1 r2 b2
 try simp only [Act.put, arr9, hd9, tl9]
 obtain rfl : N = N1 := HD.out.2.2.symm.trans hN1.out.symm
 have HI : Shh (Row w2 N 25 (dc fun _ => 0) ∧ Below N w w2 ∧ N < w2.heap.size) := by
  rw [HD.out.2.2] at b2
  exact ⟨r2, b2, r2.lt⟩
 clear r2 b2 hN1
 go_wp2_with (refine wl_newzD 6 rfl rfl rfl ?_)
 intro G w3 hG r3 b3
 try simp only [Act.put, arr9, hd9, tl9]
 have HJ : Shh (Row w3 N 25 (dc fun _ => 0) ∧ Row w3 G 25 (dc fun _ => 0) ∧ Below N w w3 ∧ N < G) := ⟨HI.out.1.go b3, r3, HI.out.2.1.trans (b3.mono (Nat.le_of_lt HI.out.2.2)), by rw [hG.out]; exact HI.out.2.2⟩
 clear r3 b3 hG HI
 have C1 := Shh.mk (HC.out w3 HJ.out.2.2.1 (Nat.le_of_lt HJ.out.1.lt))
 go_wp2_with (go_at_call 20; refine (C1.out).mono ?_)
 rintro e w4 ⟨gb, cc, rfl, hq1, hq2, hq3, b4⟩
 have HK : Shh (StV val (0) (0) (fun _ => 0 : Nat → Int) ∧ Row w4 N 25 (dc fun _ => 0) ∧ Row w4 G 25 (dc (fun _ => 0 : Nat → Int)) ∧ Below N w w4 ∧ N < G ∧ G < gb ∧ gb < w4.heap.size ∧ ∀ i, i < 1024 → w4.cell? ⟨gb, i, none⟩ = some (.int .u8 (bb i : Int))) := by
  obtain ⟨h2, h3, h4, h5⟩ := HJ.out
  exact ⟨⟨HD.out.2.1, h2.go b4, h3.go b4, h4.trans (b4.mono (Nat.le_of_lt h2.lt)), h5, Nat.lt_of_lt_of_le h3.lt hq1, hq2, hq3⟩⟩
 clear hq1 hq2 hq3 b4 HJ C1 HC
 go_wp2
 go_loopg [8, 9] 2048 (fun gk s8 s9 wr => ∃ (t n : Nat) (f : Nat → Int), t + gk = 2048 ∧ s9 = .int .i64 (t : Int) ∧ s8 = .int .i64 (n : Int) ∧ Shh (StV val (t) (n) f ∧ Row wr N 25 (dc fun _ => 0) ∧ Row wr G 25 (dc f) ∧ Below N w wr ∧ N < G ∧ G < gb ∧ gb < wr.heap.size ∧ ∀ i, i < 1024 → wr.cell? ⟨gb, i, none⟩ = some (.int .u8 (bb i : Int))))
 case atStart => exact ⟨0, 0, fun _ => 0, rfl, rfl, rfl, HK⟩
 case round =>
  clear HK
  obtain ⟨t, n, f, htk, rfl, rfl, HI⟩ := hrel
  have hn0 := HI.out.1.le
  by_cases hn : n < 256
  ·have hn2 : (n : Int) < 256 := by omega
   cases gk with
   | zero =>
    have ht : ¬ (t : Int) < 2048 := by omega
    have h1 := HI.out.1
    rw [show t = 2048 by omega] at h1
    obtain ⟨rfl, rfl⟩ := HF.out.1 n f h1 hn
    clear h1 HF HX HB8
    go_wp2_with (first | refine wl_at 81 rfl (.agg (dc fun _ => 0).toArray) rfl (build_zero rfl) ?_ | refine wpList_store_any rfl 25 (.tmp 4) (.tmp 81) rfl N rfl (dc fun _ => 0) rfl 25 _ HI.out.2.1 (info_dD.trans (size_dc _)) (same_dc _ _) (dc_one _) ?_)
    intro w9 hr9 b9 _
    have hb9 : Below N w w9 := HI.out.2.2.2.1.trans (b9.under (Nat.le_of_lt HI.out.2.1.lt) (Nat.le_refl _))
    go_wp2
    exact ret_row_slotS Tryd.results9 rfl rfl rfl hr9 Tryd.underlying25 rfl (info_dD.trans (size_dc _)) ⟨rfl, hb9⟩
   | succ g' =>
    have ht : (t : Int) < 2048 := by omega
    obtain ⟨q, Hq, hq, hq2⟩ : ∃ q : Nat, Shh ((q : Int) = (t : Int).tdiv 2 ∧ -9223372036854775808 ≤ (q : Int) ∧ (q : Int) ≤ 9223372036854775807) ∧ q < 1024 ∧ q = t / 2 := ⟨t / 2, ⟨by rw [Int.tdiv_eq_ediv_of_nonneg (by omega)]; omega, by omega, by omega⟩, by omega, rfl⟩
    have hc := HI.out.2.2.2.2.2.2.2 q hq
    have hb := HB8.out q
    have hxx := HX.out t
    unfold halfB at hxx
    rw [← hq2] at hxx
    generalize bb q = bv at *
    have HC0 := Shh.mk hc
    clear hc
    obtain ⟨m1, Hm1⟩ : ∃ b, Shh (b = bv % 16) := ⟨_, ⟨rfl⟩⟩
    obtain ⟨m2, Hm2⟩ : ∃ b, Shh (b = bv / 16) := ⟨_, ⟨rfl⟩⟩
    have HM : Shh (bv < 256 ∧ m1 < 16 ∧ m2 < 16) := ⟨by have := Hm1.out; have := Hm2.out; omega⟩
    rw [← Hm1.out, ← Hm2.out] at hxx
    obtain ⟨r, Hr, hr⟩ : ∃ r : Int, Shh (r = (t : Int).tmod 2 ∧ -9223372036854775808 ≤ r ∧ r ≤ 9223372036854775807) ∧ r = ((t % 2 : Nat) : Int) := ⟨((t % 2 : Nat) : Int), ⟨by rw [Int.tmod_eq_emod_of_nonneg (by omega)]; omega, by omega, by omega⟩, rfl⟩
    have hpar : (t % 2 = 0 ∧ r = 0) ∨ (t % 2 = 1 ∧ r = 1) := by omega
    clear hr hb hq2
    rcases hpar with ⟨hp, rfl⟩ | ⟨hp, rfl⟩
    ·rw [if_pos hp] at hxx
     have HV := Shh.mk hxx
     have hlm := HM.out.2.1
     clear hxx hp
     by_cases hx : m1 < 15
     ·have HL1 : Shh (decide ((m1 : Int) < 15) = true) := ⟨decide_eq_true (by omega)⟩
      obtain ⟨r5, Hr5⟩ : ∃ r : Int, Shh (r = (m1 : Int).tmod 5 ∧ -9223372036854775808 ≤ r ∧ r ≤ 9223372036854775807) := ⟨((m1 % 5 : Nat) : Int), ⟨by rw [Int.tmod_eq_emod_of_nonneg (by omega)]; omega, by omega, by omega⟩⟩
      have hr5 : r5 = ((m1 % 5 : Nat) : Int) := by have := Hr5.out.1; rw [Int.tmod_eq_emod_of_nonneg (by omega)] at this; omega
      obtain ⟨d, Hd⟩ : ∃ d : Int, Shh (d = 2 - r5 ∧ -9223372036854775808 ≤ d ∧ d ≤ 9223372036854775807) := ⟨_, ⟨rfl, by omega, by omega⟩⟩
      have hok : val t = some (qd d) := by
       rw [HV.out]
       unfold numB
       rw [if_pos rfl, if_pos hx, Hd.out.1, hr5]
      have HMD : Shh (∀ W, Calls Tryd.prog 23 #[.int .i64 d] W (I64Is W (qd d))) := ⟨fun W => refMod_any d Hd.out.2 W⟩
      have HY : Shh (i32 (qd d)) := ⟨by have := qd_lt d; unfold i32; omega⟩
      have HOK := Shh.mk (HI.out.1.take hok hn)
      generalize qd d = y at *
      clear hx hok hlm hr5 HV
      go_wp2_with (first | refine wl_at 35 rfl (.int .i64 (q : Int)) rfl (quo_n Hq.out (by decide) rfl rfl rfl) ?_ | refine wl_at 36 rfl (.pointer (some ⟨gb, q, none⟩)) rfl (at_u8z hq rfl rfl rfl) ?_ | refine wl_at 37 rfl (.int .u8 (bv : Int)) rfl (load_u8s rfl HC0.out rfl) ?_ | refine wl_at 38 rfl (.int .u8 (m1 : Int)) rfl (rem_8 Hm1.out HM.out.1 rfl rfl) ?_ | refine wl_at 39 rfl (.int .i64 (m1 : Int)) rfl (conv_8l (by have := HM.out; omega) rfl rfl) ?_ | refine wl_at 41 rfl (.int .i64 0) rfl (rem_n Hr.out (by decide) rfl rfl rfl) ?_ | refine wl_atW 54 rfl (.bool true) (by kernel_rfl) (lss_l true HL1.out rfl rfl rfl) ?_ | refine wl_at 58 rfl (.int .i64 r5) rfl (rem_l Hr5.out (by decide) rfl rfl rfl) ?_ | refine wl_at 59 rfl (.int .i64 d) rfl (sub_l Hd.out rfl rfl rfl) ?_ | (go_at_call 23; refine (HMD.out _).mono ?_))
      rintro e w5 ⟨rfl, rfl⟩
      go_wp2_with (first | refine wl_at 61 rfl (.int .i32 y) rfl (conv_ld HY.out rfl rfl) ?_ | refine wl_at 62 rfl (.pointer (some ⟨G, n, none⟩)) rfl (at_dD hn rfl rfl rfl) ?_ | refine wl_storeD rfl hn rfl rfl rfl HI.out.2.2.1 ?_)
      intro w6 r6 b6 z6
      have HO : Shh (StV val (t + 1) (n + 1) (dup f n y) ∧ Row w6 N 25 (dc fun _ => 0) ∧ Row w6 G 25 (dc (dup f n y)) ∧ Below N w w6 ∧ N < G ∧ G < gb ∧ gb < w6.heap.size ∧ ∀ i, i < 1024 → w6.cell? ⟨gb, i, none⟩ = some (.int .u8 (bb i : Int))) := by
       obtain ⟨h1, h2, h3, h4, h5, h6, h7, h8⟩ := HI.out
       exact ⟨⟨HOK.out, b6.row h2 h2.lt (by omega), r6, h4.trans (b6.under (Nat.le_of_lt h2.lt) (Nat.le_of_lt h5)), h5, h6, Nat.lt_of_lt_of_le h7 b6.size, fun i hi => (b6.cell (p := ⟨gb, i, none⟩) h7 (show gb ≠ G by omega)).trans (h8 i hi)⟩⟩
      clear r6 b6 z6 HI HOK HMD HY Hd
      go_wp2
      go_roundg g'
      case measure => omega
      case rel => exact ⟨t + 1, n + 1, _, by omega, by go_num, by go_num, HO⟩
     ·have HL1 : Shh (decide ((m1 : Int) < 15) = false) := ⟨decide_eq_false (by omega)⟩
      have hno : val t = none := by
       rw [HV.out]
       unfold numB
       rw [if_pos rfl, if_neg hx]
      have HO : Shh (StV val (t + 1) (n) f ∧ Row wr N 25 (dc fun _ => 0) ∧ Row wr G 25 (dc f) ∧ Below N w wr ∧ N < G ∧ G < gb ∧ gb < wr.heap.size ∧ ∀ i, i < 1024 → wr.cell? ⟨gb, i, none⟩ = some (.int .u8 (bb i : Int))) := ⟨⟨HI.out.1.skip hno, HI.out.2⟩⟩
      clear hx hno hlm HV HI
      go_wp2_with (first | refine wl_at 35 rfl (.int .i64 (q : Int)) rfl (quo_n Hq.out (by decide) rfl rfl rfl) ?_ | refine wl_at 36 rfl (.pointer (some ⟨gb, q, none⟩)) rfl (at_u8z hq rfl rfl rfl) ?_ | refine wl_at 37 rfl (.int .u8 (bv : Int)) rfl (load_u8s rfl HC0.out rfl) ?_ | refine wl_at 38 rfl (.int .u8 (m1 : Int)) rfl (rem_8 Hm1.out HM.out.1 rfl rfl) ?_ | refine wl_at 39 rfl (.int .i64 (m1 : Int)) rfl (conv_8l (by have := HM.out; omega) rfl rfl) ?_ | refine wl_at 41 rfl (.int .i64 0) rfl (rem_n Hr.out (by decide) rfl rfl rfl) ?_ | refine wl_atW 54 rfl (.bool false) (by kernel_rfl) (lss_l false HL1.out rfl rfl rfl) ?_)
      go_roundg g'
      case measure => omega
      case rel => exact ⟨t + 1, n, f, by omega, by go_num, rfl, HO⟩
    ·rw [if_neg (by omega)] at hxx
     have HV := Shh.mk hxx
     have hlm := HM.out.2.2
     clear hxx hp
     by_cases hx : m2 < 15
     ·have HL1 : Shh (decide ((m2 : Int) < 15) = true) := ⟨decide_eq_true (by omega)⟩
      obtain ⟨r5, Hr5⟩ : ∃ r : Int, Shh (r = (m2 : Int).tmod 5 ∧ -9223372036854775808 ≤ r ∧ r ≤ 9223372036854775807) := ⟨((m2 % 5 : Nat) : Int), ⟨by rw [Int.tmod_eq_emod_of_nonneg (by omega)]; omega, by omega, by omega⟩⟩
      have hr5 : r5 = ((m2 % 5 : Nat) : Int) := by have := Hr5.out.1; rw [Int.tmod_eq_emod_of_nonneg (by omega)] at this; omega
      obtain ⟨d, Hd⟩ : ∃ d : Int, Shh (d = 2 - r5 ∧ -9223372036854775808 ≤ d ∧ d ≤ 9223372036854775807) := ⟨_, ⟨rfl, by omega, by omega⟩⟩
      have hok : val t = some (qd d) := by
       rw [HV.out]
       unfold numB
       rw [if_pos rfl, if_pos hx, Hd.out.1, hr5]
      have HMD : Shh (∀ W, Calls Tryd.prog 23 #[.int .i64 d] W (I64Is W (qd d))) := ⟨fun W => refMod_any d Hd.out.2 W⟩
      have HY : Shh (i32 (qd d)) := ⟨by have := qd_lt d; unfold i32; omega⟩
      have HOK := Shh.mk (HI.out.1.take hok hn)
      generalize qd d = y at *
      clear hx hok hlm hr5 HV
      go_wp2_with (first | refine wl_at 35 rfl (.int .i64 (q : Int)) rfl (quo_n Hq.out (by decide) rfl rfl rfl) ?_ | refine wl_at 36 rfl (.pointer (some ⟨gb, q, none⟩)) rfl (at_u8z hq rfl rfl rfl) ?_ | refine wl_at 37 rfl (.int .u8 (bv : Int)) rfl (load_u8s rfl HC0.out rfl) ?_ | refine wl_at 38 rfl (.int .u8 (m1 : Int)) rfl (rem_8 Hm1.out HM.out.1 rfl rfl) ?_ | refine wl_at 39 rfl (.int .i64 (m1 : Int)) rfl (conv_8l (by have := HM.out; omega) rfl rfl) ?_ | refine wl_at 41 rfl (.int .i64 1) rfl (rem_n Hr.out (by decide) rfl rfl rfl) ?_ | refine wl_at 45 rfl (.int .i64 (q : Int)) rfl (quo_n Hq.out (by decide) rfl rfl rfl) ?_ | refine wl_at 46 rfl (.pointer (some ⟨gb, q, none⟩)) rfl (at_u8z hq rfl rfl rfl) ?_ | refine wl_at 47 rfl (.int .u8 (bv : Int)) rfl (load_u8s rfl HC0.out rfl) ?_ | refine wl_at 48 rfl (.int .u8 (m2 : Int)) rfl (quo_8 Hm2.out HM.out.1 rfl rfl) ?_ | refine wl_at 49 rfl (.int .i64 (m2 : Int)) rfl (conv_8l (by have := HM.out; omega) rfl rfl) ?_ | refine wl_atW 54 rfl (.bool true) (by kernel_rfl) (lss_l true HL1.out rfl rfl rfl) ?_ | refine wl_at 58 rfl (.int .i64 r5) rfl (rem_l Hr5.out (by decide) rfl rfl rfl) ?_ | refine wl_at 59 rfl (.int .i64 d) rfl (sub_l Hd.out rfl rfl rfl) ?_ | (go_at_call 23; refine (HMD.out _).mono ?_))
      rintro e w5 ⟨rfl, rfl⟩
      go_wp2_with (first | refine wl_at 61 rfl (.int .i32 y) rfl (conv_ld HY.out rfl rfl) ?_ | refine wl_at 62 rfl (.pointer (some ⟨G, n, none⟩)) rfl (at_dD hn rfl rfl rfl) ?_ | refine wl_storeD rfl hn rfl rfl rfl HI.out.2.2.1 ?_)
      intro w6 r6 b6 z6
      have HO : Shh (StV val (t + 1) (n + 1) (dup f n y) ∧ Row w6 N 25 (dc fun _ => 0) ∧ Row w6 G 25 (dc (dup f n y)) ∧ Below N w w6 ∧ N < G ∧ G < gb ∧ gb < w6.heap.size ∧ ∀ i, i < 1024 → w6.cell? ⟨gb, i, none⟩ = some (.int .u8 (bb i : Int))) := by
       obtain ⟨h1, h2, h3, h4, h5, h6, h7, h8⟩ := HI.out
       exact ⟨⟨HOK.out, b6.row h2 h2.lt (by omega), r6, h4.trans (b6.under (Nat.le_of_lt h2.lt) (Nat.le_of_lt h5)), h5, h6, Nat.lt_of_lt_of_le h7 b6.size, fun i hi => (b6.cell (p := ⟨gb, i, none⟩) h7 (show gb ≠ G by omega)).trans (h8 i hi)⟩⟩
      clear r6 b6 z6 HI HOK HMD HY Hd
      go_wp2
      go_roundg g'
      case measure => omega
      case rel => exact ⟨t + 1, n + 1, _, by omega, by go_num, by go_num, HO⟩
     ·have HL1 : Shh (decide ((m2 : Int) < 15) = false) := ⟨decide_eq_false (by omega)⟩
      have hno : val t = none := by
       rw [HV.out]
       unfold numB
       rw [if_pos rfl, if_neg hx]
      have HO : Shh (StV val (t + 1) (n) f ∧ Row wr N 25 (dc fun _ => 0) ∧ Row wr G 25 (dc f) ∧ Below N w wr ∧ N < G ∧ G < gb ∧ gb < wr.heap.size ∧ ∀ i, i < 1024 → wr.cell? ⟨gb, i, none⟩ = some (.int .u8 (bb i : Int))) := ⟨⟨HI.out.1.skip hno, HI.out.2⟩⟩
      clear hx hno hlm HV HI
      go_wp2_with (first | refine wl_at 35 rfl (.int .i64 (q : Int)) rfl (quo_n Hq.out (by decide) rfl rfl rfl) ?_ | refine wl_at 36 rfl (.pointer (some ⟨gb, q, none⟩)) rfl (at_u8z hq rfl rfl rfl) ?_ | refine wl_at 37 rfl (.int .u8 (bv : Int)) rfl (load_u8s rfl HC0.out rfl) ?_ | refine wl_at 38 rfl (.int .u8 (m1 : Int)) rfl (rem_8 Hm1.out HM.out.1 rfl rfl) ?_ | refine wl_at 39 rfl (.int .i64 (m1 : Int)) rfl (conv_8l (by have := HM.out; omega) rfl rfl) ?_ | refine wl_at 41 rfl (.int .i64 1) rfl (rem_n Hr.out (by decide) rfl rfl rfl) ?_ | refine wl_at 45 rfl (.int .i64 (q : Int)) rfl (quo_n Hq.out (by decide) rfl rfl rfl) ?_ | refine wl_at 46 rfl (.pointer (some ⟨gb, q, none⟩)) rfl (at_u8z hq rfl rfl rfl) ?_ | refine wl_at 47 rfl (.int .u8 (bv : Int)) rfl (load_u8s rfl HC0.out rfl) ?_ | refine wl_at 48 rfl (.int .u8 (m2 : Int)) rfl (quo_8 Hm2.out HM.out.1 rfl rfl) ?_ | refine wl_at 49 rfl (.int .i64 (m2 : Int)) rfl (conv_8l (by have := HM.out; omega) rfl rfl) ?_ | refine wl_atW 54 rfl (.bool false) (by kernel_rfl) (lss_l false HL1.out rfl rfl rfl) ?_)
      go_roundg g'
      case measure => omega
      case rel => exact ⟨t + 1, n, f, by omega, by go_num, rfl, HO⟩
  ·have hn2 : ¬ (n : Int) < 256 := by omega
   have hst := HI.out.1
   rw [show n = 256 by omega] at hst
   obtain ⟨rfl, rfl⟩ := HF.out.2 t f (by omega) hst
   clear hst HF HX HB8
   by_cases ht0 : t < 2048
   ·have ht : (t : Int) < 2048 := by omega
    go_wp2_with (first | refine wpList_load_any rfl 25 (.tmp 6) rfl G rfl 25 (dc FF) (.array 256 21) HI.out.2.2.1 Tryd.underlying25 rfl (info_dD.trans (size_dc _)) ?_ | refine wpList_store_any rfl 25 (.tmp 4) (.tmp 82) rfl N rfl (dc FF) rfl 25 _ HI.out.2.1 (info_dD.trans (size_dc _)) (same_dc _ _) (dc_one _) ?_)
    intro w9 hr9 b9 _
    have hb9 : Below N w w9 := HI.out.2.2.2.1.trans (b9.under (Nat.le_of_lt HI.out.2.1.lt) (Nat.le_refl _))
    go_wp2
    exact ret_row_slotS Tryd.results9 rfl rfl rfl hr9 Tryd.underlying25 rfl (info_dD.trans (size_dc _)) ⟨rfl, hb9⟩
   ·have ht : ¬ (t : Int) < 2048 := by omega
    go_wp2_with (first | refine wpList_load_any rfl 25 (.tmp 6) rfl G rfl 25 (dc FF) (.array 256 21) HI.out.2.2.1 Tryd.underlying25 rfl (info_dD.trans (size_dc _)) ?_ | refine wpList_store_any rfl 25 (.tmp 4) (.tmp 82) rfl N rfl (dc FF) rfl 25 _ HI.out.2.1 (info_dD.trans (size_dc _)) (same_dc _ _) (dc_one _) ?_)
    intro w9 hr9 b9 _
    have hb9 : Below N w w9 := HI.out.2.2.2.1.trans (b9.under (Nat.le_of_lt HI.out.2.1.lt) (Nat.le_refl _))
    go_wp2
    exact ret_row_slotS Tryd.results9 rfl rfl rfl hr9 Tryd.underlying25 rfl (info_dD.trans (size_dc _)) ⟨rfl, hb9⟩
set_option maxHeartbeats 8000000 in
theorem refRejBounded_4 (B : Nat) (v : Value) (m : List UInt8) (hl : m.length = 66) (w : World) (hs : Sl w B v m) (hB : B ≤ w.heap.size) : Calls Tryd.prog 9 #[.int .i64 4, v] w (CdIs w (svF 2048 (drwB 4 (nsB 136 m 1024))) (svE 2048 (drwB 4 (nsB 136 m 1024)))) := by
 unfold CdIs
 have i3 : (m.length : Int) ≤ 66 := by omega
 have i4 : (66 : Int) ≤ (m.length : Int) := by omega
 generalize hN : w.heap.size = N at *
 obtain ⟨bb, hbb⟩ : ∃ b : Nat → Nat, b = nsB 136 m 1024 := ⟨_, rfl⟩
 obtain ⟨val, hval⟩ : ∃ f, f = drwB 4 (nsB 136 m 1024) := ⟨_, rfl⟩
 rw [← hval]
 have HX : Shh (∀ t, val t = numB 4 (halfB bb t)) := ⟨fun t => by rw [hval, hbb]; rfl⟩
 have HB8 : Shh (∀ i, bb i < 256) := ⟨fun i => by rw [hbb]; exact nb_lt _ _⟩
 obtain ⟨FF, hFF⟩ : ∃ F, F = svF 2048 val := ⟨_, rfl⟩
 obtain ⟨ee, hee⟩ : ∃ F, F = svE 2048 val := ⟨_, rfl⟩
 have HF : Shh ((∀ n f, StV val 2048 n f → n < 256 → ee = 130 ∧ FF = fun _ => 0) ∧ ∀ k f, k ≤ 2048 → StV val k 256 f → ee = 0 ∧ FF = f) := ⟨by
  rw [hFF, hee]
  exact ⟨fun n f h hn => h.short hn, fun k f hk h => (h.full hk).whole⟩⟩
 rw [← hFF, ← hee]
 clear hFF hee hval
 obtain ⟨A, c, rfl, _, _⟩ := hs.form
 have HC : Shh (∀ W, Below N w W → N ≤ W.heap.size → Calls Tryd.prog 20 #[.int .i64 256, .int .i64 1024, .slice A m.length c] W (GotIs W bb 1024)) := ⟨fun W hb hW => by
  refine (refShake256_any 1024 (by decide) B _ m W (hs.below (hb.mono hB)) (by omega) (by omega)).mono ?_
  rintro e w' ⟨v1, rfl, hg⟩
  have hln : (spongeL 136 31 m 1024).length = 1024 := Sp.outs_length _ _ _
  obtain ⟨gb, c1, rfl, h1, h2, h3, h4⟩ := shake_cells hg (by omega)
  rw [hln]
  exact ⟨gb, c1, rfl, h1, h2, fun i hi => by rw [h3 i (by omega), hbb]; rfl, h4⟩⟩
 have HD : Shh (True ∧ StV val 0 0 (fun _ => 0) ∧ w.heap.size = N) := ⟨trivial, StV.start val, hN⟩
 clear hs hB hl hbb hN
 generalize m.length = ln at *
 go_enter Tryd.func9, Tryd.ntmps9
 go_wp2_with (refine wl_newzD 4 rfl rfl rfl ?_)
 intro N1 w2 hN1 r2 b2
 try simp only [Act.put, arr9, hd9, tl9]
 obtain rfl : N = N1 := HD.out.2.2.symm.trans hN1.out.symm
 have HI : Shh (Row w2 N 25 (dc fun _ => 0) ∧ Below N w w2 ∧ N < w2.heap.size) := by
  rw [HD.out.2.2] at b2
  exact ⟨r2, b2, r2.lt⟩
 clear r2 b2 hN1
 go_wp2_with (refine wl_newzD 6 rfl rfl rfl ?_)
 intro G w3 hG r3 b3
 try simp only [Act.put, arr9, hd9, tl9]
 have HJ : Shh (Row w3 N 25 (dc fun _ => 0) ∧ Row w3 G 25 (dc fun _ => 0) ∧ Below N w w3 ∧ N < G) := ⟨HI.out.1.go b3, r3, HI.out.2.1.trans (b3.mono (Nat.le_of_lt HI.out.2.2)), by rw [hG.out]; exact HI.out.2.2⟩
 clear r3 b3 hG HI
 have C1 := Shh.mk (HC.out w3 HJ.out.2.2.1 (Nat.le_of_lt HJ.out.1.lt))
 go_wp2_with (go_at_call 20; refine (C1.out).mono ?_)
 rintro e w4 ⟨gb, cc, rfl, hq1, hq2, hq3, b4⟩
 have HK : Shh (StV val (0) (0) (fun _ => 0 : Nat → Int) ∧ Row w4 N 25 (dc fun _ => 0) ∧ Row w4 G 25 (dc (fun _ => 0 : Nat → Int)) ∧ Below N w w4 ∧ N < G ∧ G < gb ∧ gb < w4.heap.size ∧ ∀ i, i < 1024 → w4.cell? ⟨gb, i, none⟩ = some (.int .u8 (bb i : Int))) := by
  obtain ⟨h2, h3, h4, h5⟩ := HJ.out
  exact ⟨⟨HD.out.2.1, h2.go b4, h3.go b4, h4.trans (b4.mono (Nat.le_of_lt h2.lt)), h5, Nat.lt_of_lt_of_le h3.lt hq1, hq2, hq3⟩⟩
 clear hq1 hq2 hq3 b4 HJ C1 HC
 go_wp2
 go_loopg [8, 9] 2048 (fun gk s8 s9 wr => ∃ (t n : Nat) (f : Nat → Int), t + gk = 2048 ∧ s9 = .int .i64 (t : Int) ∧ s8 = .int .i64 (n : Int) ∧ Shh (StV val (t) (n) f ∧ Row wr N 25 (dc fun _ => 0) ∧ Row wr G 25 (dc f) ∧ Below N w wr ∧ N < G ∧ G < gb ∧ gb < wr.heap.size ∧ ∀ i, i < 1024 → wr.cell? ⟨gb, i, none⟩ = some (.int .u8 (bb i : Int))))
 case atStart => exact ⟨0, 0, fun _ => 0, rfl, rfl, rfl, HK⟩
 case round =>
  clear HK
  obtain ⟨t, n, f, htk, rfl, rfl, HI⟩ := hrel
  have hn0 := HI.out.1.le
  by_cases hn : n < 256
  ·have hn2 : (n : Int) < 256 := by omega
   cases gk with
   | zero =>
    have ht : ¬ (t : Int) < 2048 := by omega
    have h1 := HI.out.1
    rw [show t = 2048 by omega] at h1
    obtain ⟨rfl, rfl⟩ := HF.out.1 n f h1 hn
    clear h1 HF HX HB8
    go_wp2_with (first | refine wl_at 81 rfl (.agg (dc fun _ => 0).toArray) rfl (build_zero rfl) ?_ | refine wpList_store_any rfl 25 (.tmp 4) (.tmp 81) rfl N rfl (dc fun _ => 0) rfl 25 _ HI.out.2.1 (info_dD.trans (size_dc _)) (same_dc _ _) (dc_one _) ?_)
    intro w9 hr9 b9 _
    have hb9 : Below N w w9 := HI.out.2.2.2.1.trans (b9.under (Nat.le_of_lt HI.out.2.1.lt) (Nat.le_refl _))
    go_wp2
    exact ret_row_slotS Tryd.results9 rfl rfl rfl hr9 Tryd.underlying25 rfl (info_dD.trans (size_dc _)) ⟨rfl, hb9⟩
   | succ g' =>
    have ht : (t : Int) < 2048 := by omega
    obtain ⟨q, Hq, hq, hq2⟩ : ∃ q : Nat, Shh ((q : Int) = (t : Int).tdiv 2 ∧ -9223372036854775808 ≤ (q : Int) ∧ (q : Int) ≤ 9223372036854775807) ∧ q < 1024 ∧ q = t / 2 := ⟨t / 2, ⟨by rw [Int.tdiv_eq_ediv_of_nonneg (by omega)]; omega, by omega, by omega⟩, by omega, rfl⟩
    have hc := HI.out.2.2.2.2.2.2.2 q hq
    have hb := HB8.out q
    have hxx := HX.out t
    unfold halfB at hxx
    rw [← hq2] at hxx
    generalize bb q = bv at *
    have HC0 := Shh.mk hc
    clear hc
    obtain ⟨m1, Hm1⟩ : ∃ b, Shh (b = bv % 16) := ⟨_, ⟨rfl⟩⟩
    obtain ⟨m2, Hm2⟩ : ∃ b, Shh (b = bv / 16) := ⟨_, ⟨rfl⟩⟩
    have HM : Shh (bv < 256 ∧ m1 < 16 ∧ m2 < 16) := ⟨by have := Hm1.out; have := Hm2.out; omega⟩
    rw [← Hm1.out, ← Hm2.out] at hxx
    obtain ⟨r, Hr, hr⟩ : ∃ r : Int, Shh (r = (t : Int).tmod 2 ∧ -9223372036854775808 ≤ r ∧ r ≤ 9223372036854775807) ∧ r = ((t % 2 : Nat) : Int) := ⟨((t % 2 : Nat) : Int), ⟨by rw [Int.tmod_eq_emod_of_nonneg (by omega)]; omega, by omega, by omega⟩, rfl⟩
    have hpar : (t % 2 = 0 ∧ r = 0) ∨ (t % 2 = 1 ∧ r = 1) := by omega
    clear hr hb hq2
    rcases hpar with ⟨hp, rfl⟩ | ⟨hp, rfl⟩
    ·rw [if_pos hp] at hxx
     have HV := Shh.mk hxx
     have hlm := HM.out.2.1
     clear hxx hp
     by_cases hx : m1 < 9
     ·have HL1 : Shh (decide ((m1 : Int) < 9) = true) := ⟨decide_eq_true (by omega)⟩
      obtain ⟨d, Hd⟩ : ∃ d : Int, Shh (d = 4 - (m1 : Int) ∧ -9223372036854775808 ≤ d ∧ d ≤ 9223372036854775807) := ⟨_, ⟨rfl, by omega, by omega⟩⟩
      have hok : val t = some (qd d) := by
       rw [HV.out]
       unfold numB
       rw [if_neg (by decide), if_pos hx, Hd.out.1]
      have HMD : Shh (∀ W, Calls Tryd.prog 23 #[.int .i64 d] W (I64Is W (qd d))) := ⟨fun W => refMod_any d Hd.out.2 W⟩
      have HY : Shh (i32 (qd d)) := ⟨by have := qd_lt d; unfold i32; omega⟩
      have HOK := Shh.mk (HI.out.1.take hok hn)
      generalize qd d = y at *
      clear hx hok hlm HV
      go_wp2_with (first | refine wl_at 35 rfl (.int .i64 (q : Int)) rfl (quo_n Hq.out (by decide) rfl rfl rfl) ?_ | refine wl_at 36 rfl (.pointer (some ⟨gb, q, none⟩)) rfl (at_u8z hq rfl rfl rfl) ?_ | refine wl_at 37 rfl (.int .u8 (bv : Int)) rfl (load_u8s rfl HC0.out rfl) ?_ | refine wl_at 38 rfl (.int .u8 (m1 : Int)) rfl (rem_8 Hm1.out HM.out.1 rfl rfl) ?_ | refine wl_at 39 rfl (.int .i64 (m1 : Int)) rfl (conv_8l (by have := HM.out; omega) rfl rfl) ?_ | refine wl_at 41 rfl (.int .i64 0) rfl (rem_n Hr.out (by decide) rfl rfl rfl) ?_ | refine wl_atW 69 rfl (.bool true) (by kernel_rfl) (lss_l true HL1.out rfl rfl rfl) ?_ | refine wl_at 73 rfl (.int .i64 d) rfl (sub_l Hd.out rfl rfl rfl) ?_ | (go_at_call 23; refine (HMD.out _).mono ?_))
      rintro e w5 ⟨rfl, rfl⟩
      go_wp2_with (first | refine wl_at 75 rfl (.int .i32 y) rfl (conv_ld HY.out rfl rfl) ?_ | refine wl_at 76 rfl (.pointer (some ⟨G, n, none⟩)) rfl (at_dD hn rfl rfl rfl) ?_ | refine wl_storeD rfl hn rfl rfl rfl HI.out.2.2.1 ?_)
      intro w6 r6 b6 z6
      have HO : Shh (StV val (t + 1) (n + 1) (dup f n y) ∧ Row w6 N 25 (dc fun _ => 0) ∧ Row w6 G 25 (dc (dup f n y)) ∧ Below N w w6 ∧ N < G ∧ G < gb ∧ gb < w6.heap.size ∧ ∀ i, i < 1024 → w6.cell? ⟨gb, i, none⟩ = some (.int .u8 (bb i : Int))) := by
       obtain ⟨h1, h2, h3, h4, h5, h6, h7, h8⟩ := HI.out
       exact ⟨⟨HOK.out, b6.row h2 h2.lt (by omega), r6, h4.trans (b6.under (Nat.le_of_lt h2.lt) (Nat.le_of_lt h5)), h5, h6, Nat.lt_of_lt_of_le h7 b6.size, fun i hi => (b6.cell (p := ⟨gb, i, none⟩) h7 (show gb ≠ G by omega)).trans (h8 i hi)⟩⟩
      clear r6 b6 z6 HI HOK HMD HY Hd
      go_wp2
      go_roundg g'
      case measure => omega
      case rel => exact ⟨t + 1, n + 1, _, by omega, by go_num, by go_num, HO⟩
     ·have HL1 : Shh (decide ((m1 : Int) < 9) = false) := ⟨decide_eq_false (by omega)⟩
      have hno : val t = none := by
       rw [HV.out]
       unfold numB
       rw [if_neg (by decide), if_neg hx]
      have HO : Shh (StV val (t + 1) (n) f ∧ Row wr N 25 (dc fun _ => 0) ∧ Row wr G 25 (dc f) ∧ Below N w wr ∧ N < G ∧ G < gb ∧ gb < wr.heap.size ∧ ∀ i, i < 1024 → wr.cell? ⟨gb, i, none⟩ = some (.int .u8 (bb i : Int))) := ⟨⟨HI.out.1.skip hno, HI.out.2⟩⟩
      clear hx hno hlm HV HI
      go_wp2_with (first | refine wl_at 35 rfl (.int .i64 (q : Int)) rfl (quo_n Hq.out (by decide) rfl rfl rfl) ?_ | refine wl_at 36 rfl (.pointer (some ⟨gb, q, none⟩)) rfl (at_u8z hq rfl rfl rfl) ?_ | refine wl_at 37 rfl (.int .u8 (bv : Int)) rfl (load_u8s rfl HC0.out rfl) ?_ | refine wl_at 38 rfl (.int .u8 (m1 : Int)) rfl (rem_8 Hm1.out HM.out.1 rfl rfl) ?_ | refine wl_at 39 rfl (.int .i64 (m1 : Int)) rfl (conv_8l (by have := HM.out; omega) rfl rfl) ?_ | refine wl_at 41 rfl (.int .i64 0) rfl (rem_n Hr.out (by decide) rfl rfl rfl) ?_ | refine wl_atW 69 rfl (.bool false) (by kernel_rfl) (lss_l false HL1.out rfl rfl rfl) ?_)
      go_roundg g'
      case measure => omega
      case rel => exact ⟨t + 1, n, f, by omega, by go_num, rfl, HO⟩
    ·rw [if_neg (by omega)] at hxx
     have HV := Shh.mk hxx
     have hlm := HM.out.2.2
     clear hxx hp
     by_cases hx : m2 < 9
     ·have HL1 : Shh (decide ((m2 : Int) < 9) = true) := ⟨decide_eq_true (by omega)⟩
      obtain ⟨d, Hd⟩ : ∃ d : Int, Shh (d = 4 - (m2 : Int) ∧ -9223372036854775808 ≤ d ∧ d ≤ 9223372036854775807) := ⟨_, ⟨rfl, by omega, by omega⟩⟩
      have hok : val t = some (qd d) := by
       rw [HV.out]
       unfold numB
       rw [if_neg (by decide), if_pos hx, Hd.out.1]
      have HMD : Shh (∀ W, Calls Tryd.prog 23 #[.int .i64 d] W (I64Is W (qd d))) := ⟨fun W => refMod_any d Hd.out.2 W⟩
      have HY : Shh (i32 (qd d)) := ⟨by have := qd_lt d; unfold i32; omega⟩
      have HOK := Shh.mk (HI.out.1.take hok hn)
      generalize qd d = y at *
      clear hx hok hlm HV
      go_wp2_with (first | refine wl_at 35 rfl (.int .i64 (q : Int)) rfl (quo_n Hq.out (by decide) rfl rfl rfl) ?_ | refine wl_at 36 rfl (.pointer (some ⟨gb, q, none⟩)) rfl (at_u8z hq rfl rfl rfl) ?_ | refine wl_at 37 rfl (.int .u8 (bv : Int)) rfl (load_u8s rfl HC0.out rfl) ?_ | refine wl_at 38 rfl (.int .u8 (m1 : Int)) rfl (rem_8 Hm1.out HM.out.1 rfl rfl) ?_ | refine wl_at 39 rfl (.int .i64 (m1 : Int)) rfl (conv_8l (by have := HM.out; omega) rfl rfl) ?_ | refine wl_at 41 rfl (.int .i64 1) rfl (rem_n Hr.out (by decide) rfl rfl rfl) ?_ | refine wl_at 45 rfl (.int .i64 (q : Int)) rfl (quo_n Hq.out (by decide) rfl rfl rfl) ?_ | refine wl_at 46 rfl (.pointer (some ⟨gb, q, none⟩)) rfl (at_u8z hq rfl rfl rfl) ?_ | refine wl_at 47 rfl (.int .u8 (bv : Int)) rfl (load_u8s rfl HC0.out rfl) ?_ | refine wl_at 48 rfl (.int .u8 (m2 : Int)) rfl (quo_8 Hm2.out HM.out.1 rfl rfl) ?_ | refine wl_at 49 rfl (.int .i64 (m2 : Int)) rfl (conv_8l (by have := HM.out; omega) rfl rfl) ?_ | refine wl_atW 69 rfl (.bool true) (by kernel_rfl) (lss_l true HL1.out rfl rfl rfl) ?_ | refine wl_at 73 rfl (.int .i64 d) rfl (sub_l Hd.out rfl rfl rfl) ?_ | (go_at_call 23; refine (HMD.out _).mono ?_))
      rintro e w5 ⟨rfl, rfl⟩
      go_wp2_with (first | refine wl_at 75 rfl (.int .i32 y) rfl (conv_ld HY.out rfl rfl) ?_ | refine wl_at 76 rfl (.pointer (some ⟨G, n, none⟩)) rfl (at_dD hn rfl rfl rfl) ?_ | refine wl_storeD rfl hn rfl rfl rfl HI.out.2.2.1 ?_)
      intro w6 r6 b6 z6
      have HO : Shh (StV val (t + 1) (n + 1) (dup f n y) ∧ Row w6 N 25 (dc fun _ => 0) ∧ Row w6 G 25 (dc (dup f n y)) ∧ Below N w w6 ∧ N < G ∧ G < gb ∧ gb < w6.heap.size ∧ ∀ i, i < 1024 → w6.cell? ⟨gb, i, none⟩ = some (.int .u8 (bb i : Int))) := by
       obtain ⟨h1, h2, h3, h4, h5, h6, h7, h8⟩ := HI.out
       exact ⟨⟨HOK.out, b6.row h2 h2.lt (by omega), r6, h4.trans (b6.under (Nat.le_of_lt h2.lt) (Nat.le_of_lt h5)), h5, h6, Nat.lt_of_lt_of_le h7 b6.size, fun i hi => (b6.cell (p := ⟨gb, i, none⟩) h7 (show gb ≠ G by omega)).trans (h8 i hi)⟩⟩
      clear r6 b6 z6 HI HOK HMD HY Hd
      go_wp2
      go_roundg g'
      case measure => omega
      case rel => exact ⟨t + 1, n + 1, _, by omega, by go_num, by go_num, HO⟩
     ·have HL1 : Shh (decide ((m2 : Int) < 9) = false) := ⟨decide_eq_false (by omega)⟩
      have hno : val t = none := by
       rw [HV.out]
       unfold numB
       rw [if_neg (by decide), if_neg hx]
      have HO : Shh (StV val (t + 1) (n) f ∧ Row wr N 25 (dc fun _ => 0) ∧ Row wr G 25 (dc f) ∧ Below N w wr ∧ N < G ∧ G < gb ∧ gb < wr.heap.size ∧ ∀ i, i < 1024 → wr.cell? ⟨gb, i, none⟩ = some (.int .u8 (bb i : Int))) := ⟨⟨HI.out.1.skip hno, HI.out.2⟩⟩
      clear hx hno hlm HV HI
      go_wp2_with (first | refine wl_at 35 rfl (.int .i64 (q : Int)) rfl (quo_n Hq.out (by decide) rfl rfl rfl) ?_ | refine wl_at 36 rfl (.pointer (some ⟨gb, q, none⟩)) rfl (at_u8z hq rfl rfl rfl) ?_ | refine wl_at 37 rfl (.int .u8 (bv : Int)) rfl (load_u8s rfl HC0.out rfl) ?_ | refine wl_at 38 rfl (.int .u8 (m1 : Int)) rfl (rem_8 Hm1.out HM.out.1 rfl rfl) ?_ | refine wl_at 39 rfl (.int .i64 (m1 : Int)) rfl (conv_8l (by have := HM.out; omega) rfl rfl) ?_ | refine wl_at 41 rfl (.int .i64 1) rfl (rem_n Hr.out (by decide) rfl rfl rfl) ?_ | refine wl_at 45 rfl (.int .i64 (q : Int)) rfl (quo_n Hq.out (by decide) rfl rfl rfl) ?_ | refine wl_at 46 rfl (.pointer (some ⟨gb, q, none⟩)) rfl (at_u8z hq rfl rfl rfl) ?_ | refine wl_at 47 rfl (.int .u8 (bv : Int)) rfl (load_u8s rfl HC0.out rfl) ?_ | refine wl_at 48 rfl (.int .u8 (m2 : Int)) rfl (quo_8 Hm2.out HM.out.1 rfl rfl) ?_ | refine wl_at 49 rfl (.int .i64 (m2 : Int)) rfl (conv_8l (by have := HM.out; omega) rfl rfl) ?_ | refine wl_atW 69 rfl (.bool false) (by kernel_rfl) (lss_l false HL1.out rfl rfl rfl) ?_)
      go_roundg g'
      case measure => omega
      case rel => exact ⟨t + 1, n, f, by omega, by go_num, rfl, HO⟩
  ·have hn2 : ¬ (n : Int) < 256 := by omega
   have hst := HI.out.1
   rw [show n = 256 by omega] at hst
   obtain ⟨rfl, rfl⟩ := HF.out.2 t f (by omega) hst
   clear hst HF HX HB8
   by_cases ht0 : t < 2048
   ·have ht : (t : Int) < 2048 := by omega
    go_wp2_with (first | refine wpList_load_any rfl 25 (.tmp 6) rfl G rfl 25 (dc FF) (.array 256 21) HI.out.2.2.1 Tryd.underlying25 rfl (info_dD.trans (size_dc _)) ?_ | refine wpList_store_any rfl 25 (.tmp 4) (.tmp 82) rfl N rfl (dc FF) rfl 25 _ HI.out.2.1 (info_dD.trans (size_dc _)) (same_dc _ _) (dc_one _) ?_)
    intro w9 hr9 b9 _
    have hb9 : Below N w w9 := HI.out.2.2.2.1.trans (b9.under (Nat.le_of_lt HI.out.2.1.lt) (Nat.le_refl _))
    go_wp2
    exact ret_row_slotS Tryd.results9 rfl rfl rfl hr9 Tryd.underlying25 rfl (info_dD.trans (size_dc _)) ⟨rfl, hb9⟩
   ·have ht : ¬ (t : Int) < 2048 := by omega
    go_wp2_with (first | refine wpList_load_any rfl 25 (.tmp 6) rfl G rfl 25 (dc FF) (.array 256 21) HI.out.2.2.1 Tryd.underlying25 rfl (info_dD.trans (size_dc _)) ?_ | refine wpList_store_any rfl 25 (.tmp 4) (.tmp 82) rfl N rfl (dc FF) rfl 25 _ HI.out.2.1 (info_dD.trans (size_dc _)) (same_dc _ _) (dc_one _) ?_)
    intro w9 hr9 b9 _
    have hb9 : Below N w w9 := HI.out.2.2.2.1.trans (b9.under (Nat.le_of_lt HI.out.2.1.lt) (Nat.le_refl _))
    go_wp2
    exact ret_row_slotS Tryd.results9 rfl rfl rfl hr9 Tryd.underlying25 rfl (info_dD.trans (size_dc _)) ⟨rfl, hb9⟩
end Go.Proofs.YtapjiknedghhfaaDoor

/-
 THE DOCUMENT'S OWN Unpack, UnpackFrom, width.
-/
namespace Go.Proofs.YtapjiknedghhfaaDoor
open Go.RowKit
set_option maxRecDepth 100000
theorem bits8_get (b : UInt8) (i : Nat) (h : i < (bits8 b).length) : (bits8 b)[i] = b.toNat.testBit i := by simp [bits8, bitAt_test]
/-- the first n bits of a number -/
def bitN (V n : Nat) : List Bool := (List.range n).map V.testBit
theorem bitN_length (V n : Nat) : (bitN V n).length = n := by simp [bitN]
theorem bitN_get (V n i : Nat) (h : i < (bitN V n).length) : (bitN V n)[i] = V.testBit i := by simp [bitN]
theorem bitsL_bitN : ∀ bs : List UInt8, bitsL bs = bitN (litN bs) (8 * bs.length)
 | [] => rfl
 | b :: bs => by
  have ih := bitsL_bitN bs
  have e1 : bitsL (b :: bs) = bits8 b ++ bitsL bs := rfl
  have e2 : litN (b :: bs) = 2 ^ 8 * litN bs + b.toNat := by
   show b.toNat + 256 * litN bs = _ 
   omega
  rw [e1, ih, e2]
  apply List.ext_getElem
  ·simp [bits8_length, bitN_length]; omega
  intro i h1 h2
  rw [bitN_get, Nat.testBit_two_pow_mul_add _ b.toNat_lt, List.getElem_append]
  split
  ·rename_i h
   rw [bits8_length] at h
   rw [if_pos h]
   exact bits8_get _ _ _
  ·rename_i h
   rw [bits8_length] at h
   rw [if_neg h, bitN_get, bits8_length]
theorem bit_step (X j : Nat) : X % 2 ^ (j + 1) = if X.testBit j = true then X % 2 ^ j + 2 ^ j else X % 2 ^ j := by
 rw [Nat.testBit_eq_decide_div_mod_eq, Nat.mod_pow_succ]
 by_cases h : X / 2 ^ j % 2 = 1
 ·rw [h, if_pos (decide_eq_true rfl), Nat.mul_one]
 ·rw [show X / 2 ^ j % 2 = 0 by omega, if_neg (by decide), Nat.mul_zero, Nat.add_zero]
theorem testBit_div (V s j : Nat) : (V / 2 ^ s).testBit j = V.testBit (s + j) := by
 rw [Nat.testBit_eq_decide_div_mod_eq, Nat.testBit_eq_decide_div_mod_eq, Nat.div_div_eq_div_mul, ← Nat.pow_add]
set_option maxHeartbeats 8000000 in
theorem refUnpack_any (d : Nat) (hd : 1 ≤ d ∧ d ≤ 23) (B : Nat) (v : Value) (bs : List UInt8) (hl : bs.length = 32 * d) (w : World) (hs : Sl w B v bs) (hB : B ≤ w.heap.size) : Calls Tryd.prog 39 #[.int .i64 (d : Int), v] w (CdIs w (fun i => (decN d (litN bs) i : Int)) 0) := by
 unfold CdIs
 generalize hN : w.heap.size = N at *
 obtain ⟨V, hV⟩ : ∃ V, Shh (V = litN bs) := ⟨_, ⟨rfl⟩⟩
 obtain ⟨L, HL⟩ : ∃ L, Shh (L = 256 * d) := ⟨_, ⟨rfl⟩⟩
 have HBI : Shh (∀ W, Below N w W → N ≤ W.heap.size → Calls Tryd.prog 29 #[v] W (OwnB W (bitN V L))) := ⟨fun W hb hW => by
  rw [hV.out, HL.out, show 256 * d = 8 * bs.length by omega, ← bitsL_bitN]
  exact refBits_any B v bs W (hs.below (hb.mono hB)) (by omega) (by omega)⟩
 rw [← hV.out]
 obtain ⟨r, hr⟩ : ∃ r : Nat → Int, Shh (r = fun i => (decN d V i : Int)) := ⟨_, ⟨rfl⟩⟩
 have HR : Shh (∀ k, r k = ((V / 2 ^ (d * k) % 2 ^ d : Nat) : Int)) := ⟨fun k => by
  rw [hr.out]
  rfl⟩
 rw [← hr.out]
 have i5 : 1 ≤ (d : Int) := by omega
 have i6 : (d : Int) ≤ 23 := by omega
 have i3 : (bs.length : Int) ≤ 32 * (d : Int) := by omega
 have i4 : 32 * (d : Int) ≤ (bs.length : Int) := by omega
 have i7 : ((bs.length : Int) != 32 * (d : Int)) = false := by simp; omega
 have i8 : ¬ (d : Int) < 1 := by omega
 have i9 : ¬ (23 : Int) < (d : Int) := by omega
 have HD : Shh (1 ≤ d ∧ d ≤ 23 ∧ w.heap.size = N) := ⟨hd.1, hd.2, hN⟩
 obtain ⟨A, c, rfl, _, _⟩ := hs.form
 clear hr hV hs hl hd hB hN
 generalize bs.length = ln at *
 go_enter Tryd.func39, Tryd.ntmps39
 go_wp2_with (refine wl_newzD 4 rfl rfl rfl ?_)
 intro N1 w2 hN1 r2 b2
 try simp only [Act.put, arr9, hd9, tl9]
 obtain rfl : N = N1 := HD.out.2.2.symm.trans hN1.out.symm
 have HI : Shh (Row w2 N 25 (dc fun _ => 0) ∧ Below N w w2 ∧ N < w2.heap.size) := by
  rw [HD.out.2.2] at b2
  exact ⟨r2, b2, r2.lt⟩
 clear r2 b2 hN1
 go_wp2_with (go_at_call 29; refine (HBI.out _ HI.out.2.1 (Nat.le_of_lt HI.out.2.2)).mono ?_)
 rintro e w3 ⟨vb, rfl, ho, hb⟩
 have hsl : Slb w3 w3.heap.size vb (bitN V L) := Slb.of_own ho
 obtain ⟨A2, c2, rfl, _, _⟩ := hsl.form
 obtain ⟨g, off, rfl, hg, hcc⟩ := hsl.at_ (by rw [bitN_length]; have := HD.out; have := HL.out; omega)
 have HJ : Shh (Row w3 N 25 (dc fun _ => 0) ∧ Below N w w3 ∧ N < w3.heap.size ∧ g < w3.heap.size ∧ ∀ t, t < L → w3.cell? ⟨g, off + t, none⟩ = some (.bool (V.testBit t))) := by
  have h1 := HI.out.1.go hb
  exact ⟨⟨h1, HI.out.2.1.trans (hb.mono (Nat.le_of_lt HI.out.2.2)), h1.lt, hg, fun t ht => by rw [hcc t (by rw [bitN_length]; exact ht), bitN_get]⟩⟩
 clear hsl ho hb hcc hg HBI HI
 rw [bitN_length]
 go_wp2_with (refine wl_newzD 7 rfl rfl rfl ?_)
 intro G w4 hG r4 b4
 try simp only [Act.put, arr9, hd9, tl9]
 have HK : Shh (Row w4 N 25 (dc fun _ => 0) ∧ Row w4 G 25 (dc (dhf r (fun _ => 0) 0)) ∧ Below N w w4 ∧ N < G ∧ g < G ∧ ∀ t, t < L → w4.cell? ⟨g, off + t, none⟩ = some (.bool (V.testBit t))) := by
  obtain ⟨h1, h2, h3, h4, h5⟩ := HJ.out
  exact ⟨⟨h1.go b4, by rw [dhf_zero]; exact r4, h2.trans (b4.mono (Nat.le_of_lt h3)), by rw [hG.out]; exact h3, by rw [hG.out]; exact h4, fun t ht => (b4.cell (p := ⟨g, off + t, none⟩) h4).trans (h5 t ht)⟩⟩
 clear r4 b4 hG HJ
 go_wp2
 go_loopw [28] (fun i wr => ∃ k : Nat, k ≤ 256 ∧ i = .int .i64 (k : Int) ∧ Shh (Row wr N 25 (dc fun _ => 0) ∧ Row wr G 25 (dc (dhf r (fun _ => 0) k)) ∧ Below N w wr ∧ N < G ∧ g < G ∧ ∀ t, t < L → wr.cell? ⟨g, off + t, none⟩ = some (.bool (V.testBit t)))) (fun i _ => 256 - (intOf i).toNat)
 case atStart => exact ⟨0, Nat.zero_le _, rfl, HK⟩
 case round =>
  clear HK
  obtain ⟨k, hk, rfl, HI⟩ := hrel
  by_cases hlt : k < 256
  ·have hlt2 : (k : Int) < 256 := by omega
   obtain ⟨I, HI1⟩ : ∃ I : Nat, Shh ((I : Int) = (k : Int) * (d : Int) ∧ I = d * k ∧ I + d ≤ L ∧ L ≤ 10000) := ⟨d * k, ⟨by rw [Int.natCast_mul, Int.mul_comm], rfl, by
    have h2 : d * (k + 1) ≤ d * 256 := Nat.mul_le_mul_left _ (by omega)
    rw [Nat.mul_succ] at h2
    have h3 := HL.out
    omega, by have := HL.out; have := HD.out; omega⟩⟩
   obtain ⟨X, HX⟩ : ∃ X, Shh (X = V / 2 ^ I) := ⟨_, ⟨rfl⟩⟩
   have HW : Shh (∀ j, j ≤ d → 2 ^ j ≤ 8388608) := ⟨fun j hj => Nat.le_trans (Nat.pow_le_pow_right (by decide) (show j ≤ 23 by have := HD.out; omega)) (by decide)⟩
   go_wp2
   go_loopw [9, 10, 32] (fun n p t wq => ∃ j : Nat, j ≤ d ∧ t = .int .i64 (j : Int) ∧ n = .int .i64 ((X % 2 ^ j : Nat) : Int) ∧ p = .int .i64 ((2 ^ j : Nat) : Int) ∧ wq = wr) (fun _ _ t _ => d - (intOf t).toNat)
   case atStart => exact ⟨0, Nat.zero_le _, rfl, by rw [Nat.pow_zero, Nat.mod_one]; rfl, rfl, rfl⟩
   case round =>
    obtain ⟨j, hj, rfl, rfl, rfl, hwr⟩ := hrel
    subst hwr
    by_cases hjt : j < d
    ·have hjd : (j : Int) < (d : Int) := by omega
     obtain ⟨T, HT, hTL⟩ : ∃ T : Nat, Shh ((T : Int) = (I : Int) + (j : Int) ∧ T = I + j ∧ T ≤ 10000) ∧ T < L := ⟨I + j, ⟨by omega, rfl, by have := HI1.out; omega⟩, by have := HI1.out; omega⟩
     have hTL2 : (T : Int) < (L : Int) := by omega
     have hT0 : (0 : Int) ≤ (T : Int) := by omega
     have c2 : wr.cell? ⟨g, off + T, none⟩ = some (.bool (X.testBit j)) := by
      rw [HX.out, testBit_div, ← HT.out.2.1]
      exact HI.out.2.2.2.2.2 T hTL
     have hst := bit_step X j
     have e1 := HW.out (j + 1) (by omega)
     have e2 : X % 2 ^ j < 2 ^ j := Nat.mod_lt _ (Nat.two_pow_pos j)
     rw [Nat.pow_succ] at e1
     obtain ⟨P, HP⟩ : ∃ P, Shh (P = 2 ^ j) := ⟨_, ⟨rfl⟩⟩
     obtain ⟨x, Hx⟩ : ∃ x, Shh (x = X % 2 ^ j) := ⟨_, ⟨rfl⟩⟩
     rw [← Hx.out, ← HP.out] at hst e2 ⊢
     rw [← HP.out] at e1
     obtain ⟨P2, HP2⟩ : ∃ P2 : Nat, Shh ((P2 : Int) = (P : Int) * 2 ∧ -9223372036854775808 ≤ (P2 : Int) ∧ (P2 : Int) ≤ 9223372036854775807) := ⟨P * 2, ⟨by omega, by omega, by omega⟩⟩
     obtain ⟨y, Hy⟩ : ∃ y : Nat, Shh ((y : Int) = (x : Int) + (P : Int) ∧ -9223372036854775808 ≤ (y : Int) ∧ (y : Int) ≤ 9223372036854775807) := ⟨x + P, ⟨by omega, by omega, by omega⟩⟩
     have HRR : Shh (P2 = 2 ^ (j + 1) ∧ y = x + P) := ⟨by have h := HP2.out.1; rw [Nat.pow_succ, ← HP.out]; omega, by have h := Hy.out.1; omega⟩
     clear e1 e2 hTL
     cases hbit : X.testBit j
     ·rw [hbit] at c2 hst
      have HS := Shh.mk hst
      clear hbit hst
      go_wp2_with (first | refine wl_at 38 rfl (.int .i64 (I : Int)) rfl (mul_n ⟨HI1.out.1, by have := HI1.out; omega, by have := HI1.out; omega⟩ rfl rfl rfl) ?_ | refine wl_at 40 rfl (.int .i64 (T : Int)) rfl (add_n ⟨HT.out.1, by have := HT.out; omega, by have := HT.out; omega⟩ rfl rfl rfl) ?_ | refine wl_at 47 rfl (.int .i64 (P2 : Int)) rfl (mul_l HP2.out rfl rfl rfl) ?_)
      go_roundw
      case rel => exact ⟨j + 1, by omega, by go_num, by rw [HS.out]; rfl, by rw [HRR.out.1], by first | exact rfl | trivial⟩
      case measure => simp [intOf]; omega
     ·rw [hbit] at c2 hst
      have HS := Shh.mk hst
      clear hbit hst
      go_wp2_with (first | refine wl_at 38 rfl (.int .i64 (I : Int)) rfl (mul_n ⟨HI1.out.1, by have := HI1.out; omega, by have := HI1.out; omega⟩ rfl rfl rfl) ?_ | refine wl_at 40 rfl (.int .i64 (T : Int)) rfl (add_n ⟨HT.out.1, by have := HT.out; omega, by have := HT.out; omega⟩ rfl rfl rfl) ?_ | refine wl_at 45 rfl (.int .i64 (y : Int)) rfl (add_l Hy.out rfl rfl rfl) ?_ | refine wl_at 47 rfl (.int .i64 (P2 : Int)) rfl (mul_l HP2.out rfl rfl rfl) ?_)
      go_roundw
      case rel => exact ⟨j + 1, by omega, by go_num, by rw [HS.out, if_pos rfl, ← HRR.out.2], by rw [HRR.out.1], by first | exact rfl | trivial⟩
      case measure => simp [intOf]; omega
    ·have hjd : ¬ (j : Int) < (d : Int) := by omega
     have hrk : ((X % 2 ^ j : Nat) : Int) = r k := by rw [HR.out k, show j = d by omega, HX.out, HI1.out.2.1]
     have hx32 : i32 (r k) := by
      rw [← hrk]
      have h1 := Nat.mod_lt X (Nat.two_pow_pos j)
      have h2 := HW.out j hj
      unfold i32
      omega
     have H32 := Shh.mk hx32
     rw [hrk]
     have HN2 := Shh.mk (dhf_next r (fun _ => 0) k)
     generalize r k = rk at *
     clear hx32 hrk
     go_wp2_with (first | refine wl_at 51 rfl (.int .i32 rk) rfl (conv_ld H32.out rfl rfl) ?_ | refine wl_at 52 rfl (.pointer (some ⟨G, k, none⟩)) rfl (at_dD hlt rfl rfl rfl) ?_ | refine wl_storeD rfl hlt rfl rfl rfl HI.out.2.1 ?_)
     intro w6 r6 b6 z6
     rw [HN2.out] at r6
     have HO : Shh (Row w6 N 25 (dc fun _ => 0) ∧ Row w6 G 25 (dc (dhf r (fun _ => 0) (k + 1))) ∧ Below N w w6 ∧ N < G ∧ g < G ∧ ∀ t, t < L → w6.cell? ⟨g, off + t, none⟩ = some (.bool (V.testBit t))) := by
      obtain ⟨h1, h2, h3, h4, h5, h6⟩ := HI.out
      exact ⟨⟨b6.row h1 h1.lt (by omega), r6, h3.trans (b6.under (Nat.le_of_lt h1.lt) (by omega)), h4, h5, fun t ht => (b6.cell (p := ⟨g, off + t, none⟩) (show g < _ from Nat.lt_trans h5 h2.lt) (show g ≠ G by omega)).trans (h6 t ht)⟩⟩
     clear r6 b6 z6 HI
     go_wp2
     go_roundw
     case rel => exact ⟨k + 1, by omega, by go_num, HO⟩
     case measure => simp [intOf]; omega
  ·have hlt2 : ¬ (k : Int) < 256 := by omega
   have HJ : Shh (Row wr N 25 (dc fun _ => 0) ∧ Row wr G 25 (dc r) ∧ Below N w wr ∧ N < G) := by
    obtain ⟨h1, h2, h3, h4, h5, h6⟩ := HI.out
    rw [show k = 256 by omega, dhf_all] at h2
    exact ⟨⟨h1, h2, h3, h4⟩⟩
   clear HI HR
   go_wp2_with (first | refine wpList_load_any rfl 25 (.tmp 7) rfl G rfl 25 (dc r) (.array 256 21) HJ.out.2.1 Tryd.underlying25 rfl (info_dD.trans (size_dc _)) ?_ | refine wpList_store_any rfl 25 (.tmp 4) (.tmp 54) rfl N rfl (dc r) rfl 25 _ HJ.out.1 (info_dD.trans (size_dc _)) (same_dc _ _) (dc_one _) ?_)
   intro w9 hr9 b9 _
   have hb9 := HJ.out.2.2.1.trans (b9.under (Nat.le_of_lt HJ.out.1.lt) (Nat.le_refl _))
   go_wp2
   exact ret_row_slotS Tryd.results39 rfl rfl rfl hr9 Tryd.underlying25 rfl (info_dD.trans (size_dc _)) ⟨rfl, hb9⟩
end Go.Proofs.YtapjiknedghhfaaDoor

/-
 THE DOCUMENT'S OWN UnpackFrom, width, Mask.
-/
namespace Go.Proofs.YtapjiknedghhfaaDoor
open Go.RowKit
set_option maxRecDepth 100000
set_option maxHeartbeats 4000000 in
theorem refUnpackFrom_any (top : Int) (ht : 0 ≤ top ∧ top < 8380417) (d : Nat) (hd : 1 ≤ d ∧ d ≤ 23) (B : Nat) (v : Value) (bs : List UInt8) (hl : bs.length = 32 * d) (w : World) (hs : Sl w B v bs) (hB : B ≤ w.heap.size) : Calls Tryd.prog 26 #[.int .i32 top, .int .i64 (d : Int), v] w (CdIs w (fun i => top - (decN d (litN bs) i : Int)) 0) := by
 unfold CdIs
 generalize hN : w.heap.size = N at *
 obtain ⟨q, hq⟩ : ∃ q : Nat → Int, Shh (q = fun i => (decN d (litN bs) i : Int)) := ⟨_, ⟨rfl⟩⟩
 obtain ⟨r, hr⟩ : ∃ r : Nat → Int, Shh (r = fun i => top - (decN d (litN bs) i : Int)) := ⟨_, ⟨rfl⟩⟩
 have HU : Shh (∀ W, Below N w W → N ≤ W.heap.size → Calls Tryd.prog 39 #[.int .i64 (d : Int), v] W (CdIs W q 0)) := ⟨fun W hb hn => by rw [hq.out]; exact refUnpack_any d hd B v bs hl W (hs.below (hb.mono hB)) (by omega)⟩
 have HR : Shh (∀ k, r k = top - q k ∧ 0 ≤ q k ∧ q k < 8388608) := ⟨fun k => by
  have := dec_bd d (litN bs) k hd.2
  rw [hr.out, hq.out]
  exact ⟨rfl, by show (0 : Int) ≤ ((decN d (litN bs) k : Nat) : Int); omega, by show ((decN d (litN bs) k : Nat) : Int) < 8388608; omega⟩⟩
 rw [← hr.out]
 obtain ⟨t1, t2⟩ := ht
 have HD : Shh ((0 ≤ top ∧ top < 8380417) ∧ d ≤ 23 ∧ w.heap.size = N) := ⟨⟨t1, t2⟩, hd.2, hN⟩
 have t3 : ¬ top < 0 := by omega
 have t4 : ¬ 8380417 ≤ top := by omega
 obtain ⟨A, c, rfl, _, _⟩ := hs.form
 clear hq hr hs hl hd hB hN
 generalize bs.length = ln at *
 go_enter Tryd.func26, Tryd.ntmps26
 go_wp2_with (refine wl_newzD 6 rfl rfl rfl ?_)
 intro N1 w2 hN1 r2 b2
 try simp only [Act.put, arr9, hd9, tl9]
 obtain rfl : N = N1 := HD.out.2.2.symm.trans hN1.out.symm
 have HI : Shh (Row w2 N 25 (dc fun _ => 0) ∧ Below N w w2 ∧ N < w2.heap.size) := by
  rw [HD.out.2.2] at b2
  exact ⟨r2, b2, r2.lt⟩
 clear r2 b2 hN1
 go_wp2_with (go_at_call 39; refine (HU.out _ HI.out.2.1 (Nat.le_of_lt HI.out.2.2)).mono ?_)
 rintro e w4 ⟨rfl, b4⟩
 have HJ : Shh (Row w4 N 25 (dc fun _ => 0) ∧ Below N w w4) := ⟨HI.out.1.go b4, HI.out.2.1.trans (b4.mono (Nat.le_of_lt HI.out.2.2))⟩
 clear b4 HI HU
 go_wp2_with (refine wl_newdD 8 q rfl rfl rfl rfl rfl rfl rfl rfl ?_)
 intro G w5 hG r5 b5
 try simp only [Act.put, arr9, hd9, tl9]
 have HK : Shh (Row w5 N 25 (dc fun _ => 0) ∧ Row w5 G 25 (dc (dhf r q 0)) ∧ Below N w w5 ∧ N < G) := ⟨HJ.out.1.go b5, by rw [dhf_zero]; exact r5, HJ.out.2.trans (b5.mono (Nat.le_of_lt HJ.out.1.lt)), by rw [hG.out]; exact HJ.out.1.lt⟩
 clear r5 b5 HJ hG
 go_wp2
 go_loopw [28] (fun i wr => ∃ k : Nat, k ≤ 256 ∧ i = .int .i64 (k : Int) ∧ Shh (Row wr N 25 (dc fun _ => 0) ∧ Row wr G 25 (dc (dhf r q k)) ∧ Below N w wr ∧ N < G)) (fun i _ => 256 - (intOf i).toNat)
 case atStart => exact ⟨0, Nat.zero_le _, rfl, HK⟩
 case round =>
  clear HK
  obtain ⟨k, hk, rfl, HI⟩ := hrel
  by_cases hlt : k < 256
  ·have HN2 := Shh.mk (dhf_next r q k)
   have HG := Shh.mk ((HI.out.2.1.cell k).trans (dhf_at r q hlt))
   have HV := Shh.mk (HR.out k)
   generalize r k = rk at *
   generalize q k = qk at *
   have hlt2 : (k : Int) < 256 := by omega
   go_wp2_with (first | refine wl_at 34 rfl (.pointer (some ⟨G, k, none⟩)) rfl (at_dD hlt rfl rfl rfl) ?_ | refine wl_at 35 rfl (.int .i32 qk) rfl (load_d rfl HG.out rfl) ?_ | refine wl_at 36 rfl (.int .i32 rk) rfl (sub_d (i := top) (j := qk) ⟨HV.out.1, by have := HV.out; have := HD.out.1; omega, by have := HV.out; have := HD.out.1; omega⟩ rfl rfl rfl) ?_ | refine wl_at 37 rfl (.pointer (some ⟨G, k, none⟩)) rfl (at_dD hlt rfl rfl rfl) ?_ | refine wl_storeD rfl hlt rfl rfl rfl HI.out.2.1 ?_)
   intro w6 r6 b6 z6
   rw [HN2.out] at r6
   have HJ : Shh (Row w6 N 25 (dc fun _ => 0) ∧ Row w6 G 25 (dc (dhf r q (k + 1))) ∧ Below N w w6 ∧ N < G) := by
    obtain ⟨h1, h2, h3, h4⟩ := HI.out
    exact ⟨b6.row h1 h1.lt (by omega), r6, h3.trans (b6.under (Nat.le_of_lt h1.lt) (by omega)), h4⟩
   clear r6 b6 z6 HI HG
   go_wp2
   go_roundw
   case rel => exact ⟨k + 1, by omega, by go_num, HJ⟩
   case measure => simp [intOf]; omega
  ·have hlt2 : ¬ (k : Int) < 256 := by omega
   have HJ : Shh (Row wr N 25 (dc fun _ => 0) ∧ Row wr G 25 (dc r) ∧ Below N w wr ∧ N < G) := by
    have h := HI.out
    rw [show k = 256 by omega] at h
    simp only [dhf_all] at h
    exact ⟨h⟩
   clear HI HR
   go_wp2_with (first | refine wpList_load_any rfl 25 (.tmp 8) rfl G rfl 25 (dc r) (.array 256 21) HJ.out.2.1 Tryd.underlying25 rfl (info_dD.trans (size_dc _)) ?_ | refine wpList_store_any rfl 25 (.tmp 6) (.tmp 39) rfl N rfl (dc r) rfl 25 _ HJ.out.1 (info_dD.trans (size_dc _)) (same_dc _ _) (dc_one _) ?_)
   intro w9 hr9 b9 _
   have hb9 := HJ.out.2.2.1.trans (b9.under (Nat.le_of_lt HJ.out.1.lt) (Nat.le_refl _))
   go_wp2
   exact ret_row_slotS Tryd.results26 rfl rfl rfl hr9 Tryd.underlying25 rfl (info_dD.trans (size_dc _)) ⟨rfl, hb9⟩
theorem width_any (n : Nat) (hn : n ≤ 31) (w : World) : Calls Tryd.prog 27 #[.int .i64 (n : Int)] w (I64Is w ((2 ^ n : Nat) : Int)) := by
 unfold I64Is
 have HW : Shh (∀ j, j ≤ n → 2 ^ j ≤ 2147483648) := ⟨fun j hj => Nat.le_trans (Nat.pow_le_pow_right (by decide) (show j ≤ 31 by omega)) (by decide)⟩
 go_enter Tryd.func27, Tryd.ntmps27
 go_wp2
 go_loopw [3, 5] (fun p t wq => ∃ j : Nat, j ≤ n ∧ t = .int .i64 (j : Int) ∧ p = .int .i64 ((2 ^ j : Nat) : Int) ∧ wq = w) (fun _ t _ => n - (intOf t).toNat)
 case atStart => exact ⟨0, Nat.zero_le _, rfl, rfl, rfl⟩
 case round =>
  obtain ⟨j, hj, rfl, rfl, hw⟩ := hrel
  by_cases hlt : j < n
  ·have hlt2 : (j : Int) < (n : Int) := by omega
   have hn2 : (n : Int) ≤ 31 := by omega
   have e1 := HW.out (j + 1) (by omega)
   rw [Nat.pow_succ] at e1
   have HS := Shh.mk (Nat.pow_succ 2 j)
   obtain ⟨P, HP⟩ : ∃ P, Shh (P = 2 ^ j) := ⟨_, ⟨rfl⟩⟩
   rw [← HP.out] at e1 ⊢
   obtain ⟨P2, HP2⟩ : ∃ P2 : Nat, Shh ((P2 : Int) = (P : Int) * 2 ∧ -9223372036854775808 ≤ (P2 : Int) ∧ (P2 : Int) ≤ 9223372036854775807) := ⟨P * 2, ⟨by omega, by omega, by omega⟩⟩
   clear e1
   go_wp2_with (refine wl_at 8 rfl (.int .i64 (P2 : Int)) rfl (mul_l HP2.out rfl rfl rfl) ?_)
   go_roundw
   case rel => exact ⟨j + 1, by omega, by go_num, by rw [HS.out, ← HP.out, show P2 = P * 2 by have := HP2.out.1; omega], by first | exact hw | trivial⟩
   case measure => simp [intOf]; omega
  ·have hlt2 : ¬ (j : Int) < (n : Int) := by omega
   rw [show j = n by omega]
   go_wp2
   go_ret
   first | exact ⟨rfl, rfl⟩ | exact ⟨rfl, hw.symm⟩
set_option maxHeartbeats 2000000 in
theorem refMask_18 (B : Nat) (v : Value) (m : List UInt8) (hl : m.length = 66) (w : World) (hs : Sl w B v m) (hB : B ≤ w.heap.size) : Calls Tryd.prog 11 #[.int .i64 18, v] w (CdIs w (fun i => 131072 - (decN 18 (litN (spongeL 136 31 m 576)) i : Int)) 0) := by
 unfold CdIs
 generalize hN : w.heap.size = N at *
 have i3 : (m.length : Int) ≤ 66 := by omega
 have i4 : (66 : Int) ≤ (m.length : Int) := by omega
 obtain ⟨L, hL⟩ : ∃ L, Shh (L = spongeL 136 31 m 576) := ⟨_, ⟨rfl⟩⟩
 have HLL : Shh (L.length = 576) := ⟨by rw [hL.out]; exact Sp.outs_length _ _ _⟩
 have HC : Shh (∀ W, Below N w W → N ≤ W.heap.size → Calls Tryd.prog 20 #[.int .i64 256, .int .i64 576, v] W (OwnIs W L)) := ⟨fun W hb hW => by rw [hL.out]; exact refShake256_any 576 (by decide) B v m W (hs.below (hb.mono hB)) (by omega) (by omega)⟩
 have HWD : Shh (∀ W, Calls Tryd.prog 27 #[.int .i64 17] W (I64Is W 131072)) := ⟨fun W => width_any 17 (by decide) W⟩
 rw [← hL.out]
 obtain ⟨r, hr⟩ : ∃ r : Nat → Int, Shh (r = fun i => 131072 - (decN 18 (litN L) i : Int)) := ⟨_, ⟨rfl⟩⟩
 have HF : Shh (∀ W v, Sl W W.heap.size v L → Calls Tryd.prog 26 #[.int .i32 131072, .int .i64 18, v] W (CdIs W r 0)) := ⟨fun W v h => by rw [hr.out]; exact refUnpackFrom_any 131072 (by decide) 18 (by decide) W.heap.size v L HLL.out W h (Nat.le_refl _)⟩
 rw [← hr.out]
 obtain ⟨A, c, rfl, _, _⟩ := hs.form
 have HD : Shh (True ∧ True ∧ w.heap.size = N) := ⟨trivial, trivial, hN⟩
 clear hr hL hs hl hB hN
 generalize m.length = ln at *
 go_enter Tryd.func11, Tryd.ntmps11
 go_wp2_with (refine wl_newzD 4 rfl rfl rfl ?_)
 intro N1 w2 hN1 r2 b2
 try simp only [Act.put, arr9, hd9, tl9]
 obtain rfl : N = N1 := HD.out.2.2.symm.trans hN1.out.symm
 have HI : Shh (Row w2 N 25 (dc fun _ => 0) ∧ Below N w w2 ∧ N < w2.heap.size) := by
  rw [HD.out.2.2] at b2
  exact ⟨r2, b2, r2.lt⟩
 clear r2 b2 hN1
 go_wp2_with (go_at_call 27; refine (HWD.out _).mono ?_)
 rintro e w3 ⟨rfl, rfl⟩
 go_wp2_with (first | refine wl_at 21 rfl (.int .i32 131072) rfl (conv_ld (by unfold i32; decide) rfl rfl) ?_ | (go_at_call 20; refine (HC.out _ HI.out.2.1 (Nat.le_of_lt HI.out.2.2)).mono ?_))
 rintro e w4 ⟨v1, rfl, hg⟩
 have hs1 := gives_sl hg
 obtain ⟨_, b4⟩ := hg
 have HJ : Shh (Row w4 N 25 (dc fun _ => 0) ∧ Below N w w4 ∧ Sl w4 w4.heap.size v1 L) := ⟨HI.out.1.go b4, HI.out.2.1.trans (b4.mono (Nat.le_of_lt HI.out.2.2)), hs1⟩
 clear hs1 b4 HI HC HWD
 go_wp2_with (go_at_call 26; refine (HF.out _ _ HJ.out.2.2).mono ?_)
 rintro e w5 ⟨rfl, b5⟩
 have HK : Shh (Row w5 N 25 (dc fun _ => 0) ∧ Below N w w5) := ⟨HJ.out.1.go b5, HJ.out.2.1.trans (b5.mono (Nat.le_of_lt HJ.out.1.lt))⟩
 clear b5 HJ HF
 go_wp2_with (refine wpList_store_any rfl 25 (.tmp 4) (.tmp 28) rfl N rfl (dc r) rfl 25 _ HK.out.1 (info_dD.trans (size_dc _)) (same_dc _ _) (dc_one _) ?_)
 intro w9 hr9 b9 _
 have hb9 := HK.out.2.trans (b9.under (Nat.le_of_lt HK.out.1.lt) (Nat.le_refl _))
 go_wp2
 exact ret_row_slotS Tryd.results11 rfl rfl rfl hr9 Tryd.underlying25 rfl (info_dD.trans (size_dc _)) ⟨rfl, hb9⟩
set_option maxHeartbeats 2000000 in
theorem refMask_20 (B : Nat) (v : Value) (m : List UInt8) (hl : m.length = 66) (w : World) (hs : Sl w B v m) (hB : B ≤ w.heap.size) : Calls Tryd.prog 11 #[.int .i64 20, v] w (CdIs w (fun i => 524288 - (decN 20 (litN (spongeL 136 31 m 640)) i : Int)) 0) := by
 unfold CdIs
 generalize hN : w.heap.size = N at *
 have i3 : (m.length : Int) ≤ 66 := by omega
 have i4 : (66 : Int) ≤ (m.length : Int) := by omega
 obtain ⟨L, hL⟩ : ∃ L, Shh (L = spongeL 136 31 m 640) := ⟨_, ⟨rfl⟩⟩
 have HLL : Shh (L.length = 640) := ⟨by rw [hL.out]; exact Sp.outs_length _ _ _⟩
 have HC : Shh (∀ W, Below N w W → N ≤ W.heap.size → Calls Tryd.prog 20 #[.int .i64 256, .int .i64 640, v] W (OwnIs W L)) := ⟨fun W hb hW => by rw [hL.out]; exact refShake256_any 640 (by decide) B v m W (hs.below (hb.mono hB)) (by omega) (by omega)⟩
 have HWD : Shh (∀ W, Calls Tryd.prog 27 #[.int .i64 19] W (I64Is W 524288)) := ⟨fun W => width_any 19 (by decide) W⟩
 rw [← hL.out]
 obtain ⟨r, hr⟩ : ∃ r : Nat → Int, Shh (r = fun i => 524288 - (decN 20 (litN L) i : Int)) := ⟨_, ⟨rfl⟩⟩
 have HF : Shh (∀ W v, Sl W W.heap.size v L → Calls Tryd.prog 26 #[.int .i32 524288, .int .i64 20, v] W (CdIs W r 0)) := ⟨fun W v h => by rw [hr.out]; exact refUnpackFrom_any 524288 (by decide) 20 (by decide) W.heap.size v L HLL.out W h (Nat.le_refl _)⟩
 rw [← hr.out]
 obtain ⟨A, c, rfl, _, _⟩ := hs.form
 have HD : Shh (True ∧ True ∧ w.heap.size = N) := ⟨trivial, trivial, hN⟩
 clear hr hL hs hl hB hN
 generalize m.length = ln at *
 go_enter Tryd.func11, Tryd.ntmps11
 go_wp2_with (refine wl_newzD 4 rfl rfl rfl ?_)
 intro N1 w2 hN1 r2 b2
 try simp only [Act.put, arr9, hd9, tl9]
 obtain rfl : N = N1 := HD.out.2.2.symm.trans hN1.out.symm
 have HI : Shh (Row w2 N 25 (dc fun _ => 0) ∧ Below N w w2 ∧ N < w2.heap.size) := by
  rw [HD.out.2.2] at b2
  exact ⟨r2, b2, r2.lt⟩
 clear r2 b2 hN1
 go_wp2_with (go_at_call 27; refine (HWD.out _).mono ?_)
 rintro e w3 ⟨rfl, rfl⟩
 go_wp2_with (first | refine wl_at 21 rfl (.int .i32 524288) rfl (conv_ld (by unfold i32; decide) rfl rfl) ?_ | (go_at_call 20; refine (HC.out _ HI.out.2.1 (Nat.le_of_lt HI.out.2.2)).mono ?_))
 rintro e w4 ⟨v1, rfl, hg⟩
 have hs1 := gives_sl hg
 obtain ⟨_, b4⟩ := hg
 have HJ : Shh (Row w4 N 25 (dc fun _ => 0) ∧ Below N w w4 ∧ Sl w4 w4.heap.size v1 L) := ⟨HI.out.1.go b4, HI.out.2.1.trans (b4.mono (Nat.le_of_lt HI.out.2.2)), hs1⟩
 clear hs1 b4 HI HC HWD
 go_wp2_with (go_at_call 26; refine (HF.out _ _ HJ.out.2.2).mono ?_)
 rintro e w5 ⟨rfl, b5⟩
 have HK : Shh (Row w5 N 25 (dc fun _ => 0) ∧ Below N w w5) := ⟨HJ.out.1.go b5, HJ.out.2.1.trans (b5.mono (Nat.le_of_lt HJ.out.1.lt))⟩
 clear b5 HJ HF
 go_wp2_with (refine wpList_store_any rfl 25 (.tmp 4) (.tmp 28) rfl N rfl (dc r) rfl 25 _ HK.out.1 (info_dD.trans (size_dc _)) (same_dc _ _) (dc_one _) ?_)
 intro w9 hr9 b9 _
 have hb9 := HK.out.2.trans (b9.under (Nat.le_of_lt HK.out.1.lt) (Nat.le_refl _))
 go_wp2
 exact ret_row_slotS Tryd.results11 rfl rfl rfl hr9 Tryd.underlying25 rfl (info_dD.trans (size_dc _)) ⟨rfl, hb9⟩
set_option maxHeartbeats 1000000 in
theorem refRejBounded_no (n : Int) (B : Nat) (v : Value) (m : List UInt8) (hn : (n ≠ 2 ∧ n ≠ 4) ∨ ¬ m.length = 66) (w : World) (hs : Sl w B v m) : Calls Tryd.prog 9 #[.int .i64 n, v] w (CdIs w (fun _ => 0) 1) := by
 unfold CdIs
 obtain ⟨A, c, rfl, _, _⟩ := hs.form
 generalize hN : w.heap.size = N at *
 have HD : Shh (True ∧ True ∧ w.heap.size = N) := ⟨trivial, trivial, hN⟩
 clear hs hN
 have hn2 : ((n ≠ 2 ∧ n ≠ 4) ∨ (n = 2 ∧ ¬ (m.length : Int) = 66)) ∨ (n = 4 ∧ ¬ (m.length : Int) = 66) := by omega
 clear hn
 generalize m.length = ln at *
 rcases hn2 with (⟨h1, h2⟩ | ⟨rfl, h3⟩) | ⟨rfl, h3⟩
 ·have h4 : (n == 2) = false := by simpa using h1
  have h5 : (n == 4) = false := by simpa using h2
  go_enter Tryd.func9, Tryd.ntmps9
  go_wp2_with (refine wl_newzD 4 rfl rfl rfl ?_)
  intro N1 w2 hN1 r2 b2
  try simp only [Act.put, arr9, hd9, tl9]
  obtain rfl : N = N1 := HD.out.2.2.symm.trans hN1.out.symm
  have HI : Shh (Row w2 N 25 (dc fun _ => 0) ∧ Below N w w2 ∧ N < w2.heap.size) := by
   rw [HD.out.2.2] at b2
   exact ⟨r2, b2, r2.lt⟩
  clear r2 b2 hN1
  go_wp2_with (first | refine wl_at 22 rfl (.agg (dc fun _ => 0).toArray) rfl (build_zero rfl) ?_ | refine wpList_store_any rfl 25 (.tmp 4) (.tmp 22) rfl N rfl (dc fun _ => 0) rfl 25 _ HI.out.1 (info_dD.trans (size_dc _)) (same_dc _ _) (dc_one _) ?_)
  intro w9 hr9 b9 _
  have hb9 := HI.out.2.1.trans (b9.under (Nat.le_of_lt HI.out.1.lt) (Nat.le_refl _))
  go_wp2
  exact ret_row_slotS Tryd.results9 rfl rfl rfl hr9 Tryd.underlying25 rfl (info_dD.trans (size_dc _)) ⟨rfl, hb9⟩
 ·go_enter Tryd.func9, Tryd.ntmps9
  go_wp2_with (refine wl_newzD 4 rfl rfl rfl ?_)
  intro N1 w2 hN1 r2 b2
  try simp only [Act.put, arr9, hd9, tl9]
  obtain rfl : N = N1 := HD.out.2.2.symm.trans hN1.out.symm
  have HI : Shh (Row w2 N 25 (dc fun _ => 0) ∧ Below N w w2 ∧ N < w2.heap.size) := by
   rw [HD.out.2.2] at b2
   exact ⟨r2, b2, r2.lt⟩
  clear r2 b2 hN1
  go_wp2_with (first | refine wl_at 22 rfl (.agg (dc fun _ => 0).toArray) rfl (build_zero rfl) ?_ | refine wpList_store_any rfl 25 (.tmp 4) (.tmp 22) rfl N rfl (dc fun _ => 0) rfl 25 _ HI.out.1 (info_dD.trans (size_dc _)) (same_dc _ _) (dc_one _) ?_)
  intro w9 hr9 b9 _
  have hb9 := HI.out.2.1.trans (b9.under (Nat.le_of_lt HI.out.1.lt) (Nat.le_refl _))
  go_wp2
  exact ret_row_slotS Tryd.results9 rfl rfl rfl hr9 Tryd.underlying25 rfl (info_dD.trans (size_dc _)) ⟨rfl, hb9⟩
 ·go_enter Tryd.func9, Tryd.ntmps9
  go_wp2_with (refine wl_newzD 4 rfl rfl rfl ?_)
  intro N1 w2 hN1 r2 b2
  try simp only [Act.put, arr9, hd9, tl9]
  obtain rfl : N = N1 := HD.out.2.2.symm.trans hN1.out.symm
  have HI : Shh (Row w2 N 25 (dc fun _ => 0) ∧ Below N w w2 ∧ N < w2.heap.size) := by
   rw [HD.out.2.2] at b2
   exact ⟨r2, b2, r2.lt⟩
  clear r2 b2 hN1
  go_wp2_with (first | refine wl_at 22 rfl (.agg (dc fun _ => 0).toArray) rfl (build_zero rfl) ?_ | refine wpList_store_any rfl 25 (.tmp 4) (.tmp 22) rfl N rfl (dc fun _ => 0) rfl 25 _ HI.out.1 (info_dD.trans (size_dc _)) (same_dc _ _) (dc_one _) ?_)
  intro w9 hr9 b9 _
  have hb9 := HI.out.2.1.trans (b9.under (Nat.le_of_lt HI.out.1.lt) (Nat.le_refl _))
  go_wp2
  exact ret_row_slotS Tryd.results9 rfl rfl rfl hr9 Tryd.underlying25 rfl (info_dD.trans (size_dc _)) ⟨rfl, hb9⟩
set_option maxHeartbeats 1000000 in
theorem refMask_no (n : Int) (B : Nat) (v : Value) (m : List UInt8) (hn : (n ≠ 18 ∧ n ≠ 20) ∨ ¬ m.length = 66) (w : World) (hs : Sl w B v m) : Calls Tryd.prog 11 #[.int .i64 n, v] w (CdIs w (fun _ => 0) 1) := by
 unfold CdIs
 obtain ⟨A, c, rfl, _, _⟩ := hs.form
 generalize hN : w.heap.size = N at *
 have HD : Shh (True ∧ True ∧ w.heap.size = N) := ⟨trivial, trivial, hN⟩
 clear hs hN
 have hn2 : ((n ≠ 18 ∧ n ≠ 20) ∨ (n = 18 ∧ ¬ (m.length : Int) = 66)) ∨ (n = 20 ∧ ¬ (m.length : Int) = 66) := by omega
 clear hn
 generalize m.length = ln at *
 rcases hn2 with (⟨h1, h2⟩ | ⟨rfl, h3⟩) | ⟨rfl, h3⟩
 ·have h4 : (n == 18) = false := by simpa using h1
  have h5 : (n == 20) = false := by simpa using h2
  go_enter Tryd.func11, Tryd.ntmps11
  go_wp2_with (refine wl_newzD 4 rfl rfl rfl ?_)
  intro N1 w2 hN1 r2 b2
  try simp only [Act.put, arr9, hd9, tl9]
  obtain rfl : N = N1 := HD.out.2.2.symm.trans hN1.out.symm
  have HI : Shh (Row w2 N 25 (dc fun _ => 0) ∧ Below N w w2 ∧ N < w2.heap.size) := by
   rw [HD.out.2.2] at b2
   exact ⟨r2, b2, r2.lt⟩
  clear r2 b2 hN1
  go_wp2_with (first | refine wl_at 17 rfl (.agg (dc fun _ => 0).toArray) rfl (build_zero rfl) ?_ | refine wpList_store_any rfl 25 (.tmp 4) (.tmp 17) rfl N rfl (dc fun _ => 0) rfl 25 _ HI.out.1 (info_dD.trans (size_dc _)) (same_dc _ _) (dc_one _) ?_)
  intro w9 hr9 b9 _
  have hb9 := HI.out.2.1.trans (b9.under (Nat.le_of_lt HI.out.1.lt) (Nat.le_refl _))
  go_wp2
  exact ret_row_slotS Tryd.results11 rfl rfl rfl hr9 Tryd.underlying25 rfl (info_dD.trans (size_dc _)) ⟨rfl, hb9⟩
 ·go_enter Tryd.func11, Tryd.ntmps11
  go_wp2_with (refine wl_newzD 4 rfl rfl rfl ?_)
  intro N1 w2 hN1 r2 b2
  try simp only [Act.put, arr9, hd9, tl9]
  obtain rfl : N = N1 := HD.out.2.2.symm.trans hN1.out.symm
  have HI : Shh (Row w2 N 25 (dc fun _ => 0) ∧ Below N w w2 ∧ N < w2.heap.size) := by
   rw [HD.out.2.2] at b2
   exact ⟨r2, b2, r2.lt⟩
  clear r2 b2 hN1
  go_wp2_with (first | refine wl_at 17 rfl (.agg (dc fun _ => 0).toArray) rfl (build_zero rfl) ?_ | refine wpList_store_any rfl 25 (.tmp 4) (.tmp 17) rfl N rfl (dc fun _ => 0) rfl 25 _ HI.out.1 (info_dD.trans (size_dc _)) (same_dc _ _) (dc_one _) ?_)
  intro w9 hr9 b9 _
  have hb9 := HI.out.2.1.trans (b9.under (Nat.le_of_lt HI.out.1.lt) (Nat.le_refl _))
  go_wp2
  exact ret_row_slotS Tryd.results11 rfl rfl rfl hr9 Tryd.underlying25 rfl (info_dD.trans (size_dc _)) ⟨rfl, hb9⟩
 ·go_enter Tryd.func11, Tryd.ntmps11
  go_wp2_with (refine wl_newzD 4 rfl rfl rfl ?_)
  intro N1 w2 hN1 r2 b2
  try simp only [Act.put, arr9, hd9, tl9]
  obtain rfl : N = N1 := HD.out.2.2.symm.trans hN1.out.symm
  have HI : Shh (Row w2 N 25 (dc fun _ => 0) ∧ Below N w w2 ∧ N < w2.heap.size) := by
   rw [HD.out.2.2] at b2
   exact ⟨r2, b2, r2.lt⟩
  clear r2 b2 hN1
  go_wp2_with (first | refine wl_at 17 rfl (.agg (dc fun _ => 0).toArray) rfl (build_zero rfl) ?_ | refine wpList_store_any rfl 25 (.tmp 4) (.tmp 17) rfl N rfl (dc fun _ => 0) rfl 25 _ HI.out.1 (info_dD.trans (size_dc _)) (same_dc _ _) (dc_one _) ?_)
  intro w9 hr9 b9 _
  have hb9 := HI.out.2.1.trans (b9.under (Nat.le_of_lt HI.out.1.lt) (Nat.le_refl _))
  go_wp2
  exact ret_row_slotS Tryd.results11 rfl rfl rfl hr9 Tryd.underlying25 rfl (info_dD.trans (size_dc _)) ⟨rfl, hb9⟩
set_option maxHeartbeats 1000000 in
theorem refBall_no (n : Int) (B : Nat) (v : Value) (m : List UInt8) (hn : n < 1 ∨ 64 < n) (w : World) (hs : Sl w B v m) : Calls Tryd.prog 13 #[.int .i64 n, v] w (CdIs w (fun _ => 0) 1) := by
 unfold CdIs
 obtain ⟨A, c, rfl, _, _⟩ := hs.form
 generalize hN : w.heap.size = N at *
 have HD : Shh (True ∧ True ∧ w.heap.size = N) := ⟨trivial, trivial, hN⟩
 clear hs hN
 generalize m.length = ln at *
 by_cases h1 : n < 1
 ·clear hn
  go_enter Tryd.func13, Tryd.ntmps13
  go_wp2_with (refine wl_newzD 4 rfl rfl rfl ?_)
  intro N1 w2 hN1 r2 b2
  try simp only [Act.put, arr9, hd9, tl9]
  obtain rfl : N = N1 := HD.out.2.2.symm.trans hN1.out.symm
  have HI : Shh (Row w2 N 25 (dc fun _ => 0) ∧ Below N w w2 ∧ N < w2.heap.size) := by
   rw [HD.out.2.2] at b2
   exact ⟨r2, b2, r2.lt⟩
  clear r2 b2 hN1
  go_wp2_with (first | refine wl_at 18 rfl (.agg (dc fun _ => 0).toArray) rfl (build_zero rfl) ?_ | refine wpList_store_any rfl 25 (.tmp 4) (.tmp 18) rfl N rfl (dc fun _ => 0) rfl 25 _ HI.out.1 (info_dD.trans (size_dc _)) (same_dc _ _) (dc_one _) ?_)
  intro w9 hr9 b9 _
  have hb9 := HI.out.2.1.trans (b9.under (Nat.le_of_lt HI.out.1.lt) (Nat.le_refl _))
  go_wp2
  exact ret_row_slotS Tryd.results13 rfl rfl rfl hr9 Tryd.underlying25 rfl (info_dD.trans (size_dc _)) ⟨rfl, hb9⟩
 ·have h2 : 64 < n := by omega
  clear hn
  go_enter Tryd.func13, Tryd.ntmps13
  go_wp2_with (refine wl_newzD 4 rfl rfl rfl ?_)
  intro N1 w2 hN1 r2 b2
  try simp only [Act.put, arr9, hd9, tl9]
  obtain rfl : N = N1 := HD.out.2.2.symm.trans hN1.out.symm
  have HI : Shh (Row w2 N 25 (dc fun _ => 0) ∧ Below N w w2 ∧ N < w2.heap.size) := by
   rw [HD.out.2.2] at b2
   exact ⟨r2, b2, r2.lt⟩
  clear r2 b2 hN1
  go_wp2_with (first | refine wl_at 18 rfl (.agg (dc fun _ => 0).toArray) rfl (build_zero rfl) ?_ | refine wpList_store_any rfl 25 (.tmp 4) (.tmp 18) rfl N rfl (dc fun _ => 0) rfl 25 _ HI.out.1 (info_dD.trans (size_dc _)) (same_dc _ _) (dc_one _) ?_)
  intro w9 hr9 b9 _
  have hb9 := HI.out.2.1.trans (b9.under (Nat.le_of_lt HI.out.1.lt) (Nat.le_refl _))
  go_wp2
  exact ret_row_slotS Tryd.results13 rfl rfl rfl hr9 Tryd.underlying25 rfl (info_dD.trans (size_dc _)) ⟨rfl, hb9⟩
theorem refRejNtt_no (B : Nat) (v : Value) (m : List UInt8) (hl : ¬ m.length = 34) (w : World) (hs : Sl w B v m) : Calls Tryd.prog 7 #[v] w (CdIs w (fun _ => 0) 1) := by
 unfold CdIs
 obtain ⟨A, c, rfl, _, _⟩ := hs.form
 have h3 : ¬ (m.length : Int) = 34 := by omega
 generalize hN : w.heap.size = N at *
 have HD : Shh (True ∧ True ∧ w.heap.size = N) := ⟨trivial, trivial, hN⟩
 clear hs hl hN
 generalize m.length = ln at *
 go_enter Tryd.func7, Tryd.ntmps7
 go_wp2_with (refine wl_newzD 2 rfl rfl rfl ?_)
 intro N1 w2 hN1 r2 b2
 try simp only [Act.put, arr9, hd9, tl9]
 obtain rfl : N = N1 := HD.out.2.2.symm.trans hN1.out.symm
 have HI : Shh (Row w2 N 25 (dc fun _ => 0) ∧ Below N w w2 ∧ N < w2.heap.size) := by
  rw [HD.out.2.2] at b2
  exact ⟨r2, b2, r2.lt⟩
 clear r2 b2 hN1
 go_wp2_with (first | refine wl_at 12 rfl (.agg (dc fun _ => 0).toArray) rfl (build_zero rfl) ?_ | refine wpList_store_any rfl 25 (.tmp 2) (.tmp 12) rfl N rfl (dc fun _ => 0) rfl 25 _ HI.out.1 (info_dD.trans (size_dc _)) (same_dc _ _) (dc_one _) ?_)
 intro w9 hr9 b9 _
 have hb9 := HI.out.2.1.trans (b9.under (Nat.le_of_lt HI.out.1.lt) (Nat.le_refl _))
 go_wp2
 exact ret_row_slotS Tryd.results7 rfl rfl rfl hr9 Tryd.underlying25 rfl (info_dD.trans (size_dc _)) ⟨rfl, hb9⟩
end Go.Proofs.YtapjiknedghhfaaDoor

/-
 THE DOCUMENT'S OWN RejNtt.
-/
namespace Go.Proofs.YtapjiknedghhfaaDoor
open Go.RowKit
set_option maxRecDepth 100000
set_option maxHeartbeats 8000000 in
theorem refRejNtt_any (B : Nat) (v : Value) (m : List UInt8) (hl : m.length = 34) (w : World) (hs : Sl w B v m) (hB : B ≤ w.heap.size) : Calls Tryd.prog 7 #[v] w (CdIs w (svF 1024 (drwU (nsB 168 m 3072))) (svE 1024 (drwU (nsB 168 m 3072)))) := by
 unfold CdIs
 have i3 : (m.length : Int) ≤ 34 := by omega
 have i4 : (34 : Int) ≤ (m.length : Int) := by omega
 generalize hN : w.heap.size = N at *
 obtain ⟨bb, hbb⟩ : ∃ b : Nat → Nat, b = nsB 168 m 3072 := ⟨_, rfl⟩
 obtain ⟨val, hval⟩ : ∃ f, f = drwU (nsB 168 m 3072) := ⟨_, rfl⟩
 rw [← hval]
 have HX : Shh (∀ t, val t = if grpU bb t < 8380417 then some (grpU bb t : Int) else none) := ⟨fun t => by rw [hval, hbb]; rfl⟩
 have HB8 : Shh (∀ i, bb i < 256) := ⟨fun i => by rw [hbb]; exact nb_lt _ _⟩
 obtain ⟨FF, hFF⟩ : ∃ F, F = svF 1024 val := ⟨_, rfl⟩
 obtain ⟨ee, hee⟩ : ∃ F, F = svE 1024 val := ⟨_, rfl⟩
 have HF : Shh ((∀ n f, StV val 1024 n f → n < 256 → ee = 130 ∧ FF = fun _ => 0) ∧ ∀ k f, k ≤ 1024 → StV val k 256 f → ee = 0 ∧ FF = f) := ⟨by
  rw [hFF, hee]
  exact ⟨fun n f h hn => h.short hn, fun k f hk h => (h.full hk).whole⟩⟩
 rw [← hFF, ← hee]
 clear hFF hee hval
 obtain ⟨A, c, rfl, _, _⟩ := hs.form
 have HC : Shh (∀ n : Nat, 0 < n → n ≤ 3072 → ∀ W, Below N w W → N ≤ W.heap.size → Calls Tryd.prog 20 #[.int .i64 128, .int .i64 (n : Int), .slice A m.length c] W (GotIs W bb n)) := ⟨fun n h0 hn W hb hW => by
  refine (refShake128_any n (by omega) B _ m W (hs.below (hb.mono hB)) (by omega) (by omega)).mono ?_
  rintro e w' ⟨v1, rfl, hg⟩
  have hln : (spongeL 168 31 m n).length = n := Sp.outs_length _ _ _
  obtain ⟨gb, c1, rfl, h1, h2, h3, h4⟩ := shake_cells hg (by omega)
  rw [hln]
  exact ⟨gb, c1, rfl, h1, h2, fun i hi => by rw [h3 i (by omega), hbb]; unfold nsB spongeL; rw [short_bytes 168 _ n 3072 i hn hi], h4⟩⟩
 have HD : Shh (True ∧ StV val 0 0 (fun _ => 0) ∧ w.heap.size = N) := ⟨trivial, StV.start val, hN⟩
 clear hs hB hl hbb hN
 generalize m.length = ln at *
 go_enter Tryd.func7, Tryd.ntmps7
 go_wp2_with (refine wl_newzD 2 rfl rfl rfl ?_)
 intro N1 w2 hN1 r2 b2
 try simp only [Act.put, arr9, hd9, tl9]
 obtain rfl : N = N1 := HD.out.2.2.symm.trans hN1.out.symm
 have HI : Shh (Row w2 N 25 (dc fun _ => 0) ∧ Below N w w2 ∧ N < w2.heap.size) := by
  rw [HD.out.2.2] at b2
  exact ⟨r2, b2, r2.lt⟩
 clear r2 b2 hN1
 go_wp2_with (refine wl_newzD 4 rfl rfl rfl ?_)
 intro G w3 hG r3 b3
 try simp only [Act.put, arr9, hd9, tl9]
 have HJ : Shh (Row w3 N 25 (dc fun _ => 0) ∧ Row w3 G 25 (dc fun _ => 0) ∧ Below N w w3 ∧ N < G) := ⟨HI.out.1.go b3, r3, HI.out.2.1.trans (b3.mono (Nat.le_of_lt HI.out.2.2)), by rw [hG.out]; exact HI.out.2.2⟩
 clear r3 b3 hG HI
 have C1 : Shh (Calls Tryd.prog 20 #[.int .i64 128, .int .i64 840, .slice A ln c] w3 (GotIs w3 bb 840)) := ⟨HC.out 840 (by decide) (by decide) w3 HJ.out.2.2.1 (Nat.le_of_lt HJ.out.1.lt)⟩
 go_wp2_with (go_at_call 20; refine (C1.out).mono ?_)
 rintro e w4 ⟨gb0, cc0, rfl, hq1, hq2, hq3, b4⟩
 have HK : Shh (StV val (0) (0) (fun _ => 0 : Nat → Int) ∧ Row w4 N 25 (dc fun _ => 0) ∧ Row w4 G 25 (dc (fun _ => 0 : Nat → Int)) ∧ Below N w w4 ∧ N < G ∧ G < gb0 ∧ gb0 < w4.heap.size ∧ ∀ i, i < 840 → w4.cell? ⟨gb0, i, none⟩ = some (.int .u8 (bb i : Int))) := by
  obtain ⟨h2, h3, h4, h5⟩ := HJ.out
  exact ⟨⟨HD.out.2.1, h2.go b4, h3.go b4, h4.trans (b4.mono (Nat.le_of_lt h2.lt)), h5, Nat.lt_of_lt_of_le h3.lt hq1, hq2, hq3⟩⟩
 clear hq1 hq2 hq3 b4 HJ C1
 go_wp2
 go_loopg [5, 6, 7] 1024 (fun gk s5 s6 s7 wr => ∃ (t n gb L cc : Nat) (f : Nat → Int), t + gk = 1024 ∧ s7 = .int .i64 (t : Int) ∧ s6 = .int .i64 (n : Int) ∧ s5 = .slice (some ⟨gb, 0, none⟩) L cc ∧ L ≤ 3072 ∧ Shh (StV val (t) (n) f ∧ Row wr N 25 (dc fun _ => 0) ∧ Row wr G 25 (dc f) ∧ Below N w wr ∧ N < G ∧ G < gb ∧ gb < wr.heap.size ∧ ∀ i, i < L → wr.cell? ⟨gb, i, none⟩ = some (.int .u8 (bb i : Int))))
 case atStart => exact ⟨0, 0, gb0, 840, cc0, fun _ => 0, rfl, rfl, rfl, rfl, by decide, HK⟩
 case round =>
  clear HK
  obtain ⟨t, n, gb, L, cc, f, htk, rfl, rfl, rfl, hL, HI⟩ := hrel
  have hn0 := HI.out.1.le
  by_cases hn : n < 256
  ·have hn2 : (n : Int) < 256 := by omega
   cases gk with
   | zero =>
    have ht : ¬ (t : Int) < 1024 := by omega
    have h1 := HI.out.1
    rw [show t = 1024 by omega] at h1
    obtain ⟨rfl, rfl⟩ := HF.out.1 n f h1 hn
    clear h1 HF HX HB8 HC
    go_wp2_with (first | refine wl_at 65 rfl (.agg (dc fun _ => 0).toArray) rfl (build_zero rfl) ?_ | refine wpList_store_any rfl 25 (.tmp 2) (.tmp 65) rfl N rfl (dc fun _ => 0) rfl 25 _ HI.out.2.1 (info_dD.trans (size_dc _)) (same_dc _ _) (dc_one _) ?_)
    intro w9 hr9 b9 _
    have hb9 : Below N w w9 := HI.out.2.2.2.1.trans (b9.under (Nat.le_of_lt HI.out.2.1.lt) (Nat.le_refl _))
    go_wp2
    exact ret_row_slotS Tryd.results7 rfl rfl rfl hr9 Tryd.underlying25 rfl (info_dD.trans (size_dc _)) ⟨rfl, hb9⟩
   | succ g' =>
    have ht : (t : Int) < 1024 := by omega
    obtain ⟨s0, Hs0⟩ : ∃ s : Nat, Shh (((s : Int) = 3 * (t : Int) ∧ -9223372036854775808 ≤ (s : Int) ∧ (s : Int) ≤ 9223372036854775807) ∧ s ≤ 100000 ∧ s = 3 * t) := ⟨3 * t, ⟨by omega⟩⟩
    obtain ⟨s3, Hs3⟩ : ∃ s : Nat, Shh ((s : Int) = (s0 : Int) + 3 ∧ -9223372036854775808 ≤ (s : Int) ∧ (s : Int) ≤ 9223372036854775807) := ⟨s0 + 3, ⟨by have := Hs0.out; omega⟩⟩
    by_cases hgt : s3 ≤ L
    ·have hgt2 : ¬ (L : Int) < (s3 : Int) := by omega
     obtain ⟨s1, Hs1⟩ : ∃ s : Nat, Shh ((s : Int) = (s0 : Int) + 1 ∧ -9223372036854775808 ≤ (s : Int) ∧ (s : Int) ≤ 9223372036854775807) := ⟨s0 + 1, ⟨by have := Hs0.out; omega⟩⟩
     obtain ⟨s2, Hs2⟩ : ∃ s : Nat, Shh ((s : Int) = (s0 : Int) + 2 ∧ -9223372036854775808 ≤ (s : Int) ∧ (s : Int) ≤ 9223372036854775807) := ⟨s0 + 2, ⟨by have := Hs0.out; omega⟩⟩
     have HLS : Shh (s0 < L ∧ s1 < L ∧ s2 < L) := ⟨by have := Hs3.out; have := Hs1.out; have := Hs2.out; omega⟩
     have hxx := HX.out t
     have c0 := HI.out.2.2.2.2.2.2.2 s0 HLS.out.1
     have c1 := HI.out.2.2.2.2.2.2.2 s1 HLS.out.2.1
     have c2 := HI.out.2.2.2.2.2.2.2 s2 HLS.out.2.2
     unfold grpU at hxx
     rw [show 3 * t + 2 = s2 by have := Hs0.out; have := Hs2.out; omega, show 3 * t + 1 = s1 by have := Hs0.out; have := Hs1.out; omega, show 3 * t = s0 by have := Hs0.out; omega] at hxx
     have l0 := HB8.out s0
     have l1 := HB8.out s1
     have l2 := HB8.out s2
     generalize bb s0 = a0 at *
     generalize bb s1 = a1 at *
     generalize bb s2 = a2 at *
     have HC0 : Shh (wr.cell? ⟨gb, s0, none⟩ = some (.int .u8 (a0 : Int)) ∧ wr.cell? ⟨gb, s1, none⟩ = some (.int .u8 (a1 : Int)) ∧ wr.cell? ⟨gb, s2, none⟩ = some (.int .u8 (a2 : Int))) := ⟨c0, c1, c2⟩
     have HA3 : Shh (a0 < 256 ∧ a1 < 256 ∧ a2 < 256) := ⟨l0, l1, l2⟩
     clear c0 c1 c2 l0 l1 l2
     obtain ⟨m2, Hm2⟩ : ∃ b, Shh (b = a2 % 128) := ⟨_, ⟨rfl⟩⟩
     have HM2 : Shh (m2 < 256) := ⟨by have := Hm2.out; omega⟩
     obtain ⟨b1, Hb1⟩ : ∃ b : Nat, Shh ((b : Int) = 256 * (a1 : Int) ∧ -2147483648 ≤ (b : Int) ∧ (b : Int) ≤ 2147483647) := ⟨256 * a1, ⟨by have := HA3.out; omega⟩⟩
     obtain ⟨b3, Hb3⟩ : ∃ b : Nat, Shh ((b : Int) = 65536 * (m2 : Int) ∧ -2147483648 ≤ (b : Int) ∧ (b : Int) ≤ 2147483647) := ⟨65536 * m2, ⟨by have := HM2.out; omega⟩⟩
     obtain ⟨b2, Hb2⟩ : ∃ b : Nat, Shh ((b : Int) = (a0 : Int) + (b1 : Int) ∧ -2147483648 ≤ (b : Int) ∧ (b : Int) ≤ 2147483647) := ⟨a0 + b1, ⟨by have := HA3.out; have := Hb1.out; omega⟩⟩
     obtain ⟨x, Hx⟩ : ∃ b : Nat, Shh ((b : Int) = (b2 : Int) + (b3 : Int) ∧ -2147483648 ≤ (b : Int) ∧ (b : Int) ≤ 2147483647) := ⟨b2 + b3, ⟨by have := HA3.out; have := Hb1.out; have := Hb2.out; have := Hb3.out; have := HM2.out; omega⟩⟩
     rw [show a0 + 256 * a1 + 65536 * (a2 % 128) = x by have := Hb1.out.1; have := Hb2.out.1; have := Hb3.out.1; have := Hm2.out; have := Hx.out.1; omega] at hxx
     have HV := Shh.mk hxx
     clear hxx
     go_wp2_with (first | refine wl_at 24 rfl (.int .i64 (s0 : Int)) rfl (mul_n (i := 3) (j := (t : Int)) Hs0.out.1 rfl rfl rfl) ?_ | refine wl_at 25 rfl (.int .i64 (s3 : Int)) rfl (add_n (i := (s0 : Int)) (j := 3) Hs3.out rfl rfl rfl) ?_)
     have HK : Shh (StV val (t) (n) f ∧ Row wr.drew N 25 (dc fun _ => 0) ∧ Row wr.drew G 25 (dc f) ∧ Below N w wr.drew ∧ N < G ∧ G < gb ∧ gb < wr.drew.heap.size ∧ ∀ i, i < L → wr.drew.cell? ⟨gb, i, none⟩ = some (.int .u8 (bb i : Int))) := by
      obtain ⟨h1, h2, h3, h4, h5, h6, h7, h8⟩ := HI.out
      exact ⟨⟨h1, h2.drew, h3.drew, h4.drew, h5, h6, h7, h8⟩⟩
     clear HI
     refine wp_region_held_drew (S := fun W => W.cell? ⟨gb, s0, none⟩ = some (.int .u8 (a0 : Int)) ∧ W.cell? ⟨gb, s1, none⟩ = some (.int .u8 (a1 : Int)) ∧ W.cell? ⟨gb, s2, none⟩ = some (.int .u8 (a2 : Int))) (by kernel_rfl) HC0.out (fun hS => ?_)
     clear HC0
     obtain ⟨U, hU⟩ : ∃ V, V = World.drew wr := ⟨_, rfl⟩
     rw [← hU] at HK hS ⊢
     clear hU
     refine hdv0 0 31 (.slice (some ⟨gb, 0, none⟩) L cc) (by rfl) (hS) ?_
     refine hdv0 1 32 (.int .i64 (t : Int)) (by rfl) (hS) ?_
     refine hdv 2 33 (.int .i64 (s0 : Int)) (by rfl) (fun w hS => mul_n (i := 3) (j := (t : Int)) Hs0.out.1 rfl (by kernel_rfl) (by kernel_rfl)) (hS) ?_
     refine hdv 3 34 (.pointer (some ⟨gb, s0, none⟩)) (by rfl) (fun w hS => at_u8z (k := s0) (n := L) (c := cc) HLS.out.1 rfl (by kernel_rfl) (by kernel_rfl)) (hS) ?_
     refine hdv 4 35 (.int .u8 (a0 : Int)) (by rfl) (fun w hS => load_u8s (n := a0) rfl hS.1 (by kernel_rfl)) (hS) ?_
     refine hdv 5 36 (.int .i32 (a0 : Int)) (by rfl) (fun w hS => conv_8d (n := a0) HA3.out.1 rfl (by kernel_rfl)) (hS) ?_
     refine hdv0 6 37 (.slice (some ⟨gb, 0, none⟩) L cc) (by rfl) (hS) ?_
     refine hdv0 7 38 (.int .i64 (t : Int)) (by rfl) (hS) ?_
     refine hdv 8 39 (.int .i64 (s0 : Int)) (by rfl) (fun w hS => mul_n (i := 3) (j := (t : Int)) Hs0.out.1 rfl (by kernel_rfl) (by kernel_rfl)) (hS) ?_
     refine hdv 9 40 (.int .i64 (s1 : Int)) (by rfl) (fun w hS => add_n (i := (s0 : Int)) (j := 1) Hs1.out rfl (by kernel_rfl) (by kernel_rfl)) (hS) ?_
     refine hdv 10 41 (.pointer (some ⟨gb, s1, none⟩)) (by rfl) (fun w hS => at_u8z (k := s1) (n := L) (c := cc) HLS.out.2.1 rfl (by kernel_rfl) (by kernel_rfl)) (hS) ?_
     refine hdv 11 42 (.int .u8 (a1 : Int)) (by rfl) (fun w hS => load_u8s (n := a1) rfl hS.2.1 (by kernel_rfl)) (hS) ?_
     refine hdv 12 43 (.int .i32 (a1 : Int)) (by rfl) (fun w hS => conv_8d (n := a1) HA3.out.2.1 rfl (by kernel_rfl)) (hS) ?_
     refine hdv 13 44 (.int .i32 (b1 : Int)) (by rfl) (fun w hS => mul_d (i := 256) (j := (a1 : Int)) Hb1.out rfl (by kernel_rfl) (by kernel_rfl)) (hS) ?_
     refine hdv 14 45 (.int .i32 (b2 : Int)) (by rfl) (fun w hS => add_d (i := (a0 : Int)) (j := (b1 : Int)) Hb2.out rfl (by kernel_rfl) (by kernel_rfl)) (hS) ?_
     refine hdv0 15 46 (.slice (some ⟨gb, 0, none⟩) L cc) (by rfl) (hS) ?_
     refine hdv0 16 47 (.int .i64 (t : Int)) (by rfl) (hS) ?_
     refine hdv 17 48 (.int .i64 (s0 : Int)) (by rfl) (fun w hS => mul_n (i := 3) (j := (t : Int)) Hs0.out.1 rfl (by kernel_rfl) (by kernel_rfl)) (hS) ?_
     refine hdv 18 49 (.int .i64 (s2 : Int)) (by rfl) (fun w hS => add_n (i := (s0 : Int)) (j := 2) Hs2.out rfl (by kernel_rfl) (by kernel_rfl)) (hS) ?_
     refine hdv 19 50 (.pointer (some ⟨gb, s2, none⟩)) (by rfl) (fun w hS => at_u8z (k := s2) (n := L) (c := cc) HLS.out.2.2 rfl (by kernel_rfl) (by kernel_rfl)) (hS) ?_
     refine hdv 20 51 (.int .u8 (a2 : Int)) (by rfl) (fun w hS => load_u8s (n := a2) rfl hS.2.2 (by kernel_rfl)) (hS) ?_
     refine hdv 21 52 (.int .u8 (m2 : Int)) (by rfl) (fun w hS => rem_128 (n := a2) Hm2.out HA3.out.2.2 rfl (by kernel_rfl)) (hS) ?_
     refine hdv 22 53 (.int .i32 (m2 : Int)) (by rfl) (fun w hS => conv_8d (n := m2) HM2.out rfl (by kernel_rfl)) (hS) ?_
     refine hdv 23 54 (.int .i32 (b3 : Int)) (by rfl) (fun w hS => mul_d (i := 65536) (j := (m2 : Int)) Hb3.out rfl (by kernel_rfl) (by kernel_rfl)) (hS) ?_
     refine hdv 24 55 (.int .i32 (x : Int)) (by rfl) (fun w hS => add_d (i := (b2 : Int)) (j := (b3 : Int)) Hx.out rfl (by kernel_rfl) (by kernel_rfl)) (hS) ?_
     refine hdv0 25 8 (.int .i32 (x : Int)) (by rfl) (hS) ?_
     refine wpAnyH_done (by kernel_rfl) ?_ _
     clear hS Hm2 Hb1 Hb2 Hb3 Hx HM2 HA3 HLS Hs1 Hs2 Hs3 Hs0
     by_cases hx : x < 8380417
     ·have HGE : Shh (decide ((x : Int) < 8380417) = true) := ⟨decide_eq_true (by omega)⟩
      have hok2 : val t = some (x : Int) := by rw [HV.out, if_pos hx]
      have HOK := Shh.mk (HK.out.1.take hok2 hn)
      clear hx hok2
      go_wp2_with (first | refine wl_at 57 rfl (.bool true) rfl (lss_d true HGE.out rfl rfl rfl) ?_ | refine wl_at 60 rfl (.pointer (some ⟨G, n, none⟩)) rfl (at_dD hn rfl rfl rfl) ?_ | refine wl_storeD rfl hn rfl rfl rfl HK.out.2.2.1 ?_)
      intro w6 r6 b6 z6
      have HO : Shh (StV val (t + 1) (n + 1) (dup f n x) ∧ Row w6 N 25 (dc fun _ => 0) ∧ Row w6 G 25 (dc (dup f n x)) ∧ Below N w w6 ∧ N < G ∧ G < gb ∧ gb < w6.heap.size ∧ ∀ i, i < L → w6.cell? ⟨gb, i, none⟩ = some (.int .u8 (bb i : Int))) := by
       obtain ⟨h1, h2, h3, h4, h5, h6, h7, h8⟩ := HK.out
       exact ⟨⟨HOK.out, b6.row h2 h2.lt (by omega), r6, h4.trans (b6.under (Nat.le_of_lt h2.lt) (Nat.le_of_lt h5)), h5, h6, Nat.lt_of_lt_of_le h7 b6.size, fun i hi => (b6.cell (p := ⟨gb, i, none⟩) h7 (show gb ≠ G by omega)).trans (h8 i hi)⟩⟩
      clear r6 b6 z6 HK HOK
      go_wp2
      go_roundg g'
      case measure => omega
      case rel => exact ⟨t + 1, n + 1, gb, L, cc, _, by omega, by go_num, by go_num, rfl, hL, HO⟩
     ·have HGE : Shh (decide ((x : Int) < 8380417) = false) := ⟨decide_eq_false (by omega)⟩
      have hno : val t = none := by rw [HV.out, if_neg hx]
      have HO : Shh (StV val (t + 1) (n) f ∧ Row U N 25 (dc fun _ => 0) ∧ Row U G 25 (dc f) ∧ Below N w U ∧ N < G ∧ G < gb ∧ gb < U.heap.size ∧ ∀ i, i < L → U.cell? ⟨gb, i, none⟩ = some (.int .u8 (bb i : Int))) := ⟨⟨HK.out.1.skip hno, HK.out.2⟩⟩
      clear hx hno HK
      go_wp2_with (refine wl_at 57 rfl (.bool false) rfl (lss_d false HGE.out rfl rfl rfl) ?_)
      go_roundg g'
      case measure => omega
      case rel => exact ⟨t + 1, n, gb, L, cc, f, by omega, by go_num, rfl, rfl, hL, HO⟩
    ·have hgt2 : (L : Int) < (s3 : Int) := by omega
     have C2 : Shh (Calls Tryd.prog 20 #[.int .i64 128, .int .i64 3072, .slice A ln c] wr (GotIs wr bb 3072)) := ⟨HC.out 3072 (by decide) (by decide) wr HI.out.2.2.2.1 (Nat.le_of_lt HI.out.2.1.lt)⟩
     go_wp2_with (first | refine wl_at 24 rfl (.int .i64 (s0 : Int)) rfl (mul_n (i := 3) (j := (t : Int)) Hs0.out.1 rfl rfl rfl) ?_ | refine wl_at 25 rfl (.int .i64 (s3 : Int)) rfl (add_n (i := (s0 : Int)) (j := 3) Hs3.out rfl rfl rfl) ?_ | (go_at_call 20; refine (C2.out).mono ?_))
     rintro e w4 ⟨gb2, cc2, rfl, hq1, hq2, hq3, b4⟩
     have HI2 : Shh (StV val (t) (n) f ∧ Row w4 N 25 (dc fun _ => 0) ∧ Row w4 G 25 (dc f) ∧ Below N w w4 ∧ N < G ∧ G < gb2 ∧ gb2 < w4.heap.size ∧ ∀ i, i < 3072 → w4.cell? ⟨gb2, i, none⟩ = some (.int .u8 (bb i : Int))) := by
      obtain ⟨h1, h2, h3, h4, h5, h6, h7, h8⟩ := HI.out
      exact ⟨⟨h1, h2.go b4, h3.go b4, h4.trans (b4.mono (Nat.le_of_lt h2.lt)), h5, Nat.lt_of_lt_of_le h3.lt hq1, hq2, hq3⟩⟩
     have hgt3 : s3 ≤ 3072 := by have := Hs0.out; have := Hs3.out; omega
     clear hq1 hq2 hq3 b4 HI C2 hgt hgt2 hL
     have HI := HI2
     clear HI2
     obtain ⟨s1, Hs1⟩ : ∃ s : Nat, Shh ((s : Int) = (s0 : Int) + 1 ∧ -9223372036854775808 ≤ (s : Int) ∧ (s : Int) ≤ 9223372036854775807) := ⟨s0 + 1, ⟨by have := Hs0.out; omega⟩⟩
     obtain ⟨s2, Hs2⟩ : ∃ s : Nat, Shh ((s : Int) = (s0 : Int) + 2 ∧ -9223372036854775808 ≤ (s : Int) ∧ (s : Int) ≤ 9223372036854775807) := ⟨s0 + 2, ⟨by have := Hs0.out; omega⟩⟩
     have HLS : Shh (s0 < 3072 ∧ s1 < 3072 ∧ s2 < 3072) := ⟨by have := Hs3.out; have := Hs1.out; have := Hs2.out; omega⟩
     have hxx := HX.out t
     have c0 := HI.out.2.2.2.2.2.2.2 s0 HLS.out.1
     have c1 := HI.out.2.2.2.2.2.2.2 s1 HLS.out.2.1
     have c2 := HI.out.2.2.2.2.2.2.2 s2 HLS.out.2.2
     unfold grpU at hxx
     rw [show 3 * t + 2 = s2 by have := Hs0.out; have := Hs2.out; omega, show 3 * t + 1 = s1 by have := Hs0.out; have := Hs1.out; omega, show 3 * t = s0 by have := Hs0.out; omega] at hxx
     have l0 := HB8.out s0
     have l1 := HB8.out s1
     have l2 := HB8.out s2
     generalize bb s0 = a0 at *
     generalize bb s1 = a1 at *
     generalize bb s2 = a2 at *
     have HC0 : Shh (w4.cell? ⟨gb2, s0, none⟩ = some (.int .u8 (a0 : Int)) ∧ w4.cell? ⟨gb2, s1, none⟩ = some (.int .u8 (a1 : Int)) ∧ w4.cell? ⟨gb2, s2, none⟩ = some (.int .u8 (a2 : Int))) := ⟨c0, c1, c2⟩
     have HA3 : Shh (a0 < 256 ∧ a1 < 256 ∧ a2 < 256) := ⟨l0, l1, l2⟩
     clear c0 c1 c2 l0 l1 l2
     obtain ⟨m2, Hm2⟩ : ∃ b, Shh (b = a2 % 128) := ⟨_, ⟨rfl⟩⟩
     have HM2 : Shh (m2 < 256) := ⟨by have := Hm2.out; omega⟩
     obtain ⟨b1, Hb1⟩ : ∃ b : Nat, Shh ((b : Int) = 256 * (a1 : Int) ∧ -2147483648 ≤ (b : Int) ∧ (b : Int) ≤ 2147483647) := ⟨256 * a1, ⟨by have := HA3.out; omega⟩⟩
     obtain ⟨b3, Hb3⟩ : ∃ b : Nat, Shh ((b : Int) = 65536 * (m2 : Int) ∧ -2147483648 ≤ (b : Int) ∧ (b : Int) ≤ 2147483647) := ⟨65536 * m2, ⟨by have := HM2.out; omega⟩⟩
     obtain ⟨b2, Hb2⟩ : ∃ b : Nat, Shh ((b : Int) = (a0 : Int) + (b1 : Int) ∧ -2147483648 ≤ (b : Int) ∧ (b : Int) ≤ 2147483647) := ⟨a0 + b1, ⟨by have := HA3.out; have := Hb1.out; omega⟩⟩
     obtain ⟨x, Hx⟩ : ∃ b : Nat, Shh ((b : Int) = (b2 : Int) + (b3 : Int) ∧ -2147483648 ≤ (b : Int) ∧ (b : Int) ≤ 2147483647) := ⟨b2 + b3, ⟨by have := HA3.out; have := Hb1.out; have := Hb2.out; have := Hb3.out; have := HM2.out; omega⟩⟩
     rw [show a0 + 256 * a1 + 65536 * (a2 % 128) = x by have := Hb1.out.1; have := Hb2.out.1; have := Hb3.out.1; have := Hm2.out; have := Hx.out.1; omega] at hxx
     have HV := Shh.mk hxx
     clear hxx
     go_wp2
     have HK : Shh (StV val (t) (n) f ∧ Row w4.drew N 25 (dc fun _ => 0) ∧ Row w4.drew G 25 (dc f) ∧ Below N w w4.drew ∧ N < G ∧ G < gb2 ∧ gb2 < w4.drew.heap.size ∧ ∀ i, i < 3072 → w4.drew.cell? ⟨gb2, i, none⟩ = some (.int .u8 (bb i : Int))) := by
      obtain ⟨h1, h2, h3, h4, h5, h6, h7, h8⟩ := HI.out
      exact ⟨⟨h1, h2.drew, h3.drew, h4.drew, h5, h6, h7, h8⟩⟩
     clear HI
     refine wp_region_held_drew (S := fun W => W.cell? ⟨gb2, s0, none⟩ = some (.int .u8 (a0 : Int)) ∧ W.cell? ⟨gb2, s1, none⟩ = some (.int .u8 (a1 : Int)) ∧ W.cell? ⟨gb2, s2, none⟩ = some (.int .u8 (a2 : Int))) (by kernel_rfl) HC0.out (fun hS => ?_)
     clear HC0
     obtain ⟨U, hU⟩ : ∃ V, V = World.drew w4 := ⟨_, rfl⟩
     rw [← hU] at HK hS ⊢
     clear hU
     refine hdv0 0 31 (.slice (some ⟨gb2, 0, none⟩) 3072 cc2) (by rfl) (hS) ?_
     refine hdv0 1 32 (.int .i64 (t : Int)) (by rfl) (hS) ?_
     refine hdv 2 33 (.int .i64 (s0 : Int)) (by rfl) (fun w hS => mul_n (i := 3) (j := (t : Int)) Hs0.out.1 rfl (by kernel_rfl) (by kernel_rfl)) (hS) ?_
     refine hdv 3 34 (.pointer (some ⟨gb2, s0, none⟩)) (by rfl) (fun w hS => at_u8z (k := s0) (n := 3072) (c := cc2) HLS.out.1 rfl (by kernel_rfl) (by kernel_rfl)) (hS) ?_
     refine hdv 4 35 (.int .u8 (a0 : Int)) (by rfl) (fun w hS => load_u8s (n := a0) rfl hS.1 (by kernel_rfl)) (hS) ?_
     refine hdv 5 36 (.int .i32 (a0 : Int)) (by rfl) (fun w hS => conv_8d (n := a0) HA3.out.1 rfl (by kernel_rfl)) (hS) ?_
     refine hdv0 6 37 (.slice (some ⟨gb2, 0, none⟩) 3072 cc2) (by rfl) (hS) ?_
     refine hdv0 7 38 (.int .i64 (t : Int)) (by rfl) (hS) ?_
     refine hdv 8 39 (.int .i64 (s0 : Int)) (by rfl) (fun w hS => mul_n (i := 3) (j := (t : Int)) Hs0.out.1 rfl (by kernel_rfl) (by kernel_rfl)) (hS) ?_
     refine hdv 9 40 (.int .i64 (s1 : Int)) (by rfl) (fun w hS => add_n (i := (s0 : Int)) (j := 1) Hs1.out rfl (by kernel_rfl) (by kernel_rfl)) (hS) ?_
     refine hdv 10 41 (.pointer (some ⟨gb2, s1, none⟩)) (by rfl) (fun w hS => at_u8z (k := s1) (n := 3072) (c := cc2) HLS.out.2.1 rfl (by kernel_rfl) (by kernel_rfl)) (hS) ?_
     refine hdv 11 42 (.int .u8 (a1 : Int)) (by rfl) (fun w hS => load_u8s (n := a1) rfl hS.2.1 (by kernel_rfl)) (hS) ?_
     refine hdv 12 43 (.int .i32 (a1 : Int)) (by rfl) (fun w hS => conv_8d (n := a1) HA3.out.2.1 rfl (by kernel_rfl)) (hS) ?_
     refine hdv 13 44 (.int .i32 (b1 : Int)) (by rfl) (fun w hS => mul_d (i := 256) (j := (a1 : Int)) Hb1.out rfl (by kernel_rfl) (by kernel_rfl)) (hS) ?_
     refine hdv 14 45 (.int .i32 (b2 : Int)) (by rfl) (fun w hS => add_d (i := (a0 : Int)) (j := (b1 : Int)) Hb2.out rfl (by kernel_rfl) (by kernel_rfl)) (hS) ?_
     refine hdv0 15 46 (.slice (some ⟨gb2, 0, none⟩) 3072 cc2) (by rfl) (hS) ?_
     refine hdv0 16 47 (.int .i64 (t : Int)) (by rfl) (hS) ?_
     refine hdv 17 48 (.int .i64 (s0 : Int)) (by rfl) (fun w hS => mul_n (i := 3) (j := (t : Int)) Hs0.out.1 rfl (by kernel_rfl) (by kernel_rfl)) (hS) ?_
     refine hdv 18 49 (.int .i64 (s2 : Int)) (by rfl) (fun w hS => add_n (i := (s0 : Int)) (j := 2) Hs2.out rfl (by kernel_rfl) (by kernel_rfl)) (hS) ?_
     refine hdv 19 50 (.pointer (some ⟨gb2, s2, none⟩)) (by rfl) (fun w hS => at_u8z (k := s2) (n := 3072) (c := cc2) HLS.out.2.2 rfl (by kernel_rfl) (by kernel_rfl)) (hS) ?_
     refine hdv 20 51 (.int .u8 (a2 : Int)) (by rfl) (fun w hS => load_u8s (n := a2) rfl hS.2.2 (by kernel_rfl)) (hS) ?_
     refine hdv 21 52 (.int .u8 (m2 : Int)) (by rfl) (fun w hS => rem_128 (n := a2) Hm2.out HA3.out.2.2 rfl (by kernel_rfl)) (hS) ?_
     refine hdv 22 53 (.int .i32 (m2 : Int)) (by rfl) (fun w hS => conv_8d (n := m2) HM2.out rfl (by kernel_rfl)) (hS) ?_
     refine hdv 23 54 (.int .i32 (b3 : Int)) (by rfl) (fun w hS => mul_d (i := 65536) (j := (m2 : Int)) Hb3.out rfl (by kernel_rfl) (by kernel_rfl)) (hS) ?_
     refine hdv 24 55 (.int .i32 (x : Int)) (by rfl) (fun w hS => add_d (i := (b2 : Int)) (j := (b3 : Int)) Hx.out rfl (by kernel_rfl) (by kernel_rfl)) (hS) ?_
     refine hdv0 25 8 (.int .i32 (x : Int)) (by rfl) (hS) ?_
     refine wpAnyH_done (by kernel_rfl) ?_ _
     clear hS Hm2 Hb1 Hb2 Hb3 Hx HM2 HA3 HLS Hs1 Hs2 Hs3 Hs0
     by_cases hx : x < 8380417
     ·have HGE : Shh (decide ((x : Int) < 8380417) = true) := ⟨decide_eq_true (by omega)⟩
      have hok2 : val t = some (x : Int) := by rw [HV.out, if_pos hx]
      have HOK := Shh.mk (HK.out.1.take hok2 hn)
      clear hx hok2
      go_wp2_with (first | refine wl_at 57 rfl (.bool true) rfl (lss_d true HGE.out rfl rfl rfl) ?_ | refine wl_at 60 rfl (.pointer (some ⟨G, n, none⟩)) rfl (at_dD hn rfl rfl rfl) ?_ | refine wl_storeD rfl hn rfl rfl rfl HK.out.2.2.1 ?_)
      intro w6 r6 b6 z6
      have HO : Shh (StV val (t + 1) (n + 1) (dup f n x) ∧ Row w6 N 25 (dc fun _ => 0) ∧ Row w6 G 25 (dc (dup f n x)) ∧ Below N w w6 ∧ N < G ∧ G < gb2 ∧ gb2 < w6.heap.size ∧ ∀ i, i < 3072 → w6.cell? ⟨gb2, i, none⟩ = some (.int .u8 (bb i : Int))) := by
       obtain ⟨h1, h2, h3, h4, h5, h6, h7, h8⟩ := HK.out
       exact ⟨⟨HOK.out, b6.row h2 h2.lt (by omega), r6, h4.trans (b6.under (Nat.le_of_lt h2.lt) (Nat.le_of_lt h5)), h5, h6, Nat.lt_of_lt_of_le h7 b6.size, fun i hi => (b6.cell (p := ⟨gb2, i, none⟩) h7 (show gb2 ≠ G by omega)).trans (h8 i hi)⟩⟩
      clear r6 b6 z6 HK HOK
      go_wp2
      go_roundg g'
      case measure => omega
      case rel => exact ⟨t + 1, n + 1, gb2, 3072, cc2, _, by omega, by go_num, by go_num, rfl, by decide, HO⟩
     ·have HGE : Shh (decide ((x : Int) < 8380417) = false) := ⟨decide_eq_false (by omega)⟩
      have hno : val t = none := by rw [HV.out, if_neg hx]
      have HO : Shh (StV val (t + 1) (n) f ∧ Row U N 25 (dc fun _ => 0) ∧ Row U G 25 (dc f) ∧ Below N w U ∧ N < G ∧ G < gb2 ∧ gb2 < U.heap.size ∧ ∀ i, i < 3072 → U.cell? ⟨gb2, i, none⟩ = some (.int .u8 (bb i : Int))) := ⟨⟨HK.out.1.skip hno, HK.out.2⟩⟩
      clear hx hno HK
      go_wp2_with (refine wl_at 57 rfl (.bool false) rfl (lss_d false HGE.out rfl rfl rfl) ?_)
      go_roundg g'
      case measure => omega
      case rel => exact ⟨t + 1, n, gb2, 3072, cc2, f, by omega, by go_num, rfl, rfl, by decide, HO⟩
  ·have hn2 : ¬ (n : Int) < 256 := by omega
   have hst := HI.out.1
   rw [show n = 256 by omega] at hst
   obtain ⟨rfl, rfl⟩ := HF.out.2 t f (by omega) hst
   clear hst HF HX HB8 HC
   by_cases ht0 : t < 1024
   ·have ht : (t : Int) < 1024 := by omega
    go_wp2_with (first | refine wpList_load_any rfl 25 (.tmp 4) rfl G rfl 25 (dc FF) (.array 256 21) HI.out.2.2.1 Tryd.underlying25 rfl (info_dD.trans (size_dc _)) ?_ | refine wpList_store_any rfl 25 (.tmp 2) (.tmp 66) rfl N rfl (dc FF) rfl 25 _ HI.out.2.1 (info_dD.trans (size_dc _)) (same_dc _ _) (dc_one _) ?_)
    intro w9 hr9 b9 _
    have hb9 : Below N w w9 := HI.out.2.2.2.1.trans (b9.under (Nat.le_of_lt HI.out.2.1.lt) (Nat.le_refl _))
    go_wp2
    exact ret_row_slotS Tryd.results7 rfl rfl rfl hr9 Tryd.underlying25 rfl (info_dD.trans (size_dc _)) ⟨rfl, hb9⟩
   ·have ht : ¬ (t : Int) < 1024 := by omega
    go_wp2_with (first | refine wpList_load_any rfl 25 (.tmp 4) rfl G rfl 25 (dc FF) (.array 256 21) HI.out.2.2.1 Tryd.underlying25 rfl (info_dD.trans (size_dc _)) ?_ | refine wpList_store_any rfl 25 (.tmp 2) (.tmp 66) rfl N rfl (dc FF) rfl 25 _ HI.out.2.1 (info_dD.trans (size_dc _)) (same_dc _ _) (dc_one _) ?_)
    intro w9 hr9 b9 _
    have hb9 : Below N w w9 := HI.out.2.2.2.1.trans (b9.under (Nat.le_of_lt HI.out.2.1.lt) (Nat.le_refl _))
    go_wp2
    exact ret_row_slotS Tryd.results7 rfl rfl rfl hr9 Tryd.underlying25 rfl (info_dD.trans (size_dc _)) ⟨rfl, hb9⟩
end Go.Proofs.YtapjiknedghhfaaDoor

/-
 THE DOCUMENT'S OWN Ball.
-/
namespace Go.Proofs.YtapjiknedghhfaaDoor
open Go.RowKit
set_option maxRecDepth 100000
theorem sign_bit (bs : List UInt8) (n : Nat) (h : n / 8 < bs.length) : (litN bs).testBit n = decide (nb bs (n / 8) / 2 ^ (n % 8) % 2 = 1) := by
 have h1 := litN_byte bs (n / 8) h
 have h2 : (litN bs).testBit n = (litN bs / 256 ^ (n / 8)).testBit (n % 8) := by
  rw [show 256 ^ (n / 8) = 2 ^ (8 * (n / 8)) by rw [Nat.pow_mul], testBit_div, show 8 * (n / 8) + n % 8 = n by omega]
 have h3 : (litN bs / 256 ^ (n / 8) % 2 ^ 8).testBit (n % 8) = (litN bs / 256 ^ (n / 8)).testBit (n % 8) := by
  rw [Nat.testBit_mod_two_pow, decide_eq_true (show n % 8 < 8 by omega), Bool.true_and]
 rw [h2, ← h3, show (2 ^ 8 : Nat) = 256 from rfl, h1, nb_get bs h, Nat.testBit_eq_decide_div_mod_eq]
theorem nb_take (L : List UInt8) (n i : Nat) (h : i < n) : nb (L.take n) i = nb L i := by
 unfold nb
 rw [List.getD_eq_getElem?_getD, List.getD_eq_getElem?_getD, List.getElem?_take_of_lt h]
theorem dup_twice (f : Nat → Int) (j : Nat) (a b : Int) : dup (dup f j a) j b = dup f j b := by
 funext i
 unfold dup
 split <;> rfl
set_option maxHeartbeats 8000000 in
theorem refBall_any (tau : Nat) (htau : 1 ≤ tau ∧ tau ≤ 64) (B : Nat) (v : Value) (m : List UInt8) (hml : m.length ≤ 1000000) (w : World) (hs : Sl w B v m) (hB : B ≤ w.heap.size) : Calls Tryd.prog 13 #[.int .i64 (tau : Int), v] w (CdIs w (ballF tau (sgnS (nsB 136 m 1032)) (behB m)) (ballE tau (sgnS (nsB 136 m 1032)) (behB m))) := by
 unfold CdIs
 have t1 : ¬ (tau : Int) < 1 := by omega
 have t2 : ¬ (64 : Int) < (tau : Int) := by omega
 generalize hN : w.heap.size = N at *
 obtain ⟨sg, hsg⟩ : ∃ s, s = sgnS (nsB 136 m 1032) := ⟨_, rfl⟩
 obtain ⟨bb, hbb⟩ : ∃ b, b = behB m := ⟨_, rfl⟩
 obtain ⟨cb, hcb⟩ : ∃ b, b = nsB 136 m 1032 := ⟨_, rfl⟩
 have HCB : Shh ((∀ p, bb p = cb (8 + p)) ∧ ∀ i, cb i < 256) := ⟨fun p => by rw [hbb, hcb]; rfl, fun i => by rw [hcb]; exact nb_lt _ _⟩
 obtain ⟨FF, hFF⟩ : ∃ F, F = ballF tau sg bb := ⟨_, rfl⟩
 obtain ⟨ee, hee⟩ : ∃ F, F = ballE tau sg bb := ⟨_, rfl⟩
 have HF : Shh ((∀ n f, StB tau sg bb 1024 n f → n < tau → ee = 130 ∧ FF = fun _ => 0) ∧ ∀ k f, k ≤ 1024 → StB tau sg bb k tau f → ee = 0 ∧ FF = f) := ⟨by
  rw [hFF, hee]
  exact ⟨fun n f h hn => h.short hn, fun k f hk h => h.whole hk⟩⟩
 rw [← hsg, ← hbb, ← hFF, ← hee]
 clear hFF hee
 obtain ⟨L, hL⟩ : ∃ L, L = spongeL 136 31 m 1032 := ⟨_, rfl⟩
 have hln : L.length = 1032 := by rw [hL]; exact Sp.outs_length _ _ _
 obtain ⟨sb, hsb⟩ : ∃ s : Nat → Bool, s = (litN (L.take 8)).testBit := ⟨_, rfl⟩
 have HSB : Shh (∀ n, n < 64 → sg n = if sb n = true then 8380416 else 1) := ⟨fun n hn => by
  rw [hsb, sign_bit (L.take 8) n (by rw [List.length_take]; omega), nb_take L 8 (n / 8) (by omega), hsg, hL]
  unfold sgnS nsB
  simp only [decide_eq_true_eq]⟩
 obtain ⟨A, c, rfl, _, _⟩ := hs.form
 have HC : Shh (∀ W, Below N w W → N ≤ W.heap.size → Calls Tryd.prog 20 #[.int .i64 256, .int .i64 1032, .slice A m.length c] W (OwnIs W L)) := ⟨fun W hb hW => by rw [hL]; exact refShake256_any 1032 (by decide) B _ m W (hs.below (hb.mono hB)) (by omega) hml⟩
 have HNB : Shh (∀ i, nb L i = cb i) := ⟨fun i => by rw [hL, hcb]; rfl⟩
 have HBI : Shh (∀ W v', Sl W W.heap.size v' (L.take 8) → Calls Tryd.prog 29 #[v'] W (OwnB W (bitN (litN (L.take 8)) 64))) := ⟨fun W v' h => by
  have h1 : (L.take 8).length = 8 := by rw [List.length_take]; omega
  rw [show (64 : Nat) = 8 * (L.take 8).length by omega, ← bitsL_bitN]
  exact refBits_any W.heap.size v' (L.take 8) W h (Nat.le_refl _) (by omega)⟩
 have HD : Shh ((1 ≤ tau ∧ tau ≤ 64) ∧ StB tau sg bb 0 0 (fun _ => 0) ∧ w.heap.size = N) := ⟨htau, StB.start tau sg bb, hN⟩
 have HLL := Shh.mk hln
 have HSE := Shh.mk hsb
 clear hs hB hbb hcb hsg hN htau hL hml hln hsb
 generalize m.length = ln at *
 go_enter Tryd.func13, Tryd.ntmps13
 go_wp2_with (refine wl_newzD 4 rfl rfl rfl ?_)
 intro N1 w2 hN1 r2 b2
 try simp only [Act.put, arr9, hd9, tl9]
 obtain rfl : N = N1 := HD.out.2.2.symm.trans hN1.out.symm
 have HI : Shh (Row w2 N 25 (dc fun _ => 0) ∧ Below N w w2 ∧ N < w2.heap.size) := by
  rw [HD.out.2.2] at b2
  exact ⟨r2, b2, r2.lt⟩
 clear r2 b2 hN1
 go_wp2_with (go_at_call 20; refine (HC.out _ HI.out.2.1 (Nat.le_of_lt HI.out.2.2)).mono ?_)
 rintro e w3 ⟨v1, rfl, hg⟩
 have hs1 := gives_sl hg
 obtain ⟨gb, cc, rfl, hq1, hq2, hq3, b3⟩ := shake_cells hg (by rw [HLL.out]; decide)
 rw [HLL.out] at hs1 hq3 ⊢
 have HJ : Shh (Row w3 N 25 (dc fun _ => 0) ∧ Below N w w3 ∧ N < w3.heap.size ∧ gb < w3.heap.size ∧ (∀ i, i < 1032 → w3.cell? ⟨gb, i, none⟩ = some (.int .u8 (cb i : Int))) ∧ Sl w3 w3.heap.size (.slice (some ⟨gb, 0, none⟩) 1032 cc) L) := by
  have h1 := HI.out.1.go b3
  exact ⟨⟨h1, HI.out.2.1.trans (b3.mono (Nat.le_of_lt HI.out.2.2)), h1.lt, hq2, fun i hi => by rw [hq3 i hi, HNB.out], hs1⟩⟩
 clear hg hs1 hq1 hq2 hq3 b3 HI HC
 go_wp2_with (refine wpList_slice_to rfl (.tmp 21) (.const (.int .i64 8)) rfl w3.heap.size _ rfl L HJ.out.2.2.2.2.2 8 rfl (by rw [HLL.out]; decide) ?_)
 intro v' hsl _
 have HSL := Shh.mk hsl
 clear hsl
 go_wp2_with (go_at_call 29; refine (HBI.out _ _ HSL.out).mono ?_)
 rintro e w4 ⟨vb, rfl, ho, hb⟩
 have hslb : Slb w4 w4.heap.size vb (bitN (litN (L.take 8)) 64) := Slb.of_own ho
 obtain ⟨A2, c2, rfl, _, _⟩ := hslb.form
 obtain ⟨gs, off, rfl, hgs, hcc⟩ := hslb.at_ (by rw [bitN_length]; decide)
 have HI : Shh (Row w4 N 25 (dc fun _ => 0) ∧ Below N w w4 ∧ N < w4.heap.size ∧ gb < w4.heap.size ∧ gs < w4.heap.size ∧ (∀ i, i < 1032 → w4.cell? ⟨gb, i, none⟩ = some (.int .u8 (cb i : Int))) ∧ ∀ i, i < 64 → w4.cell? ⟨gs, off + i, none⟩ = some (.bool (sb i))) := by
  obtain ⟨h1, h2, h3, h4, h5, h6⟩ := HJ.out
  have h7 := h1.go hb
  exact ⟨⟨h7, h2.trans (hb.mono (Nat.le_of_lt h3)), h7.lt, Nat.lt_of_lt_of_le h4 hb.size, hgs, fun i hi => (hb.cell (p := ⟨gb, i, none⟩) h4).trans (h5 i hi), fun i hi => by rw [hcc i (by rw [bitN_length]; exact hi), bitN_get, HSE.out]⟩⟩
 clear hslb ho hb hcc hgs HBI HJ HSL HSE
 rw [bitN_length]
 go_wp2_with (refine wl_newzD 8 rfl rfl rfl ?_)
 intro G w5 hG r5 b5
 try simp only [Act.put, arr9, hd9, tl9]
 have HK : Shh (StB tau sg bb (0) (0) (fun _ => 0 : Nat → Int) ∧ Row w5 N 25 (dc fun _ => 0) ∧ Row w5 G 25 (dc (fun _ => 0 : Nat → Int)) ∧ Below N w w5 ∧ N < G ∧ gb < G ∧ gs < G ∧ (∀ i, i < 1032 → w5.cell? ⟨gb, i, none⟩ = some (.int .u8 (cb i : Int))) ∧ ∀ i, i < 64 → w5.cell? ⟨gs, off + i, none⟩ = some (.bool (sb i))) := by
  obtain ⟨h1, h2, h3, h4, h5, h6, h7⟩ := HI.out
  exact ⟨⟨HD.out.2.1, h1.go b5, r5, h2.trans (b5.mono (Nat.le_of_lt h3)), by rw [hG.out]; exact h3, by rw [hG.out]; exact h4, by rw [hG.out]; exact h5, fun i hi => (b5.cell (p := ⟨gb, i, none⟩) h4).trans (h6 i hi), fun i hi => (b5.cell (p := ⟨gs, off + i, none⟩) h5).trans (h7 i hi)⟩⟩
 clear r5 b5 hG HI
 obtain ⟨i0, Hi0⟩ : ∃ x : Nat, Shh (((x : Int) = 256 - (tau : Int) ∧ -9223372036854775808 ≤ (x : Int) ∧ (x : Int) ≤ 9223372036854775807) ∧ x = 256 - tau) := ⟨256 - tau, ⟨by have := HD.out.1; omega⟩⟩
 go_wp2_with (refine wl_at 25 rfl (.int .i64 (i0 : Int)) rfl (sub_n Hi0.out.1 rfl rfl rfl) ?_)
 go_loopg [9, 10] tau (fun gk s9 s10 wr => ∃ (p n a i : Nat) (f : Nat → Int), n + gk = tau ∧ s10 = .int .i64 (i : Int) ∧ s9 = .int .i64 (a : Int) ∧ p ≤ 1024 ∧ Shh (i = 256 - tau + n ∧ a = 8 + p) ∧ Shh (StB tau sg bb (p) (n) f ∧ Row wr N 25 (dc fun _ => 0) ∧ Row wr G 25 (dc f) ∧ Below N w wr ∧ N < G ∧ gb < G ∧ gs < G ∧ (∀ i, i < 1032 → wr.cell? ⟨gb, i, none⟩ = some (.int .u8 (cb i : Int))) ∧ ∀ i, i < 64 → wr.cell? ⟨gs, off + i, none⟩ = some (.bool (sb i))))
 case atStart => exact ⟨0, 0, 8, i0, fun _ => 0, Nat.zero_add _, rfl, rfl, Nat.zero_le _, ⟨Hi0.out.2, rfl⟩, HK⟩
 case round =>
  clear HK
  obtain ⟨p, n, a, i, f, hnk, rfl, rfl, hp, HE, HI⟩ := hrel
  cases gk with
  | zero =>
   have hi2 : ¬ (i : Int) < 256 := by have := HE.out; have := HD.out.1; omega
   have hst := HI.out.1
   rw [show n = tau by omega] at hst
   obtain ⟨rfl, rfl⟩ := HF.out.2 p f hp hst
   clear hst HF HCB HSB
   go_wp2_with (first | refine wpList_load_any rfl 25 (.tmp 8) rfl G rfl 25 (dc FF) (.array 256 21) HI.out.2.2.1 Tryd.underlying25 rfl (info_dD.trans (size_dc _)) ?_ | refine wpList_store_any rfl 25 (.tmp 4) (.tmp 73) rfl N rfl (dc FF) rfl 25 _ HI.out.2.1 (info_dD.trans (size_dc _)) (same_dc _ _) (dc_one _) ?_)
   intro w9 hr9 b9 _
   have hb9 : Below N w w9 := HI.out.2.2.2.1.trans (b9.under (Nat.le_of_lt HI.out.2.1.lt) (Nat.le_refl _))
   go_wp2
   exact ret_row_slotS Tryd.results13 rfl rfl rfl hr9 Tryd.underlying25 rfl (info_dD.trans (size_dc _)) ⟨rfl, hb9⟩
  | succ g' =>
   have hn : n < tau := by omega
   have hi2 : (i : Int) < 256 := by have := HE.out; have := HD.out.1; omega
   have hi3 : i < 256 := by omega
   go_wp2
   go_loopw [9] (fun s9 wq => ∃ p2 a2 : Nat, p2 ≤ 1024 ∧ s9 = .int .i64 (a2 : Int) ∧ Shh (a2 = 8 + p2) ∧ Shh (StB tau sg bb p2 n f) ∧ wq = wr) (fun s9 _ => 2000 - (intOf s9).toNat)
   case atStart => exact ⟨p, a, hp, rfl, ⟨HE.out.2⟩, ⟨HI.out.1⟩, rfl⟩
   case round =>
    obtain ⟨p2, a2, hp2, rfl, HA2, HST, hw⟩ := hrel
    subst hw
    obtain ⟨a, haa⟩ : ∃ x, x = a2 := ⟨_, rfl⟩
    rw [← haa] at HA2 ⊢
    clear haa
    have ha9 : (a : Int) ≤ 1032 := by have := HA2.out; omega
    by_cases hend : p2 < 1024
    ·have HLT : Shh (decide ((a : Int) < 1032) = true) := ⟨decide_eq_true (by have := HA2.out; omega)⟩
     have HAL : Shh (a < 1032) := ⟨by have := HA2.out; omega⟩
     have hcx := HI.out.2.2.2.2.2.2.2.1 a HAL.out
     have hxl := HCB.out.2 a
     have hbx := HCB.out.1 p2
     rw [← HA2.out] at hbx
     generalize cb a = x at *
     have HCX := Shh.mk hcx
     have HXL := Shh.mk hxl
     have HBX := Shh.mk hbx
     clear hcx hbx hxl
     by_cases hx : x ≤ i
     ·have HGT : Shh (decide ((i : Int) < (x : Int)) = false) := ⟨decide_eq_false (by omega)⟩
      have hst := HST.out.take hn (by rw [HBX.out, ← HE.out.1]; exact hx)
      rw [HBX.out, ← HE.out.1] at hst
      have hx256 : x < 256 := HXL.out
      have cj := (HI.out.2.2.1.cell x).trans (dc_get f hx256)
      have HCJ := Shh.mk cj
      have hsbn := HI.out.2.2.2.2.2.2.2.2 n (by have := HD.out.1; omega)
      have HSN := Shh.mk (HSB.out n (by have := HD.out.1; omega))
      have HTK := Shh.mk hst
      generalize hfj : f x = fj at *
      have HFJ := Shh.mk hfj
      clear hfj cj hst hx
      obtain ⟨a9, Ha9⟩ : ∃ a9 : Nat, Shh ((a9 : Int) = (a : Int) + 1 ∧ -9223372036854775808 ≤ (a9 : Int) ∧ (a9 : Int) ≤ 9223372036854775807) := ⟨a + 1, ⟨by omega⟩⟩
      obtain ⟨z1, Hz1⟩ : ∃ z1 : Nat, Shh ((z1 : Int) = (i : Int) + (tau : Int) ∧ -9223372036854775808 ≤ (z1 : Int) ∧ (z1 : Int) ≤ 9223372036854775807) := ⟨i + tau, ⟨by have := HD.out.1; omega⟩⟩
      obtain ⟨z2, Hz2, hz2⟩ : ∃ z2 : Nat, Shh ((z2 : Int) = (z1 : Int) - 256 ∧ -9223372036854775808 ≤ (z2 : Int) ∧ (z2 : Int) ≤ 9223372036854775807) ∧ z2 = n := ⟨n, ⟨by have := Hz1.out; have := HE.out; have := HD.out.1; omega⟩, rfl⟩
      subst hz2
      have hz64 : (z2 : Int) < 64 := by have := HD.out.1; omega
      have HNE : Shh (((a : Int) == 1032) = false) := ⟨by have := HAL.out; simp; omega⟩
      go_wp2_with (first | refine wl_at 33 rfl (.bool true) rfl (lss_n true HLT.out rfl rfl rfl) ?_ | refine wl_atW 37 rfl (.pointer (some ⟨gb, a, none⟩)) (by kernel_rfl) (at_u8z HAL.out rfl rfl rfl) ?_ | refine wl_atW 38 rfl (.int .u8 (x : Int)) (by kernel_rfl) (load_u8s rfl HCX.out rfl) ?_ | refine wl_atW 39 rfl (.int .i64 (x : Int)) (by kernel_rfl) (conv_8n HXL.out rfl rfl) ?_ | refine wl_atW 41 rfl (.bool false) (by kernel_rfl) (gtr_n false HGT.out rfl rfl rfl) ?_ | refine wl_at 48 rfl (.bool false) rfl (eql_n false HNE.out rfl rfl rfl) ?_ | refine wl_at 52 rfl (.pointer (some ⟨gb, a, none⟩)) rfl (at_u8z HAL.out rfl rfl rfl) ?_ | refine wl_at 53 rfl (.int .u8 (x : Int)) rfl (load_u8s rfl HCX.out rfl) ?_ | refine wl_at 54 rfl (.int .i64 (x : Int)) rfl (conv_8n HXL.out rfl rfl) ?_ | refine wl_at 56 rfl (.int .i64 (a9 : Int)) rfl (add_n Ha9.out rfl rfl rfl) ?_ | refine wl_at 59 rfl (.pointer (some ⟨G, x, none⟩)) rfl (at_dD hx256 rfl rfl rfl) ?_ | refine wl_at 60 rfl (.int .i32 fj) rfl (load_d rfl HCJ.out rfl) ?_ | refine wl_at 61 rfl (.pointer (some ⟨G, i, none⟩)) rfl (at_dD hi3 rfl rfl rfl) ?_ | refine wl_storeD rfl hi3 rfl rfl rfl HI.out.2.2.1 ?_)
      intro w6 r6 b6 z6
      go_wp2_with (first | refine wl_at 63 rfl (.pointer (some ⟨G, x, none⟩)) rfl (at_dD hx256 rfl rfl rfl) ?_ | refine wl_storeD rfl hx256 rfl rfl rfl r6 ?_)
      intro w7 r7 b7 z7
      have HM : Shh (Row w7 N 25 (dc fun _ => 0) ∧ Row w7 G 25 (dc (dup (dup f i fj) x 1)) ∧ Below N w w7 ∧ N < G ∧ gb < G ∧ gs < G ∧ (∀ i, i < 1032 → w7.cell? ⟨gb, i, none⟩ = some (.int .u8 (cb i : Int))) ∧ ∀ i, i < 64 → w7.cell? ⟨gs, off + i, none⟩ = some (.bool (sb i))) := by
       obtain ⟨_, h2, h3, h4, h5, h6, h7, h8, h9⟩ := HI.out
       have hg6 : gb < wr.heap.size := by have := h3.lt; omega
       have hs6 : gs < wr.heap.size := by have := h3.lt; omega
       have hn6 := b6.row h2 h2.lt (show N ≠ G by omega)
       have hB := h4.trans (b6.under (Nat.le_of_lt h2.lt) (Nat.le_of_lt h5))
       exact ⟨⟨b7.row hn6 h2.lt (by omega), r7, hB.trans (b7.under (Nat.le_of_lt h2.lt) (Nat.le_of_lt h5)), h5, h6, h7, fun k hk => (b7.cell (p := ⟨gb, k, none⟩) hg6 (show gb ≠ G by omega)).trans ((b6.cell (p := ⟨gb, k, none⟩) (show gb < _ by have := h3.lt; omega) (show gb ≠ G by omega)).trans (h8 k hk)), fun k hk => (b7.cell (p := ⟨gs, off + k, none⟩) hs6 (show gs ≠ G by omega)).trans ((b6.cell (p := ⟨gs, off + k, none⟩) (show gs < _ by have := h3.lt; omega) (show gs ≠ G by omega)).trans (h9 k hk))⟩⟩
      clear r6 b6 z6 r7 b7 z7 HI hsbn HCX HCJ
      have hbit := HM.out.2.2.2.2.2.2.2 z2 (by have := HD.out.1; omega)
      generalize sb z2 = bt at *
      have HBT := Shh.mk hbit
      clear hbit
      cases bt
      ·have hsg : sg z2 = 1 := by rw [HSN.out]; rfl
       have HO : Shh (StB tau sg bb (p2 + 1) (z2 + 1) (dup (dup f i fj) x 1) ∧ Row w7 N 25 (dc fun _ => 0) ∧ Row w7 G 25 (dc (dup (dup f i fj) x 1)) ∧ Below N w w7 ∧ N < G ∧ gb < G ∧ gs < G ∧ (∀ i, i < 1032 → w7.cell? ⟨gb, i, none⟩ = some (.int .u8 (cb i : Int))) ∧ ∀ i, i < 64 → w7.cell? ⟨gs, off + i, none⟩ = some (.bool (sb i))) := by
        have h := HTK.out
        rw [hsg] at h
        exact ⟨⟨h, HM.out⟩⟩
       have hc := HBT.out
       clear HM HTK hsg HBT
       go_wp2_with (first | refine wl_at 67 rfl (.int .i64 (z1 : Int)) rfl (add_n Hz1.out rfl rfl rfl) ?_ | refine wl_at 68 rfl (.int .i64 (z2 : Int)) rfl (sub_n Hz2.out rfl rfl rfl) ?_)
       go_roundg g'
       case measure => omega
       case rel => exact ⟨p2 + 1, z2 + 1, a9, i + 1, _, by omega, by go_num, rfl, by omega, ⟨by have := HE.out; omega, by have := HA2.out; have := Ha9.out; omega⟩, HO⟩
      ·have hsg : sg z2 = 8380416 := by rw [HSN.out]; rfl
       have hc := HBT.out
       clear HBT
       go_wp2_with (first | refine wl_at 67 rfl (.int .i64 (z1 : Int)) rfl (add_n Hz1.out rfl rfl rfl) ?_ | refine wl_at 68 rfl (.int .i64 (z2 : Int)) rfl (sub_n Hz2.out rfl rfl rfl) ?_ | refine wl_at 72 rfl (.pointer (some ⟨G, x, none⟩)) rfl (at_dD hx256 rfl rfl rfl) ?_ | refine wl_storeD rfl hx256 rfl rfl rfl HM.out.2.1 ?_)
       intro w8 r8 b8 z8
       rw [dup_twice] at r8
       have HO : Shh (StB tau sg bb (p2 + 1) (z2 + 1) (dup (dup f i fj) x 8380416) ∧ Row w8 N 25 (dc fun _ => 0) ∧ Row w8 G 25 (dc (dup (dup f i fj) x 8380416)) ∧ Below N w w8 ∧ N < G ∧ gb < G ∧ gs < G ∧ (∀ i, i < 1032 → w8.cell? ⟨gb, i, none⟩ = some (.int .u8 (cb i : Int))) ∧ ∀ i, i < 64 → w8.cell? ⟨gs, off + i, none⟩ = some (.bool (sb i))) := by
        have h := HTK.out
        rw [hsg] at h
        obtain ⟨h2, h3, h4, h5, h6, h7, h8, h9⟩ := HM.out
        exact ⟨⟨h, b8.row h2 h2.lt (by omega), r8, h4.trans (b8.under (Nat.le_of_lt h2.lt) (Nat.le_of_lt h5)), h5, h6, h7, fun k hk => (b8.cell (p := ⟨gb, k, none⟩) (show gb < _ by have := h3.lt; omega) (show gb ≠ G by omega)).trans (h8 k hk), fun k hk => (b8.cell (p := ⟨gs, off + k, none⟩) (show gs < _ by have := h3.lt; omega) (show gs ≠ G by omega)).trans (h9 k hk)⟩⟩
       clear r8 b8 z8 HM HTK hsg
       go_wp2
       go_roundg g'
       case measure => omega
       case rel => exact ⟨p2 + 1, z2 + 1, a9, i + 1, _, by omega, by go_num, rfl, by omega, ⟨by have := HE.out; omega, by have := HA2.out; have := Ha9.out; omega⟩, HO⟩
     ·have HGT : Shh (decide ((i : Int) < (x : Int)) = true) := ⟨decide_eq_true (by omega)⟩
      have HST2 : Shh (StB tau sg bb (p2 + 1) n f) := ⟨HST.out.skip (by rw [HBX.out, ← HE.out.1]; exact hx)⟩
      clear hx HST
      obtain ⟨a9, Ha9⟩ : ∃ a9 : Nat, Shh ((a9 : Int) = (a : Int) + 1 ∧ -9223372036854775808 ≤ (a9 : Int) ∧ (a9 : Int) ≤ 9223372036854775807) := ⟨a + 1, ⟨by omega⟩⟩
      go_wp2_with (first | refine wl_at 33 rfl (.bool true) rfl (lss_n true HLT.out rfl rfl rfl) ?_ | refine wl_atW 37 rfl (.pointer (some ⟨gb, a, none⟩)) (by kernel_rfl) (at_u8z HAL.out rfl rfl rfl) ?_ | refine wl_atW 38 rfl (.int .u8 (x : Int)) (by kernel_rfl) (load_u8s rfl HCX.out rfl) ?_ | refine wl_atW 39 rfl (.int .i64 (x : Int)) (by kernel_rfl) (conv_8n HXL.out rfl rfl) ?_ | refine wl_atW 41 rfl (.bool true) (by kernel_rfl) (gtr_n true HGT.out rfl rfl rfl) ?_ | refine wl_at 44 rfl (.int .i64 (a9 : Int)) rfl (add_n Ha9.out rfl rfl rfl) ?_)
      go_roundw
      case rel => exact ⟨p2 + 1, a9, by omega, rfl, ⟨by have := HA2.out; have := Ha9.out; omega⟩, HST2, by first | exact rfl | trivial⟩
      case measure => (have := Ha9.out; have := HAL.out; simp [intOf]; omega)
    ·have HLT : Shh (decide ((a : Int) < 1032) = false) := ⟨decide_eq_false (by have := HA2.out; omega)⟩
     have HNE : Shh (((a : Int) == 1032) = true) := ⟨by have := HA2.out; simp; omega⟩
     have hst := HST.out
     rw [show p2 = 1024 by omega] at hst
     obtain ⟨rfl, rfl⟩ := HF.out.1 n f hst hn
     clear hst HF HCB HSB
     go_wp2_with (first | refine wl_at 33 rfl (.bool false) rfl (lss_n false HLT.out rfl rfl rfl) ?_ | refine wl_at 48 rfl (.bool true) rfl (eql_n true HNE.out rfl rfl rfl) ?_ | refine wl_at 49 rfl (.agg (dc fun _ => 0).toArray) rfl (build_zero rfl) ?_ | refine wpList_store_any rfl 25 (.tmp 4) (.tmp 49) rfl N rfl (dc fun _ => 0) rfl 25 _ HI.out.2.1 (info_dD.trans (size_dc _)) (same_dc _ _) (dc_one _) ?_)
     intro w9 hr9 b9 _
     have hb9 : Below N w w9 := HI.out.2.2.2.1.trans (b9.under (Nat.le_of_lt HI.out.2.1.lt) (Nat.le_refl _))
     go_wp2
     exact ret_row_slotS Tryd.results13 rfl rfl rfl hr9 Tryd.underlying25 rfl (info_dD.trans (size_dc _)) ⟨rfl, hb9⟩
end Go.Proofs.YtapjiknedghhfaaDoor

/-
 THE LAW DringSamples.
-/
namespace Go.Proofs.YtapjiknedghhfaaDoor
open Go.RowKit
set_option maxRecDepth 100000
set_option maxHeartbeats 8000000 in
theorem dringSamples_of (n : Int) (zA zB zC zD : Nat → Int) (eA eB eC eD : Int) (bs : List UInt8) (hzA : ∀ i, i < 256 → i32 (zA i)) (hzB : ∀ i, i < 256 → i32 (zB i)) (hzC : ∀ i, i < 256 → i32 (zC i)) (hzD : ∀ i, i < 256 → i32 (zD i))
 (h0 : ∀ W v, Sl W W.heap.size v bs → KVars W → Calls Tryd.prog 6 #[v] W (CdIs W zA eA))
 (h1 : ∀ W v, Sl W W.heap.size v bs → KVars W → Calls Tryd.prog 7 #[v] W (CdIs W zA eA))
 (h2 : ∀ W v, Sl W W.heap.size v bs → KVars W → Calls Tryd.prog 8 #[.int .i64 n, v] W (CdIs W zB eB))
 (h3 : ∀ W v, Sl W W.heap.size v bs → KVars W → Calls Tryd.prog 9 #[.int .i64 n, v] W (CdIs W zB eB))
 (h4 : ∀ W v, Sl W W.heap.size v bs → KVars W → Calls Tryd.prog 10 #[.int .i64 n, v] W (CdIs W zC eC))
 (h5 : ∀ W v, Sl W W.heap.size v bs → KVars W → Calls Tryd.prog 11 #[.int .i64 n, v] W (CdIs W zC eC))
 (h6 : ∀ W v, Sl W W.heap.size v bs → KVars W → Calls Tryd.prog 12 #[.int .i64 n, v] W (CdIs W zD eD))
 (h7 : ∀ W v, Sl W W.heap.size v bs → KVars W → Calls Tryd.prog 13 #[.int .i64 n, v] W (CdIs W zD eD))
 (v : Value) (w : World) (hs : Sl w w.heap.size v bs) (hv : KVars w) : Calls Tryd.prog 3 #[.int .i64 n, v] w (TrueIs w) := by
 unfold TrueIs
 have HLV : Shh (∀ W, Calls Tryd.prog 5 #[] W (TrueIs W)) := ⟨fun W => live15 W⟩
 have H0 := Shh.mk h0
 have H1 := Shh.mk h1
 have H2 := Shh.mk h2
 have H3 := Shh.mk h3
 have H4 := Shh.mk h4
 have H5 := Shh.mk h5
 have H6 := Shh.mk h6
 have H7 := Shh.mk h7
 have HEA := Shh.mk (eq_dpoly zA hzA)
 have HEB := Shh.mk (eq_dpoly zB hzB)
 have HEC := Shh.mk (eq_dpoly zC hzC)
 have HED := Shh.mk (eq_dpoly zD hzD)
 clear h0 h1 h2 h3 h4 h5 h6 h7 hzA hzB hzC hzD
 generalize hN : w.heap.size = N at *
 obtain ⟨A, c, rfl, _, _⟩ := hs.form
 have HPOS : Shh (0 < N) := ⟨by have := hv.pos; omega⟩
 have HI : Shh (Sl w N (.slice A bs.length c) bs ∧ KVars w ∧ Below N w w ∧ N ≤ w.heap.size) := ⟨hs, hv, Below.refl _ _, by omega⟩
 clear hs hv
 by_cases hl : 1000 < bs.length
 ·have hl2 : 1000 < (bs.length : Int) := by omega
  clear HI hl H0 H1 H2 H3 H4 H5 H6 H7
  generalize bs.length = ln at *
  go_enter Tryd.func3, Tryd.ntmps3
  go_wp2_with (go_at_call 5; refine (HLV.out _).mono ?_)
  rintro e w2 ⟨rfl, b2⟩
  rw [hN] at b2
  clear hN
  go_wp2
  go_ret
  exact ⟨rfl, b2⟩
 have hl2 : ¬ 1000 < (bs.length : Int) := by omega
 clear hl hN
 generalize bs.length = ln at *
 go_enter Tryd.func3, Tryd.ntmps3
 go_wp2_with (go_at_call 6; refine (H0.out _ _ (HI.out.1.more HI.out.2.2.2) HI.out.2.1).mono ?_)
 rintro e w2 ⟨rfl, b2⟩
 have HJ : Shh (Sl w2 N (.slice A ln c) bs ∧ KVars w2 ∧ Below N w w2 ∧ N ≤ w2.heap.size) := by
  obtain ⟨h1, h2, h3, h4⟩ := HI.out
  exact ⟨⟨h1.below (b2.mono h4), h2.step b2, h3.trans (b2.mono h4), Nat.le_trans h4 b2.size⟩⟩
 clear b2 HI H0
 go_wp2_with (refine wl_newdD 5 zA rfl rfl rfl rfl rfl rfl rfl rfl ?_)
 intro G5 w3 hG5 r9 b2
 try simp only [Act.put, arr9, hd9, tl9]
 have hlt5 : Shh (N ≤ G5) := by
  obtain ⟨h1, h2, h3, h4⟩ := HJ.out
  exact ⟨by rw [hG5.out]; exact h4⟩
 have HI : Shh (Sl w3 N (.slice A ln c) bs ∧ KVars w3 ∧ Below N w w3 ∧ N ≤ w3.heap.size ∧ Row w3 G5 25 (dc zA)) := by
  obtain ⟨h1, h2, h3, h4⟩ := HJ.out
  exact ⟨⟨h1.below (b2.mono h4), h2.step b2, h3.trans (b2.mono h4), Nat.le_trans h4 b2.size, r9⟩⟩
 clear b2 r9 HJ hG5
 go_wp2_with (go_at_call 7; refine (H1.out _ _ (HI.out.1.more HI.out.2.2.2.1) HI.out.2.1).mono ?_)
 rintro e w4 ⟨rfl, b2⟩
 have HJ : Shh (Sl w4 N (.slice A ln c) bs ∧ KVars w4 ∧ Below N w w4 ∧ N ≤ w4.heap.size ∧ Row w4 G5 25 (dc zA)) := by
  obtain ⟨h1, h2, h3, h4, q5⟩ := HI.out
  exact ⟨⟨h1.below (b2.mono h4), h2.step b2, h3.trans (b2.mono h4), Nat.le_trans h4 b2.size, q5.go b2⟩⟩
 clear b2 HI H1
 go_wp2_with (refine wl_newdD 7 zA rfl rfl rfl rfl rfl rfl rfl rfl ?_)
 intro G7 w5 hG7 r9 b2
 try simp only [Act.put, arr9, hd9, tl9]
 have hlt7 : Shh (N ≤ G7 ∧ G5 < G7) := by
  obtain ⟨h1, h2, h3, h4, q5⟩ := HJ.out
  exact ⟨by rw [hG7.out]; exact h4, by rw [hG7.out]; exact q5.lt⟩
 have HI : Shh (Sl w5 N (.slice A ln c) bs ∧ KVars w5 ∧ Below N w w5 ∧ N ≤ w5.heap.size ∧ Row w5 G5 25 (dc zA) ∧ Row w5 G7 25 (dc zA)) := by
  obtain ⟨h1, h2, h3, h4, q5⟩ := HJ.out
  exact ⟨⟨h1.below (b2.mono h4), h2.step b2, h3.trans (b2.mono h4), Nat.le_trans h4 b2.size, q5.go b2, r9⟩⟩
 clear b2 r9 HJ hG7
 go_wp2_with (go_at_call 8; refine (H2.out _ _ (HI.out.1.more HI.out.2.2.2.1) HI.out.2.1).mono ?_)
 rintro e w6 ⟨rfl, b2⟩
 have HJ : Shh (Sl w6 N (.slice A ln c) bs ∧ KVars w6 ∧ Below N w w6 ∧ N ≤ w6.heap.size ∧ Row w6 G5 25 (dc zA) ∧ Row w6 G7 25 (dc zA)) := by
  obtain ⟨h1, h2, h3, h4, q5, q7⟩ := HI.out
  exact ⟨⟨h1.below (b2.mono h4), h2.step b2, h3.trans (b2.mono h4), Nat.le_trans h4 b2.size, q5.go b2, q7.go b2⟩⟩
 clear b2 HI H2
 go_wp2_with (refine wl_newdD 9 zB rfl rfl rfl rfl rfl rfl rfl rfl ?_)
 intro G9 w7 hG9 r9 b2
 try simp only [Act.put, arr9, hd9, tl9]
 have hlt9 : Shh (N ≤ G9 ∧ G5 < G9 ∧ G7 < G9) := by
  obtain ⟨h1, h2, h3, h4, q5, q7⟩ := HJ.out
  exact ⟨by rw [hG9.out]; exact h4, by rw [hG9.out]; exact q5.lt, by rw [hG9.out]; exact q7.lt⟩
 have HI : Shh (Sl w7 N (.slice A ln c) bs ∧ KVars w7 ∧ Below N w w7 ∧ N ≤ w7.heap.size ∧ Row w7 G5 25 (dc zA) ∧ Row w7 G7 25 (dc zA) ∧ Row w7 G9 25 (dc zB)) := by
  obtain ⟨h1, h2, h3, h4, q5, q7⟩ := HJ.out
  exact ⟨⟨h1.below (b2.mono h4), h2.step b2, h3.trans (b2.mono h4), Nat.le_trans h4 b2.size, q5.go b2, q7.go b2, r9⟩⟩
 clear b2 r9 HJ hG9
 go_wp2_with (go_at_call 9; refine (H3.out _ _ (HI.out.1.more HI.out.2.2.2.1) HI.out.2.1).mono ?_)
 rintro e w8 ⟨rfl, b2⟩
 have HJ : Shh (Sl w8 N (.slice A ln c) bs ∧ KVars w8 ∧ Below N w w8 ∧ N ≤ w8.heap.size ∧ Row w8 G5 25 (dc zA) ∧ Row w8 G7 25 (dc zA) ∧ Row w8 G9 25 (dc zB)) := by
  obtain ⟨h1, h2, h3, h4, q5, q7, q9⟩ := HI.out
  exact ⟨⟨h1.below (b2.mono h4), h2.step b2, h3.trans (b2.mono h4), Nat.le_trans h4 b2.size, q5.go b2, q7.go b2, q9.go b2⟩⟩
 clear b2 HI H3
 go_wp2_with (refine wl_newdD 11 zB rfl rfl rfl rfl rfl rfl rfl rfl ?_)
 intro G11 w9 hG11 r9 b2
 try simp only [Act.put, arr9, hd9, tl9]
 have hlt11 : Shh (N ≤ G11 ∧ G5 < G11 ∧ G7 < G11 ∧ G9 < G11) := by
  obtain ⟨h1, h2, h3, h4, q5, q7, q9⟩ := HJ.out
  exact ⟨by rw [hG11.out]; exact h4, by rw [hG11.out]; exact q5.lt, by rw [hG11.out]; exact q7.lt, by rw [hG11.out]; exact q9.lt⟩
 have HI : Shh (Sl w9 N (.slice A ln c) bs ∧ KVars w9 ∧ Below N w w9 ∧ N ≤ w9.heap.size ∧ Row w9 G5 25 (dc zA) ∧ Row w9 G7 25 (dc zA) ∧ Row w9 G9 25 (dc zB) ∧ Row w9 G11 25 (dc zB)) := by
  obtain ⟨h1, h2, h3, h4, q5, q7, q9⟩ := HJ.out
  exact ⟨⟨h1.below (b2.mono h4), h2.step b2, h3.trans (b2.mono h4), Nat.le_trans h4 b2.size, q5.go b2, q7.go b2, q9.go b2, r9⟩⟩
 clear b2 r9 HJ hG11
 go_wp2_with (go_at_call 5; refine (HLV.out _).mono ?_)
 rintro e w10 ⟨rfl, b2⟩
 have HJ : Shh (Sl w10 N (.slice A ln c) bs ∧ KVars w10 ∧ Below N w w10 ∧ N ≤ w10.heap.size ∧ Row w10 G5 25 (dc zA) ∧ Row w10 G7 25 (dc zA) ∧ Row w10 G9 25 (dc zB) ∧ Row w10 G11 25 (dc zB)) := by
  obtain ⟨h1, h2, h3, h4, q5, q7, q9, q11⟩ := HI.out
  exact ⟨⟨h1.below (b2.mono h4), h2.step b2, h3.trans (b2.mono h4), Nat.le_trans h4 b2.size, q5.go b2, q7.go b2, q9.go b2, q11.go b2⟩⟩
 clear b2 HI HLV
 go_wp2_with (first | refine wl_loadW 25 (.tmp 5) rfl G5 rfl 25 (dc zA) _ (by kernel_rfl) HJ.out.2.2.2.2.1 Tryd.underlying25 rfl (info_dD.trans (size_dc _)) ?_ | refine wl_loadW 25 (.tmp 7) rfl G7 rfl 25 (dc zA) _ (by kernel_rfl) HJ.out.2.2.2.2.2.1 Tryd.underlying25 rfl (info_dD.trans (size_dc _)) ?_ | refine wl_neqW 25 25 (.tmp 42) (.tmp 43) rfl (dc zA).toArray (dc zA).toArray rfl rfl (by kernel_rfl) (by kernel_rfl) true (HEA.out _) ?_ | refine wl_loadW 25 (.tmp 9) rfl G9 rfl 25 (dc zB) _ (by kernel_rfl) HJ.out.2.2.2.2.2.2.1 Tryd.underlying25 rfl (info_dD.trans (size_dc _)) ?_ | refine wl_loadW 25 (.tmp 11) rfl G11 rfl 25 (dc zB) _ (by kernel_rfl) HJ.out.2.2.2.2.2.2.2 Tryd.underlying25 rfl (info_dD.trans (size_dc _)) ?_ | refine wl_neqW 25 25 (.tmp 52) (.tmp 53) rfl (dc zB).toArray (dc zB).toArray rfl rfl (by kernel_rfl) (by kernel_rfl) true (HEB.out _) ?_ | (go_at_call 10; refine (H4.out _ _ (HJ.out.1.more HJ.out.2.2.2.1) HJ.out.2.1).mono ?_))
 rintro e w11 ⟨rfl, b2⟩
 have HI : Shh (Sl w11 N (.slice A ln c) bs ∧ KVars w11 ∧ Below N w w11 ∧ N ≤ w11.heap.size ∧ Row w11 G5 25 (dc zA) ∧ Row w11 G7 25 (dc zA) ∧ Row w11 G9 25 (dc zB) ∧ Row w11 G11 25 (dc zB)) := by
  obtain ⟨h1, h2, h3, h4, q5, q7, q9, q11⟩ := HJ.out
  exact ⟨⟨h1.below (b2.mono h4), h2.step b2, h3.trans (b2.mono h4), Nat.le_trans h4 b2.size, q5.go b2, q7.go b2, q9.go b2, q11.go b2⟩⟩
 clear b2 HJ H4
 go_wp2_with (refine wpList_store_any rfl 25 (.tmp 5) (.tmp 65) rfl G5 rfl (dc zC) rfl 25 _ HI.out.2.2.2.2.1 (info_dD.trans (size_dc _)) (same_dc _ _) (dc_one _) ?_)
 intro w12 r9 b2 z9
 have HJ : Shh (Sl w12 N (.slice A ln c) bs ∧ KVars w12 ∧ Below N w w12 ∧ N ≤ w12.heap.size ∧ Row w12 G5 25 (dc zC) ∧ Row w12 G7 25 (dc zA) ∧ Row w12 G9 25 (dc zB) ∧ Row w12 G11 25 (dc zB)) := by
  obtain ⟨h1, h2, h3, h4, q5, q7, q9, q11⟩ := HI.out
  have hGN : N ≤ G5 := hlt5.out
  have hb := b2.under h4 hGN
  exact ⟨⟨h1.below hb, h2.under hb (by have := HPOS.out; omega), h3.trans hb, Nat.le_trans h4 b2.size, r9, b2.row q7 q7.lt (by have := hlt7.out; have := hlt9.out; have := hlt11.out; omega), b2.row q9 q9.lt (by have := hlt7.out; have := hlt9.out; have := hlt11.out; omega), b2.row q11 q11.lt (by have := hlt7.out; have := hlt9.out; have := hlt11.out; omega)⟩⟩
 clear b2 r9 z9 HI
 go_wp2_with (first | (go_at_call 11; refine (H5.out _ _ (HJ.out.1.more HJ.out.2.2.2.1) HJ.out.2.1).mono ?_))
 rintro e w13 ⟨rfl, b2⟩
 have HI : Shh (Sl w13 N (.slice A ln c) bs ∧ KVars w13 ∧ Below N w w13 ∧ N ≤ w13.heap.size ∧ Row w13 G5 25 (dc zC) ∧ Row w13 G7 25 (dc zA) ∧ Row w13 G9 25 (dc zB) ∧ Row w13 G11 25 (dc zB)) := by
  obtain ⟨h1, h2, h3, h4, q5, q7, q9, q11⟩ := HJ.out
  exact ⟨⟨h1.below (b2.mono h4), h2.step b2, h3.trans (b2.mono h4), Nat.le_trans h4 b2.size, q5.go b2, q7.go b2, q9.go b2, q11.go b2⟩⟩
 clear b2 HJ H5
 go_wp2_with (refine wpList_store_any rfl 25 (.tmp 7) (.tmp 71) rfl G7 rfl (dc zC) rfl 25 _ HI.out.2.2.2.2.2.1 (info_dD.trans (size_dc _)) (same_dc _ _) (dc_one _) ?_)
 intro w14 r9 b2 z9
 have HJ : Shh (Sl w14 N (.slice A ln c) bs ∧ KVars w14 ∧ Below N w w14 ∧ N ≤ w14.heap.size ∧ Row w14 G5 25 (dc zC) ∧ Row w14 G7 25 (dc zC) ∧ Row w14 G9 25 (dc zB) ∧ Row w14 G11 25 (dc zB)) := by
  obtain ⟨h1, h2, h3, h4, q5, q7, q9, q11⟩ := HI.out
  have hGN : N ≤ G7 := hlt7.out.1
  have hb := b2.under h4 hGN
  exact ⟨⟨h1.below hb, h2.under hb (by have := HPOS.out; omega), h3.trans hb, Nat.le_trans h4 b2.size, b2.row q5 q5.lt (by have := hlt7.out; have := hlt9.out; have := hlt11.out; omega), r9, b2.row q9 q9.lt (by have := hlt7.out; have := hlt9.out; have := hlt11.out; omega), b2.row q11 q11.lt (by have := hlt7.out; have := hlt9.out; have := hlt11.out; omega)⟩⟩
 clear b2 r9 z9 HI
 go_wp2_with (first | (go_at_call 12; refine (H6.out _ _ (HJ.out.1.more HJ.out.2.2.2.1) HJ.out.2.1).mono ?_))
 rintro e w15 ⟨rfl, b2⟩
 have HI : Shh (Sl w15 N (.slice A ln c) bs ∧ KVars w15 ∧ Below N w w15 ∧ N ≤ w15.heap.size ∧ Row w15 G5 25 (dc zC) ∧ Row w15 G7 25 (dc zC) ∧ Row w15 G9 25 (dc zB) ∧ Row w15 G11 25 (dc zB)) := by
  obtain ⟨h1, h2, h3, h4, q5, q7, q9, q11⟩ := HJ.out
  exact ⟨⟨h1.below (b2.mono h4), h2.step b2, h3.trans (b2.mono h4), Nat.le_trans h4 b2.size, q5.go b2, q7.go b2, q9.go b2, q11.go b2⟩⟩
 clear b2 HJ H6
 go_wp2_with (refine wpList_store_any rfl 25 (.tmp 9) (.tmp 77) rfl G9 rfl (dc zD) rfl 25 _ HI.out.2.2.2.2.2.2.1 (info_dD.trans (size_dc _)) (same_dc _ _) (dc_one _) ?_)
 intro w16 r9 b2 z9
 have HJ : Shh (Sl w16 N (.slice A ln c) bs ∧ KVars w16 ∧ Below N w w16 ∧ N ≤ w16.heap.size ∧ Row w16 G5 25 (dc zC) ∧ Row w16 G7 25 (dc zC) ∧ Row w16 G9 25 (dc zD) ∧ Row w16 G11 25 (dc zB)) := by
  obtain ⟨h1, h2, h3, h4, q5, q7, q9, q11⟩ := HI.out
  have hGN : N ≤ G9 := hlt9.out.1
  have hb := b2.under h4 hGN
  exact ⟨⟨h1.below hb, h2.under hb (by have := HPOS.out; omega), h3.trans hb, Nat.le_trans h4 b2.size, b2.row q5 q5.lt (by have := hlt7.out; have := hlt9.out; have := hlt11.out; omega), b2.row q7 q7.lt (by have := hlt7.out; have := hlt9.out; have := hlt11.out; omega), r9, b2.row q11 q11.lt (by have := hlt7.out; have := hlt9.out; have := hlt11.out; omega)⟩⟩
 clear b2 r9 z9 HI
 go_wp2_with (first | (go_at_call 13; refine (H7.out _ _ (HJ.out.1.more HJ.out.2.2.2.1) HJ.out.2.1).mono ?_))
 rintro e w17 ⟨rfl, b2⟩
 have HI : Shh (Sl w17 N (.slice A ln c) bs ∧ KVars w17 ∧ Below N w w17 ∧ N ≤ w17.heap.size ∧ Row w17 G5 25 (dc zC) ∧ Row w17 G7 25 (dc zC) ∧ Row w17 G9 25 (dc zD) ∧ Row w17 G11 25 (dc zB)) := by
  obtain ⟨h1, h2, h3, h4, q5, q7, q9, q11⟩ := HJ.out
  exact ⟨⟨h1.below (b2.mono h4), h2.step b2, h3.trans (b2.mono h4), Nat.le_trans h4 b2.size, q5.go b2, q7.go b2, q9.go b2, q11.go b2⟩⟩
 clear b2 HJ H7
 go_wp2_with (refine wpList_store_any rfl 25 (.tmp 11) (.tmp 83) rfl G11 rfl (dc zD) rfl 25 _ HI.out.2.2.2.2.2.2.2 (info_dD.trans (size_dc _)) (same_dc _ _) (dc_one _) ?_)
 intro w18 r9 b2 z9
 have HJ : Shh (Sl w18 N (.slice A ln c) bs ∧ KVars w18 ∧ Below N w w18 ∧ N ≤ w18.heap.size ∧ Row w18 G5 25 (dc zC) ∧ Row w18 G7 25 (dc zC) ∧ Row w18 G9 25 (dc zD) ∧ Row w18 G11 25 (dc zD)) := by
  obtain ⟨h1, h2, h3, h4, q5, q7, q9, q11⟩ := HI.out
  have hGN : N ≤ G11 := hlt11.out.1
  have hb := b2.under h4 hGN
  exact ⟨⟨h1.below hb, h2.under hb (by have := HPOS.out; omega), h3.trans hb, Nat.le_trans h4 b2.size, b2.row q5 q5.lt (by have := hlt7.out; have := hlt9.out; have := hlt11.out; omega), b2.row q7 q7.lt (by have := hlt7.out; have := hlt9.out; have := hlt11.out; omega), b2.row q9 q9.lt (by have := hlt7.out; have := hlt9.out; have := hlt11.out; omega), r9⟩⟩
 clear b2 r9 z9 HI
 go_wp2_with (first | refine wl_loadW 25 (.tmp 5) rfl G5 rfl 25 (dc zC) _ (by kernel_rfl) HJ.out.2.2.2.2.1 Tryd.underlying25 rfl (info_dD.trans (size_dc _)) ?_ | refine wl_loadW 25 (.tmp 7) rfl G7 rfl 25 (dc zC) _ (by kernel_rfl) HJ.out.2.2.2.2.2.1 Tryd.underlying25 rfl (info_dD.trans (size_dc _)) ?_ | refine wl_eqlW 25 25 (.tmp 85) (.tmp 86) rfl (dc zC).toArray (dc zC).toArray rfl rfl (by kernel_rfl) (by kernel_rfl) true (HEC.out _) ?_ | refine wl_loadW 25 (.tmp 9) rfl G9 rfl 25 (dc zD) _ (by kernel_rfl) HJ.out.2.2.2.2.2.2.1 Tryd.underlying25 rfl (info_dD.trans (size_dc _)) ?_ | refine wl_loadW 25 (.tmp 11) rfl G11 rfl 25 (dc zD) _ (by kernel_rfl) HJ.out.2.2.2.2.2.2.2 Tryd.underlying25 rfl (info_dD.trans (size_dc _)) ?_ | refine wl_eqlW 25 25 (.tmp 94) (.tmp 95) rfl (dc zD).toArray (dc zD).toArray rfl rfl (by kernel_rfl) (by kernel_rfl) true (HED.out _) ?_)
 go_ret
 exact ⟨rfl, HJ.out.2.2.1⟩
theorem lI_32 (L : List Int) (h : ∀ x ∈ L, i32 x) (i : Nat) : i32 (lI L i) := by
 unfold lI
 rw [List.getD_eq_getElem?_getD]
 by_cases hi : i < L.length
 ·rw [List.getElem?_eq_getElem hi]
  exact h _ (List.getElem_mem hi)
 ·rw [List.getElem?_eq_none (by omega)]
  unfold i32
  decide
theorem accV_32 (val : Nat → Option Int) (h : ∀ k v, val k = some v → i32 v) : ∀ k, ∀ x ∈ accV val k, i32 x
 | 0, x, hx => by cases hx
 | k + 1, x, hx => by
  have h1 : x ∈ stepV (accV val k) (val k) := hx
  unfold stepV at h1
  split at h1
  ·rename_i v hv
   split at h1
   ·rcases List.mem_append.1 h1 with h2 | h2
    ·exact accV_32 val h k x h2
    ·obtain rfl : x = v := by simpa using h2
     exact h k _ hv
   ·exact accV_32 val h k x h1
  ·exact accV_32 val h k x h1
theorem svF_32 (M : Nat) (val : Nat → Option Int) (h : ∀ k v, val k = some v → i32 v) (i : Nat) : i32 (svF M val i) := by
 unfold svF
 split
 ·show i32 0
  unfold i32
  decide
 ·exact lI_32 _ (accV_32 val h M) i
theorem drwU_32 (b : Nat → Nat) (k : Nat) (v : Int) (h : drwU b k = some v) : i32 v := by
 unfold drwU at h
 split at h
 ·obtain rfl := Option.some.inj h
  unfold i32
  omega
 ·cases h
theorem qd_32 (x : Int) : i32 (qd x) := by have := qd_lt x; unfold i32; omega
theorem drwB_32 (e : Nat) (b : Nat → Nat) (k : Nat) (v : Int) (h : drwB e b k = some v) : i32 v := by
 unfold drwB numB at h
 split at h
 ·split at h
  ·obtain rfl := Option.some.inj h
   exact qd_32 _
  ·cases h
 ·split at h
  ·obtain rfl := Option.some.inj h
   exact qd_32 _
  ·cases h
theorem runB_32 (tau : Nat) (s : Nat → Int) (hs : ∀ n, i32 (s n)) (b : Nat → Nat) : ∀ k i, i32 ((runB tau s b k).2 i)
 | 0, i => by show i32 0; unfold i32; decide
 | k + 1, i => by
  have ih := runB_32 tau s hs b k
  show i32 ((stepB tau s (runB tau s b k) (b k)).2 i)
  unfold stepB
  split
  ·show i32 (dup (dup _ _ _) _ _ i)
   unfold dup
   split
   ·exact hs _
   ·split
    ·exact ih _
    ·exact ih _
  ·exact ih _
theorem ballF_32 (tau : Nat) (s : Nat → Int) (hs : ∀ n, i32 (s n)) (b : Nat → Nat) (i : Nat) : i32 (ballF tau s b i) := by
 unfold ballF
 split
 ·show i32 0
  unfold i32
  decide
 ·exact runB_32 tau s hs b 1024 i
theorem sgnS_32 (b : Nat → Nat) (n : Nat) : i32 (sgnS b n) := by rcases sgnS_or b n with h | h <;> (rw [h]; unfold i32; decide)
theorem zero_32 (i : Nat) (_ : i < 256) : i32 ((fun _ => 0 : Nat → Int) i) := by show i32 0; unfold i32; decide
theorem mask_32 (d : Nat) (hd : d ≤ 23) (B : Int) (hB : 0 ≤ B ∧ B ≤ 8380416) (V i : Nat) : i32 (B - (decN d V i : Int)) := by have := dec_bd d V i hd; unfold i32; omega
theorem smpPairA (bs : List UInt8) : ∃ (z : Nat → Int) (e : Int), (∀ i, i < 256 → i32 (z i)) ∧ (∀ W v, Sl W W.heap.size v bs → KVars W → Calls Tryd.prog 6 #[v] W (CdIs W z e)) ∧ (∀ W v, Sl W W.heap.size v bs → KVars W → Calls Tryd.prog 7 #[v] W (CdIs W z e)) := by
 by_cases hl : bs.length = 34
 ·exact ⟨_, _, fun i _ => svF_32 1024 _ (drwU_32 (nsB 168 bs 3072)) i, fun W v h hk => RejNttX_any W.heap.size v bs hl W h (Nat.le_refl _) hk, fun W v h _ => refRejNtt_any W.heap.size v bs hl W h (Nat.le_refl _)⟩
 ·exact ⟨_, _, zero_32, fun W v h _ => RejNtt_no W.heap.size v bs hl W h, fun W v h _ => refRejNtt_no W.heap.size v bs hl W h⟩
theorem smpPairB (n : Int) (bs : List UInt8) : ∃ (z : Nat → Int) (e : Int), (∀ i, i < 256 → i32 (z i)) ∧ (∀ W v, Sl W W.heap.size v bs → KVars W → Calls Tryd.prog 8 #[.int .i64 n, v] W (CdIs W z e)) ∧ (∀ W v, Sl W W.heap.size v bs → KVars W → Calls Tryd.prog 9 #[.int .i64 n, v] W (CdIs W z e)) := by
 by_cases hl : (n ≠ 2 ∧ n ≠ 4) ∨ ¬ bs.length = 66
 ·exact ⟨_, _, zero_32, fun W v h _ => RejBounded_no n W.heap.size v bs hl W h, fun W v h _ => refRejBounded_no n W.heap.size v bs hl W h⟩
 have hb : bs.length = 66 := by omega
 rcases (show n = 2 ∨ n = 4 by omega) with rfl | rfl
 ·exact ⟨_, _, fun i _ => svF_32 2048 _ (drwB_32 2 (nsB 136 bs 1024)) i, fun W v h hk => RejBoundedX_2 W.heap.size v bs hb W h (Nat.le_refl _) hk, fun W v h _ => refRejBounded_2 W.heap.size v bs hb W h (Nat.le_refl _)⟩
 ·exact ⟨_, _, fun i _ => svF_32 2048 _ (drwB_32 4 (nsB 136 bs 1024)) i, fun W v h hk => RejBoundedX_4 W.heap.size v bs hb W h (Nat.le_refl _) hk, fun W v h _ => refRejBounded_4 W.heap.size v bs hb W h (Nat.le_refl _)⟩
theorem smpPairC (n : Int) (bs : List UInt8) : ∃ (z : Nat → Int) (e : Int), (∀ i, i < 256 → i32 (z i)) ∧ (∀ W v, Sl W W.heap.size v bs → KVars W → Calls Tryd.prog 10 #[.int .i64 n, v] W (CdIs W z e)) ∧ (∀ W v, Sl W W.heap.size v bs → KVars W → Calls Tryd.prog 11 #[.int .i64 n, v] W (CdIs W z e)) := by
 by_cases hl : (n ≠ 18 ∧ n ≠ 20) ∨ ¬ bs.length = 66
 ·exact ⟨_, _, zero_32, fun W v h _ => Mask_no n W.heap.size v bs hl W h, fun W v h _ => refMask_no n W.heap.size v bs hl W h⟩
 have hb : bs.length = 66 := by omega
 rcases (show n = 18 ∨ n = 20 by omega) with rfl | rfl
 ·exact ⟨_, _, fun i _ => mask_32 18 (by decide) 131072 (by decide) (litN (spongeL 136 31 bs 576)) i, fun W v h hk => Mask_18 W.heap.size v bs hb W h (Nat.le_refl _) hk, fun W v h _ => refMask_18 W.heap.size v bs hb W h (Nat.le_refl _)⟩
 ·exact ⟨_, _, fun i _ => mask_32 20 (by decide) 524288 (by decide) (litN (spongeL 136 31 bs 640)) i, fun W v h hk => Mask_20 W.heap.size v bs hb W h (Nat.le_refl _) hk, fun W v h _ => refMask_20 W.heap.size v bs hb W h (Nat.le_refl _)⟩
theorem smpPairD (n : Int) (bs : List UInt8) (hm : bs.length ≤ 1000000) : ∃ (z : Nat → Int) (e : Int), (∀ i, i < 256 → i32 (z i)) ∧ (∀ W v, Sl W W.heap.size v bs → KVars W → Calls Tryd.prog 12 #[.int .i64 n, v] W (CdIs W z e)) ∧ (∀ W v, Sl W W.heap.size v bs → KVars W → Calls Tryd.prog 13 #[.int .i64 n, v] W (CdIs W z e)) := by
 by_cases hl : n < 1 ∨ 64 < n
 ·exact ⟨_, _, zero_32, fun W v h _ => Ball_no n W.heap.size v bs hl W h, fun W v h _ => refBall_no n W.heap.size v bs hl W h⟩
 obtain ⟨tau, rfl⟩ := Int.eq_ofNat_of_zero_le (show 0 ≤ n by omega)
 have ht : 1 ≤ tau ∧ tau ≤ 64 := by omega
 exact ⟨_, _, fun i _ => ballF_32 tau (sgnS (nsB 136 bs 1032)) (sgnS_32 _) (behB bs) i, fun W v h hk => BallX_any tau ht W.heap.size v bs W h (Nat.le_refl _) hk, fun W v h _ => refBall_any tau ht W.heap.size v bs hm W h (Nat.le_refl _)⟩
theorem dringSamples_big (n : Int) (v : Value) (bs : List UInt8) (hl : 1000 < bs.length) (w : World) (hs : Sl w w.heap.size v bs) : Calls Tryd.prog 3 #[.int .i64 n, v] w (TrueIs w) := by
 unfold TrueIs
 have HLV : Shh (∀ W, Calls Tryd.prog 5 #[] W (TrueIs W)) := ⟨fun W => live15 W⟩
 generalize hN : w.heap.size = N at *
 obtain ⟨A, c, rfl, _, _⟩ := hs.form
 clear hs
 have hl2 : 1000 < (bs.length : Int) := by omega
 clear hl
 generalize bs.length = ln at *
 go_enter Tryd.func3, Tryd.ntmps3
 go_wp2_with (go_at_call 5; refine (HLV.out _).mono ?_)
 rintro e w2 ⟨rfl, b2⟩
 rw [hN] at b2
 clear hN
 go_wp2
 go_ret
 exact ⟨rfl, b2⟩
theorem dringSamples_law (n : Int) (v : Value) (bs : List UInt8) (w : World) (hs : Sl w w.heap.size v bs) (hv : KVars w) : Calls Tryd.prog 3 #[.int .i64 n, v] w (TrueIs w) := by
 by_cases hl : 1000 < bs.length
 ·exact dringSamples_big n v bs hl w hs
 obtain ⟨zA, eA, a1, a2, a3⟩ := smpPairA bs
 obtain ⟨zB, eB, b1, b2, b3⟩ := smpPairB n bs
 obtain ⟨zC, eC, c1, c2, c3⟩ := smpPairC n bs
 obtain ⟨zD, eD, d1, d2, d3⟩ := smpPairD n bs (by omega)
 exact dringSamples_of n zA zB zC zD eA eB eC eD bs a1 b1 c1 d1 a2 a3 b2 b3 c2 c3 d2 d3 v w hs hv
end Go.Proofs.YtapjiknedghhfaaDoor
