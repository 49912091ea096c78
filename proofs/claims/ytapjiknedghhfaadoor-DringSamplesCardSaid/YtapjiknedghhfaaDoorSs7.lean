/-
 THE LAW DringSmall.
-/
import Derived.Test.YtapjiknedghhfaaDoorSs6
namespace Go.Proofs.YtapjiknedghhfaaDoor
open Go.RowKit
set_option maxRecDepth 100000
/-- a polynomial and a code; with the code 0 no number is further than E from nothing -/
def GotB (E : Int) (w : World) (e : Ending) (w' : World) : Prop := ∃ (p : Nat → Int) (c n : Int), e = .returned (.tuple #[.agg (dc p).toArray, .int .i64 c]) ∧ Below w.heap.size w w' ∧ Shh (∀ W, Calls Tryd.prog 14 #[.agg (dc p).toArray] W (I32Bl W n)) ∧ (c = 0 → n ≤ E)
theorem centD_in (p : Nat → Int) (i : Nat) : -4190208 ≤ centD p i ∧ centD p i ≤ 4190208 := by
 unfold centD redD qd
 split <;> omega
theorem cent_ok {E : Int} (hE : 0 ≤ E ∧ E ≤ 4190208) {p : Nat → Int} {i : Nat} (h : okE E (p i)) : -E ≤ centD p i ∧ centD p i ≤ E := by
 unfold okE at h
 unfold centD redD qd
 split <;> omega
theorem norm_ok {E : Int} (hE : 0 ≤ E ∧ E ≤ 4190208) {p : Nat → Int} (h : ∀ i, okE E (p i)) : normD p ≤ E := mxD_le _ E hE.1 (fun i _ => cent_ok hE (h i)) 256 (Nat.le_refl _)
theorem ok_32 {E : Int} (hE : 0 ≤ E ∧ E ≤ 4190208) {v : Int} (h : okE E v) : i32 v := by
 unfold okE at h
 unfold i32
 omega
theorem norm_near (c : Nat → Int) (B : Int) (hB : 0 ≤ B ∧ B ≤ 4190208) (h : ∀ i, -B ≤ c i ∧ c i ≤ B) : normD c ≤ B := by
 refine mxD_le _ B hB.1 (fun i _ => ?_) 256 (Nat.le_refl _)
 have h1 := h i
 unfold centD redD qd
 split <;> omega
theorem tri_ok {v : Int} (h : triD v) : okE 1 v := by
 unfold triD at h
 unfold okE
 omega
theorem nzD_some (f : Nat → Int) : ∀ k, 0 < nzD f k → ∃ i, i < k ∧ f i ≠ 0
 | 0, h => absurd h (Nat.lt_irrefl _)
 | k + 1, h => by
  by_cases e : f k = 0
  ·rw [nzD_succ, show oneZ (f k) = 0 from if_pos e] at h
   obtain ⟨i, h1, h2⟩ := nzD_some f k h
   exact ⟨i, by omega, h2⟩
  ·exact ⟨k, Nat.lt_succ_self _, e⟩
theorem norm_ball {p : Nat → Int} (h : ∀ i, triD (p i)) (hn : nzD p 256 = 49) : normD p = 1 := by
 have h1 := norm_ok (E := 1) (by decide) fun i => tri_ok (h i)
 obtain ⟨i, hi, h2⟩ := nzD_some p 256 (by omega)
 have h3 := le_mxD (centD p) i 256 hi
 have h4 := h i
 have h5 : centD p i = 1 ∨ centD p i = -1 := by
  unfold triD at h4
  unfold centD redD qd
  split <;> omega
 unfold normD at h1 ⊢
 omega
theorem rej_got (E : Int) (hE : 0 ≤ E ∧ E ≤ 4190208) {w : World} {e : Ending} {w' : World} (h : SmpB w (allE E) e w') : GotB E w e w' := by
 obtain ⟨p, c, h1, h2, h3⟩ := h
 exact ⟨p, c, normD p, h1, h2, ⟨fun W => Norm_any p (fun i _ => ok_32 hE (h3 i)) W⟩, fun _ => norm_ok hE h3⟩
theorem bad_got (E : Int) {w : World} {e : Ending} {w' : World} (h : CdIs w (fun _ => 0) 1 e w') : GotB E w e w' :=
 ⟨fun _ => 0, 1, normD fun _ => 0, h.1, h.2, ⟨fun W => Norm_any _ (fun i _ => by unfold i32; decide) W⟩, fun q => absurd q (by decide)⟩
theorem msk_got (d : Nat) (B : Int) (hB : B = 131072 ∨ B = 524288) (hd : ∀ V i, (decN d V i : Int) < 2 * B) (V : Nat) {w : World} {e : Ending} {w' : World} (h : CdIs w (fun i => B - (decN d V i : Int)) 0 e w') : GotB B w e w' := by
 have h2 : ∀ i, -B ≤ B - (decN d V i : Int) ∧ B - (decN d V i : Int) ≤ B := fun i => by have := hd V i; omega
 exact ⟨_, 0, normD fun i => B - (decN d V i : Int), h.1, h.2, ⟨fun W => Norm_any _ (fun i _ => by have := h2 i; unfold i32; omega) W⟩, fun _ => norm_near _ B (by omega) h2⟩
theorem Rej_all (E : Int) (hE : E = 2 ∨ E = 4) (v : Value) (bs : List UInt8) (W : World) (hs : Sl W W.heap.size v bs) (hv : KVars W) : Calls Tryd.prog 8 #[.int .i64 E, v] W (GotB E W) := by
 by_cases hl : bs.length = 66
 ·rcases hE with rfl | rfl
  ·exact (RejBounded_2 W.heap.size v bs hl W hs (Nat.le_refl _) hv).mono fun _ _ h => rej_got 2 (by decide) h
  ·exact (RejBounded_4 W.heap.size v bs hl W hs (Nat.le_refl _) hv).mono fun _ _ h => rej_got 4 (by decide) h
 ·rcases hE with rfl | rfl
  ·exact (RejBounded_bad2 W.heap.size v bs hl W hs).mono fun _ _ h => bad_got 2 h
  ·exact (RejBounded_bad4 W.heap.size v bs hl W hs).mono fun _ _ h => bad_got 4 h
theorem Mask_all (E T : Int) (hE : (E = 18 ∧ T = 131072) ∨ (E = 20 ∧ T = 524288)) (v : Value) (bs : List UInt8) (W : World) (hs : Sl W W.heap.size v bs) (hv : KVars W) : Calls Tryd.prog 10 #[.int .i64 E, v] W (GotB T W) := by
 by_cases hl : bs.length = 66
 ·rcases hE with ⟨rfl, rfl⟩ | ⟨rfl, rfl⟩
  ·exact (Mask_18 W.heap.size v bs hl W hs (Nat.le_refl _) hv).mono fun _ _ h => msk_got 18 131072 (by decide) (fun V i => by have := decN_lt 18 V i; omega) _ h
  ·exact (Mask_20 W.heap.size v bs hl W hs (Nat.le_refl _) hv).mono fun _ _ h => msk_got 20 524288 (by decide) (fun V i => by have := decN_lt 20 V i; omega) _ h
 ·rcases hE with ⟨rfl, rfl⟩ | ⟨rfl, rfl⟩
  ·exact (Mask_bad18 W.heap.size v bs hl W hs).mono fun _ _ h => bad_got _ h
  ·exact (Mask_bad20 W.heap.size v bs hl W hs).mono fun _ _ h => bad_got _ h
section
variable {ops : Array Oper} {rest : List Oper} {o : Oper} {a : Act} {w : World} {Q : Exit → Act → World → Prop} {x y : Operand} {op : Oper}
theorem run_two (x y : Int) (ho : op.op = .buildSlice 32 2 #[(0, .const (.int .i64 x)), (1, .const (.int .i64 y))]) : (execOp a.eval op).run Tryd.prog w = .ok (.value (.slice (some ⟨w.heap.size, 0, none⟩) 2 2)) (w.alloc (.cells #[.int .i64 x, .int .i64 y] 3)) := by
 unfold execOp
 simp only [ho]
 go_simp
theorem wl_two (d : Nat) (x y : Int) (hgd : o.guard = none) (hd : o.dst = some d) (ho : o.op = .buildSlice 32 2 #[(0, .const (.int .i64 x)), (1, .const (.int .i64 y))])
 (h : ∀ g w2, Shh (g = w.heap.size) → Row w2 g 3 [.int .i64 x, .int .i64 y] → Below w.heap.size w w2 → wpList Tryd.prog ops Q rest (a.put (some d) (.slice (some ⟨g, 0, none⟩) 2 2)) w2) : wpList Tryd.prog ops Q (o :: rest) a w := by
 refine wl_valueW _ _ hgd (run_two x y ho) ?_
 rw [hd]
 exact h _ _ ⟨rfl⟩ (Row.new_ rfl rfl) (belA _ _)
theorem at_int {g n c k : Nat} (hk : k < n) (ho : op.op = .indexAddr 32 x y) (hx : a.eval x = .slice (some ⟨g, 0, none⟩) n c) (hy : a.eval y = .int .i64 (k : Int)) : (execOp a.eval op).run Tryd.prog w = .ok (.value (.pointer (some ⟨g, k, none⟩))) w := by
 have hk2 : (k : Int) < (n : Int) := by omega
 have h0 : ¬ (k : Int) < 0 := by omega
 unfold execOp
 simp only [ho, hx, hy]
 go_simp
theorem load_int {q : Addr} {n : Int} (ho : op.op = .load 3 x) (hc : w.cell? q = some (.int .i64 n)) (hx : a.eval x = .pointer (some q)) : (execOp a.eval op).run Tryd.prog w = .ok (.value (.int .i64 n)) w := by
 unfold execOp
 simp only [ho, hx]
 go_simp
theorem conv_nd {n : Int} (h : i32 n) (ho : op.op = .convert 3 21 x) (hx : a.eval x = .int .i64 n) : (execOp a.eval op).run Tryd.prog w = .ok (.value (.int .i32 n)) w := by
 have hw : IntKind.i32.wrap n = n := by unfold i32 at h; rw [IntKind.wrap_i32]; omega
 clear h
 unfold execOp
 simp only [ho, hx]
 go_simp
theorem conv_nu {d : Int} (h : d = 17 ∨ d = 19) (ho : op.op = .convert 3 33 x) (hx : a.eval x = .int .i64 d) : (execOp a.eval op).run Tryd.prog w = .ok (.value (.int .u64 d)) w := by
 rcases h with rfl | rfl <;> (unfold execOp; simp only [ho, hx]; go_simp; try rfl)
theorem shl_1d {d T : Int} (h : (d = 17 ∧ T = 131072) ∨ (d = 19 ∧ T = 524288)) (ho : op.op = .binOp .shl 21 (.const (.int .i32 1)) y 33) (hy : a.eval y = .int .u64 d) : (execOp a.eval op).run Tryd.prog w = .ok (.value (.int .i32 T)) w := by
 have hx : a.eval (.const (.int .i32 1)) = .int .i32 1 := rfl
 rcases h with ⟨rfl, rfl⟩ | ⟨rfl, rfl⟩ <;> (unfold execOp; simp only [ho, hx, hy]; go_simp; try rfl)
end
set_option maxHeartbeats 8000000 in
theorem dringSmall_law (v : Value) (bs : List UInt8) (w : World) (hs : Sl w w.heap.size v bs) (hv : KVars w) : Calls Tryd.prog 4 #[v] w (TrueIs w) := by
 unfold TrueIs
 have HLV : Shh (∀ W, Calls Tryd.prog 5 #[] W (TrueIs W)) := ⟨fun W => live15 W⟩
 have HB : Shh (∀ W, Sl W W.heap.size v bs → KVars W → Calls Tryd.prog 12 #[.int .i64 49, v] W (SmpB W (ballK 49))) := ⟨fun W h hk => Ball_49 W.heap.size v bs W h (Nat.le_refl _) hk⟩
 have HRJ : Shh (∀ E : Int, (E = 2 ∨ E = 4) → ∀ W, Sl W W.heap.size v bs → KVars W → Calls Tryd.prog 8 #[.int .i64 E, v] W (GotB E W)) := ⟨fun E hE W h hk => Rej_all E hE v bs W h hk⟩
 have HMK : Shh (∀ E T : Int, ((E = 18 ∧ T = 131072) ∨ (E = 20 ∧ T = 524288)) → ∀ W, Sl W W.heap.size v bs → KVars W → Calls Tryd.prog 10 #[.int .i64 E, v] W (GotB T W)) := ⟨fun E T hE W h hk => Mask_all E T hE v bs W h hk⟩
 generalize hN : w.heap.size = N at *
 obtain ⟨A, c, rfl, _, _⟩ := hs.form
 have HI : Shh (Sl w w.heap.size (.slice A bs.length c) bs ∧ KVars w ∧ Below N w w ∧ N ≤ w.heap.size) := ⟨hN.symm ▸ hs, hv, Below.refl _ _, by omega⟩
 clear hs hv
 by_cases hl : 1000 < bs.length
 ·have hl2 : 1000 < (bs.length : Int) := by omega
  clear HB HRJ HMK HI hl
  generalize bs.length = ln at *
  go_enter Tryd.func4, Tryd.ntmps4
  go_wp2_with (go_at_call 5; refine (HLV.out _).mono ?_)
  rintro e w2 ⟨rfl, b2⟩
  rw [hN] at b2
  clear hN
  go_wp2
  go_ret
  exact ⟨rfl, b2⟩
 have hl2 : ¬ 1000 < (bs.length : Int) := by omega
 clear hl hN
 generalize hln : bs.length = ln at *
 have HLN := Shh.mk hln
 clear hln
 go_enter Tryd.func4, Tryd.ntmps4
 go_wp2_with (go_at_call 12; refine (HB.out _ HI.out.1 HI.out.2.1).mono ?_)
 rintro e w2 ⟨p, cd, rfl, b2, hk⟩
 have HK := Shh.mk hk
 have HJ : Shh (Sl w2 w2.heap.size (.slice A ln c) bs ∧ KVars w2 ∧ Below N w w2 ∧ N ≤ w2.heap.size) := by
  obtain ⟨h1, h2, h3, h4⟩ := HI.out
  exact ⟨⟨h1.go b2, h2.step b2, h3.trans (b2.mono h4), Nat.le_trans h4 b2.size⟩⟩
 clear b2 hk HI HB
 go_wp2_with (refine wl_newdD 3 p rfl rfl rfl rfl rfl rfl rfl rfl ?_)
 intro G w3 hG r3 b2
 try simp only [Act.put, arr9, hd9, tl9]
 have HI : Shh (Sl w3 w3.heap.size (.slice A ln c) bs ∧ KVars w3 ∧ Below N w w3 ∧ N ≤ w3.heap.size ∧ Row w3 G 25 (dc p)) := by
  obtain ⟨h1, h2, h3, h4⟩ := HJ.out
  exact ⟨⟨h1.go b2, h2.step b2, h3.trans (b2.mono h4), Nat.le_trans h4 b2.size, r3⟩⟩
 clear b2 r3 hG HJ
 go_wp2_with (go_at_call 5; refine (HLV.out _).mono ?_)
 rintro e w4 ⟨rfl, b2⟩
 have HJ : Shh (Sl w4 w4.heap.size (.slice A ln c) bs ∧ KVars w4 ∧ Below N w w4 ∧ N ≤ w4.heap.size ∧ Row w4 G 25 (dc p)) := by
  obtain ⟨h1, h2, h3, h4, h5⟩ := HI.out
  exact ⟨⟨h1.go b2, h2.step b2, h3.trans (b2.mono h4), Nat.le_trans h4 b2.size, h5.go b2⟩⟩
 clear b2 HI HLV
 have hcd : cd = 0 ∨ cd = 130 := HK.out.elim (fun h => .inl h.1) fun h => .inr h.1
 obtain ⟨n1, HN1, hn1⟩ : ∃ n : Int, Shh (∀ W, Calls Tryd.prog 14 #[.agg (dc p).toArray] W (I32Bl W n)) ∧ (cd = 0 → nzD p 256 = 49 ∧ n = 1) := by
  refine ⟨normD p, ⟨fun W => Norm_any p (fun i _ => ok_32 (E := 1) (by decide) (tri_ok (HK.out.elim (fun h => h.2.1 i) fun h => h.2 i))) W⟩, fun h0 => ?_⟩
  rcases HK.out with h | h
  ·exact ⟨h.2.2, norm_ball h.2.1 h.2.2⟩
  ·exact absurd (h.1.symm.trans h0) (by decide)
 have HC1 := Shh.mk hn1
 have HCD := Shh.mk hcd
 have hgo : (!cd == 0 && !cd == 130) = false := by rcases hcd with rfl | rfl <;> rfl
 clear HK hn1
 rcases hcd with rfl | rfl
 ·obtain ⟨hc1, rfl⟩ := HC1.out rfl
  clear HC1
  have HC1 := Shh.mk hc1
  clear hc1
  go_wp2
  go_loopw [5, 34] (fun s5 s34 wr => ∃ k : Nat, k ≤ 256 ∧ s34 = .int .i64 (k : Int) ∧ s5 = .int .i64 (nzD p k : Int) ∧ nzD p k ≤ k ∧ wr = w4) (fun _ i _ => 256 - (intOf i).toNat)
  case atStart => exact ⟨0, Nat.zero_le _, rfl, rfl, Nat.le_refl _, rfl⟩
  case round =>
   obtain ⟨k, hk, rfl, rfl, hle, hw⟩ := hrel
   subst hw
   by_cases hlt : k < 256
   ·have HG := Shh.mk ((HJ.out.2.2.2.2.cell k).trans (dc_get p hlt))
    have HS := Shh.mk (nzD_succ p k)
    have hlt2 : (k : Int) < 256 := by omega
    generalize p k = pk at *
    generalize hnk : nzD p k = nk at *
    have HNK := Shh.mk hnk
    clear hnk
    by_cases hz : pk = 0
    ·subst hz
     go_wp2_with (first | refine wl_at 38 rfl (.pointer (some ⟨G, k, none⟩)) rfl (at_dD hlt rfl rfl rfl) ?_ | refine wl_at 39 rfl (.int .i32 0) rfl (load_d rfl HG.out rfl) ?_)
     go_roundw
     case rel => exact ⟨k + 1, by omega, by go_num, by rw [HS.out]; rfl, by rw [HS.out]; show nk + 0 ≤ k + 1; omega, by first | exact rfl | trivial⟩
     case measure => simp [intOf]; omega
    ·have hoz : oneZ pk = 1 := if_neg hz
     go_wp2_with (first | refine wl_at 38 rfl (.pointer (some ⟨G, k, none⟩)) rfl (at_dD hlt rfl rfl rfl) ?_ | refine wl_at 39 rfl (.int .i32 pk) rfl (load_d rfl HG.out rfl) ?_)
     go_roundw
     case rel => exact ⟨k + 1, by omega, by go_num, by rw [HS.out, hoz]; go_num, by rw [HS.out, hoz]; omega, by first | exact rfl | trivial⟩
     case measure => simp [intOf]; omega
   ·have hlt2 : ¬ (k : Int) < 256 := by omega
    rw [show (nzD p k : Int) = 49 by rw [show k = 256 by omega, HC1.out]; rfl]
    go_wp2_with (first | refine wl_loadW 25 (.tmp 3) rfl G rfl 25 (dc p) _ (by kernel_rfl) HJ.out.2.2.2.2 Tryd.underlying25 rfl (info_dD.trans (size_dc _)) ?_ | (go_at_call 14; refine (HN1.out _).mono ?_))
    rintro e w5 ⟨rfl, b2⟩
    have HI : Shh (Sl w5 w5.heap.size (.slice A ln c) bs ∧ KVars w5 ∧ Below N w w5 ∧ N ≤ w5.heap.size) := by
     obtain ⟨h1, h2, h3, h4, h5⟩ := HJ.out
     exact ⟨⟨h1.go b2, h2.step b2, h3.trans (b2.mono h4), Nat.le_trans h4 b2.size⟩⟩
    clear b2 HJ HN1
    go_wp2_with (refine wl_two 55 2 4 rfl rfl rfl ?_)
    intro GS w6 hGS r6 b2
    try simp only [Act.put, arr9, hd9, tl9]
    have HJ : Shh (Sl w6 w6.heap.size (.slice A ln c) bs ∧ KVars w6 ∧ Below N w w6 ∧ N ≤ w6.heap.size ∧ Row w6 GS 3 [.int .i64 2, .int .i64 4]) := by
     obtain ⟨h1, h2, h3, h4⟩ := HI.out
     exact ⟨⟨h1.go b2, h2.step b2, h3.trans (b2.mono h4), Nat.le_trans h4 b2.size, r6⟩⟩
    clear b2 r6 hGS HI
    go_wp2
    go_loopw [57] (fun i wr => ∃ k : Nat, k ≤ 2 ∧ i = .int .i64 (k : Int) ∧ Shh (Sl wr wr.heap.size (.slice A ln c) bs ∧ KVars wr ∧ Below N w wr ∧ N ≤ wr.heap.size ∧ Row wr GS 3 [.int .i64 2, .int .i64 4])) (fun i _ => 2 - (intOf i).toNat)
    case atStart => exact ⟨0, Nat.zero_le _, rfl, HJ⟩
    case round =>
     clear HJ
     obtain ⟨k, hk, rfl, HI⟩ := hrel
     by_cases hlt : k < 2
     ·have hlt2 : (k : Int) < 2 := by omega
      obtain ⟨E, HE, hE⟩ : ∃ E : Int, Shh (wr.cell? ⟨GS, k, none⟩ = some (.int .i64 E)) ∧ (E = 2 ∨ E = 4) := by
       have h := HI.out.2.2.2.2.cell k
       rcases (show k = 0 ∨ k = 1 by omega) with rfl | rfl
       ·exact ⟨2, ⟨h⟩, .inl rfl⟩
       ·exact ⟨4, ⟨h⟩, .inr rfl⟩
      have HES := Shh.mk hE
      have C := Shh.mk (HRJ.out E hE wr HI.out.1 HI.out.2.1)
      clear hE
      go_wp2_with (first | refine wl_at 59 rfl (.pointer (some ⟨GS, k, none⟩)) rfl (at_int hlt rfl rfl rfl) ?_ | refine wl_at 60 rfl (.int .i64 E) rfl (load_int rfl HE.out rfl) ?_ | (go_at_call 8; refine (C.out).mono ?_))
      rintro e w7 ⟨pz, cz, nz, rfl, b2, HNZ, hnz⟩
      have HJ : Shh (Sl w7 w7.heap.size (.slice A ln c) bs ∧ KVars w7 ∧ Below N w w7 ∧ N ≤ w7.heap.size ∧ Row w7 GS 3 [.int .i64 2, .int .i64 4]) := by
       obtain ⟨h1, h2, h3, h4, h5⟩ := HI.out
       exact ⟨⟨h1.go b2, h2.step b2, h3.trans (b2.mono h4), Nat.le_trans h4 b2.size, h5.go b2⟩⟩
      clear b2 HI HE C
      go_wp2_with (refine wl_newdD 9 pz rfl rfl rfl rfl rfl rfl rfl rfl ?_)
      intro GZ w8 hGZ r8 b2
      try simp only [Act.put, arr9, hd9, tl9]
      have HI : Shh (Sl w8 w8.heap.size (.slice A ln c) bs ∧ KVars w8 ∧ Below N w w8 ∧ N ≤ w8.heap.size ∧ Row w8 GS 3 [.int .i64 2, .int .i64 4] ∧ Row w8 GZ 25 (dc pz)) := by
       obtain ⟨h1, h2, h3, h4, h5⟩ := HJ.out
       exact ⟨⟨h1.go b2, h2.step b2, h3.trans (b2.mono h4), Nat.le_trans h4 b2.size, h5.go b2, r8⟩⟩
      clear b2 r8 hGZ HJ
      by_cases hcz : cz = 0
      ·have HGT : Shh (decide (E < nz) = false) := ⟨by have := hnz hcz; simpa using this⟩
       subst hcz
       clear hnz
       go_wp2_with (first | refine wl_loadW 25 (.tmp 9) rfl GZ rfl 25 (dc pz) _ (by kernel_rfl) HI.out.2.2.2.2.2 Tryd.underlying25 rfl (info_dD.trans (size_dc _)) ?_ | (go_at_call 14; refine (HNZ.out _).mono ?_))
       rintro e w9 ⟨rfl, b2⟩
       have HJ : Shh (Sl w9 w9.heap.size (.slice A ln c) bs ∧ KVars w9 ∧ Below N w w9 ∧ N ≤ w9.heap.size ∧ Row w9 GS 3 [.int .i64 2, .int .i64 4]) := by
        obtain ⟨h1, h2, h3, h4, h5, h6⟩ := HI.out
        exact ⟨⟨h1.go b2, h2.step b2, h3.trans (b2.mono h4), Nat.le_trans h4 b2.size, h5.go b2⟩⟩
       clear b2 HI HNZ
       go_wp2_with (first | refine wl_atW 73 rfl (.int .i32 E) (by kernel_rfl) (conv_nd (by have := HES.out; unfold i32; omega) rfl rfl) ?_ | refine wl_atW 74 rfl (.bool false) (by kernel_rfl) (gtr_d false HGT.out rfl rfl rfl) ?_)
       go_roundw
       case rel => exact ⟨k + 1, by omega, by go_num, HJ⟩
       case measure => simp [intOf]; omega
      ·have hcz2 : (cz == 0) = false := by simpa using hcz
       go_wp2
       go_roundw
       case rel => exact ⟨k + 1, by omega, by go_num, ⟨⟨HI.out.1, HI.out.2.1, HI.out.2.2.1, HI.out.2.2.2.1, HI.out.2.2.2.2.1⟩⟩⟩
       case measure => simp [intOf]; omega
     ·have hlt2 : ¬ (k : Int) < 2 := by omega
      clear hlt
      go_wp2_with (refine wl_two 77 18 20 rfl rfl rfl ?_)
      intro GS w6 hGS r6 b2
      try simp only [Act.put, arr9, hd9, tl9]
      have HJ : Shh (Sl w6 w6.heap.size (.slice A ln c) bs ∧ KVars w6 ∧ Below N w w6 ∧ N ≤ w6.heap.size ∧ Row w6 GS 3 [.int .i64 18, .int .i64 20]) := by
       obtain ⟨h1, h2, h3, h4, _⟩ := HI.out
       exact ⟨⟨h1.go b2, h2.step b2, h3.trans (b2.mono h4), Nat.le_trans h4 b2.size, r6⟩⟩
      clear b2 r6 hGS HI
      go_wp2
      go_loopw [79] (fun i wr => ∃ k : Nat, k ≤ 2 ∧ i = .int .i64 (k : Int) ∧ Shh (Sl wr wr.heap.size (.slice A ln c) bs ∧ KVars wr ∧ Below N w wr ∧ N ≤ wr.heap.size ∧ Row wr GS 3 [.int .i64 18, .int .i64 20])) (fun i _ => 2 - (intOf i).toNat)
      case atStart => exact ⟨0, Nat.zero_le _, rfl, HJ⟩
      case round =>
       clear HJ
       obtain ⟨k, hk, rfl, HI⟩ := hrel
       by_cases hlt : k < 2
       ·have hlt2 : (k : Int) < 2 := by omega
        obtain ⟨E, T, HE, hE⟩ : ∃ E T : Int, Shh (wr.cell? ⟨GS, k, none⟩ = some (.int .i64 E)) ∧ ((E = 18 ∧ T = 131072) ∨ (E = 20 ∧ T = 524288)) := by
         have h := HI.out.2.2.2.2.cell k
         rcases (show k = 0 ∨ k = 1 by omega) with rfl | rfl
         ·exact ⟨18, 131072, ⟨h⟩, .inl ⟨rfl, rfl⟩⟩
         ·exact ⟨20, 524288, ⟨h⟩, .inr ⟨rfl, rfl⟩⟩
        have HES := Shh.mk hE
        have C := Shh.mk (HMK.out E T hE wr HI.out.1 HI.out.2.1)
        clear hE
        go_wp2_with (first | refine wl_at 81 rfl (.pointer (some ⟨GS, k, none⟩)) rfl (at_int hlt rfl rfl rfl) ?_ | refine wl_at 82 rfl (.int .i64 E) rfl (load_int rfl HE.out rfl) ?_ | (go_at_call 10; refine (C.out).mono ?_))
        rintro e w7 ⟨pz, cz, nz, rfl, b2, HNZ, hnz⟩
        have HJ : Shh (Sl w7 w7.heap.size (.slice A ln c) bs ∧ KVars w7 ∧ Below N w w7 ∧ N ≤ w7.heap.size ∧ Row w7 GS 3 [.int .i64 18, .int .i64 20]) := by
         obtain ⟨h1, h2, h3, h4, h5⟩ := HI.out
         exact ⟨⟨h1.go b2, h2.step b2, h3.trans (b2.mono h4), Nat.le_trans h4 b2.size, h5.go b2⟩⟩
        clear b2 HI HE C
        go_wp2_with (refine wl_newdD 13 pz rfl rfl rfl rfl rfl rfl rfl rfl ?_)
        intro GZ w8 hGZ r8 b2
        try simp only [Act.put, arr9, hd9, tl9]
        have HI : Shh (Sl w8 w8.heap.size (.slice A ln c) bs ∧ KVars w8 ∧ Below N w w8 ∧ N ≤ w8.heap.size ∧ Row w8 GS 3 [.int .i64 18, .int .i64 20] ∧ Row w8 GZ 25 (dc pz)) := by
         obtain ⟨h1, h2, h3, h4, h5⟩ := HJ.out
         exact ⟨⟨h1.go b2, h2.step b2, h3.trans (b2.mono h4), Nat.le_trans h4 b2.size, h5.go b2, r8⟩⟩
        clear b2 r8 hGZ HJ
        by_cases hcz : cz = 0
        ·have HGT : Shh (decide (T < nz) = false) := ⟨by have := hnz hcz; simpa using this⟩
         subst hcz
         clear hnz
         go_wp2_with (first | refine wl_loadW 25 (.tmp 13) rfl GZ rfl 25 (dc pz) _ (by kernel_rfl) HI.out.2.2.2.2.2 Tryd.underlying25 rfl (info_dD.trans (size_dc _)) ?_ | (go_at_call 14; refine (HNZ.out _).mono ?_))
         rintro e w9 ⟨rfl, b2⟩
         have HJ : Shh (Sl w9 w9.heap.size (.slice A ln c) bs ∧ KVars w9 ∧ Below N w w9 ∧ N ≤ w9.heap.size ∧ Row w9 GS 3 [.int .i64 18, .int .i64 20]) := by
          obtain ⟨h1, h2, h3, h4, h5, h6⟩ := HI.out
          exact ⟨⟨h1.go b2, h2.step b2, h3.trans (b2.mono h4), Nat.le_trans h4 b2.size, h5.go b2⟩⟩
         clear b2 HI HNZ
         obtain ⟨E1, HE1⟩ : ∃ x : Int, Shh (x = E - 1) := ⟨_, ⟨rfl⟩⟩
         go_wp2_with (first | refine wl_atW 95 rfl (.int .i64 E1) (by kernel_rfl) (sub_n (i := E) (j := 1) ⟨HE1.out, by have := HES.out; have := HE1.out; omega, by have := HES.out; have := HE1.out; omega⟩ rfl rfl rfl) ?_ | refine wl_atW 96 rfl (.int .u64 E1) (by kernel_rfl) (conv_nu (by have := HES.out; have := HE1.out; omega) rfl rfl) ?_ | refine wl_atW 97 rfl (.int .i32 T) (by kernel_rfl) (shl_1d (by have := HES.out; have := HE1.out; omega) rfl rfl) ?_ | refine wl_atW 98 rfl (.bool false) (by kernel_rfl) (gtr_d false HGT.out rfl rfl rfl) ?_)
         go_roundw
         case rel => exact ⟨k + 1, by omega, by go_num, HJ⟩
         case measure => simp [intOf]; omega
        ·have hcz2 : (cz == 0) = false := by simpa using hcz
         go_wp2
         go_roundw
         case rel => exact ⟨k + 1, by omega, by go_num, ⟨⟨HI.out.1, HI.out.2.1, HI.out.2.2.1, HI.out.2.2.2.1, HI.out.2.2.2.2.1⟩⟩⟩
         case measure => simp [intOf]; omega
       ·have hlt2 : ¬ (k : Int) < 2 := by omega
        clear hlt
        go_wp2
        go_ret
        exact ⟨rfl, HI.out.2.2.1⟩
 ·clear HC1
  go_wp2
  go_loopw [5, 34] (fun s5 s34 wr => ∃ k : Nat, k ≤ 256 ∧ s34 = .int .i64 (k : Int) ∧ s5 = .int .i64 (nzD p k : Int) ∧ nzD p k ≤ k ∧ wr = w4) (fun _ i _ => 256 - (intOf i).toNat)
  case atStart => exact ⟨0, Nat.zero_le _, rfl, rfl, Nat.le_refl _, rfl⟩
  case round =>
   obtain ⟨k, hk, rfl, rfl, hle, hw⟩ := hrel
   subst hw
   by_cases hlt : k < 256
   ·have HG := Shh.mk ((HJ.out.2.2.2.2.cell k).trans (dc_get p hlt))
    have HS := Shh.mk (nzD_succ p k)
    have hlt2 : (k : Int) < 256 := by omega
    generalize p k = pk at *
    generalize hnk : nzD p k = nk at *
    have HNK := Shh.mk hnk
    clear hnk
    by_cases hz : pk = 0
    ·subst hz
     go_wp2_with (first | refine wl_at 38 rfl (.pointer (some ⟨G, k, none⟩)) rfl (at_dD hlt rfl rfl rfl) ?_ | refine wl_at 39 rfl (.int .i32 0) rfl (load_d rfl HG.out rfl) ?_)
     go_roundw
     case rel => exact ⟨k + 1, by omega, by go_num, by rw [HS.out]; rfl, by rw [HS.out]; show nk + 0 ≤ k + 1; omega, by first | exact rfl | trivial⟩
     case measure => simp [intOf]; omega
    ·have hoz : oneZ pk = 1 := if_neg hz
     go_wp2_with (first | refine wl_at 38 rfl (.pointer (some ⟨G, k, none⟩)) rfl (at_dD hlt rfl rfl rfl) ?_ | refine wl_at 39 rfl (.int .i32 pk) rfl (load_d rfl HG.out rfl) ?_)
     go_roundw
     case rel => exact ⟨k + 1, by omega, by go_num, by rw [HS.out, hoz]; go_num, by rw [HS.out, hoz]; omega, by first | exact rfl | trivial⟩
     case measure => simp [intOf]; omega
   ·have hlt2 : ¬ (k : Int) < 256 := by omega
    obtain ⟨w5, hw5⟩ : ∃ W, W = wr := ⟨_, rfl⟩
    have HI : Shh (Sl wr wr.heap.size (.slice A ln c) bs ∧ KVars wr ∧ Below N w wr ∧ N ≤ wr.heap.size) := ⟨HJ.out.1, HJ.out.2.1, HJ.out.2.2.1, HJ.out.2.2.2.1⟩
    clear HJ hw5 w5
    go_wp2_with (refine wl_two 55 2 4 rfl rfl rfl ?_)
    intro GS w6 hGS r6 b2
    try simp only [Act.put, arr9, hd9, tl9]
    have HJ : Shh (Sl w6 w6.heap.size (.slice A ln c) bs ∧ KVars w6 ∧ Below N w w6 ∧ N ≤ w6.heap.size ∧ Row w6 GS 3 [.int .i64 2, .int .i64 4]) := by
     obtain ⟨h1, h2, h3, h4⟩ := HI.out
     exact ⟨⟨h1.go b2, h2.step b2, h3.trans (b2.mono h4), Nat.le_trans h4 b2.size, r6⟩⟩
    clear b2 r6 hGS HI
    go_wp2
    go_loopw [57] (fun i wr => ∃ k : Nat, k ≤ 2 ∧ i = .int .i64 (k : Int) ∧ Shh (Sl wr wr.heap.size (.slice A ln c) bs ∧ KVars wr ∧ Below N w wr ∧ N ≤ wr.heap.size ∧ Row wr GS 3 [.int .i64 2, .int .i64 4])) (fun i _ => 2 - (intOf i).toNat)
    case atStart => exact ⟨0, Nat.zero_le _, rfl, HJ⟩
    case round =>
     clear HJ
     obtain ⟨k, hk, rfl, HI⟩ := hrel
     by_cases hlt : k < 2
     ·have hlt2 : (k : Int) < 2 := by omega
      obtain ⟨E, HE, hE⟩ : ∃ E : Int, Shh (wr.cell? ⟨GS, k, none⟩ = some (.int .i64 E)) ∧ (E = 2 ∨ E = 4) := by
       have h := HI.out.2.2.2.2.cell k
       rcases (show k = 0 ∨ k = 1 by omega) with rfl | rfl
       ·exact ⟨2, ⟨h⟩, .inl rfl⟩
       ·exact ⟨4, ⟨h⟩, .inr rfl⟩
      have HES := Shh.mk hE
      have C := Shh.mk (HRJ.out E hE wr HI.out.1 HI.out.2.1)
      clear hE
      go_wp2_with (first | refine wl_at 59 rfl (.pointer (some ⟨GS, k, none⟩)) rfl (at_int hlt rfl rfl rfl) ?_ | refine wl_at 60 rfl (.int .i64 E) rfl (load_int rfl HE.out rfl) ?_ | (go_at_call 8; refine (C.out).mono ?_))
      rintro e w7 ⟨pz, cz, nz, rfl, b2, HNZ, hnz⟩
      have HJ : Shh (Sl w7 w7.heap.size (.slice A ln c) bs ∧ KVars w7 ∧ Below N w w7 ∧ N ≤ w7.heap.size ∧ Row w7 GS 3 [.int .i64 2, .int .i64 4]) := by
       obtain ⟨h1, h2, h3, h4, h5⟩ := HI.out
       exact ⟨⟨h1.go b2, h2.step b2, h3.trans (b2.mono h4), Nat.le_trans h4 b2.size, h5.go b2⟩⟩
      clear b2 HI HE C
      go_wp2_with (refine wl_newdD 9 pz rfl rfl rfl rfl rfl rfl rfl rfl ?_)
      intro GZ w8 hGZ r8 b2
      try simp only [Act.put, arr9, hd9, tl9]
      have HI : Shh (Sl w8 w8.heap.size (.slice A ln c) bs ∧ KVars w8 ∧ Below N w w8 ∧ N ≤ w8.heap.size ∧ Row w8 GS 3 [.int .i64 2, .int .i64 4] ∧ Row w8 GZ 25 (dc pz)) := by
       obtain ⟨h1, h2, h3, h4, h5⟩ := HJ.out
       exact ⟨⟨h1.go b2, h2.step b2, h3.trans (b2.mono h4), Nat.le_trans h4 b2.size, h5.go b2, r8⟩⟩
      clear b2 r8 hGZ HJ
      by_cases hcz : cz = 0
      ·have HGT : Shh (decide (E < nz) = false) := ⟨by have := hnz hcz; simpa using this⟩
       subst hcz
       clear hnz
       go_wp2_with (first | refine wl_loadW 25 (.tmp 9) rfl GZ rfl 25 (dc pz) _ (by kernel_rfl) HI.out.2.2.2.2.2 Tryd.underlying25 rfl (info_dD.trans (size_dc _)) ?_ | (go_at_call 14; refine (HNZ.out _).mono ?_))
       rintro e w9 ⟨rfl, b2⟩
       have HJ : Shh (Sl w9 w9.heap.size (.slice A ln c) bs ∧ KVars w9 ∧ Below N w w9 ∧ N ≤ w9.heap.size ∧ Row w9 GS 3 [.int .i64 2, .int .i64 4]) := by
        obtain ⟨h1, h2, h3, h4, h5, h6⟩ := HI.out
        exact ⟨⟨h1.go b2, h2.step b2, h3.trans (b2.mono h4), Nat.le_trans h4 b2.size, h5.go b2⟩⟩
       clear b2 HI HNZ
       go_wp2_with (first | refine wl_atW 73 rfl (.int .i32 E) (by kernel_rfl) (conv_nd (by have := HES.out; unfold i32; omega) rfl rfl) ?_ | refine wl_atW 74 rfl (.bool false) (by kernel_rfl) (gtr_d false HGT.out rfl rfl rfl) ?_)
       go_roundw
       case rel => exact ⟨k + 1, by omega, by go_num, HJ⟩
       case measure => simp [intOf]; omega
      ·have hcz2 : (cz == 0) = false := by simpa using hcz
       go_wp2
       go_roundw
       case rel => exact ⟨k + 1, by omega, by go_num, ⟨⟨HI.out.1, HI.out.2.1, HI.out.2.2.1, HI.out.2.2.2.1, HI.out.2.2.2.2.1⟩⟩⟩
       case measure => simp [intOf]; omega
     ·have hlt2 : ¬ (k : Int) < 2 := by omega
      clear hlt
      go_wp2_with (refine wl_two 77 18 20 rfl rfl rfl ?_)
      intro GS w6 hGS r6 b2
      try simp only [Act.put, arr9, hd9, tl9]
      have HJ : Shh (Sl w6 w6.heap.size (.slice A ln c) bs ∧ KVars w6 ∧ Below N w w6 ∧ N ≤ w6.heap.size ∧ Row w6 GS 3 [.int .i64 18, .int .i64 20]) := by
       obtain ⟨h1, h2, h3, h4, _⟩ := HI.out
       exact ⟨⟨h1.go b2, h2.step b2, h3.trans (b2.mono h4), Nat.le_trans h4 b2.size, r6⟩⟩
      clear b2 r6 hGS HI
      go_wp2
      go_loopw [79] (fun i wr => ∃ k : Nat, k ≤ 2 ∧ i = .int .i64 (k : Int) ∧ Shh (Sl wr wr.heap.size (.slice A ln c) bs ∧ KVars wr ∧ Below N w wr ∧ N ≤ wr.heap.size ∧ Row wr GS 3 [.int .i64 18, .int .i64 20])) (fun i _ => 2 - (intOf i).toNat)
      case atStart => exact ⟨0, Nat.zero_le _, rfl, HJ⟩
      case round =>
       clear HJ
       obtain ⟨k, hk, rfl, HI⟩ := hrel
       by_cases hlt : k < 2
       ·have hlt2 : (k : Int) < 2 := by omega
        obtain ⟨E, T, HE, hE⟩ : ∃ E T : Int, Shh (wr.cell? ⟨GS, k, none⟩ = some (.int .i64 E)) ∧ ((E = 18 ∧ T = 131072) ∨ (E = 20 ∧ T = 524288)) := by
         have h := HI.out.2.2.2.2.cell k
         rcases (show k = 0 ∨ k = 1 by omega) with rfl | rfl
         ·exact ⟨18, 131072, ⟨h⟩, .inl ⟨rfl, rfl⟩⟩
         ·exact ⟨20, 524288, ⟨h⟩, .inr ⟨rfl, rfl⟩⟩
        have HES := Shh.mk hE
        have C := Shh.mk (HMK.out E T hE wr HI.out.1 HI.out.2.1)
        clear hE
        go_wp2_with (first | refine wl_at 81 rfl (.pointer (some ⟨GS, k, none⟩)) rfl (at_int hlt rfl rfl rfl) ?_ | refine wl_at 82 rfl (.int .i64 E) rfl (load_int rfl HE.out rfl) ?_ | (go_at_call 10; refine (C.out).mono ?_))
        rintro e w7 ⟨pz, cz, nz, rfl, b2, HNZ, hnz⟩
        have HJ : Shh (Sl w7 w7.heap.size (.slice A ln c) bs ∧ KVars w7 ∧ Below N w w7 ∧ N ≤ w7.heap.size ∧ Row w7 GS 3 [.int .i64 18, .int .i64 20]) := by
         obtain ⟨h1, h2, h3, h4, h5⟩ := HI.out
         exact ⟨⟨h1.go b2, h2.step b2, h3.trans (b2.mono h4), Nat.le_trans h4 b2.size, h5.go b2⟩⟩
        clear b2 HI HE C
        go_wp2_with (refine wl_newdD 13 pz rfl rfl rfl rfl rfl rfl rfl rfl ?_)
        intro GZ w8 hGZ r8 b2
        try simp only [Act.put, arr9, hd9, tl9]
        have HI : Shh (Sl w8 w8.heap.size (.slice A ln c) bs ∧ KVars w8 ∧ Below N w w8 ∧ N ≤ w8.heap.size ∧ Row w8 GS 3 [.int .i64 18, .int .i64 20] ∧ Row w8 GZ 25 (dc pz)) := by
         obtain ⟨h1, h2, h3, h4, h5⟩ := HJ.out
         exact ⟨⟨h1.go b2, h2.step b2, h3.trans (b2.mono h4), Nat.le_trans h4 b2.size, h5.go b2, r8⟩⟩
        clear b2 r8 hGZ HJ
        by_cases hcz : cz = 0
        ·have HGT : Shh (decide (T < nz) = false) := ⟨by have := hnz hcz; simpa using this⟩
         subst hcz
         clear hnz
         go_wp2_with (first | refine wl_loadW 25 (.tmp 13) rfl GZ rfl 25 (dc pz) _ (by kernel_rfl) HI.out.2.2.2.2.2 Tryd.underlying25 rfl (info_dD.trans (size_dc _)) ?_ | (go_at_call 14; refine (HNZ.out _).mono ?_))
         rintro e w9 ⟨rfl, b2⟩
         have HJ : Shh (Sl w9 w9.heap.size (.slice A ln c) bs ∧ KVars w9 ∧ Below N w w9 ∧ N ≤ w9.heap.size ∧ Row w9 GS 3 [.int .i64 18, .int .i64 20]) := by
          obtain ⟨h1, h2, h3, h4, h5, h6⟩ := HI.out
          exact ⟨⟨h1.go b2, h2.step b2, h3.trans (b2.mono h4), Nat.le_trans h4 b2.size, h5.go b2⟩⟩
         clear b2 HI HNZ
         obtain ⟨E1, HE1⟩ : ∃ x : Int, Shh (x = E - 1) := ⟨_, ⟨rfl⟩⟩
         go_wp2_with (first | refine wl_atW 95 rfl (.int .i64 E1) (by kernel_rfl) (sub_n (i := E) (j := 1) ⟨HE1.out, by have := HES.out; have := HE1.out; omega, by have := HES.out; have := HE1.out; omega⟩ rfl rfl rfl) ?_ | refine wl_atW 96 rfl (.int .u64 E1) (by kernel_rfl) (conv_nu (by have := HES.out; have := HE1.out; omega) rfl rfl) ?_ | refine wl_atW 97 rfl (.int .i32 T) (by kernel_rfl) (shl_1d (by have := HES.out; have := HE1.out; omega) rfl rfl) ?_ | refine wl_atW 98 rfl (.bool false) (by kernel_rfl) (gtr_d false HGT.out rfl rfl rfl) ?_)
         go_roundw
         case rel => exact ⟨k + 1, by omega, by go_num, HJ⟩
         case measure => simp [intOf]; omega
        ·have hcz2 : (cz == 0) = false := by simpa using hcz
         go_wp2
         go_roundw
         case rel => exact ⟨k + 1, by omega, by go_num, ⟨⟨HI.out.1, HI.out.2.1, HI.out.2.2.1, HI.out.2.2.2.1, HI.out.2.2.2.2.1⟩⟩⟩
         case measure => simp [intOf]; omega
       ·have hlt2 : ¬ (k : Int) < 2 := by omega
        clear hlt
        go_wp2
        go_ret
        exact ⟨rfl, HI.out.2.2.1⟩
end Go.Proofs.YtapjiknedghhfaaDoor
