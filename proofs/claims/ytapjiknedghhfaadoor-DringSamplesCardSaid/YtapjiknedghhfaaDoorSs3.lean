/-
 THE PROGRAM'S OWN signed and ball.
-/
import Derived.Test.YtapjiknedghhfaaDoorSs2
namespace Go.Proofs.YtapjiknedghhfaaDoor
open Go.RowKit
set_option maxRecDepth 100000
def SgnIs (w : World) (e : Ending) (w' : World) : Prop := ∃ s : Int, (s = 1 ∨ s = 8380416) ∧ e = .returned (.int .i32 s) ∧ w = w'
set_option maxHeartbeats 2000000 in
theorem signed_any (q n : Nat) (hn : n < 64) (SB : List UInt8) (hl : SB.length = 8) (w : World) (hr : Row w q 5 (Lib.byteCells SB)) : Calls Tryd.prog 40 #[.slice (some ⟨q, 0, none⟩) 8 8, .int .i64 (n : Int)] w (SgnIs w) := by
 obtain ⟨m, Hm, hm⟩ : ∃ m : Nat, Shh ((m : Int) = (n : Int).tdiv 8 ∧ -9223372036854775808 ≤ (m : Int) ∧ (m : Int) ≤ 9223372036854775807) ∧ m < 8 := ⟨n / 8, ⟨by rw [Int.tdiv_eq_ediv_of_nonneg (by omega)]; omega, by omega, by omega⟩, by omega⟩
 obtain ⟨r, Hr, hr8⟩ : ∃ r : Nat, Shh ((r : Int) = (n : Int).tmod 8 ∧ -9223372036854775808 ≤ (r : Int) ∧ (r : Int) ≤ 9223372036854775807) ∧ r < 8 := ⟨n % 8, ⟨by rw [Int.tmod_eq_emod_of_nonneg (by omega)]; omega, by omega, by omega⟩, by omega⟩
 have c0 := hr.cell m
 rw [byteCells_at SB (by omega)] at c0
 generalize SB[m].toNat = b at *
 have C0 := Shh.mk c0
 have hr0 : ¬ (r : Int) < 0 := by omega
 clear c0 hr hn hr8 hl
 go_enter Tryd.func40, Tryd.ntmps40
 go_wp2_with (first | refine wl_at 7 rfl (.int .i64 (m : Int)) rfl (quo_n Hm.out (by decide) rfl rfl rfl) ?_ | refine wl_at 8 rfl (.pointer (some ⟨q, m, none⟩)) rfl (at_u8z hm rfl rfl rfl) ?_ | refine wl_at 9 rfl (.int .u8 (b : Int)) rfl (load_u8s rfl C0.out rfl) ?_ | refine wl_at 11 rfl (.int .i64 (r : Int)) rfl (rem_n Hr.out (by decide) rfl rfl rfl) ?_)
 all_goals go_ret
 all_goals first
  | exact ⟨1, .inl rfl, rfl, rfl⟩
  | exact ⟨8380416, .inr rfl, rfl, rfl⟩
/-- how many of the first k numbers are not 0 -/
def nzD (f : Nat → Int) : Nat → Nat
 | 0 => 0
 | k + 1 => if f k = 0 then nzD f k else nzD f k + 1
def oneZ (v : Int) : Nat := if v = 0 then 0 else 1
theorem nzD_succ (f : Nat → Int) (k : Nat) : nzD f (k + 1) = nzD f k + oneZ (f k) := by
 show (if f k = 0 then nzD f k else nzD f k + 1) = _
 unfold oneZ
 split <;> rfl
theorem nzD_far (f : Nat → Int) (j : Nat) (v : Int) : ∀ k, k ≤ j → nzD (dup f j v) k = nzD f k
 | 0, _ => rfl
 | k + 1, h => by
  rw [nzD_succ, nzD_succ, nzD_far f j v k (by omega)]
  unfold dup
  rw [if_neg (by omega)]
theorem nzD_dup (f : Nat → Int) (j : Nat) (v : Int) : ∀ k, j < k → nzD (dup f j v) k + oneZ (f j) = nzD f k + oneZ v
 | 0, h => by omega
 | k + 1, h => by
  rw [nzD_succ, nzD_succ]
  by_cases e : j = k
  ·subst e
   rw [nzD_far f j v j (Nat.le_refl _), show dup f j v j = v from if_pos rfl]
   omega
  ·have h1 := nzD_dup f j v k (by omega)
   rw [show dup f j v k = f k from if_neg (fun q => e q.symm)]
   omega
def triD (v : Int) : Prop := v = 0 ∨ v = 1 ∨ v = 8380416
/-- n signs are shuffled in -/
def KB (tau n : Nat) (f : Nat → Int) : Prop := (∀ i, triD (f i)) ∧ (∀ i, 256 - tau + n ≤ i → f i = 0) ∧ nzD f 256 = n
theorem nzD_zero : ∀ k, nzD (fun _ => 0) k = 0
 | 0 => rfl
 | k + 1 => by rw [nzD_succ, nzD_zero k]; rfl
theorem KB.start (tau : Nat) : KB tau 0 (fun _ => 0) := ⟨fun _ => .inl rfl, fun _ _ => rfl, nzD_zero 256⟩
theorem KB.step {tau n : Nat} {f : Nat → Int} (h : KB tau n f) (ht : tau ≤ 64) (hn : n < tau) {i j : Nat} (hi : i = 256 - tau + n) (hj : j ≤ i) {s : Int} (hs : s = 1 ∨ s = 8380416) : KB tau (n + 1) (dup (dup f i (f j)) j s) := by
 obtain ⟨h1, h2, h3⟩ := h
 refine ⟨fun x => ?_, fun x hx => ?_, ?_⟩
 ·unfold dup
  split
  ·exact .inr hs
  ·split
   ·exact h1 j
   ·exact h1 x
 ·unfold dup
  rw [if_neg (by omega), if_neg (by omega)]
  exact h2 x (by omega)
 ·have e1 := nzD_dup f i (f j) 256 (by omega)
  have e2 := nzD_dup (dup f i (f j)) j s 256 (by omega)
  have e3 : f i = 0 := h2 i (by omega)
  have e4 : oneZ s = 1 := by unfold oneZ; rw [if_neg (by omega)]
  have e5 : oneZ (f i) = 0 := by rw [e3]; rfl
  have e6 : dup f i (f j) j = f j := by
   unfold dup
   split
   ·rename_i e
    rw [e]
   ·rfl
  rw [e6] at e2
  omega
def ballK (tau : Nat) (p : Nat → Int) (c : Int) : Prop := (c = 0 ∧ (∀ i, triD (p i)) ∧ nzD p 256 = tau) ∨ (c = 130 ∧ ∀ i, triD (p i))
section
variable {a : Act} {x y : Operand} {op : Oper} {w : World}
theorem at_dD8 {g k : Nat} (hk : k < 256) (ho : op.op = .indexAddr 25 x y) (hx : a.eval x = .pointer (some ⟨g, 0, none⟩)) (hy : a.eval y = .int .u8 (k : Int)) : (execOp a.eval op).run Tryd.prog w = .ok (.value (.pointer (some ⟨g, k, none⟩))) w := by
 have h1 : (k : Int) < 256 := by omega
 have h2 : (0 : Int) ≤ (k : Int) := by omega
 unfold execOp
 simp only [ho, hx, hy]
 go_simp
end
set_option maxHeartbeats 8000000 in
theorem ball_any (tau : Nat) (htau : 1 ≤ tau ∧ tau ≤ 64) (g : Nat) (S : Sp) (w : World) (hx : XofAt w g S 136 0) (hv : KVars w) (hg : 0 ≠ g) (ha : S.at_ ≤ 136) (hgl : g < w.heap.size) : Calls Tryd.prog 28 #[.int .i64 (tau : Int), .func (.func 19) #[.pointer (some ⟨g, 0, none⟩)] #[]] w (SmpG w g (ballK tau)) := by
 unfold SmpG
 generalize hN : w.heap.size = N at *
 have HA : Shh (∀ t, (S.behind 136 (8 + 64 * t)).at_ ≤ 136 ∧ (S.behind 136 (8 + 64 * t)).behind 136 64 = S.behind 136 (8 + 64 * (t + 1)) ∧ ((S.behind 136 (8 + 64 * t)).outs 136 64).length = 64) := ⟨fun t => ⟨Sp.behind_at 136 (by decide) _ S ha, by rw [← behind_add15]; congr 1, Sp.outs_length _ _ _⟩⟩
 have HG0 : Shh (0 ≠ g) := ⟨hg⟩
 have HT0 := Shh.mk htau
 have HI0 : Shh (XofAt w g S 136 0 ∧ KVars w ∧ g < N ∧ w.heap.size = N ∧ S.at_ ≤ 136) := ⟨hx, hv, hgl, hN, ha⟩
 obtain ⟨c0, Hc0⟩ : ∃ c : Int, Shh (c = 256 - (tau : Int) ∧ -9223372036854775808 ≤ c ∧ c ≤ 9223372036854775807) := ⟨_, ⟨rfl, by omega, by omega⟩⟩
 clear hx hv hg ha hgl hN htau
 go_enter Tryd.func28, Tryd.ntmps28
 go_wp2_with (refine wl_newzD 4 rfl rfl rfl ?_)
 intro N1 w2 hN1 r2 b2
 try simp only [Act.put, arr9, hd9, tl9]
 obtain rfl : N = N1 := HI0.out.2.2.2.1.symm.trans hN1.out.symm
 have HI1 : Shh (XofAt w2 g S 136 0 ∧ KVars w2 ∧ g < N ∧ Row w2 N 25 (dc fun _ => 0) ∧ Below N w w2 ∧ S.at_ ≤ 136) := by
  obtain ⟨h1, h2, h3, h5, h6⟩ := HI0.out
  rw [h5] at b2
  exact ⟨⟨SpAt.below h1 (h5.symm ▸ b2), h2.step (h5.symm ▸ b2), h3, r2, b2, h6⟩⟩
 clear r2 b2 hN1 HI0
 have CS : Shh (Calls Tryd.prog 19 #[.pointer (some ⟨g, 0, none⟩), .int .i64 8] w2 (ReadIs w2 g S 136 0 8)) := ⟨read_any HI1.out.1 HI1.out.2.1 HG0.out HI1.out.2.2.2.2.2 (by decide) (by decide) 8 (by decide) (by decide)⟩
 have HSL : Shh ((S.outs 136 8).length = 8) := ⟨Sp.outs_length _ _ _⟩
 go_wp2
 try go_step3
 go_wp2_with (go_at_call 19; refine (CS.out).mono ?_)
 rintro e w3 ⟨rfl, r3, x3, b3⟩
 generalize S.outs 136 8 = SB at *
 generalize hqs : w2.heap.size = qs at *
 have HI2 : Shh (XofAt w3 g (S.behind 136 (8 + 64 * 0)) 136 (8 + 64 * 0) ∧ KVars w3 ∧ g < N ∧ Row w3 N 25 (dc fun _ => 0) ∧ But N g w w3 ∧ N < qs ∧ Row w3 qs 5 (Lib.byteCells SB)) := by
  obtain ⟨h1, h2, h3, h4, h5, h6⟩ := HI1.out
  have hlt := h4.lt
  rw [hqs] at hlt
  rw [← hqs] at b3
  exact ⟨⟨x3, h2.but b3 HG0.out, h3, b3.row h4 h4.lt (by omega), (But.of h5 g).trans (b3.mono (Nat.le_of_lt h4.lt)), hlt, r3⟩⟩
 clear r3 x3 b3 CS HI1 hqs
 go_wp2_with (refine wl_newzD 8 rfl rfl rfl ?_)
 intro G w4 hG r4 b4
 try simp only [Act.put, arr9, hd9, tl9]
 have HJ : Shh (Row w4 N 25 (dc fun _ => 0) ∧ Row w4 G 25 (dc (fun _ => 0 : Nat → Int)) ∧ XofAt w4 g (S.behind 136 (8 + 64 * 0)) 136 (8 + 64 * 0) ∧ KVars w4 ∧ But N g w w4 ∧ g < N ∧ N < qs ∧ qs < G ∧ Row w4 qs 5 (Lib.byteCells SB)) := by
  obtain ⟨h1, h2, h3, h4, h5, h6, h7⟩ := HI2.out
  exact ⟨⟨h4.go b4, r4, SpAt.below h1 b4, h2.step b4, h5.trans (But.of (b4.mono (Nat.le_of_lt h4.lt)) g), h3, h6, by rw [hG.out]; exact h7.lt, h7.go b4⟩⟩
 clear r4 b4 HI2 hG
 go_wp2
 try go_step3
 try go_wp2
 go_loopg [9, 24] 16 (fun gk s9 s24 wr => ∃ (t n : Nat) (f : Nat → Int), t + gk = 16 ∧ s24 = .int .i64 (t : Int) ∧ s9 = .int .i64 (n : Int) ∧ n < tau ∧ Shh (KB tau n f) ∧ Shh (Row wr N 25 (dc fun _ => 0) ∧ Row wr G 25 (dc f) ∧ XofAt wr g (S.behind 136 (8 + 64 * t)) 136 (8 + 64 * t) ∧ KVars wr ∧ But N g w wr ∧ g < N ∧ N < qs ∧ qs < G ∧ Row wr qs 5 (Lib.byteCells SB)))
 case atStart => exact ⟨0, 0, fun _ => 0, rfl, rfl, rfl, HT0.out.1, ⟨KB.start tau⟩, HJ⟩
 case round =>
  clear HJ
  obtain ⟨t, n, f, htk, rfl, rfl, hn, HKB, HI⟩ := hrel
  cases gk with
  | zero =>
   have ht : ¬ (t : Int) < 16 := by omega
   have hn2 : (n : Int) < (tau : Int) := by omega
   have HO := HI
   go_wp2_with (first | refine wl_at 69 rfl (.agg (dc fun _ => 0).toArray) rfl (build_zero rfl) ?_ | refine wpList_store_any rfl 25 (.tmp 4) (.tmp 69) rfl N rfl (dc fun _ => 0) rfl 25 _ HO.out.1 (info_dD.trans (size_dc _)) (same_dc _ _) (dc_one _) ?_)
   intro w9 hr9 b9 _
   have hb9 : But N g w w9 := HO.out.2.2.2.2.1.trans (But.of (b9.under (Nat.le_of_lt HO.out.1.lt) (Nat.le_refl _)) g)
   have hk9 : ballK tau (fun _ => 0) 130 := .inr ⟨rfl, fun _ => .inl rfl⟩
   go_wp2
   try rw [Exit.noGoto_ret]
   exact ret_row_slotS Tryd.results28 rfl rfl rfl hr9 Tryd.underlying25 rfl (info_dD.trans (size_dc _)) ⟨_, _, rfl, hb9, hk9⟩
  | succ g' =>
   have ht : (t : Int) < 16 := by omega
   have hax := HA.out t
   have CR : Shh (Calls Tryd.prog 19 #[.pointer (some ⟨g, 0, none⟩), .int .i64 64] wr (ReadIs wr g (S.behind 136 (8 + 64 * t)) 136 (8 + 64 * t) 64)) := ⟨read_any HI.out.2.2.1 HI.out.2.2.2.1 HG0.out hax.1 (by decide) (by decide) 64 (by decide) (by omega)⟩
   have HB := Shh.mk hax.2
   clear hax
   go_wp2_with (go_at_call 19; refine (CR.out).mono ?_)
   rintro e w5 ⟨rfl, r4, x4, b4⟩
   rw [HB.out.1] at x4
   generalize hL : (S.behind 136 (8 + 64 * t)).outs 136 64 = L at *
   generalize hq : wr.heap.size = q at *
   have HJ : Shh (Row w5 N 25 (dc fun _ => 0) ∧ Row w5 G 25 (dc f) ∧ XofAt w5 g (S.behind 136 (8 + 64 * (t + 1))) 136 (8 + 64 * (t + 1)) ∧ KVars w5 ∧ But N g w w5 ∧ g < N ∧ N < qs ∧ qs < G ∧ Row w5 qs 5 (Lib.byteCells SB) ∧ Row w5 q 5 (Lib.byteCells L) ∧ G < q) := by
    obtain ⟨h1, h2, h3, h4, h5, h6, h7, h8, h9⟩ := HI.out
    rw [← hq] at b4
    exact ⟨⟨b4.row h1 h1.lt (by omega), b4.row h2 h2.lt (by omega), x4, h4.but b4 HG0.out, h5.trans (b4.mono (Nat.le_of_lt h1.lt)), h6, h7, h8, b4.row h9 h9.lt (by omega), r4, by rw [← hq]; exact h2.lt⟩⟩
   have HLL := Shh.mk HB.out.2
   clear r4 x4 b4 HI CR HB hq hL
   go_wp2
   go_loopg [9, 37] 64 (fun gm s9 s37 wq => ∃ (k n2 : Nat) (f2 : Nat → Int), k + gm = 64 ∧ s37 = .int .i64 (k : Int) ∧ s9 = .int .i64 (n2 : Int) ∧ n2 < tau ∧ Shh (KB tau n2 f2) ∧ Shh (Row wq N 25 (dc fun _ => 0) ∧ Row wq G 25 (dc f2) ∧ XofAt wq g (S.behind 136 (8 + 64 * (t + 1))) 136 (8 + 64 * (t + 1)) ∧ KVars wq ∧ But N g w wq ∧ g < N ∧ N < qs ∧ qs < G ∧ Row wq qs 5 (Lib.byteCells SB) ∧ Row wq q 5 (Lib.byteCells L) ∧ G < q))
   case atStart => exact ⟨0, n, f, rfl, rfl, rfl, hn, HKB, HJ⟩
   case round =>
    clear HJ HKB
    obtain ⟨k, n2, f2, hkm, rfl, rfl, hn2, HKB, HI⟩ := hrel
    cases gk with
    | zero =>
     have hk : ¬ (k : Int) < 64 := by omega
     have HI2 : Shh (Row wr N 25 (dc fun _ => 0) ∧ Row wr G 25 (dc f2) ∧ XofAt wr g (S.behind 136 (8 + 64 * (t + 1))) 136 (8 + 64 * (t + 1)) ∧ KVars wr ∧ But N g w wr ∧ g < N ∧ N < qs ∧ qs < G ∧ Row wr qs 5 (Lib.byteCells SB)) := by
      obtain ⟨h1, h2, h3, h4, h5, h6, h7, h8, h9, _⟩ := HI.out
      exact ⟨⟨h1, h2, h3, h4, h5, h6, h7, h8, h9⟩⟩
     clear HI
     go_wp2
     go_roundg g'
     case measure => omega
     case rel => exact ⟨t + 1, n2, f2, by omega, by go_num, rfl, hn2, HKB, HI2⟩
    | succ h' =>
     have hk : (k : Int) < 64 := by omega
     have hk2 : k < 64 := by omega
     have hkl : k < L.length := by rw [HLL.out]; exact hk2
     have c1 := HI.out.2.2.2.2.2.2.2.2.2.1.cell k
     rw [byteCells_at L hkl] at c1
     have hb := UInt8.toNat_lt L[k]
     generalize L[k].toNat = jb at *
     have hb2 : jb < 256 := hb
     have C1 := Shh.mk c1
     clear c1 hkl hb
     have htb := HT0.out
     obtain ⟨i, Hi, Hie, hi2⟩ : ∃ i : Nat, Shh ((i : Int) = c0 + (n2 : Int) ∧ -9223372036854775808 ≤ (i : Int) ∧ (i : Int) ≤ 9223372036854775807) ∧ Shh (i = 256 - tau + n2) ∧ i < 256 := ⟨256 - tau + n2, ⟨by have := Hc0.out.1; omega, by omega, by omega⟩, ⟨rfl⟩, by omega⟩
     by_cases hji : jb ≤ i
     ·have hji2 : ¬ (i : Int) < (jb : Int) := by omega
      have HST := Shh.mk (fun s (hs : s = 1 ∨ s = 8380416) => HKB.out.step htb.2 hn2 Hie.out hji hs)
      have c2 := HI.out.2.1.cell jb
      rw [dc_get _ hb2] at c2
      have C2 := Shh.mk c2
      generalize f2 jb = fj at *
      have h64 : n2 < 64 := by omega
      clear c2 hji
      go_wp2_with (first | refine wl_at 39 rfl (.pointer (some ⟨q, k, none⟩)) rfl (at_u8z hk2 rfl rfl rfl) ?_ | refine wl_at 40 rfl (.int .u8 (jb : Int)) rfl (load_u8s rfl C1.out rfl) ?_ | refine wl_at 42 rfl (.int .i64 c0) rfl (sub_n Hc0.out rfl rfl rfl) ?_ | refine wl_at 44 rfl (.int .i64 (i : Int)) rfl (add_n Hi.out rfl rfl rfl) ?_ | refine wl_at 46 rfl (.int .i64 (jb : Int)) rfl (conv_8n hb2 rfl rfl) ?_ | refine wl_at 51 rfl (.pointer (some ⟨G, jb, none⟩)) rfl (at_dD8 hb2 rfl rfl rfl) ?_ | refine wl_at 52 rfl (.int .i32 fj) rfl (load_d rfl C2.out rfl) ?_ | refine wl_at 53 rfl (.pointer (some ⟨G, i, none⟩)) rfl (at_dD hi2 rfl rfl rfl) ?_ | refine wl_storeD rfl hi2 rfl rfl rfl HI.out.2.1 ?_)
      intro w6 r6 b6 z6
      have HM : Shh (Row w6 N 25 (dc fun _ => 0) ∧ Row w6 G 25 (dc (dup f2 i fj)) ∧ XofAt w6 g (S.behind 136 (8 + 64 * (t + 1))) 136 (8 + 64 * (t + 1)) ∧ KVars w6 ∧ But N g w w6 ∧ g < N ∧ N < qs ∧ qs < G ∧ Row w6 qs 5 (Lib.byteCells SB) ∧ Row w6 q 5 (Lib.byteCells L) ∧ G < q) := by
       obtain ⟨h1, h2, h3, h4, h5, h6, h7, h8, h9, h10, h11⟩ := HI.out
       have hB := b6.under (Nat.le_of_lt h1.lt) (show N ≤ G by omega)
       have hB2 : Below G wr w6 := b6.under (Nat.le_of_lt h2.lt) (Nat.le_refl _)
       exact ⟨⟨b6.row h1 h1.lt (by omega), r6, ⟨b6.row h3.row h3.lt (by omega), rfl, h3.len⟩, h4.under hB2 (by have := h4.pos; have := h3.lt; omega), h5.trans (But.of hB g), h6, h7, h8, b6.row h9 h9.lt (by omega), b6.row h10 h10.lt (by omega), h11⟩⟩
      clear r6 b6 z6 HI C1 C2
      go_wp2_with (go_at_call 40; refine (signed_any qs n2 h64 SB HSL.out _ HM.out.2.2.2.2.2.2.2.2.1).mono ?_)
      rintro e w7 ⟨s, hs, rfl, rfl⟩
      have HSS := Shh.mk (HST.out s hs)
      clear HST hs
      by_cases hf : n2 + 1 = tau
      ·have hf2 : ((n2 : Int) + 1 == (tau : Int)) = true := by simp; omega
       go_wp2_with (first | refine wl_at 58 rfl (.pointer (some ⟨G, jb, none⟩)) rfl (at_dD8 hb2 rfl rfl rfl) ?_ | refine wl_storeD rfl hb2 rfl rfl rfl HM.out.2.1 ?_)
       intro w8 r8 b8 z8
       have HO : Shh (Row w8 N 25 (dc fun _ => 0) ∧ Row w8 G 25 (dc (dup (dup f2 i fj) jb s)) ∧ But N g w w8) := by
        obtain ⟨h1, h2, h3, h4, h5, h6, h7, h8, h9, h10, h11⟩ := HM.out
        exact ⟨⟨b8.row h1 h1.lt (by omega), r8, h5.trans (But.of (b8.under (Nat.le_of_lt h1.lt) (show N ≤ G by omega)) g)⟩⟩
       clear r8 b8 z8 HM
       have hk9 : ballK tau (dup (dup f2 i fj) jb s) 0 := .inl ⟨rfl, HSS.out.1, by rw [← hf]; exact HSS.out.2.2⟩
       have HK9 := Shh.mk hk9
       clear hk9 HSS
       obtain ⟨m1, Hm1⟩ : ∃ m : Nat, Shh (m = tau) := ⟨_, ⟨rfl⟩⟩
       go_wp2_with (first
        | refine wl_at 60 rfl (.int .i64 (tau : Int)) rfl (add_n (i := (n2 : Int)) (j := 1) ⟨by omega, by omega, by omega⟩ rfl rfl rfl) ?_
        | refine wl_at 63 rfl (.bool true) rfl (eql_n (i := (tau : Int)) (j := (tau : Int)) true (by simp) rfl rfl rfl) ?_
        | refine wpList_load_any rfl 25 (.tmp 8) rfl G rfl 25 (dc (dup (dup f2 i fj) jb s)) (.array 256 21) HO.out.2.1 Tryd.underlying25 rfl (info_dD.trans (size_dc _)) ?_
        | refine wpList_store_any rfl 25 (.tmp 4) (.tmp 70) rfl N rfl (dc (dup (dup f2 i fj) jb s)) rfl 25 _ HO.out.1 (info_dD.trans (size_dc _)) (same_dc _ _) (dc_one _) ?_)
       intro w9 hr9 b9 _
       have hb9 : But N g w w9 := HO.out.2.2.trans (But.of (b9.under (Nat.le_of_lt HO.out.1.lt) (Nat.le_refl _)) g)
       have hk9 := HK9.out
       go_wp2
       try rw [Exit.noGoto_ret]
       exact ret_row_slotS Tryd.results28 rfl rfl rfl hr9 Tryd.underlying25 rfl (info_dD.trans (size_dc _)) ⟨_, _, rfl, hb9, hk9⟩
      ·have hn4 : n2 + 1 < tau := by omega
       obtain ⟨n4, Hn4⟩ : ∃ m : Nat, Shh ((m : Int) = (n2 : Int) + 1 ∧ -9223372036854775808 ≤ (m : Int) ∧ (m : Int) ≤ 9223372036854775807) := ⟨n2 + 1, ⟨by omega, by omega, by omega⟩⟩
       have HNE : Shh (((n4 : Int) == (tau : Int)) = false) := ⟨by have := Hn4.out.1; simp; omega⟩
       go_wp2_with (first | refine wl_at 58 rfl (.pointer (some ⟨G, jb, none⟩)) rfl (at_dD8 hb2 rfl rfl rfl) ?_ | refine wl_storeD rfl hb2 rfl rfl rfl HM.out.2.1 ?_)
       intro w8 r8 b8 z8
       have HO : Shh (Row w8 N 25 (dc fun _ => 0) ∧ Row w8 G 25 (dc (dup (dup f2 i fj) jb s)) ∧ XofAt w8 g (S.behind 136 (8 + 64 * (t + 1))) 136 (8 + 64 * (t + 1)) ∧ KVars w8 ∧ But N g w w8 ∧ g < N ∧ N < qs ∧ qs < G ∧ Row w8 qs 5 (Lib.byteCells SB) ∧ Row w8 q 5 (Lib.byteCells L) ∧ G < q) := by
        obtain ⟨h1, h2, h3, h4, h5, h6, h7, h8, h9, h10, h11⟩ := HM.out
        have hB := b8.under (Nat.le_of_lt h1.lt) (show N ≤ G by omega)
        have hB2 : Below G w6 w8 := b8.under (Nat.le_of_lt h2.lt) (Nat.le_refl _)
        exact ⟨⟨b8.row h1 h1.lt (by omega), r8, ⟨b8.row h3.row h3.lt (by omega), rfl, h3.len⟩, h4.under hB2 (by have := h4.pos; have := h3.lt; omega), h5.trans (But.of hB g), h6, h7, h8, b8.row h9 h9.lt (by omega), b8.row h10 h10.lt (by omega), h11⟩⟩
       clear r8 b8 z8 HM
       go_wp2_with (first | refine wl_at 60 rfl (.int .i64 (n4 : Int)) rfl (add_n Hn4.out rfl rfl rfl) ?_ | refine wl_at 63 rfl (.bool false) rfl (eql_n false HNE.out rfl rfl rfl) ?_)
       go_roundg h'
       case measure => omega
       case rel => exact ⟨k + 1, n2 + 1, _, by omega, by go_num, by rw [show n4 = n2 + 1 by have := Hn4.out.1; omega], hn4, HSS, HO⟩
     ·have hji2 : (i : Int) < (jb : Int) := by omega
      clear hji
      go_wp2_with (first | refine wl_at 39 rfl (.pointer (some ⟨q, k, none⟩)) rfl (at_u8z hk2 rfl rfl rfl) ?_ | refine wl_at 40 rfl (.int .u8 (jb : Int)) rfl (load_u8s rfl C1.out rfl) ?_ | refine wl_at 42 rfl (.int .i64 c0) rfl (sub_n Hc0.out rfl rfl rfl) ?_ | refine wl_at 44 rfl (.int .i64 (i : Int)) rfl (add_n Hi.out rfl rfl rfl) ?_ | refine wl_at 46 rfl (.int .i64 (jb : Int)) rfl (conv_8n hb2 rfl rfl) ?_)
      go_roundg h'
      case measure => omega
      case rel => exact ⟨k + 1, n2, f2, by omega, by go_num, rfl, hn2, HKB, HI⟩
end Go.Proofs.YtapjiknedghhfaaDoor
