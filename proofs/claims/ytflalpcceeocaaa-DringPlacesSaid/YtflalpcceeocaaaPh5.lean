/-
 THE PROGRAM'S OWN UnpackHints.
-/
import Derived.Test.YtflalpcceeocaaaPh4
namespace Go.Proofs.Ytflalpcceeocaaa
open Go.RowKit
set_option maxRecDepth 100000
section
variable {ops : Array Oper} {rest : List Oper} {o : Oper} {a : Act} {w : World} {Q : Exit → Act → World → Prop} {x y lo hi : Operand} {op : Oper}
theorem run_cutLH (A : Option Addr) (n c i j : Nat) (hij : i ≤ j) (hj : j ≤ c) (w : World) : (Instr.sliceAt 23 (.slice A n c) (some (.int .i64 (i : Int))) (some (.int .i64 (j : Int))) none).run Try.prog w = .ok (sliced A i j c 1) w := by
 rw [run_sliceAt_slice _ _ _ _ _ _ slice30, run_slice_lh w 23 A n c slice30 .i64 .i64 (i : Int) (j : Int) (by omega) (by omega) (by omega), elem30, run_sizeOf_u8, Result.andThen_ok, Int.toNat_natCast, Int.toNat_natCast]
/-- x[i:j] of a slice of bytes, within its length -/
theorem wl_cut (i j : Nat) (hgd : o.guard = none) (ho : o.op = .slice 23 x (some lo) (some hi) none) {v : Value} (hx : a.eval x = v) (hlo : a.eval lo = .int .i64 (i : Int)) (hhi : a.eval hi = .int .i64 (j : Int)) {B : Nat} {bs : List UInt8} (hs : Sl w B v bs) (hij : i ≤ j) (hj : j ≤ bs.length)
  (h : ∀ v', Sl w B v' ((bs.take j).drop i) → wpList Try.prog ops Q rest (a.put o.dst v') w) : wpList Try.prog ops Q (o :: rest) a w := by
 obtain ⟨A, c, rfl, h1, h2⟩ := hs.form
 have hcut := hs.cut i j hij hj (by omega)
 refine wpList_plain hgd fun K hK => ?_
 have hrun := run_cutLH A bs.length c i j hij (by omega) w
 unfold Oper.wp execOp
 simp only [ho, hx, hlo, hhi, Option.map_some, Option.map_none, Sem.run_bind, hrun, Result.andThen_ok]
 exact hK _ _ (h _ hcut)
theorem at_bo {g oo n c k : Nat} (hk : k < n) (ho : op.op = .indexAddr 23 x y) (hx : a.eval x = .slice (some ⟨g, oo, none⟩) n c) (hy : a.eval y = .int .i64 (k : Int)) : (execOp a.eval op).run Try.prog w = .ok (.value (.pointer (some ⟨g, oo + k, none⟩))) w := by
 have h1 : (k : Int) < (n : Int) := by omega
 have h2 : (0 : Int) ≤ (k : Int) := by omega
 unfold execOp
 simp only [ho, hx, hy]
 go_simp
theorem load_8 {q : Addr} {n : Nat} (ho : op.op = .load 5 x) (hc : w.cell? q = some (.int .u8 (n : Int))) (hx : a.eval x = .pointer (some q)) : (execOp a.eval op).run Try.prog w = .ok (.value (.int .u8 (n : Int))) w := by
 unfold execOp
 simp only [ho, hx]
 go_simp
end
/-- a cell of what is read -/
theorem Sl.get {w : World} {B : Nat} {v : Value} {bs : List UInt8} (h : Sl w B v bs) {k : Nat} (hk : k < bs.length) : ∃ g o c, v = .slice (some ⟨g, o, none⟩) bs.length c ∧ w.cell? ⟨g, o + k, none⟩ = some (.int .u8 ((bs.getD k 0).toNat : Int)) := by
 obtain ⟨A, c, rfl, _, _⟩ := h.form
 obtain ⟨g, o, rfl, _, h2⟩ := h.at_ (by omega)
 refine ⟨g, o, c, rfl, ?_⟩
 rw [h2 k hk, List.getD_eq_getElem?_getD, List.getElem?_eq_getElem hk]
 rfl
theorem plc_of {L M : Nat → Nat → Bool} : ∀ {n : Nat}, (∀ r, r < n → L r = M r) → plc L n = plc M n
 | 0, _ => rfl
 | n + 1, h => by rw [plc_succ, plc_succ, plc_of (n := n) (fun r hr => h r (by omega)), h n (by omega)]
theorem endsB_of {L M : Nat → Nat → Bool} : ∀ {n : Nat}, (∀ r, r < n → L r = M r) → endsB L n = endsB M n
 | 0, _ => rfl
 | n + 1, h => by rw [endsB, endsB, endsB_of (n := n) (fun r hr => h r (by omega)), plc_of h]
def okAll (b : List UInt8) (most n : Nat) : Prop := okU b most n ∧ (plc (unL b most) n).length ≤ most ∧ packB (unL b most) n most = b
def UnR (b : List UInt8) (most n : Nat) (E : Int) (m : Nat) : Prop := (okAll b most n → E = 0 ∧ m = n) ∧ (¬ okAll b most n → E = 150 ∧ m = 0)
theorem UnR.some_ (b : List UInt8) (most n : Nat) : ∃ E m, UnR b most n E m := by
 by_cases h : okAll b most n
 ·exact ⟨0, n, fun _ => ⟨rfl, rfl⟩, fun h2 => absurd h h2⟩
 ·exact ⟨150, 0, fun h2 => absurd h2 h, fun _ => ⟨rfl, rfl⟩⟩
/-- the answer: hints, and an error -/
def HintsErr (w : World) (E : Int) (m : Nat) (L : Nat → Nat → Bool) (e : Ending) (w' : World) : Prop := ∃ v, e = .returned (.tuple #[v, .int .i64 E]) ∧ HintsAt w' w'.heap.size v m L ∧ Below w.heap.size w w'
theorem bytesEqual_any (B B' : Nat) (v v' : Value) (bs cs : List UInt8) (w : World) (h1 : Sl w B v bs) (h2 : Sl w B' v' cs) :
  Calls Try.prog 14 #[v, v'] w fun e w' => e = .returned (.bool (bs == cs)) ∧ w = w' := by
 have hc1 := h1.conv Try.underlying23 Try.underlying5 Try.underlying9
 have hc2 := h2.conv Try.underlying23 Try.underlying5 Try.underlying9
 go_enter Try.func14, Try.ntmps14
 go_wp2
 go_ret
 exact ⟨rfl, rfl⟩
set_option maxHeartbeats 4000000 in
theorem UnpackHints_bad (n most : Int) (B : Nat) (v : Value) (bs : List UInt8) (w : World) (hs : Sl w B v bs) (hb : mayB n most = false ∨ (mayB n most = true ∧ (bs.length : Int) ≠ most + n)) (L : Nat → Nat → Bool) : Calls Try.prog 7 #[.int .i64 n, .int .i64 most, v] w (HintsErr w 1 0 L) := by
 unfold HintsErr
 obtain ⟨A, c, rfl, _, _⟩ := hs.form
 have HN0 := Shh.mk (HintsAt.nil_ w w.heap.size L)
 rcases hb with hb | ⟨hb, hne⟩
 ·have HMY : Shh (∀ W, Calls Try.prog 13 #[.int .i64 n, .int .i64 most] W (fun e w' => e = .returned (.bool false) ∧ W = w')) := ⟨fun W => by rw [← hb]; exact mayHints_any _ _ W⟩
  clear hb hs
  go_enter Try.func7, Try.ntmps7
  go_wp2_with (go_at_call 13; refine (HMY.out _).mono ?_)
  rintro e w1 ⟨rfl, rfl⟩
  go_wp2
  go_ret2
  exact ⟨_, rfl, HN0.out, Below.refl _ _⟩
 ·have HMY : Shh (∀ W, Calls Try.prog 13 #[.int .i64 n, .int .i64 most] W (fun e w' => e = .returned (.bool true) ∧ W = w')) := ⟨fun W => by rw [← hb]; exact mayHints_any _ _ W⟩
  have h5 : 0 ≤ n ∧ n ≤ 16 ∧ 0 ≤ most ∧ most ≤ 255 := by
   unfold mayB at hb
   simp at hb
   omega
  obtain ⟨t, ht⟩ : ∃ t : Int, t = most + n := ⟨_, rfl⟩
  have hw : IntKind.i64.wrap (most + n) = t := by rw [ht, IntKind.wrap_i64]; omega
  have hne2 : ((bs.length : Int) != t) = true := by rw [ht]; simp [hne]
  clear hb hs hne h5 ht
  go_enter Try.func7, Try.ntmps7
  go_wp2_with (go_at_call 13; refine (HMY.out _).mono ?_)
  rintro e w1 ⟨rfl, rfl⟩
  go_wp2
  go_ret2
  exact ⟨_, rfl, HN0.out, Below.refl _ _⟩
set_option maxHeartbeats 8000000 in
theorem UnpackHints_ok (n most : Nat) (hn : n ≤ 16) (hm : most ≤ 255) (B : Nat) (v : Value) (bs : List UInt8) (hl : bs.length = most + n) (w : World) (hs : Sl w B v bs) (hB : B ≤ w.heap.size) (E : Int) (m : Nat) (hE : UnR bs most n E m) : Calls Try.prog 7 #[.int .i64 (n : Int), .int .i64 (most : Int), v] w (HintsErr w E m (unL bs most)) := by
 unfold HintsErr
 generalize hN : w.heap.size = N at *
 have HMY : Shh (∀ W, Calls Try.prog 13 #[.int .i64 (n : Int), .int .i64 (most : Int)] W (fun e w' => e = .returned (.bool true) ∧ W = w')) := ⟨fun W => by
  have h : mayB (n : Int) (most : Int) = true := by
   unfold mayB
   simp
   omega
  rw [← h]
  exact mayHints_any _ _ W⟩
 have HR := Shh.mk hE
 obtain ⟨t, ht⟩ : ∃ t : Nat, Shh (t = most + n ∧ t ≤ 1000 ∧ bs.length = t) := ⟨_, ⟨rfl, by omega, hl⟩⟩
 have HN1 := Shh.mk (And.intro hn hm)
 obtain ⟨A, cb, rfl, hcb, hcb2⟩ := hs.form
 have FA : Shh (Sl w B (.slice A bs.length cb) bs ∧ Below N w w ∧ B ≤ N ∧ N ≤ w.heap.size) := ⟨hs, Below.refl _ _, hB, by rw [hN]; exact Nat.le_refl _⟩
 rw [ht.out.2.2] at FA ⊢
 have hw1 : IntKind.i64.wrap ((most : Int) + (n : Int)) = (t : Int) := by rw [IntKind.wrap_i64]; have := ht.out; omega
 clear hs hB hn hm hE hl hcb hcb2
 go_enter Try.func7, Try.ntmps7
 go_wp2_with ((go_at_call 13; refine (HMY.out _).mono ?_))
 rintro e w1 ⟨rfl, rfl⟩
 go_wp2_with (first | refine wl_makeHL n 29 (by have := HN1.out; omega) rfl rfl rfl rfl rfl ?_)
 intro G w1 hG r b
 try simp only [Act.put, arr9, hd9, tl9]
 rw [show (fun _ _ => false : Nat → Nat → Bool) = sthU bs most 0 0 from (sthU_zero bs most).symm] at r
 have FB : Shh (Sl w1 (B) (.slice A t cb) (bs) ∧ Below N w w1 ∧ B ≤ N ∧ N ≤ w1.heap.size ∧ Row w1 G 39 (hl n (sthU bs most 0 0)) ∧ N ≤ G) := by
  obtain ⟨h0, h1, h2, h3⟩ := FA.out
  have := b.size
  have := hG.out
  exact ⟨h0.below (b.mono (by omega)), h1.trans (b.mono (by omega)), h2, (by omega), r, (by omega)⟩
 clear b FA r hG hw1
 have FC : Shh ((0 = stU bs most 0 ∧ 0 ≤ most ∧ okU bs most 0) ∧ Row w1 G 39 (hl n (sthU bs most 0 0)) ∧ Sl w1 (B) (.slice A t cb) (bs) ∧ Below N w w1 ∧ B ≤ N ∧ N ≤ w1.heap.size ∧ N ≤ G) := by
  have h := FB.out
  obtain ⟨h0, h1, h2, h3, h4, h5⟩ := h
  have h := And.intro ((And.intro (rfl : 0 = stU bs most 0) (And.intro (Nat.zero_le most) (fun r hr => absurd hr (Nat.not_lt_zero r) : okU bs most 0)))) (And.intro (h4) (And.intro (h0) (And.intro (h1) (And.intro (h2) (And.intro (h3) (h5))))))
  exact ⟨h⟩
 clear FB
 go_wp2
 go_loopw [9, 31] (fun p i wr => ∃ k p0 : Nat, k ≤ n ∧ i = .int .i64 (k : Int) ∧ p = .int .i64 (p0 : Int) ∧ Shh ((p0 = stU bs most k ∧ p0 ≤ most ∧ okU bs most k) ∧ Row wr G 39 (hl n (sthU bs most k 0)) ∧ Sl wr (B) (.slice A t cb) (bs) ∧ Below N w wr ∧ B ≤ N ∧ N ≤ wr.heap.size ∧ N ≤ G)) (fun _ i _ => n - (intOf i).toNat)
 case atStart => exact ⟨0, 0, Nat.zero_le _, rfl, rfl, ⟨by skip; exact FC.out⟩⟩
 case round =>
  clear FC
  obtain ⟨k, p, hk, rfl, rfl, HI⟩ := hrel
  by_cases hlt : k < n
  ·have hlt2 : (k : Int) < (n : Int) := by omega
   have hn16 := HN1.out.1
   have hpk : most + k < bs.length := by have := ht.out; omega
   obtain ⟨g, oo, cb', he, hcell⟩ := (HI.out.2.2.1).get hpk
   rw [ht.out.2.2] at he
   obtain ⟨rfl, rfl⟩ : A = some ⟨g, oo, none⟩ ∧ cb = cb' := by cases he; exact ⟨rfl, rfl⟩
   clear he hpk
   obtain ⟨e, he⟩ : ∃ e : Nat, e = (bs.getD (most + k) 0).toNat := ⟨_, rfl⟩
   obtain ⟨pk, hpk⟩ : ∃ pk : Nat, Shh (pk = most + k ∧ pk < t) := ⟨_, ⟨rfl, by have := ht.out; omega⟩⟩
   rw [← he, ← hpk.out.1] at hcell
   have HC := Shh.mk hcell
   have HE : Shh (e = stU bs most (k + 1) ∧ e < 256) := ⟨he, by rw [he]; exact UInt8.toNat_lt _⟩
   clear he hcell
   by_cases hep : e < p
   ·have hi1 : (e : Int) < (p : Int) := by omega
    have HF : Shh (E = 150 ∧ m = 0) := ⟨HR.out.2 (fun hok => by
     have h1 := hok.1 k hlt
     rw [← HE.out.1, ← (HI.out.1).1] at h1
     omega)⟩
    go_wp2_with (first | refine wl_at 37 rfl (.int .i64 (pk : Int)) rfl (add_n (i := (most : Int)) (j := (k : Int)) ⟨by have := hpk.out; omega, by omega, by have := hpk.out; have := ht.out; omega⟩ rfl rfl rfl) ?_ | refine wl_at 38 rfl (.pointer (some ⟨g, oo + pk, none⟩)) rfl (at_bo hpk.out.2 rfl rfl rfl) ?_ | refine wl_at 39 rfl (.int .u8 (e : Int)) rfl (load_8 rfl HC.out rfl) ?_ | refine wl_at 40 rfl (.int .i64 (e : Int)) rfl (conv_8i HE.out.2 rfl rfl) ?_)
    go_ret2
    exact ⟨_, by rw [HF.out.1]; rfl, by rw [HF.out.2]; exact HintsAt.nil_ _ _ _, HI.out.2.2.2.1⟩
   ·have hi1 : ¬ (e : Int) < (p : Int) := by omega
    by_cases hem : most < e
    ·have hi2 : (most : Int) < (e : Int) := by omega
     have HF : Shh (E = 150 ∧ m = 0) := ⟨HR.out.2 (fun hok => by
      have h1 := hok.1 k hlt
      rw [← HE.out.1, ← (HI.out.1).1] at h1
      omega)⟩
     go_wp2_with (first | refine wl_at 37 rfl (.int .i64 (pk : Int)) rfl (add_n (i := (most : Int)) (j := (k : Int)) ⟨by have := hpk.out; omega, by omega, by have := hpk.out; have := ht.out; omega⟩ rfl rfl rfl) ?_ | refine wl_at 38 rfl (.pointer (some ⟨g, oo + pk, none⟩)) rfl (at_bo hpk.out.2 rfl rfl rfl) ?_ | refine wl_at 39 rfl (.int .u8 (e : Int)) rfl (load_8 rfl HC.out rfl) ?_ | refine wl_at 40 rfl (.int .i64 (e : Int)) rfl (conv_8i HE.out.2 rfl rfl) ?_)
     go_ret2
     exact ⟨_, by rw [HF.out.1]; rfl, by rw [HF.out.2]; exact HintsAt.nil_ _ _ _, HI.out.2.2.2.1⟩
    ·have hi2 : ¬ (most : Int) < (e : Int) := by omega
     have HOK : Shh (okU bs most (k + 1) ∧ p = stU bs most k ∧ p ≤ e ∧ e ≤ most) := ⟨by
      have h0 := HI.out.1
      refine ⟨fun r hr => ?_, h0.1, by omega, by omega⟩
      by_cases hrk : r = k
      ·rw [hrk, ← HE.out.1, ← h0.1]; omega
      ·exact h0.2.2 r (by omega)⟩
     have HCUT : Shh (p ≤ e ∧ e ≤ bs.length) := ⟨by have := ht.out; omega⟩
     go_wp2_with (first | refine wl_at 37 rfl (.int .i64 (pk : Int)) rfl (add_n (i := (most : Int)) (j := (k : Int)) ⟨by have := hpk.out; omega, by omega, by have := hpk.out; have := ht.out; omega⟩ rfl rfl rfl) ?_ | refine wl_at 38 rfl (.pointer (some ⟨g, oo + pk, none⟩)) rfl (at_bo hpk.out.2 rfl rfl rfl) ?_ | refine wl_at 39 rfl (.int .u8 (e : Int)) rfl (load_8 rfl HC.out rfl) ?_ | refine wl_at 40 rfl (.int .i64 (e : Int)) rfl (conv_8i HE.out.2 rfl rfl) ?_ | refine wl_cut p e rfl rfl rfl rfl rfl (HI.out.2.2.1) HCUT.out.1 HCUT.out.2 ?_)
     intro v' hsl
     obtain ⟨cs, hcs⟩ : ∃ cs, cs = (bs.take e).drop p := ⟨_, rfl⟩
     obtain ⟨d, hd⟩ : ∃ d : Nat, Shh (d = e - p ∧ cs.length = d ∧ d ≤ 255 ∧ ∀ j, j < d → cs.getD j 0 = bs.getD (p + j) 0) := by
      refine ⟨e - p, ⟨rfl, ?_, by have := HOK.out; have := HN1.out; omega, fun j hj => ?_⟩⟩
      ·rw [hcs]; simp; have := HCUT.out; omega
      ·rw [hcs]
       simp only [List.getD_eq_getElem?_getD, List.getElem?_drop]
       rw [List.getElem?_take_of_lt (by omega)]
     rw [← hcs] at hsl
     have HSL := Shh.mk hsl
     obtain ⟨A2, c2, rfl, _, _⟩ := hsl.form
     clear hsl hcs
     rw [hd.out.2.1] at HSL ⊢
     have HJ : Shh (Row wr G 39 (hl n (sthU bs most k 0)) ∧ Sl wr (B) (.slice (some ⟨g, oo, none⟩) t cb) (bs) ∧ Below N w wr ∧ B ≤ N ∧ N ≤ wr.heap.size ∧ N ≤ G ∧ Sl wr (B) (.slice A2 d c2) (cs)) := by
      have h := HI.out
      obtain ⟨h0, h1, h2, h3, h4, h5, h6⟩ := h
      have h := And.intro (h1) (And.intro (h2) (And.intro (h3) (And.intro (h4) (And.intro (h5) (And.intro (h6) (HSL.out))))))
      exact ⟨h⟩
     clear HI
     clear HSL
     go_wp2
     go_loopw [54] (fun i wr => ∃ q : Nat, q ≤ d ∧ i = .int .i64 (q : Int) ∧ Shh (Row wr G 39 (hl n (sthU bs most k q)) ∧ Sl wr (B) (.slice (some ⟨g, oo, none⟩) t cb) (bs) ∧ Below N w wr ∧ B ≤ N ∧ N ≤ wr.heap.size ∧ N ≤ G ∧ Sl wr (B) (.slice A2 d c2) (cs))) (fun i _ => d - (intOf i).toNat)
     case atStart => exact ⟨0, Nat.zero_le _, rfl, ⟨by skip; exact HJ.out⟩⟩
     case round =>
      clear HJ
      obtain ⟨q, hq, rfl, HI⟩ := hrel
      by_cases hql : q < d
      ·have hql2 : (q : Int) < (d : Int) := by omega
       have hd255 := hd.out.2.2.1
       have hqc : q < cs.length := by rw [hd.out.2.1]; exact hql
       obtain ⟨g2, o2, c2', he, hcell⟩ := (HI.out.2.2.2.2.2.2).get hqc
       rw [hd.out.2.1] at he
       obtain ⟨rfl, rfl⟩ : A2 = some ⟨g2, o2, none⟩ ∧ c2 = c2' := by cases he; exact ⟨rfl, rfl⟩
       clear he hqc
       rw [hd.out.2.2.2 q hql, HOK.out.2.1] at hcell
       have HST := Shh.mk (sthU_step bs most k q)
       obtain ⟨y, hy⟩ : ∃ y : Nat, y = (bs.getD (stU bs most k + q) 0).toNat := ⟨_, rfl⟩
       rw [← hy] at hcell HST
       have HC2 := Shh.mk hcell
       have HY : Shh (y < 256) := ⟨by rw [hy]; exact UInt8.toNat_lt _⟩
       clear hy hcell
       obtain ⟨z, hz⟩ : ∃ z : Nat, Shh (z = k * 256 + y) := ⟨_, ⟨rfl⟩⟩
       go_wp2_with (first | refine wl_at 56 rfl (.pointer (some ⟨g2, o2 + q, none⟩)) rfl (at_bo hql rfl rfl rfl) ?_ | refine wl_at 57 rfl (.int .u8 (y : Int)) rfl (load_8 rfl HC2.out rfl) ?_ | refine wl_at 61 rfl (.pointer (some ⟨G, 0 + k * 256, none⟩)) rfl (at_hl hlt rfl rfl rfl) ?_ | refine wl_at 62 rfl (.pointer (some ⟨G, z, none⟩)) rfl (by rw [show z = 0 + k * 256 + y by rw [hz.out]; omega]; exact at_hin8 HY.out rfl rfl rfl) ?_ | refine wl_storeHL rfl hz.out hlt HY.out rfl rfl rfl HI.out.1 ?_)
       intro w2 r bt zb
       rw [HST.out] at r
       have HJ : Shh (Row w2 G 39 (hl n (sthU bs most k (q + 1))) ∧ Sl w2 (B) (.slice (some ⟨g, oo, none⟩) t cb) (bs) ∧ Below N w w2 ∧ B ≤ N ∧ N ≤ w2.heap.size ∧ N ≤ G ∧ Sl w2 (B) (.slice (some ⟨g2, o2, none⟩) d c2) (cs)) := by
        obtain ⟨h0, h1, h2, h3, h4, h5, h6⟩ := HI.out
        have := h0.lt
        have hb := bt.under (Nat.le_of_lt h0.lt) (Nat.le_refl _)
        have := hb.size
        exact ⟨r, h1.below (hb.mono (by omega)), h2.trans (hb.mono (by omega)), h3, (by omega), h5, h6.below (hb.mono (by omega))⟩
       clear bt HI r zb
       go_wp2
       go_roundw
       case rel => exact ⟨q + 1, by omega, by go_num, HJ⟩
       case measure => simp [intOf]; omega
      ·have hql2 : ¬ (q : Int) < (d : Int) := by omega
       have HNX := Shh.mk (sthU_next bs most k q (by rw [← HE.out.1, ← HOK.out.2.1, ← hd.out.1]; omega))
       have HJ : Shh ((e = stU bs most (k + 1) ∧ e ≤ most ∧ okU bs most (k + 1)) ∧ Row wr G 39 (hl n (sthU bs most (k + 1) 0)) ∧ Sl wr (B) (.slice (some ⟨g, oo, none⟩) t cb) (bs) ∧ Below N w wr ∧ B ≤ N ∧ N ≤ wr.heap.size ∧ N ≤ G) := by
        have h := HI.out
        rw [HNX.out] at h
        obtain ⟨h0, h1, h2, h3, h4, h5, h6⟩ := h
        have h := And.intro ((And.intro HE.out.1 (And.intro HOK.out.2.2.2 HOK.out.1))) (And.intro (h0) (And.intro (h1) (And.intro (h2) (And.intro (h3) (And.intro (h4) (h5))))))
        exact ⟨h⟩
       clear HI
       go_wp2
       go_roundw
       case rel => exact ⟨k + 1, e, by omega, by go_num, rfl, HJ⟩
       case measure => simp [intOf]; omega
  ·have hlt2 : ¬ (k : Int) < (n : Int) := by omega
   have hkn : k = n := by omega
   have HOK : Shh (okU bs most n) := ⟨by have h1 := HI.out.1; rw [← hkn]; exact h1.2.2⟩
   have HHA : Shh (HintsAt wr wr.heap.size (.slice (some ⟨G, 0, none⟩) n n) n (unL bs most)) := ⟨by
    have h1 := HI.out.2.1
    rw [hkn] at h1
    exact (HintsAt.of_row h1 (by have := HN1.out; unfold maxLen; omega) h1.lt).of_eq (fun r hr => sthU_all bs most n r hr)⟩
   clear hkn
   have HPK := Shh.mk (PackHints_ok n most HN1.out.1 HN1.out.2 wr.heap.size _ (unL bs most) wr HHA.out (Nat.le_refl _))
   have HJ : Shh (Sl wr (B) (.slice A t cb) (bs) ∧ Below N w wr ∧ B ≤ N ∧ N ≤ wr.heap.size ∧ N ≤ G ∧ HintsAt wr wr.heap.size (.slice (some ⟨G, 0, none⟩) n n) (n) (unL bs most)) := by
    have h := HI.out
    obtain ⟨h0, h1, h2, h3, h4, h5, h6⟩ := h
    have h := And.intro (h2) (And.intro (h3) (And.intro (h4) (And.intro (h5) (And.intro (h6) (HHA.out)))))
    exact ⟨h⟩
   clear HI
   clear HHA
   obtain ⟨PE, hPE⟩ : ∃ PE, PE = pkE (unL bs most) n most := ⟨_, rfl⟩
   obtain ⟨PB, hPB⟩ : ∃ PB, PB = pkB (unL bs most) n most := ⟨_, rfl⟩
   rw [← hPE, ← hPB] at HPK
   have HPE := Shh.mk hPE
   have HPB := Shh.mk hPB
   clear hPE hPB
   by_cases hfit : (plc (unL bs most) n).length ≤ most
   ·have hPE0 : PE = 0 := by rw [HPE.out]; exact if_pos hfit
    subst hPE0
    have HPB2 : Shh (PB = packB (unL bs most) n most) := ⟨by rw [HPB.out]; exact if_pos hfit⟩
    go_wp2_with ((go_at_call 5; refine (HPK.out).mono ?_))
    rintro e w5 ⟨v5, rfl, hv5, b5⟩
    have HK : Shh (Sl w5 (B) (.slice A t cb) (bs) ∧ Below N w w5 ∧ B ≤ N ∧ N ≤ w5.heap.size ∧ N ≤ G ∧ HintsAt w5 w5.heap.size (.slice (some ⟨G, 0, none⟩) n n) (n) (unL bs most) ∧ Sl w5 w5.heap.size (v5) (PB)) := by
     obtain ⟨h0, h1, h2, h3, h4, h5⟩ := HJ.out
     have := b5.size
     exact ⟨h0.below (b5.mono (by omega)), h1.trans (b5.mono (by omega)), h2, (by omega), h4, h5.go b5, hv5⟩
    clear b5 HJ hv5
    have HEQ := Shh.mk (bytesEqual_any _ _ _ _ _ _ w5 (HK.out.2.2.2.2.2.2) (HK.out.1))
    by_cases hpb : PB = bs
    ·have hq : (PB == bs) = true := by simp [hpb]
     rw [hq] at HEQ
     have HF : Shh (E = 0 ∧ m = n) := ⟨HR.out.1 ⟨HOK.out, hfit, by rw [← HPB2.out]; exact hpb⟩⟩
     clear hq hpb
     go_wp2_with ((go_at_call 14; refine (HEQ.out).mono ?_))
     rintro e w6 ⟨rfl, rfl⟩
     go_wp2
     go_ret2
     exact ⟨_, by rw [HF.out.1]; rfl, by rw [HF.out.2]; exact HK.out.2.2.2.2.2.1, HK.out.2.1⟩
    ·have hq : (PB == bs) = false := by simp [hpb]
     rw [hq] at HEQ
     have HF : Shh (E = 150 ∧ m = 0) := ⟨HR.out.2 (fun hok => hpb (by rw [HPB2.out]; exact hok.2.2))⟩
     clear hq hpb
     go_wp2_with ((go_at_call 14; refine (HEQ.out).mono ?_))
     rintro e w6 ⟨rfl, rfl⟩
     go_wp2
     go_ret2
     exact ⟨_, by rw [HF.out.1]; rfl, by rw [HF.out.2]; exact HintsAt.nil_ _ _ _, HK.out.2.1⟩
   ·have hPE3 : PE = 3 := by rw [HPE.out]; exact if_neg hfit
    subst hPE3
    have HF : Shh (E = 150 ∧ m = 0) := ⟨HR.out.2 (fun hok => hfit hok.2.1)⟩
    go_wp2_with ((go_at_call 5; refine (HPK.out).mono ?_))
    rintro e w5 ⟨v5, rfl, hv5, b5⟩
    have HK : Shh (Sl w5 (B) (.slice A t cb) (bs) ∧ Below N w w5 ∧ B ≤ N ∧ N ≤ w5.heap.size ∧ N ≤ G ∧ HintsAt w5 w5.heap.size (.slice (some ⟨G, 0, none⟩) n n) (n) (unL bs most) ∧ Sl w5 w5.heap.size (v5) (PB)) := by
     obtain ⟨h0, h1, h2, h3, h4, h5⟩ := HJ.out
     have := b5.size
     exact ⟨h0.below (b5.mono (by omega)), h1.trans (b5.mono (by omega)), h2, (by omega), h4, h5.go b5, hv5⟩
    clear b5 HJ hv5
    go_wp2
    go_ret2
    exact ⟨_, by rw [HF.out.1]; rfl, by rw [HF.out.2]; exact HintsAt.nil_ _ _ _, HK.out.2.1⟩
end Go.Proofs.Ytflalpcceeocaaa
