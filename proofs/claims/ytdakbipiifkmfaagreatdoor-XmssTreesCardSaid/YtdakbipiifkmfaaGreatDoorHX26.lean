import Derived.Test.YtdakbipiifkmfaaGreatDoorHY
/-
 WALK: the document's own Rows.
-/
namespace Go.Proofs.YtdakbipiifkmfaaGreatDoor
open Go.RowKit
set_option maxRecDepth 100000
section
variable {a : Act} {x y : Operand} {op : Oper} {w : World}
theorem sub_one {t t1 : Nat} (h : t1 = t + 1) (hl : t1 ≤ 1000) (ho : op.op = .binOp .sub 3 x (.const (.int .i64 1)) 3) (hx : a.eval x = .int .i64 (t1 : Int)) : (execOp a.eval op).run Tryz.prog w = .ok (.value (.int .i64 (t : Int))) w := by
 have hc : a.eval (.const (.int .i64 1)) = .int .i64 1 := rfl
 have e : (t1 : Int) - 1 = (t : Int) := by omega
 have hw : IntKind.i64.wrap (t : Int) = (t : Int) := by rw [IntKind.wrap_i64]; omega
 unfold execOp
 simp only [ho, hx, hc]
 go_simp
end
theorem info_row11 : (Tryz.prog.info? 82).map (fun i => (i.zero, i.size, i.bytes)) = some (some (.slice none 0 0), 1, 24) := by kernel_rfl
set_option maxHeartbeats 8000000 in
theorem refRows11_any (x : S5) (vs vp vb : Value) (sd pf pb : List UInt8) (w : World) (hbad : badE x [sd, pf, pb] = 0) (hh4 : x.h ≤ 4) (hs : Sl w w.heap.size vs sd) (hp : Sl w w.heap.size vp pf) (hb : Sl w w.heap.size vb pb) :
  Calls Tryz.prog 22 #[x.v, keyV vs vp vb] w (RowsIs w (rowsX x.s x.n x.l.toNat x.h.toNat sd pb)) := by
 unfold RowsIs
 obtain ⟨As, cs, rfl, _, _⟩ := hs.form
 obtain ⟨Ap, cp, rfl, _, _⟩ := hp.form
 obtain ⟨Ab, cb, rfl, _, _⟩ := hb.form
 have hx := (badE_ok hbad).1
 have hl1 := (badE_ok hbad).2 sd (by simp)
 have hl3 := (badE_ok hbad).2 pb (by simp)
 obtain ⟨H, hH, _⟩ := ok_h hx
 have hH4 : H ≤ 4 := by omega
 obtain ⟨Nn, Lx, hNn, hLx, hN32⟩ : ∃ Nn Lx : Nat, x.n = (Nn : Int) ∧ x.l = (Lx : Int) ∧ Nn ≤ 32 := by
  rcases S5.ok_is hx with h | h
  ·exact ⟨24, 51, h.1, h.2, by decide⟩
  ·exact ⟨32, 67, h.1, h.2, by decide⟩
 have hNt : x.n.toNat = Nn := by omega
 have hLt : x.l.toNat = Lx := by omega
 have hHt : x.h.toNat = H := by omega
 obtain ⟨lf, hlf⟩ : ∃ lf, lf = fun i => leafB x.s x.n Lx sd pb i := ⟨_, rfl⟩
 obtain ⟨F, hF⟩ : ∃ F, F = rwF x.s x.n pb := ⟨_, rfl⟩
 obtain ⟨l0, hl0⟩ : ∃ l0, l0 = (List.range (2 ^ H)).map lf := ⟨_, rfl⟩
 have HRS : Shh (rowsX x.s x.n x.l.toNat x.h.toNat sd pb = (List.range (H + 1)).map (lvl F l0)) := ⟨by rw [hl0, hlf, hF, hLt, hHt]; rfl⟩
 have HLF : Shh (∀ (W : World) (i : Nat), i < 4294967296 → Sl W W.heap.size (.slice As sd.length cs) sd → Sl W W.heap.size (.slice Ap pf.length cp) pf → Sl W W.heap.size (.slice Ab pb.length cb) pb → Calls Tryz.prog 16 #[x.v, .agg #[.slice As sd.length cs, .slice Ap pf.length cp, .slice Ab pb.length cb], .int .u32 (i : Int)] W (SlF W (lf i))) := ⟨fun W i h0 h1 h2 h3 => by rw [hlf]; exact refLeaf11_any x hx _ _ _ sd pf pb i h0 Lx Nn hLx hNn (by omega) (by omega) W h1 h2 h3⟩
 have HND : Shh (∀ (t j : Nat) (vl vr : Value) (l r : List UInt8) (W : World), t < 4294967296 → j < 4294967296 → Sl W W.heap.size (.slice Ab pb.length cb) pb → Sl W W.heap.size vl l → Sl W W.heap.size vr r → l.length = Nn → r.length = Nn → Calls Tryz.prog 45 #[x.v, .slice Ab pb.length cb, adrV (adr11 2 0 t j), vl, vr] W (SlF W (F t j l r))) := ⟨fun t j vl vr l r W h1 h2 h3 h4 h5 h6 h7 => by rw [hF]; exact refNode11_any x hx _ _ _ pb l r (adr11 2 0 t j) rfl W h3 h4 h5 (by rw [hNt]; exact h6) (by rw [hNt]; exact h7) (by omega)⟩
 have HRL : Shh (∀ t, t ≤ H → (lvl F l0 t).length = 2 ^ (H - t) ∧ ∀ b ∈ lvl F l0 t, b.length = Nn) := ⟨fun t ht => by
  have e : lvl F l0 t = rowB x.s x.n x.l.toNat H sd pb t := by rw [hl0, hlf, hF, hLt]; rfl
  rw [e]
  exact ⟨rowB_length _ _ _ _ _ _ _ ht, fun b hb => by rw [← hNt]; exact rowB_all hx H sd pb t b hb⟩⟩
 have HARG : Shh (∀ W, Below w.heap.size w W → Sl W W.heap.size (.slice As sd.length cs) sd ∧ Sl W W.heap.size (.slice Ap pf.length cp) pf ∧ Sl W W.heap.size (.slice Ab pb.length cb) pb) := ⟨fun W b => ⟨hs.go b, hp.go b, hb.go b⟩⟩
 rw [HRS.out]
 obtain ⟨RS, hRS⟩ : ∃ RS, RS = (List.range (H + 1)).map (lvl F l0) := ⟨_, rfl⟩
 have HRR := Shh.mk hRS
 rw [← hRS]
 obtain ⟨M2, hM2⟩ : ∃ M2, M2 = 2 ^ H := ⟨_, rfl⟩
 have hM16 : M2 ≤ 16 := by
  have h1 : 2 ^ H ≤ 2 ^ 4 := Nat.pow_le_pow_right (by decide) hH4
  omega
 have HL0 : Shh (l0 = (List.range M2).map lf) := ⟨by rw [hl0, hM2]⟩
 have hsh : IntKind.u32.wrap ((2 : Int) ^ H) = (M2 : Int) := by
  have e : (2 : Int) ^ H = ((2 ^ H : Nat) : Int) := by rw [Int.natCast_pow]; rfl
  rw [e, IntKind.wrap_u32, ← hM2]
  omega
 clear hs hp hb hlf hF hl0 HRS hRS hM2 hl1 hl3 hNt hLt hHt hx hbad hh4 hN32
 unfold S5.v at HLF HND ⊢
 unfold keyV
 obtain ⟨W0, hW0⟩ : ∃ W, W = (w.alloc (.cells #[.int .u32 x.c, .bool x.s, .int .i64 x.n, .int .i64 x.h, .int .i64 x.l] 27)).alloc (.cells #[.slice As sd.length cs, .slice Ap pf.length cp, .slice Ab pb.length cb] 25) := ⟨_, rfl⟩
 obtain ⟨W, hW⟩ : ∃ W, W = W0.alloc (.cells #[] 23) := ⟨_, rfl⟩
 have HW : Shh (Row W w.heap.size 27 [.int .u32 x.c, .bool x.s, .int .i64 x.n, .int .i64 x.h, .int .i64 x.l] ∧ Row W (w.heap.size + 1) 25 [.slice As sd.length cs, .slice Ap pf.length cp, .slice Ab pb.length cb] ∧ OwnP W w.heap.size (fun _ => 0) (.slice (some ⟨w.heap.size + 1 + 1, 0, none⟩) 0 0) ((List.range 0).map lf) ∧ Below w.heap.size w W) := by
  have hz : W0.heap.size = w.heap.size + 1 + 1 := by rw [hW0, asz, asz]
  have ho := OwnP.made W0 w.heap.size (fun _ => 0) (by omega)
  rw [hz] at ho
  rw [← hW] at ho
  refine ⟨?_, ?_, ho, ?_⟩
  ·rw [hW, hW0]; exact ((Row.new_ rfl rfl).alloc _).alloc _
  ·rw [hW, hW0]; exact (Row.new_ (by rw [asz]) rfl).alloc _
  ·rw [hW, hW0]; exact Below.chain (Below.chain (below1 _ _) (below1 _ _)) (below1 _ _)
 generalize x.c = xc at *
 generalize x.s = xs at *
 generalize x.n = xn at *
 generalize x.h = xh at *
 generalize x.l = xl at *
 subst hLx
 subst hNn
 subst hH
 obtain ⟨i0, hi0, hz0', hsz0, hby0⟩ := info_parts info_sl
 have HI := Shh.mk (And.intro hi0 (And.intro hz0' (And.intro hsz0 hby0)))
 obtain ⟨i1, hi1, hz1, hsz1, hby1⟩ := info_parts info_row11
 have HI1 := Shh.mk (And.intro hi1 (And.intro hz1 (And.intro hsz1 hby1)))
 clear hi0 hz0' hsz0 hby0 hi1 hz1 hsz1 hby1
 go_enter Tryz.func22, Tryz.ntmps22
 go_wp2
 rw [← hW0, ← hW]
 clear hW hW0
 go_loopw [5, 16] (fun l i wr => ∃ k : Nat, k ≤ M2 ∧ i = .int .u32 (k : Int) ∧ Shh (Row wr w.heap.size 27 [.int .u32 xc, .bool xs, .int .i64 (Nn : Int), .int .i64 (H : Int), .int .i64 (Lx : Int)] ∧ Row wr (w.heap.size + 1) 25 [.slice As sd.length cs, .slice Ap pf.length cp, .slice Ab pb.length cb] ∧ OwnP wr w.heap.size (fun _ => 0) l ((List.range k).map lf) ∧ Below w.heap.size w wr)) (fun _ i _ => M2 - (intOf i).toNat)
 case atStart => exact ⟨0, Nat.zero_le _, rfl, HW⟩
 case round =>
  clear HW
  obtain ⟨k, hk, rfl, HL⟩ := hrel
  obtain ⟨bk, hbk⟩ : ∃ bk, bk = (List.range k).map lf := ⟨_, rfl⟩
  have HBK : Shh (bk = (List.range k).map lf ∧ bk.length = k) := ⟨hbk, by rw [hbk]; simp⟩
  rw [← hbk] at HL
  clear hbk
  obtain ⟨Al, cl, rfl⟩ := HL.out.2.2.1.form
  by_cases hlt : k < M2
  ·have HK : Shh (k < 4294967296) := ⟨by omega⟩
   have HA := Shh.mk (HARG.out wr HL.out.2.2.2)
   go_wp2_with (first | refine wpList_load_any rfl 27 (.tmp 2) rfl w.heap.size rfl 27 [.int .u32 xc, .bool xs, .int .i64 (Nn : Int), .int .i64 (H : Int), .int .i64 (Lx : Int)] _ HL.out.1 Tryz.underlying27 rfl info_xms ?_ | refine wpList_load_any rfl 25 (.tmp 3) rfl (w.heap.size + 1) rfl 25 [.slice As sd.length cs, .slice Ap pf.length cp, .slice Ab pb.length cb] _ HL.out.2.1 Tryz.underlying25 rfl info_key11 ?_ | (go_at_call 16; refine (HLF.out wr k HK.out HA.out.1 HA.out.2.1 HA.out.2.2).mono ?_))
   unfold SlF
   rintro e Y ⟨v, rfl, gv, bv, tv⟩
   obtain ⟨Ak, ck, vEq, _, _⟩ := gv.form
   subst vEq
   have HY : Shh (Row Y w.heap.size 27 [.int .u32 xc, .bool xs, .int .i64 (Nn : Int), .int .i64 (H : Int), .int .i64 (Lx : Int)] ∧ Row Y (w.heap.size + 1) 25 [.slice As sd.length cs, .slice Ap pf.length cp, .slice Ab pb.length cb] ∧ OwnP Y w.heap.size (fun _ => 0) (.slice Al bk.length cl) bk ∧ Below w.heap.size w Y ∧ Sl Y Y.heap.size (.slice Ak (lf k).length ck) (lf k) ∧ UN Y 0 (.slice Ak (lf k).length ck)) := ⟨HL.out.1.go bv, HL.out.2.1.go bv, HL.out.2.2.1.go bv, Below.chain HL.out.2.2.2 bv, gv, UN.all tv⟩
   clear HL HA bv gv tv
   obtain ⟨hi0, hz0, hsz0, hby0⟩ := HI.out
   go_wp2_with (at_builtin; refine wpList_appendP (c := 1) _ 82 i0 (.slice none 0 0) Tryz.underlying82 hi0 hz0 hsz0 hby0 rfl rfl _ _ rfl (HY.out.2.2.1.go (below1 _ _)) (fun _ => Nat.zero_le _) rfl rfl ((Row.new_ rfl rfl).cell 0) (HY.out.2.2.2.2.1.go (below1 _ _)) (HY.out.2.2.2.2.2.go (below1 _ _)) (by have := HBK.out.2; omega) (by rw [asz]; have := HY.out.2.2.2.1.size; omega) ?_)
   intro v2 w1 ho2 hg2
   have HR : Shh (Row w1 w.heap.size 27 [.int .u32 xc, .bool xs, .int .i64 (Nn : Int), .int .i64 (H : Int), .int .i64 (Lx : Int)] ∧ Row w1 (w.heap.size + 1) 25 [.slice As sd.length cs, .slice Ap pf.length cp, .slice Ab pb.length cb] ∧ OwnP w1 w.heap.size (fun _ => 0) v2 ((List.range (k + 1)).map lf) ∧ Below w.heap.size w w1) := ⟨hg2.row (HY.out.1.alloc _) (by decide), hg2.row (HY.out.2.1.alloc _) (by decide), by rw [List.range_succ, List.map_append, ← HBK.out.1]; exact ho2, (HY.out.2.2.2.1.alloc HY.out.2.2.2.1.size _).trans hg2.below⟩
   clear HY HBK ho2 hg2 HND HLF HRL HARG HL0 HRR hi0 hz0 hsz0 hby0 HI HI1
   go_wp2
   go_roundw
   case rel => exact ⟨k + 1, by omega, by go_num, HR⟩
   case measure => simp [intOf]; omega
  ·obtain rfl : k = M2 := by omega
   have HS0 : Shh (Row wr w.heap.size 27 [.int .u32 xc, .bool xs, .int .i64 (Nn : Int), .int .i64 (H : Int), .int .i64 (Lx : Int)] ∧ Row wr (w.heap.size + 1) 25 [.slice As sd.length cs, .slice Ap pf.length cp, .slice Ab pb.length cb] ∧ OwnP wr 0 (fun _ => 0) (.slice Al bk.length cl) (lvl F l0 0) ∧ Below w.heap.size w wr) := ⟨HL.out.1, HL.out.2.1, by
    have e : lvl F l0 0 = bk := by rw [HBK.out.1]; exact HL0.out
    rw [e]
    exact HL.out.2.2.1.lower (Nat.zero_le _), HL.out.2.2.2⟩
   clear HL HLF HL0 hsh
   obtain ⟨W, hW⟩ : ∃ W, W = wr.alloc (.cells #[.slice Al bk.length cl] 82) := ⟨_, rfl⟩
   obtain ⟨go, hgo⟩ : ∃ go, go = wr.heap.size := ⟨_, rfl⟩
   have HW : Shh (Row W w.heap.size 27 [.int .u32 xc, .bool xs, .int .i64 (Nn : Int), .int .i64 (H : Int), .int .i64 (Lx : Int)] ∧ Row W (w.heap.size + 1) 25 [.slice As sd.length cs, .slice Ap pf.length cp, .slice Ab pb.length cb] ∧ OwnP W 0 (fun _ => 0) (.slice Al bk.length cl) (lvl F l0 0) ∧ OwnQ W w.heap.size W.heap.size (.slice (some ⟨go, 0, none⟩) 1 1) ((List.range 1).map (lvl F l0)) ∧ Below w.heap.size w W) := by
    have ho : OwnP W 0 (fun _ => 0) (.slice Al bk.length cl) (lvl F l0 0) := by rw [hW]; exact HS0.out.2.2.1.go (below1 _ _)
    have hr : Row W go 82 [.slice Al bk.length cl] := by rw [hW, hgo]; exact Row.new_ rfl rfl
    refine ⟨?_, ?_, ho, OwnQ.one hr (by rw [hgo]; exact HS0.out.2.2.2.size) ho, ?_⟩ <;> rw [hW]
    ·exact HS0.out.1.alloc _
    ·exact HS0.out.2.1.alloc _
    ·exact HS0.out.2.2.2.alloc HS0.out.2.2.2.size _
   clear HS0
   go_wp2
   rw [← hgo, ← hW]
   clear hgo hW hlt hk
   generalize Value.slice Al bk.length cl = vrow at *
   clear HBK
   go_loopw [5, 7, 8] (fun l o h wr => ∃ t : Nat, t ≤ H ∧ h = .int .i64 ((t + 1 : Nat) : Int) ∧ Shh (Row wr w.heap.size 27 [.int .u32 xc, .bool xs, .int .i64 (Nn : Int), .int .i64 (H : Int), .int .i64 (Lx : Int)] ∧ Row wr (w.heap.size + 1) 25 [.slice As sd.length cs, .slice Ap pf.length cp, .slice Ab pb.length cb] ∧ OwnP wr 0 (fun _ => 0) l (lvl F l0 t) ∧ OwnQ wr w.heap.size wr.heap.size o ((List.range (t + 1)).map (lvl F l0)) ∧ Below w.heap.size w wr)) (fun _ _ h _ => 5 - (intOf h).toNat)
   case atStart => exact ⟨0, Nat.zero_le _, rfl, HW⟩
   case round =>
    clear HW
    obtain ⟨t0, ht, rfl, HL⟩ := hrel
    obtain ⟨t1, ht1⟩ : ∃ t1, t1 = t0 + 1 := ⟨_, rfl⟩
    have HT1 : Shh (t1 = t0 + 1 ∧ t1 ≤ 1000) := ⟨ht1, by omega⟩
    have HTT : Shh (t0 < 4294967296) := ⟨by omega⟩
    obtain ⟨os, hos⟩ : ∃ os, os = (List.range (t0 + 1)).map (lvl F l0) := ⟨_, rfl⟩
    have HOS : Shh (os = (List.range (t0 + 1)).map (lvl F l0) ∧ os.length = t0 + 1) := ⟨hos, by rw [hos]; simp⟩
    obtain ⟨L, hL⟩ : ∃ L, L = lvl F l0 t0 := ⟨_, rfl⟩
    have HLE : Shh (L = lvl F l0 t0) := ⟨hL⟩
    rw [← hos, ← hL] at HL
    rw [← ht1]
    have ht1a : t1 ≤ t0 + 1 := by omega
    have ht1b : t0 + 1 ≤ t1 := by omega
    clear hos hL ht1
    obtain ⟨Ao, co, rfl⟩ := HL.out.2.2.2.1.form
    have c3 := HL.out.1.cell 3
    simp only [List.getElem?_cons_succ, List.getElem?_cons_zero] at c3
    by_cases hlt : t0 < H
    ·have hc1 : (t1 : Int) ≤ (H : Int) := by omega
     have hL2 : ∃ m : Nat, L.length = 2 * m ∧ 0 < m ∧ m ≤ 8 := by
      have h1 := (HRL.out t0 (by omega)).1
      have h2 : 2 ^ (H - t0) = 2 * 2 ^ (H - t0 - 1) := by
       rw [show H - t0 = (H - t0 - 1) + 1 by omega, Nat.pow_succ]
       simp [Nat.mul_comm]
      have h3 : 2 ^ (H - t0 - 1) ≤ 2 ^ 3 := Nat.pow_le_pow_right (by decide) (by omega)
      exact ⟨2 ^ (H - t0 - 1), by rw [HLE.out, h1, h2], Nat.pow_pos (by decide), h3⟩
     obtain ⟨m, hme, hm0, hm8⟩ := hL2
     have hm1 : L.length ≤ 2 * m := by omega
     have hm2 : 2 * m ≤ L.length := by omega
     clear hme
     have HLB : Shh (∀ b ∈ L, b.length = Nn) := ⟨by rw [HLE.out]; exact (HRL.out t0 (by omega)).2⟩
     obtain ⟨gl, cl2, rfl, hgl, _⟩ := HL.out.2.2.1.full (by omega)
     obtain ⟨cl, hcl⟩ : ∃ cl, cl = cl2 := ⟨_, rfl⟩
     rw [← hcl] at HL ⊢
     clear hcl
     obtain ⟨bb, hbb⟩ : ∃ bb, bb = wr.heap.size := ⟨_, rfl⟩
     have HBB : Shh (w.heap.size ≤ bb) := ⟨by rw [hbb]; exact HL.out.2.2.2.2.size⟩
     have HGL : Shh (gl < bb) := ⟨by rw [hbb]; exact hgl⟩
     obtain ⟨U, hU⟩ : ∃ U, U = wr.alloc (.cells #[] 23) := ⟨_, rfl⟩
     have HU : Shh (Row U w.heap.size 27 [.int .u32 xc, .bool xs, .int .i64 (Nn : Int), .int .i64 (H : Int), .int .i64 (Lx : Int)] ∧ Row U (w.heap.size + 1) 25 [.slice As sd.length cs, .slice Ap pf.length cp, .slice Ab pb.length cb] ∧ OwnP U bb (fun _ => 0) (.slice (some ⟨bb, 0, none⟩) 0 0) (nodes F t0 L 0) ∧ OwnP U 0 (fun _ => 0) (.slice (some ⟨gl, 0, none⟩) L.length cl) L ∧ OwnQ U w.heap.size bb (.slice Ao os.length co) os ∧ Below w.heap.size w U ∧ bb ≤ U.heap.size) := by
      have hm := OwnP.made wr bb (fun _ => 0) (by rw [hbb]; exact Nat.le_refl _)
      rw [← hU, ← hbb] at hm
      have hq := HL.out.2.2.2.1
      rw [← hbb] at hq
      rw [hU] at hm ⊢
      exact ⟨HL.out.1.alloc _, HL.out.2.1.alloc _, hm, HL.out.2.2.1.go (below1 _ _), hq.go (below1 _ _), Below.chain HL.out.2.2.2.2 (below1 _ _), by rw [asz, hbb]; omega⟩
     go_wp2
     rw [← hU, ← hbb]
     clear hU HL hbb c3 hgl hc1
     go_loopw [9, 10] (fun nv i wr => ∃ j : Nat, j ≤ m ∧ i = .int .i64 ((2 * j : Nat) : Int) ∧ Shh (Row wr w.heap.size 27 [.int .u32 xc, .bool xs, .int .i64 (Nn : Int), .int .i64 (H : Int), .int .i64 (Lx : Int)] ∧ Row wr (w.heap.size + 1) 25 [.slice As sd.length cs, .slice Ap pf.length cp, .slice Ab pb.length cb] ∧ OwnP wr bb (fun _ => 0) nv (nodes F t0 L j) ∧ OwnP wr 0 (fun _ => 0) (.slice (some ⟨gl, 0, none⟩) L.length cl) L ∧ OwnQ wr w.heap.size bb (.slice Ao os.length co) os ∧ Below w.heap.size w wr ∧ bb ≤ wr.heap.size)) (fun _ i _ => 20 - (intOf i).toNat)
     case atStart => exact ⟨0, Nat.zero_le _, rfl, HU⟩
     case round =>
      clear HU
      obtain ⟨j, hj, rfl, HI2⟩ := hrel
      obtain ⟨ii, hii⟩ : ∃ ii, ii = 2 * j := ⟨_, rfl⟩
      have hsc : ((2 * j : Nat) : Int) = (ii : Int) := by rw [hii]
      obtain ⟨nl, hnl⟩ : ∃ nl, nl = nodes F t0 L j := ⟨_, rfl⟩
      have HNL : Shh (nl.length = j ∧ nl = nodes F t0 L j) := ⟨by rw [hnl, nodes_length], hnl⟩
      rw [← hnl] at HI2
      clear hnl
      obtain ⟨An, cn, rfl⟩ := HI2.out.2.2.1.form
      rw [hsc]
      by_cases hlt2 : j < m
      ·have hci : (ii : Int) < (L.length : Int) := by omega
       have hlt3 : ii + 1 < L.length := by omega
       have HII : Shh ((ii = 2 * j ∧ j < 4294967296) ∧ j < 4294967296) := ⟨⟨hii, by omega⟩, by omega⟩
       have HLT : Shh (ii < L.length ∧ ii + 1 < L.length ∧ ii ≤ 1000000) := ⟨by omega, hlt3, by omega⟩
       obtain ⟨b0, hb0⟩ : ∃ b, b = L.getD ii [] := ⟨_, rfl⟩
       obtain ⟨b1, hb1⟩ : ∃ b, b = L.getD (ii + 1) [] := ⟨_, rfl⟩
       obtain ⟨nb, hnb⟩ : ∃ b, b = F t0 j b0 b1 := ⟨_, rfl⟩
       have g0 : L[ii]'(by omega) = b0 := by rw [hb0, getD_at (by omega)]
       have g1 : L[ii + 1]'hlt3 = b1 := by rw [hb1, getD_at hlt3]
       have HBL : Shh (b0.length = Nn ∧ b1.length = Nn) := ⟨by rw [← g0]; exact HLB.out _ (List.getElem_mem _), by rw [← g1]; exact HLB.out _ (List.getElem_mem _)⟩
       have HNJ : Shh (nodes F t0 L (j + 1) = nl ++ [nb]) := ⟨by rw [nodes_succ, HNL.out.2, hnb, hb0, hb1, hii]⟩
       have HNB := Shh.mk hnb
       obtain ⟨LA, hLA⟩ : ∃ LA, LA = wordCells (adr11 2 0 t0 j) := ⟨_, rfl⟩
       have HLA := Shh.mk hLA
       obtain ⟨gl2, cl2, hv2, _, hcc⟩ := HI2.out.2.2.2.1.full (by omega)
       obtain ⟨u0, hu0, hs0, _⟩ := hcc ii (by omega)
       obtain ⟨u1, hu1, hs1, _⟩ := hcc (ii + 1) hlt3
       have hgg : gl2 = gl := by
        injection hv2 with e1
        injection e1 with e1
        injection e1 with e1
        exact e1.symm
       rw [hgg] at hu0 hu1
       rw [g0] at hs0
       rw [g1] at hs1
       obtain ⟨A0, c0, rfl, _, _⟩ := hs0.form
       obtain ⟨A1, c1, rfl, _, _⟩ := hs1.form
       have HC : Shh (PC wr gl (0 + ii) (.slice A0 b0.length c0) ∧ PC wr gl (0 + (ii + 1)) (.slice A1 b1.length c1) ∧ Sl wr wr.heap.size (.slice A0 b0.length c0) b0 ∧ Sl wr wr.heap.size (.slice A1 b1.length c1) b1) := ⟨⟨Nat.lt_of_lt_of_le HGL.out HI2.out.2.2.2.2.2.2, by rw [Nat.zero_add]; exact hu0⟩, ⟨Nat.lt_of_lt_of_le HGL.out HI2.out.2.2.2.2.2.2, by rw [Nat.zero_add]; exact hu1⟩, hs0, hs1⟩
       have HAR := HARG
       clear hb0 hb1 hnb g0 g1 hLA hcc hu0 hu1 hs0 hs1 hv2 hgg
       obtain ⟨hi0, hz0, hsz0, hby0⟩ := HI.out
       go_wp2_with fail
       refine wp_region_held_drew (S := fun w' => Row w' w.heap.size 27 [.int .u32 xc, .bool xs, .int .i64 (Nn : Int), .int .i64 (H : Int), .int .i64 (Lx : Int)] ∧ Row w' (w.heap.size + 1) 25 [.slice As sd.length cs, .slice Ap pf.length cp, .slice Ab pb.length cb] ∧ w'.cell? ⟨gl, 0 + ii, none⟩ = some (.slice A0 b0.length c0) ∧ w'.cell? ⟨gl, 0 + (ii + 1), none⟩ = some (.slice A1 b1.length c1)) (by kernel_rfl) ⟨HI2.out.1.drew, HI2.out.2.1.drew, HC.out.1.2, HC.out.2.1.2⟩ (fun hS => ?_)
       obtain ⟨V, hV⟩ : ∃ V, V = World.drew wr := ⟨_, rfl⟩
       rw [← hV] at hS ⊢
       have rX : Row V w.heap.size 27 [.int .u32 xc, .bool xs, .int .i64 (Nn : Int), .int .i64 (H : Int), .int .i64 (Lx : Int)] := by rw [hV]; exact HI2.out.1.drew
       have rK : Row V (w.heap.size + 1) 25 [.slice As sd.length cs, .slice Ap pf.length cp, .slice Ab pb.length cb] := by rw [hV]; exact HI2.out.2.1.drew
       have oN : OwnP V bb (fun _ => 0) (.slice An nl.length cn) nl := by rw [hV]; exact HI2.out.2.2.1.drew
       have oL : OwnP V 0 (fun _ => 0) (.slice (some ⟨gl, 0, none⟩) L.length cl) L := by rw [hV]; exact HI2.out.2.2.2.1.drew
       have oQ : OwnQ V w.heap.size bb (.slice Ao os.length co) os := by rw [hV]; exact HI2.out.2.2.2.2.1.drew
       have HBV : Below w.heap.size w V := by rw [hV]; exact HI2.out.2.2.2.2.2.1.drew
       have HBS : Shh (bb ≤ V.heap.size) := ⟨by rw [hV]; exact HI2.out.2.2.2.2.2.2⟩
       have p0 : PC V gl (0 + ii) (.slice A0 b0.length c0) := by rw [hV]; exact HC.out.1
       have p1 : PC V gl (0 + (ii + 1)) (.slice A1 b1.length c1) := by rw [hV]; exact HC.out.2.1
       have s0 : Sl V V.heap.size (.slice A0 b0.length c0) b0 := by rw [hV]; exact HC.out.2.2.1.drew
       have s1 : Sl V V.heap.size (.slice A1 b1.length c1) b1 := by rw [hV]; exact HC.out.2.2.2.drew
       have sS := (HARG.out V HBV).2.2
       have hjn : j + 1 ≤ m := hlt2
       have hib : ii ≤ 15 := by omega
       clear hV HC HI2 hii hsc hci hlt3
       refine hdv0 0 42 (.slice An nl.length cn) (by rfl) (⟨rX, rK, (p0).2, (p1).2⟩) ?_
       refine hdv0 2 44 (.pointer (some ⟨w.heap.size + 1, 2, none⟩)) (by rfl) (⟨rX, rK, (p0).2, (p1).2⟩) ?_
       refine hdv 3 45 (.slice Ab pb.length cb) (by rfl) (fun w hS => load_p rfl (hS.2.1.cell 2) (by kernel_rfl)) (⟨rX, rK, (p0).2, (p1).2⟩) ?_
       refine hdv0 4 46 (.int .i64 (t1 : Int)) (by rfl) (⟨rX, rK, (p0).2, (p1).2⟩) ?_
       refine hdv 5 47 (.int .i64 (t0 : Int)) (by rfl) (fun w hS => sub_one HT1.out.1 HT1.out.2 rfl (by kernel_rfl)) (⟨rX, rK, (p0).2, (p1).2⟩) ?_
       refine hdv 6 48 (.int .u32 (t0 : Int)) (by rfl) (fun w hS => conv_i32 HTT.out rfl (by kernel_rfl)) (⟨rX, rK, (p0).2, (p1).2⟩) ?_
       refine hdv0 7 49 (.int .i64 (ii : Int)) (by rfl) (⟨rX, rK, (p0).2, (p1).2⟩) ?_
       refine hdv 8 50 (.int .i64 (j : Int)) (by rfl) (fun w hS => quo_two HII.out.1 rfl (by kernel_rfl)) (⟨rX, rK, (p0).2, (p1).2⟩) ?_
       refine hdv 9 51 (.int .u32 (j : Int)) (by rfl) (fun w hS => conv_i32 HII.out.2 rfl (by kernel_rfl)) (⟨rX, rK, (p0).2, (p1).2⟩) ?_
       refine hdv0 11 53 (.slice (some ⟨gl, 0, none⟩) L.length cl) (by rfl) (⟨rX, rK, (p0).2, (p1).2⟩) ?_
       refine hdv0 12 54 (.int .i64 (ii : Int)) (by rfl) (⟨rX, rK, (p0).2, (p1).2⟩) ?_
       refine hdv 13 55 (.pointer (some ⟨gl, 0 + ii, none⟩)) (by rfl) (fun w hS => index_p gl 0 ii L.length cl HLT.out.1 rfl (by kernel_rfl) (by kernel_rfl) _) (⟨rX, rK, (p0).2, (p1).2⟩) ?_
       refine hdv 14 56 (.slice A0 b0.length c0) (by rfl) (fun w hS => load_p rfl hS.2.2.1 (by kernel_rfl)) (⟨rX, rK, (p0).2, (p1).2⟩) ?_
       refine hdv0 15 57 (.slice (some ⟨gl, 0, none⟩) L.length cl) (by rfl) (⟨rX, rK, (p0).2, (p1).2⟩) ?_
       refine hdv0 16 58 (.int .i64 (ii : Int)) (by rfl) (⟨rX, rK, (p0).2, (p1).2⟩) ?_
       refine hdv 17 59 (.int .i64 ((ii + 1 : Nat) : Int)) (by rfl) (fun w hS => add_one HLT.out.2.2 rfl (by kernel_rfl)) (⟨rX, rK, (p0).2, (p1).2⟩) ?_
       refine hdv 18 60 (.pointer (some ⟨gl, 0 + (ii + 1), none⟩)) (by rfl) (fun w hS => index_p gl 0 (ii + 1) L.length cl HLT.out.2.1 rfl (by kernel_rfl) (by kernel_rfl) _) (⟨rX, rK, (p0).2, (p1).2⟩) ?_
       refine hdv 19 61 (.slice A1 b1.length c1) (by rfl) (fun w hS => load_p rfl hS.2.2.2 (by kernel_rfl)) (⟨rX, rK, (p0).2, (p1).2⟩) ?_
       refine held_load 1 27 (.tmp 2) (some 43) (by kernel_rfl) (by rfl) (by kernel_rfl) w.heap.size 0 (by kernel_rfl) ([.int .u32 xc, .bool xs, .int .i64 (Nn : Int), .int .i64 (H : Int), .int .i64 (Lx : Int)]) _ (fun w h => h.1.range) Tryz.underlying27 rfl (info_xms) (fun _ _ _ _ h => h) (⟨rX, rK, (p0).2, (p1).2⟩) ?_
       simp only [Act.put, arr9, hd9, tl9]
       refine held_one 10 (by kernel_rfl) ?_
       refine step_call 10 _ _ (some 52) 41 #[.int .i64 2, .int .u32 0, .int .u32 (t0 : Int), .int .u32 (j : Int)] (by rfl) (by kernel_rfl) (by first | kernel_rfl | go_simp) ?_
       refine (show Calls Tryz.prog 41 #[.int .i64 2, .int .u32 0, .int .u32 (t0 : Int), .int .u32 (j : Int)] V (OldIs (.agg LA.toArray) V) by have h := refAt11_any 2 0 t0 j (by decide) (by decide) HTT.out HII.out.2 V; unfold adrV at h; rw [← HLA.out] at h; exact h).mono ?_
       unfold OldIs; rintro e Y1 ⟨rfl, b4⟩
       have bx : Below V.heap.size V Y1 := b4
       clear b4
       have b_V := bx
       have m_Y1 : V.heap.size ≤ Y1.heap.size := bx.size
       clear bx
       refine ⟨_, rfl, ⟨(rX.go b_V), (rK.go b_V), ((p0.go b_V)).2, ((p1.go b_V)).2⟩, ?_⟩
       simp only [Act.put, arr9, hd9, tl9]
       refine held_one 20 (by kernel_rfl) ?_
       refine step_call 20 _ _ (some 62) 45 #[.agg ([.int .u32 xc, .bool xs, .int .i64 (Nn : Int), .int .i64 (H : Int), .int .i64 (Lx : Int)]).toArray, .slice Ab pb.length cb, .agg LA.toArray, .slice A0 b0.length c0, .slice A1 b1.length c1] (by rfl) (by kernel_rfl) (by first | kernel_rfl | go_simp) ?_
       refine (show Calls Tryz.prog 45 #[.agg #[.int .u32 xc, .bool xs, .int .i64 (Nn : Int), .int .i64 (H : Int), .int .i64 (Lx : Int)], .slice Ab pb.length cb, .agg LA.toArray, .slice A0 b0.length c0, .slice A1 b1.length c1] Y1 (SlF Y1 nb) by have h := HND.out t0 j _ _ b0 b1 Y1 HTT.out HII.out.2 ((sS.go b_V)) ((s0.go b_V)) ((s1.go b_V)) HBL.out.1 HBL.out.2; unfold adrV at h; rw [← HLA.out, ← HNB.out] at h; exact h).mono ?_
       rintro e Y2 ⟨v, rfl, gv, bv, tv⟩
       have bx : Below Y1.heap.size Y1 Y2 := bv
       obtain ⟨Ak, ck, vEq, _, _⟩ := gv.form
       subst vEq
       have sK := gv
       have uK : UN Y2 0 (.slice Ak nb.length ck) := UN.all tv
       clear gv tv
       replace b_V := Below.chain b_V bx
       have b_Y1 := bx
       have m_Y2 : Y1.heap.size ≤ Y2.heap.size := bx.size
       clear bx
       refine ⟨_, rfl, ⟨(rX.go b_V), (rK.go b_V), ((p0.go b_V)).2, ((p1.go b_V)).2⟩, ?_⟩
       simp only [Act.put, arr9, hd9, tl9]
       refine held_one 21 (by kernel_rfl) ?_
       refine step_value 21 _ _ (some 63) (.slice (some ⟨Y2.heap.size, 0, none⟩) 1 1) (Y2.alloc (.cells #[.slice Ak nb.length ck] 23)) (by rfl) (by kernel_rfl) (by first | kernel_rfl | go_simp) (⟨((rX.go b_V)).alloc _, ((rK.go b_V)).alloc _, (((p0.go b_V)).go (below1 _ _)).2, (((p1.go b_V)).go (below1 _ _)).2⟩) ?_
       simp only [Act.put, arr9, hd9, tl9]
       have bx : Below Y2.heap.size Y2 (Y2.alloc (.cells #[.slice Ak nb.length ck] 23)) := Below.alloc (Below.refl _ _) (Nat.le_refl _) _
       have rB : Row (Y2.alloc (.cells #[.slice Ak nb.length ck] 23)) Y2.heap.size 23 [.slice Ak nb.length ck] := Row.new_ rfl rfl
       have z_rB := asz Y2 (.cells #[.slice Ak nb.length ck] 23)
       generalize Y2.alloc (.cells #[.slice Ak nb.length ck] 23) = Y3 at *
       replace b_V := Below.chain b_V bx
       replace b_Y1 := Below.chain b_Y1 bx
       have b_Y2 := bx
       have m_Y3 : Y2.heap.size ≤ Y3.heap.size := bx.size
       clear bx
       refine held_one 22 (by kernel_rfl) ?_
       refine step_appendP (c := 1) Y3 22 _ (some 64) 82 i0 (.slice none 0 0) Tryz.underlying82 hi0 hz0 hsz0 hby0 rfl (.tmp 42) (.tmp 63) (by rfl) (by kernel_rfl) ((oN.go b_V)) (fun _ => Nat.zero_le _) (by kernel_rfl) (by kernel_rfl) ((rB).cell 0) ((sK.go b_Y2)) ((uK.go b_Y2)) (by have := HLT.out.2.2; have := HNL.out.1; omega) (by have := b_V.size; have := HBS.out; omega) ?_
       intro v2 Y4 ho2 hg2
       replace rX : Row Y4 w.heap.size 27 [.int .u32 xc, .bool xs, .int .i64 (Nn : Int), .int .i64 (H : Int), .int .i64 (Lx : Int)] := hg2.row ((rX.go b_V)) (by decide)
       replace rK : Row Y4 (w.heap.size + 1) 25 [.slice As sd.length cs, .slice Ap pf.length cp, .slice Ab pb.length cb] := hg2.row ((rK.go b_V)) (by decide)
       have q0 := hg2.below.cell (p := ⟨gl, 0 + ii, none⟩) HGL.out
       have q1 := hg2.below.cell (p := ⟨gl, 0 + (ii + 1), none⟩) HGL.out
       replace oL : OwnP Y4 0 (fun _ => 0) (.slice (some ⟨gl, 0, none⟩) L.length cl) L := ((oL.go b_V)).grp (fun g e => by injection e with e; rw [← e]; exact HGL.out) hg2 (fun i => Nat.zero_le _)
       replace oQ : OwnQ Y4 w.heap.size bb (.slice Ao os.length co) os := ((oQ.go b_V)).grp hg2
       have nB : Below w.heap.size w Y4 := (Below.chain HBV b_V).trans (hg2.below.mono HBB.out)
       replace p0 : PC Y4 gl (0 + ii) (.slice A0 b0.length c0) := ⟨Nat.lt_of_lt_of_le ((p0.go b_V)).1 hg2.size, q0.trans ((p0.go b_V)).2⟩
       replace p1 : PC Y4 gl (0 + (ii + 1)) (.slice A1 b1.length c1) := ⟨Nat.lt_of_lt_of_le ((p1.go b_V)).1 hg2.size, q1.trans ((p1.go b_V)).2⟩
       refine ⟨⟨rX, rK, p0.2, p1.2⟩, ?_⟩
       simp only [Act.put, arr9, hd9, tl9]
       refine hdv0 23 9 (v2) (by rfl) (⟨rX, rK, (p0).2, (p1).2⟩) ?_
       refine wpAnyH_done (by kernel_rfl) ?_ _
       have HR : Shh (Row Y4 w.heap.size 27 [.int .u32 xc, .bool xs, .int .i64 (Nn : Int), .int .i64 (H : Int), .int .i64 (Lx : Int)] ∧ Row Y4 (w.heap.size + 1) 25 [.slice As sd.length cs, .slice Ap pf.length cp, .slice Ab pb.length cb] ∧ OwnP Y4 bb (fun _ => 0) v2 (nodes F t0 L (j + 1)) ∧ OwnP Y4 0 (fun _ => 0) (.slice (some ⟨gl, 0, none⟩) L.length cl) L ∧ OwnQ Y4 w.heap.size bb (.slice Ao os.length co) os ∧ Below w.heap.size w Y4 ∧ bb ≤ Y4.heap.size) := ⟨rX, rK, by rw [HNJ.out]; exact ho2, oL, oQ, nB, Nat.le_trans (by have := b_V.size; have := HBS.out; omega) hg2.size⟩
       clear nB q1 q0 hg2 ho2 m_Y3 b_Y2 z_rB rB m_Y2 b_Y1 uK sK bv m_Y1 b_V hS HBV rX rK oN oL oQ sS p0 p1 s0 s1
       clear HND HLT HLA HNB HBL HTT HT1 HBS HNJ HAR
       go_wp2
       go_roundw
       case rel => exact ⟨j + 1, hjn, (by rw [HII.out.1.1]; go_num), HR⟩
       case measure => simp [intOf]; omega
      ·obtain rfl : j = m := by omega
       have hci : ¬ (ii : Int) < (L.length : Int) := by omega
       have HE : Shh (lvl F l0 (t0 + 1) = nl) := ⟨by
        show pairs (F t0) 0 (lvl F l0 t0) = _
        rw [← HLE.out, pairs_even F t0 L j (by omega), HNL.out.2]⟩
       have HN : Shh (Row wr w.heap.size 27 [.int .u32 xc, .bool xs, .int .i64 (Nn : Int), .int .i64 (H : Int), .int .i64 (Lx : Int)] ∧ Row wr (w.heap.size + 1) 25 [.slice As sd.length cs, .slice Ap pf.length cp, .slice Ab pb.length cb] ∧ OwnP wr 0 (fun _ => 0) (.slice An nl.length cn) (lvl F l0 (t0 + 1)) ∧ OwnQ wr w.heap.size bb (.slice Ao os.length co) os ∧ Below w.heap.size w wr) := ⟨HI2.out.1, HI2.out.2.1, by rw [HE.out]; exact HI2.out.2.2.1.lower (Nat.zero_le _), HI2.out.2.2.2.2.1, HI2.out.2.2.2.2.2.1⟩
       clear HI2 HE hii hsc HNL HGL hlt2
       obtain ⟨hi1, hz1, hsz1, hby1⟩ := HI1.out
       go_wp2_with (at_builtin; refine wpList_appendQ (c := 1) _ 40 i1 (.slice none 0 0) Tryz.underlying40 hi1 hz1 hsz1 hby1 rfl rfl _ _ rfl (HN.out.2.2.2.1.go (below1 _ _)) rfl rfl ((Row.new_ rfl rfl).cell 0) (HN.out.2.2.1.go (below1 _ _)) (by have := HOS.out.2; omega) (by rw [asz]; have := HN.out.2.2.2.2.size; omega) ?_)
       intro v2 w1 ho2 hn2 hg2
       have HR : Shh (Row w1 w.heap.size 27 [.int .u32 xc, .bool xs, .int .i64 (Nn : Int), .int .i64 (H : Int), .int .i64 (Lx : Int)] ∧ Row w1 (w.heap.size + 1) 25 [.slice As sd.length cs, .slice Ap pf.length cp, .slice Ab pb.length cb] ∧ OwnP w1 0 (fun _ => 0) (.slice An nl.length cn) (lvl F l0 (t0 + 1)) ∧ OwnQ w1 w.heap.size w1.heap.size v2 ((List.range (t0 + 1 + 1)).map (lvl F l0)) ∧ Below w.heap.size w w1) := ⟨hg2.row (HN.out.1.alloc _) (by decide), hg2.row (HN.out.2.1.alloc _) (by decide), hn2, by rw [List.range_succ, List.map_append, ← HOS.out.1]; exact ho2, (HN.out.2.2.2.2.alloc HN.out.2.2.2.2.size _).trans hg2.below⟩
       have HT2 : Shh (t1 = t0 + 1) := ⟨HT1.out.1⟩
       clear HN HOS ho2 hn2 hg2 HND HRL HARG HRR HLE HLB HBB HTT HT1 hi1 hz1 hsz1 hby1 HI HI1 hci
       go_wp2
       go_roundw
       case rel => exact ⟨t0 + 1, by omega, (by rw [← HT2.out]; go_num), HR⟩
       case measure => simp [intOf]; omega
    ·obtain rfl : t0 = H := by omega
     have hc1 : ¬ (t1 : Int) ≤ (t0 : Int) := by omega
     have HR : Shh (OwnQ wr w.heap.size wr.heap.size (.slice Ao os.length co) RS ∧ Below w.heap.size w wr) := ⟨by rw [HRR.out, ← HOS.out.1]; exact HL.out.2.2.2.1, HL.out.2.2.2.2⟩
     clear HND HRL HARG HRR HLE HTT HT1 HI HI1
     go_wp2
     go_ret
     exact ⟨_, rfl, HR.out.1.prt, HR.out.2⟩
end Go.Proofs.YtdakbipiifkmfaaGreatDoor
