import Derived.Test.YtdakbipiifkmfaaGreatDoorGZ
/-
 THE LAWS OF CHAPTER 11: XmssUp, over contracts of the program's own functions.
-/
namespace Go.Proofs.YtdakbipiifkmfaaGreatDoor
open Go.RowKit
set_option maxRecDepth 100000
section
variable {a : Act} {x y : Operand} {op : Oper} {w : World}
theorem quo_32 {q q2 : Nat} (h : q2 = q / 2) (hq : q < 4294967296) (ho : op.op = .binOp .quo 22 x (.const (.int .u32 2)) 22) (hx : a.eval x = .int .u32 (q : Int)) : (execOp a.eval op).run Tryz.prog w = .ok (.value (.int .u32 (q2 : Int))) w := by
 have hc : a.eval (.const (.int .u32 2)) = .int .u32 2 := rfl
 have e : (q : Int).tdiv 2 = (q2 : Int) := by rw [Int.tdiv_eq_ediv_of_nonneg (by omega)]; omega
 have e2 : (q : Int) / 2 = (q2 : Int) := by omega
 have hw : IntKind.u32.wrap (q2 : Int) = (q2 : Int) := by rw [IntKind.wrap_u32]; omega
 have hm : (q2 : Int) % 4294967296 = (q2 : Int) := by omega
 clear h
 unfold execOp
 simp only [ho, hx, hc]
 go_simp
end
theorem badE_three {x : S5} (hx : x.ok = true) {a b c : List UInt8} (ha : (a.length : Int) = x.n) (hb : (b.length : Int) = x.n) (hc : (c.length : Int) = x.n) : badE x [a, b, c] = 0 := by
 unfold badE
 rw [if_pos hx, if_pos (by simp [ha, hb, hc])]
section
variable {Tb : World → Prop}
set_option maxHeartbeats 8000000 in
theorem xmssUp_of (c : Nat) (hc : c < 4294967296) (vs vp vb : Value) (sd pf pb : List UInt8) (i : Nat) (hi : i < 4294967296) (w : World) (hs : Sl w w.heap.size vs sd) (hp : Sl w w.heap.size vp pf) (hb : Sl w w.heap.size vb pb) (ht : Tb w)
  (hTb : ∀ w w', Tb w → Below w.heap.size w w' → Tb w')
  (hlive : ∀ W, Tb W → Calls Tryz.prog 14 #[] W (TrueIs W))
  (hNode : ∀ (x : S5) (vs vl vr : Value) (seed l r : List UInt8) (a : List UInt32) (W : World), x.wf → a.length = 8 → Tb W → Sl W W.heap.size vs seed → Sl W W.heap.size vl l → Sl W W.heap.size vr r → Calls Tryz.prog 40 #[x.v, vs, adrV a, vl, vr] W (ResIs W (badE x [seed, l, r]) (nodR x seed a l r)))
  (hLeaf : ∀ (x : S5) (vs vp vb : Value) (sd pf pb : List UInt8) (i : Nat) (W : World), x.wf → i < 4294967296 → Tb W → Sl W W.heap.size vs sd → Sl W W.heap.size vp pf → Sl W W.heap.size vb pb → Calls Tryz.prog 12 #[x.v, keyV vs vp vb, .int .u32 (i : Int)] W (ResIs W (leafE x sd pf pb i) (leafR x sd pf pb i)))
  (hRoot : ∀ (x : S5) (vs vp vb : Value) (sd pf pb : List UInt8) (W : World), x.wf → (x.ok = true → x.h ≤ 4) → Tb W → Sl W W.heap.size vs sd → Sl W W.heap.size vp pf → Sl W W.heap.size vb pb → Calls Tryz.prog 18 #[x.v, keyV vs vp vb] W (ResIs W (badE x [sd, pf, pb]) (rootR x sd pf pb)))
  (hPath : ∀ (x : S5) (vs vp vb : Value) (sd pf pb : List UInt8) (i : Nat) (W : World), x.wf → (x.ok = true → x.h ≤ 4) → i < 4294967296 → Tb W → Sl W W.heap.size vs sd → Sl W W.heap.size vp pf → Sl W W.heap.size vb pb → Calls Tryz.prog 19 #[x.v, keyV vs vp vb, .int .u32 (i : Int)] W (ResIs W (leafE x sd pf pb i) (pathRR x sd pf pb i))) :
  Calls Tryz.prog 9 #[.int .u32 (c : Int), keyV vs vp vb, .int .u32 (i : Int)] w (TrueIs w) := by
 unfold TrueIs
 obtain ⟨As, cs, rfl, _, _⟩ := hs.form
 obtain ⟨Ap, cp, rfl, _, _⟩ := hp.form
 obtain ⟨Ab, cb, rfl, _, _⟩ := hb.form
 have hw := setX_wf c hc
 have HS : Shh (∀ W, Calls Tryz.prog 11 #[.int .u32 (c : Int)] W (OldIs (setX c).v W)) := ⟨fun W => set11_any c hc W⟩
 obtain ⟨x, hx⟩ : ∃ x, x = setX c := ⟨_, rfl⟩
 rw [← hx] at HS hw
 clear hx
 obtain ⟨hg, hhg⟩ : ∃ hg, hg = (x.ok && decide (4 < x.h)) := ⟨_, rfl⟩
 have HH : Shh (∀ W, Calls Tryz.prog 17 #[x.v] W (OldIs (.bool hg) W)) := ⟨fun W => by rw [hhg]; exact high_any x hw W⟩
 have HT : Shh (∀ W, Tb W → Calls Tryz.prog 14 #[] W (TrueIs W)) := ⟨hlive⟩
 have HTB := Shh.mk hTb
 obtain ⟨le, hle⟩ : ∃ le, le = leafE x sd pf pb i := ⟨_, rfl⟩
 obtain ⟨ro, hro⟩ : ∃ ro, ro = rootR x sd pf pb := ⟨_, rfl⟩
 obtain ⟨pa, hpa⟩ : ∃ pa, pa = pathRR x sd pf pb i := ⟨_, rfl⟩
 obtain ⟨lf, hlf⟩ : ∃ lf, lf = leafR x sd pf pb i := ⟨_, rfl⟩
 obtain ⟨U, hU⟩ : ∃ U : Nat → List UInt8, U = fun h => upB x.s x.n pb pa i lf h := ⟨_, rfl⟩
 obtain ⟨F, hF⟩ : ∃ F : Nat → Nat → List UInt8 → List UInt8 → List UInt8, F = fun h q l r => nodeB x.s x.n pb (adr11 2 0 h q) l r := ⟨_, rfl⟩
 have hx4 : hg = false → x.ok = true → x.h ≤ 4 := fun h1 h2 => by
  rw [hhg, h2, Bool.true_and] at h1
  have := of_decide_eq_false h1
  omega
 have HM : Shh (∀ W, Sl W W.heap.size (.slice As sd.length cs) sd → Sl W W.heap.size (.slice Ap pf.length cp) pf → Sl W W.heap.size (.slice Ab pb.length cb) pb → Calls Tryz.prog 13 #[x.v, keyV (.slice As sd.length cs) (.slice Ap pf.length cp) (.slice Ab pb.length cb), .int .u32 (i : Int)] W (OldIs (.int .i64 (le : Int)) W)) := ⟨fun W h1 h2 h3 => by rw [hle]; exact mayLeaf_any x hw _ _ _ sd pf pb i hi W h1 h2 h3⟩
 have HQ : Shh (hg = false → le = 0 → ∃ Nn H : Nat, x.n = (Nn : Int) ∧ x.h = (H : Int) ∧ H ≤ 4 ∧ Nn ≤ 32 ∧ pa.length = H * Nn
   ∧ (∀ W, Tb W → Sl W W.heap.size (.slice As sd.length cs) sd → Sl W W.heap.size (.slice Ap pf.length cp) pf → Sl W W.heap.size (.slice Ab pb.length cb) pb → Calls Tryz.prog 12 #[x.v, keyV (.slice As sd.length cs) (.slice Ap pf.length cp) (.slice Ab pb.length cb), .int .u32 (i : Int)] W (ResIs W 0 lf))
   ∧ (∀ W, Tb W → Sl W W.heap.size (.slice As sd.length cs) sd → Sl W W.heap.size (.slice Ap pf.length cp) pf → Sl W W.heap.size (.slice Ab pb.length cb) pb → Calls Tryz.prog 19 #[x.v, keyV (.slice As sd.length cs) (.slice Ap pf.length cp) (.slice Ab pb.length cb), .int .u32 (i : Int)] W (ResIs W 0 pa))
   ∧ (∀ W, Tb W → Sl W W.heap.size (.slice As sd.length cs) sd → Sl W W.heap.size (.slice Ap pf.length cp) pf → Sl W W.heap.size (.slice Ab pb.length cb) pb → Calls Tryz.prog 18 #[x.v, keyV (.slice As sd.length cs) (.slice Ap pf.length cp) (.slice Ab pb.length cb)] W (ResIs W 0 ro))
   ∧ (∀ h, (U h).length = Nn) ∧ U 0 = lf ∧ U H = ro ∧ (∀ h, h < H → (pieceB Nn pa h).length = Nn)
   ∧ (∀ h, h < H → U (h + 1) = if i / 2 ^ h % 2 = 0 then F h (i / 2 ^ h / 2) (U h) (pieceB Nn pa h) else F h (i / 2 ^ h / 2) (pieceB Nn pa h) (U h))
   ∧ (∀ (h q : Nat) (l r : List UInt8) (vl vr : Value) (W : World), Tb W → Sl W W.heap.size (.slice Ab pb.length cb) pb → Sl W W.heap.size vl l → Sl W W.heap.size vr r → l.length = Nn → r.length = Nn → Calls Tryz.prog 40 #[x.v, .slice Ab pb.length cb, .agg (wordCells (adr11 2 0 h q)).toArray, vl, vr] W (ResIs W 0 (F h q l r)))) := ⟨fun hg0 h0 => by
  have hl0 : leafE x sd pf pb i = 0 := by rw [← hle]; exact h0
  obtain ⟨hb0, hok, _⟩ := leafE_own hw [] hl0
  obtain ⟨H, hH, _⟩ := ok_h hok
  have hh4 := hx4 hg0 hok
  have hn := ok_n hok
  have hl3 := (badE_ok hb0).2 pb (by simp)
  have hHt : x.h.toNat = H := by omega
  have hi2 : i < 2 ^ x.h.toNat := by
   have h1 := hl0
   unfold leafE at h1
   rw [if_pos hb0] at h1
   by_cases hq : i < 2 ^ x.h.toNat
   ·exact hq
   ·rw [if_neg hq] at h1; exact absurd h1 (by decide)
  have ero : ro = rootB x.s x.n x.l.toNat x.h.toNat sd pb := by rw [hro]; unfold rootR; rw [if_pos hb0]
  have epa : pa = pathB x.s x.n x.l.toNat x.h.toNat sd pb i x.h.toNat := by rw [hpa]; unfold pathRR; rw [if_pos hl0]
  have elf : lf = leafB x.s x.n x.l.toNat sd pb i := by rw [hlf]; unfold leafR; rw [if_pos hl0]
  have hpl : pa.length = H * x.n.toNat := by rw [epa, path_len hok sd pb x.h.toNat i hi2, hHt]
  refine ⟨x.n.toNat, H, by omega, hH, by omega, by omega, hpl, fun W h1 h2 h3 h4 => ?_, fun W h1 h2 h3 h4 => ?_, fun W h1 h2 h3 h4 => ?_, fun h => ?_, by rw [hU]; rfl, ?_, fun h hh => pieceB_length _ _ _ H hpl hh, fun h hh => ?_, fun h q l r vl vr W h1 h2 h3 h4 h5 h6 => ?_⟩
  ·have h := hLeaf x _ _ _ sd pf pb i W hw hi h1 h2 h3 h4
   rw [hl0, ← hlf] at h
   exact h
  ·have h := hPath x _ _ _ sd pf pb i W hw (hx4 hg0) hi h1 h2 h3 h4
   rw [hl0, ← hpa] at h
   exact h
  ·have h := hRoot x _ _ _ sd pf pb W hw (hx4 hg0) h1 h2 h3 h4
   rw [hb0, ← hro] at h
   exact h
  ·rw [hU]
   exact upB_length hok pb pa i lf (by rw [elf]; exact leafB_length hok sd pb i) h
  ·rw [hU, ero]
   have h := up_root hok sd pb x.h.toNat i hi2
   rw [← epa, ← elf, hHt] at h
   rw [hHt]
   exact h
  ·rw [hU, hF]
   rfl
  ·have hz := hNode x _ vl vr pb l r (adr11 2 0 h q) W hw rfl h1 h2 h3 h4
   have hbz := badE_three hok hl3 (show (l.length : Int) = x.n by omega) (show (r.length : Int) = x.n by omega)
   have e : nodR x pb (adr11 2 0 h q) l r = F h q l r := by unfold nodR; rw [if_pos hbz, hF]
   rw [hbz, e] at hz
   unfold adrV at hz
   exact hz⟩
 have HI := Shh.mk hi
 clear hle hro hpa hlf hU hF hhg hx4 hw hNode hLeaf hRoot hPath hlive hTb hi hc
 obtain ⟨W, hW⟩ : ∃ W, W = w.alloc (.cells #[.slice As sd.length cs, .slice Ap pf.length cp, .slice Ab pb.length cb] 25) := ⟨_, rfl⟩
 have HW : Shh (Row W w.heap.size 25 [.slice As sd.length cs, .slice Ap pf.length cp, .slice Ab pb.length cb] ∧ Sl W W.heap.size (.slice As sd.length cs) sd ∧ Sl W W.heap.size (.slice Ap pf.length cp) pf ∧ Sl W W.heap.size (.slice Ab pb.length cb) pb ∧ Tb W ∧ Below w.heap.size w W) := by
  rw [hW]
  exact ⟨Row.new_ rfl rfl, hs.go (below1 _ _), hp.go (below1 _ _), hb.go (below1 _ _), HTB.out _ _ ht (below1 _ _), below1 _ _⟩
 clear hs hp hb ht
 unfold S5.v keyV at *
 generalize x.c = xc at *
 generalize x.s = xs at *
 generalize x.n = xn at *
 generalize x.h = xh at *
 generalize x.l = xl at *
 go_enter Tryz.func9, Tryz.ntmps9
 go_wp2_with fail
 rw [← hW]
 clear hW
 go_at_call 11
 refine (HS.out _).mono ?_
 unfold OldIs
 rintro e w2 ⟨rfl, b2⟩
 have H2 : Shh (Row w2 w.heap.size 25 [.slice As sd.length cs, .slice Ap pf.length cp, .slice Ab pb.length cb] ∧ Sl w2 w2.heap.size (.slice As sd.length cs) sd ∧ Sl w2 w2.heap.size (.slice Ap pf.length cp) pf ∧ Sl w2 w2.heap.size (.slice Ab pb.length cb) pb ∧ Tb w2 ∧ Below w.heap.size w w2) := ⟨HW.out.1.go b2, HW.out.2.1.go b2, HW.out.2.2.1.go b2, HW.out.2.2.2.1.go b2, HTB.out _ _ HW.out.2.2.2.2.1 b2, Below.chain HW.out.2.2.2.2.2 b2⟩
 clear b2 HW HS
 obtain ⟨M, hM⟩ : ∃ M, Shh (M = w2.heap.size) := ⟨_, ⟨rfl⟩⟩
 go_wp2_with (refine wpList_store_any rfl 27 (.tmp 7) (.tmp 20) rfl M (by rw [hM.out]; rfl) [.int .u32 xc, .bool xs, .int .i64 xn, .int .i64 xh, .int .i64 xl] rfl 27 [.int .u32 0, .bool false, .int .i64 0, .int .i64 0, .int .i64 0] (Row.new_ hM.out rfl) info_xms rfl oneCell5 ?_)
 intro Z hr bt hsz
 have H3 : Shh (Row Z M 27 [.int .u32 xc, .bool xs, .int .i64 xn, .int .i64 xh, .int .i64 xl] ∧ Row Z w.heap.size 25 [.slice As sd.length cs, .slice Ap pf.length cp, .slice Ab pb.length cb] ∧ Sl Z Z.heap.size (.slice As sd.length cs) sd ∧ Sl Z Z.heap.size (.slice Ap pf.length cp) pf ∧ Sl Z Z.heap.size (.slice Ab pb.length cb) pb ∧ Tb Z ∧ Below w.heap.size w Z) := by
  have hm := hM.out
  have bb : Below w2.heap.size w2 Z := (below1 _ _).trans (bt.under (by first | omega | (rw [asz]; omega)) (by omega))
  exact ⟨hr, H2.out.1.go bb, H2.out.2.1.go bb, H2.out.2.2.1.go bb, H2.out.2.2.2.1.go bb, HTB.out _ _ H2.out.2.2.2.2.1 bb, Below.chain H2.out.2.2.2.2.2 bb⟩
 rw [← hM.out]
 clear hr bt hsz H2 hM
 go_wp2_with (go_at_call 14; refine (HT.out _ H3.out.2.2.2.2.2.1).mono ?_)
 unfold TrueIs
 rintro e w4 ⟨rfl, b4⟩
 have H4 : Shh (Row w4 M 27 [.int .u32 xc, .bool xs, .int .i64 xn, .int .i64 xh, .int .i64 xl] ∧ Row w4 w.heap.size 25 [.slice As sd.length cs, .slice Ap pf.length cp, .slice Ab pb.length cb] ∧ Sl w4 w4.heap.size (.slice As sd.length cs) sd ∧ Sl w4 w4.heap.size (.slice Ap pf.length cp) pf ∧ Sl w4 w4.heap.size (.slice Ab pb.length cb) pb ∧ Tb w4 ∧ Below w.heap.size w w4) := ⟨H3.out.1.go b4, H3.out.2.1.go b4, H3.out.2.2.1.go b4, H3.out.2.2.2.1.go b4, H3.out.2.2.2.2.1.go b4, HTB.out _ _ H3.out.2.2.2.2.2.1 b4, Below.chain H3.out.2.2.2.2.2.2 b4⟩
 clear b4 H3
 go_wp2_with (first | refine wl_loadW 27 (.tmp 7) rfl M rfl 27 [.int .u32 xc, .bool xs, .int .i64 xn, .int .i64 xh, .int .i64 xl] _ rfl H4.out.1 Tryz.underlying27 rfl info_xms ?_ | (go_at_call 17; refine (HH.out _).mono ?_))
 unfold OldIs
 rintro e w5 ⟨rfl, b5⟩
 have H5 : Shh (Row w5 M 27 [.int .u32 xc, .bool xs, .int .i64 xn, .int .i64 xh, .int .i64 xl] ∧ Row w5 w.heap.size 25 [.slice As sd.length cs, .slice Ap pf.length cp, .slice Ab pb.length cb] ∧ Sl w5 w5.heap.size (.slice As sd.length cs) sd ∧ Sl w5 w5.heap.size (.slice Ap pf.length cp) pf ∧ Sl w5 w5.heap.size (.slice Ab pb.length cb) pb ∧ Tb w5 ∧ Below w.heap.size w w5) := ⟨H4.out.1.go b5, H4.out.2.1.go b5, H4.out.2.2.1.go b5, H4.out.2.2.2.1.go b5, H4.out.2.2.2.2.1.go b5, HTB.out _ _ H4.out.2.2.2.2.2.1 b5, Below.chain H4.out.2.2.2.2.2.2 b5⟩
 clear b5 H4 HH
 cases hg with
 | true =>
  clear HM HQ HI
  go_wp2_with (go_at_call 14; refine (HT.out _ H5.out.2.2.2.2.2.1).mono ?_)
  unfold TrueIs
  rintro e w6 ⟨rfl, b6⟩
  have HB : Shh (Below w.heap.size w w6) := ⟨Below.chain H5.out.2.2.2.2.2.2 b6⟩
  clear b6 H5 HT
  go_wp2
  go_ret
  exact ⟨rfl, HB.out⟩
 | false =>
  have HQQ := Shh.mk (HQ.out rfl)
  clear HQ
  go_wp2_with (first | refine wl_loadW 27 (.tmp 7) rfl M rfl 27 [.int .u32 xc, .bool xs, .int .i64 xn, .int .i64 xh, .int .i64 xl] _ rfl H5.out.1 Tryz.underlying27 rfl info_xms ?_ | refine wl_loadW 25 (.tmp 4) rfl w.heap.size rfl 25 [.slice As sd.length cs, .slice Ap pf.length cp, .slice Ab pb.length cb] _ rfl H5.out.2.1 Tryz.underlying25 rfl info_key11 ?_ | (go_at_call 13; refine (HM.out _ H5.out.2.2.1 H5.out.2.2.2.1 H5.out.2.2.2.2.1).mono ?_))
  unfold OldIs
  rintro e w6 ⟨rfl, b6⟩
  have H6 : Shh (Row w6 M 27 [.int .u32 xc, .bool xs, .int .i64 xn, .int .i64 xh, .int .i64 xl] ∧ Row w6 w.heap.size 25 [.slice As sd.length cs, .slice Ap pf.length cp, .slice Ab pb.length cb] ∧ Sl w6 w6.heap.size (.slice As sd.length cs) sd ∧ Sl w6 w6.heap.size (.slice Ap pf.length cp) pf ∧ Sl w6 w6.heap.size (.slice Ab pb.length cb) pb ∧ Tb w6 ∧ Below w.heap.size w w6) := ⟨H5.out.1.go b6, H5.out.2.1.go b6, H5.out.2.2.1.go b6, H5.out.2.2.2.1.go b6, H5.out.2.2.2.2.1.go b6, HTB.out _ _ H5.out.2.2.2.2.2.1 b6, Below.chain H5.out.2.2.2.2.2.2 b6⟩
  clear b6 H5 HM
  by_cases h0 : le = 0
  ·subst h0
   obtain ⟨Nn, H, hn, hh, hH4, hN32, hpl, hCL, hCP, hCR, hUL, hU0, hUH, hPL, hUS, hCN⟩ := HQQ.out rfl
   have HCL := Shh.mk hCL
   have HCP := Shh.mk hCP
   have HCR := Shh.mk hCR
   have HCN := Shh.mk hCN
   have HU := Shh.mk (And.intro hUL (And.intro hU0 (And.intro hUH (And.intro hPL (And.intro hUS hpl)))))
   clear HQQ HT hCL hCP hCR hCN hUL hU0 hUH hPL hUS hpl
   subst hn
   subst hh
   go_wp2_with (first | refine wpList_load_any rfl 27 (.tmp 7) rfl M rfl 27 [.int .u32 xc, .bool xs, .int .i64 (Nn : Int), .int .i64 (H : Int), .int .i64 xl] _ H6.out.1 Tryz.underlying27 rfl info_xms ?_ | refine wpList_load_any rfl 25 (.tmp 4) rfl w.heap.size rfl 25 [.slice As sd.length cs, .slice Ap pf.length cp, .slice Ab pb.length cb] _ H6.out.2.1 Tryz.underlying25 rfl info_key11 ?_ | (go_at_call 12; refine (HCL.out _ H6.out.2.2.2.2.2.1 H6.out.2.2.1 H6.out.2.2.2.1 H6.out.2.2.2.2.1).mono ?_))
   unfold ResIs
   rintro e w7 ⟨v6, rfl, h6, b6⟩
   obtain ⟨A6, c6, rfl, _, _⟩ := h6.form
   have H7 : Shh (Row w7 M 27 [.int .u32 xc, .bool xs, .int .i64 (Nn : Int), .int .i64 (H : Int), .int .i64 xl] ∧ Row w7 w.heap.size 25 [.slice As sd.length cs, .slice Ap pf.length cp, .slice Ab pb.length cb] ∧ Sl w7 w7.heap.size (.slice As sd.length cs) sd ∧ Sl w7 w7.heap.size (.slice Ap pf.length cp) pf ∧ Sl w7 w7.heap.size (.slice Ab pb.length cb) pb ∧ Tb w7 ∧ Below w.heap.size w w7) := ⟨H6.out.1.go b6, H6.out.2.1.go b6, H6.out.2.2.1.go b6, H6.out.2.2.2.1.go b6, H6.out.2.2.2.2.1.go b6, HTB.out _ _ H6.out.2.2.2.2.2.1 b6, Below.chain H6.out.2.2.2.2.2.2 b6⟩
   have S7 : Shh (Sl w7 w7.heap.size (.slice A6 lf.length c6) lf) := ⟨h6⟩
   clear h6 b6 H6 HCL
   go_wp2_with (first | refine wpList_load_any rfl 27 (.tmp 7) rfl M rfl 27 [.int .u32 xc, .bool xs, .int .i64 (Nn : Int), .int .i64 (H : Int), .int .i64 xl] _ H7.out.1 Tryz.underlying27 rfl info_xms ?_ | refine wpList_load_any rfl 25 (.tmp 4) rfl w.heap.size rfl 25 [.slice As sd.length cs, .slice Ap pf.length cp, .slice Ab pb.length cb] _ H7.out.2.1 Tryz.underlying25 rfl info_key11 ?_ | (go_at_call 19; refine (HCP.out _ H7.out.2.2.2.2.2.1 H7.out.2.2.1 H7.out.2.2.2.1 H7.out.2.2.2.2.1).mono ?_))
   unfold ResIs
   rintro e w8 ⟨v7, rfl, h7, b7⟩
   obtain ⟨A7, c7, rfl, hc7, _⟩ := h7.form
   have HC7 := Shh.mk hc7
   have H8 : Shh (Row w8 M 27 [.int .u32 xc, .bool xs, .int .i64 (Nn : Int), .int .i64 (H : Int), .int .i64 xl] ∧ Row w8 w.heap.size 25 [.slice As sd.length cs, .slice Ap pf.length cp, .slice Ab pb.length cb] ∧ Sl w8 w8.heap.size (.slice As sd.length cs) sd ∧ Sl w8 w8.heap.size (.slice Ap pf.length cp) pf ∧ Sl w8 w8.heap.size (.slice Ab pb.length cb) pb ∧ Tb w8 ∧ Below w.heap.size w w8) := ⟨H7.out.1.go b7, H7.out.2.1.go b7, H7.out.2.2.1.go b7, H7.out.2.2.2.1.go b7, H7.out.2.2.2.2.1.go b7, HTB.out _ _ H7.out.2.2.2.2.2.1 b7, Below.chain H7.out.2.2.2.2.2.2 b7⟩
   have S8 : Shh (Sl w8 w8.heap.size (.slice A6 lf.length c6) lf ∧ Sl w8 w8.heap.size (.slice A7 pa.length c7) pa) := ⟨S7.out.go b7, h7⟩
   clear h7 b7 H7 S7 HCP hc7
   go_wp2_with (first | refine wpList_load_any rfl 27 (.tmp 7) rfl M rfl 27 [.int .u32 xc, .bool xs, .int .i64 (Nn : Int), .int .i64 (H : Int), .int .i64 xl] _ H8.out.1 Tryz.underlying27 rfl info_xms ?_ | refine wpList_load_any rfl 25 (.tmp 4) rfl w.heap.size rfl 25 [.slice As sd.length cs, .slice Ap pf.length cp, .slice Ab pb.length cb] _ H8.out.2.1 Tryz.underlying25 rfl info_key11 ?_ | (go_at_call 18; refine (HCR.out _ H8.out.2.2.2.2.2.1 H8.out.2.2.1 H8.out.2.2.2.1 H8.out.2.2.2.2.1).mono ?_))
   unfold ResIs
   rintro e w9 ⟨v8, rfl, h8, b8⟩
   obtain ⟨A8, c8, rfl, _, _⟩ := h8.form
   have H9 : Shh (Row w9 M 27 [.int .u32 xc, .bool xs, .int .i64 (Nn : Int), .int .i64 (H : Int), .int .i64 xl] ∧ Row w9 w.heap.size 25 [.slice As sd.length cs, .slice Ap pf.length cp, .slice Ab pb.length cb] ∧ Sl w9 w9.heap.size (.slice As sd.length cs) sd ∧ Sl w9 w9.heap.size (.slice Ap pf.length cp) pf ∧ Sl w9 w9.heap.size (.slice Ab pb.length cb) pb ∧ Tb w9 ∧ Below w.heap.size w w9) := ⟨H8.out.1.go b8, H8.out.2.1.go b8, H8.out.2.2.1.go b8, H8.out.2.2.2.1.go b8, H8.out.2.2.2.2.1.go b8, HTB.out _ _ H8.out.2.2.2.2.2.1 b8, Below.chain H8.out.2.2.2.2.2.2 b8⟩
   have S9 : Shh (Sl w9 w9.heap.size (.slice A6 lf.length c6) lf ∧ Sl w9 w9.heap.size (.slice A7 pa.length c7) pa ∧ Sl w9 w9.heap.size (.slice A8 ro.length c8) ro) := ⟨S8.out.1.go b8, S8.out.2.go b8, h8⟩
   clear h8 b8 H8 S8 HCR
   have hmul : IntKind.i64.wrap ((H : Int) * (Nn : Int)) = (pa.length : Int) := by
    rw [HU.out.2.2.2.2.2, ← Int.natCast_mul, IntKind.wrap_i64]
    have := Nat.mul_le_mul hH4 hN32
    omega
   have k2 := H9.out.1.cell 2
   have k3 := H9.out.1.cell 3
   simp only [List.getElem?_cons_succ, List.getElem?_cons_zero] at k2 k3
   go_wp2
   clear hmul k2 k3
   go_loopw [8, 14, 78] (fun nv at_ ih wr => ∃ h : Nat, h ≤ H ∧ ih = .int .i64 (h : Int) ∧ at_ = .int .u32 ((i / 2 ^ h : Nat) : Int) ∧ Shh ((Row wr M 27 [.int .u32 xc, .bool xs, .int .i64 (Nn : Int), .int .i64 (H : Int), .int .i64 xl] ∧ Row wr w.heap.size 25 [.slice As sd.length cs, .slice Ap pf.length cp, .slice Ab pb.length cb] ∧ Sl wr wr.heap.size (.slice As sd.length cs) sd ∧ Sl wr wr.heap.size (.slice Ap pf.length cp) pf ∧ Sl wr wr.heap.size (.slice Ab pb.length cb) pb ∧ Tb wr ∧ Below w.heap.size w wr) ∧ Sl wr wr.heap.size (.slice A7 pa.length c7) pa ∧ Sl wr wr.heap.size (.slice A8 ro.length c8) ro ∧ Sl wr wr.heap.size nv (U h))) (fun _ _ ih _ => H - (intOf ih).toNat)
   case atStart => exact ⟨0, Nat.zero_le _, rfl, by simp, ⟨H9.out, S9.out.2.1, S9.out.2.2, by rw [HU.out.2.1]; exact S9.out.1⟩⟩
   case round =>
    clear H9 S9
    obtain ⟨h, hh, rfl, rfl, HL⟩ := hrel
    have hnv := HL.out.2.2.2
    obtain ⟨Av, cv, rfl, _, _⟩ := hnv.form
    clear hnv
    by_cases hlt : h < H
    ·obtain ⟨i1, hi1⟩ : ∃ i1, i1 = h * Nn := ⟨_, rfl⟩
     obtain ⟨i2, hi2⟩ : ∃ i2, i2 = (h + 1) * Nn := ⟨_, rfl⟩
     have hi12 : i1 ≤ i2 ∧ i2 ≤ 640 := by
      have h1 : (h + 1) * Nn ≤ 20 * 32 := Nat.mul_le_mul (by omega) hN32
      have h2 : h * Nn ≤ (h + 1) * Nn := Nat.mul_le_mul_right _ (by omega)
      omega
     have hgl2 : i2 ≤ pa.length := by
      rw [hi2, HU.out.2.2.2.2.2]
      exact Nat.mul_le_mul_right _ (by omega)
     have hm1 : IntKind.i64.wrap ((h : Int) * (Nn : Int)) = (i1 : Int) := by rw [← Int.natCast_mul, ← hi1, IntKind.wrap_i64]; omega
     have hm2 : IntKind.i64.wrap (((h : Int) + 1) * (Nn : Int)) = (i2 : Int) := by
      have e : ((h : Int) + 1) * (Nn : Int) = (((h + 1) * Nn : Nat) : Int) := by push_cast; rfl
      rw [e, ← hi2, IntKind.wrap_i64]; omega
     have hk1 : IntKind.i64.wrap ((h : Int) + 1) = (h : Int) + 1 := by rw [IntKind.wrap_i64]; omega
     obtain ⟨Ag, cg, runB, sG⟩ := slice_mid10 HL.out.2.1 i1 i2 hi12.1 hgl2 HC7.out
     obtain ⟨bs, hbs⟩ : ∃ bs, bs = (pa.take i2).drop i1 := ⟨_, rfl⟩
     rw [← hbs] at runB sG
     have hpe : pieceB Nn pa h = bs := by rw [hbs, hi1, hi2]; rfl
     have HBS : Shh (bs.length = Nn) := ⟨by rw [← hpe]; exact HU.out.2.2.2.1 h hlt⟩
     obtain ⟨q, hq⟩ : ∃ q, q = i / 2 ^ h := ⟨_, rfl⟩
     have hqi : q ≤ i := by rw [hq]; exact Nat.div_le_self _ _
     have hi32 := HI.out
     have HQ : Shh (q < 4294967296 ∧ i / 2 ^ (h + 1) = q / 2) := ⟨by omega, by rw [Nat.pow_succ, ← Nat.div_div_eq_div_mul, ← hq]⟩
     have HUN : Shh (U (h + 1) = if q % 2 = 0 then F h (q / 2) (U h) bs else F h (q / 2) bs (U h)) := ⟨by rw [hq, ← hpe]; exact HU.out.2.2.2.2.1 h hlt⟩
     rw [← hq]
     clear hq hqi hi32 hi12 hgl2 hi1 hi2 hbs hpe
     have hc : (h : Int) < (H : Int) := by omega
     obtain ⟨q2, hq2⟩ : ∃ q2, q2 = q / 2 := ⟨_, rfl⟩
     have hd2 : (q : Int) / 2 % 4294967296 = (q2 : Int) := by have := HQ.out.1; omega
     have HQ2 : Shh (q2 = q / 2 ∧ q2 < 4294967296) := ⟨hq2, by have := HQ.out.1; omega⟩
     have HHL : Shh (h < 4294967296) := ⟨by omega⟩
     clear hq2
     obtain ⟨LB, hLB⟩ : ∃ LB, LB = wordCells (adr11 2 0 h q2) := ⟨_, rfl⟩
     have HLB : Shh (∀ W, Calls Tryz.prog 41 #[.int .i64 2, .int .u32 0, .int .u32 (h : Int), .int .u32 (q2 : Int)] W (OldIs (.agg LB.toArray) W)) := ⟨fun W => by rw [hLB]; exact refAt11_any 2 0 h q2 (by decide) (by decide) HHL.out HQ2.out.2 W⟩
     obtain ⟨uh, huh⟩ : ∃ uh, uh = U h := ⟨_, rfl⟩
     have HUH : Shh (uh.length = Nn) := ⟨by rw [huh]; exact HU.out.1 h⟩
     have HNL : Shh (∀ (W : World) (vl vr : Value) (l r : List UInt8), Tb W → Sl W W.heap.size (.slice Ab pb.length cb) pb → Sl W W.heap.size vl l → Sl W W.heap.size vr r → l.length = Nn → r.length = Nn → Calls Tryz.prog 40 #[.agg #[.int .u32 xc, .bool xs, .int .i64 (Nn : Int), .int .i64 (H : Int), .int .i64 xl], .slice Ab pb.length cb, .agg LB.toArray, vl, vr] W (ResIs W 0 (F h q2 l r))) := ⟨fun W vl vr l r h1 h2 h3 h4 h5 h6 => by rw [hLB]; exact HCN.out h q2 l r vl vr W h1 h2 h3 h4 h5 h6⟩
     have H1 : Shh ((Row wr M 27 [.int .u32 xc, .bool xs, .int .i64 (Nn : Int), .int .i64 (H : Int), .int .i64 xl] ∧ Row wr w.heap.size 25 [.slice As sd.length cs, .slice Ap pf.length cp, .slice Ab pb.length cb] ∧ Sl wr wr.heap.size (.slice As sd.length cs) sd ∧ Sl wr wr.heap.size (.slice Ap pf.length cp) pf ∧ Sl wr wr.heap.size (.slice Ab pb.length cb) pb ∧ Tb wr ∧ Below w.heap.size w wr) ∧ Sl wr wr.heap.size (.slice A7 pa.length c7) pa ∧ Sl wr wr.heap.size (.slice A8 ro.length c8) ro ∧ Sl wr wr.heap.size (.slice Av uh.length cv) uh ∧ Sl wr wr.heap.size (.slice Ag bs.length cg) bs) := ⟨HL.out.1, HL.out.2.1, HL.out.2.2.1, by rw [huh]; exact HL.out.2.2.2, sG⟩
     rw [← huh] at HUN ⊢
     clear huh HL hLB sG HHL
     have k2 := H1.out.1.1.cell 2
     simp only [List.getElem?_cons_succ, List.getElem?_cons_zero] at k2
     have hqq := HQ.out.1
     by_cases hev : q % 2 = 0
     ·have hr0 : (q : Int) % 2 = 0 := by omega
      obtain ⟨nd, hnd⟩ : ∃ nd, nd = F h q2 uh bs := ⟨_, rfl⟩
      have HND : Shh (nd = F h q2 uh bs ∧ U (h + 1) = nd) := ⟨hnd, by rw [HUN.out, if_pos hev, hnd, HQ2.out.1]⟩
      clear hnd HUN
      go_wp2_with fail
      clear k2 hm1 hm2 runB
      refine wp_region_held_drew (S := fun w' => Row w' M 27 [.int .u32 xc, .bool xs, .int .i64 (Nn : Int), .int .i64 (H : Int), .int .i64 xl] ∧ Row w' w.heap.size 25 [.slice As sd.length cs, .slice Ap pf.length cp, .slice Ab pb.length cb]) (by kernel_rfl) ⟨H1.out.1.1.drew, H1.out.1.2.1.drew⟩ (fun hS => ?_)
      obtain ⟨V, hV⟩ : ∃ V, V = World.drew wr := ⟨_, rfl⟩
      rw [← hV] at hS ⊢
      have rX : Row V M 27 [.int .u32 xc, .bool xs, .int .i64 (Nn : Int), .int .i64 (H : Int), .int .i64 xl] := by rw [hV]; exact H1.out.1.1.drew
      have rK : Row V w.heap.size 25 [.slice As sd.length cs, .slice Ap pf.length cp, .slice Ab pb.length cb] := by rw [hV]; exact H1.out.1.2.1.drew
      have sS : Sl V V.heap.size (.slice As sd.length cs) sd := by rw [hV]; exact H1.out.1.2.2.1.drew
      have sP : Sl V V.heap.size (.slice Ap pf.length cp) pf := by rw [hV]; exact H1.out.1.2.2.2.1.drew
      have sB : Sl V V.heap.size (.slice Ab pb.length cb) pb := by rw [hV]; exact H1.out.1.2.2.2.2.1.drew
      have tV : Tb V := by rw [hV]; exact HTB.out _ _ H1.out.1.2.2.2.2.2.1 (Below.refl _ _).drew
      have HBV : Below w.heap.size w V := by rw [hV]; exact H1.out.1.2.2.2.2.2.2.drew
      have sA : Sl V V.heap.size (.slice A7 pa.length c7) pa := by rw [hV]; exact H1.out.2.1.drew
      have sO : Sl V V.heap.size (.slice A8 ro.length c8) ro := by rw [hV]; exact H1.out.2.2.1.drew
      have sU : Sl V V.heap.size (.slice Av uh.length cv) uh := by rw [hV]; exact H1.out.2.2.2.1.drew
      have sG : Sl V V.heap.size (.slice Ag bs.length cg) bs := by rw [hV]; exact H1.out.2.2.2.2.drew
      clear hV H1
      refine hdv0 1 101 (.pointer (some ⟨w.heap.size, 2, none⟩)) (by rfl) (⟨rX, rK⟩) ?_
      refine hdv 2 102 (.slice Ab pb.length cb) (by rfl) (fun w hS => load_p rfl (hS.2.cell 2) (by kernel_rfl)) (⟨rX, rK⟩) ?_
      refine hdv0 3 103 (.int .i64 (h : Int)) (by rfl) (⟨rX, rK⟩) ?_
      refine hdv 4 104 (.int .u32 (h : Int)) (by rfl) (fun w hS => conv_i32 (by have := hh; omega) rfl (by kernel_rfl)) (⟨rX, rK⟩) ?_
      refine hdv0 5 105 (.int .u32 (q : Int)) (by rfl) (⟨rX, rK⟩) ?_
      refine hdv 6 106 (.int .u32 (q2 : Int)) (by rfl) (fun w hS => quo_32 HQ2.out.1 HQ.out.1 rfl (by kernel_rfl)) (⟨rX, rK⟩) ?_
      refine hdv0 8 108 (.slice Av uh.length cv) (by rfl) (⟨rX, rK⟩) ?_
      refine hdv0 9 109 (.slice Ag bs.length cg) (by rfl) (⟨rX, rK⟩) ?_
      refine held_load 0 27 (.tmp 7) (some 100) (by kernel_rfl) (by rfl) (by kernel_rfl) M 0 (by kernel_rfl) ([.int .u32 xc, .bool xs, .int .i64 (Nn : Int), .int .i64 (H : Int), .int .i64 xl]) _ (fun w h => h.1.range) Tryz.underlying27 rfl (info_xms) (fun _ _ _ _ h => h) (⟨rX, rK⟩) ?_
      simp only [Act.put, arr9, hd9, tl9]
      refine held_one 7 (by kernel_rfl) ?_
      refine step_call 7 _ _ (some 107) 41 #[.int .i64 2, .int .u32 0, .int .u32 (h : Int), .int .u32 (q2 : Int)] (by rfl) (by kernel_rfl) (by first | kernel_rfl | go_simp) ?_
      refine (HLB.out V).mono ?_
      unfold OldIs; rintro e Y1 ⟨rfl, b4⟩
      have bx : Below V.heap.size V Y1 := b4
      clear b4
      have b_V := bx
      have m_Y1 : V.heap.size ≤ Y1.heap.size := bx.size
      clear bx
      refine ⟨_, rfl, ⟨(rX.go b_V), (rK.go b_V)⟩, ?_⟩
      simp only [Act.put, arr9, hd9, tl9]
      refine held_one 10 (by kernel_rfl) ?_
      refine step_call 10 _ _ (some 110) 40 #[.agg ([.int .u32 xc, .bool xs, .int .i64 (Nn : Int), .int .i64 (H : Int), .int .i64 xl]).toArray, .slice Ab pb.length cb, .agg LB.toArray, .slice Av uh.length cv, .slice Ag bs.length cg] (by rfl) (by kernel_rfl) (by first | kernel_rfl | go_simp) ?_
      refine (show Calls Tryz.prog 40 #[.agg #[.int .u32 xc, .bool xs, .int .i64 (Nn : Int), .int .i64 (H : Int), .int .i64 xl], .slice Ab pb.length cb, .agg LB.toArray, .slice Av uh.length cv, .slice Ag bs.length cg] Y1 (ResIs Y1 0 nd) by rw [HND.out.1]; exact HNL.out Y1 _ _ uh bs (HTB.out _ _ tV b_V) ((sB.go b_V)) ((sU.go b_V)) ((sG.go b_V)) HUH.out HBS.out).mono ?_
      unfold ResIs; rintro e Y2 ⟨v, rfl, gv, bv⟩
      have bx : Below Y1.heap.size Y1 Y2 := bv
      obtain ⟨Ak, ck, vEq, _, _⟩ := gv.form
      subst vEq
      have sN := gv
      clear gv
      replace b_V := Below.chain b_V bx
      have b_Y1 := bx
      have m_Y2 : Y1.heap.size ≤ Y2.heap.size := bx.size
      clear bx
      refine ⟨_, rfl, ⟨(rX.go b_V), (rK.go b_V)⟩, ?_⟩
      simp only [Act.put, arr9, hd9, tl9]
      refine hdv0 11 99 (.tuple #[.slice Ak nd.length ck, .int .i64 0]) (by rfl) (⟨(rX.go b_V), (rK.go b_V)⟩) ?_
      refine hdv0 12 111 (.slice Ak nd.length ck) (by rfl) (⟨(rX.go b_V), (rK.go b_V)⟩) ?_
      refine hdv0 13 112 (.int .i64 0) (by rfl) (⟨(rX.go b_V), (rK.go b_V)⟩) ?_
      refine hdv0 14 8 (.slice Ak nd.length ck) (by rfl) (⟨(rX.go b_V), (rK.go b_V)⟩) ?_
      refine hdv0 15 9 (.int .i64 0) (by rfl) (⟨(rX.go b_V), (rK.go b_V)⟩) ?_
      refine wpAnyH_done (by kernel_rfl) ?_ _
      have HR : Shh ((Row Y2 M 27 [.int .u32 xc, .bool xs, .int .i64 (Nn : Int), .int .i64 (H : Int), .int .i64 xl] ∧ Row Y2 w.heap.size 25 [.slice As sd.length cs, .slice Ap pf.length cp, .slice Ab pb.length cb] ∧ Sl Y2 Y2.heap.size (.slice As sd.length cs) sd ∧ Sl Y2 Y2.heap.size (.slice Ap pf.length cp) pf ∧ Sl Y2 Y2.heap.size (.slice Ab pb.length cb) pb ∧ Tb Y2 ∧ Below w.heap.size w Y2) ∧ Sl Y2 Y2.heap.size (.slice A7 pa.length c7) pa ∧ Sl Y2 Y2.heap.size (.slice A8 ro.length c8) ro ∧ Sl Y2 Y2.heap.size (.slice Ak nd.length ck) (U (h + 1))) := ⟨⟨(rX.go b_V), (rK.go b_V), (sS.go b_V), (sP.go b_V), (sB.go b_V), HTB.out _ _ tV b_V, Below.chain HBV b_V⟩, (sA.go b_V), (sO.go b_V), by rw [HND.out.2]; exact sN⟩
      clear m_Y2 b_Y1 sN m_Y1 b_V hS HBV rX rK sS sP sB tV sA sO sU sG
      clear HND HNL HLB HU HCN HBS HUH
      go_wp2
      go_roundw
      case rel => exact ⟨h + 1, by omega, by go_num, by rw [HQ.out.2, ← HQ2.out.1]; exact congrArg (Value.int .u32) (by have ha := HQ.out.1; have hb := HQ2.out.1; omega), HR⟩
      case measure => simp [intOf]; omega
     ·have hr1 : (q : Int) % 2 = 1 := by omega
      obtain ⟨nd, hnd⟩ : ∃ nd, nd = F h q2 bs uh := ⟨_, rfl⟩
      have HND : Shh (nd = F h q2 bs uh ∧ U (h + 1) = nd) := ⟨hnd, by rw [HUN.out, if_neg hev, hnd, HQ2.out.1]⟩
      clear hnd HUN
      go_wp2_with fail
      clear k2 hm1 hm2 runB
      refine wp_region_held_drew (S := fun w' => Row w' M 27 [.int .u32 xc, .bool xs, .int .i64 (Nn : Int), .int .i64 (H : Int), .int .i64 xl] ∧ Row w' w.heap.size 25 [.slice As sd.length cs, .slice Ap pf.length cp, .slice Ab pb.length cb]) (by kernel_rfl) ⟨H1.out.1.1.drew, H1.out.1.2.1.drew⟩ (fun hS => ?_)
      obtain ⟨V, hV⟩ : ∃ V, V = World.drew wr := ⟨_, rfl⟩
      rw [← hV] at hS ⊢
      have rX : Row V M 27 [.int .u32 xc, .bool xs, .int .i64 (Nn : Int), .int .i64 (H : Int), .int .i64 xl] := by rw [hV]; exact H1.out.1.1.drew
      have rK : Row V w.heap.size 25 [.slice As sd.length cs, .slice Ap pf.length cp, .slice Ab pb.length cb] := by rw [hV]; exact H1.out.1.2.1.drew
      have sS : Sl V V.heap.size (.slice As sd.length cs) sd := by rw [hV]; exact H1.out.1.2.2.1.drew
      have sP : Sl V V.heap.size (.slice Ap pf.length cp) pf := by rw [hV]; exact H1.out.1.2.2.2.1.drew
      have sB : Sl V V.heap.size (.slice Ab pb.length cb) pb := by rw [hV]; exact H1.out.1.2.2.2.2.1.drew
      have tV : Tb V := by rw [hV]; exact HTB.out _ _ H1.out.1.2.2.2.2.2.1 (Below.refl _ _).drew
      have HBV : Below w.heap.size w V := by rw [hV]; exact H1.out.1.2.2.2.2.2.2.drew
      have sA : Sl V V.heap.size (.slice A7 pa.length c7) pa := by rw [hV]; exact H1.out.2.1.drew
      have sO : Sl V V.heap.size (.slice A8 ro.length c8) ro := by rw [hV]; exact H1.out.2.2.1.drew
      have sU : Sl V V.heap.size (.slice Av uh.length cv) uh := by rw [hV]; exact H1.out.2.2.2.1.drew
      have sG : Sl V V.heap.size (.slice Ag bs.length cg) bs := by rw [hV]; exact H1.out.2.2.2.2.drew
      clear hV H1
      refine hdv0 1 101 (.pointer (some ⟨w.heap.size, 2, none⟩)) (by rfl) (⟨rX, rK⟩) ?_
      refine hdv 2 102 (.slice Ab pb.length cb) (by rfl) (fun w hS => load_p rfl (hS.2.cell 2) (by kernel_rfl)) (⟨rX, rK⟩) ?_
      refine hdv0 3 103 (.int .i64 (h : Int)) (by rfl) (⟨rX, rK⟩) ?_
      refine hdv 4 104 (.int .u32 (h : Int)) (by rfl) (fun w hS => conv_i32 (by have := hh; omega) rfl (by kernel_rfl)) (⟨rX, rK⟩) ?_
      refine hdv0 5 105 (.int .u32 (q : Int)) (by rfl) (⟨rX, rK⟩) ?_
      refine hdv 6 106 (.int .u32 (q2 : Int)) (by rfl) (fun w hS => quo_32 HQ2.out.1 HQ.out.1 rfl (by kernel_rfl)) (⟨rX, rK⟩) ?_
      refine hdv0 8 108 (.slice Ag bs.length cg) (by rfl) (⟨rX, rK⟩) ?_
      refine hdv0 9 109 (.slice Av uh.length cv) (by rfl) (⟨rX, rK⟩) ?_
      refine held_load 0 27 (.tmp 7) (some 100) (by kernel_rfl) (by rfl) (by kernel_rfl) M 0 (by kernel_rfl) ([.int .u32 xc, .bool xs, .int .i64 (Nn : Int), .int .i64 (H : Int), .int .i64 xl]) _ (fun w h => h.1.range) Tryz.underlying27 rfl (info_xms) (fun _ _ _ _ h => h) (⟨rX, rK⟩) ?_
      simp only [Act.put, arr9, hd9, tl9]
      refine held_one 7 (by kernel_rfl) ?_
      refine step_call 7 _ _ (some 107) 41 #[.int .i64 2, .int .u32 0, .int .u32 (h : Int), .int .u32 (q2 : Int)] (by rfl) (by kernel_rfl) (by first | kernel_rfl | go_simp) ?_
      refine (HLB.out V).mono ?_
      unfold OldIs; rintro e Y1 ⟨rfl, b4⟩
      have bx : Below V.heap.size V Y1 := b4
      clear b4
      have b_V := bx
      have m_Y1 : V.heap.size ≤ Y1.heap.size := bx.size
      clear bx
      refine ⟨_, rfl, ⟨(rX.go b_V), (rK.go b_V)⟩, ?_⟩
      simp only [Act.put, arr9, hd9, tl9]
      refine held_one 10 (by kernel_rfl) ?_
      refine step_call 10 _ _ (some 110) 40 #[.agg ([.int .u32 xc, .bool xs, .int .i64 (Nn : Int), .int .i64 (H : Int), .int .i64 xl]).toArray, .slice Ab pb.length cb, .agg LB.toArray, .slice Ag bs.length cg, .slice Av uh.length cv] (by rfl) (by kernel_rfl) (by first | kernel_rfl | go_simp) ?_
      refine (show Calls Tryz.prog 40 #[.agg #[.int .u32 xc, .bool xs, .int .i64 (Nn : Int), .int .i64 (H : Int), .int .i64 xl], .slice Ab pb.length cb, .agg LB.toArray, .slice Ag bs.length cg, .slice Av uh.length cv] Y1 (ResIs Y1 0 nd) by rw [HND.out.1]; exact HNL.out Y1 _ _ bs uh (HTB.out _ _ tV b_V) ((sB.go b_V)) ((sG.go b_V)) ((sU.go b_V)) HBS.out HUH.out).mono ?_
      unfold ResIs; rintro e Y2 ⟨v, rfl, gv, bv⟩
      have bx : Below Y1.heap.size Y1 Y2 := bv
      obtain ⟨Ak, ck, vEq, _, _⟩ := gv.form
      subst vEq
      have sN := gv
      clear gv
      replace b_V := Below.chain b_V bx
      have b_Y1 := bx
      have m_Y2 : Y1.heap.size ≤ Y2.heap.size := bx.size
      clear bx
      refine ⟨_, rfl, ⟨(rX.go b_V), (rK.go b_V)⟩, ?_⟩
      simp only [Act.put, arr9, hd9, tl9]
      refine hdv0 11 99 (.tuple #[.slice Ak nd.length ck, .int .i64 0]) (by rfl) (⟨(rX.go b_V), (rK.go b_V)⟩) ?_
      refine hdv0 12 111 (.slice Ak nd.length ck) (by rfl) (⟨(rX.go b_V), (rK.go b_V)⟩) ?_
      refine hdv0 13 112 (.int .i64 0) (by rfl) (⟨(rX.go b_V), (rK.go b_V)⟩) ?_
      refine hdv0 14 8 (.slice Ak nd.length ck) (by rfl) (⟨(rX.go b_V), (rK.go b_V)⟩) ?_
      refine hdv0 15 9 (.int .i64 0) (by rfl) (⟨(rX.go b_V), (rK.go b_V)⟩) ?_
      refine wpAnyH_done (by kernel_rfl) ?_ _
      have HR : Shh ((Row Y2 M 27 [.int .u32 xc, .bool xs, .int .i64 (Nn : Int), .int .i64 (H : Int), .int .i64 xl] ∧ Row Y2 w.heap.size 25 [.slice As sd.length cs, .slice Ap pf.length cp, .slice Ab pb.length cb] ∧ Sl Y2 Y2.heap.size (.slice As sd.length cs) sd ∧ Sl Y2 Y2.heap.size (.slice Ap pf.length cp) pf ∧ Sl Y2 Y2.heap.size (.slice Ab pb.length cb) pb ∧ Tb Y2 ∧ Below w.heap.size w Y2) ∧ Sl Y2 Y2.heap.size (.slice A7 pa.length c7) pa ∧ Sl Y2 Y2.heap.size (.slice A8 ro.length c8) ro ∧ Sl Y2 Y2.heap.size (.slice Ak nd.length ck) (U (h + 1))) := ⟨⟨(rX.go b_V), (rK.go b_V), (sS.go b_V), (sP.go b_V), (sB.go b_V), HTB.out _ _ tV b_V, Below.chain HBV b_V⟩, (sA.go b_V), (sO.go b_V), by rw [HND.out.2]; exact sN⟩
      clear m_Y2 b_Y1 sN m_Y1 b_V hS HBV rX rK sS sP sB tV sA sO sU sG
      clear HND HNL HLB HU HCN HBS HUH
      go_wp2
      go_roundw
      case rel => exact ⟨h + 1, by omega, by go_num, by rw [HQ.out.2, ← HQ2.out.1]; exact congrArg (Value.int .u32) (by have ha := HQ.out.1; have hb := HQ2.out.1; omega), HR⟩
      case measure => simp [intOf]; omega
    ·obtain rfl : h = H := by omega
     have hee : (ro == ro) = true := by simp
     have HEQ : Shh (U h = ro) := ⟨HU.out.2.2.1⟩
     have HR : Shh (Sl wr wr.heap.size (.slice Av ro.length cv) ro ∧ Sl wr wr.heap.size (.slice A8 ro.length c8) ro ∧ Below w.heap.size w wr) := ⟨by have h1 := HL.out.2.2.2; rw [HEQ.out] at h1; exact h1, HL.out.2.2.1, HL.out.1.2.2.2.2.2.2⟩
     rw [HEQ.out]
     clear HL HU HCN HEQ
     go_wp2_with (go_at_call 15; refine (refEqual_any wr.heap.size wr.heap.size _ _ ro ro _ HR.out.1 HR.out.2.1).mono ?_)
     rintro e w12 ⟨rfl, rfl⟩
     rw [hee]
     go_wp2
     go_ret
     exact ⟨rfl, HR.out.2.2⟩
  ·clear HQQ HI
   go_wp2_with (go_at_call 14; refine (HT.out _ H6.out.2.2.2.2.2.1).mono ?_)
   unfold TrueIs
   rintro e w7 ⟨rfl, b7⟩
   have HB : Shh (Below w.heap.size w w7) := ⟨Below.chain H6.out.2.2.2.2.2.2 b7⟩
   clear b7 H6 HT
   go_wp2
   go_ret
   exact ⟨rfl, HB.out⟩
end
end Go.Proofs.YtdakbipiifkmfaaGreatDoor
