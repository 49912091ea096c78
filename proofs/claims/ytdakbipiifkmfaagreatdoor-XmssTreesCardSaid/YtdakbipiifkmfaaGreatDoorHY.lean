import Derived.Test.YtdakbipiifkmfaaGreatDoorHX
import Derived.Test.YtdakbipiifkmfaaGreatDoorHG
/-
 WALKS: the document's own Index.
-/
namespace Go.Proofs.YtdakbipiifkmfaaGreatDoor
open Go.RowKit
set_option maxRecDepth 100000
end Go.Proofs.YtdakbipiifkmfaaGreatDoor

/-
 WALK: the document's own Summed.
-/
namespace Go.Proofs.YtdakbipiifkmfaaGreatDoor
open Go.RowKit
set_option maxRecDepth 100000
section
variable {a : Act} {x y : Operand} {op : Oper} {w : World}
theorem conv_u64 {j : Nat} (h : j < 4294967296) (ho : op.op = .convert 22 74 x) (hx : a.eval x = .int .u32 (j : Int)) : (execOp a.eval op).run Tryz.prog w = .ok (.value (.int .u64 (j : Int))) w := by
 have hw : IntKind.u64.wrap (j : Int) = (j : Int) := by rw [IntKind.wrap_u64]; omega
 unfold execOp
 simp only [ho, hx]
 go_simp
end
end Go.Proofs.YtdakbipiifkmfaaGreatDoor

/-
 WALK: the document's own Came: the root that comes of a signature.
-/
namespace Go.Proofs.YtdakbipiifkmfaaGreatDoor
open Go.RowKit
set_option maxRecDepth 100000
theorem ltreeB_length {x : S5} (hx : x.ok = true) (seed ends : List UInt8) (leaf L : Nat) (hL : 0 < L) (h : ends.length = L * x.n.toNat) : (ltreeB x.s x.n L seed ends leaf).length = x.n.toNat := by
 unfold ltreeB
 have h1 : ∀ b ∈ cutL x.n.toNat ends L, b.length = x.n.toNat := by
  intro b hb
  unfold cutL at hb
  obtain ⟨i, hi, rfl⟩ := List.mem_map.1 hb
  exact pieceB_length _ _ _ L h (List.mem_range.1 hi)
 have h2 := lvl_all (ltF x.s x.n seed leaf) x.n.toNat (fun h i a b => nodeB_length hx _ _ _ _) _ h1 7
 have h3 := lvl_pos (ltF x.s x.n seed leaf) (cutL x.n.toNat ends L) (by rw [cutL_length]; exact hL) 7
 rw [List.getD_eq_getElem?_getD, List.getElem?_eq_getElem h3]
 exact h2 _ (List.getElem_mem h3)
end Go.Proofs.YtdakbipiifkmfaaGreatDoor

/-
 WALK: the document's own Verify.
-/
namespace Go.Proofs.YtdakbipiifkmfaaGreatDoor
open Go.RowKit
set_option maxRecDepth 100000
end Go.Proofs.YtdakbipiifkmfaaGreatDoor

/-
 THE LAWS OF CHAPTER 11: XmssProves, over contracts of the program's own functions.
-/
namespace Go.Proofs.YtdakbipiifkmfaaGreatDoor
open Go.RowKit
set_option maxRecDepth 100000
end Go.Proofs.YtdakbipiifkmfaaGreatDoor

/-
 Slices of slices of slices of bytes; WALK: the document's own Root.
-/
namespace Go.Proofs.YtdakbipiifkmfaaGreatDoor
open Go.RowKit
set_option maxRecDepth 100000
/-- a slice of slices of slices of bytes, to be read -/
def Prt2 (w : World) (B : Nat) (v : Value) (rss : List (List (List UInt8))) : Prop :=
 ∃ A c, v = .slice A rss.length c ∧ rss.length ≤ c ∧ c ≤ maxLen ∧ (0 < rss.length → ∃ q off, A = some ⟨q, off, none⟩ ∧ q < B ∧ ∀ i (h : i < rss.length), ∃ u, w.cell? ⟨q, off + i, none⟩ = some u ∧ Prt w B u rss[i])
section
variable {w w' : World} {B : Nat} {v : Value} {rss : List (List (List UInt8))}
theorem Prt2.below (h : Prt2 w B v rss) (hb : Below B w w') : Prt2 w' B v rss := by
 obtain ⟨A, c, hv, h1, h2, hc⟩ := h
 refine ⟨A, c, hv, h1, h2, fun hn => ?_⟩
 obtain ⟨q, off, hA, hq, hr⟩ := hc hn
 refine ⟨q, off, hA, hq, fun i hi => ?_⟩
 obtain ⟨u, hu, hs⟩ := hr i hi
 exact ⟨u, (hb.cell (p := ⟨q, off + i, none⟩) hq).trans hu, hs.below hb⟩
theorem Prt2.more {B' : Nat} (h : Prt2 w B v rss) (hB : B ≤ B') : Prt2 w B' v rss := by
 obtain ⟨A, c, hv, h1, h2, hc⟩ := h
 refine ⟨A, c, hv, h1, h2, fun hn => ?_⟩
 obtain ⟨q, off, hA, hq, hr⟩ := hc hn
 refine ⟨q, off, hA, by omega, fun i hi => ?_⟩
 obtain ⟨u, hu, hs⟩ := hr i hi
 exact ⟨u, hu, hs.more hB⟩
theorem Prt2.go (h : Prt2 w w.heap.size v rss) (b : Below w.heap.size w w') : Prt2 w' w'.heap.size v rss := (h.below b).more b.size
theorem Prt2.form (h : Prt2 w B v rss) : ∃ A c, v = .slice A rss.length c ∧ rss.length ≤ c ∧ c ≤ maxLen := by
 obtain ⟨A, c, hv, h1, h2, _⟩ := h
 exact ⟨A, c, hv, h1, h2⟩
theorem Prt2.at_ {A : Option Addr} {n c : Nat} (h : Prt2 w B (.slice A n c) rss) (hn : 0 < rss.length) : ∃ q off, A = some ⟨q, off, none⟩ ∧ q < B ∧ ∀ i (h : i < rss.length), ∃ u, w.cell? ⟨q, off + i, none⟩ = some u ∧ Prt w B u rss[i] := by
 obtain ⟨A', c', hv, _, _, hc⟩ := h
 cases hv
 exact hc hn
end
set_option maxHeartbeats 1000000 in
theorem refRoot11_any (v : Value) (rss : List (List (List UInt8))) (row : List (List UInt8)) (root : List UInt8) (n : Nat) (hn : rss.length = n + 1) (h1 : rss[n]? = some row) (h2 : row[0]? = some root) (w : World) (hr : Prt2 w w.heap.size v rss) :
  Calls Tryz.prog 23 #[v] w (SlIs w root) := by
 unfold SlIs
 obtain ⟨A, c, rfl, hc1, hc2⟩ := hr.form
 obtain ⟨q, off, rfl, hq, hat⟩ := hr.at_ (by omega)
 obtain ⟨u, hu, hp⟩ := hat n (by omega)
 have e1 : rss[n] = row := by
  rw [List.getElem?_eq_getElem (by omega)] at h1
  exact Option.some.inj h1
 rw [e1] at hp
 have hrl : 0 < row.length := by
  cases row with
  | nil => simp at h2
  | cons _ _ => simp
 obtain ⟨A2, c2, rfl, hd1, hd2⟩ := hp.form
 obtain ⟨q2, off2, rfl, hq2, hat2⟩ := hp.at_ hrl
 obtain ⟨u2, hu2, hs⟩ := hat2 0 hrl
 have e2 : row[0] = root := by
  rw [List.getElem?_eq_getElem hrl] at h2
  exact Option.some.inj h2
 rw [e2] at hs
 obtain ⟨A3, c3, rfl, _, _⟩ := hs.form
 rw [Nat.add_zero] at hu2
 rw [hn]
 have hw : wrap64 (n : Int) = (n : Int) := by
  unfold maxLen at hc2
  simp only [wrap64]
  omega
 have hlt : (n : Int) < ((n + 1 : Nat) : Int) := by omega
 have hlt2 : (n : Int) < (n : Int) + 1 := by omega
 have hrl0 : (0 : Int) < (row.length : Int) := by omega
 have HS := Shh.mk hs
 clear hs hp hat hat2 hr e1 e2 h1 h2 hn hc1 hc2 hd1 hd2
 go_enter Tryz.func23, Tryz.ntmps23
 go_wp2
 go_ret
 exact ⟨_, rfl, HS.out, Below.refl _ _⟩
end Go.Proofs.YtdakbipiifkmfaaGreatDoor

/-
 WALK: the document's own Public.
-/
namespace Go.Proofs.YtdakbipiifkmfaaGreatDoor
open Go.RowKit
set_option maxRecDepth 100000
/-- the public key -/
def pubX (x : S5) (root pb : List UInt8) : List UInt8 := bigB x.c.toNat 4 ++ (root ++ pb)
section
variable {a : Act} {x y : Operand} {op : Oper} {w : World}
theorem load_u {p : Addr} {n : Int} (ho : op.op = .load 22 x) (hc : w.cell? p = some (.int .u32 n)) (hx : a.eval x = .pointer (some p)) : (execOp a.eval op).run Tryz.prog w = .ok (.value (.int .u32 n)) w := by
 unfold execOp
 simp only [ho, hx]
 go_simp
end
theorem prt2_drew {w : World} {v : Value} {rss : List (List (List UInt8))} (h : Prt2 w w.heap.size v rss) : Prt2 w.drew w.drew.heap.size v rss := h.go (Below.refl _ w).drew
set_option maxHeartbeats 2000000 in
theorem refPublic11_any (x : S5) (hw : x.wf) (vs vk vb vr : Value) (sd pf pb root : List UInt8) (rss : List (List (List UInt8))) (row : List (List UInt8)) (n : Nat) (hn : rss.length = n + 1) (h1 : rss[n]? = some row) (h2 : row[0]? = some root) (hrl : root.length ≤ 1000) (hbl : pb.length ≤ 1000) (w : World) (hs : Sl w w.heap.size vs sd) (hk : Sl w w.heap.size vk pf) (hb : Sl w w.heap.size vb pb) (hr : Prt2 w w.heap.size vr rss) :
  Calls Tryz.prog 24 #[x.v, keyV vs vk vb, vr] w (SlIs w (pubX x root pb)) := by
 unfold SlIs
 obtain ⟨As, cs, rfl, _, _⟩ := hs.form
 obtain ⟨Ak, ck, rfl, _, _⟩ := hk.form
 obtain ⟨Ab, cb, rfl, _, _⟩ := hb.form
 obtain ⟨Ar, cr, rfl, _, _⟩ := hr.form
 have hcn := c5_nat hw
 obtain ⟨cn, hcn2⟩ : ∃ cn, cn = x.c.toNat := ⟨_, rfl⟩
 rw [← hcn2] at hcn
 obtain ⟨bi, hbi⟩ : ∃ bi, bi = bigB cn 4 := ⟨_, rfl⟩
 obtain ⟨jj, hjj⟩ : ∃ jj, jj = [bi, root, pb].flatten := ⟨_, rfl⟩
 have e : pubX x root pb = jj := by unfold pubX; rw [hjj, three_flat10, hbi, hcn2]
 have hb4 : bi.length = 4 := by rw [hbi]; exact bigB_length _ _
 have hjl : jj.length ≤ 3000 := by rw [hjj]; simp; omega
 rw [e]
 have HI : Shh (cn < 4294967296 ∧ True) := ⟨hcn.2, trivial⟩
 have HQ : Shh (bi = bigB cn 4 ∧ jj = [bi, root, pb].flatten ∧ jj.length ≤ 3000) := ⟨hbi, hjj, hjl⟩
 have HRT : Shh (∀ W, Prt2 W W.heap.size (.slice Ar rss.length cr) rss → Calls Tryz.prog 23 #[.slice Ar rss.length cr] W (SlIs W root)) := ⟨fun W h => refRoot11_any _ rss row root n hn h1 h2 W h⟩
 unfold S5.v keyV
 rw [← hcn.1]
 clear hbi hjj hjl hb4 hcn hcn2 e hn h1 h2 hrl hbl hw
 generalize x.s = xs at *
 generalize x.n = xn at *
 generalize x.h = xh at *
 generalize x.l = xl at *
 obtain ⟨W, hW⟩ : ∃ W, W = (w.alloc (.cells #[.int .u32 (cn : Int), .bool xs, .int .i64 xn, .int .i64 xh, .int .i64 xl] 27)).alloc (.cells #[.slice As sd.length cs, .slice Ak pf.length ck, .slice Ab pb.length cb] 25) := ⟨_, rfl⟩
 have HW : Shh (Row W w.heap.size 27 [.int .u32 (cn : Int), .bool xs, .int .i64 xn, .int .i64 xh, .int .i64 xl] ∧ Row W (w.heap.size + 1) 25 [.slice As sd.length cs, .slice Ak pf.length ck, .slice Ab pb.length cb] ∧ Sl W W.heap.size (.slice Ab pb.length cb) pb ∧ Prt2 W W.heap.size (.slice Ar rss.length cr) rss ∧ Below w.heap.size w W) := by
  rw [hW]
  exact ⟨(Row.new_ rfl rfl).alloc _, Row.new_ (by rw [asz]) rfl, (hb.go (below1 _ _)).go (below1 _ _), (hr.go (below1 _ _)).go (below1 _ _), Below.chain (below1 _ _) (below1 _ _)⟩
 clear hs hk hb hr
 go_enter Tryz.func24, Tryz.ntmps24
 go_wp2_with fail
 rw [← hW]
 clear hW
 refine wp_region_held_drew (S := fun w' => Row w' w.heap.size 27 [.int .u32 (cn : Int), .bool xs, .int .i64 xn, .int .i64 xh, .int .i64 xl] ∧ Row w' (w.heap.size + 1) 25 [.slice As sd.length cs, .slice Ak pf.length ck, .slice Ab pb.length cb]) (by kernel_rfl) ⟨HW.out.1.drew, HW.out.2.1.drew⟩ (fun hS => ?_)
 obtain ⟨V, hV⟩ : ∃ V, V = World.drew W := ⟨_, rfl⟩
 rw [← hV] at hS ⊢
 have rX : Row V w.heap.size 27 [.int .u32 (cn : Int), .bool xs, .int .i64 xn, .int .i64 xh, .int .i64 xl] := by rw [hV]; exact HW.out.1.drew
 have rK : Row V (w.heap.size + 1) 25 [.slice As sd.length cs, .slice Ak pf.length ck, .slice Ab pb.length cb] := by rw [hV]; exact HW.out.2.1.drew
 have sB : Sl V V.heap.size (.slice Ab pb.length cb) pb := by rw [hV]; exact HW.out.2.2.1.drew
 have sR : Prt2 V V.heap.size (.slice Ar rss.length cr) rss := by rw [hV]; exact prt2_drew HW.out.2.2.2.1
 have HBV : Below w.heap.size w V := by rw [hV]; exact HW.out.2.2.2.2.drew
 clear hV HW
 refine hdv0 0 7 (.pointer (some ⟨w.heap.size, 0, none⟩)) (by rfl) (⟨rX, rK⟩) ?_
 refine hdv 1 8 (.int .u32 (cn : Int)) (by rfl) (fun w hS => load_u rfl (hS.1.cell 0) (by kernel_rfl)) (⟨rX, rK⟩) ?_
 refine hdv 2 9 (.int .u64 (cn : Int)) (by rfl) (fun w hS => conv_u64 HI.out.1 rfl (by kernel_rfl)) (⟨rX, rK⟩) ?_
 refine hdv0 4 11 (.slice Ar rss.length cr) (by rfl) (⟨rX, rK⟩) ?_
 refine hdv0 6 13 (.pointer (some ⟨w.heap.size + 1, 2, none⟩)) (by rfl) (⟨rX, rK⟩) ?_
 refine hdv 7 14 (.slice Ab pb.length cb) (by rfl) (fun w hS => load_p rfl (hS.2.cell 2) (by kernel_rfl)) (⟨rX, rK⟩) ?_
 refine held_one 3 (by kernel_rfl) ?_
 refine step_call 3 _ _ (some 10) 56 #[.int .u64 (cn : Int), .int .i64 4] (by rfl) (by kernel_rfl) (by first | kernel_rfl | go_simp) ?_
 refine (show Calls Tryz.prog 56 #[.int .u64 (cn : Int), .int .i64 4] V (OwnIs V bi) by have h := refBig64_any cn 4 V (by decide) (by have := HI.out.1; omega); rw [← HQ.out.1] at h; exact h).mono ?_
 rintro e Y1 ⟨v, rfl, gv⟩
 have bx : Below V.heap.size V Y1 := gv.2
 obtain ⟨Ai, ci, vEq⟩ := own_form gv.1
 subst vEq
 have sI : Sl Y1 Y1.heap.size (.slice Ai bi.length ci) bi := gives_sl gv
 clear gv
 have b_V := bx
 have m_Y1 : V.heap.size ≤ Y1.heap.size := bx.size
 clear bx
 refine ⟨_, rfl, ⟨(rX.go b_V), (rK.go b_V)⟩, ?_⟩
 simp only [Act.put, arr9, hd9, tl9]
 refine held_one 5 (by kernel_rfl) ?_
 refine step_call 5 _ _ (some 12) 23 #[.slice Ar rss.length cr] (by rfl) (by kernel_rfl) (by first | kernel_rfl | go_simp) ?_
 refine (show Calls Tryz.prog 23 #[.slice Ar rss.length cr] Y1 (SlIs Y1 root) by exact HRT.out Y1 ((sR.go b_V))).mono ?_
 rintro e Y2 ⟨v, rfl, gv, bv⟩
 have bx : Below Y1.heap.size Y1 Y2 := bv
 obtain ⟨At, ct, vEq, _, _⟩ := gv.form
 subst vEq
 have sT := gv
 clear gv
 replace b_V := Below.chain b_V bx
 have b_Y1 := bx
 have m_Y2 : Y1.heap.size ≤ Y2.heap.size := bx.size
 clear bx
 refine ⟨_, rfl, ⟨(rX.go b_V), (rK.go b_V)⟩, ?_⟩
 simp only [Act.put, arr9, hd9, tl9]
 refine held_one 8 (by kernel_rfl) ?_
 refine step_value 8 _ _ (some 15) (.slice (some ⟨Y2.heap.size, 0, none⟩) 3 3) (Y2.alloc (.cells #[.slice Ai bi.length ci, .slice At root.length ct, .slice Ab pb.length cb] 23)) (by rfl) (by kernel_rfl) (by first | kernel_rfl | go_simp) (⟨((rX.go b_V)).alloc _, ((rK.go b_V)).alloc _⟩) ?_
 simp only [Act.put, arr9, hd9, tl9]
 have bx : Below Y2.heap.size Y2 (Y2.alloc (.cells #[.slice Ai bi.length ci, .slice At root.length ct, .slice Ab pb.length cb] 23)) := Below.alloc (Below.refl _ _) (Nat.le_refl _) _
 have rB : Row (Y2.alloc (.cells #[.slice Ai bi.length ci, .slice At root.length ct, .slice Ab pb.length cb] 23)) Y2.heap.size 23 [.slice Ai bi.length ci, .slice At root.length ct, .slice Ab pb.length cb] := Row.new_ rfl rfl
 have z_rB := asz Y2 (.cells #[.slice Ai bi.length ci, .slice At root.length ct, .slice Ab pb.length cb] 23)
 generalize Y2.alloc (.cells #[.slice Ai bi.length ci, .slice At root.length ct, .slice Ab pb.length cb] 23) = Y3 at *
 replace b_V := Below.chain b_V bx
 replace b_Y1 := Below.chain b_Y1 bx
 have b_Y2 := bx
 have m_Y3 : Y2.heap.size ≤ Y3.heap.size := bx.size
 clear bx
 refine held_one 9 (by kernel_rfl) ?_
 refine step_call 9 _ _ (some 16) 55 #[.slice (some ⟨Y2.heap.size, 0, none⟩) 3 3] (by rfl) (by kernel_rfl) (by first | kernel_rfl | go_simp) ?_
 refine (show Calls Tryz.prog 55 #[.slice (some ⟨Y2.heap.size, 0, none⟩) 3 3] Y3 (OwnIs Y3 jj) by have h := refJoin_any Y3.heap.size Y3.heap.size (.slice (some ⟨Y2.heap.size, 0, none⟩) 3 3) [bi, root, pb] Y3 (PartsO.three (rB).lt (Nat.ne_of_lt (rB).lt) (rB) ((sI.go b_Y1)) (((sI.go b_Y1)).off (Nat.le_refl _)) ((sT.go b_Y2)) (((sT.go b_Y2)).off (Nat.le_refl _)) ((sB.go b_V)) (((sB.go b_V)).off (Nat.le_refl _))) (Nat.le_refl _) (by rw [← HQ.out.2.1]; have := HQ.out.2.2; omega) (by simp); rw [← HQ.out.2.1] at h; exact h).mono ?_
 rintro e Y4 ⟨v, rfl, gv⟩
 have bx : Below Y3.heap.size Y3 Y4 := gv.2
 obtain ⟨Aj, cj, vEq⟩ := own_form gv.1
 subst vEq
 have sJ : Sl Y4 Y4.heap.size (.slice Aj jj.length cj) jj := gives_sl gv
 clear gv
 replace b_V := Below.chain b_V bx
 replace b_Y1 := Below.chain b_Y1 bx
 replace b_Y2 := Below.chain b_Y2 bx
 have b_Y3 := bx
 have m_Y4 : Y3.heap.size ≤ Y4.heap.size := bx.size
 clear bx
 refine ⟨_, rfl, ⟨(rX.go b_V), (rK.go b_V)⟩, ?_⟩
 simp only [Act.put, arr9, hd9, tl9]
 refine hdv0 10 6 (.slice Aj jj.length cj) (by rfl) (⟨(rX.go b_V), (rK.go b_V)⟩) ?_
 refine wpAnyH_done (by kernel_rfl) ?_ _
 have HR : Shh (Sl Y4 Y4.heap.size (.slice Aj jj.length cj) jj ∧ Below w.heap.size w Y4) := ⟨sJ, Below.chain HBV b_V⟩
 clear m_Y4 b_Y3 sJ m_Y3 b_Y2 z_rB rB m_Y2 b_Y1 sT bv m_Y1 b_V sI hS HBV rX rK sB sR
 clear HQ HI HRT
 go_wp2
 go_ret
 exact ⟨_, rfl, HR.out.1, HR.out.2⟩

end Go.Proofs.YtdakbipiifkmfaaGreatDoor

/-
 WALK: the document's own Path.
-/
namespace Go.Proofs.YtdakbipiifkmfaaGreatDoor
open Go.RowKit
set_option maxRecDepth 100000
theorem sliceR : Tryz.prog.underlying 40 = some (.slice (Tryz.prog.elem 40)) := by kernel_rfl
theorem elemR : Tryz.prog.elem 40 = 82 := by kernel_rfl
theorem run_sizeOf_row (w : World) : (sizeOf 82).run Tryz.prog w = .ok 1 w := by simp [go_sem]
/-- the first j rows -/
theorem run_cutR (g off n c j : Nat) (hj : j ≤ c) (w : World) : (Instr.sliceAt 40 (.slice (some ⟨g, off, none⟩) n c) none (some (.int .i64 (j : Int))) none).run Tryz.prog w = .ok (.slice (some ⟨g, off, none⟩) j c) w := by
 have h : (Instr.sliceAt 40 (.slice (some ⟨g, off, none⟩) n c) none (some (.int .i64 (j : Int))) none).run Tryz.prog w = .ok (sliced (some ⟨g, off, none⟩) 0 j c 1) w := by
  rw [run_sliceAt_slice _ _ _ _ _ _ sliceR, run_slice_h w 40 (some ⟨g, off, none⟩) n c sliceR .i64 (j : Int) (by omega) (by omega), elemR, run_sizeOf_row, Result.andThen_ok, Int.toNat_natCast]
 rw [h]
 unfold sliced
 simp [Addr.add]
/-- the nodes beside a leaf's way, of the first h rows -/
def pathR (rss : List (List (List UInt8))) (i : Nat) : Nat → List UInt8
 | 0 => []
 | h + 1 => pathR rss i h ++ (rss.getD h []).getD (besd (i / 2 ^ h)) []
theorem pathR_le (rss : List (List (List UInt8))) (i m : Nat) (hb : ∀ h, ((rss.getD h []).getD (besd (i / 2 ^ h)) []).length ≤ m) (h : Nat) : (pathR rss i h).length ≤ h * m := by
 induction h with
 | zero => simp [pathR]
 | succ h ih =>
  unfold pathR
  rw [List.length_append, Nat.add_mul, Nat.one_mul]
  have := hb h
  omega
set_option maxHeartbeats 2000000 in
theorem refPath11_any (v : Value) (rss : List (List (List UInt8))) (i n : Nat) (hn : rss.length = n + 1) (hn20 : n ≤ 20) (hi : i < 4294967295) (hbes : ∀ h, h < n → besd (i / 2 ^ h) < (rss.getD h []).length) (hlen : ∀ h, ((rss.getD h []).getD (besd (i / 2 ^ h)) []).length ≤ 1000) (w : World) (hr : Prt2 w w.heap.size v rss) :
  Calls Tryz.prog 25 #[v, .int .u32 (i : Int)] w (OwnIs w (pathR rss i n)) := by
 unfold OwnIs
 obtain ⟨i0, hI, hz0, hz1, hz2⟩ := info_parts info_u8
 obtain ⟨A, c, rfl, hc1, hc2⟩ := hr.form
 obtain ⟨q, off, rfl, hq, hat⟩ := hr.at_ (by omega)
 have hw : wrap64 (n : Int) = (n : Int) := by
  simp only [wrap64]
  omega
 have runC : ∀ u, (Instr.sliceAt 40 (.slice (some ⟨q, off, none⟩) (n + 1) c) none (some (.int .i64 (n : Int))) none).run Tryz.prog u = .ok (.slice (some ⟨q, off, none⟩) n c) u := fun u => run_cutR q off (n + 1) c n (by omega) u
 have HAT : Shh (∀ h, h < n → ∃ q2 off2 c2, w.cell? ⟨q, off + h, none⟩ = some (.slice (some ⟨q2, off2, none⟩) (rss.getD h []).length c2) ∧ q2 < w.heap.size ∧ ∀ b, b < (rss.getD h []).length → ∃ u, w.cell? ⟨q2, off2 + b, none⟩ = some u ∧ Sl w w.heap.size u ((rss.getD h []).getD b [])) := ⟨fun h hh => by
  have hb0 := hbes h hh
  have hk : h < rss.length := by omega
  obtain ⟨u, hu, hp⟩ := hat h hk
  have e : rss.getD h [] = rss[h] := by rw [List.getD_eq_getElem?_getD, List.getElem?_eq_getElem hk]; rfl
  rw [e] at hb0 ⊢
  obtain ⟨A2, c2, rfl, _, _⟩ := hp.form
  obtain ⟨q2, off2, rfl, hq2, hat2⟩ := hp.at_ (by omega)
  refine ⟨q2, off2, c2, hu, hq2, fun b hb => ?_⟩
  obtain ⟨u2, hu2, hs2⟩ := hat2 b hb
  refine ⟨u2, hu2, ?_⟩
  rw [List.getD_eq_getElem?_getD, List.getElem?_eq_getElem hb]
  exact hs2⟩
 have HB := Shh.mk hbes
 have HLE := Shh.mk (And.intro hlen (pathR_le rss i 1000 hlen))
 have HQ := Shh.mk (And.intro hq hn20)
 have HI := Shh.mk hi
 rw [hn]
 clear hat hr hbes hlen hq hi hc1 hc2 hn
 go_enter Tryz.func25, Tryz.ntmps25
 go_wp2
 go_loopw [1, 5, 16] (fun vi o k wr => ∃ h : Nat, h ≤ n ∧ k = .int .i64 (h : Int) ∧ vi = .int .u32 ((i / 2 ^ h : Nat) : Int) ∧ wr.ownsRow w.heap.size 5 1 o (pathR rss i h).length (Lib.byteCells (pathR rss i h)) ∧ Below w.heap.size w wr) (fun _ _ k _ => n - (intOf k).toNat)
 case atStart => exact ⟨0, Nat.zero_le _, rfl, by simp, World.ownsRow_made w #[] 0 (Nat.le_refl _) (Nat.zero_le _) rfl, (Below.refl _ _).alloc (Nat.le_refl _) _⟩
 case round =>
  obtain ⟨h, hh, rfl, rfl, hown, hbel⟩ := hrel
  by_cases hlt : h < n
  ·have hltI : (h : Int) < (n : Int) := by omega
   obtain ⟨q2, off2, c2, hu, hq2, hat⟩ := HAT.out h hlt
   obtain ⟨qi, hqi⟩ : ∃ qi, qi = i / 2 ^ h := ⟨_, rfl⟩
   obtain ⟨b, hb⟩ : ∃ b, b = besd qi := ⟨_, rfl⟩
   have hbl : b < (rss.getD h []).length := by rw [hb, hqi]; exact HB.out h hlt
   obtain ⟨u, hu2, hs⟩ := hat b hbl
   obtain ⟨el, hel⟩ : ∃ el, el = (rss.getD h []).getD b [] := ⟨_, rfl⟩
   rw [← hel] at hs
   have HEL : Shh (pathR rss i (h + 1) = pathR rss i h ++ el) := ⟨by rw [hel, hb, hqi]; rfl⟩
   have HLE2 : Shh ((pathR rss i h).length + el.length ≤ 1000000) := ⟨by
    have h1 := HLE.out.2 h
    have h2 := HLE.out.1 h
    rw [← hqi, ← hb, ← hel] at h2
    have h3 : h * 1000 ≤ 20 * 1000 := Nat.mul_le_mul_right _ (by omega)
    omega⟩
   have hcell1 : wr.cell? ⟨q, off + h, none⟩ = some (.slice (some ⟨q2, off2, none⟩) (rss.getD h []).length c2) := (hbel.cell (p := ⟨q, off + h, none⟩) HQ.out.1).trans hu
   have hcell2 : wr.cell? ⟨q2, off2 + b, none⟩ = some u := (hbel.cell (p := ⟨q2, off2 + b, none⟩) hq2).trans hu2
   have HS : Shh (Sl wr w.heap.size u el) := ⟨hs.below hbel⟩
   obtain ⟨A3, c3, rfl, _, _⟩ := hs.form
   have HSZ : Shh (w.heap.size ≤ wr.heap.size) := ⟨hbel.size⟩
   have hqle : qi ≤ i := by rw [hqi]; exact Nat.div_le_self _ _
   have HQD : Shh (i / 2 ^ h = qi ∧ i / 2 ^ (h + 1) = qi / 2 ∧ qi < 4294967295) := ⟨hqi.symm, by rw [Nat.pow_succ, ← Nat.div_div_eq_div_mul, ← hqi], by have := HI.out; omega⟩
   rw [← hqi]
   generalize (rss.getD h []).length = L at *
   have hq32 := HQD.out.2.2
   have hblI : (b : Int) < (L : Int) := by omega
   have hbn : (0 : Int) ≤ (b : Int) := by omega
   clear hu hu2 hs hat hel hqi hqle hq2
   by_cases hev : qi % 2 = 1
   ·have hr1 : (qi : Int) % 2 = 1 := by omega
    have hb2 : (b : Int) = (qi : Int) - 1 := by rw [hb]; unfold besd; rw [if_pos hev]; omega
    have hd : ((qi : Int) - 1) % 4294967296 = (b : Int) := by omega
    clear hb hev hb2 hq32
    go_wp2_with (at_builtin; refine wp_appendSl _ 23 5 i0 Tryz.underlying23 hI hz0 hz1 hz2 rfl _ _ rfl hown HS.out rfl rfl (by have := HLE2.out; omega) HSZ.out ?_)
    intro v' w1 hown1 _ hb1
    have HO := Lib.hid (own_len hown1 (show (pathR rss i h).length + el.length = (pathR rss i (h + 1)).length by rw [HEL.out, List.length_append]))
    have HB1 := Shh.mk (hbel.trans (hb1 _ (Nat.le_refl _)))
    clear hown1 hb1 hown hbel hcell1 hcell2
    go_wp2
    go_roundw
    case rel => exact ⟨h + 1, by omega, by go_num, by rw [HQD.out.2.1]; exact congrArg (Value.int .u32) (by have ha := HQD.out.2.2; omega), by rw [HEL.out]; have h9 := HO.out; rw [HEL.out] at h9; exact h9, HB1.out⟩
    case measure => simp [intOf]; omega
   ·have hr0 : (qi : Int) % 2 = 0 := by omega
    have hb2 : (b : Int) = (qi : Int) + 1 := by rw [hb]; unfold besd; rw [if_neg hev]; omega
    have hd : ((qi : Int) + 1) % 4294967296 = (b : Int) := by omega
    clear hb hev hb2 hq32
    go_wp2_with (at_builtin; refine wp_appendSl _ 23 5 i0 Tryz.underlying23 hI hz0 hz1 hz2 rfl _ _ rfl hown HS.out rfl rfl (by have := HLE2.out; omega) HSZ.out ?_)
    intro v' w1 hown1 _ hb1
    have HO := Lib.hid (own_len hown1 (show (pathR rss i h).length + el.length = (pathR rss i (h + 1)).length by rw [HEL.out, List.length_append]))
    have HB1 := Shh.mk (hbel.trans (hb1 _ (Nat.le_refl _)))
    clear hown1 hb1 hown hbel hcell1 hcell2
    go_wp2
    go_roundw
    case rel => exact ⟨h + 1, by omega, by go_num, by rw [HQD.out.2.1]; exact congrArg (Value.int .u32) (by have ha := HQD.out.2.2; omega), by rw [HEL.out]; have h9 := HO.out; rw [HEL.out] at h9; exact h9, HB1.out⟩
    case measure => simp [intOf]; omega
  ·obtain rfl : h = n := by omega
   have HR : Shh (wr.ownsRow w.heap.size 5 1 u5 (pathR rss i h).length (Lib.byteCells (pathR rss i h)) ∧ Below w.heap.size w wr) := ⟨hown, hbel⟩
   clear hown hbel HAT HB HLE
   go_wp2
   go_ret
   exact ⟨_, rfl, HR.out⟩
end Go.Proofs.YtdakbipiifkmfaaGreatDoor

/-
 WALK: the document's own Sign.
-/
namespace Go.Proofs.YtdakbipiifkmfaaGreatDoor
open Go.RowKit
set_option maxRecDepth 100000
end Go.Proofs.YtdakbipiifkmfaaGreatDoor

/-
 THE LAWS OF CHAPTER 11: their high.
-/
namespace Go.Proofs.YtdakbipiifkmfaaGreatDoor
open Go.RowKit
set_option maxRecDepth 100000
set_option maxHeartbeats 1000000 in
theorem high_any (x : S5) (hw : x.wf) (w : World) : Calls Tryz.prog 17 #[x.v] w (OldIs (.bool (x.ok && decide (4 < x.h))) w) := by
 unfold OldIs
 have HM : Shh (∀ W, Calls Tryz.prog 48 #[x.v] W (OldIs (.bool x.ok) W)) := ⟨fun W => mayXmss_any x hw W⟩
 unfold S5.v at HM ⊢
 have HW : Shh (Row (w.alloc (.cells #[.int .u32 x.c, .bool x.s, .int .i64 x.n, .int .i64 x.h, .int .i64 x.l] 27)) w.heap.size 27 [.int .u32 x.c, .bool x.s, .int .i64 x.n, .int .i64 x.h, .int .i64 x.l] ∧ Below w.heap.size w (w.alloc (.cells #[.int .u32 x.c, .bool x.s, .int .i64 x.n, .int .i64 x.h, .int .i64 x.l] 27))) := ⟨Row.new_ rfl rfl, below1 _ _⟩
 clear hw
 generalize x.ok = ok at *
 generalize x.c = xc at *
 generalize x.s = xs at *
 generalize x.n = xn at *
 generalize x.h = xh at *
 generalize x.l = xl at *
 go_enter Tryz.func17, Tryz.ntmps17
 go_wp2_with (first | refine wpList_load_any rfl 27 (.tmp 1) rfl w.heap.size rfl 27 [.int .u32 xc, .bool xs, .int .i64 xn, .int .i64 xh, .int .i64 xl] _ HW.out.1 Tryz.underlying27 rfl info_xms ?_ | (go_at_call 48; refine (HM.out _).mono ?_))
 unfold OldIs
 rintro e w2 ⟨rfl, b2⟩
 have H2 : Shh (Row w2 w.heap.size 27 [.int .u32 xc, .bool xs, .int .i64 xn, .int .i64 xh, .int .i64 xl] ∧ Below w.heap.size w w2) := ⟨HW.out.1.go b2, Below.chain HW.out.2 b2⟩
 clear b2 HW HM
 have c3 := H2.out.1.cell 3
 simp only [List.getElem?_cons_succ, List.getElem?_cons_zero] at c3
 cases ok with
 | false =>
  clear c3
  go_wp2
  go_ret
  exact ⟨rfl, H2.out.2⟩
 | true =>
  by_cases hh : 4 < xh
  ·have HR : Shh (decide (4 < xh) = true) := ⟨decide_eq_true hh⟩
   go_wp2
   go_ret
   exact ⟨by rw [Bool.true_and, HR.out]; try rfl, H2.out.2⟩
  ·have HR : Shh (decide (4 < xh) = false) := ⟨decide_eq_false hh⟩
   go_wp2
   go_ret
   exact ⟨by rw [Bool.true_and, HR.out]; try rfl, H2.out.2⟩
end Go.Proofs.YtdakbipiifkmfaaGreatDoor

/-
 THE LAWS OF CHAPTER 11: their bits.
-/
namespace Go.Proofs.YtdakbipiifkmfaaGreatDoor
open Go.RowKit
set_option maxRecDepth 100000
end Go.Proofs.YtdakbipiifkmfaaGreatDoor

/-
 What the document's rows are: their lengths, the root, the path.
-/
namespace Go.Proofs.YtdakbipiifkmfaaGreatDoor
open Go.RowKit
set_option maxRecDepth 100000
/-- all rows of a tree -/
def rowsX (s : Bool) (n : Int) (L H : Nat) (sd pb : List UInt8) : List (List (List UInt8)) := (List.range (H + 1)).map (rowB s n L H sd pb)
theorem rowsX_length (s : Bool) (n : Int) (L H : Nat) (sd pb : List UInt8) : (rowsX s n L H sd pb).length = H + 1 := by simp [rowsX]
theorem rowsX_get (s : Bool) (n : Int) (L H : Nat) (sd pb : List UInt8) (h : Nat) (hh : h ≤ H) : (rowsX s n L H sd pb)[h]? = some (rowB s n L H sd pb h) := by
 unfold rowsX
 rw [List.getElem?_map, List.getElem?_range (by omega)]
 rfl
theorem rowsX_getD (s : Bool) (n : Int) (L H : Nat) (sd pb : List UInt8) (h : Nat) (hh : h ≤ H) : (rowsX s n L H sd pb).getD h [] = rowB s n L H sd pb h := by
 rw [List.getD_eq_getElem?_getD, rowsX_get s n L H sd pb h hh]; rfl
theorem rowB_length (s : Bool) (n : Int) (L H : Nat) (sd pb : List UInt8) (h : Nat) (hh : h ≤ H) : (rowB s n L H sd pb h).length = 2 ^ (H - h) := by
 induction h with
 | zero => unfold rowB lvl; simp
 | succ h ih =>
  have e := lvl_len (rwF s n pb) ((List.range (2 ^ H)).map fun i => leafB s n L sd pb i) h
  have i2 := ih (by omega)
  unfold rowB at i2 ⊢
  rw [e, i2]
  have e2 : H - h = (H - (h + 1)) + 1 := by omega
  rw [e2, Nat.pow_succ]
  omega
theorem rowB_zero (s : Bool) (n : Int) (L H : Nat) (sd pb : List UInt8) : rowB s n L H sd pb 0 = (List.range (2 ^ H)).map fun i => leafB s n L sd pb i := rfl
theorem rowB_root (s : Bool) (n : Int) (L H : Nat) (sd pb : List UInt8) : (rowB s n L H sd pb H)[0]? = some (rootB s n L H sd pb) := by
 have h := rowB_length s n L H sd pb H (Nat.le_refl _)
 rw [Nat.sub_self] at h
 have h0 : 0 < (rowB s n L H sd pb H).length := by rw [h]; decide
 unfold rootB
 rw [List.getD_eq_getElem?_getD, List.getElem?_eq_getElem h0]
 rfl
theorem leafB_length {x : S5} (hx : x.ok = true) (sd pb : List UInt8) (i : Nat) : (leafB x.s x.n x.l.toNat sd pb i).length = x.n.toNat := by
 have hl := S5.ok_is hx
 unfold leafB
 exact ltreeB_length hx _ _ _ _ (by omega) (by rw [endsB_len hx, Nat.mul_comm])
theorem rowB_all {x : S5} (hx : x.ok = true) (H : Nat) (sd pb : List UInt8) (h : Nat) : ∀ b ∈ rowB x.s x.n x.l.toNat H sd pb h, b.length = x.n.toNat := by
 unfold rowB
 refine lvl_all _ _ (fun h i a b => nodeB_length hx _ _ _ _) _ ?_ h
 intro b hb
 obtain ⟨i, _, rfl⟩ := List.mem_map.1 hb
 exact leafB_length hx sd pb i
theorem rootB_length {x : S5} (hx : x.ok = true) (H : Nat) (sd pb : List UInt8) : (rootB x.s x.n x.l.toNat H sd pb).length = x.n.toNat := by
 have h := rowB_root x.s x.n x.l.toNat H sd pb
 have h0 : 0 < (rowB x.s x.n x.l.toNat H sd pb H).length := by
  rw [rowB_length _ _ _ _ _ _ _ (Nat.le_refl _), Nat.sub_self]; decide
 rw [List.getElem?_eq_getElem h0] at h
 rw [← Option.some.inj h]
 exact rowB_all hx H sd pb H _ (List.getElem_mem h0)
theorem besd_lt (i h H : Nat) (hi : i < 2 ^ H) (hh : h < H) : besd (i / 2 ^ h) < 2 ^ (H - h) := by
 have e : H - h = (H - (h + 1)) + 1 := by omega
 have e2 : 2 ^ H = 2 ^ h * 2 ^ (H - h) := by rw [← Nat.pow_add]; congr 1; omega
 have h1 : i / 2 ^ h < 2 ^ (H - h) := Nat.div_lt_of_lt_mul (by rw [← e2]; exact hi)
 rw [e, Nat.pow_succ] at h1 ⊢
 generalize 2 ^ (H - (h + 1)) = m at h1 ⊢
 generalize i / 2 ^ h = q at h1 ⊢
 unfold besd
 split <;> omega
theorem rowsX_len {x : S5} (hx : x.ok = true) (H : Nat) (sd pb : List UInt8) (h b : Nat) : (((rowsX x.s x.n x.l.toNat H sd pb).getD h []).getD b []).length ≤ 32 := by
 have hn := ok_n hx
 by_cases hh : h ≤ H
 ·rw [rowsX_getD _ _ _ _ _ _ h hh]
  by_cases hb : b < (rowB x.s x.n x.l.toNat H sd pb h).length
  ·rw [List.getD_eq_getElem?_getD, List.getElem?_eq_getElem hb]
   have := rowB_all hx H sd pb h _ (List.getElem_mem hb)
   show ((rowB x.s x.n x.l.toNat H sd pb h)[b]).length ≤ 32
   omega
  ·rw [List.getD_eq_getElem?_getD, List.getElem?_eq_none (by omega)]
   simp
 ·rw [List.getD_eq_getElem?_getD (l := rowsX x.s x.n x.l.toNat H sd pb), List.getElem?_eq_none (by rw [rowsX_length]; omega)]
  simp
theorem pathR_rows (s : Bool) (n : Int) (L H : Nat) (sd pb : List UInt8) (i k : Nat) (hk : k ≤ H + 1) : pathR (rowsX s n L H sd pb) i k = pathB s n L H sd pb i k := by
 induction k with
 | zero => rfl
 | succ k ih =>
  unfold pathR
  rw [ih (by omega), rowsX_getD _ _ _ _ _ _ k (by omega)]
  unfold pathB
  rw [List.range_succ, List.flatMap_append]
  simp
end Go.Proofs.YtdakbipiifkmfaaGreatDoor

/-
 THE LAWS OF CHAPTER 11: XmssTrees, over contracts of the program's own functions and of the document's Rows.
-/
namespace Go.Proofs.YtdakbipiifkmfaaGreatDoor
open Go.RowKit
set_option maxRecDepth 100000
def rootR (x : S5) (sd pf pb : List UInt8) : List UInt8 := if badE x [sd, pf, pb] = 0 then rootB x.s x.n x.l.toNat x.h.toNat sd pb else []
def pubR (x : S5) (sd pf pb : List UInt8) : List UInt8 := if badE x [sd, pf, pb] = 0 then pubX x (rootB x.s x.n x.l.toNat x.h.toNat sd pb) pb else []
def pathRR (x : S5) (sd pf pb : List UInt8) (i : Nat) : List UInt8 := if leafE x sd pf pb i = 0 then pathB x.s x.n x.l.toNat x.h.toNat sd pb i x.h.toNat else []
/-- rows are handed back -/
def RowsIs (w : World) (rss : List (List (List UInt8))) (e : Ending) (w' : World) : Prop := ∃ v, e = .returned v ∧ Prt2 w' w'.heap.size v rss ∧ Below w.heap.size w w'
section
variable {Tb : World → Prop}
set_option maxHeartbeats 4000000 in
theorem xmssTrees_of (c : Nat) (hc : c < 4294967296) (vs vp vb : Value) (sd pf pb : List UInt8) (i : Nat) (hi : i < 4294967296) (w : World) (hs : Sl w w.heap.size vs sd) (hp : Sl w w.heap.size vp pf) (hb : Sl w w.heap.size vb pb) (ht : Tb w)
  (hTb : ∀ w w', Tb w → Below w.heap.size w w' → Tb w')
  (hlive : ∀ W, Tb W → Calls Tryz.prog 14 #[] W (TrueIs W))
  (hRoot : ∀ (x : S5) (vs vp vb : Value) (sd pf pb : List UInt8) (W : World), x.wf → (x.ok = true → x.h ≤ 4) → Tb W → Sl W W.heap.size vs sd → Sl W W.heap.size vp pf → Sl W W.heap.size vb pb → Calls Tryz.prog 18 #[x.v, keyV vs vp vb] W (ResIs W (badE x [sd, pf, pb]) (rootR x sd pf pb)))
  (hPath : ∀ (x : S5) (vs vp vb : Value) (sd pf pb : List UInt8) (i : Nat) (W : World), x.wf → (x.ok = true → x.h ≤ 4) → i < 4294967296 → Tb W → Sl W W.heap.size vs sd → Sl W W.heap.size vp pf → Sl W W.heap.size vb pb → Calls Tryz.prog 19 #[x.v, keyV vs vp vb, .int .u32 (i : Int)] W (ResIs W (leafE x sd pf pb i) (pathRR x sd pf pb i)))
  (hPub : ∀ (x : S5) (vs vp vb : Value) (sd pf pb : List UInt8) (W : World), x.wf → (x.ok = true → x.h ≤ 4) → Tb W → Sl W W.heap.size vs sd → Sl W W.heap.size vp pf → Sl W W.heap.size vb pb → Calls Tryz.prog 20 #[x.v, keyV vs vp vb] W (ResIs W (badE x [sd, pf, pb]) (pubR x sd pf pb)))
  (hRows : ∀ (x : S5) (vs vp vb : Value) (sd pf pb : List UInt8) (W : World), badE x [sd, pf, pb] = 0 → x.h ≤ 4 → Sl W W.heap.size vs sd → Sl W W.heap.size vp pf → Sl W W.heap.size vb pb → Calls Tryz.prog 22 #[x.v, keyV vs vp vb] W (RowsIs W (rowsX x.s x.n x.l.toNat x.h.toNat sd pb))) :
  Calls Tryz.prog 4 #[.int .u32 (c : Int), keyV vs vp vb, .int .u32 (i : Int)] w (TrueIs w) := by
 unfold TrueIs
 obtain ⟨As, cs, rfl, _, _⟩ := hs.form
 obtain ⟨Ap, cp, rfl, _, _⟩ := hp.form
 obtain ⟨Ab, cb, rfl, _, _⟩ := hb.form
 have hw := setX_wf c hc
 have HS : Shh (∀ W, Calls Tryz.prog 11 #[.int .u32 (c : Int)] W (OldIs (setX c).v W)) := ⟨fun W => set11_any c hc W⟩
 obtain ⟨x, hx⟩ : ∃ x, x = setX c := ⟨_, rfl⟩
 rw [← hx] at HS hw
 clear hx
 obtain ⟨hg, hhg⟩ : ∃ hg, hg = (x.ok && decide (4 < x.h)) := ⟨_, rfl⟩
 have HH : Shh (∀ W, Calls Tryz.prog 17 #[x.v] W (OldIs (.bool hg) W)) := ⟨fun W => by rw [hhg]; exact high_any x hw W⟩
 have HT : Shh (∀ W, Tb W → Calls Tryz.prog 14 #[] W (TrueIs W)) := ⟨hlive⟩
 have HTB := Shh.mk hTb
 obtain ⟨be, hbe⟩ : ∃ be, be = badE x [sd, pf, pb] := ⟨_, rfl⟩
 obtain ⟨le, hle⟩ : ∃ le, le = leafE x sd pf pb i := ⟨_, rfl⟩
 obtain ⟨ro, hro⟩ : ∃ ro, ro = rootR x sd pf pb := ⟨_, rfl⟩
 obtain ⟨pa, hpa⟩ : ∃ pa, pa = pathRR x sd pf pb i := ⟨_, rfl⟩
 obtain ⟨pu, hpu⟩ : ∃ pu, pu = pubR x sd pf pb := ⟨_, rfl⟩
 obtain ⟨rss, hrss⟩ : ∃ rss, rss = rowsX x.s x.n x.l.toNat x.h.toNat sd pb := ⟨_, rfl⟩
 have hx4 : hg = false → x.ok = true → x.h ≤ 4 := fun h1 h2 => by
  rw [hhg, h2, Bool.true_and] at h1
  have := of_decide_eq_false h1
  omega
 have HP : Shh (hg = false → (∀ W, Tb W → Sl W W.heap.size (.slice As sd.length cs) sd → Sl W W.heap.size (.slice Ap pf.length cp) pf → Sl W W.heap.size (.slice Ab pb.length cb) pb → Calls Tryz.prog 18 #[x.v, keyV (.slice As sd.length cs) (.slice Ap pf.length cp) (.slice Ab pb.length cb)] W (ResIs W be ro)) ∧ (∀ W, Tb W → Sl W W.heap.size (.slice As sd.length cs) sd → Sl W W.heap.size (.slice Ap pf.length cp) pf → Sl W W.heap.size (.slice Ab pb.length cb) pb → Calls Tryz.prog 19 #[x.v, keyV (.slice As sd.length cs) (.slice Ap pf.length cp) (.slice Ab pb.length cb), .int .u32 (i : Int)] W (ResIs W le pa)) ∧ (∀ W, Tb W → Sl W W.heap.size (.slice As sd.length cs) sd → Sl W W.heap.size (.slice Ap pf.length cp) pf → Sl W W.heap.size (.slice Ab pb.length cb) pb → Calls Tryz.prog 20 #[x.v, keyV (.slice As sd.length cs) (.slice Ap pf.length cp) (.slice Ab pb.length cb)] W (ResIs W be pu))) := ⟨fun h => by
  rw [hbe, hle, hro, hpa, hpu]
  exact ⟨fun W h0 h1 h2 h3 => hRoot x _ _ _ sd pf pb W hw (hx4 h) h0 h1 h2 h3, fun W h0 h1 h2 h3 => hPath x _ _ _ sd pf pb i W hw (hx4 h) hi h0 h1 h2 h3, fun W h0 h1 h2 h3 => hPub x _ _ _ sd pf pb W hw (hx4 h) h0 h1 h2 h3⟩⟩
 have HM : Shh ((∀ W, Sl W W.heap.size (.slice As sd.length cs) sd → Sl W W.heap.size (.slice Ap pf.length cp) pf → Sl W W.heap.size (.slice Ab pb.length cb) pb → Calls Tryz.prog 21 #[x.v, keyV (.slice As sd.length cs) (.slice Ap pf.length cp) (.slice Ab pb.length cb)] W (OldIs (.int .i64 (be : Int)) W)) ∧ (∀ W, Sl W W.heap.size (.slice As sd.length cs) sd → Sl W W.heap.size (.slice Ap pf.length cp) pf → Sl W W.heap.size (.slice Ab pb.length cb) pb → Calls Tryz.prog 13 #[x.v, keyV (.slice As sd.length cs) (.slice Ap pf.length cp) (.slice Ab pb.length cb), .int .u32 (i : Int)] W (OldIs (.int .i64 (le : Int)) W))) := ⟨fun W h1 h2 h3 => by rw [hbe]; exact mayKey_any x hw _ _ _ sd pf pb W h1 h2 h3, fun W h1 h2 h3 => by rw [hle]; exact mayLeaf_any x hw _ _ _ sd pf pb i hi W h1 h2 h3⟩
 have HR : Shh (hg = false → be = 0 → (∀ W, Sl W W.heap.size (.slice As sd.length cs) sd → Sl W W.heap.size (.slice Ap pf.length cp) pf → Sl W W.heap.size (.slice Ab pb.length cb) pb → Calls Tryz.prog 22 #[x.v, keyV (.slice As sd.length cs) (.slice Ap pf.length cp) (.slice Ab pb.length cb)] W (RowsIs W rss)) ∧ (∀ W v, Prt2 W W.heap.size v rss → Calls Tryz.prog 23 #[v] W (SlIs W ro)) ∧ (∀ W v, Sl W W.heap.size (.slice As sd.length cs) sd → Sl W W.heap.size (.slice Ap pf.length cp) pf → Sl W W.heap.size (.slice Ab pb.length cb) pb → Prt2 W W.heap.size v rss → Calls Tryz.prog 24 #[x.v, keyV (.slice As sd.length cs) (.slice Ap pf.length cp) (.slice Ab pb.length cb), v] W (SlIs W pu)) ∧ (le = 0 → ∀ W v, Prt2 W W.heap.size v rss → Calls Tryz.prog 25 #[v, .int .u32 (i : Int)] W (OwnIs W pa))) := ⟨fun hg0 hb0 => by
  have hbad : badE x [sd, pf, pb] = 0 := by rw [← hbe]; exact hb0
  have hok := badE_ok hbad
  have hn := ok_n hok.1
  have hl3 := hok.2 pb (by simp)
  have hh4 := hx4 hg0 hok.1
  have hlen : rss.length = x.h.toNat + 1 := by rw [hrss]; exact rowsX_length _ _ _ _ _ _
  have hrow : rss[x.h.toNat]? = some (rowB x.s x.n x.l.toNat x.h.toNat sd pb x.h.toNat) := by rw [hrss]; exact rowsX_get _ _ _ _ _ _ _ (Nat.le_refl _)
  have hrt := rowB_root x.s x.n x.l.toNat x.h.toNat sd pb
  have hrl := rootB_length hok.1 x.h.toNat sd pb
  have ero : ro = rootB x.s x.n x.l.toNat x.h.toNat sd pb := by rw [hro]; unfold rootR; rw [if_pos hbad]
  have epu : pu = pubX x (rootB x.s x.n x.l.toNat x.h.toNat sd pb) pb := by rw [hpu]; unfold pubR; rw [if_pos hbad]
  refine ⟨fun W h1 h2 h3 => by rw [hrss]; exact hRows x _ _ _ sd pf pb W hbad hh4 h1 h2 h3, fun W v h => by rw [ero]; exact refRoot11_any v rss _ _ _ hlen hrow hrt W h, fun W v h1 h2 h3 h => by rw [epu]; exact refPublic11_any x hw _ _ _ v sd pf pb _ rss _ _ hlen hrow hrt (by omega) (by omega) W h1 h2 h3 h, fun hle0 W v h => ?_⟩
  have hlf : leafE x sd pf pb i = 0 := by rw [← hle]; exact hle0
  have epa : pa = pathR rss i x.h.toNat := by rw [hpa, hrss, pathR_rows _ _ _ _ _ _ _ _ (by omega)]; unfold pathRR; rw [if_pos hlf]
  have hi2 : i < 2 ^ x.h.toNat := by
   unfold leafE at hlf
   rw [if_pos hbad] at hlf
   by_cases hq : i < 2 ^ x.h.toNat
   ·exact hq
   ·rw [if_neg hq] at hlf; exact absurd hlf (by decide)
  have h16 : 2 ^ x.h.toNat ≤ 2 ^ 4 := Nat.pow_le_pow_right (by decide) (by omega)
  have e16 : 2 ^ 4 = 16 := by decide
  rw [epa]
  refine refPath11_any v rss i x.h.toNat hlen (by omega) (by omega) (fun h hh => ?_) (fun h => ?_) W h
  ·rw [hrss, rowsX_getD _ _ _ _ _ _ _ (by omega), rowB_length _ _ _ _ _ _ _ (by omega)]
   exact besd_lt i h x.h.toNat hi2 hh
  ·have := rowsX_len hok.1 x.h.toNat sd pb h (besd (i / 2 ^ h))
   rw [hrss]; omega⟩
 have HE : Shh ((be ≠ 0 → ro = [] ∧ pa = [] ∧ pu = [] ∧ le = be) ∧ (le ≠ 0 → pa = [])) := ⟨⟨fun h => by
  have h1 : ¬ badE x [sd, pf, pb] = 0 := by rw [← hbe]; exact h
  have h2 : leafE x sd pf pb i = badE x [sd, pf, pb] := by unfold leafE; rw [if_neg h1]
  refine ⟨by rw [hro]; unfold rootR; rw [if_neg h1], by rw [hpa]; unfold pathRR; rw [if_neg (by rw [h2]; exact h1)], by rw [hpu]; unfold pubR; rw [if_neg h1], by rw [hle, hbe, h2]⟩, fun h => by rw [hpa]; unfold pathRR; rw [if_neg (by rw [← hle]; exact h)]⟩⟩
 have hE : be = 0 ∨ be = 60 ∨ be = 1 := by rw [hbe]; exact badE_cases _ _
 have hLE : be = 0 → le = 0 ∨ le = 1 := fun h0 => by
  rw [hle]; unfold leafE; rw [if_pos (by rw [← hbe]; exact h0)]; split <;> simp
 have HLE := Shh.mk hLE
 clear hbe hle hro hpa hpu hrss hhg hx4 hw hRoot hPath hPub hRows hlive hTb hi hc hLE
 obtain ⟨W, hW⟩ : ∃ W, W = w.alloc (.cells #[.slice As sd.length cs, .slice Ap pf.length cp, .slice Ab pb.length cb] 25) := ⟨_, rfl⟩
 have HW : Shh (Row W w.heap.size 25 [.slice As sd.length cs, .slice Ap pf.length cp, .slice Ab pb.length cb] ∧ Sl W W.heap.size (.slice As sd.length cs) sd ∧ Sl W W.heap.size (.slice Ap pf.length cp) pf ∧ Sl W W.heap.size (.slice Ab pb.length cb) pb ∧ Tb W ∧ Below w.heap.size w W) := by
  rw [hW]
  exact ⟨Row.new_ rfl rfl, hs.go (below1 _ _), hp.go (below1 _ _), hb.go (below1 _ _), HTB.out _ _ ht (below1 _ _), below1 _ _⟩
 clear hs hp hb ht
 unfold S5.v keyV at *
 generalize x.c = xc at *
 generalize x.s = xs at *
 generalize x.n = xn at *
 generalize x.h = xh at *
 generalize x.l = xl at *
 go_enter Tryz.func4, Tryz.ntmps4
 go_wp2_with fail
 rw [← hW]
 clear hW
 go_at_call 11
 refine (HS.out _).mono ?_
 unfold OldIs
 rintro e w2 ⟨rfl, b2⟩
 have H2 : Shh (Row w2 w.heap.size 25 [.slice As sd.length cs, .slice Ap pf.length cp, .slice Ab pb.length cb] ∧ Sl w2 w2.heap.size (.slice As sd.length cs) sd ∧ Sl w2 w2.heap.size (.slice Ap pf.length cp) pf ∧ Sl w2 w2.heap.size (.slice Ab pb.length cb) pb ∧ Tb w2 ∧ Below w.heap.size w w2) := ⟨HW.out.1.go b2, HW.out.2.1.go b2, HW.out.2.2.1.go b2, HW.out.2.2.2.1.go b2, HTB.out _ _ HW.out.2.2.2.2.1 b2, Below.chain HW.out.2.2.2.2.2 b2⟩
 clear b2 HW HS
 obtain ⟨M, hM⟩ : ∃ M, Shh (M = w2.heap.size) := ⟨_, ⟨rfl⟩⟩
 go_wp2_with (refine wpList_store_any rfl 27 (.tmp 7) (.tmp 17) rfl M (by rw [hM.out]; rfl) [.int .u32 xc, .bool xs, .int .i64 xn, .int .i64 xh, .int .i64 xl] rfl 27 [.int .u32 0, .bool false, .int .i64 0, .int .i64 0, .int .i64 0] (Row.new_ hM.out rfl) info_xms rfl oneCell5 ?_)
 intro Z hr bt hsz
 have H3 : Shh (Row Z M 27 [.int .u32 xc, .bool xs, .int .i64 xn, .int .i64 xh, .int .i64 xl] ∧ Row Z w.heap.size 25 [.slice As sd.length cs, .slice Ap pf.length cp, .slice Ab pb.length cb] ∧ Sl Z Z.heap.size (.slice As sd.length cs) sd ∧ Sl Z Z.heap.size (.slice Ap pf.length cp) pf ∧ Sl Z Z.heap.size (.slice Ab pb.length cb) pb ∧ Tb Z ∧ Below w.heap.size w Z) := by
  have hm := hM.out
  have bb : Below w2.heap.size w2 Z := (below1 _ _).trans (bt.under (by first | omega | (rw [asz]; omega)) (by omega))
  exact ⟨hr, H2.out.1.go bb, H2.out.2.1.go bb, H2.out.2.2.1.go bb, H2.out.2.2.2.1.go bb, HTB.out _ _ H2.out.2.2.2.2.1 bb, Below.chain H2.out.2.2.2.2.2 bb⟩
 rw [← hM.out]
 clear hr bt hsz H2 hM
 go_wp2_with (go_at_call 14; refine (HT.out _ H3.out.2.2.2.2.2.1).mono ?_)
 unfold TrueIs
 rintro e w4 ⟨rfl, b4⟩
 have H4 : Shh (Row w4 M 27 [.int .u32 xc, .bool xs, .int .i64 xn, .int .i64 xh, .int .i64 xl] ∧ Row w4 w.heap.size 25 [.slice As sd.length cs, .slice Ap pf.length cp, .slice Ab pb.length cb] ∧ Sl w4 w4.heap.size (.slice As sd.length cs) sd ∧ Sl w4 w4.heap.size (.slice Ap pf.length cp) pf ∧ Sl w4 w4.heap.size (.slice Ab pb.length cb) pb ∧ Tb w4 ∧ Below w.heap.size w w4) := ⟨H3.out.1.go b4, H3.out.2.1.go b4, H3.out.2.2.1.go b4, H3.out.2.2.2.1.go b4, H3.out.2.2.2.2.1.go b4, HTB.out _ _ H3.out.2.2.2.2.2.1 b4, Below.chain H3.out.2.2.2.2.2.2 b4⟩
 clear b4 H3
 go_wp2_with (first | refine wl_loadW 27 (.tmp 7) rfl M rfl 27 [.int .u32 xc, .bool xs, .int .i64 xn, .int .i64 xh, .int .i64 xl] _ rfl H4.out.1 Tryz.underlying27 rfl info_xms ?_ | (go_at_call 17; refine (HH.out _).mono ?_))
 unfold OldIs
 rintro e w5 ⟨rfl, b5⟩
 have H5 : Shh (Row w5 M 27 [.int .u32 xc, .bool xs, .int .i64 xn, .int .i64 xh, .int .i64 xl] ∧ Row w5 w.heap.size 25 [.slice As sd.length cs, .slice Ap pf.length cp, .slice Ab pb.length cb] ∧ Sl w5 w5.heap.size (.slice As sd.length cs) sd ∧ Sl w5 w5.heap.size (.slice Ap pf.length cp) pf ∧ Sl w5 w5.heap.size (.slice Ab pb.length cb) pb ∧ Tb w5 ∧ Below w.heap.size w w5) := ⟨H4.out.1.go b5, H4.out.2.1.go b5, H4.out.2.2.1.go b5, H4.out.2.2.2.1.go b5, H4.out.2.2.2.2.1.go b5, HTB.out _ _ H4.out.2.2.2.2.2.1 b5, Below.chain H4.out.2.2.2.2.2.2 b5⟩
 clear b5 H4 HH
 cases hg with
 | true =>
  clear HP HM HR HE HLE hE
  go_wp2_with (go_at_call 14; refine (HT.out _ H5.out.2.2.2.2.2.1).mono ?_)
  unfold TrueIs
  rintro e w6 ⟨rfl, b6⟩
  have HB : Shh (Below w.heap.size w w6) := ⟨Below.chain H5.out.2.2.2.2.2.2 b6⟩
  clear b6 H5 HT
  go_wp2
  go_ret
  exact ⟨rfl, HB.out⟩
 | false =>
  have HPP := Shh.mk (HP.out rfl)
  have HRR := Shh.mk (HR.out rfl)
  clear HP HR HT
  go_wp2_with (first | refine wpList_load_any rfl 27 (.tmp 7) rfl M rfl 27 [.int .u32 xc, .bool xs, .int .i64 xn, .int .i64 xh, .int .i64 xl] _ H5.out.1 Tryz.underlying27 rfl info_xms ?_ | refine wpList_load_any rfl 25 (.tmp 4) rfl w.heap.size rfl 25 [.slice As sd.length cs, .slice Ap pf.length cp, .slice Ab pb.length cb] _ H5.out.2.1 Tryz.underlying25 rfl info_key11 ?_ | (go_at_call 18; refine (HPP.out.1 _ H5.out.2.2.2.2.2.1 H5.out.2.2.1 H5.out.2.2.2.1 H5.out.2.2.2.2.1).mono ?_))
  unfold ResIs
  rintro e w6 ⟨v6, rfl, h6, b6⟩
  obtain ⟨A6, c6, rfl, _, _⟩ := h6.form
  have H6 : Shh (Row w6 M 27 [.int .u32 xc, .bool xs, .int .i64 xn, .int .i64 xh, .int .i64 xl] ∧ Row w6 w.heap.size 25 [.slice As sd.length cs, .slice Ap pf.length cp, .slice Ab pb.length cb] ∧ Sl w6 w6.heap.size (.slice As sd.length cs) sd ∧ Sl w6 w6.heap.size (.slice Ap pf.length cp) pf ∧ Sl w6 w6.heap.size (.slice Ab pb.length cb) pb ∧ Tb w6 ∧ Below w.heap.size w w6) := ⟨H5.out.1.go b6, H5.out.2.1.go b6, H5.out.2.2.1.go b6, H5.out.2.2.2.1.go b6, H5.out.2.2.2.2.1.go b6, HTB.out _ _ H5.out.2.2.2.2.2.1 b6, Below.chain H5.out.2.2.2.2.2.2 b6⟩
  have S6 : Shh (Sl w6 w6.heap.size (.slice A6 ro.length c6) ro) := ⟨h6⟩
  clear h6 b6 H5
  go_wp2_with (first | refine wpList_load_any rfl 27 (.tmp 7) rfl M rfl 27 [.int .u32 xc, .bool xs, .int .i64 xn, .int .i64 xh, .int .i64 xl] _ H6.out.1 Tryz.underlying27 rfl info_xms ?_ | refine wpList_load_any rfl 25 (.tmp 4) rfl w.heap.size rfl 25 [.slice As sd.length cs, .slice Ap pf.length cp, .slice Ab pb.length cb] _ H6.out.2.1 Tryz.underlying25 rfl info_key11 ?_ | (go_at_call 19; refine (HPP.out.2.1 _ H6.out.2.2.2.2.2.1 H6.out.2.2.1 H6.out.2.2.2.1 H6.out.2.2.2.2.1).mono ?_))
  unfold ResIs
  rintro e w7 ⟨v7, rfl, h7, b7⟩
  obtain ⟨A7, c7, rfl, _, _⟩ := h7.form
  have H7 : Shh (Row w7 M 27 [.int .u32 xc, .bool xs, .int .i64 xn, .int .i64 xh, .int .i64 xl] ∧ Row w7 w.heap.size 25 [.slice As sd.length cs, .slice Ap pf.length cp, .slice Ab pb.length cb] ∧ Sl w7 w7.heap.size (.slice As sd.length cs) sd ∧ Sl w7 w7.heap.size (.slice Ap pf.length cp) pf ∧ Sl w7 w7.heap.size (.slice Ab pb.length cb) pb ∧ Tb w7 ∧ Below w.heap.size w w7) := ⟨H6.out.1.go b7, H6.out.2.1.go b7, H6.out.2.2.1.go b7, H6.out.2.2.2.1.go b7, H6.out.2.2.2.2.1.go b7, HTB.out _ _ H6.out.2.2.2.2.2.1 b7, Below.chain H6.out.2.2.2.2.2.2 b7⟩
  have S7 : Shh (Sl w7 w7.heap.size (.slice A6 ro.length c6) ro ∧ Sl w7 w7.heap.size (.slice A7 pa.length c7) pa) := ⟨S6.out.go b7, h7⟩
  clear h7 b7 H6 S6
  go_wp2_with (first | refine wpList_load_any rfl 27 (.tmp 7) rfl M rfl 27 [.int .u32 xc, .bool xs, .int .i64 xn, .int .i64 xh, .int .i64 xl] _ H7.out.1 Tryz.underlying27 rfl info_xms ?_ | refine wpList_load_any rfl 25 (.tmp 4) rfl w.heap.size rfl 25 [.slice As sd.length cs, .slice Ap pf.length cp, .slice Ab pb.length cb] _ H7.out.2.1 Tryz.underlying25 rfl info_key11 ?_ | (go_at_call 20; refine (HPP.out.2.2 _ H7.out.2.2.2.2.2.1 H7.out.2.2.1 H7.out.2.2.2.1 H7.out.2.2.2.2.1).mono ?_))
  unfold ResIs
  rintro e w8 ⟨v8, rfl, h8, b8⟩
  obtain ⟨A8, c8, rfl, _, _⟩ := h8.form
  have H8 : Shh (Row w8 M 27 [.int .u32 xc, .bool xs, .int .i64 xn, .int .i64 xh, .int .i64 xl] ∧ Row w8 w.heap.size 25 [.slice As sd.length cs, .slice Ap pf.length cp, .slice Ab pb.length cb] ∧ Sl w8 w8.heap.size (.slice As sd.length cs) sd ∧ Sl w8 w8.heap.size (.slice Ap pf.length cp) pf ∧ Sl w8 w8.heap.size (.slice Ab pb.length cb) pb ∧ Tb w8 ∧ Below w.heap.size w w8) := ⟨H7.out.1.go b8, H7.out.2.1.go b8, H7.out.2.2.1.go b8, H7.out.2.2.2.1.go b8, H7.out.2.2.2.2.1.go b8, HTB.out _ _ H7.out.2.2.2.2.2.1 b8, Below.chain H7.out.2.2.2.2.2.2 b8⟩
  have S8 : Shh (Sl w8 w8.heap.size (.slice A6 ro.length c6) ro ∧ Sl w8 w8.heap.size (.slice A7 pa.length c7) pa ∧ Sl w8 w8.heap.size (.slice A8 pu.length c8) pu) := ⟨S7.out.1.go b8, S7.out.2.go b8, h8⟩
  clear h8 b8 H7 S7 HPP
  go_wp2_with (first | refine wpList_load_any rfl 27 (.tmp 7) rfl M rfl 27 [.int .u32 xc, .bool xs, .int .i64 xn, .int .i64 xh, .int .i64 xl] _ H8.out.1 Tryz.underlying27 rfl info_xms ?_ | refine wpList_load_any rfl 25 (.tmp 4) rfl w.heap.size rfl 25 [.slice As sd.length cs, .slice Ap pf.length cp, .slice Ab pb.length cb] _ H8.out.2.1 Tryz.underlying25 rfl info_key11 ?_ | (go_at_call 21; refine (HM.out.1 _ H8.out.2.2.1 H8.out.2.2.2.1 H8.out.2.2.2.2.1).mono ?_))
  unfold OldIs
  rintro e w9 ⟨rfl, b9⟩
  have H9 : Shh (Row w9 M 27 [.int .u32 xc, .bool xs, .int .i64 xn, .int .i64 xh, .int .i64 xl] ∧ Row w9 w.heap.size 25 [.slice As sd.length cs, .slice Ap pf.length cp, .slice Ab pb.length cb] ∧ Sl w9 w9.heap.size (.slice As sd.length cs) sd ∧ Sl w9 w9.heap.size (.slice Ap pf.length cp) pf ∧ Sl w9 w9.heap.size (.slice Ab pb.length cb) pb ∧ Tb w9 ∧ Below w.heap.size w w9) := ⟨H8.out.1.go b9, H8.out.2.1.go b9, H8.out.2.2.1.go b9, H8.out.2.2.2.1.go b9, H8.out.2.2.2.2.1.go b9, HTB.out _ _ H8.out.2.2.2.2.2.1 b9, Below.chain H8.out.2.2.2.2.2.2 b9⟩
  have S9 : Shh (Sl w9 w9.heap.size (.slice A6 ro.length c6) ro ∧ Sl w9 w9.heap.size (.slice A7 pa.length c7) pa ∧ Sl w9 w9.heap.size (.slice A8 pu.length c8) pu) := ⟨S8.out.1.go b9, S8.out.2.1.go b9, S8.out.2.2.go b9⟩
  clear b9 H8 S8
  rcases hE with rfl | hE
  ·have R1 := Shh.mk (HRR.out rfl).1
   have R2 := Shh.mk (HRR.out rfl).2.1
   have R3 := Shh.mk (HRR.out rfl).2.2.1
   have R4 := Shh.mk (HRR.out rfl).2.2.2
   have HLE2 := Shh.mk (HLE.out rfl)
   have HPA := Shh.mk HE.out.2
   have hro2 : (ro == ro) = true := by simp
   have hpu2 : (pu == pu) = true := by simp
   have hpa2 : (pa == pa) = true := by simp
   clear HRR HLE HE
   go_wp2_with (first | refine wpList_load_any rfl 27 (.tmp 7) rfl M rfl 27 [.int .u32 xc, .bool xs, .int .i64 xn, .int .i64 xh, .int .i64 xl] _ H9.out.1 Tryz.underlying27 rfl info_xms ?_ | refine wpList_load_any rfl 25 (.tmp 4) rfl w.heap.size rfl 25 [.slice As sd.length cs, .slice Ap pf.length cp, .slice Ab pb.length cb] _ H9.out.2.1 Tryz.underlying25 rfl info_key11 ?_ | (go_at_call 22; refine (R1.out _ H9.out.2.2.1 H9.out.2.2.2.1 H9.out.2.2.2.2.1).mono ?_))
   unfold RowsIs
   rintro e w10 ⟨vr, rfl, hr, b10⟩
   obtain ⟨Ar, cr, rfl, _, _⟩ := hr.form
   have H10 : Shh (Row w10 M 27 [.int .u32 xc, .bool xs, .int .i64 xn, .int .i64 xh, .int .i64 xl] ∧ Row w10 w.heap.size 25 [.slice As sd.length cs, .slice Ap pf.length cp, .slice Ab pb.length cb] ∧ Sl w10 w10.heap.size (.slice As sd.length cs) sd ∧ Sl w10 w10.heap.size (.slice Ap pf.length cp) pf ∧ Sl w10 w10.heap.size (.slice Ab pb.length cb) pb ∧ Tb w10 ∧ Below w.heap.size w w10) := ⟨H9.out.1.go b10, H9.out.2.1.go b10, H9.out.2.2.1.go b10, H9.out.2.2.2.1.go b10, H9.out.2.2.2.2.1.go b10, HTB.out _ _ H9.out.2.2.2.2.2.1 b10, Below.chain H9.out.2.2.2.2.2.2 b10⟩
   have S10 : Shh (Sl w10 w10.heap.size (.slice A6 ro.length c6) ro ∧ Sl w10 w10.heap.size (.slice A7 pa.length c7) pa ∧ Sl w10 w10.heap.size (.slice A8 pu.length c8) pu ∧ Prt2 w10 w10.heap.size (.slice Ar rss.length cr) rss) := ⟨S9.out.1.go b10, S9.out.2.1.go b10, S9.out.2.2.go b10, hr⟩
   clear hr b10 H9 S9 R1
   go_wp2_with (go_at_call 23; refine (R2.out _ _ S10.out.2.2.2).mono ?_)
   unfold SlIs
   rintro e w11 ⟨v11, rfl, h11, b11⟩
   obtain ⟨A11, c11, rfl, _, _⟩ := h11.form
   have T11 := Shh.mk h11
   have H11 : Shh (Row w11 M 27 [.int .u32 xc, .bool xs, .int .i64 xn, .int .i64 xh, .int .i64 xl] ∧ Row w11 w.heap.size 25 [.slice As sd.length cs, .slice Ap pf.length cp, .slice Ab pb.length cb] ∧ Sl w11 w11.heap.size (.slice As sd.length cs) sd ∧ Sl w11 w11.heap.size (.slice Ap pf.length cp) pf ∧ Sl w11 w11.heap.size (.slice Ab pb.length cb) pb ∧ Tb w11 ∧ Below w.heap.size w w11) := ⟨H10.out.1.go b11, H10.out.2.1.go b11, H10.out.2.2.1.go b11, H10.out.2.2.2.1.go b11, H10.out.2.2.2.2.1.go b11, HTB.out _ _ H10.out.2.2.2.2.2.1 b11, Below.chain H10.out.2.2.2.2.2.2 b11⟩
   have S11 : Shh (Sl w11 w11.heap.size (.slice A6 ro.length c6) ro ∧ Sl w11 w11.heap.size (.slice A7 pa.length c7) pa ∧ Sl w11 w11.heap.size (.slice A8 pu.length c8) pu ∧ Prt2 w11 w11.heap.size (.slice Ar rss.length cr) rss) := ⟨S10.out.1.go b11, S10.out.2.1.go b11, S10.out.2.2.1.go b11, S10.out.2.2.2.go b11⟩
   clear h11 b11 H10 S10 R2
   go_wp2_with (go_at_call 15; refine (refEqual_any w11.heap.size w11.heap.size _ _ ro ro _ S11.out.1 T11.out).mono ?_)
   rintro e w12 ⟨rfl, rfl⟩
   rw [hro2]
   clear T11
   go_wp2_with (first | refine wl_loadW 27 (.tmp 7) rfl M rfl 27 [.int .u32 xc, .bool xs, .int .i64 xn, .int .i64 xh, .int .i64 xl] _ rfl H11.out.1 Tryz.underlying27 rfl info_xms ?_ | refine wl_loadW 25 (.tmp 4) rfl w.heap.size rfl 25 [.slice As sd.length cs, .slice Ap pf.length cp, .slice Ab pb.length cb] _ rfl H11.out.2.1 Tryz.underlying25 rfl info_key11 ?_ | (go_at_call 24; refine (R3.out _ _ H11.out.2.2.1 H11.out.2.2.2.1 H11.out.2.2.2.2.1 S11.out.2.2.2).mono ?_))
   unfold SlIs
   rintro e w13 ⟨v13, rfl, h13, b13⟩
   obtain ⟨A13, c13, rfl, _, _⟩ := h13.form
   have T13 := Shh.mk h13
   have H13 : Shh (Row w13 M 27 [.int .u32 xc, .bool xs, .int .i64 xn, .int .i64 xh, .int .i64 xl] ∧ Row w13 w.heap.size 25 [.slice As sd.length cs, .slice Ap pf.length cp, .slice Ab pb.length cb] ∧ Sl w13 w13.heap.size (.slice As sd.length cs) sd ∧ Sl w13 w13.heap.size (.slice Ap pf.length cp) pf ∧ Sl w13 w13.heap.size (.slice Ab pb.length cb) pb ∧ Tb w13 ∧ Below w.heap.size w w13) := ⟨H11.out.1.go b13, H11.out.2.1.go b13, H11.out.2.2.1.go b13, H11.out.2.2.2.1.go b13, H11.out.2.2.2.2.1.go b13, HTB.out _ _ H11.out.2.2.2.2.2.1 b13, Below.chain H11.out.2.2.2.2.2.2 b13⟩
   have S13 : Shh (Sl w13 w13.heap.size (.slice A6 ro.length c6) ro ∧ Sl w13 w13.heap.size (.slice A7 pa.length c7) pa ∧ Sl w13 w13.heap.size (.slice A8 pu.length c8) pu ∧ Prt2 w13 w13.heap.size (.slice Ar rss.length cr) rss) := ⟨S11.out.1.go b13, S11.out.2.1.go b13, S11.out.2.2.1.go b13, S11.out.2.2.2.go b13⟩
   clear h13 b13 H11 S11 R3
   go_wp2_with (go_at_call 15; refine (refEqual_any w13.heap.size w13.heap.size _ _ pu pu _ S13.out.2.2.1 T13.out).mono ?_)
   rintro e w14 ⟨rfl, rfl⟩
   rw [hpu2]
   clear T13
   go_wp2_with (first | refine wpList_load_any rfl 27 (.tmp 7) rfl M rfl 27 [.int .u32 xc, .bool xs, .int .i64 xn, .int .i64 xh, .int .i64 xl] _ H13.out.1 Tryz.underlying27 rfl info_xms ?_ | refine wpList_load_any rfl 25 (.tmp 4) rfl w.heap.size rfl 25 [.slice As sd.length cs, .slice Ap pf.length cp, .slice Ab pb.length cb] _ H13.out.2.1 Tryz.underlying25 rfl info_key11 ?_ | (go_at_call 13; refine (HM.out.2 _ H13.out.2.2.1 H13.out.2.2.2.1 H13.out.2.2.2.2.1).mono ?_))
   unfold OldIs
   rintro e w15 ⟨rfl, b15⟩
   have H15 : Shh (Row w15 M 27 [.int .u32 xc, .bool xs, .int .i64 xn, .int .i64 xh, .int .i64 xl] ∧ Row w15 w.heap.size 25 [.slice As sd.length cs, .slice Ap pf.length cp, .slice Ab pb.length cb] ∧ Sl w15 w15.heap.size (.slice As sd.length cs) sd ∧ Sl w15 w15.heap.size (.slice Ap pf.length cp) pf ∧ Sl w15 w15.heap.size (.slice Ab pb.length cb) pb ∧ Tb w15 ∧ Below w.heap.size w w15) := ⟨H13.out.1.go b15, H13.out.2.1.go b15, H13.out.2.2.1.go b15, H13.out.2.2.2.1.go b15, H13.out.2.2.2.2.1.go b15, HTB.out _ _ H13.out.2.2.2.2.2.1 b15, Below.chain H13.out.2.2.2.2.2.2 b15⟩
   have S15 : Shh (Sl w15 w15.heap.size (.slice A6 ro.length c6) ro ∧ Sl w15 w15.heap.size (.slice A7 pa.length c7) pa ∧ Sl w15 w15.heap.size (.slice A8 pu.length c8) pu ∧ Prt2 w15 w15.heap.size (.slice Ar rss.length cr) rss) := ⟨S13.out.1.go b15, S13.out.2.1.go b15, S13.out.2.2.1.go b15, S13.out.2.2.2.go b15⟩
   clear b15 H13 S13 HM
   rcases HLE2.out with rfl | rfl
   ·have R5 := Shh.mk (R4.out rfl)
    clear R4 HPA HLE2
    go_wp2_with (go_at_call 25; refine (R5.out _ _ S15.out.2.2.2).mono ?_)
    unfold OwnIs
    rintro e w16 ⟨v16, rfl, g16⟩
    obtain ⟨A16, c16, rfl⟩ := own_form g16.1
    have H16 : Shh (Sl w16 w16.heap.size (.slice A7 pa.length c7) pa ∧ Sl w16 w16.heap.size (.slice A16 pa.length c16) pa ∧ Below w.heap.size w w16) := ⟨S15.out.2.1.go g16.2, gives_sl g16, Below.chain H15.out.2.2.2.2.2.2 g16.2⟩
    clear g16 H15 S15 R5
    go_wp2_with (go_at_call 15; refine (refEqual_any w16.heap.size w16.heap.size _ _ pa pa _ H16.out.1 H16.out.2.1).mono ?_)
    rintro e w17 ⟨rfl, rfl⟩
    rw [hpa2]
    go_wp2
    go_ret
    exact ⟨rfl, H16.out.2.2⟩
   ·have HO := Shh.mk (HPA.out (by decide))
    have HB : Shh (Below w.heap.size w w15) := ⟨H15.out.2.2.2.2.2.2⟩
    clear R4 HPA HLE2 H15 S15 hpa2
    rw [HO.out]
    clear HO
    go_wp2
    go_ret
    exact ⟨rfl, HB.out⟩
  ·have HO := Shh.mk (HE.out.1 (by omega))
   have HB : Shh (Below w.heap.size w w9) := ⟨H9.out.2.2.2.2.2.2⟩
   clear HE HRR HM H9 S9 HLE
   rw [HO.out.1, HO.out.2.1, HO.out.2.2.1, HO.out.2.2.2]
   clear HO
   rcases hE with rfl | rfl <;>
   ·go_wp2
    go_ret
    exact ⟨rfl, HB.out⟩
end
end Go.Proofs.YtdakbipiifkmfaaGreatDoor

/-
 Slices of slices of slices of bytes in memory of their own.
-/
namespace Go.Proofs.YtdakbipiifkmfaaGreatDoor
open Go.RowKit
set_option maxRecDepth 100000
/-- what an append to a slice of slices of slices of one's own leaves: all but blocks of such from base on -/
structure GrQ (w : World) (base : Nat) (w' : World) : Prop where
 below : Below base w w'
 size : w.heap.size ≤ w'.heap.size
 block : ∀ k, k < w.heap.size → (¬ ∃ C fr, w.heap[k]? = some (.cells C 82 fr)) → w'.heap[k]? = w.heap[k]?
theorem GrQ.of {w w' : World} {base n : Nat} {v : Value} {us : List Value} (ho : w.ownsRow base 82 1 v n us) (hg : w.grownBy w' v.ownBlock) (hb : base ≤ w.heap.size) : GrQ w base w' := by
 refine ⟨(Below.refl base w).grown hg hb (fun k hk => by have := (ho.lt k hk).1; omega), hg.size, fun k hk hn => hg.block k hk fun e => ?_⟩
 rcases ho with ⟨_, ⟨rfl, _⟩ | ⟨g, cap, cur, rfl, _, hgb, _⟩⟩
 ·cases e
 ·obtain rfl : k = g := by injection e
  exact hn ⟨_, _, hgb⟩
theorem GrQ.at_ {w w' : World} {base g : Nat} {T : TypeId} {C : Array Value} {fr} (h : GrQ w base w') (hr : w.heap[g]? = some (.cells C T fr)) (hT : T ≠ 82) : w'.heap[g]? = some (.cells C T fr) := by
 refine (h.block g (Array.getElem?_eq_some_iff.1 hr).1 ?_).trans hr
 rintro ⟨C', fr', hc'⟩
 rw [hr] at hc'
 injection hc' with e
 injection e with _ e2
 exact hT e2
theorem GrQ.tag {w w' : World} {base g : Nat} (h : GrQ w base w') (ht : tagU w g) : tagU w' g := by
 obtain ⟨C, fr, hc⟩ := ht
 exact ⟨C, fr, h.at_ hc (by decide)⟩
theorem GrQ.row {w w' : World} {base g : Nat} {T : TypeId} {cs : List Value} (h : GrQ w base w') (hr : Row w g T cs) (hT : T ≠ 82) : Row w' g T cs := h.at_ hr hT
theorem GrQ.sl {w w' : World} {base : Nat} {y : Value} {bs : List UInt8} (h : GrQ w base w') (hs : Sl w w.heap.size y bs) (hy : UN w 0 y) : Sl w' w'.heap.size y bs := by
 have hs2 : Sl w' w.heap.size y bs := by
  obtain ⟨A, c, hv, h1, h2, hc⟩ := hs
  refine ⟨A, c, hv, h1, h2, fun hn => ?_⟩
  obtain ⟨b, off, hA, hb, hr⟩ := hc hn
  refine ⟨b, off, hA, hb, fun k hk => ?_⟩
  have ht : tagU w b := by
   refine Classical.byContradiction fun hn2 => ?_
   exact hy b (Nat.zero_le _) hn2 _ _ _ (by rw [hv, hA]) (by omega) rfl
  obtain ⟨C, fr, hc1⟩ := ht
  rw [World.cell?_of_block (w := w) ((h.at_ hc1 (by decide)).trans hc1.symm)]
  exact hr k hk
 exact hs2.more h.size
theorem GrQ.own {w w' : World} {base b : Nat} {v : Value} {bss : List (List UInt8)} (h : GrQ w base w') (ho : OwnP w b (fun _ => 0) v bss) : OwnP w' b (fun _ => 0) v bss := by
 obtain ⟨us, hul, ho, hs⟩ := ho
 refine ⟨us, hul, ?_, fun i hi hi2 => ⟨h.sl (hs i hi hi2).1 (hs i hi hi2).2, fun g hg ht => (hs i hi hi2).2 g hg fun hu => ht (h.tag hu)⟩⟩
 obtain ⟨h1, h2⟩ := ho
 refine ⟨h1, ?_⟩
 rcases h2 with h2 | ⟨g, cap, cur, hv, hb, hgb, hr⟩
 ·exact .inl h2
 ·exact .inr ⟨g, cap, cur, hv, hb, h.at_ hgb (by decide), hr⟩
/-- rows in memory of their own; every row's block below top -/
def OwnQ (w : World) (base top : Nat) (v : Value) (rss : List (List (List UInt8))) : Prop := ∃ us : List Value, us.length = rss.length ∧ w.ownsRow base 82 1 v rss.length us ∧ ∀ i (h : i < rss.length) (h2 : i < us.length), OwnP w 0 (fun _ => 0) us[i] rss[i] ∧ ∀ g, us[i].ownBlock = some g → g < top
section
variable {w w' : World} {base top : Nat} {v : Value} {rss : List (List (List UInt8))}
theorem OwnQ.go (h : OwnQ w base top v rss) (b : Below w.heap.size w w') : OwnQ w' base top v rss := by
 obtain ⟨us, hl, ho, hs⟩ := h
 exact ⟨us, hl, own_step ho b, fun i h h2 => ⟨(hs i h h2).1.go b, (hs i h h2).2⟩⟩
theorem OwnQ.drew (h : OwnQ w base top v rss) : OwnQ w.drew base top v rss := h
theorem OwnQ.all (h : OwnQ w base top v rss) : OwnQ w base w.heap.size v rss := by
 obtain ⟨us, hl, ho, hs⟩ := h
 exact ⟨us, hl, ho, fun i h h2 => ⟨(hs i h h2).1, (hs i h h2).1.lt⟩⟩
theorem OwnQ.form (h : OwnQ w base top v rss) : ∃ A c, v = .slice A rss.length c := by
 obtain ⟨us, hul, ho, hs⟩ := h
 rcases ho with ⟨_, ⟨rfl, h0⟩ | ⟨g, cap, cur, rfl, _⟩⟩
 ·rw [h0]; exact ⟨_, _, rfl⟩
 ·exact ⟨_, _, rfl⟩
/-- a row is appended to, in later memory -/
theorem OwnQ.grp (h : OwnQ w base top v rss) (hg : GrP w top w') : OwnQ w' base top v rss := by
 obtain ⟨us, hul, ho, hs⟩ := h
 refine ⟨us, hul, ?_, fun i hi hi2 => ⟨OwnP.grp (hs i hi hi2).1 (hs i hi hi2).2 hg (fun _ => Nat.zero_le _), (hs i hi hi2).2⟩⟩
 obtain ⟨h1, h2⟩ := ho
 refine ⟨h1, ?_⟩
 rcases h2 with h2 | ⟨g, cap, cur, hv, hb, hgb, hr⟩
 ·exact .inl h2
 ·exact .inr ⟨g, cap, cur, hv, hb, hg.row (g := g) (T := 82) (cs := cur.toList) (by show w.heap[g]? = _; rw [hgb]) (by decide), hr⟩
theorem OwnQ.one {g : Nat} {u : Value} {b : List (List UInt8)} (hr : Row w g 82 [u]) (hb : base ≤ g) (hu : OwnP w 0 (fun _ => 0) u b) : OwnQ w base w.heap.size (.slice (some ⟨g, 0, none⟩) 1 1) [b] := by
 refine ⟨[u], rfl, ⟨rfl, .inr ⟨g, 1, #[u], rfl, hb, hr, Nat.le_refl _, by unfold maxLen; omega, rfl, rfl⟩⟩, fun i hi hi2 => ?_⟩
 obtain rfl : i = 0 := by simp at hi; exact hi
 exact ⟨hu, hu.lt⟩
theorem OwnQ.prt (h : OwnQ w base top v rss) : Prt2 w w.heap.size v rss := by
 obtain ⟨us, hul, ho, hs⟩ := h
 rcases ho with ⟨_, ⟨rfl, h0⟩ | ⟨g, cap, cur, rfl, _, hgb, hc1, hc2, hsz, ht⟩⟩
 ·exact ⟨none, 0, by rw [h0], by omega, by unfold maxLen; omega, fun h => by omega⟩
 ·refine ⟨some ⟨g, 0, none⟩, cap, rfl, hc1, hc2, fun hn => ⟨g, 0, rfl, (Array.getElem?_eq_some_iff.1 hgb).1, fun j hj => ?_⟩⟩
  have hj2 : j < us.length := by omega
  have h2 : cur[j]? = some us[j] := by
   have e : (cur.toList.take (rss.length * 1))[j]? = us[j]? := by rw [ht]
   rw [List.getElem?_take_of_lt (by omega), Array.getElem?_toList] at e
   rw [e, List.getElem?_eq_getElem hj2]
  exact ⟨us[j], by simpa [World.cell?, hgb] using h2, (hs j hj hj2).1.prt⟩
end
/-- one row more, in a region whose order is fixed -/
theorem wpList_appendQ {P : Program} {ops : Array Oper} {rest : List Oper} {o : Oper} {a : Act} {Q : Exit → Act → World → Prop} (w : World) (t : TypeId) (i0 : TypeInfo) (z : Value) (ht : P.underlying t = some (.slice 82)) (hi : P.info? 82 = some i0) (hz : i0.zero = some z) (hsz : i0.size = 1) (hby : i0.bytes = 24) (hzc : z.cells.size = 1)
  (hgd : o.guard = none) (s x : Operand) (hop : o.op = .call { callee := .builtin .append, args := #[s, x], argTypes := #[t, t] })
  {base top : Nat} {v : Value} {rss : List (List (List UInt8))} {g c : Nat} {u : Value} {b : List (List UInt8)} (hown : OwnQ w base top v rss) (hs : a.eval s = v) (hx : a.eval x = .slice (some ⟨g, 0, none⟩) 1 c)
  (hc : w.cell? ⟨g, 0, none⟩ = some u) (hu : OwnP w 0 (fun _ => 0) u b) (hlen : rss.length + 1 ≤ 1000000) (hbase : base ≤ w.heap.size)
  (h : ∀ v' w', OwnQ w' base w'.heap.size v' (rss ++ [b]) → OwnP w' 0 (fun _ => 0) u b → GrQ w base w' → wpList P ops Q rest (a.put o.dst v') w') : wpList P ops Q (o :: rest) a w := by
 obtain ⟨us, hul, ho, hsl⟩ := hown
 have hone : u.oneCell' = true := by
  obtain ⟨A, c', hv⟩ := hu.form
  rw [hv]; rfl
 refine wpList_append_own w hgd s x t hop base 82 i0 z 1 24 ht hi hz hsz hby hzc (by decide) v rss.length us hs ho ⟨g, 0, none⟩ 1 c [u] hx rfl ?_ (by simpa using hone) (by unfold maxLen; omega) (by omega) hbase ?_
 ·intro j y hj
  match j, hj with
  | 0, hj =>
   simp at hj; subst hj
   rw [addr_add]
   exact hc
  | (j + 1), hj => simp at hj
 ·intro v' w' ho' hg _
  have hgr := GrQ.of ho hg hbase
  refine h v' w' ⟨us ++ [u], by simp [hul], by rw [List.length_append]; exact ho', fun j hj hj2 => ?_⟩ (hgr.own hu) hgr
  by_cases hlt : j < rss.length
  ·rw [List.getElem_append_left (by omega), List.getElem_append_left hlt]
   have := hgr.own (hsl j hlt (by omega)).1
   exact ⟨this, this.lt⟩
  ·have hjj : j = rss.length := by simp at hj; omega
   subst hjj
   have e1 : (us ++ [u])[rss.length]'hj2 = u := by simp [← hul]
   have e2 : (rss ++ [b])[rss.length]'hj = b := by simp
   rw [e1, e2]
   exact ⟨hgr.own hu, (hgr.own hu).lt⟩
end Go.Proofs.YtdakbipiifkmfaaGreatDoor
