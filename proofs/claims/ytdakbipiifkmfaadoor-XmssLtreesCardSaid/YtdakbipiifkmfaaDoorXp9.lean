/-
 THE PROGRAM'S OWN Ltree; the laws XmssNodes and XmssLtrees.
-/
import Derived.Test.YtdakbipiifkmfaaDoorXp7
import Derived.Test.YtdakbipiifkmfaaDoorXZ
namespace Go.Proofs.YtdakbipiifkmfaaDoor
open Go.RowKit
set_option maxRecDepth 100000
set_option maxHeartbeats 4000000 in
theorem Ltree_any (x : S5) (vs ve : Value) (seed ends : List UInt8) (leaf : Nat) (w : World) (hw : x.wf) (hleaf : leaf < 4294967296) (ht : Tabs w) (hs : Sl w w.heap.size vs seed) (he : Sl w w.heap.size ve ends) :
  Calls Tryd.prog 11 #[x.v, vs, ve, .int .u32 (leaf : Int)] w (ResIs w (ltE x seed ends) (ltR x seed ends leaf)) := by
 unfold ResIs
 obtain ⟨As, cs, rfl, _, _⟩ := hs.form
 obtain ⟨Ae, ce, rfl, _, _⟩ := he.form
 have HC : Shh (∀ (v : Value) (B : Nat) W, PartsO W B B v [seed] → B ≤ W.heap.size → Calls Tryd.prog 14 #[x.v, v] W (OldIs (.int .i64 (badE x [seed])) W)) := ⟨fun v B W h hB => check11_any x hw v [seed] B B W h hB (by simp)⟩
 have hC := ltE_cases x seed ends
 have HLT : Shh (ltE x seed ends = 0 → ∀ W, Sl W W.heap.size (.slice As seed.length cs) seed → Sl W W.heap.size (.slice Ae ends.length ce) ends → Tabs W → Calls Tryd.prog 21 #[x.v, .slice As seed.length cs, .slice Ae ends.length ce, .int .u32 (leaf : Int)] W (NewSl W (ltR x seed ends leaf))) := ⟨fun h0 W h1 h2 h3 => by
  have hb : badE x [seed] = 0 := by
   rcases hC with h | h | h | h | h | h <;> omega
  have h := badE_ok hb
  have hn := S5.ok_is h.1
  have e1 := h.2 seed (by simp)
  have e : ltR x seed ends leaf = ltreeB x.s x.n x.l.toNat seed ends leaf := by unfold ltR; rw [if_pos h0]
  have hel : ends.length = x.l.toNat * x.n.toNat := by
   rcases hn with ⟨a1, a2⟩ | ⟨a1, a2⟩
   ·rw [a1, a2, show (51 : Int).toNat * (24 : Int).toNat = 1224 from rfl]; omega
   ·rw [a1, a2, show (67 : Int).toNat * (32 : Int).toNat = 2144 from rfl]; omega
  rw [e]
  exact ltree_any x hw h.1 _ _ seed ends leaf hleaf x.l.toNat x.n.toNat (by omega) (by omega) hel (by omega) W h1 h2 h3⟩
 have HO : Shh (ltE x seed ends ≠ 0 → ltR x seed ends leaf = []) := ⟨fun h => by unfold ltR; rw [if_neg h]⟩
 generalize badE x [seed] = be at HC hC ⊢
 generalize ltE x seed ends = er at HLT HO hC ⊢
 generalize ltR x seed ends leaf = out at HLT HO ⊢
 obtain ⟨W0, hW0⟩ : ∃ W0, W0 = w.alloc (.cells #[.int .u32 x.c, .bool x.s, .int .i64 x.n, .int .i64 x.h, .int .i64 x.l] 27) := ⟨_, rfl⟩
 have HW0 : Shh (Row W0 w.heap.size 27 [.int .u32 x.c, .bool x.s, .int .i64 x.n, .int .i64 x.h, .int .i64 x.l] ∧ W0.heap.size = w.heap.size + 1 ∧ Below w.heap.size w W0) := by
  rw [hW0]
  exact ⟨Row.new_ rfl rfl, by rw [asz], below1 _ _⟩
 obtain ⟨W, hW⟩ : ∃ W, W = W0.alloc (.cells #[.slice As seed.length cs] 23) := ⟨_, rfl⟩
 have HW : Shh (Row W w.heap.size 27 [.int .u32 x.c, .bool x.s, .int .i64 x.n, .int .i64 x.h, .int .i64 x.l] ∧ PartsO W (w.heap.size + 2) (w.heap.size + 2) (.slice (some ⟨w.heap.size + 1, 0, none⟩) 1 1) [seed] ∧ w.heap.size + 2 ≤ W.heap.size ∧ Below w.heap.size w W ∧ Sl W W.heap.size (.slice As seed.length cs) seed ∧ Sl W W.heap.size (.slice Ae ends.length ce) ends ∧ Tabs W) := by
  have b0 : Below w.heap.size w W := by rw [hW]; exact Below.chain HW0.out.2.2 (below1 _ _)
  refine ⟨by rw [hW]; exact HW0.out.1.alloc _, ?_, by rw [hW, asz, HW0.out.2.1]; exact Nat.le_refl _, b0, hs.go b0, he.go b0, ht.go b0⟩
  exact PartsO.one (w0 := W) (by omega) (by omega) (by rw [hW]; exact Row.new_ HW0.out.2.1.symm rfl) ((hs.below b0).more (by omega)) (hs.off (by omega)) (fun h => h)
 clear hs he ht hw hleaf
 unfold S5.v at HC HLT ⊢
 generalize x.c = xc at *
 generalize x.s = xs at *
 generalize x.n = xn at *
 generalize x.h = xh at *
 generalize x.l = xl at *
 go_enter Tryd.func11, Tryd.ntmps11
 go_wp2_with (first | (rw [← hW0]; refine wpList_load_any rfl 27 (.tmp 4) rfl w.heap.size rfl 27 [.int .u32 xc, .bool xs, .int .i64 xn, .int .i64 xh, .int .i64 xl] _ HW0.out.1 Tryd.underlying27 rfl info_xms ?_) | (go_at_call 14; rw [← hW0, ← hW]; refine (HC.out _ _ _ HW.out.2.1 HW.out.2.2.1).mono ?_))
 try rw [← hW0, ← hW]
 unfold OldIs
 rintro e w2 ⟨rfl, b2⟩
 have H2 : Shh (Row w2 w.heap.size 27 [.int .u32 xc, .bool xs, .int .i64 xn, .int .i64 xh, .int .i64 xl] ∧ Sl w2 w2.heap.size (.slice As seed.length cs) seed ∧ Sl w2 w2.heap.size (.slice Ae ends.length ce) ends ∧ Tabs w2 ∧ Below w.heap.size w w2) := ⟨HW.out.1.go b2, HW.out.2.2.2.2.1.go b2, HW.out.2.2.2.2.2.1.go b2, HW.out.2.2.2.2.2.2.go b2, Below.chain HW.out.2.2.2.1 b2⟩
 clear HW hW b2 HC HW0 hW0
 have e2 := H2.out.1.cell 2
 have e4 := H2.out.1.cell 4
 simp only [List.getElem?_cons_succ, List.getElem?_cons_zero] at e2 e4
 rcases hC with ⟨rfl, rfl⟩ | ⟨rfl, rfl⟩ | ⟨rfl, rfl, rfl, rfl, hl⟩ | ⟨rfl, rfl, rfl, rfl, hl⟩ | ⟨rfl, rfl, rfl, rfl, hl⟩ | ⟨rfl, rfl, rfl, rfl, hl⟩
 ·have HR : Shh (out = [] ∧ Below w.heap.size w w2) := ⟨HO.out (by decide), H2.out.2.2.2.2⟩
  clear H2 HLT HO e2 e4
  go_wp2
  go_ret2
  exact ⟨_, rfl, by rw [HR.out.1]; exact Sl.nil_, HR.out.2⟩
 ·have HR : Shh (out = [] ∧ Below w.heap.size w w2) := ⟨HO.out (by decide), H2.out.2.2.2.2⟩
  clear H2 HLT HO e2 e4
  go_wp2
  go_ret2
  exact ⟨_, rfl, by rw [HR.out.1]; exact Sl.nil_, HR.out.2⟩
 ·have HR : Shh (out = [] ∧ Below w.heap.size w w2) := ⟨HO.out (by decide), H2.out.2.2.2.2⟩
  clear H2 HLT HO
  have hq : ((ends.length : Int) != 1224) = true := by simpa using hl
  go_wp2
  go_ret2
  exact ⟨_, rfl, by rw [HR.out.1]; exact Sl.nil_, HR.out.2⟩
 ·have HR : Shh (out = [] ∧ Below w.heap.size w w2) := ⟨HO.out (by decide), H2.out.2.2.2.2⟩
  clear H2 HLT HO
  have hq : ((ends.length : Int) != 2144) = true := by simpa using hl
  go_wp2
  go_ret2
  exact ⟨_, rfl, by rw [HR.out.1]; exact Sl.nil_, HR.out.2⟩
 ·have HLT2 := Shh.mk (HLT.out rfl)
  clear HLT HO
  have hq : ((ends.length : Int) != 1224) = false := by simp [hl]
  go_wp2_with (first | refine wpList_load_any rfl 27 (.tmp 4) rfl w.heap.size rfl 27 [.int .u32 xc, .bool xs, .int .i64 24, .int .i64 xh, .int .i64 51] _ H2.out.1 Tryd.underlying27 rfl info_xms ?_ | (go_at_call 21; refine (HLT2.out _ H2.out.2.1 H2.out.2.2.1 H2.out.2.2.2.1).mono ?_))
  unfold NewSl
  rintro e w3 ⟨v3, rfl, s3, b3, _⟩
  have HR : Shh (Sl w3 w3.heap.size v3 out ∧ Below w.heap.size w w3) := ⟨s3, Below.chain H2.out.2.2.2.2 b3⟩
  clear H2 s3 b3 HLT2 e2 e4
  go_wp2
  go_ret2
  exact ⟨_, rfl, HR.out⟩
 ·have HLT2 := Shh.mk (HLT.out rfl)
  clear HLT HO
  have hq : ((ends.length : Int) != 2144) = false := by simp [hl]
  go_wp2_with (first | refine wpList_load_any rfl 27 (.tmp 4) rfl w.heap.size rfl 27 [.int .u32 xc, .bool xs, .int .i64 32, .int .i64 xh, .int .i64 67] _ H2.out.1 Tryd.underlying27 rfl info_xms ?_ | (go_at_call 21; refine (HLT2.out _ H2.out.2.1 H2.out.2.2.1 H2.out.2.2.2.1).mono ?_))
  unfold NewSl
  rintro e w3 ⟨v3, rfl, s3, b3, _⟩
  have HR : Shh (Sl w3 w3.heap.size v3 out ∧ Below w.heap.size w w3) := ⟨s3, Below.chain H2.out.2.2.2.2 b3⟩
  clear H2 s3 b3 HLT2 e2 e4
  go_wp2
  go_ret2
  exact ⟨_, rfl, HR.out⟩
theorem live11D_any (w : World) (ht : Tabs w) : Calls Tryd.prog 8 #[] w (TrueIs w) :=
 live11_of (Tb := Tabs) (fun _ _ h b => h.go b) (fun x vs vl vr seed l r a W h1 h2 h3 h4 h5 h6 => Node_any x vs vl vr seed l r a W h1 h2 h3 h4 h5 h6) w ht
theorem nodes_law (c : Nat) (hc : c < 4294967296) (vs vl vr : Value) (seed l r : List UInt8) (a : List UInt32) (ha : a.length = 8) (w : World) (hs : Sl w w.heap.size vs seed) (hl : Sl w w.heap.size vl l) (hr : Sl w w.heap.size vr r) (ht : Tabs w) :
  Calls Tryd.prog 3 #[.int .u32 (c : Int), vs, adrV a, vl, vr] w (TrueIs w) :=
 xmssNodes_of (Tb := Tabs) c hc vs vl vr seed l r a ha w hs hl hr ht (fun _ _ h b => h.go b) live11D_any (fun x vs vl vr seed l r a W h1 h2 h3 h4 h5 h6 => Node_any x vs vl vr seed l r a W h1 h2 h3 h4 h5 h6)
theorem ltrees_law (c : Nat) (hc : c < 4294967296) (vs ve : Value) (seed ends : List UInt8) (leaf : Nat) (hleaf : leaf < 4294967296) (w : World) (hs : Sl w w.heap.size vs seed) (he : Sl w w.heap.size ve ends) (ht : Tabs w) :
  Calls Tryd.prog 4 #[.int .u32 (c : Int), vs, ve, .int .u32 (leaf : Int)] w (TrueIs w) :=
 xmssLtrees_of (Tb := Tabs) c hc vs ve seed ends leaf hleaf w hs he ht (fun _ _ h b => h.go b) live11D_any (fun x vs ve seed ends leaf W h1 h2 h3 h4 h5 => Ltree_any x vs ve seed ends leaf W h1 h2 h3 h4 h5)
end Go.Proofs.YtdakbipiifkmfaaDoor
