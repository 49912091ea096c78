/-
  WALKS: is it a set? what is wrong with a set, or with a length: the program's and the document's.
-/
import Derived.Test.YtcbcgegppnojmaaPb3
import Derived.Test.YtcbcgegppnojmaaPa4
namespace Go.Proofs.Ytcbcgegppnojmaa
open Go.RowKit
set_option maxRecDepth 100000
theorem u32_of {x : Int} (h : (Lit.int .u32 x).wf = true) : 0 ≤ x ∧ x ≤ 4294967295 := by simpa [Lit.wf, IntKind.min, IntKind.max, IntKind.signed, IntKind.bits] using h
theorem oR_wf (c : Nat) : (0 ≤ (oR c).2.1 ∧ (oR c).2.1 ≤ 1000) ∧ (0 ≤ (oR c).2.2.1 ∧ (oR c).2.2.1 ≤ 1000) ∧ (0 ≤ (oR c).2.2.2.1 ∧ (oR c).2.2.2.1 ≤ 1000) ∧ (0 ≤ (oR c).2.2.2.2 ∧ (oR c).2.2.2.2 ≤ 1000) := by
  by_cases h : c < 1 ∨ 16 < c
  · rw [(oR_none h).1]; decide
  · have key : ∀ j : Fin 17, (0 ≤ (oR j.val).2.1 ∧ (oR j.val).2.1 ≤ 1000) ∧ (0 ≤ (oR j.val).2.2.1 ∧ (oR j.val).2.2.1 ≤ 1000) ∧ (0 ≤ (oR j.val).2.2.2.1 ∧ (oR j.val).2.2.2.1 ≤ 1000) ∧ (0 ≤ (oR j.val).2.2.2.2 ∧ (oR j.val).2.2.2.2 ≤ 1000) := by decide +kernel
    exact key ⟨c, by omega⟩
theorem ots_wf (c : Nat) (hc : c < 4294967296) : (Lit.int .u32 (oC c)).wf = true ∧ (Lit.int .i64 (oR c).2.1).wf = true ∧ (Lit.int .i64 (oR c).2.2.1).wf = true ∧ (Lit.int .i64 (oR c).2.2.2.1).wf = true ∧ (Lit.int .i64 (oR c).2.2.2.2).wf = true := by
  have h := oR_wf c
  have hC : 0 ≤ oC c ∧ oC c ≤ 4294967295 := by unfold oC; split <;> omega
  exact ⟨wf32 hC.1 hC.2, wf64 (by omega) (by omega), wf64 (by omega) (by omega), wf64 (by omega) (by omega), wf64 (by omega) (by omega)⟩
theorem isSet_of (xc : Int) (xs : Bool) (xn xwd xp xl : Int) (yc : Int) (ys : Bool) (yn ywd yp yl : Int) (ee : Int) (hxc : (Lit.int .u32 xc).wf = true) (hxn : (Lit.int .i64 xn).wf = true) (hxwd : (Lit.int .i64 xwd).wf = true) (hxp : (Lit.int .i64 xp).wf = true) (hxl : (Lit.int .i64 xl).wf = true) (hyc : (Lit.int .u32 yc).wf = true) (hyn : (Lit.int .i64 yn).wf = true) (hywd : (Lit.int .i64 ywd).wf = true) (hyp : (Lit.int .i64 yp).wf = true) (hyl : (Lit.int .i64 yl).wf = true) (hset : ∀ W, Calls Try.prog 26 #[.int .u32 xc] W (OldIs (.tuple #[.agg #[.int .u32 yc, .bool ys, .int .i64 yn, .int .i64 ywd, .int .i64 yp, .int .i64 yl], .int .i64 ee]) W)) (w : World) :
    Calls Try.prog 22 #[.agg #[.int .u32 xc, .bool xs, .int .i64 xn, .int .i64 xwd, .int .i64 xp, .int .i64 xl]] w (OldIs (.bool (decide (ee = 0 ∧ (xc = yc ∧ xs = ys ∧ xn = yn ∧ xwd = ywd ∧ xp = yp ∧ xl = yl)))) w) := by
  unfold OldIs
  have HW : Shh (Row (w.alloc (.cells #[.int .u32 xc, .bool xs, .int .i64 xn, .int .i64 xwd, .int .i64 xp, .int .i64 xl] 24)) w.heap.size 24 [.int .u32 xc, .bool xs, .int .i64 xn, .int .i64 xwd, .int .i64 xp, .int .i64 xl] ∧ Below w.heap.size w (w.alloc (.cells #[.int .u32 xc, .bool xs, .int .i64 xn, .int .i64 xwd, .int .i64 xp, .int .i64 xl] 24))) := ⟨Row.new_ rfl rfl, Below.alloc (Below.refl _ _) (Nat.le_refl _) _⟩
  by_cases he : ee = 0
  · subst he
    have hres : decide ((0 : Int) = 0 ∧ (xc = yc ∧ xs = ys ∧ xn = yn ∧ xwd = ywd ∧ xp = yp ∧ xl = yl)) = decide (xc = yc ∧ xs = ys ∧ xn = yn ∧ xwd = ywd ∧ xp = yp ∧ xl = yl) := by
      refine decide_eq_decide.2 ⟨fun h => ?_, fun h => ?_⟩
      · obtain ⟨_, rfl, rfl, rfl, rfl, rfl, rfl⟩ := h
        exact ⟨rfl, rfl, rfl, rfl, rfl, rfl⟩
      · obtain ⟨rfl, rfl, rfl, rfl, rfl, rfl⟩ := h
        exact ⟨rfl, rfl, rfl, rfl, rfl, rfl, rfl⟩
    have heq := fun W : World => eq_ots xc xs xn xwd xp xl yc ys yn ywd yp yl hxc hxn hxwd hxp hxl hyc hyn hywd hyp hyl W
    rw [hres]
    generalize decide (xc = yc ∧ xs = ys ∧ xn = yn ∧ xwd = ywd ∧ xp = yp ∧ xl = yl) = r at heq ⊢
    clear hres
    go_enter Try.func22, Try.ntmps22
    go_wp2_with (go_at_call 26; refine (hset _).mono ?_)
    unfold OldIs
    rintro e w2 ⟨rfl, b2⟩
    have F2 : Shh (Row w2 w.heap.size 24 [.int .u32 xc, .bool xs, .int .i64 xn, .int .i64 xwd, .int .i64 xp, .int .i64 xl] ∧ Below w.heap.size w w2) := ⟨HW.out.1.go b2, Below.chain HW.out.2 b2⟩
    clear HW b2 hset
    obtain ⟨G, hG⟩ : ∃ G, Shh (G = w2.heap.size) := ⟨_, ⟨rfl⟩⟩
    go_wp2_with (refine wpList_store_any rfl 24 (.tmp 3) (.tmp 9) rfl G (by rw [hG.out]; rfl) [.int .u32 yc, .bool ys, .int .i64 yn, .int .i64 ywd, .int .i64 yp, .int .i64 yl] rfl 24 _ (Row.new_ hG.out rfl) info_ots rfl oneCell6 ?_)
    intro Z hr bt _
    have F3 : Shh (Row Z w.heap.size 24 [.int .u32 xc, .bool xs, .int .i64 xn, .int .i64 xwd, .int .i64 xp, .int .i64 xl] ∧ Row Z G 24 [.int .u32 yc, .bool ys, .int .i64 yn, .int .i64 ywd, .int .i64 yp, .int .i64 yl] ∧ Below w.heap.size w Z) := by
      have hl := F2.out.1.lt
      refine ⟨bt.row (F2.out.1.alloc _) (by first | omega | (simp only [asz]; omega)) (by have := hG.out; omega), hr, Below.chain F2.out.2 ?_⟩
      exact (Below.alloc (Below.refl _ _) (Nat.le_refl _) _).trans (bt.under (by first | omega | (simp only [asz]; omega)) (by have := hG.out; omega))
    rw [← hG.out]
    clear hr bt F2 hG
    go_wp2_with (first | refine wl_loadW 24 (.tmp 1) rfl w.heap.size rfl 24 [.int .u32 xc, .bool xs, .int .i64 xn, .int .i64 xwd, .int .i64 xp, .int .i64 xl] _ rfl F3.out.1 Try.underlying24 rfl info_ots ?_ | refine wl_loadW 24 (.tmp 3) rfl G rfl 24 [.int .u32 yc, .bool ys, .int .i64 yn, .int .i64 ywd, .int .i64 yp, .int .i64 yl] _ rfl F3.out.2.1 Try.underlying24 rfl info_ots ?_ | refine wl_eqlW 24 24 (.tmp 14) (.tmp 15) rfl #[.int .u32 xc, .bool xs, .int .i64 xn, .int .i64 xwd, .int .i64 xp, .int .i64 xl] #[.int .u32 yc, .bool ys, .int .i64 yn, .int .i64 ywd, .int .i64 yp, .int .i64 yl] rfl rfl rfl (by kernel_rfl) r (heq _) ?_)
    go_ret
    exact ⟨rfl, F3.out.2.2⟩
  · have hres : (decide (ee = 0 ∧ (xc = yc ∧ xs = ys ∧ xn = yn ∧ xwd = ywd ∧ xp = yp ∧ xl = yl))) = false := decide_eq_false fun h => he h.1
    rw [hres]
    clear hres
    go_enter Try.func22, Try.ntmps22
    go_wp2_with (go_at_call 26; refine (hset _).mono ?_)
    unfold OldIs
    rintro e w2 ⟨rfl, b2⟩
    have F2 : Shh (Row w2 w.heap.size 24 [.int .u32 xc, .bool xs, .int .i64 xn, .int .i64 xwd, .int .i64 xp, .int .i64 xl] ∧ Below w.heap.size w w2) := ⟨HW.out.1.go b2, Below.chain HW.out.2 b2⟩
    clear HW b2 hset
    obtain ⟨G, hG⟩ : ∃ G, Shh (G = w2.heap.size) := ⟨_, ⟨rfl⟩⟩
    go_wp2_with (refine wpList_store_any rfl 24 (.tmp 3) (.tmp 9) rfl G (by rw [hG.out]; rfl) [.int .u32 yc, .bool ys, .int .i64 yn, .int .i64 ywd, .int .i64 yp, .int .i64 yl] rfl 24 _ (Row.new_ hG.out rfl) info_ots rfl oneCell6 ?_)
    intro Z hr bt _
    have F3 : Shh (True ∧ Below w.heap.size w Z) := by
      refine ⟨trivial, Below.chain F2.out.2 ?_⟩
      exact (Below.alloc (Below.refl _ _) (Nat.le_refl _) _).trans (bt.under (by first | omega | (simp only [asz]; omega)) (by have := hG.out; omega))
    clear hr bt F2 hG
    go_wp2
    go_ret
    exact ⟨rfl, F3.out.2⟩

/-- a set, field by field -/
structure S6 where
  c : Int
  s : Bool
  n : Int
  w : Int
  p : Int
  l : Int
def S6.wf (x : S6) : Prop := (Lit.int .u32 x.c).wf = true ∧ (Lit.int .i64 x.n).wf = true ∧ (Lit.int .i64 x.w).wf = true ∧ (Lit.int .i64 x.p).wf = true ∧ (Lit.int .i64 x.l).wf = true
/-- the set of a code -/
def oS (c : Nat) : S6 := ⟨oC c, (oR c).1, (oR c).2.1, (oR c).2.2.1, (oR c).2.2.2.1, (oR c).2.2.2.2⟩
def S6.ok (x : S6) : Bool := decide (oE x.c.toNat = 0 ∧ (x.c = oC x.c.toNat ∧ x.s = (oR x.c.toNat).1 ∧ x.n = (oR x.c.toNat).2.1 ∧ x.w = (oR x.c.toNat).2.2.1 ∧ x.p = (oR x.c.toNat).2.2.2.1 ∧ x.l = (oR x.c.toNat).2.2.2.2))
theorem S6.ok_is {x : S6} (h : x.ok = true) : ∃ c, 1 ≤ c ∧ c ≤ 16 ∧ x = oS c := by
  obtain ⟨h0, h1, h2, h3, h4, h5, h6⟩ := of_decide_eq_true h
  refine ⟨x.c.toNat, ?_⟩
  have hc : 1 ≤ x.c.toNat ∧ x.c.toNat ≤ 16 := by
    unfold oE at h0
    split at h0
    · assumption
    · omega
  refine ⟨hc.1, hc.2, ?_⟩
  obtain ⟨c, s, n, w, p, l⟩ := x
  simp only at h1 h2 h3 h4 h5 h6
  unfold oS
  simp only [S6.mk.injEq]
  exact ⟨h1, h2, h3, h4, h5, h6⟩
theorem oS_ok (c : Nat) (h : 1 ≤ c ∧ c ≤ 16) : (oS c).ok = true := by
  have key : ∀ j : Fin 17, 1 ≤ j.val → (oS j.val).ok = true := by decide +kernel
  exact key ⟨c, by omega⟩ h.1
theorem oS_wf (c : Nat) (h : c ≤ 16) : (oS c).wf := by
  have := ots_wf c (by omega)
  exact this
theorem c_nat {x : S6} (h : x.wf) : ((x.c.toNat : Nat) : Int) = x.c ∧ x.c.toNat < 4294967296 := by
  have := u32_of h.1
  omega
theorem isSet_any (xc : Int) (xs : Bool) (xn xwd xp xl : Int) (h : S6.wf ⟨xc, xs, xn, xwd, xp, xl⟩) (w : World) : Calls Try.prog 22 #[.agg #[.int .u32 xc, .bool xs, .int .i64 xn, .int .i64 xwd, .int .i64 xp, .int .i64 xl]] w (OldIs (.bool (S6.ok ⟨xc, xs, xn, xwd, xp, xl⟩)) w) := by
  have hn := c_nat h
  simp only at hn
  have hw := ots_wf xc.toNat hn.2
  exact isSet_of xc xs xn xwd xp xl (oC xc.toNat) (oR xc.toNat).1 (oR xc.toNat).2.1 (oR xc.toNat).2.2.1 (oR xc.toNat).2.2.2.1 (oR xc.toNat).2.2.2.2 (oE xc.toNat) h.1 h.2.1 h.2.2.1 h.2.2.2.1 h.2.2.2.2 hw.1 hw.2.1 hw.2.2.1 hw.2.2.2.1 hw.2.2.2.2 (fun W => by have := ots_any xc.toNat W; rw [hn.1] at this; exact this) w
theorem mayOts_any (xc : Int) (xs : Bool) (xn xwd xp xl : Int) (h : S6.wf ⟨xc, xs, xn, xwd, xp, xl⟩) (w : World) : Calls Try.prog 14 #[.agg #[.int .u32 xc, .bool xs, .int .i64 xn, .int .i64 xwd, .int .i64 xp, .int .i64 xl]] w (OldIs (.bool (S6.ok ⟨xc, xs, xn, xwd, xp, xl⟩)) w) := by
  have hn := c_nat h
  simp only at hn
  have hw := ots_wf xc.toNat hn.2
  exact MayOts_of xc xs xn xwd xp xl (oC xc.toNat) (oR xc.toNat).1 (oR xc.toNat).2.1 (oR xc.toNat).2.2.1 (oR xc.toNat).2.2.2.1 (oR xc.toNat).2.2.2.2 (oE xc.toNat) h.1 h.2.1 h.2.2.1 h.2.2.2.1 h.2.2.2.2 hw.1 hw.2.1 hw.2.2.1 hw.2.2.2.1 hw.2.2.2.2 (fun W => by have := refOts_any xc.toNat W; rw [hn.1] at this; exact this) w
/-- what is wrong with a set, or with a length -/
def chkE (x : S6) (n : Nat) : Int := if x.ok then (if (n : Int) = x.n then 0 else 1) else 60
theorem check_any (xc : Int) (xs : Bool) (xn xwd xp xl : Int) (h : S6.wf ⟨xc, xs, xn, xwd, xp, xl⟩) (n : Nat) (w : World) : Calls Try.prog 12 #[.agg #[.int .u32 xc, .bool xs, .int .i64 xn, .int .i64 xwd, .int .i64 xp, .int .i64 xl], .int .i64 (n : Int)] w (OldIs (.int .i64 (chkE ⟨xc, xs, xn, xwd, xp, xl⟩ n)) w) := by
  unfold OldIs
  have HW : Shh (Row (w.alloc (.cells #[.int .u32 xc, .bool xs, .int .i64 xn, .int .i64 xwd, .int .i64 xp, .int .i64 xl] 24)) w.heap.size 24 [.int .u32 xc, .bool xs, .int .i64 xn, .int .i64 xwd, .int .i64 xp, .int .i64 xl] ∧ Below w.heap.size w (w.alloc (.cells #[.int .u32 xc, .bool xs, .int .i64 xn, .int .i64 xwd, .int .i64 xp, .int .i64 xl] 24))) := ⟨Row.new_ rfl rfl, Below.alloc (Below.refl _ _) (Nat.le_refl _) _⟩
  have hset := fun W => isSet_any xc xs xn xwd xp xl h W
  cases hok : S6.ok ⟨xc, xs, xn, xwd, xp, xl⟩ with
  | false =>
    rw [hok] at hset
    have hE : chkE ⟨xc, xs, xn, xwd, xp, xl⟩ n = 60 := by unfold chkE; rw [hok]; rfl
    rw [hE]
    clear hE hok h
    go_enter Try.func12, Try.ntmps12
    go_wp2_with (first | refine wl_loadW 24 (.tmp 2) rfl w.heap.size rfl 24 [.int .u32 xc, .bool xs, .int .i64 xn, .int .i64 xwd, .int .i64 xp, .int .i64 xl] _ rfl HW.out.1 Try.underlying24 rfl info_ots ?_ | (go_at_call 22; refine (hset _).mono ?_))
    unfold OldIs
    rintro e w2 ⟨rfl, b2⟩
    have F2 : Shh (Row w2 w.heap.size 24 [.int .u32 xc, .bool xs, .int .i64 xn, .int .i64 xwd, .int .i64 xp, .int .i64 xl] ∧ Below w.heap.size w w2) := ⟨HW.out.1.go b2, Below.chain HW.out.2 b2⟩
    clear HW b2 hset
    go_wp2
    go_ret
    exact ⟨rfl, F2.out.2⟩
  | true =>
    rw [hok] at hset
    by_cases hlen : (n : Int) = xn
    · have hE : chkE ⟨xc, xs, xn, xwd, xp, xl⟩ n = 0 := by unfold chkE; rw [hok]; simp [hlen]
      have hne : ((n : Int) != xn) = false := by simp [hlen]
      rw [hE]
      clear hE hok h hlen
      go_enter Try.func12, Try.ntmps12
      go_wp2_with (first | refine wl_loadW 24 (.tmp 2) rfl w.heap.size rfl 24 [.int .u32 xc, .bool xs, .int .i64 xn, .int .i64 xwd, .int .i64 xp, .int .i64 xl] _ rfl HW.out.1 Try.underlying24 rfl info_ots ?_ | (go_at_call 22; refine (hset _).mono ?_))
      unfold OldIs
      rintro e w2 ⟨rfl, b2⟩
      have F2 : Shh (Row w2 w.heap.size 24 [.int .u32 xc, .bool xs, .int .i64 xn, .int .i64 xwd, .int .i64 xp, .int .i64 xl] ∧ Below w.heap.size w w2) := ⟨HW.out.1.go b2, Below.chain HW.out.2 b2⟩
      clear HW b2 hset
      have hc : w2.cell? ⟨w.heap.size, 2, none⟩ = some (.int .i64 xn) := F2.out.1.cell 2
      go_wp2
      go_ret
      exact ⟨rfl, F2.out.2⟩
    · have hE : chkE ⟨xc, xs, xn, xwd, xp, xl⟩ n = 1 := by unfold chkE; rw [hok]; simp [hlen]
      have hne : ((n : Int) != xn) = true := by simp [hlen]
      rw [hE]
      clear hE hok h
      go_enter Try.func12, Try.ntmps12
      go_wp2_with (first | refine wl_loadW 24 (.tmp 2) rfl w.heap.size rfl 24 [.int .u32 xc, .bool xs, .int .i64 xn, .int .i64 xwd, .int .i64 xp, .int .i64 xl] _ rfl HW.out.1 Try.underlying24 rfl info_ots ?_ | (go_at_call 22; refine (hset _).mono ?_))
      unfold OldIs
      rintro e w2 ⟨rfl, b2⟩
      have F2 : Shh (Row w2 w.heap.size 24 [.int .u32 xc, .bool xs, .int .i64 xn, .int .i64 xwd, .int .i64 xp, .int .i64 xl] ∧ Below w.heap.size w w2) := ⟨HW.out.1.go b2, Below.chain HW.out.2 b2⟩
      clear HW b2 hset
      have hc : w2.cell? ⟨w.heap.size, 2, none⟩ = some (.int .i64 xn) := F2.out.1.cell 2
      go_wp2
      go_ret
      exact ⟨rfl, F2.out.2⟩
theorem may_any (xc : Int) (xs : Bool) (xn xwd xp xl : Int) (h : S6.wf ⟨xc, xs, xn, xwd, xp, xl⟩) (w : World) (B : Nat) (v : Value) (bs : List UInt8) (hb : Sl w B v bs) : Calls Try.prog 8 #[.agg #[.int .u32 xc, .bool xs, .int .i64 xn, .int .i64 xwd, .int .i64 xp, .int .i64 xl], v] w (OldIs (.int .i64 (chkE ⟨xc, xs, xn, xwd, xp, xl⟩ bs.length)) w) := by
  unfold OldIs
  have HW : Shh (Row (w.alloc (.cells #[.int .u32 xc, .bool xs, .int .i64 xn, .int .i64 xwd, .int .i64 xp, .int .i64 xl] 24)) w.heap.size 24 [.int .u32 xc, .bool xs, .int .i64 xn, .int .i64 xwd, .int .i64 xp, .int .i64 xl] ∧ Below w.heap.size w (w.alloc (.cells #[.int .u32 xc, .bool xs, .int .i64 xn, .int .i64 xwd, .int .i64 xp, .int .i64 xl] 24))) := ⟨Row.new_ rfl rfl, Below.alloc (Below.refl _ _) (Nat.le_refl _) _⟩
  have hset := fun W => mayOts_any xc xs xn xwd xp xl h W
  obtain ⟨A, c, rfl, _, _⟩ := hb.form
  cases hok : S6.ok ⟨xc, xs, xn, xwd, xp, xl⟩ with
  | false =>
    rw [hok] at hset
    have hE : chkE ⟨xc, xs, xn, xwd, xp, xl⟩ bs.length = 60 := by unfold chkE; rw [hok]; rfl
    rw [hE]
    clear hE hok h
    go_enter Try.func8, Try.ntmps8
    go_wp2_with (first | refine wl_loadW 24 (.tmp 2) rfl w.heap.size rfl 24 [.int .u32 xc, .bool xs, .int .i64 xn, .int .i64 xwd, .int .i64 xp, .int .i64 xl] _ rfl HW.out.1 Try.underlying24 rfl info_ots ?_ | (go_at_call 14; refine (hset _).mono ?_))
    unfold OldIs
    rintro e w2 ⟨rfl, b2⟩
    have F2 : Shh (Row w2 w.heap.size 24 [.int .u32 xc, .bool xs, .int .i64 xn, .int .i64 xwd, .int .i64 xp, .int .i64 xl] ∧ Below w.heap.size w w2) := ⟨HW.out.1.go b2, Below.chain HW.out.2 b2⟩
    clear HW b2 hset
    go_wp2
    go_ret
    exact ⟨rfl, F2.out.2⟩
  | true =>
    rw [hok] at hset
    by_cases hlen : (bs.length : Int) = xn
    · have hE : chkE ⟨xc, xs, xn, xwd, xp, xl⟩ bs.length = 0 := by unfold chkE; rw [hok]; simp [hlen]
      have hne : ((bs.length : Int) != xn) = false := by simp [hlen]
      rw [hE]
      clear hE hok h hlen
      go_enter Try.func8, Try.ntmps8
      go_wp2_with (first | refine wl_loadW 24 (.tmp 2) rfl w.heap.size rfl 24 [.int .u32 xc, .bool xs, .int .i64 xn, .int .i64 xwd, .int .i64 xp, .int .i64 xl] _ rfl HW.out.1 Try.underlying24 rfl info_ots ?_ | (go_at_call 14; refine (hset _).mono ?_))
      unfold OldIs
      rintro e w2 ⟨rfl, b2⟩
      have F2 : Shh (Row w2 w.heap.size 24 [.int .u32 xc, .bool xs, .int .i64 xn, .int .i64 xwd, .int .i64 xp, .int .i64 xl] ∧ Below w.heap.size w w2) := ⟨HW.out.1.go b2, Below.chain HW.out.2 b2⟩
      clear HW b2 hset
      have hc : w2.cell? ⟨w.heap.size, 2, none⟩ = some (.int .i64 xn) := F2.out.1.cell 2
      go_wp2
      go_ret
      exact ⟨rfl, F2.out.2⟩
    · have hE : chkE ⟨xc, xs, xn, xwd, xp, xl⟩ bs.length = 1 := by unfold chkE; rw [hok]; simp [hlen]
      have hne : ((bs.length : Int) != xn) = true := by simp [hlen]
      rw [hE]
      clear hE hok h
      go_enter Try.func8, Try.ntmps8
      go_wp2_with (first | refine wl_loadW 24 (.tmp 2) rfl w.heap.size rfl 24 [.int .u32 xc, .bool xs, .int .i64 xn, .int .i64 xwd, .int .i64 xp, .int .i64 xl] _ rfl HW.out.1 Try.underlying24 rfl info_ots ?_ | (go_at_call 14; refine (hset _).mono ?_))
      unfold OldIs
      rintro e w2 ⟨rfl, b2⟩
      have F2 : Shh (Row w2 w.heap.size 24 [.int .u32 xc, .bool xs, .int .i64 xn, .int .i64 xwd, .int .i64 xp, .int .i64 xl] ∧ Below w.heap.size w w2) := ⟨HW.out.1.go b2, Below.chain HW.out.2 b2⟩
      clear HW b2 hset
      have hc : w2.cell? ⟨w.heap.size, 2, none⟩ = some (.int .i64 xn) := F2.out.1.cell 2
      go_wp2
      go_ret
      exact ⟨rfl, F2.out.2⟩
end Go.Proofs.Ytcbcgegppnojmaa
