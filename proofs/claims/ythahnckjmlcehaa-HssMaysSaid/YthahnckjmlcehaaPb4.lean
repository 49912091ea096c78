/-
  WALKS: Fit, OtsLen, LmsLen, XmssLen, LmsPub, XmssPub: the program's and the document's.
-/
import Derived.Test.YthahnckjmlcehaaPb3
namespace Go.Proofs.Ythahnckjmlcehaa
open Go.RowKit
set_option maxRecDepth 100000
/-! what the functions answer; the sums as the machine takes them -/

def fitB (bl bo : Bool) (s t : Bool) (n m : Int) : Bool := bl && bo && (s == t) && decide (n = m)
def otsLn (b : Bool) (n p : Int) : Int := if b then wrap64 (4 + wrap64 (n * wrap64 (p + 1))) else 0
def lmsLn (b : Bool) (o n h : Int) : Int := if b then wrap64 (wrap64 (8 + o) + wrap64 (h * n)) else 0
def xmsLn (b : Bool) (n h l : Int) : Int := if b then wrap64 (wrap64 (4 + n) + wrap64 (wrap64 (l + h) * n)) else 0
def lmsPb (b : Bool) (n : Int) : Int := if b then wrap64 (24 + n) else 0
def xmsPb (b : Bool) (n : Int) : Int := if b then wrap64 (4 + wrap64 (2 * n)) else 0
theorem lms_sum (o m : Int) : wrap64 (wrap64 (wrap64 (4 + o) + 4) + m) = wrap64 (wrap64 (8 + o) + m) := by
  simp only [wrap64]
  omega
theorem pFit_of (xc : Int) (xs : Bool) (xn xh : Int) (yc : Int) (ys : Bool) (yn ywd yp yl : Int) (bl bo : Bool) (hL : ∀ W, Calls Try.prog 29 #[.agg #[.int .u32 xc, .bool xs, .int .i64 xn, .int .i64 xh]] W (OldIs (.bool bl) W)) (hO : ∀ W, Calls Try.prog 45 #[.agg #[.int .u32 yc, .bool ys, .int .i64 yn, .int .i64 ywd, .int .i64 yp, .int .i64 yl]] W (OldIs (.bool bo) W)) (w : World) :
    Calls Try.prog 30 #[.agg #[.int .u32 xc, .bool xs, .int .i64 xn, .int .i64 xh], .agg #[.int .u32 yc, .bool ys, .int .i64 yn, .int .i64 ywd, .int .i64 yp, .int .i64 yl]] w (OldIs (.bool (fitB bl bo xs ys xn yn)) w) := by
  unfold OldIs
  obtain ⟨W, hW⟩ : ∃ W, W = (w.alloc (.cells #[.int .u32 xc, .bool xs, .int .i64 xn, .int .i64 xh] 37)).alloc (.cells #[.int .u32 yc, .bool ys, .int .i64 yn, .int .i64 ywd, .int .i64 yp, .int .i64 yl] 39) := ⟨_, rfl⟩
  have HW : Shh (Row W w.heap.size 37 [.int .u32 xc, .bool xs, .int .i64 xn, .int .i64 xh] ∧ Row W (w.heap.size + 1) 39 [.int .u32 yc, .bool ys, .int .i64 yn, .int .i64 ywd, .int .i64 yp, .int .i64 yl] ∧ Below w.heap.size w W) := by
    rw [hW]
    exact ⟨(Row.new_ rfl rfl).alloc _, Row.new_ (asz _ _).symm rfl, (Below.alloc (Below.refl _ _) (Nat.le_refl _) _).trans (Below.alloc (Below.refl _ _) (by simp only [asz]; omega) _)⟩
  rw [hW] at HW
  clear hW
  cases bl with
  | false =>
    have hres : fitB false bo xs ys xn yn = false := rfl
    rw [hres]
    clear hres hO
    go_enter Try.func30, Try.ntmps30
    go_wp2_with (first | refine wl_loadW 37 (.tmp 2) rfl w.heap.size rfl 37 [.int .u32 xc, .bool xs, .int .i64 xn, .int .i64 xh] _ rfl HW.out.1 Try.underlying37 rfl info_lms ?_ | (go_at_call 29; refine (hL _).mono ?_))
    unfold OldIs
    rintro e w2 ⟨rfl, b2⟩
    have F2 : Shh (Row w2 w.heap.size 37 [.int .u32 xc, .bool xs, .int .i64 xn, .int .i64 xh] ∧ Row w2 (w.heap.size + 1) 39 [.int .u32 yc, .bool ys, .int .i64 yn, .int .i64 ywd, .int .i64 yp, .int .i64 yl] ∧ Below w.heap.size w w2) := ⟨HW.out.1.go b2, HW.out.2.1.go b2, Below.chain HW.out.2.2 b2⟩
    clear HW b2 hL
    go_wp2
    go_ret
    exact ⟨rfl, F2.out.2.2⟩
  | true =>
    cases bo with
    | false =>
      have hres : fitB true false xs ys xn yn = false := rfl
      rw [hres]
      clear hres
      go_enter Try.func30, Try.ntmps30
      go_wp2_with (first | refine wl_loadW 37 (.tmp 2) rfl w.heap.size rfl 37 [.int .u32 xc, .bool xs, .int .i64 xn, .int .i64 xh] _ rfl HW.out.1 Try.underlying37 rfl info_lms ?_ | (go_at_call 29; refine (hL _).mono ?_))
      unfold OldIs
      rintro e w2 ⟨rfl, b2⟩
      have F2 : Shh (Row w2 w.heap.size 37 [.int .u32 xc, .bool xs, .int .i64 xn, .int .i64 xh] ∧ Row w2 (w.heap.size + 1) 39 [.int .u32 yc, .bool ys, .int .i64 yn, .int .i64 ywd, .int .i64 yp, .int .i64 yl] ∧ Below w.heap.size w w2) := ⟨HW.out.1.go b2, HW.out.2.1.go b2, Below.chain HW.out.2.2 b2⟩
      clear HW b2 hL
      go_wp2_with (first | refine wl_loadW 39 (.tmp 3) rfl (w.heap.size + 1) rfl 39 [.int .u32 yc, .bool ys, .int .i64 yn, .int .i64 ywd, .int .i64 yp, .int .i64 yl] _ rfl F2.out.2.1 Try.underlying39 rfl info_ots ?_ | (go_at_call 45; refine (hO _).mono ?_))
      unfold OldIs
      rintro e w3 ⟨rfl, b3⟩
      have F3 : Shh (Row w3 w.heap.size 37 [.int .u32 xc, .bool xs, .int .i64 xn, .int .i64 xh] ∧ Row w3 (w.heap.size + 1) 39 [.int .u32 yc, .bool ys, .int .i64 yn, .int .i64 ywd, .int .i64 yp, .int .i64 yl] ∧ Below w.heap.size w w3) := ⟨F2.out.1.go b3, F2.out.2.1.go b3, Below.chain F2.out.2.2 b3⟩
      clear F2 b3 hO
      go_wp2
      go_ret
      exact ⟨rfl, F3.out.2.2⟩
    | true =>
      by_cases hs : xs = ys
      · subst hs
        by_cases hn : xn = yn
        · subst hn
          have hres : fitB true true xs xs xn xn = true := by cases xs <;> simp [fitB]
          rw [hres]
          clear hres
          go_enter Try.func30, Try.ntmps30
          go_wp2_with (first | refine wl_loadW 37 (.tmp 2) rfl w.heap.size rfl 37 [.int .u32 xc, .bool xs, .int .i64 xn, .int .i64 xh] _ rfl HW.out.1 Try.underlying37 rfl info_lms ?_ | (go_at_call 29; refine (hL _).mono ?_))
          unfold OldIs
          rintro e w2 ⟨rfl, b2⟩
          have F2 : Shh (Row w2 w.heap.size 37 [.int .u32 xc, .bool xs, .int .i64 xn, .int .i64 xh] ∧ Row w2 (w.heap.size + 1) 39 [.int .u32 yc, .bool xs, .int .i64 xn, .int .i64 ywd, .int .i64 yp, .int .i64 yl] ∧ Below w.heap.size w w2) := ⟨HW.out.1.go b2, HW.out.2.1.go b2, Below.chain HW.out.2.2 b2⟩
          clear HW b2 hL
          go_wp2_with (first | refine wl_loadW 39 (.tmp 3) rfl (w.heap.size + 1) rfl 39 [.int .u32 yc, .bool xs, .int .i64 xn, .int .i64 ywd, .int .i64 yp, .int .i64 yl] _ rfl F2.out.2.1 Try.underlying39 rfl info_ots ?_ | (go_at_call 45; refine (hO _).mono ?_))
          unfold OldIs
          rintro e w3 ⟨rfl, b3⟩
          have F3 : Shh (Row w3 w.heap.size 37 [.int .u32 xc, .bool xs, .int .i64 xn, .int .i64 xh] ∧ Row w3 (w.heap.size + 1) 39 [.int .u32 yc, .bool xs, .int .i64 xn, .int .i64 ywd, .int .i64 yp, .int .i64 yl] ∧ Below w.heap.size w w3) := ⟨F2.out.1.go b3, F2.out.2.1.go b3, Below.chain F2.out.2.2 b3⟩
          clear F2 b3 hO
          have c1 : w3.cell? ⟨w.heap.size, 1, none⟩ = some (.bool xs) := F3.out.1.cell 1
          have c2 : w3.cell? ⟨w.heap.size, 2, none⟩ = some (.int .i64 xn) := F3.out.1.cell 2
          have c3 : w3.cell? ⟨w.heap.size + 1, 1, none⟩ = some (.bool xs) := F3.out.2.1.cell 1
          have c4 : w3.cell? ⟨w.heap.size + 1, 2, none⟩ = some (.int .i64 xn) := F3.out.2.1.cell 2
          go_wp2
          go_ret
          exact ⟨rfl, F3.out.2.2⟩
        · have hres : fitB true true xs xs xn yn = false := by simp [fitB, hn]
          rw [hres]
          clear hres
          have hn2 : ((xn : Int) == yn) = false := by simpa using hn
          go_enter Try.func30, Try.ntmps30
          go_wp2_with (first | refine wl_loadW 37 (.tmp 2) rfl w.heap.size rfl 37 [.int .u32 xc, .bool xs, .int .i64 xn, .int .i64 xh] _ rfl HW.out.1 Try.underlying37 rfl info_lms ?_ | (go_at_call 29; refine (hL _).mono ?_))
          unfold OldIs
          rintro e w2 ⟨rfl, b2⟩
          have F2 : Shh (Row w2 w.heap.size 37 [.int .u32 xc, .bool xs, .int .i64 xn, .int .i64 xh] ∧ Row w2 (w.heap.size + 1) 39 [.int .u32 yc, .bool xs, .int .i64 yn, .int .i64 ywd, .int .i64 yp, .int .i64 yl] ∧ Below w.heap.size w w2) := ⟨HW.out.1.go b2, HW.out.2.1.go b2, Below.chain HW.out.2.2 b2⟩
          clear HW b2 hL
          go_wp2_with (first | refine wl_loadW 39 (.tmp 3) rfl (w.heap.size + 1) rfl 39 [.int .u32 yc, .bool xs, .int .i64 yn, .int .i64 ywd, .int .i64 yp, .int .i64 yl] _ rfl F2.out.2.1 Try.underlying39 rfl info_ots ?_ | (go_at_call 45; refine (hO _).mono ?_))
          unfold OldIs
          rintro e w3 ⟨rfl, b3⟩
          have F3 : Shh (Row w3 w.heap.size 37 [.int .u32 xc, .bool xs, .int .i64 xn, .int .i64 xh] ∧ Row w3 (w.heap.size + 1) 39 [.int .u32 yc, .bool xs, .int .i64 yn, .int .i64 ywd, .int .i64 yp, .int .i64 yl] ∧ Below w.heap.size w w3) := ⟨F2.out.1.go b3, F2.out.2.1.go b3, Below.chain F2.out.2.2 b3⟩
          clear F2 b3 hO
          have c1 : w3.cell? ⟨w.heap.size, 1, none⟩ = some (.bool xs) := F3.out.1.cell 1
          have c2 : w3.cell? ⟨w.heap.size, 2, none⟩ = some (.int .i64 xn) := F3.out.1.cell 2
          have c3 : w3.cell? ⟨w.heap.size + 1, 1, none⟩ = some (.bool xs) := F3.out.2.1.cell 1
          have c4 : w3.cell? ⟨w.heap.size + 1, 2, none⟩ = some (.int .i64 yn) := F3.out.2.1.cell 2
          go_wp2
          go_ret
          exact ⟨rfl, F3.out.2.2⟩
      · have hres : fitB true true xs ys xn yn = false := by cases xs <;> cases ys <;> simp [fitB] at hs ⊢
        rw [hres]
        clear hres
        have hs2 : (xs == ys) = false := by cases xs <;> cases ys <;> simp at hs ⊢
        go_enter Try.func30, Try.ntmps30
        go_wp2_with (first | refine wl_loadW 37 (.tmp 2) rfl w.heap.size rfl 37 [.int .u32 xc, .bool xs, .int .i64 xn, .int .i64 xh] _ rfl HW.out.1 Try.underlying37 rfl info_lms ?_ | (go_at_call 29; refine (hL _).mono ?_))
        unfold OldIs
        rintro e w2 ⟨rfl, b2⟩
        have F2 : Shh (Row w2 w.heap.size 37 [.int .u32 xc, .bool xs, .int .i64 xn, .int .i64 xh] ∧ Row w2 (w.heap.size + 1) 39 [.int .u32 yc, .bool ys, .int .i64 yn, .int .i64 ywd, .int .i64 yp, .int .i64 yl] ∧ Below w.heap.size w w2) := ⟨HW.out.1.go b2, HW.out.2.1.go b2, Below.chain HW.out.2.2 b2⟩
        clear HW b2 hL
        go_wp2_with (first | refine wl_loadW 39 (.tmp 3) rfl (w.heap.size + 1) rfl 39 [.int .u32 yc, .bool ys, .int .i64 yn, .int .i64 ywd, .int .i64 yp, .int .i64 yl] _ rfl F2.out.2.1 Try.underlying39 rfl info_ots ?_ | (go_at_call 45; refine (hO _).mono ?_))
        unfold OldIs
        rintro e w3 ⟨rfl, b3⟩
        have F3 : Shh (Row w3 w.heap.size 37 [.int .u32 xc, .bool xs, .int .i64 xn, .int .i64 xh] ∧ Row w3 (w.heap.size + 1) 39 [.int .u32 yc, .bool ys, .int .i64 yn, .int .i64 ywd, .int .i64 yp, .int .i64 yl] ∧ Below w.heap.size w w3) := ⟨F2.out.1.go b3, F2.out.2.1.go b3, Below.chain F2.out.2.2 b3⟩
        clear F2 b3 hO
        have c1 : w3.cell? ⟨w.heap.size, 1, none⟩ = some (.bool xs) := F3.out.1.cell 1
        have c2 : w3.cell? ⟨w.heap.size, 2, none⟩ = some (.int .i64 xn) := F3.out.1.cell 2
        have c3 : w3.cell? ⟨w.heap.size + 1, 1, none⟩ = some (.bool ys) := F3.out.2.1.cell 1
        have c4 : w3.cell? ⟨w.heap.size + 1, 2, none⟩ = some (.int .i64 yn) := F3.out.2.1.cell 2
        go_wp2
        go_ret
        exact ⟨rfl, F3.out.2.2⟩
theorem rFit_of (xc : Int) (xs : Bool) (xn xh : Int) (yc : Int) (ys : Bool) (yn ywd yp yl : Int) (bl bo : Bool) (hL : ∀ W, Calls Try.prog 34 #[.agg #[.int .u32 xc, .bool xs, .int .i64 xn, .int .i64 xh]] W (OldIs (.bool bl) W)) (hO : ∀ W, Calls Try.prog 44 #[.agg #[.int .u32 yc, .bool ys, .int .i64 yn, .int .i64 ywd, .int .i64 yp, .int .i64 yl]] W (OldIs (.bool bo) W)) (w : World) :
    Calls Try.prog 28 #[.agg #[.int .u32 xc, .bool xs, .int .i64 xn, .int .i64 xh], .agg #[.int .u32 yc, .bool ys, .int .i64 yn, .int .i64 ywd, .int .i64 yp, .int .i64 yl]] w (OldIs (.bool (fitB bl bo xs ys xn yn)) w) := by
  unfold OldIs
  obtain ⟨W, hW⟩ : ∃ W, W = (w.alloc (.cells #[.int .u32 xc, .bool xs, .int .i64 xn, .int .i64 xh] 37)).alloc (.cells #[.int .u32 yc, .bool ys, .int .i64 yn, .int .i64 ywd, .int .i64 yp, .int .i64 yl] 39) := ⟨_, rfl⟩
  have HW : Shh (Row W w.heap.size 37 [.int .u32 xc, .bool xs, .int .i64 xn, .int .i64 xh] ∧ Row W (w.heap.size + 1) 39 [.int .u32 yc, .bool ys, .int .i64 yn, .int .i64 ywd, .int .i64 yp, .int .i64 yl] ∧ Below w.heap.size w W) := by
    rw [hW]
    exact ⟨(Row.new_ rfl rfl).alloc _, Row.new_ (asz _ _).symm rfl, (Below.alloc (Below.refl _ _) (Nat.le_refl _) _).trans (Below.alloc (Below.refl _ _) (by simp only [asz]; omega) _)⟩
  rw [hW] at HW
  clear hW
  cases bl with
  | false =>
    have hres : fitB false bo xs ys xn yn = false := rfl
    rw [hres]
    clear hres hO
    go_enter Try.func28, Try.ntmps28
    go_wp2_with (first | refine wl_loadW 37 (.tmp 2) rfl w.heap.size rfl 37 [.int .u32 xc, .bool xs, .int .i64 xn, .int .i64 xh] _ rfl HW.out.1 Try.underlying37 rfl info_lms ?_ | (go_at_call 34; refine (hL _).mono ?_))
    unfold OldIs
    rintro e w2 ⟨rfl, b2⟩
    have F2 : Shh (Row w2 w.heap.size 37 [.int .u32 xc, .bool xs, .int .i64 xn, .int .i64 xh] ∧ Row w2 (w.heap.size + 1) 39 [.int .u32 yc, .bool ys, .int .i64 yn, .int .i64 ywd, .int .i64 yp, .int .i64 yl] ∧ Below w.heap.size w w2) := ⟨HW.out.1.go b2, HW.out.2.1.go b2, Below.chain HW.out.2.2 b2⟩
    clear HW b2 hL
    go_wp2
    go_ret
    exact ⟨rfl, F2.out.2.2⟩
  | true =>
    cases bo with
    | false =>
      have hres : fitB true false xs ys xn yn = false := rfl
      rw [hres]
      clear hres
      go_enter Try.func28, Try.ntmps28
      go_wp2_with (first | refine wl_loadW 37 (.tmp 2) rfl w.heap.size rfl 37 [.int .u32 xc, .bool xs, .int .i64 xn, .int .i64 xh] _ rfl HW.out.1 Try.underlying37 rfl info_lms ?_ | (go_at_call 34; refine (hL _).mono ?_))
      unfold OldIs
      rintro e w2 ⟨rfl, b2⟩
      have F2 : Shh (Row w2 w.heap.size 37 [.int .u32 xc, .bool xs, .int .i64 xn, .int .i64 xh] ∧ Row w2 (w.heap.size + 1) 39 [.int .u32 yc, .bool ys, .int .i64 yn, .int .i64 ywd, .int .i64 yp, .int .i64 yl] ∧ Below w.heap.size w w2) := ⟨HW.out.1.go b2, HW.out.2.1.go b2, Below.chain HW.out.2.2 b2⟩
      clear HW b2 hL
      go_wp2_with (first | refine wl_loadW 39 (.tmp 3) rfl (w.heap.size + 1) rfl 39 [.int .u32 yc, .bool ys, .int .i64 yn, .int .i64 ywd, .int .i64 yp, .int .i64 yl] _ rfl F2.out.2.1 Try.underlying39 rfl info_ots ?_ | (go_at_call 44; refine (hO _).mono ?_))
      unfold OldIs
      rintro e w3 ⟨rfl, b3⟩
      have F3 : Shh (Row w3 w.heap.size 37 [.int .u32 xc, .bool xs, .int .i64 xn, .int .i64 xh] ∧ Row w3 (w.heap.size + 1) 39 [.int .u32 yc, .bool ys, .int .i64 yn, .int .i64 ywd, .int .i64 yp, .int .i64 yl] ∧ Below w.heap.size w w3) := ⟨F2.out.1.go b3, F2.out.2.1.go b3, Below.chain F2.out.2.2 b3⟩
      clear F2 b3 hO
      go_wp2
      go_ret
      exact ⟨rfl, F3.out.2.2⟩
    | true =>
      by_cases hs : xs = ys
      · subst hs
        by_cases hn : xn = yn
        · subst hn
          have hres : fitB true true xs xs xn xn = true := by cases xs <;> simp [fitB]
          rw [hres]
          clear hres
          go_enter Try.func28, Try.ntmps28
          go_wp2_with (first | refine wl_loadW 37 (.tmp 2) rfl w.heap.size rfl 37 [.int .u32 xc, .bool xs, .int .i64 xn, .int .i64 xh] _ rfl HW.out.1 Try.underlying37 rfl info_lms ?_ | (go_at_call 34; refine (hL _).mono ?_))
          unfold OldIs
          rintro e w2 ⟨rfl, b2⟩
          have F2 : Shh (Row w2 w.heap.size 37 [.int .u32 xc, .bool xs, .int .i64 xn, .int .i64 xh] ∧ Row w2 (w.heap.size + 1) 39 [.int .u32 yc, .bool xs, .int .i64 xn, .int .i64 ywd, .int .i64 yp, .int .i64 yl] ∧ Below w.heap.size w w2) := ⟨HW.out.1.go b2, HW.out.2.1.go b2, Below.chain HW.out.2.2 b2⟩
          clear HW b2 hL
          go_wp2_with (first | refine wl_loadW 39 (.tmp 3) rfl (w.heap.size + 1) rfl 39 [.int .u32 yc, .bool xs, .int .i64 xn, .int .i64 ywd, .int .i64 yp, .int .i64 yl] _ rfl F2.out.2.1 Try.underlying39 rfl info_ots ?_ | (go_at_call 44; refine (hO _).mono ?_))
          unfold OldIs
          rintro e w3 ⟨rfl, b3⟩
          have F3 : Shh (Row w3 w.heap.size 37 [.int .u32 xc, .bool xs, .int .i64 xn, .int .i64 xh] ∧ Row w3 (w.heap.size + 1) 39 [.int .u32 yc, .bool xs, .int .i64 xn, .int .i64 ywd, .int .i64 yp, .int .i64 yl] ∧ Below w.heap.size w w3) := ⟨F2.out.1.go b3, F2.out.2.1.go b3, Below.chain F2.out.2.2 b3⟩
          clear F2 b3 hO
          have c1 : w3.cell? ⟨w.heap.size, 1, none⟩ = some (.bool xs) := F3.out.1.cell 1
          have c2 : w3.cell? ⟨w.heap.size, 2, none⟩ = some (.int .i64 xn) := F3.out.1.cell 2
          have c3 : w3.cell? ⟨w.heap.size + 1, 1, none⟩ = some (.bool xs) := F3.out.2.1.cell 1
          have c4 : w3.cell? ⟨w.heap.size + 1, 2, none⟩ = some (.int .i64 xn) := F3.out.2.1.cell 2
          go_wp2
          go_ret
          exact ⟨rfl, F3.out.2.2⟩
        · have hres : fitB true true xs xs xn yn = false := by simp [fitB, hn]
          rw [hres]
          clear hres
          have hn2 : ((xn : Int) == yn) = false := by simpa using hn
          go_enter Try.func28, Try.ntmps28
          go_wp2_with (first | refine wl_loadW 37 (.tmp 2) rfl w.heap.size rfl 37 [.int .u32 xc, .bool xs, .int .i64 xn, .int .i64 xh] _ rfl HW.out.1 Try.underlying37 rfl info_lms ?_ | (go_at_call 34; refine (hL _).mono ?_))
          unfold OldIs
          rintro e w2 ⟨rfl, b2⟩
          have F2 : Shh (Row w2 w.heap.size 37 [.int .u32 xc, .bool xs, .int .i64 xn, .int .i64 xh] ∧ Row w2 (w.heap.size + 1) 39 [.int .u32 yc, .bool xs, .int .i64 yn, .int .i64 ywd, .int .i64 yp, .int .i64 yl] ∧ Below w.heap.size w w2) := ⟨HW.out.1.go b2, HW.out.2.1.go b2, Below.chain HW.out.2.2 b2⟩
          clear HW b2 hL
          go_wp2_with (first | refine wl_loadW 39 (.tmp 3) rfl (w.heap.size + 1) rfl 39 [.int .u32 yc, .bool xs, .int .i64 yn, .int .i64 ywd, .int .i64 yp, .int .i64 yl] _ rfl F2.out.2.1 Try.underlying39 rfl info_ots ?_ | (go_at_call 44; refine (hO _).mono ?_))
          unfold OldIs
          rintro e w3 ⟨rfl, b3⟩
          have F3 : Shh (Row w3 w.heap.size 37 [.int .u32 xc, .bool xs, .int .i64 xn, .int .i64 xh] ∧ Row w3 (w.heap.size + 1) 39 [.int .u32 yc, .bool xs, .int .i64 yn, .int .i64 ywd, .int .i64 yp, .int .i64 yl] ∧ Below w.heap.size w w3) := ⟨F2.out.1.go b3, F2.out.2.1.go b3, Below.chain F2.out.2.2 b3⟩
          clear F2 b3 hO
          have c1 : w3.cell? ⟨w.heap.size, 1, none⟩ = some (.bool xs) := F3.out.1.cell 1
          have c2 : w3.cell? ⟨w.heap.size, 2, none⟩ = some (.int .i64 xn) := F3.out.1.cell 2
          have c3 : w3.cell? ⟨w.heap.size + 1, 1, none⟩ = some (.bool xs) := F3.out.2.1.cell 1
          have c4 : w3.cell? ⟨w.heap.size + 1, 2, none⟩ = some (.int .i64 yn) := F3.out.2.1.cell 2
          go_wp2
          go_ret
          exact ⟨rfl, F3.out.2.2⟩
      · have hres : fitB true true xs ys xn yn = false := by cases xs <;> cases ys <;> simp [fitB] at hs ⊢
        rw [hres]
        clear hres
        have hs2 : (xs == ys) = false := by cases xs <;> cases ys <;> simp at hs ⊢
        go_enter Try.func28, Try.ntmps28
        go_wp2_with (first | refine wl_loadW 37 (.tmp 2) rfl w.heap.size rfl 37 [.int .u32 xc, .bool xs, .int .i64 xn, .int .i64 xh] _ rfl HW.out.1 Try.underlying37 rfl info_lms ?_ | (go_at_call 34; refine (hL _).mono ?_))
        unfold OldIs
        rintro e w2 ⟨rfl, b2⟩
        have F2 : Shh (Row w2 w.heap.size 37 [.int .u32 xc, .bool xs, .int .i64 xn, .int .i64 xh] ∧ Row w2 (w.heap.size + 1) 39 [.int .u32 yc, .bool ys, .int .i64 yn, .int .i64 ywd, .int .i64 yp, .int .i64 yl] ∧ Below w.heap.size w w2) := ⟨HW.out.1.go b2, HW.out.2.1.go b2, Below.chain HW.out.2.2 b2⟩
        clear HW b2 hL
        go_wp2_with (first | refine wl_loadW 39 (.tmp 3) rfl (w.heap.size + 1) rfl 39 [.int .u32 yc, .bool ys, .int .i64 yn, .int .i64 ywd, .int .i64 yp, .int .i64 yl] _ rfl F2.out.2.1 Try.underlying39 rfl info_ots ?_ | (go_at_call 44; refine (hO _).mono ?_))
        unfold OldIs
        rintro e w3 ⟨rfl, b3⟩
        have F3 : Shh (Row w3 w.heap.size 37 [.int .u32 xc, .bool xs, .int .i64 xn, .int .i64 xh] ∧ Row w3 (w.heap.size + 1) 39 [.int .u32 yc, .bool ys, .int .i64 yn, .int .i64 ywd, .int .i64 yp, .int .i64 yl] ∧ Below w.heap.size w w3) := ⟨F2.out.1.go b3, F2.out.2.1.go b3, Below.chain F2.out.2.2 b3⟩
        clear F2 b3 hO
        have c1 : w3.cell? ⟨w.heap.size, 1, none⟩ = some (.bool xs) := F3.out.1.cell 1
        have c2 : w3.cell? ⟨w.heap.size, 2, none⟩ = some (.int .i64 xn) := F3.out.1.cell 2
        have c3 : w3.cell? ⟨w.heap.size + 1, 1, none⟩ = some (.bool ys) := F3.out.2.1.cell 1
        have c4 : w3.cell? ⟨w.heap.size + 1, 2, none⟩ = some (.int .i64 yn) := F3.out.2.1.cell 2
        go_wp2
        go_ret
        exact ⟨rfl, F3.out.2.2⟩
theorem pOtsLen_of (xc : Int) (xs : Bool) (xn xwd xp xl : Int) (b : Bool) (hB : ∀ W, Calls Try.prog 45 #[.agg #[.int .u32 xc, .bool xs, .int .i64 xn, .int .i64 xwd, .int .i64 xp, .int .i64 xl]] W (OldIs (.bool b) W)) (w : World) :
    Calls Try.prog 31 #[.agg #[.int .u32 xc, .bool xs, .int .i64 xn, .int .i64 xwd, .int .i64 xp, .int .i64 xl]] w (OldIs (.int .i64 (otsLn b xn xp)) w) := by
  unfold OldIs
  have HW : Shh (Row (w.alloc (.cells #[.int .u32 xc, .bool xs, .int .i64 xn, .int .i64 xwd, .int .i64 xp, .int .i64 xl] 39)) w.heap.size 39 [.int .u32 xc, .bool xs, .int .i64 xn, .int .i64 xwd, .int .i64 xp, .int .i64 xl] ∧ Below w.heap.size w (w.alloc (.cells #[.int .u32 xc, .bool xs, .int .i64 xn, .int .i64 xwd, .int .i64 xp, .int .i64 xl] 39))) := ⟨Row.new_ rfl rfl, Below.alloc (Below.refl _ _) (Nat.le_refl _) _⟩
  unfold otsLn
  cases b with
  | false =>
    rw [if_neg (by decide)]
    go_enter Try.func31, Try.ntmps31
    go_wp2_with (first | refine wl_loadW 39 (.tmp 1) rfl w.heap.size rfl 39 [.int .u32 xc, .bool xs, .int .i64 xn, .int .i64 xwd, .int .i64 xp, .int .i64 xl] _ rfl HW.out.1 Try.underlying39 rfl info_ots ?_ | (go_at_call 45; refine (hB _).mono ?_))
    unfold OldIs
    rintro e w2 ⟨rfl, b2⟩
    have F2 : Shh (Row w2 w.heap.size 39 [.int .u32 xc, .bool xs, .int .i64 xn, .int .i64 xwd, .int .i64 xp, .int .i64 xl] ∧ Below w.heap.size w w2) := ⟨HW.out.1.go b2, Below.chain HW.out.2 b2⟩
    clear HW b2 hB
    go_wp2
    go_ret
    exact ⟨rfl, F2.out.2⟩
  | true =>
    rw [if_pos rfl]
    go_enter Try.func31, Try.ntmps31
    go_wp2_with (first | refine wl_loadW 39 (.tmp 1) rfl w.heap.size rfl 39 [.int .u32 xc, .bool xs, .int .i64 xn, .int .i64 xwd, .int .i64 xp, .int .i64 xl] _ rfl HW.out.1 Try.underlying39 rfl info_ots ?_ | (go_at_call 45; refine (hB _).mono ?_))
    unfold OldIs
    rintro e w2 ⟨rfl, b2⟩
    have F2 : Shh (Row w2 w.heap.size 39 [.int .u32 xc, .bool xs, .int .i64 xn, .int .i64 xwd, .int .i64 xp, .int .i64 xl] ∧ Below w.heap.size w w2) := ⟨HW.out.1.go b2, Below.chain HW.out.2 b2⟩
    clear HW b2 hB
    have c2 : w2.cell? ⟨w.heap.size, 2, none⟩ = some (.int .i64 xn) := F2.out.1.cell 2
    have c4 : w2.cell? ⟨w.heap.size, 4, none⟩ = some (.int .i64 xp) := F2.out.1.cell 4
    go_wp2
    go_ret
    exact ⟨rfl, F2.out.2⟩
theorem rOtsLen_of (xc : Int) (xs : Bool) (xn xwd xp xl : Int) (b : Bool) (hB : ∀ W, Calls Try.prog 44 #[.agg #[.int .u32 xc, .bool xs, .int .i64 xn, .int .i64 xwd, .int .i64 xp, .int .i64 xl]] W (OldIs (.bool b) W)) (w : World) :
    Calls Try.prog 33 #[.agg #[.int .u32 xc, .bool xs, .int .i64 xn, .int .i64 xwd, .int .i64 xp, .int .i64 xl]] w (OldIs (.int .i64 (otsLn b xn xp)) w) := by
  unfold OldIs
  have HW : Shh (Row (w.alloc (.cells #[.int .u32 xc, .bool xs, .int .i64 xn, .int .i64 xwd, .int .i64 xp, .int .i64 xl] 39)) w.heap.size 39 [.int .u32 xc, .bool xs, .int .i64 xn, .int .i64 xwd, .int .i64 xp, .int .i64 xl] ∧ Below w.heap.size w (w.alloc (.cells #[.int .u32 xc, .bool xs, .int .i64 xn, .int .i64 xwd, .int .i64 xp, .int .i64 xl] 39))) := ⟨Row.new_ rfl rfl, Below.alloc (Below.refl _ _) (Nat.le_refl _) _⟩
  unfold otsLn
  cases b with
  | false =>
    rw [if_neg (by decide)]
    go_enter Try.func33, Try.ntmps33
    go_wp2_with (first | refine wl_loadW 39 (.tmp 1) rfl w.heap.size rfl 39 [.int .u32 xc, .bool xs, .int .i64 xn, .int .i64 xwd, .int .i64 xp, .int .i64 xl] _ rfl HW.out.1 Try.underlying39 rfl info_ots ?_ | (go_at_call 44; refine (hB _).mono ?_))
    unfold OldIs
    rintro e w2 ⟨rfl, b2⟩
    have F2 : Shh (Row w2 w.heap.size 39 [.int .u32 xc, .bool xs, .int .i64 xn, .int .i64 xwd, .int .i64 xp, .int .i64 xl] ∧ Below w.heap.size w w2) := ⟨HW.out.1.go b2, Below.chain HW.out.2 b2⟩
    clear HW b2 hB
    go_wp2
    go_ret
    exact ⟨rfl, F2.out.2⟩
  | true =>
    rw [if_pos rfl]
    go_enter Try.func33, Try.ntmps33
    go_wp2_with (first | refine wl_loadW 39 (.tmp 1) rfl w.heap.size rfl 39 [.int .u32 xc, .bool xs, .int .i64 xn, .int .i64 xwd, .int .i64 xp, .int .i64 xl] _ rfl HW.out.1 Try.underlying39 rfl info_ots ?_ | (go_at_call 44; refine (hB _).mono ?_))
    unfold OldIs
    rintro e w2 ⟨rfl, b2⟩
    have F2 : Shh (Row w2 w.heap.size 39 [.int .u32 xc, .bool xs, .int .i64 xn, .int .i64 xwd, .int .i64 xp, .int .i64 xl] ∧ Below w.heap.size w w2) := ⟨HW.out.1.go b2, Below.chain HW.out.2 b2⟩
    clear HW b2 hB
    have c2 : w2.cell? ⟨w.heap.size, 2, none⟩ = some (.int .i64 xn) := F2.out.1.cell 2
    have c4 : w2.cell? ⟨w.heap.size, 4, none⟩ = some (.int .i64 xp) := F2.out.1.cell 4
    go_wp2
    go_ret
    exact ⟨rfl, F2.out.2⟩
theorem pLmsPub_of (xc : Int) (xs : Bool) (xn xh : Int) (b : Bool) (hB : ∀ W, Calls Try.prog 29 #[.agg #[.int .u32 xc, .bool xs, .int .i64 xn, .int .i64 xh]] W (OldIs (.bool b) W)) (w : World) :
    Calls Try.prog 17 #[.agg #[.int .u32 xc, .bool xs, .int .i64 xn, .int .i64 xh]] w (OldIs (.int .i64 (lmsPb b xn)) w) := by
  unfold OldIs
  have HW : Shh (Row (w.alloc (.cells #[.int .u32 xc, .bool xs, .int .i64 xn, .int .i64 xh] 37)) w.heap.size 37 [.int .u32 xc, .bool xs, .int .i64 xn, .int .i64 xh] ∧ Below w.heap.size w (w.alloc (.cells #[.int .u32 xc, .bool xs, .int .i64 xn, .int .i64 xh] 37))) := ⟨Row.new_ rfl rfl, Below.alloc (Below.refl _ _) (Nat.le_refl _) _⟩
  unfold lmsPb
  cases b with
  | false =>
    rw [if_neg (by decide)]
    go_enter Try.func17, Try.ntmps17
    go_wp2_with (first | refine wl_loadW 37 (.tmp 1) rfl w.heap.size rfl 37 [.int .u32 xc, .bool xs, .int .i64 xn, .int .i64 xh] _ rfl HW.out.1 Try.underlying37 rfl info_lms ?_ | (go_at_call 29; refine (hB _).mono ?_))
    unfold OldIs
    rintro e w2 ⟨rfl, b2⟩
    have F2 : Shh (Row w2 w.heap.size 37 [.int .u32 xc, .bool xs, .int .i64 xn, .int .i64 xh] ∧ Below w.heap.size w w2) := ⟨HW.out.1.go b2, Below.chain HW.out.2 b2⟩
    clear HW b2 hB
    go_wp2
    go_ret
    exact ⟨rfl, F2.out.2⟩
  | true =>
    rw [if_pos rfl]
    go_enter Try.func17, Try.ntmps17
    go_wp2_with (first | refine wl_loadW 37 (.tmp 1) rfl w.heap.size rfl 37 [.int .u32 xc, .bool xs, .int .i64 xn, .int .i64 xh] _ rfl HW.out.1 Try.underlying37 rfl info_lms ?_ | (go_at_call 29; refine (hB _).mono ?_))
    unfold OldIs
    rintro e w2 ⟨rfl, b2⟩
    have F2 : Shh (Row w2 w.heap.size 37 [.int .u32 xc, .bool xs, .int .i64 xn, .int .i64 xh] ∧ Below w.heap.size w w2) := ⟨HW.out.1.go b2, Below.chain HW.out.2 b2⟩
    clear HW b2 hB
    have c2 : w2.cell? ⟨w.heap.size, 2, none⟩ = some (.int .i64 xn) := F2.out.1.cell 2
    go_wp2
    go_ret
    exact ⟨rfl, F2.out.2⟩
theorem rLmsPub_of (xc : Int) (xs : Bool) (xn xh : Int) (b : Bool) (hB : ∀ W, Calls Try.prog 34 #[.agg #[.int .u32 xc, .bool xs, .int .i64 xn, .int .i64 xh]] W (OldIs (.bool b) W)) (w : World) :
    Calls Try.prog 21 #[.agg #[.int .u32 xc, .bool xs, .int .i64 xn, .int .i64 xh]] w (OldIs (.int .i64 (lmsPb b xn)) w) := by
  unfold OldIs
  have HW : Shh (Row (w.alloc (.cells #[.int .u32 xc, .bool xs, .int .i64 xn, .int .i64 xh] 37)) w.heap.size 37 [.int .u32 xc, .bool xs, .int .i64 xn, .int .i64 xh] ∧ Below w.heap.size w (w.alloc (.cells #[.int .u32 xc, .bool xs, .int .i64 xn, .int .i64 xh] 37))) := ⟨Row.new_ rfl rfl, Below.alloc (Below.refl _ _) (Nat.le_refl _) _⟩
  unfold lmsPb
  cases b with
  | false =>
    rw [if_neg (by decide)]
    go_enter Try.func21, Try.ntmps21
    go_wp2_with (first | refine wl_loadW 37 (.tmp 1) rfl w.heap.size rfl 37 [.int .u32 xc, .bool xs, .int .i64 xn, .int .i64 xh] _ rfl HW.out.1 Try.underlying37 rfl info_lms ?_ | (go_at_call 34; refine (hB _).mono ?_))
    unfold OldIs
    rintro e w2 ⟨rfl, b2⟩
    have F2 : Shh (Row w2 w.heap.size 37 [.int .u32 xc, .bool xs, .int .i64 xn, .int .i64 xh] ∧ Below w.heap.size w w2) := ⟨HW.out.1.go b2, Below.chain HW.out.2 b2⟩
    clear HW b2 hB
    go_wp2
    go_ret
    exact ⟨rfl, F2.out.2⟩
  | true =>
    rw [if_pos rfl]
    go_enter Try.func21, Try.ntmps21
    go_wp2_with (first | refine wl_loadW 37 (.tmp 1) rfl w.heap.size rfl 37 [.int .u32 xc, .bool xs, .int .i64 xn, .int .i64 xh] _ rfl HW.out.1 Try.underlying37 rfl info_lms ?_ | (go_at_call 34; refine (hB _).mono ?_))
    unfold OldIs
    rintro e w2 ⟨rfl, b2⟩
    have F2 : Shh (Row w2 w.heap.size 37 [.int .u32 xc, .bool xs, .int .i64 xn, .int .i64 xh] ∧ Below w.heap.size w w2) := ⟨HW.out.1.go b2, Below.chain HW.out.2 b2⟩
    clear HW b2 hB
    have c2 : w2.cell? ⟨w.heap.size, 2, none⟩ = some (.int .i64 xn) := F2.out.1.cell 2
    go_wp2
    go_ret
    exact ⟨rfl, F2.out.2⟩
set_option maxHeartbeats 1000000 in
theorem pLmsLen_of (xc : Int) (xs : Bool) (xn xh : Int) (yc : Int) (ys : Bool) (yn ywd yp yl : Int) (b : Bool) (ol : Int) (hB : ∀ W, Calls Try.prog 30 #[.agg #[.int .u32 xc, .bool xs, .int .i64 xn, .int .i64 xh], .agg #[.int .u32 yc, .bool ys, .int .i64 yn, .int .i64 ywd, .int .i64 yp, .int .i64 yl]] W (OldIs (.bool b) W)) (hO : ∀ W, Calls Try.prog 31 #[.agg #[.int .u32 yc, .bool ys, .int .i64 yn, .int .i64 ywd, .int .i64 yp, .int .i64 yl]] W (OldIs (.int .i64 ol) W)) (w : World) :
    Calls Try.prog 18 #[.agg #[.int .u32 xc, .bool xs, .int .i64 xn, .int .i64 xh], .agg #[.int .u32 yc, .bool ys, .int .i64 yn, .int .i64 ywd, .int .i64 yp, .int .i64 yl]] w (OldIs (.int .i64 (lmsLn b ol xn xh)) w) := by
  unfold OldIs
  obtain ⟨W, hW⟩ : ∃ W, W = (w.alloc (.cells #[.int .u32 xc, .bool xs, .int .i64 xn, .int .i64 xh] 37)).alloc (.cells #[.int .u32 yc, .bool ys, .int .i64 yn, .int .i64 ywd, .int .i64 yp, .int .i64 yl] 39) := ⟨_, rfl⟩
  have HW : Shh (Row W w.heap.size 37 [.int .u32 xc, .bool xs, .int .i64 xn, .int .i64 xh] ∧ Row W (w.heap.size + 1) 39 [.int .u32 yc, .bool ys, .int .i64 yn, .int .i64 ywd, .int .i64 yp, .int .i64 yl] ∧ Below w.heap.size w W) := by
    rw [hW]
    exact ⟨(Row.new_ rfl rfl).alloc _, Row.new_ (asz _ _).symm rfl, (Below.alloc (Below.refl _ _) (Nat.le_refl _) _).trans (Below.alloc (Below.refl _ _) (by simp only [asz]; omega) _)⟩
  rw [hW] at HW
  clear hW
  unfold lmsLn
  cases b with
  | false =>
    rw [if_neg (by decide)]
    clear hO
    go_enter Try.func18, Try.ntmps18
    go_wp2_with (first | refine wl_loadW 37 (.tmp 2) rfl w.heap.size rfl 37 [.int .u32 xc, .bool xs, .int .i64 xn, .int .i64 xh] _ rfl HW.out.1 Try.underlying37 rfl info_lms ?_ | refine wl_loadW 39 (.tmp 3) rfl (w.heap.size + 1) rfl 39 [.int .u32 yc, .bool ys, .int .i64 yn, .int .i64 ywd, .int .i64 yp, .int .i64 yl] _ rfl HW.out.2.1 Try.underlying39 rfl info_ots ?_ | (go_at_call 30; refine (hB _).mono ?_))
    unfold OldIs
    rintro e w2 ⟨rfl, b2⟩
    have F2 : Shh (Below w.heap.size w w2) := ⟨Below.chain HW.out.2.2 b2⟩
    clear HW b2 hB
    go_wp2
    go_ret
    exact ⟨rfl, F2.out⟩
  | true =>
    rw [if_pos rfl, ← lms_sum]
    go_enter Try.func18, Try.ntmps18
    go_wp2_with (first | refine wl_loadW 37 (.tmp 2) rfl w.heap.size rfl 37 [.int .u32 xc, .bool xs, .int .i64 xn, .int .i64 xh] _ rfl HW.out.1 Try.underlying37 rfl info_lms ?_ | refine wl_loadW 39 (.tmp 3) rfl (w.heap.size + 1) rfl 39 [.int .u32 yc, .bool ys, .int .i64 yn, .int .i64 ywd, .int .i64 yp, .int .i64 yl] _ rfl HW.out.2.1 Try.underlying39 rfl info_ots ?_ | (go_at_call 30; refine (hB _).mono ?_))
    unfold OldIs
    rintro e w2 ⟨rfl, b2⟩
    have F2 : Shh (Row w2 w.heap.size 37 [.int .u32 xc, .bool xs, .int .i64 xn, .int .i64 xh] ∧ Row w2 (w.heap.size + 1) 39 [.int .u32 yc, .bool ys, .int .i64 yn, .int .i64 ywd, .int .i64 yp, .int .i64 yl] ∧ Below w.heap.size w w2) := ⟨HW.out.1.go b2, HW.out.2.1.go b2, Below.chain HW.out.2.2 b2⟩
    clear HW b2 hB
    go_wp2
    refine wp_region_held_drew (S := fun w' => Row w' w.heap.size 37 [.int .u32 xc, .bool xs, .int .i64 xn, .int .i64 xh] ∧ Row w' (w.heap.size + 1) 39 [.int .u32 yc, .bool ys, .int .i64 yn, .int .i64 ywd, .int .i64 yp, .int .i64 yl]) (by kernel_rfl) ⟨F2.out.1.drew, F2.out.2.1.drew⟩ (fun hS => ?_)
    clear hS
    generalize hV : World.drew _ = V
    have rL : Row V w.heap.size 37 [.int .u32 xc, .bool xs, .int .i64 xn, .int .i64 xh] := by rw [← hV]; exact F2.out.1.drew
    have rO : Row V (w.heap.size + 1) 39 [.int .u32 yc, .bool ys, .int .i64 yn, .int .i64 ywd, .int .i64 yp, .int .i64 yl] := by rw [← hV]; exact F2.out.2.1.drew
    have rO0 := rO
    have F3 : Shh (Below w.heap.size w V) := ⟨by rw [← hV]; exact F2.out.2.2.drew⟩
    clear F2 hV
    unfold OldIs at hO
    refine held_value 4 _ _ (some 13) (.pointer (some ⟨w.heap.size, 3, none⟩)) (by kernel_rfl) (by rfl) (by kernel_rfl) (fun u hS => by first | kernel_rfl | go_simp) (fun _ _ _ _ h => h) (⟨rL, rO⟩) ?_
    simp only [Act.put, List.setIfInBounds_toArray, List.set_cons_zero, List.set_cons_succ]
    refine held_value 5 _ _ (some 14) (.int .i64 xh) (by kernel_rfl) (by rfl) (by kernel_rfl) (fun u hS => by have h2 : u.cell? ⟨w.heap.size, 3, none⟩ = some (.int .i64 xh) := hS.1.cell 3; go_simp) (fun _ _ _ _ h => h) (⟨rL, rO⟩) ?_
    simp only [Act.put, List.setIfInBounds_toArray, List.set_cons_zero, List.set_cons_succ]
    refine held_value 6 _ _ (some 15) (.pointer (some ⟨w.heap.size, 2, none⟩)) (by kernel_rfl) (by rfl) (by kernel_rfl) (fun u hS => by first | kernel_rfl | go_simp) (fun _ _ _ _ h => h) (⟨rL, rO⟩) ?_
    simp only [Act.put, List.setIfInBounds_toArray, List.set_cons_zero, List.set_cons_succ]
    refine held_value 7 _ _ (some 16) (.int .i64 xn) (by kernel_rfl) (by rfl) (by kernel_rfl) (fun u hS => by have h2 : u.cell? ⟨w.heap.size, 2, none⟩ = some (.int .i64 xn) := hS.1.cell 2; go_simp) (fun _ _ _ _ h => h) (⟨rL, rO⟩) ?_
    simp only [Act.put, List.setIfInBounds_toArray, List.set_cons_zero, List.set_cons_succ]
    refine held_value 8 _ _ (some 17) (.int .i64 (wrap64 (xh * xn))) (by kernel_rfl) (by rfl) (by kernel_rfl) (fun u hS => by go_simp <;> simp only [IntKind.wrap_i64, wrap64]) (fun _ _ _ _ h => h) (⟨rL, rO⟩) ?_
    simp only [Act.put, List.setIfInBounds_toArray, List.set_cons_zero, List.set_cons_succ]
    refine held_load 0 39 (.tmp 3) (some 9) (by kernel_rfl) (by rfl) (by kernel_rfl) (w.heap.size + 1) 0 (by kernel_rfl) ([.int .u32 yc, .bool ys, .int .i64 yn, .int .i64 ywd, .int .i64 yp, .int .i64 yl]) _ (fun _ h => h.2.range) Try.underlying39 rfl (info_ots) (fun _ _ _ _ h => h) (⟨rL, rO⟩) ?_
    simp only [Act.put, List.setIfInBounds_toArray, List.set_cons_zero, List.set_cons_succ]
    refine held_one 1 (by kernel_rfl) ?_
    refine step_call 1 _ _ (some 10) 31 #[.agg #[.int .u32 yc, .bool ys, .int .i64 yn, .int .i64 ywd, .int .i64 yp, .int .i64 yl]] (by rfl) (by kernel_rfl) (by first | kernel_rfl | go_simp) ?_
    refine (hO _).mono ?_
    rintro e Y1 ⟨rfl, by2⟩
    have bx : Below V.heap.size V Y1 := by2
    have b_V := bx
    have m_Y1 : V.heap.size ≤ Y1.heap.size := bx.size
    clear bx
    refine ⟨_, rfl, ⟨(rL.go b_V), (rO.go b_V)⟩, ?_⟩
    simp only [Act.put, List.setIfInBounds_toArray, List.set_cons_zero, List.set_cons_succ]
    refine held_value 2 _ _ (some 11) (.int .i64 (wrap64 (4 + ol))) (by kernel_rfl) (by rfl) (by kernel_rfl) (fun u hS => by go_simp <;> simp only [IntKind.wrap_i64, wrap64]) (fun _ _ _ _ h => h) (⟨(rL.go b_V), (rO.go b_V)⟩) ?_
    simp only [Act.put, List.setIfInBounds_toArray, List.set_cons_zero, List.set_cons_succ]
    refine held_value 3 _ _ (some 12) (.int .i64 (wrap64 (wrap64 (4 + ol) + 4))) (by kernel_rfl) (by rfl) (by kernel_rfl) (fun u hS => by go_simp <;> simp only [IntKind.wrap_i64, wrap64]) (fun _ _ _ _ h => h) (⟨(rL.go b_V), (rO.go b_V)⟩) ?_
    simp only [Act.put, List.setIfInBounds_toArray, List.set_cons_zero, List.set_cons_succ]
    refine held_value 9 _ _ (some 18) (.int .i64 (wrap64 (wrap64 (wrap64 (4 + ol) + 4) + wrap64 (xh * xn)))) (by kernel_rfl) (by rfl) (by kernel_rfl) (fun u hS => by go_simp <;> simp only [IntKind.wrap_i64, wrap64]) (fun _ _ _ _ h => h) (⟨(rL.go b_V), (rO.go b_V)⟩) ?_
    simp only [Act.put, List.setIfInBounds_toArray, List.set_cons_zero, List.set_cons_succ]
    refine held_value 10 _ _ (some 4) (.int .i64 (wrap64 (wrap64 (wrap64 (4 + ol) + 4) + wrap64 (xh * xn)))) (by kernel_rfl) (by rfl) (by kernel_rfl) (fun u hS => by first | kernel_rfl | go_simp) (fun _ _ _ _ h => h) (⟨(rL.go b_V), (rO.go b_V)⟩) ?_
    simp only [Act.put, List.setIfInBounds_toArray, List.set_cons_zero, List.set_cons_succ]
    refine wpAnyH_done (by kernel_rfl) ?_ _
    go_wp2
    go_ret
    exact ⟨rfl, F3.out.trans (by2.mono (Nat.le_of_lt (Nat.lt_of_lt_of_le (Nat.lt_succ_self _) (Nat.le_of_lt rO0.lt))))⟩
set_option maxHeartbeats 1000000 in
theorem rLmsLen_of (xc : Int) (xs : Bool) (xn xh : Int) (yc : Int) (ys : Bool) (yn ywd yp yl : Int) (b : Bool) (ol : Int) (hB : ∀ W, Calls Try.prog 28 #[.agg #[.int .u32 xc, .bool xs, .int .i64 xn, .int .i64 xh], .agg #[.int .u32 yc, .bool ys, .int .i64 yn, .int .i64 ywd, .int .i64 yp, .int .i64 yl]] W (OldIs (.bool b) W)) (hO : ∀ W, Calls Try.prog 33 #[.agg #[.int .u32 yc, .bool ys, .int .i64 yn, .int .i64 ywd, .int .i64 yp, .int .i64 yl]] W (OldIs (.int .i64 ol) W)) (w : World) :
    Calls Try.prog 20 #[.agg #[.int .u32 xc, .bool xs, .int .i64 xn, .int .i64 xh], .agg #[.int .u32 yc, .bool ys, .int .i64 yn, .int .i64 ywd, .int .i64 yp, .int .i64 yl]] w (OldIs (.int .i64 (lmsLn b ol xn xh)) w) := by
  unfold OldIs
  obtain ⟨W, hW⟩ : ∃ W, W = (w.alloc (.cells #[.int .u32 xc, .bool xs, .int .i64 xn, .int .i64 xh] 37)).alloc (.cells #[.int .u32 yc, .bool ys, .int .i64 yn, .int .i64 ywd, .int .i64 yp, .int .i64 yl] 39) := ⟨_, rfl⟩
  have HW : Shh (Row W w.heap.size 37 [.int .u32 xc, .bool xs, .int .i64 xn, .int .i64 xh] ∧ Row W (w.heap.size + 1) 39 [.int .u32 yc, .bool ys, .int .i64 yn, .int .i64 ywd, .int .i64 yp, .int .i64 yl] ∧ Below w.heap.size w W) := by
    rw [hW]
    exact ⟨(Row.new_ rfl rfl).alloc _, Row.new_ (asz _ _).symm rfl, (Below.alloc (Below.refl _ _) (Nat.le_refl _) _).trans (Below.alloc (Below.refl _ _) (by simp only [asz]; omega) _)⟩
  rw [hW] at HW
  clear hW
  unfold lmsLn
  cases b with
  | false =>
    rw [if_neg (by decide)]
    clear hO
    go_enter Try.func20, Try.ntmps20
    go_wp2_with (first | refine wl_loadW 37 (.tmp 2) rfl w.heap.size rfl 37 [.int .u32 xc, .bool xs, .int .i64 xn, .int .i64 xh] _ rfl HW.out.1 Try.underlying37 rfl info_lms ?_ | refine wl_loadW 39 (.tmp 3) rfl (w.heap.size + 1) rfl 39 [.int .u32 yc, .bool ys, .int .i64 yn, .int .i64 ywd, .int .i64 yp, .int .i64 yl] _ rfl HW.out.2.1 Try.underlying39 rfl info_ots ?_ | (go_at_call 28; refine (hB _).mono ?_))
    unfold OldIs
    rintro e w2 ⟨rfl, b2⟩
    have F2 : Shh (Below w.heap.size w w2) := ⟨Below.chain HW.out.2.2 b2⟩
    clear HW b2 hB
    go_wp2
    go_ret
    exact ⟨rfl, F2.out⟩
  | true =>
    rw [if_pos rfl]
    go_enter Try.func20, Try.ntmps20
    go_wp2_with (first | refine wl_loadW 37 (.tmp 2) rfl w.heap.size rfl 37 [.int .u32 xc, .bool xs, .int .i64 xn, .int .i64 xh] _ rfl HW.out.1 Try.underlying37 rfl info_lms ?_ | refine wl_loadW 39 (.tmp 3) rfl (w.heap.size + 1) rfl 39 [.int .u32 yc, .bool ys, .int .i64 yn, .int .i64 ywd, .int .i64 yp, .int .i64 yl] _ rfl HW.out.2.1 Try.underlying39 rfl info_ots ?_ | (go_at_call 28; refine (hB _).mono ?_))
    unfold OldIs
    rintro e w2 ⟨rfl, b2⟩
    have F2 : Shh (Row w2 w.heap.size 37 [.int .u32 xc, .bool xs, .int .i64 xn, .int .i64 xh] ∧ Row w2 (w.heap.size + 1) 39 [.int .u32 yc, .bool ys, .int .i64 yn, .int .i64 ywd, .int .i64 yp, .int .i64 yl] ∧ Below w.heap.size w w2) := ⟨HW.out.1.go b2, HW.out.2.1.go b2, Below.chain HW.out.2.2 b2⟩
    clear HW b2 hB
    go_wp2
    refine wp_region_held_drew (S := fun w' => Row w' w.heap.size 37 [.int .u32 xc, .bool xs, .int .i64 xn, .int .i64 xh] ∧ Row w' (w.heap.size + 1) 39 [.int .u32 yc, .bool ys, .int .i64 yn, .int .i64 ywd, .int .i64 yp, .int .i64 yl]) (by kernel_rfl) ⟨F2.out.1.drew, F2.out.2.1.drew⟩ (fun hS => ?_)
    clear hS
    generalize hV : World.drew _ = V
    have rL : Row V w.heap.size 37 [.int .u32 xc, .bool xs, .int .i64 xn, .int .i64 xh] := by rw [← hV]; exact F2.out.1.drew
    have rO : Row V (w.heap.size + 1) 39 [.int .u32 yc, .bool ys, .int .i64 yn, .int .i64 ywd, .int .i64 yp, .int .i64 yl] := by rw [← hV]; exact F2.out.2.1.drew
    have rO0 := rO
    have F3 : Shh (Below w.heap.size w V) := ⟨by rw [← hV]; exact F2.out.2.2.drew⟩
    clear F2 hV
    unfold OldIs at hO
    refine held_value 3 _ _ (some 12) (.pointer (some ⟨w.heap.size, 3, none⟩)) (by kernel_rfl) (by rfl) (by kernel_rfl) (fun u hS => by first | kernel_rfl | go_simp) (fun _ _ _ _ h => h) (⟨rL, rO⟩) ?_
    simp only [Act.put, List.setIfInBounds_toArray, List.set_cons_zero, List.set_cons_succ]
    refine held_value 4 _ _ (some 13) (.int .i64 xh) (by kernel_rfl) (by rfl) (by kernel_rfl) (fun u hS => by have h2 : u.cell? ⟨w.heap.size, 3, none⟩ = some (.int .i64 xh) := hS.1.cell 3; go_simp) (fun _ _ _ _ h => h) (⟨rL, rO⟩) ?_
    simp only [Act.put, List.setIfInBounds_toArray, List.set_cons_zero, List.set_cons_succ]
    refine held_value 5 _ _ (some 14) (.pointer (some ⟨w.heap.size, 2, none⟩)) (by kernel_rfl) (by rfl) (by kernel_rfl) (fun u hS => by first | kernel_rfl | go_simp) (fun _ _ _ _ h => h) (⟨rL, rO⟩) ?_
    simp only [Act.put, List.setIfInBounds_toArray, List.set_cons_zero, List.set_cons_succ]
    refine held_value 6 _ _ (some 15) (.int .i64 xn) (by kernel_rfl) (by rfl) (by kernel_rfl) (fun u hS => by have h2 : u.cell? ⟨w.heap.size, 2, none⟩ = some (.int .i64 xn) := hS.1.cell 2; go_simp) (fun _ _ _ _ h => h) (⟨rL, rO⟩) ?_
    simp only [Act.put, List.setIfInBounds_toArray, List.set_cons_zero, List.set_cons_succ]
    refine held_value 7 _ _ (some 16) (.int .i64 (wrap64 (xh * xn))) (by kernel_rfl) (by rfl) (by kernel_rfl) (fun u hS => by go_simp <;> simp only [IntKind.wrap_i64, wrap64]) (fun _ _ _ _ h => h) (⟨rL, rO⟩) ?_
    simp only [Act.put, List.setIfInBounds_toArray, List.set_cons_zero, List.set_cons_succ]
    refine held_load 0 39 (.tmp 3) (some 9) (by kernel_rfl) (by rfl) (by kernel_rfl) (w.heap.size + 1) 0 (by kernel_rfl) ([.int .u32 yc, .bool ys, .int .i64 yn, .int .i64 ywd, .int .i64 yp, .int .i64 yl]) _ (fun _ h => h.2.range) Try.underlying39 rfl (info_ots) (fun _ _ _ _ h => h) (⟨rL, rO⟩) ?_
    simp only [Act.put, List.setIfInBounds_toArray, List.set_cons_zero, List.set_cons_succ]
    refine held_one 1 (by kernel_rfl) ?_
    refine step_call 1 _ _ (some 10) 33 #[.agg #[.int .u32 yc, .bool ys, .int .i64 yn, .int .i64 ywd, .int .i64 yp, .int .i64 yl]] (by rfl) (by kernel_rfl) (by first | kernel_rfl | go_simp) ?_
    refine (hO _).mono ?_
    rintro e Y1 ⟨rfl, by2⟩
    have bx : Below V.heap.size V Y1 := by2
    have b_V := bx
    have m_Y1 : V.heap.size ≤ Y1.heap.size := bx.size
    clear bx
    refine ⟨_, rfl, ⟨(rL.go b_V), (rO.go b_V)⟩, ?_⟩
    simp only [Act.put, List.setIfInBounds_toArray, List.set_cons_zero, List.set_cons_succ]
    refine held_value 2 _ _ (some 11) (.int .i64 (wrap64 (8 + ol))) (by kernel_rfl) (by rfl) (by kernel_rfl) (fun u hS => by go_simp <;> simp only [IntKind.wrap_i64, wrap64]) (fun _ _ _ _ h => h) (⟨(rL.go b_V), (rO.go b_V)⟩) ?_
    simp only [Act.put, List.setIfInBounds_toArray, List.set_cons_zero, List.set_cons_succ]
    refine held_value 8 _ _ (some 17) (.int .i64 (wrap64 (wrap64 (8 + ol) + wrap64 (xh * xn)))) (by kernel_rfl) (by rfl) (by kernel_rfl) (fun u hS => by go_simp <;> simp only [IntKind.wrap_i64, wrap64]) (fun _ _ _ _ h => h) (⟨(rL.go b_V), (rO.go b_V)⟩) ?_
    simp only [Act.put, List.setIfInBounds_toArray, List.set_cons_zero, List.set_cons_succ]
    refine held_value 9 _ _ (some 4) (.int .i64 (wrap64 (wrap64 (8 + ol) + wrap64 (xh * xn)))) (by kernel_rfl) (by rfl) (by kernel_rfl) (fun u hS => by first | kernel_rfl | go_simp) (fun _ _ _ _ h => h) (⟨(rL.go b_V), (rO.go b_V)⟩) ?_
    simp only [Act.put, List.setIfInBounds_toArray, List.set_cons_zero, List.set_cons_succ]
    refine wpAnyH_done (by kernel_rfl) ?_ _
    go_wp2
    go_ret
    exact ⟨rfl, F3.out.trans (by2.mono (Nat.le_of_lt (Nat.lt_of_lt_of_le (Nat.lt_succ_self _) (Nat.le_of_lt rO0.lt))))⟩
end Go.Proofs.Ythahnckjmlcehaa
