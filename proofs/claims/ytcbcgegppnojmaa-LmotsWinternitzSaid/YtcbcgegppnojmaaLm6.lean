/-
  WALKS: Digits, the program's and the document's, at any set; the set of a code.
-/
import Derived.Test.YtcbcgegppnojmaaLd32x1
import Derived.Test.YtcbcgegppnojmaaLd32x2
import Derived.Test.YtcbcgegppnojmaaLd32x4
import Derived.Test.YtcbcgegppnojmaaLd32x8
import Derived.Test.YtcbcgegppnojmaaLd24x1
import Derived.Test.YtcbcgegppnojmaaLd24x2
import Derived.Test.YtcbcgegppnojmaaLd24x4
import Derived.Test.YtcbcgegppnojmaaLd24x8
import Derived.Test.YtcbcgegppnojmaaLe32x1
import Derived.Test.YtcbcgegppnojmaaLe32x2
import Derived.Test.YtcbcgegppnojmaaLe32x4
import Derived.Test.YtcbcgegppnojmaaLe32x8
import Derived.Test.YtcbcgegppnojmaaLe24x1
import Derived.Test.YtcbcgegppnojmaaLe24x2
import Derived.Test.YtcbcgegppnojmaaLe24x4
import Derived.Test.YtcbcgegppnojmaaLe24x8
namespace Go.Proofs.Ytcbcgegppnojmaa
open Go.RowKit
set_option maxRecDepth 100000
/-- the eight shapes of a set -/
def Shape (N W P L : Nat) : Prop := (N = 32 ∧ W = 1 ∧ P = 265 ∧ L = 7) ∨ (N = 32 ∧ W = 2 ∧ P = 133 ∧ L = 6) ∨ (N = 32 ∧ W = 4 ∧ P = 67 ∧ L = 4) ∨ (N = 32 ∧ W = 8 ∧ P = 34 ∧ L = 0) ∨ (N = 24 ∧ W = 1 ∧ P = 200 ∧ L = 8) ∨ (N = 24 ∧ W = 2 ∧ P = 101 ∧ L = 6) ∨ (N = 24 ∧ W = 4 ∧ P = 51 ∧ L = 4) ∨ (N = 24 ∧ W = 8 ∧ P = 26 ∧ L = 0)
def shapeL : List (Int × Int × Int × Int) := [(32, 1, 265, 7), (32, 2, 133, 6), (32, 4, 67, 4), (32, 8, 34, 0), (24, 1, 200, 8), (24, 2, 101, 6), (24, 4, 51, 4), (24, 8, 26, 0)]
theorem shape_of {x : S6} (h : x.ok = true) : ∃ N W P L : Nat, Shape N W P L ∧ x.n = N ∧ x.w = W ∧ x.p = P ∧ x.l = L := by
  obtain ⟨c, h1, h2, rfl⟩ := S6.ok_is h
  have key : ∀ j : Fin 17, 1 ≤ j.val → (oR j.val).2 ∈ shapeL := by decide +kernel
  have hm := key ⟨c, by omega⟩ h1
  simp only at hm
  unfold oS
  simp only
  generalize (oR c).2 = r at hm ⊢
  obtain ⟨a, b, d, e⟩ := r
  simp only [shapeL, List.mem_cons, Prod.mk.injEq, List.not_mem_nil, or_false] at hm
  rcases hm with ⟨rfl, rfl, rfl, rfl⟩ | ⟨rfl, rfl, rfl, rfl⟩ | ⟨rfl, rfl, rfl, rfl⟩ | ⟨rfl, rfl, rfl, rfl⟩ | ⟨rfl, rfl, rfl, rfl⟩ | ⟨rfl, rfl, rfl, rfl⟩ | ⟨rfl, rfl, rfl, rfl⟩ | ⟨rfl, rfl, rfl, rfl⟩
  · exact ⟨32, 1, 265, 7, by unfold Shape; omega, rfl, rfl, rfl, rfl⟩
  · exact ⟨32, 2, 133, 6, by unfold Shape; omega, rfl, rfl, rfl, rfl⟩
  · exact ⟨32, 4, 67, 4, by unfold Shape; omega, rfl, rfl, rfl, rfl⟩
  · exact ⟨32, 8, 34, 0, by unfold Shape; omega, rfl, rfl, rfl, rfl⟩
  · exact ⟨24, 1, 200, 8, by unfold Shape; omega, rfl, rfl, rfl, rfl⟩
  · exact ⟨24, 2, 101, 6, by unfold Shape; omega, rfl, rfl, rfl, rfl⟩
  · exact ⟨24, 4, 51, 4, by unfold Shape; omega, rfl, rfl, rfl, rfl⟩
  · exact ⟨24, 8, 26, 0, by unfold Shape; omega, rfl, rfl, rfl, rfl⟩
theorem chkE_zero {x : S6} {n : Nat} (h : chkE x n = 0) : x.ok = true ∧ (n : Int) = x.n := by
  unfold chkE at h
  split at h
  · refine ⟨by assumption, ?_⟩
    split at h
    · assumption
    · cases h
  · cases h
theorem chkE_of {x : S6} {n : Nat} (h : x.ok = true) (hn : (n : Int) = x.n) : chkE x n = 0 := by unfold chkE; rw [h, if_pos rfl, if_pos hn]
def dgX (x : S6) (bs : List UInt8) : List Nat := dgs x.w.toNat x.p.toNat x.l.toNat bs
theorem digits_any (xc : Int) (xs : Bool) (xn xwd xp xl : Int) (B : Nat) (v : Value) (bs : List UInt8) (w : World) (hs : Sl w B v bs) (hB : B ≤ w.heap.size) (ho : S6.ok ⟨xc, xs, xn, xwd, xp, xl⟩ = true) (hl : (bs.length : Int) = xn) :
    Calls Try.prog 13 #[.agg #[.int .u32 xc, .bool xs, .int .i64 xn, .int .i64 xwd, .int .i64 xp, .int .i64 xl], v] w (SeeI w (dgX ⟨xc, xs, xn, xwd, xp, xl⟩ bs)) := by
  obtain ⟨N, W, P, L, hsh, h1, h2, h3, h4⟩ := shape_of ho
  simp only at h1 h2 h3 h4
  subst h1 h2 h3 h4
  have hlN : bs.length = N := by omega
  unfold dgX
  simp only [Int.toNat_natCast]
  rcases hsh with ⟨rfl, rfl, rfl, rfl⟩ | ⟨rfl, rfl, rfl, rfl⟩ | ⟨rfl, rfl, rfl, rfl⟩ | ⟨rfl, rfl, rfl, rfl⟩ | ⟨rfl, rfl, rfl, rfl⟩ | ⟨rfl, rfl, rfl, rfl⟩ | ⟨rfl, rfl, rfl, rfl⟩ | ⟨rfl, rfl, rfl, rfl⟩
  · exact digits_32_1 xc xs B v bs w hs hB hlN
  · exact digits_32_2 xc xs B v bs w hs hB hlN
  · exact digits_32_4 xc xs B v bs w hs hB hlN
  · exact digits_32_8 xc xs B v bs w hs hB hlN
  · exact digits_24_1 xc xs B v bs w hs hB hlN
  · exact digits_24_2 xc xs B v bs w hs hB hlN
  · exact digits_24_4 xc xs B v bs w hs hB hlN
  · exact digits_24_8 xc xs B v bs w hs hB hlN
theorem refDigits_any (xc : Int) (xs : Bool) (xn xwd xp xl : Int) (B : Nat) (v : Value) (bs : List UInt8) (w : World) (hs : Sl w B v bs) (hB : B ≤ w.heap.size) (ho : S6.ok ⟨xc, xs, xn, xwd, xp, xl⟩ = true) (hl : (bs.length : Int) = xn) :
    Calls Try.prog 9 #[.agg #[.int .u32 xc, .bool xs, .int .i64 xn, .int .i64 xwd, .int .i64 xp, .int .i64 xl], v] w (SeeI w (dgX ⟨xc, xs, xn, xwd, xp, xl⟩ bs)) := by
  obtain ⟨N, W, P, L, hsh, h1, h2, h3, h4⟩ := shape_of ho
  simp only at h1 h2 h3 h4
  subst h1 h2 h3 h4
  have hlN : bs.length = N := by omega
  unfold dgX
  simp only [Int.toNat_natCast]
  rcases hsh with ⟨rfl, rfl, rfl, rfl⟩ | ⟨rfl, rfl, rfl, rfl⟩ | ⟨rfl, rfl, rfl, rfl⟩ | ⟨rfl, rfl, rfl, rfl⟩ | ⟨rfl, rfl, rfl, rfl⟩ | ⟨rfl, rfl, rfl, rfl⟩ | ⟨rfl, rfl, rfl, rfl⟩ | ⟨rfl, rfl, rfl, rfl⟩
  · exact refDigits_32_1 xc xs B v bs w hs hB hlN
  · exact refDigits_32_2 xc xs B v bs w hs hB hlN
  · exact refDigits_32_4 xc xs B v bs w hs hB hlN
  · exact refDigits_32_8 xc xs B v bs w hs hB hlN
  · exact refDigits_24_1 xc xs B v bs w hs hB hlN
  · exact refDigits_24_2 xc xs B v bs w hs hB hlN
  · exact refDigits_24_4 xc xs B v bs w hs hB hlN
  · exact refDigits_24_8 xc xs B v bs w hs hB hlN
theorem SI.nil (w : World) (B : Nat) : SI w B (.slice none 0 0) [] := ⟨none, 0, rfl, Nat.le_refl _, Nat.zero_le _, .inl ⟨rfl, rfl⟩⟩
/-- the digits and what was wrong -/
def digY (x : S6) (bs : List UInt8) : List Nat := if chkE x bs.length = 0 then dgX x bs else []
def DigIs (x : S6) (bs : List UInt8) (w : World) (e : Ending) (w' : World) : Prop := ∃ v, e = .returned (.tuple #[v, .int .i64 (chkE x bs.length)]) ∧ SI w' w'.heap.size v (digY x bs) ∧ Below w.heap.size w w'
theorem Digits_any (xc : Int) (xs : Bool) (xn xwd xp xl : Int) (h : S6.wf ⟨xc, xs, xn, xwd, xp, xl⟩) (B : Nat) (v : Value) (bs : List UInt8) (w : World) (hs : Sl w B v bs) (hB : B ≤ w.heap.size) :
    Calls Try.prog 7 #[.agg #[.int .u32 xc, .bool xs, .int .i64 xn, .int .i64 xwd, .int .i64 xp, .int .i64 xl], v] w (DigIs ⟨xc, xs, xn, xwd, xp, xl⟩ bs w) := by
  unfold DigIs
  have HW : Shh (Row (w.alloc (.cells #[.int .u32 xc, .bool xs, .int .i64 xn, .int .i64 xwd, .int .i64 xp, .int .i64 xl] 24)) w.heap.size 24 [.int .u32 xc, .bool xs, .int .i64 xn, .int .i64 xwd, .int .i64 xp, .int .i64 xl] ∧ Below w.heap.size w (w.alloc (.cells #[.int .u32 xc, .bool xs, .int .i64 xn, .int .i64 xwd, .int .i64 xp, .int .i64 xl] 24)) ∧ Sl w B v bs ∧ B ≤ w.heap.size) := ⟨Row.new_ rfl rfl, Below.alloc (Below.refl _ _) (Nat.le_refl _) _, hs, hB⟩
  obtain ⟨A, c, rfl, _, _⟩ := hs.form
  have hck := fun W => check_any xc xs xn xwd xp xl h bs.length W
  clear hs hB
  by_cases hE : chkE ⟨xc, xs, xn, xwd, xp, xl⟩ bs.length = 0
  · have hz := chkE_zero hE
    have HZ := Shh.mk hz
    have HE : Shh (digY ⟨xc, xs, xn, xwd, xp, xl⟩ bs = dgX ⟨xc, xs, xn, xwd, xp, xl⟩ bs) := ⟨by unfold digY; rw [if_pos hE]⟩
    rw [HE.out]
    rw [hE] at hck ⊢
    clear hz hE HE h
    have HD := fun (W : World) (q : Sl W B (.slice A bs.length c) bs ∧ B ≤ W.heap.size) => digits_any xc xs xn xwd xp xl B _ bs W q.1 q.2 HZ.out.1 HZ.out.2
    generalize dgX ⟨xc, xs, xn, xwd, xp, xl⟩ bs = D at *
    go_enter Try.func7, Try.ntmps7
    go_wp2_with (first | refine wl_loadW 24 (.tmp 2) rfl w.heap.size rfl 24 [.int .u32 xc, .bool xs, .int .i64 xn, .int .i64 xwd, .int .i64 xp, .int .i64 xl] _ rfl HW.out.1 Try.underlying24 rfl info_ots ?_ | (go_at_call 12; refine (hck _).mono ?_))
    unfold OldIs
    rintro e w2 ⟨rfl, b2⟩
    have F2 : Shh (Row w2 w.heap.size 24 [.int .u32 xc, .bool xs, .int .i64 xn, .int .i64 xwd, .int .i64 xp, .int .i64 xl] ∧ Below w.heap.size w w2 ∧ Sl w2 B (.slice A bs.length c) bs ∧ B ≤ w2.heap.size) := ⟨HW.out.1.go b2, Below.chain HW.out.2.1 b2, HW.out.2.2.1.below ((Below.chain HW.out.2.1 b2).mono HW.out.2.2.2), Nat.le_trans HW.out.2.2.2 (Below.chain HW.out.2.1 b2).size⟩
    clear HW b2 hck
    go_wp2_with (first | refine wl_loadW 24 (.tmp 2) rfl w.heap.size rfl 24 [.int .u32 xc, .bool xs, .int .i64 xn, .int .i64 xwd, .int .i64 xp, .int .i64 xl] _ rfl F2.out.1 Try.underlying24 rfl info_ots ?_ | (go_at_call 13; refine (HD _ F2.out.2.2).mono ?_))
    unfold SeeI
    rintro e w3 ⟨u, rfl, s3, b3⟩
    have F3 : Shh (SI w3 w3.heap.size u D ∧ Below w.heap.size w w3) := ⟨s3, Below.chain F2.out.2.1 b3⟩
    clear F2 s3 b3
    go_wp2
    go_ret2
    exact ⟨_, rfl, F3.out.1, F3.out.2⟩
  · have HE : Shh (digY ⟨xc, xs, xn, xwd, xp, xl⟩ bs = []) := ⟨by unfold digY; rw [if_neg hE]⟩
    rw [HE.out]
    obtain ⟨E, hEE⟩ : ∃ E, E = chkE ⟨xc, xs, xn, xwd, xp, xl⟩ bs.length := ⟨_, rfl⟩
    rw [← hEE] at hck hE ⊢
    have hne : (E != 0) = true := by simpa using hE
    clear HE h hEE
    go_enter Try.func7, Try.ntmps7
    go_wp2_with (first | refine wl_loadW 24 (.tmp 2) rfl w.heap.size rfl 24 [.int .u32 xc, .bool xs, .int .i64 xn, .int .i64 xwd, .int .i64 xp, .int .i64 xl] _ rfl HW.out.1 Try.underlying24 rfl info_ots ?_ | (go_at_call 12; refine (hck _).mono ?_))
    unfold OldIs
    rintro e w2 ⟨rfl, b2⟩
    have F2 : Shh (Below w.heap.size w w2) := ⟨Below.chain HW.out.2.1 b2⟩
    clear HW b2 hck
    go_wp2
    go_ret2
    exact ⟨_, rfl, SI.nil _ _, F2.out⟩
/-- the set of a code; one that is none, if there is none -/
def sX (k : Nat) : S6 := if 1 ≤ k ∧ k ≤ 16 then oS k else ⟨(k : Int), false, 32, 4, 67, 4⟩
theorem sX_wf (k : Nat) (hk : k < 4294967296) : (sX k).wf := by
  unfold sX
  split
  · exact oS_wf k (by omega)
  · exact ⟨wf32 (x := (k : Int)) (by omega) (by omega), rfl, rfl, rfl, rfl⟩
theorem set_of (k : Nat) (yc : Int) (ys : Bool) (yn ywd yp yl : Int) (E : Int) (zc : Int) (zs : Bool) (zn zwd zp zl : Int) (hE : (E = 0 ∧ zc = yc ∧ zs = ys ∧ zn = yn ∧ zwd = ywd ∧ zp = yp ∧ zl = yl) ∨ (E ≠ 0 ∧ zc = (k : Int) ∧ zs = false ∧ zn = 32 ∧ zwd = 4 ∧ zp = 67 ∧ zl = 4))
    (hset : ∀ W, Calls Try.prog 11 #[.int .u32 (k : Int)] W (OldIs (.tuple #[.agg #[.int .u32 yc, .bool ys, .int .i64 yn, .int .i64 ywd, .int .i64 yp, .int .i64 yl], .int .i64 E]) W)) (w : World) :
    Calls Try.prog 6 #[.int .u32 (k : Int)] w (OldIs (.agg #[.int .u32 zc, .bool zs, .int .i64 zn, .int .i64 zwd, .int .i64 zp, .int .i64 zl]) w) := by
  unfold OldIs
  have HW : Shh (Row (w.alloc (.cells #[.int .u32 0, .bool false, .int .i64 0, .int .i64 0, .int .i64 0, .int .i64 0] 24)) w.heap.size 24 [.int .u32 0, .bool false, .int .i64 0, .int .i64 0, .int .i64 0, .int .i64 0] ∧ Below w.heap.size w (w.alloc (.cells #[.int .u32 0, .bool false, .int .i64 0, .int .i64 0, .int .i64 0, .int .i64 0] 24))) := ⟨Row.new_ rfl rfl, Below.alloc (Below.refl _ _) (Nat.le_refl _) _⟩
  rcases hE with ⟨hE, rfl, rfl, rfl, rfl, rfl, rfl⟩ | ⟨hE, rfl, rfl, rfl, rfl, rfl, rfl⟩
  · subst hE
    go_enter Try.func6, Try.ntmps6
    go_wp2_with (go_at_call 11; refine (hset _).mono ?_)
    unfold OldIs
    rintro e w2 ⟨rfl, b2⟩
    obtain ⟨G, hG⟩ : ∃ G, Shh (G = w2.heap.size) := ⟨_, ⟨rfl⟩⟩
    go_wp2_with (refine wpList_store_any rfl 24 (.tmp 3) (.tmp 8) rfl G (by rw [hG.out]; rfl) [.int .u32 zc, .bool zs, .int .i64 zn, .int .i64 zwd, .int .i64 zp, .int .i64 zl] rfl 24 _ (Row.new_ hG.out rfl) info_ots rfl oneCell6 ?_)
    intro Z hr bt _
    have bb : Below w2.heap.size w2 Z := (Below.alloc (Below.refl _ _) (Nat.le_refl _) _).trans (bt.under (by have := hG.out; first | omega | (simp only [asz]; omega)) (by have := hG.out; omega))
    have F2 : Shh (Row Z w.heap.size 24 [.int .u32 0, .bool false, .int .i64 0, .int .i64 0, .int .i64 0, .int .i64 0] ∧ Row Z G 24 [.int .u32 zc, .bool zs, .int .i64 zn, .int .i64 zwd, .int .i64 zp, .int .i64 zl] ∧ Below w.heap.size w Z) := ⟨HW.out.1.go (Below.chain b2 bb), hr, Below.chain HW.out.2 (Below.chain b2 bb)⟩
    have hsz : w.heap.size ≤ w2.heap.size := (Below.chain HW.out.2 b2).size
    rw [← hG.out]
    clear hr bt bb b2 hG HW hset
    go_wp2_with (first | refine wl_loadW 24 (.tmp 3) rfl G rfl 24 [.int .u32 zc, .bool zs, .int .i64 zn, .int .i64 zwd, .int .i64 zp, .int .i64 zl] _ rfl F2.out.2.1 Try.underlying24 rfl info_ots ?_ | refine wpList_store_any rfl 24 (.tmp 2) (.tmp 14) rfl w.heap.size rfl [.int .u32 zc, .bool zs, .int .i64 zn, .int .i64 zwd, .int .i64 zp, .int .i64 zl] rfl 24 _ F2.out.1 info_ots rfl oneCell6 ?_)
    intro Z2 hr2 bt2 _
    have F3 : Shh (Row Z2 w.heap.size 24 [.int .u32 zc, .bool zs, .int .i64 zn, .int .i64 zwd, .int .i64 zp, .int .i64 zl] ∧ Below w.heap.size w Z2) := ⟨hr2, F2.out.2.2.trans (bt2.under (by first | exact F2.out.2.2.size | omega) (Nat.le_refl _))⟩
    clear hr2 bt2 F2
    go_wp2
    exact ret_row Try.results6 rfl rfl F3.out.1 Try.underlying24 rfl info_ots ⟨rfl, F3.out.2⟩
  · have hne : (E != 0) = true := by simpa using hE
    go_enter Try.func6, Try.ntmps6
    go_wp2_with (go_at_call 11; refine (hset _).mono ?_)
    unfold OldIs
    rintro e w2 ⟨rfl, b2⟩
    obtain ⟨G, hG⟩ : ∃ G, Shh (G = w2.heap.size) := ⟨_, ⟨rfl⟩⟩
    go_wp2_with (refine wpList_store_any rfl 24 (.tmp 3) (.tmp 8) rfl G (by rw [hG.out]; rfl) [.int .u32 yc, .bool ys, .int .i64 yn, .int .i64 ywd, .int .i64 yp, .int .i64 yl] rfl 24 _ (Row.new_ hG.out rfl) info_ots rfl oneCell6 ?_)
    intro Z hr bt _
    have bb : Below w2.heap.size w2 Z := (Below.alloc (Below.refl _ _) (Nat.le_refl _) _).trans (bt.under (by have := hG.out; first | omega | (simp only [asz]; omega)) (by have := hG.out; omega))
    have F2 : Shh (Row Z w.heap.size 24 [.int .u32 0, .bool false, .int .i64 0, .int .i64 0, .int .i64 0, .int .i64 0] ∧ Below w.heap.size w Z) := ⟨HW.out.1.go (Below.chain b2 bb), Below.chain HW.out.2 (Below.chain b2 bb)⟩
    have hsz : w.heap.size ≤ w2.heap.size := (Below.chain HW.out.2 b2).size
    rw [← hG.out]
    clear hr bt bb b2 hG HW hset
    go_wp2_with (refine wpList_store_any rfl 24 (.tmp 2) (.tmp 13) rfl w.heap.size rfl [.int .u32 (k : Int), .bool false, .int .i64 32, .int .i64 4, .int .i64 67, .int .i64 4] rfl 24 _ F2.out.1 info_ots rfl oneCell6 ?_)
    intro Z2 hr2 bt2 _
    have F3 : Shh (Row Z2 w.heap.size 24 [.int .u32 (k : Int), .bool false, .int .i64 32, .int .i64 4, .int .i64 67, .int .i64 4] ∧ Below w.heap.size w Z2) := ⟨hr2, F2.out.2.trans (bt2.under (by first | exact F2.out.2.size | omega) (Nat.le_refl _))⟩
    clear hr2 bt2 F2
    go_wp2
    exact ret_row Try.results6 rfl rfl F3.out.1 Try.underlying24 rfl info_ots ⟨rfl, F3.out.2⟩
theorem set_any (k : Nat) (w : World) : Calls Try.prog 6 #[.int .u32 (k : Int)] w (OldIs (.agg #[.int .u32 (sX k).c, .bool (sX k).s, .int .i64 (sX k).n, .int .i64 (sX k).w, .int .i64 (sX k).p, .int .i64 (sX k).l]) w) := by
  refine set_of k (oC k) (oR k).1 (oR k).2.1 (oR k).2.2.1 (oR k).2.2.2.1 (oR k).2.2.2.2 (oE k) _ _ _ _ _ _ ?_ (fun W => refOts_any k W) w
  unfold sX oE
  split
  · exact .inl ⟨rfl, rfl, rfl, rfl, rfl, rfl, rfl⟩
  · exact .inr ⟨by decide, rfl, rfl, rfl, rfl, rfl, rfl⟩
end Go.Proofs.Ytcbcgegppnojmaa
