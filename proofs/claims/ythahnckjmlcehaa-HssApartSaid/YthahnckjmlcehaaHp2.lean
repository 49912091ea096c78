/-
  SLICES OF SETS; hss.height.
-/
import Derived.Test.YthahnckjmlcehaaHp1
namespace Go.Proofs.Ythahnckjmlcehaa
open Go.RowKit
set_option maxRecDepth 100000
/-- the cells of the sets of all levels -/
def stsC (l : List (Nat × Nat)) : List Value := l.flatMap fun x => stC x.1 x.2
theorem stC_length (a b : Nat) : (stC a b).length = 10 := rfl
theorem stsC_length (l : List (Nat × Nat)) : (stsC l).length = l.length * 10 := by
  induction l with
  | nil => rfl
  | cons x r ih =>
    simp only [stsC, List.flatMap_cons, List.length_append, List.length_cons] at ih ⊢
    rw [ih, stC_length]; omega
theorem stsC_append (l m : List (Nat × Nat)) : stsC (l ++ m) = stsC l ++ stsC m := by simp [stsC]
theorem stsC_drop (l : List (Nat × Nat)) (k : Nat) (h : k ≤ l.length) : (stsC l).drop (k * 10) = stsC (l.drop k) := by
  have e : stsC l = stsC (l.take k) ++ stsC (l.drop k) := by rw [← stsC_append, List.take_append_drop]
  have e2 : (stsC (l.take k)).length = k * 10 := by rw [stsC_length, List.length_take]; congr 1; omega
  rw [e, ← e2, List.drop_left]
theorem stsC_mid (l : List (Nat × Nat)) (k : Nat) (h : k < l.length) : ((stsC l).drop (k * 10)).take 10 = stC l[k].1 l[k].2 := by
  rw [stsC_drop l k (by omega), List.drop_eq_getElem_cons h]
  show (stC l[k].1 l[k].2 ++ stsC (l.drop (k + 1))).take 10 = _
  exact List.take_left' rfl
/-- block g holds the sets of the levels l -/
def StAt (w : World) (g : Nat) (l : List (Nat × Nat)) : Prop := Row w g 52 (stsC l)
theorem StAt.at_ {w : World} {g : Nat} {l : List (Nat × Nat)} (h : StAt w g l) (k : Nat) (hk : k < l.length) : w.rangeAt g (k * 10) (stC l[k].1 l[k].2) := by
  have := Row.mid h (k * 10) 10
  rwa [stsC_mid l k hk] at this
theorem StAt.go {w w' : World} {g : Nat} {l : List (Nat × Nat)} (h : StAt w g l) (b : Below w.heap.size w w') : StAt w' g l := Row.go h b
theorem StAt.alloc {w : World} {g : Nat} {l : List (Nat × Nat)} (h : StAt w g l) (o : Obj) : StAt (w.alloc o) g l := Row.alloc h o
theorem StAt.lt {w : World} {g : Nat} {l : List (Nat × Nat)} (h : StAt w g l) : g < w.heap.size := Row.lt h
theorem height_any (g : Nat) (l : List (Nat × Nat)) (hn : l.length ≤ 8) (w : World) (hs : StAt w g l) : Calls Try.prog 15 #[.slice (some ⟨g, 0, none⟩) l.length l.length] w (OldIs (.int .i64 (sumH l : Int)) w) := by
  unfold OldIs
  have HS := Shh.mk hs
  have hg := hs.lt
  clear hs
  go_enter Try.func15, Try.ntmps15
  go_wp2
  go_loopw [3, 8] (fun p i wr => ∃ k q : Nat, k ≤ l.length ∧ q ≤ 25 * k ∧ p = .int .i64 (q : Int) ∧ i = .int .i64 (k : Int) ∧ Shh (q = sumH (l.take k) ∧ Below w.heap.size w wr)) (fun _ i _ => l.length - (intOf i).toNat)
  case atStart => exact ⟨0, 0, Nat.zero_le _, Nat.zero_le _, rfl, rfl, ⟨rfl, Below.refl _ _⟩⟩
  case round =>
    obtain ⟨k, q, hk, hq, rfl, rfl, HQ⟩ := hrel
    by_cases hlt : k < l.length
    · have HX : Shh (q + lH l[k].1 = sumH (l.take (k + 1)) ∧ q + lH l[k].1 ≤ 25 * (k + 1) ∧ wr.rangeAt g (k * 10) (stC l[k].1 l[k].2) ∧ Below w.heap.size w wr) := by
        have e1 := sumH_step l k hlt
        have e2 := lH_le l[k].1
        exact ⟨by rw [HQ.out.1, e1], by omega, (HS.out.go HQ.out.2).at_ k hlt, HQ.out.2⟩
      have hh := HX.out.2.1
      generalize l[k] = x at HX hh
      obtain ⟨a, b⟩ := x
      simp only at HX hh
      unfold stC at HX
      generalize lC a = l0 at HX
      generalize lSh a = l1 at HX
      generalize lN a = l2 at HX
      generalize lH a = l3 at HX hh
      generalize oC b = o0 at HX
      generalize (oR b).1 = o1 at HX
      generalize (oR b).2.1 = o2 at HX
      generalize (oR b).2.2.1 = o3 at HX
      generalize (oR b).2.2.2.1 = o4 at HX
      generalize (oR b).2.2.2.2 = o5 at HX
      clear HQ
      go_wp2_with (refine wpList_load_mid rfl 52 (.tmp 10) rfl g (k * 10) (by go_num) [.int .u32 l0, .bool l1, .int .i64 l2, .int .i64 (l3 : Int), .int .u32 o0, .bool o1, .int .i64 o2, .int .i64 o3, .int .i64 o4, .int .i64 o5] _ HX.out.2.2.1 Try.underlying52 rfl info_st ?_)
      have HR : Shh (q + l3 = sumH (l.take (k + 1)) ∧ Below w.heap.size w (wr.alloc (.cells #[.int .u32 l0, .bool l1, .int .i64 l2, .int .i64 (l3 : Int), .int .u32 o0, .bool o1, .int .i64 o2, .int .i64 o3, .int .i64 o4, .int .i64 o5] 52))) := ⟨HX.out.1, HX.out.2.2.2.alloc (by have := HX.out.2.2.2.size; omega) _⟩
      clear HX HS
      go_round
      case rel => exact ⟨k + 1, q + l3, by omega, by omega, by go_num, by go_num, HR⟩
      case measure => simp [intOf]; omega
    · obtain rfl : k = l.length := by omega
      have HR : Shh (q = sumH l ∧ Below w.heap.size w wr) := ⟨by rw [HQ.out.1, List.take_length], HQ.out.2⟩
      clear HQ HS
      go_wp2
      go_ret
      exact ⟨by rw [HR.out.1]; rfl, HR.out.2⟩
end Go.Proofs.Ythahnckjmlcehaa
