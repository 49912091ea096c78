/-
 THE DISK AS MATHEMATICS, AND WHERE IT LIES: sectors, pending writes, power and fuse; colours of blocks: whose each block is.
-/
import Derived.Test.YtpajdmbajopofaaCov0
namespace Go.Proofs.Ytpajdmbajopofaa
open Go.RowKit
set_option maxRecDepth 100000

structure DS where
 good : List (List UInt8)
 wait : List (Nat × List UInt8)
 on : Bool
 fuse : Int
 done : Int
/-- writes laid over sectors, in their order -/
def applyL (g : List (List UInt8)) (l : List (Nat × List UInt8)) : List (List UInt8) := l.foldl (fun g x => g.set x.1 x.2) g
/-- those of the first t writes that are picked -/
def pickU (p : Nat → Bool) (l : List (Nat × List UInt8)) (t : Nat) : List (Nat × List UInt8) := (List.range t).filterMap fun i => if p i then l[i]? else none
def settleS (s : DS) (p : Nat → Bool) : DS := { s with good := applyL s.good (pickU p s.wait s.wait.length), wait := [] }
def readL (b : List UInt8) (l : List (Nat × List UInt8)) (i : Nat) : List UInt8 := l.foldl (fun b x => if x.1 = i then x.2 else b) b
def secL (s : DS) (i : Nat) : List UInt8 := readL (s.good.getD i []) s.wait i
def opE (s : DS) : Int := if s.fuse = 0 then 5 else 0
def opS (s : DS) : DS := if s.fuse = 0 then { s with on := false, fuse := -1 } else { s with fuse := if s.fuse = -1 then -1 else s.fuse - 1, done := wrap64 (s.done + 1) }
def DS.has (s : DS) (i : Int) : Bool := decide (0 ≤ i ∧ i < s.good.length)
def rdE (s : DS) (i : Int) : Int := if s.has i = false then 1 else if s.on = false then 5 else 0
def rdB (s : DS) (i : Int) : List UInt8 := if rdE s i = 0 then secL s i.toNat else []
def wrE (s : DS) (i : Int) (n : Nat) : Int := if s.has i = false ∨ n ≠ 256 then 1 else if s.on = false then 5 else opE s
def wrS (s : DS) (i : Int) (b : List UInt8) : DS := if s.has i = false ∨ b.length ≠ 256 then s else if s.on = false then s else opS { s with wait := s.wait ++ [(i.toNat, b)] }
def syE (s : DS) : Int := if s.on = false then 5 else opE s
def syS (s : DS) : DS := if s.on = false then s else if s.fuse = 0 then opS s else settleS (opS s) fun _ => true
def arE (s : DS) (n : Int) : Int := if n < 0 then 1 else if s.on = false then 5 else 0
def arS (s : DS) (n : Int) : DS := if n < 0 then s else if s.on = false then s else { s with fuse := n }
def caS (s : DS) : DS := { s with fuse := -1 }
def pkF (l : List Bool) (i : Nat) : Bool := l.getD i false
def crS (s : DS) (l : List Bool) : DS := { settleS s (pkF l) with on := true, fuse := -1 }
def newS (b : List (List UInt8)) : DS := ⟨b, [], true, -1, 0⟩
/-- a sound disk -/
structure DS.ok (s : DS) : Prop where
 lo : 8 ≤ s.good.length
 hi : s.good.length ≤ 2048
 sec : ∀ b ∈ s.good, b.length = 256
 wt : ∀ x ∈ s.wait, x.1 < s.good.length ∧ x.2.length = 256
 f0 : -1 ≤ s.fuse
 f1 : s.fuse ≤ 9223372036854775807

theorem pickU_yes {p : Nat → Bool} {l : List (Nat × List UInt8)} {t : Nat} (h : p t = true) (ht : t < l.length) : pickU p l (t + 1) = pickU p l t ++ [l[t]] := by
 unfold pickU
 rw [List.range_succ, List.filterMap_append]
 simp [h, List.getElem?_eq_getElem ht]
theorem pickU_no {p : Nat → Bool} {l : List (Nat × List UInt8)} {t : Nat} (h : p t = false) : pickU p l (t + 1) = pickU p l t := by
 unfold pickU
 rw [List.range_succ, List.filterMap_append]
 simp [h]
theorem pickU_length {p : Nat → Bool} {l : List (Nat × List UInt8)} {t : Nat} : (pickU p l t).length ≤ t := by
 unfold pickU
 refine Nat.le_trans (List.length_filterMap_le _ _) ?_
 simp
theorem pickU_mem {p : Nat → Bool} {l : List (Nat × List UInt8)} {t : Nat} {x : Nat × List UInt8} (h : x ∈ pickU p l t) : x ∈ l := by
 unfold pickU at h
 obtain ⟨i, _, hi⟩ := List.mem_filterMap.1 h
 split at hi
 ·exact List.mem_of_getElem? hi
 ·cases hi
theorem pickU_all {l : List (Nat × List UInt8)} {t : Nat} (ht : t ≤ l.length) : pickU (fun _ => true) l t = l.take t := by
 induction t with
 | zero => rfl
 | succ t ih => rw [pickU_yes rfl (by omega), ih (by omega), take_snoc l t (by omega)]
theorem pickU_none {l : List (Nat × List UInt8)} {t : Nat} : pickU (fun _ => false) l t = [] := by
 induction t with
 | zero => rfl
 | succ t ih => rw [pickU_no rfl, ih]
theorem applyL_snoc (g : List (List UInt8)) (l : List (Nat × List UInt8)) (x : Nat × List UInt8) : applyL g (l ++ [x]) = (applyL g l).set x.1 x.2 := by simp [applyL]
theorem applyL_length (g : List (List UInt8)) (l : List (Nat × List UInt8)) : (applyL g l).length = g.length := by
 unfold applyL
 induction l generalizing g with
 | nil => rfl
 | cons x r ih => rw [List.foldl_cons, ih, List.length_set]
theorem applyL_sec {g : List (List UInt8)} {l : List (Nat × List UInt8)} (hg : ∀ b ∈ g, b.length = 256) (hl : ∀ x ∈ l, x.2.length = 256) : ∀ b ∈ applyL g l, b.length = 256 := by
 unfold applyL
 induction l generalizing g with
 | nil => exact hg
 | cons x r ih =>
  rw [List.foldl_cons]
  refine ih (fun b hb => ?_) (fun y hy => hl y (List.mem_cons_of_mem _ hy))
  rcases List.mem_or_eq_of_mem_set hb with h | h
  ·exact hg b h
  ·rw [h]; exact hl x (List.mem_cons_self ..)
theorem readL_snoc (b : List UInt8) (l : List (Nat × List UInt8)) (x : Nat × List UInt8) (i : Nat) : readL b (l ++ [x]) i = if x.1 = i then x.2 else readL b l i := by simp [readL]
theorem readL_length {b : List UInt8} {l : List (Nat × List UInt8)} {i : Nat} (hb : b.length = 256) (hl : ∀ x ∈ l, x.2.length = 256) : (readL b l i).length = 256 := by
 unfold readL
 induction l generalizing b with
 | nil => exact hb
 | cons x r ih =>
  rw [List.foldl_cons]
  refine ih ?_ (fun y hy => hl y (List.mem_cons_of_mem _ hy))
  split
  ·exact hl x (List.mem_cons_self ..)
  ·exact hb
theorem DS.ok.set {s : DS} (h : s.ok) (g : List (List UInt8)) (wt : List (Nat × List UInt8)) (on : Bool) (f d : Int) (hg : g.length = s.good.length) (hs : ∀ b ∈ g, b.length = 256) (hw : ∀ x ∈ wt, x.1 < s.good.length ∧ x.2.length = 256) (h0 : -1 ≤ f) (h1 : f ≤ 9223372036854775807) : DS.ok ⟨g, wt, on, f, d⟩ :=
 ⟨by show 8 ≤ g.length; rw [hg]; exact h.lo, by show g.length ≤ 2048; rw [hg]; exact h.hi, hs, fun x hx => by show x.1 < g.length ∧ _; rw [hg]; exact hw x hx, h0, h1⟩
theorem DS.ok.op {s : DS} (h : s.ok) : (opS s).ok := by
 have h0 := h.f0
 have h1 := h.f1
 unfold opS
 split
 ·exact h.set _ _ _ _ _ rfl h.sec h.wt (by omega) (by omega)
 ·refine h.set _ _ _ _ _ rfl h.sec h.wt ?_ ?_
  all_goals (split <;> omega)
theorem DS.ok.settle {s : DS} (h : s.ok) (p : Nat → Bool) : (settleS s p).ok :=
 h.set _ _ _ _ _ (applyL_length _ _) (applyL_sec h.sec fun x hx => (h.wt x (pickU_mem hx)).2) (fun x hx => by cases hx) h.f0 h.f1
theorem DS.ok.crash {s : DS} (h : s.ok) (l : List Bool) : (crS s l).ok := by
 have := h.settle (pkF l)
 exact this.set _ _ _ _ _ rfl this.sec this.wt (by omega) (by omega)
theorem DS.ok.calm {s : DS} (h : s.ok) : (caS s).ok := h.set _ _ _ _ _ rfl h.sec h.wt (by omega) (by omega)
theorem DS.ok.arm {s : DS} (h : s.ok) (n : Int) (hn : n ≤ 9223372036854775807) : (arS s n).ok := by
 unfold arS
 split
 ·exact h
 ·split
  ·exact h
  ·exact h.set _ _ _ _ _ rfl h.sec h.wt (by omega) (by omega)
theorem has_iff {s : DS} {i : Int} : s.has i = true ↔ 0 ≤ i ∧ i < s.good.length := by unfold DS.has; simp
theorem DS.ok.more {s : DS} (h : s.ok) {i : Int} {b : List UInt8} (hi : s.has i = true) (hb : b.length = 256) : DS.ok { s with wait := s.wait ++ [(i.toNat, b)] } := by
 refine h.set _ _ _ _ _ rfl h.sec (fun x hx => ?_) h.f0 h.f1
 rcases List.mem_append.1 hx with hx | hx
 ·exact h.wt x hx
 ·obtain rfl := List.mem_singleton.1 hx
  have := has_iff.1 hi
  exact ⟨by show i.toNat < _; omega, hb⟩
theorem DS.ok.write {s : DS} (h : s.ok) (i : Int) (b : List UInt8) : (wrS s i b).ok := by
 unfold wrS
 split
 ·exact h
 ·rename_i h1
  split
  ·exact h
  ·have h2 : s.has i = true := by
    cases hh : s.has i with
    | true => rfl
    | false => exact absurd (Or.inl hh) h1
   exact (h.more h2 (by
    by_cases e : b.length = 256
    ·exact e
    ·exact absurd (Or.inr e) h1)).op
theorem DS.ok.sync {s : DS} (h : s.ok) : (syS s).ok := by
 unfold syS
 split
 ·exact h
 ·split
  ·exact h.op
  ·exact h.op.settle _
/-! sectors laid flat -/
theorem flat_length {g : List (List UInt8)} (h : ∀ b ∈ g, b.length = 256) : g.flatten.length = 256 * g.length := by
 induction g with
 | nil => rfl
 | cons b r ih =>
  rw [List.flatten_cons, List.length_append, ih (fun x hx => h x (List.mem_cons_of_mem _ hx)), h b (List.mem_cons_self ..), List.length_cons]
  omega
theorem flat_at {g : List (List UInt8)} (h : ∀ b ∈ g, b.length = 256) {i k : Nat} (hi : i < g.length) (hk : k < 256) : g.flatten[256 * i + k]? = (g[i])[k]? := by
 induction g generalizing i with
 | nil => simp at hi
 | cons b r ih =>
  have hb := h b (List.mem_cons_self ..)
  cases i with
  | zero =>
   rw [List.flatten_cons, List.getElem?_append_left (by omega)]
   simp
  | succ i =>
   rw [List.flatten_cons, List.getElem?_append_right (by omega), show 256 * (i + 1) + k - b.length = 256 * i + k by omega, ih (fun x hx => h x (List.mem_cons_of_mem _ hx)) (by simpa using hi)]
   simp
theorem flat_set {g : List (List UInt8)} (h : ∀ b ∈ g, b.length = 256) {i : Nat} (hi : i < g.length) {b : List UInt8} (hb : b.length = 256) : g.flatten.take (256 * i) ++ b ++ g.flatten.drop (256 * i + 256) = (g.set i b).flatten := by
 induction g generalizing i with
 | nil => simp at hi
 | cons x r ih =>
  have hx := h x (List.mem_cons_self ..)
  cases i with
  | zero =>
   rw [List.set_cons_zero, List.flatten_cons, List.flatten_cons]
   rw [List.drop_append, List.drop_eq_nil_of_le (by omega)]
   simp [hx]
  | succ i =>
   rw [List.set_cons_succ, List.flatten_cons, List.flatten_cons, ← ih (fun y hy => h y (List.mem_cons_of_mem _ hy)) (by simpa using hi)]
   rw [List.take_append, List.drop_append, List.take_of_length_le (by omega), List.drop_eq_nil_of_le (show x.length ≤ 256 * (i + 1) + 256 by omega), show 256 * (i + 1) - x.length = 256 * i by omega, show 256 * (i + 1) + 256 - x.length = 256 * i + 256 by omega]
   simp
end Go.Proofs.Ytpajdmbajopofaa
