/-
  SLICES OF INTS; the bytes split into pieces of w bits.
-/
import Derived.Test.YtcbcgegppnojmaaLm1
import Derived.Test.YtcbcgegppnojmaaCov0
namespace Go.Proofs.Ytcbcgegppnojmaa
open Go.RowKit
set_option maxRecDepth 100000
theorem info_int : (Try.prog.info? 3).map (fun i => (i.zero, i.size, i.bytes)) = some (some (.int .i64 0), 1, 8) := by kernel_rfl
def intCells (l : List Nat) : List Value := l.map fun x : Nat => Value.int .i64 (x : Int)
theorem intCells_append (a b : List Nat) : intCells (a ++ b) = intCells a ++ intCells b := by simp [intCells]
theorem intCells_length (a : List Nat) : (intCells a).length = a.length := by simp [intCells]
/-- a slice of ints in memory of its own -/
def OwnI (w : World) (base : Nat) (v : Value) (l : List Nat) : Prop := w.ownsRow base 3 1 v l.length (intCells l)
theorem OwnI.go {w w' : World} {base : Nat} {v : Value} {l : List Nat} (h : OwnI w base v l) (b : Below w.heap.size w w') : OwnI w' base v l := own_step h b
theorem OwnI.base {w : World} {base base' : Nat} {v : Value} {l : List Nat} (h : OwnI w base v l) (hb : base' ≤ base) : OwnI w base' v l := own_mono h hb
theorem OwnI.snoc {w : World} {base : Nat} {v : Value} {l : List Nat} {x : Nat} (h : w.ownsRow base 3 1 v (l.length + 1) (intCells l ++ [.int .i64 (x : Int)])) : OwnI w base v (l ++ [x]) := by
  unfold OwnI intCells
  unfold intCells at h
  simpa using h
theorem OwnI.join {w : World} {base : Nat} {v : Value} {l m : List Nat} (h : w.ownsRow base 3 1 v (l.length + m.length) (intCells l ++ intCells m)) : OwnI w base v (l ++ m) := by
  unfold OwnI
  rw [intCells_append, List.length_append]
  exact h
theorem OwnI.nil (w : World) (base : Nat) : OwnI w base (.slice none 0 0) [] := World.ownsRow_nil _ _ _ _
theorem OwnI.made (w : World) : OwnI (w.alloc (.cells #[] 3)) w.heap.size (.slice (some ⟨w.heap.size, 0, none⟩) 0 0) [] := World.ownsRow_made w #[] 0 (Nat.le_refl _) (Nat.zero_le _) rfl
/-- v is a slice that reads as the numbers l -/
def SI (w : World) (B : Nat) (v : Value) (l : List Nat) : Prop := ∃ a cap, v = .slice a l.length cap ∧ l.length ≤ cap ∧ cap ≤ maxLen ∧ ((a = none ∧ l = []) ∨ ∃ g, a = some ⟨g, 0, none⟩ ∧ g < B ∧ g < w.heap.size ∧ ∀ j (h : j < l.length), w.cell? ⟨g, j, none⟩ = some (.int .i64 ((l[j] : Nat) : Int)))
section
variable {w w' : World} {B : Nat} {v : Value} {l : List Nat}
theorem SI.form (h : SI w B v l) : ∃ a cap, v = .slice a l.length cap ∧ l.length ≤ cap ∧ cap ≤ maxLen := by
  obtain ⟨a, cap, e, h1, h2, _⟩ := h
  exact ⟨a, cap, e, h1, h2⟩
theorem SI.at_ {a : Option Addr} {n cap : Nat} (h : SI w B (.slice a n cap) l) (hl : 0 < l.length) : ∃ g, a = some ⟨g, 0, none⟩ ∧ g < B ∧ g < w.heap.size ∧ ∀ j (h : j < l.length), w.cell? ⟨g, j, none⟩ = some (.int .i64 ((l[j] : Nat) : Int)) := by
  obtain ⟨a', cap', e, _, _, h⟩ := h
  cases e
  rcases h with ⟨_, rfl⟩ | h
  · simp at hl
  · exact h
theorem SI.below (h : SI w B v l) (b : Below B w w') : SI w' B v l := by
  obtain ⟨a, cap, e, h1, h2, h⟩ := h
  refine ⟨a, cap, e, h1, h2, ?_⟩
  rcases h with h | ⟨g, rfl, hg, hg2, h⟩
  · exact .inl h
  · exact .inr ⟨g, rfl, hg, by have := b.size; omega, fun j hj => (b.cell (p := ⟨g, j, none⟩) hg).trans (h j hj)⟩
theorem SI.more {B' : Nat} (h : SI w B v l) (hB : B ≤ B') : SI w B' v l := by
  obtain ⟨a, cap, e, h1, h2, h⟩ := h
  refine ⟨a, cap, e, h1, h2, ?_⟩
  rcases h with h | ⟨g, rfl, hg, hg2, h⟩
  · exact .inl h
  · exact .inr ⟨g, rfl, by omega, hg2, h⟩
theorem SI.go (h : SI w w.heap.size v l) (b : Below w.heap.size w w') : SI w' w'.heap.size v l := (h.below b).more b.size
theorem SI.of_own {base : Nat} (h : OwnI w base v l) : SI w w.heap.size v l := by
  rcases h with ⟨_, ⟨rfl, h0⟩ | ⟨g, cap, cur, rfl, _, hgb, hc, hc2, hs, ht⟩⟩
  · obtain rfl : l = [] := List.eq_nil_of_length_eq_zero h0
    exact ⟨none, 0, rfl, Nat.le_refl _, Nat.zero_le _, .inl ⟨rfl, rfl⟩⟩
  · have hlt := Array.getElem?_eq_some_iff.1 hgb
    refine ⟨some ⟨g, 0, none⟩, cap, rfl, hc, hc2, .inr ⟨g, rfl, hlt.1, hlt.1, fun j hj => ?_⟩⟩
    have h2 : cur[j]? = some (.int .i64 ((l[j] : Nat) : Int)) := by
      have e : (cur.toList.take (l.length * 1))[j]? = (l.map fun x : Nat => Value.int .i64 (x : Int))[j]? := by rw [ht]; rfl
      rw [List.getElem?_take_of_lt (by omega), Array.getElem?_toList] at e
      rw [e]
      simp [hj]
    simpa [World.cell?, hgb] using h2
/-- its first elements -/
theorem SI.take {g n cap : Nat} (h : SI w B (.slice (some ⟨g, 0, none⟩) n cap) l) (p : Nat) (hp : p ≤ l.length) : SI w B (.slice (some ⟨g, 0, none⟩) p cap) (l.take p) := by
  obtain ⟨a, c, e, h1, h2, h⟩ := h
  cases e
  have hl : (l.take p).length = p := by rw [List.length_take]; omega
  refine ⟨_, cap, by rw [hl], by omega, h2, ?_⟩
  rcases h with ⟨h, _⟩ | ⟨g', e, hg, hg2, h⟩
  · cases h
  · cases e
    refine .inr ⟨g, rfl, hg, hg2, fun j hj => ?_⟩
    rw [List.getElem_take]
    exact h j (by omega)
end
/-- one element of eight bytes: the walk has laid it in a new block of one cell -/
theorem wp_append1i {P : Program} {ops : Array Oper} {rest : List Oper} {o : Oper} {a : Act} {Q : Exit → Act → World → Prop} (w : World) (t e : TypeId) (i0 : TypeInfo) (z : Value) (ht : P.underlying t = some (.slice e)) (hi : P.info? e = some i0) (hz : i0.zero = some z) (hsz : i0.size = 1) (hby : i0.bytes = 8) (hzc : z.cells.size = 1)
    (hgd : o.guard = none) (s x : Operand) (ho : o.op = .call { callee := .builtin .append, args := #[s, x], argTypes := #[t, t] })
    {base : Nat} {v : Value} {n : Nat} {xs : List Value} {u : Value} (hown : w.ownsRow base e 1 v n xs) (hs : a.eval s = v) (hx : a.eval x = .slice (some ⟨w.heap.size, 0, none⟩) 1 1)
    (hu : u.oneCell' = true) (hlen : n + 1 ≤ 1099511627776) (hbase : base ≤ w.heap.size)
    (h : ∀ v' w', w'.ownsRow base e 1 v' (n + 1) (xs ++ [u]) → (w.alloc (.cells #[u] e)).grownBy w' v.ownBlock → (∀ B, B ≤ base → Below B w w') → wpList P ops Q rest (a.put o.dst v') w') :
    wpList P ops Q (o :: rest) a (w.alloc (.cells #[u] e)) := by
  refine wpList_append_own (w.alloc (.cells #[u] e)) hgd s x t ho base e i0 z 1 8 ht hi hz hsz hby hzc (by decide) v n xs hs (hown.alloc _) ⟨w.heap.size, 0, none⟩ 1 1 [u] hx rfl ?_ (by simpa using hu) (by unfold maxLen; omega) (by omega) (by simp; omega) ?_
  · intro j y hj
    match j, hj with
    | 0, hj =>
      simp at hj; subst hj
      rw [addr_add, cell_of_row _ _ _ _ _ _ (heap_alloc_new w _)]
      rfl
    | (j + 1), hj => simp at hj
  · intro v' w' ho' hg _
    refine h v' w' ho' hg fun B hB => ?_
    exact (((Below.refl B w).alloc (by omega) _).grown hg (by simp; omega) (fun k hk => by have := (hown.lt k hk).1; omega))
/-! the pieces of w bits -/
def dg (w : Nat) (x : UInt8) : List Nat := (List.range (8 / w)).map fun j => x.toNat / 2 ^ (8 - w * (j + 1)) % 2 ^ w
def pcs (w : Nat) (bs : List UInt8) : List Nat := bs.flatMap (dg w)
theorem dg_length (w : Nat) (x : UInt8) : (dg w x).length = 8 / w := by simp [dg]
theorem pcs_snoc (w : Nat) (bs : List UInt8) (b : UInt8) : pcs w (bs ++ [b]) = pcs w bs ++ dg w b := by simp [pcs]
theorem pcs_length (w : Nat) (bs : List UInt8) : (pcs w bs).length = 8 / w * bs.length := by
  induction bs with
  | nil => simp [pcs]
  | cons b r ih =>
    simp only [pcs, List.flatMap_cons, List.length_append, List.length_cons] at ih ⊢
    rw [dg_length, ih, Nat.mul_add]; omega
theorem dg_take (w : Nat) (x : UInt8) (j : Nat) (h : j < 8 / w) : (dg w x).take (j + 1) = (dg w x).take j ++ [x.toNat / 2 ^ (8 - w * (j + 1)) % 2 ^ w] := by
  rw [take_snoc _ _ (by rw [dg_length]; exact h)]
  simp [dg]
theorem dg_lt (w : Nat) (x : UInt8) : ∀ d ∈ dg w x, d < 2 ^ w := by
  intro d hd
  simp only [dg, List.mem_map] at hd
  obtain ⟨j, _, rfl⟩ := hd
  exact Nat.mod_lt _ (Nat.two_pow_pos w)
theorem pcs_lt (w : Nat) (bs : List UInt8) : ∀ d ∈ pcs w bs, d < 2 ^ w := by
  intro d hd
  obtain ⟨x, _, hx⟩ := List.mem_flatMap.1 hd
  exact dg_lt w x d hx
/-- what is left of a byte behind j pieces -/
def lft (w : Nat) (x : UInt8) (j : Nat) : Nat := x.toNat * 2 ^ (w * j) % 256
theorem lft_lt (w : Nat) (x : UInt8) (j : Nat) : lft w x j < 256 := Nat.mod_lt _ (by decide)
theorem lft_zero (w : Nat) (x : UInt8) : lft w x 0 = x.toNat := by
  have := x.toNat_lt
  unfold lft
  rw [Nat.mul_zero, Nat.pow_zero, Nat.mul_one]
  omega
theorem lft_step (w : Nat) (x : UInt8) (j : Nat) : lft w x j * 2 ^ w % 256 = lft w x (j + 1) := by
  unfold lft
  rw [Nat.mod_mul_mod, Nat.mul_assoc, ← Nat.pow_add, Nat.mul_add, Nat.mul_one]
def wOk (w : Nat) : Prop := w = 1 ∨ w = 2 ∨ w = 4 ∨ w = 8
theorem lft_piece (w : Nat) (hw : wOk w) (x : UInt8) (j : Nat) (h : j < 8 / w) : lft w x j / 2 ^ (8 - w) = x.toNat / 2 ^ (8 - w * (j + 1)) % 2 ^ w := by
  have hx := x.toNat_lt
  unfold lft
  have key : ∀ w ∈ [1, 2, 4, 8], ∀ j : Fin 8, j.val < 8 / w → ∀ n : Fin 256, n.val * 2 ^ (w * j.val) % 256 / 2 ^ (8 - w) = n.val / 2 ^ (8 - w * (j.val + 1)) % 2 ^ w := by decide +kernel
  have hm : w ∈ [1, 2, 4, 8] := by unfold wOk at hw; simpa using hw
  have h8 : j < 8 := by
    have : 8 / w ≤ 8 := Nat.div_le_self _ _
    omega
  exact key w hm ⟨j, h8⟩ h ⟨x.toNat, hx⟩
/-- ints of its own are handed back -/
def IntsIs (w : World) (l : List Nat) (e : Ending) (w' : World) : Prop := ∃ v, e = .returned v ∧ OwnI w' w.heap.size v l ∧ Below w.heap.size w w'
end Go.Proofs.Ytcbcgegppnojmaa
