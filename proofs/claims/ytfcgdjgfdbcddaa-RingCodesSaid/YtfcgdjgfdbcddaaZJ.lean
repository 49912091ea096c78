import Derived.Test.YtfcgdjgfdbcddaaZB
import Derived.BigQuiet
import Derived.Test.YtfcgdjgfdbcddaaZI
import Derived.Test.YtfcgdjgfdbcddaaZH
/-
 SLICES OF INTS.
-/
namespace Go.Proofs.Ytfcgdjgfdbcddaa
open Go.RowKit
set_option maxRecDepth 100000
theorem info_int : (Try.prog.info? 3).map (fun i => (i.zero, i.size, i.bytes)) = some (some (.int .i64 0), 1, 8) := by kernel_rfl
def intCells (l : List Nat) : List Value := l.map fun x : Nat => Value.int .i64 (x : Int)
theorem intCells_append (a b : List Nat) : intCells (a ++ b) = intCells a ++ intCells b := by simp [intCells]
theorem intCells_length (a : List Nat) : (intCells a).length = a.length := by simp [intCells]
/-- a slice of ints in memory of its own -/
def OwnI (w : World) (base : Nat) (v : Value) (l : List Nat) : Prop := w.ownsRow base 3 1 v l.length (intCells l)
theorem OwnI.go {w w' : World} {base : Nat} {v : Value} {l : List Nat} (h : OwnI w base v l) (b : Below w.heap.size w w') : OwnI w' base v l := own_step h b
theorem OwnI.base {w : World} {base base' : Nat} {v : Value} {l : List Nat} (h : OwnI w base v l) (hb : base' ≤ base) : OwnI w base' v l := own_mono h hb
theorem OwnI.snoc {w : World} {base : Nat} {v : Value} {l : List Nat} {x : Nat} (h : w.ownsRow base 3 1 v (l.length + 1) (intCells l ++ [.int .i64 (x : Int)])) : OwnI w base v (l ++ [x]) := by
 unfold OwnI intCells
 unfold intCells at h
 simpa using h
theorem OwnI.join {w : World} {base : Nat} {v : Value} {l m : List Nat} (h : w.ownsRow base 3 1 v (l.length + m.length) (intCells l ++ intCells m)) : OwnI w base v (l ++ m) := by
 unfold OwnI
 rw [intCells_append, List.length_append]
 exact h
theorem OwnI.nil (w : World) (base : Nat) : OwnI w base (.slice none 0 0) [] := World.ownsRow_nil _ _ _ _
theorem OwnI.made (w : World) : OwnI (w.alloc (.cells #[] 3)) w.heap.size (.slice (some ⟨w.heap.size, 0, none⟩) 0 0) [] := World.ownsRow_made w #[] 0 (Nat.le_refl _) (Nat.zero_le _) rfl
/-- v is a slice that reads as the numbers l -/
def SI (w : World) (B : Nat) (v : Value) (l : List Nat) : Prop := ∃ a cap, v = .slice a l.length cap ∧ l.length ≤ cap ∧ cap ≤ maxLen ∧ ((a = none ∧ l = []) ∨ ∃ g, a = some ⟨g, 0, none⟩ ∧ g < B ∧ g < w.heap.size ∧ ∀ j (h : j < l.length), w.cell? ⟨g, j, none⟩ = some (.int .i64 ((l[j] : Nat) : Int)))
section
variable {w w' : World} {B : Nat} {v : Value} {l : List Nat}
theorem SI.form (h : SI w B v l) : ∃ a cap, v = .slice a l.length cap ∧ l.length ≤ cap ∧ cap ≤ maxLen := by
 obtain ⟨a, cap, e, h1, h2, _⟩ := h
 exact ⟨a, cap, e, h1, h2⟩
theorem SI.at_ {a : Option Addr} {n cap : Nat} (h : SI w B (.slice a n cap) l) (hl : 0 < l.length) : ∃ g, a = some ⟨g, 0, none⟩ ∧ g < B ∧ g < w.heap.size ∧ ∀ j (h : j < l.length), w.cell? ⟨g, j, none⟩ = some (.int .i64 ((l[j] : Nat) : Int)) := by
 obtain ⟨a', cap', e, _, _, h⟩ := h
 cases e
 rcases h with ⟨_, rfl⟩ | h
 ·simp at hl
 ·exact h
theorem SI.below (h : SI w B v l) (b : Below B w w') : SI w' B v l := by
 obtain ⟨a, cap, e, h1, h2, h⟩ := h
 refine ⟨a, cap, e, h1, h2, ?_⟩
 rcases h with h | ⟨g, rfl, hg, hg2, h⟩
 ·exact .inl h
 ·exact .inr ⟨g, rfl, hg, by have := b.size; omega, fun j hj => (b.cell (p := ⟨g, j, none⟩) hg).trans (h j hj)⟩
theorem SI.more {B' : Nat} (h : SI w B v l) (hB : B ≤ B') : SI w B' v l := by
 obtain ⟨a, cap, e, h1, h2, h⟩ := h
 refine ⟨a, cap, e, h1, h2, ?_⟩
 rcases h with h | ⟨g, rfl, hg, hg2, h⟩
 ·exact .inl h
 ·exact .inr ⟨g, rfl, by omega, hg2, h⟩
theorem SI.go (h : SI w w.heap.size v l) (b : Below w.heap.size w w') : SI w' w'.heap.size v l := (h.below b).more b.size
theorem SI.of_own {base : Nat} (h : OwnI w base v l) : SI w w.heap.size v l := by
 rcases h with ⟨_, ⟨rfl, h0⟩ | ⟨g, cap, cur, rfl, _, hgb, hc, hc2, hs, ht⟩⟩
 ·obtain rfl : l = [] := List.eq_nil_of_length_eq_zero h0
  exact ⟨none, 0, rfl, Nat.le_refl _, Nat.zero_le _, .inl ⟨rfl, rfl⟩⟩
 ·have hlt := Array.getElem?_eq_some_iff.1 hgb
  refine ⟨some ⟨g, 0, none⟩, cap, rfl, hc, hc2, .inr ⟨g, rfl, hlt.1, hlt.1, fun j hj => ?_⟩⟩
  have h2 : cur[j]? = some (.int .i64 ((l[j] : Nat) : Int)) := by
   have e : (cur.toList.take (l.length * 1))[j]? = (l.map fun x : Nat => Value.int .i64 (x : Int))[j]? := by rw [ht]; rfl
   rw [List.getElem?_take_of_lt (by omega), Array.getElem?_toList] at e
   rw [e]
   simp [hj]
  simpa [World.cell?, hgb] using h2
/-- its first elements -/
theorem SI.take {g n cap : Nat} (h : SI w B (.slice (some ⟨g, 0, none⟩) n cap) l) (p : Nat) (hp : p ≤ l.length) : SI w B (.slice (some ⟨g, 0, none⟩) p cap) (l.take p) := by
 obtain ⟨a, c, e, h1, h2, h⟩ := h
 cases e
 have hl : (l.take p).length = p := by rw [List.length_take]; omega
 refine ⟨_, cap, by rw [hl], by omega, h2, ?_⟩
 rcases h with ⟨h, _⟩ | ⟨g', e, hg, hg2, h⟩
 ·cases h
 ·cases e
  refine .inr ⟨g, rfl, hg, hg2, fun j hj => ?_⟩
  rw [List.getElem_take]
  exact h j (by omega)
end
/-- one element of eight bytes: the walk has laid it in a new block of one cell -/
theorem wp_append1i {P : Program} {ops : Array Oper} {rest : List Oper} {o : Oper} {a : Act} {Q : Exit → Act → World → Prop} (w : World) (t e : TypeId) (i0 : TypeInfo) (z : Value) (ht : P.underlying t = some (.slice e)) (hi : P.info? e = some i0) (hz : i0.zero = some z) (hsz : i0.size = 1) (hby : i0.bytes = 8) (hzc : z.cells.size = 1)
  (hgd : o.guard = none) (s x : Operand) (ho : o.op = .call { callee := .builtin .append, args := #[s, x], argTypes := #[t, t] })
  {base : Nat} {v : Value} {n : Nat} {xs : List Value} {u : Value} (hown : w.ownsRow base e 1 v n xs) (hs : a.eval s = v) (hx : a.eval x = .slice (some ⟨w.heap.size, 0, none⟩) 1 1)
  (hu : u.oneCell' = true) (hlen : n + 1 ≤ 1099511627776) (hbase : base ≤ w.heap.size)
  (h : ∀ v' w', w'.ownsRow base e 1 v' (n + 1) (xs ++ [u]) → (w.alloc (.cells #[u] e)).grownBy w' v.ownBlock → (∀ B, B ≤ base → Below B w w') → wpList P ops Q rest (a.put o.dst v') w') :
  wpList P ops Q (o :: rest) a (w.alloc (.cells #[u] e)) := by
 refine wpList_append_own (w.alloc (.cells #[u] e)) hgd s x t ho base e i0 z 1 8 ht hi hz hsz hby hzc (by decide) v n xs hs (hown.alloc _) ⟨w.heap.size, 0, none⟩ 1 1 [u] hx rfl ?_ (by simpa using hu) (by unfold maxLen; omega) (by omega) (by simp; omega) ?_
 ·intro j y hj
  match j, hj with
  | 0, hj =>
   simp at hj; subst hj
   rw [addr_add, cell_of_row _ _ _ _ _ _ (heap_alloc_new w _)]
   rfl
  | (j + 1), hj => simp at hj
 ·intro v' w' ho' hg _
  refine h v' w' ho' hg fun B hB => ?_
  exact (((Below.refl B w).alloc (by omega) _).grown hg (by simp; omega) (fun k hk => by have := (hown.lt k hk).1; omega))
/-- several ints: what lies in another slice, or in none -/
theorem wp_appendI {P : Program} {ops : Array Oper} {rest : List Oper} {o : Oper} {a : Act} {Q : Exit → Act → World → Prop} (w : World) (t e : TypeId) (i0 : TypeInfo) (z : Value) (ht : P.underlying t = some (.slice e)) (hi : P.info? e = some i0) (hz : i0.zero = some z) (hsz : i0.size = 1) (hby : i0.bytes = 8) (hzc : z.cells.size = 1)
  (hgd : o.guard = none) (s x : Operand) (ho : o.op = .call { callee := .builtin .append, args := #[s, x], argTypes := #[t, t] })
  {base n : Nat} {v : Value} {xs : List Value} {g m c : Nat} {us : List Value} (hown : w.ownsRow base e 1 v n xs) (hs : a.eval s = v) (hx : a.eval x = .slice (some ⟨g, 0, none⟩) m c) (hus : us.length = m)
  (hc : ∀ j u, us[j]? = some u → w.cell? ⟨g, j, none⟩ = some u) (hu : ∀ u ∈ us, u.oneCell' = true) (hlen : n + m ≤ 1099511627776) (hbase : base ≤ w.heap.size)
  (h : ∀ v' w', w'.ownsRow base e 1 v' (n + m) (xs ++ us) → (∀ B, B ≤ base → Below B w w') → wpList P ops Q rest (a.put o.dst v') w') :
  wpList P ops Q (o :: rest) a w := by
 refine wpList_append_own w hgd s x t ho base e i0 z 1 8 ht hi hz hsz hby hzc (by decide) v n xs hs hown ⟨g, 0, none⟩ m c us hx (by omega) ?_ hu (by unfold maxLen; omega) (by omega) hbase ?_
 ·intro j y hj
  rw [addr_add, Nat.zero_add]
  exact hc j y hj
 ·intro v' w' ho' hg _
  refine h v' w' ho' fun B hB => ?_
  exact (Below.refl B w).grown hg (by omega) (fun k hk => by have := (hown.lt k hk).1; omega)
theorem intCells_one (l : List Nat) : ∀ u ∈ intCells l, u.oneCell' = true := by
 intro u hu
 simp only [intCells, List.mem_map] at hu
 obtain ⟨x, _, rfl⟩ := hu
 rfl
theorem intCells_get (l : List Nat) (j : Nat) (u : Value) (h : (intCells l)[j]? = some u) : ∃ hj : j < l.length, u = .int .i64 ((l[j] : Nat) : Int) := by
 unfold intCells at h
 rw [List.getElem?_map] at h
 obtain ⟨y, hy, rfl⟩ := Option.map_eq_some_iff.1 h
 obtain ⟨hj, rfl⟩ := List.getElem?_eq_some_iff.1 hy
 exact ⟨hj, rfl⟩
theorem SI.cells {w : World} {B g n c : Nat} {l : List Nat} (h : SI w B (.slice (some ⟨g, 0, none⟩) n c) l) : ∀ j u, (intCells l)[j]? = some u → w.cell? ⟨g, j, none⟩ = some u := by
 intro j u hj
 obtain ⟨hl, rfl⟩ := intCells_get l j u hj
 obtain ⟨g', e, _, _, hc⟩ := h.at_ (by omega)
 cases e
 exact hc j hl
/-- what is not empty lies somewhere -/
theorem OwnI.addr {w : World} {base : Nat} {v : Value} {l : List Nat} (h : OwnI w base v l) (hl : 0 < l.length) : ∃ g cap, v = .slice (some ⟨g, 0, none⟩) l.length cap := by
 rcases h with ⟨_, ⟨_, h0⟩ | ⟨g, cap, cur, rfl, _⟩⟩
 ·omega
 ·exact ⟨g, cap, rfl⟩
theorem OwnI.one (w : World) (x : Nat) : (w.alloc (.cells #[.int .i64 (x : Int)] 3)).ownsRow w.heap.size 3 1 (.slice (some ⟨w.heap.size, 0, none⟩) 1 1) 1 [.int .i64 (x : Int)] :=
 ⟨rfl, .inr ⟨w.heap.size, 1, #[.int .i64 (x : Int)], rfl, Nat.le_refl _, heap_alloc_new w _, Nat.le_refl _, by unfold maxLen; omega, rfl, rfl⟩⟩
theorem below_drewN10 {B : Nat} {a w : World} (h : Below B a w) (n : Nat) : Below B a (w.drewN n) := ⟨h.os, h.tape, h.output, h.size, h.block⟩
/-- ints are handed back, in memory of their own -/
def IntsIs (w : World) (l : List Nat) (e : Ending) (w' : World) : Prop := ∃ v, e = .returned v ∧ OwnI w' w.heap.size v l ∧ Below w.heap.size w w'
end Go.Proofs.Ytfcgdjgfdbcddaa

/-
 THE DOCUMENT'S OWN numbers.
-/
namespace Go.Proofs.Ytfcgdjgfdbcddaa
open Go.RowKit
set_option maxRecDepth 100000
/-- the first k coefficients -/
def decL (d V k : Nat) : List Nat := (List.range k).map (decN d V)
theorem decL_length (d V k : Nat) : (decL d V k).length = k := by simp [decL]
theorem decL_snoc (d V k : Nat) : decL d V (k + 1) = decL d V k ++ [decN d V k] := by
 unfold decL
 rw [List.range_succ, List.map_append]
 rfl
theorem decL_get (d V k i : Nat) (h : i < (decL d V k).length) : (decL d V k)[i] = decN d V i := by simp [decL]
theorem bit_step (X j : Nat) : X % 2 ^ (j + 1) = if X.testBit j = true then X % 2 ^ j + 2 ^ j else X % 2 ^ j := by
 rw [Nat.testBit_eq_decide_div_mod_eq, Nat.mod_pow_succ]
 by_cases h : X / 2 ^ j % 2 = 1
 ·rw [h, if_pos (decide_eq_true rfl), Nat.mul_one]
 ·rw [show X / 2 ^ j % 2 = 0 by omega, if_neg (by decide), Nat.mul_zero, Nat.add_zero]
theorem testBit_div (V s j : Nat) : (V / 2 ^ s).testBit j = V.testBit (s + j) := by
 rw [Nat.testBit_eq_decide_div_mod_eq, Nat.testBit_eq_decide_div_mod_eq, Nat.div_div_eq_div_mul, ← Nat.pow_add]
set_option maxHeartbeats 2000000 in
theorem refNumbers_any (d : Nat) (hd : 1 ≤ d ∧ d ≤ 12) (B : Nat) (v : Value) (bs : List UInt8) (hl : bs.length = 32 * d) (w : World) (hs : Sl w B v bs) (hB : B ≤ w.heap.size) : Calls Try.prog 54 #[.int .i64 (d : Int), v] w (IntsIs w (decL d (litN bs) 256)) := by
 obtain ⟨i0, hi, hz0, hz1, hz2⟩ := info_parts info_int
 unfold IntsIs
 generalize hN : w.heap.size = N at *
 obtain ⟨V, hV⟩ : ∃ V, Shh (V = litN bs) := ⟨_, ⟨rfl⟩⟩
 have HBI : Shh (Calls Try.prog 56 #[v] w (OwnB w (bitN V (256 * d)))) := ⟨by
  rw [hV.out, show 256 * d = 8 * bs.length by omega, ← bitsL_bitN]
  exact refBits_any B v bs w hs (by omega) (by omega)⟩
 rw [← hV.out]
 have HD := Shh.mk hd
 clear hV hd hl hB hs
 go_enter Try.func54, Try.ntmps54
 go_wp2_with (go_at_call 56; refine (HBI.out).mono ?_)
 rintro e w2 ⟨vb, rfl, ho, hb⟩
 obtain ⟨M, hM⟩ : ∃ M, w2.heap.size = M := ⟨_, rfl⟩
 have hsl : Slb w2 M vb (bitN V (256 * d)) := by rw [← hM]; exact Slb.of_own (by rw [hN] at ho; exact ho)
 have hNM : N ≤ M := by have := hb.size; omega
 obtain ⟨A, c, rfl, hcl, _⟩ := hsl.form
 obtain ⟨g, off, rfl, hg, hcc⟩ := hsl.at_ (by rw [bitN_length]; have := HD.out; omega)
 have HCC : Shh (∀ t, t < 256 * d → w2.cell? ⟨g, off + t, none⟩ = some (.bool (V.testBit t))) := ⟨fun t ht => by rw [hcc t (by rw [bitN_length]; exact ht), bitN_get]⟩
 have HGM := Shh.mk hg
 have HBN : Shh (Below N w w2) := ⟨by rw [← hN]; exact hb⟩
 clear hsl ho hb hcc hcl hg HBI
 rw [bitN_length]
 obtain ⟨L, HL⟩ : ∃ L, Shh (L = 256 * d) := ⟨_, ⟨rfl⟩⟩
 rw [← HL.out] at HCC ⊢
 have HMD : Shh (OwnI (w2.alloc (.cells #[] 3)) M (.slice (some ⟨w2.heap.size, 0, none⟩) 0 0) (decL d V 0) ∧ Below M w2 (w2.alloc (.cells #[] 3))) := ⟨by rw [← hM]; exact OwnI.made w2, by rw [← hM]; exact bel1 _ _⟩
 try rw [hM] at HMD
 go_wp2
 go_loopw [6, 7] (fun o i wr => ∃ k I : Nat, k ≤ 256 ∧ Shh (I = d * k) ∧ i = .int .i64 (I : Int) ∧ Shh (OwnI wr M o (decL d V k) ∧ Below M w2 wr)) (fun _ i _ => L - (intOf i).toNat)
 case atStart => exact ⟨0, 0, Nat.zero_le _, ⟨by rw [Nat.mul_zero]⟩, rfl, HMD⟩
 case round =>
  clear HMD
  obtain ⟨k, I, hk, HI1, rfl, HI⟩ := hrel
  by_cases hlt : k < 256
  ·have hIL : I + d ≤ L := by
    have h2 : d * (k + 1) ≤ d * 256 := Nat.mul_le_mul_left _ (by omega)
    rw [Nat.mul_succ] at h2
    have h3 := HL.out
    have h4 := HI1.out
    omega
   have hL4 : L ≤ 4096 := by have := HL.out; have := HD.out; omega
   have hd1 : 1 ≤ d := HD.out.1
   have hlt2 : (I : Int) < (L : Int) := by omega
   obtain ⟨E, HE⟩ : ∃ E, Shh (E = I + d ∧ E ≤ 1000000000000) := ⟨_, ⟨rfl, by omega⟩⟩
   obtain ⟨X, HX⟩ : ∃ X, Shh (X = V / 2 ^ I) := ⟨_, ⟨rfl⟩⟩
   have HW : Shh (∀ j, j ≤ d → 2 ^ j ≤ 4096) := ⟨fun j hj => Nat.le_trans (Nat.pow_le_pow_right (by decide) (show j ≤ 12 by have := HD.out; omega)) (by decide)⟩
   go_wp2
   go_loopw [8, 9, 10] (fun n p t wq => ∃ j T : Nat, j ≤ d ∧ Shh (T = I + j) ∧ t = .int .i64 (T : Int) ∧ n = .int .i64 ((X % 2 ^ j : Nat) : Int) ∧ p = .int .i64 ((2 ^ j : Nat) : Int) ∧ wq = wr) (fun _ _ t _ => E - (intOf t).toNat)
   case atStart => exact ⟨0, I, Nat.zero_le _, ⟨by omega⟩, rfl, by rw [Nat.pow_zero, Nat.mod_one]; rfl, rfl, rfl⟩
   case round =>
    obtain ⟨j, T, hj, HT, rfl, rfl, rfl, hwr⟩ := hrel
    subst hwr
    by_cases hjt : j < d
    ·have hTE : (T : Int) < (E : Int) := by have := HT.out; have := HE.out; omega
     have hTL : T < L := by have := HT.out; omega
     have hTL2 : (T : Int) < (L : Int) := by omega
     have c1 := HCC.out T hTL
     have c2 : wr.cell? ⟨g, off + T, none⟩ = some (.bool (X.testBit j)) := by
      rw [HX.out, testBit_div, ← HT.out]
      exact (HI.out.2.cell (p := ⟨g, off + T, none⟩) HGM.out).trans c1
     have hst := bit_step X j
     have e1 := HW.out (j + 1) (by omega)
     have e2 : X % 2 ^ j < 2 ^ j := Nat.mod_lt _ (Nat.two_pow_pos j)
     rw [Nat.pow_succ] at e1
     obtain ⟨P, HP⟩ : ∃ P, Shh (P = 2 ^ j) := ⟨_, ⟨rfl⟩⟩
     obtain ⟨x, Hx⟩ : ∃ x, Shh (x = X % 2 ^ j) := ⟨_, ⟨rfl⟩⟩
     rw [← Hx.out, ← HP.out] at hst e2 ⊢
     rw [← HP.out] at e1
     obtain ⟨P2, HP2⟩ : ∃ P2, Shh (P2 = P * 2 ∧ P2 ≤ 1000000000000) := ⟨_, ⟨rfl, by omega⟩⟩
     obtain ⟨T1, HT1⟩ : ∃ T1, Shh (T1 = T + 1 ∧ T1 ≤ 1000000000000) := ⟨_, ⟨rfl, by omega⟩⟩
     obtain ⟨y, Hy⟩ : ∃ y, Shh (y = x + P ∧ y ≤ 1000000000000) := ⟨_, ⟨rfl, by omega⟩⟩
     have HR : Shh (P2 = 2 ^ (j + 1) ∧ T1 = I + (j + 1)) := ⟨by rw [HP2.out.1, HP.out, Nat.pow_succ], by have := HT.out; have := HT1.out; omega⟩
     clear e1 e2 c1
     cases hbit : X.testBit j
     ·rw [hbit] at c2 hst
      have HS := Shh.mk hst
      clear hbit hst
      go_wp2_with (first | refine wl_at 25 rfl (.int .i64 (E : Int)) rfl (add_ii (i := I) (j := d) HE.out rfl rfl rfl) ?_ | refine wl_at 37 rfl (.int .i64 (P2 : Int)) rfl (mul_iin (i := P) (j := 2) HP2.out.1 HP2.out.2 rfl rfl rfl) ?_ | refine wl_at 28 rfl (.int .i64 (T1 : Int)) rfl (add_ii (i := T) (j := 1) HT1.out rfl rfl rfl) ?_)
      go_roundw
      case rel => exact ⟨j + 1, T1, by omega, ⟨HR.out.2⟩, rfl, by rw [HS.out]; rfl, by rw [HR.out.1], trivial⟩
      case measure => (have := HT1.out; simp [intOf]; omega)
     ·rw [hbit] at c2 hst
      have HS := Shh.mk hst
      clear hbit hst
      go_wp2_with (first | refine wl_at 25 rfl (.int .i64 (E : Int)) rfl (add_ii (i := I) (j := d) HE.out rfl rfl rfl) ?_ | refine wl_at 35 rfl (.int .i64 (y : Int)) rfl (add_ii (i := x) (j := P) Hy.out rfl rfl rfl) ?_ | refine wl_at 37 rfl (.int .i64 (P2 : Int)) rfl (mul_iin (i := P) (j := 2) HP2.out.1 HP2.out.2 rfl rfl rfl) ?_ | refine wl_at 28 rfl (.int .i64 (T1 : Int)) rfl (add_ii (i := T) (j := 1) HT1.out rfl rfl rfl) ?_)
      go_roundw
      case rel => exact ⟨j + 1, T1, by omega, ⟨HR.out.2⟩, rfl, by rw [HS.out, if_pos rfl, ← Hy.out.1], by rw [HR.out.1], trivial⟩
      case measure => (have := HT1.out; simp [intOf]; omega)
    ·have hTE : ¬ (T : Int) < (E : Int) := by have := HT.out; have := HE.out; omega
     obtain ⟨x, Hx⟩ : ∃ x, Shh (x = X % 2 ^ j ∧ x = decN d V k) := ⟨_, ⟨rfl, by rw [show j = d by omega, HX.out, HI1.out]; rfl⟩⟩
     rw [← Hx.out.1]
     have hown := HI.out.1
     have hbw := HI.out.2
     unfold OwnI at hown
     rw [decL_length] at hown
     have hsz : M ≤ wr.heap.size := by have := hbw.size; omega
     have hml : k + 1 ≤ 1099511627776 := by omega
     clear HI
     go_wp2_with (first | refine wl_at 25 rfl (.int .i64 (E : Int)) rfl (add_ii (i := I) (j := d) HE.out rfl rfl rfl) ?_ | (at_builtin; refine wp_append1i _ 59 3 i0 (.int .i64 0) Try.underlying59 hi hz0 hz1 hz2 rfl rfl _ _ rfl hown rfl rfl rfl hml hsz ?_))
     intro v' w3 hown2 _ hb1
     have HO : Shh (OwnI w3 M v' (decL d V (k + 1)) ∧ Below M w2 w3) := by
      refine ⟨?_, hbw.trans (hb1 M (Nat.le_refl _))⟩
      rw [decL_snoc, ← Hx.out.2]
      refine OwnI.snoc ?_
      rw [decL_length]
      exact hown2
     clear hown hown2 hb1 hbw hsz hml
     go_wp2_with (refine wl_at 20 rfl (.int .i64 (E : Int)) rfl (add_ii (i := I) (j := d) HE.out rfl rfl rfl) ?_)
     go_roundw
     case rel => exact ⟨k + 1, E, by omega, ⟨by rw [Nat.mul_succ]; have := HE.out; have := HI1.out; omega⟩, rfl, HO⟩
     case measure => (have := HE.out; simp [intOf]; omega)
  ·have hlt2 : ¬ (I : Int) < (L : Int) := by
    have h3 := HL.out
    have h4 := HI1.out
    rw [show k = 256 by omega] at h4
    omega
   have HO : Shh (OwnI wr N u6 (decL d V 256) ∧ Below N w wr) := by
    have h := HI.out
    rw [show k = 256 by omega] at h
    exact ⟨h.1.base hNM, HBN.out.trans (h.2.mono hNM)⟩
   clear HI
   go_wp2
   go_ret
   exact ⟨_, rfl, HO.out.1, HO.out.2⟩
end Go.Proofs.Ytfcgdjgfdbcddaa

/-
 THE DOCUMENT'S OWN Decode, Canon.
-/
namespace Go.Proofs.Ytfcgdjgfdbcddaa
open Go.RowKit
set_option maxRecDepth 100000
set_option maxHeartbeats 2000000 in
theorem refDecode_12 (d : Nat) (hd : 1 ≤ d ∧ d ≤ 12) (h12 : d = 12) (B : Nat) (v : Value) (bs : List UInt8) (hl : bs.length = 32 * d) (w : World) (hs : Sl w B v bs) (hB : B ≤ w.heap.size) : Calls Try.prog 35 #[.int .i64 (d : Int), v] w (CodeIs w (decF d (litN bs)) 0) := by
 unfold CodeIs polyV
 generalize hN : w.heap.size = N at *
 have i1 : ¬ (d : Int) < 1 := by omega
 have i2 : ¬ (12 : Int) < (d : Int) := by omega
 have i3 : (bs.length : Int) ≤ 32 * (d : Int) := by omega
 have i4 : 32 * (d : Int) ≤ (bs.length : Int) := by omega
 obtain ⟨W, hW⟩ : ∃ W, W = (w.alloc (.cells (pc fun _ => 0).toArray 24)).alloc (.cells (pc fun _ => 0).toArray 24) := ⟨_, rfl⟩
 have HW : Shh (Row W N 24 (pc fun _ => 0) ∧ Row W (N + 1) 24 (pc (fun _ => 0)) ∧ Below N w W) := by
  refine ⟨by rw [hW]; exact (Row.new_ hN.symm rfl).alloc _, by rw [hW]; exact Row.new_ (by rw [asz, hN]) rfl, ?_⟩
  rw [hW, ← hN]
  exact Below.chain (bel1 _ _) (bel1 _ _)
 obtain ⟨V, hV⟩ : ∃ V, V = litN bs := ⟨_, rfl⟩
 obtain ⟨y, hy⟩ : ∃ y : Nat → Nat, Shh (y = decN d V) := ⟨_, ⟨rfl⟩⟩
 have HU : Shh (Calls Try.prog 54 #[.int .i64 (d : Int), v] W (IntsIs W (decL d V 256))) := ⟨by rw [hV]; exact refNumbers_any d hd B v bs hl W (hs.below (HW.out.2.2.mono (by omega))) (by have := HW.out.2.2.size; omega)⟩
 have HX0 : Shh (∀ k, decF d V k = y k % 3329 ∧ y k ≤ 1000000000000 ∧ decF d V k < 65536) := ⟨fun k => by rw [hy.out]; exact ⟨by unfold decF; rw [if_pos h12], Nat.le_of_lt (Nat.lt_trans (decN_16 d V k hd.2) (by decide)), decF_16 d V k hd.2⟩⟩
 rw [← hV]
 generalize decF d V = r at *
 have H12 := Shh.mk h12
 obtain ⟨A, c, rfl, _, _⟩ := hs.form
 clear hV hs hl h12 hd
 generalize bs.length = ln at *
 rw [hW] at HU
 go_enter Try.func35, Try.ntmps35
 go_wp2_with (first | refine wl_allocP rfl rfl ?_ | (go_at_call 54; refine (HU.out).mono ?_))
 rintro e w2 ⟨vn, rfl, ho, hb⟩
 rw [← hW] at ho hb
 have hsi := SI.of_own ho
 obtain ⟨g, cc, rfl⟩ := ho.addr (by rw [decL_length]; decide)
 have hgl := (World.ownsRow.lt ho g rfl)
 obtain ⟨g2, e2, _, hg2, hc⟩ := hsi.at_ (by rw [decL_length]; decide)
 cases e2
 have HI : Shh ((Row w2 N 24 (pc fun _ => 0) ∧ Row w2 (N + 1) 24 (pc (half r (fun _ => 0) 0)) ∧ Below N w w2) ∧ (∀ t, t < 256 → w2.cell? ⟨g, t, none⟩ = some (.int .i64 (y t : Int))) ∧ g < w2.heap.size) := ⟨⟨HW.out.1.go hb, by rw [half_zero]; exact HW.out.2.1.go hb, HW.out.2.2.trans (hb.mono (Nat.le_of_lt HW.out.1.lt))⟩, fun t ht => by have h := hc t (by rw [decL_length]; exact ht); rw [decL_get, ← hy.out] at h; exact h, hg2⟩
 have HG : Shh (N + 1 < g) := ⟨by have h := HW.out.2.1.lt; omega⟩
 clear ho hb hsi hgl hc hg2 HU HW hW hy
 rw [decL_length]
 go_wp2
 go_loopw [8, 27] (fun _ i wr => ∃ k : Nat, k ≤ 256 ∧ i = .int .i64 (k : Int) ∧ Shh ((Row wr N 24 (pc fun _ => 0) ∧ Row wr (N + 1) 24 (pc (half r (fun _ => 0) k)) ∧ Below N w wr) ∧ (∀ t, t < 256 → wr.cell? ⟨g, t, none⟩ = some (.int .i64 (y t : Int))) ∧ g < wr.heap.size)) (fun _ i _ => 256 - (intOf i).toNat)
 case atStart => exact ⟨0, Nat.zero_le _, rfl, HI⟩
 case round =>
  clear HI
  obtain ⟨k, hk, rfl, HI⟩ := hrel
  by_cases hlt : k < 256
  ·have hlt2 : (k : Int) < 256 := by omega
   have HX := Shh.mk (HX0.out k)
   have HN2 := Shh.mk (half_next r (fun _ => 0) k)
   have c1 := HI.out.2.1 k hlt
   obtain ⟨xk, Hxk⟩ : ∃ x, Shh (x = y k) := ⟨_, ⟨rfl⟩⟩
   rw [← Hxk.out] at HX c1
   obtain ⟨rk, Hrk⟩ : ∃ x, Shh (x = r k) := ⟨_, ⟨rfl⟩⟩
   rw [← Hrk.out] at HX HN2
   clear Hrk Hxk
   go_wp2_with (first | refine wl_at 33 rfl (.bool true) rfl (eql_12 H12.out rfl rfl) ?_ | refine wl_at 35 rfl (.int .i64 (rk : Int)) rfl (rem_iq (n := xk) HX.out.1 HX.out.2.1 rfl rfl) ?_ | refine wl_at 38 rfl (.int .u16 (rk : Int)) rfl (conv_iu16 HX.out.2.2 rfl rfl) ?_ | refine wl_at 39 rfl (.pointer (some ⟨N + 1, k, none⟩)) rfl (at_poly hlt rfl rfl rfl) ?_ | refine wl_storeP rfl hlt rfl rfl rfl HI.out.1.2.1 ?_)
   intro w3 r3 b3 z3
   rw [HN2.out] at r3
   have HO : Shh ((Row w3 N 24 (pc fun _ => 0) ∧ Row w3 (N + 1) 24 (pc (half r (fun _ => 0) (k + 1))) ∧ Below N w w3) ∧ (∀ t, t < 256 → w3.cell? ⟨g, t, none⟩ = some (.int .i64 (y t : Int))) ∧ g < w3.heap.size) := ⟨⟨b3.row HI.out.1.1 HI.out.1.1.lt (by omega), r3, HI.out.1.2.2.trans (b3.under (Nat.le_of_lt HI.out.1.1.lt) (Nat.le_succ _))⟩, fun t ht => (b3.cell (p := ⟨g, t, none⟩) HI.out.2.2 (by show g ≠ N + 1; have := HG.out; omega)).trans (HI.out.2.1 t ht), by rw [z3]; exact HI.out.2.2⟩
   clear r3 b3 z3 HI c1
   go_wp2
   go_roundw
   case rel => exact ⟨k + 1, by omega, by go_num, HO⟩
   case measure => simp [intOf]; omega
  ·have HL : Shh (pc (half r (fun _ => 0) k) = pc r) := ⟨by rw [show k = 256 by omega]; exact half_all _ _⟩
   rw [HL.out] at HI
   have hlt2 : ¬ (k : Int) < 256 := by omega
   clear HL HX0
   go_wp2_with (first
    | refine wpList_load_any rfl 24 (.tmp 6) rfl (N + 1) rfl 24 (pc r) (.array 256 22) HI.out.1.2.1 Try.underlying24 rfl (info_poly.trans (size_poly r)) ?_
    | refine wpList_store_any rfl 24 (.tmp 4) (.tmp 41) rfl N rfl (pc r) rfl 24 _ HI.out.1.1 (info_poly.trans (size_poly r)) (by rw [pc_length, pc_length]) (pc_one r) ?_)
   intro w9 hr9 b9 _
   have hb9 := HI.out.1.2.2.trans (b9.under (Nat.le_of_lt HI.out.1.1.lt) (Nat.le_refl _))
   go_wp2
   exact ret_rs7 Try.results35 rfl rfl rfl hr9 Try.underlying24 rfl (info_poly.trans (size_poly r)) ⟨rfl, hb9⟩
set_option maxHeartbeats 2000000 in
theorem refDecode_no (d : Nat) (hd : 1 ≤ d ∧ d ≤ 12) (h12 : ¬ d = 12) (B : Nat) (v : Value) (bs : List UInt8) (hl : bs.length = 32 * d) (w : World) (hs : Sl w B v bs) (hB : B ≤ w.heap.size) : Calls Try.prog 35 #[.int .i64 (d : Int), v] w (CodeIs w (decF d (litN bs)) 0) := by
 unfold CodeIs polyV
 generalize hN : w.heap.size = N at *
 have i1 : ¬ (d : Int) < 1 := by omega
 have i2 : ¬ (12 : Int) < (d : Int) := by omega
 have i3 : (bs.length : Int) ≤ 32 * (d : Int) := by omega
 have i4 : 32 * (d : Int) ≤ (bs.length : Int) := by omega
 obtain ⟨W, hW⟩ : ∃ W, W = (w.alloc (.cells (pc fun _ => 0).toArray 24)).alloc (.cells (pc fun _ => 0).toArray 24) := ⟨_, rfl⟩
 have HW : Shh (Row W N 24 (pc fun _ => 0) ∧ Row W (N + 1) 24 (pc (fun _ => 0)) ∧ Below N w W) := by
  refine ⟨by rw [hW]; exact (Row.new_ hN.symm rfl).alloc _, by rw [hW]; exact Row.new_ (by rw [asz, hN]) rfl, ?_⟩
  rw [hW, ← hN]
  exact Below.chain (bel1 _ _) (bel1 _ _)
 obtain ⟨V, hV⟩ : ∃ V, V = litN bs := ⟨_, rfl⟩
 obtain ⟨y, hy⟩ : ∃ y : Nat → Nat, Shh (y = decN d V) := ⟨_, ⟨rfl⟩⟩
 have HU : Shh (Calls Try.prog 54 #[.int .i64 (d : Int), v] W (IntsIs W (decL d V 256))) := ⟨by rw [hV]; exact refNumbers_any d hd B v bs hl W (hs.below (HW.out.2.2.mono (by omega))) (by have := HW.out.2.2.size; omega)⟩
 have HX0 : Shh (∀ k, decF d V k = y k ∧ y k ≤ 1000000000000 ∧ decF d V k < 65536) := ⟨fun k => by rw [hy.out]; exact ⟨by unfold decF; rw [if_neg h12], Nat.le_of_lt (Nat.lt_trans (decN_16 d V k hd.2) (by decide)), decF_16 d V k hd.2⟩⟩
 rw [← hV]
 generalize decF d V = r at *
 have H12 := Shh.mk h12
 obtain ⟨A, c, rfl, _, _⟩ := hs.form
 clear hV hs hl h12 hd
 generalize bs.length = ln at *
 rw [hW] at HU
 go_enter Try.func35, Try.ntmps35
 go_wp2_with (first | refine wl_allocP rfl rfl ?_ | (go_at_call 54; refine (HU.out).mono ?_))
 rintro e w2 ⟨vn, rfl, ho, hb⟩
 rw [← hW] at ho hb
 have hsi := SI.of_own ho
 obtain ⟨g, cc, rfl⟩ := ho.addr (by rw [decL_length]; decide)
 have hgl := (World.ownsRow.lt ho g rfl)
 obtain ⟨g2, e2, _, hg2, hc⟩ := hsi.at_ (by rw [decL_length]; decide)
 cases e2
 have HI : Shh ((Row w2 N 24 (pc fun _ => 0) ∧ Row w2 (N + 1) 24 (pc (half r (fun _ => 0) 0)) ∧ Below N w w2) ∧ (∀ t, t < 256 → w2.cell? ⟨g, t, none⟩ = some (.int .i64 (y t : Int))) ∧ g < w2.heap.size) := ⟨⟨HW.out.1.go hb, by rw [half_zero]; exact HW.out.2.1.go hb, HW.out.2.2.trans (hb.mono (Nat.le_of_lt HW.out.1.lt))⟩, fun t ht => by have h := hc t (by rw [decL_length]; exact ht); rw [decL_get, ← hy.out] at h; exact h, hg2⟩
 have HG : Shh (N + 1 < g) := ⟨by have h := HW.out.2.1.lt; omega⟩
 clear ho hb hsi hgl hc hg2 HU HW hW hy
 rw [decL_length]
 go_wp2
 go_loopw [8, 27] (fun _ i wr => ∃ k : Nat, k ≤ 256 ∧ i = .int .i64 (k : Int) ∧ Shh ((Row wr N 24 (pc fun _ => 0) ∧ Row wr (N + 1) 24 (pc (half r (fun _ => 0) k)) ∧ Below N w wr) ∧ (∀ t, t < 256 → wr.cell? ⟨g, t, none⟩ = some (.int .i64 (y t : Int))) ∧ g < wr.heap.size)) (fun _ i _ => 256 - (intOf i).toNat)
 case atStart => exact ⟨0, Nat.zero_le _, rfl, HI⟩
 case round =>
  clear HI
  obtain ⟨k, hk, rfl, HI⟩ := hrel
  by_cases hlt : k < 256
  ·have hlt2 : (k : Int) < 256 := by omega
   have HX := Shh.mk (HX0.out k)
   have HN2 := Shh.mk (half_next r (fun _ => 0) k)
   have c1 := HI.out.2.1 k hlt
   obtain ⟨xk, Hxk⟩ : ∃ x, Shh (x = y k) := ⟨_, ⟨rfl⟩⟩
   rw [← Hxk.out] at HX c1
   obtain ⟨rk, Hrk⟩ : ∃ x, Shh (x = r k) := ⟨_, ⟨rfl⟩⟩
   rw [← Hrk.out] at HX HN2
   obtain rfl : rk = xk := HX.out.1
   clear Hrk Hxk
   go_wp2_with (first | refine wl_at 33 rfl (.bool false) rfl (neq_12 H12.out rfl rfl) ?_ | refine wl_at 38 rfl (.int .u16 (rk : Int)) rfl (conv_iu16 HX.out.2.2 rfl rfl) ?_ | refine wl_at 39 rfl (.pointer (some ⟨N + 1, k, none⟩)) rfl (at_poly hlt rfl rfl rfl) ?_ | refine wl_storeP rfl hlt rfl rfl rfl HI.out.1.2.1 ?_)
   intro w3 r3 b3 z3
   rw [HN2.out] at r3
   have HO : Shh ((Row w3 N 24 (pc fun _ => 0) ∧ Row w3 (N + 1) 24 (pc (half r (fun _ => 0) (k + 1))) ∧ Below N w w3) ∧ (∀ t, t < 256 → w3.cell? ⟨g, t, none⟩ = some (.int .i64 (y t : Int))) ∧ g < w3.heap.size) := ⟨⟨b3.row HI.out.1.1 HI.out.1.1.lt (by omega), r3, HI.out.1.2.2.trans (b3.under (Nat.le_of_lt HI.out.1.1.lt) (Nat.le_succ _))⟩, fun t ht => (b3.cell (p := ⟨g, t, none⟩) HI.out.2.2 (by show g ≠ N + 1; have := HG.out; omega)).trans (HI.out.2.1 t ht), by rw [z3]; exact HI.out.2.2⟩
   clear r3 b3 z3 HI c1
   go_wp2
   go_roundw
   case rel => exact ⟨k + 1, by omega, by go_num, HO⟩
   case measure => simp [intOf]; omega
  ·have HL : Shh (pc (half r (fun _ => 0) k) = pc r) := ⟨by rw [show k = 256 by omega]; exact half_all _ _⟩
   rw [HL.out] at HI
   have hlt2 : ¬ (k : Int) < 256 := by omega
   clear HL HX0
   go_wp2_with (first
    | refine wpList_load_any rfl 24 (.tmp 6) rfl (N + 1) rfl 24 (pc r) (.array 256 22) HI.out.1.2.1 Try.underlying24 rfl (info_poly.trans (size_poly r)) ?_
    | refine wpList_store_any rfl 24 (.tmp 4) (.tmp 41) rfl N rfl (pc r) rfl 24 _ HI.out.1.1 (info_poly.trans (size_poly r)) (by rw [pc_length, pc_length]) (pc_one r) ?_)
   intro w9 hr9 b9 _
   have hb9 := HI.out.1.2.2.trans (b9.under (Nat.le_of_lt HI.out.1.1.lt) (Nat.le_refl _))
   go_wp2
   exact ret_rs7 Try.results35 rfl rfl rfl hr9 Try.underlying24 rfl (info_poly.trans (size_poly r)) ⟨rfl, hb9⟩
theorem refDecode_any (d : Nat) (hd : 1 ≤ d ∧ d ≤ 12) (B : Nat) (v : Value) (bs : List UInt8) (hl : bs.length = 32 * d) (w : World) (hs : Sl w B v bs) (hB : B ≤ w.heap.size) : Calls Try.prog 35 #[.int .i64 (d : Int), v] w (CodeIs w (decF d (litN bs)) 0) := by
 by_cases h : d = 12
 ·exact refDecode_12 d hd h B v bs hl w hs hB
 ·exact refDecode_no d hd h B v bs hl w hs hB
set_option maxHeartbeats 1000000 in
theorem refDecode_bad (n : Int) (B : Nat) (v : Value) (bs : List UInt8) (hn : n < 1 ∨ 12 < n ∨ ¬ (bs.length : Int) = 32 * n) (w : World) (hs : Sl w B v bs) : Calls Try.prog 35 #[.int .i64 n, v] w (CodeIs w (fun _ => 0) 1) := by
 unfold CodeIs polyV
 obtain ⟨A, c, rfl, _, _⟩ := hs.form
 generalize hN : w.heap.size = N at *
 generalize bs.length = ln at *
 clear hs
 have HL1 : Shh (Row (w.alloc (.cells (pc fun _ => 0).toArray 24)) N 24 (pc fun _ => 0) ∧ Below N w (w.alloc (.cells (pc fun _ => 0).toArray 24))) := by
  refine ⟨Row.new_ hN.symm rfl, ?_⟩
  rw [← hN]
  exact bel1 _ _
 go_enter Try.func35, Try.ntmps35
 by_cases h1 : n < 1
 ·clear hn
  go_wp2_with (first | refine wl_allocP rfl rfl ?_ | refine wl_at 22 rfl (.agg (pc fun _ => 0).toArray) rfl (build_poly rfl) ?_ | refine wpList_store_any rfl 24 (.tmp 4) (.tmp 22) rfl N rfl (pc fun _ => 0) rfl 24 _ HL1.out.1 (info_poly.trans (size_poly _)) rfl (pc_one _) ?_)
  intro w9 hr9 b9 _
  have hb9 := HL1.out.2.trans (b9.under (by omega) (by omega))
  go_wp2
  exact ret_rs7 Try.results35 rfl rfl rfl hr9 Try.underlying24 rfl (info_poly.trans (size_poly _)) ⟨rfl, hb9⟩
 by_cases h2 : 12 < n
 ·clear hn
  go_wp2_with (first | refine wl_allocP rfl rfl ?_ | refine wl_at 22 rfl (.agg (pc fun _ => 0).toArray) rfl (build_poly rfl) ?_ | refine wpList_store_any rfl 24 (.tmp 4) (.tmp 22) rfl N rfl (pc fun _ => 0) rfl 24 _ HL1.out.1 (info_poly.trans (size_poly _)) rfl (pc_one _) ?_)
  intro w9 hr9 b9 _
  have hb9 := HL1.out.2.trans (b9.under (by omega) (by omega))
  go_wp2
  exact ret_rs7 Try.results35 rfl rfl rfl hr9 Try.underlying24 rfl (info_poly.trans (size_poly _)) ⟨rfl, hb9⟩
 ·have h3 : ¬ (ln : Int) = 32 * n := by omega
  clear hn
  go_wp2_with (first | refine wl_allocP rfl rfl ?_ | refine wl_at 22 rfl (.agg (pc fun _ => 0).toArray) rfl (build_poly rfl) ?_ | refine wpList_store_any rfl 24 (.tmp 4) (.tmp 22) rfl N rfl (pc fun _ => 0) rfl 24 _ HL1.out.1 (info_poly.trans (size_poly _)) rfl (pc_one _) ?_)
  intro w9 hr9 b9 _
  have hb9 := HL1.out.2.trans (b9.under (by omega) (by omega))
  go_wp2
  exact ret_rs7 Try.results35 rfl rfl rfl hr9 Try.underlying24 rfl (info_poly.trans (size_poly _)) ⟨rfl, hb9⟩
set_option maxHeartbeats 2000000 in
theorem refCanon_any (B : Nat) (v : Value) (bs : List UInt8) (w : World) (hs : Sl w B v bs) (hB : B ≤ w.heap.size) : Calls Try.prog 38 #[v] w (BoolIs w (canonB bs)) := by
 unfold BoolIs
 generalize hN : w.heap.size = N at *
 by_cases h : bs.length = 384
 ·obtain ⟨y, hy⟩ : ∃ y : Nat → Nat, Shh (y = decN 12 (litN bs)) := ⟨_, ⟨rfl⟩⟩
  have HU : Shh (Calls Try.prog 54 #[.int .i64 12, v] w (IntsIs w (decL 12 (litN bs) 256))) := ⟨refNumbers_any 12 ⟨by decide, by decide⟩ B v bs h w hs (by omega)⟩
  have HGT : Shh ((∀ t, t < 256 → decL 12 (litN bs) 256 = decL 12 (litN bs) 256) ∧ (canonB bs = true ↔ ∀ k, k < 256 → y k < 3329)) := by
   refine ⟨fun _ _ => rfl, ?_⟩
   unfold canonB
   rw [decide_eq_true h, Bool.true_and, List.all_eq_true, hy.out]
   exact ⟨fun h2 k hk => of_decide_eq_true (h2 k (List.mem_range.2 hk)), fun h2 k hk => decide_eq_true (h2 k (List.mem_range.1 hk))⟩
  generalize canonB bs = r at *
  obtain ⟨A, c, rfl, _, _⟩ := hs.form
  have h4 : (bs.length : Int) ≤ 384 := by omega
  have h5 : (384 : Int) ≤ (bs.length : Int) := by omega
  have HYL : Shh (∀ t (ht : t < (decL 12 (litN bs) 256).length), (decL 12 (litN bs) 256)[t] = y t) := ⟨fun t ht => by rw [decL_get, hy.out]⟩
  have HLN : Shh ((decL 12 (litN bs) 256).length = 256) := ⟨decL_length _ _ _⟩
  generalize decL 12 (litN bs) 256 = nl at *
  clear h hs hy
  generalize bs.length = ln at *
  go_enter Try.func38, Try.ntmps38
  go_wp2_with (go_at_call 54; refine (HU.out).mono ?_)
  rintro e w2 ⟨vn, rfl, ho, hb⟩
  have hsi := SI.of_own ho
  obtain ⟨g, cc, rfl⟩ := ho.addr (by rw [HLN.out]; decide)
  obtain ⟨g2, e2, _, hg2, hc⟩ := hsi.at_ (by rw [HLN.out]; decide)
  cases e2
  have HI : Shh (Below N w w2 ∧ (∀ t, t < 256 → w2.cell? ⟨g, t, none⟩ = some (.int .i64 (y t : Int)))) := ⟨by rw [← hN]; exact hb, fun t ht => by have h := hc t (by rw [HLN.out]; exact ht); rw [HYL.out] at h; exact h⟩
  clear ho hb hsi hc hg2 HU HYL
  rw [HLN.out]
  clear HLN
  go_wp2
  go_loopw [4, 11] (fun _ i wr => ∃ k : Nat, k ≤ 256 ∧ i = .int .i64 (k : Int) ∧ Shh (wr = w2 ∧ ∀ t, t < k → y t < 3329)) (fun _ i _ => 256 - (intOf i).toNat)
  case atStart => exact ⟨0, Nat.zero_le _, rfl, ⟨rfl, fun t ht => absurd ht (Nat.not_lt_zero _)⟩⟩
  case round =>
   obtain ⟨k, hk, rfl, HK⟩ := hrel
   have hwr := HK.out.1
   subst hwr
   by_cases hlt : k < 256
   ·have hlt2 : (k : Int) < 256 := by omega
    have c1 := HI.out.2 k hlt
    by_cases hq : y k < 3329
    ·have HO : Shh (∀ t, t < k + 1 → y t < 3329) := ⟨fun t ht => by
      by_cases e : t = k
      ·rw [e]; exact hq
      ·exact HK.out.2 t (by omega)⟩
     clear HK
     generalize y k = yk at *
     have hq2 : ¬ (3329 : Int) ≤ (yk : Int) := by omega
     go_wp2
     go_roundw
     case rel => exact ⟨k + 1, by omega, by go_num, ⟨trivial, HO.out⟩⟩
     case measure => simp [intOf]; omega
    ·have hr : r = false := by
      cases hr : r
      ·rfl
      ·exact absurd (HGT.out.2.1 hr k hlt) hq
     subst hr
     clear HK HGT
     generalize y k = yk at *
     have hq2 : (3329 : Int) ≤ (yk : Int) := by omega
     go_wp2
     go_ret
     exact ⟨rfl, HI.out.1⟩
   ·have hr : r = true := HGT.out.2.2 fun t ht => HK.out.2 t (by omega)
    subst hr
    have hlt2 : ¬ (k : Int) < 256 := by omega
    clear HK HGT
    go_wp2
    go_ret
    exact ⟨rfl, HI.out.1⟩
 ·have hr : canonB bs = false := by
   unfold canonB
   rw [decide_eq_false h, Bool.false_and]
  rw [hr]
  obtain ⟨A, c, rfl, _, _⟩ := hs.form
  have h4 : ¬ (bs.length : Int) = 384 := by omega
  have HB := Shh.mk (Below.refl N w)
  clear h hs hr
  generalize bs.length = ln at *
  go_enter Try.func38, Try.ntmps38
  go_wp2
  go_ret
  exact ⟨rfl, HB.out⟩
end Go.Proofs.Ytfcgdjgfdbcddaa

/-
 THE LAW RingCodes.
-/
namespace Go.Proofs.Ytfcgdjgfdbcddaa
open Go.RowKit
set_option maxRecDepth 100000
/-- the answer is a bool, and the world is as it was -/
def EqIs (w : World) (b : Bool) (e : Ending) (w' : World) : Prop := e = .returned (.bool b) ∧ w = w'
set_option maxHeartbeats 2000000 in
theorem ringCodes_of (n er er2 : Int) (p z : Nat → Nat) (xb : List UInt8) (hz : ∀ i, i < 256 → z i < 65536) (v : Value) (bs : List UInt8) (w : World) (hs : Sl w w.heap.size v bs)
 (h1 : ∀ W, Calls Try.prog 32 #[.int .i64 n, polyV p] W (PutIs W er xb)) (h2 : ∀ W, Calls Try.prog 33 #[.int .i64 n, polyV p] W (PutIs W er xb))
 (h3 : ∀ W, Sl W W.heap.size v bs → Calls Try.prog 34 #[.int .i64 n, v] W (CodeIs W z er2)) (h4 : ∀ W, Sl W W.heap.size v bs → Calls Try.prog 35 #[.int .i64 n, v] W (CodeIs W z er2)) : Calls Try.prog 7 #[.int .i64 n, polyV p, v] w (TrueIs w) := by
 unfold TrueIs polyV
 unfold polyV at h1 h2
 generalize hN : w.heap.size = N at *
 have HLV : Shh (∀ W, Calls Try.prog 13 #[] W (TrueIs W)) := ⟨live13⟩
 have C0 := Shh.mk h1
 have C1 := Shh.mk h2
 have C2 := Shh.mk h3
 have C3 := Shh.mk h4
 have HE : Shh (∀ W, (Op.equalIn 10000 24 (.agg (pc z).toArray) (.agg (pc z).toArray)).run Try.prog W = .ok true W) := ⟨fun W => eq_poly _ hz W⟩
 have HQ : Shh (∀ (B B' : Nat) (v v' : Value) (bs cs : List UInt8) (w : World), Sl w B v bs → Sl w B' v' cs → Calls Try.prog 36 #[v, v'] w (EqIs w (bs == cs))) := ⟨fun B B' v v' bs cs w h1 h2 => refEqual_any B B' v v' bs cs w h1 h2⟩
 have HC1 : Shh (∀ W v bs, Sl W W.heap.size v bs → Calls Try.prog 37 #[v] W (BoolIs W (canonB bs))) := ⟨fun W v bs h => Canon_any W.heap.size v bs W h (Nat.le_refl _)⟩
 have HC2 : Shh (∀ W v bs, Sl W W.heap.size v bs → Calls Try.prog 38 #[v] W (BoolIs W (canonB bs))) := ⟨fun W v bs h => refCanon_any W.heap.size v bs W h (Nat.le_refl _)⟩
 clear h1 h2 h3 h4 hz
 have HJ : Shh (Row (w.alloc (.cells (pc p).toArray 24)) N 24 (pc p) ∧ Sl (w.alloc (.cells (pc p).toArray 24)) (w.alloc (.cells (pc p).toArray 24)).heap.size v bs ∧ Below N w (w.alloc (.cells (pc p).toArray 24))) := by
  refine ⟨Row.new_ hN.symm rfl, ?_, ?_⟩
  ·rw [← hN] at hs
   exact hs.go (bel1 _ _)
  ·rw [← hN]
   exact bel1 _ _
 clear hs
 go_enter Try.func7, Try.ntmps7
 go_wp2_with (first | refine wpList_load_any rfl 24 (.tmp 4) rfl N rfl 24 (pc p) (.array 256 22) HJ.out.1 Try.underlying24 rfl (info_poly.trans (size_poly p)) ?_ | (go_at_call 32; refine (C0.out _).mono ?_))
 rintro e w2 ⟨v1, rfl, ho, hb⟩
 have HI : Shh (Row w2 N 24 (pc p) ∧ Sl w2 w2.heap.size v bs ∧ Below N w w2 ∧ Sl w2 w2.heap.size v1 xb) := ⟨HJ.out.1.go hb, HJ.out.2.1.go hb, HJ.out.2.2.trans (hb.mono (Nat.le_of_lt HJ.out.1.lt)), Sl.of_own ho⟩
 clear ho hb HJ C0
 go_wp2_with (first | refine wpList_load_any rfl 24 (.tmp 4) rfl N rfl 24 (pc p) (.array 256 22) HI.out.1 Try.underlying24 rfl (info_poly.trans (size_poly p)) ?_ | (go_at_call 33; refine (C1.out _).mono ?_))
 rintro e w3 ⟨v2, rfl, ho, hb⟩
 have HJ : Shh (Sl w3 w3.heap.size v bs ∧ Below N w w3 ∧ Sl w3 w3.heap.size v1 xb ∧ Sl w3 w3.heap.size v2 xb) := ⟨HI.out.2.1.go hb, HI.out.2.2.1.trans (hb.mono (Nat.le_of_lt HI.out.1.lt)), HI.out.2.2.2.go hb, Sl.of_own ho⟩
 have HN3 : Shh (N ≤ w3.heap.size) := ⟨by have h1 := HI.out.1.lt; have h2 := hb.size; omega⟩
 clear ho hb HI C1
 go_wp2_with (go_at_call 34; refine (C2.out _ HJ.out.1).mono ?_)
 rintro e w4 ⟨rfl, hb⟩
 have HI : Shh (Sl w4 w4.heap.size v bs ∧ Below N w w4 ∧ Sl w4 w4.heap.size v1 xb ∧ Sl w4 w4.heap.size v2 xb ∧ N ≤ w4.heap.size) := ⟨HJ.out.1.go hb, HJ.out.2.1.trans (hb.mono HN3.out), HJ.out.2.2.1.go hb, HJ.out.2.2.2.go hb, Nat.le_trans HN3.out hb.size⟩
 clear hb HJ C2 HN3
 go_wp2_with (refine wl_newP 11 z rfl rfl rfl rfl rfl rfl rfl rfl ?_)
 intro G1 w5 hG r5 hb
 simp only [Act.put, arr9, hd9, tl9]
 have HJ : Shh (Sl w5 w5.heap.size v bs ∧ Below N w w5 ∧ Sl w5 w5.heap.size v1 xb ∧ Sl w5 w5.heap.size v2 xb ∧ N ≤ w5.heap.size ∧ Row w5 G1 24 (pc z)) := ⟨HI.out.1.go hb, HI.out.2.1.trans (hb.mono HI.out.2.2.2.2), HI.out.2.2.1.go hb, HI.out.2.2.2.1.go hb, Nat.le_trans HI.out.2.2.2.2 hb.size, r5⟩
 clear hb r5 HI hG
 go_wp2_with (go_at_call 35; refine (C3.out _ HJ.out.1).mono ?_)
 rintro e w6 ⟨rfl, hb⟩
 have HI : Shh (Sl w6 w6.heap.size v bs ∧ Below N w w6 ∧ Sl w6 w6.heap.size v1 xb ∧ Sl w6 w6.heap.size v2 xb ∧ N ≤ w6.heap.size ∧ Row w6 G1 24 (pc z)) := ⟨HJ.out.1.go hb, HJ.out.2.1.trans (hb.mono HJ.out.2.2.2.2.1), HJ.out.2.2.1.go hb, HJ.out.2.2.2.1.go hb, Nat.le_trans HJ.out.2.2.2.2.1 hb.size, HJ.out.2.2.2.2.2.go hb⟩
 clear hb HJ C3
 go_wp2_with (refine wl_newP 13 z rfl rfl rfl rfl rfl rfl rfl rfl ?_)
 intro G2 w7 hG r5 hb
 simp only [Act.put, arr9, hd9, tl9]
 have HJ : Shh (Sl w7 w7.heap.size v bs ∧ Below N w w7 ∧ Sl w7 w7.heap.size v1 xb ∧ Sl w7 w7.heap.size v2 xb ∧ N ≤ w7.heap.size ∧ Row w7 G1 24 (pc z) ∧ Row w7 G2 24 (pc z)) := ⟨HI.out.1.go hb, HI.out.2.1.trans (hb.mono HI.out.2.2.2.2.1), HI.out.2.2.1.go hb, HI.out.2.2.2.1.go hb, Nat.le_trans HI.out.2.2.2.2.1 hb.size, HI.out.2.2.2.2.2.go hb, r5⟩
 clear hb r5 HI hG
 go_wp2_with (go_at_call 13; refine (HLV.out _).mono ?_)
 rintro e w8 ⟨rfl, hb⟩
 have HI : Shh (Sl w8 w8.heap.size v bs ∧ Below N w w8 ∧ Sl w8 w8.heap.size v1 xb ∧ Sl w8 w8.heap.size v2 xb ∧ N ≤ w8.heap.size ∧ Row w8 G1 24 (pc z) ∧ Row w8 G2 24 (pc z)) := ⟨HJ.out.1.go hb, HJ.out.2.1.trans (hb.mono HJ.out.2.2.2.2.1), HJ.out.2.2.1.go hb, HJ.out.2.2.2.1.go hb, Nat.le_trans HJ.out.2.2.2.2.1 hb.size, HJ.out.2.2.2.2.2.1.go hb, HJ.out.2.2.2.2.2.2.go hb⟩
 clear hb HJ HLV
 have HQ1 := Shh.mk (HQ.out _ _ _ _ _ _ _ HI.out.2.2.1 HI.out.2.2.2.1)
 rw [beq_self_eq_true] at HQ1
 clear HQ
 go_wp2_with (go_at_call 36; refine (HQ1.out).mono ?_)
 rintro e w9 ⟨rfl, rfl⟩
 go_wp2_with (first | refine wl_loadW 24 (.tmp 11) rfl G1 rfl 24 (pc z) _ rfl HI.out.2.2.2.2.2.1 Try.underlying24 rfl (info_poly.trans (size_poly z)) ?_ | refine wl_loadW 24 (.tmp 13) rfl G2 rfl 24 (pc z) _ rfl HI.out.2.2.2.2.2.2 Try.underlying24 rfl (info_poly.trans (size_poly z)) ?_ | refine wl_eqlW 24 24 (.tmp 51) (.tmp 52) rfl (pc z).toArray (pc z).toArray rfl rfl rfl (by kernel_rfl) true (HE.out _) ?_ | (go_at_call 37; refine (HC1.out _ _ _ HI.out.1).mono ?_))
 rintro e w10 ⟨rfl, hb⟩
 have HJ : Shh (Sl w10 w10.heap.size v bs ∧ Below N w w10 ∧ Sl w10 w10.heap.size v1 xb ∧ Sl w10 w10.heap.size v2 xb ∧ N ≤ w10.heap.size) := ⟨HI.out.1.go hb, HI.out.2.1.trans (hb.mono HI.out.2.2.2.2.1), HI.out.2.2.1.go hb, HI.out.2.2.2.1.go hb, Nat.le_trans HI.out.2.2.2.2.1 hb.size⟩
 clear hb HI
 go_wp2_with (go_at_call 38; refine (HC2.out _ _ _ HJ.out.1).mono ?_)
 rintro e w11 ⟨rfl, hb⟩
 have HI : Shh (Below N w w11 ∧ Sl w11 w11.heap.size v1 xb ∧ Sl w11 w11.heap.size v2 xb ∧ N ≤ w11.heap.size) := ⟨HJ.out.2.1.trans (hb.mono HJ.out.2.2.2.2), HJ.out.2.2.1.go hb, HJ.out.2.2.2.1.go hb, Nat.le_trans HJ.out.2.2.2.2 hb.size⟩
 clear hb HJ
 generalize canonB bs = cb at *
 go_wp2_with (go_at_call 37; refine (HC1.out _ _ _ HI.out.2.1).mono ?_)
 rintro e w12 ⟨rfl, hb⟩
 have HJ : Shh (Below N w w12 ∧ Sl w12 w12.heap.size v2 xb ∧ N ≤ w12.heap.size) := ⟨HI.out.1.trans (hb.mono HI.out.2.2.2), HI.out.2.2.1.go hb, Nat.le_trans HI.out.2.2.2 hb.size⟩
 clear hb HI
 go_wp2_with (go_at_call 38; refine (HC2.out _ _ _ HJ.out.2.1).mono ?_)
 rintro e w13 ⟨rfl, hb⟩
 have HI : Shh (Below N w w13) := ⟨HJ.out.1.trans (hb.mono HJ.out.2.2)⟩
 clear hb HJ
 go_wp2
 go_ret
 exact ⟨rfl, HI.out⟩
theorem ringCodes_law (n : Int) (p : Nat → Nat) (hn : -9223372036854775808 ≤ n ∧ n ≤ 9223372036854775807) (hp : ∀ i, i < 256 → p i < 65536) (v : Value) (bs : List UInt8) (w : World) (hs : Sl w w.heap.size v bs) : Calls Try.prog 7 #[.int .i64 n, polyV p, v] w (TrueIs w) := by
 by_cases h : 1 ≤ n ∧ n ≤ 12
 ·obtain ⟨d, rfl⟩ := Int.eq_ofNat_of_zero_le (show 0 ≤ n by omega)
  have hd : 1 ≤ d ∧ d ≤ 12 := by omega
  by_cases hl : bs.length = 32 * d
  ·exact ringCodes_of d 0 0 p (decF d (litN bs)) (encB d p) (fun i _ => decF_16 d _ i hd.2) v bs w hs (fun W => Encode_any d hd p hp W) (fun W => refEncode_any d hd p hp W) (fun W h => Decode_any d hd W.heap.size v bs hl W h (Nat.le_refl _)) (fun W h => refDecode_any d hd W.heap.size v bs hl W h (Nat.le_refl _))
  ·have hb : (d : Int) < 1 ∨ 12 < (d : Int) ∨ ¬ (bs.length : Int) = 32 * (d : Int) := by omega
   exact ringCodes_of d 0 1 p (fun _ => 0) (encB d p) (fun _ _ => by decide) v bs w hs (fun W => Encode_any d hd p hp W) (fun W => refEncode_any d hd p hp W) (fun W h => Decode_bad d W.heap.size v bs hb W h) (fun W h => refDecode_bad d W.heap.size v bs hb W h)
 ·have h2 : n < 1 ∨ 12 < n := by omega
  have hb : n < 1 ∨ 12 < n ∨ ¬ (bs.length : Int) = 32 * n := by omega
  exact ringCodes_of n 1 1 p (fun _ => 0) [] (fun _ _ => by decide) v bs w hs (fun W => Encode_bad n h2 p W) (fun W => refEncode_bad n h2 p W) (fun W h => Decode_bad n W.heap.size v bs hb W h) (fun W h => refDecode_bad n W.heap.size v bs hb W h)
end Go.Proofs.Ytfcgdjgfdbcddaa
