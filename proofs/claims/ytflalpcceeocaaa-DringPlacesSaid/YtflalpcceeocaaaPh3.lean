/-
 TWO SLICES OF BYTES of one's own that grow in turn; the document's own PackHints.
-/
import Derived.Test.YtflalpcceeocaaaPh2
namespace Go.Proofs.Ytflalpcceeocaaa
open Go.RowKit
set_option maxRecDepth 100000
def lenV : Value → Nat
 | .slice _ n _ => n
 | _ => 0
/-- two slices of one's own, in different blocks -/
def Own2 (w : World) (N : Nat) (v1 : Value) (a : List UInt8) (v2 : Value) (b : List UInt8) : Prop := ∃ g1 c1 g2 c2, v1 = .slice (some ⟨g1, 0, none⟩) a.length c1 ∧ v2 = .slice (some ⟨g2, 0, none⟩) b.length c2 ∧ g1 ≠ g2 ∧ w.ownsRow N 5 1 v1 a.length (Lib.byteCells a) ∧ w.ownsRow N 5 1 v2 b.length (Lib.byteCells b)
theorem Own2.symm {w : World} {N : Nat} {v1 v2 : Value} {a b : List UInt8} (h : Own2 w N v1 a v2 b) : Own2 w N v2 b v1 a := by
 obtain ⟨g1, c1, g2, c2, e1, e2, h1, h2, h3⟩ := h
 exact ⟨g2, c2, g1, c1, e2, e1, fun h => h1 h.symm, h3, h2⟩
theorem Own2.form1 {w : World} {N : Nat} {v1 v2 : Value} {a b : List UInt8} (h : Own2 w N v1 a v2 b) : ∃ A c, v1 = .slice A a.length c := by
 obtain ⟨g1, c1, g2, c2, e1, e2, h1, h2, h3⟩ := h
 exact ⟨_, _, e1⟩
theorem run_append_where (w : World) (ty : TypeId) {base g n cap : Nat} {xs : List Value} (hown : w.ownsRow base 5 1 (.slice (some ⟨g, 0, none⟩) n cap) n xs) (ad : Addr) (m c : Nat) (news : List Value) (hl : news.length = m) (hnews : ∀ j u, news[j]? = some u → w.cell? (ad.add j) = some u) (h1 : ∀ u ∈ news, u.oneCell' = true) (hlen : n + m ≤ 1099511627776) (hbase : base ≤ w.heap.size) :
  ∃ G C w', (Builtin.append_ #[23, 23] ty #[.slice (some ⟨g, 0, none⟩) n cap, .slice (some ad) m c]).run Try.prog w = .ok (.slice (some ⟨G, 0, none⟩) (n + m) C) w' ∧ w'.ownsRow base 5 1 (.slice (some ⟨G, 0, none⟩) (n + m) C) (n + m) (xs ++ news) ∧ w.grownBy w' (some g) ∧ (G = g ∨ G = w.heap.size) := by
 obtain ⟨i0, hi, hz0, hz1, hz2⟩ := info_parts info_u8
 obtain ⟨v', w', hr, ho, hg, _⟩ := run_append_own (P := Try.prog) w base 23 ty 5 i0 (.int .u8 0) 1 1 Try.underlying23 hi hz0 hz1 hz2 rfl (by decide) _ n xs hown ad m c news (by omega) hnews h1 (by unfold maxLen; omega) (by omega) hbase
 rcases hown.2 with ⟨h0, _⟩ | ⟨g', cap', cur, he, hb, hgg, hnc, hcm, hcs, ht⟩
 ·cases h0
 ·cases he
  by_cases hroom : n + m ≤ cap
  ·have hr2 := run_append_room (P := Try.prog) w 23 ty 5 i0 Try.underlying23 hi g n cap cur hgg ad m c news (by rw [hz1]; omega) hnews h1 hroom (by rw [hz1]; omega)
   rw [hr2] at hr
   cases hr
   exact ⟨_, _, _, hr2, ho, hg, .inl rfl⟩
  ·have hr2 := run_append_grow (P := Try.prog) w 23 ty 5 i0 (.int .u8 0) Try.underlying23 hi hz0 ⟨g, 0, none⟩ n cap xs (by rw [hz1]; exact hown.1) (fun j u hu => hown.cells (g := g) rfl j u hu) ad m c news (by rw [hz1]; omega) hnews (by omega) (by omega) (growslice_fits (by omega) (by rw [hz2]; omega))
   rw [hr2] at hr
   cases hr
   exact ⟨_, _, _, hr2, ho, hg, .inr rfl⟩
section
variable {ops : Array Oper} {rest : List Oper} {o : Oper} {a : Act} {w : World} {Q : Exit → Act → World → Prop} {x y : Operand} {op : Oper}
theorem wl_append_fst (hgd : o.guard = none) (d : Nat) (hd : o.dst = some d) (s x : Operand) (ho : o.op = .call { callee := .builtin .append, args := #[s, x], argTypes := #[23, 23] })
 {N : Nat} {v1 v2 : Value} {a1 b1 : List UInt8} {u : UInt8} {z : Int} (hz : z = (u.toNat : Int)) (hO : Own2 w N v1 a1 v2 b1) (hs : a.eval s = v1) (hx : a.eval x = .slice (some ⟨w.heap.size, 0, none⟩) 1 1) (hlen : a1.length ≤ 1000000) (hN : N ≤ w.heap.size)
 (h : ∀ v' w', Own2 w' N v' (a1 ++ [u]) v2 b1 → Below N w w' → wpList Try.prog ops Q rest (a.put (some d) v') w') : wpList Try.prog ops Q (o :: rest) a (w.alloc (.cells #[.int .u8 z] 5)) := by
 obtain ⟨g1, c1, g2, c2, rfl, rfl, hne, o1, o2⟩ := hO
 subst hz
 obtain ⟨G, C, w', hr, ho2, hg, hG⟩ := run_append_where (w.alloc (.cells #[.int .u8 (u.toNat : Int)] 5)) o.type (o1.alloc _) ⟨w.heap.size, 0, none⟩ 1 1 [.int .u8 (u.toNat : Int)] rfl (by
  intro j y hj
  match j, hj with
  | 0, hj =>
   simp at hj; subst hj
   rw [addr_add, cell_of_row _ _ _ _ _ _ (heap_alloc_new w _)]
   rfl
  | (j + 1), hj => simp at hj) (by simp [Value.oneCell']) (by omega) (by simp; omega)
 have hl1 := o1.lt g1 rfl
 have hl2 := o2.lt g2 rfl
 refine wpList_plain hgd fun K hK => ?_
 unfold Oper.wp execOp
 simp only [ho, resolve, invoke, builtin, Sem.run_bind, Sem.run_pure, Result.andThen_ok, List.map_toArray, List.map_cons, List.map_nil, hs, hx, hr]
 have h2 := h (.slice (some ⟨G, 0, none⟩) (a1.length + 1) C) w' ⟨G, C, g2, c2, by simp, rfl, ?_, ?_, ?_⟩ ?_
 ·rw [Oper.upon_value, hd]
  exact hK _ _ h2
 ·rcases hG with rfl | rfl
  ·exact hne
  ·simp
   omega
 ·have e : Lib.byteCells (a1 ++ [u]) = Lib.byteCells a1 ++ [.int .u8 (u.toNat : Int)] := by simp [Lib.byteCells]
  rw [e, List.length_append]
  exact ho2
 ·exact (o2.alloc _).kept hg (by
   simp [Value.ownBlock]
   omega)
 ·exact ((Below.refl N w).alloc (by omega) _).grown hg (by simp; omega) (fun k hk => by cases hk; omega)
end
end Go.Proofs.Ytflalpcceeocaaa
