/-
 WALKS: Write.
-/
import Derived.Test.YtpajdmbajopofaaDk8
namespace Go.Proofs.Ytpajdmbajopofaa
open Go.RowKit
set_option maxRecDepth 100000
theorem info_wr3 : (Try.prog.info? 71).map (fun i => (i.zero, i.size, i.bytes)) = some (some (.agg #[.int .i64 0, .slice none 0 0]), 2, 32) := by kernel_rfl
/-- the colours behind a write: its bytes in block n -/
def hueW (col : Nat → Nat) (n c : Nat) (k : Nat) : Nat := if k < n then col k else if k = n then 0 else c
theorem own_blk {w : World} {T : TypeId} {sz n : Nat} {v : Value} {xs : List Value} (h : w.ownsRow 0 T sz v n xs) (g : Nat) (hg : v.ownBlock = some g) : ∃ cur, w.heap[g]? = some (.cells cur T (0, 0)) := by
 rcases h.2 with ⟨rfl, _⟩ | ⟨p, cap, cur, rfl, _, hp, _⟩
 ·cases hg
 ·injection hg with hg
  have hg2 : p = g := hg
  rw [← hg2]
  exact ⟨cur, hp⟩
theorem ownsRow_go {w w' : World} {T : TypeId} {sz n : Nat} {v : Value} {xs : List Value} (h : w.ownsRow 0 T sz v n xs) (b : Below w.heap.size w w') : w'.ownsRow 0 T sz v n xs := by
 refine ⟨h.1, ?_⟩
 rcases h.2 with h2 | ⟨g, cap, cur, hv', hb, hg, rest⟩
 ·exact .inl h2
 ·exact .inr ⟨g, cap, cur, hv', hb, (b.block g (Array.getElem?_eq_some_iff.1 hg).1).trans hg, rest⟩
/-- the cells of an element laid into a block of its own -/
theorem news_two (w : World) (x y : Value) (t : TypeId) : ∀ j u, [x, y][j]? = some u → (w.alloc (.cells #[x, y] t)).cell? ((⟨w.heap.size, 0, none⟩ : Addr).add j) = some u :=
 World.news_of_block (w := w.alloc (.cells #[x, y] t)) (B := w.heap.size) (cs := #[x, y]) (t := t) (fr := (0, 0)) (Row.new_ (cs := [x, y]) rfl rfl)
theorem push_any {col : Nat → Nat} {c g : Nat} {w w2 w3 : World} {s : DS} {i : Int} {b : List UInt8} {q dc : Nat} {pv v' : Value} {sp xs : List Value} (hc : c ≠ 0) (h0 : s.ok) (hi : s.has i = true) (hb : b.length = 256) (h1 : col g = c) (h2 : col q = c)
 (h3 : Row w g 67 [.slice (some ⟨q, 0, none⟩) (256 * s.good.length) dc, pv, .bool s.on, .int .i64 s.fuse, .int .i64 s.done]) (h4 : Row w q 5 (Lib.byteCells s.good.flatten ++ sp)) (h5 : 256 * s.good.length + sp.length = dc) (h6 : dc ≤ maxLen)
 (p1 : w.ownsRow 0 71 2 pv s.wait.length xs) (p2 : ∀ k, pv.ownBlock = some k → col k = c) (p3 : ∀ j (h : j < s.wait.length), ∃ u, xs[2 * j]? = some (.int .i64 (s.wait[j].1 : Int)) ∧ xs[2 * j + 1]? = some u ∧ Dat col w u s.wait[j].2)
 (b2 : Below w.heap.size w w2) (hr : Row w2 w.heap.size 5 (Lib.byteCells b)) (hz : w.heap.size + 2 ≤ w2.heap.size) (hg : w2.grownBy w3 pv.ownBlock) (hown : w3.ownsRow 0 71 2 v' (s.wait.length + 1) (xs ++ [.int .i64 i, .slice (some ⟨w.heap.size, 0, none⟩) 256 256])) (hat : v'.ownBlock = pv.ownBlock ∨ v'.ownBlock = some w2.heap.size) :
 Ext col c w (w3.setCell ⟨g, 1, none⟩ v') (hueW col w.heap.size c) ∧ DAt (hueW col w.heap.size c) c (w3.setCell ⟨g, 1, none⟩ v') g { s with wait := s.wait ++ [(i.toNat, b)] } := by
 have hgl := h3.lt
 have hql := h4.lt
 have hs3 := hg.size
 have hxl : xs.length = s.wait.length * 2 := p1.1
 have hpv : ∀ k, pv.ownBlock = some k → k < w.heap.size := fun k hk => (p1.lt k hk).2
 have hne : ∀ k, k < w2.heap.size → col k ≠ c ∨ w.heap.size ≤ k → some k ≠ pv.ownBlock := fun k _ hk e => by
  have e1 := p2 k e.symm
  have e2 := hpv k e.symm
  rcases hk with hk | hk
  ·exact hk e1
  ·omega
 have e : Ext col c w (w3.setCell ⟨g, 1, none⟩ v') (hueW col w.heap.size c) := by
  refine ⟨by rw [show (w3.setCell ⟨g, 1, none⟩ v').os = w3.os from rfl, hg.os, b2.os], by rw [show (w3.setCell ⟨g, 1, none⟩ v').tape = w3.tape from rfl, hg.tape, b2.tape], by rw [show (w3.setCell ⟨g, 1, none⟩ v').output = w3.output from rfl, hg.output, b2.output], by rw [sz_set]; omega, fun k hk => by unfold hueW; rw [if_pos hk], fun k hk hck => ?_⟩
  rw [heap_setCell_other w3 ⟨g, 1, none⟩ k v' (by show k ≠ g; intro e; exact hck (by rw [e]; exact h1)), hg.block k (by omega) (hne k (by omega) (.inl hck)), b2.block k hk]
 have hgT : some g ≠ pv.ownBlock := fun e => by
  obtain ⟨cur, hp⟩ := own_blk p1 g e.symm
  rw [show w.heap[g]? = _ from h3] at hp
  injection hp with hp
  injection hp with _ hp
  exact absurd hp (by decide)
 have hqT : some q ≠ pv.ownBlock := fun e => by
  obtain ⟨cur, hp⟩ := own_blk p1 q e.symm
  rw [show w.heap[q]? = _ from h4] at hp
  injection hp with hp
  injection hp with _ hp
  exact absurd hp (by decide)
 have hgq : q ≠ g := fun e => by
  rw [e, Row, show w.heap[g]? = _ from h3] at h4
  injection h4 with h4
  injection h4 with _ h4
  exact absurd h4 (by decide)
 have r3 : Row w3 g 67 [.slice (some ⟨q, 0, none⟩) (256 * s.good.length) dc, pv, .bool s.on, .int .i64 s.fuse, .int .i64 s.done] := (hg.block g (by omega) hgT).trans (h3.go b2)
 have r4 : Row (w3.setCell ⟨g, 1, none⟩ v') q 5 (Lib.byteCells s.good.flatten ++ sp) := Row.other ((hg.block q (by omega) hqT).trans (h4.go b2)) _ _ hgq
 have hdat : Row (w3.setCell ⟨g, 1, none⟩ v') w.heap.size 5 (Lib.byteCells b) := Row.other ((hg.block w.heap.size (by omega) (hne _ (by omega) (.inr (Nat.le_refl _)))).trans hr) _ _ (by show w.heap.size ≠ g; omega)
 have hvg : v'.ownBlock ≠ some g := fun e => by
  obtain ⟨cur, hp⟩ := own_blk hown g e
  rw [show w3.heap[g]? = _ from r3] at hp
  injection hp with hp
  injection hp with _ hp
  exact absurd hp (by decide)
 refine ⟨e, h0.more hi hb, by rw [e.hue g hgl]; exact h1, q, dc, v', sp, by rw [e.hue q hql]; exact h2, r3.set_ 1 v', r4, h5, h6, xs ++ [.int .i64 i, .slice (some ⟨w.heap.size, 0, none⟩) 256 256], ?_, ?_, ?_⟩
 ·rw [List.length_append]
  refine ⟨hown.1, ?_⟩
  rcases hown.2 with h7 | ⟨p, cap, cur, hv', hb', hp, rest⟩
  ·exact .inl h7
  ·refine .inr ⟨p, cap, cur, hv', hb', (heap_setCell_other w3 ⟨g, 1, none⟩ p v' ?_).trans hp, rest⟩
   show p ≠ g
   intro e
   exact hvg (by rw [hv', ← e]; rfl)
 ·intro k hk
  unfold hueW
  rcases hat with hat | hat
  ·rw [hat] at hk
   rw [if_pos (hpv k hk)]
   exact p2 k hk
  ·rw [hat] at hk
   injection hk with hk
   rw [if_neg (by omega), if_neg (by omega)]
 ·intro j hj
  rw [List.length_append, List.length_singleton] at hj
  by_cases hj2 : j < s.wait.length
  ·obtain ⟨u, k1, k2, k3⟩ := p3 j hj2
   refine ⟨u, ?_, ?_, ?_⟩
   ·show (xs ++ _)[2 * j]? = some (.int .i64 (((s.wait ++ [(i.toNat, b)])[j]).1 : Int))
    rw [List.getElem?_append_left (by omega), k1, List.getElem_append_left hj2]
   ·show (xs ++ _)[2 * j + 1]? = some u
    rw [List.getElem?_append_left (by omega), k2]
   ·show Dat _ _ u ((s.wait ++ [(i.toNat, b)])[j]).2
    rw [List.getElem_append_left hj2]
    exact k3.ext e hc
  ·obtain rfl : j = s.wait.length := by omega
   have hi2 := has_iff.1 hi
   refine ⟨.slice (some ⟨w.heap.size, 0, none⟩) 256 256, ?_, ?_, ?_⟩
   ·show (xs ++ _)[2 * s.wait.length]? = some (.int .i64 (((s.wait ++ [(i.toNat, b)])[s.wait.length]'(by simp)).1 : Int))
    rw [List.getElem?_append_right (by omega), show 2 * s.wait.length - xs.length = 0 by omega, List.getElem_append_right (Nat.le_refl _)]
    simp
    omega
   ·show (xs ++ _)[2 * s.wait.length + 1]? = _
    rw [List.getElem?_append_right (by omega), show 2 * s.wait.length + 1 - xs.length = 1 by omega]
    rfl
   ·show Dat _ _ _ ((s.wait ++ [(i.toNat, b)])[s.wait.length]'(by simp)).2
    rw [List.getElem_append_right (Nat.le_refl _)]
    simp only [Nat.sub_self, List.getElem_cons_zero]
    refine ⟨w.heap.size, 0, 256, by rw [hb], by unfold hueW; rw [if_neg (by omega), if_pos rfl], by rw [sz_set]; omega, by omega, by unfold maxLen; omega, fun k hk => ?_⟩
    rw [Nat.zero_add, hdat.cell k, byteCells_get b k hk]
end Go.Proofs.Ytpajdmbajopofaa
