/-
 WALK: the document's Load.
-/
import Derived.Test.YtpajdmbajopofaaRe3
namespace Go.Proofs.Ytpajdmbajopofaa
open Go.RowKit
set_option maxRecDepth 100000
section
variable {a : Act} {x y : Operand} {op : Oper} {w : World}
theorem op_build1 {A : Option Addr} {n c : Nat} (ho : op.op = .buildSlice 61 1 #[(0, x)]) (hx : a.eval x = .slice A n c) : (execOp a.eval op).run Try.prog w = .ok (.value (.slice (some ⟨w.heap.size, 0, none⟩) 1 1)) (w.alloc (.cells #[.slice A n c] 33)) := by
 unfold execOp
 simp only [ho, List.map_toArray, List.map_cons, List.map_nil, hx]
 go_simp
theorem op_append2 {P : Program} {s y : Operand} {T : TypeId} {u v r : Value} {w' : World} (ho : op.op = .call { callee := .builtin .append, args := #[s, y], argTypes := #[T, T] }) (hs : a.eval s = u) (hy : a.eval y = v) (hrun : (Builtin.append_ #[T, T] op.type #[u, v]).run P w = .ok r w') : (execOp a.eval op).run P w = .ok (.value r) w' := by
 unfold execOp
 simp only [ho, resolve, invoke, builtin, Sem.run_bind, Sem.run_pure, Result.andThen_ok, List.map_toArray, List.map_cons, List.map_nil, hs, hy, hrun]
end
theorem info_sl : (Try.prog.info? 33).map (fun i => (i.zero, i.size, i.bytes)) = some (some (.slice none 0 0), 1, 24) := by kernel_rfl
/-- the row of a disk that is being loaded, its sectors -/
def LdI (w : World) (c : Nat) (l : List (List UInt8)) (W : World) : Prop := Below w.heap.size w W ∧ ∃ col gv, (∀ j, j < w.heap.size → col j = c + 1) ∧ Row W w.heap.size 64 [gv, .slice none 0 0, .bool false, .int .i64 (-1), .int .i64 0] ∧ col w.heap.size = c ∧ GAt col c W gv l
theorem row_off {w w2 w3 : World} {T U : TypeId} {sz n g : Nat} {v : Value} {xs cs : List Value} (h : w.ownsRow 0 T sz v n xs) (hr : Row w g U cs) (hT : U ≠ T) (b : Below w.heap.size w w2) (hg : w2.grownBy w3 v.ownBlock) : Row w3 g U cs := by
 have hgl := hr.lt
 have := b.size
 refine (hg.block g (by omega) (fun e => ?_)).trans (hr.go b)
 obtain ⟨cur, hp⟩ := own_blk h g e.symm
 rw [show w.heap[g]? = _ from hr] at hp
 injection hp with hp
 injection hp with _ hp
 exact hT hp
theorem ld_push {w V w1 w2 w3 : World} {c q cp : Nat} {l : List (List UInt8)} {bs : List UInt8} {gv gv' : Value} {xs sp : List Value} {col : Nat → Nat} (hc : c ≠ 0) (hb : Below w.heap.size w V) (hh : ∀ j, j < w.heap.size → col j = c + 1) (hrow : Row V w.heap.size 64 [gv, .slice none 0 0, .bool false, .int .i64 (-1), .int .i64 0]) (hcN : col w.heap.size = c)
 (h1 : V.ownsRow 0 33 1 gv l.length xs) (h2 : ∀ k, gv.ownBlock = some k → col k = c) (h3 : ∀ j (h : j < l.length), ∃ u, xs[j]? = some u ∧ Dat col V u l[j])
 (b1 : Below V.heap.size V w1) (hq : V.heap.size ≤ q) (hr : Row w1 q 5 (Lib.byteCells bs ++ sp)) (hcp : bs.length ≤ cp) (hm : cp ≤ maxLen) (b2 : Below w1.heap.size w1 w2) (hg : w2.grownBy w3 gv.ownBlock) (hown : w3.ownsRow 0 33 1 gv' (l.length + 1) (xs ++ [.slice (some ⟨q, 0, none⟩) bs.length cp])) (hat : gv'.ownBlock = gv.ownBlock ∨ gv'.ownBlock = some w2.heap.size) :
 LdI w c (l ++ [bs]) (w3.setCell ⟨w.heap.size, 0, none⟩ gv') := by
 obtain ⟨e, hG⟩ := gpush hc h1 h2 h3 b1 hq hr hcp hm b2 hg hown hat
 have hVl := hb.size
 have hNl := hrow.lt
 have bV3 : Below w.heap.size V w3 := e.below (fun k hk => by rw [hh k hk]; omega) hVl
 have r3 : Row w3 w.heap.size _ _ := row_off h1 hrow (by decide) (b1.trans (b2.mono b1.size)) hg
 have hcN3 : hue3 col V.heap.size w1.heap.size c w.heap.size = c := by rw [hue3_lt hNl]; exact hcN
 have b34 : But w3.heap.size w.heap.size w3 (w3.setCell ⟨w.heap.size, 0, none⟩ gv') := but_set w3 _ 0 gv'
 refine ⟨(hb.trans bV3).trans ⟨b34.os, b34.tape, b34.output, b34.size, fun k hk => b34.block k (by have := r3.lt; omega) (by omega)⟩, hue3 col V.heap.size w1.heap.size c, gv', fun j hj => by rw [hue3_lt (by omega)]; exact hh j hj, r3.set_ 0 gv', hcN3, hG.but b34 r3 (by decide) (by rw [hcN3]; exact hc)⟩
/-- the document's new disk is handed back -/
def RmkIs (c : Nat) (w : World) (bad : Bool) (s : DS) (e : Ending) (w' : World) : Prop := if bad then e = .returned (.tuple #[.pointer none, .int .i64 1]) ∧ Below w.heap.size w w' else ∃ g, e = .returned (.tuple #[.pointer (some ⟨g, 0, none⟩), .int .i64 0]) ∧ Below w.heap.size w w' ∧ ∃ col, (∀ j, j < w.heap.size → col j = c + 1) ∧ RAt col c w' g s
theorem LdI.done {w W : World} {c n : Nat} {b : List UInt8} (h : LdI w c (secs b n) W) (h8 : 8 ≤ n) (hm : n ≤ 2048) (hb : b.length = 256 * n) : Below w.heap.size w W ∧ ∃ col, (∀ j, j < w.heap.size → col j = c + 1) ∧ RAt col c W w.heap.size (newS (secs b n)) := by
 obtain ⟨h1, col, gv, h2, h3, h4, h5⟩ := h
 exact ⟨h1, col, h2, newS_ok hb h8 hm, h4, gv, _, h3, h5, [], World.ownsRow_nil _ _ _ _, (fun k hk => by cases hk), (fun j hj => by cases hj)⟩
theorem LdI.start (w : World) (c : Nat) : LdI w c [] (w.alloc (.cells #[.slice none 0 0, .slice none 0 0, .bool false, .int .i64 (-1), .int .i64 0] 64)) := by
 refine ⟨Below.alloc (Below.refl _ _) (Nat.le_refl _) _, paint (fun _ => c + 1) w.heap.size c, .slice none 0 0, fun j hj => paint_lt hj, Row.new_ rfl rfl, paint_ge (Nat.le_refl _), [], World.ownsRow_nil _ _ _ _, (fun k hk => by cases hk), (fun j hj => by cases hj)⟩
theorem LdI.drew {w W : World} {c : Nat} {l : List (List UInt8)} (h : LdI w c l W) : LdI w c l W.drew := by
 obtain ⟨h1, col, gv, h2, h3, h4, xs, h5, h6, h7⟩ := h
 exact ⟨h1.drew, col, gv, h2, h3.drew, h4, xs, h5.drew, h6, h7⟩
end Go.Proofs.Ytpajdmbajopofaa
