/-
  THE WALK of the document's own Keys.
-/
import Derived.Test.YtaalmjcpaiihhaaDoorKeys1
import Derived.Test.YtaalmjcpaiihhaaDoorME
import Derived.Lib.SmallJoins
namespace Go.Proofs.YtaalmjcpaiihhaaDoor
open Go.RowKit
set_option maxRecDepth 100000

def KeysIs (w : World) (key : List UInt8) (e : Ending) (w' : World) : Prop :=
  ∃ v1 v2, e = .returned (.tuple #[v1, v2]) ∧ Sl w' w'.heap.size v1 (expB key encI 32) ∧ Sl w' w'.heap.size v2 (expB key macI 32) ∧ Below w.heap.size w w'

set_option maxHeartbeats 1000000 in
theorem refKeys_any (B : Nat) (v : Value) (key : List UInt8) (w : World) (hs : Sl w B v key) (hB : B ≤ w.heap.size) (hk : key.length ≤ 32) :
    Calls Tryd.prog 17 #[v] w (KeysIs w key) := by
  unfold KeysIs
  obtain ⟨A, c, rfl, _, _⟩ := hs.form
  generalize hn0 : w.heap.size = n0 at *
  have hcv := Go.Joins.run_convert_bytes_const_at (P := Tryd.prog) w 24 5 #[.int .u8 108, .int .u8 105, .int .u8 118, .int .u8 101, .int .u8 114, .int .u8 121, .int .u8 32, .int .u8 101, .int .u8 110, .int .u8 99] 10 10 n0 hn0.symm Tryd.underlying24 Tryd.underlying5
  have hal : ∀ o, Below n0 w (w.alloc o) := fun o => (Below.refl n0 w).alloc (by omega) o
  have hK : Shh (∀ o, Sl (w.alloc o) (n0 + 1) (.slice A key.length c) key) := ⟨fun o => (hs.step (by rw [hn0]; exact hB) (by rw [hn0]; exact hal o)).more (by omega)⟩
  go_enter Tryd.func17, Tryd.ntmps17
  go_wp2_with (go_at_call 41; refine (refExpand_any (n0 + 1) _ _ key encI 32 _ (hK.out _) (Sl.of_block (bs := encI) (heap_new hn0.symm) rfl (by omega) rfl (by decide)) (by rw [asz, hn0]; exact Nat.le_refl _) (by omega) (by decide) (by omega)).mono ?_)
  rintro e w1 ⟨u1, rfl, h1, b1⟩
  rw [asz, hn0] at b1
  have hb1 : Below n0 w w1 := (hal _).trans (b1.mono (by omega))
  have hs1 := b1.size
  rw [asz, hn0] at hs1
  generalize hn1 : w1.heap.size = n1 at *
  have hal1 : ∀ o, Below n1 w1 (w1.alloc o) := fun o => (Below.refl n1 w1).alloc (by omega) o
  have G : Shh ((∀ o, Sl (w1.alloc o) (n1 + 1) u1 (expB key encI 32)) ∧ (∀ o, Sl (w1.alloc o) (n1 + 1) (.slice A key.length c) key) ∧ ∀ o, Below n0 w (w1.alloc o)) :=
    ⟨fun o => (h1.below (hal1 o)).more (by omega), fun o => ((hs.step (by rw [hn0]; exact hB) (by rw [hn0]; exact hb1)).step (by omega) (by rw [hn1]; exact hal1 o)).more (by omega), fun o => hb1.trans ((hal1 o).mono (by omega))⟩
  have hcv2 := Go.Joins.run_convert_bytes_const_at (P := Tryd.prog) w1 24 5 #[.int .u8 108, .int .u8 105, .int .u8 118, .int .u8 101, .int .u8 114, .int .u8 121, .int .u8 32, .int .u8 109, .int .u8 97, .int .u8 99] 10 10 n1 hn1.symm Tryd.underlying24 Tryd.underlying5
  clear h1 b1 hb1 hal hal1 hK hcv hs
  go_wp2_with (go_at_call 41; refine (refExpand_any (n1 + 1) _ _ key macI 32 _ (G.out.2.1 _) (Sl.of_block (bs := macI) (heap_new hn1.symm) rfl (by omega) rfl (by decide)) (by rw [asz, hn1]; exact Nat.le_refl _) (by omega) (by decide) (by omega)).mono ?_)
  rintro e w2 ⟨u2, rfl, h2, b2⟩
  rw [asz, hn1] at b2
  have hs2 := b2.size
  rw [asz, hn1] at hs2
  have H : Shh (Sl w2 w2.heap.size u1 (expB key encI 32) ∧ Sl w2 w2.heap.size u2 (expB key macI 32) ∧ Below n0 w w2) :=
    ⟨((G.out.1 _).below b2).more hs2, h2, (G.out.2.2 _).trans (b2.mono (by omega))⟩
  clear G h2 b2 hs2
  go_wp2
  go_ret2
  exact ⟨_, _, rfl, H.out⟩
end Go.Proofs.YtaalmjcpaiihhaaDoor
