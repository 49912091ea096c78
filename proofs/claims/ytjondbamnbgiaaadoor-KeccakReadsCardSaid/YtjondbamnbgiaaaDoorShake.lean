/-
  WALKS: keccak.Shake, Clone.
-/
import Derived.Test.YtjondbamnbgiaaaDoorXof
namespace Go.Proofs.YtjondbamnbgiaaaDoor
open Go.RowKit
set_option maxRecDepth 100000

/-- n bytes are handed back in a block of their own, and no error; nothing that was there has turned -/
def ShakeIs (w : World) (n : Nat) (bs : List UInt8) (e : Ending) (w' : World) : Prop :=
  ∃ q, e = .returned (.tuple #[.slice (some ⟨q, 0, none⟩) n n, .int .i64 0]) ∧ w.heap.size ≤ q ∧ Row w' q 5 (Lib.byteCells bs) ∧ Below w.heap.size w w'
/-- no bytes are handed back, and an error -/
def NoShakeIs (w : World) (c : Int) (e : Ending) (w' : World) : Prop := e = .returned (.tuple #[.slice none 0 0, .int .i64 c]) ∧ Below w.heap.size w w'

theorem shake_ok128 (n : Nat) (hn : n ≤ 1048576) (bss : List (List UInt8)) (hbl : bss.length ≤ 1000000) (B : Nat) (v : Value) (w : World) (hp : PartsO w B B v bss) (hB : B ≤ w.heap.size) (hv : Vars w) :
    Calls Tryd.prog 22 #[.int .i64 128, .int .i64 (n : Int), v] w (ShakeIs w n (spongeL 168 31 bss.flatten n)) := by
  unfold ShakeIs spongeL
  have hpos := hv.pos
  have hSa : (absorbL 168 31 bss.flatten).at_ ≤ 168 := Nat.le_refl _
  go_enter Tryd.func22, Tryd.ntmps22
  go_wp2_with (go_at_call 24; refine (shake128_any bss hbl B v _ hp hB hv).mono ?_)
  rintro e w1 ⟨g, rfl, hg, hx, b1⟩
  have hv1 := hv.step b1
  generalize hS : absorbL 168 31 bss.flatten = S at *
  have HS := Lib.hid hS
  clear hS
  go_wp2_with (go_at_call 28; refine (read_any hx hv1 (by omega) hSa (by decide) (by decide) n hn (by decide)).mono ?_)
  rintro e w2 ⟨rfl, hr2, -, b2⟩
  have hb := b1.trans (b2.under b1.size hg)
  have hs1 := b1.size
  clear hx hv1 b1 b2
  go_wp2
  go_ret2
  exact ⟨w1.heap.size, rfl, hs1, by rw [HS.out]; exact hr2, hb⟩
theorem shake_ok256 (n : Nat) (hn : n ≤ 1048576) (bss : List (List UInt8)) (hbl : bss.length ≤ 1000000) (B : Nat) (v : Value) (w : World) (hp : PartsO w B B v bss) (hB : B ≤ w.heap.size) (hv : Vars w) :
    Calls Tryd.prog 22 #[.int .i64 256, .int .i64 (n : Int), v] w (ShakeIs w n (spongeL 136 31 bss.flatten n)) := by
  unfold ShakeIs spongeL
  have hpos := hv.pos
  have hSa : (absorbL 136 31 bss.flatten).at_ ≤ 136 := Nat.le_refl _
  go_enter Tryd.func22, Tryd.ntmps22
  go_wp2_with (go_at_call 25; refine (shake256_any bss hbl B v _ hp hB hv).mono ?_)
  rintro e w1 ⟨g, rfl, hg, hx, b1⟩
  have hv1 := hv.step b1
  generalize hS : absorbL 136 31 bss.flatten = S at *
  have HS := Lib.hid hS
  clear hS
  go_wp2_with (go_at_call 28; refine (read_any hx hv1 (by omega) hSa (by decide) (by decide) n hn (by decide)).mono ?_)
  rintro e w2 ⟨rfl, hr2, -, b2⟩
  have hb := b1.trans (b2.under b1.size hg)
  have hs1 := b1.size
  clear hx hv1 b1 b2
  go_wp2
  go_ret2
  exact ⟨w1.heap.size, rfl, hs1, by rw [HS.out]; exact hr2, hb⟩
end Go.Proofs.YtjondbamnbgiaaaDoor
