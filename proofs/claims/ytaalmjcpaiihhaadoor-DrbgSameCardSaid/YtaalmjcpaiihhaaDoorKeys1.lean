/-
  WALKS: seal.derived, seal.Keys.
-/
import Derived.Test.YtaalmjcpaiihhaaDoorMD
import Derived.Lib.ConvBytes
import Derived.Lib.AtoiErrMem
import Derived.Laws.AppendOwn
namespace Go.Proofs.YtaalmjcpaiihhaaDoor
open Go.RowKit
set_option maxRecDepth 100000

/-- a hypothesis that nothing looks into till it is opened -/
structure Shh (p : Prop) : Prop where
  out : p
def encI : List UInt8 := [108, 105, 118, 101, 114, 121, 32, 101, 110, 99]
def macI : List UInt8 := [108, 105, 118, 101, 114, 121, 32, 109, 97, 99]
theorem expB_length (prk info : List UInt8) (n : Nat) : (expB prk info n).length = n := by
  unfold expB
  rw [List.length_take, okmB_length]
  omega
/-- bytes that lie in memory are handed back; nothing that was there has turned -/
def SlIs (w : World) (bs : List UInt8) (e : Ending) (w' : World) : Prop := ∃ v, e = .returned v ∧ Sl w' w'.heap.size v bs ∧ Below w.heap.size w w'

/-- a text made to bytes: the slice, the world, and that the slice reads as the text -/
theorem conv_text (s : List UInt8) (hl : s.length ≤ 1000) (w : World) : ∃ v W, (convert 9 24 (.string ⟨s.toArray⟩)).run Tryd.prog w = .ok v W ∧ Shh (Sl W W.heap.size v s ∧ Below w.heap.size w W) := by
  have h := Lib.run_convert_string_bytes (P := Tryd.prog) w 9 24 5 ⟨s.toArray⟩ Tryd.underlying9 Tryd.underlying24 Tryd.underlying5
  refine ⟨_, _, h, ⟨⟨_, _, rfl, grownCap_ge _ _ _ _, grownCap_le_maxLen _ _ _ _ (show s.length ≤ maxLen by unfold maxLen; omega), fun _ => ⟨_, 0, rfl, by rw [Lib.bytesWorld_size]; omega, fun k hk => ?_⟩⟩, Lib.bytesWorld_below _ _ _⟩⟩
  have hc := Lib.bytesWorld_cell w 5 ⟨s.toArray⟩ k (by simpa [ByteArray.size] using hk)
  rw [Nat.zero_add, hc]
  simp [List.getD, hk]

set_option maxHeartbeats 1000000 in
theorem derived_any (key info : List UInt8) (hk : key.length = 32) (hi : info.length ≤ 1000) (w : World) (hv : Vars w) :
    Calls Tryd.prog 40 #[.agg (Lib.byteCells key).toArray, .string ⟨info.toArray⟩] w (SlIs w (expB key info 32)) := by
  unfold SlIs
  have hpos := hv.pos
  generalize hN : w.heap.size = N at *
  have hrK : Row (w.alloc (.cells (Lib.byteCells key).toArray 22)) N 22 (Lib.byteCells key) := Row.new_ hN.symm rfl
  have hbK : Below N w (w.alloc (.cells (Lib.byteCells key).toArray 22)) := (Below.refl N w).alloc (by omega) _
  have hzK : (w.alloc (.cells (Lib.byteCells key).toArray 22)).heap.size = N + 1 := by simp [hN]
  obtain ⟨v, W, hcv, hs⟩ := conv_text info hi (w.alloc (.cells (Lib.byteCells key).toArray 22))
  have H : Shh (Row W N 22 (Lib.byteCells key) ∧ Below N w W ∧ Vars W ∧ N + 1 ≤ W.heap.size ∧ Sl W W.heap.size v info) := by
    obtain ⟨h1, h2⟩ := hs.out
    rw [hzK] at h2
    have hb : Below N w W := hbK.trans (h2.mono (by omega))
    refine ⟨hrK.below h2 (by omega), hb, hv.step (by rw [hN]; exact hb), ?_, h1⟩
    have := h2.size
    omega
  have hpK : Shh (Sl W W.heap.size (.slice (some ⟨N, 0, none⟩) 32 32) key) := ⟨Sl.of_bytes H.out.1 (by have := H.out.2.2.2.1; omega) hk (by omega)⟩
  clear hrK hbK hs
  go_enter Tryd.func40, Tryd.ntmps40
  go_wp2_with (rw [hcv])
  go_at_call 63
  refine (expand_any W.heap.size _ _ key info 32 W hpK.out H.out.2.2.2.2 (Nat.le_refl _) H.out.2.2.1 (by omega) (by omega) (by omega)).mono ?_
  rintro e w2 ⟨u, rfl, hu⟩
  have G : Shh (Sl w2 w2.heap.size u (expB key info 32) ∧ Below N w w2) := ⟨gives_sl hu, H.out.2.1.trans (hu.2.mono (by have := H.out.2.2.2.1; omega))⟩
  clear hu H hpK
  go_wp2
  go_ret
  exact ⟨_, rfl, G.out.1, G.out.2⟩
end Go.Proofs.YtaalmjcpaiihhaaDoor
