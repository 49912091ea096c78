/-
  WALK: the law's own live.
-/
import Derived.Test.YtjondbamnbgiaaaDoorShake
import Derived.Test.YtjondbamnbgiaaaDoorTake
namespace Go.Proofs.YtjondbamnbgiaaaDoor
open Go.RowKit
set_option maxRecDepth 100000

theorem parts_nil (w : World) (B g : Nat) : PartsO w B g (.slice none 0 0) [] := ⟨none, 0, rfl, fun h => absurd h (by decide)⟩

set_option maxHeartbeats 1000000 in
theorem live_any (w : World) (hv : Vars w) : Calls Tryd.prog 12 #[] w (TrueIs w) := by
  unfold TrueIs
  have hpos := hv.pos
  have hsl : (spongeL 136 6 ([] : List (List UInt8)).flatten 32).length = 32 := Sp.outs_length _ _ _
  have hs4 : Hid ((spongeL 136 6 ([] : List (List UInt8)).flatten 32).take 4 = [0xa7, 0xff, 0xc6, 0xf8]) := Lib.hid sha3_empty
  have hk4 : Hid (spongeL 168 31 ([] : List (List UInt8)).flatten 4 = [0x7f, 0x9c, 0x2b, 0xa4]) := Lib.hid shake_empty
  generalize hn0 : w.heap.size = n0 at *
  go_enter Tryd.func12, Tryd.ntmps12
  go_wp2_with (go_at_call 17; refine (sha3256_any [] (by decide) w.heap.size _ w (parts_nil _ _ _) (Nat.le_refl _) hv).mono ?_)
  rintro e w1 ⟨rfl, b1⟩
  generalize spongeL 136 6 ([] : List (List UInt8)).flatten 32 = sm at *
  rw [hn0] at b1
  have hv1 := hv.under b1 hpos
  have hs1 := b1.size
  rw [hn0] at hs1
  go_wp2_with (refine wpList_store_any rfl 31 (.tmp 1) (.tmp 4) rfl w1.heap.size rfl (Lib.byteCells sm) rfl 31 (Lib.byteCells (List.replicate 32 0)) (Row.new_ rfl zero32b) (info_b32.trans (size_bytes _ _ hsl)) (by rw [Lib.byteCells_length, Lib.byteCells_length, hsl]; rfl) (cell_oneCell _) ?_)
  intro w2 hr2 bt hz2
  clear hz2
  have hs2 := hr2.lt
  have hbel2 : Below n0 w w2 := (b1.alloc (by omega) _).trans (bt.under (by omega) (by omega))
  have hv2 := hv.under hbel2 hpos
  clear bt b1 hv1 hv
  go_wp2_with (go_at_call 22; refine (shake_ok128 4 (by decide) [] (by decide) w2.heap.size _ w2 (parts_nil _ _ _) (Nat.le_refl _) hv2).mono ?_)
  rintro e w3 ⟨q, rfl, hq, hr3, b3⟩
  rw [hk4.out] at hr3
  have hrA := hr2.below b3 hr2.lt
  have hbel3 := hbel2.trans (b3.mono (by omega))
  have hs3 := b3.size
  have hq3 := hr3.lt
  clear hk4 hr2 hbel2 hv2 b3
  go_wp2_with (go_at_call 19; refine (refEqual_any (w3.heap.size + 1) (w3.heap.size + 1) _ _ (sm.take 4) [0xa7, 0xff, 0xc6, 0xf8] _ (Sl.of_row (hrA.alloc _) (by omega) (by rw [List.length_take, hsl]; rfl) (by decide) (by decide) (fun k hk => ?_)) (Sl.of_bytes (T := 5) (Row.new_ rfl rfl) (by omega) rfl (by decide))).mono ?_)
  · have hk32 : k < sm.length := by rw [List.length_take, hsl] at hk; omega
    rw [Nat.zero_add, byteCells_get sm k hk32, List.getElem_take]
  rintro e w4 ⟨rfl, hw4⟩
  rw [hs4.out, show (([0xa7, 0xff, 0xc6, 0xf8] : List UInt8) == [0xa7, 0xff, 0xc6, 0xf8]) = true from rfl]
  have hb4 : Below w3.heap.size w3 w4 := by rw [← hw4]; exact (Below.refl _ _).alloc (Nat.le_refl _) _
  clear hw4
  have hs4' := hb4.size
  have hr4 := hr3.below hb4 hq3
  have hbel4 := hbel3.trans (hb4.mono (by omega))
  clear hr3 hbel3 hb4 hrA
  go_wp2_with (go_at_call 19; refine (refEqual_any (w4.heap.size + 1) (w4.heap.size + 1) _ _ [0x7f, 0x9c, 0x2b, 0xa4] [0x7f, 0x9c, 0x2b, 0xa4] _ (Sl.of_bytes (hr4.alloc _) (by omega) rfl (by decide)) (Sl.of_bytes (T := 5) (Row.new_ rfl rfl) (by omega) rfl (by decide))).mono ?_)
  rintro e w5 ⟨rfl, hw5⟩
  rw [show (([0x7f, 0x9c, 0x2b, 0xa4] : List UInt8) == [0x7f, 0x9c, 0x2b, 0xa4]) = true from rfl]
  have hb5 : Below w4.heap.size w4 w5 := by rw [← hw5]; exact (Below.refl _ _).alloc (Nat.le_refl _) _
  have hbel5 := hbel4.trans (hb5.mono (by omega))
  clear hw5 hb5 hbel4 hr4
  go_wp2
  go_ret
  exact ⟨rfl, hbel5⟩
end Go.Proofs.YtjondbamnbgiaaaDoor
