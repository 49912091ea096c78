/-
  WALK: hss.Split; the laws HssMays and HssApart, whole.
-/
import Derived.Test.YthahnckjmlcehaaHp8
namespace Go.Proofs.Ythahnckjmlcehaa
open Go.RowKit
set_option maxRecDepth 100000
set_option maxHeartbeats 1000000 in
theorem Split_any (v : Value) (l : List (Nat × Nat)) (n : Nat) (w : World) (hn : n < 18446744073709551616) (hl : Lvs w w.heap.size v l) (ho : LvOk l) : Calls Try.prog 12 #[v, .int .u64 (n : Int)] w (SplitIs l n w) := by
  unfold SplitIs
  have HA := Shh.mk (allSets_any v l w hl ho)
  clear hl ho
  obtain ⟨SE, HSE⟩ : ∃ SE, Shh (SE = splitE l n) := ⟨_, ⟨rfl⟩⟩
  rw [← HSE.out]
  go_enter Try.func12, Try.ntmps12
  go_wp2_with (go_at_call 14; refine (HA.out).mono ?_)
  unfold AllIs
  rintro e w2 h
  rcases h with ⟨hm, rfl, b⟩ | ⟨hm, h8, g, rfl, hs, b⟩
  · have HB := Shh.mk b
    obtain rfl : SE = 90 := by rw [HSE.out]; unfold splitE; rw [hm]; rfl
    clear b hm HA HSE
    go_wp2
    go_ret2
    exact ⟨_, rfl, HB.out, fun h => absurd h (by decide), fun _ => rfl⟩
  · have HB := Shh.mk b
    have HE : Shh (SE = SpE l n) := ⟨by rw [HSE.out]; unfold splitE SpE; rw [hm]; rfl⟩
    have HP : Shh (∀ W, StAt W g l → Calls Try.prog 22 #[.slice (some ⟨g, 0, none⟩) l.length l.length, .int .u64 (n : Int)] W (SpIs l n W)) := ⟨fun W h => split_any g l h8 n hn W h⟩
    have HS := Shh.mk hs
    clear b hm HA HSE hs h8 hn
    go_wp2_with (go_at_call 22; refine (HP.out _ HS.out).mono ?_)
    unfold SpIs
    rw [← HE.out]
    rintro e w3 ⟨v3, rfl, b3, k3, z3⟩
    have HR : Shh (Below w.heap.size w w3 ∧ (SE = 0 → Us w3 w3.heap.size v3 (splitL l n)) ∧ (SE ≠ 0 → v3 = .slice none 0 0)) := ⟨Below.chain HB.out b3, k3, z3⟩
    clear b3 k3 z3 HB HP HS HE
    go_wp2
    go_ret2
    exact ⟨_, rfl, HR.out.1, HR.out.2.1, HR.out.2.2⟩
theorem live9_any (w : World) : Calls Try.prog 5 #[] w (TrueIs w) :=
  live9_of (fun v l W hl ho => Count_any v l ho W hl) (fun v l W hl ho => May_any v l ho W hl) (fun v l n W hn hl ho => Split_any v l n W hn hl ho) w
theorem mays_law (v : Value) (l : List (Nat × Nat)) (w : World) (hl : Lvs w w.heap.size v l) (ho : LvOk l) : Calls Try.prog 3 #[v] w (TrueIs w) :=
  hssMays_of v l w hl ho (fun W => live9_any W) (fun W h => Count_any v l ho W h) (fun W h => May_any v l ho W h) (fun W h => Len_any v l ho W h)
theorem apart_law (v : Value) (l : List (Nat × Nat)) (a b : Nat) (w : World) (hl : Lvs w w.heap.size v l) (ho : LvOk l) (ha : a < 18446744073709551616) (hb : b < 18446744073709551616) : Calls Try.prog 4 #[v, .int .u64 (a : Int), .int .u64 (b : Int)] w (TrueIs w) :=
  hssApart_of v l a b w hl ho ha hb (fun W => live9_any W) (fun W h => Count_any v l ho W h) (fun n W hn h => Split_any v l n W hn h ho)
end Go.Proofs.Ythahnckjmlcehaa
