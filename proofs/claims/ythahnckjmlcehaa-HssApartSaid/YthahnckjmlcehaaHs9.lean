/-
  WALK: the law's live, over contracts of the program's own functions.
-/
import Derived.Test.YthahnckjmlcehaaHs8
namespace Go.Proofs.Ythahnckjmlcehaa
open Go.RowKit
set_option maxRecDepth 100000
def exL : List (Nat × Nat) := [(4026531858, 6), (4026531859, 6)]
theorem ex_ok : LvOk exL := by
  intro x hx
  simp only [exL, List.mem_cons, List.not_mem_nil, or_false] at hx
  rcases hx with rfl | rfl <;> exact ⟨by decide, by decide⟩
theorem ex_may : mayL exL = true := by decide +kernel
theorem ex_sum : sumH exL = 5 := by decide +kernel
theorem ex_split : splitL exL 13 = [1, 5] := by decide +kernel
theorem Lvs.of_row {w : World} {g : Nat} {T : TypeId} {a b c d : Nat} (h : Row w g T [.int .u32 (a : Int), .int .u32 (b : Int), .int .u32 (c : Int), .int .u32 (d : Int)]) : Lvs w w.heap.size (.slice (some ⟨g, 0, none⟩) 2 2) [(a, b), (c, d)] := by
  refine ⟨some ⟨g, 0, none⟩, 2, rfl, Nat.le_refl _, by unfold maxLen; omega, fun _ => ⟨g, 0, rfl, h.lt, fun k hk => ?_⟩⟩
  match k, hk with
  | 0, _ => exact ⟨h.cell 0, h.cell 1⟩
  | 1, _ => exact ⟨h.cell 2, h.cell 3⟩
theorem live9_of (hCount : ∀ (v : Value) (l : List (Nat × Nat)) W, Lvs W W.heap.size v l → LvOk l → Calls Try.prog 6 #[v] W (OldIs (cntV l) W))
    (hMay : ∀ (v : Value) (l : List (Nat × Nat)) W, Lvs W W.heap.size v l → LvOk l → Calls Try.prog 8 #[v] W (OldIs (mayE l) W))
    (hSplit : ∀ (v : Value) (l : List (Nat × Nat)) (n : Nat) W, n < 18446744073709551616 → Lvs W W.heap.size v l → LvOk l → Calls Try.prog 12 #[v, .int .u64 (n : Int)] W (SplitIs l n W)) (w : World) :
    Calls Try.prog 5 #[] w (TrueIs w) := by
  unfold TrueIs
  have HW : Shh (Lvs (w.alloc (.cells #[.int .u32 4026531858, .int .u32 6, .int .u32 4026531859, .int .u32 6] 43)) (w.heap.size + 1) (.slice (some ⟨w.heap.size, 0, none⟩) 2 2) exL ∧ Below w.heap.size w (w.alloc (.cells #[.int .u32 4026531858, .int .u32 6, .int .u32 4026531859, .int .u32 6] 43))) := by
    refine ⟨?_, Below.alloc (Below.refl _ _) (Nat.le_refl _) _⟩
    have := Lvs.of_row (a := 4026531858) (b := 6) (c := 4026531859) (d := 6) (Row.new_ (w := w) (T := 43) rfl rfl)
    rw [asz] at this
    exact this
  have e1 : cntV exL = .tuple #[.int .u64 32, .int .i64 0] := by unfold cntV; rw [ex_may, ex_sum]; rfl
  have e2 : splitE exL 13 = 0 := by unfold splitE; rw [ex_may, ex_sum]; rfl
  have e3 : mayE [] = .int .i64 90 := rfl
  have HC : Shh ((∀ W, Lvs W W.heap.size (.slice (some ⟨w.heap.size, 0, none⟩) 2 2) exL → Calls Try.prog 6 #[.slice (some ⟨w.heap.size, 0, none⟩) 2 2] W (OldIs (.tuple #[.int .u64 32, .int .i64 0]) W)) ∧ (∀ W, Lvs W W.heap.size (.slice (some ⟨w.heap.size, 0, none⟩) 2 2) exL → Calls Try.prog 12 #[.slice (some ⟨w.heap.size, 0, none⟩) 2 2, .int .u64 13] W (SplitIs exL 13 W)) ∧ ∀ W, Calls Try.prog 8 #[.slice none 0 0] W (OldIs (.int .i64 90) W)) :=
    ⟨fun W h => e1 ▸ hCount _ exL W h ex_ok, fun W h => hSplit _ exL 13 W (by decide) h ex_ok, fun W => e3 ▸ hMay _ [] W Lvs.nil_ (fun _ h => by cases h)⟩
  clear hCount hMay hSplit e1 e3
  go_enter Try.func5, Try.ntmps5
  go_wp2_with (go_at_call 6; refine (HC.out.1 _ (by simpa using HW.out.1)).mono ?_)
  unfold OldIs
  rintro e w2 ⟨rfl, b2⟩
  have HB2 : Shh (Below w.heap.size w w2 ∧ Lvs w2 w2.heap.size (.slice (some ⟨w.heap.size, 0, none⟩) 2 2) exL) := ⟨Below.chain HW.out.2 b2, by have h1 := HW.out.1; rw [← asz w (.cells #[.int .u32 4026531858, .int .u32 6, .int .u32 4026531859, .int .u32 6] 43)] at h1; exact h1.go b2⟩
  clear b2 HW
  go_wp2_with (go_at_call 12; refine (HC.out.2.1 _ HB2.out.2).mono ?_)
  rintro e w3 ⟨v, rfl, b3, k3, z3⟩
  have HU := k3 e2
  rw [e2]
  rw [ex_split] at HU
  obtain ⟨A, c, rfl, h1, h2⟩ := HU.form
  obtain ⟨q, off, rfl, hq, hx⟩ := HU.at_ (by decide)
  have x0 := hx 0 (by decide)
  have x1 := hx 1 (by decide)
  simp only [List.getElem_cons_zero, List.getElem_cons_succ, Nat.add_zero] at x0 x1
  have HB3 : Shh (Below w.heap.size w w3) := ⟨Below.chain HB2.out.1 b3⟩
  clear b3 HB2 k3 z3 HU hx
  go_wp2_with (go_at_call 8; refine (HC.out.2.2 _).mono ?_)
  unfold OldIs
  rintro e w4 ⟨rfl, b4⟩
  have HB4 : Shh (Below w.heap.size w w4) := ⟨Below.chain HB3.out b4⟩
  clear b4 HB3 HC x0 x1
  go_wp2
  go_ret
  exact ⟨rfl, HB4.out⟩
end Go.Proofs.Ythahnckjmlcehaa
