/-
  WALKS: the laws' own check 'live'; the law DrbgNone.
-/
import Derived.Test.YtanpplniedphkaaDoorDr7
namespace Go.Proofs.YtanpplniedphkaaDoor
open Go.RowKit
set_option maxRecDepth 100000
theorem own_tup {w' : World} {base : Nat} {v : Value} {bs : List UInt8} {n : Nat} (h : w'.ownsRow base 5 1 v bs.length (Lib.byteCells bs)) (hn : bs.length = n) : ∃ A c, v = .slice A n c := by
  obtain ⟨A, c, hv⟩ := own_form h
  exact ⟨A, c, by rw [hv, hn]⟩
set_option maxHeartbeats 2000000 in
theorem dr_live_any (w : World) (hv : Vars w) : Calls Tryd.prog 9 #[] w (TrueIs w) := by
  unfold TrueIs
  have hmk : ∀ u, (Instr.makeSlice 22 (.int .i64 32) (.int .i64 32)).run Tryd.prog u = .ok (.slice (some ⟨u.heap.size, 0, none⟩) 32 32) (u.alloc (.cells (Lib.byteCells (List.replicate 32 0)).toArray 5)) := make_run 32 (by omega)
  obtain ⟨W, hW⟩ : ∃ W, W = w.alloc (.cells (Lib.byteCells (List.replicate 32 0)).toArray 5) := ⟨_, rfl⟩
  have bW : Below w.heap.size w W := by rw [hW]; exact below1 _ _
  have hr : Row W w.heap.size 5 (Lib.byteCells (List.replicate 32 0)) := by rw [hW]; exact Row.new_ rfl rfl
  have HC : Shh (Sl W W.heap.size (.slice (some ⟨w.heap.size, 0, none⟩) 32 32) (List.replicate 32 0) ∧ Vars W ∧ Below w.heap.size w W ∧ fitE (List.replicate 32 0) [[], []] = 0) := ⟨hr.sl (by simp) (by omega), hv.go bW, bW, by decide⟩
  rw [hW] at HC
  clear bW hr hv
  go_enter Tryd.func9, Tryd.ntmps9
  go_wp2_with (go_at_call 13; refine (new_ok _ _ _ (List.replicate 32 0) [] [] _ HC.out.1 Sl.nil_ Sl.nil_ HC.out.2.1 HC.out.2.2.2).mono ?_)
  rintro e Y ⟨g, rfl, hg, hd, bY⟩
  rw [← hW] at HC hg bY
  obtain ⟨s, hs⟩ : ∃ s, s = newL (List.replicate 32 0) [] [] := ⟨_, rfl⟩
  rw [← hs] at hd
  have H1 : Shh (DAt Y g s 1 ∧ Vars Y ∧ Below w.heap.size w Y ∧ w.heap.size ≤ g) := ⟨hd, HC.out.2.1.go bY, Below.chain HC.out.2.2.1 bY, by have := HC.out.2.2.1.size; omega⟩
  clear HC hg hd bY hs hW hmk
  go_wp2_with (go_at_call 46; refine (dr_count_any g 1 s Y H1.out.1 (by omega)).mono ?_)
  unfold KeepIs
  rintro e w2 ⟨rfl, rfl⟩
  go_wp2_with (go_at_call 47; refine (dr_left_any g 1 s Y H1.out.1 (by omega) (by omega)).mono ?_)
  unfold KeepIs
  rintro e w2 ⟨rfl, rfl⟩
  go_wp2_with (go_at_call 16; refine (draw_ok g 1 0 _ [] s Y H1.out.1 Sl.nil_ H1.out.2.1 (by omega) (by omega) (by omega) (by decide)).mono ?_)
  rintro e Z ⟨v, rfl, ho, hd, bZ⟩
  obtain ⟨A, c, rfl⟩ := own_tup ho (drawB_length _ (drS1_length _ _ H1.out.1.len) 0)
  have H2 : Shh (DAt Z g (drS2 [] s 0) 2 ∧ Below w.heap.size w Z) := ⟨hd, H1.out.2.2.1.trans (bZ.under H1.out.2.2.1.size H1.out.2.2.2)⟩
  clear ho hd bZ H1
  go_wp2_with (go_at_call 46; refine (dr_count_any g 2 _ Z H2.out.1 (by omega)).mono ?_)
  unfold KeepIs
  rintro e w2 ⟨rfl, rfl⟩
  go_wp2
  go_ret
  exact ⟨rfl, H2.out.2⟩

end Go.Proofs.YtanpplniedphkaaDoor
