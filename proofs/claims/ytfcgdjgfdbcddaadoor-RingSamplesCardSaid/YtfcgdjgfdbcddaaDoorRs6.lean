/-
 THE LAW RingSamples.
-/
import Derived.Test.YtfcgdjgfdbcddaaDoorRs4
import Derived.Test.YtfcgdjgfdbcddaaDoorRs5
import Derived.Test.YtfcgdjgfdbcddaaDoorZR5
namespace Go.Proofs.YtfcgdjgfdbcddaaDoor
open Go.RowKit
set_option maxRecDepth 100000
theorem eq_poly (p : Nat → Nat) (hp : ∀ i, i < 256 → p i < 65536) (w : World) : (Op.equalIn 10000 25 (.agg (pc p).toArray) (.agg (pc p).toArray)).run Tryd.prog w = .ok true w := by
 have e : pc p = ((List.range 256).map fun i => (p i : Int)).map (Value.int .u16) := by simp [pc]
 rw [e, eq_arr (k := .u16) (n := 256) (e := 23) (by kernel_rfl) Tryd.underlying25 Tryd.underlying23 (by kernel_rfl) (by kernel_rfl) _ _ (by simp) (by simp) ?_ ?_]
 ·simp
 all_goals
  intro x hx
  obtain ⟨i, hi, rfl⟩ := List.mem_map.1 hx
  have h := hp i (List.mem_range.1 hi)
  simp [Lit.wf, IntKind.min, IntKind.max, IntKind.signed, IntKind.bits]
  omega
theorem acc_lt (xs : Nat → Nat) : ∀ k, ∀ x ∈ acc xs k, x < 3329
 | 0, x, h => by simp [acc] at h
 | k + 1, x, h => by
  have h1 : x ∈ stepS (acc xs k) (xs k) := h
  unfold stepS at h1
  split at h1
  ·rcases List.mem_append.1 h1 with h2 | h2
   ·exact acc_lt xs k x h2
   ·rename_i hc
    obtain rfl : x = xs k := by simpa using h2
    exact hc.1
  ·exact acc_lt xs k x h1
theorem smpF_lt (xs : Nat → Nat) (i : Nat) : smpF xs i < 65536 := by
 unfold smpF
 split
 ·exact Nat.zero_lt_succ _
 ·unfold lF
  rw [List.getD_eq_getElem?_getD]
  by_cases h : i < (acc xs 2048).length
  ·rw [List.getElem?_eq_getElem h]
   exact Nat.lt_trans (acc_lt xs 2048 _ (List.getElem_mem h)) (by decide)
  ·rw [List.getElem?_eq_none (by omega)]
   decide
set_option maxHeartbeats 2000000 in
theorem ringSamples_of (er2 : Int) (z : Nat → Nat) (hz : ∀ i, i < 256 → z i < 65536) (v : Value) (bs : List UInt8) (w : World) (hs : Sl w w.heap.size v bs)
 (h3 : Calls Tryd.prog 4 #[v] w (CodeIs w z er2)) (h4 : ∀ W, Sl W W.heap.size v bs → Calls Tryd.prog 5 #[v] W (CodeIs W z er2)) : Calls Tryd.prog 3 #[v] w (TrueIs w) := by
 unfold TrueIs
 have HLV : Shh (∀ W, Calls Tryd.prog 6 #[] W (TrueIs W)) := ⟨live13⟩
 have C2 := Shh.mk h3
 have C3 := Shh.mk h4
 have HE : Shh (∀ W, (Op.equalIn 10000 25 (.agg (pc z).toArray) (.agg (pc z).toArray)).run Tryd.prog W = .ok true W) := ⟨fun W => eq_poly _ hz W⟩
 have HS := Shh.mk hs
 clear h3 h4 hz hs
 go_enter Tryd.func3, Tryd.ntmps3
 go_wp2_with (go_at_call 4; refine (C2.out).mono ?_)
 rintro e w4 ⟨rfl, hb⟩
 have HI : Shh (Sl w4 w4.heap.size v bs ∧ Below w.heap.size w w4) := ⟨HS.out.go hb, hb⟩
 clear hb C2 HS
 go_wp2_with (refine wl_newP 3 z rfl rfl rfl rfl rfl rfl rfl rfl ?_)
 intro G1 w5 hG r5 hb
 simp only [Act.put, arr9, hd9, tl9]
 have HJ : Shh (Sl w5 w5.heap.size v bs ∧ Below w.heap.size w w5 ∧ Row w5 G1 25 (pc z)) := ⟨HI.out.1.go hb, HI.out.2.trans (hb.mono HI.out.2.size), r5⟩
 clear hb r5 HI hG
 go_wp2_with (go_at_call 5; refine (C3.out _ HJ.out.1).mono ?_)
 rintro e w6 ⟨rfl, hb⟩
 have HI : Shh (Below w.heap.size w w6 ∧ Row w6 G1 25 (pc z)) := ⟨HJ.out.2.1.trans (hb.mono HJ.out.2.1.size), HJ.out.2.2.go hb⟩
 clear hb HJ C3
 go_wp2_with (refine wl_newP 5 z rfl rfl rfl rfl rfl rfl rfl rfl ?_)
 intro G2 w7 hG r5 hb
 simp only [Act.put, arr9, hd9, tl9]
 have HJ : Shh (Below w.heap.size w w7 ∧ Row w7 G1 25 (pc z) ∧ Row w7 G2 25 (pc z)) := ⟨HI.out.1.trans (hb.mono HI.out.1.size), HI.out.2.go hb, r5⟩
 clear hb r5 HI hG
 go_wp2_with (go_at_call 6; refine (HLV.out _).mono ?_)
 rintro e w8 ⟨rfl, hb⟩
 have HI : Shh (Below w.heap.size w w8 ∧ Row w8 G1 25 (pc z) ∧ Row w8 G2 25 (pc z)) := ⟨HJ.out.1.trans (hb.mono HJ.out.1.size), HJ.out.2.1.go hb, HJ.out.2.2.go hb⟩
 clear hb HJ HLV
 go_wp2_with (first | refine wl_loadW 25 (.tmp 3) rfl G1 rfl 25 (pc z) _ rfl HI.out.2.1 Tryd.underlying25 rfl (info_poly.trans (size_poly z)) ?_ | refine wl_loadW 25 (.tmp 5) rfl G2 rfl 25 (pc z) _ rfl HI.out.2.2 Tryd.underlying25 rfl (info_poly.trans (size_poly z)) ?_ | refine wl_eqlW 25 25 (.tmp 19) (.tmp 20) rfl (pc z).toArray (pc z).toArray rfl rfl rfl (by kernel_rfl) true (HE.out _) ?_)
 go_ret
 exact ⟨rfl, HI.out.1⟩
theorem ringSamples_law (v : Value) (bs : List UInt8) (w : World) (hs : Sl w w.heap.size v bs) (hv : KVars w) : Calls Tryd.prog 3 #[v] w (TrueIs w) := by
 by_cases hl : bs.length = 34
 ·obtain ⟨X, hX⟩ : ∃ X, X = grp (nb (spongeL 168 31 bs 3072)) := ⟨_, rfl⟩
  exact ringSamples_of (smpE X) (smpF X) (fun i _ => smpF_lt X i) v bs w hs (SampleNtt_any w.heap.size v bs hl w hs (Nat.le_refl _) hv X hX) (fun W h => refSampleNtt_any W.heap.size v bs hl W h (Nat.le_refl _) X hX)
 ·exact ringSamples_of 1 (fun _ => 0) (fun _ _ => by decide) v bs w hs (SampleNtt_bad w.heap.size v bs hl w hs) (fun W h => refSampleNtt_bad W.heap.size v bs hl W h)
end Go.Proofs.YtfcgdjgfdbcddaaDoor
