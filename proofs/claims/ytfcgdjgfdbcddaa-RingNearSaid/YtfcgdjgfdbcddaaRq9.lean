/-
 THE CHAPTER'S EXAMPLES: live.
-/
import Derived.Test.YtfcgdjgfdbcddaaRp7
namespace Go.Proofs.Ytfcgdjgfdbcddaa
open Go.RowKit
set_option maxRecDepth 100000
def e1P (i : Nat) : Nat := if i = 0 then 1 else 0
def e2P (i : Nat) : Nat := if i = 0 then 833 else if i = 1 then 832 else 0
section
variable {a : Act} {w : World} {op : Oper}
theorem build_e1 (ho : op.op = .build 24 #[(0, .const (.int .u16 1))]) : (execOp a.eval op).run Try.prog w = .ok (.value (.agg (pc e1P).toArray)) w := by
 have h : (execOp a.eval ⟨none, .build 24 #[(0, .const (.int .u16 1))], 0, "", #[], none⟩).run Try.prog w = .ok (.value (.agg (pc e1P).toArray)) w := by kernel_rfl
 rw [← h]
 unfold execOp
 simp only [ho]
theorem build_e2 (ho : op.op = .build 24 #[(0, .const (.int .u16 833)), (1, .const (.int .u16 832))]) : (execOp a.eval op).run Try.prog w = .ok (.value (.agg (pc e2P).toArray)) w := by
 have h : (execOp a.eval ⟨none, .build 24 #[(0, .const (.int .u16 833)), (1, .const (.int .u16 832))], 0, "", #[], none⟩).run Try.prog w = .ok (.value (.agg (pc e2P).toArray)) w := by kernel_rfl
 rw [← h]
 unfold execOp
 simp only [ho]
end
theorem e1_lt (i : Nat) (_ : i < 256) : e1P i < 65536 := by unfold e1P; split <;> decide
theorem e2_lt (i : Nat) (_ : i < 256) : e2P i < 65536 := by unfold e2P; split <;> (try split) <;> decide
theorem e1_ntt : nttN e1P 0 = 1 ∧ nttN e1P 1 = 0 ∧ nttN e1P 2 = 1 ∧ nttN e1P 254 = 1 := by
 have h0 := hz_even e1P 0
 have h1 := hz_odd e1P 0
 have h2 := hz_even e1P 1
 have h3 := hz_even e1P 127
 refine ⟨h0.symm.trans ?_, h1.symm.trans ?_, h2.symm.trans ?_, h3.symm.trans ?_⟩ <;> decide +kernel
theorem e2_cmp : cmpP 1 e2P 0 = 1 ∧ cmpP 1 e2P 1 = 0 := by decide +kernel
theorem e1_dcm : dcmP 1 e1P 0 = 1665 := by decide +kernel
set_option maxHeartbeats 2000000 in
theorem live13 (w : World) : Calls Try.prog 13 #[] w (TrueIs w) := by
 unfold TrueIs
 generalize hN : w.heap.size = N at *
 obtain ⟨pa, HA, HAv⟩ : ∃ p : Nat → Nat, Shh (∀ W, Calls Try.prog 22 #[.agg (pc e1P).toArray] W (PolyIs W p)) ∧ Shh (p 0 = 1 ∧ p 1 = 0 ∧ p 2 = 1 ∧ p 254 = 1) := ⟨nttN e1P, ⟨fun W => Ntt_any e1P e1_lt W⟩, ⟨e1_ntt⟩⟩
 obtain ⟨pb, HB, HBv⟩ : ∃ p : Nat → Nat, Shh (∀ W, Calls Try.prog 28 #[.int .i64 1, .agg (pc e2P).toArray] W (CodeIs W p 0)) ∧ Shh (p 0 = 1 ∧ p 1 = 0) := ⟨cmpP 1 e2P, ⟨fun W => Compress_any 1 ⟨by decide, by decide⟩ e2P e2_lt W⟩, ⟨e2_cmp⟩⟩
 obtain ⟨pd, HD, HDv⟩ : ∃ p : Nat → Nat, Shh (∀ W, Calls Try.prog 30 #[.int .i64 1, .agg (pc e1P).toArray] W (CodeIs W p 0)) ∧ Shh (p 0 = 1665) := ⟨dcmP 1 e1P, ⟨fun W => Decompress_any 1 ⟨by decide, by decide⟩ e1P e1_lt W⟩, ⟨e1_dcm⟩⟩
 go_enter Try.func13, Try.ntmps13
 go_wp2_with (first | refine wl_at 6 rfl (.agg (pc e1P).toArray) rfl (build_e1 rfl) ?_ | (go_at_call 22; refine (HA.out _).mono ?_))
 rintro e w2 ⟨rfl, b2⟩
 rw [hN] at b2
 have HX : Shh (Below N w w2) := ⟨b2⟩
 clear b2
 go_wp2_with (refine wl_newP 1 pa rfl rfl rfl rfl rfl rfl rfl rfl ?_)
 intro G1 w3 hG1 r3 b3
 simp only [Act.put, arr9, hd9, tl9]
 have HI : Shh (Row w3 G1 24 (pc pa) ∧ Below N w w3) := ⟨r3, HX.out.trans (b3.mono (by have := HX.out.size; omega))⟩
 clear r3 b3 HX
 go_wp2_with (first | refine wl_at 9 rfl (.agg (pc e2P).toArray) rfl (build_e2 rfl) ?_ | (go_at_call 28; refine (HB.out _).mono ?_))
 rintro e w4 ⟨rfl, b2⟩
 have HX : Shh (Row w4 G1 24 (pc pa) ∧ Below N w w4) := ⟨HI.out.1.go b2, HI.out.2.trans (b2.mono (by have := HI.out.2.size; omega))⟩
 clear b2 HI
 go_wp2_with (refine wl_newP 2 pb rfl rfl rfl rfl rfl rfl rfl rfl ?_)
 intro G2 w5 hG2 r3 b3
 simp only [Act.put, arr9, hd9, tl9]
 have HI : Shh (Row w5 G1 24 (pc pa) ∧ Row w5 G2 24 (pc pb) ∧ Below N w w5) := ⟨HX.out.1.go b3, r3, HX.out.2.trans (b3.mono (by have := HX.out.2.size; omega))⟩
 clear r3 b3 HX
 go_wp2_with (first | refine wl_at 14 rfl (.agg (pc e1P).toArray) rfl (build_e1 rfl) ?_ | (go_at_call 30; refine (HD.out _).mono ?_))
 rintro e w6 ⟨rfl, b2⟩
 have HX : Shh (Row w6 G1 24 (pc pa) ∧ Row w6 G2 24 (pc pb) ∧ Below N w w6) := ⟨HI.out.1.go b2, HI.out.2.1.go b2, HI.out.2.2.trans (b2.mono (by have := HI.out.2.2.size; omega))⟩
 clear b2 HI
 go_wp2_with (refine wl_newP 4 pd rfl rfl rfl rfl rfl rfl rfl rfl ?_)
 intro G3 w7 hG3 r3 b3
 simp only [Act.put, arr9, hd9, tl9]
 have HI : Shh (Row w7 G1 24 (pc pa) ∧ Row w7 G2 24 (pc pb) ∧ Row w7 G3 24 (pc pd) ∧ Below N w w7) := ⟨HX.out.1.go b3, HX.out.2.1.go b3, r3, HX.out.2.2.trans (b3.mono (by have := HX.out.2.2.size; omega))⟩
 clear r3 b3 HX
 have c0 := HI.out.1.cell 0
 rw [pc_get _ (by decide), HAv.out.1] at c0
 have c1 := HI.out.1.cell 1
 rw [pc_get _ (by decide), HAv.out.2.1] at c1
 have c2 := HI.out.1.cell 2
 rw [pc_get _ (by decide), HAv.out.2.2.1] at c2
 have c3 := HI.out.1.cell 254
 rw [pc_get _ (by decide), HAv.out.2.2.2] at c3
 have c4 := HI.out.2.1.cell 0
 rw [pc_get _ (by decide), HBv.out.1] at c4
 have c5 := HI.out.2.1.cell 1
 rw [pc_get _ (by decide), HBv.out.2] at c5
 have c6 := HI.out.2.2.1.cell 0
 rw [pc_get _ (by decide), HDv.out] at c6
 go_wp2
 go_ret
 exact ⟨rfl, HI.out.2.2.2⟩
end Go.Proofs.Ytfcgdjgfdbcddaa
