/-
  WALK: the law KeccakPieces.
-/
import Derived.Test.YtjondbamnbgiaaaDoorSums
import Derived.Test.YtjondbamnbgiaaaDoorEq
namespace Go.Proofs.YtjondbamnbgiaaaDoor
open Go.RowKit
set_option maxRecDepth 100000

theorem eq64 (xs ys : List UInt8) (hx : xs.length = 64) (hy : ys.length = 64) (w : World) :
    (Op.equalIn 10000 33 (.agg (Lib.byteCells xs).toArray) (.agg (Lib.byteCells ys).toArray)).run Tryd.prog w = .ok (xs == ys) w := by
  have hwf : ∀ l : List UInt8, ∀ x ∈ (l.map fun b => (b.toNat : Int)), (Lit.int .u8 x).wf = true := by
    intro l x hx
    simp only [List.mem_map] at hx
    obtain ⟨b, _, rfl⟩ := hx
    have := b.toNat_lt
    simp [Lit.wf, IntKind.min, IntKind.max, IntKind.signed, IntKind.bits]
    omega
  rw [bytes_ints, bytes_ints, eq_arr (k := .u8) (n := 64) (e := 5) (by kernel_rfl) Tryd.underlying33 Tryd.underlying5 (by kernel_rfl) (by kernel_rfl) _ _ (by simpa using hx) (by simpa using hy) (hwf xs) (hwf ys), bytes_beq]
section
variable {P : Program} {ops : Array Oper} {w : World} {Q : Exit → Act → World → Prop} {a : Act} {o : Oper} {rest : List Oper}
theorem wl_eql (r : Bool) (T U : TypeId) (x y : Operand) (ho : o.op = .binOp .eql T x y U) (hw : Region.wanted o (yielded ops a.tmps) = true) (p q : Array Value) (hx : a.eval x = .agg p) (hy : a.eval y = .agg q)
    (hg : P.eqGuardType P.depth T = false) (heq : (Op.equalIn 10000 T (.agg p) (.agg q)).run P w = .ok r w) (h : wpList P ops Q rest (a.put o.dst (.bool r)) w) : wpList P ops Q (o :: rest) a w := by
  refine wpList_step fun K hK => ?_
  rw [if_pos hw]
  have hrun := run_eql_agg (P := P) (w := w) (ρ := a.eval) (d := o.dst) (ty := o.type) (U := U) hg heq hx hy
  have hrun' : (execOp a.eval o).run P w = .ok (.value (.bool r)) w := by
    rw [← hrun]
    unfold execOp
    rw [ho]
  unfold Oper.wp
  rw [hrun']
  exact hK _ _ h
end

set_option maxHeartbeats 4000000 in
theorem pieces_walk (v : Value) (bss : List (List UInt8)) (fi n : Int) (w : World) (hp0 : PartsO w w.heap.size w.heap.size v bss) (hn : bss.length ≤ 281474976710656) (hlen : ∀ i (h : i < bss.length), bss[i].length ≤ 281474976710656) (hv0 : Vars w) :
    Calls Tryd.prog 7 #[v, .int .i64 fi, .int .i64 n] w (TrueIs w) := by
  unfold TrueIs
  obtain ⟨A, c, rfl⟩ := hp0.form
  have hpos := hv0.pos
  generalize hn0 : w.heap.size = n0 at *
  go_enter Tryd.func7, Tryd.ntmps7
  go_wp2_with (go_at_call 12; refine (live_any _ hv0).mono ?_)
  rintro e w1 ⟨rfl, b1⟩
  rw [hn0] at b1
  have hv1 := hv0.step (by rw [hn0]; exact b1)
  have hp1 := hp0.below b1
  have hs1 := b1.size
  rw [hn0] at hs1
  go_wp2_with (go_at_call 15; refine (much_any _ _ _ bss _ hp1 hn hlen).mono ?_)
  rintro e w2 ⟨rfl, rfl⟩
  clear hp0 hv0
  cases hf : muchB bss with
  | true =>
    go_wp2_with (go_at_call 12; refine (live_any _ hv1).mono ?_)
    rintro e w3 ⟨rfl, b3⟩
    go_wp2
    go_ret
    exact ⟨rfl, b1.trans (b3.mono hs1)⟩
  | false =>
    obtain ⟨hfl, hfn⟩ := much_no hf
    clear hf hlen hn
    by_cases h0 : fi < 0
    · have d0 : decide (fi < 0) = true := by simpa using h0
      clear h0
      go_wp2_with (go_at_call 12; refine (live_any _ hv1).mono ?_)
      rintro e w3 ⟨rfl, b3⟩
      go_wp2
      go_ret
      exact ⟨rfl, b1.trans (b3.mono hs1)⟩
    have d0 : decide (fi < 0) = false := by simpa using h0
    by_cases h1 : n < 0
    · have d1 : decide (n < 0) = true := by simpa using h1
      clear h0 h1
      go_wp2_with (go_at_call 12; refine (live_any _ hv1).mono ?_)
      rintro e w3 ⟨rfl, b3⟩
      go_wp2
      go_ret
      exact ⟨rfl, b1.trans (b3.mono hs1)⟩
    have d1 : decide (n < 0) = false := by simpa using h1
    by_cases h2 : 2000 < fi
    · have d2 : decide (2000 < fi) = true := by simpa using h2
      clear h0 h1 h2
      go_wp2_with (go_at_call 12; refine (live_any _ hv1).mono ?_)
      rintro e w3 ⟨rfl, b3⟩
      go_wp2
      go_ret
      exact ⟨rfl, b1.trans (b3.mono hs1)⟩
    have d2 : decide (2000 < fi) = false := by simpa using h2
    by_cases h3 : 2000 < n
    · have d3 : decide (2000 < n) = true := by simpa using h3
      clear h0 h1 h2 h3
      go_wp2_with (go_at_call 12; refine (live_any _ hv1).mono ?_)
      rintro e w3 ⟨rfl, b3⟩
      go_wp2
      go_ret
      exact ⟨rfl, b1.trans (b3.mono hs1)⟩
    have d3 : decide (2000 < n) = false := by simpa using h3
    obtain ⟨k, rfl⟩ := Int.eq_ofNat_of_zero_le (show 0 ≤ fi by omega)
    obtain ⟨j, rfl⟩ := Int.eq_ofNat_of_zero_le (show 0 ≤ n by omega)
    have hk : k ≤ 2000 := by omega
    have hj : j ≤ 2000 := by omega
    obtain ⟨N, hN⟩ : ∃ N, N = k + j := ⟨_, rfl⟩
    have qN : (k : Int) + (j : Int) = (N : Int) := by omega
    have wN : IntKind.i64.wrap (N : Int) = (N : Int) := by rw [IntKind.wrap_i64]; omega
    have hN4 : N ≤ 4000 := by omega
    have HN := Shh.mk hN
    clear h0 h1 h2 h3 hN
    obtain ⟨m, HM⟩ : ∃ m, Shh (m = bss.flatten) := ⟨_, Shh.mk rfl⟩
    rw [← HM.out] at hfl
    have hJ := refJoin_any n0 n0 _ bss _ hp1 hs1 (by rw [← HM.out]; omega) (by omega)
    rw [← HM.out] at hJ
    go_wp2_with (go_at_call 16; refine hJ.mono ?_)
    rintro e w3 ⟨v3, rfl, g3⟩
    have s3 := gives_sl g3
    obtain ⟨A3, c3, rfl, _, _⟩ := s3.form
    have b3 := g3.2
    have hb := b1.trans (b3.mono hs1)
    have hv := hv1.step b3
    have hp := hp1.below (b3.mono hs1)
    have hs3 := b3.size
    clear g3 b3 hv1 hp1 b1 hJ
    obtain ⟨M, hM⟩ : ∃ M, M = w3.heap.size := ⟨_, rfl⟩
    have st : Sl w3 M (.slice A3 m.length c3) m := by rw [hM]; exact s3
    have h0M : n0 ≤ M := by omega
    have hz : M ≤ w3.heap.size := by omega
    clear s3 hM hs3 hs1
    have hS := shake128_any bss (by omega) n0 _ _ hp (by omega) hv
    rw [← HM.out] at hS
    have hXl := absorbL_len 168 31 m
    have hXa : (absorbL 168 31 m).at_ ≤ 168 := Nat.le_refl _
    obtain ⟨sX, HX⟩ : ∃ s, Shh (s = absorbL 168 31 m) := ⟨_, Shh.mk rfl⟩
    rw [← HX.out] at hS hXl hXa
    go_wp2_with (go_at_call 24; refine hS.mono ?_)
    rintro e w4 ⟨gx, rfl, hgx, hx, b4⟩
    have hgM : M ≤ gx := by omega
    have hb' := hb.trans (b4.mono (by omega))
    clear hb
    have hb := hb'
    clear hb'
    replace hp := hp.below (b4.mono (by omega))
    replace hv := hv.step b4
    replace st := st.below (b4.mono hz)
    replace hz : M ≤ w4.heap.size := by have := b4.size; omega
    have hgx2 : gx < w4.heap.size := SpAt.lt hx
    clear b4 hS hgx
    have bA5 : Below w4.heap.size w4 (w4.alloc (.cells #[.slice A3 m.length c3] 29)) := Below.alloc (Below.refl _ _) (Nat.le_refl _) _
    have hq5 : PartsO (w4.alloc (.cells #[.slice A3 m.length c3] 29)) (w4.heap.size + 1) (w4.heap.size + 1) (.slice (some ⟨w4.heap.size, 0, none⟩) 1 1) [m] :=
      PartsO.solo (Row.new_ rfl rfl) (Nat.lt_succ_self _) (by omega) ((st.below (Below.alloc (Below.refl _ _) hz _)).more (by omega)) (st.off (by omega))
    have hvA5 := hv.step bA5
    have hS := shake256_any [m] (by simp) (w4.heap.size + 1) _ _ hq5 (by rw [asz]; exact Nat.le_refl _) hvA5
    rw [flat_one] at hS
    have hYl := absorbL_len 136 31 m
    have hYa : (absorbL 136 31 m).at_ ≤ 136 := Nat.le_refl _
    obtain ⟨sY, HY⟩ : ∃ s, Shh (s = absorbL 136 31 m) := ⟨_, Shh.mk rfl⟩
    rw [← HY.out] at hS hYl hYa
    go_wp2_with (go_at_call 25; refine hS.mono ?_)
    rintro e w5 ⟨gy, rfl, hgy, hy, b5'⟩
    rw [asz] at hgy
    have b5 := bA5.trans (b5'.mono bA5.size)
    have hgxy : gx < gy := by omega
    clear hq5 hvA5 bA5 b5' hS
    have hb' := hb.trans (b5.mono (by omega))
    clear hb
    have hb := hb'
    clear hb'
    replace hp := hp.below (b5.mono (by omega))
    replace hv := hv.step b5
    replace st := st.below (b5.mono hz)
    replace hx : XofAt _ _ _ _ _ := SpAt.below hx b5
    replace hz : M ≤ w5.heap.size := by have := b5.size; omega
    have hgy2 : gy < w5.heap.size := SpAt.lt hy
    clear b5 hgy hgx2
    have hx1a := hXa
    have hy1a := hYa
    have hR := read_any hx hv (by omega) hx1a (by decide) (by decide) k (by omega) (by omega)
    unfold ReadIs at hR
    have hzo := hz
    go_wp2_with (go_at_call 28; refine hR.mono ?_)
    rintro e w6 ⟨rfl, ra, hx', bw6⟩
    clear hx hR
    obtain ⟨qa, hqa⟩ : ∃ q, w5.heap.size = q := ⟨_, rfl⟩
    have hqga : gy < qa := by omega
    have hb' := hb.trans (bw6.under (by omega) (by omega))
    clear hb
    have hb := hb'
    clear hb'
    replace hp := hp.below (bw6.under (by omega) (by omega))
    replace hv := hv.but bw6 (by omega)
    replace st := st.below (bw6.under (by omega) (by omega))
    replace hy : XofAt _ _ _ _ _ := ⟨bw6.row (SpAt.row hy) (SpAt.lt hy) (by omega), SpAt.pre hy, SpAt.len hy⟩
    replace hz : M ≤ w6.heap.size := by have := bw6.size; omega
    have hx := hx'
    clear hx'
    rw [hqa] at ra
    have hsza : qa < w6.heap.size := ra.lt
    clear bw6 hzo
    have hx2a := Sp.behind_at 168 (by decide) k sX hXa
    have hXB : (sX.behind 168 k).at_ ≤ 168 := hx2a
    obtain ⟨sX2, HX2⟩ : ∃ s, Shh (s = sX.behind 168 k) := ⟨_, Shh.mk rfl⟩
    rw [← HX2.out] at hx hx2a
    clear hXB
    have hR := read_any hx hv (by omega) hx2a (by decide) (by decide) j (by omega) (by omega)
    unfold ReadIs at hR
    have hzo := hz
    go_wp2_with (go_at_call 28; refine hR.mono ?_)
    rintro e w7 ⟨rfl, rb, hx', bw7⟩
    clear hx hR
    obtain ⟨qb, hqb⟩ : ∃ q, w6.heap.size = q := ⟨_, rfl⟩
    have hqgb : gy < qb := by omega
    have hb' := hb.trans (bw7.under (by omega) (by omega))
    clear hb
    have hb := hb'
    clear hb'
    replace hp := hp.below (bw7.under (by omega) (by omega))
    replace hv := hv.but bw7 (by omega)
    replace st := st.below (bw7.under (by omega) (by omega))
    replace hy : XofAt _ _ _ _ _ := ⟨bw7.row (SpAt.row hy) (SpAt.lt hy) (by omega), SpAt.pre hy, SpAt.len hy⟩
    replace ra := bw7.row ra ra.lt (by omega)
    replace hz : M ≤ w7.heap.size := by have := bw7.size; omega
    have hx := hx'
    clear hx'
    rw [hqb] at rb
    have hszb : qb < w7.heap.size := rb.lt
    clear bw7 hzo
    have hR := read_any hy hv (by omega) hy1a (by decide) (by decide) k (by omega) (by omega)
    unfold ReadIs at hR
    have hzo := hz
    go_wp2_with (go_at_call 28; refine hR.mono ?_)
    rintro e w8 ⟨rfl, rc, hy', bw8⟩
    clear hy hR
    obtain ⟨qc, hqc⟩ : ∃ q, w7.heap.size = q := ⟨_, rfl⟩
    have hqgc : gy < qc := by omega
    have hb' := hb.trans (bw8.under (by omega) (by omega))
    clear hb
    have hb := hb'
    clear hb'
    replace hp := hp.below (bw8.under (by omega) (by omega))
    replace hv := hv.but bw8 (by omega)
    replace st := st.below (bw8.under (by omega) (by omega))
    replace hx : XofAt _ _ _ _ _ := ⟨bw8.row (SpAt.row hx) (SpAt.lt hx) (by omega), SpAt.pre hx, SpAt.len hx⟩
    replace ra := bw8.row ra ra.lt (by omega)
    replace rb := bw8.row rb rb.lt (by omega)
    replace hz : M ≤ w8.heap.size := by have := bw8.size; omega
    have hy := hy'
    clear hy'
    rw [hqc] at rc
    have hszc : qc < w8.heap.size := rc.lt
    clear bw8 hzo
    have hy2a := Sp.behind_at 136 (by decide) k sY hYa
    obtain ⟨sY2, HY2⟩ : ∃ s, Shh (s = sY.behind 136 k) := ⟨_, Shh.mk rfl⟩
    rw [← HY2.out] at hy hy2a
    have hR := read_any hy hv (by omega) hy2a (by decide) (by decide) j (by omega) (by omega)
    unfold ReadIs at hR
    have hzo := hz
    go_wp2_with (go_at_call 28; refine hR.mono ?_)
    rintro e w9 ⟨rfl, rd, hy', bw9⟩
    clear hy hR
    obtain ⟨qd, hqd⟩ : ∃ q, w8.heap.size = q := ⟨_, rfl⟩
    have hqgd : gy < qd := by omega
    have hb' := hb.trans (bw9.under (by omega) (by omega))
    clear hb
    have hb := hb'
    clear hb'
    replace hp := hp.below (bw9.under (by omega) (by omega))
    replace hv := hv.but bw9 (by omega)
    replace st := st.below (bw9.under (by omega) (by omega))
    replace hx : XofAt _ _ _ _ _ := ⟨bw9.row (SpAt.row hx) (SpAt.lt hx) (by omega), SpAt.pre hx, SpAt.len hx⟩
    replace ra := bw9.row ra ra.lt (by omega)
    replace rb := bw9.row rb rb.lt (by omega)
    replace rc := bw9.row rc rc.lt (by omega)
    replace hz : M ≤ w9.heap.size := by have := bw9.size; omega
    have hy := hy'
    clear hy'
    rw [hqd] at rd
    have hszd : qd < w9.heap.size := rd.lt
    clear bw9 hzo
    clear hx hy hx1a hx2a hy1a hy2a
    have bA6 : Below w9.heap.size w9 (w9.alloc (.cells #[.slice A3 m.length c3] 29)) := Below.alloc (Below.refl _ _) (Nat.le_refl _) _
    have hq6 : PartsO (w9.alloc (.cells #[.slice A3 m.length c3] 29)) (w9.heap.size + 1) (w9.heap.size + 1) (.slice (some ⟨w9.heap.size, 0, none⟩) 1 1) [m] :=
      PartsO.solo (Row.new_ rfl rfl) (Nat.lt_succ_self _) (by omega) ((st.below (Below.alloc (Below.refl _ _) hz _)).more (by omega)) (st.off (by omega))
    have hvA6 := hv.step bA6
    have hS := shake_ok128 N (by omega) [m] (by simp) (w9.heap.size + 1) _ _ hq6 (by rw [asz]; exact Nat.le_refl _) hvA6
    rw [flat_one] at hS
    have hAL : (spongeL 168 31 m N).length = N := Sp.outs_length _ _ _
    have HAE : Shh (sX.outs 168 k ++ sX2.outs 168 j = spongeL 168 31 m N) := Shh.mk (by rw [HN.out, HX2.out, HX.out, ← outs_app]; rfl)
    have HBE : Shh (sY.outs 136 k ++ sY2.outs 136 j = spongeL 136 31 m N) := Shh.mk (by rw [HN.out, HY2.out, HY.out, ← outs_app]; rfl)
    have hBL : (spongeL 136 31 m N).length = N := Sp.outs_length _ _ _
    obtain ⟨al, HAL⟩ : ∃ s, Shh (s = spongeL 168 31 m N) := ⟨_, Shh.mk rfl⟩
    obtain ⟨mo, HMO⟩ : ∃ s, Shh (s = spongeL 136 31 m N) := ⟨_, Shh.mk rfl⟩
    rw [← HAL.out] at hS hAL HAE
    rw [← HMO.out] at hBL HBE
    go_wp2_with (go_at_call 22; refine hS.mono ?_)
    rintro e w10 ⟨qe, rfl, hqe, re, b10'⟩
    rw [asz] at hqe
    have b10 := bA6.trans (b10'.mono bA6.size)
    clear hq6 hvA6 bA6 b10' hS
    have hb' := hb.trans (b10.mono (by omega))
    clear hb
    have hb := hb'
    clear hb'
    replace hp := hp.below (b10.mono (by omega))
    replace hv := hv.step b10
    replace st := st.below (b10.mono hz)
    replace ra := ra.below b10 ra.lt
    replace rb := rb.below b10 rb.lt
    replace rc := rc.below b10 rc.lt
    replace rd := rd.below b10 rd.lt
    replace hz : M ≤ w10.heap.size := by have := b10.size; omega
    have hze : qe < w10.heap.size := re.lt
    clear b10
    have hS := shake_ok256 N (by omega) bss (by omega) n0 _ _ hp (by omega) hv
    rw [← HM.out, ← HMO.out] at hS
    go_wp2_with (go_at_call 22; refine hS.mono ?_)
    rintro e w11 ⟨qf, rfl, hqf, rf, b11⟩
    clear hS
    have hb' := hb.trans (b11.mono (by omega))
    clear hb
    have hb := hb'
    clear hb'
    replace hp := hp.below (b11.mono (by omega))
    replace hv := hv.step b11
    replace st := st.below (b11.mono hz)
    replace ra := ra.below b11 ra.lt
    replace rb := rb.below b11 rb.lt
    replace rc := rc.below b11 rc.lt
    replace rd := rd.below b11 rd.lt
    replace re := re.below b11 re.lt
    replace hz : M ≤ w11.heap.size := by have := b11.size; omega
    have hzf : qf < w11.heap.size := rf.lt
    clear b11
    have hl1 : (spongeL 136 6 m 32).length = 32 := Sp.outs_length _ _ _
    have hl2 : (spongeL 72 6 m 64).length = 64 := Sp.outs_length _ _ _
    obtain ⟨s32, H32⟩ : ∃ s, Shh (s = spongeL 136 6 m 32) := ⟨_, Shh.mk rfl⟩
    obtain ⟨s64, H64⟩ : ∃ s, Shh (s = spongeL 72 6 m 64) := ⟨_, Shh.mk rfl⟩
    rw [← H32.out] at hl1
    rw [← H64.out] at hl2
    have he1 : ∀ u, (Op.equalIn 10000 31 (.agg (Lib.byteCells s32).toArray) (.agg (Lib.byteCells s32).toArray)).run Tryd.prog u = .ok true u := fun u => (eq32 s32 s32 hl1 hl1 u).trans (by simp)
    have he2 : ∀ u, (Op.equalIn 10000 33 (.agg (Lib.byteCells s64).toArray) (.agg (Lib.byteCells s64).toArray)).run Tryd.prog u = .ok true u := fun u => (eq64 s64 s64 hl2 hl2 u).trans (by simp)
    have HE1 := Shh.mk he1
    have HE2 := Shh.mk he2
    clear he1 he2 hl1 hl2
    have hS := sha3256_any bss (by omega) n0 _ _ hp (by omega) hv
    rw [← HM.out, ← H32.out] at hS
    go_wp2_with (go_at_call 17; refine hS.mono ?_)
    rintro e w12 ⟨rfl, bw12⟩
    clear hS
    have hb' := hb.trans (bw12.mono (by omega))
    clear hb
    have hb := hb'
    clear hb'
    replace hp := hp.below (bw12.mono (by omega))
    replace hv := hv.step bw12
    replace st := st.below (bw12.mono hz)
    replace ra := ra.below bw12 ra.lt
    replace rb := rb.below bw12 rb.lt
    replace rc := rc.below bw12 rc.lt
    replace rd := rd.below bw12 rd.lt
    replace re := re.below bw12 re.lt
    replace rf := rf.below bw12 rf.lt
    replace hz : M ≤ w12.heap.size := by have := bw12.size; omega
    clear bw12
    have bA7 : Below w12.heap.size w12 (w12.alloc (.cells #[.slice A3 m.length c3] 29)) := Below.alloc (Below.refl _ _) (Nat.le_refl _) _
    have hq7 : PartsO (w12.alloc (.cells #[.slice A3 m.length c3] 29)) (w12.heap.size + 1) (w12.heap.size + 1) (.slice (some ⟨w12.heap.size, 0, none⟩) 1 1) [m] :=
      PartsO.solo (Row.new_ rfl rfl) (Nat.lt_succ_self _) (by omega) ((st.below (Below.alloc (Below.refl _ _) hz _)).more (by omega)) (st.off (by omega))
    have hvA7 := hv.step bA7
    have hS := sha3256_any [m] (by simp) (w12.heap.size + 1) _ _ hq7 (by rw [asz]; exact Nat.le_refl _) hvA7
    rw [flat_one, ← H32.out] at hS
    go_wp2_with (go_at_call 17; refine hS.mono ?_)
    rintro e w13 ⟨rfl, bb⟩
    have bw13 := bA7.trans (bb.mono bA7.size)
    clear hq7 hvA7 bA7 bb
    clear hS
    have hb' := hb.trans (bw13.mono (by omega))
    clear hb
    have hb := hb'
    clear hb'
    replace hp := hp.below (bw13.mono (by omega))
    replace hv := hv.step bw13
    replace st := st.below (bw13.mono hz)
    replace ra := ra.below bw13 ra.lt
    replace rb := rb.below bw13 rb.lt
    replace rc := rc.below bw13 rc.lt
    replace rd := rd.below bw13 rd.lt
    replace re := re.below bw13 re.lt
    replace rf := rf.below bw13 rf.lt
    replace hz : M ≤ w13.heap.size := by have := bw13.size; omega
    clear bw13
    go_wp2_with (refine wl_eql true 31 31 (.tmp 122) (.tmp 125) rfl rfl (Lib.byteCells s32).toArray (Lib.byteCells s32).toArray rfl rfl (by kernel_rfl) (HE1.out _) ?_)
    have hS := sha3512_any bss (by omega) n0 _ _ hp (by omega) hv
    rw [← HM.out, ← H64.out] at hS
    go_wp2_with (go_at_call 18; refine hS.mono ?_)
    rintro e w14 ⟨rfl, bw14⟩
    clear hS
    have hb' := hb.trans (bw14.mono (by omega))
    clear hb
    have hb := hb'
    clear hb'
    replace hp := hp.below (bw14.mono (by omega))
    replace hv := hv.step bw14
    replace st := st.below (bw14.mono hz)
    replace ra := ra.below bw14 ra.lt
    replace rb := rb.below bw14 rb.lt
    replace rc := rc.below bw14 rc.lt
    replace rd := rd.below bw14 rd.lt
    replace re := re.below bw14 re.lt
    replace rf := rf.below bw14 rf.lt
    replace hz : M ≤ w14.heap.size := by have := bw14.size; omega
    clear bw14
    have bA8 : Below w14.heap.size w14 (w14.alloc (.cells #[.slice A3 m.length c3] 29)) := Below.alloc (Below.refl _ _) (Nat.le_refl _) _
    have hq8 : PartsO (w14.alloc (.cells #[.slice A3 m.length c3] 29)) (w14.heap.size + 1) (w14.heap.size + 1) (.slice (some ⟨w14.heap.size, 0, none⟩) 1 1) [m] :=
      PartsO.solo (Row.new_ rfl rfl) (Nat.lt_succ_self _) (by omega) ((st.below (Below.alloc (Below.refl _ _) hz _)).more (by omega)) (st.off (by omega))
    have hvA8 := hv.step bA8
    have hS := sha3512_any [m] (by simp) (w14.heap.size + 1) _ _ hq8 (by rw [asz]; exact Nat.le_refl _) hvA8
    rw [flat_one, ← H64.out] at hS
    go_wp2_with (go_at_call 18; refine hS.mono ?_)
    rintro e w15 ⟨rfl, bb⟩
    have bw15 := bA8.trans (bb.mono bA8.size)
    clear hq8 hvA8 bA8 bb
    clear hS
    have hb' := hb.trans (bw15.mono (by omega))
    clear hb
    have hb := hb'
    clear hb'
    replace hp := hp.below (bw15.mono (by omega))
    replace hv := hv.step bw15
    replace st := st.below (bw15.mono hz)
    replace ra := ra.below bw15 ra.lt
    replace rb := rb.below bw15 rb.lt
    replace rc := rc.below bw15 rc.lt
    replace rd := rd.below bw15 rd.lt
    replace re := re.below bw15 re.lt
    replace rf := rf.below bw15 rf.lt
    replace hz : M ≤ w15.heap.size := by have := bw15.size; omega
    clear bw15
    go_wp2_with (refine wl_eql true 33 33 (.tmp 129) (.tmp 132) rfl (by kernel_rfl) (Lib.byteCells s64).toArray (Lib.byteCells s64).toArray rfl rfl (by kernel_rfl) (HE2.out _) ?_)
    have hzaw16 := ra.lt
    have hzbw16 := rb.lt
    have hla : (sX.outs 168 k).length = k := Sp.outs_length _ _ _
    have hlb : (sX2.outs 168 j).length = j := Sp.outs_length _ _ _
    have bJ : Below w15.heap.size w15 (w15.alloc (.cells #[.slice (some ⟨qa, 0, none⟩) k k, .slice (some ⟨qb, 0, none⟩) j j] 29)) := Below.alloc (Below.refl _ _) (Nat.le_refl _) _
    have hJ := refJoin_any (w15.heap.size + 1) (w15.heap.size + 1) (.slice (some ⟨w15.heap.size, 0, none⟩) 2 2) [sX.outs 168 k, sX2.outs 168 j] _ (PartsO.two (Nat.lt_succ_self _) (by omega) (Row.new_ rfl rfl) (Sl.of_bytes (ra.below bJ ra.lt) (by omega) hla (by omega)) (Off.at_ (by omega)) (Sl.of_bytes (rb.below bJ rb.lt) (by omega) hlb (by omega)) (Off.at_ (by omega))) (by rw [asz]; exact Nat.le_refl _) (by rw [two_flat, List.length_append, hla, hlb]; omega) (by simp)
    rw [two_flat, HAE.out] at hJ
    clear hla hlb
    go_wp2_with (go_at_call 16; refine hJ.mono ?_)
    rintro e w16 ⟨vj, rfl, gj⟩
    have sj := gives_sl gj
    obtain ⟨Aj, cj, rfl, _, _⟩ := sj.form
    rw [hAL] at sj
    have bK := bJ.trans (gj.2.mono bJ.size)
    clear gj hJ bJ
    have hb' := hb.trans (bK.mono (by omega))
    clear hb
    have hb := hb'
    clear hb'
    replace hp := hp.below (bK.mono (by omega))
    replace hv := hv.step bK
    replace st := st.below (bK.mono hz)
    replace ra := ra.below bK ra.lt
    replace rb := rb.below bK rb.lt
    replace rc := rc.below bK rc.lt
    replace rd := rd.below bK rd.lt
    replace re := re.below bK re.lt
    replace rf := rf.below bK rf.lt
    replace hz : M ≤ w16.heap.size := by have := bK.size; omega
    clear bK
    have sall : Sl w16 w16.heap.size (.slice (some ⟨qe, 0, none⟩) N N) al := Sl.of_bytes re re.lt hAL (by omega)
    rw [hAL]
    go_wp2_with (go_at_call 19; refine (refEqual_any _ _ _ _ al al _ sj sall).mono ?_)
    rintro e wE ⟨rfl, rfl⟩
    rw [show (al == al) = true by simp]
    clear sj sall
    have hzaw17 := rc.lt
    have hzbw17 := rd.lt
    have hla : (sY.outs 136 k).length = k := Sp.outs_length _ _ _
    have hlb : (sY2.outs 136 j).length = j := Sp.outs_length _ _ _
    have bJ : Below w16.heap.size w16 (w16.alloc (.cells #[.slice (some ⟨qc, 0, none⟩) k k, .slice (some ⟨qd, 0, none⟩) j j] 29)) := Below.alloc (Below.refl _ _) (Nat.le_refl _) _
    have hJ := refJoin_any (w16.heap.size + 1) (w16.heap.size + 1) (.slice (some ⟨w16.heap.size, 0, none⟩) 2 2) [sY.outs 136 k, sY2.outs 136 j] _ (PartsO.two (Nat.lt_succ_self _) (by omega) (Row.new_ rfl rfl) (Sl.of_bytes (rc.below bJ rc.lt) (by omega) hla (by omega)) (Off.at_ (by omega)) (Sl.of_bytes (rd.below bJ rd.lt) (by omega) hlb (by omega)) (Off.at_ (by omega))) (by rw [asz]; exact Nat.le_refl _) (by rw [two_flat, List.length_append, hla, hlb]; omega) (by simp)
    rw [two_flat, HBE.out] at hJ
    clear hla hlb
    go_wp2_with (go_at_call 16; refine hJ.mono ?_)
    rintro e w17 ⟨vj, rfl, gj⟩
    have sj := gives_sl gj
    obtain ⟨Aj, cj, rfl, _, _⟩ := sj.form
    rw [hBL] at sj
    have bK := bJ.trans (gj.2.mono bJ.size)
    clear gj hJ bJ
    have hb' := hb.trans (bK.mono (by omega))
    clear hb
    have hb := hb'
    clear hb'
    replace hp := hp.below (bK.mono (by omega))
    replace hv := hv.step bK
    replace st := st.below (bK.mono hz)
    replace ra := ra.below bK ra.lt
    replace rb := rb.below bK rb.lt
    replace rc := rc.below bK rc.lt
    replace rd := rd.below bK rd.lt
    replace re := re.below bK re.lt
    replace rf := rf.below bK rf.lt
    replace hz : M ≤ w17.heap.size := by have := bK.size; omega
    clear bK
    have sall : Sl w17 w17.heap.size (.slice (some ⟨qf, 0, none⟩) N N) mo := Sl.of_bytes rf rf.lt hBL (by omega)
    rw [hBL]
    go_wp2_with (go_at_call 19; refine (refEqual_any _ _ _ _ mo mo _ sj sall).mono ?_)
    rintro e wE ⟨rfl, rfl⟩
    rw [show (mo == mo) = true by simp]
    clear sj sall
    go_wp2
    go_ret
    exact ⟨rfl, hb⟩
end Go.Proofs.YtjondbamnbgiaaaDoor
