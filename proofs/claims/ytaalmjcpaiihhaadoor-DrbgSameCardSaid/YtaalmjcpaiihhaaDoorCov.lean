/-
  THE WALK of seal.covered.
-/
import Derived.Test.YtaalmjcpaiihhaaDoorCov0
import Derived.Great.Walk
namespace Go.Proofs.YtaalmjcpaiihhaaDoor
open Go.RowKit
set_option maxRecDepth 100000

/-- x[i:j] of a slice of bytes, within its length -/
theorem wpList_slice_mid {ops : Array Oper} {rest : List Oper} {o : Oper} {a : Act} {w : World} {Q : Exit → Act → World → Prop} (hgd : o.guard = none) (x lo hi : Operand) (ho : o.op = .slice 24 x (some lo) (some hi) none)
    (B : Nat) (v : Value) (hx : a.eval x = v) (bs : List UInt8) (hs : Sl w B v bs) (i j : Nat) (hlo : a.eval lo = .int .i64 (i : Int)) (hhi : a.eval hi = .int .i64 (j : Int)) (hij : i ≤ j) (hj : j ≤ bs.length)
    (h : ∀ v', Sl w B v' ((bs.take j).drop i) → wpList Tryd.prog ops Q rest (a.put o.dst v') w) : wpList Tryd.prog ops Q (o :: rest) a w := by
  obtain ⟨A, c, rfl, h1, h2⟩ := hs.form
  have hcut := hs.cut i j hij hj (by omega)
  refine wpList_plain hgd fun K hK => ?_
  have hrun : (Instr.sliceAt 24 (.slice A bs.length c) (some (.int .i64 (i : Int))) (some (.int .i64 (j : Int))) none).run Tryd.prog w = .ok (sliced A i j c 1) w := by
    rw [run_sliceAt_slice _ _ _ _ _ _ slice30, run_slice_lh w 24 A bs.length c slice30 .i64 .i64 (i : Int) (j : Int) (by omega) (by omega) (by omega), elem30, run_sizeOf_u8, Result.andThen_ok, Int.toNat_natCast, Int.toNat_natCast]
  unfold Oper.wp execOp
  simp only [ho, hx, hlo, hhi, Option.map_some, Option.map_none, Sem.run_bind, hrun, Result.andThen_ok]
  exact hK _ _ (h _ hcut)

theorem wpList_min {P : Program} {ops : Array Oper} {rest : List Oper} {o : Oper} {a : Act} {w : World} {Q : Exit → Act → World → Prop} (hgd : o.guard = none) (x y : Operand) (T T' : TypeId) (ho : o.op = .call { callee := .builtin .min, args := #[x, y], argTypes := #[T, T'] })
    (i j m : Int) (hx : a.eval x = .int .i64 i) (hy : a.eval y = .int .i64 j) (hm : (if j < i then j else i) = m) (h : wpList P ops Q rest (a.put o.dst (.int .i64 m)) w) : wpList P ops Q (o :: rest) a w := by
  refine Go.Great.wpList_runTo hgd o.dst rfl (.int .i64 m) w ?_ h
  have hrun := run_min_int2 (P := P) (w := w) #[T, T'] o.type .i64 .i64 i j
  rw [hm] at hrun
  simp [execOp, ho, resolve, invoke, builtin, hx, hy, hrun, Result.andThen]

theorem q_i64 {a b : Int} (h : a = b) : Value.int .i64 a = .int .i64 b := h ▸ rfl
set_option maxHeartbeats 2000000 in
theorem covered_any (B : Nat) (ve vt : Value) (enc nonce text : List UInt8) (w : World) (he : Sl w B ve enc) (ht : Sl w B vt text) (hB : B ≤ w.heap.size) (hv : Vars w) (hnl : nonce.length = 12) (hel : enc.length ≤ 1000000) (htl : text.length ≤ 2000000) :
    Calls Tryd.prog 42 #[ve, .agg (Lib.byteCells nonce).toArray, vt] w (OwnIs w (covB enc nonce text)) := by
  unfold OwnIs
  obtain ⟨i0, hi0, hz0, hz1, hz2⟩ := info_parts info_u8
  obtain ⟨A1, c1, rfl, _, _⟩ := he.form
  obtain ⟨A2, c2, rfl, _, _⟩ := ht.form
  have hmk := make0_run text.length (by omega)
  generalize hN : w.heap.size = N at *
  obtain ⟨nb, hnb⟩ : ∃ nb, nb = blocksN text.length := ⟨_, rfl⟩
  have hnb1 : text.length ≤ 32 * nb ∧ 32 * nb < text.length + 32 := by rw [hnb]; unfold blocksN; omega
  have HNB := Lib.hid hnb
  clear hnb
  obtain ⟨W1, hW1⟩ : ∃ W1, W1 = w.alloc (.cells (Lib.byteCells nonce).toArray 23) := ⟨_, rfl⟩
  have hb1 : Below N w W1 := by rw [hW1]; exact (Below.refl N w).alloc (by omega) _
  have hzW : W1.heap.size = N + 1 := by rw [hW1, asz, hN]
  have hr1 : Row W1 N 23 (Lib.byteCells nonce) := by rw [hW1]; exact Row.new_ hN.symm rfl
  have HC : Shh (Vars W1 ∧ Sl W1 W1.heap.size (.slice A1 enc.length c1) enc ∧ Sl W1 W1.heap.size (.slice A2 text.length c2) text ∧ Row W1 N 23 (Lib.byteCells nonce) ∧ Below N w W1) :=
    ⟨hv.step (by rw [hN]; exact hb1), (he.below (hb1.mono hB)).more (by omega), (ht.below (hb1.mono hB)).more (by omega), hr1, hb1⟩
  have hfl : [nonce, bigB 0 4].flatten.length = 16 := by simp [bigB_length, hnl]
  clear he ht hv hb1 hr1
  go_enter Tryd.func42, Tryd.ntmps42
  go_wp2
  go_loopw [7, 8, 9, 10, 11, 12, 21] (fun o _ _ _ _ _ i wr => ∃ k : Nat, k ≤ nb ∧ i = .int .i64 k ∧ Shh (wr.ownsRow (N + 1) 5 1 o (covN enc nonce text k).length (Lib.byteCells (covN enc nonce text k)) ∧ Below W1.heap.size W1 wr))  (fun _ _ _ _ _ _ i _ => nb - (intOf i).toNat)
  case atStart =>
    refine ⟨0, Nat.zero_le _, rfl, ⟨?_, ?_⟩⟩
    · rw [← hW1]
      have := World.ownsRow_made (base := N + 1) (e := 5) (size := 1) W1 (Lib.byteCells (List.replicate text.length 0)).toArray text.length (by omega) (by unfold maxLen; omega) (by simp [Lib.byteCells_length])
      rw [hzW] at this
      simpa [covN, strN, Lib.byteCells] using this
    · rw [← hW1]
      exact Below.alloc (Below.refl _ _) (Nat.le_refl _) _
  case round =>
    obtain ⟨k, hk, rfl, H⟩ := hrel
    by_cases hlt : k < nb
    · have hlt2 : (k : Int) < ((text.length : Int) + 32 - 1) / 32 := by omega
      obtain ⟨m, hm⟩ : ∃ m, m = min 32 (text.length - 32 * k) := ⟨_, rfl⟩
      have hm1 : m ≤ 32 ∧ 32 * k + m ≤ text.length ∧ (m = 32 ∨ 32 * k + m = text.length) := by omega
      obtain ⟨e, he⟩ : ∃ e, e = k * 32 + m := ⟨_, rfl⟩
      have qe : e ≤ text.length ∧ k * 32 ≤ e := by omega
      have qmin : Shh ((if (text.length : Int) < ((k : Int) + 1) * 32 then (text.length : Int) else ((k : Int) + 1) * 32) = (e : Int)) := ⟨by split <;> omega⟩
      have HMm := Lib.hid (And.intro hm he)
      clear hm he
      have HT : Shh (Sl wr W1.heap.size (.slice A2 text.length c2) text) := ⟨HC.out.2.2.1.below H.out.2⟩
      go_wp2_with (first | refine wpList_min rfl (.tmp 29) (.tmp 31) 3 3 rfl (((k : Int) + 1) * 32) (text.length : Int) (e : Int) rfl rfl qmin.out ?_ | refine (wpList_slice_mid rfl (.tmp 24) (.tmp 26) (.tmp 32) rfl W1.heap.size (.slice A2 text.length c2) rfl text HT.out (k * 32) e (q_i64 (by omega)) rfl qe.2 qe.1 ?_))
      intro vp hvp
      obtain ⟨pc, hpc⟩ : ∃ pc, pc = (text.take e).drop (k * 32) := ⟨_, rfl⟩
      have hpl : pc.length = m := by rw [hpc, List.length_drop, List.length_take]; have := HMm.out.2; omega
      have HPC : Shh (pc = (text.drop (32 * k)).take 32 ∧ pc.length = m) := ⟨by
        rw [hpc, List.drop_take, Nat.mul_comm k 32]
        have h1 := HMm.out
        rw [List.take_eq_take_iff, List.length_drop]
        omega, hpl⟩
      rw [← hpc] at hvp
      have hp32 : pc.length ≤ 32 := by omega
      clear hpc hpl
      go_wp2
      have HF : Shh (Own wr (N + 1) u7 (covN enc nonce text k) ∧ Sl wr wr.heap.size (.slice A1 enc.length c1) enc ∧ Row wr N 23 (Lib.byteCells nonce) ∧ Vars wr ∧ Sl wr wr.heap.size vp pc ∧ Below W1.heap.size W1 wr ∧ N + 1 ≤ wr.heap.size) :=
        ⟨H.out.1, HC.out.2.1.go H.out.2, HC.out.2.2.2.1.go H.out.2, HC.out.1.go H.out.2, hvp.more (by have := H.out.2.size; omega), H.out.2, by have := H.out.2.size; omega⟩
      clear hvp HT H
      obtain ⟨blk, hblk⟩ : ∃ blk, blk = blkB enc nonce k := ⟨_, rfl⟩
      have hbl : blk.length = 32 := by rw [hblk]; exact blkB_length _ _ _
      have HBK : Shh (macB enc [nonce, bigB k 4].flatten = blk) := ⟨by rw [hblk]; unfold blkB; simp⟩
      have HBE : Shh (blk = blkB enc nonce k) := ⟨hblk⟩
      have hk32 : k < 4294967296 := by omega
      have qk : IntKind.u32.wrap (k : Int) = (k : Int) := by rw [IntKind.wrap_u32]; omega
      clear hblk
      refine share (T := ?T) (fun hT => ?gg) ?tt
      case gg =>
        refine wp_region_held_drew (S := fun _ => True) (by kernel_rfl) trivial (fun hS => ?_)
        have HFD : Shh (Own wr.drew (N + 1) u7 (covN enc nonce text k) ∧ Sl wr.drew wr.drew.heap.size (.slice A1 enc.length c1) enc ∧ Row wr.drew N 23 (Lib.byteCells nonce) ∧ Vars wr.drew ∧ Sl wr.drew wr.drew.heap.size vp pc ∧ Below W1.heap.size W1 wr.drew ∧ N + 1 ≤ wr.drew.heap.size) :=
          ⟨World.ownsRow.drew HF.out.1, HF.out.2.1, HF.out.2.2.1, HF.out.2.2.2.1, HF.out.2.2.2.2.1, HF.out.2.2.2.2.2.1.drew, HF.out.2.2.2.2.2.2⟩
        generalize wr.drew = W at HFD ⊢
        have HO := HFD.out.1
        have HE := HFD.out.2.1
        have HNR := HFD.out.2.2.1
        have HVA := HFD.out.2.2.2.1
        obtain ⟨M, hM⟩ : ∃ M, M = W.heap.size := ⟨_, rfl⟩
        have HM : Shh (W.heap.size = M) := ⟨hM.symm⟩
        clear hM
        refine held_value 0 _ _ (some 34) (.slice A1 enc.length c1) (by kernel_rfl) (by rfl) (by kernel_rfl) (fun w hS => by first | kernel_rfl | go_simp) (fun _ _ _ _ h => h) trivial ?_
        simp only [Act.put, List.setIfInBounds_toArray, List.set_cons_zero, List.set_cons_succ]
        refine held_value 1 _ _ (some 35) (.slice (some ⟨N, 0, none⟩) 12 12) (by kernel_rfl) (by rfl) (by kernel_rfl) (fun w hS => by first | kernel_rfl | go_simp) (fun _ _ _ _ h => h) trivial ?_
        simp only [Act.put, List.setIfInBounds_toArray, List.set_cons_zero, List.set_cons_succ]
        refine held_value 2 _ _ (some 36) (.int .i64 (k : Int)) (by kernel_rfl) (by rfl) (by kernel_rfl) (fun w hS => by first | kernel_rfl | go_simp) (fun _ _ _ _ h => h) trivial ?_
        simp only [Act.put, List.setIfInBounds_toArray, List.set_cons_zero, List.set_cons_succ]
        refine held_value 3 _ _ (some 37) (.int .u32 (k : Int)) (by kernel_rfl) (by rfl) (by kernel_rfl) (fun w hS => by go_simp) (fun _ _ _ _ h => h) trivial ?_
        simp only [Act.put, List.setIfInBounds_toArray, List.set_cons_zero, List.set_cons_succ]
        refine held_two 4 7 (by kernel_rfl) ?_ ?_
        · refine step_call 4 _ _ (some 38) 64 #[.int .u32 (k : Int)] (by rfl) (by kernel_rfl) (by first | kernel_rfl | go_simp) ?_
          refine (u32_any k W (by omega)).mono ?_
          rintro e Y1 ⟨v38, rfl, g38⟩
          have bx : Below W.heap.size W Y1 := g38.2
          have s38 := gives_sl g38
          clear g38
          obtain ⟨A38, c38, rfl, _, _⟩ := s38.form
          have b_W := bx
          have m_Y1 : W.heap.size ≤ Y1.heap.size := bx.size
          clear bx
          refine ⟨_, rfl, trivial, ?_⟩
          simp only [Act.put, List.setIfInBounds_toArray, List.set_cons_zero, List.set_cons_succ]
          refine held_two 5 7 (by kernel_rfl) ?_ ?_
          · refine step_value 5 _ _ (some 39) (.slice (some ⟨Y1.heap.size, 0, none⟩) 2 2) (Y1.alloc (.cells #[.slice (some ⟨N, 0, none⟩) 12 12, .slice A38 (bigB k 4).length c38] 24)) (by rfl) (by kernel_rfl) (by first | kernel_rfl | go_simp) trivial ?_
            simp only [Act.put, List.setIfInBounds_toArray, List.set_cons_zero, List.set_cons_succ]
            have bx : Below Y1.heap.size Y1 (Y1.alloc (.cells #[.slice (some ⟨N, 0, none⟩) 12 12, .slice A38 (bigB k 4).length c38] 24)) := Below.alloc (Below.refl _ _) (Nat.le_refl _) _
            have rP : Row (Y1.alloc (.cells #[.slice (some ⟨N, 0, none⟩) 12 12, .slice A38 (bigB k 4).length c38] 24)) Y1.heap.size 24 [.slice (some ⟨N, 0, none⟩) 12 12, .slice A38 (bigB k 4).length c38] := Row.new_ rfl rfl
            have z_rP := asz Y1 (.cells #[.slice (some ⟨N, 0, none⟩) 12 12, .slice A38 (bigB k 4).length c38] 24)
            generalize Y1.alloc (.cells #[.slice (some ⟨N, 0, none⟩) 12 12, .slice A38 (bigB k 4).length c38] 24) = Y2 at *
            replace b_W := Below.chain b_W bx
            have b_Y1 := bx
            have m_Y2 : Y1.heap.size ≤ Y2.heap.size := bx.size
            clear bx
            refine held_two 6 7 (by kernel_rfl) ?_ ?_
            · refine step_call 6 _ _ (some 40) 44 #[.slice A1 enc.length c1, .slice (some ⟨Y1.heap.size, 0, none⟩) 2 2] (by rfl) (by kernel_rfl) (by first | kernel_rfl | go_simp) ?_
              refine (mac_any Y2.heap.size _ _ enc [nonce, bigB k 4] Y2 (HE.go b_W) (PartsO.two rP.lt (Nat.ne_of_lt rP.lt) rP ((HNR.go b_W).sl hnl (by omega)) (((HNR.go b_W).sl hnl (by omega)).off (Nat.le_refl _)) (s38.go b_Y1) ((s38.go b_Y1).off (Nat.le_refl _))) (Nat.le_refl _) (HVA.go b_W) hel (by simp [bigB_length, hnl]) (by simp)).mono ?_
              rintro e Y3 ⟨rfl, bx⟩
              have bx : Below Y2.heap.size Y2 Y3 := bx
              rw [HBK.out]
              replace b_W := Below.chain b_W bx
              replace b_Y1 := Below.chain b_Y1 bx
              have b_Y2 := bx
              have m_Y3 : Y2.heap.size ≤ Y3.heap.size := bx.size
              clear bx
              refine ⟨_, rfl, trivial, ?_⟩
              simp only [Act.put, List.setIfInBounds_toArray, List.set_cons_zero, List.set_cons_succ]
              refine held_one 7 (by kernel_rfl) ?_
              refine step_value 7 _ _ (some 10) (.pointer (some ⟨Y3.heap.size, 0, none⟩)) (Y3.alloc (.cells (Lib.byteCells (List.replicate 32 0)).toArray 22)) (by rfl) (by kernel_rfl) (by first | kernel_rfl | go_simp) trivial ?_
              simp only [Act.put, List.setIfInBounds_toArray, List.set_cons_zero, List.set_cons_succ]
              have bx : Below Y3.heap.size Y3 (Y3.alloc (.cells (Lib.byteCells (List.replicate 32 0)).toArray 22)) := Below.alloc (Below.refl _ _) (Nat.le_refl _) _
              have rA : Row (Y3.alloc (.cells (Lib.byteCells (List.replicate 32 0)).toArray 22)) Y3.heap.size 22 (Lib.byteCells (List.replicate 32 0)) := Row.new_ rfl rfl
              have z_rA := asz Y3 (.cells (Lib.byteCells (List.replicate 32 0)).toArray 22)
              generalize Y3.alloc (.cells (Lib.byteCells (List.replicate 32 0)).toArray 22) = Y4 at *
              replace b_W := Below.chain b_W bx
              replace b_Y1 := Below.chain b_Y1 bx
              replace b_Y2 := Below.chain b_Y2 bx
              have b_Y3 := bx
              have m_Y4 : Y3.heap.size ≤ Y4.heap.size := bx.size
              clear bx
              refine held_one 8 (by kernel_rfl) ?_
              refine step_storeRow 8 22 (.tmp 10) (.tmp 40) (by rfl) (by kernel_rfl) (_) rfl (Lib.byteCells blk) rfl 22 (Lib.byteCells (List.replicate 32 0)) rA (info_b32.trans (size_bytes _ _ hbl)) (by rw [Lib.byteCells_length, Lib.byteCells_length, hbl]; rfl) (cell_oneCell _) ?_
              intro Y5 rS bt zt
              replace b_W := b_W.trans (bt.under (by first | omega | (have := b_W.size; omega)) (by first | omega | (have := b_W.size; omega)))
              replace b_Y1 := b_Y1.trans (bt.under (by first | omega | (have := b_Y1.size; omega)) (by first | omega | (have := b_Y1.size; omega)))
              replace b_Y2 := b_Y2.trans (bt.under (by first | omega | (have := b_Y2.size; omega)) (by first | omega | (have := b_Y2.size; omega)))
              replace b_Y3 := b_Y3.trans (bt.under (by first | omega | (have := b_Y3.size; omega)) (by first | omega | (have := b_Y3.size; omega)))
              refine ⟨trivial, ?_⟩
              refine wpAnyH_done (by kernel_rfl) ?_ _
              generalize hnA : Y3.heap.size = n10
              generalize hnP : Y1.heap.size = b39
              have F : Shh (Row Y5 n10 22 (Lib.byteCells blk) ∧ Below W1.heap.size W1 Y5 ∧ Own Y5 (N + 1) u7 (covN enc nonce text k) ∧ Sl Y5 Y5.heap.size vp pc ∧ (∀ j, u7.ownBlock = some j → j < n10)) := ⟨by rw [← hnA]; exact rS, Below.chain HFD.out.2.2.2.2.2.1 b_W, HO.go b_W, HFD.out.2.2.2.2.1.go b_W, fun j hj => Nat.lt_of_lt_of_le (HO.lt j hj).2 (by omega)⟩
              clear zt bt rS m_Y4 b_Y3 z_rA rA m_Y3 b_Y2 m_Y2 b_Y1 z_rP rP m_Y1 b_W s38 hnA hnP
              revert F n10 b39
              revert Y5
              revert A38 c38
              exact hT.out
            · refine step_value 7 _ _ (some 10) (.pointer (some ⟨Y2.heap.size, 0, none⟩)) (Y2.alloc (.cells (Lib.byteCells (List.replicate 32 0)).toArray 22)) (by rfl) (by kernel_rfl) (by first | kernel_rfl | go_simp) trivial ?_
              simp only [Act.put, List.setIfInBounds_toArray, List.set_cons_zero, List.set_cons_succ]
              have bx : Below Y2.heap.size Y2 (Y2.alloc (.cells (Lib.byteCells (List.replicate 32 0)).toArray 22)) := Below.alloc (Below.refl _ _) (Nat.le_refl _) _
              have rA : Row (Y2.alloc (.cells (Lib.byteCells (List.replicate 32 0)).toArray 22)) Y2.heap.size 22 (Lib.byteCells (List.replicate 32 0)) := Row.new_ rfl rfl
              have z_rA := asz Y2 (.cells (Lib.byteCells (List.replicate 32 0)).toArray 22)
              generalize Y2.alloc (.cells (Lib.byteCells (List.replicate 32 0)).toArray 22) = Y3 at *
              replace b_W := Below.chain b_W bx
              replace b_Y1 := Below.chain b_Y1 bx
              have b_Y2 := bx
              have m_Y3 : Y2.heap.size ≤ Y3.heap.size := bx.size
              clear bx
              refine held_one 6 (by kernel_rfl) ?_
              refine step_call 6 _ _ (some 40) 44 #[.slice A1 enc.length c1, .slice (some ⟨Y1.heap.size, 0, none⟩) 2 2] (by rfl) (by kernel_rfl) (by first | kernel_rfl | go_simp) ?_
              refine (mac_any Y3.heap.size _ _ enc [nonce, bigB k 4] Y3 (HE.go b_W) (PartsO.two (rP.go b_Y2).lt (Nat.ne_of_lt (rP.go b_Y2).lt) (rP.go b_Y2) ((HNR.go b_W).sl hnl (by omega)) (((HNR.go b_W).sl hnl (by omega)).off (Nat.le_refl _)) (s38.go b_Y1) ((s38.go b_Y1).off (Nat.le_refl _))) (Nat.le_refl _) (HVA.go b_W) hel (by simp [bigB_length, hnl]) (by simp)).mono ?_
              rintro e Y4 ⟨rfl, bx⟩
              have bx : Below Y3.heap.size Y3 Y4 := bx
              rw [HBK.out]
              replace b_W := Below.chain b_W bx
              replace b_Y1 := Below.chain b_Y1 bx
              replace b_Y2 := Below.chain b_Y2 bx
              have b_Y3 := bx
              have m_Y4 : Y3.heap.size ≤ Y4.heap.size := bx.size
              clear bx
              refine ⟨_, rfl, trivial, ?_⟩
              simp only [Act.put, List.setIfInBounds_toArray, List.set_cons_zero, List.set_cons_succ]
              refine held_one 8 (by kernel_rfl) ?_
              refine step_storeRow 8 22 (.tmp 10) (.tmp 40) (by rfl) (by kernel_rfl) (_) rfl (Lib.byteCells blk) rfl 22 (Lib.byteCells (List.replicate 32 0)) (rA.go b_Y3) (info_b32.trans (size_bytes _ _ hbl)) (by rw [Lib.byteCells_length, Lib.byteCells_length, hbl]; rfl) (cell_oneCell _) ?_
              intro Y5 rS bt zt
              replace b_W := b_W.trans (bt.under (by first | omega | (have := b_W.size; omega)) (by first | omega | (have := b_W.size; omega)))
              replace b_Y1 := b_Y1.trans (bt.under (by first | omega | (have := b_Y1.size; omega)) (by first | omega | (have := b_Y1.size; omega)))
              replace b_Y2 := b_Y2.trans (bt.under (by first | omega | (have := b_Y2.size; omega)) (by first | omega | (have := b_Y2.size; omega)))
              refine ⟨trivial, ?_⟩
              refine wpAnyH_done (by kernel_rfl) ?_ _
              generalize hnA : Y2.heap.size = n10
              generalize hnP : Y1.heap.size = b39
              have F : Shh (Row Y5 n10 22 (Lib.byteCells blk) ∧ Below W1.heap.size W1 Y5 ∧ Own Y5 (N + 1) u7 (covN enc nonce text k) ∧ Sl Y5 Y5.heap.size vp pc ∧ (∀ j, u7.ownBlock = some j → j < n10)) := ⟨by rw [← hnA]; exact rS, Below.chain HFD.out.2.2.2.2.2.1 b_W, HO.go b_W, HFD.out.2.2.2.2.1.go b_W, fun j hj => Nat.lt_of_lt_of_le (HO.lt j hj).2 (by omega)⟩
              clear zt bt rS m_Y4 b_Y3 m_Y3 b_Y2 z_rA rA m_Y2 b_Y1 z_rP rP m_Y1 b_W s38 hnA hnP
              revert F n10 b39
              revert Y5
              revert A38 c38
              exact hT.out
          · refine step_value 7 _ _ (some 10) (.pointer (some ⟨Y1.heap.size, 0, none⟩)) (Y1.alloc (.cells (Lib.byteCells (List.replicate 32 0)).toArray 22)) (by rfl) (by kernel_rfl) (by first | kernel_rfl | go_simp) trivial ?_
            simp only [Act.put, List.setIfInBounds_toArray, List.set_cons_zero, List.set_cons_succ]
            have bx : Below Y1.heap.size Y1 (Y1.alloc (.cells (Lib.byteCells (List.replicate 32 0)).toArray 22)) := Below.alloc (Below.refl _ _) (Nat.le_refl _) _
            have rA : Row (Y1.alloc (.cells (Lib.byteCells (List.replicate 32 0)).toArray 22)) Y1.heap.size 22 (Lib.byteCells (List.replicate 32 0)) := Row.new_ rfl rfl
            have z_rA := asz Y1 (.cells (Lib.byteCells (List.replicate 32 0)).toArray 22)
            generalize Y1.alloc (.cells (Lib.byteCells (List.replicate 32 0)).toArray 22) = Y2 at *
            replace b_W := Below.chain b_W bx
            have b_Y1 := bx
            have m_Y2 : Y1.heap.size ≤ Y2.heap.size := bx.size
            clear bx
            refine held_one 5 (by kernel_rfl) ?_
            refine step_value 5 _ _ (some 39) (.slice (some ⟨Y2.heap.size, 0, none⟩) 2 2) (Y2.alloc (.cells #[.slice (some ⟨N, 0, none⟩) 12 12, .slice A38 (bigB k 4).length c38] 24)) (by rfl) (by kernel_rfl) (by first | kernel_rfl | go_simp) trivial ?_
            simp only [Act.put, List.setIfInBounds_toArray, List.set_cons_zero, List.set_cons_succ]
            have bx : Below Y2.heap.size Y2 (Y2.alloc (.cells #[.slice (some ⟨N, 0, none⟩) 12 12, .slice A38 (bigB k 4).length c38] 24)) := Below.alloc (Below.refl _ _) (Nat.le_refl _) _
            have rP : Row (Y2.alloc (.cells #[.slice (some ⟨N, 0, none⟩) 12 12, .slice A38 (bigB k 4).length c38] 24)) Y2.heap.size 24 [.slice (some ⟨N, 0, none⟩) 12 12, .slice A38 (bigB k 4).length c38] := Row.new_ rfl rfl
            have z_rP := asz Y2 (.cells #[.slice (some ⟨N, 0, none⟩) 12 12, .slice A38 (bigB k 4).length c38] 24)
            generalize Y2.alloc (.cells #[.slice (some ⟨N, 0, none⟩) 12 12, .slice A38 (bigB k 4).length c38] 24) = Y3 at *
            replace b_W := Below.chain b_W bx
            replace b_Y1 := Below.chain b_Y1 bx
            have b_Y2 := bx
            have m_Y3 : Y2.heap.size ≤ Y3.heap.size := bx.size
            clear bx
            refine held_one 6 (by kernel_rfl) ?_
            refine step_call 6 _ _ (some 40) 44 #[.slice A1 enc.length c1, .slice (some ⟨Y2.heap.size, 0, none⟩) 2 2] (by rfl) (by kernel_rfl) (by first | kernel_rfl | go_simp) ?_
            refine (mac_any Y3.heap.size _ _ enc [nonce, bigB k 4] Y3 (HE.go b_W) (PartsO.two rP.lt (Nat.ne_of_lt rP.lt) rP ((HNR.go b_W).sl hnl (by omega)) (((HNR.go b_W).sl hnl (by omega)).off (Nat.le_refl _)) (s38.go b_Y1) ((s38.go b_Y1).off (Nat.le_refl _))) (Nat.le_refl _) (HVA.go b_W) hel (by simp [bigB_length, hnl]) (by simp)).mono ?_
            rintro e Y4 ⟨rfl, bx⟩
            have bx : Below Y3.heap.size Y3 Y4 := bx
            rw [HBK.out]
            replace b_W := Below.chain b_W bx
            replace b_Y1 := Below.chain b_Y1 bx
            replace b_Y2 := Below.chain b_Y2 bx
            have b_Y3 := bx
            have m_Y4 : Y3.heap.size ≤ Y4.heap.size := bx.size
            clear bx
            refine ⟨_, rfl, trivial, ?_⟩
            simp only [Act.put, List.setIfInBounds_toArray, List.set_cons_zero, List.set_cons_succ]
            refine held_one 8 (by kernel_rfl) ?_
            refine step_storeRow 8 22 (.tmp 10) (.tmp 40) (by rfl) (by kernel_rfl) (_) rfl (Lib.byteCells blk) rfl 22 (Lib.byteCells (List.replicate 32 0)) (rA.go b_Y2) (info_b32.trans (size_bytes _ _ hbl)) (by rw [Lib.byteCells_length, Lib.byteCells_length, hbl]; rfl) (cell_oneCell _) ?_
            intro Y5 rS bt zt
            replace b_W := b_W.trans (bt.under (by first | omega | (have := b_W.size; omega)) (by first | omega | (have := b_W.size; omega)))
            replace b_Y1 := b_Y1.trans (bt.under (by first | omega | (have := b_Y1.size; omega)) (by first | omega | (have := b_Y1.size; omega)))
            refine ⟨trivial, ?_⟩
            refine wpAnyH_done (by kernel_rfl) ?_ _
            generalize hnA : Y1.heap.size = n10
            generalize hnP : Y2.heap.size = b39
            have F : Shh (Row Y5 n10 22 (Lib.byteCells blk) ∧ Below W1.heap.size W1 Y5 ∧ Own Y5 (N + 1) u7 (covN enc nonce text k) ∧ Sl Y5 Y5.heap.size vp pc ∧ (∀ j, u7.ownBlock = some j → j < n10)) := ⟨by rw [← hnA]; exact rS, Below.chain HFD.out.2.2.2.2.2.1 b_W, HO.go b_W, HFD.out.2.2.2.2.1.go b_W, fun j hj => Nat.lt_of_lt_of_le (HO.lt j hj).2 (by omega)⟩
            clear zt bt rS m_Y4 b_Y3 m_Y3 b_Y2 z_rP rP m_Y2 b_Y1 z_rA rA m_Y1 b_W s38 hnA hnP
            revert F n10 b39
            revert Y5
            revert A38 c38
            exact hT.out
        · refine step_value 7 _ _ (some 10) (.pointer (some ⟨W.heap.size, 0, none⟩)) (W.alloc (.cells (Lib.byteCells (List.replicate 32 0)).toArray 22)) (by rfl) (by kernel_rfl) (by first | kernel_rfl | go_simp) trivial ?_
          simp only [Act.put, List.setIfInBounds_toArray, List.set_cons_zero, List.set_cons_succ]
          have bx : Below W.heap.size W (W.alloc (.cells (Lib.byteCells (List.replicate 32 0)).toArray 22)) := Below.alloc (Below.refl _ _) (Nat.le_refl _) _
          have rA : Row (W.alloc (.cells (Lib.byteCells (List.replicate 32 0)).toArray 22)) W.heap.size 22 (Lib.byteCells (List.replicate 32 0)) := Row.new_ rfl rfl
          have z_rA := asz W (.cells (Lib.byteCells (List.replicate 32 0)).toArray 22)
          generalize W.alloc (.cells (Lib.byteCells (List.replicate 32 0)).toArray 22) = Y1 at *
          have b_W := bx
          have m_Y1 : W.heap.size ≤ Y1.heap.size := bx.size
          clear bx
          refine held_one 4 (by kernel_rfl) ?_
          refine step_call 4 _ _ (some 38) 64 #[.int .u32 (k : Int)] (by rfl) (by kernel_rfl) (by first | kernel_rfl | go_simp) ?_
          refine (u32_any k Y1 (by omega)).mono ?_
          rintro e Y2 ⟨v38, rfl, g38⟩
          have bx : Below Y1.heap.size Y1 Y2 := g38.2
          have s38 := gives_sl g38
          clear g38
          obtain ⟨A38, c38, rfl, _, _⟩ := s38.form
          replace b_W := Below.chain b_W bx
          have b_Y1 := bx
          have m_Y2 : Y1.heap.size ≤ Y2.heap.size := bx.size
          clear bx
          refine ⟨_, rfl, trivial, ?_⟩
          simp only [Act.put, List.setIfInBounds_toArray, List.set_cons_zero, List.set_cons_succ]
          refine held_one 5 (by kernel_rfl) ?_
          refine step_value 5 _ _ (some 39) (.slice (some ⟨Y2.heap.size, 0, none⟩) 2 2) (Y2.alloc (.cells #[.slice (some ⟨N, 0, none⟩) 12 12, .slice A38 (bigB k 4).length c38] 24)) (by rfl) (by kernel_rfl) (by first | kernel_rfl | go_simp) trivial ?_
          simp only [Act.put, List.setIfInBounds_toArray, List.set_cons_zero, List.set_cons_succ]
          have bx : Below Y2.heap.size Y2 (Y2.alloc (.cells #[.slice (some ⟨N, 0, none⟩) 12 12, .slice A38 (bigB k 4).length c38] 24)) := Below.alloc (Below.refl _ _) (Nat.le_refl _) _
          have rP : Row (Y2.alloc (.cells #[.slice (some ⟨N, 0, none⟩) 12 12, .slice A38 (bigB k 4).length c38] 24)) Y2.heap.size 24 [.slice (some ⟨N, 0, none⟩) 12 12, .slice A38 (bigB k 4).length c38] := Row.new_ rfl rfl
          have z_rP := asz Y2 (.cells #[.slice (some ⟨N, 0, none⟩) 12 12, .slice A38 (bigB k 4).length c38] 24)
          generalize Y2.alloc (.cells #[.slice (some ⟨N, 0, none⟩) 12 12, .slice A38 (bigB k 4).length c38] 24) = Y3 at *
          replace b_W := Below.chain b_W bx
          replace b_Y1 := Below.chain b_Y1 bx
          have b_Y2 := bx
          have m_Y3 : Y2.heap.size ≤ Y3.heap.size := bx.size
          clear bx
          refine held_one 6 (by kernel_rfl) ?_
          refine step_call 6 _ _ (some 40) 44 #[.slice A1 enc.length c1, .slice (some ⟨Y2.heap.size, 0, none⟩) 2 2] (by rfl) (by kernel_rfl) (by first | kernel_rfl | go_simp) ?_
          refine (mac_any Y3.heap.size _ _ enc [nonce, bigB k 4] Y3 (HE.go b_W) (PartsO.two rP.lt (Nat.ne_of_lt rP.lt) rP ((HNR.go b_W).sl hnl (by omega)) (((HNR.go b_W).sl hnl (by omega)).off (Nat.le_refl _)) (s38.go b_Y2) ((s38.go b_Y2).off (Nat.le_refl _))) (Nat.le_refl _) (HVA.go b_W) hel (by simp [bigB_length, hnl]) (by simp)).mono ?_
          rintro e Y4 ⟨rfl, bx⟩
          have bx : Below Y3.heap.size Y3 Y4 := bx
          rw [HBK.out]
          replace b_W := Below.chain b_W bx
          replace b_Y1 := Below.chain b_Y1 bx
          replace b_Y2 := Below.chain b_Y2 bx
          have b_Y3 := bx
          have m_Y4 : Y3.heap.size ≤ Y4.heap.size := bx.size
          clear bx
          refine ⟨_, rfl, trivial, ?_⟩
          simp only [Act.put, List.setIfInBounds_toArray, List.set_cons_zero, List.set_cons_succ]
          refine held_one 8 (by kernel_rfl) ?_
          refine step_storeRow 8 22 (.tmp 10) (.tmp 40) (by rfl) (by kernel_rfl) (_) rfl (Lib.byteCells blk) rfl 22 (Lib.byteCells (List.replicate 32 0)) (rA.go b_Y1) (info_b32.trans (size_bytes _ _ hbl)) (by rw [Lib.byteCells_length, Lib.byteCells_length, hbl]; rfl) (cell_oneCell _) ?_
          intro Y5 rS bt zt
          replace b_W := b_W.trans (bt.under (by first | omega | (have := b_W.size; omega)) (by first | omega | (have := b_W.size; omega)))
          refine ⟨trivial, ?_⟩
          refine wpAnyH_done (by kernel_rfl) ?_ _
          generalize hnA : W.heap.size = n10
          generalize hnP : Y2.heap.size = b39
          have F : Shh (Row Y5 n10 22 (Lib.byteCells blk) ∧ Below W1.heap.size W1 Y5 ∧ Own Y5 (N + 1) u7 (covN enc nonce text k) ∧ Sl Y5 Y5.heap.size vp pc ∧ (∀ j, u7.ownBlock = some j → j < n10)) := ⟨by rw [← hnA]; exact rS, Below.chain HFD.out.2.2.2.2.2.1 b_W, HO.go b_W, HFD.out.2.2.2.2.1.go b_W, fun j hj => Nat.lt_of_lt_of_le (HO.lt j hj).2 (by omega)⟩
          clear zt bt rS m_Y4 b_Y3 m_Y3 b_Y2 z_rP rP m_Y2 b_Y1 s38 m_Y1 b_W z_rA rA hnA hnP
          revert F n10 b39
          revert Y5
          revert A38 c38
          exact hT.out
      case tt =>
        intro A38 c38 _ _ X n10 b39 F
        obtain ⟨hrA, hbX, hoX, hvX, hnX⟩ := F.out
        obtain ⟨Ap, cp, rfl, _, _⟩ := hvX.form
        have htk : (blk.take pc.length).length = pc.length := by rw [List.length_take]; omega
        have hsb : Sl X X.heap.size (.slice (some ⟨n10, 0, none⟩) pc.length 32) (blk.take pc.length) := Sl.of_row hrA hrA.lt htk hp32 (by unfold maxLen; omega) (fun j hj => by
          rw [htk] at hj
          rw [Nat.zero_add, byteCells_get blk j (by omega), List.getElem_take])
        have hx1 : xored pc (blk.take pc.length) = List.zipWith (· ^^^ ·) pc blk := by
          unfold xored
          rw [if_pos htk.symm, zipWith_take_right]
        have hx2 : pairE pc (blk.take pc.length) = 0 := by unfold pairE; rw [if_pos htk.symm]
        have HX : Shh (xored pc (blk.take pc.length) = List.zipWith (· ^^^ ·) pc blk ∧ pairE pc (blk.take pc.length) = 0) := ⟨hx1, hx2⟩
        have HSS : Shh (Sl X X.heap.size (.slice Ap pc.length cp) pc ∧ Sl X X.heap.size (.slice (some ⟨n10, 0, none⟩) pc.length 32) (blk.take pc.length) ∧ Below W1.heap.size W1 X ∧ Own X (N + 1) u7 (covN enc nonce text k) ∧ (blk.take pc.length).length = pc.length) := ⟨hvX, hsb, hbX, hoX, htk⟩
        clear hrA hbX hvX hnX hsb hx1 hx2 htk F hoX
        have hsl := run_arr32_h n10 pc.length hp32 X
        go_wp2_with (go_at_call 65; refine (xor_any X.heap.size X.heap.size _ _ pc (blk.take pc.length) X HSS.out.1 HSS.out.2.1 (Nat.le_refl _) (Nat.le_refl _) (by omega) (by have := HSS.out.2.2.2.2; omega)).mono ?_)
        rintro ee X2 ⟨v46, rfl, g46⟩
        rw [HX.out.2]
        rw [HX.out.1] at g46
        have h46 := gives_sl g46
        have HS2 : Shh (Sl X2 X2.heap.size v46 (List.zipWith (· ^^^ ·) pc blk) ∧ Below W1.heap.size W1 X2 ∧ Own X2 (N + 1) u7 (covN enc nonce text k) ∧ N + 1 ≤ X2.heap.size ∧ covN enc nonce text (k + 1) = covN enc nonce text k ++ List.zipWith (· ^^^ ·) pc blk ∧ (covN enc nonce text k).length + (List.zipWith (· ^^^ ·) pc blk).length ≤ 140737488355328) :=
          ⟨h46, HSS.out.2.2.1.trans (g46.2.mono HSS.out.2.2.1.size), HSS.out.2.2.2.1.go g46.2, by have := g46.2.size; have := HSS.out.2.2.1.size; omega, by rw [covN_succ _ _ _ _ (by omega), HPC.out.1, HBE.out], by rw [covN_length, List.length_zipWith]; omega⟩
        clear g46 h46 HSS HX
        go_wp2_with (at_builtin; refine wp_appendSl _ 24 5 i0 Tryd.underlying24 hi0 hz0 hz1 hz2 rfl _ _ rfl HS2.out.2.2.1 HS2.out.1 rfl rfl HS2.out.2.2.2.2.2 HS2.out.2.2.2.1 ?_)
        intro v' w5 hown5 _ hb5
        rw [← HS2.out.2.2.2.2.1] at hown5
        have HO5 : Shh (w5.ownsRow (N + 1) 5 1 v' (covN enc nonce text (k + 1)).length (Lib.byteCells (covN enc nonce text (k + 1))) ∧ Below W1.heap.size W1 w5) := ⟨own_len hown5 (by rw [covN_length, covN_length]; have := HMm.out.1; have := HPC.out.2; omega), HS2.out.2.1.trans (hb5 _ (by omega))⟩
        clear hown5 hb5 HS2
        go_wp2
        go_roundw
        case rel => exact ⟨k + 1, by omega, by go_num, HO5⟩
        case measure => simp [intOf]; omega
    · obtain rfl : k = nb := by omega
      have hlt2 : ¬ (k : Int) < ((text.length : Int) + 32 - 1) / 32 := by omega
      have HO : Shh (wr.ownsRow N 5 1 u7 (covB enc nonce text).length (Lib.byteCells (covB enc nonce text)) ∧ Below N w wr) := ⟨by
        rw [← covN_all enc nonce text k (by omega) HNB.out]
        exact own_base H.out.1 (by omega), HC.out.2.2.2.2.trans (H.out.2.mono (by omega))⟩
      clear H
      go_wp2
      go_ret
      refine ⟨_, rfl, ?_⟩
      unfold Gives
      rw [hN]
      exact HO.out
end Go.Proofs.YtaalmjcpaiihhaaDoor
