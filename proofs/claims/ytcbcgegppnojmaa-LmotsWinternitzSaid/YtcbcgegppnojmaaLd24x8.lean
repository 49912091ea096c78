/-
  WALK: the digits of a hash of 24 bytes, by pieces of 8 bits: the program's.
-/
import Derived.Test.YtcbcgegppnojmaaLm4
namespace Go.Proofs.Ytcbcgegppnojmaa
open Go.RowKit
set_option maxRecDepth 100000
set_option maxHeartbeats 4000000 in
theorem digits_24_8 (xc : Int) (xs : Bool) (B : Nat) (v : Value) (bs : List UInt8) (w : World) (hs : Sl w B v bs) (hB : B ≤ w.heap.size) (hl : bs.length = 24) :
    Calls Try.prog 13 #[.agg #[.int .u32 xc, .bool xs, .int .i64 24, .int .i64 8, .int .i64 26, .int .i64 0], v] w (SeeI w (dgs 8 26 0 bs)) := by
  unfold SeeI
  obtain ⟨i0, hi, hz0, hz1, hz2⟩ := info_parts info_int
  have HW : Shh (Row (w.alloc (.cells #[.int .u32 xc, .bool xs, .int .i64 24, .int .i64 8, .int .i64 26, .int .i64 0] 24)) w.heap.size 24 [.int .u32 xc, .bool xs, .int .i64 24, .int .i64 8, .int .i64 26, .int .i64 0] ∧ Below w.heap.size w (w.alloc (.cells #[.int .u32 xc, .bool xs, .int .i64 24, .int .i64 8, .int .i64 26, .int .i64 0] 24)) ∧ Sl (w.alloc (.cells #[.int .u32 xc, .bool xs, .int .i64 24, .int .i64 8, .int .i64 26, .int .i64 0] 24)) B v bs ∧ w.heap.size < (w.alloc (.cells #[.int .u32 xc, .bool xs, .int .i64 24, .int .i64 8, .int .i64 26, .int .i64 0] 24)).heap.size) := ⟨Row.new_ rfl rfl, Below.alloc (Below.refl _ _) (Nat.le_refl _) _, hs.below (Below.alloc (Below.refl _ _) hB _), by rw [asz]; omega⟩
  obtain ⟨A, c, rfl, _, _⟩ := hs.form
  obtain ⟨L, hL⟩ : ∃ L, L = pcs 8 bs := ⟨_, rfl⟩
  have hUL : L.length = 24 := by rw [hL, pcs_length, hl]
  have HL : Shh (L.length = 24 ∧ (∀ d ∈ L, d < 2 ^ 8) ∧ dgs 8 26 0 bs = (L ++ pcs 8 (bigB (chk 8 L * 2 ^ 0) 2)).take 26) := ⟨hUL, by rw [hL]; exact pcs_lt 8 bs, by rw [hL]; rfl⟩
  have HBS : Shh (bs.length = 24) := ⟨hl⟩
  clear hs hUL hl
  go_enter Try.func13, Try.ntmps13
  go_wp2_with (go_at_call 23; refine (pieces_8 B _ bs _ HW.out.2.2.1 (by have := HW.out.2.2.2; omega) (by rw [HBS.out]; omega)).mono ?_)
  unfold IntsIs
  rintro e w1 ⟨u, rfl, hown, hb⟩
  rw [← hL] at hown
  obtain ⟨g, cap, hu⟩ := hown.addr (by rw [HL.out.1]; omega)
  rw [HL.out.1] at hu
  subst hu
  have hG : Shh (∃ G, G = w.heap.size) := ⟨_, rfl⟩
  have F1 : Shh (OwnI w1 (w.heap.size + 1) (.slice (some ⟨g, 0, none⟩) 24 cap) L ∧ Row w1 w.heap.size 24 [.int .u32 xc, .bool xs, .int .i64 24, .int .i64 8, .int .i64 26, .int .i64 0] ∧ Below w.heap.size w w1) := ⟨hown.base (by have := HW.out.2.2.2; omega), HW.out.1.go hb, Below.chain HW.out.2.1 hb⟩
  clear hown hb HW hL hG
  go_wp2
  go_loopw [6, 8, 16] (fun m _ i wr => ∃ (k s : Nat), k ≤ 24 ∧ i = .int .i64 k ∧ m = .int .i64 (s : Int) ∧ s ≤ k * 255 ∧ Shh (s = chk 8 (L.take k)) ∧ Shh (Below w1.heap.size w1 wr)) (fun _ _ i _ => 24 - (intOf i).toNat)
  case atStart => exact ⟨0, 0, Nat.zero_le _, rfl, rfl, by omega, ⟨rfl⟩, ⟨Below.refl _ _⟩⟩
  case round =>
    obtain ⟨k, s, hk, rfl, rfl, hsk, HC, HBl⟩ := hrel
    by_cases hlt : k < 24
    · have hkl : k < L.length := by rw [HL.out.1]; exact hlt
      obtain ⟨d, hd⟩ : ∃ d, d = L[k] := ⟨_, rfl⟩
      have hc1 : wr.cell? ⟨g, k, none⟩ = some (.int .i64 (d : Int)) := by
        obtain ⟨g', e, _, _, hc⟩ := ((SI.of_own F1.out.1).go HBl.out).at_ (by rw [HL.out.1]; omega)
        cases e
        rw [hd]
        exact hc k hkl
      have hdl : d ≤ 255 := by
        have := HL.out.2.1 d (by rw [hd]; exact List.getElem_mem hkl)
        omega
      have HC2 : Shh (s + (255 - d) = chk 8 (L.take (k + 1))) := ⟨by rw [take_snoc L k hkl, chk_snoc, ← HC.out, hd]⟩
      have hs2 : s + (255 - d) ≤ (k + 1) * 255 := by omega
      have e1 : ((s + (255 - d) : Nat) : Int) = (s : Int) + (255 - (d : Int)) := by omega
      have HE := Shh.mk e1
      clear hkl hd HC e1
      go_wp2_with (first | refine wl_loadW 24 (.tmp 2) rfl w.heap.size rfl 24 [.int .u32 xc, .bool xs, .int .i64 24, .int .i64 8, .int .i64 26, .int .i64 0] _ rfl (F1.out.2.1.go HBl.out) Try.underlying24 rfl info_ots ?_ | (go_at_call 24; refine (last_8 _ _ _ _ _ _).mono ?_))
      unfold OldIs
      rintro e w2 ⟨rfl, b2⟩
      have HB2 : Shh (Below w1.heap.size w1 w2) := ⟨Below.chain HBl.out b2⟩
      clear HBl b2
      go_wp2
      go_roundw
      case rel => exact ⟨k + 1, s + (255 - d), by omega, by go_num, by rw [HE.out], hs2, HC2, HB2⟩
      case measure => simp [intOf]; omega
    · have hk2 : s ≤ 6120 := by
        have : k = 24 := by omega
        rw [this] at hsk
        omega
      have HC2 : Shh (s = chk 8 L) := ⟨by rw [HC.out, List.take_of_length_le (by rw [HL.out.1]; omega)]⟩
      have F2 : Shh (OwnI wr (w.heap.size + 1) (.slice (some ⟨g, 0, none⟩) 24 cap) L ∧ Row wr w.heap.size 24 [.int .u32 xc, .bool xs, .int .i64 24, .int .i64 8, .int .i64 26, .int .i64 0] ∧ Below w.heap.size w wr) := ⟨F1.out.1.go HBl.out, F1.out.2.1.go HBl.out, Below.chain F1.out.2.2 HBl.out⟩
      have c5 : wr.cell? ⟨w.heap.size, 5, none⟩ = some (.int .i64 0) := F2.out.2.1.cell 5
      clear HC HBl F1 hsk
      have hU := u16_any (s * 1) wr (by omega)
      have e1 : ((s * 1 : Nat) : Int) = (s : Int) := by omega
      rw [e1] at hU
      clear e1
      go_wp2_with (go_at_call 25; refine hU.mono ?_)
      clear hU
      rintro e w2 ⟨v2, rfl, g2⟩
      obtain ⟨A2, c2, rfl, _, _⟩ := (gives_sl g2).form
      have F3 : Shh (OwnI w2 (w.heap.size + 1) (.slice (some ⟨g, 0, none⟩) 24 cap) L ∧ Row w2 w.heap.size 24 [.int .u32 xc, .bool xs, .int .i64 24, .int .i64 8, .int .i64 26, .int .i64 0] ∧ Below w.heap.size w w2 ∧ Sl w2 w2.heap.size (.slice A2 (bigB (s * 1) 2).length c2) (bigB (s * 1) 2)) := ⟨F2.out.1.go g2.2, F2.out.2.1.go g2.2, Below.chain F2.out.2.2 g2.2, gives_sl g2⟩
      clear g2 F2 c5
      go_wp2
      obtain ⟨G, hG⟩ : ∃ G, w.heap.size = G := ⟨_, rfl⟩
      rw [hG] at F3
      rw [hG]
      refine wp_region_held_drew (S := fun w' => Row w' G 24 [.int .u32 xc, .bool xs, .int .i64 24, .int .i64 8, .int .i64 26, .int .i64 0]) (by kernel_rfl) (F3.out.2.1.drew) (fun hS => ?_)
      clear hS
      generalize hZ : World.drew _ = Z
      have F4 : Shh (OwnI Z (G + 1) (.slice (some ⟨g, 0, none⟩) 24 cap) L ∧ Row Z G 24 [.int .u32 xc, .bool xs, .int .i64 24, .int .i64 8, .int .i64 26, .int .i64 0] ∧ Below G w Z ∧ Sl Z Z.heap.size (.slice A2 (bigB (s * 1) 2).length c2) (bigB (s * 1) 2)) := by
        rw [← hZ]
        exact ⟨World.ownsRow.drew F3.out.1, F3.out.2.1.drew, F3.out.2.2.1.drew, F3.out.2.2.2.drew⟩
      clear F3 hZ
      have oZ := F4.out.1
      have rZ := F4.out.2.1
      have sZ := F4.out.2.2.2
      have bW := F4.out.2.2.1
      clear F4
      refine held_value 0 _ _ (some 33) (.slice (some ⟨g, 0, none⟩) 24 cap) (by kernel_rfl) (by rfl) (by kernel_rfl) (fun w hS => by first | kernel_rfl | go_simp) (fun _ _ _ _ h => h) (rZ) ?_
      simp only [Act.put, List.setIfInBounds_toArray, List.set_cons_zero, List.set_cons_succ]
      refine held_value 1 _ _ (some 34) (.slice A2 (bigB (s * 1) 2).length c2) (by kernel_rfl) (by rfl) (by kernel_rfl) (fun w hS => by first | kernel_rfl | go_simp) (fun _ _ _ _ h => h) (rZ) ?_
      simp only [Act.put, List.setIfInBounds_toArray, List.set_cons_zero, List.set_cons_succ]
      refine held_value 2 _ _ (some 35) (.pointer (some ⟨G, 3, none⟩)) (by kernel_rfl) (by rfl) (by kernel_rfl) (fun w hS => by first | kernel_rfl | go_simp) (fun _ _ _ _ h => h) (rZ) ?_
      simp only [Act.put, List.setIfInBounds_toArray, List.set_cons_zero, List.set_cons_succ]
      refine held_value 3 _ _ (some 36) (.int .i64 8) (by kernel_rfl) (by rfl) (by kernel_rfl) (fun w hS => by have h2 : w.cell? ⟨G, 3, none⟩ = some (.int .i64 8) := hS.cell 3; go_simp) (fun _ _ _ _ h => h) (rZ) ?_
      simp only [Act.put, List.setIfInBounds_toArray, List.set_cons_zero, List.set_cons_succ]
      refine held_value 6 _ _ (some 39) (.pointer (some ⟨G, 4, none⟩)) (by kernel_rfl) (by rfl) (by kernel_rfl) (fun w hS => by first | kernel_rfl | go_simp) (fun _ _ _ _ h => h) (rZ) ?_
      simp only [Act.put, List.setIfInBounds_toArray, List.set_cons_zero, List.set_cons_succ]
      refine held_value 7 _ _ (some 40) (.int .i64 26) (by kernel_rfl) (by rfl) (by kernel_rfl) (fun w hS => by have h2 : w.cell? ⟨G, 4, none⟩ = some (.int .i64 26) := hS.cell 4; go_simp) (fun _ _ _ _ h => h) (rZ) ?_
      simp only [Act.put, List.setIfInBounds_toArray, List.set_cons_zero, List.set_cons_succ]
      refine held_one 4 (by kernel_rfl) ?_
      refine step_call 4 _ _ (some 37) 23 #[.slice A2 (bigB (s * 1) 2).length c2, .int .i64 8] (by rfl) (by kernel_rfl) (by first | kernel_rfl | go_simp) ?_
      refine (pieces_8 Z.heap.size _ (bigB (s * 1) 2) Z sZ (Nat.le_refl _) (by rw [bigB_length]; omega)).mono ?_
      rintro e Y1 ⟨v37, rfl, o37, bx⟩
      have bx : Below Z.heap.size Z Y1 := bx
      obtain ⟨g37, c37, h37⟩ := o37.addr (by rw [pcs_length, bigB_length]; omega)
      rw [show (pcs 8 (bigB (s * 1) 2)).length = 2 by rw [pcs_length, bigB_length]] at h37
      subst h37
      have s37 := SI.of_own o37
      clear o37
      have b_Z := bx
      have m_Y1 : Z.heap.size ≤ Y1.heap.size := bx.size
      clear bx
      refine ⟨_, rfl, (rZ.go b_Z), ?_⟩
      simp only [Act.put, List.setIfInBounds_toArray, List.set_cons_zero, List.set_cons_succ]
      refine held_one 5 (by kernel_rfl) ?_
      refine step_appendI Y1 5 _ (some 38) 29 3 i0 (.int .i64 0) Try.underlying29 hi hz0 hz1 hz2 rfl _ _ (by rfl) (by kernel_rfl) (us := intCells (pcs 8 (bigB (s * 1) 2))) (OwnI.go oZ b_Z) rfl rfl (by rw [intCells_length, pcs_length, bigB_length]) (SI.cells s37) (intCells_one _) (by rw [HL.out.1]; omega) (by have := (Row.go rZ b_Z).lt; omega) ?_
      intro v38 Y2 o38 b38
      have hO : OwnI Y2 (G + 1) v38 (L ++ (pcs 8 (bigB (s * 1) 2))) := OwnI.join (by rw [HL.out.1, show (pcs 8 (bigB (s * 1) 2)).length = 2 by rw [pcs_length, bigB_length]]; rw [HL.out.1] at o38; exact o38)
      have hLM : (L ++ (pcs 8 (bigB (s * 1) 2))).length = 26 := by rw [List.length_append, HL.out.1, pcs_length, bigB_length]
      obtain ⟨g38, c38, h38⟩ := hO.addr (by rw [hLM]; omega)
      rw [hLM] at h38
      subst h38
      have sO := SI.of_own hO
      have hc38 : 26 ≤ c38 := by have h := sO.form; obtain ⟨a', c', e, h1, _⟩ := h; simp only [Value.slice.injEq] at e; rw [hLM] at h1; rw [e.2.2]; exact h1
      have bY : Below G w Y2 := (bW.trans (b_Z.mono (by have := rZ.lt; omega))).trans (b38 G (by omega))
      have HF : Shh (SI Y2 Y2.heap.size (.slice (some ⟨g38, 0, none⟩) 26 c38) (dgs 8 26 0 bs) ∧ Below G w Y2) := ⟨by rw [HL.out.2.2, ← HC2.out]; exact SI.take sO 26 (by rw [hLM]; omega), bY⟩
      have rY : Row Y2 G 24 [.int .u32 xc, .bool xs, .int .i64 24, .int .i64 8, .int .i64 26, .int .i64 0] := (Row.go rZ b_Z).below (b38 (G + 1) (Nat.le_refl _)) (by omega)
      clear hO hLM sO bY o38 b38 rZ
      have rZ := rY
      clear rY
      refine ⟨rZ, ?_⟩
      simp only [Act.put, List.setIfInBounds_toArray, List.set_cons_zero, List.set_cons_succ]
      refine held_value 8 _ _ (some 41) (.slice (some ⟨g38, 0, none⟩) 26 c38) (by kernel_rfl) (by rfl) (by kernel_rfl) (fun w hS => run_slice_op (u := .slice (some ⟨g38, 0, none⟩) 26 c38) (h := .int .i64 26) ⟨rfl, rfl⟩ (run_cutI g38 26 c38 26 26 rfl (by omega) w)) (fun _ _ _ _ h => h) (rZ) ?_
      simp only [Act.put, List.setIfInBounds_toArray, List.set_cons_zero, List.set_cons_succ]
      refine held_value 9 _ _ (some 4) (.slice (some ⟨g38, 0, none⟩) 26 c38) (by kernel_rfl) (by rfl) (by kernel_rfl) (fun w hS => by first | kernel_rfl | go_simp) (fun _ _ _ _ h => h) (rZ) ?_
      simp only [Act.put, List.setIfInBounds_toArray, List.set_cons_zero, List.set_cons_succ]
      refine wpAnyH_done (by kernel_rfl) ?_ _
      go_wp2
      go_ret
      subst hG
      exact ⟨_, rfl, HF.out.1, HF.out.2⟩
end Go.Proofs.Ytcbcgegppnojmaa
