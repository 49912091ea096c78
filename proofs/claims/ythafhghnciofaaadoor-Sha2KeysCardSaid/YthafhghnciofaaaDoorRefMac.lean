/-
  WALKS: the document's own turned, Mac.
-/
import Derived.Test.YthafhghnciofaaaDoorRefSum
import Derived.Test.YthafhghnciofaaaDoorHmac
namespace Go.Proofs.YthafhghnciofaaaDoor
open Go.RowKit
set_option maxRecDepth 100000

set_option maxHeartbeats 1000000 in
theorem turned_any (c : UInt8) (B : Nat) (v : Value) (k : List UInt8) (w : World) (hs : Sl w B v k) (hB : B ≤ w.heap.size) (hl : k.length ≤ 1000000) :
    Calls Tryd.prog 47 #[v, .int .u8 (c.toNat : Int)] w (OwnIs w (xorB (keyB k) c)) := by
  unfold OwnIs
  obtain ⟨A, ca, rfl, _, _⟩ := hs.form
  generalize hn0 : w.heap.size = n0 at *
  by_cases hlong : 64 < k.length
  · have ht : (64 : Int) < (k.length : Int) := by omega
    go_enter Tryd.func47, Tryd.ntmps47
    go_wp2_with (go_at_call 15; refine (refSum_any B _ k _ hs (by omega) (by omega)).mono ?_)
    rintro e w1 ⟨v1, rfl, g1⟩
    obtain ⟨l, HL⟩ : ∃ l, Hid (l = sha k) := ⟨_, Lib.hid rfl⟩
    rw [← HL.out] at g1
    have hll : l.length ≤ 64 := by rw [HL.out, sha_length]; decide
    have HKE : Hid (keyB k = l ++ List.replicate (64 - l.length) 0) := Lib.hid (by rw [HL.out]; exact keyB_long k hlong)
    obtain ⟨Bl, hBle⟩ : ∃ Bl, Bl = w1.heap.size := ⟨_, rfl⟩
    have sl : Sl w1 Bl v1 l := by rw [hBle]; exact gives_sl g1
    obtain ⟨Al, cl, rfl, _, _⟩ := sl.form
    have hb1 : Below n0 w w1 := by rw [← hn0]; exact g1.2
    have hBl : Bl ≤ w1.heap.size := by omega
    clear g1 hBle
    obtain ⟨K, HK2⟩ : ∃ K, Hid (K = keyB k) := ⟨_, Lib.hid rfl⟩
    have hKl : K.length = 64 := by rw [HK2.out]; exact keyB_length k
    have hKe : Hid (∀ j (h : j < 64), K[j]'(by omega) = if h' : j < l.length then l[j] else 0) := Lib.hid (fun j h => by
      have e := HK2.out.trans HKE.out
      subst e
      split
      · rename_i h'
        rw [List.getElem_append_left h']
      · rename_i h'
        rw [List.getElem_append_right (by omega)]
        simp)
    have hXl : (xorB K c).length = 64 := by rw [xorB_length, hKl]
    have hmk : ∀ u, (Instr.makeSlice 30 (.int .i64 64) (.int .i64 64)).run Tryd.prog u = .ok (.slice (some ⟨u.heap.size, 0, none⟩) 64 64) (u.alloc (.cells (Lib.byteCells (List.replicate 64 0)).toArray 5)) := make_run 64 (by decide)
    have hsz : n0 ≤ w1.heap.size := by have := hb1.size; omega
    have hal : Below w1.heap.size w1 (w1.alloc (.cells (Lib.byteCells (List.replicate 64 0)).toArray 5)) := Below.alloc (Below.refl _ _) (Nat.le_refl _) _
    have hr : Row (w1.alloc (.cells (Lib.byteCells (List.replicate 64 0)).toArray 5)) w1.heap.size 5 (Lib.byteCells (List.replicate 64 0)) := Row.new_ rfl rfl
    have hsA := sl.below (hal.mono hBl)
    have hbA := hb1.trans (hal.mono hsz)
    clear hal sl HKE
    go_wp2
    generalize w1.heap.size = nb at *
    go_loopw [6, 13] (fun _ i wr => ∃ j : Nat, j ≤ 64 ∧ i = .int .i64 j ∧ Row wr nb 5 (Lib.byteCells ((xorB K c).take j ++ List.replicate (64 - j) 0)) ∧ Sl wr Bl (.slice Al l.length cl) l ∧ Below n0 w wr) (fun _ i _ => 64 - (intOf i).toNat)
    case atStart => exact ⟨0, Nat.zero_le _, rfl, hr, hsA, hbA⟩
    case round =>
      clear hr hsA hbA
      obtain ⟨j, hj, rfl, hr, hsA, hbA⟩ := hrel
      by_cases hlt : j < 64
      · have hgz : ((xorB K c).take j ++ List.replicate (64 - j) (0 : UInt8))[j]? = some 0 := by
          rw [List.getElem?_append_right (by rw [List.length_take, hXl]; omega), List.length_take, hXl, Nat.min_eq_left (Nat.le_of_lt hlt), Nat.sub_self, List.getElem?_replicate, if_pos (by omega)]
        have hll : j < ((xorB K c).take j ++ List.replicate (64 - j) (0 : UInt8)).length := by simp; omega
        have hc := hr.cell j
        rw [byteCells_get _ _ hll, (List.getElem_eq_iff hll).2 hgz] at hc
        have hf := hr.free j
        have hke := hKe.out j hlt
        obtain ⟨y, hy⟩ : ∃ y, y = K[j]'(by omega) := ⟨_, rfl⟩
        have hset : ∀ a, Row ((wr.setCell ⟨nb, j, none⟩ a).setCell ⟨nb, j, none⟩ (.int .u8 ((y ^^^ c).toNat : Int))) nb 5 (Lib.byteCells ((xorB K c).take (j + 1) ++ List.replicate (64 - (j + 1)) 0)) := fun a => by
          have h2 := (hr.set_ j a).set_ j (.int .u8 ((y ^^^ c).toNat : Int))
          rw [List.set_set] at h2
          rw [← setk (xorB K c) j 64 hXl hlt (y ^^^ c) (by rw [hy]; simp [xorB])]
          have e : Lib.byteCells (((xorB K c).take j ++ List.replicate (64 - j) 0).set j (y ^^^ c)) = (Lib.byteCells ((xorB K c).take j ++ List.replicate (64 - j) 0)).set j (.int .u8 ((y ^^^ c).toNat : Int)) := by simp [Lib.byteCells, List.map_set]
          rw [e]; exact h2
        have hset1 : Row (wr.setCell ⟨nb, j, none⟩ (.int .u8 ((y ^^^ c).toNat : Int))) nb 5 (Lib.byteCells ((xorB K c).take (j + 1) ++ List.replicate (64 - (j + 1)) 0)) := by
          have h2 := hr.set_ j (.int .u8 ((y ^^^ c).toNat : Int))
          rw [← setk (xorB K c) j 64 hXl hlt (y ^^^ c) (by rw [hy]; simp [xorB])]
          have e : Lib.byteCells (((xorB K c).take j ++ List.replicate (64 - j) 0).set j (y ^^^ c)) = (Lib.byteCells ((xorB K c).take j ++ List.replicate (64 - j) 0)).set j (.int .u8 ((y ^^^ c).toNat : Int)) := by simp [Lib.byteCells, List.map_set]
          rw [e]; exact h2
        rw [← hy] at hke
        have HS := Lib.hid hset
        have HS1 := Lib.hid hset1
        have HX := Lib.hid (u8_xor y c)
        clear hset hset1 hgz hll hy
        by_cases hjl : j < l.length
        · rw [dif_pos hjl] at hke
          obtain ⟨b, off, rfl, hb, hcc⟩ := hsA.at_ (by omega)
          have hck := hcc j hjl
          rw [← hke] at hck
          have hc2 : (wr.setCell ⟨nb, j, none⟩ (.int .u8 (y.toNat : Int))).cell? ⟨nb, j, none⟩ = some (.int .u8 (y.toNat : Int)) := by
            rw [(hr.set_ j _).cell j, List.getElem?_set_self (by rw [Lib.byteCells_length]; simp; omega)]
          have hf2 := (hr.set_ j (.int .u8 (y.toNat : Int))).free j
          have ks := Lib.hid (hsA.below ((Below.setCell (p := ⟨nb, j, none⟩) (Below.refl Bl wr) (by show Bl ≤ nb; omega) (.int .u8 (y.toNat : Int))).setCell (p := ⟨nb, j, none⟩) (by show Bl ≤ nb; omega) (.int .u8 ((y ^^^ c).toNat : Int))))
          have kb := Lib.hid ((hbA.setCell (p := ⟨nb, j, none⟩) (by show n0 ≤ nb; omega) (.int .u8 (y.toNat : Int))).setCell (p := ⟨nb, j, none⟩) (by show n0 ≤ nb; omega) (.int .u8 ((y ^^^ c).toNat : Int)))
          clear hcc hr hsA hbA hke
          go_wp2
          go_roundw
          case rel => exact ⟨j + 1, by omega, by go_num, by rw [HX.out]; exact HS.out _, by rw [HX.out]; exact ks.out, by rw [HX.out]; exact kb.out⟩
          case measure => simp [intOf]; omega
        · rw [dif_neg hjl] at hke
          have ks := Lib.hid (hsA.below (Below.setCell (p := ⟨nb, j, none⟩) (Below.refl Bl wr) (by show Bl ≤ nb; omega) (.int .u8 ((y ^^^ c).toNat : Int))))
          have kb := Lib.hid (hbA.setCell (p := ⟨nb, j, none⟩) (by show n0 ≤ nb; omega) (.int .u8 ((y ^^^ c).toNat : Int)))
          have HX0 : Hid (bits .xor .u8 0 (c.toNat : Int) = ((y ^^^ c).toNat : Int)) := Lib.hid (by rw [← HX.out, hke]; rfl)
          clear hr hsA hbA hke
          go_wp2
          go_roundw
          case rel => exact ⟨j + 1, by omega, by go_num, by rw [HX0.out]; exact HS1.out, by rw [HX0.out]; exact ks.out, by rw [HX0.out]; exact kb.out⟩
          case measure => simp [intOf]; omega
      · obtain rfl : j = 64 := by omega
        rw [List.take_of_length_le (by omega), Nat.sub_self, List.replicate_zero, List.append_nil] at hr
        have ho : Hid (wr.ownsRow n0 5 1 (.slice (some ⟨nb, 0, none⟩) 64 64) (xorB (keyB k) c).length (Lib.byteCells (xorB (keyB k) c))) := Lib.hid (by
          rw [← HK2.out]
          have := Blk.own (w := wr) (g := nb) (bs := xorB K c) (base := n0) hr (by omega) (by rw [hXl]; unfold maxLen; omega)
          rw [hXl] at this ⊢
          exact this)
        clear hr hsA
        go_wp2
        go_ret
        refine ⟨_, rfl, ?_⟩
        unfold Gives
        rw [hn0]
        exact ⟨ho.out, hbA⟩
  · have ht : ¬ (64 : Int) < (k.length : Int) := by omega
    obtain ⟨l, HL⟩ : ∃ l, l = k := ⟨_, rfl⟩
    have hll : l.length ≤ 64 := by rw [HL]; omega
    have HKE : Hid (keyB k = l ++ List.replicate (64 - l.length) 0) := Lib.hid (by rw [HL]; exact keyB_short k hlong)
    obtain ⟨Bl, hBle⟩ : ∃ Bl, Bl = B := ⟨_, rfl⟩
    obtain ⟨Al, hAl⟩ : ∃ Al, Al = A := ⟨_, rfl⟩
    obtain ⟨cl, hcl⟩ : ∃ cl, cl = ca := ⟨_, rfl⟩
    have sl : Sl w Bl (.slice Al l.length cl) l := by rw [hBle, hAl, hcl, HL]; exact hs
    have hb1 : Below n0 w w := Below.refl _ _
    have hBl : Bl ≤ w.heap.size := by omega
    go_enter Tryd.func47, Tryd.ntmps47
    rw [← hAl, ← hcl, ← HL]
    rw [← HL] at ht
    clear hBle hs hAl hcl
    have HLL := Lib.hid HL
    clear HL hlong
    obtain ⟨K, HK2⟩ : ∃ K, Hid (K = keyB k) := ⟨_, Lib.hid rfl⟩
    have hKl : K.length = 64 := by rw [HK2.out]; exact keyB_length k
    have hKe : Hid (∀ j (h : j < 64), K[j]'(by omega) = if h' : j < l.length then l[j] else 0) := Lib.hid (fun j h => by
      have e := HK2.out.trans HKE.out
      subst e
      split
      · rename_i h'
        rw [List.getElem_append_left h']
      · rename_i h'
        rw [List.getElem_append_right (by omega)]
        simp)
    have hXl : (xorB K c).length = 64 := by rw [xorB_length, hKl]
    have hmk : ∀ u, (Instr.makeSlice 30 (.int .i64 64) (.int .i64 64)).run Tryd.prog u = .ok (.slice (some ⟨u.heap.size, 0, none⟩) 64 64) (u.alloc (.cells (Lib.byteCells (List.replicate 64 0)).toArray 5)) := make_run 64 (by decide)
    have hsz : n0 ≤ w.heap.size := by have := hb1.size; omega
    have hal : Below w.heap.size w (w.alloc (.cells (Lib.byteCells (List.replicate 64 0)).toArray 5)) := Below.alloc (Below.refl _ _) (Nat.le_refl _) _
    have hr : Row (w.alloc (.cells (Lib.byteCells (List.replicate 64 0)).toArray 5)) w.heap.size 5 (Lib.byteCells (List.replicate 64 0)) := Row.new_ rfl rfl
    have hsA := sl.below (hal.mono hBl)
    have hbA := hb1.trans (hal.mono hsz)
    clear hal sl HKE
    go_wp2
    rw [hn0] at hr hBl
    clear hsz
    go_loopw [6, 13] (fun _ i wr => ∃ j : Nat, j ≤ 64 ∧ i = .int .i64 j ∧ Row wr n0 5 (Lib.byteCells ((xorB K c).take j ++ List.replicate (64 - j) 0)) ∧ Sl wr Bl (.slice Al l.length cl) l ∧ Below n0 w wr) (fun _ i _ => 64 - (intOf i).toNat)
    case atStart => exact ⟨0, Nat.zero_le _, rfl, hr, hsA, hbA⟩
    case round =>
      clear hr hsA hbA
      obtain ⟨j, hj, rfl, hr, hsA, hbA⟩ := hrel
      by_cases hlt : j < 64
      · have hgz : ((xorB K c).take j ++ List.replicate (64 - j) (0 : UInt8))[j]? = some 0 := by
          rw [List.getElem?_append_right (by rw [List.length_take, hXl]; omega), List.length_take, hXl, Nat.min_eq_left (Nat.le_of_lt hlt), Nat.sub_self, List.getElem?_replicate, if_pos (by omega)]
        have hll : j < ((xorB K c).take j ++ List.replicate (64 - j) (0 : UInt8)).length := by simp; omega
        have hc := hr.cell j
        rw [byteCells_get _ _ hll, (List.getElem_eq_iff hll).2 hgz] at hc
        have hf := hr.free j
        have hke := hKe.out j hlt
        obtain ⟨y, hy⟩ : ∃ y, y = K[j]'(by omega) := ⟨_, rfl⟩
        have hset : ∀ a, Row ((wr.setCell ⟨n0, j, none⟩ a).setCell ⟨n0, j, none⟩ (.int .u8 ((y ^^^ c).toNat : Int))) n0 5 (Lib.byteCells ((xorB K c).take (j + 1) ++ List.replicate (64 - (j + 1)) 0)) := fun a => by
          have h2 := (hr.set_ j a).set_ j (.int .u8 ((y ^^^ c).toNat : Int))
          rw [List.set_set] at h2
          rw [← setk (xorB K c) j 64 hXl hlt (y ^^^ c) (by rw [hy]; simp [xorB])]
          have e : Lib.byteCells (((xorB K c).take j ++ List.replicate (64 - j) 0).set j (y ^^^ c)) = (Lib.byteCells ((xorB K c).take j ++ List.replicate (64 - j) 0)).set j (.int .u8 ((y ^^^ c).toNat : Int)) := by simp [Lib.byteCells, List.map_set]
          rw [e]; exact h2
        have hset1 : Row (wr.setCell ⟨n0, j, none⟩ (.int .u8 ((y ^^^ c).toNat : Int))) n0 5 (Lib.byteCells ((xorB K c).take (j + 1) ++ List.replicate (64 - (j + 1)) 0)) := by
          have h2 := hr.set_ j (.int .u8 ((y ^^^ c).toNat : Int))
          rw [← setk (xorB K c) j 64 hXl hlt (y ^^^ c) (by rw [hy]; simp [xorB])]
          have e : Lib.byteCells (((xorB K c).take j ++ List.replicate (64 - j) 0).set j (y ^^^ c)) = (Lib.byteCells ((xorB K c).take j ++ List.replicate (64 - j) 0)).set j (.int .u8 ((y ^^^ c).toNat : Int)) := by simp [Lib.byteCells, List.map_set]
          rw [e]; exact h2
        rw [← hy] at hke
        have HS := Lib.hid hset
        have HS1 := Lib.hid hset1
        have HX := Lib.hid (u8_xor y c)
        clear hset hset1 hgz hll hy
        by_cases hjl : j < l.length
        · rw [dif_pos hjl] at hke
          obtain ⟨b, off, rfl, hb, hcc⟩ := hsA.at_ (by omega)
          have hck := hcc j hjl
          rw [← hke] at hck
          have hc2 : (wr.setCell ⟨n0, j, none⟩ (.int .u8 (y.toNat : Int))).cell? ⟨n0, j, none⟩ = some (.int .u8 (y.toNat : Int)) := by
            rw [(hr.set_ j _).cell j, List.getElem?_set_self (by rw [Lib.byteCells_length]; simp; omega)]
          have hf2 := (hr.set_ j (.int .u8 (y.toNat : Int))).free j
          have ks := Lib.hid (hsA.below ((Below.setCell (p := ⟨n0, j, none⟩) (Below.refl Bl wr) (by show Bl ≤ n0; omega) (.int .u8 (y.toNat : Int))).setCell (p := ⟨n0, j, none⟩) (by show Bl ≤ n0; omega) (.int .u8 ((y ^^^ c).toNat : Int))))
          have kb := Lib.hid ((hbA.setCell (p := ⟨n0, j, none⟩) (by show n0 ≤ n0; omega) (.int .u8 (y.toNat : Int))).setCell (p := ⟨n0, j, none⟩) (by show n0 ≤ n0; omega) (.int .u8 ((y ^^^ c).toNat : Int)))
          clear hcc hr hsA hbA hke
          go_wp2
          go_roundw
          case rel => exact ⟨j + 1, by omega, by go_num, by rw [HX.out]; exact HS.out _, by rw [HX.out]; exact ks.out, by rw [HX.out]; exact kb.out⟩
          case measure => simp [intOf]; omega
        · rw [dif_neg hjl] at hke
          have ks := Lib.hid (hsA.below (Below.setCell (p := ⟨n0, j, none⟩) (Below.refl Bl wr) (by show Bl ≤ n0; omega) (.int .u8 ((y ^^^ c).toNat : Int))))
          have kb := Lib.hid (hbA.setCell (p := ⟨n0, j, none⟩) (by show n0 ≤ n0; omega) (.int .u8 ((y ^^^ c).toNat : Int)))
          have HX0 : Hid (bits .xor .u8 0 (c.toNat : Int) = ((y ^^^ c).toNat : Int)) := Lib.hid (by rw [← HX.out, hke]; rfl)
          clear hr hsA hbA hke
          go_wp2
          go_roundw
          case rel => exact ⟨j + 1, by omega, by go_num, by rw [HX0.out]; exact HS1.out, by rw [HX0.out]; exact ks.out, by rw [HX0.out]; exact kb.out⟩
          case measure => simp [intOf]; omega
      · obtain rfl : j = 64 := by omega
        rw [List.take_of_length_le (by omega), Nat.sub_self, List.replicate_zero, List.append_nil] at hr
        have ho : Hid (wr.ownsRow n0 5 1 (.slice (some ⟨n0, 0, none⟩) 64 64) (xorB (keyB k) c).length (Lib.byteCells (xorB (keyB k) c))) := Lib.hid (by
          rw [← HK2.out]
          have := Blk.own (w := wr) (g := n0) (bs := xorB K c) (base := n0) hr (by omega) (by rw [hXl]; unfold maxLen; omega)
          rw [hXl] at this ⊢
          exact this)
        clear hr hsA
        go_wp2
        go_ret
        refine ⟨_, rfl, ?_⟩
        unfold Gives
        rw [hn0, HLL.out]
        exact ⟨ho.out, hbA⟩

set_option maxHeartbeats 1000000 in
theorem refMac_any (B : Nat) (vk vm : Value) (k m : List UInt8) (w : World) (hk : Sl w B vk k) (hm : Sl w B vm m) (hB : B ≤ w.heap.size) (hkl : k.length ≤ 1000000) (hml : m.length ≤ 1000000) :
    Calls Tryd.prog 29 #[vk, vm] w (OwnIs w (macB k m)) := by
  unfold OwnIs
  obtain ⟨Ak, ck, rfl, _, _⟩ := hk.form
  obtain ⟨Am, cm, rfl, _, _⟩ := hm.form
  have HM : Hid (macB k m = sha (xorB (keyB k) 0x5c ++ sha (xorB (keyB k) 0x36 ++ m))) := Lib.hid rfl
  have hx1 : (xorB (keyB k) 0x36).length ≤ 64 := by rw [xorB_length, keyB_length]; decide
  have hx2 : (xorB (keyB k) 0x5c).length ≤ 64 := by rw [xorB_length, keyB_length]; decide
  go_enter Tryd.func29, Tryd.ntmps29
  go_wp2_with (go_at_call 47; refine (turned_any 0x5c B _ k _ hk hB hkl).mono ?_)
  rintro e w1 ⟨v1, rfl, g1⟩
  have s1 := gives_sl g1
  obtain ⟨A1, c1, rfl, _, _⟩ := s1.form
  have b1 := g1.2
  have hk1 := hk.below (b1.mono hB)
  have hm1 := hm.below (b1.mono hB)
  have z1 := b1.size
  clear g1
  go_wp2_with (go_at_call 47; refine (turned_any 0x36 B _ k _ hk1 (by omega) hkl).mono ?_)
  rintro e w2 ⟨v2, rfl, g2⟩
  have s2 := gives_sl g2
  obtain ⟨A2, c2, rfl, _, _⟩ := s2.form
  have b2 := b1.trans (g2.2.mono z1)
  have s12 := s1.below g2.2
  have hm2 := hm1.below (g2.2.mono (by omega))
  have z2 := g2.2.size
  clear g2 b1 s1 hk1 hm1 hk hm
  generalize xorB (keyB k) 0x5c = x5 at *
  generalize xorB (keyB k) 0x36 = x3 at *
  have hal : ∀ (X : World) o, Below X.heap.size X (X.alloc o) := fun X o => Below.alloc (Below.refl _ _) (Nat.le_refl _) o
  go_wp2_with (go_at_call 16; refine (refJoin_any (w2.heap.size + 1) (w2.heap.size + 1) _ [x3, m] _ (PartsO.two (Nat.lt_succ_self _) (by omega) (Row.new_ rfl rfl) ((s2.below (hal w2 _)).more (by omega)) (s2.off (by omega)) ((hm2.below ((hal w2 _).mono (by omega))).more (by omega)) (hm2.off (by omega))) (by rw [asz]; exact Nat.le_refl _) (by rw [two_flat, List.length_append]; omega) (by simp)).mono ?_)
  rintro e w3 ⟨v3, rfl, g3⟩
  rw [two_flat] at g3
  have s3 := gives_sl g3
  have b3' := (hal _ _).trans (g3.2.mono (by rw [asz]; omega))
  have b3 := b2.trans (b3'.mono (by omega))
  have s13 := s12.below (b3'.mono z2)
  have z3 := b3'.size
  clear g3 b3' b2 s12 s2 hm2
  go_wp2_with (go_at_call 15; refine (refSum_any _ _ _ _ s3 (Nat.le_refl _) (by rw [List.length_append]; omega)).mono ?_)
  rintro e w4 ⟨v4, rfl, g4⟩
  have s4 := gives_sl g4
  obtain ⟨A4, c4, rfl, _, _⟩ := s4.form
  have hshl : (sha (x3 ++ m)).length ≤ 32 := by rw [sha_length]; decide
  generalize sha (x3 ++ m) = s9 at *
  have b4 := b3.trans (g4.2.mono (by omega))
  have s14 := s13.below (g4.2.mono (by omega))
  have z4 := g4.2.size
  clear g4 b3 s13 s3
  go_wp2_with (go_at_call 16; refine (refJoin_any (w4.heap.size + 1) (w4.heap.size + 1) _ [x5, s9] _ (PartsO.two (Nat.lt_succ_self _) (by omega) (Row.new_ rfl rfl) ((s14.below ((hal w4 _).mono (by omega))).more (by omega)) (s14.off (by omega)) ((s4.below (hal w4 _)).more (by omega)) (s4.off (by omega))) (by rw [asz]; exact Nat.le_refl _) (by rw [two_flat, List.length_append]; omega) (by simp)).mono ?_)
  rintro e w5 ⟨v5, rfl, g5⟩
  rw [two_flat] at g5
  have s5 := gives_sl g5
  have b5' := (hal _ _).trans (g5.2.mono (by rw [asz]; omega))
  have b5 := b4.trans (b5'.mono (by omega))
  have z5 := b5'.size
  clear g5 b5' b4 s14 s4
  go_wp2_with (go_at_call 15; refine (refSum_any _ _ _ _ s5 (Nat.le_refl _) (by rw [List.length_append]; omega)).mono ?_)
  rintro e w6 ⟨v6, rfl, g6⟩
  rw [← HM.out] at g6
  go_wp2
  go_ret
  exact ⟨_, rfl, own_mono g6.1 (by omega), b5.trans (g6.2.mono (by omega))⟩
end Go.Proofs.YthafhghnciofaaaDoor
