/-
  THE WALK of liverylaw01.OctetHolds: what is handed in stays, and what is handed back lies in memory of its own: turning the arguments' copies afterwards turns no result.
-/
import Derived.Test.YtijkhpiehaocpaaJoin
import Derived.Test.YtijkhpiehaocpaaXor
namespace Go.Proofs.Ytijkhpiehaocpaa
open Go.RowKit

theorem own_step {w w' : World} {base : Nat} {e : TypeId} {v : Value} {n : Nat} {xs : List Value} (h : w.ownsRow base e 1 v n xs) (hb : Below w.heap.size w w') : w'.ownsRow base e 1 v n xs := by
  refine h.kept (grown_of_below hb) ?_
  cases v.ownBlock with
  | none => exact .inl rfl
  | some g => exact .inr (by simp)
theorem own_far {w w' : World} {base : Nat} {e : TypeId} {v : Value} {n : Nat} {xs : List Value} {row : Option Nat} (h : w.ownsRow base e 1 v n xs) (hg : w.grownBy w' row) (hr : ∀ g, row = some g → g < base) : w'.ownsRow base e 1 v n xs := by
  refine h.kept hg ?_
  cases hv : v.ownBlock with
  | none => exact .inl rfl
  | some g =>
    refine .inr fun e => ?_
    have h1 := (h.lt g hv).1
    have h2 := hr g e.symm
    omega
theorem own_cells {w : World} {base : Nat} {e : TypeId} {A : Option Addr} {n c : Nat} {xs : List Value} (h : w.ownsRow base e 1 (.slice A n c) n xs) (hn : 0 < n) : ∃ g, A = some ⟨g, 0, none⟩ := by
  rcases h.2 with ⟨_, h0⟩ | ⟨g, cap, cur, hv, _⟩
  · omega
  · injection hv with hv1
    exact ⟨g, hv1⟩
theorem parts1_new (w : World) (v : Value) (bs : List UInt8) (h : Sl w w.heap.size v bs) : Parts (w.alloc (.cells #[v] 23)) (w.heap.size + 1) w.heap.size [bs] := by
  refine ⟨by omega, fun i b hi => ⟨v, ?_, ?_⟩⟩
  · match i, hi with
    | 0, _ => rw [cell_of_row _ _ _ _ _ _ (heap_alloc_new w _)]; rfl
    | (i + 1), hi => simp at hi
  · match i, hi with
    | 0, hi => simp at hi; subst hi; exact (h.below ((Below.refl _ w).alloc (Nat.le_refl _) _)).more (by omega)
    | (i + 1), hi => simp at hi
theorem parts3_new (w : World) (v0 v1 v2 : Value) (b0 b1 b2 : List UInt8) (h0 : Sl w w.heap.size v0 b0) (h1 : Sl w w.heap.size v1 b1) (h2 : Sl w w.heap.size v2 b2) :
    Parts (w.alloc (.cells #[v0, v1, v2] 23)) (w.heap.size + 1) w.heap.size [b0, b1, b2] := by
  have hb : Below w.heap.size w (w.alloc (.cells #[v0, v1, v2] 23)) := (Below.refl _ w).alloc (Nat.le_refl _) _
  refine ⟨by omega, fun i b hi => ?_⟩
  match i, hi with
  | 0, hi => simp at hi; subst hi; exact ⟨v0, by rw [cell_of_row _ _ _ _ _ _ (heap_alloc_new w _)]; rfl, (h0.below hb).more (by omega)⟩
  | 1, hi => simp at hi; subst hi; exact ⟨v1, by rw [cell_of_row _ _ _ _ _ _ (heap_alloc_new w _)]; rfl, (h1.below hb).more (by omega)⟩
  | 2, hi => simp at hi; subst hi; exact ⟨v2, by rw [cell_of_row _ _ _ _ _ _ (heap_alloc_new w _)]; rfl, (h2.below hb).more (by omega)⟩
  | (i + 3), hi => simp at hi
theorem grown_store {w0 w : World} {g : Nat} {row : Option Nat} (h : w0.grownBy w row) (hr : row = some g) (k : Nat) (u : Value) : w0.grownBy (w.setCell ⟨g, k, none⟩ u) row :=
  ⟨h.os, h.tape, h.output, by simpa [World.setCell] using h.size, fun i hi hne => (Below.heap_setCell w ⟨g, k, none⟩ u i (fun e => hne (by rw [hr, e]))).trans (h.block i hi hne)⟩
theorem flat1 (a : List UInt8) : [a].flatten = a := by simp
theorem flat3 (a b c : List UInt8) : [a, b, c].flatten = a ++ (b ++ c) := by simp
theorem below_new (w : World) (o : Obj) {w' : World} (h : Below (w.alloc o).heap.size (w.alloc o) w') : Below w.heap.size w w' :=
  ((Below.refl _ w).alloc (Nat.le_refl _) o).trans (h.mono (by simp))

set_option maxHeartbeats 4000000 in
set_option maxRecDepth 100000 in
theorem holds_walk (va vb : Value) (first : Bool) (us bs : List UInt8) (w : World) (ha : Sl w w.heap.size va us) (hb : Sl w w.heap.size vb bs) (hl : us.length ≤ 1048576) (hl2 : bs.length ≤ 1048576) :
    Calls Try.prog 5 #[va, vb, .bool first] w (TrueIs w) := by
  obtain ⟨A, c, rfl, _, _⟩ := ha.form
  obtain ⟨A', c', rfl, _, _⟩ := hb.form
  have HA0 := Lib.hid ha
  have HB0 := Lib.hid hb
  go_enter Try.func5, Try.ntmps5
  go_wp2_with fail
  refine (refJoin_any _ _ [us] _ (parts1_new w _ us ha) (by simp) (by simp; omega) (by simp)).mono ?_
  rintro e w1 ⟨v1, rfl, g1⟩
  rw [flat1] at g1
  have o1 := g1.1
  have b1 := below_new w _ g1.2
  have ha1 := ha.step b1
  have hb1 := hb.step b1
  clear g1 ha hb
  go_wp2_with fail
  refine (refJoin_any _ _ [bs] _ (parts1_new w1 _ bs hb1) (by simp) (by simp; omega) (by simp)).mono ?_
  rintro e w2 ⟨v2, rfl, g2⟩
  rw [flat1] at g2
  have o2 := g2.1
  have b2 := below_new w1 _ g2.2
  have p1 := own_step o1 b2
  have ha2 := ha1.step b2
  have hb2 := hb1.step b2
  have b02 := Below.chain b1 b2
  clear g2 ha1 hb1
  obtain ⟨A1, c1, rfl⟩ := own_form p1
  obtain ⟨A2, c2, rfl⟩ := own_form o2
  go_wp2_with fail
  refine (join_any _ _ [us, bs, us] _ (parts3_new w2 _ _ _ us bs us (Sl.of_own p1) (Sl.of_own o2) (Sl.of_own p1)) (by simp) (by rw [flat3]; simp; omega) (by simp)).mono ?_
  rintro e w3 ⟨v3, rfl, g3⟩
  rw [flat3] at g3
  have o3 := g3.1
  have b3 := below_new w2 _ g3.2
  have q1 := own_step p1 b3
  have q2 := own_step o2 b3
  have ha3 := ha2.step b3
  have hb3 := hb2.step b3
  have b03 := Below.chain b02 b3
  clear g3 ha2 hb2
  go_wp2_with fail
  refine (choose_any first _ _ _ _ us bs _ (Sl.of_own q1) (Sl.of_own q2) (Nat.le_refl _) (Nat.le_refl _) (by omega) (by omega)).mono ?_
  rintro e w4 ⟨v4, rfl, g4⟩
  have o4 := g4.1
  have b4 := g4.2
  have r1 := own_step q1 b4
  have r2 := own_step q2 b4
  have r3 := own_step o3 b4
  have ha4 := ha3.step b4
  have hb4 := hb3.step b4
  have b04 := Below.chain b03 b4
  clear g4 ha3 hb3 q1 q2
  go_wp2_with fail
  refine (xor_any _ _ _ _ us bs _ (Sl.of_own r1) (Sl.of_own r2) (Nat.le_refl _) (Nat.le_refl _) (by omega) (by omega)).mono ?_
  rintro e w5 ⟨v5, rfl, g5⟩
  have o5 := g5.1
  have b5 := g5.2
  have s1 := own_step r1 b5
  have s2 := own_step r2 b5
  have s3 := own_step r3 b5
  have s4 := own_step o4 b5
  have ha5 := ha4.step b5
  have hb5 := hb4.step b5
  have b05 := Below.chain b04 b5
  clear g5 ha4 hb4 r1 r2 r3
  go_wp2_with fail
  refine (same_any _ _ _ _ us bs _ (Sl.of_own s1) (Sl.of_own s2) (by omega) (by omega)).mono ?_
  rintro e w' ⟨rfl, rfl⟩
  go_wp2_with fail
  refine (live_any _).mono ?_
  rintro e w6 ⟨rfl, b6⟩
  have t1 := own_step s1 b6
  have t2 := own_step s2 b6
  have t3 := own_step s3 b6
  have t4 := own_step s4 b6
  have t5 := own_step o5 b6
  have ha6 := ha5.step b6
  have hb6 := hb5.step b6
  have b06 := Below.chain b05 b6
  have z1 := b1.size
  have z2 := b2.size
  have z3 := b3.size
  have z4 := b4.size
  have z5 := b5.size
  have z6 := b6.size
  have l1 : ∀ k, Value.ownBlock (.slice A1 us.length c1) = some k → w.heap.size ≤ k ∧ k < w1.heap.size := fun k hk => by
    have h := o1.lt k hk
    have e : (w.alloc (.cells #[.slice A us.length c] 23)).heap.size = w.heap.size + 1 := by simp
    omega
  have l2 : ∀ k, Value.ownBlock (.slice A2 bs.length c2) = some k → w1.heap.size ≤ k ∧ k < w2.heap.size := fun k hk => by
    have h := o2.lt k hk
    have e : (w1.alloc (.cells #[.slice A' bs.length c'] 23)).heap.size = w1.heap.size + 1 := by simp
    omega
  have y1 := own_base t1 (show w.heap.size ≤ _ by simp)
  have y2 := own_base t2 (show w1.heap.size ≤ _ by simp)
  have y3 := own_base t3 (show w2.heap.size ≤ _ by simp)
  clear s1 s2 s3 s4 ha5 hb5 b05 b1 b2 b3 b4 b5 b6 o1 o2 o3 o4 o5 p1 b02 b03 b04
  have L1 := Lib.hid l1
  have L2 := Lib.hid l2
  clear l1 l2
  go_wp2_with fail
  refine (refEqual_any _ _ _ _ us us _ (Sl.of_own t1) ha6).mono ?_
  rintro e w' ⟨rfl, rfl⟩
  go_wp2_with fail
  refine (refEqual_any _ _ _ _ bs bs _ (Sl.of_own t2) hb6).mono ?_
  rintro e w' ⟨rfl, rfl⟩
  go_wp2
  have T2 := Lib.hid y2
  have T3 := Lib.hid y3
  have T4 := Lib.hid t4
  have T5 := Lib.hid t5
  have B06 := Lib.hid b06
  clear t1 t2 t3 y2 y3 t4 t5 ha6 hb6 b06
  go_loopw [15, 61] (fun _ i wr => ∃ (k : Nat) (xs : List UInt8), k ≤ us.length ∧ i = .int .i64 k ∧ xs.length = us.length ∧ wr.ownsRow w.heap.size 5 1 (.slice A1 us.length c1) us.length (Lib.byteCells xs) ∧ w6.grownBy wr (Value.ownBlock (.slice A1 us.length c1))) (fun _ i _ => us.length - (intOf i).toNat)
  case atStart => exact ⟨0, us, Nat.zero_le _, rfl, rfl, y1, World.grownBy.refl _ _⟩
  case round =>
    obtain ⟨k, xs, hk, rfl, hxl, hown, hgr⟩ := hrel
    by_cases hlt : k < us.length
    · have HXL := Lib.hid hxl
      have hkx : k < xs.length := by omega
      clear hxl
      obtain ⟨g, rfl⟩ := own_cells hown (by omega)
      have hc := hown.cellAt k (by omega)
      rw [byteCells_get xs k hkx] at hc
      have hf := hown.frozenAt k
      have HXX := Lib.hid (u8_xor xs[k] 255)
      have hst := hown.stored k (.int .u8 ((xs[k] ^^^ 255).toNat : Int))
      have HS := Lib.hid hst.1
      have HG := Lib.hid (grown_store hgr rfl k (.int .u8 ((xs[k] ^^^ 255).toNat : Int)))
      have HSET : Hid ((Lib.byteCells xs).set k (.int .u8 ((xs[k] ^^^ 255).toNat : Int)) = Lib.byteCells (xs.set k (xs[k] ^^^ 255))) := Lib.hid (by simp [Lib.byteCells, List.map_set])
      clear hst hgr hown
      generalize xs[k] = x at *
      go_wp2
      go_roundw
      case rel =>
        refine ⟨k + 1, xs.set k (x ^^^ 255), by omega, by go_num, by rw [List.length_set]; exact HXL.out, ?_, ?_⟩
        · have h1 := HXX.out
          have h2 := HS.out
          rw [HSET.out] at h2
          have e : bits .xor .u8 (x.toNat : Int) 255 = ((x ^^^ 255).toNat : Int) := h1
          rw [e]
          exact h2
        · have e : bits .xor .u8 (x.toNat : Int) 255 = ((x ^^^ 255).toNat : Int) := HXX.out
          rw [e]
          exact HG.out
      case measure => simp [intOf]; omega
    · have hr1 := L1.out
      have T2' := Lib.hid (own_far T2.out hgr (fun g hg => (hr1 g hg).2))
      have T3' := Lib.hid (own_far T3.out hgr (fun g hg => Nat.lt_of_lt_of_le (hr1 g hg).2 z2))
      have T4' := Lib.hid (own_far T4.out hgr (fun g hg => Nat.lt_of_lt_of_le (hr1 g hg).2 (Nat.le_trans z2 z3)))
      have T5' := Lib.hid (own_far T5.out hgr (fun g hg => Nat.lt_of_lt_of_le (hr1 g hg).2 (Nat.le_trans z2 (Nat.le_trans z3 z4))))
      have B07 := Lib.hid (B06.out.grown hgr (by omega) (fun g hg => (hr1 g hg).1))
      have hz7 := hgr.size
      have y2 := T2'.out
      clear hr1 hgr hown hxl T2 T3 T4 T5 B06 T2'
      obtain ⟨w7, hw7⟩ : ∃ w7 : World, w7 = wr := ⟨_, rfl⟩
      subst hw7
      go_wp2
      go_loopw [16, 73] (fun _ i wr => ∃ (k : Nat) (xs : List UInt8), k ≤ bs.length ∧ i = .int .i64 k ∧ xs.length = bs.length ∧ wr.ownsRow w1.heap.size 5 1 (.slice A2 bs.length c2) bs.length (Lib.byteCells xs) ∧ w7.grownBy wr (Value.ownBlock (.slice A2 bs.length c2))) (fun _ i _ => bs.length - (intOf i).toNat)
      case atStart => exact ⟨0, bs, Nat.zero_le _, rfl, rfl, y2, World.grownBy.refl _ _⟩
      case round =>
        obtain ⟨k, xs, hk, rfl, hxl, hown, hgr⟩ := hrel
        by_cases hlt : k < bs.length
        · have HXL := Lib.hid hxl
          have hkx : k < xs.length := by omega
          clear hxl
          obtain ⟨g, rfl⟩ := own_cells hown (by omega)
          have hc := hown.cellAt k (by omega)
          rw [byteCells_get xs k hkx] at hc
          have hf := hown.frozenAt k
          have HXX := Lib.hid (u8_xor xs[k] 255)
          have hst := hown.stored k (.int .u8 ((xs[k] ^^^ 255).toNat : Int))
          have HS := Lib.hid hst.1
          have HG := Lib.hid (grown_store hgr rfl k (.int .u8 ((xs[k] ^^^ 255).toNat : Int)))
          have HSET : Hid ((Lib.byteCells xs).set k (.int .u8 ((xs[k] ^^^ 255).toNat : Int)) = Lib.byteCells (xs.set k (xs[k] ^^^ 255))) := Lib.hid (by simp [Lib.byteCells, List.map_set])
          clear hst hgr hown
          generalize xs[k] = x at *
          go_wp2
          go_roundw
          case rel =>
            refine ⟨k + 1, xs.set k (x ^^^ 255), by omega, by go_num, by rw [List.length_set]; exact HXL.out, ?_, ?_⟩
            · have h2 := HS.out
              rw [HSET.out] at h2
              have e : bits .xor .u8 (x.toNat : Int) 255 = ((x ^^^ 255).toNat : Int) := HXX.out
              rw [e]
              exact h2
            · have e : bits .xor .u8 (x.toNat : Int) 255 = ((x ^^^ 255).toNat : Int) := HXX.out
              rw [e]
              exact HG.out
          case measure => simp [intOf]; omega
        · have hr2 := L2.out
          have e3 := own_far T3'.out hgr (fun g hg => (hr2 g hg).2)
          have e4 := own_far T4'.out hgr (fun g hg => Nat.lt_of_lt_of_le (hr2 g hg).2 z3)
          have e5 := own_far T5'.out hgr (fun g hg => Nat.lt_of_lt_of_le (hr2 g hg).2 (Nat.le_trans z3 z4))
          have b08 := B07.out.grown hgr (by omega) (fun g hg => Nat.le_trans z1 (hr2 g hg).1)
          have ha8 := (HA0.out.below b08).more b08.size
          have hb8 := (HB0.out.below b08).more b08.size
          have hz8 := b08.size
          clear hr2 hgr hown hxl T3' T4' T5' B07 L1 L2
          obtain ⟨w8, hw8⟩ : ∃ w8 : World, w8 = wr := ⟨_, rfl⟩
          subst hw8
          go_wp2_with fail
          refine (refJoin_any _ _ [us, bs, us] _ (parts3_new w8 _ _ _ us bs us ha8 hb8 ha8) (by simp) (by rw [flat3]; simp; omega) (by simp)).mono ?_
          rintro e w9 ⟨v9, rfl, g9⟩
          rw [flat3] at g9
          have b9 := below_new w8 _ g9.2
          have ha9 := ha8.step b9
          have hb9 := hb8.step b9
          have i3 := own_step e3 b9
          have i4 := own_step e4 b9
          have i5 := own_step e5 b9
          have x9 := gives_sl g9
          have b09 := Below.chain b08 b9
          clear g9 ha8 hb8 e3 e4 e5 b08 b9
          go_wp2_with fail
          refine (refEqual_any _ _ _ _ _ (us ++ (bs ++ us)) _ (Sl.of_own i3) x9).mono ?_
          rintro e w' ⟨rfl, rfl⟩
          go_wp2_with fail
          refine (refEqual_any _ _ _ _ us bs _ ha9 hb9).mono ?_
          rintro e w' ⟨rfl, rfl⟩
          clear i3 x9
          by_cases hlen : us.length = bs.length
          · have ht : ((us.length : Int) != (bs.length : Int)) = false := by rw [bne_eq_false_iff_eq]; omega
            have hE : pairE us bs = 0 := if_pos hlen
            have hX : xored us bs = List.zipWith (· ^^^ ·) us bs := if_pos hlen
            have hC : chosen first us bs = if first = true then us else bs := if_pos hlen
            rw [hE]
            rw [hX] at i5
            rw [hC] at i4
            have HLEN := Lib.hid hlen
            clear hE hX hC hlen
            cases first
            · have i4' : Sl w9 w9.heap.size v4 bs := Sl.of_own i4
              clear i4
              go_wp2_with fail
              refine (refEqual_any _ _ _ _ bs bs _ i4' hb9).mono ?_
              rintro e w' ⟨rfl, rfl⟩
              go_wp2_with fail
              refine (refXor_any _ _ _ _ us bs _ ha9 hb9 (Nat.le_refl _) (Nat.le_refl _) hl HLEN.out).mono ?_
              rintro e w10 ⟨v10, rfl, g10⟩
              have k5 := (Sl.of_own i5).step g10.2
              have m10 := gives_sl g10
              have b010 := Below.chain b09 g10.2
              clear g10 i5
              go_wp2_with fail
              refine (refEqual_any _ _ _ _ _ _ _ k5 m10).mono ?_
              rintro e w' ⟨rfl, rfl⟩
              go_wp2_with fail
              go_ret
              exact ⟨by simp, b010⟩
            · have i4' : Sl w9 w9.heap.size v4 us := Sl.of_own i4
              clear i4
              go_wp2_with fail
              refine (refEqual_any _ _ _ _ us us _ i4' ha9).mono ?_
              rintro e w' ⟨rfl, rfl⟩
              go_wp2_with fail
              refine (refXor_any _ _ _ _ us bs _ ha9 hb9 (Nat.le_refl _) (Nat.le_refl _) hl HLEN.out).mono ?_
              rintro e w10 ⟨v10, rfl, g10⟩
              have k5 := (Sl.of_own i5).step g10.2
              have m10 := gives_sl g10
              have b010 := Below.chain b09 g10.2
              clear g10 i5
              go_wp2_with fail
              refine (refEqual_any _ _ _ _ _ _ _ k5 m10).mono ?_
              rintro e w' ⟨rfl, rfl⟩
              go_wp2_with fail
              go_ret
              exact ⟨by simp, b010⟩
          · have ht : ((us.length : Int) != (bs.length : Int)) = true := by rw [bne_iff_ne]; omega
            have hE : pairE us bs = 1 := if_neg hlen
            have hX : xored us bs = [] := if_neg hlen
            have hC : chosen first us bs = [] := if_neg hlen
            rw [hE]
            rw [hX] at i5
            rw [hC] at i4
            clear hE hX hC hlen
            obtain ⟨A4, c4, rfl⟩ := own_form i4
            obtain ⟨A5, c5, rfl⟩ := own_form i5
            go_wp2_with fail
            go_ret
            exact ⟨by simp, b09⟩
end Go.Proofs.Ytijkhpiehaocpaa
