import Derived.Test.YtdakbipiifkmfaaGreatDoorHG
import Derived.Test.YtdakbipiifkmfaaGreatDoorHB
import Derived.Test.YtdakbipiifkmfaaGreatDoorHE
import Derived.BigQuiet
/-
 SETS BY THEIR FIELDS; addresses; the document's own Big, Bytes.
-/
namespace Go.Proofs.YtdakbipiifkmfaaGreatDoor
open Go.RowKit
set_option maxRecDepth 100000
theorem below1 (w : World) (o : Obj) : Below w.heap.size w (w.alloc o) := Below.alloc (Below.refl _ _) (Nat.le_refl _) _
theorem u32_of {x : Int} (h : (Lit.int .u32 x).wf = true) : 0 ≤ x ∧ x ≤ 4294967295 := by simpa [Lit.wf, IntKind.min, IntKind.max, IntKind.signed, IntKind.bits] using h
theorem hN_le (f : Nat) : 0 ≤ hN f ∧ hN f ≤ 32 := by unfold hN; split <;> omega
theorem xms_wf (c : Nat) (hc : c < 4294967296) : (Lit.int .u32 (xC c)).wf = true ∧ (Lit.int .i64 (xN c)).wf = true ∧ (Lit.int .i64 (xH c : Int)).wf = true ∧ (Lit.int .i64 (xL c)).wf = true := by
 have h1 := hN_le (xF c)
 have h2 := xH_le c
 have hC : 0 ≤ xC c ∧ xC c ≤ 4294967295 := by unfold xC; split <;> omega
 have hn : 0 ≤ xN c ∧ xN c ≤ 32 := by unfold xN; split <;> omega
 have hl : 0 ≤ xL c ∧ xL c ≤ 67 := by
  unfold xL
  split
  ·omega
  ·split <;> omega
 exact ⟨wf32 hC.1 hC.2, wf64 (by omega) (by omega), wf64 (by omega) (by omega), wf64 (by omega) (by omega)⟩
/-- a set of XMSS, field by field -/
structure S5 where
 c : Int
 s : Bool
 n : Int
 h : Int
 l : Int
def S5.wf (x : S5) : Prop := (Lit.int .u32 x.c).wf = true ∧ (Lit.int .i64 x.n).wf = true ∧ (Lit.int .i64 x.h).wf = true ∧ (Lit.int .i64 x.l).wf = true
def S5.cells (x : S5) : List Value := [.int .u32 x.c, .bool x.s, .int .i64 x.n, .int .i64 x.h, .int .i64 x.l]
def S5.v (x : S5) : Value := .agg #[.int .u32 x.c, .bool x.s, .int .i64 x.n, .int .i64 x.h, .int .i64 x.l]
/-- the set of a code -/
def xS (c : Nat) : S5 := ⟨xC c, xSh c, xN c, (xH c : Int), xL c⟩
def S5.ok (x : S5) : Bool := decide (xE x.c.toNat = 0 ∧ (x.c = xC x.c.toNat ∧ x.s = xSh x.c.toNat ∧ x.n = xN x.c.toNat ∧ x.h = (xH x.c.toNat : Int) ∧ x.l = xL x.c.toNat))
theorem S5.ok_is {x : S5} (h : x.ok = true) : (x.n = 24 ∧ x.l = 51) ∨ (x.n = 32 ∧ x.l = 67) := by
 obtain ⟨h0, h1, h2, h3, h4, h5⟩ := of_decide_eq_true h
 have h6 : xH x.c.toNat ≠ 0 := by
  intro hh
  unfold xE at h0
  rw [if_pos hh] at h0
  exact absurd h0 (by decide)
 unfold xN at h3
 unfold xL at h5
 rw [if_neg h6] at h3 h5
 rw [h3, h5]
 unfold hN
 split
 ·exact .inl ⟨rfl, rfl⟩
 ·exact .inr ⟨rfl, rfl⟩
theorem c5_nat {x : S5} (h : x.wf) : ((x.c.toNat : Nat) : Int) = x.c ∧ x.c.toNat < 4294967296 := by
 have := u32_of h.1
 omega
theorem mayXmss_any (x : S5) (h : x.wf) (w : World) : Calls Tryz.prog 48 #[x.v] w (OldIs (.bool x.ok) w) := by
 obtain ⟨xc, xs, xn, xh, xl⟩ := x
 have hn := c5_nat h
 simp only at hn
 have hw := xms_wf xc.toNat hn.2
 exact MayXmss_of xc xs xn xh xl (xC xc.toNat) (xSh xc.toNat) (xN xc.toNat) (xH xc.toNat : Int) (xL xc.toNat) (xE xc.toNat) h.1 h.2.1 h.2.2.1 h.2.2.2 hw.1 hw.2.1 hw.2.2.1 hw.2.2.2 (fun W => by have := refXmss_any xc.toNat hn.2 W; rw [hn.1] at this; exact this) w
/-! Big, of any small size -/
theorem own_of_blk64 {w w' : World} {bs : List UInt8} {k : Nat} (hk : bs.length = k) (hm : k ≤ 64) (h : Blk w' w.heap.size bs) (hb : Below w.heap.size w w') : Gives w bs (.slice (some ⟨w.heap.size, 0, none⟩) k k) w' := by
 subst hk
 exact ⟨h.own (Nat.le_refl _) (by unfold maxLen; omega), hb⟩
set_option maxHeartbeats 400000 in
theorem refBig64_any (n k : Nat) (w : World) (hk : k ≤ 64) (hn : n < 18446744073709551616) :
  Calls Tryz.prog 56 #[.int .u64 n, .int .i64 k] w (OwnIs w (bigB n k)) := by
 unfold OwnIs
 have hmk := make_run k (by omega)
 go_enter Tryz.func56, Tryz.ntmps56
 go_wp2
 go_loopw [0, 6] (fun m i wr => ∃ r : Nat, r ≤ k ∧ i = .int .i64 ((k : Int) - 1 - r) ∧ m = .int .u64 ((n / 256 ^ r : Nat) : Int) ∧ Blk wr w.heap.size (List.replicate (k - r) 0 ++ ((litB n k).take r).reverse) ∧ Below w.heap.size w wr) (fun _ i _ => ((intOf i) + 1).toNat)
 case atStart =>
  exact ⟨0, Nat.zero_le _, by simp, by simp, by simpa using Blk.new w _, (Below.refl _ _).alloc (Nat.le_refl _) _⟩
 case round =>
  obtain ⟨r, hr, rfl, rfl, hblk, hbel⟩ := hrel
  have hq : n / 256 ^ r ≤ n := Nat.div_le_self _ _
  by_cases hlt : r < k
  ·have hc := hblk.cell (k - 1 - r) (by simp [litB_length]; omega)
   have hf := hblk.free (k - 1 - r)
   have hs := hblk.set_ (k - 1 - r) (UInt8.ofNat (n / 256 ^ r % 256))
   rw [set_back _ _ _ _ hlt, ← litB_take_rev _ _ _ hlt, ← byte_mod] at hs
   have HS := Lib.hid hs
   have HD := Lib.hid (div_step n r)
   clear hs
   obtain ⟨q, hqq⟩ : ∃ q, q = n / 256 ^ r := ⟨_, rfl⟩
   rw [← hqq] at HS HD hq ⊢
   clear hqq
   go_wp2
   go_roundw
   case rel => exact ⟨r + 1, by omega, by go_num, by rw [← HD.out], by exact HS.out, hbel.setCell (Nat.le_refl _) _⟩
   case measure => simp [intOf]; omega
  ·obtain rfl : r = k := by omega
   go_wp2
   go_ret
   refine ⟨_, rfl, own_of_blk64 (bigB_length _ _) hk ?_ hbel⟩
   rw [List.take_of_length_le (by rw [litB_length]; omega), Nat.sub_self] at hblk
   exact hblk
/-! addresses -/
/-- the bytes of an address -/
def adrB (a : List UInt32) : List UInt8 := a.flatMap fun x => bigB x.toNat 4
theorem adrB_length (a : List UInt32) : (adrB a).length = 4 * a.length := by
 unfold adrB
 induction a with
 | nil => rfl
 | cons x r ih => rw [List.flatMap_cons, List.length_append, ih, bigB_length, List.length_cons]; omega
theorem adrB_take (a : List UInt32) (k : Nat) (h : k < a.length) : adrB (a.take (k + 1)) = adrB (a.take k) ++ bigB (a[k]'h).toNat 4 := by
 unfold adrB
 rw [take_snoc a k h, List.flatMap_append]
 simp
def adrV (a : List UInt32) : Value := .agg (wordCells a).toArray
theorem info_adr : (Tryz.prog.info? 64).map (·.size) = some 8 := by kernel_rfl
theorem refBytes10_any (a : List UInt32) (ha : a.length = 8) (w : World) : Calls Tryz.prog 87 #[adrV a] w (OwnIs w (adrB a)) := by
 unfold OwnIs adrV
 obtain ⟨i0, hi, hz0, hz1, hz2⟩ := info_parts info_u8
 have hal0 : (wordCells a).length = 8 := by rw [wordCells_length]; exact ha
 obtain ⟨W, hW⟩ : ∃ W, W = (w.alloc (.cells (wordCells a).toArray 64)).alloc (.cells #[] 5) := ⟨_, rfl⟩
 have HW : Shh (Row W w.heap.size 64 (wordCells a) ∧ W.ownsRow w.heap.size 5 1 (.slice (some ⟨w.heap.size + 1, 0, none⟩) 0 0) 0 [] ∧ Below w.heap.size w W) := by
  rw [hW]
  refine ⟨(Row.new_ rfl rfl).alloc _, ?_, (Below.alloc (Below.refl _ _) (Nat.le_refl _) _).alloc (by rw [asz]; omega) _⟩
  have : ((w.alloc (.cells (wordCells a).toArray 64)).alloc (.cells #[] 5)).ownsRow (w.alloc (.cells (wordCells a).toArray 64)).heap.size 5 1 (.slice (some ⟨(w.alloc (.cells (wordCells a).toArray 64)).heap.size, 0, none⟩) 0 0) 0 [] := World.ownsRow_made _ #[] 0 (Nat.le_refl _) (Nat.zero_le _) rfl
  rw [asz] at this
  exact own_mono this (by omega)
 have hbox : (Instr.box 64 (.agg (wordCells a).toArray)).run Tryz.prog w = .ok (.pointer (some ⟨w.heap.size, 0, none⟩)) (w.alloc (.cells (wordCells a).toArray 64)) := by
  go_simp
 go_enter Tryz.func87, Tryz.ntmps87
 go_wp2
 rw [← hW]
 clear hW hbox
 go_loopw [3, 6] (fun o i wr => ∃ (k : Nat) (Ao : Option Addr) (lo co : Nat), k ≤ 8 ∧ lo ≤ 32 ∧ o = .slice Ao lo co ∧ i = .int .i64 (k : Int) ∧ Shh (lo = 4 * k) ∧ Shh (Row wr w.heap.size 64 (wordCells a) ∧ wr.ownsRow w.heap.size 5 1 (.slice Ao lo co) lo (Lib.byteCells (adrB (a.take k))) ∧ Below w.heap.size w wr)) (fun _ i _ => 8 - (intOf i).toNat)
 case atStart => exact ⟨0, _, 0, 0, Nat.zero_le _, by decide, rfl, rfl, ⟨rfl⟩, HW⟩
 case round =>
  clear HW
  obtain ⟨k, Ao, lo, co, hk, hlo, rfl, rfl, HLO, HL⟩ := hrel
  by_cases hlk : k < 8
  ·have hka : k < a.length := by omega
   have hc := HL.out.1.cell k
   rw [wordCells_get _ k hka] at hc
   have HO : Shh (adrB (a.take (k + 1)) = adrB (a.take k) ++ bigB (a[k]'hka).toNat 4 ∧ (adrB (a.take k)).length = lo) := ⟨adrB_take a k hka, by rw [adrB_length, List.length_take, HLO.out]; omega⟩
   generalize a[k]'hka = x at hc HO
   have hxl := x.toNat_lt
   have hx2 : (x.toNat : Int) % 18446744073709551616 = (x.toNat : Int) := by omega
   generalize hob : adrB (a.take k) = ob at HO HL
   clear hob
   go_wp2_with (go_at_call 56; refine (refBig64_any x.toNat 4 _ (by omega) (by omega)).mono ?_)
   rintro e w3 ⟨v3, rfl, g3⟩
   obtain ⟨A3, c3, rfl, _, _⟩ := (gives_sl g3).form
   have H3 : Shh (Row w3 w.heap.size 64 (wordCells a) ∧ Sl w3 w3.heap.size (.slice Ao lo co) ob ∧ Sl w3 w3.heap.size (.slice A3 (bigB x.toNat 4).length c3) (bigB x.toNat 4) ∧ Below w.heap.size w w3) := by
    have s1 := Sl.of_own (show wr.ownsRow w.heap.size 5 1 (.slice Ao lo co) ob.length (Lib.byteCells ob) by rw [HO.out.2]; exact HL.out.2.1)
    exact ⟨HL.out.1.go g3.2, s1.go g3.2, gives_sl g3, Below.chain HL.out.2.2 g3.2⟩
   clear g3 HL hc
   have HLO2 : Shh (lo + 4 = 4 * (k + 1) ∧ lo + 4 ≤ 32) := ⟨by have := HLO.out; omega⟩
   go_wp2_with (go_at_call 55; refine (refJoin_any (w3.heap.size + 1) (w3.heap.size + 1) _ [ob, bigB x.toNat 4] _ (PartsO.two (Nat.lt_succ_self _) (by omega) (Row.new_ rfl rfl) ((H3.out.2.1.below (below1 _ _)).more (by omega)) (H3.out.2.1.off (by omega)) ((H3.out.2.2.1.below (below1 _ _)).more (by omega)) (H3.out.2.2.1.off (by omega))) (by rw [asz]; exact Nat.le_refl _) (by rw [two_flat, List.length_append, bigB_length, HO.out.2]; omega) (by simp)).mono ?_)
   rintro e w4 ⟨v4, rfl, g4⟩
   rw [two_flat, ← HO.out.1] at g4
   obtain ⟨A4, c4, rfl⟩ := own_form g4.1
   have hl4 : (adrB (a.take (k + 1))).length = lo + 4 := by rw [HO.out.1, List.length_append, HO.out.2, bigB_length]
   have H4 : Shh (Row w4 w.heap.size 64 (wordCells a) ∧ w4.ownsRow w.heap.size 5 1 (.slice A4 (lo + 4) c4) (lo + 4) (Lib.byteCells (adrB (a.take (k + 1)))) ∧ Below w.heap.size w w4) := by
    have bb := Below.chain (below1 w3 _) g4.2
    have o4 := own_mono (base := w.heap.size) g4.1 (by rw [asz]; have := H3.out.2.2.2.size; omega)
    rw [hl4] at o4
    exact ⟨H3.out.1.go bb, o4, Below.chain H3.out.2.2.2 bb⟩
   rw [hl4]
   clear g4 H3 HO hl4 HLO
   go_wp2
   go_roundw
   case rel => exact ⟨k + 1, A4, lo + 4, c4, by omega, HLO2.out.2, rfl, by go_num, ⟨HLO2.out.1⟩, H4⟩
   case measure => simp [intOf]; omega
  ·obtain rfl : k = 8 := by omega
   have HR : Shh (Gives w (adrB a) (.slice Ao lo co) wr) := by
    have h := HL.out.2.1
    rw [List.take_of_length_le (by omega)] at h
    have e : lo = (adrB a).length := by rw [adrB_length, ha, HLO.out]
    rw [e] at h ⊢
    exact ⟨⟨h, HL.out.2.2⟩⟩
   clear HL
   go_wp2
   go_ret
   exact ⟨_, rfl, HR.out⟩
end Go.Proofs.YtdakbipiifkmfaaGreatDoor

/-
 WALKS: the document's own with, At.
-/
namespace Go.Proofs.YtdakbipiifkmfaaGreatDoor
open Go.RowKit
set_option maxRecDepth 100000
/-- an address with a step and a selector -/
def withA (a : List UInt32) (s t : Nat) : List UInt32 := (a.set 6 (UInt32.ofNat s)).set 7 (UInt32.ofNat t)
/-- an address with a chain -/
def atA (a : List UInt32) (i : Nat) : List UInt32 := a.set 5 (UInt32.ofNat i)
theorem withA_length (a : List UInt32) (s t : Nat) : (withA a s t).length = a.length := by simp [withA]
theorem atA_length (a : List UInt32) (i : Nat) : (atA a i).length = a.length := by simp [atA]
theorem ofNat_cell {s : Nat} (hs : s < 4294967296) : Value.int .u32 (s : Int) = .int .u32 ((UInt32.ofNat s).toNat : Int) := by
 have : (UInt32.ofNat s).toNat = s := by simp; omega
 rw [this]
theorem wordRow_set {w : World} {g : Nat} {T : TypeId} {a : List UInt32} (h : Row w g T (wordCells a)) (k s : Nat) (hs : s < 4294967296) : Row (w.setCell ⟨g, k, none⟩ (.int .u32 (s : Int))) g T (wordCells (a.set k (UInt32.ofNat s))) := by
 rw [← wordCells_set, ← ofNat_cell hs]
 exact h.set_ k _
theorem wordRow_cell {w : World} {g : Nat} {T : TypeId} {a : List UInt32} (h : Row w g T (wordCells a)) (k : Nat) (hk : k < a.length) : w.cell? ⟨g, k, none⟩ = some (.int .u32 (a[k].toNat : Int)) := (h.cell k).trans (wordCells_get _ k hk)
theorem eight {a : List UInt32} (ha : a.length = 8) : ∃ a0 a1 a2 a3 a4 a5 a6 a7, a = [a0, a1, a2, a3, a4, a5, a6, a7] := by
 match a, ha with
 | [a0, a1, a2, a3, a4, a5, a6, a7], _ => exact ⟨a0, a1, a2, a3, a4, a5, a6, a7, rfl⟩
theorem refWith_any (a : List UInt32) (ha : a.length = 8) (s t : Nat) (hs : s < 4294967296) (ht : t < 4294967296) (w : World) : Calls Tryz.prog 117 #[adrV a, .int .i64 (s : Int), .int .i64 (t : Int)] w (OwnIs w (adrB (withA a s t))) := by
 have HB : Shh (∀ W, Calls Tryz.prog 87 #[adrV (withA a s t)] W (OwnIs W (adrB (withA a s t)))) := ⟨fun W => refBytes10_any _ (by rw [withA_length]; exact ha) W⟩
 unfold OwnIs
 generalize adrB (withA a s t) = ob at HB ⊢
 obtain ⟨a0, a1, a2, a3, a4, a5, a6, a7, rfl⟩ := eight ha
 have e : adrV (withA [a0, a1, a2, a3, a4, a5, a6, a7] s t) = .agg #[.int .u32 (a0.toNat : Int), .int .u32 (a1.toNat : Int), .int .u32 (a2.toNat : Int), .int .u32 (a3.toNat : Int), .int .u32 (a4.toNat : Int), .int .u32 (a5.toNat : Int), .int .u32 (s : Int), .int .u32 (t : Int)] := by
  rw [ofNat_cell hs, ofNat_cell ht]
  rfl
 rw [e] at HB
 have e2 : adrV [a0, a1, a2, a3, a4, a5, a6, a7] = .agg #[.int .u32 (a0.toNat : Int), .int .u32 (a1.toNat : Int), .int .u32 (a2.toNat : Int), .int .u32 (a3.toNat : Int), .int .u32 (a4.toNat : Int), .int .u32 (a5.toNat : Int), .int .u32 (a6.toNat : Int), .int .u32 (a7.toNat : Int)] := rfl
 rw [e2]
 clear e e2 ha
 have q1 : (s : Int) % 4294967296 = (s : Int) := by omega
 have q2 : (t : Int) % 4294967296 = (t : Int) := by omega
 have HW : Shh (Below w.heap.size w (w.alloc (.cells #[.int .u32 (a0.toNat : Int), .int .u32 (a1.toNat : Int), .int .u32 (a2.toNat : Int), .int .u32 (a3.toNat : Int), .int .u32 (a4.toNat : Int), .int .u32 (a5.toNat : Int), .int .u32 (s : Int), .int .u32 (t : Int)] 64))) := ⟨below1 _ _⟩
 go_enter Tryz.func117, Tryz.ntmps117
 go_wp2_with (go_at_call 87; refine (HB.out _).mono ?_)
 rintro e w2 ⟨v, rfl, g2⟩
 have HG : Shh (Gives w ob v w2) := ⟨own_mono g2.1 (by rw [asz]; omega), Below.chain HW.out g2.2⟩
 clear g2 HW HB
 go_wp2
 go_ret
 exact ⟨_, rfl, HG.out⟩
theorem refAt_any (a : List UInt32) (ha : a.length = 8) (i : Nat) (hi : i < 4294967296) (w : World) : Calls Tryz.prog 91 #[adrV a, .int .i64 (i : Int)] w (OldIs (adrV (atA a i)) w) := by
 unfold OldIs
 obtain ⟨a0, a1, a2, a3, a4, a5, a6, a7, rfl⟩ := eight ha
 have e : adrV (atA [a0, a1, a2, a3, a4, a5, a6, a7] i) = .agg #[.int .u32 (a0.toNat : Int), .int .u32 (a1.toNat : Int), .int .u32 (a2.toNat : Int), .int .u32 (a3.toNat : Int), .int .u32 (a4.toNat : Int), .int .u32 (i : Int), .int .u32 (a6.toNat : Int), .int .u32 (a7.toNat : Int)] := by
  rw [ofNat_cell hi]
  rfl
 rw [e]
 have e2 : adrV [a0, a1, a2, a3, a4, a5, a6, a7] = .agg #[.int .u32 (a0.toNat : Int), .int .u32 (a1.toNat : Int), .int .u32 (a2.toNat : Int), .int .u32 (a3.toNat : Int), .int .u32 (a4.toNat : Int), .int .u32 (a5.toNat : Int), .int .u32 (a6.toNat : Int), .int .u32 (a7.toNat : Int)] := rfl
 rw [e2]
 clear e e2 ha
 have q1 : (i : Int) % 4294967296 = (i : Int) := by omega
 go_enter Tryz.func91, Tryz.ntmps91
 go_wp2
 have HR : Shh (Row ((w.alloc (.cells #[.int .u32 (a0.toNat : Int), .int .u32 (a1.toNat : Int), .int .u32 (a2.toNat : Int), .int .u32 (a3.toNat : Int), .int .u32 (a4.toNat : Int), .int .u32 (i : Int), .int .u32 (a6.toNat : Int), .int .u32 (a7.toNat : Int)] 64)).alloc (.cells #[.int .u32 (a0.toNat : Int), .int .u32 (a1.toNat : Int), .int .u32 (a2.toNat : Int), .int .u32 (a3.toNat : Int), .int .u32 (a4.toNat : Int), .int .u32 (i : Int), .int .u32 (a6.toNat : Int), .int .u32 (a7.toNat : Int)] 64)) (w.heap.size + 1) 64 [.int .u32 (a0.toNat : Int), .int .u32 (a1.toNat : Int), .int .u32 (a2.toNat : Int), .int .u32 (a3.toNat : Int), .int .u32 (a4.toNat : Int), .int .u32 (i : Int), .int .u32 (a6.toNat : Int), .int .u32 (a7.toNat : Int)] ∧ Below w.heap.size w ((w.alloc (.cells #[.int .u32 (a0.toNat : Int), .int .u32 (a1.toNat : Int), .int .u32 (a2.toNat : Int), .int .u32 (a3.toNat : Int), .int .u32 (a4.toNat : Int), .int .u32 (i : Int), .int .u32 (a6.toNat : Int), .int .u32 (a7.toNat : Int)] 64)).alloc (.cells #[.int .u32 (a0.toNat : Int), .int .u32 (a1.toNat : Int), .int .u32 (a2.toNat : Int), .int .u32 (a3.toNat : Int), .int .u32 (a4.toNat : Int), .int .u32 (i : Int), .int .u32 (a6.toNat : Int), .int .u32 (a7.toNat : Int)] 64))) := ⟨Row.new_ (by rw [asz]) rfl, (below1 _ _).alloc (by rw [asz]; omega) _⟩
 exact ret_row Tryz.results91 rfl rfl HR.out.1 Tryz.underlying64 rfl info_adr ⟨rfl, HR.out.2⟩
end Go.Proofs.YtdakbipiifkmfaaGreatDoor

/-
 WALKS: the document's own Keyed, Sum.
-/
namespace Go.Proofs.YtdakbipiifkmfaaGreatDoor
open Go.RowKit
set_option maxRecDepth 100000
/-- the hash of a set -/
def hsh (s : Bool) (t : List UInt8) : List UInt8 := if s then spongeL 136 31 t 32 else sha t
/-- what a keyed hash is of -/
def ktxt (n : Int) (kind : Nat) (key m : List UInt8) : List UInt8 := bigB kind (if n = 24 then 4 else 32) ++ (key ++ m)
def keyd (s : Bool) (n : Int) (kind : Nat) (key m : List UInt8) : List UInt8 := (hsh s (ktxt n kind key m)).take n.toNat
theorem hsh_length (s : Bool) (t : List UInt8) : (hsh s t).length = 32 := by
 unfold hsh
 split
 ·exact Sp.outs_length _ _ _
 ·exact sha_length _
theorem keyd_length (s : Bool) (n : Int) (kind : Nat) (key m : List UInt8) (h : n = 24 ∨ n = 32) : (keyd s n kind key m).length = n.toNat := by
 unfold keyd
 rw [List.length_take, hsh_length]
 rcases h with rfl | rfl <;> rfl
theorem three_flat10 (a b c : List UInt8) : [a, b, c].flatten = a ++ (b ++ c) := by simp
/-- block g is one of bytes -/
def tagU (w : World) (g : Nat) : Prop := ∃ C fr, w.heap[g]? = some (.cells C 5 fr)
/-- a slice of bytes in a block of bytes is handed back -/
def SlF (w : World) (bs : List UInt8) (e : Ending) (w' : World) : Prop := ∃ v, e = .returned v ∧ Sl w' w'.heap.size v bs ∧ Below w.heap.size w w' ∧ ∀ g, ¬ tagU w' g → Off g v
theorem gives_tag {w w' : World} {v : Value} {bs : List UInt8} (h : Gives w bs v w') (g : Nat) (hg : ¬ tagU w' g) : Off g v := by
 intro x l c hv hl
 rcases h.1.2 with ⟨h0, _⟩ | ⟨gb, cap, cur, h0, hb, hc, _⟩
 ·rw [hv] at h0; cases h0
 ·rw [hv] at h0
  injection h0 with h1 h2 h3
  injection h1 with h1
  rw [h1]
  show gb ≠ g
  intro e
  subst e
  exact hg ⟨_, _, hc⟩
theorem slice_to10F {w : World} {B n c : Nat} {A : Option Addr} {bs : List UInt8} (h : Sl w B (.slice A n c) bs) (j : Nat) (hj : j ≤ n) (hn : n ≤ c) :
  ∃ A' c', (∀ u, (Instr.sliceAt 23 (.slice A n c) none (some (.int .i64 (j : Int))) none).run Tryz.prog u = .ok (.slice A' (bs.take j).length c') u) ∧ Sl w B (.slice A' (bs.take j).length c') (bs.take j) ∧ ∀ g, Off g (.slice A n c) → Off g (.slice A' (bs.take j).length c') := by
 have hcut := h.cut 0 j (Nat.zero_le _) hj (by omega)
 rw [List.drop_zero] at hcut
 obtain ⟨A', c', hv, _⟩ := hcut.form
 refine ⟨A', c', fun u => ?_, by rw [← hv]; exact hcut, fun g ho => by rw [← hv]; exact ho.cut 0 j hj⟩
 rw [run_sliceAt_slice _ _ _ _ _ _ slice30, run_slice_h u 23 A n c slice30 .i64 (j : Int) (by omega) (by omega), elem30, run_sizeOf_u8, Result.andThen_ok, Int.toNat_natCast, hv]
theorem refKeyedF_24_false (c h l : Int) (kind : Nat) (hk : kind ≤ 4) (vk vm : Value) (key m : List UInt8) (w : World) (hkey : Sl w w.heap.size vk key) (hm : Sl w w.heap.size vm m) (hl1 : key.length ≤ 100000) (hl2 : m.length ≤ 100000) :
  Calls Tryz.prog 63 #[.agg #[.int .u32 c, .bool false, .int .i64 24, .int .i64 h, .int .i64 l], .int .i64 (kind : Int), vk, vm] w (SlF w (keyd false 24 kind key m)) := by
 unfold SlF
 obtain ⟨A1, c1, rfl, _, _⟩ := hkey.form
 obtain ⟨A2, c2, rfl, _, _⟩ := hm.form
 have q : (kind : Int) % 18446744073709551616 = (kind : Int) := by omega
 obtain ⟨hs, hhs⟩ : ∃ hs, hs = hsh false (ktxt 24 kind key m) := ⟨_, rfl⟩
 have HHS : Shh (hs.length = 32 ∧ keyd false 24 kind key m = hs.take 24) := ⟨by rw [hhs]; exact hsh_length _ _, by rw [hhs]; rfl⟩
 obtain ⟨tx, htx⟩ : ∃ tx, tx = ktxt 24 kind key m := ⟨_, rfl⟩
 have HTX : Shh (tx = [bigB kind 4, key, m].flatten ∧ tx.length ≤ 1000000) := by
  have e : tx = [bigB kind 4, key, m].flatten := by rw [htx]; unfold ktxt; simp
  refine ⟨e, ?_⟩
  rw [e, three_flat10, List.length_append, List.length_append, bigB_length]; omega
 rw [← htx] at hhs
 have HHT : Shh (hs = hsh false tx) := ⟨hhs⟩
 clear htx hhs
 obtain ⟨W, hW⟩ : ∃ W, W = w.alloc (.cells #[.int .u32 c, .bool false, .int .i64 24, .int .i64 h, .int .i64 l] 27) := ⟨_, rfl⟩
 have HW : Shh (Row W w.heap.size 27 [.int .u32 c, .bool false, .int .i64 24, .int .i64 h, .int .i64 l] ∧ Sl W W.heap.size (.slice A1 key.length c1) key ∧ Sl W W.heap.size (.slice A2 m.length c2) m ∧ Below w.heap.size w W) := by
  rw [hW]
  exact ⟨Row.new_ rfl rfl, hkey.go (below1 _ _), hm.go (below1 _ _), below1 _ _⟩
 clear hkey hm
 rw [HHS.out.2]
 go_enter Tryz.func63, Tryz.ntmps63
 go_wp2_with (go_at_call 56; refine (refBig64_any kind 4 _ (by omega) (by omega)).mono ?_)
 rw [← hW]
 clear hW
 rintro e w2 ⟨v2, rfl, g2⟩
 obtain ⟨A3, c3, rfl⟩ := own_form g2.1
 have H2 : Shh (Row w2 w.heap.size 27 [.int .u32 c, .bool false, .int .i64 24, .int .i64 h, .int .i64 l] ∧ Sl w2 w2.heap.size (.slice A1 key.length c1) key ∧ Sl w2 w2.heap.size (.slice A2 m.length c2) m ∧ Below w.heap.size w w2 ∧ Sl w2 w2.heap.size (.slice A3 (bigB kind 4).length c3) (bigB kind 4)) := ⟨HW.out.1.go g2.2, HW.out.2.1.go g2.2, HW.out.2.2.1.go g2.2, Below.chain HW.out.2.2.2 g2.2, gives_sl g2⟩
 clear g2 HW
 go_wp2_with (go_at_call 55; refine (refJoin_any (w2.heap.size + 1) (w2.heap.size + 1) _ [bigB kind 4, key, m] _ (PartsO.three (Nat.lt_succ_self _) (by omega) (Row.new_ rfl rfl) ((H2.out.2.2.2.2.below (below1 _ _)).more (by omega)) (H2.out.2.2.2.2.off (by omega)) ((H2.out.2.1.below (below1 _ _)).more (by omega)) (H2.out.2.1.off (by omega)) ((H2.out.2.2.1.below (below1 _ _)).more (by omega)) (H2.out.2.2.1.off (by omega))) (by rw [asz]; exact Nat.le_refl _) (by rw [← HTX.out.1]; have := HTX.out.2; omega) (by simp)).mono ?_)
 rintro e w3 ⟨v3, rfl, g3⟩
 rw [← HTX.out.1] at g3
 obtain ⟨At, ct, rfl⟩ := own_form g3.1
 have H3 : Shh (Row w3 w.heap.size 27 [.int .u32 c, .bool false, .int .i64 24, .int .i64 h, .int .i64 l] ∧ Sl w3 w3.heap.size (.slice At tx.length ct) tx ∧ Below w.heap.size w w3) := ⟨H2.out.1.go (Below.chain (below1 _ _) g3.2), gives_sl g3, Below.chain H2.out.2.2.2.1 (Below.chain (below1 _ _) g3.2)⟩
 clear g3 H2
 have e1 := H3.out.1.cell 1
 have e2 := H3.out.1.cell 2
 simp only [List.getElem?_cons_succ, List.getElem?_cons_zero] at e1 e2
 go_wp2
 refine wp_region_held_drew (S := fun w' => w'.cell? ⟨w.heap.size, 2, none⟩ = some (.int .i64 24)) (by kernel_rfl) e2 (fun hS => ?_)
 obtain ⟨V, hV⟩ : ∃ V, V = World.drew w3 := ⟨_, rfl⟩
 rw [← hV] at hS ⊢
 have sT : Sl V V.heap.size (.slice At tx.length ct) tx := by rw [hV]; exact H3.out.2.1.drew
 have rB : Row V w.heap.size 27 [.int .u32 c, .bool false, .int .i64 24, .int .i64 h, .int .i64 l] := by rw [hV]; exact H3.out.1.drew
 have HBV : Below w.heap.size w V := by rw [hV]; exact H3.out.2.2.drew
 clear H3 e1 e2 hV
 refine hdv0 0 29 (.slice At tx.length ct) (by rfl) (hS) ?_
 refine hdv0 2 31 (.pointer (some ⟨w.heap.size, 2, none⟩)) (by rfl) (hS) ?_
 refine hdv 3 32 (.int .i64 24) (by rfl) (fun w hS => by have h2 := hS; go_simp) (hS) ?_
 refine held_one 1 (by kernel_rfl) ?_
 refine step_call 1 _ _ (some 30) 100 #[.slice At tx.length ct] (by rfl) (by kernel_rfl) (by first | kernel_rfl | go_simp) ?_
 refine (refSum_any V.heap.size _ tx V sT (Nat.le_refl _) (by have := HTX.out.2; omega)).mono ?_
 rintro e Y1 ⟨v, rfl, gv⟩
 have bx : Below V.heap.size V Y1 := gv.2
 rw [show sha tx = hs from HHT.out.symm] at gv
 obtain ⟨Ah, ch, vEq⟩ := own_form gv.1
 subst vEq
 obtain ⟨Ap, cp, runP, sH, oP0⟩ := slice_to10F (gives_sl gv) 24 (by rw [HHS.out.1]; omega) (by obtain ⟨_, _, hq, hch, _⟩ := (gives_sl gv).form; cases hq; exact hch)
 have hS2 : Y1.cell? ⟨w.heap.size, 2, none⟩ = some (.int .i64 24) := (rB.go bx).cell 2
 have oP : ∀ g, ¬ tagU Y1 g → Off g (.slice Ap (hs.take 24).length cp) := fun g hg => oP0 g (gives_tag gv g hg)
 clear gv oP0
 have b_V := bx
 have m_Y1 : V.heap.size ≤ Y1.heap.size := bx.size
 clear bx
 refine ⟨_, rfl, hS2, ?_⟩
 simp only [Act.put, arr9, hd9, tl9]
 refine hdv 4 33 (.slice Ap (hs.take 24).length cp) (by rfl) (fun w hS => run_slice_op ⟨rfl, rfl⟩ (runP w)) (hS2) ?_
 refine hdv0 5 8 (.slice Ap (hs.take 24).length cp) (by rfl) (hS2) ?_
 refine wpAnyH_done (by kernel_rfl) ?_ _
 have HR : Shh (Sl Y1 Y1.heap.size (.slice Ap (hs.take 24).length cp) (hs.take 24) ∧ Below w.heap.size w Y1 ∧ ∀ g, ¬ tagU Y1 g → Off g (.slice Ap (hs.take 24).length cp)) := ⟨sH, Below.chain HBV b_V, oP⟩
 clear m_Y1 b_V oP hS2 sH runP hS HBV rB sT
 go_wp2
 go_ret
 exact ⟨_, rfl, HR.out.1, HR.out.2.1, HR.out.2.2⟩
theorem refKeyed_24_false (c h l : Int) (kind : Nat) (hk : kind ≤ 4) (vk vm : Value) (key m : List UInt8) (w : World) (hkey : Sl w w.heap.size vk key) (hm : Sl w w.heap.size vm m) (hl1 : key.length ≤ 100000) (hl2 : m.length ≤ 100000) :
  Calls Tryz.prog 63 #[.agg #[.int .u32 c, .bool false, .int .i64 24, .int .i64 h, .int .i64 l], .int .i64 (kind : Int), vk, vm] w (SlIs w (keyd false 24 kind key m)) :=
 (refKeyedF_24_false c h l kind hk vk vm key m w hkey hm hl1 hl2).mono fun _ _ ⟨v, a, b, d, _⟩ => ⟨v, a, b, d⟩
theorem refKeyedF_32_false (c h l : Int) (kind : Nat) (hk : kind ≤ 4) (vk vm : Value) (key m : List UInt8) (w : World) (hkey : Sl w w.heap.size vk key) (hm : Sl w w.heap.size vm m) (hl1 : key.length ≤ 100000) (hl2 : m.length ≤ 100000) :
  Calls Tryz.prog 63 #[.agg #[.int .u32 c, .bool false, .int .i64 32, .int .i64 h, .int .i64 l], .int .i64 (kind : Int), vk, vm] w (SlF w (keyd false 32 kind key m)) := by
 unfold SlF
 obtain ⟨A1, c1, rfl, _, _⟩ := hkey.form
 obtain ⟨A2, c2, rfl, _, _⟩ := hm.form
 have q : (kind : Int) % 18446744073709551616 = (kind : Int) := by omega
 obtain ⟨hs, hhs⟩ : ∃ hs, hs = hsh false (ktxt 32 kind key m) := ⟨_, rfl⟩
 have HHS : Shh (hs.length = 32 ∧ keyd false 32 kind key m = hs.take 32) := ⟨by rw [hhs]; exact hsh_length _ _, by rw [hhs]; rfl⟩
 obtain ⟨tx, htx⟩ : ∃ tx, tx = ktxt 32 kind key m := ⟨_, rfl⟩
 have HTX : Shh (tx = [bigB kind 32, key, m].flatten ∧ tx.length ≤ 1000000) := by
  have e : tx = [bigB kind 32, key, m].flatten := by rw [htx]; unfold ktxt; simp
  refine ⟨e, ?_⟩
  rw [e, three_flat10, List.length_append, List.length_append, bigB_length]; omega
 rw [← htx] at hhs
 have HHT : Shh (hs = hsh false tx) := ⟨hhs⟩
 clear htx hhs
 obtain ⟨W, hW⟩ : ∃ W, W = w.alloc (.cells #[.int .u32 c, .bool false, .int .i64 32, .int .i64 h, .int .i64 l] 27) := ⟨_, rfl⟩
 have HW : Shh (Row W w.heap.size 27 [.int .u32 c, .bool false, .int .i64 32, .int .i64 h, .int .i64 l] ∧ Sl W W.heap.size (.slice A1 key.length c1) key ∧ Sl W W.heap.size (.slice A2 m.length c2) m ∧ Below w.heap.size w W) := by
  rw [hW]
  exact ⟨Row.new_ rfl rfl, hkey.go (below1 _ _), hm.go (below1 _ _), below1 _ _⟩
 clear hkey hm
 rw [HHS.out.2]
 go_enter Tryz.func63, Tryz.ntmps63
 go_wp2_with (go_at_call 56; refine (refBig64_any kind 32 _ (by omega) (by omega)).mono ?_)
 rw [← hW]
 clear hW
 rintro e w2 ⟨v2, rfl, g2⟩
 obtain ⟨A3, c3, rfl⟩ := own_form g2.1
 have H2 : Shh (Row w2 w.heap.size 27 [.int .u32 c, .bool false, .int .i64 32, .int .i64 h, .int .i64 l] ∧ Sl w2 w2.heap.size (.slice A1 key.length c1) key ∧ Sl w2 w2.heap.size (.slice A2 m.length c2) m ∧ Below w.heap.size w w2 ∧ Sl w2 w2.heap.size (.slice A3 (bigB kind 32).length c3) (bigB kind 32)) := ⟨HW.out.1.go g2.2, HW.out.2.1.go g2.2, HW.out.2.2.1.go g2.2, Below.chain HW.out.2.2.2 g2.2, gives_sl g2⟩
 clear g2 HW
 go_wp2_with (go_at_call 55; refine (refJoin_any (w2.heap.size + 1) (w2.heap.size + 1) _ [bigB kind 32, key, m] _ (PartsO.three (Nat.lt_succ_self _) (by omega) (Row.new_ rfl rfl) ((H2.out.2.2.2.2.below (below1 _ _)).more (by omega)) (H2.out.2.2.2.2.off (by omega)) ((H2.out.2.1.below (below1 _ _)).more (by omega)) (H2.out.2.1.off (by omega)) ((H2.out.2.2.1.below (below1 _ _)).more (by omega)) (H2.out.2.2.1.off (by omega))) (by rw [asz]; exact Nat.le_refl _) (by rw [← HTX.out.1]; have := HTX.out.2; omega) (by simp)).mono ?_)
 rintro e w3 ⟨v3, rfl, g3⟩
 rw [← HTX.out.1] at g3
 obtain ⟨At, ct, rfl⟩ := own_form g3.1
 have H3 : Shh (Row w3 w.heap.size 27 [.int .u32 c, .bool false, .int .i64 32, .int .i64 h, .int .i64 l] ∧ Sl w3 w3.heap.size (.slice At tx.length ct) tx ∧ Below w.heap.size w w3) := ⟨H2.out.1.go (Below.chain (below1 _ _) g3.2), gives_sl g3, Below.chain H2.out.2.2.2.1 (Below.chain (below1 _ _) g3.2)⟩
 clear g3 H2
 have e1 := H3.out.1.cell 1
 have e2 := H3.out.1.cell 2
 simp only [List.getElem?_cons_succ, List.getElem?_cons_zero] at e1 e2
 go_wp2
 refine wp_region_held_drew (S := fun w' => w'.cell? ⟨w.heap.size, 2, none⟩ = some (.int .i64 32)) (by kernel_rfl) e2 (fun hS => ?_)
 obtain ⟨V, hV⟩ : ∃ V, V = World.drew w3 := ⟨_, rfl⟩
 rw [← hV] at hS ⊢
 have sT : Sl V V.heap.size (.slice At tx.length ct) tx := by rw [hV]; exact H3.out.2.1.drew
 have rB : Row V w.heap.size 27 [.int .u32 c, .bool false, .int .i64 32, .int .i64 h, .int .i64 l] := by rw [hV]; exact H3.out.1.drew
 have HBV : Below w.heap.size w V := by rw [hV]; exact H3.out.2.2.drew
 clear H3 e1 e2 hV
 refine hdv0 0 29 (.slice At tx.length ct) (by rfl) (hS) ?_
 refine hdv0 2 31 (.pointer (some ⟨w.heap.size, 2, none⟩)) (by rfl) (hS) ?_
 refine hdv 3 32 (.int .i64 32) (by rfl) (fun w hS => by have h2 := hS; go_simp) (hS) ?_
 refine held_one 1 (by kernel_rfl) ?_
 refine step_call 1 _ _ (some 30) 100 #[.slice At tx.length ct] (by rfl) (by kernel_rfl) (by first | kernel_rfl | go_simp) ?_
 refine (refSum_any V.heap.size _ tx V sT (Nat.le_refl _) (by have := HTX.out.2; omega)).mono ?_
 rintro e Y1 ⟨v, rfl, gv⟩
 have bx : Below V.heap.size V Y1 := gv.2
 rw [show sha tx = hs from HHT.out.symm] at gv
 obtain ⟨Ah, ch, vEq⟩ := own_form gv.1
 subst vEq
 obtain ⟨Ap, cp, runP, sH, oP0⟩ := slice_to10F (gives_sl gv) 32 (by rw [HHS.out.1]; omega) (by obtain ⟨_, _, hq, hch, _⟩ := (gives_sl gv).form; cases hq; exact hch)
 have hS2 : Y1.cell? ⟨w.heap.size, 2, none⟩ = some (.int .i64 32) := (rB.go bx).cell 2
 have oP : ∀ g, ¬ tagU Y1 g → Off g (.slice Ap (hs.take 32).length cp) := fun g hg => oP0 g (gives_tag gv g hg)
 clear gv oP0
 have b_V := bx
 have m_Y1 : V.heap.size ≤ Y1.heap.size := bx.size
 clear bx
 refine ⟨_, rfl, hS2, ?_⟩
 simp only [Act.put, arr9, hd9, tl9]
 refine hdv 4 33 (.slice Ap (hs.take 32).length cp) (by rfl) (fun w hS => run_slice_op ⟨rfl, rfl⟩ (runP w)) (hS2) ?_
 refine hdv0 5 8 (.slice Ap (hs.take 32).length cp) (by rfl) (hS2) ?_
 refine wpAnyH_done (by kernel_rfl) ?_ _
 have HR : Shh (Sl Y1 Y1.heap.size (.slice Ap (hs.take 32).length cp) (hs.take 32) ∧ Below w.heap.size w Y1 ∧ ∀ g, ¬ tagU Y1 g → Off g (.slice Ap (hs.take 32).length cp)) := ⟨sH, Below.chain HBV b_V, oP⟩
 clear m_Y1 b_V oP hS2 sH runP hS HBV rB sT
 go_wp2
 go_ret
 exact ⟨_, rfl, HR.out.1, HR.out.2.1, HR.out.2.2⟩
theorem refKeyed_32_false (c h l : Int) (kind : Nat) (hk : kind ≤ 4) (vk vm : Value) (key m : List UInt8) (w : World) (hkey : Sl w w.heap.size vk key) (hm : Sl w w.heap.size vm m) (hl1 : key.length ≤ 100000) (hl2 : m.length ≤ 100000) :
  Calls Tryz.prog 63 #[.agg #[.int .u32 c, .bool false, .int .i64 32, .int .i64 h, .int .i64 l], .int .i64 (kind : Int), vk, vm] w (SlIs w (keyd false 32 kind key m)) :=
 (refKeyedF_32_false c h l kind hk vk vm key m w hkey hm hl1 hl2).mono fun _ _ ⟨v, a, b, d, _⟩ => ⟨v, a, b, d⟩
theorem refKeyedF_24_true (c h l : Int) (kind : Nat) (hk : kind ≤ 4) (vk vm : Value) (key m : List UInt8) (w : World) (hkey : Sl w w.heap.size vk key) (hm : Sl w w.heap.size vm m) (hl1 : key.length ≤ 100000) (hl2 : m.length ≤ 100000) :
  Calls Tryz.prog 63 #[.agg #[.int .u32 c, .bool true, .int .i64 24, .int .i64 h, .int .i64 l], .int .i64 (kind : Int), vk, vm] w (SlF w (keyd true 24 kind key m)) := by
 unfold SlF
 obtain ⟨A1, c1, rfl, _, _⟩ := hkey.form
 obtain ⟨A2, c2, rfl, _, _⟩ := hm.form
 have q : (kind : Int) % 18446744073709551616 = (kind : Int) := by omega
 obtain ⟨hs, hhs⟩ : ∃ hs, hs = hsh true (ktxt 24 kind key m) := ⟨_, rfl⟩
 have HHS : Shh (hs.length = 32 ∧ keyd true 24 kind key m = hs.take 24) := ⟨by rw [hhs]; exact hsh_length _ _, by rw [hhs]; rfl⟩
 obtain ⟨tx, htx⟩ : ∃ tx, tx = ktxt 24 kind key m := ⟨_, rfl⟩
 have HTX : Shh (tx = [bigB kind 4, key, m].flatten ∧ tx.length ≤ 1000000) := by
  have e : tx = [bigB kind 4, key, m].flatten := by rw [htx]; unfold ktxt; simp
  refine ⟨e, ?_⟩
  rw [e, three_flat10, List.length_append, List.length_append, bigB_length]; omega
 rw [← htx] at hhs
 have HHT : Shh (hs = hsh true tx) := ⟨hhs⟩
 clear htx hhs
 obtain ⟨W, hW⟩ : ∃ W, W = w.alloc (.cells #[.int .u32 c, .bool true, .int .i64 24, .int .i64 h, .int .i64 l] 27) := ⟨_, rfl⟩
 have HW : Shh (Row W w.heap.size 27 [.int .u32 c, .bool true, .int .i64 24, .int .i64 h, .int .i64 l] ∧ Sl W W.heap.size (.slice A1 key.length c1) key ∧ Sl W W.heap.size (.slice A2 m.length c2) m ∧ Below w.heap.size w W) := by
  rw [hW]
  exact ⟨Row.new_ rfl rfl, hkey.go (below1 _ _), hm.go (below1 _ _), below1 _ _⟩
 clear hkey hm
 rw [HHS.out.2]
 go_enter Tryz.func63, Tryz.ntmps63
 go_wp2_with (go_at_call 56; refine (refBig64_any kind 4 _ (by omega) (by omega)).mono ?_)
 rw [← hW]
 clear hW
 rintro e w2 ⟨v2, rfl, g2⟩
 obtain ⟨A3, c3, rfl⟩ := own_form g2.1
 have H2 : Shh (Row w2 w.heap.size 27 [.int .u32 c, .bool true, .int .i64 24, .int .i64 h, .int .i64 l] ∧ Sl w2 w2.heap.size (.slice A1 key.length c1) key ∧ Sl w2 w2.heap.size (.slice A2 m.length c2) m ∧ Below w.heap.size w w2 ∧ Sl w2 w2.heap.size (.slice A3 (bigB kind 4).length c3) (bigB kind 4)) := ⟨HW.out.1.go g2.2, HW.out.2.1.go g2.2, HW.out.2.2.1.go g2.2, Below.chain HW.out.2.2.2 g2.2, gives_sl g2⟩
 clear g2 HW
 go_wp2_with (go_at_call 55; refine (refJoin_any (w2.heap.size + 1) (w2.heap.size + 1) _ [bigB kind 4, key, m] _ (PartsO.three (Nat.lt_succ_self _) (by omega) (Row.new_ rfl rfl) ((H2.out.2.2.2.2.below (below1 _ _)).more (by omega)) (H2.out.2.2.2.2.off (by omega)) ((H2.out.2.1.below (below1 _ _)).more (by omega)) (H2.out.2.1.off (by omega)) ((H2.out.2.2.1.below (below1 _ _)).more (by omega)) (H2.out.2.2.1.off (by omega))) (by rw [asz]; exact Nat.le_refl _) (by rw [← HTX.out.1]; have := HTX.out.2; omega) (by simp)).mono ?_)
 rintro e w3 ⟨v3, rfl, g3⟩
 rw [← HTX.out.1] at g3
 obtain ⟨At, ct, rfl⟩ := own_form g3.1
 have H3 : Shh (Row w3 w.heap.size 27 [.int .u32 c, .bool true, .int .i64 24, .int .i64 h, .int .i64 l] ∧ Sl w3 w3.heap.size (.slice At tx.length ct) tx ∧ Below w.heap.size w w3) := ⟨H2.out.1.go (Below.chain (below1 _ _) g3.2), gives_sl g3, Below.chain H2.out.2.2.2.1 (Below.chain (below1 _ _) g3.2)⟩
 clear g3 H2
 have e1 := H3.out.1.cell 1
 have e2 := H3.out.1.cell 2
 simp only [List.getElem?_cons_succ, List.getElem?_cons_zero] at e1 e2
 go_wp2
 refine wp_region_held_drew (S := fun w' => w'.cell? ⟨w.heap.size, 2, none⟩ = some (.int .i64 24)) (by kernel_rfl) e2 (fun hS => ?_)
 obtain ⟨V, hV⟩ : ∃ V, V = World.drew w3 := ⟨_, rfl⟩
 rw [← hV] at hS ⊢
 have sT : Sl V V.heap.size (.slice At tx.length ct) tx := by rw [hV]; exact H3.out.2.1.drew
 have rB : Row V w.heap.size 27 [.int .u32 c, .bool true, .int .i64 24, .int .i64 h, .int .i64 l] := by rw [hV]; exact H3.out.1.drew
 have HBV : Below w.heap.size w V := by rw [hV]; exact H3.out.2.2.drew
 clear H3 e1 e2 hV
 refine hdv0 0 24 (.slice At tx.length ct) (by rfl) (hS) ?_
 refine hdv0 2 26 (.pointer (some ⟨w.heap.size, 2, none⟩)) (by rfl) (hS) ?_
 refine hdv 3 27 (.int .i64 24) (by rfl) (fun w hS => by have h2 := hS; go_simp) (hS) ?_
 refine held_one 1 (by kernel_rfl) ?_
 refine step_call 1 _ _ (some 25) 99 #[.int .i64 256, .int .i64 32, .slice At tx.length ct] (by rfl) (by kernel_rfl) (by first | kernel_rfl | go_simp) ?_
 refine (refShake256_any 32 (by decide) V.heap.size _ tx V sT (Nat.le_refl _) HTX.out.2).mono ?_
 rintro e Y1 ⟨v, rfl, gv⟩
 have bx : Below V.heap.size V Y1 := gv.2
 rw [show spongeL 136 31 tx 32 = hs from HHT.out.symm] at gv
 obtain ⟨Ah, ch, vEq⟩ := own_form gv.1
 subst vEq
 obtain ⟨Ap, cp, runP, sH, oP0⟩ := slice_to10F (gives_sl gv) 24 (by rw [HHS.out.1]; omega) (by obtain ⟨_, _, hq, hch, _⟩ := (gives_sl gv).form; cases hq; exact hch)
 have hS2 : Y1.cell? ⟨w.heap.size, 2, none⟩ = some (.int .i64 24) := (rB.go bx).cell 2
 have oP : ∀ g, ¬ tagU Y1 g → Off g (.slice Ap (hs.take 24).length cp) := fun g hg => oP0 g (gives_tag gv g hg)
 clear gv oP0
 have b_V := bx
 have m_Y1 : V.heap.size ≤ Y1.heap.size := bx.size
 clear bx
 refine ⟨_, rfl, hS2, ?_⟩
 simp only [Act.put, arr9, hd9, tl9]
 refine hdv 4 28 (.slice Ap (hs.take 24).length cp) (by rfl) (fun w hS => run_slice_op ⟨rfl, rfl⟩ (runP w)) (hS2) ?_
 refine hdv0 5 8 (.slice Ap (hs.take 24).length cp) (by rfl) (hS2) ?_
 refine wpAnyH_done (by kernel_rfl) ?_ _
 have HR : Shh (Sl Y1 Y1.heap.size (.slice Ap (hs.take 24).length cp) (hs.take 24) ∧ Below w.heap.size w Y1 ∧ ∀ g, ¬ tagU Y1 g → Off g (.slice Ap (hs.take 24).length cp)) := ⟨sH, Below.chain HBV b_V, oP⟩
 clear m_Y1 b_V oP hS2 sH runP hS HBV rB sT
 go_wp2
 go_ret
 exact ⟨_, rfl, HR.out.1, HR.out.2.1, HR.out.2.2⟩
theorem refKeyed_24_true (c h l : Int) (kind : Nat) (hk : kind ≤ 4) (vk vm : Value) (key m : List UInt8) (w : World) (hkey : Sl w w.heap.size vk key) (hm : Sl w w.heap.size vm m) (hl1 : key.length ≤ 100000) (hl2 : m.length ≤ 100000) :
  Calls Tryz.prog 63 #[.agg #[.int .u32 c, .bool true, .int .i64 24, .int .i64 h, .int .i64 l], .int .i64 (kind : Int), vk, vm] w (SlIs w (keyd true 24 kind key m)) :=
 (refKeyedF_24_true c h l kind hk vk vm key m w hkey hm hl1 hl2).mono fun _ _ ⟨v, a, b, d, _⟩ => ⟨v, a, b, d⟩
theorem refKeyedF_32_true (c h l : Int) (kind : Nat) (hk : kind ≤ 4) (vk vm : Value) (key m : List UInt8) (w : World) (hkey : Sl w w.heap.size vk key) (hm : Sl w w.heap.size vm m) (hl1 : key.length ≤ 100000) (hl2 : m.length ≤ 100000) :
  Calls Tryz.prog 63 #[.agg #[.int .u32 c, .bool true, .int .i64 32, .int .i64 h, .int .i64 l], .int .i64 (kind : Int), vk, vm] w (SlF w (keyd true 32 kind key m)) := by
 unfold SlF
 obtain ⟨A1, c1, rfl, _, _⟩ := hkey.form
 obtain ⟨A2, c2, rfl, _, _⟩ := hm.form
 have q : (kind : Int) % 18446744073709551616 = (kind : Int) := by omega
 obtain ⟨hs, hhs⟩ : ∃ hs, hs = hsh true (ktxt 32 kind key m) := ⟨_, rfl⟩
 have HHS : Shh (hs.length = 32 ∧ keyd true 32 kind key m = hs.take 32) := ⟨by rw [hhs]; exact hsh_length _ _, by rw [hhs]; rfl⟩
 obtain ⟨tx, htx⟩ : ∃ tx, tx = ktxt 32 kind key m := ⟨_, rfl⟩
 have HTX : Shh (tx = [bigB kind 32, key, m].flatten ∧ tx.length ≤ 1000000) := by
  have e : tx = [bigB kind 32, key, m].flatten := by rw [htx]; unfold ktxt; simp
  refine ⟨e, ?_⟩
  rw [e, three_flat10, List.length_append, List.length_append, bigB_length]; omega
 rw [← htx] at hhs
 have HHT : Shh (hs = hsh true tx) := ⟨hhs⟩
 clear htx hhs
 obtain ⟨W, hW⟩ : ∃ W, W = w.alloc (.cells #[.int .u32 c, .bool true, .int .i64 32, .int .i64 h, .int .i64 l] 27) := ⟨_, rfl⟩
 have HW : Shh (Row W w.heap.size 27 [.int .u32 c, .bool true, .int .i64 32, .int .i64 h, .int .i64 l] ∧ Sl W W.heap.size (.slice A1 key.length c1) key ∧ Sl W W.heap.size (.slice A2 m.length c2) m ∧ Below w.heap.size w W) := by
  rw [hW]
  exact ⟨Row.new_ rfl rfl, hkey.go (below1 _ _), hm.go (below1 _ _), below1 _ _⟩
 clear hkey hm
 rw [HHS.out.2]
 go_enter Tryz.func63, Tryz.ntmps63
 go_wp2_with (go_at_call 56; refine (refBig64_any kind 32 _ (by omega) (by omega)).mono ?_)
 rw [← hW]
 clear hW
 rintro e w2 ⟨v2, rfl, g2⟩
 obtain ⟨A3, c3, rfl⟩ := own_form g2.1
 have H2 : Shh (Row w2 w.heap.size 27 [.int .u32 c, .bool true, .int .i64 32, .int .i64 h, .int .i64 l] ∧ Sl w2 w2.heap.size (.slice A1 key.length c1) key ∧ Sl w2 w2.heap.size (.slice A2 m.length c2) m ∧ Below w.heap.size w w2 ∧ Sl w2 w2.heap.size (.slice A3 (bigB kind 32).length c3) (bigB kind 32)) := ⟨HW.out.1.go g2.2, HW.out.2.1.go g2.2, HW.out.2.2.1.go g2.2, Below.chain HW.out.2.2.2 g2.2, gives_sl g2⟩
 clear g2 HW
 go_wp2_with (go_at_call 55; refine (refJoin_any (w2.heap.size + 1) (w2.heap.size + 1) _ [bigB kind 32, key, m] _ (PartsO.three (Nat.lt_succ_self _) (by omega) (Row.new_ rfl rfl) ((H2.out.2.2.2.2.below (below1 _ _)).more (by omega)) (H2.out.2.2.2.2.off (by omega)) ((H2.out.2.1.below (below1 _ _)).more (by omega)) (H2.out.2.1.off (by omega)) ((H2.out.2.2.1.below (below1 _ _)).more (by omega)) (H2.out.2.2.1.off (by omega))) (by rw [asz]; exact Nat.le_refl _) (by rw [← HTX.out.1]; have := HTX.out.2; omega) (by simp)).mono ?_)
 rintro e w3 ⟨v3, rfl, g3⟩
 rw [← HTX.out.1] at g3
 obtain ⟨At, ct, rfl⟩ := own_form g3.1
 have H3 : Shh (Row w3 w.heap.size 27 [.int .u32 c, .bool true, .int .i64 32, .int .i64 h, .int .i64 l] ∧ Sl w3 w3.heap.size (.slice At tx.length ct) tx ∧ Below w.heap.size w w3) := ⟨H2.out.1.go (Below.chain (below1 _ _) g3.2), gives_sl g3, Below.chain H2.out.2.2.2.1 (Below.chain (below1 _ _) g3.2)⟩
 clear g3 H2
 have e1 := H3.out.1.cell 1
 have e2 := H3.out.1.cell 2
 simp only [List.getElem?_cons_succ, List.getElem?_cons_zero] at e1 e2
 go_wp2
 refine wp_region_held_drew (S := fun w' => w'.cell? ⟨w.heap.size, 2, none⟩ = some (.int .i64 32)) (by kernel_rfl) e2 (fun hS => ?_)
 obtain ⟨V, hV⟩ : ∃ V, V = World.drew w3 := ⟨_, rfl⟩
 rw [← hV] at hS ⊢
 have sT : Sl V V.heap.size (.slice At tx.length ct) tx := by rw [hV]; exact H3.out.2.1.drew
 have rB : Row V w.heap.size 27 [.int .u32 c, .bool true, .int .i64 32, .int .i64 h, .int .i64 l] := by rw [hV]; exact H3.out.1.drew
 have HBV : Below w.heap.size w V := by rw [hV]; exact H3.out.2.2.drew
 clear H3 e1 e2 hV
 refine hdv0 0 24 (.slice At tx.length ct) (by rfl) (hS) ?_
 refine hdv0 2 26 (.pointer (some ⟨w.heap.size, 2, none⟩)) (by rfl) (hS) ?_
 refine hdv 3 27 (.int .i64 32) (by rfl) (fun w hS => by have h2 := hS; go_simp) (hS) ?_
 refine held_one 1 (by kernel_rfl) ?_
 refine step_call 1 _ _ (some 25) 99 #[.int .i64 256, .int .i64 32, .slice At tx.length ct] (by rfl) (by kernel_rfl) (by first | kernel_rfl | go_simp) ?_
 refine (refShake256_any 32 (by decide) V.heap.size _ tx V sT (Nat.le_refl _) HTX.out.2).mono ?_
 rintro e Y1 ⟨v, rfl, gv⟩
 have bx : Below V.heap.size V Y1 := gv.2
 rw [show spongeL 136 31 tx 32 = hs from HHT.out.symm] at gv
 obtain ⟨Ah, ch, vEq⟩ := own_form gv.1
 subst vEq
 obtain ⟨Ap, cp, runP, sH, oP0⟩ := slice_to10F (gives_sl gv) 32 (by rw [HHS.out.1]; omega) (by obtain ⟨_, _, hq, hch, _⟩ := (gives_sl gv).form; cases hq; exact hch)
 have hS2 : Y1.cell? ⟨w.heap.size, 2, none⟩ = some (.int .i64 32) := (rB.go bx).cell 2
 have oP : ∀ g, ¬ tagU Y1 g → Off g (.slice Ap (hs.take 32).length cp) := fun g hg => oP0 g (gives_tag gv g hg)
 clear gv oP0
 have b_V := bx
 have m_Y1 : V.heap.size ≤ Y1.heap.size := bx.size
 clear bx
 refine ⟨_, rfl, hS2, ?_⟩
 simp only [Act.put, arr9, hd9, tl9]
 refine hdv 4 28 (.slice Ap (hs.take 32).length cp) (by rfl) (fun w hS => run_slice_op ⟨rfl, rfl⟩ (runP w)) (hS2) ?_
 refine hdv0 5 8 (.slice Ap (hs.take 32).length cp) (by rfl) (hS2) ?_
 refine wpAnyH_done (by kernel_rfl) ?_ _
 have HR : Shh (Sl Y1 Y1.heap.size (.slice Ap (hs.take 32).length cp) (hs.take 32) ∧ Below w.heap.size w Y1 ∧ ∀ g, ¬ tagU Y1 g → Off g (.slice Ap (hs.take 32).length cp)) := ⟨sH, Below.chain HBV b_V, oP⟩
 clear m_Y1 b_V oP hS2 sH runP hS HBV rB sT
 go_wp2
 go_ret
 exact ⟨_, rfl, HR.out.1, HR.out.2.1, HR.out.2.2⟩
theorem refKeyed_32_true (c h l : Int) (kind : Nat) (hk : kind ≤ 4) (vk vm : Value) (key m : List UInt8) (w : World) (hkey : Sl w w.heap.size vk key) (hm : Sl w w.heap.size vm m) (hl1 : key.length ≤ 100000) (hl2 : m.length ≤ 100000) :
  Calls Tryz.prog 63 #[.agg #[.int .u32 c, .bool true, .int .i64 32, .int .i64 h, .int .i64 l], .int .i64 (kind : Int), vk, vm] w (SlIs w (keyd true 32 kind key m)) :=
 (refKeyedF_32_true c h l kind hk vk vm key m w hkey hm hl1 hl2).mono fun _ _ ⟨v, a, b, d, _⟩ => ⟨v, a, b, d⟩

end Go.Proofs.YtdakbipiifkmfaaGreatDoor

/-
 WALKS: the document's own Keyed at any set, Sum, Go.
-/
namespace Go.Proofs.YtdakbipiifkmfaaGreatDoor
open Go.RowKit
set_option maxRecDepth 100000
theorem refKeyed_any (x : S5) (hx : x.ok = true) (kind : Nat) (hk : kind ≤ 4) (vk vm : Value) (key m : List UInt8) (w : World) (hkey : Sl w w.heap.size vk key) (hm : Sl w w.heap.size vm m) (hl1 : key.length ≤ 100000) (hl2 : m.length ≤ 100000) :
  Calls Tryz.prog 63 #[x.v, .int .i64 (kind : Int), vk, vm] w (SlIs w (keyd x.s x.n kind key m)) := by
 have hn := S5.ok_is hx
 obtain ⟨c, s, n, h, l⟩ := x
 simp only at hn
 clear hx
 rcases hn with ⟨rfl, rfl⟩ | ⟨rfl, rfl⟩ <;> cases s
 ·exact refKeyed_24_false c h 51 kind hk vk vm key m w hkey hm hl1 hl2
 ·exact refKeyed_24_true c h 51 kind hk vk vm key m w hkey hm hl1 hl2
 ·exact refKeyed_32_false c h 67 kind hk vk vm key m w hkey hm hl1 hl2
 ·exact refKeyed_32_true c h 67 kind hk vk vm key m w hkey hm hl1 hl2
theorem refKeyedF_any (x : S5) (hx : x.ok = true) (kind : Nat) (hk : kind ≤ 4) (vk vm : Value) (key m : List UInt8) (w : World) (hkey : Sl w w.heap.size vk key) (hm : Sl w w.heap.size vm m) (hl1 : key.length ≤ 100000) (hl2 : m.length ≤ 100000) :
  Calls Tryz.prog 63 #[x.v, .int .i64 (kind : Int), vk, vm] w (SlF w (keyd x.s x.n kind key m)) := by
 have hn := S5.ok_is hx
 obtain ⟨c, s, n, h, l⟩ := x
 simp only at hn
 clear hx
 rcases hn with ⟨rfl, rfl⟩ | ⟨rfl, rfl⟩ <;> cases s
 ·exact refKeyedF_24_false c h 51 kind hk vk vm key m w hkey hm hl1 hl2
 ·exact refKeyedF_24_true c h 51 kind hk vk vm key m w hkey hm hl1 hl2
 ·exact refKeyedF_32_false c h 67 kind hk vk vm key m w hkey hm hl1 hl2
 ·exact refKeyedF_32_true c h 67 kind hk vk vm key m w hkey hm hl1 hl2
theorem ok_n {x : S5} (hx : x.ok = true) : x.n = 24 ∨ x.n = 32 := by
 rcases S5.ok_is hx with h | h
 ·exact .inl h.1
 ·exact .inr h.1
theorem ok_len {x : S5} (hx : x.ok = true) (kind : Nat) (key m : List UInt8) : (keyd x.s x.n kind key m).length = x.n.toNat ∧ x.n.toNat ≤ 32 := by
 refine ⟨keyd_length _ _ _ _ _ (ok_n hx), ?_⟩
 rcases ok_n hx with h | h <;> rw [h] <;> decide
/-- a set's keyed hash, or nothing -/
def sumK (x : S5) (kind : Nat) (key m : List UInt8) : List UInt8 := if x.ok then keyd x.s x.n kind key m else []
/-- one step of a chain -/
def stepB (s : Bool) (n : Int) (seed : List UInt8) (a : List UInt32) (st : Nat) (b : List UInt8) : List UInt8 :=
 keyd s n 0 (keyd s n 3 seed (adrB (withA a st 0))) (List.zipWith (· ^^^ ·) b (keyd s n 3 seed (adrB (withA a st 1))))
/-- some steps of a chain -/
def goB (s : Bool) (n : Int) (seed : List UInt8) (a : List UInt32) (b : List UInt8) (f : Nat) : Nat → List UInt8
 | 0 => b
 | k + 1 => stepB s n seed a (f + k) (goB s n seed a b f k)
theorem goB_length {x : S5} (hx : x.ok = true) (seed : List UInt8) (a : List UInt32) (b : List UInt8) (f k : Nat) (hb : b.length = x.n.toNat) : (goB x.s x.n seed a b f k).length = x.n.toNat := by
 cases k with
 | zero => exact hb
 | succ k => exact (ok_len hx _ _ _).1
theorem info_adr10 {L : List Value} (h : L.length = 8) : (Tryz.prog.info? 64).map (·.size) = some L.length := by rw [h]; exact info_adr
set_option maxHeartbeats 2000000 in
theorem refGo_any (x : S5) (hx : x.ok = true) (vb vs : Value) (b seed : List UInt8) (a : List UInt32) (ha : a.length = 8) (f n : Nat) (hfn : f + n ≤ 15) (w : World) (hb : Sl w w.heap.size vb b) (hs : Sl w w.heap.size vs seed) (hbl : b.length = x.n.toNat) (hsl : seed.length ≤ 100000) :
  Calls Tryz.prog 89 #[x.v, vb, .int .i64 (f : Int), .int .i64 (n : Int), vs, adrV a] w (SlIs w (goB x.s x.n seed a b f n)) := by
 unfold SlIs
 obtain ⟨As, cs, rfl, _, _⟩ := hs.form
 have HKY : Shh (∀ (kind : Nat) (vk vm : Value) (key m : List UInt8) (W : World), kind ≤ 4 → Sl W W.heap.size vk key → Sl W W.heap.size vm m → key.length ≤ 100000 → m.length ≤ 100000 → Calls Tryz.prog 63 #[x.v, .int .i64 (kind : Int), vk, vm] W (SlIs W (keyd x.s x.n kind key m))) := ⟨fun kind vk vm key m W h1 h2 h3 h4 h5 => refKeyed_any x hx kind h1 vk vm key m W h2 h3 h4 h5⟩
 have HLN : Shh ((∀ k, (goB x.s x.n seed a b f k).length = x.n.toNat) ∧ (∀ kind key m, (keyd x.s x.n kind key m).length = x.n.toNat) ∧ x.n.toNat ≤ 32 ∧ a.length = 8 ∧ seed.length ≤ 100000) := ⟨fun k => goB_length hx seed a b f k hbl, fun kind key m => (ok_len hx kind key m).1, (ok_len hx 0 [] []).2, ha, hsl⟩
 clear hsl
 have HGB : Shh (∀ k, goB x.s x.n seed a b f (k + 1) = stepB x.s x.n seed a (f + k) (goB x.s x.n seed a b f k)) := ⟨fun k => rfl⟩
 obtain ⟨W, hW⟩ : ∃ W, W = (w.alloc (.cells #[.int .u32 x.c, .bool x.s, .int .i64 x.n, .int .i64 x.h, .int .i64 x.l] 27)).alloc (.cells (wordCells a).toArray 64) := ⟨_, rfl⟩
 have HW : Shh (Row W w.heap.size 27 [.int .u32 x.c, .bool x.s, .int .i64 x.n, .int .i64 x.h, .int .i64 x.l] ∧ Row W (w.heap.size + 1) 64 (wordCells a) ∧ Sl W W.heap.size vb (goB x.s x.n seed a b f 0) ∧ Sl W W.heap.size (.slice As seed.length cs) seed ∧ Below w.heap.size w W) := by
  rw [hW]
  exact ⟨(Row.new_ rfl rfl).alloc _, Row.new_ (by rw [asz]) rfl, (hb.go (below1 _ _)).go (below1 _ _), (hs.go (below1 _ _)).go (below1 _ _), Below.chain (below1 _ _) (below1 _ _)⟩
 clear hb hs hbl hx
 unfold S5.v at HKY ⊢
 unfold adrV
 have HA : Shh ((wordCells a).length = 8) := ⟨by rw [wordCells_length]; exact ha⟩
 obtain ⟨L, hL⟩ : ∃ L, L = wordCells a := ⟨_, rfl⟩
 have HLA := Shh.mk hL
 rw [← hL] at HW hW HA ⊢
 clear hL ha
 generalize x.c = xc at *
 generalize x.s = xs at *
 generalize x.n = xn at *
 generalize x.h = xh at *
 generalize x.l = xl at *
 go_enter Tryz.func89, Tryz.ntmps89
 go_wp2
 rw [← hW]
 clear hW
 go_loopw [1, 13] (fun o i wr => ∃ k : Nat, k ≤ n ∧ i = .int .i64 ((f + k : Nat) : Int) ∧ Shh (Row wr w.heap.size 27 [.int .u32 xc, .bool xs, .int .i64 xn, .int .i64 xh, .int .i64 xl] ∧ Row wr (w.heap.size + 1) 64 L ∧ Sl wr wr.heap.size o (goB xs xn seed a b f k) ∧ Sl wr wr.heap.size (.slice As seed.length cs) seed ∧ Below w.heap.size w wr)) (fun _ i _ => f + n - (intOf i).toNat)
 case atStart => exact ⟨0, Nat.zero_le _, rfl, HW⟩
 case round =>
  clear HW
  obtain ⟨k, hk, rfl, HL⟩ := hrel
  have hl3 := HL.out.2.2.1
  obtain ⟨Ab, cb, rfl, _, _⟩ := hl3.form
  clear hl3
  by_cases hlt : k < n
  ·obtain ⟨st, hst⟩ : ∃ st, st = f + k := ⟨_, rfl⟩
   have hst2 : st ≤ 15 := by omega
   have hsc : ((f + k : Nat) : Int) = (st : Int) := by rw [hst]
   have hclt : (st : Int) < (f : Int) + (n : Int) := by omega
   obtain ⟨bk, hbk⟩ : ∃ bk, bk = goB xs xn seed a b f k := ⟨_, rfl⟩
   obtain ⟨ta, hta⟩ : ∃ ta, ta = adrB (withA a st 0) := ⟨_, rfl⟩
   obtain ⟨tb, htb⟩ : ∃ tb, tb = adrB (withA a st 1) := ⟨_, rfl⟩
   obtain ⟨kb, hkb⟩ : ∃ kb, kb = keyd xs xn 3 seed ta := ⟨_, rfl⟩
   obtain ⟨mb, hmb⟩ : ∃ mb, mb = keyd xs xn 3 seed tb := ⟨_, rfl⟩
   obtain ⟨xb, hxb⟩ : ∃ xb, xb = List.zipWith (· ^^^ ·) bk mb := ⟨_, rfl⟩
   obtain ⟨nb, hnb⟩ : ∃ nb, nb = keyd xs xn 0 kb xb := ⟨_, rfl⟩
   have HN : Shh (nb = goB xs xn seed a b f (k + 1)) := ⟨by rw [hnb, hxb, hmb, hkb, htb, hta, hbk, hst]; exact (HGB.out k).symm⟩
   have HQ : Shh (ta = adrB (withA a st 0) ∧ tb = adrB (withA a st 1) ∧ kb = keyd xs xn 3 seed ta ∧ mb = keyd xs xn 3 seed tb ∧ xb = List.zipWith (· ^^^ ·) bk mb ∧ nb = keyd xs xn 0 kb xb) := ⟨hta, htb, hkb, hmb, hxb, hnb⟩
   have HLL : Shh (bk.length = mb.length ∧ bk.length ≤ 32 ∧ kb.length ≤ 32 ∧ xb.length ≤ 32 ∧ ta.length ≤ 32 ∧ tb.length ≤ 32) := by
    have l1 := HLN.out.1 k
    rw [← hbk] at l1
    have l2 := HLN.out.2.1 3 seed tb
    rw [← hmb] at l2
    have l3 := HLN.out.2.1 3 seed ta
    rw [← hkb] at l3
    have l4 := HLN.out.2.2.1
    refine ⟨by omega, by omega, by omega, by rw [hxb, List.length_zipWith]; omega, ?_, ?_⟩
    ·rw [hta, adrB_length, withA_length, HLN.out.2.2.2.1]; omega
    ·rw [htb, adrB_length, withA_length, HLN.out.2.2.2.1]; omega
   rw [← hbk] at HL
   rw [show (goB xs xn seed a b f k).length = bk.length by rw [hbk]] at *
   clear hta htb hkb hmb hxb hnb hbk HGB
   rw [hsc]
   clear hsc
   go_wp2_with fail
   refine wp_region_held_drew (S := fun w' => Row w' w.heap.size 27 [.int .u32 xc, .bool xs, .int .i64 xn, .int .i64 xh, .int .i64 xl] ∧ Row w' (w.heap.size + 1) 64 L) (by kernel_rfl) ⟨HL.out.1.drew, HL.out.2.1.drew⟩ (fun hS => ?_)
   obtain ⟨V, hV⟩ : ∃ V, V = World.drew wr := ⟨_, rfl⟩
   rw [← hV] at hS ⊢
   have sS : Sl V V.heap.size (.slice As seed.length cs) seed := by rw [hV]; exact HL.out.2.2.2.1.drew
   have sB : Sl V V.heap.size (.slice Ab bk.length cb) bk := by rw [hV]; exact HL.out.2.2.1.drew
   have HBV : Below w.heap.size w V := by rw [hV]; exact HL.out.2.2.2.2.drew
   clear hV HL
   refine hdv0 1 25 (.slice As seed.length cs) (by rfl) (hS) ?_
   refine hdv0 3 27 (.int .i64 (st : Int)) (by rfl) (hS) ?_
   refine held_load 0 27 (.tmp 6) (some 24) (by kernel_rfl) (by rfl) (by kernel_rfl) w.heap.size 0 (by kernel_rfl) ([.int .u32 xc, .bool xs, .int .i64 xn, .int .i64 xh, .int .i64 xl]) _ (fun w h => h.1.range) Tryz.underlying27 rfl (info_xms) (fun _ _ _ _ h => h) (hS) ?_
   simp only [Act.put, arr9, hd9, tl9]
   refine held_load 2 64 (.tmp 11) (some 26) (by kernel_rfl) (by rfl) (by kernel_rfl) (w.heap.size + 1) 0 (by kernel_rfl) (L) _ (fun w h => h.2.range) Tryz.underlying64 rfl (info_adr10 HA.out) (fun _ _ _ _ h => h) (hS) ?_
   simp only [Act.put, arr9, hd9, tl9]
   refine held_one 4 (by kernel_rfl) ?_
   refine step_call 4 _ _ (some 28) 117 #[.agg (L).toArray, .int .i64 (st : Int), .int .i64 0] (by rfl) (by kernel_rfl) (by first | kernel_rfl | go_simp) ?_
   refine (show Calls Tryz.prog 117 #[.agg L.toArray, .int .i64 (st : Int), .int .i64 0] V (OwnIs V ta) by have h := refWith_any a HLN.out.2.2.2.1 st 0 (by omega) (by omega) V; unfold adrV at h; rw [← HLA.out, ← HQ.out.1] at h; exact h).mono ?_
   rintro e Y1 ⟨v, rfl, gv⟩
   have bx : Below V.heap.size V Y1 := gv.2
   obtain ⟨Aw, cw, vEq⟩ := own_form gv.1
   subst vEq
   have sW : Sl Y1 Y1.heap.size (.slice Aw ta.length cw) ta := gives_sl gv
   have hS1 : Row Y1 w.heap.size 27 [.int .u32 xc, .bool xs, .int .i64 xn, .int .i64 xh, .int .i64 xl] ∧ Row Y1 (w.heap.size + 1) 64 L := ⟨(hS.1).go bx, (hS.2).go bx⟩
   clear gv
   have b_V := bx
   have m_Y1 : V.heap.size ≤ Y1.heap.size := bx.size
   clear bx
   refine ⟨_, rfl, hS1, ?_⟩
   simp only [Act.put, arr9, hd9, tl9]
   refine held_one 5 (by kernel_rfl) ?_
   refine step_call 5 _ _ (some 29) 63 #[.agg ([.int .u32 xc, .bool xs, .int .i64 xn, .int .i64 xh, .int .i64 xl]).toArray, .int .i64 3, .slice As seed.length cs, .slice Aw ta.length cw] (by rfl) (by kernel_rfl) (by first | kernel_rfl | go_simp) ?_
   refine (show Calls Tryz.prog 63 #[.agg #[.int .u32 xc, .bool xs, .int .i64 xn, .int .i64 xh, .int .i64 xl], .int .i64 3, .slice As seed.length cs, .slice Aw ta.length cw] Y1 (SlIs Y1 kb) by have h := HKY.out 3 _ _ seed ta Y1 (by decide) (sS.go b_V) sW (by have := HLN.out.2.2.2.2; omega) (by have := HLL.out.2.2.2.2.1; omega); rw [← HQ.out.2.2.1] at h; exact h).mono ?_
   rintro e Y2 ⟨v, rfl, gv, bv⟩
   have bx : Below Y1.heap.size Y1 Y2 := bv
   obtain ⟨Ak, ck, vEq, _, _⟩ := gv.form
   subst vEq
   have sK := gv
   have hS2 : Row Y2 w.heap.size 27 [.int .u32 xc, .bool xs, .int .i64 xn, .int .i64 xh, .int .i64 xl] ∧ Row Y2 (w.heap.size + 1) 64 L := ⟨(hS1.1).go bx, (hS1.2).go bx⟩
   clear gv
   replace b_V := Below.chain b_V bx
   have b_Y1 := bx
   have m_Y2 : Y1.heap.size ≤ Y2.heap.size := bx.size
   clear bx
   refine ⟨_, rfl, hS2, ?_⟩
   simp only [Act.put, arr9, hd9, tl9]
   refine hdv0 6 14 (.slice Ak kb.length ck) (by rfl) (hS2) ?_
   refine wpAnyH_done (by kernel_rfl) ?_ _
   have H4 : Shh (Row Y2 w.heap.size 27 [.int .u32 xc, .bool xs, .int .i64 xn, .int .i64 xh, .int .i64 xl] ∧ Row Y2 (w.heap.size + 1) 64 L ∧ Sl Y2 Y2.heap.size (.slice As seed.length cs) seed ∧ Sl Y2 Y2.heap.size (.slice Ab bk.length cb) bk ∧ Sl Y2 Y2.heap.size (.slice Ak kb.length ck) kb ∧ Below w.heap.size w Y2) := ⟨hS2.1, hS2.2, (sS.go b_V), (sB.go b_V), sK, Below.chain HBV b_V⟩
   clear m_Y2 b_Y1 hS2 sK bv m_Y1 b_V hS1 sW hS HBV sS sB
   generalize hZ : Y2 = Z4 at *
   clear hZ
   go_wp2_with fail
   refine wp_region_held_drew (S := fun w' => Row w' w.heap.size 27 [.int .u32 xc, .bool xs, .int .i64 xn, .int .i64 xh, .int .i64 xl] ∧ Row w' (w.heap.size + 1) 64 L) (by kernel_rfl) ⟨H4.out.1.drew, H4.out.2.1.drew⟩ (fun hS => ?_)
   obtain ⟨V, hV⟩ : ∃ V, V = World.drew Z4 := ⟨_, rfl⟩
   rw [← hV] at hS ⊢
   have sS : Sl V V.heap.size (.slice As seed.length cs) seed := by rw [hV]; exact H4.out.2.2.1.drew
   have sB : Sl V V.heap.size (.slice Ab bk.length cb) bk := by rw [hV]; exact H4.out.2.2.2.1.drew
   have sK : Sl V V.heap.size (.slice Ak kb.length ck) kb := by rw [hV]; exact H4.out.2.2.2.2.1.drew
   have HBV : Below w.heap.size w V := by rw [hV]; exact H4.out.2.2.2.2.2.drew
   clear hV H4
   refine hdv0 1 31 (.slice As seed.length cs) (by rfl) (hS) ?_
   refine hdv0 3 33 (.int .i64 (st : Int)) (by rfl) (hS) ?_
   refine held_load 0 27 (.tmp 6) (some 30) (by kernel_rfl) (by rfl) (by kernel_rfl) w.heap.size 0 (by kernel_rfl) ([.int .u32 xc, .bool xs, .int .i64 xn, .int .i64 xh, .int .i64 xl]) _ (fun w h => h.1.range) Tryz.underlying27 rfl (info_xms) (fun _ _ _ _ h => h) (hS) ?_
   simp only [Act.put, arr9, hd9, tl9]
   refine held_load 2 64 (.tmp 11) (some 32) (by kernel_rfl) (by rfl) (by kernel_rfl) (w.heap.size + 1) 0 (by kernel_rfl) (L) _ (fun w h => h.2.range) Tryz.underlying64 rfl (info_adr10 HA.out) (fun _ _ _ _ h => h) (hS) ?_
   simp only [Act.put, arr9, hd9, tl9]
   refine held_one 4 (by kernel_rfl) ?_
   refine step_call 4 _ _ (some 34) 117 #[.agg (L).toArray, .int .i64 (st : Int), .int .i64 1] (by rfl) (by kernel_rfl) (by first | kernel_rfl | go_simp) ?_
   refine (show Calls Tryz.prog 117 #[.agg L.toArray, .int .i64 (st : Int), .int .i64 1] V (OwnIs V tb) by have h := refWith_any a HLN.out.2.2.2.1 st 1 (by omega) (by omega) V; unfold adrV at h; rw [← HLA.out, ← HQ.out.2.1] at h; exact h).mono ?_
   rintro e Y1 ⟨v, rfl, gv⟩
   have bx : Below V.heap.size V Y1 := gv.2
   obtain ⟨Aw, cw, vEq⟩ := own_form gv.1
   subst vEq
   have sW : Sl Y1 Y1.heap.size (.slice Aw tb.length cw) tb := gives_sl gv
   have hS1 : Row Y1 w.heap.size 27 [.int .u32 xc, .bool xs, .int .i64 xn, .int .i64 xh, .int .i64 xl] ∧ Row Y1 (w.heap.size + 1) 64 L := ⟨(hS.1).go bx, (hS.2).go bx⟩
   clear gv
   have b_V := bx
   have m_Y1 : V.heap.size ≤ Y1.heap.size := bx.size
   clear bx
   refine ⟨_, rfl, hS1, ?_⟩
   simp only [Act.put, arr9, hd9, tl9]
   refine held_one 5 (by kernel_rfl) ?_
   refine step_call 5 _ _ (some 35) 63 #[.agg ([.int .u32 xc, .bool xs, .int .i64 xn, .int .i64 xh, .int .i64 xl]).toArray, .int .i64 3, .slice As seed.length cs, .slice Aw tb.length cw] (by rfl) (by kernel_rfl) (by first | kernel_rfl | go_simp) ?_
   refine (show Calls Tryz.prog 63 #[.agg #[.int .u32 xc, .bool xs, .int .i64 xn, .int .i64 xh, .int .i64 xl], .int .i64 3, .slice As seed.length cs, .slice Aw tb.length cw] Y1 (SlIs Y1 mb) by have h := HKY.out 3 _ _ seed tb Y1 (by decide) (sS.go b_V) sW (by have := HLN.out.2.2.2.2; omega) (by have := HLL.out.2.2.2.2.2; omega); rw [← HQ.out.2.2.2.1] at h; exact h).mono ?_
   rintro e Y2 ⟨v, rfl, gv, bv⟩
   have bx : Below Y1.heap.size Y1 Y2 := bv
   obtain ⟨Am, cm, vEq, _, _⟩ := gv.form
   subst vEq
   have sM := gv
   have hS2 : Row Y2 w.heap.size 27 [.int .u32 xc, .bool xs, .int .i64 xn, .int .i64 xh, .int .i64 xl] ∧ Row Y2 (w.heap.size + 1) 64 L := ⟨(hS1.1).go bx, (hS1.2).go bx⟩
   clear gv
   replace b_V := Below.chain b_V bx
   have b_Y1 := bx
   have m_Y2 : Y1.heap.size ≤ Y2.heap.size := bx.size
   clear bx
   refine ⟨_, rfl, hS2, ?_⟩
   simp only [Act.put, arr9, hd9, tl9]
   refine hdv0 6 15 (.slice Am mb.length cm) (by rfl) (hS2) ?_
   refine wpAnyH_done (by kernel_rfl) ?_ _
   have H5 : Shh (Row Y2 w.heap.size 27 [.int .u32 xc, .bool xs, .int .i64 xn, .int .i64 xh, .int .i64 xl] ∧ Row Y2 (w.heap.size + 1) 64 L ∧ Sl Y2 Y2.heap.size (.slice As seed.length cs) seed ∧ Sl Y2 Y2.heap.size (.slice Ab bk.length cb) bk ∧ Sl Y2 Y2.heap.size (.slice Ak kb.length ck) kb ∧ Sl Y2 Y2.heap.size (.slice Am mb.length cm) mb ∧ Below w.heap.size w Y2) := ⟨hS2.1, hS2.2, (sS.go b_V), (sB.go b_V), (sK.go b_V), sM, Below.chain HBV b_V⟩
   clear m_Y2 b_Y1 hS2 sM bv m_Y1 b_V hS1 sW hS HBV sS sB sK
   generalize hZ : Y2 = Z5 at *
   clear hZ
   go_wp2_with fail
   refine wp_region_held_drew (S := fun w' => Row w' w.heap.size 27 [.int .u32 xc, .bool xs, .int .i64 xn, .int .i64 xh, .int .i64 xl] ∧ Row w' (w.heap.size + 1) 64 L) (by kernel_rfl) ⟨H5.out.1.drew, H5.out.2.1.drew⟩ (fun hS => ?_)
   obtain ⟨V, hV⟩ : ∃ V, V = World.drew Z5 := ⟨_, rfl⟩
   rw [← hV] at hS ⊢
   have sS : Sl V V.heap.size (.slice As seed.length cs) seed := by rw [hV]; exact H5.out.2.2.1.drew
   have sB : Sl V V.heap.size (.slice Ab bk.length cb) bk := by rw [hV]; exact H5.out.2.2.2.1.drew
   have sK : Sl V V.heap.size (.slice Ak kb.length ck) kb := by rw [hV]; exact H5.out.2.2.2.2.1.drew
   have sM : Sl V V.heap.size (.slice Am mb.length cm) mb := by rw [hV]; exact H5.out.2.2.2.2.2.1.drew
   have HBV : Below w.heap.size w V := by rw [hV]; exact H5.out.2.2.2.2.2.2.drew
   clear hV H5
   refine hdv0 1 37 (.slice Ak kb.length ck) (by rfl) (hS) ?_
   refine hdv0 2 38 (.slice Ab bk.length cb) (by rfl) (hS) ?_
   refine hdv0 3 39 (.slice Am mb.length cm) (by rfl) (hS) ?_
   refine held_load 0 27 (.tmp 6) (some 36) (by kernel_rfl) (by rfl) (by kernel_rfl) w.heap.size 0 (by kernel_rfl) ([.int .u32 xc, .bool xs, .int .i64 xn, .int .i64 xh, .int .i64 xl]) _ (fun w h => h.1.range) Tryz.underlying27 rfl (info_xms) (fun _ _ _ _ h => h) (hS) ?_
   simp only [Act.put, arr9, hd9, tl9]
   refine held_one 4 (by kernel_rfl) ?_
   refine step_call 4 _ _ (some 40) 88 #[.slice Ab bk.length cb, .slice Am mb.length cm] (by rfl) (by kernel_rfl) (by first | kernel_rfl | go_simp) ?_
   refine (show Calls Tryz.prog 88 #[.slice Ab bk.length cb, .slice Am mb.length cm] V (OwnIs V xb) by have h := refXor_any V.heap.size V.heap.size _ _ bk mb V sB sM (Nat.le_refl _) (Nat.le_refl _) (by have := HLL.out.2.1; omega) HLL.out.1; rw [← HQ.out.2.2.2.2.1] at h; exact h).mono ?_
   rintro e Y1 ⟨v, rfl, gv⟩
   have bx : Below V.heap.size V Y1 := gv.2
   obtain ⟨Aw, cw, vEq⟩ := own_form gv.1
   subst vEq
   have sW : Sl Y1 Y1.heap.size (.slice Aw xb.length cw) xb := gives_sl gv
   have hS1 : Row Y1 w.heap.size 27 [.int .u32 xc, .bool xs, .int .i64 xn, .int .i64 xh, .int .i64 xl] ∧ Row Y1 (w.heap.size + 1) 64 L := ⟨(hS.1).go bx, (hS.2).go bx⟩
   clear gv
   have b_V := bx
   have m_Y1 : V.heap.size ≤ Y1.heap.size := bx.size
   clear bx
   refine ⟨_, rfl, hS1, ?_⟩
   simp only [Act.put, arr9, hd9, tl9]
   refine held_one 5 (by kernel_rfl) ?_
   refine step_call 5 _ _ (some 41) 63 #[.agg ([.int .u32 xc, .bool xs, .int .i64 xn, .int .i64 xh, .int .i64 xl]).toArray, .int .i64 0, .slice Ak kb.length ck, .slice Aw xb.length cw] (by rfl) (by kernel_rfl) (by first | kernel_rfl | go_simp) ?_
   refine (show Calls Tryz.prog 63 #[.agg #[.int .u32 xc, .bool xs, .int .i64 xn, .int .i64 xh, .int .i64 xl], .int .i64 0, .slice Ak kb.length ck, .slice Aw xb.length cw] Y1 (SlIs Y1 nb) by have h := HKY.out 0 _ _ kb xb Y1 (by decide) (sK.go b_V) sW (by have := HLL.out.2.2.1; omega) (by have := HLL.out.2.2.2.1; omega); rw [← HQ.out.2.2.2.2.2] at h; exact h).mono ?_
   rintro e Y2 ⟨v, rfl, gv, bv⟩
   have bx : Below Y1.heap.size Y1 Y2 := bv
   obtain ⟨An, cn, vEq, _, _⟩ := gv.form
   subst vEq
   have sN := gv
   have hS2 : Row Y2 w.heap.size 27 [.int .u32 xc, .bool xs, .int .i64 xn, .int .i64 xh, .int .i64 xl] ∧ Row Y2 (w.heap.size + 1) 64 L := ⟨(hS1.1).go bx, (hS1.2).go bx⟩
   clear gv
   replace b_V := Below.chain b_V bx
   have b_Y1 := bx
   have m_Y2 : Y1.heap.size ≤ Y2.heap.size := bx.size
   clear bx
   refine ⟨_, rfl, hS2, ?_⟩
   simp only [Act.put, arr9, hd9, tl9]
   refine hdv0 6 1 (.slice An nb.length cn) (by rfl) (hS2) ?_
   refine wpAnyH_done (by kernel_rfl) ?_ _
   have H6 : Shh (Row Y2 w.heap.size 27 [.int .u32 xc, .bool xs, .int .i64 xn, .int .i64 xh, .int .i64 xl] ∧ Row Y2 (w.heap.size + 1) 64 L ∧ Sl Y2 Y2.heap.size (.slice An nb.length cn) (goB xs xn seed a b f (k + 1)) ∧ Sl Y2 Y2.heap.size (.slice As seed.length cs) seed ∧ Below w.heap.size w Y2) := ⟨hS2.1, hS2.2, by have h := sN; rw [← HN.out]; exact h, (sS.go b_V), Below.chain HBV b_V⟩
   clear m_Y2 b_Y1 hS2 sN bv m_Y1 b_V hS1 sW hS HBV sS sB sK sM
   generalize hZ : Y2 = Z6 at *
   clear hZ
   go_wp2
   go_roundw
   case rel => exact ⟨k + 1, by omega, by go_num, H6⟩
   case measure => simp [intOf]; omega
  ·obtain rfl : k = n := by omega
   have hclt : ¬ ((f + k : Nat) : Int) < (f : Int) + (k : Int) := by omega
   have HR : Shh (Sl wr wr.heap.size (.slice Ab (goB xs xn seed a b f k).length cb) (goB xs xn seed a b f k) ∧ Below w.heap.size w wr) := ⟨HL.out.2.2.1, HL.out.2.2.2.2⟩
   clear HL HLN HGB HKY
   go_wp2
   go_ret
   exact ⟨_, rfl, HR.out⟩
end Go.Proofs.YtdakbipiifkmfaaGreatDoor

/-
 SLICES OF INTS; the digits of four bits: the document's own.
-/
namespace Go.Proofs.YtdakbipiifkmfaaGreatDoor
open Go.RowKit
set_option maxRecDepth 100000
def intCells (l : List Nat) : List Value := l.map fun x : Nat => Value.int .i64 (x : Int)
theorem intCells_append (a b : List Nat) : intCells (a ++ b) = intCells a ++ intCells b := by simp [intCells]
theorem intCells_length (a : List Nat) : (intCells a).length = a.length := by simp [intCells]
/-- a slice of ints in memory of its own -/
def OwnI (w : World) (base : Nat) (v : Value) (l : List Nat) : Prop := w.ownsRow base 3 1 v l.length (intCells l)
theorem OwnI.go {w w' : World} {base : Nat} {v : Value} {l : List Nat} (h : OwnI w base v l) (b : Below w.heap.size w w') : OwnI w' base v l := own_step h b
theorem OwnI.nil (w : World) (base : Nat) : OwnI w base (.slice none 0 0) [] := World.ownsRow_nil _ _ _ _
theorem OwnI.made (w : World) : OwnI (w.alloc (.cells #[] 3)) w.heap.size (.slice (some ⟨w.heap.size, 0, none⟩) 0 0) [] := World.ownsRow_made w #[] 0 (Nat.le_refl _) (Nat.zero_le _) rfl
/-- v is a slice that reads as the numbers l -/
def SI (w : World) (B : Nat) (v : Value) (l : List Nat) : Prop := ∃ a cap, v = .slice a l.length cap ∧ l.length ≤ cap ∧ cap ≤ maxLen ∧ ((a = none ∧ l = []) ∨ ∃ g, a = some ⟨g, 0, none⟩ ∧ g < B ∧ g < w.heap.size ∧ ∀ j (h : j < l.length), w.cell? ⟨g, j, none⟩ = some (.int .i64 ((l[j] : Nat) : Int)))
section
variable {w w' : World} {B : Nat} {v : Value} {l : List Nat}
theorem SI.form (h : SI w B v l) : ∃ a cap, v = .slice a l.length cap ∧ l.length ≤ cap ∧ cap ≤ maxLen := by
 obtain ⟨a, cap, e, h1, h2, _⟩ := h
 exact ⟨a, cap, e, h1, h2⟩
theorem SI.at_ {a : Option Addr} {n cap : Nat} (h : SI w B (.slice a n cap) l) (hl : 0 < l.length) : ∃ g, a = some ⟨g, 0, none⟩ ∧ g < B ∧ g < w.heap.size ∧ ∀ j (h : j < l.length), w.cell? ⟨g, j, none⟩ = some (.int .i64 ((l[j] : Nat) : Int)) := by
 obtain ⟨a', cap', e, _, _, h⟩ := h
 cases e
 rcases h with ⟨_, rfl⟩ | h
 ·simp at hl
 ·exact h
theorem SI.below (h : SI w B v l) (b : Below B w w') : SI w' B v l := by
 obtain ⟨a, cap, e, h1, h2, h⟩ := h
 refine ⟨a, cap, e, h1, h2, ?_⟩
 rcases h with h | ⟨g, rfl, hg, hg2, h⟩
 ·exact .inl h
 ·exact .inr ⟨g, rfl, hg, by have := b.size; omega, fun j hj => (b.cell (p := ⟨g, j, none⟩) hg).trans (h j hj)⟩
theorem SI.more {B' : Nat} (h : SI w B v l) (hB : B ≤ B') : SI w B' v l := by
 obtain ⟨a, cap, e, h1, h2, h⟩ := h
 refine ⟨a, cap, e, h1, h2, ?_⟩
 rcases h with h | ⟨g, rfl, hg, hg2, h⟩
 ·exact .inl h
 ·exact .inr ⟨g, rfl, by omega, hg2, h⟩
theorem SI.go (h : SI w w.heap.size v l) (b : Below w.heap.size w w') : SI w' w'.heap.size v l := (h.below b).more b.size
theorem SI.of_own {base : Nat} (h : OwnI w base v l) : SI w w.heap.size v l := by
 rcases h with ⟨_, ⟨rfl, h0⟩ | ⟨g, cap, cur, rfl, _, hgb, hc, hc2, hs, ht⟩⟩
 ·obtain rfl : l = [] := List.eq_nil_of_length_eq_zero h0
  exact ⟨none, 0, rfl, Nat.le_refl _, Nat.zero_le _, .inl ⟨rfl, rfl⟩⟩
 ·have hlt := Array.getElem?_eq_some_iff.1 hgb
  refine ⟨some ⟨g, 0, none⟩, cap, rfl, hc, hc2, .inr ⟨g, rfl, hlt.1, hlt.1, fun j hj => ?_⟩⟩
  have h2 : cur[j]? = some (.int .i64 ((l[j] : Nat) : Int)) := by
   have e : (cur.toList.take (l.length * 1))[j]? = (l.map fun x : Nat => Value.int .i64 (x : Int))[j]? := by rw [ht]; rfl
   rw [List.getElem?_take_of_lt (by omega), Array.getElem?_toList] at e
   rw [e]
   simp [hj]
  simpa [World.cell?, hgb] using h2
/-- its first elements -/
theorem SI.take {g n cap : Nat} (h : SI w B (.slice (some ⟨g, 0, none⟩) n cap) l) (p : Nat) (hp : p ≤ l.length) : SI w B (.slice (some ⟨g, 0, none⟩) p cap) (l.take p) := by
 obtain ⟨a, c, e, h1, h2, h⟩ := h
 cases e
 have hl : (l.take p).length = p := by rw [List.length_take]; omega
 refine ⟨_, cap, by rw [hl], by omega, h2, ?_⟩
 rcases h with ⟨h, _⟩ | ⟨g', e, hg, hg2, h⟩
 ·cases h
 ·cases e
  refine .inr ⟨g, rfl, hg, hg2, fun j hj => ?_⟩
  rw [List.getElem_take]
  exact h j (by omega)
end
theorem intCells_one (l : List Nat) : ∀ u ∈ intCells l, u.oneCell' = true := by
 intro u hu
 simp only [intCells, List.mem_map] at hu
 obtain ⟨x, _, rfl⟩ := hu
 rfl
theorem intCells_get (l : List Nat) (j : Nat) (u : Value) (h : (intCells l)[j]? = some u) : ∃ hj : j < l.length, u = .int .i64 ((l[j] : Nat) : Int) := by
 unfold intCells at h
 rw [List.getElem?_map] at h
 obtain ⟨y, hy, rfl⟩ := Option.map_eq_some_iff.1 h
 obtain ⟨hj, rfl⟩ := List.getElem?_eq_some_iff.1 hy
 exact ⟨hj, rfl⟩
theorem SI.cells {w : World} {B g n c : Nat} {l : List Nat} (h : SI w B (.slice (some ⟨g, 0, none⟩) n c) l) : ∀ j u, (intCells l)[j]? = some u → w.cell? ⟨g, j, none⟩ = some u := by
 intro j u hj
 obtain ⟨hl, rfl⟩ := intCells_get l j u hj
 obtain ⟨g', e, _, _, hc⟩ := h.at_ (by omega)
 cases e
 exact hc j hl
theorem OwnI.one (w : World) (x : Nat) : (w.alloc (.cells #[.int .i64 (x : Int)] 3)).ownsRow w.heap.size 3 1 (.slice (some ⟨w.heap.size, 0, none⟩) 1 1) 1 [.int .i64 (x : Int)] :=
 ⟨rfl, .inr ⟨w.heap.size, 1, #[.int .i64 (x : Int)], rfl, Nat.le_refl _, heap_alloc_new w _, Nat.le_refl _, by unfold maxLen; omega, rfl, rfl⟩⟩
/-! digits of four bits -/
end Go.Proofs.YtdakbipiifkmfaaGreatDoor

/-
 WALKS: the document's own may.
-/
namespace Go.Proofs.YtdakbipiifkmfaaGreatDoor
open Go.RowKit
set_option maxRecDepth 100000
/-- what is wrong with a set, or with texts -/
def badE (x : S5) (bss : List (List UInt8)) : Int := if x.ok then (if bss.all (fun b => decide ((b.length : Int) = x.n)) then 0 else 1) else 60
end Go.Proofs.YtdakbipiifkmfaaGreatDoor

/-
 WALKS: the document's own Begin.
-/
namespace Go.Proofs.YtdakbipiifkmfaaGreatDoor
open Go.RowKit
set_option maxRecDepth 100000
/-- where a chain begins -/
def beginB (s : Bool) (n : Int) (sk seed : List UInt8) (a : List UInt32) (i : Nat) : List UInt8 := keyd s n 4 sk (seed ++ adrB (withA (atA a i) 0 0))
set_option maxHeartbeats 1000000 in
theorem refBegin_any (x : S5) (hx : x.ok = true) (vk vs : Value) (sk seed : List UInt8) (a : List UInt32) (ha : a.length = 8) (i : Nat) (hi : i < 4294967296) (w : World) (hk : Sl w w.heap.size vk sk) (hs : Sl w w.heap.size vs seed) (hkl : sk.length ≤ 1000) (hsl : seed.length ≤ 1000) :
  Calls Tryz.prog 90 #[x.v, vk, vs, adrV a, .int .i64 (i : Int)] w (SlIs w (beginB x.s x.n sk seed a i)) := by
 unfold SlIs
 obtain ⟨Ak, ck, rfl, _, _⟩ := hk.form
 obtain ⟨As, cs, rfl, _, _⟩ := hs.form
 obtain ⟨tw, htw⟩ : ∃ t, t = adrB (withA (atA a i) 0 0) := ⟨_, rfl⟩
 obtain ⟨tj, htj⟩ : ∃ t, t = [seed, tw].flatten := ⟨_, rfl⟩
 obtain ⟨nb, hnb⟩ : ∃ t, t = beginB x.s x.n sk seed a i := ⟨_, rfl⟩
 have HT : Shh (tw.length = 32 ∧ tj.length ≤ 2000) := by
  have l1 : tw.length = 32 := by rw [htw, adrB_length, withA_length, atA_length, ha]
  exact ⟨l1, by rw [htj, two_flat, List.length_append]; omega⟩
 have HKY : Shh ((∀ (W : World) (v2 : Value), Sl W W.heap.size (.slice Ak sk.length ck) sk → Sl W W.heap.size v2 tj → Calls Tryz.prog 63 #[x.v, .int .i64 4, .slice Ak sk.length ck, v2] W (SlIs W nb)) ∧ (∀ W, Calls Tryz.prog 91 #[adrV a, .int .i64 (i : Int)] W (OldIs (adrV (atA a i)) W)) ∧ (∀ W, Calls Tryz.prog 117 #[adrV (atA a i), .int .i64 0, .int .i64 0] W (OwnIs W tw))) := by
  refine ⟨fun W v2 h1 h2 => ?_, fun W => refAt_any a ha i hi W, fun W => ?_⟩
  ·have e : nb = keyd x.s x.n 4 sk tj := by rw [hnb, htj, two_flat, htw]; rfl
   rw [e]
   exact refKeyed_any x hx 4 (by decide) _ v2 sk tj W h1 h2 (by omega) (by have := HT.out.2; omega)
  ·rw [htw]
   exact refWith_any (atA a i) (by rw [atA_length]; exact ha) 0 0 (by decide) (by decide) W
 rw [← hnb]
 have HJ : Shh (tj = [seed, tw].flatten) := ⟨htj⟩
 clear htw htj hnb hx
 obtain ⟨W, hW⟩ : ∃ W, W = (w.alloc (.cells #[.int .u32 x.c, .bool x.s, .int .i64 x.n, .int .i64 x.h, .int .i64 x.l] 27)).alloc (.cells (wordCells a).toArray 64) := ⟨_, rfl⟩
 have HW : Shh (Row W w.heap.size 27 [.int .u32 x.c, .bool x.s, .int .i64 x.n, .int .i64 x.h, .int .i64 x.l] ∧ Row W (w.heap.size + 1) 64 (wordCells a) ∧ Sl W W.heap.size (.slice Ak sk.length ck) sk ∧ Sl W W.heap.size (.slice As seed.length cs) seed ∧ Below w.heap.size w W) := by
  rw [hW]
  exact ⟨(Row.new_ rfl rfl).alloc _, Row.new_ (by rw [asz]) rfl, (hk.go (below1 _ _)).go (below1 _ _), (hs.go (below1 _ _)).go (below1 _ _), Below.chain (below1 _ _) (below1 _ _)⟩
 clear hk hs
 unfold S5.v adrV at HKY
 unfold S5.v adrV
 have HA : Shh ((wordCells a).length = 8) := ⟨by rw [wordCells_length]; exact ha⟩
 generalize wordCells (atA a i) = L2 at HKY
 generalize wordCells a = L at HKY HA HW hW ⊢
 clear ha
 generalize x.c = xc at *
 generalize x.s = xs at *
 generalize x.n = xn at *
 generalize x.h = xh at *
 generalize x.l = xl at *
 go_enter Tryz.func90, Tryz.ntmps90
 go_wp2_with fail
 rw [← hW]
 clear hW
 refine wp_region_held_drew (S := fun w' => Row w' w.heap.size 27 [.int .u32 xc, .bool xs, .int .i64 xn, .int .i64 xh, .int .i64 xl] ∧ Row w' (w.heap.size + 1) 64 L) (by kernel_rfl) ⟨HW.out.1.drew, HW.out.2.1.drew⟩ (fun hS => ?_)
 clear hS
 obtain ⟨V, hV⟩ : ∃ V, V = World.drew W := ⟨_, rfl⟩
 rw [← hV]
 have rX : Row V w.heap.size 27 [.int .u32 xc, .bool xs, .int .i64 xn, .int .i64 xh, .int .i64 xl] := by rw [hV]; exact HW.out.1.drew
 have rA : Row V (w.heap.size + 1) 64 L := by rw [hV]; exact HW.out.2.1.drew
 have sK : Sl V V.heap.size (.slice Ak sk.length ck) sk := by rw [hV]; exact HW.out.2.2.1.drew
 have sS : Sl V V.heap.size (.slice As seed.length cs) seed := by rw [hV]; exact HW.out.2.2.2.1.drew
 have HBV : Below w.heap.size w V := by rw [hV]; exact HW.out.2.2.2.2.drew
 clear hV HW
 refine hdv0 1 12 (.slice Ak sk.length ck) (by rfl) (⟨rX, rA⟩) ?_
 refine hdv0 2 13 (.slice As seed.length cs) (by rfl) (⟨rX, rA⟩) ?_
 refine hdv0 4 15 (.int .i64 (i : Int)) (by rfl) (⟨rX, rA⟩) ?_
 refine held_load 0 27 (.tmp 5) (some 11) (by kernel_rfl) (by rfl) (by kernel_rfl) w.heap.size 0 (by kernel_rfl) ([.int .u32 xc, .bool xs, .int .i64 xn, .int .i64 xh, .int .i64 xl]) _ (fun w h => h.1.range) Tryz.underlying27 rfl (info_xms) (fun _ _ _ _ h => h) (⟨rX, rA⟩) ?_
 simp only [Act.put, arr9, hd9, tl9]
 refine held_load 3 64 (.tmp 8) (some 14) (by kernel_rfl) (by rfl) (by kernel_rfl) (w.heap.size + 1) 0 (by kernel_rfl) (L) _ (fun w h => h.2.range) Tryz.underlying64 rfl (info_adr10 HA.out) (fun _ _ _ _ h => h) (⟨rX, rA⟩) ?_
 simp only [Act.put, arr9, hd9, tl9]
 refine held_one 5 (by kernel_rfl) ?_
 refine step_call 5 _ _ (some 16) 91 #[.agg (L).toArray, .int .i64 (i : Int)] (by rfl) (by kernel_rfl) (by first | kernel_rfl | go_simp) ?_
 refine (HKY.out.2.1 V).mono ?_
 rintro e Y1 ⟨rfl, b0⟩
 have bx : Below V.heap.size V Y1 := b0
 clear b0
 have b_V := bx
 have m_Y1 : V.heap.size ≤ Y1.heap.size := bx.size
 clear bx
 refine ⟨_, rfl, ⟨(rX.go b_V), (rA.go b_V)⟩, ?_⟩
 simp only [Act.put, arr9, hd9, tl9]
 refine held_one 6 (by kernel_rfl) ?_
 refine step_call 6 _ _ (some 17) 117 #[.agg L2.toArray, .int .i64 0, .int .i64 0] (by rfl) (by kernel_rfl) (by first | kernel_rfl | go_simp) ?_
 refine (HKY.out.2.2 Y1).mono ?_
 rintro e Y2 ⟨v, rfl, gv⟩
 have bx : Below Y1.heap.size Y1 Y2 := gv.2
 obtain ⟨Aw, cw, vEq⟩ := own_form gv.1
 subst vEq
 have sW : Sl Y2 Y2.heap.size (.slice Aw tw.length cw) tw := gives_sl gv
 clear gv
 replace b_V := Below.chain b_V bx
 have b_Y1 := bx
 have m_Y2 : Y1.heap.size ≤ Y2.heap.size := bx.size
 clear bx
 refine ⟨_, rfl, ⟨(rX.go b_V), (rA.go b_V)⟩, ?_⟩
 simp only [Act.put, arr9, hd9, tl9]
 refine held_one 7 (by kernel_rfl) ?_
 refine step_value 7 _ _ (some 18) (.slice (some ⟨Y2.heap.size, 0, none⟩) 2 2) (Y2.alloc (.cells #[.slice As seed.length cs, .slice Aw tw.length cw] 23)) (by rfl) (by kernel_rfl) (by first | kernel_rfl | go_simp) (⟨(rX.go b_V).alloc _, (rA.go b_V).alloc _⟩) ?_
 simp only [Act.put, arr9, hd9, tl9]
 have bx : Below Y2.heap.size Y2 (Y2.alloc (.cells #[.slice As seed.length cs, .slice Aw tw.length cw] 23)) := Below.alloc (Below.refl _ _) (Nat.le_refl _) _
 have rP : Row (Y2.alloc (.cells #[.slice As seed.length cs, .slice Aw tw.length cw] 23)) Y2.heap.size 23 [.slice As seed.length cs, .slice Aw tw.length cw] := Row.new_ rfl rfl
 have z_rP := asz Y2 (.cells #[.slice As seed.length cs, .slice Aw tw.length cw] 23)
 generalize Y2.alloc (.cells #[.slice As seed.length cs, .slice Aw tw.length cw] 23) = Y3 at *
 replace b_V := Below.chain b_V bx
 replace b_Y1 := Below.chain b_Y1 bx
 have b_Y2 := bx
 have m_Y3 : Y2.heap.size ≤ Y3.heap.size := bx.size
 clear bx
 refine held_one 8 (by kernel_rfl) ?_
 refine step_call 8 _ _ (some 19) 55 #[.slice (some ⟨Y2.heap.size, 0, none⟩) 2 2] (by rfl) (by kernel_rfl) (by first | kernel_rfl | go_simp) ?_
 refine (show Calls Tryz.prog 55 #[.slice (some ⟨Y2.heap.size, 0, none⟩) 2 2] Y3 (OwnIs Y3 tj) by have h := refJoin_any Y3.heap.size Y3.heap.size _ [seed, tw] Y3 (PartsO.two (n := 2) rP.lt (Nat.ne_of_lt rP.lt) rP ((sS.go b_V)) (((sS.go b_V)).off (Nat.le_refl _)) ((sW.go b_Y2)) (((sW.go b_Y2)).off (Nat.le_refl _))) (Nat.le_refl _) (by rw [← HJ.out]; have := HT.out.2; omega) (by simp); rw [← HJ.out] at h; exact h).mono ?_
 rintro e Y4 ⟨v, rfl, gv⟩
 have bx : Below Y3.heap.size Y3 Y4 := gv.2
 obtain ⟨Aj, cj, vEq⟩ := own_form gv.1
 subst vEq
 have sJ : Sl Y4 Y4.heap.size (.slice Aj tj.length cj) tj := gives_sl gv
 clear gv
 replace b_V := Below.chain b_V bx
 replace b_Y1 := Below.chain b_Y1 bx
 replace b_Y2 := Below.chain b_Y2 bx
 have b_Y3 := bx
 have m_Y4 : Y3.heap.size ≤ Y4.heap.size := bx.size
 clear bx
 refine ⟨_, rfl, ⟨(rX.go b_V), (rA.go b_V)⟩, ?_⟩
 simp only [Act.put, arr9, hd9, tl9]
 refine held_one 9 (by kernel_rfl) ?_
 refine step_call 9 _ _ (some 20) 63 #[.agg ([.int .u32 xc, .bool xs, .int .i64 xn, .int .i64 xh, .int .i64 xl]).toArray, .int .i64 4, .slice Ak sk.length ck, .slice Aj tj.length cj] (by rfl) (by kernel_rfl) (by first | kernel_rfl | go_simp) ?_
 refine (HKY.out.1 Y4 _ ((sK.go b_V)) (sJ)).mono ?_
 rintro e Y5 ⟨v, rfl, gv, bv⟩
 have bx : Below Y4.heap.size Y4 Y5 := bv
 obtain ⟨An, cn, vEq, _, _⟩ := gv.form
 subst vEq
 have sN := gv
 clear gv
 replace b_V := Below.chain b_V bx
 replace b_Y1 := Below.chain b_Y1 bx
 replace b_Y2 := Below.chain b_Y2 bx
 replace b_Y3 := Below.chain b_Y3 bx
 have b_Y4 := bx
 have m_Y5 : Y4.heap.size ≤ Y5.heap.size := bx.size
 clear bx
 refine ⟨_, rfl, ⟨(rX.go b_V), (rA.go b_V)⟩, ?_⟩
 simp only [Act.put, arr9, hd9, tl9]
 refine hdv0 10 10 (.slice An nb.length cn) (by rfl) (⟨(rX.go b_V), (rA.go b_V)⟩) ?_
 refine wpAnyH_done (by kernel_rfl) ?_ _
 have HR : Shh (Sl Y5 Y5.heap.size (.slice An nb.length cn) nb ∧ Below w.heap.size w Y5) := ⟨sN, Below.chain HBV b_V⟩
 clear m_Y5 b_Y4 sN bv m_Y4 b_Y3 sJ m_Y3 b_Y2 z_rP rP m_Y2 b_Y1 sW m_Y1 b_V HBV rX rA sK sS
 go_wp2
 go_ret
 exact ⟨_, rfl, HR.out⟩
end Go.Proofs.YtdakbipiifkmfaaGreatDoor

/-
 WALKS: the document's own Ends.
-/
namespace Go.Proofs.YtdakbipiifkmfaaGreatDoor
open Go.RowKit
set_option maxRecDepth 100000
/-- the steps of chain i -/
def dOf (dl : List Nat) (i : Nat) : Nat := if dl = [] then 15 else dl.getD i 0
theorem dOf_le {dl : List Nat} (h : ∀ d ∈ dl, d ≤ 15) (i : Nat) : dOf dl i ≤ 15 := by
 unfold dOf
 split
 ·exact Nat.le_refl _
 ·by_cases hi : i < dl.length
  ·rw [List.getD_eq_getElem?_getD, List.getElem?_eq_getElem hi]
   exact h _ (List.getElem_mem hi)
  ·rw [List.getD_eq_getElem?_getD, List.getElem?_eq_none (by omega)]
   exact Nat.zero_le _
theorem dOf_get {dl : List Nat} {i : Nat} (hi : i < dl.length) : dOf dl i = dl[i] := by
 unfold dOf
 rw [if_neg (fun h => by rw [h] at hi; simp at hi), List.getD_eq_getElem?_getD, List.getElem?_eq_getElem hi]
 rfl
/-- where the first k chains are -/
def endsB (s : Bool) (n : Int) (sk seed : List UInt8) (a : List UInt32) (d : Nat → Nat) (k : Nat) : List UInt8 := (List.range k).flatMap fun i => goB s n seed (atA a i) (beginB s n sk seed a i) 0 (d i)
theorem endsB_step (s : Bool) (n : Int) (sk seed : List UInt8) (a : List UInt32) (d : Nat → Nat) (k : Nat) : endsB s n sk seed a d (k + 1) = endsB s n sk seed a d k ++ goB s n seed (atA a k) (beginB s n sk seed a k) 0 (d k) := by
 unfold endsB
 rw [List.range_succ, List.flatMap_append]
 simp
theorem endsB_len {x : S5} (hx : x.ok = true) (sk seed : List UInt8) (a : List UInt32) (d : Nat → Nat) (k : Nat) : (endsB x.s x.n sk seed a d k).length = x.n.toNat * k := by
 induction k with
 | zero => rfl
 | succ k ih =>
  have e : (goB x.s x.n seed (atA a k) (beginB x.s x.n sk seed a k) 0 (d k)).length = x.n.toNat := goB_length hx seed (atA a k) (beginB x.s x.n sk seed a k) 0 (d k) (ok_len hx 4 sk _).1
  rw [endsB_step, List.length_append, ih, e, Nat.mul_succ]
theorem endsB_le {x : S5} (hx : x.ok = true) (sk seed : List UInt8) (a : List UInt32) (d : Nat → Nat) (k : Nat) : (endsB x.s x.n sk seed a d k).length ≤ 32 * k := by
 rw [endsB_len hx]
 exact Nat.mul_le_mul_right _ (ok_len hx 0 [] []).2
set_option maxHeartbeats 2000000 in
theorem refEnds_any (x : S5) (hx : x.ok = true) (vk vs vd : Value) (sk seed : List UInt8) (a : List UInt32) (ha : a.length = 8) (dl : List Nat) (Lx : Nat) (hLx : x.l = (Lx : Int)) (hd : dl = [] ∨ dl.length = Lx) (hd15 : ∀ d ∈ dl, d ≤ 15) (w : World) (hk : Sl w w.heap.size vk sk) (hs : Sl w w.heap.size vs seed) (hvd : SI w w.heap.size vd dl) (hkl : sk.length ≤ 1000) (hsl : seed.length ≤ 1000) :
  Calls Tryz.prog 47 #[x.v, vk, vs, adrV a, vd] w (SlIs w (endsB x.s x.n sk seed a (dOf dl) Lx)) := by
 unfold SlIs
 obtain ⟨Ak, ck, rfl, _, _⟩ := hk.form
 obtain ⟨As, cs, rfl, _, _⟩ := hs.form
 obtain ⟨Ad, cd, rfl, _, _⟩ := hvd.form
 have HKY : Shh ((∀ (k : Nat) (W : World), k < 4294967296 → Sl W W.heap.size (.slice Ak sk.length ck) sk → Sl W W.heap.size (.slice As seed.length cs) seed → Calls Tryz.prog 90 #[x.v, .slice Ak sk.length ck, .slice As seed.length cs, adrV a, .int .i64 (k : Int)] W (SlIs W (beginB x.s x.n sk seed a k))) ∧ (∀ (k : Nat) (W : World), k < 4294967296 → Calls Tryz.prog 91 #[adrV a, .int .i64 (k : Int)] W (OldIs (adrV (atA a k)) W)) ∧ (∀ (k d : Nat) (W : World) (vb : Value), d ≤ 15 → Sl W W.heap.size vb (beginB x.s x.n sk seed a k) → Sl W W.heap.size (.slice As seed.length cs) seed → Calls Tryz.prog 89 #[x.v, vb, .int .i64 0, .int .i64 (d : Int), .slice As seed.length cs, adrV (atA a k)] W (SlIs W (goB x.s x.n seed (atA a k) (beginB x.s x.n sk seed a k) 0 d)))) := by
  refine ⟨fun k W h h1 h2 => refBegin_any x hx _ _ sk seed a ha k h W h1 h2 hkl hsl, fun k W h => refAt_any a ha k h W, fun k d W vb h h1 h2 => ?_⟩
  exact refGo_any x hx vb _ _ seed (atA a k) (by rw [atA_length]; exact ha) 0 d (by omega) W h1 h2 (ok_len hx _ _ _).1 (by omega)
 have HLN : Shh (∀ k, (endsB x.s x.n sk seed a (dOf dl) k).length ≤ 32 * k) := ⟨fun k => endsB_le hx sk seed a (dOf dl) k⟩
 have hL67 : Lx ≤ 67 := by rcases S5.ok_is hx with h | h <;> omega
 obtain ⟨W, hW⟩ : ∃ W, W = ((w.alloc (.cells #[.int .u32 x.c, .bool x.s, .int .i64 x.n, .int .i64 x.h, .int .i64 x.l] 27)).alloc (.cells (wordCells a).toArray 64)).alloc (.cells #[] 5) := ⟨_, rfl⟩
 have HW : Shh (Row W w.heap.size 27 [.int .u32 x.c, .bool x.s, .int .i64 x.n, .int .i64 x.h, .int .i64 x.l] ∧ Row W (w.heap.size + 1) 64 (wordCells a) ∧ Sl W W.heap.size (.slice Ak sk.length ck) sk ∧ Sl W W.heap.size (.slice As seed.length cs) seed ∧ SI W W.heap.size (.slice Ad dl.length cd) dl ∧ Below w.heap.size w W) := by
  rw [hW]
  exact ⟨((Row.new_ rfl rfl).alloc _).alloc _, (Row.new_ (by rw [asz]) rfl).alloc _, ((hk.go (below1 _ _)).go (below1 _ _)).go (below1 _ _), ((hs.go (below1 _ _)).go (below1 _ _)).go (below1 _ _), ((hvd.go (below1 _ _)).go (below1 _ _)).go (below1 _ _), Below.chain (Below.chain (below1 _ _) (below1 _ _)) (below1 _ _)⟩
 clear hk hs hvd hx
 unfold S5.v adrV at HKY
 unfold S5.v adrV
 have HA : Shh ((wordCells a).length = 8) := ⟨by rw [wordCells_length]; exact ha⟩
 generalize wordCells a = L at HKY HA HW hW ⊢
 clear ha
 generalize x.c = xc at *
 generalize x.s = xs at *
 generalize x.n = xn at *
 generalize x.h = xh at *
 generalize x.l = xl at *
 subst hLx
 have c4 := HW.out.1.cell 4
 simp only [List.getElem?_cons_succ, List.getElem?_cons_zero] at c4
 rw [hW] at c4
 go_enter Tryz.func47, Tryz.ntmps47
 go_wp2
 rw [← hW]
 clear hW c4
 go_loopw [11, 17] (fun o i wr => ∃ k : Nat, k ≤ Lx ∧ i = .int .i64 (k : Int) ∧ Shh (Row wr w.heap.size 27 [.int .u32 xc, .bool xs, .int .i64 xn, .int .i64 xh, .int .i64 (Lx : Int)] ∧ Row wr (w.heap.size + 1) 64 L ∧ Sl wr wr.heap.size (.slice Ak sk.length ck) sk ∧ Sl wr wr.heap.size (.slice As seed.length cs) seed ∧ SI wr wr.heap.size (.slice Ad dl.length cd) dl ∧ Below w.heap.size w wr) ∧ Shh (Sl wr wr.heap.size o (endsB xs xn sk seed a (dOf dl) k))) (fun _ i _ => Lx - (intOf i).toNat)
 case atStart => exact ⟨0, Nat.zero_le _, rfl, HW, ⟨⟨_, 0, rfl, Nat.le_refl _, by unfold maxLen; omega, fun h => absurd h (by simp [endsB])⟩⟩⟩
 case round =>
  clear HW
  obtain ⟨k, hk, rfl, HL, HO⟩ := hrel
  have ho := HO.out
  obtain ⟨Ao, co, rfl, _, _⟩ := ho.form
  clear ho
  by_cases hlt : k < Lx
  ·obtain ⟨dk, hdk⟩ : ∃ dk, dk = dOf dl k := ⟨_, rfl⟩
   have HE : Shh (endsB xs xn sk seed a (dOf dl) (k + 1) = endsB xs xn sk seed a (dOf dl) k ++ goB xs xn seed (atA a k) (beginB xs xn sk seed a k) 0 dk ∧ (endsB xs xn sk seed a (dOf dl) k).length ≤ 3000 ∧ (endsB xs xn sk seed a (dOf dl) (k + 1)).length ≤ 3000) := ⟨by rw [hdk]; exact endsB_step _ _ _ _ _ _ _, by have := HLN.out k; omega, by have := HLN.out (k + 1); omega⟩
   have hd16 : dk ≤ 15 := by rw [hdk]; exact dOf_le hd15 k
   have HC : Shh ((∀ (W : World), Sl W W.heap.size (.slice Ak sk.length ck) sk → Sl W W.heap.size (.slice As seed.length cs) seed → Calls Tryz.prog 90 #[.agg #[.int .u32 xc, .bool xs, .int .i64 xn, .int .i64 xh, .int .i64 (Lx : Int)], .slice Ak sk.length ck, .slice As seed.length cs, .agg L.toArray, .int .i64 (k : Int)] W (SlIs W (beginB xs xn sk seed a k))) ∧ (∀ (W : World), Calls Tryz.prog 91 #[.agg L.toArray, .int .i64 (k : Int)] W (OldIs (.agg (wordCells (atA a k)).toArray) W)) ∧ (∀ (W : World) (vb : Value), Sl W W.heap.size vb (beginB xs xn sk seed a k) → Sl W W.heap.size (.slice As seed.length cs) seed → Calls Tryz.prog 89 #[.agg #[.int .u32 xc, .bool xs, .int .i64 xn, .int .i64 xh, .int .i64 (Lx : Int)], vb, .int .i64 0, .int .i64 (dk : Int), .slice As seed.length cs, .agg (wordCells (atA a k)).toArray] W (SlIs W (goB xs xn seed (atA a k) (beginB xs xn sk seed a k) 0 dk)))) := ⟨fun W h1 h2 => HKY.out.1 k W (by omega) h1 h2, fun W => HKY.out.2.1 k W (by omega), fun W vb h1 h2 => HKY.out.2.2 k dk W vb hd16 h1 h2⟩
   generalize wordCells (atA a k) = L2 at HC
   generalize goB xs xn seed (atA a k) (beginB xs xn sk seed a k) 0 dk = nb at HC HE
   generalize beginB xs xn sk seed a k = bb at HC
   obtain ⟨E2, hE2⟩ : ∃ E2, E2 = endsB xs xn sk seed a (dOf dl) (k + 1) := ⟨_, rfl⟩
   have HE2 : Shh (E2 = endsB xs xn sk seed a (dOf dl) (k + 1)) := ⟨hE2⟩
   rw [← hE2] at HE
   clear hE2
   generalize endsB xs xn sk seed a (dOf dl) k = E at HE HO
   rcases hd with hnil | hfull
   ·have h0 : ¬ (0 : Int) < (dl.length : Int) := by rw [hnil]; decide
    have hdk2 : dk = 15 := by rw [hdk, hnil]; rfl
    subst hdk2
    clear hdk hnil
    go_wp2_with fail
    refine wp_region_held_drew (S := fun w' => Row w' w.heap.size 27 [.int .u32 xc, .bool xs, .int .i64 xn, .int .i64 xh, .int .i64 (Lx : Int)] ∧ Row w' (w.heap.size + 1) 64 L) (by kernel_rfl) ⟨HL.out.1.drew, HL.out.2.1.drew⟩ (fun hS => ?_)
    clear hS
    obtain ⟨V, hV⟩ : ∃ V, V = World.drew wr := ⟨_, rfl⟩
    rw [← hV]
    have rX : Row V w.heap.size 27 [.int .u32 xc, .bool xs, .int .i64 xn, .int .i64 xh, .int .i64 (Lx : Int)] := by rw [hV]; exact HL.out.1.drew
    have rA : Row V (w.heap.size + 1) 64 L := by rw [hV]; exact HL.out.2.1.drew
    have sK : Sl V V.heap.size (.slice Ak sk.length ck) sk := by rw [hV]; exact HL.out.2.2.1.drew
    have sS : Sl V V.heap.size (.slice As seed.length cs) seed := by rw [hV]; exact HL.out.2.2.2.1.drew
    have sD : SI V V.heap.size (.slice Ad dl.length cd) dl := by rw [hV]; exact HL.out.2.2.2.2.1
    have sE : Sl V V.heap.size (.slice Ao E.length co) E := by rw [hV]; exact HO.out.drew
    have HBV : Below w.heap.size w V := by rw [hV]; exact HL.out.2.2.2.2.2.drew
    clear hV HL HO
    refine hdv0 0 27 (.slice Ao E.length co) (by rfl) (⟨rX, rA⟩) ?_
    refine hdv0 3 30 (.slice Ak sk.length ck) (by rfl) (⟨rX, rA⟩) ?_
    refine hdv0 4 31 (.slice As seed.length cs) (by rfl) (⟨rX, rA⟩) ?_
    refine hdv0 6 33 (.int .i64 (k : Int)) (by rfl) (⟨rX, rA⟩) ?_
    refine hdv0 8 35 (.int .i64 15) (by rfl) (⟨rX, rA⟩) ?_
    refine hdv0 9 36 (.slice As seed.length cs) (by rfl) (⟨rX, rA⟩) ?_
    refine hdv0 11 38 (.int .i64 (k : Int)) (by rfl) (⟨rX, rA⟩) ?_
    refine held_load 1 27 (.tmp 5) (some 28) (by kernel_rfl) (by rfl) (by kernel_rfl) w.heap.size 0 (by kernel_rfl) ([.int .u32 xc, .bool xs, .int .i64 xn, .int .i64 xh, .int .i64 (Lx : Int)]) _ (fun w h => h.1.range) Tryz.underlying27 rfl (info_xms) (fun _ _ _ _ h => h) (⟨rX, rA⟩) ?_
    simp only [Act.put, arr9, hd9, tl9]
    refine held_load 2 27 (.tmp 5) (some 29) (by kernel_rfl) (by rfl) (by kernel_rfl) w.heap.size 0 (by kernel_rfl) ([.int .u32 xc, .bool xs, .int .i64 xn, .int .i64 xh, .int .i64 (Lx : Int)]) _ (fun w h => h.1.range) Tryz.underlying27 rfl (info_xms) (fun _ _ _ _ h => h) (⟨rX, rA⟩) ?_
    simp only [Act.put, arr9, hd9, tl9]
    refine held_load 5 64 (.tmp 8) (some 32) (by kernel_rfl) (by rfl) (by kernel_rfl) (w.heap.size + 1) 0 (by kernel_rfl) (L) _ (fun w h => h.2.range) Tryz.underlying64 rfl (info_adr10 HA.out) (fun _ _ _ _ h => h) (⟨rX, rA⟩) ?_
    simp only [Act.put, arr9, hd9, tl9]
    refine held_load 10 64 (.tmp 8) (some 37) (by kernel_rfl) (by rfl) (by kernel_rfl) (w.heap.size + 1) 0 (by kernel_rfl) (L) _ (fun w h => h.2.range) Tryz.underlying64 rfl (info_adr10 HA.out) (fun _ _ _ _ h => h) (⟨rX, rA⟩) ?_
    simp only [Act.put, arr9, hd9, tl9]
    refine held_one 7 (by kernel_rfl) ?_
    refine step_call 7 _ _ (some 34) 90 #[.agg ([.int .u32 xc, .bool xs, .int .i64 xn, .int .i64 xh, .int .i64 (Lx : Int)]).toArray, .slice Ak sk.length ck, .slice As seed.length cs, .agg (L).toArray, .int .i64 (k : Int)] (by rfl) (by kernel_rfl) (by first | kernel_rfl | go_simp) ?_
    refine (HC.out.1 V (sK) (sS)).mono ?_
    rintro e Y1 ⟨v, rfl, gv, bv⟩
    have bx : Below V.heap.size V Y1 := bv
    obtain ⟨Ab, cb, vEq, _, _⟩ := gv.form
    subst vEq
    have sB := gv
    clear gv
    have b_V := bx
    have m_Y1 : V.heap.size ≤ Y1.heap.size := bx.size
    clear bx
    refine ⟨_, rfl, ⟨(rX.go b_V), (rA.go b_V)⟩, ?_⟩
    simp only [Act.put, arr9, hd9, tl9]
    refine held_one 12 (by kernel_rfl) ?_
    refine step_call 12 _ _ (some 39) 91 #[.agg (L).toArray, .int .i64 (k : Int)] (by rfl) (by kernel_rfl) (by first | kernel_rfl | go_simp) ?_
    refine (HC.out.2.1 Y1).mono ?_
    rintro e Y2 ⟨rfl, b0⟩
    have bx : Below Y1.heap.size Y1 Y2 := b0
    clear b0
    replace b_V := Below.chain b_V bx
    have b_Y1 := bx
    have m_Y2 : Y1.heap.size ≤ Y2.heap.size := bx.size
    clear bx
    refine ⟨_, rfl, ⟨(rX.go b_V), (rA.go b_V)⟩, ?_⟩
    simp only [Act.put, arr9, hd9, tl9]
    refine held_one 13 (by kernel_rfl) ?_
    refine step_call 13 _ _ (some 40) 89 #[.agg ([.int .u32 xc, .bool xs, .int .i64 xn, .int .i64 xh, .int .i64 (Lx : Int)]).toArray, .slice Ab bb.length cb, .int .i64 0, .int .i64 15, .slice As seed.length cs, .agg L2.toArray] (by rfl) (by kernel_rfl) (by first | kernel_rfl | go_simp) ?_
    refine (HC.out.2.2 Y2 _ ((sB.go b_Y1)) ((sS.go b_V))).mono ?_
    rintro e Y3 ⟨v, rfl, gv, bv⟩
    have bx : Below Y2.heap.size Y2 Y3 := bv
    obtain ⟨An, cn, vEq, _, _⟩ := gv.form
    subst vEq
    have sN := gv
    clear gv
    replace b_V := Below.chain b_V bx
    replace b_Y1 := Below.chain b_Y1 bx
    have b_Y2 := bx
    have m_Y3 : Y2.heap.size ≤ Y3.heap.size := bx.size
    clear bx
    refine ⟨_, rfl, ⟨(rX.go b_V), (rA.go b_V)⟩, ?_⟩
    simp only [Act.put, arr9, hd9, tl9]
    refine held_one 14 (by kernel_rfl) ?_
    refine step_value 14 _ _ (some 41) (.slice (some ⟨Y3.heap.size, 0, none⟩) 2 2) (Y3.alloc (.cells #[.slice Ao E.length co, .slice An nb.length cn] 23)) (by rfl) (by kernel_rfl) (by first | kernel_rfl | go_simp) (⟨(rX.go b_V).alloc _, (rA.go b_V).alloc _⟩) ?_
    simp only [Act.put, arr9, hd9, tl9]
    have bx : Below Y3.heap.size Y3 (Y3.alloc (.cells #[.slice Ao E.length co, .slice An nb.length cn] 23)) := Below.alloc (Below.refl _ _) (Nat.le_refl _) _
    have rP : Row (Y3.alloc (.cells #[.slice Ao E.length co, .slice An nb.length cn] 23)) Y3.heap.size 23 [.slice Ao E.length co, .slice An nb.length cn] := Row.new_ rfl rfl
    have z_rP := asz Y3 (.cells #[.slice Ao E.length co, .slice An nb.length cn] 23)
    generalize Y3.alloc (.cells #[.slice Ao E.length co, .slice An nb.length cn] 23) = Y4 at *
    replace b_V := Below.chain b_V bx
    replace b_Y1 := Below.chain b_Y1 bx
    replace b_Y2 := Below.chain b_Y2 bx
    have b_Y3 := bx
    have m_Y4 : Y3.heap.size ≤ Y4.heap.size := bx.size
    clear bx
    refine held_one 15 (by kernel_rfl) ?_
    refine step_call 15 _ _ (some 42) 55 #[.slice (some ⟨Y3.heap.size, 0, none⟩) 2 2] (by rfl) (by kernel_rfl) (by first | kernel_rfl | go_simp) ?_
    refine (show Calls Tryz.prog 55 #[.slice (some ⟨Y3.heap.size, 0, none⟩) 2 2] Y4 (OwnIs Y4 E2) by have h := refJoin_any Y4.heap.size Y4.heap.size _ [E, nb] Y4 (PartsO.two (n := 2) rP.lt (Nat.ne_of_lt rP.lt) rP ((sE.go b_V)) (((sE.go b_V)).off (Nat.le_refl _)) ((sN.go b_Y3)) (((sN.go b_Y3)).off (Nat.le_refl _))) (Nat.le_refl _) (by rw [two_flat, ← HE.out.1]; have := HE.out.2.2; omega) (by simp); rw [two_flat, ← HE.out.1] at h; exact h).mono ?_
    rintro e Y5 ⟨v, rfl, gv⟩
    have bx : Below Y4.heap.size Y4 Y5 := gv.2
    obtain ⟨Aj, cj, vEq⟩ := own_form gv.1
    subst vEq
    have sJ : Sl Y5 Y5.heap.size (.slice Aj E2.length cj) E2 := gives_sl gv
    clear gv
    replace b_V := Below.chain b_V bx
    replace b_Y1 := Below.chain b_Y1 bx
    replace b_Y2 := Below.chain b_Y2 bx
    replace b_Y3 := Below.chain b_Y3 bx
    have b_Y4 := bx
    have m_Y5 : Y4.heap.size ≤ Y5.heap.size := bx.size
    clear bx
    refine ⟨_, rfl, ⟨(rX.go b_V), (rA.go b_V)⟩, ?_⟩
    simp only [Act.put, arr9, hd9, tl9]
    refine hdv0 16 11 (.slice Aj E2.length cj) (by rfl) (⟨(rX.go b_V), (rA.go b_V)⟩) ?_
    refine wpAnyH_done (by kernel_rfl) ?_ _
    have H9 : Shh (Row Y5 w.heap.size 27 [.int .u32 xc, .bool xs, .int .i64 xn, .int .i64 xh, .int .i64 (Lx : Int)] ∧ Row Y5 (w.heap.size + 1) 64 L ∧ Sl Y5 Y5.heap.size (.slice Ak sk.length ck) sk ∧ Sl Y5 Y5.heap.size (.slice As seed.length cs) seed ∧ SI Y5 Y5.heap.size (.slice Ad dl.length cd) dl ∧ Below w.heap.size w Y5) := ⟨(rX.go b_V), (rA.go b_V), (sK.go b_V), (sS.go b_V), (sD.go b_V), Below.chain HBV b_V⟩
    have H10 : Shh (Sl Y5 Y5.heap.size (.slice Aj E2.length cj) (endsB xs xn sk seed a (dOf dl) (k + 1))) := ⟨by rw [← HE2.out]; exact sJ⟩
    clear m_Y5 b_Y4 sJ m_Y4 b_Y3 z_rP rP m_Y3 b_Y2 sN m_Y2 b_Y1 m_Y1 b_V sB bv HBV rX rA sK sS sD sE
    clear HC HE HE2
    go_wp2
    go_roundw
    case rel => exact ⟨k + 1, by omega, by go_num, H9, H10⟩
    case measure => simp [intOf]; omega
   ·have h0 : (0 : Int) < (dl.length : Int) := by omega
    obtain ⟨gd, hAd, hgd, hgd2, hcd⟩ := HL.out.2.2.2.2.1.at_ (by omega)
    subst hAd
    have hck := hcd k (by omega)
    have hdl2 : dl[k]'(by omega) = dk := by rw [hdk]; exact (dOf_get (by omega)).symm
    rw [hdl2] at hck
    have hkd : (k : Int) < (dl.length : Int) := by omega
    clear hdk hdl2 hcd
    go_wp2_with fail
    refine wp_region_held_drew (S := fun w' => Row w' w.heap.size 27 [.int .u32 xc, .bool xs, .int .i64 xn, .int .i64 xh, .int .i64 (Lx : Int)] ∧ Row w' (w.heap.size + 1) 64 L) (by kernel_rfl) ⟨HL.out.1.drew, HL.out.2.1.drew⟩ (fun hS => ?_)
    clear hS
    obtain ⟨V, hV⟩ : ∃ V, V = World.drew wr := ⟨_, rfl⟩
    rw [← hV]
    have rX : Row V w.heap.size 27 [.int .u32 xc, .bool xs, .int .i64 xn, .int .i64 xh, .int .i64 (Lx : Int)] := by rw [hV]; exact HL.out.1.drew
    have rA : Row V (w.heap.size + 1) 64 L := by rw [hV]; exact HL.out.2.1.drew
    have sK : Sl V V.heap.size (.slice Ak sk.length ck) sk := by rw [hV]; exact HL.out.2.2.1.drew
    have sS : Sl V V.heap.size (.slice As seed.length cs) seed := by rw [hV]; exact HL.out.2.2.2.1.drew
    have sD : SI V V.heap.size (.slice (some ⟨gd, 0, none⟩) dl.length cd) dl := by rw [hV]; exact HL.out.2.2.2.2.1
    have sE : Sl V V.heap.size (.slice Ao E.length co) E := by rw [hV]; exact HO.out.drew
    have HBV : Below w.heap.size w V := by rw [hV]; exact HL.out.2.2.2.2.2.drew
    clear hV HL HO
    refine hdv0 0 27 (.slice Ao E.length co) (by rfl) (⟨rX, rA⟩) ?_
    refine hdv0 3 30 (.slice Ak sk.length ck) (by rfl) (⟨rX, rA⟩) ?_
    refine hdv0 4 31 (.slice As seed.length cs) (by rfl) (⟨rX, rA⟩) ?_
    refine hdv0 6 33 (.int .i64 (k : Int)) (by rfl) (⟨rX, rA⟩) ?_
    refine hdv0 8 35 (.int .i64 (dk : Int)) (by rfl) (⟨rX, rA⟩) ?_
    refine hdv0 9 36 (.slice As seed.length cs) (by rfl) (⟨rX, rA⟩) ?_
    refine hdv0 11 38 (.int .i64 (k : Int)) (by rfl) (⟨rX, rA⟩) ?_
    refine held_load 1 27 (.tmp 5) (some 28) (by kernel_rfl) (by rfl) (by kernel_rfl) w.heap.size 0 (by kernel_rfl) ([.int .u32 xc, .bool xs, .int .i64 xn, .int .i64 xh, .int .i64 (Lx : Int)]) _ (fun w h => h.1.range) Tryz.underlying27 rfl (info_xms) (fun _ _ _ _ h => h) (⟨rX, rA⟩) ?_
    simp only [Act.put, arr9, hd9, tl9]
    refine held_load 2 27 (.tmp 5) (some 29) (by kernel_rfl) (by rfl) (by kernel_rfl) w.heap.size 0 (by kernel_rfl) ([.int .u32 xc, .bool xs, .int .i64 xn, .int .i64 xh, .int .i64 (Lx : Int)]) _ (fun w h => h.1.range) Tryz.underlying27 rfl (info_xms) (fun _ _ _ _ h => h) (⟨rX, rA⟩) ?_
    simp only [Act.put, arr9, hd9, tl9]
    refine held_load 5 64 (.tmp 8) (some 32) (by kernel_rfl) (by rfl) (by kernel_rfl) (w.heap.size + 1) 0 (by kernel_rfl) (L) _ (fun w h => h.2.range) Tryz.underlying64 rfl (info_adr10 HA.out) (fun _ _ _ _ h => h) (⟨rX, rA⟩) ?_
    simp only [Act.put, arr9, hd9, tl9]
    refine held_load 10 64 (.tmp 8) (some 37) (by kernel_rfl) (by rfl) (by kernel_rfl) (w.heap.size + 1) 0 (by kernel_rfl) (L) _ (fun w h => h.2.range) Tryz.underlying64 rfl (info_adr10 HA.out) (fun _ _ _ _ h => h) (⟨rX, rA⟩) ?_
    simp only [Act.put, arr9, hd9, tl9]
    refine held_one 7 (by kernel_rfl) ?_
    refine step_call 7 _ _ (some 34) 90 #[.agg ([.int .u32 xc, .bool xs, .int .i64 xn, .int .i64 xh, .int .i64 (Lx : Int)]).toArray, .slice Ak sk.length ck, .slice As seed.length cs, .agg (L).toArray, .int .i64 (k : Int)] (by rfl) (by kernel_rfl) (by first | kernel_rfl | go_simp) ?_
    refine (HC.out.1 V (sK) (sS)).mono ?_
    rintro e Y1 ⟨v, rfl, gv, bv⟩
    have bx : Below V.heap.size V Y1 := bv
    obtain ⟨Ab, cb, vEq, _, _⟩ := gv.form
    subst vEq
    have sB := gv
    clear gv
    have b_V := bx
    have m_Y1 : V.heap.size ≤ Y1.heap.size := bx.size
    clear bx
    refine ⟨_, rfl, ⟨(rX.go b_V), (rA.go b_V)⟩, ?_⟩
    simp only [Act.put, arr9, hd9, tl9]
    refine held_one 12 (by kernel_rfl) ?_
    refine step_call 12 _ _ (some 39) 91 #[.agg (L).toArray, .int .i64 (k : Int)] (by rfl) (by kernel_rfl) (by first | kernel_rfl | go_simp) ?_
    refine (HC.out.2.1 Y1).mono ?_
    rintro e Y2 ⟨rfl, b0⟩
    have bx : Below Y1.heap.size Y1 Y2 := b0
    clear b0
    replace b_V := Below.chain b_V bx
    have b_Y1 := bx
    have m_Y2 : Y1.heap.size ≤ Y2.heap.size := bx.size
    clear bx
    refine ⟨_, rfl, ⟨(rX.go b_V), (rA.go b_V)⟩, ?_⟩
    simp only [Act.put, arr9, hd9, tl9]
    refine held_one 13 (by kernel_rfl) ?_
    refine step_call 13 _ _ (some 40) 89 #[.agg ([.int .u32 xc, .bool xs, .int .i64 xn, .int .i64 xh, .int .i64 (Lx : Int)]).toArray, .slice Ab bb.length cb, .int .i64 0, .int .i64 (dk : Int), .slice As seed.length cs, .agg L2.toArray] (by rfl) (by kernel_rfl) (by first | kernel_rfl | go_simp) ?_
    refine (HC.out.2.2 Y2 _ ((sB.go b_Y1)) ((sS.go b_V))).mono ?_
    rintro e Y3 ⟨v, rfl, gv, bv⟩
    have bx : Below Y2.heap.size Y2 Y3 := bv
    obtain ⟨An, cn, vEq, _, _⟩ := gv.form
    subst vEq
    have sN := gv
    clear gv
    replace b_V := Below.chain b_V bx
    replace b_Y1 := Below.chain b_Y1 bx
    have b_Y2 := bx
    have m_Y3 : Y2.heap.size ≤ Y3.heap.size := bx.size
    clear bx
    refine ⟨_, rfl, ⟨(rX.go b_V), (rA.go b_V)⟩, ?_⟩
    simp only [Act.put, arr9, hd9, tl9]
    refine held_one 14 (by kernel_rfl) ?_
    refine step_value 14 _ _ (some 41) (.slice (some ⟨Y3.heap.size, 0, none⟩) 2 2) (Y3.alloc (.cells #[.slice Ao E.length co, .slice An nb.length cn] 23)) (by rfl) (by kernel_rfl) (by first | kernel_rfl | go_simp) (⟨(rX.go b_V).alloc _, (rA.go b_V).alloc _⟩) ?_
    simp only [Act.put, arr9, hd9, tl9]
    have bx : Below Y3.heap.size Y3 (Y3.alloc (.cells #[.slice Ao E.length co, .slice An nb.length cn] 23)) := Below.alloc (Below.refl _ _) (Nat.le_refl _) _
    have rP : Row (Y3.alloc (.cells #[.slice Ao E.length co, .slice An nb.length cn] 23)) Y3.heap.size 23 [.slice Ao E.length co, .slice An nb.length cn] := Row.new_ rfl rfl
    have z_rP := asz Y3 (.cells #[.slice Ao E.length co, .slice An nb.length cn] 23)
    generalize Y3.alloc (.cells #[.slice Ao E.length co, .slice An nb.length cn] 23) = Y4 at *
    replace b_V := Below.chain b_V bx
    replace b_Y1 := Below.chain b_Y1 bx
    replace b_Y2 := Below.chain b_Y2 bx
    have b_Y3 := bx
    have m_Y4 : Y3.heap.size ≤ Y4.heap.size := bx.size
    clear bx
    refine held_one 15 (by kernel_rfl) ?_
    refine step_call 15 _ _ (some 42) 55 #[.slice (some ⟨Y3.heap.size, 0, none⟩) 2 2] (by rfl) (by kernel_rfl) (by first | kernel_rfl | go_simp) ?_
    refine (show Calls Tryz.prog 55 #[.slice (some ⟨Y3.heap.size, 0, none⟩) 2 2] Y4 (OwnIs Y4 E2) by have h := refJoin_any Y4.heap.size Y4.heap.size _ [E, nb] Y4 (PartsO.two (n := 2) rP.lt (Nat.ne_of_lt rP.lt) rP ((sE.go b_V)) (((sE.go b_V)).off (Nat.le_refl _)) ((sN.go b_Y3)) (((sN.go b_Y3)).off (Nat.le_refl _))) (Nat.le_refl _) (by rw [two_flat, ← HE.out.1]; have := HE.out.2.2; omega) (by simp); rw [two_flat, ← HE.out.1] at h; exact h).mono ?_
    rintro e Y5 ⟨v, rfl, gv⟩
    have bx : Below Y4.heap.size Y4 Y5 := gv.2
    obtain ⟨Aj, cj, vEq⟩ := own_form gv.1
    subst vEq
    have sJ : Sl Y5 Y5.heap.size (.slice Aj E2.length cj) E2 := gives_sl gv
    clear gv
    replace b_V := Below.chain b_V bx
    replace b_Y1 := Below.chain b_Y1 bx
    replace b_Y2 := Below.chain b_Y2 bx
    replace b_Y3 := Below.chain b_Y3 bx
    have b_Y4 := bx
    have m_Y5 : Y4.heap.size ≤ Y5.heap.size := bx.size
    clear bx
    refine ⟨_, rfl, ⟨(rX.go b_V), (rA.go b_V)⟩, ?_⟩
    simp only [Act.put, arr9, hd9, tl9]
    refine hdv0 16 11 (.slice Aj E2.length cj) (by rfl) (⟨(rX.go b_V), (rA.go b_V)⟩) ?_
    refine wpAnyH_done (by kernel_rfl) ?_ _
    have H9 : Shh (Row Y5 w.heap.size 27 [.int .u32 xc, .bool xs, .int .i64 xn, .int .i64 xh, .int .i64 (Lx : Int)] ∧ Row Y5 (w.heap.size + 1) 64 L ∧ Sl Y5 Y5.heap.size (.slice Ak sk.length ck) sk ∧ Sl Y5 Y5.heap.size (.slice As seed.length cs) seed ∧ SI Y5 Y5.heap.size (.slice (some ⟨gd, 0, none⟩) dl.length cd) dl ∧ Below w.heap.size w Y5) := ⟨(rX.go b_V), (rA.go b_V), (sK.go b_V), (sS.go b_V), (sD.go b_V), Below.chain HBV b_V⟩
    have H10 : Shh (Sl Y5 Y5.heap.size (.slice Aj E2.length cj) (endsB xs xn sk seed a (dOf dl) (k + 1))) := ⟨by rw [← HE2.out]; exact sJ⟩
    clear m_Y5 b_Y4 sJ m_Y4 b_Y3 z_rP rP m_Y3 b_Y2 sN m_Y2 b_Y1 m_Y1 b_V sB bv HBV rX rA sK sS sD sE
    clear HC HE HE2
    go_wp2
    go_roundw
    case rel => exact ⟨k + 1, by omega, by go_num, H9, H10⟩
    case measure => simp [intOf]; omega
  ·obtain rfl : k = Lx := by omega
   have HR : Shh (Sl wr wr.heap.size (.slice Ao (endsB xs xn sk seed a (dOf dl) k).length co) (endsB xs xn sk seed a (dOf dl) k) ∧ Below w.heap.size w wr) := ⟨HO.out, HL.out.2.2.2.2.2⟩
   clear HL HO HLN HKY
   go_wp2
   go_ret
   exact ⟨_, rfl, HR.out⟩
end Go.Proofs.YtdakbipiifkmfaaGreatDoor

/-
 WALKS: the document's own On.
-/
namespace Go.Proofs.YtdakbipiifkmfaaGreatDoor
open Go.RowKit
set_option maxRecDepth 100000
theorem slice_mid10 {w : World} {B n c : Nat} {A : Option Addr} {bs : List UInt8} (h : Sl w B (.slice A n c) bs) (i j : Nat) (hij : i ≤ j) (hj : j ≤ n) (hn : n ≤ c) :
  ∃ A' c', (∀ u, (Instr.sliceAt 23 (.slice A n c) (some (.int .i64 (i : Int))) (some (.int .i64 (j : Int))) none).run Tryz.prog u = .ok (.slice A' ((bs.take j).drop i).length c') u) ∧ Sl w B (.slice A' ((bs.take j).drop i).length c') ((bs.take j).drop i) := by
 have hcut := h.cut i j hij hj (by omega)
 obtain ⟨A', c', hv, _⟩ := hcut.form
 refine ⟨A', c', fun u => ?_, by rw [← hv]; exact hcut⟩
 rw [run_sliceAt_slice _ _ _ _ _ _ slice30, run_slice_lh u 23 A n c slice30 .i64 .i64 (i : Int) (j : Int) (by omega) (by omega) (by omega), elem30, run_sizeOf_u8, Result.andThen_ok, Int.toNat_natCast, Int.toNat_natCast, hv]
/-- the i-th piece of a signature -/
def pieceB (n : Nat) (sig : List UInt8) (i : Nat) : List UInt8 := (sig.take ((i + 1) * n)).drop (i * n)
theorem pieceB_length (n : Nat) (sig : List UInt8) (i L : Nat) (h : sig.length = L * n) (hi : i < L) : (pieceB n sig i).length = n := by
 unfold pieceB
 have h1 : (i + 1) * n ≤ L * n := Nat.mul_le_mul_right _ (by omega)
 rw [List.length_drop, List.length_take, h, Nat.min_eq_left h1, Nat.succ_mul]
 omega
/-- a digit in memory -/
def DigC (w : World) (g k d : Nat) : Prop := g < w.heap.size ∧ w.cell? ⟨g, k, none⟩ = some (.int .i64 (d : Int))
theorem DigC.go {w w' : World} {g k d : Nat} (h : DigC w g k d) (b : Below w.heap.size w w') : DigC w' g k d := ⟨Nat.lt_of_lt_of_le h.1 b.size, (b.cell (p := ⟨g, k, none⟩) h.1).trans h.2⟩
end Go.Proofs.YtdakbipiifkmfaaGreatDoor

/-
 WALKS: the document's own AskDigits, Public, FromSig.
-/
namespace Go.Proofs.YtdakbipiifkmfaaGreatDoor
open Go.RowKit
set_option maxRecDepth 100000
/-- bytes and an error are handed back -/
def ResIs (w : World) (er : Int) (bs : List UInt8) (e : Ending) (w' : World) : Prop := ∃ v, e = .returned (.tuple #[v, .int .i64 er]) ∧ Sl w' w'.heap.size v bs ∧ Below w.heap.size w w'
theorem SI.nil_ {w : World} {B : Nat} : SI w B (.slice none 0 0) [] := ⟨none, 0, rfl, Nat.le_refl _, by unfold maxLen; omega, .inl ⟨rfl, rfl⟩⟩
theorem badE_ok {x : S5} {bss : List (List UInt8)} (h : badE x bss = 0) : x.ok = true ∧ ∀ b ∈ bss, (b.length : Int) = x.n := by
 unfold badE at h
 split at h
 ·rename_i hx
  refine ⟨hx, ?_⟩
  split at h
  ·rename_i hall
   intro b hb
   exact of_decide_eq_true (List.all_eq_true.1 hall b hb)
  ·exact absurd h (by decide)
 ·exact absurd h (by decide)
end Go.Proofs.YtdakbipiifkmfaaGreatDoor

/-
 WALKS: the document's own Public, FromSig.
-/
namespace Go.Proofs.YtdakbipiifkmfaaGreatDoor
open Go.RowKit
set_option maxRecDepth 100000
/-- the public key, if it may be asked -/
def pubB (x : S5) (sk seed : List UInt8) (a : List UInt32) : List UInt8 := if badE x [sk, seed] = 0 then endsB x.s x.n sk seed a (dOf []) x.l.toNat else []
end Go.Proofs.YtdakbipiifkmfaaGreatDoor
