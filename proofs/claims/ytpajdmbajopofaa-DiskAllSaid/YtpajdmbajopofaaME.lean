/-
 FOUNDATIONS, merged: see the heads of the parts.
-/
import Derived.Test.YtpajdmbajopofaaMC
import Derived.StillTailTactics
import Derived.Test.YtpajdmbajopofaaMD
/-
 WALKS: the document's own word, constants.
-/
namespace Go.Proofs.Ytpajdmbajopofaa
open Go.RowKit
set_option maxRecDepth 100000

def WordOk (w : World) (x : UInt32) (e : Ending) (w' : World) : Prop := e = .returned (.int .u32 (x.toNat : Int)) ∧ Below w.heap.size w w'
theorem cell_alloc_keep {w : World} {b o : Nat} {v : Value} {ob : Obj} (h : w.cell? ⟨b, o, none⟩ = some v) (hb : b < w.heap.size) : (w.alloc ob).cell? ⟨b, o, none⟩ = some v :=
 ((Below.alloc (Below.refl _ _) (Nat.le_refl _) ob).cell (p := ⟨b, o, none⟩) hb).trans h

end Go.Proofs.Ytpajdmbajopofaa

/-
 WALK: the document's own Compress, its first half: the schedule.
-/
namespace Go.Proofs.Ytpajdmbajopofaa
open Go.RowKit
set_option maxRecDepth 100000

theorem sm1_bits (y : UInt32) : bits .xor .u32 (bits .xor .u32 ((rotr y 17).toNat : Int) ((rotr y 19).toNat : Int)) ((y.toNat : Int) / 1024) = ((sm1 y).toNat : Int) := by
 have h := u32_shr y 10
 simp only [Int.reducePow] at h
 rw [h, u32_xor, u32_xor]
 rfl
theorem sm0_bits (y : UInt32) : bits .xor .u32 (bits .xor .u32 ((rotr y 7).toNat : Int) ((rotr y 18).toNat : Int)) ((y.toNat : Int) / 8) = ((sm0 y).toNat : Int) := by
 have h := u32_shr y 3
 simp only [Int.reducePow] at h
 rw [h, u32_xor, u32_xor]
 rfl

theorem addSt_comm (s v : St) : addSt s v = addSt v s := by simp [addSt, UInt32.add_comm]
end Go.Proofs.Ytpajdmbajopofaa

/-
 WALK: the document's own Join, parts wherever they lie.
-/
namespace Go.Proofs.Ytpajdmbajopofaa
open Go.RowKit
set_option maxRecDepth 100000

/-- bytes of its own are handed back -/
def OwnIs (w : World) (bs : List UInt8) (e : Ending) (w' : World) : Prop := ∃ v, e = .returned v ∧ Gives w bs v w'

set_option maxHeartbeats 1000000 in
theorem refJoin_any (B g : Nat) (v : Value) (bss : List (List UInt8)) (w : World) (hp : PartsO w B g v bss) (hB : B ≤ w.heap.size) (hl : bss.flatten.length ≤ 1099511627776) (hn : bss.length ≤ 1000000) :
  Calls Try.prog 21 #[v] w (OwnIs w bss.flatten) := by
 obtain ⟨i0, hi, hz0, hz1, hz2⟩ := info_parts info_u8
 obtain ⟨A, c, rfl⟩ := hp.form
 go_enter Try.func21, Try.ntmps21
 go_wp2
 go_loopw [3, 5, 9] (fun o _ i wr => ∃ k : Nat, k ≤ bss.length ∧ i = .int .i64 k ∧ wr.ownsRow w.heap.size 5 1 o (bss.take k).flatten.length (Lib.byteCells (bss.take k).flatten) ∧ Below w.heap.size w wr) (fun _ _ i _ => bss.length - (intOf i).toNat)
 case atStart =>
  exact ⟨0, Nat.zero_le _, rfl, World.ownsRow_made w #[] 0 (Nat.le_refl _) (Nat.zero_le _) rfl, (Below.refl _ _).alloc (Nat.le_refl _) _⟩
 case round =>
  obtain ⟨k, hk, rfl, hown, hbel⟩ := hrel
  have hsz := hbel.size
  by_cases hlt : k < bss.length
  ·have hpr := hp.below (hbel.mono hB)
   obtain ⟨q, off, rfl, hq, hqg, hcc⟩ := hpr.at_ (by omega)
   obtain ⟨u, hu, hs, ho⟩ := hcc k hlt
   have hfs := flat_snoc bss k hlt
   have hfl := flat_le bss (k + 1)
   rw [hfs, List.length_append] at hfl
   have HF := Lib.hid hfs
   clear hfs hpr hcc
   generalize bss[k] = cs at *
   generalize (bss.take k).flatten = f0 at *
   go_wp2_with (at_builtin; refine wp_appendSl _ 33 5 i0 Try.underlying33 hi hz0 hz1 hz2 rfl _ _ rfl hown hs rfl rfl (by omega) hsz ?_)
   intro v' w1 hown1 _ hb1
   rw [← HF.out] at hown1
   have HO := Lib.hid (own_len hown1 (show f0.length + cs.length = (bss.take (k + 1)).flatten.length by rw [HF.out, List.length_append]))
   clear hown1
   go_wp2
   go_roundw
   case rel => exact ⟨k + 1, by omega, by go_num, HO.out, hbel.trans (hb1 _ (Nat.le_refl _))⟩
   case measure => simp [intOf]; omega
  ·obtain rfl : k = bss.length := by omega
   rw [List.take_of_length_le (Nat.le_refl _)] at hown
   have HO := Lib.hid hown
   clear hown
   go_wp2
   go_ret
   exact ⟨_, rfl, HO.out, hbel⟩
end Go.Proofs.Ytpajdmbajopofaa

/-
 WALK: the document's own Sum256.
-/
namespace Go.Proofs.Ytpajdmbajopofaa
open Go.RowKit
set_option maxRecDepth 100000

theorem two_flat (a b : List UInt8) : [a, b].flatten = a ++ b := by simp
theorem zeros_lt (n k : Nat) (h : k < zerosOf n) : ¬ (n + 1 + k) % 64 = 56 := by unfold zerosOf at h; omega
theorem zeros_eq (n : Nat) : (n + 1 + zerosOf n) % 64 = 56 := by unfold zerosOf; omega
theorem zeros_le (n : Nat) : zerosOf n ≤ 63 := by unfold zerosOf; omega
theorem padB_eq (m : List UInt8) : m ++ [128] ++ List.replicate (zerosOf m.length) 0 ++ bigB (8 * m.length) 8 = padB m := by simp [padB]
theorem padB_len (m : List UInt8) : (padB m).length ≤ m.length + 72 := by
 have := zeros_le m.length
 simp only [padB, List.length_append, List.length_cons, List.length_replicate, bigB_length]
 omega
theorem outB_snoc (s : St) (k : Nat) (h : k < s.list.length) : (outB s).take (4 * (k + 1)) = (outB s).take (4 * k) ++ bigB ((s.list[k]'h).toNat) 4 := by
 have e : ∀ (l : List UInt32) k (h : k < l.length), (l.flatMap fun x => bigB x.toNat 4).take (4 * (k + 1)) = (l.flatMap fun x => bigB x.toNat 4).take (4 * k) ++ bigB (l[k]'h).toNat 4 := by
  intro l
  induction l with
  | nil => intro k h; simp at h
  | cons x r ih =>
   intro k h
   rw [List.flatMap_cons]
   cases k with
   | zero =>
    rw [Nat.mul_zero, List.take_zero, List.nil_append, List.take_append_of_le_length (by rw [bigB_length]; omega), List.take_of_length_le (by rw [bigB_length]; omega)]
    rfl
   | succ k =>
    rw [List.take_append, List.take_append, bigB_length, List.take_of_length_le (l := bigB x.toNat 4) (by rw [bigB_length]; omega), List.take_of_length_le (l := bigB x.toNat 4) (by rw [bigB_length]; omega), show 4 * (k + 1 + 1) - 4 = 4 * (k + 1) by omega, show 4 * (k + 1) - 4 = 4 * k by omega, ih k (by simpa using h), List.append_assoc]
    rfl
 exact e s.list k h

theorem own_mono {w : World} {base base' e n : Nat} {v : Value} {xs : List Value} (h : w.ownsRow base' e 1 v n xs) (hb : base ≤ base') : w.ownsRow base e 1 v n xs := by
 refine ⟨h.1, ?_⟩
 rcases h.2 with h0 | ⟨g, cap, cur, h1, h2, h3⟩
 ·exact .inl h0
 ·exact .inr ⟨g, cap, cur, h1, Nat.le_trans hb h2, h3⟩
theorem blockAt_length (m : List UInt8) (n : Nat) (h : 64 * n + 64 ≤ m.length) : (blockAt m n).length = 64 := by
 simp [blockAt]; omega
theorem blockAt_get (m : List UInt8) (n k : Nat) (h : 64 * n + 64 ≤ m.length) (hk : k < 64) : (blockAt m n)[k]'(by rw [blockAt_length m n h]; exact hk) = m[64 * n + k]'(by omega) := by
 simp [blockAt]

end Go.Proofs.Ytpajdmbajopofaa

/-
 WALKS: the document's own turned, Mac.
-/
namespace Go.Proofs.Ytpajdmbajopofaa
open Go.RowKit
set_option maxRecDepth 100000

end Go.Proofs.Ytpajdmbajopofaa

/-
 WALKS: the document's own Expand, Ask; sha2.Extract; sha2.Expand's errors.
-/
namespace Go.Proofs.Ytpajdmbajopofaa
open Go.RowKit
set_option maxRecDepth 100000

/-- bytes are handed back, wherever they lie -/
def BytesIs (w : World) (bs : List UInt8) (e : Ending) (w' : World) : Prop := ∃ v, e = .returned v ∧ Sl w' w'.heap.size v bs ∧ Below w.heap.size w w'
theorem three_flat (a b c : List UInt8) : [a, b, c].flatten = a ++ b ++ c := by simp
theorem run_cutE (A : Option Addr) (n c j : Nat) (hj : j ≤ c) (w : World) : (Instr.sliceAt 33 (.slice A n c) none (some (.int .i64 (j : Int))) none).run Try.prog w = .ok (sliced A 0 j c 1) w := by
 rw [run_sliceAt_slice _ _ _ _ _ _ slice30, run_slice_h w 33 A n c slice30 .i64 (j : Int) (by omega) (by omega), elem30, run_sizeOf_u8, Result.andThen_ok, Int.toNat_natCast]
theorem tB_le (prk info : List UInt8) (j : Nat) : (tB prk info j).length ≤ 32 := by
 cases j with
 | zero => simp [tB]
 | succ j => rw [tB_length]; omega

end Go.Proofs.Ytpajdmbajopofaa
