/-
  THE WALK of liverylaw01.OctetNumbers, out of the contracts of all that it calls.
-/
import Derived.Test.YtijkhpiehaocpaaLive
namespace Go.Proofs.Ytijkhpiehaocpaa
open Go.RowKit

theorem big_any (n : Nat) (m : Int) (w : World) : Calls Try.prog 9 #[.int .u64 n, .int .i64 m] w (PutIs w (putErr n m) (putB n m)) := by
  unfold putB putErr
  by_cases h1 : m < 1 ∨ 8 < m
  · rw [if_pos h1]
    exact (big_arg n m w h1).mono fun e w' hx => ⟨_, hx.1, by rw [← hx.2]; exact gives_nil w⟩
  · obtain ⟨k, rfl⟩ := Int.eq_ofNat_of_zero_le (show 0 ≤ m by omega)
    rw [if_neg h1, Int.toNat_natCast]
    by_cases h2 : 256 ^ k ≤ n
    · rw [if_pos h2]
      exact (big_long n k w (by omega) (by omega) h2).mono fun e w' hx => ⟨_, hx.1, by rw [← hx.2]; exact gives_nil w⟩
    · rw [if_neg h2, if_pos rfl]
      exact big_ok n k w (by omega) (by omega) (by omega)
theorem little_any (n : Nat) (m : Int) (w : World) : Calls Try.prog 10 #[.int .u64 n, .int .i64 m] w (PutIs w (putErr n m) (putB n m).reverse) := by
  unfold putB putErr
  by_cases h1 : m < 1 ∨ 8 < m
  · rw [if_pos h1]
    exact (little_arg n m w h1).mono fun e w' hx => ⟨_, hx.1, by rw [← hx.2]; exact gives_nil w⟩
  · obtain ⟨k, rfl⟩ := Int.eq_ofNat_of_zero_le (show 0 ≤ m by omega)
    rw [if_neg h1, Int.toNat_natCast]
    by_cases h2 : 256 ^ k ≤ n
    · rw [if_pos h2]
      exact (little_long n k w (by omega) (by omega) h2).mono fun e w' hx => ⟨_, hx.1, by rw [← hx.2]; exact gives_nil w⟩
    · rw [if_neg h2, if_pos rfl]
      have h := little_ok n k w (by omega) (by omega) (by omega)
      have e : (bigB n k).reverse = litB n k := by unfold bigB; rw [List.reverse_reverse]
      rw [e]
      exact h
theorem put_any (n : Nat) (m : Int) (w : World) (hn : n < 18446744073709551616) : Calls Try.prog 11 #[.int .u64 n, .int .i64 m] w (PutIs w (putErr n m) (putB n m)) :=
  refPut_any n m w hn

theorem litB_mod (n k : Nat) : litB (n % 256 ^ k) k = litB n k := by
  have h : (litB n k).length = k := litB_length n k
  rw [← litN_litB]
  conv => lhs; rw [← h, litN_litB, h]
  have := litB_litN (litB n k)
  rw [litN_litB, h] at this
  exact this
/-- A slice of bytes is handed back, in memory of its own. -/
def OwnIs (w : World) (bs : List UInt8) (e : Ending) (w' : World) : Prop := ∃ v, e = .returned v ∧ Gives w bs v w'
theorem u16_mod (n : Nat) (w : World) : Calls Try.prog 18 #[.int .u16 ((n : Int) % 65536)] w (OwnIs w (bigB n 2)) := by
  have h := u16_any (n % 65536) w (by omega)
  have e : bigB (n % 65536) 2 = bigB n 2 := by unfold bigB; rw [show 65536 = 256 ^ 2 by decide, litB_mod]
  rw [e] at h
  have e2 : ((n : Int) % 65536) = ((n % 65536 : Nat) : Int) := by omega
  rw [e2]
  exact h
theorem u32_mod (n : Nat) (w : World) : Calls Try.prog 20 #[.int .u32 ((n : Int) % 4294967296)] w (OwnIs w (bigB n 4)) := by
  have h := u32_any (n % 4294967296) w (by omega)
  have e : bigB (n % 4294967296) 4 = bigB n 4 := by unfold bigB; rw [show 4294967296 = 256 ^ 4 by decide, litB_mod]
  rw [e] at h
  have e2 : ((n : Int) % 4294967296) = ((n % 4294967296 : Nat) : Int) := by omega
  rw [e2]
  exact h
theorem u64_mod (n : Nat) (w : World) : Calls Try.prog 21 #[.int .u64 n] w (OwnIs w (bigB n 8)) := u64_any n w
theorem rbig (n k : Nat) (w : World) (hk : k ≤ 8) (hn : n < 18446744073709551616) : Calls Try.prog 19 #[.int .u64 n, .int .i64 k] w (OwnIs w (bigB n k)) := refBig_any n k w hk hn
theorem turned (B : Nat) (v : Value) (bs : List UInt8) (w : World) (hs : Sl w B v bs) (hB : B ≤ w.heap.size) (hl : bs.length ≤ 140737488355328) :
    Calls Try.prog 15 #[v] w (OwnIs w bs.reverse) := refTurned_any B v bs w hs hB hl
theorem Sl.step {w w' : World} {v : Value} {bs : List UInt8} (h : Sl w w.heap.size v bs) (hb : Below w.heap.size w w') : Sl w' w'.heap.size v bs := (h.below hb).more hb.size
theorem gives_sl {w w' : World} {v : Value} {bs : List UInt8} (h : Gives w bs v w') : Sl w' w'.heap.size v bs := Sl.of_own h.1
theorem Below.chain {a b c : World} (h : Below a.heap.size a b) (k : Below b.heap.size b c) : Below a.heap.size a c := h.trans (k.mono h.size)
theorem putB_length (n : Nat) (m : Int) : (putB n m).length ≤ 8 := by
  unfold putB
  by_cases h : putErr n m = 0
  · rw [if_pos h, bigB_length]
    unfold putErr at h
    by_cases h1 : m < 1 ∨ 8 < m
    · rw [if_pos h1] at h; cases h
    · omega
  · rw [if_neg h]; simp

set_option maxHeartbeats 4000000 in
set_option maxRecDepth 100000 in
theorem numbers_walk (n : Nat) (m : Int) (vb : Value) (bs : List UInt8) (w : World) (hn : n < 18446744073709551616) (hs : Sl w w.heap.size vb bs) (hl : bs.length ≤ 140737488355328) :
    Calls Try.prog 3 #[.int .u64 n, .int .i64 m, vb] w (TrueIs w) := by
  have hpl := putB_length n m
  go_enter Try.func3, Try.ntmps3
  go_wp2_with (go_at_call 9; refine (big_any n m _).mono ?_)
  rintro e w1 ⟨v1, rfl, g1⟩
  go_wp2_with (go_at_call 10; refine (little_any n m _).mono ?_)
  rintro e w2 ⟨v2, rfl, g2⟩
  go_wp2_with (go_at_call 11; refine (put_any n m _ hn).mono ?_)
  rintro e w3 ⟨v3, rfl, g3⟩
  have b12 := Below.chain g1.2 g2.2
  have b13 := Below.chain b12 g3.2
  have hs3 := hs.step b13
  have x3 := ((gives_sl g1).step g2.2).step g3.2
  have y3 := (gives_sl g2).step g3.2
  have z3 := gives_sl g3
  clear g1 g2 g3 b12 hs
  generalize putErr n m = er at *
  generalize putB n m = pb at *
  go_wp2_with (first
    | (go_at_call 12; refine (bigOf_any _ _ bs _ hs3 hl).mono ?_; rintro e w' ⟨rfl, rfl⟩)
    | (go_at_call 13; refine (littleOf_any _ _ bs _ hs3 hl).mono ?_; rintro e w' ⟨rfl, rfl⟩)
    | (go_at_call 14; refine (refTake_any _ _ bs _ hs3 hl).mono ?_; rintro e w' ⟨rfl, rfl⟩)
    | (go_at_call 15; refine (turned _ _ bs _ hs3 (Nat.le_refl _) hl).mono ?_))
  rintro e w4 ⟨v4, rfl, g4⟩
  have t4 := gives_sl g4
  have b14 := Below.chain b13 g4.2
  have x4 := x3.step g4.2
  have y4 := y3.step g4.2
  have z4 := z3.step g4.2
  have HRV := Lib.hid (ofE_reverse bs)
  have HLR : Hid (bs.reverse.length ≤ 140737488355328) := by rw [List.length_reverse]; exact Lib.hid hl
  clear hs3 x3 y3 z3 g4 b13
  generalize bs.reverse = br at *
  go_wp2_with (go_at_call 14; refine (refTake_any _ _ br _ t4 HLR.out).mono ?_; rw [HRV.out]; rintro e w' ⟨rfl, rfl⟩)
  clear t4 HRV HLR
  generalize ofE bs = eb at *
  generalize ofN bs = nb at *
  generalize ofN br = nr at *
  refine (live_any _).mono ?_
  rintro e w5 ⟨rfl, b5⟩
  have b15 := Below.chain b14 b5
  have x5 := x4.step b5
  have y5 := y4.step b5
  have z5 := z4.step b5
  clear x4 y4 z4 b14 b5
  have HPL : Hid (pb.length ≤ 140737488355328) := Lib.hid (by omega)
  go_wp2_with (first
    | (go_at_call 17; refine (refEqual_any _ _ _ _ pb pb _ x5 z5).mono ?_; rintro e w' ⟨rfl, rfl⟩)
    | (go_at_call 15; refine (turned _ _ pb _ z5 (Nat.le_refl _) HPL.out).mono ?_))
  rintro e w6 ⟨v6, rfl, g6⟩
  have t6 := gives_sl g6
  have y6 := y5.step g6.2
  have b16 := Below.chain b15 g6.2
  clear x5 y5 z5 g6 b15
  go_wp2_with (first
    | (go_at_call 17; refine (refEqual_any _ _ _ _ pb.reverse pb.reverse _ y6 t6).mono ?_; rintro e w' ⟨rfl, rfl⟩)
    | (go_at_call 18; refine (u16_mod n _).mono ?_))
  rintro e w7 ⟨v7, rfl, g7⟩
  have b17 := Below.chain b16 g7.2
  have p7 := gives_sl g7
  clear t6 y6 b16 g7
  go_wp2_with (go_at_call 19; refine (rbig n 2 _ (by omega) hn).mono ?_)
  rintro e w8 ⟨v8, rfl, g8⟩
  have b18 := Below.chain b17 g8.2
  have p8 := p7.step g8.2
  have q8 := gives_sl g8
  clear p7 b17 g8
  generalize bigB n 2 = c2 at *
  go_wp2_with (first
    | (go_at_call 17; refine (refEqual_any _ _ _ _ c2 c2 _ p8 q8).mono ?_; rintro e w' ⟨rfl, rfl⟩)
    | (go_at_call 20; refine (u32_mod n _).mono ?_))
  rintro e w9 ⟨v9, rfl, g9⟩
  have b19 := Below.chain b18 g9.2
  have p9 := gives_sl g9
  clear p8 q8 b18 g9
  go_wp2_with (go_at_call 19; refine (rbig n 4 _ (by omega) hn).mono ?_)
  rintro e w10 ⟨v10, rfl, g10⟩
  have b110 := Below.chain b19 g10.2
  have p10 := p9.step g10.2
  have q10 := gives_sl g10
  clear p9 b19 g10
  generalize bigB n 4 = c4 at *
  go_wp2_with (first
    | (go_at_call 17; refine (refEqual_any _ _ _ _ c4 c4 _ p10 q10).mono ?_; rintro e w' ⟨rfl, rfl⟩)
    | (go_at_call 21; refine (u64_mod n _).mono ?_))
  rintro e w11 ⟨v11, rfl, g11⟩
  have b111 := Below.chain b110 g11.2
  have p11 := gives_sl g11
  clear p10 q10 b110 g11
  go_wp2_with (go_at_call 19; refine (rbig n 8 _ (by omega) hn).mono ?_)
  rintro e w12 ⟨v12, rfl, g12⟩
  have b112 := Below.chain b111 g12.2
  have p12 := p11.step g12.2
  have q12 := gives_sl g12
  clear p11 b111 g12
  generalize bigB n 8 = c8 at *
  go_wp2_with (go_at_call 17; refine (refEqual_any _ _ _ _ c8 c8 _ p12 q12).mono ?_; rintro e w' ⟨rfl, rfl⟩)
  go_ret
  exact ⟨rfl, b112⟩
end Go.Proofs.Ytijkhpiehaocpaa
