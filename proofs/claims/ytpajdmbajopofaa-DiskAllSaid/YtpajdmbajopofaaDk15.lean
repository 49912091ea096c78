/-
 WALKS: holding, New, Load.
-/
import Derived.Test.YtpajdmbajopofaaDk14
namespace Go.Proofs.Ytpajdmbajopofaa
open Go.RowKit
set_option maxRecDepth 100000
def secs (b : List UInt8) (n : Nat) : List (List UInt8) := (List.range n).map fun i => (b.drop (256 * i)).take 256
theorem secs_length (b : List UInt8) (n : Nat) : (secs b n).length = n := by simp [secs]
theorem secs_succ (b : List UInt8) (n : Nat) : secs b (n + 1) = secs b n ++ [(b.drop (256 * n)).take 256] := by simp [secs, List.range_succ]
theorem secs_sec {b : List UInt8} {n : Nat} (h : b.length = 256 * n) : ∀ x ∈ secs b n, x.length = 256 := by
 intro x hx
 obtain ⟨i, hi, rfl⟩ := List.mem_map.1 hx
 have := List.mem_range.1 hi
 rw [List.length_take, List.length_drop]
 omega
theorem secs_take (b : List UInt8) (n : Nat) : (secs b n).flatten = b.take (256 * n) := by
 induction n with
 | zero => rfl
 | succ n ih => rw [secs_succ, List.flatten_append, ih, show 256 * (n + 1) = 256 * n + 256 by omega, List.take_add]; simp
theorem secs_flat {b : List UInt8} {n : Nat} (h : b.length = 256 * n) : (secs b n).flatten = b := by rw [secs_take, ← h, List.take_length]
theorem newS_ok {b : List UInt8} {n : Nat} (h : b.length = 256 * n) (h8 : 8 ≤ n) (hm : n ≤ 2048) : (newS (secs b n)).ok :=
 ⟨by show 8 ≤ (secs b n).length; rw [secs_length]; exact h8, by show (secs b n).length ≤ 2048; rw [secs_length]; exact hm, secs_sec h, (fun x hx => by cases hx), (by show (-1 : Int) ≤ -1; decide), (by show (-1 : Int) ≤ 9223372036854775807; decide)⟩
def HoIs (w : World) (v : Value) (e : Ending) (w' : World) : Prop := e = .returned (.pointer (some ⟨w.heap.size, 0, none⟩)) ∧ w.alloc (.cells #[v, .slice none 0 0, .bool true, .int .i64 (-1), .int .i64 0] 67) = w'
theorem holding_any (A : Option Addr) (n c : Nat) (w : World) : Calls Try.prog 36 #[.slice A n c] w (HoIs w (.slice A n c)) := by
 unfold HoIs
 go_enter Try.func36, Try.ntmps36
 go_wp2
 go_ret
 exact ⟨rfl, rfl⟩
/-- a new disk is handed back, or the error -/
def MkIs (col : Nat → Nat) (c : Nat) (w : World) (bad : Bool) (s : DS) (e : Ending) (w' : World) : Prop := if bad then e = .returned (.tuple #[.pointer none, .int .i64 1]) ∧ Below w.heap.size w w' else ∃ g, e = .returned (.tuple #[.pointer (some ⟨g, 0, none⟩), .int .i64 0]) ∧ w.heap.size ≤ g ∧ Below w.heap.size w w' ∧ DAt (paint col w.heap.size c) c w' g s
theorem made_at {col : Nat → Nat} {c : Nat} {w w1 : World} {b : List UInt8} {n dc q : Nat} {sp : List Value} (h8 : 8 ≤ n) (hm : n ≤ 2048) (hb : b.length = 256 * n) (hbel : Below w.heap.size w w1) (hq : w.heap.size ≤ q) (hr : Row w1 q 5 (Lib.byteCells b ++ sp)) (hdc : b.length + sp.length = dc) (hdm : dc ≤ maxLen) :
 DAt (paint col w.heap.size c) c (w1.alloc (.cells #[.slice (some ⟨q, 0, none⟩) b.length dc, .slice none 0 0, .bool true, .int .i64 (-1), .int .i64 0] 67)) w1.heap.size (newS (secs b n)) := by
 have hs := hbel.size
 have hl : (newS (secs b n)).good.length = n := secs_length b n
 have hf : (newS (secs b n)).good.flatten = b := secs_flat hb
 refine ⟨newS_ok hb h8 hm, paint_ge hs, q, dc, .slice none 0 0, sp, paint_ge hq, ?_, ?_, ?_, hdm, [], World.ownsRow_nil _ _ _ _, (fun k hk => by cases hk), (fun j hj => by cases hj)⟩
 ·rw [hl, ← hb]
  exact Row.new_ rfl rfl
 ·rw [hf]
  exact hr.alloc _
 ·rw [hl]; omega
theorem zeros_len (n : Nat) : (List.replicate (256 * n) (0 : UInt8)).length = 256 * n := by simp
set_option maxHeartbeats 1000000 in
theorem New_any (col : Nat → Nat) (c : Nat) (n : Int) (w : World) : Calls Try.prog 10 #[.int .i64 n] w (MkIs col c w (decide (n < 8 ∨ 2048 < n)) (newS (secs (List.replicate (256 * n.toNat) 0) n.toNat))) := by
 have HB0 : Shh (Below w.heap.size w w) := ⟨Below.refl _ _⟩
 by_cases h1 : n < 8
 ·rw [show (decide (n < 8 ∨ 2048 < n)) = true from by simp [h1]]
  unfold MkIs
  simp only [↓reduceIte]
  go_enter Try.func10, Try.ntmps10
  go_wp2
  go_ret2
  exact ⟨rfl, HB0.out⟩
 ·by_cases h2 : 2048 < n
  ·rw [show (decide (n < 8 ∨ 2048 < n)) = true from by simp [h2]]
   unfold MkIs
   simp only [↓reduceIte]
   go_enter Try.func10, Try.ntmps10
   go_wp2
   go_ret2
   exact ⟨rfl, HB0.out⟩
  ·rw [show (decide (n < 8 ∨ 2048 < n)) = false from by simp; omega]
   unfold MkIs
   simp only [Bool.false_eq_true, ↓reduceIte]
   obtain ⟨m, rfl⟩ : ∃ m : Nat, n = (m : Int) := ⟨n.toNat, by omega⟩
   rw [Int.toNat_natCast]
   have h8 : 8 ≤ m := by omega
   have hm : m ≤ 2048 := by omega
   obtain ⟨J, HJ⟩ : ∃ J, Shh (J = 256 * m) := ⟨_, ⟨rfl⟩⟩
   have hmk := fun u => make_run J (by have := HJ.out; omega) u
   have hm2 := hm
   obtain ⟨W0, hW0⟩ : ∃ W0, w.alloc (.cells (Lib.byteCells (List.replicate J 0)).toArray 5) = W0 := ⟨_, rfl⟩
   have bA : Below w.heap.size w W0 := by rw [← hW0]; exact Below.alloc (Below.refl _ _) (Nat.le_refl _) _
   have hr : Row W0 w.heap.size 5 (Lib.byteCells (List.replicate J 0) ++ []) := by rw [← hW0, List.append_nil]; exact Row.new_ rfl rfl
   have hd := made_at (col := col) (c := c) h8 hm (b := List.replicate J 0) (dc := J) (by rw [List.length_replicate, HJ.out]) bA (Nat.le_refl _) hr (by simp) (by have := HJ.out; unfold maxLen; omega)
   rw [List.length_replicate] at hd
   have bB : Below w.heap.size w (W0.alloc (.cells #[.slice (some ⟨w.heap.size, 0, none⟩) J J, .slice none 0 0, .bool true, .int .i64 (-1), .int .i64 0] 67)) := Below.chain bA (Below.alloc (Below.refl _ _) (Nat.le_refl _) _)
   have HD := Shh.mk (And.intro hd (And.intro bB bA.size))
   have HHO := Shh.mk (holding_any (some ⟨w.heap.size, 0, none⟩) J J W0)
   rw [← HJ.out]
   clear hd bB bA hr h8 hm
   go_enter Try.func10, Try.ntmps10
   go_wp2_with (first | refine wl_at 11 rfl (.int .i64 (J : Int)) rfl (mul_256 HJ.out hm2 rfl rfl) ?_ | (go_at_call 36; refine (HHO.out).mono ?_))
   unfold HoIs
   rintro e w1 ⟨rfl, rfl⟩
   go_wp2
   go_ret2
   exact ⟨_, rfl, HD.out.2.2, HD.out.2.1, HD.out.1⟩
def ldBad (n : Nat) : Bool := decide (n % 256 ≠ 0 ∨ n / 256 < 8 ∨ 2048 < n / 256)
theorem own_row' {w : World} {base n : Nat} {v : Value} {xs : List Value} (h : w.ownsRow base 5 1 v n xs) (hn : 0 < n) : ∃ q dc sp, v = .slice (some ⟨q, 0, none⟩) n dc ∧ base ≤ q ∧ Row w q 5 (xs ++ sp) ∧ n + sp.length = dc ∧ dc ≤ maxLen := by
 have hl : xs.length = n * 1 := h.1
 rcases h.2 with ⟨_, e⟩ | ⟨q, cap, cur, rfl, hb, hp, h1, h2, h3, h4⟩
 ·omega
 ·refine ⟨q, cap, cur.toList.drop n, rfl, hb, ?_, ?_, h2⟩
  ·have e : xs ++ cur.toList.drop n = cur.toList := by
    rw [← h4, Nat.mul_one, List.take_append_drop]
   rw [e]
   exact hp
  ·rw [List.length_drop, Array.length_toList, h3]
   omega
set_option maxHeartbeats 2000000 in
theorem Load_any (col : Nat → Nat) (c : Nat) (B : Nat) (v : Value) (b : List UInt8) (w : World) (hs : Sl w B v b) (hB : B ≤ w.heap.size) : Calls Try.prog 22 #[v] w (MkIs col c w (ldBad b.length) (newS (secs b (b.length / 256)))) := by
 have HB0 : Shh (Below w.heap.size w w) := ⟨Below.refl _ _⟩
 obtain ⟨A, cv, rfl, hl1, hl2⟩ := hs.form
 have hmx : b.length ≤ 9223372036854775807 := by unfold maxLen at hl2; omega
 have HBC : 0 < b.length → b.length ≤ 600000 → Shh (Calls Try.prog 43 #[.slice A b.length cv] w (OwnIs w b)) := fun h1 h2 => ⟨bclone_any B _ b w hs hB h1 (by omega)⟩
 obtain ⟨L, hL⟩ : ∃ L, L = b.length := ⟨_, rfl⟩
 have hq : (L : Int) / 256 = ((L / 256 : Nat) : Int) := by omega
 have hr : (L : Int) % 256 = ((L % 256 : Nat) : Int) := by omega
 rw [← hL]
 clear hl1 hl2 hs
 rw [← hL] at hmx HBC
 obtain ⟨Q, hQ⟩ : ∃ Q, Q = L / 256 := ⟨_, rfl⟩
 obtain ⟨R, hR⟩ : ∃ R, R = L % 256 := ⟨_, rfl⟩
 have hwq : wrap64 (Q : Int) = (Q : Int) := by unfold wrap64; omega
 unfold ldBad
 rw [← hQ] at hq ⊢
 rw [← hR] at hr ⊢
 by_cases h0 : R = 0
 case neg =>
  rw [show (decide (R ≠ 0 ∨ Q < 8 ∨ 2048 < Q)) = true from by simp [h0]]
  unfold MkIs
  simp only [↓reduceIte]
  have h0' : ((R : Int) != 0) = true := by rw [bne_iff_ne]; omega
  clear HBC hQ hR hL h0 hmx
  go_enter Try.func22, Try.ntmps22
  go_wp2
  go_ret2
  exact ⟨rfl, HB0.out⟩
 by_cases h1 : Q < 8
 ·rw [show (decide (R ≠ 0 ∨ Q < 8 ∨ 2048 < Q)) = true from by simp [h1]]
  unfold MkIs
  simp only [↓reduceIte]
  have h0' : ((R : Int) != 0) = false := by rw [h0]; rfl
  have h1' : (Q : Int) < 8 := by omega
  clear HBC hQ hR hL h0 hmx
  go_enter Try.func22, Try.ntmps22
  go_wp2
  go_ret2
  exact ⟨rfl, HB0.out⟩
 by_cases h2 : 2048 < Q
 ·rw [show (decide (R ≠ 0 ∨ Q < 8 ∨ 2048 < Q)) = true from by simp [h2]]
  unfold MkIs
  simp only [↓reduceIte]
  have h0' : ((R : Int) != 0) = false := by rw [h0]; rfl
  have h1' : ¬ (Q : Int) < 8 := by omega
  have h2' : (2048 : Int) < (Q : Int) := by omega
  clear HBC hQ hR hL h0 hmx
  go_enter Try.func22, Try.ntmps22
  go_wp2
  go_ret2
  exact ⟨rfl, HB0.out⟩
 ·rw [show (decide (R ≠ 0 ∨ Q < 8 ∨ 2048 < Q)) = false from by simp; omega]
  unfold MkIs
  simp only [Bool.false_eq_true, ↓reduceIte]
  have h0' : ((R : Int) != 0) = false := by rw [h0]; rfl
  have h1' : ¬ (Q : Int) < 8 := by omega
  have h2' : ¬ (2048 : Int) < (Q : Int) := by omega
  have HB := HBC (by omega) (by omega)
  have HQQ : Shh (b.length = 256 * Q ∧ 8 ≤ Q ∧ Q ≤ 2048) := ⟨by omega, by omega, by omega⟩
  have HLL := Shh.mk hL
  clear HBC hQ hR hL h0 h1 h2 hmx
  go_enter Try.func22, Try.ntmps22
  go_wp2_with (go_at_call 43; refine (HB.out).mono ?_)
  unfold OwnIs Gives
  rintro e w1 ⟨v, rfl, ho, hb⟩
  obtain ⟨q, dc, sp, rfl, k1, k2, k3, k4⟩ := own_row' ho (by have := HQQ.out; omega)
  have hd := made_at (col := col) (c := c) HQQ.out.2.1 HQQ.out.2.2 HQQ.out.1 hb k1 k2 k3 k4
  have bB : Below w.heap.size w (w1.alloc (.cells #[.slice (some ⟨q, 0, none⟩) b.length dc, .slice none 0 0, .bool true, .int .i64 (-1), .int .i64 0] 67)) := Below.chain hb (Below.alloc (Below.refl _ _) (Nat.le_refl _) _)
  have HD := Shh.mk (And.intro hd (And.intro bB hb.size))
  have HHO := Shh.mk (holding_any (some ⟨q, 0, none⟩) b.length dc w1)
  clear hd bB hb ho k1 k2 k3 k4 HB
  go_wp2_with (go_at_call 36; refine (HHO.out).mono ?_)
  unfold HoIs
  rintro e w2 ⟨rfl, rfl⟩
  go_wp2
  go_ret2
  exact ⟨_, rfl, HD.out.2.2, HD.out.2.1, HD.out.1⟩
end Go.Proofs.Ytpajdmbajopofaa
