/-
 A POLYNOMIAL OUT OF A STREAM OF BYTES: the first 256 numbers below 3329 of 2048.
-/
import Derived.Test.YtfcgdjgfdbcddaaDoorZR2
import Derived.Test.YtfcgdjgfdbcddaaDoorKMa
namespace Go.Proofs.YtfcgdjgfdbcddaaDoor
open Go.RowKit
set_option maxRecDepth 100000
/-- what one more number leaves of those that were taken -/
def stepS (L : List Nat) (x : Nat) : List Nat := if x < 3329 ∧ L.length < 256 then L ++ [x] else L
/-- what is taken of the first k numbers -/
def acc (xs : Nat → Nat) : Nat → List Nat
 | 0 => []
 | k + 1 => stepS (acc xs k) (xs k)
def lF (L : List Nat) (i : Nat) : Nat := L.getD i 0
theorem acc_len (xs : Nat → Nat) : ∀ k, (acc xs k).length ≤ 256
 | 0 => by simp [acc]
 | k + 1 => by
  have h := acc_len xs k
  show (stepS (acc xs k) (xs k)).length ≤ 256
  unfold stepS
  split
  ·simp only [List.length_append, List.length_cons, List.length_nil]; omega
  ·exact h
theorem acc_stay (xs : Nat → Nat) (k : Nat) (h : (acc xs k).length = 256) : ∀ j, acc xs (k + j) = acc xs k
 | 0 => rfl
 | j + 1 => by
  show stepS (acc xs (k + j)) (xs (k + j)) = acc xs k
  rw [acc_stay xs k h j]
  unfold stepS
  rw [if_neg (by omega)]
theorem lF_push (L : List Nat) (x : Nat) : upd (lF L) L.length x = lF (L ++ [x]) := by
 funext i
 unfold upd lF
 simp only [List.getD_eq_getElem?_getD]
 by_cases h : i = L.length
 ·subst h; simp
 ·rw [if_neg h]
  by_cases h2 : i < L.length
  ·rw [List.getElem?_append_left h2]
  ·rw [List.getElem?_eq_none (by omega), List.getElem?_eq_none (by simp only [List.length_append, List.length_cons, List.length_nil]; omega)]
/-- n of the first k numbers are taken; f holds them -/
def StA (xs : Nat → Nat) (k n : Nat) (f : Nat → Nat) : Prop := (acc xs k).length = n ∧ f = lF (acc xs k)
section
variable {xs : Nat → Nat} {k n : Nat} {f : Nat → Nat}
theorem StA.start (xs : Nat → Nat) : StA xs 0 0 (fun _ => 0) := ⟨rfl, rfl⟩
theorem StA.skip (h : StA xs k n f) (hx : ¬ xs k < 3329) : StA xs (k + 1) n f := by
 obtain ⟨h1, h2⟩ := h
 have hs : acc xs (k + 1) = acc xs k := by
  show stepS _ _ = _
  unfold stepS
  rw [if_neg (by omega)]
 exact ⟨by rw [hs]; exact h1, by rw [hs]; exact h2⟩
theorem StA.take (h : StA xs k n f) (hx : xs k < 3329) (hn : n < 256) : StA xs (k + 1) (n + 1) (upd f n (xs k)) := by
 obtain ⟨h1, h2⟩ := h
 have hs : acc xs (k + 1) = acc xs k ++ [xs k] := by
  show stepS _ _ = _
  unfold stepS
  rw [if_pos ⟨hx, by omega⟩]
 refine ⟨by rw [hs]; simp [h1], ?_⟩
 rw [hs, ← lF_push, h1, h2]
theorem StA.stay (h : StA xs k 256 f) : StA xs (k + 1) 256 f := by
 obtain ⟨h1, h2⟩ := h
 have hs := acc_stay xs k h1 1
 exact ⟨by rw [hs]; exact h1, by rw [hs]; exact h2⟩
theorem StA.full (h : StA xs k 256 f) (hk : k ≤ 2048) : StA xs 2048 256 f := by
 obtain ⟨h1, h2⟩ := h
 have hs := acc_stay xs k h1 (2048 - k)
 rw [show k + (2048 - k) = 2048 by omega] at hs
 exact ⟨by rw [hs]; exact h1, by rw [hs]; exact h2⟩
theorem StA.le (h : StA xs k n f) : n ≤ 256 := by rw [← h.1]; exact acc_len xs k
end
def smpE (xs : Nat → Nat) : Int := if (acc xs 2048).length < 256 then 130 else 0
def smpF (xs : Nat → Nat) : Nat → Nat := if (acc xs 2048).length < 256 then fun _ => 0 else lF (acc xs 2048)
section
variable {xs : Nat → Nat} {n : Nat} {f : Nat → Nat}
theorem StA.short (h : StA xs 2048 n f) (hn : n < 256) : smpE xs = 130 ∧ smpF xs = fun _ => 0 := by
 obtain ⟨h1, h2⟩ := h
 exact ⟨if_pos (by omega), if_pos (by omega)⟩
theorem StA.whole (h : StA xs 2048 256 f) : smpE xs = 0 ∧ smpF xs = f := by
 obtain ⟨h1, h2⟩ := h
 exact ⟨if_neg (by omega), by rw [h2]; exact if_neg (by omega)⟩
end
/-- the numbers of groups of three bytes -/
def grp (b : Nat → Nat) (i : Nat) : Nat := if i % 2 = 0 then b (3 * (i / 2)) + 256 * (b (3 * (i / 2) + 1) % 16) else b (3 * (i / 2) + 1) / 16 + 16 * b (3 * (i / 2) + 2)
theorem grp_one (b : Nat → Nat) (t : Nat) : grp b (2 * t) = b (3 * t) + 256 * (b (3 * t + 1) % 16) := by
 unfold grp
 rw [if_pos (by omega), show 2 * t / 2 = t by omega]
theorem grp_two (b : Nat → Nat) (t : Nat) : grp b (2 * t + 1) = b (3 * t + 1) / 16 + 16 * b (3 * t + 2) := by
 unfold grp
 rw [if_neg (by omega), show (2 * t + 1) / 2 = t by omega]
def nb (l : List UInt8) (i : Nat) : Nat := (l.getD i 0).toNat
theorem nb_lt (l : List UInt8) (i : Nat) : nb l i < 256 := UInt8.toNat_lt _
theorem nb_get (l : List UInt8) {i : Nat} (h : i < l.length) : nb l i = l[i].toNat := by
 unfold nb
 rw [List.getD_eq_getElem?_getD, List.getElem?_eq_getElem h]
 rfl
theorem outs_take13 (rate : Nat) : ∀ (n N : Nat), n ≤ N → ∀ s : Sp, (s.outs rate N).take n = s.outs rate n
 | 0, _, _, _ => rfl
 | n + 1, 0, h, _ => absurd h (by omega)
 | n + 1, N + 1, h, s => congrArg (byteL (s.next rate).l ((s.next rate).at_ - 1) :: ·) (outs_take13 rate n N (by omega) (s.next rate))
theorem outs_add13 (rate : Nat) : ∀ (n m : Nat) (s : Sp), s.outs rate (n + m) = s.outs rate n ++ (s.behind rate n).outs rate m
 | 0, m, s => by rw [Nat.zero_add]; rfl
 | n + 1, m, s => by
  rw [show n + 1 + m = (n + m) + 1 by omega]
  exact congrArg (byteL (s.next rate).l ((s.next rate).at_ - 1) :: ·) (outs_add13 rate n m (s.next rate))
theorem behind_add13 (rate : Nat) : ∀ (n m : Nat) (s : Sp), s.behind rate (n + m) = (s.behind rate n).behind rate m
 | 0, m, s => by rw [Nat.zero_add]; rfl
 | n + 1, m, s => by
  rw [show n + 1 + m = (n + m) + 1 by omega]
  exact behind_add13 rate n m (s.next rate)
theorem outs_length13 (rate : Nat) : ∀ (n : Nat) (s : Sp), (s.outs rate n).length = n
 | 0, _ => rfl
 | n + 1, s => congrArg (· + 1) (outs_length13 rate n (s.next rate))
/-- the bytes of a group are those of the whole stream -/
theorem group_bytes (rate : Nat) (s : Sp) (N t j : Nat) (ht : 3 * t + 3 ≤ N) (hj : j < 3) : nb ((s.behind rate (3 * t)).outs rate 3) j = nb (s.outs rate N) (3 * t + j) := by
 have h1 : s.outs rate N = s.outs rate (3 * t) ++ ((s.behind rate (3 * t)).outs rate 3 ++ ((s.behind rate (3 * t)).behind rate 3).outs rate (N - (3 * t + 3))) := by
  rw [← outs_add13, ← outs_add13]
  congr 1
  omega
 unfold nb
 rw [h1, List.getD_eq_getElem?_getD, List.getD_eq_getElem?_getD, List.getElem?_append_right (by rw [outs_length13]; omega), outs_length13, show 3 * t + j - 3 * t = j by omega, List.getElem?_append_left (by rw [outs_length13]; exact hj)]
theorem short_bytes (rate : Nat) (s : Sp) (n N i : Nat) (hn : n ≤ N) (hi : i < n) : nb (s.outs rate n) i = nb (s.outs rate N) i := by
 unfold nb
 rw [← outs_take13 rate n N hn s, List.getD_eq_getElem?_getD, List.getD_eq_getElem?_getD, List.getElem?_take_of_lt hi]
theorem three_list (l : List UInt8) (h : l.length = 3) : Lib.byteCells l = [.int .u8 (nb l 0 : Int), .int .u8 (nb l 1 : Int), .int .u8 (nb l 2 : Int)] := by
 match l, h with
 | [_, _, _], _ => rfl
end Go.Proofs.YtfcgdjgfdbcddaaDoor
