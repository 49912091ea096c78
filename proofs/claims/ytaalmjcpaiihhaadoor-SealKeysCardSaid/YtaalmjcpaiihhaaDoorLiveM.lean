/-
  MATHEMATICS: what is sealed opens; the laws' own example.
-/
import Derived.Test.YtaalmjcpaiihhaaDoorUnseal
namespace Go.Proofs.YtaalmjcpaiihhaaDoor
open Go.RowKit
set_option maxRecDepth 100000

theorem open_shut (key nonce ad text : List UInt8) : openE key nonce ad (shutB key nonce ad text) = 0 ∧ openV key nonce ad (shutB key nonce ad text) = text := by
  have hl := shutB_length key nonce ad text
  have h1 : ¬ (shutB key nonce ad text).length < 32 := by omega
  have h2 : (shutB key nonce ad text).length - 32 = (covB (encK key) nonce text).length := by rw [covB_length]; omega
  have h3 : (shutB key nonce ad text).take ((shutB key nonce ad text).length - 32) = covB (encK key) nonce text := by
    rw [h2]; unfold shutB; rw [List.take_left]
  have h4 : (shutB key nonce ad text).drop ((shutB key nonce ad text).length - 32) = tagB (macK key) nonce ad (covB (encK key) nonce text) := by
    rw [h2]; unfold shutB; rw [List.drop_left]
  constructor
  · unfold openE
    rw [if_neg h1, h3, h4, if_pos (by simp)]
  · unfold openV
    rw [if_neg h1, h3, h4, if_pos (by simp), covB_back]
theorem shut_take (key nonce ad text : List UInt8) (n : Nat) (h : n ≤ text.length) : (shutB key nonce ad text).take n = (covB (encK key) nonce text).take n := by
  unfold shutB
  rw [List.take_append_of_le_length (by rw [covB_length]; exact h)]
def key1 : List UInt8 := 1 :: List.replicate 31 0
def non1 : List UInt8 := 2 :: List.replicate 11 0
def adI : List UInt8 := [97, 100]
def plI : List UInt8 := [112, 108, 97, 105, 110]
set_option maxHeartbeats 2000000 in
theorem covered_differs : (covB (encK key1) non1 plI == plI) = false := by decide +kernel
end Go.Proofs.YtaalmjcpaiihhaaDoor
