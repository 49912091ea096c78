import Derived.Test.YtdakbipiifkmfaaGreatDoorHC

/-
 WALK: a part of keccak.mix's last statement.
-/
namespace Go.Proofs.YtdakbipiifkmfaaGreatDoor
open Go.RowKit
set_option maxRecDepth 100000

/-- a lane, an address, the operations done: short words for the frames below -/
abbrev L6 (x : UInt64) : Value := .int .u64 (x.toNat : Int)
abbrev A6 (n k : Nat) : Value := .pointer (some ⟨n, k, none⟩)
def R6 (l : List (Nat × Bool)) : Array Bool := (go l).toArray
 where go : List (Nat × Bool) → List Bool
  | [] => []
  | (n, b) :: r => List.replicate n b ++ go r
def mixP (l : List UInt64) (n0 : Nat) : List Value := [.agg (laneCells l).toArray, A6 n0 0, A6 (n0 + 1) 0, L6 (colX l 0), L6 (colX l 1), L6 (colX l 2), L6 (colX l 3), L6 (colX l 4), L6 (d0L l), L6 (d1L l), L6 (d2L l), L6 (d3L l), L6 (d4L l), A6 n0 0, L6 (lane l 0), A6 n0 5, L6 (lane l 5), L6 (lane l 0 ^^^ lane l 5), A6 n0 10, L6 (lane l 10), L6 (lane l 0 ^^^ lane l 5 ^^^ lane l 10), A6 n0 15, L6 (lane l 15), L6 (lane l 0 ^^^ lane l 5 ^^^ lane l 10 ^^^ lane l 15), A6 n0 20, L6 (lane l 20), L6 (lane l 0 ^^^ lane l 5 ^^^ lane l 10 ^^^ lane l 15 ^^^ lane l 20), A6 n0 1, L6 (lane l 1), A6 n0 6, L6 (lane l 6), L6 (lane l 1 ^^^ lane l 6), A6 n0 11, L6 (lane l 11), L6 (lane l 1 ^^^ lane l 6 ^^^ lane l 11), A6 n0 16, L6 (lane l 16), L6 (lane l 1 ^^^ lane l 6 ^^^ lane l 11 ^^^ lane l 16), A6 n0 21, L6 (lane l 21), L6 (lane l 1 ^^^ lane l 6 ^^^ lane l 11 ^^^ lane l 16 ^^^ lane l 21), A6 n0 2, L6 (lane l 2), A6 n0 7, L6 (lane l 7), L6 (lane l 2 ^^^ lane l 7), A6 n0 12, L6 (lane l 12), L6 (lane l 2 ^^^ lane l 7 ^^^ lane l 12), A6 n0 17, L6 (lane l 17), L6 (lane l 2 ^^^ lane l 7 ^^^ lane l 12 ^^^ lane l 17), A6 n0 22, L6 (lane l 22), L6 (lane l 2 ^^^ lane l 7 ^^^ lane l 12 ^^^ lane l 17 ^^^ lane l 22), A6 n0 3, L6 (lane l 3), A6 n0 8, L6 (lane l 8), L6 (lane l 3 ^^^ lane l 8), A6 n0 13, L6 (lane l 13), L6 (lane l 3 ^^^ lane l 8 ^^^ lane l 13), A6 n0 18, L6 (lane l 18), L6 (lane l 3 ^^^ lane l 8 ^^^ lane l 13 ^^^ lane l 18), A6 n0 23, L6 (lane l 23), L6 (lane l 3 ^^^ lane l 8 ^^^ lane l 13 ^^^ lane l 18 ^^^ lane l 23), A6 n0 4, L6 (lane l 4), A6 n0 9, L6 (lane l 9), L6 (lane l 4 ^^^ lane l 9), A6 n0 14, L6 (lane l 14), L6 (lane l 4 ^^^ lane l 9 ^^^ lane l 14), A6 n0 19, L6 (lane l 19), L6 (lane l 4 ^^^ lane l 9 ^^^ lane l 14 ^^^ lane l 19), A6 n0 24, L6 (lane l 24), L6 (lane l 4 ^^^ lane l 9 ^^^ lane l 14 ^^^ lane l 19 ^^^ lane l 24), L6 (colX l 4), L6 (colX l 1), L6 (rotl (colX l 1) 1), L6 (colX l 4 ^^^ rotl (colX l 1) 1), L6 (colX l 0), L6 (colX l 2), L6 (rotl (colX l 2) 1), L6 (colX l 0 ^^^ rotl (colX l 2) 1), L6 (colX l 1), L6 (colX l 3), L6 (rotl (colX l 3) 1), L6 (colX l 1 ^^^ rotl (colX l 3) 1), L6 (colX l 2), L6 (colX l 4), L6 (rotl (colX l 4) 1), L6 (colX l 2 ^^^ rotl (colX l 4) 1), L6 (colX l 3), L6 (colX l 0), L6 (rotl (colX l 0) 1), L6 (colX l 3 ^^^ rotl (colX l 0) 1)]
def mixS0 (l : List UInt64) (n0 : Nat) (X : World) (Q : Exit → Act → World → Prop) : Prop := wpAnyH Tryz.prog .any mixOps.toArray Q (fun w' => w'.rangeAt n0 0 (laneCells l)) 126 (R6 [(126, false)]) ⟨(mixP l n0 ++ (([] : List Value) ++ (List.replicate 125 undef))).toArray, []⟩ X
def mixS1 (l : List UInt64) (n0 : Nat) (X : World) (Q : Exit → Act → World → Prop) : Prop := wpAnyH Tryz.prog .any mixOps.toArray Q (fun w' => w'.rangeAt n0 0 (laneCells l)) 106 (R6 [(8, true), (1, false), (4, true), (1, false), (4, true), (1, false), (4, true), (103, false)]) ⟨(mixP l n0 ++ ([A6 n0 0, L6 (lane l 0), L6 (d0L l), L6 (lane l 0 ^^^ d0L l), A6 n0 6, L6 (lane l 6), L6 (d1L l), L6 (lane l 6 ^^^ d1L l), undef, A6 n0 12, L6 (lane l 12), L6 (d2L l), L6 (lane l 12 ^^^ d2L l), undef, A6 n0 18, L6 (lane l 18), L6 (d3L l), L6 (lane l 18 ^^^ d3L l), undef, A6 n0 24, L6 (lane l 24), L6 (d4L l), L6 (lane l 24 ^^^ d4L l)] ++ (List.replicate 102 undef))).toArray, []⟩ X
def mixS2 (l : List UInt64) (n0 : Nat) (X : World) (Q : Exit → Act → World → Prop) : Prop := wpAnyH Tryz.prog .any mixOps.toArray Q (fun w' => w'.rangeAt n0 0 (laneCells l)) 86 (R6 [(8, true), (1, false), (4, true), (1, false), (4, true), (1, false), (4, true), (1, false), (4, true), (1, false), (4, true), (1, false), (4, true), (1, false), (4, true), (1, false), (4, true), (78, false)]) ⟨(mixP l n0 ++ ([A6 n0 0, L6 (lane l 0), L6 (d0L l), L6 (lane l 0 ^^^ d0L l), A6 n0 6, L6 (lane l 6), L6 (d1L l), L6 (lane l 6 ^^^ d1L l), undef, A6 n0 12, L6 (lane l 12), L6 (d2L l), L6 (lane l 12 ^^^ d2L l), undef, A6 n0 18, L6 (lane l 18), L6 (d3L l), L6 (lane l 18 ^^^ d3L l), undef, A6 n0 24, L6 (lane l 24), L6 (d4L l), L6 (lane l 24 ^^^ d4L l), undef, A6 n0 3, L6 (lane l 3), L6 (d3L l), L6 (lane l 3 ^^^ d3L l), undef, A6 n0 9, L6 (lane l 9), L6 (d4L l), L6 (lane l 9 ^^^ d4L l), undef, A6 n0 10, L6 (lane l 10), L6 (d0L l), L6 (lane l 10 ^^^ d0L l), undef, A6 n0 16, L6 (lane l 16), L6 (d1L l), L6 (lane l 16 ^^^ d1L l), undef, A6 n0 22, L6 (lane l 22), L6 (d2L l), L6 (lane l 22 ^^^ d2L l)] ++ (List.replicate 77 undef))).toArray, []⟩ X
def mixS3 (l : List UInt64) (n0 : Nat) (X : World) (Q : Exit → Act → World → Prop) : Prop := wpAnyH Tryz.prog .any mixOps.toArray Q (fun w' => w'.rangeAt n0 0 (laneCells l)) 66 (R6 [(8, true), (1, false), (4, true), (1, false), (4, true), (1, false), (4, true), (1, false), (4, true), (1, false), (4, true), (1, false), (4, true), (1, false), (4, true), (1, false), (4, true), (1, false), (4, true), (1, false), (4, true), (1, false), (4, true), (1, false), (4, true), (1, false), (4, true), (53, false)]) ⟨(mixP l n0 ++ ([A6 n0 0, L6 (lane l 0), L6 (d0L l), L6 (lane l 0 ^^^ d0L l), A6 n0 6, L6 (lane l 6), L6 (d1L l), L6 (lane l 6 ^^^ d1L l), undef, A6 n0 12, L6 (lane l 12), L6 (d2L l), L6 (lane l 12 ^^^ d2L l), undef, A6 n0 18, L6 (lane l 18), L6 (d3L l), L6 (lane l 18 ^^^ d3L l), undef, A6 n0 24, L6 (lane l 24), L6 (d4L l), L6 (lane l 24 ^^^ d4L l), undef, A6 n0 3, L6 (lane l 3), L6 (d3L l), L6 (lane l 3 ^^^ d3L l), undef, A6 n0 9, L6 (lane l 9), L6 (d4L l), L6 (lane l 9 ^^^ d4L l), undef, A6 n0 10, L6 (lane l 10), L6 (d0L l), L6 (lane l 10 ^^^ d0L l), undef, A6 n0 16, L6 (lane l 16), L6 (d1L l), L6 (lane l 16 ^^^ d1L l), undef, A6 n0 22, L6 (lane l 22), L6 (d2L l), L6 (lane l 22 ^^^ d2L l), undef, A6 n0 1, L6 (lane l 1), L6 (d1L l), L6 (lane l 1 ^^^ d1L l), undef, A6 n0 7, L6 (lane l 7), L6 (d2L l), L6 (lane l 7 ^^^ d2L l), undef, A6 n0 13, L6 (lane l 13), L6 (d3L l), L6 (lane l 13 ^^^ d3L l), undef, A6 n0 19, L6 (lane l 19), L6 (d4L l), L6 (lane l 19 ^^^ d4L l), undef, A6 n0 20, L6 (lane l 20), L6 (d0L l), L6 (lane l 20 ^^^ d0L l)] ++ (List.replicate 52 undef))).toArray, []⟩ X
def mixS4 (l : List UInt64) (n0 : Nat) (X : World) (Q : Exit → Act → World → Prop) : Prop := wpAnyH Tryz.prog .any mixOps.toArray Q (fun w' => w'.rangeAt n0 0 (laneCells l)) 46 (R6 [(8, true), (1, false), (4, true), (1, false), (4, true), (1, false), (4, true), (1, false), (4, true), (1, false), (4, true), (1, false), (4, true), (1, false), (4, true), (1, false), (4, true), (1, false), (4, true), (1, false), (4, true), (1, false), (4, true), (1, false), (4, true), (1, false), (4, true), (1, false), (4, true), (1, false), (4, true), (1, false), (4, true), (1, false), (4, true), (1, false), (4, true), (28, false)]) ⟨(mixP l n0 ++ ([A6 n0 0, L6 (lane l 0), L6 (d0L l), L6 (lane l 0 ^^^ d0L l), A6 n0 6, L6 (lane l 6), L6 (d1L l), L6 (lane l 6 ^^^ d1L l), undef, A6 n0 12, L6 (lane l 12), L6 (d2L l), L6 (lane l 12 ^^^ d2L l), undef, A6 n0 18, L6 (lane l 18), L6 (d3L l), L6 (lane l 18 ^^^ d3L l), undef, A6 n0 24, L6 (lane l 24), L6 (d4L l), L6 (lane l 24 ^^^ d4L l), undef, A6 n0 3, L6 (lane l 3), L6 (d3L l), L6 (lane l 3 ^^^ d3L l), undef, A6 n0 9, L6 (lane l 9), L6 (d4L l), L6 (lane l 9 ^^^ d4L l), undef, A6 n0 10, L6 (lane l 10), L6 (d0L l), L6 (lane l 10 ^^^ d0L l), undef, A6 n0 16, L6 (lane l 16), L6 (d1L l), L6 (lane l 16 ^^^ d1L l), undef, A6 n0 22, L6 (lane l 22), L6 (d2L l), L6 (lane l 22 ^^^ d2L l), undef, A6 n0 1, L6 (lane l 1), L6 (d1L l), L6 (lane l 1 ^^^ d1L l), undef, A6 n0 7, L6 (lane l 7), L6 (d2L l), L6 (lane l 7 ^^^ d2L l), undef, A6 n0 13, L6 (lane l 13), L6 (d3L l), L6 (lane l 13 ^^^ d3L l), undef, A6 n0 19, L6 (lane l 19), L6 (d4L l), L6 (lane l 19 ^^^ d4L l), undef, A6 n0 20, L6 (lane l 20), L6 (d0L l), L6 (lane l 20 ^^^ d0L l), undef, A6 n0 4, L6 (lane l 4), L6 (d4L l), L6 (lane l 4 ^^^ d4L l), undef, A6 n0 5, L6 (lane l 5), L6 (d0L l), L6 (lane l 5 ^^^ d0L l), undef, A6 n0 11, L6 (lane l 11), L6 (d1L l), L6 (lane l 11 ^^^ d1L l), undef, A6 n0 17, L6 (lane l 17), L6 (d2L l), L6 (lane l 17 ^^^ d2L l), undef, A6 n0 23, L6 (lane l 23), L6 (d3L l), L6 (lane l 23 ^^^ d3L l)] ++ (List.replicate 27 undef))).toArray, []⟩ X
def mixS5 (l : List UInt64) (n0 : Nat) (X : World) (Q : Exit → Act → World → Prop) : Prop := wpAnyH Tryz.prog .any mixOps.toArray Q (fun w' => w'.rangeAt n0 0 (laneCells l)) 26 (R6 [(8, true), (1, false), (4, true), (1, false), (4, true), (1, false), (4, true), (1, false), (4, true), (1, false), (4, true), (1, false), (4, true), (1, false), (4, true), (1, false), (4, true), (1, false), (4, true), (1, false), (4, true), (1, false), (4, true), (1, false), (4, true), (1, false), (4, true), (1, false), (4, true), (1, false), (4, true), (1, false), (4, true), (1, false), (4, true), (1, false), (4, true), (1, false), (4, true), (1, false), (4, true), (1, false), (4, true), (1, false), (4, true), (1, false), (4, true), (3, false)]) ⟨(mixP l n0 ++ [A6 n0 0, L6 (lane l 0), L6 (d0L l), L6 (lane l 0 ^^^ d0L l), A6 n0 6, L6 (lane l 6), L6 (d1L l), L6 (lane l 6 ^^^ d1L l), undef, A6 n0 12, L6 (lane l 12), L6 (d2L l), L6 (lane l 12 ^^^ d2L l), undef, A6 n0 18, L6 (lane l 18), L6 (d3L l), L6 (lane l 18 ^^^ d3L l), undef, A6 n0 24, L6 (lane l 24), L6 (d4L l), L6 (lane l 24 ^^^ d4L l), undef, A6 n0 3, L6 (lane l 3), L6 (d3L l), L6 (lane l 3 ^^^ d3L l), undef, A6 n0 9, L6 (lane l 9), L6 (d4L l), L6 (lane l 9 ^^^ d4L l), undef, A6 n0 10, L6 (lane l 10), L6 (d0L l), L6 (lane l 10 ^^^ d0L l), undef, A6 n0 16, L6 (lane l 16), L6 (d1L l), L6 (lane l 16 ^^^ d1L l), undef, A6 n0 22, L6 (lane l 22), L6 (d2L l), L6 (lane l 22 ^^^ d2L l), undef, A6 n0 1, L6 (lane l 1), L6 (d1L l), L6 (lane l 1 ^^^ d1L l), undef, A6 n0 7, L6 (lane l 7), L6 (d2L l), L6 (lane l 7 ^^^ d2L l), undef, A6 n0 13, L6 (lane l 13), L6 (d3L l), L6 (lane l 13 ^^^ d3L l), undef, A6 n0 19, L6 (lane l 19), L6 (d4L l), L6 (lane l 19 ^^^ d4L l), undef, A6 n0 20, L6 (lane l 20), L6 (d0L l), L6 (lane l 20 ^^^ d0L l), undef, A6 n0 4, L6 (lane l 4), L6 (d4L l), L6 (lane l 4 ^^^ d4L l), undef, A6 n0 5, L6 (lane l 5), L6 (d0L l), L6 (lane l 5 ^^^ d0L l), undef, A6 n0 11, L6 (lane l 11), L6 (d1L l), L6 (lane l 11 ^^^ d1L l), undef, A6 n0 17, L6 (lane l 17), L6 (d2L l), L6 (lane l 17 ^^^ d2L l), undef, A6 n0 23, L6 (lane l 23), L6 (d3L l), L6 (lane l 23 ^^^ d3L l), undef, A6 n0 2, L6 (lane l 2), L6 (d2L l), L6 (lane l 2 ^^^ d2L l), undef, A6 n0 8, L6 (lane l 8), L6 (d3L l), L6 (lane l 8 ^^^ d3L l), undef, A6 n0 14, L6 (lane l 14), L6 (d4L l), L6 (lane l 14 ^^^ d4L l), undef, A6 n0 15, L6 (lane l 15), L6 (d0L l), L6 (lane l 15 ^^^ d0L l), undef, A6 n0 21, L6 (lane l 21), L6 (d1L l), L6 (lane l 21 ^^^ d1L l), undef, undef]).toArray, []⟩ X
def mixS6 (l : List UInt64) (n0 : Nat) (X : World) (Q : Exit → Act → World → Prop) : Prop := wpAnyH Tryz.prog .any mixOps.toArray Q (fun w' => w'.rangeAt n0 0 (laneCells l)) 17 (R6 [(53, true), (1, false), (4, true), (1, false), (4, true), (1, false), (4, true), (1, false), (4, true), (1, false), (4, true), (1, false), (4, true), (1, false), (4, true), (1, false), (4, true), (1, false), (4, true), (1, false), (4, true), (1, false), (4, true), (1, false), (4, true), (1, false), (4, true), (1, false), (4, true), (3, false)]) ⟨(mixP l n0 ++ [A6 n0 0, L6 (lane l 0), L6 (d0L l), L6 (lane l 0 ^^^ d0L l), A6 n0 6, L6 (lane l 6), L6 (d1L l), L6 (lane l 6 ^^^ d1L l), L6 (rotl (lane l 6 ^^^ d1L l) 44), A6 n0 12, L6 (lane l 12), L6 (d2L l), L6 (lane l 12 ^^^ d2L l), L6 (rotl (lane l 12 ^^^ d2L l) 43), A6 n0 18, L6 (lane l 18), L6 (d3L l), L6 (lane l 18 ^^^ d3L l), L6 (rotl (lane l 18 ^^^ d3L l) 21), A6 n0 24, L6 (lane l 24), L6 (d4L l), L6 (lane l 24 ^^^ d4L l), L6 (rotl (lane l 24 ^^^ d4L l) 14), A6 n0 3, L6 (lane l 3), L6 (d3L l), L6 (lane l 3 ^^^ d3L l), L6 (rotl (lane l 3 ^^^ d3L l) 28), A6 n0 9, L6 (lane l 9), L6 (d4L l), L6 (lane l 9 ^^^ d4L l), L6 (rotl (lane l 9 ^^^ d4L l) 20), A6 n0 10, L6 (lane l 10), L6 (d0L l), L6 (lane l 10 ^^^ d0L l), L6 (rotl (lane l 10 ^^^ d0L l) 3), A6 n0 16, L6 (lane l 16), L6 (d1L l), L6 (lane l 16 ^^^ d1L l), L6 (rotl (lane l 16 ^^^ d1L l) 45), A6 n0 22, L6 (lane l 22), L6 (d2L l), L6 (lane l 22 ^^^ d2L l), L6 (rotl (lane l 22 ^^^ d2L l) 61), A6 n0 1, L6 (lane l 1), L6 (d1L l), L6 (lane l 1 ^^^ d1L l), undef, A6 n0 7, L6 (lane l 7), L6 (d2L l), L6 (lane l 7 ^^^ d2L l), undef, A6 n0 13, L6 (lane l 13), L6 (d3L l), L6 (lane l 13 ^^^ d3L l), undef, A6 n0 19, L6 (lane l 19), L6 (d4L l), L6 (lane l 19 ^^^ d4L l), undef, A6 n0 20, L6 (lane l 20), L6 (d0L l), L6 (lane l 20 ^^^ d0L l), undef, A6 n0 4, L6 (lane l 4), L6 (d4L l), L6 (lane l 4 ^^^ d4L l), undef, A6 n0 5, L6 (lane l 5), L6 (d0L l), L6 (lane l 5 ^^^ d0L l), undef, A6 n0 11, L6 (lane l 11), L6 (d1L l), L6 (lane l 11 ^^^ d1L l), undef, A6 n0 17, L6 (lane l 17), L6 (d2L l), L6 (lane l 17 ^^^ d2L l), undef, A6 n0 23, L6 (lane l 23), L6 (d3L l), L6 (lane l 23 ^^^ d3L l), undef, A6 n0 2, L6 (lane l 2), L6 (d2L l), L6 (lane l 2 ^^^ d2L l), undef, A6 n0 8, L6 (lane l 8), L6 (d3L l), L6 (lane l 8 ^^^ d3L l), undef, A6 n0 14, L6 (lane l 14), L6 (d4L l), L6 (lane l 14 ^^^ d4L l), undef, A6 n0 15, L6 (lane l 15), L6 (d0L l), L6 (lane l 15 ^^^ d0L l), undef, A6 n0 21, L6 (lane l 21), L6 (d1L l), L6 (lane l 21 ^^^ d1L l), undef, undef]).toArray, []⟩ X
def mixS7 (l : List UInt64) (n0 : Nat) (X : World) (Q : Exit → Act → World → Prop) : Prop := wpAnyH Tryz.prog .any mixOps.toArray Q (fun w' => w'.rangeAt n0 0 (laneCells l)) 9 (R6 [(93, true), (1, false), (4, true), (1, false), (4, true), (1, false), (4, true), (1, false), (4, true), (1, false), (4, true), (1, false), (4, true), (3, false)]) ⟨(mixP l n0 ++ [A6 n0 0, L6 (lane l 0), L6 (d0L l), L6 (lane l 0 ^^^ d0L l), A6 n0 6, L6 (lane l 6), L6 (d1L l), L6 (lane l 6 ^^^ d1L l), L6 (rotl (lane l 6 ^^^ d1L l) 44), A6 n0 12, L6 (lane l 12), L6 (d2L l), L6 (lane l 12 ^^^ d2L l), L6 (rotl (lane l 12 ^^^ d2L l) 43), A6 n0 18, L6 (lane l 18), L6 (d3L l), L6 (lane l 18 ^^^ d3L l), L6 (rotl (lane l 18 ^^^ d3L l) 21), A6 n0 24, L6 (lane l 24), L6 (d4L l), L6 (lane l 24 ^^^ d4L l), L6 (rotl (lane l 24 ^^^ d4L l) 14), A6 n0 3, L6 (lane l 3), L6 (d3L l), L6 (lane l 3 ^^^ d3L l), L6 (rotl (lane l 3 ^^^ d3L l) 28), A6 n0 9, L6 (lane l 9), L6 (d4L l), L6 (lane l 9 ^^^ d4L l), L6 (rotl (lane l 9 ^^^ d4L l) 20), A6 n0 10, L6 (lane l 10), L6 (d0L l), L6 (lane l 10 ^^^ d0L l), L6 (rotl (lane l 10 ^^^ d0L l) 3), A6 n0 16, L6 (lane l 16), L6 (d1L l), L6 (lane l 16 ^^^ d1L l), L6 (rotl (lane l 16 ^^^ d1L l) 45), A6 n0 22, L6 (lane l 22), L6 (d2L l), L6 (lane l 22 ^^^ d2L l), L6 (rotl (lane l 22 ^^^ d2L l) 61), A6 n0 1, L6 (lane l 1), L6 (d1L l), L6 (lane l 1 ^^^ d1L l), L6 (rotl (lane l 1 ^^^ d1L l) 1), A6 n0 7, L6 (lane l 7), L6 (d2L l), L6 (lane l 7 ^^^ d2L l), L6 (rotl (lane l 7 ^^^ d2L l) 6), A6 n0 13, L6 (lane l 13), L6 (d3L l), L6 (lane l 13 ^^^ d3L l), L6 (rotl (lane l 13 ^^^ d3L l) 25), A6 n0 19, L6 (lane l 19), L6 (d4L l), L6 (lane l 19 ^^^ d4L l), L6 (rotl (lane l 19 ^^^ d4L l) 8), A6 n0 20, L6 (lane l 20), L6 (d0L l), L6 (lane l 20 ^^^ d0L l), L6 (rotl (lane l 20 ^^^ d0L l) 18), A6 n0 4, L6 (lane l 4), L6 (d4L l), L6 (lane l 4 ^^^ d4L l), L6 (rotl (lane l 4 ^^^ d4L l) 27), A6 n0 5, L6 (lane l 5), L6 (d0L l), L6 (lane l 5 ^^^ d0L l), L6 (rotl (lane l 5 ^^^ d0L l) 36), A6 n0 11, L6 (lane l 11), L6 (d1L l), L6 (lane l 11 ^^^ d1L l), L6 (rotl (lane l 11 ^^^ d1L l) 10), A6 n0 17, L6 (lane l 17), L6 (d2L l), L6 (lane l 17 ^^^ d2L l), undef, A6 n0 23, L6 (lane l 23), L6 (d3L l), L6 (lane l 23 ^^^ d3L l), undef, A6 n0 2, L6 (lane l 2), L6 (d2L l), L6 (lane l 2 ^^^ d2L l), undef, A6 n0 8, L6 (lane l 8), L6 (d3L l), L6 (lane l 8 ^^^ d3L l), undef, A6 n0 14, L6 (lane l 14), L6 (d4L l), L6 (lane l 14 ^^^ d4L l), undef, A6 n0 15, L6 (lane l 15), L6 (d0L l), L6 (lane l 15 ^^^ d0L l), undef, A6 n0 21, L6 (lane l 21), L6 (d1L l), L6 (lane l 21 ^^^ d1L l), undef, undef]).toArray, []⟩ X
def mixS8 (l : List UInt64) (n0 : Nat) (X : World) (Q : Exit → Act → World → Prop) : Prop := wpAnyH Tryz.prog .any mixOps.toArray Q (fun w' => w'.rangeAt n0 0 (laneCells l)) 1 (R6 [(125, true), (1, false)]) ⟨(mixP l n0 ++ [A6 n0 0, L6 (lane l 0), L6 (d0L l), L6 (lane l 0 ^^^ d0L l), A6 n0 6, L6 (lane l 6), L6 (d1L l), L6 (lane l 6 ^^^ d1L l), L6 (rotl (lane l 6 ^^^ d1L l) 44), A6 n0 12, L6 (lane l 12), L6 (d2L l), L6 (lane l 12 ^^^ d2L l), L6 (rotl (lane l 12 ^^^ d2L l) 43), A6 n0 18, L6 (lane l 18), L6 (d3L l), L6 (lane l 18 ^^^ d3L l), L6 (rotl (lane l 18 ^^^ d3L l) 21), A6 n0 24, L6 (lane l 24), L6 (d4L l), L6 (lane l 24 ^^^ d4L l), L6 (rotl (lane l 24 ^^^ d4L l) 14), A6 n0 3, L6 (lane l 3), L6 (d3L l), L6 (lane l 3 ^^^ d3L l), L6 (rotl (lane l 3 ^^^ d3L l) 28), A6 n0 9, L6 (lane l 9), L6 (d4L l), L6 (lane l 9 ^^^ d4L l), L6 (rotl (lane l 9 ^^^ d4L l) 20), A6 n0 10, L6 (lane l 10), L6 (d0L l), L6 (lane l 10 ^^^ d0L l), L6 (rotl (lane l 10 ^^^ d0L l) 3), A6 n0 16, L6 (lane l 16), L6 (d1L l), L6 (lane l 16 ^^^ d1L l), L6 (rotl (lane l 16 ^^^ d1L l) 45), A6 n0 22, L6 (lane l 22), L6 (d2L l), L6 (lane l 22 ^^^ d2L l), L6 (rotl (lane l 22 ^^^ d2L l) 61), A6 n0 1, L6 (lane l 1), L6 (d1L l), L6 (lane l 1 ^^^ d1L l), L6 (rotl (lane l 1 ^^^ d1L l) 1), A6 n0 7, L6 (lane l 7), L6 (d2L l), L6 (lane l 7 ^^^ d2L l), L6 (rotl (lane l 7 ^^^ d2L l) 6), A6 n0 13, L6 (lane l 13), L6 (d3L l), L6 (lane l 13 ^^^ d3L l), L6 (rotl (lane l 13 ^^^ d3L l) 25), A6 n0 19, L6 (lane l 19), L6 (d4L l), L6 (lane l 19 ^^^ d4L l), L6 (rotl (lane l 19 ^^^ d4L l) 8), A6 n0 20, L6 (lane l 20), L6 (d0L l), L6 (lane l 20 ^^^ d0L l), L6 (rotl (lane l 20 ^^^ d0L l) 18), A6 n0 4, L6 (lane l 4), L6 (d4L l), L6 (lane l 4 ^^^ d4L l), L6 (rotl (lane l 4 ^^^ d4L l) 27), A6 n0 5, L6 (lane l 5), L6 (d0L l), L6 (lane l 5 ^^^ d0L l), L6 (rotl (lane l 5 ^^^ d0L l) 36), A6 n0 11, L6 (lane l 11), L6 (d1L l), L6 (lane l 11 ^^^ d1L l), L6 (rotl (lane l 11 ^^^ d1L l) 10), A6 n0 17, L6 (lane l 17), L6 (d2L l), L6 (lane l 17 ^^^ d2L l), L6 (rotl (lane l 17 ^^^ d2L l) 15), A6 n0 23, L6 (lane l 23), L6 (d3L l), L6 (lane l 23 ^^^ d3L l), L6 (rotl (lane l 23 ^^^ d3L l) 56), A6 n0 2, L6 (lane l 2), L6 (d2L l), L6 (lane l 2 ^^^ d2L l), L6 (rotl (lane l 2 ^^^ d2L l) 62), A6 n0 8, L6 (lane l 8), L6 (d3L l), L6 (lane l 8 ^^^ d3L l), L6 (rotl (lane l 8 ^^^ d3L l) 55), A6 n0 14, L6 (lane l 14), L6 (d4L l), L6 (lane l 14 ^^^ d4L l), L6 (rotl (lane l 14 ^^^ d4L l) 39), A6 n0 15, L6 (lane l 15), L6 (d0L l), L6 (lane l 15 ^^^ d0L l), L6 (rotl (lane l 15 ^^^ d0L l) 41), A6 n0 21, L6 (lane l 21), L6 (d1L l), L6 (lane l 21 ^^^ d1L l), L6 (rotl (lane l 21 ^^^ d1L l) 2), .agg (laneCells (mixL l)).toArray]).toArray, []⟩ X
set_option maxHeartbeats 1000000 in
theorem mixC0 (l : List UInt64) (hl : l.length = 25) (n0 : Nat) (X : World) (Q : Exit → Act → World → Prop) (hQ : ∀ c a d v w, Q (.panic c) (Act.put a d v) w → Q (.panic c) a w) (hX : X.rangeAt n0 0 (laneCells l)) (h : mixS1 l n0 X Q) : mixS0 l n0 X Q := by
 unfold mixS0
 simp only [mixP, R6, R6.go, List.replicate, List.cons_append, List.nil_append]
 refine held_value 0 _ _ (some 103) (.pointer (some ⟨n0, 0, none⟩)) (by kernel_rfl) (by rfl) (by kernel_rfl) (fun w _ => by kernel_rfl) (fun c a v w => hQ c a _ v w) hX ?_
 simp only [Act.put, arr9, hd9, tl9]
 refine held_value 1 _ _ (some 104) (.int .u64 ((lane l 0).toNat : Int)) (by kernel_rfl) (by rfl) (by kernel_rfl) (fun w e => run_load1 rfl Tryz.underlying74 (by kernel_rfl) (e 0 _ (laneCells_lane l 0 (by omega)))) (fun c a v w => hQ c a _ v w) hX ?_
 simp only [Act.put, arr9, hd9, tl9]
 refine held_value 2 _ _ (some 105) (.int .u64 ((d0L l).toNat : Int)) (by kernel_rfl) (by rfl) (by kernel_rfl) (fun w _ => by kernel_rfl) (fun c a v w => hQ c a _ v w) hX ?_
 simp only [Act.put, arr9, hd9, tl9]
 refine held_value 3 _ _ (some 106) (.int .u64 ((lane l 0 ^^^ d0L l).toNat : Int)) (by kernel_rfl) (by rfl) (by kernel_rfl) (fun w _ => run_xorL (p := lane l 0) (q := d0L l) rfl (by kernel_rfl) (by kernel_rfl)) (fun c a v w => hQ c a _ v w) hX ?_
 simp only [Act.put, arr9, hd9, tl9]
 refine held_value 4 _ _ (some 107) (.pointer (some ⟨n0, 6, none⟩)) (by kernel_rfl) (by rfl) (by kernel_rfl) (fun w _ => by kernel_rfl) (fun c a v w => hQ c a _ v w) hX ?_
 simp only [Act.put, arr9, hd9, tl9]
 refine held_value 5 _ _ (some 108) (.int .u64 ((lane l 6).toNat : Int)) (by kernel_rfl) (by rfl) (by kernel_rfl) (fun w e => run_load1 rfl Tryz.underlying74 (by kernel_rfl) (e 6 _ (laneCells_lane l 6 (by omega)))) (fun c a v w => hQ c a _ v w) hX ?_
 simp only [Act.put, arr9, hd9, tl9]
 refine held_value 6 _ _ (some 109) (.int .u64 ((d1L l).toNat : Int)) (by kernel_rfl) (by rfl) (by kernel_rfl) (fun w _ => by kernel_rfl) (fun c a v w => hQ c a _ v w) hX ?_
 simp only [Act.put, arr9, hd9, tl9]
 refine held_value 7 _ _ (some 110) (.int .u64 ((lane l 6 ^^^ d1L l).toNat : Int)) (by kernel_rfl) (by rfl) (by kernel_rfl) (fun w _ => run_xorL (p := lane l 6) (q := d1L l) rfl (by kernel_rfl) (by kernel_rfl)) (fun c a v w => hQ c a _ v w) hX ?_
 simp only [Act.put, arr9, hd9, tl9]
 refine held_value 9 _ _ (some 112) (.pointer (some ⟨n0, 12, none⟩)) (by kernel_rfl) (by rfl) (by kernel_rfl) (fun w _ => by kernel_rfl) (fun c a v w => hQ c a _ v w) hX ?_
 simp only [Act.put, arr9, hd9, tl9]
 refine held_value 10 _ _ (some 113) (.int .u64 ((lane l 12).toNat : Int)) (by kernel_rfl) (by rfl) (by kernel_rfl) (fun w e => run_load1 rfl Tryz.underlying74 (by kernel_rfl) (e 12 _ (laneCells_lane l 12 (by omega)))) (fun c a v w => hQ c a _ v w) hX ?_
 simp only [Act.put, arr9, hd9, tl9]
 refine held_value 11 _ _ (some 114) (.int .u64 ((d2L l).toNat : Int)) (by kernel_rfl) (by rfl) (by kernel_rfl) (fun w _ => by kernel_rfl) (fun c a v w => hQ c a _ v w) hX ?_
 simp only [Act.put, arr9, hd9, tl9]
 refine held_value 12 _ _ (some 115) (.int .u64 ((lane l 12 ^^^ d2L l).toNat : Int)) (by kernel_rfl) (by rfl) (by kernel_rfl) (fun w _ => run_xorL (p := lane l 12) (q := d2L l) rfl (by kernel_rfl) (by kernel_rfl)) (fun c a v w => hQ c a _ v w) hX ?_
 simp only [Act.put, arr9, hd9, tl9]
 refine held_value 14 _ _ (some 117) (.pointer (some ⟨n0, 18, none⟩)) (by kernel_rfl) (by rfl) (by kernel_rfl) (fun w _ => by kernel_rfl) (fun c a v w => hQ c a _ v w) hX ?_
 simp only [Act.put, arr9, hd9, tl9]
 refine held_value 15 _ _ (some 118) (.int .u64 ((lane l 18).toNat : Int)) (by kernel_rfl) (by rfl) (by kernel_rfl) (fun w e => run_load1 rfl Tryz.underlying74 (by kernel_rfl) (e 18 _ (laneCells_lane l 18 (by omega)))) (fun c a v w => hQ c a _ v w) hX ?_
 simp only [Act.put, arr9, hd9, tl9]
 refine held_value 16 _ _ (some 119) (.int .u64 ((d3L l).toNat : Int)) (by kernel_rfl) (by rfl) (by kernel_rfl) (fun w _ => by kernel_rfl) (fun c a v w => hQ c a _ v w) hX ?_
 simp only [Act.put, arr9, hd9, tl9]
 refine held_value 17 _ _ (some 120) (.int .u64 ((lane l 18 ^^^ d3L l).toNat : Int)) (by kernel_rfl) (by rfl) (by kernel_rfl) (fun w _ => run_xorL (p := lane l 18) (q := d3L l) rfl (by kernel_rfl) (by kernel_rfl)) (fun c a v w => hQ c a _ v w) hX ?_
 simp only [Act.put, arr9, hd9, tl9]
 refine held_value 19 _ _ (some 122) (.pointer (some ⟨n0, 24, none⟩)) (by kernel_rfl) (by rfl) (by kernel_rfl) (fun w _ => by kernel_rfl) (fun c a v w => hQ c a _ v w) hX ?_
 simp only [Act.put, arr9, hd9, tl9]
 refine held_value 20 _ _ (some 123) (.int .u64 ((lane l 24).toNat : Int)) (by kernel_rfl) (by rfl) (by kernel_rfl) (fun w e => run_load1 rfl Tryz.underlying74 (by kernel_rfl) (e 24 _ (laneCells_lane l 24 (by omega)))) (fun c a v w => hQ c a _ v w) hX ?_
 simp only [Act.put, arr9, hd9, tl9]
 refine held_value 21 _ _ (some 124) (.int .u64 ((d4L l).toNat : Int)) (by kernel_rfl) (by rfl) (by kernel_rfl) (fun w _ => by kernel_rfl) (fun c a v w => hQ c a _ v w) hX ?_
 simp only [Act.put, arr9, hd9, tl9]
 refine held_value 22 _ _ (some 125) (.int .u64 ((lane l 24 ^^^ d4L l).toNat : Int)) (by kernel_rfl) (by rfl) (by kernel_rfl) (fun w _ => run_xorL (p := lane l 24) (q := d4L l) rfl (by kernel_rfl) (by kernel_rfl)) (fun c a v w => hQ c a _ v w) hX ?_
 simp only [Act.put, arr9, hd9, tl9]
 exact h
set_option maxHeartbeats 1000000 in
theorem mixC1 (l : List UInt64) (hl : l.length = 25) (n0 : Nat) (X : World) (Q : Exit → Act → World → Prop) (hQ : ∀ c a d v w, Q (.panic c) (Act.put a d v) w → Q (.panic c) a w) (hX : X.rangeAt n0 0 (laneCells l)) (h : mixS2 l n0 X Q) : mixS1 l n0 X Q := by
 unfold mixS1
 simp only [mixP, R6, R6.go, List.replicate, List.cons_append, List.nil_append]
 refine held_value 24 _ _ (some 127) (.pointer (some ⟨n0, 3, none⟩)) (by kernel_rfl) (by rfl) (by kernel_rfl) (fun w _ => by kernel_rfl) (fun c a v w => hQ c a _ v w) hX ?_
 simp only [Act.put, arr9, hd9, tl9]
 refine held_value 25 _ _ (some 128) (.int .u64 ((lane l 3).toNat : Int)) (by kernel_rfl) (by rfl) (by kernel_rfl) (fun w e => run_load1 rfl Tryz.underlying74 (by kernel_rfl) (e 3 _ (laneCells_lane l 3 (by omega)))) (fun c a v w => hQ c a _ v w) hX ?_
 simp only [Act.put, arr9, hd9, tl9]
 refine held_value 26 _ _ (some 129) (.int .u64 ((d3L l).toNat : Int)) (by kernel_rfl) (by rfl) (by kernel_rfl) (fun w _ => by kernel_rfl) (fun c a v w => hQ c a _ v w) hX ?_
 simp only [Act.put, arr9, hd9, tl9]
 refine held_value 27 _ _ (some 130) (.int .u64 ((lane l 3 ^^^ d3L l).toNat : Int)) (by kernel_rfl) (by rfl) (by kernel_rfl) (fun w _ => run_xorL (p := lane l 3) (q := d3L l) rfl (by kernel_rfl) (by kernel_rfl)) (fun c a v w => hQ c a _ v w) hX ?_
 simp only [Act.put, arr9, hd9, tl9]
 refine held_value 29 _ _ (some 132) (.pointer (some ⟨n0, 9, none⟩)) (by kernel_rfl) (by rfl) (by kernel_rfl) (fun w _ => by kernel_rfl) (fun c a v w => hQ c a _ v w) hX ?_
 simp only [Act.put, arr9, hd9, tl9]
 refine held_value 30 _ _ (some 133) (.int .u64 ((lane l 9).toNat : Int)) (by kernel_rfl) (by rfl) (by kernel_rfl) (fun w e => run_load1 rfl Tryz.underlying74 (by kernel_rfl) (e 9 _ (laneCells_lane l 9 (by omega)))) (fun c a v w => hQ c a _ v w) hX ?_
 simp only [Act.put, arr9, hd9, tl9]
 refine held_value 31 _ _ (some 134) (.int .u64 ((d4L l).toNat : Int)) (by kernel_rfl) (by rfl) (by kernel_rfl) (fun w _ => by kernel_rfl) (fun c a v w => hQ c a _ v w) hX ?_
 simp only [Act.put, arr9, hd9, tl9]
 refine held_value 32 _ _ (some 135) (.int .u64 ((lane l 9 ^^^ d4L l).toNat : Int)) (by kernel_rfl) (by rfl) (by kernel_rfl) (fun w _ => run_xorL (p := lane l 9) (q := d4L l) rfl (by kernel_rfl) (by kernel_rfl)) (fun c a v w => hQ c a _ v w) hX ?_
 simp only [Act.put, arr9, hd9, tl9]
 refine held_value 34 _ _ (some 137) (.pointer (some ⟨n0, 10, none⟩)) (by kernel_rfl) (by rfl) (by kernel_rfl) (fun w _ => by kernel_rfl) (fun c a v w => hQ c a _ v w) hX ?_
 simp only [Act.put, arr9, hd9, tl9]
 refine held_value 35 _ _ (some 138) (.int .u64 ((lane l 10).toNat : Int)) (by kernel_rfl) (by rfl) (by kernel_rfl) (fun w e => run_load1 rfl Tryz.underlying74 (by kernel_rfl) (e 10 _ (laneCells_lane l 10 (by omega)))) (fun c a v w => hQ c a _ v w) hX ?_
 simp only [Act.put, arr9, hd9, tl9]
 refine held_value 36 _ _ (some 139) (.int .u64 ((d0L l).toNat : Int)) (by kernel_rfl) (by rfl) (by kernel_rfl) (fun w _ => by kernel_rfl) (fun c a v w => hQ c a _ v w) hX ?_
 simp only [Act.put, arr9, hd9, tl9]
 refine held_value 37 _ _ (some 140) (.int .u64 ((lane l 10 ^^^ d0L l).toNat : Int)) (by kernel_rfl) (by rfl) (by kernel_rfl) (fun w _ => run_xorL (p := lane l 10) (q := d0L l) rfl (by kernel_rfl) (by kernel_rfl)) (fun c a v w => hQ c a _ v w) hX ?_
 simp only [Act.put, arr9, hd9, tl9]
 refine held_value 39 _ _ (some 142) (.pointer (some ⟨n0, 16, none⟩)) (by kernel_rfl) (by rfl) (by kernel_rfl) (fun w _ => by kernel_rfl) (fun c a v w => hQ c a _ v w) hX ?_
 simp only [Act.put, arr9, hd9, tl9]
 refine held_value 40 _ _ (some 143) (.int .u64 ((lane l 16).toNat : Int)) (by kernel_rfl) (by rfl) (by kernel_rfl) (fun w e => run_load1 rfl Tryz.underlying74 (by kernel_rfl) (e 16 _ (laneCells_lane l 16 (by omega)))) (fun c a v w => hQ c a _ v w) hX ?_
 simp only [Act.put, arr9, hd9, tl9]
 refine held_value 41 _ _ (some 144) (.int .u64 ((d1L l).toNat : Int)) (by kernel_rfl) (by rfl) (by kernel_rfl) (fun w _ => by kernel_rfl) (fun c a v w => hQ c a _ v w) hX ?_
 simp only [Act.put, arr9, hd9, tl9]
 refine held_value 42 _ _ (some 145) (.int .u64 ((lane l 16 ^^^ d1L l).toNat : Int)) (by kernel_rfl) (by rfl) (by kernel_rfl) (fun w _ => run_xorL (p := lane l 16) (q := d1L l) rfl (by kernel_rfl) (by kernel_rfl)) (fun c a v w => hQ c a _ v w) hX ?_
 simp only [Act.put, arr9, hd9, tl9]
 refine held_value 44 _ _ (some 147) (.pointer (some ⟨n0, 22, none⟩)) (by kernel_rfl) (by rfl) (by kernel_rfl) (fun w _ => by kernel_rfl) (fun c a v w => hQ c a _ v w) hX ?_
 simp only [Act.put, arr9, hd9, tl9]
 refine held_value 45 _ _ (some 148) (.int .u64 ((lane l 22).toNat : Int)) (by kernel_rfl) (by rfl) (by kernel_rfl) (fun w e => run_load1 rfl Tryz.underlying74 (by kernel_rfl) (e 22 _ (laneCells_lane l 22 (by omega)))) (fun c a v w => hQ c a _ v w) hX ?_
 simp only [Act.put, arr9, hd9, tl9]
 refine held_value 46 _ _ (some 149) (.int .u64 ((d2L l).toNat : Int)) (by kernel_rfl) (by rfl) (by kernel_rfl) (fun w _ => by kernel_rfl) (fun c a v w => hQ c a _ v w) hX ?_
 simp only [Act.put, arr9, hd9, tl9]
 refine held_value 47 _ _ (some 150) (.int .u64 ((lane l 22 ^^^ d2L l).toNat : Int)) (by kernel_rfl) (by rfl) (by kernel_rfl) (fun w _ => run_xorL (p := lane l 22) (q := d2L l) rfl (by kernel_rfl) (by kernel_rfl)) (fun c a v w => hQ c a _ v w) hX ?_
 simp only [Act.put, arr9, hd9, tl9]
 exact h
set_option maxHeartbeats 1000000 in
theorem mixC2 (l : List UInt64) (hl : l.length = 25) (n0 : Nat) (X : World) (Q : Exit → Act → World → Prop) (hQ : ∀ c a d v w, Q (.panic c) (Act.put a d v) w → Q (.panic c) a w) (hX : X.rangeAt n0 0 (laneCells l)) (h : mixS3 l n0 X Q) : mixS2 l n0 X Q := by
 unfold mixS2
 simp only [mixP, R6, R6.go, List.replicate, List.cons_append, List.nil_append]
 refine held_value 49 _ _ (some 152) (.pointer (some ⟨n0, 1, none⟩)) (by kernel_rfl) (by rfl) (by kernel_rfl) (fun w _ => by kernel_rfl) (fun c a v w => hQ c a _ v w) hX ?_
 simp only [Act.put, arr9, hd9, tl9]
 refine held_value 50 _ _ (some 153) (.int .u64 ((lane l 1).toNat : Int)) (by kernel_rfl) (by rfl) (by kernel_rfl) (fun w e => run_load1 rfl Tryz.underlying74 (by kernel_rfl) (e 1 _ (laneCells_lane l 1 (by omega)))) (fun c a v w => hQ c a _ v w) hX ?_
 simp only [Act.put, arr9, hd9, tl9]
 refine held_value 51 _ _ (some 154) (.int .u64 ((d1L l).toNat : Int)) (by kernel_rfl) (by rfl) (by kernel_rfl) (fun w _ => by kernel_rfl) (fun c a v w => hQ c a _ v w) hX ?_
 simp only [Act.put, arr9, hd9, tl9]
 refine held_value 52 _ _ (some 155) (.int .u64 ((lane l 1 ^^^ d1L l).toNat : Int)) (by kernel_rfl) (by rfl) (by kernel_rfl) (fun w _ => run_xorL (p := lane l 1) (q := d1L l) rfl (by kernel_rfl) (by kernel_rfl)) (fun c a v w => hQ c a _ v w) hX ?_
 simp only [Act.put, arr9, hd9, tl9]
 refine held_value 54 _ _ (some 157) (.pointer (some ⟨n0, 7, none⟩)) (by kernel_rfl) (by rfl) (by kernel_rfl) (fun w _ => by kernel_rfl) (fun c a v w => hQ c a _ v w) hX ?_
 simp only [Act.put, arr9, hd9, tl9]
 refine held_value 55 _ _ (some 158) (.int .u64 ((lane l 7).toNat : Int)) (by kernel_rfl) (by rfl) (by kernel_rfl) (fun w e => run_load1 rfl Tryz.underlying74 (by kernel_rfl) (e 7 _ (laneCells_lane l 7 (by omega)))) (fun c a v w => hQ c a _ v w) hX ?_
 simp only [Act.put, arr9, hd9, tl9]
 refine held_value 56 _ _ (some 159) (.int .u64 ((d2L l).toNat : Int)) (by kernel_rfl) (by rfl) (by kernel_rfl) (fun w _ => by kernel_rfl) (fun c a v w => hQ c a _ v w) hX ?_
 simp only [Act.put, arr9, hd9, tl9]
 refine held_value 57 _ _ (some 160) (.int .u64 ((lane l 7 ^^^ d2L l).toNat : Int)) (by kernel_rfl) (by rfl) (by kernel_rfl) (fun w _ => run_xorL (p := lane l 7) (q := d2L l) rfl (by kernel_rfl) (by kernel_rfl)) (fun c a v w => hQ c a _ v w) hX ?_
 simp only [Act.put, arr9, hd9, tl9]
 refine held_value 59 _ _ (some 162) (.pointer (some ⟨n0, 13, none⟩)) (by kernel_rfl) (by rfl) (by kernel_rfl) (fun w _ => by kernel_rfl) (fun c a v w => hQ c a _ v w) hX ?_
 simp only [Act.put, arr9, hd9, tl9]
 refine held_value 60 _ _ (some 163) (.int .u64 ((lane l 13).toNat : Int)) (by kernel_rfl) (by rfl) (by kernel_rfl) (fun w e => run_load1 rfl Tryz.underlying74 (by kernel_rfl) (e 13 _ (laneCells_lane l 13 (by omega)))) (fun c a v w => hQ c a _ v w) hX ?_
 simp only [Act.put, arr9, hd9, tl9]
 refine held_value 61 _ _ (some 164) (.int .u64 ((d3L l).toNat : Int)) (by kernel_rfl) (by rfl) (by kernel_rfl) (fun w _ => by kernel_rfl) (fun c a v w => hQ c a _ v w) hX ?_
 simp only [Act.put, arr9, hd9, tl9]
 refine held_value 62 _ _ (some 165) (.int .u64 ((lane l 13 ^^^ d3L l).toNat : Int)) (by kernel_rfl) (by rfl) (by kernel_rfl) (fun w _ => run_xorL (p := lane l 13) (q := d3L l) rfl (by kernel_rfl) (by kernel_rfl)) (fun c a v w => hQ c a _ v w) hX ?_
 simp only [Act.put, arr9, hd9, tl9]
 refine held_value 64 _ _ (some 167) (.pointer (some ⟨n0, 19, none⟩)) (by kernel_rfl) (by rfl) (by kernel_rfl) (fun w _ => by kernel_rfl) (fun c a v w => hQ c a _ v w) hX ?_
 simp only [Act.put, arr9, hd9, tl9]
 refine held_value 65 _ _ (some 168) (.int .u64 ((lane l 19).toNat : Int)) (by kernel_rfl) (by rfl) (by kernel_rfl) (fun w e => run_load1 rfl Tryz.underlying74 (by kernel_rfl) (e 19 _ (laneCells_lane l 19 (by omega)))) (fun c a v w => hQ c a _ v w) hX ?_
 simp only [Act.put, arr9, hd9, tl9]
 refine held_value 66 _ _ (some 169) (.int .u64 ((d4L l).toNat : Int)) (by kernel_rfl) (by rfl) (by kernel_rfl) (fun w _ => by kernel_rfl) (fun c a v w => hQ c a _ v w) hX ?_
 simp only [Act.put, arr9, hd9, tl9]
 refine held_value 67 _ _ (some 170) (.int .u64 ((lane l 19 ^^^ d4L l).toNat : Int)) (by kernel_rfl) (by rfl) (by kernel_rfl) (fun w _ => run_xorL (p := lane l 19) (q := d4L l) rfl (by kernel_rfl) (by kernel_rfl)) (fun c a v w => hQ c a _ v w) hX ?_
 simp only [Act.put, arr9, hd9, tl9]
 refine held_value 69 _ _ (some 172) (.pointer (some ⟨n0, 20, none⟩)) (by kernel_rfl) (by rfl) (by kernel_rfl) (fun w _ => by kernel_rfl) (fun c a v w => hQ c a _ v w) hX ?_
 simp only [Act.put, arr9, hd9, tl9]
 refine held_value 70 _ _ (some 173) (.int .u64 ((lane l 20).toNat : Int)) (by kernel_rfl) (by rfl) (by kernel_rfl) (fun w e => run_load1 rfl Tryz.underlying74 (by kernel_rfl) (e 20 _ (laneCells_lane l 20 (by omega)))) (fun c a v w => hQ c a _ v w) hX ?_
 simp only [Act.put, arr9, hd9, tl9]
 refine held_value 71 _ _ (some 174) (.int .u64 ((d0L l).toNat : Int)) (by kernel_rfl) (by rfl) (by kernel_rfl) (fun w _ => by kernel_rfl) (fun c a v w => hQ c a _ v w) hX ?_
 simp only [Act.put, arr9, hd9, tl9]
 refine held_value 72 _ _ (some 175) (.int .u64 ((lane l 20 ^^^ d0L l).toNat : Int)) (by kernel_rfl) (by rfl) (by kernel_rfl) (fun w _ => run_xorL (p := lane l 20) (q := d0L l) rfl (by kernel_rfl) (by kernel_rfl)) (fun c a v w => hQ c a _ v w) hX ?_
 simp only [Act.put, arr9, hd9, tl9]
 exact h
set_option maxHeartbeats 1000000 in
theorem mixC3 (l : List UInt64) (hl : l.length = 25) (n0 : Nat) (X : World) (Q : Exit → Act → World → Prop) (hQ : ∀ c a d v w, Q (.panic c) (Act.put a d v) w → Q (.panic c) a w) (hX : X.rangeAt n0 0 (laneCells l)) (h : mixS4 l n0 X Q) : mixS3 l n0 X Q := by
 unfold mixS3
 simp only [mixP, R6, R6.go, List.replicate, List.cons_append, List.nil_append]
 refine held_value 74 _ _ (some 177) (.pointer (some ⟨n0, 4, none⟩)) (by kernel_rfl) (by rfl) (by kernel_rfl) (fun w _ => by kernel_rfl) (fun c a v w => hQ c a _ v w) hX ?_
 simp only [Act.put, arr9, hd9, tl9]
 refine held_value 75 _ _ (some 178) (.int .u64 ((lane l 4).toNat : Int)) (by kernel_rfl) (by rfl) (by kernel_rfl) (fun w e => run_load1 rfl Tryz.underlying74 (by kernel_rfl) (e 4 _ (laneCells_lane l 4 (by omega)))) (fun c a v w => hQ c a _ v w) hX ?_
 simp only [Act.put, arr9, hd9, tl9]
 refine held_value 76 _ _ (some 179) (.int .u64 ((d4L l).toNat : Int)) (by kernel_rfl) (by rfl) (by kernel_rfl) (fun w _ => by kernel_rfl) (fun c a v w => hQ c a _ v w) hX ?_
 simp only [Act.put, arr9, hd9, tl9]
 refine held_value 77 _ _ (some 180) (.int .u64 ((lane l 4 ^^^ d4L l).toNat : Int)) (by kernel_rfl) (by rfl) (by kernel_rfl) (fun w _ => run_xorL (p := lane l 4) (q := d4L l) rfl (by kernel_rfl) (by kernel_rfl)) (fun c a v w => hQ c a _ v w) hX ?_
 simp only [Act.put, arr9, hd9, tl9]
 refine held_value 79 _ _ (some 182) (.pointer (some ⟨n0, 5, none⟩)) (by kernel_rfl) (by rfl) (by kernel_rfl) (fun w _ => by kernel_rfl) (fun c a v w => hQ c a _ v w) hX ?_
 simp only [Act.put, arr9, hd9, tl9]
 refine held_value 80 _ _ (some 183) (.int .u64 ((lane l 5).toNat : Int)) (by kernel_rfl) (by rfl) (by kernel_rfl) (fun w e => run_load1 rfl Tryz.underlying74 (by kernel_rfl) (e 5 _ (laneCells_lane l 5 (by omega)))) (fun c a v w => hQ c a _ v w) hX ?_
 simp only [Act.put, arr9, hd9, tl9]
 refine held_value 81 _ _ (some 184) (.int .u64 ((d0L l).toNat : Int)) (by kernel_rfl) (by rfl) (by kernel_rfl) (fun w _ => by kernel_rfl) (fun c a v w => hQ c a _ v w) hX ?_
 simp only [Act.put, arr9, hd9, tl9]
 refine held_value 82 _ _ (some 185) (.int .u64 ((lane l 5 ^^^ d0L l).toNat : Int)) (by kernel_rfl) (by rfl) (by kernel_rfl) (fun w _ => run_xorL (p := lane l 5) (q := d0L l) rfl (by kernel_rfl) (by kernel_rfl)) (fun c a v w => hQ c a _ v w) hX ?_
 simp only [Act.put, arr9, hd9, tl9]
 refine held_value 84 _ _ (some 187) (.pointer (some ⟨n0, 11, none⟩)) (by kernel_rfl) (by rfl) (by kernel_rfl) (fun w _ => by kernel_rfl) (fun c a v w => hQ c a _ v w) hX ?_
 simp only [Act.put, arr9, hd9, tl9]
 refine held_value 85 _ _ (some 188) (.int .u64 ((lane l 11).toNat : Int)) (by kernel_rfl) (by rfl) (by kernel_rfl) (fun w e => run_load1 rfl Tryz.underlying74 (by kernel_rfl) (e 11 _ (laneCells_lane l 11 (by omega)))) (fun c a v w => hQ c a _ v w) hX ?_
 simp only [Act.put, arr9, hd9, tl9]
 refine held_value 86 _ _ (some 189) (.int .u64 ((d1L l).toNat : Int)) (by kernel_rfl) (by rfl) (by kernel_rfl) (fun w _ => by kernel_rfl) (fun c a v w => hQ c a _ v w) hX ?_
 simp only [Act.put, arr9, hd9, tl9]
 refine held_value 87 _ _ (some 190) (.int .u64 ((lane l 11 ^^^ d1L l).toNat : Int)) (by kernel_rfl) (by rfl) (by kernel_rfl) (fun w _ => run_xorL (p := lane l 11) (q := d1L l) rfl (by kernel_rfl) (by kernel_rfl)) (fun c a v w => hQ c a _ v w) hX ?_
 simp only [Act.put, arr9, hd9, tl9]
 refine held_value 89 _ _ (some 192) (.pointer (some ⟨n0, 17, none⟩)) (by kernel_rfl) (by rfl) (by kernel_rfl) (fun w _ => by kernel_rfl) (fun c a v w => hQ c a _ v w) hX ?_
 simp only [Act.put, arr9, hd9, tl9]
 refine held_value 90 _ _ (some 193) (.int .u64 ((lane l 17).toNat : Int)) (by kernel_rfl) (by rfl) (by kernel_rfl) (fun w e => run_load1 rfl Tryz.underlying74 (by kernel_rfl) (e 17 _ (laneCells_lane l 17 (by omega)))) (fun c a v w => hQ c a _ v w) hX ?_
 simp only [Act.put, arr9, hd9, tl9]
 refine held_value 91 _ _ (some 194) (.int .u64 ((d2L l).toNat : Int)) (by kernel_rfl) (by rfl) (by kernel_rfl) (fun w _ => by kernel_rfl) (fun c a v w => hQ c a _ v w) hX ?_
 simp only [Act.put, arr9, hd9, tl9]
 refine held_value 92 _ _ (some 195) (.int .u64 ((lane l 17 ^^^ d2L l).toNat : Int)) (by kernel_rfl) (by rfl) (by kernel_rfl) (fun w _ => run_xorL (p := lane l 17) (q := d2L l) rfl (by kernel_rfl) (by kernel_rfl)) (fun c a v w => hQ c a _ v w) hX ?_
 simp only [Act.put, arr9, hd9, tl9]
 refine held_value 94 _ _ (some 197) (.pointer (some ⟨n0, 23, none⟩)) (by kernel_rfl) (by rfl) (by kernel_rfl) (fun w _ => by kernel_rfl) (fun c a v w => hQ c a _ v w) hX ?_
 simp only [Act.put, arr9, hd9, tl9]
 refine held_value 95 _ _ (some 198) (.int .u64 ((lane l 23).toNat : Int)) (by kernel_rfl) (by rfl) (by kernel_rfl) (fun w e => run_load1 rfl Tryz.underlying74 (by kernel_rfl) (e 23 _ (laneCells_lane l 23 (by omega)))) (fun c a v w => hQ c a _ v w) hX ?_
 simp only [Act.put, arr9, hd9, tl9]
 refine held_value 96 _ _ (some 199) (.int .u64 ((d3L l).toNat : Int)) (by kernel_rfl) (by rfl) (by kernel_rfl) (fun w _ => by kernel_rfl) (fun c a v w => hQ c a _ v w) hX ?_
 simp only [Act.put, arr9, hd9, tl9]
 refine held_value 97 _ _ (some 200) (.int .u64 ((lane l 23 ^^^ d3L l).toNat : Int)) (by kernel_rfl) (by rfl) (by kernel_rfl) (fun w _ => run_xorL (p := lane l 23) (q := d3L l) rfl (by kernel_rfl) (by kernel_rfl)) (fun c a v w => hQ c a _ v w) hX ?_
 simp only [Act.put, arr9, hd9, tl9]
 exact h
end Go.Proofs.YtdakbipiifkmfaaGreatDoor


/-
 WALK: a part of keccak.mix's last statement.
-/
namespace Go.Proofs.YtdakbipiifkmfaaGreatDoor
open Go.RowKit
set_option maxRecDepth 100000

set_option maxHeartbeats 1000000 in
theorem mixC4 (l : List UInt64) (hl : l.length = 25) (n0 : Nat) (X : World) (Q : Exit → Act → World → Prop) (hQ : ∀ c a d v w, Q (.panic c) (Act.put a d v) w → Q (.panic c) a w) (hX : X.rangeAt n0 0 (laneCells l)) (h : mixS5 l n0 X Q) : mixS4 l n0 X Q := by
 unfold mixS4
 simp only [mixP, R6, R6.go, List.replicate, List.cons_append, List.nil_append]
 refine held_value 99 _ _ (some 202) (.pointer (some ⟨n0, 2, none⟩)) (by kernel_rfl) (by rfl) (by kernel_rfl) (fun w _ => by kernel_rfl) (fun c a v w => hQ c a _ v w) hX ?_
 simp only [Act.put, arr9, hd9, tl9]
 refine held_value 100 _ _ (some 203) (.int .u64 ((lane l 2).toNat : Int)) (by kernel_rfl) (by rfl) (by kernel_rfl) (fun w e => run_load1 rfl Tryz.underlying74 (by kernel_rfl) (e 2 _ (laneCells_lane l 2 (by omega)))) (fun c a v w => hQ c a _ v w) hX ?_
 simp only [Act.put, arr9, hd9, tl9]
 refine held_value 101 _ _ (some 204) (.int .u64 ((d2L l).toNat : Int)) (by kernel_rfl) (by rfl) (by kernel_rfl) (fun w _ => by kernel_rfl) (fun c a v w => hQ c a _ v w) hX ?_
 simp only [Act.put, arr9, hd9, tl9]
 refine held_value 102 _ _ (some 205) (.int .u64 ((lane l 2 ^^^ d2L l).toNat : Int)) (by kernel_rfl) (by rfl) (by kernel_rfl) (fun w _ => run_xorL (p := lane l 2) (q := d2L l) rfl (by kernel_rfl) (by kernel_rfl)) (fun c a v w => hQ c a _ v w) hX ?_
 simp only [Act.put, arr9, hd9, tl9]
 refine held_value 104 _ _ (some 207) (.pointer (some ⟨n0, 8, none⟩)) (by kernel_rfl) (by rfl) (by kernel_rfl) (fun w _ => by kernel_rfl) (fun c a v w => hQ c a _ v w) hX ?_
 simp only [Act.put, arr9, hd9, tl9]
 refine held_value 105 _ _ (some 208) (.int .u64 ((lane l 8).toNat : Int)) (by kernel_rfl) (by rfl) (by kernel_rfl) (fun w e => run_load1 rfl Tryz.underlying74 (by kernel_rfl) (e 8 _ (laneCells_lane l 8 (by omega)))) (fun c a v w => hQ c a _ v w) hX ?_
 simp only [Act.put, arr9, hd9, tl9]
 refine held_value 106 _ _ (some 209) (.int .u64 ((d3L l).toNat : Int)) (by kernel_rfl) (by rfl) (by kernel_rfl) (fun w _ => by kernel_rfl) (fun c a v w => hQ c a _ v w) hX ?_
 simp only [Act.put, arr9, hd9, tl9]
 refine held_value 107 _ _ (some 210) (.int .u64 ((lane l 8 ^^^ d3L l).toNat : Int)) (by kernel_rfl) (by rfl) (by kernel_rfl) (fun w _ => run_xorL (p := lane l 8) (q := d3L l) rfl (by kernel_rfl) (by kernel_rfl)) (fun c a v w => hQ c a _ v w) hX ?_
 simp only [Act.put, arr9, hd9, tl9]
 refine held_value 109 _ _ (some 212) (.pointer (some ⟨n0, 14, none⟩)) (by kernel_rfl) (by rfl) (by kernel_rfl) (fun w _ => by kernel_rfl) (fun c a v w => hQ c a _ v w) hX ?_
 simp only [Act.put, arr9, hd9, tl9]
 refine held_value 110 _ _ (some 213) (.int .u64 ((lane l 14).toNat : Int)) (by kernel_rfl) (by rfl) (by kernel_rfl) (fun w e => run_load1 rfl Tryz.underlying74 (by kernel_rfl) (e 14 _ (laneCells_lane l 14 (by omega)))) (fun c a v w => hQ c a _ v w) hX ?_
 simp only [Act.put, arr9, hd9, tl9]
 refine held_value 111 _ _ (some 214) (.int .u64 ((d4L l).toNat : Int)) (by kernel_rfl) (by rfl) (by kernel_rfl) (fun w _ => by kernel_rfl) (fun c a v w => hQ c a _ v w) hX ?_
 simp only [Act.put, arr9, hd9, tl9]
 refine held_value 112 _ _ (some 215) (.int .u64 ((lane l 14 ^^^ d4L l).toNat : Int)) (by kernel_rfl) (by rfl) (by kernel_rfl) (fun w _ => run_xorL (p := lane l 14) (q := d4L l) rfl (by kernel_rfl) (by kernel_rfl)) (fun c a v w => hQ c a _ v w) hX ?_
 simp only [Act.put, arr9, hd9, tl9]
 refine held_value 114 _ _ (some 217) (.pointer (some ⟨n0, 15, none⟩)) (by kernel_rfl) (by rfl) (by kernel_rfl) (fun w _ => by kernel_rfl) (fun c a v w => hQ c a _ v w) hX ?_
 simp only [Act.put, arr9, hd9, tl9]
 refine held_value 115 _ _ (some 218) (.int .u64 ((lane l 15).toNat : Int)) (by kernel_rfl) (by rfl) (by kernel_rfl) (fun w e => run_load1 rfl Tryz.underlying74 (by kernel_rfl) (e 15 _ (laneCells_lane l 15 (by omega)))) (fun c a v w => hQ c a _ v w) hX ?_
 simp only [Act.put, arr9, hd9, tl9]
 refine held_value 116 _ _ (some 219) (.int .u64 ((d0L l).toNat : Int)) (by kernel_rfl) (by rfl) (by kernel_rfl) (fun w _ => by kernel_rfl) (fun c a v w => hQ c a _ v w) hX ?_
 simp only [Act.put, arr9, hd9, tl9]
 refine held_value 117 _ _ (some 220) (.int .u64 ((lane l 15 ^^^ d0L l).toNat : Int)) (by kernel_rfl) (by rfl) (by kernel_rfl) (fun w _ => run_xorL (p := lane l 15) (q := d0L l) rfl (by kernel_rfl) (by kernel_rfl)) (fun c a v w => hQ c a _ v w) hX ?_
 simp only [Act.put, arr9, hd9, tl9]
 refine held_value 119 _ _ (some 222) (.pointer (some ⟨n0, 21, none⟩)) (by kernel_rfl) (by rfl) (by kernel_rfl) (fun w _ => by kernel_rfl) (fun c a v w => hQ c a _ v w) hX ?_
 simp only [Act.put, arr9, hd9, tl9]
 refine held_value 120 _ _ (some 223) (.int .u64 ((lane l 21).toNat : Int)) (by kernel_rfl) (by rfl) (by kernel_rfl) (fun w e => run_load1 rfl Tryz.underlying74 (by kernel_rfl) (e 21 _ (laneCells_lane l 21 (by omega)))) (fun c a v w => hQ c a _ v w) hX ?_
 simp only [Act.put, arr9, hd9, tl9]
 refine held_value 121 _ _ (some 224) (.int .u64 ((d1L l).toNat : Int)) (by kernel_rfl) (by rfl) (by kernel_rfl) (fun w _ => by kernel_rfl) (fun c a v w => hQ c a _ v w) hX ?_
 simp only [Act.put, arr9, hd9, tl9]
 refine held_value 122 _ _ (some 225) (.int .u64 ((lane l 21 ^^^ d1L l).toNat : Int)) (by kernel_rfl) (by rfl) (by kernel_rfl) (fun w _ => run_xorL (p := lane l 21) (q := d1L l) rfl (by kernel_rfl) (by kernel_rfl)) (fun c a v w => hQ c a _ v w) hX ?_
 simp only [Act.put, arr9, hd9, tl9]
 exact h
set_option maxHeartbeats 1000000 in
theorem mixC5 (l : List UInt64) (_hl : l.length = 25) (n0 : Nat) (X : World) (Q : Exit → Act → World → Prop) (_hQ : ∀ c a d v w, Q (.panic c) (Act.put a d v) w → Q (.panic c) a w) (hX : X.rangeAt n0 0 (laneCells l)) (h : mixS6 l n0 X Q) : mixS5 l n0 X Q := by
 unfold mixS5
 simp only [mixP, R6, R6.go, List.replicate, List.cons_append, List.nil_append]
 refine held_call 8 (Op.call { callee := Callee.value (Operand.func 181), args := #[Operand.tmp 110, Operand.const (Value.int IntKind.i64 44)], argTypes := #[74, 3] }) 74 (some 111) 181 #[.int .u64 ((lane l 6 ^^^ d1L l).toNat : Int), .int .i64 44] (by kernel_rfl) (by kernel_rfl) (by kernel_rfl) (by kernel_rfl) ?_
 refine (left_any (lane l 6 ^^^ d1L l) 44 (by decide) _).mono ?_
 rintro e w' ⟨rfl, hw'⟩
 obtain rfl : X = w' := hw'.symm
 refine ⟨_, rfl, hX, ?_⟩
 simp only [Act.put, arr9, hd9, tl9]
 refine held_call 13 (Op.call { callee := Callee.value (Operand.func 181), args := #[Operand.tmp 115, Operand.const (Value.int IntKind.i64 43)], argTypes := #[74, 3] }) 74 (some 116) 181 #[.int .u64 ((lane l 12 ^^^ d2L l).toNat : Int), .int .i64 43] (by kernel_rfl) (by kernel_rfl) (by kernel_rfl) (by kernel_rfl) ?_
 refine (left_any (lane l 12 ^^^ d2L l) 43 (by decide) _).mono ?_
 rintro e w' ⟨rfl, hw'⟩
 obtain rfl : X = w' := hw'.symm
 refine ⟨_, rfl, hX, ?_⟩
 simp only [Act.put, arr9, hd9, tl9]
 refine held_call 18 (Op.call { callee := Callee.value (Operand.func 181), args := #[Operand.tmp 120, Operand.const (Value.int IntKind.i64 21)], argTypes := #[74, 3] }) 74 (some 121) 181 #[.int .u64 ((lane l 18 ^^^ d3L l).toNat : Int), .int .i64 21] (by kernel_rfl) (by kernel_rfl) (by kernel_rfl) (by kernel_rfl) ?_
 refine (left_any (lane l 18 ^^^ d3L l) 21 (by decide) _).mono ?_
 rintro e w' ⟨rfl, hw'⟩
 obtain rfl : X = w' := hw'.symm
 refine ⟨_, rfl, hX, ?_⟩
 simp only [Act.put, arr9, hd9, tl9]
 refine held_call 23 (Op.call { callee := Callee.value (Operand.func 181), args := #[Operand.tmp 125, Operand.const (Value.int IntKind.i64 14)], argTypes := #[74, 3] }) 74 (some 126) 181 #[.int .u64 ((lane l 24 ^^^ d4L l).toNat : Int), .int .i64 14] (by kernel_rfl) (by kernel_rfl) (by kernel_rfl) (by kernel_rfl) ?_
 refine (left_any (lane l 24 ^^^ d4L l) 14 (by decide) _).mono ?_
 rintro e w' ⟨rfl, hw'⟩
 obtain rfl : X = w' := hw'.symm
 refine ⟨_, rfl, hX, ?_⟩
 simp only [Act.put, arr9, hd9, tl9]
 refine held_call 28 (Op.call { callee := Callee.value (Operand.func 181), args := #[Operand.tmp 130, Operand.const (Value.int IntKind.i64 28)], argTypes := #[74, 3] }) 74 (some 131) 181 #[.int .u64 ((lane l 3 ^^^ d3L l).toNat : Int), .int .i64 28] (by kernel_rfl) (by kernel_rfl) (by kernel_rfl) (by kernel_rfl) ?_
 refine (left_any (lane l 3 ^^^ d3L l) 28 (by decide) _).mono ?_
 rintro e w' ⟨rfl, hw'⟩
 obtain rfl : X = w' := hw'.symm
 refine ⟨_, rfl, hX, ?_⟩
 simp only [Act.put, arr9, hd9, tl9]
 refine held_call 33 (Op.call { callee := Callee.value (Operand.func 181), args := #[Operand.tmp 135, Operand.const (Value.int IntKind.i64 20)], argTypes := #[74, 3] }) 74 (some 136) 181 #[.int .u64 ((lane l 9 ^^^ d4L l).toNat : Int), .int .i64 20] (by kernel_rfl) (by kernel_rfl) (by kernel_rfl) (by kernel_rfl) ?_
 refine (left_any (lane l 9 ^^^ d4L l) 20 (by decide) _).mono ?_
 rintro e w' ⟨rfl, hw'⟩
 obtain rfl : X = w' := hw'.symm
 refine ⟨_, rfl, hX, ?_⟩
 simp only [Act.put, arr9, hd9, tl9]
 refine held_call 38 (Op.call { callee := Callee.value (Operand.func 181), args := #[Operand.tmp 140, Operand.const (Value.int IntKind.i64 3)], argTypes := #[74, 3] }) 74 (some 141) 181 #[.int .u64 ((lane l 10 ^^^ d0L l).toNat : Int), .int .i64 3] (by kernel_rfl) (by kernel_rfl) (by kernel_rfl) (by kernel_rfl) ?_
 refine (left_any (lane l 10 ^^^ d0L l) 3 (by decide) _).mono ?_
 rintro e w' ⟨rfl, hw'⟩
 obtain rfl : X = w' := hw'.symm
 refine ⟨_, rfl, hX, ?_⟩
 simp only [Act.put, arr9, hd9, tl9]
 refine held_call 43 (Op.call { callee := Callee.value (Operand.func 181), args := #[Operand.tmp 145, Operand.const (Value.int IntKind.i64 45)], argTypes := #[74, 3] }) 74 (some 146) 181 #[.int .u64 ((lane l 16 ^^^ d1L l).toNat : Int), .int .i64 45] (by kernel_rfl) (by kernel_rfl) (by kernel_rfl) (by kernel_rfl) ?_
 refine (left_any (lane l 16 ^^^ d1L l) 45 (by decide) _).mono ?_
 rintro e w' ⟨rfl, hw'⟩
 obtain rfl : X = w' := hw'.symm
 refine ⟨_, rfl, hX, ?_⟩
 simp only [Act.put, arr9, hd9, tl9]
 refine held_call 48 (Op.call { callee := Callee.value (Operand.func 181), args := #[Operand.tmp 150, Operand.const (Value.int IntKind.i64 61)], argTypes := #[74, 3] }) 74 (some 151) 181 #[.int .u64 ((lane l 22 ^^^ d2L l).toNat : Int), .int .i64 61] (by kernel_rfl) (by kernel_rfl) (by kernel_rfl) (by kernel_rfl) ?_
 refine (left_any (lane l 22 ^^^ d2L l) 61 (by decide) _).mono ?_
 rintro e w' ⟨rfl, hw'⟩
 obtain rfl : X = w' := hw'.symm
 refine ⟨_, rfl, hX, ?_⟩
 simp only [Act.put, arr9, hd9, tl9]
 exact h
set_option maxHeartbeats 1000000 in
theorem mixC6 (l : List UInt64) (_hl : l.length = 25) (n0 : Nat) (X : World) (Q : Exit → Act → World → Prop) (_hQ : ∀ c a d v w, Q (.panic c) (Act.put a d v) w → Q (.panic c) a w) (hX : X.rangeAt n0 0 (laneCells l)) (h : mixS7 l n0 X Q) : mixS6 l n0 X Q := by
 unfold mixS6
 simp only [mixP, R6, R6.go, List.replicate, List.cons_append, List.nil_append]
 refine held_call 53 (Op.call { callee := Callee.value (Operand.func 181), args := #[Operand.tmp 155, Operand.const (Value.int IntKind.i64 1)], argTypes := #[74, 3] }) 74 (some 156) 181 #[.int .u64 ((lane l 1 ^^^ d1L l).toNat : Int), .int .i64 1] (by kernel_rfl) (by kernel_rfl) (by kernel_rfl) (by kernel_rfl) ?_
 refine (left_any (lane l 1 ^^^ d1L l) 1 (by decide) _).mono ?_
 rintro e w' ⟨rfl, hw'⟩
 obtain rfl : X = w' := hw'.symm
 refine ⟨_, rfl, hX, ?_⟩
 simp only [Act.put, arr9, hd9, tl9]
 refine held_call 58 (Op.call { callee := Callee.value (Operand.func 181), args := #[Operand.tmp 160, Operand.const (Value.int IntKind.i64 6)], argTypes := #[74, 3] }) 74 (some 161) 181 #[.int .u64 ((lane l 7 ^^^ d2L l).toNat : Int), .int .i64 6] (by kernel_rfl) (by kernel_rfl) (by kernel_rfl) (by kernel_rfl) ?_
 refine (left_any (lane l 7 ^^^ d2L l) 6 (by decide) _).mono ?_
 rintro e w' ⟨rfl, hw'⟩
 obtain rfl : X = w' := hw'.symm
 refine ⟨_, rfl, hX, ?_⟩
 simp only [Act.put, arr9, hd9, tl9]
 refine held_call 63 (Op.call { callee := Callee.value (Operand.func 181), args := #[Operand.tmp 165, Operand.const (Value.int IntKind.i64 25)], argTypes := #[74, 3] }) 74 (some 166) 181 #[.int .u64 ((lane l 13 ^^^ d3L l).toNat : Int), .int .i64 25] (by kernel_rfl) (by kernel_rfl) (by kernel_rfl) (by kernel_rfl) ?_
 refine (left_any (lane l 13 ^^^ d3L l) 25 (by decide) _).mono ?_
 rintro e w' ⟨rfl, hw'⟩
 obtain rfl : X = w' := hw'.symm
 refine ⟨_, rfl, hX, ?_⟩
 simp only [Act.put, arr9, hd9, tl9]
 refine held_call 68 (Op.call { callee := Callee.value (Operand.func 181), args := #[Operand.tmp 170, Operand.const (Value.int IntKind.i64 8)], argTypes := #[74, 3] }) 74 (some 171) 181 #[.int .u64 ((lane l 19 ^^^ d4L l).toNat : Int), .int .i64 8] (by kernel_rfl) (by kernel_rfl) (by kernel_rfl) (by kernel_rfl) ?_
 refine (left_any (lane l 19 ^^^ d4L l) 8 (by decide) _).mono ?_
 rintro e w' ⟨rfl, hw'⟩
 obtain rfl : X = w' := hw'.symm
 refine ⟨_, rfl, hX, ?_⟩
 simp only [Act.put, arr9, hd9, tl9]
 refine held_call 73 (Op.call { callee := Callee.value (Operand.func 181), args := #[Operand.tmp 175, Operand.const (Value.int IntKind.i64 18)], argTypes := #[74, 3] }) 74 (some 176) 181 #[.int .u64 ((lane l 20 ^^^ d0L l).toNat : Int), .int .i64 18] (by kernel_rfl) (by kernel_rfl) (by kernel_rfl) (by kernel_rfl) ?_
 refine (left_any (lane l 20 ^^^ d0L l) 18 (by decide) _).mono ?_
 rintro e w' ⟨rfl, hw'⟩
 obtain rfl : X = w' := hw'.symm
 refine ⟨_, rfl, hX, ?_⟩
 simp only [Act.put, arr9, hd9, tl9]
 refine held_call 78 (Op.call { callee := Callee.value (Operand.func 181), args := #[Operand.tmp 180, Operand.const (Value.int IntKind.i64 27)], argTypes := #[74, 3] }) 74 (some 181) 181 #[.int .u64 ((lane l 4 ^^^ d4L l).toNat : Int), .int .i64 27] (by kernel_rfl) (by kernel_rfl) (by kernel_rfl) (by kernel_rfl) ?_
 refine (left_any (lane l 4 ^^^ d4L l) 27 (by decide) _).mono ?_
 rintro e w' ⟨rfl, hw'⟩
 obtain rfl : X = w' := hw'.symm
 refine ⟨_, rfl, hX, ?_⟩
 simp only [Act.put, arr9, hd9, tl9]
 refine held_call 83 (Op.call { callee := Callee.value (Operand.func 181), args := #[Operand.tmp 185, Operand.const (Value.int IntKind.i64 36)], argTypes := #[74, 3] }) 74 (some 186) 181 #[.int .u64 ((lane l 5 ^^^ d0L l).toNat : Int), .int .i64 36] (by kernel_rfl) (by kernel_rfl) (by kernel_rfl) (by kernel_rfl) ?_
 refine (left_any (lane l 5 ^^^ d0L l) 36 (by decide) _).mono ?_
 rintro e w' ⟨rfl, hw'⟩
 obtain rfl : X = w' := hw'.symm
 refine ⟨_, rfl, hX, ?_⟩
 simp only [Act.put, arr9, hd9, tl9]
 refine held_call 88 (Op.call { callee := Callee.value (Operand.func 181), args := #[Operand.tmp 190, Operand.const (Value.int IntKind.i64 10)], argTypes := #[74, 3] }) 74 (some 191) 181 #[.int .u64 ((lane l 11 ^^^ d1L l).toNat : Int), .int .i64 10] (by kernel_rfl) (by kernel_rfl) (by kernel_rfl) (by kernel_rfl) ?_
 refine (left_any (lane l 11 ^^^ d1L l) 10 (by decide) _).mono ?_
 rintro e w' ⟨rfl, hw'⟩
 obtain rfl : X = w' := hw'.symm
 refine ⟨_, rfl, hX, ?_⟩
 simp only [Act.put, arr9, hd9, tl9]
 exact h
set_option maxHeartbeats 1000000 in
theorem mixC7 (l : List UInt64) (_hl : l.length = 25) (n0 : Nat) (X : World) (Q : Exit → Act → World → Prop) (hQ : ∀ c a d v w, Q (.panic c) (Act.put a d v) w → Q (.panic c) a w) (hX : X.rangeAt n0 0 (laneCells l)) (h : mixS8 l n0 X Q) : mixS7 l n0 X Q := by
 unfold mixS7
 simp only [mixP, R6, R6.go, List.replicate, List.cons_append, List.nil_append]
 refine held_call 93 (Op.call { callee := Callee.value (Operand.func 181), args := #[Operand.tmp 195, Operand.const (Value.int IntKind.i64 15)], argTypes := #[74, 3] }) 74 (some 196) 181 #[.int .u64 ((lane l 17 ^^^ d2L l).toNat : Int), .int .i64 15] (by kernel_rfl) (by kernel_rfl) (by kernel_rfl) (by kernel_rfl) ?_
 refine (left_any (lane l 17 ^^^ d2L l) 15 (by decide) _).mono ?_
 rintro e w' ⟨rfl, hw'⟩
 obtain rfl : X = w' := hw'.symm
 refine ⟨_, rfl, hX, ?_⟩
 simp only [Act.put, arr9, hd9, tl9]
 refine held_call 98 (Op.call { callee := Callee.value (Operand.func 181), args := #[Operand.tmp 200, Operand.const (Value.int IntKind.i64 56)], argTypes := #[74, 3] }) 74 (some 201) 181 #[.int .u64 ((lane l 23 ^^^ d3L l).toNat : Int), .int .i64 56] (by kernel_rfl) (by kernel_rfl) (by kernel_rfl) (by kernel_rfl) ?_
 refine (left_any (lane l 23 ^^^ d3L l) 56 (by decide) _).mono ?_
 rintro e w' ⟨rfl, hw'⟩
 obtain rfl : X = w' := hw'.symm
 refine ⟨_, rfl, hX, ?_⟩
 simp only [Act.put, arr9, hd9, tl9]
 refine held_call 103 (Op.call { callee := Callee.value (Operand.func 181), args := #[Operand.tmp 205, Operand.const (Value.int IntKind.i64 62)], argTypes := #[74, 3] }) 74 (some 206) 181 #[.int .u64 ((lane l 2 ^^^ d2L l).toNat : Int), .int .i64 62] (by kernel_rfl) (by kernel_rfl) (by kernel_rfl) (by kernel_rfl) ?_
 refine (left_any (lane l 2 ^^^ d2L l) 62 (by decide) _).mono ?_
 rintro e w' ⟨rfl, hw'⟩
 obtain rfl : X = w' := hw'.symm
 refine ⟨_, rfl, hX, ?_⟩
 simp only [Act.put, arr9, hd9, tl9]
 refine held_call 108 (Op.call { callee := Callee.value (Operand.func 181), args := #[Operand.tmp 210, Operand.const (Value.int IntKind.i64 55)], argTypes := #[74, 3] }) 74 (some 211) 181 #[.int .u64 ((lane l 8 ^^^ d3L l).toNat : Int), .int .i64 55] (by kernel_rfl) (by kernel_rfl) (by kernel_rfl) (by kernel_rfl) ?_
 refine (left_any (lane l 8 ^^^ d3L l) 55 (by decide) _).mono ?_
 rintro e w' ⟨rfl, hw'⟩
 obtain rfl : X = w' := hw'.symm
 refine ⟨_, rfl, hX, ?_⟩
 simp only [Act.put, arr9, hd9, tl9]
 refine held_call 113 (Op.call { callee := Callee.value (Operand.func 181), args := #[Operand.tmp 215, Operand.const (Value.int IntKind.i64 39)], argTypes := #[74, 3] }) 74 (some 216) 181 #[.int .u64 ((lane l 14 ^^^ d4L l).toNat : Int), .int .i64 39] (by kernel_rfl) (by kernel_rfl) (by kernel_rfl) (by kernel_rfl) ?_
 refine (left_any (lane l 14 ^^^ d4L l) 39 (by decide) _).mono ?_
 rintro e w' ⟨rfl, hw'⟩
 obtain rfl : X = w' := hw'.symm
 refine ⟨_, rfl, hX, ?_⟩
 simp only [Act.put, arr9, hd9, tl9]
 refine held_call 118 (Op.call { callee := Callee.value (Operand.func 181), args := #[Operand.tmp 220, Operand.const (Value.int IntKind.i64 41)], argTypes := #[74, 3] }) 74 (some 221) 181 #[.int .u64 ((lane l 15 ^^^ d0L l).toNat : Int), .int .i64 41] (by kernel_rfl) (by kernel_rfl) (by kernel_rfl) (by kernel_rfl) ?_
 refine (left_any (lane l 15 ^^^ d0L l) 41 (by decide) _).mono ?_
 rintro e w' ⟨rfl, hw'⟩
 obtain rfl : X = w' := hw'.symm
 refine ⟨_, rfl, hX, ?_⟩
 simp only [Act.put, arr9, hd9, tl9]
 refine held_call 123 (Op.call { callee := Callee.value (Operand.func 181), args := #[Operand.tmp 225, Operand.const (Value.int IntKind.i64 2)], argTypes := #[74, 3] }) 74 (some 226) 181 #[.int .u64 ((lane l 21 ^^^ d1L l).toNat : Int), .int .i64 2] (by kernel_rfl) (by kernel_rfl) (by kernel_rfl) (by kernel_rfl) ?_
 refine (left_any (lane l 21 ^^^ d1L l) 2 (by decide) _).mono ?_
 rintro e w' ⟨rfl, hw'⟩
 obtain rfl : X = w' := hw'.symm
 refine ⟨_, rfl, hX, ?_⟩
 simp only [Act.put, arr9, hd9, tl9]
 refine held_value 124 _ _ (some 227) (.agg (laneCells (mixL l)).toArray) (by kernel_rfl) (by rfl) (by kernel_rfl) (fun w _ => by kernel_rfl) (fun c a v w => hQ c a _ v w) hX ?_
 simp only [Act.put, arr9, hd9, tl9]
 exact h
end Go.Proofs.YtdakbipiifkmfaaGreatDoor
