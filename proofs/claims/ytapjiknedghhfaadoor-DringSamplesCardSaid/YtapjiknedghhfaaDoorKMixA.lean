import Derived.Test.YtapjiknedghhfaaDoorKMixOps
/-
 WALK: a part of keccak.mix's last statement.
-/
namespace Go.Proofs.YtapjiknedghhfaaDoor
open Go.RowKit
set_option maxRecDepth 100000

/-- a lane, an address, the operations done: short words for the frames below -/
abbrev L6 (x : UInt64) : Value := .int .u64 (x.toNat : Int)
abbrev A6 (n k : Nat) : Value := .pointer (some ⟨n, k, none⟩)
def R6 (l : List (Nat × Bool)) : Array Bool := (go l).toArray
 where go : List (Nat × Bool) → List Bool
  | [] => []
  | (n, b) :: r => List.replicate n b ++ go r
def mixP (l : List UInt64) (n0 : Nat) : List Value := [.agg (laneCells l).toArray, A6 n0 0, A6 (n0 + 1) 0, L6 (colX l 0), L6 (colX l 1), L6 (colX l 2), L6 (colX l 3), L6 (colX l 4), L6 (d0L l), L6 (d1L l), L6 (d2L l), L6 (d3L l), L6 (d4L l), A6 n0 0, L6 (lane l 0), A6 n0 5, L6 (lane l 5), L6 (lane l 0 ^^^ lane l 5), A6 n0 10, L6 (lane l 10), L6 (lane l 0 ^^^ lane l 5 ^^^ lane l 10), A6 n0 15, L6 (lane l 15), L6 (lane l 0 ^^^ lane l 5 ^^^ lane l 10 ^^^ lane l 15), A6 n0 20, L6 (lane l 20), L6 (lane l 0 ^^^ lane l 5 ^^^ lane l 10 ^^^ lane l 15 ^^^ lane l 20), A6 n0 1, L6 (lane l 1), A6 n0 6, L6 (lane l 6), L6 (lane l 1 ^^^ lane l 6), A6 n0 11, L6 (lane l 11), L6 (lane l 1 ^^^ lane l 6 ^^^ lane l 11), A6 n0 16, L6 (lane l 16), L6 (lane l 1 ^^^ lane l 6 ^^^ lane l 11 ^^^ lane l 16), A6 n0 21, L6 (lane l 21), L6 (lane l 1 ^^^ lane l 6 ^^^ lane l 11 ^^^ lane l 16 ^^^ lane l 21), A6 n0 2, L6 (lane l 2), A6 n0 7, L6 (lane l 7), L6 (lane l 2 ^^^ lane l 7), A6 n0 12, L6 (lane l 12), L6 (lane l 2 ^^^ lane l 7 ^^^ lane l 12), A6 n0 17, L6 (lane l 17), L6 (lane l 2 ^^^ lane l 7 ^^^ lane l 12 ^^^ lane l 17), A6 n0 22, L6 (lane l 22), L6 (lane l 2 ^^^ lane l 7 ^^^ lane l 12 ^^^ lane l 17 ^^^ lane l 22), A6 n0 3, L6 (lane l 3), A6 n0 8, L6 (lane l 8), L6 (lane l 3 ^^^ lane l 8), A6 n0 13, L6 (lane l 13), L6 (lane l 3 ^^^ lane l 8 ^^^ lane l 13), A6 n0 18, L6 (lane l 18), L6 (lane l 3 ^^^ lane l 8 ^^^ lane l 13 ^^^ lane l 18), A6 n0 23, L6 (lane l 23), L6 (lane l 3 ^^^ lane l 8 ^^^ lane l 13 ^^^ lane l 18 ^^^ lane l 23), A6 n0 4, L6 (lane l 4), A6 n0 9, L6 (lane l 9), L6 (lane l 4 ^^^ lane l 9), A6 n0 14, L6 (lane l 14), L6 (lane l 4 ^^^ lane l 9 ^^^ lane l 14), A6 n0 19, L6 (lane l 19), L6 (lane l 4 ^^^ lane l 9 ^^^ lane l 14 ^^^ lane l 19), A6 n0 24, L6 (lane l 24), L6 (lane l 4 ^^^ lane l 9 ^^^ lane l 14 ^^^ lane l 19 ^^^ lane l 24), L6 (colX l 4), L6 (colX l 1), L6 (rotl (colX l 1) 1), L6 (colX l 4 ^^^ rotl (colX l 1) 1), L6 (colX l 0), L6 (colX l 2), L6 (rotl (colX l 2) 1), L6 (colX l 0 ^^^ rotl (colX l 2) 1), L6 (colX l 1), L6 (colX l 3), L6 (rotl (colX l 3) 1), L6 (colX l 1 ^^^ rotl (colX l 3) 1), L6 (colX l 2), L6 (colX l 4), L6 (rotl (colX l 4) 1), L6 (colX l 2 ^^^ rotl (colX l 4) 1), L6 (colX l 3), L6 (colX l 0), L6 (rotl (colX l 0) 1), L6 (colX l 3 ^^^ rotl (colX l 0) 1)]
def mixS0 (l : List UInt64) (n0 : Nat) (X : World) (Q : Exit → Act → World → Prop) : Prop := wpAnyH Tryd.prog .any mixOps.toArray Q (fun w' => w'.rangeAt n0 0 (laneCells l)) 126 (R6 [(126, false)]) ⟨(mixP l n0 ++ (([] : List Value) ++ (List.replicate 125 undef))).toArray, []⟩ X
def mixS1 (l : List UInt64) (n0 : Nat) (X : World) (Q : Exit → Act → World → Prop) : Prop := wpAnyH Tryd.prog .any mixOps.toArray Q (fun w' => w'.rangeAt n0 0 (laneCells l)) 106 (R6 [(8, true), (1, false), (4, true), (1, false), (4, true), (1, false), (4, true), (103, false)]) ⟨(mixP l n0 ++ ([A6 n0 0, L6 (lane l 0), L6 (d0L l), L6 (lane l 0 ^^^ d0L l), A6 n0 6, L6 (lane l 6), L6 (d1L l), L6 (lane l 6 ^^^ d1L l), undef, A6 n0 12, L6 (lane l 12), L6 (d2L l), L6 (lane l 12 ^^^ d2L l), undef, A6 n0 18, L6 (lane l 18), L6 (d3L l), L6 (lane l 18 ^^^ d3L l), undef, A6 n0 24, L6 (lane l 24), L6 (d4L l), L6 (lane l 24 ^^^ d4L l)] ++ (List.replicate 102 undef))).toArray, []⟩ X
def mixS2 (l : List UInt64) (n0 : Nat) (X : World) (Q : Exit → Act → World → Prop) : Prop := wpAnyH Tryd.prog .any mixOps.toArray Q (fun w' => w'.rangeAt n0 0 (laneCells l)) 86 (R6 [(8, true), (1, false), (4, true), (1, false), (4, true), (1, false), (4, true), (1, false), (4, true), (1, false), (4, true), (1, false), (4, true), (1, false), (4, true), (1, false), (4, true), (78, false)]) ⟨(mixP l n0 ++ ([A6 n0 0, L6 (lane l 0), L6 (d0L l), L6 (lane l 0 ^^^ d0L l), A6 n0 6, L6 (lane l 6), L6 (d1L l), L6 (lane l 6 ^^^ d1L l), undef, A6 n0 12, L6 (lane l 12), L6 (d2L l), L6 (lane l 12 ^^^ d2L l), undef, A6 n0 18, L6 (lane l 18), L6 (d3L l), L6 (lane l 18 ^^^ d3L l), undef, A6 n0 24, L6 (lane l 24), L6 (d4L l), L6 (lane l 24 ^^^ d4L l), undef, A6 n0 3, L6 (lane l 3), L6 (d3L l), L6 (lane l 3 ^^^ d3L l), undef, A6 n0 9, L6 (lane l 9), L6 (d4L l), L6 (lane l 9 ^^^ d4L l), undef, A6 n0 10, L6 (lane l 10), L6 (d0L l), L6 (lane l 10 ^^^ d0L l), undef, A6 n0 16, L6 (lane l 16), L6 (d1L l), L6 (lane l 16 ^^^ d1L l), undef, A6 n0 22, L6 (lane l 22), L6 (d2L l), L6 (lane l 22 ^^^ d2L l)] ++ (List.replicate 77 undef))).toArray, []⟩ X
def mixS3 (l : List UInt64) (n0 : Nat) (X : World) (Q : Exit → Act → World → Prop) : Prop := wpAnyH Tryd.prog .any mixOps.toArray Q (fun w' => w'.rangeAt n0 0 (laneCells l)) 66 (R6 [(8, true), (1, false), (4, true), (1, false), (4, true), (1, false), (4, true), (1, false), (4, true), (1, false), (4, true), (1, false), (4, true), (1, false), (4, true), (1, false), (4, true), (1, false), (4, true), (1, false), (4, true), (1, false), (4, true), (1, false), (4, true), (1, false), (4, true), (53, false)]) ⟨(mixP l n0 ++ ([A6 n0 0, L6 (lane l 0), L6 (d0L l), L6 (lane l 0 ^^^ d0L l), A6 n0 6, L6 (lane l 6), L6 (d1L l), L6 (lane l 6 ^^^ d1L l), undef, A6 n0 12, L6 (lane l 12), L6 (d2L l), L6 (lane l 12 ^^^ d2L l), undef, A6 n0 18, L6 (lane l 18), L6 (d3L l), L6 (lane l 18 ^^^ d3L l), undef, A6 n0 24, L6 (lane l 24), L6 (d4L l), L6 (lane l 24 ^^^ d4L l), undef, A6 n0 3, L6 (lane l 3), L6 (d3L l), L6 (lane l 3 ^^^ d3L l), undef, A6 n0 9, L6 (lane l 9), L6 (d4L l), L6 (lane l 9 ^^^ d4L l), undef, A6 n0 10, L6 (lane l 10), L6 (d0L l), L6 (lane l 10 ^^^ d0L l), undef, A6 n0 16, L6 (lane l 16), L6 (d1L l), L6 (lane l 16 ^^^ d1L l), undef, A6 n0 22, L6 (lane l 22), L6 (d2L l), L6 (lane l 22 ^^^ d2L l), undef, A6 n0 1, L6 (lane l 1), L6 (d1L l), L6 (lane l 1 ^^^ d1L l), undef, A6 n0 7, L6 (lane l 7), L6 (d2L l), L6 (lane l 7 ^^^ d2L l), undef, A6 n0 13, L6 (lane l 13), L6 (d3L l), L6 (lane l 13 ^^^ d3L l), undef, A6 n0 19, L6 (lane l 19), L6 (d4L l), L6 (lane l 19 ^^^ d4L l), undef, A6 n0 20, L6 (lane l 20), L6 (d0L l), L6 (lane l 20 ^^^ d0L l)] ++ (List.replicate 52 undef))).toArray, []⟩ X
def mixS4 (l : List UInt64) (n0 : Nat) (X : World) (Q : Exit → Act → World → Prop) : Prop := wpAnyH Tryd.prog .any mixOps.toArray Q (fun w' => w'.rangeAt n0 0 (laneCells l)) 46 (R6 [(8, true), (1, false), (4, true), (1, false), (4, true), (1, false), (4, true), (1, false), (4, true), (1, false), (4, true), (1, false), (4, true), (1, false), (4, true), (1, false), (4, true), (1, false), (4, true), (1, false), (4, true), (1, false), (4, true), (1, false), (4, true), (1, false), (4, true), (1, false), (4, true), (1, false), (4, true), (1, false), (4, true), (1, false), (4, true), (1, false), (4, true), (28, false)]) ⟨(mixP l n0 ++ ([A6 n0 0, L6 (lane l 0), L6 (d0L l), L6 (lane l 0 ^^^ d0L l), A6 n0 6, L6 (lane l 6), L6 (d1L l), L6 (lane l 6 ^^^ d1L l), undef, A6 n0 12, L6 (lane l 12), L6 (d2L l), L6 (lane l 12 ^^^ d2L l), undef, A6 n0 18, L6 (lane l 18), L6 (d3L l), L6 (lane l 18 ^^^ d3L l), undef, A6 n0 24, L6 (lane l 24), L6 (d4L l), L6 (lane l 24 ^^^ d4L l), undef, A6 n0 3, L6 (lane l 3), L6 (d3L l), L6 (lane l 3 ^^^ d3L l), undef, A6 n0 9, L6 (lane l 9), L6 (d4L l), L6 (lane l 9 ^^^ d4L l), undef, A6 n0 10, L6 (lane l 10), L6 (d0L l), L6 (lane l 10 ^^^ d0L l), undef, A6 n0 16, L6 (lane l 16), L6 (d1L l), L6 (lane l 16 ^^^ d1L l), undef, A6 n0 22, L6 (lane l 22), L6 (d2L l), L6 (lane l 22 ^^^ d2L l), undef, A6 n0 1, L6 (lane l 1), L6 (d1L l), L6 (lane l 1 ^^^ d1L l), undef, A6 n0 7, L6 (lane l 7), L6 (d2L l), L6 (lane l 7 ^^^ d2L l), undef, A6 n0 13, L6 (lane l 13), L6 (d3L l), L6 (lane l 13 ^^^ d3L l), undef, A6 n0 19, L6 (lane l 19), L6 (d4L l), L6 (lane l 19 ^^^ d4L l), undef, A6 n0 20, L6 (lane l 20), L6 (d0L l), L6 (lane l 20 ^^^ d0L l), undef, A6 n0 4, L6 (lane l 4), L6 (d4L l), L6 (lane l 4 ^^^ d4L l), undef, A6 n0 5, L6 (lane l 5), L6 (d0L l), L6 (lane l 5 ^^^ d0L l), undef, A6 n0 11, L6 (lane l 11), L6 (d1L l), L6 (lane l 11 ^^^ d1L l), undef, A6 n0 17, L6 (lane l 17), L6 (d2L l), L6 (lane l 17 ^^^ d2L l), undef, A6 n0 23, L6 (lane l 23), L6 (d3L l), L6 (lane l 23 ^^^ d3L l)] ++ (List.replicate 27 undef))).toArray, []⟩ X
def mixS5 (l : List UInt64) (n0 : Nat) (X : World) (Q : Exit → Act → World → Prop) : Prop := wpAnyH Tryd.prog .any mixOps.toArray Q (fun w' => w'.rangeAt n0 0 (laneCells l)) 26 (R6 [(8, true), (1, false), (4, true), (1, false), (4, true), (1, false), (4, true), (1, false), (4, true), (1, false), (4, true), (1, false), (4, true), (1, false), (4, true), (1, false), (4, true), (1, false), (4, true), (1, false), (4, true), (1, false), (4, true), (1, false), (4, true), (1, false), (4, true), (1, false), (4, true), (1, false), (4, true), (1, false), (4, true), (1, false), (4, true), (1, false), (4, true), (1, false), (4, true), (1, false), (4, true), (1, false), (4, true), (1, false), (4, true), (1, false), (4, true), (3, false)]) ⟨(mixP l n0 ++ [A6 n0 0, L6 (lane l 0), L6 (d0L l), L6 (lane l 0 ^^^ d0L l), A6 n0 6, L6 (lane l 6), L6 (d1L l), L6 (lane l 6 ^^^ d1L l), undef, A6 n0 12, L6 (lane l 12), L6 (d2L l), L6 (lane l 12 ^^^ d2L l), undef, A6 n0 18, L6 (lane l 18), L6 (d3L l), L6 (lane l 18 ^^^ d3L l), undef, A6 n0 24, L6 (lane l 24), L6 (d4L l), L6 (lane l 24 ^^^ d4L l), undef, A6 n0 3, L6 (lane l 3), L6 (d3L l), L6 (lane l 3 ^^^ d3L l), undef, A6 n0 9, L6 (lane l 9), L6 (d4L l), L6 (lane l 9 ^^^ d4L l), undef, A6 n0 10, L6 (lane l 10), L6 (d0L l), L6 (lane l 10 ^^^ d0L l), undef, A6 n0 16, L6 (lane l 16), L6 (d1L l), L6 (lane l 16 ^^^ d1L l), undef, A6 n0 22, L6 (lane l 22), L6 (d2L l), L6 (lane l 22 ^^^ d2L l), undef, A6 n0 1, L6 (lane l 1), L6 (d1L l), L6 (lane l 1 ^^^ d1L l), undef, A6 n0 7, L6 (lane l 7), L6 (d2L l), L6 (lane l 7 ^^^ d2L l), undef, A6 n0 13, L6 (lane l 13), L6 (d3L l), L6 (lane l 13 ^^^ d3L l), undef, A6 n0 19, L6 (lane l 19), L6 (d4L l), L6 (lane l 19 ^^^ d4L l), undef, A6 n0 20, L6 (lane l 20), L6 (d0L l), L6 (lane l 20 ^^^ d0L l), undef, A6 n0 4, L6 (lane l 4), L6 (d4L l), L6 (lane l 4 ^^^ d4L l), undef, A6 n0 5, L6 (lane l 5), L6 (d0L l), L6 (lane l 5 ^^^ d0L l), undef, A6 n0 11, L6 (lane l 11), L6 (d1L l), L6 (lane l 11 ^^^ d1L l), undef, A6 n0 17, L6 (lane l 17), L6 (d2L l), L6 (lane l 17 ^^^ d2L l), undef, A6 n0 23, L6 (lane l 23), L6 (d3L l), L6 (lane l 23 ^^^ d3L l), undef, A6 n0 2, L6 (lane l 2), L6 (d2L l), L6 (lane l 2 ^^^ d2L l), undef, A6 n0 8, L6 (lane l 8), L6 (d3L l), L6 (lane l 8 ^^^ d3L l), undef, A6 n0 14, L6 (lane l 14), L6 (d4L l), L6 (lane l 14 ^^^ d4L l), undef, A6 n0 15, L6 (lane l 15), L6 (d0L l), L6 (lane l 15 ^^^ d0L l), undef, A6 n0 21, L6 (lane l 21), L6 (d1L l), L6 (lane l 21 ^^^ d1L l), undef, undef]).toArray, []⟩ X
def mixS6 (l : List UInt64) (n0 : Nat) (X : World) (Q : Exit → Act → World → Prop) : Prop := wpAnyH Tryd.prog .any mixOps.toArray Q (fun w' => w'.rangeAt n0 0 (laneCells l)) 17 (R6 [(53, true), (1, false), (4, true), (1, false), (4, true), (1, false), (4, true), (1, false), (4, true), (1, false), (4, true), (1, false), (4, true), (1, false), (4, true), (1, false), (4, true), (1, false), (4, true), (1, false), (4, true), (1, false), (4, true), (1, false), (4, true), (1, false), (4, true), (1, false), (4, true), (3, false)]) ⟨(mixP l n0 ++ [A6 n0 0, L6 (lane l 0), L6 (d0L l), L6 (lane l 0 ^^^ d0L l), A6 n0 6, L6 (lane l 6), L6 (d1L l), L6 (lane l 6 ^^^ d1L l), L6 (rotl (lane l 6 ^^^ d1L l) 44), A6 n0 12, L6 (lane l 12), L6 (d2L l), L6 (lane l 12 ^^^ d2L l), L6 (rotl (lane l 12 ^^^ d2L l) 43), A6 n0 18, L6 (lane l 18), L6 (d3L l), L6 (lane l 18 ^^^ d3L l), L6 (rotl (lane l 18 ^^^ d3L l) 21), A6 n0 24, L6 (lane l 24), L6 (d4L l), L6 (lane l 24 ^^^ d4L l), L6 (rotl (lane l 24 ^^^ d4L l) 14), A6 n0 3, L6 (lane l 3), L6 (d3L l), L6 (lane l 3 ^^^ d3L l), L6 (rotl (lane l 3 ^^^ d3L l) 28), A6 n0 9, L6 (lane l 9), L6 (d4L l), L6 (lane l 9 ^^^ d4L l), L6 (rotl (lane l 9 ^^^ d4L l) 20), A6 n0 10, L6 (lane l 10), L6 (d0L l), L6 (lane l 10 ^^^ d0L l), L6 (rotl (lane l 10 ^^^ d0L l) 3), A6 n0 16, L6 (lane l 16), L6 (d1L l), L6 (lane l 16 ^^^ d1L l), L6 (rotl (lane l 16 ^^^ d1L l) 45), A6 n0 22, L6 (lane l 22), L6 (d2L l), L6 (lane l 22 ^^^ d2L l), L6 (rotl (lane l 22 ^^^ d2L l) 61), A6 n0 1, L6 (lane l 1), L6 (d1L l), L6 (lane l 1 ^^^ d1L l), undef, A6 n0 7, L6 (lane l 7), L6 (d2L l), L6 (lane l 7 ^^^ d2L l), undef, A6 n0 13, L6 (lane l 13), L6 (d3L l), L6 (lane l 13 ^^^ d3L l), undef, A6 n0 19, L6 (lane l 19), L6 (d4L l), L6 (lane l 19 ^^^ d4L l), undef, A6 n0 20, L6 (lane l 20), L6 (d0L l), L6 (lane l 20 ^^^ d0L l), undef, A6 n0 4, L6 (lane l 4), L6 (d4L l), L6 (lane l 4 ^^^ d4L l), undef, A6 n0 5, L6 (lane l 5), L6 (d0L l), L6 (lane l 5 ^^^ d0L l), undef, A6 n0 11, L6 (lane l 11), L6 (d1L l), L6 (lane l 11 ^^^ d1L l), undef, A6 n0 17, L6 (lane l 17), L6 (d2L l), L6 (lane l 17 ^^^ d2L l), undef, A6 n0 23, L6 (lane l 23), L6 (d3L l), L6 (lane l 23 ^^^ d3L l), undef, A6 n0 2, L6 (lane l 2), L6 (d2L l), L6 (lane l 2 ^^^ d2L l), undef, A6 n0 8, L6 (lane l 8), L6 (d3L l), L6 (lane l 8 ^^^ d3L l), undef, A6 n0 14, L6 (lane l 14), L6 (d4L l), L6 (lane l 14 ^^^ d4L l), undef, A6 n0 15, L6 (lane l 15), L6 (d0L l), L6 (lane l 15 ^^^ d0L l), undef, A6 n0 21, L6 (lane l 21), L6 (d1L l), L6 (lane l 21 ^^^ d1L l), undef, undef]).toArray, []⟩ X
def mixS7 (l : List UInt64) (n0 : Nat) (X : World) (Q : Exit → Act → World → Prop) : Prop := wpAnyH Tryd.prog .any mixOps.toArray Q (fun w' => w'.rangeAt n0 0 (laneCells l)) 9 (R6 [(93, true), (1, false), (4, true), (1, false), (4, true), (1, false), (4, true), (1, false), (4, true), (1, false), (4, true), (1, false), (4, true), (3, false)]) ⟨(mixP l n0 ++ [A6 n0 0, L6 (lane l 0), L6 (d0L l), L6 (lane l 0 ^^^ d0L l), A6 n0 6, L6 (lane l 6), L6 (d1L l), L6 (lane l 6 ^^^ d1L l), L6 (rotl (lane l 6 ^^^ d1L l) 44), A6 n0 12, L6 (lane l 12), L6 (d2L l), L6 (lane l 12 ^^^ d2L l), L6 (rotl (lane l 12 ^^^ d2L l) 43), A6 n0 18, L6 (lane l 18), L6 (d3L l), L6 (lane l 18 ^^^ d3L l), L6 (rotl (lane l 18 ^^^ d3L l) 21), A6 n0 24, L6 (lane l 24), L6 (d4L l), L6 (lane l 24 ^^^ d4L l), L6 (rotl (lane l 24 ^^^ d4L l) 14), A6 n0 3, L6 (lane l 3), L6 (d3L l), L6 (lane l 3 ^^^ d3L l), L6 (rotl (lane l 3 ^^^ d3L l) 28), A6 n0 9, L6 (lane l 9), L6 (d4L l), L6 (lane l 9 ^^^ d4L l), L6 (rotl (lane l 9 ^^^ d4L l) 20), A6 n0 10, L6 (lane l 10), L6 (d0L l), L6 (lane l 10 ^^^ d0L l), L6 (rotl (lane l 10 ^^^ d0L l) 3), A6 n0 16, L6 (lane l 16), L6 (d1L l), L6 (lane l 16 ^^^ d1L l), L6 (rotl (lane l 16 ^^^ d1L l) 45), A6 n0 22, L6 (lane l 22), L6 (d2L l), L6 (lane l 22 ^^^ d2L l), L6 (rotl (lane l 22 ^^^ d2L l) 61), A6 n0 1, L6 (lane l 1), L6 (d1L l), L6 (lane l 1 ^^^ d1L l), L6 (rotl (lane l 1 ^^^ d1L l) 1), A6 n0 7, L6 (lane l 7), L6 (d2L l), L6 (lane l 7 ^^^ d2L l), L6 (rotl (lane l 7 ^^^ d2L l) 6), A6 n0 13, L6 (lane l 13), L6 (d3L l), L6 (lane l 13 ^^^ d3L l), L6 (rotl (lane l 13 ^^^ d3L l) 25), A6 n0 19, L6 (lane l 19), L6 (d4L l), L6 (lane l 19 ^^^ d4L l), L6 (rotl (lane l 19 ^^^ d4L l) 8), A6 n0 20, L6 (lane l 20), L6 (d0L l), L6 (lane l 20 ^^^ d0L l), L6 (rotl (lane l 20 ^^^ d0L l) 18), A6 n0 4, L6 (lane l 4), L6 (d4L l), L6 (lane l 4 ^^^ d4L l), L6 (rotl (lane l 4 ^^^ d4L l) 27), A6 n0 5, L6 (lane l 5), L6 (d0L l), L6 (lane l 5 ^^^ d0L l), L6 (rotl (lane l 5 ^^^ d0L l) 36), A6 n0 11, L6 (lane l 11), L6 (d1L l), L6 (lane l 11 ^^^ d1L l), L6 (rotl (lane l 11 ^^^ d1L l) 10), A6 n0 17, L6 (lane l 17), L6 (d2L l), L6 (lane l 17 ^^^ d2L l), undef, A6 n0 23, L6 (lane l 23), L6 (d3L l), L6 (lane l 23 ^^^ d3L l), undef, A6 n0 2, L6 (lane l 2), L6 (d2L l), L6 (lane l 2 ^^^ d2L l), undef, A6 n0 8, L6 (lane l 8), L6 (d3L l), L6 (lane l 8 ^^^ d3L l), undef, A6 n0 14, L6 (lane l 14), L6 (d4L l), L6 (lane l 14 ^^^ d4L l), undef, A6 n0 15, L6 (lane l 15), L6 (d0L l), L6 (lane l 15 ^^^ d0L l), undef, A6 n0 21, L6 (lane l 21), L6 (d1L l), L6 (lane l 21 ^^^ d1L l), undef, undef]).toArray, []⟩ X
def mixS8 (l : List UInt64) (n0 : Nat) (X : World) (Q : Exit → Act → World → Prop) : Prop := wpAnyH Tryd.prog .any mixOps.toArray Q (fun w' => w'.rangeAt n0 0 (laneCells l)) 1 (R6 [(125, true), (1, false)]) ⟨(mixP l n0 ++ [A6 n0 0, L6 (lane l 0), L6 (d0L l), L6 (lane l 0 ^^^ d0L l), A6 n0 6, L6 (lane l 6), L6 (d1L l), L6 (lane l 6 ^^^ d1L l), L6 (rotl (lane l 6 ^^^ d1L l) 44), A6 n0 12, L6 (lane l 12), L6 (d2L l), L6 (lane l 12 ^^^ d2L l), L6 (rotl (lane l 12 ^^^ d2L l) 43), A6 n0 18, L6 (lane l 18), L6 (d3L l), L6 (lane l 18 ^^^ d3L l), L6 (rotl (lane l 18 ^^^ d3L l) 21), A6 n0 24, L6 (lane l 24), L6 (d4L l), L6 (lane l 24 ^^^ d4L l), L6 (rotl (lane l 24 ^^^ d4L l) 14), A6 n0 3, L6 (lane l 3), L6 (d3L l), L6 (lane l 3 ^^^ d3L l), L6 (rotl (lane l 3 ^^^ d3L l) 28), A6 n0 9, L6 (lane l 9), L6 (d4L l), L6 (lane l 9 ^^^ d4L l), L6 (rotl (lane l 9 ^^^ d4L l) 20), A6 n0 10, L6 (lane l 10), L6 (d0L l), L6 (lane l 10 ^^^ d0L l), L6 (rotl (lane l 10 ^^^ d0L l) 3), A6 n0 16, L6 (lane l 16), L6 (d1L l), L6 (lane l 16 ^^^ d1L l), L6 (rotl (lane l 16 ^^^ d1L l) 45), A6 n0 22, L6 (lane l 22), L6 (d2L l), L6 (lane l 22 ^^^ d2L l), L6 (rotl (lane l 22 ^^^ d2L l) 61), A6 n0 1, L6 (lane l 1), L6 (d1L l), L6 (lane l 1 ^^^ d1L l), L6 (rotl (lane l 1 ^^^ d1L l) 1), A6 n0 7, L6 (lane l 7), L6 (d2L l), L6 (lane l 7 ^^^ d2L l), L6 (rotl (lane l 7 ^^^ d2L l) 6), A6 n0 13, L6 (lane l 13), L6 (d3L l), L6 (lane l 13 ^^^ d3L l), L6 (rotl (lane l 13 ^^^ d3L l) 25), A6 n0 19, L6 (lane l 19), L6 (d4L l), L6 (lane l 19 ^^^ d4L l), L6 (rotl (lane l 19 ^^^ d4L l) 8), A6 n0 20, L6 (lane l 20), L6 (d0L l), L6 (lane l 20 ^^^ d0L l), L6 (rotl (lane l 20 ^^^ d0L l) 18), A6 n0 4, L6 (lane l 4), L6 (d4L l), L6 (lane l 4 ^^^ d4L l), L6 (rotl (lane l 4 ^^^ d4L l) 27), A6 n0 5, L6 (lane l 5), L6 (d0L l), L6 (lane l 5 ^^^ d0L l), L6 (rotl (lane l 5 ^^^ d0L l) 36), A6 n0 11, L6 (lane l 11), L6 (d1L l), L6 (lane l 11 ^^^ d1L l), L6 (rotl (lane l 11 ^^^ d1L l) 10), A6 n0 17, L6 (lane l 17), L6 (d2L l), L6 (lane l 17 ^^^ d2L l), L6 (rotl (lane l 17 ^^^ d2L l) 15), A6 n0 23, L6 (lane l 23), L6 (d3L l), L6 (lane l 23 ^^^ d3L l), L6 (rotl (lane l 23 ^^^ d3L l) 56), A6 n0 2, L6 (lane l 2), L6 (d2L l), L6 (lane l 2 ^^^ d2L l), L6 (rotl (lane l 2 ^^^ d2L l) 62), A6 n0 8, L6 (lane l 8), L6 (d3L l), L6 (lane l 8 ^^^ d3L l), L6 (rotl (lane l 8 ^^^ d3L l) 55), A6 n0 14, L6 (lane l 14), L6 (d4L l), L6 (lane l 14 ^^^ d4L l), L6 (rotl (lane l 14 ^^^ d4L l) 39), A6 n0 15, L6 (lane l 15), L6 (d0L l), L6 (lane l 15 ^^^ d0L l), L6 (rotl (lane l 15 ^^^ d0L l) 41), A6 n0 21, L6 (lane l 21), L6 (d1L l), L6 (lane l 21 ^^^ d1L l), L6 (rotl (lane l 21 ^^^ d1L l) 2), .agg (laneCells (mixL l)).toArray]).toArray, []⟩ X
section
variable {l : List UInt64} {n0 fuel : Nat} {X : World} {Q : Exit → Act → World → Prop} {listed L2 : Array Bool} {a a2 : Act} {x y : Operand}
theorem hmv (hQ : ∀ c a d v w, Q (.panic c) (Act.put a d v) w → Q (.panic c) a w) (hX : X.rangeAt n0 0 (laneCells l)) (i d : Nat) (v : Value) {opv : Op} {ty : TypeId} (hop : (mixOps.toArray[i]?).map (fun o => (o.op, o.type, o.dst)) = some (opv, ty, some d)) (hrun : ∀ w, w.rangeAt n0 0 (laneCells l) → (execOp a.eval ⟨some d, opv, ty, "", #[], none⟩).run Tryd.prog w = .ok (.value v) w) (h : wpAnyH Tryd.prog .any mixOps.toArray Q (fun w' => w'.rangeAt n0 0 (laneCells l)) fuel L2 a2 X)
 (hL : listed.setIfInBounds i true = L2 := by ((try simp only [arr9, hd9, tl9]); rfl)) (ha : a.put (some d) v = a2 := by ((try simp only [Act.put, arr9, hd9, tl9]); rfl)) (hside : mayTake .any mixOps.toArray listed i = true := by kernel_rfl) (hw : (mixOps.toArray[i]?).map (fun o => Region.wanted o (yielded mixOps.toArray a.tmps)) = some true := by kernel_rfl) : wpAnyH Tryd.prog .any mixOps.toArray Q (fun w' => w'.rangeAt n0 0 (laneCells l)) (fuel + 1) listed a X := hdv i d v hop hrun hX h hL ha hside hw (fun c a v w => hQ c a _ v w)
theorem hmv0 (hQ : ∀ c a d v w, Q (.panic c) (Act.put a d v) w → Q (.panic c) a w) (hX : X.rangeAt n0 0 (laneCells l)) (i d : Nat) (v : Value) {opv : Op} {ty : TypeId} (hop : (mixOps.toArray[i]?).map (fun o => (o.op, o.type, o.dst)) = some (opv, ty, some d)) (h : wpAnyH Tryd.prog .any mixOps.toArray Q (fun w' => w'.rangeAt n0 0 (laneCells l)) fuel L2 a2 X)
 (hL : listed.setIfInBounds i true = L2 := by ((try simp only [arr9, hd9, tl9]); rfl)) (ha : a.put (some d) v = a2 := by ((try simp only [Act.put, arr9, hd9, tl9]); rfl)) (hside : mayTake .any mixOps.toArray listed i = true := by kernel_rfl) (hw : (mixOps.toArray[i]?).map (fun o => Region.wanted o (yielded mixOps.toArray a.tmps)) = some true := by kernel_rfl) (hrun : ∀ w, (execOp a.eval ⟨some d, opv, ty, "", #[], none⟩).run Tryd.prog w = .ok (.value v) w := by intro w; kernel_rfl) : wpAnyH Tryd.prog .any mixOps.toArray Q (fun w' => w'.rangeAt n0 0 (laneCells l)) (fuel + 1) listed a X := hmv hQ hX i d v hop (fun w _ => hrun w) h hL ha hside hw
theorem hml (hQ : ∀ c a d v w, Q (.panic c) (Act.put a d v) w → Q (.panic c) a w) (hX : X.rangeAt n0 0 (laneCells l)) (hl : l.length = 25) (i d k : Nat) (hop : (mixOps.toArray[i]?).map (fun o => (o.op, o.type, o.dst)) = some (.load 56 x, 56, some d)) (h : wpAnyH Tryd.prog .any mixOps.toArray Q (fun w' => w'.rangeAt n0 0 (laneCells l)) fuel L2 a2 X)
 (hx : a.eval x = .pointer (some ⟨n0, k, none⟩) := by kernel_rfl) (hk : k < 25 := by decide) (hL : listed.setIfInBounds i true = L2 := by ((try simp only [arr9, hd9, tl9]); rfl)) (ha : a.put (some d) (L6 (lane l k)) = a2 := by ((try simp only [Act.put, arr9, hd9, tl9]); rfl)) (hside : mayTake .any mixOps.toArray listed i = true := by kernel_rfl) (hw : (mixOps.toArray[i]?).map (fun o => Region.wanted o (yielded mixOps.toArray a.tmps)) = some true := by kernel_rfl) : wpAnyH Tryd.prog .any mixOps.toArray Q (fun w' => w'.rangeAt n0 0 (laneCells l)) (fuel + 1) listed a X := hmv hQ hX i d (L6 (lane l k)) hop (fun _ e => by
  have e2 := e k _ (laneCells_lane l k (by omega))
  rw [Nat.zero_add] at e2
  exact run_load1 rfl Tryd.underlying56 hx e2) h hL ha hside hw
theorem hmx (hQ : ∀ c a d v w, Q (.panic c) (Act.put a d v) w → Q (.panic c) a w) (hX : X.rangeAt n0 0 (laneCells l)) (i d : Nat) (p q : UInt64) (hop : (mixOps.toArray[i]?).map (fun o => (o.op, o.type, o.dst)) = some (.binOp .xor 56 x y 56, 56, some d)) (h : wpAnyH Tryd.prog .any mixOps.toArray Q (fun w' => w'.rangeAt n0 0 (laneCells l)) fuel L2 a2 X)
 (hx : a.eval x = L6 p := by kernel_rfl) (hy : a.eval y = L6 q := by kernel_rfl) (hL : listed.setIfInBounds i true = L2 := by ((try simp only [arr9, hd9, tl9]); rfl)) (ha : a.put (some d) (L6 (p ^^^ q)) = a2 := by ((try simp only [Act.put, arr9, hd9, tl9]); rfl)) (hside : mayTake .any mixOps.toArray listed i = true := by kernel_rfl) (hw : (mixOps.toArray[i]?).map (fun o => Region.wanted o (yielded mixOps.toArray a.tmps)) = some true := by kernel_rfl) : wpAnyH Tryd.prog .any mixOps.toArray Q (fun w' => w'.rangeAt n0 0 (laneCells l)) (fuel + 1) listed a X := hmv hQ hX i d (L6 (p ^^^ q)) hop (fun _ _ => run_xorL rfl hx hy) h hL ha hside hw
theorem hmc (hX : X.rangeAt n0 0 (laneCells l)) (i d k : Nat) (p : UInt64) (hop : (mixOps.toArray[i]?).map (fun o => (o.op, o.type, o.dst)) = some (.call { callee := .value (.func 56), args := #[x, .const (.int .i64 (k : Int))], argTypes := #[56, 3] }, 56, some d)) (h : wpAnyH Tryd.prog .any mixOps.toArray Q (fun w' => w'.rangeAt n0 0 (laneCells l)) fuel L2 a2 X)
 (hx : a.eval x = L6 p := by kernel_rfl) (hk : k ≤ 63 := by decide) (hr : Region.ready .any mixOps.toArray listed = [i] := by kernel_rfl) (hw : (mixOps.toArray[i]?).map (fun o => Region.wanted o (yielded mixOps.toArray a.tmps)) = some true := by kernel_rfl) (hL : listed.setIfInBounds i true = L2 := by ((try simp only [arr9, hd9, tl9]); rfl)) (ha : a.put (some d) (L6 (rotl p k)) = a2 := by ((try simp only [Act.put, arr9, hd9, tl9]); rfl)) : wpAnyH Tryd.prog .any mixOps.toArray Q (fun w' => w'.rangeAt n0 0 (laneCells l)) (fuel + 1) listed a X := by
 refine held_call i _ _ _ 56 #[L6 p, .int .i64 (k : Int)] hr hop hw ?_ ?_
 ·have hc : a.eval (.const (.int .i64 (k : Int))) = .int .i64 (k : Int) := rfl
  have hf : a.eval (.func 56) = .func (.func 56) #[] #[] := rfl
  unfold execOp
  go_simp
  rcases x with t | v | g | f
  ·simpa [Act.eval] using hx
  ·simpa [Act.eval] using hx
  ·simp [Act.eval] at hx
  ·simp [Act.eval] at hx
 ·refine (left_any p k hk _).mono ?_
  rintro e w' ⟨rfl, hw'⟩
  obtain rfl : X = w' := hw'.symm
  refine ⟨_, rfl, hX, ?_⟩
  rw [hL]
  have e : a.put (some d) (.int .u64 ((rotl p k).toNat : Int)) = a2 := ha
  rw [e]
  exact h
end
set_option maxHeartbeats 1000000 in
theorem mixC0 (l : List UInt64) (hl : l.length = 25) (n0 : Nat) (X : World) (Q : Exit → Act → World → Prop) (hQ : ∀ c a d v w, Q (.panic c) (Act.put a d v) w → Q (.panic c) a w) (hX : X.rangeAt n0 0 (laneCells l)) (h : mixS1 l n0 X Q) : mixS0 l n0 X Q := by
 unfold mixS0
 simp only [mixP, R6, R6.go, List.replicate, List.cons_append, List.nil_append]
 refine hmv0 hQ hX 0 103 (A6 n0 0) (by rfl) ?_
 refine hml hQ hX hl 1 104 0 (by rfl) ?_
 refine hmv0 hQ hX 2 105 (L6 (d0L l)) (by rfl) ?_
 refine hmx hQ hX 3 106 (lane l 0) (d0L l) (by rfl) ?_
 refine hmv0 hQ hX 4 107 (A6 n0 6) (by rfl) ?_
 refine hml hQ hX hl 5 108 6 (by rfl) ?_
 refine hmv0 hQ hX 6 109 (L6 (d1L l)) (by rfl) ?_
 refine hmx hQ hX 7 110 (lane l 6) (d1L l) (by rfl) ?_
 refine hmv0 hQ hX 9 112 (A6 n0 12) (by rfl) ?_
 refine hml hQ hX hl 10 113 12 (by rfl) ?_
 refine hmv0 hQ hX 11 114 (L6 (d2L l)) (by rfl) ?_
 refine hmx hQ hX 12 115 (lane l 12) (d2L l) (by rfl) ?_
 refine hmv0 hQ hX 14 117 (A6 n0 18) (by rfl) ?_
 refine hml hQ hX hl 15 118 18 (by rfl) ?_
 refine hmv0 hQ hX 16 119 (L6 (d3L l)) (by rfl) ?_
 refine hmx hQ hX 17 120 (lane l 18) (d3L l) (by rfl) ?_
 refine hmv0 hQ hX 19 122 (A6 n0 24) (by rfl) ?_
 refine hml hQ hX hl 20 123 24 (by rfl) ?_
 refine hmv0 hQ hX 21 124 (L6 (d4L l)) (by rfl) ?_
 refine hmx hQ hX 22 125 (lane l 24) (d4L l) (by rfl) ?_
 exact h
set_option maxHeartbeats 1000000 in
theorem mixC1 (l : List UInt64) (hl : l.length = 25) (n0 : Nat) (X : World) (Q : Exit → Act → World → Prop) (hQ : ∀ c a d v w, Q (.panic c) (Act.put a d v) w → Q (.panic c) a w) (hX : X.rangeAt n0 0 (laneCells l)) (h : mixS2 l n0 X Q) : mixS1 l n0 X Q := by
 unfold mixS1
 simp only [mixP, R6, R6.go, List.replicate, List.cons_append, List.nil_append]
 refine hmv0 hQ hX 24 127 (A6 n0 3) (by rfl) ?_
 refine hml hQ hX hl 25 128 3 (by rfl) ?_
 refine hmv0 hQ hX 26 129 (L6 (d3L l)) (by rfl) ?_
 refine hmx hQ hX 27 130 (lane l 3) (d3L l) (by rfl) ?_
 refine hmv0 hQ hX 29 132 (A6 n0 9) (by rfl) ?_
 refine hml hQ hX hl 30 133 9 (by rfl) ?_
 refine hmv0 hQ hX 31 134 (L6 (d4L l)) (by rfl) ?_
 refine hmx hQ hX 32 135 (lane l 9) (d4L l) (by rfl) ?_
 refine hmv0 hQ hX 34 137 (A6 n0 10) (by rfl) ?_
 refine hml hQ hX hl 35 138 10 (by rfl) ?_
 refine hmv0 hQ hX 36 139 (L6 (d0L l)) (by rfl) ?_
 refine hmx hQ hX 37 140 (lane l 10) (d0L l) (by rfl) ?_
 refine hmv0 hQ hX 39 142 (A6 n0 16) (by rfl) ?_
 refine hml hQ hX hl 40 143 16 (by rfl) ?_
 refine hmv0 hQ hX 41 144 (L6 (d1L l)) (by rfl) ?_
 refine hmx hQ hX 42 145 (lane l 16) (d1L l) (by rfl) ?_
 refine hmv0 hQ hX 44 147 (A6 n0 22) (by rfl) ?_
 refine hml hQ hX hl 45 148 22 (by rfl) ?_
 refine hmv0 hQ hX 46 149 (L6 (d2L l)) (by rfl) ?_
 refine hmx hQ hX 47 150 (lane l 22) (d2L l) (by rfl) ?_
 exact h
set_option maxHeartbeats 1000000 in
theorem mixC2 (l : List UInt64) (hl : l.length = 25) (n0 : Nat) (X : World) (Q : Exit → Act → World → Prop) (hQ : ∀ c a d v w, Q (.panic c) (Act.put a d v) w → Q (.panic c) a w) (hX : X.rangeAt n0 0 (laneCells l)) (h : mixS3 l n0 X Q) : mixS2 l n0 X Q := by
 unfold mixS2
 simp only [mixP, R6, R6.go, List.replicate, List.cons_append, List.nil_append]
 refine hmv0 hQ hX 49 152 (A6 n0 1) (by rfl) ?_
 refine hml hQ hX hl 50 153 1 (by rfl) ?_
 refine hmv0 hQ hX 51 154 (L6 (d1L l)) (by rfl) ?_
 refine hmx hQ hX 52 155 (lane l 1) (d1L l) (by rfl) ?_
 refine hmv0 hQ hX 54 157 (A6 n0 7) (by rfl) ?_
 refine hml hQ hX hl 55 158 7 (by rfl) ?_
 refine hmv0 hQ hX 56 159 (L6 (d2L l)) (by rfl) ?_
 refine hmx hQ hX 57 160 (lane l 7) (d2L l) (by rfl) ?_
 refine hmv0 hQ hX 59 162 (A6 n0 13) (by rfl) ?_
 refine hml hQ hX hl 60 163 13 (by rfl) ?_
 refine hmv0 hQ hX 61 164 (L6 (d3L l)) (by rfl) ?_
 refine hmx hQ hX 62 165 (lane l 13) (d3L l) (by rfl) ?_
 refine hmv0 hQ hX 64 167 (A6 n0 19) (by rfl) ?_
 refine hml hQ hX hl 65 168 19 (by rfl) ?_
 refine hmv0 hQ hX 66 169 (L6 (d4L l)) (by rfl) ?_
 refine hmx hQ hX 67 170 (lane l 19) (d4L l) (by rfl) ?_
 refine hmv0 hQ hX 69 172 (A6 n0 20) (by rfl) ?_
 refine hml hQ hX hl 70 173 20 (by rfl) ?_
 refine hmv0 hQ hX 71 174 (L6 (d0L l)) (by rfl) ?_
 refine hmx hQ hX 72 175 (lane l 20) (d0L l) (by rfl) ?_
 exact h
set_option maxHeartbeats 1000000 in
theorem mixC3 (l : List UInt64) (hl : l.length = 25) (n0 : Nat) (X : World) (Q : Exit → Act → World → Prop) (hQ : ∀ c a d v w, Q (.panic c) (Act.put a d v) w → Q (.panic c) a w) (hX : X.rangeAt n0 0 (laneCells l)) (h : mixS4 l n0 X Q) : mixS3 l n0 X Q := by
 unfold mixS3
 simp only [mixP, R6, R6.go, List.replicate, List.cons_append, List.nil_append]
 refine hmv0 hQ hX 74 177 (A6 n0 4) (by rfl) ?_
 refine hml hQ hX hl 75 178 4 (by rfl) ?_
 refine hmv0 hQ hX 76 179 (L6 (d4L l)) (by rfl) ?_
 refine hmx hQ hX 77 180 (lane l 4) (d4L l) (by rfl) ?_
 refine hmv0 hQ hX 79 182 (A6 n0 5) (by rfl) ?_
 refine hml hQ hX hl 80 183 5 (by rfl) ?_
 refine hmv0 hQ hX 81 184 (L6 (d0L l)) (by rfl) ?_
 refine hmx hQ hX 82 185 (lane l 5) (d0L l) (by rfl) ?_
 refine hmv0 hQ hX 84 187 (A6 n0 11) (by rfl) ?_
 refine hml hQ hX hl 85 188 11 (by rfl) ?_
 refine hmv0 hQ hX 86 189 (L6 (d1L l)) (by rfl) ?_
 refine hmx hQ hX 87 190 (lane l 11) (d1L l) (by rfl) ?_
 refine hmv0 hQ hX 89 192 (A6 n0 17) (by rfl) ?_
 refine hml hQ hX hl 90 193 17 (by rfl) ?_
 refine hmv0 hQ hX 91 194 (L6 (d2L l)) (by rfl) ?_
 refine hmx hQ hX 92 195 (lane l 17) (d2L l) (by rfl) ?_
 refine hmv0 hQ hX 94 197 (A6 n0 23) (by rfl) ?_
 refine hml hQ hX hl 95 198 23 (by rfl) ?_
 refine hmv0 hQ hX 96 199 (L6 (d3L l)) (by rfl) ?_
 refine hmx hQ hX 97 200 (lane l 23) (d3L l) (by rfl) ?_
 exact h
end Go.Proofs.YtapjiknedghhfaaDoor
