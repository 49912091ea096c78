import Derived.Test.YtapjiknedghhfaaDoorKMixA
/-
 WALK: a part of keccak.mix's last statement.
-/
namespace Go.Proofs.YtapjiknedghhfaaDoor
open Go.RowKit
set_option maxRecDepth 100000

set_option maxHeartbeats 1000000 in
theorem mixC4 (l : List UInt64) (hl : l.length = 25) (n0 : Nat) (X : World) (Q : Exit → Act → World → Prop) (hQ : ∀ c a d v w, Q (.panic c) (Act.put a d v) w → Q (.panic c) a w) (hX : X.rangeAt n0 0 (laneCells l)) (h : mixS5 l n0 X Q) : mixS4 l n0 X Q := by
 unfold mixS4
 simp only [mixP, R6, R6.go, List.replicate, List.cons_append, List.nil_append]
 refine hmv0 hQ hX 99 202 (A6 n0 2) (by rfl) ?_
 refine hml hQ hX hl 100 203 2 (by rfl) ?_
 refine hmv0 hQ hX 101 204 (L6 (d2L l)) (by rfl) ?_
 refine hmx hQ hX 102 205 (lane l 2) (d2L l) (by rfl) ?_
 refine hmv0 hQ hX 104 207 (A6 n0 8) (by rfl) ?_
 refine hml hQ hX hl 105 208 8 (by rfl) ?_
 refine hmv0 hQ hX 106 209 (L6 (d3L l)) (by rfl) ?_
 refine hmx hQ hX 107 210 (lane l 8) (d3L l) (by rfl) ?_
 refine hmv0 hQ hX 109 212 (A6 n0 14) (by rfl) ?_
 refine hml hQ hX hl 110 213 14 (by rfl) ?_
 refine hmv0 hQ hX 111 214 (L6 (d4L l)) (by rfl) ?_
 refine hmx hQ hX 112 215 (lane l 14) (d4L l) (by rfl) ?_
 refine hmv0 hQ hX 114 217 (A6 n0 15) (by rfl) ?_
 refine hml hQ hX hl 115 218 15 (by rfl) ?_
 refine hmv0 hQ hX 116 219 (L6 (d0L l)) (by rfl) ?_
 refine hmx hQ hX 117 220 (lane l 15) (d0L l) (by rfl) ?_
 refine hmv0 hQ hX 119 222 (A6 n0 21) (by rfl) ?_
 refine hml hQ hX hl 120 223 21 (by rfl) ?_
 refine hmv0 hQ hX 121 224 (L6 (d1L l)) (by rfl) ?_
 refine hmx hQ hX 122 225 (lane l 21) (d1L l) (by rfl) ?_
 exact h
set_option maxHeartbeats 1000000 in
theorem mixC5 (l : List UInt64) (_hl : l.length = 25) (n0 : Nat) (X : World) (Q : Exit → Act → World → Prop) (_hQ : ∀ c a d v w, Q (.panic c) (Act.put a d v) w → Q (.panic c) a w) (hX : X.rangeAt n0 0 (laneCells l)) (h : mixS6 l n0 X Q) : mixS5 l n0 X Q := by
 unfold mixS5
 simp only [mixP, R6, R6.go, List.replicate, List.cons_append, List.nil_append]
 refine hmc hX 8 111 44 (lane l 6 ^^^ d1L l) (by rfl) ?_
 refine hmc hX 13 116 43 (lane l 12 ^^^ d2L l) (by rfl) ?_
 refine hmc hX 18 121 21 (lane l 18 ^^^ d3L l) (by rfl) ?_
 refine hmc hX 23 126 14 (lane l 24 ^^^ d4L l) (by rfl) ?_
 refine hmc hX 28 131 28 (lane l 3 ^^^ d3L l) (by rfl) ?_
 refine hmc hX 33 136 20 (lane l 9 ^^^ d4L l) (by rfl) ?_
 refine hmc hX 38 141 3 (lane l 10 ^^^ d0L l) (by rfl) ?_
 refine hmc hX 43 146 45 (lane l 16 ^^^ d1L l) (by rfl) ?_
 refine hmc hX 48 151 61 (lane l 22 ^^^ d2L l) (by rfl) ?_
 exact h
set_option maxHeartbeats 1000000 in
theorem mixC6 (l : List UInt64) (_hl : l.length = 25) (n0 : Nat) (X : World) (Q : Exit → Act → World → Prop) (_hQ : ∀ c a d v w, Q (.panic c) (Act.put a d v) w → Q (.panic c) a w) (hX : X.rangeAt n0 0 (laneCells l)) (h : mixS7 l n0 X Q) : mixS6 l n0 X Q := by
 unfold mixS6
 simp only [mixP, R6, R6.go, List.replicate, List.cons_append, List.nil_append]
 refine hmc hX 53 156 1 (lane l 1 ^^^ d1L l) (by rfl) ?_
 refine hmc hX 58 161 6 (lane l 7 ^^^ d2L l) (by rfl) ?_
 refine hmc hX 63 166 25 (lane l 13 ^^^ d3L l) (by rfl) ?_
 refine hmc hX 68 171 8 (lane l 19 ^^^ d4L l) (by rfl) ?_
 refine hmc hX 73 176 18 (lane l 20 ^^^ d0L l) (by rfl) ?_
 refine hmc hX 78 181 27 (lane l 4 ^^^ d4L l) (by rfl) ?_
 refine hmc hX 83 186 36 (lane l 5 ^^^ d0L l) (by rfl) ?_
 refine hmc hX 88 191 10 (lane l 11 ^^^ d1L l) (by rfl) ?_
 exact h
set_option maxHeartbeats 1000000 in
theorem mixC7 (l : List UInt64) (_hl : l.length = 25) (n0 : Nat) (X : World) (Q : Exit → Act → World → Prop) (hQ : ∀ c a d v w, Q (.panic c) (Act.put a d v) w → Q (.panic c) a w) (hX : X.rangeAt n0 0 (laneCells l)) (h : mixS8 l n0 X Q) : mixS7 l n0 X Q := by
 unfold mixS7
 simp only [mixP, R6, R6.go, List.replicate, List.cons_append, List.nil_append]
 refine hmc hX 93 196 15 (lane l 17 ^^^ d2L l) (by rfl) ?_
 refine hmc hX 98 201 56 (lane l 23 ^^^ d3L l) (by rfl) ?_
 refine hmc hX 103 206 62 (lane l 2 ^^^ d2L l) (by rfl) ?_
 refine hmc hX 108 211 55 (lane l 8 ^^^ d3L l) (by rfl) ?_
 refine hmc hX 113 216 39 (lane l 14 ^^^ d4L l) (by rfl) ?_
 refine hmc hX 118 221 41 (lane l 15 ^^^ d0L l) (by rfl) ?_
 refine hmc hX 123 226 2 (lane l 21 ^^^ d1L l) (by rfl) ?_
 refine hmv0 hQ hX 124 227 (.agg (laneCells (mixL l)).toArray) (by rfl) ?_
 exact h
end Go.Proofs.YtapjiknedghhfaaDoor
