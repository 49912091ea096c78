import Derived.Test.YtbjpbeplpljieaaDoorZA
/-
 THE OPERATIONS of keccak.mix's last statement, as the program has them.
-/
namespace Go.Proofs.YtbjpbeplpljieaaDoor
open Go.RowKit
set_option maxRecDepth 100000

def d0L (l : List UInt64) : UInt64 := colX l 4 ^^^ rotl (colX l 1) 1
def d1L (l : List UInt64) : UInt64 := colX l 0 ^^^ rotl (colX l 2) 1
def d2L (l : List UInt64) : UInt64 := colX l 1 ^^^ rotl (colX l 3) 1
def d3L (l : List UInt64) : UInt64 := colX l 2 ^^^ rotl (colX l 4) 1
def d4L (l : List UInt64) : UInt64 := colX l 3 ^^^ rotl (colX l 0) 1
def mxH (n : Nat) : Edge := { on := n, ground := Ground.phase }
def mxG (n : Nat) : Edge := { on := n, ground := Ground.data }
def mxI (d k : Nat) : Oper := { dst := some d, op := Op.indexAddr 71 (Operand.tmp 1) (Operand.const (Value.int IntKind.i64 k)), type := 0, pos := "keccak.go:47", after := #[], guard := none }
def mxL (d x n : Nat) : Oper := { dst := some d, op := Op.load 70 (Operand.tmp x), type := 70, pos := "keccak.go:47", after := #[mxG n], guard := none }
def mxM (d x : Nat) : Oper := { dst := some d, op := Op.move (Operand.tmp x), type := 70, pos := "keccak.go:47", after := #[], guard := none }
def mxX (d x y m n : Nat) : Oper := { dst := some d, op := Op.binOp BinOp.xor 70 (Operand.tmp x) (Operand.tmp y) 70, type := 70, pos := "keccak.go:47", after := #[mxG m, mxG n], guard := none }
def mxC (d x k : Nat) (p : String) (m : Array Edge) : Oper := { dst := some d, op := Op.call { callee := Callee.value (Operand.func 98), args := #[Operand.tmp x, Operand.const (Value.int IntKind.i64 k)], argTypes := #[70, 3] }, type := 70, pos := p, after := m, guard := none }
def mixOps : List Oper := [
 mxI 103 0,
 mxL 104 103 0,
 mxM 105 8,
 mxX 106 104 105 1 2,
 mxI 107 6,
 mxL 108 107 4,
 mxM 109 9,
 mxX 110 108 109 5 6,
 mxC 111 110 44 "keccak.go:48" #[mxG 7],
 mxI 112 12,
 mxL 113 112 9,
 mxM 114 10,
 mxX 115 113 114 10 11,
 mxC 116 115 43 "keccak.go:48" #[mxG 12, ⟨8, .chain⟩],
 mxI 117 18,
 mxL 118 117 14,
 mxM 119 11,
 mxX 120 118 119 15 16,
 mxC 121 120 21 "keccak.go:48" #[mxG 17, ⟨13, .chain⟩],
 mxI 122 24,
 mxL 123 122 19,
 mxM 124 12,
 mxX 125 123 124 20 21,
 mxC 126 125 14 "keccak.go:48" #[mxG 22, ⟨18, .chain⟩],
 mxI 127 3,
 mxL 128 127 24,
 mxM 129 11,
 mxX 130 128 129 25 26,
 mxC 131 130 28 "keccak.go:49" #[mxG 27, ⟨23, .chain⟩],
 mxI 132 9,
 mxL 133 132 29,
 mxM 134 12,
 mxX 135 133 134 30 31,
 mxC 136 135 20 "keccak.go:49" #[mxG 32, ⟨28, .chain⟩],
 mxI 137 10,
 mxL 138 137 34,
 mxM 139 8,
 mxX 140 138 139 35 36,
 mxC 141 140 3 "keccak.go:49" #[mxG 37, ⟨33, .chain⟩],
 mxI 142 16,
 mxL 143 142 39,
 mxM 144 9,
 mxX 145 143 144 40 41,
 mxC 146 145 45 "keccak.go:49" #[mxG 42, ⟨38, .chain⟩],
 mxI 147 22,
 mxL 148 147 44,
 mxM 149 10,
 mxX 150 148 149 45 46,
 mxC 151 150 61 "keccak.go:49" #[mxG 47, ⟨43, .chain⟩],
 mxI 152 1,
 mxL 153 152 49,
 mxM 154 9,
 mxX 155 153 154 50 51,
 mxC 156 155 1 "keccak.go:50" #[mxG 52, ⟨48, .chain⟩],
 mxI 157 7,
 mxL 158 157 54,
 mxM 159 10,
 mxX 160 158 159 55 56,
 mxC 161 160 6 "keccak.go:50" #[mxG 57, ⟨53, .chain⟩],
 mxI 162 13,
 mxL 163 162 59,
 mxM 164 11,
 mxX 165 163 164 60 61,
 mxC 166 165 25 "keccak.go:50" #[mxG 62, ⟨58, .chain⟩],
 mxI 167 19,
 mxL 168 167 64,
 mxM 169 12,
 mxX 170 168 169 65 66,
 mxC 171 170 8 "keccak.go:50" #[mxG 67, ⟨63, .chain⟩],
 mxI 172 20,
 mxL 173 172 69,
 mxM 174 8,
 mxX 175 173 174 70 71,
 mxC 176 175 18 "keccak.go:50" #[mxG 72, ⟨68, .chain⟩],
 mxI 177 4,
 mxL 178 177 74,
 mxM 179 12,
 mxX 180 178 179 75 76,
 mxC 181 180 27 "keccak.go:51" #[mxG 77, ⟨73, .chain⟩],
 mxI 182 5,
 mxL 183 182 79,
 mxM 184 8,
 mxX 185 183 184 80 81,
 mxC 186 185 36 "keccak.go:51" #[mxG 82, ⟨78, .chain⟩],
 mxI 187 11,
 mxL 188 187 84,
 mxM 189 9,
 mxX 190 188 189 85 86,
 mxC 191 190 10 "keccak.go:51" #[mxG 87, ⟨83, .chain⟩],
 mxI 192 17,
 mxL 193 192 89,
 mxM 194 10,
 mxX 195 193 194 90 91,
 mxC 196 195 15 "keccak.go:51" #[mxG 92, ⟨88, .chain⟩],
 mxI 197 23,
 mxL 198 197 94,
 mxM 199 11,
 mxX 200 198 199 95 96,
 mxC 201 200 56 "keccak.go:51" #[mxG 97, ⟨93, .chain⟩],
 mxI 202 2,
 mxL 203 202 99,
 mxM 204 10,
 mxX 205 203 204 100 101,
 mxC 206 205 62 "keccak.go:52" #[mxG 102, ⟨98, .chain⟩],
 mxI 207 8,
 mxL 208 207 104,
 mxM 209 11,
 mxX 210 208 209 105 106,
 mxC 211 210 55 "keccak.go:52" #[mxG 107, ⟨103, .chain⟩],
 mxI 212 14,
 mxL 213 212 109,
 mxM 214 12,
 mxX 215 213 214 110 111,
 mxC 216 215 39 "keccak.go:52" #[mxG 112, ⟨108, .chain⟩],
 mxI 217 15,
 mxL 218 217 114,
 mxM 219 8,
 mxX 220 218 219 115 116,
 mxC 221 220 41 "keccak.go:52" #[mxG 117, ⟨113, .chain⟩],
 mxI 222 21,
 mxL 223 222 119,
 mxM 224 9,
 mxX 225 223 224 120 121,
 mxC 226 225 2 "keccak.go:52" #[mxG 122, ⟨118, .chain⟩],
 { dst := some 227, op := Op.build 71 #[(0, Operand.tmp 106), (1, Operand.tmp 111), (2, Operand.tmp 116), (3, Operand.tmp 121), (4, Operand.tmp 126), (5, Operand.tmp 131), (6, Operand.tmp 136), (7, Operand.tmp 141), (8, Operand.tmp 146), (9, Operand.tmp 151), (10, Operand.tmp 156), (11, Operand.tmp 161), (12, Operand.tmp 166), (13, Operand.tmp 171), (14, Operand.tmp 176), (15, Operand.tmp 181), (16, Operand.tmp 186), (17, Operand.tmp 191), (18, Operand.tmp 196), (19, Operand.tmp 201), (20, Operand.tmp 206), (21, Operand.tmp 211), (22, Operand.tmp 216), (23, Operand.tmp 221), (24, Operand.tmp 226)], type := 71, pos := "keccak.go:47", after := #[mxG 3, mxG 8, mxG 13, mxG 18, mxG 23, mxG 28, mxG 33, mxG 38, mxG 43, mxG 48, mxG 53, mxG 58, mxG 63, mxG 68, mxG 73, mxG 78, mxG 83, mxG 88, mxG 93, mxG 98, mxG 103, mxG 108, mxG 113, mxG 118, mxG 123], guard := none },
 { dst := none, op := Op.store 71 (Operand.tmp 2) (Operand.tmp 227), type := 0, pos := "keccak.go:47", after := ([mxG 124, { on := 123, ground := Ground.chain }, mxH 0, mxH 1, mxH 2, mxH 3, mxH 4, mxH 5, mxH 6, mxH 7, mxH 8, mxH 9, mxH 10, mxH 11, mxH 12, mxH 13, mxH 14, mxH 15, mxH 16, mxH 17, mxH 18, mxH 19, mxH 20, mxH 21, mxH 22, mxH 23, mxH 24, mxH 25, mxH 26, mxH 27, mxH 28, mxH 29, mxH 30, mxH 31, mxH 32, mxH 33, mxH 34, mxH 35, mxH 36, mxH 37, mxH 38, mxH 39, mxH 40, mxH 41, mxH 42, mxH 43, mxH 44, mxH 45, mxH 46, mxH 47, mxH 48, mxH 49, mxH 50, mxH 51, mxH 52, mxH 53, mxH 54, mxH 55, mxH 56, mxH 57, mxH 58, mxH 59, mxH 60].append [mxH 61, mxH 62, mxH 63, mxH 64, mxH 65, mxH 66, mxH 67, mxH 68, mxH 69, mxH 70, mxH 71, mxH 72, mxH 73, mxH 74, mxH 75, mxH 76, mxH 77, mxH 78, mxH 79, mxH 80, mxH 81, mxH 82, mxH 83, mxH 84, mxH 85, mxH 86, mxH 87, mxH 88, mxH 89, mxH 90, mxH 91, mxH 92, mxH 93, mxH 94, mxH 95, mxH 96, mxH 97, mxH 98, mxH 99, mxH 100, mxH 101, mxH 102, mxH 103, mxH 104, mxH 105, mxH 106, mxH 107, mxH 108, mxH 109, mxH 110, mxH 111, mxH 112, mxH 113, mxH 114, mxH 115, mxH 116, mxH 117, mxH 118, mxH 119, mxH 120, mxH 121, mxH 122, mxH 123, mxH 124]).toArray, guard := none }]
end Go.Proofs.YtbjpbeplpljieaaDoor


/-
 WALK: a part of keccak.mix's last statement.
-/
namespace Go.Proofs.YtbjpbeplpljieaaDoor
open Go.RowKit
set_option maxRecDepth 100000

/-- a lane, an address, the operations done: short words for the frames below -/
abbrev L6 (x : UInt64) : Value := .int .u64 (x.toNat : Int)
abbrev A6 (n k : Nat) : Value := .pointer (some ⟨n, k, none⟩)
def R6 (l : List (Nat × Bool)) : Array Bool := (go l).toArray
 where go : List (Nat × Bool) → List Bool
  | [] => []
  | (n, b) :: r => List.replicate n b ++ go r
def mixP (l : List UInt64) (n0 : Nat) : List Value := [.agg (laneCells l).toArray, A6 n0 0, A6 (n0 + 1) 0, L6 (colX l 0), L6 (colX l 1), L6 (colX l 2), L6 (colX l 3), L6 (colX l 4), L6 (d0L l), L6 (d1L l), L6 (d2L l), L6 (d3L l), L6 (d4L l), A6 n0 0, L6 (lane l 0), A6 n0 5, L6 (lane l 5), L6 (lane l 0 ^^^ lane l 5), A6 n0 10, L6 (lane l 10), L6 (lane l 0 ^^^ lane l 5 ^^^ lane l 10), A6 n0 15, L6 (lane l 15), L6 (lane l 0 ^^^ lane l 5 ^^^ lane l 10 ^^^ lane l 15), A6 n0 20, L6 (lane l 20), L6 (lane l 0 ^^^ lane l 5 ^^^ lane l 10 ^^^ lane l 15 ^^^ lane l 20), A6 n0 1, L6 (lane l 1), A6 n0 6, L6 (lane l 6), L6 (lane l 1 ^^^ lane l 6), A6 n0 11, L6 (lane l 11), L6 (lane l 1 ^^^ lane l 6 ^^^ lane l 11), A6 n0 16, L6 (lane l 16), L6 (lane l 1 ^^^ lane l 6 ^^^ lane l 11 ^^^ lane l 16), A6 n0 21, L6 (lane l 21), L6 (lane l 1 ^^^ lane l 6 ^^^ lane l 11 ^^^ lane l 16 ^^^ lane l 21), A6 n0 2, L6 (lane l 2), A6 n0 7, L6 (lane l 7), L6 (lane l 2 ^^^ lane l 7), A6 n0 12, L6 (lane l 12), L6 (lane l 2 ^^^ lane l 7 ^^^ lane l 12), A6 n0 17, L6 (lane l 17), L6 (lane l 2 ^^^ lane l 7 ^^^ lane l 12 ^^^ lane l 17), A6 n0 22, L6 (lane l 22), L6 (lane l 2 ^^^ lane l 7 ^^^ lane l 12 ^^^ lane l 17 ^^^ lane l 22), A6 n0 3, L6 (lane l 3), A6 n0 8, L6 (lane l 8), L6 (lane l 3 ^^^ lane l 8), A6 n0 13, L6 (lane l 13), L6 (lane l 3 ^^^ lane l 8 ^^^ lane l 13), A6 n0 18, L6 (lane l 18), L6 (lane l 3 ^^^ lane l 8 ^^^ lane l 13 ^^^ lane l 18), A6 n0 23, L6 (lane l 23), L6 (lane l 3 ^^^ lane l 8 ^^^ lane l 13 ^^^ lane l 18 ^^^ lane l 23), A6 n0 4, L6 (lane l 4), A6 n0 9, L6 (lane l 9), L6 (lane l 4 ^^^ lane l 9), A6 n0 14, L6 (lane l 14), L6 (lane l 4 ^^^ lane l 9 ^^^ lane l 14), A6 n0 19, L6 (lane l 19), L6 (lane l 4 ^^^ lane l 9 ^^^ lane l 14 ^^^ lane l 19), A6 n0 24, L6 (lane l 24), L6 (lane l 4 ^^^ lane l 9 ^^^ lane l 14 ^^^ lane l 19 ^^^ lane l 24), L6 (colX l 4), L6 (colX l 1), L6 (rotl (colX l 1) 1), L6 (colX l 4 ^^^ rotl (colX l 1) 1), L6 (colX l 0), L6 (colX l 2), L6 (rotl (colX l 2) 1), L6 (colX l 0 ^^^ rotl (colX l 2) 1), L6 (colX l 1), L6 (colX l 3), L6 (rotl (colX l 3) 1), L6 (colX l 1 ^^^ rotl (colX l 3) 1), L6 (colX l 2), L6 (colX l 4), L6 (rotl (colX l 4) 1), L6 (colX l 2 ^^^ rotl (colX l 4) 1), L6 (colX l 3), L6 (colX l 0), L6 (rotl (colX l 0) 1), L6 (colX l 3 ^^^ rotl (colX l 0) 1)]
def mixS0 (l : List UInt64) (n0 : Nat) (X : World) (Q : Exit → Act → World → Prop) : Prop := wpAnyH Tryd.prog .any mixOps.toArray Q (fun w' => w'.rangeAt n0 0 (laneCells l)) 126 (R6 [(126, false)]) ⟨(mixP l n0 ++ (([] : List Value) ++ (List.replicate 125 undef))).toArray, []⟩ X
def mixS1 (l : List UInt64) (n0 : Nat) (X : World) (Q : Exit → Act → World → Prop) : Prop := wpAnyH Tryd.prog .any mixOps.toArray Q (fun w' => w'.rangeAt n0 0 (laneCells l)) 106 (R6 [(8, true), (1, false), (4, true), (1, false), (4, true), (1, false), (4, true), (103, false)]) ⟨(mixP l n0 ++ ([A6 n0 0, L6 (lane l 0), L6 (d0L l), L6 (lane l 0 ^^^ d0L l), A6 n0 6, L6 (lane l 6), L6 (d1L l), L6 (lane l 6 ^^^ d1L l), undef, A6 n0 12, L6 (lane l 12), L6 (d2L l), L6 (lane l 12 ^^^ d2L l), undef, A6 n0 18, L6 (lane l 18), L6 (d3L l), L6 (lane l 18 ^^^ d3L l), undef, A6 n0 24, L6 (lane l 24), L6 (d4L l), L6 (lane l 24 ^^^ d4L l)] ++ (List.replicate 102 undef))).toArray, []⟩ X
def mixS2 (l : List UInt64) (n0 : Nat) (X : World) (Q : Exit → Act → World → Prop) : Prop := wpAnyH Tryd.prog .any mixOps.toArray Q (fun w' => w'.rangeAt n0 0 (laneCells l)) 86 (R6 [(8, true), (1, false), (4, true), (1, false), (4, true), (1, false), (4, true), (1, false), (4, true), (1, false), (4, true), (1, false), (4, true), (1, false), (4, true), (1, false), (4, true), (78, false)]) ⟨(mixP l n0 ++ ([A6 n0 0, L6 (lane l 0), L6 (d0L l), L6 (lane l 0 ^^^ d0L l), A6 n0 6, L6 (lane l 6), L6 (d1L l), L6 (lane l 6 ^^^ d1L l), undef, A6 n0 12, L6 (lane l 12), L6 (d2L l), L6 (lane l 12 ^^^ d2L l), undef, A6 n0 18, L6 (lane l 18), L6 (d3L l), L6 (lane l 18 ^^^ d3L l), undef, A6 n0 24, L6 (lane l 24), L6 (d4L l), L6 (lane l 24 ^^^ d4L l), undef, A6 n0 3, L6 (lane l 3), L6 (d3L l), L6 (lane l 3 ^^^ d3L l), undef, A6 n0 9, L6 (lane l 9), L6 (d4L l), L6 (lane l 9 ^^^ d4L l), undef, A6 n0 10, L6 (lane l 10), L6 (d0L l), L6 (lane l 10 ^^^ d0L l), undef, A6 n0 16, L6 (lane l 16), L6 (d1L l), L6 (lane l 16 ^^^ d1L l), undef, A6 n0 22, L6 (lane l 22), L6 (d2L l), L6 (lane l 22 ^^^ d2L l)] ++ (List.replicate 77 undef))).toArray, []⟩ X
def mixS3 (l : List UInt64) (n0 : Nat) (X : World) (Q : Exit → Act → World → Prop) : Prop := wpAnyH Tryd.prog .any mixOps.toArray Q (fun w' => w'.rangeAt n0 0 (laneCells l)) 66 (R6 [(8, true), (1, false), (4, true), (1, false), (4, true), (1, false), (4, true), (1, false), (4, true), (1, false), (4, true), (1, false), (4, true), (1, false), (4, true), (1, false), (4, true), (1, false), (4, true), (1, false), (4, true), (1, false), (4, true), (1, false), (4, true), (1, false), (4, true), (53, false)]) ⟨(mixP l n0 ++ ([A6 n0 0, L6 (lane l 0), L6 (d0L l), L6 (lane l 0 ^^^ d0L l), A6 n0 6, L6 (lane l 6), L6 (d1L l), L6 (lane l 6 ^^^ d1L l), undef, A6 n0 12, L6 (lane l 12), L6 (d2L l), L6 (lane l 12 ^^^ d2L l), undef, A6 n0 18, L6 (lane l 18), L6 (d3L l), L6 (lane l 18 ^^^ d3L l), undef, A6 n0 24, L6 (lane l 24), L6 (d4L l), L6 (lane l 24 ^^^ d4L l), undef, A6 n0 3, L6 (lane l 3), L6 (d3L l), L6 (lane l 3 ^^^ d3L l), undef, A6 n0 9, L6 (lane l 9), L6 (d4L l), L6 (lane l 9 ^^^ d4L l), undef, A6 n0 10, L6 (lane l 10), L6 (d0L l), L6 (lane l 10 ^^^ d0L l), undef, A6 n0 16, L6 (lane l 16), L6 (d1L l), L6 (lane l 16 ^^^ d1L l), undef, A6 n0 22, L6 (lane l 22), L6 (d2L l), L6 (lane l 22 ^^^ d2L l), undef, A6 n0 1, L6 (lane l 1), L6 (d1L l), L6 (lane l 1 ^^^ d1L l), undef, A6 n0 7, L6 (lane l 7), L6 (d2L l), L6 (lane l 7 ^^^ d2L l), undef, A6 n0 13, L6 (lane l 13), L6 (d3L l), L6 (lane l 13 ^^^ d3L l), undef, A6 n0 19, L6 (lane l 19), L6 (d4L l), L6 (lane l 19 ^^^ d4L l), undef, A6 n0 20, L6 (lane l 20), L6 (d0L l), L6 (lane l 20 ^^^ d0L l)] ++ (List.replicate 52 undef))).toArray, []⟩ X
def mixS4 (l : List UInt64) (n0 : Nat) (X : World) (Q : Exit → Act → World → Prop) : Prop := wpAnyH Tryd.prog .any mixOps.toArray Q (fun w' => w'.rangeAt n0 0 (laneCells l)) 46 (R6 [(8, true), (1, false), (4, true), (1, false), (4, true), (1, false), (4, true), (1, false), (4, true), (1, false), (4, true), (1, false), (4, true), (1, false), (4, true), (1, false), (4, true), (1, false), (4, true), (1, false), (4, true), (1, false), (4, true), (1, false), (4, true), (1, false), (4, true), (1, false), (4, true), (1, false), (4, true), (1, false), (4, true), (1, false), (4, true), (1, false), (4, true), (28, false)]) ⟨(mixP l n0 ++ ([A6 n0 0, L6 (lane l 0), L6 (d0L l), L6 (lane l 0 ^^^ d0L l), A6 n0 6, L6 (lane l 6), L6 (d1L l), L6 (lane l 6 ^^^ d1L l), undef, A6 n0 12, L6 (lane l 12), L6 (d2L l), L6 (lane l 12 ^^^ d2L l), undef, A6 n0 18, L6 (lane l 18), L6 (d3L l), L6 (lane l 18 ^^^ d3L l), undef, A6 n0 24, L6 (lane l 24), L6 (d4L l), L6 (lane l 24 ^^^ d4L l), undef, A6 n0 3, L6 (lane l 3), L6 (d3L l), L6 (lane l 3 ^^^ d3L l), undef, A6 n0 9, L6 (lane l 9), L6 (d4L l), L6 (lane l 9 ^^^ d4L l), undef, A6 n0 10, L6 (lane l 10), L6 (d0L l), L6 (lane l 10 ^^^ d0L l), undef, A6 n0 16, L6 (lane l 16), L6 (d1L l), L6 (lane l 16 ^^^ d1L l), undef, A6 n0 22, L6 (lane l 22), L6 (d2L l), L6 (lane l 22 ^^^ d2L l), undef, A6 n0 1, L6 (lane l 1), L6 (d1L l), L6 (lane l 1 ^^^ d1L l), undef, A6 n0 7, L6 (lane l 7), L6 (d2L l), L6 (lane l 7 ^^^ d2L l), undef, A6 n0 13, L6 (lane l 13), L6 (d3L l), L6 (lane l 13 ^^^ d3L l), undef, A6 n0 19, L6 (lane l 19), L6 (d4L l), L6 (lane l 19 ^^^ d4L l), undef, A6 n0 20, L6 (lane l 20), L6 (d0L l), L6 (lane l 20 ^^^ d0L l), undef, A6 n0 4, L6 (lane l 4), L6 (d4L l), L6 (lane l 4 ^^^ d4L l), undef, A6 n0 5, L6 (lane l 5), L6 (d0L l), L6 (lane l 5 ^^^ d0L l), undef, A6 n0 11, L6 (lane l 11), L6 (d1L l), L6 (lane l 11 ^^^ d1L l), undef, A6 n0 17, L6 (lane l 17), L6 (d2L l), L6 (lane l 17 ^^^ d2L l), undef, A6 n0 23, L6 (lane l 23), L6 (d3L l), L6 (lane l 23 ^^^ d3L l)] ++ (List.replicate 27 undef))).toArray, []⟩ X
def mixS5 (l : List UInt64) (n0 : Nat) (X : World) (Q : Exit → Act → World → Prop) : Prop := wpAnyH Tryd.prog .any mixOps.toArray Q (fun w' => w'.rangeAt n0 0 (laneCells l)) 26 (R6 [(8, true), (1, false), (4, true), (1, false), (4, true), (1, false), (4, true), (1, false), (4, true), (1, false), (4, true), (1, false), (4, true), (1, false), (4, true), (1, false), (4, true), (1, false), (4, true), (1, false), (4, true), (1, false), (4, true), (1, false), (4, true), (1, false), (4, true), (1, false), (4, true), (1, false), (4, true), (1, false), (4, true), (1, false), (4, true), (1, false), (4, true), (1, false), (4, true), (1, false), (4, true), (1, false), (4, true), (1, false), (4, true), (1, false), (4, true), (3, false)]) ⟨(mixP l n0 ++ [A6 n0 0, L6 (lane l 0), L6 (d0L l), L6 (lane l 0 ^^^ d0L l), A6 n0 6, L6 (lane l 6), L6 (d1L l), L6 (lane l 6 ^^^ d1L l), undef, A6 n0 12, L6 (lane l 12), L6 (d2L l), L6 (lane l 12 ^^^ d2L l), undef, A6 n0 18, L6 (lane l 18), L6 (d3L l), L6 (lane l 18 ^^^ d3L l), undef, A6 n0 24, L6 (lane l 24), L6 (d4L l), L6 (lane l 24 ^^^ d4L l), undef, A6 n0 3, L6 (lane l 3), L6 (d3L l), L6 (lane l 3 ^^^ d3L l), undef, A6 n0 9, L6 (lane l 9), L6 (d4L l), L6 (lane l 9 ^^^ d4L l), undef, A6 n0 10, L6 (lane l 10), L6 (d0L l), L6 (lane l 10 ^^^ d0L l), undef, A6 n0 16, L6 (lane l 16), L6 (d1L l), L6 (lane l 16 ^^^ d1L l), undef, A6 n0 22, L6 (lane l 22), L6 (d2L l), L6 (lane l 22 ^^^ d2L l), undef, A6 n0 1, L6 (lane l 1), L6 (d1L l), L6 (lane l 1 ^^^ d1L l), undef, A6 n0 7, L6 (lane l 7), L6 (d2L l), L6 (lane l 7 ^^^ d2L l), undef, A6 n0 13, L6 (lane l 13), L6 (d3L l), L6 (lane l 13 ^^^ d3L l), undef, A6 n0 19, L6 (lane l 19), L6 (d4L l), L6 (lane l 19 ^^^ d4L l), undef, A6 n0 20, L6 (lane l 20), L6 (d0L l), L6 (lane l 20 ^^^ d0L l), undef, A6 n0 4, L6 (lane l 4), L6 (d4L l), L6 (lane l 4 ^^^ d4L l), undef, A6 n0 5, L6 (lane l 5), L6 (d0L l), L6 (lane l 5 ^^^ d0L l), undef, A6 n0 11, L6 (lane l 11), L6 (d1L l), L6 (lane l 11 ^^^ d1L l), undef, A6 n0 17, L6 (lane l 17), L6 (d2L l), L6 (lane l 17 ^^^ d2L l), undef, A6 n0 23, L6 (lane l 23), L6 (d3L l), L6 (lane l 23 ^^^ d3L l), undef, A6 n0 2, L6 (lane l 2), L6 (d2L l), L6 (lane l 2 ^^^ d2L l), undef, A6 n0 8, L6 (lane l 8), L6 (d3L l), L6 (lane l 8 ^^^ d3L l), undef, A6 n0 14, L6 (lane l 14), L6 (d4L l), L6 (lane l 14 ^^^ d4L l), undef, A6 n0 15, L6 (lane l 15), L6 (d0L l), L6 (lane l 15 ^^^ d0L l), undef, A6 n0 21, L6 (lane l 21), L6 (d1L l), L6 (lane l 21 ^^^ d1L l), undef, undef]).toArray, []⟩ X
def mixS6 (l : List UInt64) (n0 : Nat) (X : World) (Q : Exit → Act → World → Prop) : Prop := wpAnyH Tryd.prog .any mixOps.toArray Q (fun w' => w'.rangeAt n0 0 (laneCells l)) 17 (R6 [(53, true), (1, false), (4, true), (1, false), (4, true), (1, false), (4, true), (1, false), (4, true), (1, false), (4, true), (1, false), (4, true), (1, false), (4, true), (1, false), (4, true), (1, false), (4, true), (1, false), (4, true), (1, false), (4, true), (1, false), (4, true), (1, false), (4, true), (1, false), (4, true), (3, false)]) ⟨(mixP l n0 ++ [A6 n0 0, L6 (lane l 0), L6 (d0L l), L6 (lane l 0 ^^^ d0L l), A6 n0 6, L6 (lane l 6), L6 (d1L l), L6 (lane l 6 ^^^ d1L l), L6 (rotl (lane l 6 ^^^ d1L l) 44), A6 n0 12, L6 (lane l 12), L6 (d2L l), L6 (lane l 12 ^^^ d2L l), L6 (rotl (lane l 12 ^^^ d2L l) 43), A6 n0 18, L6 (lane l 18), L6 (d3L l), L6 (lane l 18 ^^^ d3L l), L6 (rotl (lane l 18 ^^^ d3L l) 21), A6 n0 24, L6 (lane l 24), L6 (d4L l), L6 (lane l 24 ^^^ d4L l), L6 (rotl (lane l 24 ^^^ d4L l) 14), A6 n0 3, L6 (lane l 3), L6 (d3L l), L6 (lane l 3 ^^^ d3L l), L6 (rotl (lane l 3 ^^^ d3L l) 28), A6 n0 9, L6 (lane l 9), L6 (d4L l), L6 (lane l 9 ^^^ d4L l), L6 (rotl (lane l 9 ^^^ d4L l) 20), A6 n0 10, L6 (lane l 10), L6 (d0L l), L6 (lane l 10 ^^^ d0L l), L6 (rotl (lane l 10 ^^^ d0L l) 3), A6 n0 16, L6 (lane l 16), L6 (d1L l), L6 (lane l 16 ^^^ d1L l), L6 (rotl (lane l 16 ^^^ d1L l) 45), A6 n0 22, L6 (lane l 22), L6 (d2L l), L6 (lane l 22 ^^^ d2L l), L6 (rotl (lane l 22 ^^^ d2L l) 61), A6 n0 1, L6 (lane l 1), L6 (d1L l), L6 (lane l 1 ^^^ d1L l), undef, A6 n0 7, L6 (lane l 7), L6 (d2L l), L6 (lane l 7 ^^^ d2L l), undef, A6 n0 13, L6 (lane l 13), L6 (d3L l), L6 (lane l 13 ^^^ d3L l), undef, A6 n0 19, L6 (lane l 19), L6 (d4L l), L6 (lane l 19 ^^^ d4L l), undef, A6 n0 20, L6 (lane l 20), L6 (d0L l), L6 (lane l 20 ^^^ d0L l), undef, A6 n0 4, L6 (lane l 4), L6 (d4L l), L6 (lane l 4 ^^^ d4L l), undef, A6 n0 5, L6 (lane l 5), L6 (d0L l), L6 (lane l 5 ^^^ d0L l), undef, A6 n0 11, L6 (lane l 11), L6 (d1L l), L6 (lane l 11 ^^^ d1L l), undef, A6 n0 17, L6 (lane l 17), L6 (d2L l), L6 (lane l 17 ^^^ d2L l), undef, A6 n0 23, L6 (lane l 23), L6 (d3L l), L6 (lane l 23 ^^^ d3L l), undef, A6 n0 2, L6 (lane l 2), L6 (d2L l), L6 (lane l 2 ^^^ d2L l), undef, A6 n0 8, L6 (lane l 8), L6 (d3L l), L6 (lane l 8 ^^^ d3L l), undef, A6 n0 14, L6 (lane l 14), L6 (d4L l), L6 (lane l 14 ^^^ d4L l), undef, A6 n0 15, L6 (lane l 15), L6 (d0L l), L6 (lane l 15 ^^^ d0L l), undef, A6 n0 21, L6 (lane l 21), L6 (d1L l), L6 (lane l 21 ^^^ d1L l), undef, undef]).toArray, []⟩ X
def mixS7 (l : List UInt64) (n0 : Nat) (X : World) (Q : Exit → Act → World → Prop) : Prop := wpAnyH Tryd.prog .any mixOps.toArray Q (fun w' => w'.rangeAt n0 0 (laneCells l)) 9 (R6 [(93, true), (1, false), (4, true), (1, false), (4, true), (1, false), (4, true), (1, false), (4, true), (1, false), (4, true), (1, false), (4, true), (3, false)]) ⟨(mixP l n0 ++ [A6 n0 0, L6 (lane l 0), L6 (d0L l), L6 (lane l 0 ^^^ d0L l), A6 n0 6, L6 (lane l 6), L6 (d1L l), L6 (lane l 6 ^^^ d1L l), L6 (rotl (lane l 6 ^^^ d1L l) 44), A6 n0 12, L6 (lane l 12), L6 (d2L l), L6 (lane l 12 ^^^ d2L l), L6 (rotl (lane l 12 ^^^ d2L l) 43), A6 n0 18, L6 (lane l 18), L6 (d3L l), L6 (lane l 18 ^^^ d3L l), L6 (rotl (lane l 18 ^^^ d3L l) 21), A6 n0 24, L6 (lane l 24), L6 (d4L l), L6 (lane l 24 ^^^ d4L l), L6 (rotl (lane l 24 ^^^ d4L l) 14), A6 n0 3, L6 (lane l 3), L6 (d3L l), L6 (lane l 3 ^^^ d3L l), L6 (rotl (lane l 3 ^^^ d3L l) 28), A6 n0 9, L6 (lane l 9), L6 (d4L l), L6 (lane l 9 ^^^ d4L l), L6 (rotl (lane l 9 ^^^ d4L l) 20), A6 n0 10, L6 (lane l 10), L6 (d0L l), L6 (lane l 10 ^^^ d0L l), L6 (rotl (lane l 10 ^^^ d0L l) 3), A6 n0 16, L6 (lane l 16), L6 (d1L l), L6 (lane l 16 ^^^ d1L l), L6 (rotl (lane l 16 ^^^ d1L l) 45), A6 n0 22, L6 (lane l 22), L6 (d2L l), L6 (lane l 22 ^^^ d2L l), L6 (rotl (lane l 22 ^^^ d2L l) 61), A6 n0 1, L6 (lane l 1), L6 (d1L l), L6 (lane l 1 ^^^ d1L l), L6 (rotl (lane l 1 ^^^ d1L l) 1), A6 n0 7, L6 (lane l 7), L6 (d2L l), L6 (lane l 7 ^^^ d2L l), L6 (rotl (lane l 7 ^^^ d2L l) 6), A6 n0 13, L6 (lane l 13), L6 (d3L l), L6 (lane l 13 ^^^ d3L l), L6 (rotl (lane l 13 ^^^ d3L l) 25), A6 n0 19, L6 (lane l 19), L6 (d4L l), L6 (lane l 19 ^^^ d4L l), L6 (rotl (lane l 19 ^^^ d4L l) 8), A6 n0 20, L6 (lane l 20), L6 (d0L l), L6 (lane l 20 ^^^ d0L l), L6 (rotl (lane l 20 ^^^ d0L l) 18), A6 n0 4, L6 (lane l 4), L6 (d4L l), L6 (lane l 4 ^^^ d4L l), L6 (rotl (lane l 4 ^^^ d4L l) 27), A6 n0 5, L6 (lane l 5), L6 (d0L l), L6 (lane l 5 ^^^ d0L l), L6 (rotl (lane l 5 ^^^ d0L l) 36), A6 n0 11, L6 (lane l 11), L6 (d1L l), L6 (lane l 11 ^^^ d1L l), L6 (rotl (lane l 11 ^^^ d1L l) 10), A6 n0 17, L6 (lane l 17), L6 (d2L l), L6 (lane l 17 ^^^ d2L l), undef, A6 n0 23, L6 (lane l 23), L6 (d3L l), L6 (lane l 23 ^^^ d3L l), undef, A6 n0 2, L6 (lane l 2), L6 (d2L l), L6 (lane l 2 ^^^ d2L l), undef, A6 n0 8, L6 (lane l 8), L6 (d3L l), L6 (lane l 8 ^^^ d3L l), undef, A6 n0 14, L6 (lane l 14), L6 (d4L l), L6 (lane l 14 ^^^ d4L l), undef, A6 n0 15, L6 (lane l 15), L6 (d0L l), L6 (lane l 15 ^^^ d0L l), undef, A6 n0 21, L6 (lane l 21), L6 (d1L l), L6 (lane l 21 ^^^ d1L l), undef, undef]).toArray, []⟩ X
def mixS8 (l : List UInt64) (n0 : Nat) (X : World) (Q : Exit → Act → World → Prop) : Prop := wpAnyH Tryd.prog .any mixOps.toArray Q (fun w' => w'.rangeAt n0 0 (laneCells l)) 1 (R6 [(125, true), (1, false)]) ⟨(mixP l n0 ++ [A6 n0 0, L6 (lane l 0), L6 (d0L l), L6 (lane l 0 ^^^ d0L l), A6 n0 6, L6 (lane l 6), L6 (d1L l), L6 (lane l 6 ^^^ d1L l), L6 (rotl (lane l 6 ^^^ d1L l) 44), A6 n0 12, L6 (lane l 12), L6 (d2L l), L6 (lane l 12 ^^^ d2L l), L6 (rotl (lane l 12 ^^^ d2L l) 43), A6 n0 18, L6 (lane l 18), L6 (d3L l), L6 (lane l 18 ^^^ d3L l), L6 (rotl (lane l 18 ^^^ d3L l) 21), A6 n0 24, L6 (lane l 24), L6 (d4L l), L6 (lane l 24 ^^^ d4L l), L6 (rotl (lane l 24 ^^^ d4L l) 14), A6 n0 3, L6 (lane l 3), L6 (d3L l), L6 (lane l 3 ^^^ d3L l), L6 (rotl (lane l 3 ^^^ d3L l) 28), A6 n0 9, L6 (lane l 9), L6 (d4L l), L6 (lane l 9 ^^^ d4L l), L6 (rotl (lane l 9 ^^^ d4L l) 20), A6 n0 10, L6 (lane l 10), L6 (d0L l), L6 (lane l 10 ^^^ d0L l), L6 (rotl (lane l 10 ^^^ d0L l) 3), A6 n0 16, L6 (lane l 16), L6 (d1L l), L6 (lane l 16 ^^^ d1L l), L6 (rotl (lane l 16 ^^^ d1L l) 45), A6 n0 22, L6 (lane l 22), L6 (d2L l), L6 (lane l 22 ^^^ d2L l), L6 (rotl (lane l 22 ^^^ d2L l) 61), A6 n0 1, L6 (lane l 1), L6 (d1L l), L6 (lane l 1 ^^^ d1L l), L6 (rotl (lane l 1 ^^^ d1L l) 1), A6 n0 7, L6 (lane l 7), L6 (d2L l), L6 (lane l 7 ^^^ d2L l), L6 (rotl (lane l 7 ^^^ d2L l) 6), A6 n0 13, L6 (lane l 13), L6 (d3L l), L6 (lane l 13 ^^^ d3L l), L6 (rotl (lane l 13 ^^^ d3L l) 25), A6 n0 19, L6 (lane l 19), L6 (d4L l), L6 (lane l 19 ^^^ d4L l), L6 (rotl (lane l 19 ^^^ d4L l) 8), A6 n0 20, L6 (lane l 20), L6 (d0L l), L6 (lane l 20 ^^^ d0L l), L6 (rotl (lane l 20 ^^^ d0L l) 18), A6 n0 4, L6 (lane l 4), L6 (d4L l), L6 (lane l 4 ^^^ d4L l), L6 (rotl (lane l 4 ^^^ d4L l) 27), A6 n0 5, L6 (lane l 5), L6 (d0L l), L6 (lane l 5 ^^^ d0L l), L6 (rotl (lane l 5 ^^^ d0L l) 36), A6 n0 11, L6 (lane l 11), L6 (d1L l), L6 (lane l 11 ^^^ d1L l), L6 (rotl (lane l 11 ^^^ d1L l) 10), A6 n0 17, L6 (lane l 17), L6 (d2L l), L6 (lane l 17 ^^^ d2L l), L6 (rotl (lane l 17 ^^^ d2L l) 15), A6 n0 23, L6 (lane l 23), L6 (d3L l), L6 (lane l 23 ^^^ d3L l), L6 (rotl (lane l 23 ^^^ d3L l) 56), A6 n0 2, L6 (lane l 2), L6 (d2L l), L6 (lane l 2 ^^^ d2L l), L6 (rotl (lane l 2 ^^^ d2L l) 62), A6 n0 8, L6 (lane l 8), L6 (d3L l), L6 (lane l 8 ^^^ d3L l), L6 (rotl (lane l 8 ^^^ d3L l) 55), A6 n0 14, L6 (lane l 14), L6 (d4L l), L6 (lane l 14 ^^^ d4L l), L6 (rotl (lane l 14 ^^^ d4L l) 39), A6 n0 15, L6 (lane l 15), L6 (d0L l), L6 (lane l 15 ^^^ d0L l), L6 (rotl (lane l 15 ^^^ d0L l) 41), A6 n0 21, L6 (lane l 21), L6 (d1L l), L6 (lane l 21 ^^^ d1L l), L6 (rotl (lane l 21 ^^^ d1L l) 2), .agg (laneCells (mixL l)).toArray]).toArray, []⟩ X
section
variable {l : List UInt64} {n0 fuel : Nat} {X : World} {Q : Exit → Act → World → Prop} {listed L2 : Array Bool} {a a2 : Act} {x y : Operand}
theorem hmv (hQ : ∀ c a d v w, Q (.panic c) (Act.put a d v) w → Q (.panic c) a w) (hX : X.rangeAt n0 0 (laneCells l)) (i d : Nat) (v : Value) {opv : Op} {ty : TypeId} (hop : (mixOps.toArray[i]?).map (fun o => (o.op, o.type, o.dst)) = some (opv, ty, some d)) (hrun : ∀ w, w.rangeAt n0 0 (laneCells l) → (execOp a.eval ⟨some d, opv, ty, "", #[], none⟩).run Tryd.prog w = .ok (.value v) w) (h : wpAnyH Tryd.prog .any mixOps.toArray Q (fun w' => w'.rangeAt n0 0 (laneCells l)) fuel L2 a2 X)
 (hL : listed.setIfInBounds i true = L2 := by ((try simp only [arr9, hd9, tl9]); rfl)) (ha : a.put (some d) v = a2 := by ((try simp only [Act.put, arr9, hd9, tl9]); rfl)) (hside : mayTake .any mixOps.toArray listed i = true := by kernel_rfl) (hw : (mixOps.toArray[i]?).map (fun o => Region.wanted o (yielded mixOps.toArray a.tmps)) = some true := by kernel_rfl) : wpAnyH Tryd.prog .any mixOps.toArray Q (fun w' => w'.rangeAt n0 0 (laneCells l)) (fuel + 1) listed a X := hdv i d v hop hrun hX h hL ha hside hw (fun c a v w => hQ c a _ v w)
theorem hmv0 (hQ : ∀ c a d v w, Q (.panic c) (Act.put a d v) w → Q (.panic c) a w) (hX : X.rangeAt n0 0 (laneCells l)) (i d : Nat) (v : Value) {opv : Op} {ty : TypeId} (hop : (mixOps.toArray[i]?).map (fun o => (o.op, o.type, o.dst)) = some (opv, ty, some d)) (h : wpAnyH Tryd.prog .any mixOps.toArray Q (fun w' => w'.rangeAt n0 0 (laneCells l)) fuel L2 a2 X)
 (hL : listed.setIfInBounds i true = L2 := by ((try simp only [arr9, hd9, tl9]); rfl)) (ha : a.put (some d) v = a2 := by ((try simp only [Act.put, arr9, hd9, tl9]); rfl)) (hside : mayTake .any mixOps.toArray listed i = true := by kernel_rfl) (hw : (mixOps.toArray[i]?).map (fun o => Region.wanted o (yielded mixOps.toArray a.tmps)) = some true := by kernel_rfl) (hrun : ∀ w, (execOp a.eval ⟨some d, opv, ty, "", #[], none⟩).run Tryd.prog w = .ok (.value v) w := by intro w; kernel_rfl) : wpAnyH Tryd.prog .any mixOps.toArray Q (fun w' => w'.rangeAt n0 0 (laneCells l)) (fuel + 1) listed a X := hmv hQ hX i d v hop (fun w _ => hrun w) h hL ha hside hw
theorem hml (hQ : ∀ c a d v w, Q (.panic c) (Act.put a d v) w → Q (.panic c) a w) (hX : X.rangeAt n0 0 (laneCells l)) (hl : l.length = 25) (i d k : Nat) (hop : (mixOps.toArray[i]?).map (fun o => (o.op, o.type, o.dst)) = some (.load 70 x, 70, some d)) (h : wpAnyH Tryd.prog .any mixOps.toArray Q (fun w' => w'.rangeAt n0 0 (laneCells l)) fuel L2 a2 X)
 (hx : a.eval x = .pointer (some ⟨n0, k, none⟩) := by kernel_rfl) (hk : k < 25 := by decide) (hL : listed.setIfInBounds i true = L2 := by ((try simp only [arr9, hd9, tl9]); rfl)) (ha : a.put (some d) (L6 (lane l k)) = a2 := by ((try simp only [Act.put, arr9, hd9, tl9]); rfl)) (hside : mayTake .any mixOps.toArray listed i = true := by kernel_rfl) (hw : (mixOps.toArray[i]?).map (fun o => Region.wanted o (yielded mixOps.toArray a.tmps)) = some true := by kernel_rfl) : wpAnyH Tryd.prog .any mixOps.toArray Q (fun w' => w'.rangeAt n0 0 (laneCells l)) (fuel + 1) listed a X := hmv hQ hX i d (L6 (lane l k)) hop (fun _ e => by
  have e2 := e k _ (laneCells_lane l k (by omega))
  rw [Nat.zero_add] at e2
  exact run_load1 rfl Tryd.underlying70 hx e2) h hL ha hside hw
theorem hmx (hQ : ∀ c a d v w, Q (.panic c) (Act.put a d v) w → Q (.panic c) a w) (hX : X.rangeAt n0 0 (laneCells l)) (i d : Nat) (p q : UInt64) (hop : (mixOps.toArray[i]?).map (fun o => (o.op, o.type, o.dst)) = some (.binOp .xor 70 x y 70, 70, some d)) (h : wpAnyH Tryd.prog .any mixOps.toArray Q (fun w' => w'.rangeAt n0 0 (laneCells l)) fuel L2 a2 X)
 (hx : a.eval x = L6 p := by kernel_rfl) (hy : a.eval y = L6 q := by kernel_rfl) (hL : listed.setIfInBounds i true = L2 := by ((try simp only [arr9, hd9, tl9]); rfl)) (ha : a.put (some d) (L6 (p ^^^ q)) = a2 := by ((try simp only [Act.put, arr9, hd9, tl9]); rfl)) (hside : mayTake .any mixOps.toArray listed i = true := by kernel_rfl) (hw : (mixOps.toArray[i]?).map (fun o => Region.wanted o (yielded mixOps.toArray a.tmps)) = some true := by kernel_rfl) : wpAnyH Tryd.prog .any mixOps.toArray Q (fun w' => w'.rangeAt n0 0 (laneCells l)) (fuel + 1) listed a X := hmv hQ hX i d (L6 (p ^^^ q)) hop (fun _ _ => run_xorL rfl hx hy) h hL ha hside hw
theorem hmc (hX : X.rangeAt n0 0 (laneCells l)) (i d k : Nat) (p : UInt64) (hop : (mixOps.toArray[i]?).map (fun o => (o.op, o.type, o.dst)) = some (.call { callee := .value (.func 98), args := #[x, .const (.int .i64 (k : Int))], argTypes := #[70, 3] }, 70, some d)) (h : wpAnyH Tryd.prog .any mixOps.toArray Q (fun w' => w'.rangeAt n0 0 (laneCells l)) fuel L2 a2 X)
 (hx : a.eval x = L6 p := by kernel_rfl) (hk : k ≤ 63 := by decide) (hr : Region.ready .any mixOps.toArray listed = [i] := by kernel_rfl) (hw : (mixOps.toArray[i]?).map (fun o => Region.wanted o (yielded mixOps.toArray a.tmps)) = some true := by kernel_rfl) (hL : listed.setIfInBounds i true = L2 := by ((try simp only [arr9, hd9, tl9]); rfl)) (ha : a.put (some d) (L6 (rotl p k)) = a2 := by ((try simp only [Act.put, arr9, hd9, tl9]); rfl)) : wpAnyH Tryd.prog .any mixOps.toArray Q (fun w' => w'.rangeAt n0 0 (laneCells l)) (fuel + 1) listed a X := by
 refine held_call i _ _ _ 98 #[L6 p, .int .i64 (k : Int)] hr hop hw ?_ ?_
 ·have hc : a.eval (.const (.int .i64 (k : Int))) = .int .i64 (k : Int) := rfl
  have hf : a.eval (.func 98) = .func (.func 98) #[] #[] := rfl
  unfold execOp
  go_simp
  rcases x with t | v | g | f
  ·simpa [Act.eval] using hx
  ·simpa [Act.eval] using hx
  ·simp [Act.eval] at hx
  ·simp [Act.eval] at hx
 ·refine (left_any p k hk _).mono ?_
  rintro e w' ⟨rfl, hw'⟩
  obtain rfl : X = w' := hw'.symm
  refine ⟨_, rfl, hX, ?_⟩
  rw [hL]
  have e : a.put (some d) (.int .u64 ((rotl p k).toNat : Int)) = a2 := ha
  rw [e]
  exact h
end
set_option maxHeartbeats 1000000 in
theorem mixC0 (l : List UInt64) (hl : l.length = 25) (n0 : Nat) (X : World) (Q : Exit → Act → World → Prop) (hQ : ∀ c a d v w, Q (.panic c) (Act.put a d v) w → Q (.panic c) a w) (hX : X.rangeAt n0 0 (laneCells l)) (h : mixS1 l n0 X Q) : mixS0 l n0 X Q := by
 unfold mixS0
 simp only [mixP, R6, R6.go, List.replicate, List.cons_append, List.nil_append]
 refine hmv0 hQ hX 0 103 (A6 n0 0) (by rfl) ?_
 refine hml hQ hX hl 1 104 0 (by rfl) ?_
 refine hmv0 hQ hX 2 105 (L6 (d0L l)) (by rfl) ?_
 refine hmx hQ hX 3 106 (lane l 0) (d0L l) (by rfl) ?_
 refine hmv0 hQ hX 4 107 (A6 n0 6) (by rfl) ?_
 refine hml hQ hX hl 5 108 6 (by rfl) ?_
 refine hmv0 hQ hX 6 109 (L6 (d1L l)) (by rfl) ?_
 refine hmx hQ hX 7 110 (lane l 6) (d1L l) (by rfl) ?_
 refine hmv0 hQ hX 9 112 (A6 n0 12) (by rfl) ?_
 refine hml hQ hX hl 10 113 12 (by rfl) ?_
 refine hmv0 hQ hX 11 114 (L6 (d2L l)) (by rfl) ?_
 refine hmx hQ hX 12 115 (lane l 12) (d2L l) (by rfl) ?_
 refine hmv0 hQ hX 14 117 (A6 n0 18) (by rfl) ?_
 refine hml hQ hX hl 15 118 18 (by rfl) ?_
 refine hmv0 hQ hX 16 119 (L6 (d3L l)) (by rfl) ?_
 refine hmx hQ hX 17 120 (lane l 18) (d3L l) (by rfl) ?_
 refine hmv0 hQ hX 19 122 (A6 n0 24) (by rfl) ?_
 refine hml hQ hX hl 20 123 24 (by rfl) ?_
 refine hmv0 hQ hX 21 124 (L6 (d4L l)) (by rfl) ?_
 refine hmx hQ hX 22 125 (lane l 24) (d4L l) (by rfl) ?_
 exact h
set_option maxHeartbeats 1000000 in
theorem mixC1 (l : List UInt64) (hl : l.length = 25) (n0 : Nat) (X : World) (Q : Exit → Act → World → Prop) (hQ : ∀ c a d v w, Q (.panic c) (Act.put a d v) w → Q (.panic c) a w) (hX : X.rangeAt n0 0 (laneCells l)) (h : mixS2 l n0 X Q) : mixS1 l n0 X Q := by
 unfold mixS1
 simp only [mixP, R6, R6.go, List.replicate, List.cons_append, List.nil_append]
 refine hmv0 hQ hX 24 127 (A6 n0 3) (by rfl) ?_
 refine hml hQ hX hl 25 128 3 (by rfl) ?_
 refine hmv0 hQ hX 26 129 (L6 (d3L l)) (by rfl) ?_
 refine hmx hQ hX 27 130 (lane l 3) (d3L l) (by rfl) ?_
 refine hmv0 hQ hX 29 132 (A6 n0 9) (by rfl) ?_
 refine hml hQ hX hl 30 133 9 (by rfl) ?_
 refine hmv0 hQ hX 31 134 (L6 (d4L l)) (by rfl) ?_
 refine hmx hQ hX 32 135 (lane l 9) (d4L l) (by rfl) ?_
 refine hmv0 hQ hX 34 137 (A6 n0 10) (by rfl) ?_
 refine hml hQ hX hl 35 138 10 (by rfl) ?_
 refine hmv0 hQ hX 36 139 (L6 (d0L l)) (by rfl) ?_
 refine hmx hQ hX 37 140 (lane l 10) (d0L l) (by rfl) ?_
 refine hmv0 hQ hX 39 142 (A6 n0 16) (by rfl) ?_
 refine hml hQ hX hl 40 143 16 (by rfl) ?_
 refine hmv0 hQ hX 41 144 (L6 (d1L l)) (by rfl) ?_
 refine hmx hQ hX 42 145 (lane l 16) (d1L l) (by rfl) ?_
 refine hmv0 hQ hX 44 147 (A6 n0 22) (by rfl) ?_
 refine hml hQ hX hl 45 148 22 (by rfl) ?_
 refine hmv0 hQ hX 46 149 (L6 (d2L l)) (by rfl) ?_
 refine hmx hQ hX 47 150 (lane l 22) (d2L l) (by rfl) ?_
 exact h
set_option maxHeartbeats 1000000 in
theorem mixC2 (l : List UInt64) (hl : l.length = 25) (n0 : Nat) (X : World) (Q : Exit → Act → World → Prop) (hQ : ∀ c a d v w, Q (.panic c) (Act.put a d v) w → Q (.panic c) a w) (hX : X.rangeAt n0 0 (laneCells l)) (h : mixS3 l n0 X Q) : mixS2 l n0 X Q := by
 unfold mixS2
 simp only [mixP, R6, R6.go, List.replicate, List.cons_append, List.nil_append]
 refine hmv0 hQ hX 49 152 (A6 n0 1) (by rfl) ?_
 refine hml hQ hX hl 50 153 1 (by rfl) ?_
 refine hmv0 hQ hX 51 154 (L6 (d1L l)) (by rfl) ?_
 refine hmx hQ hX 52 155 (lane l 1) (d1L l) (by rfl) ?_
 refine hmv0 hQ hX 54 157 (A6 n0 7) (by rfl) ?_
 refine hml hQ hX hl 55 158 7 (by rfl) ?_
 refine hmv0 hQ hX 56 159 (L6 (d2L l)) (by rfl) ?_
 refine hmx hQ hX 57 160 (lane l 7) (d2L l) (by rfl) ?_
 refine hmv0 hQ hX 59 162 (A6 n0 13) (by rfl) ?_
 refine hml hQ hX hl 60 163 13 (by rfl) ?_
 refine hmv0 hQ hX 61 164 (L6 (d3L l)) (by rfl) ?_
 refine hmx hQ hX 62 165 (lane l 13) (d3L l) (by rfl) ?_
 refine hmv0 hQ hX 64 167 (A6 n0 19) (by rfl) ?_
 refine hml hQ hX hl 65 168 19 (by rfl) ?_
 refine hmv0 hQ hX 66 169 (L6 (d4L l)) (by rfl) ?_
 refine hmx hQ hX 67 170 (lane l 19) (d4L l) (by rfl) ?_
 refine hmv0 hQ hX 69 172 (A6 n0 20) (by rfl) ?_
 refine hml hQ hX hl 70 173 20 (by rfl) ?_
 refine hmv0 hQ hX 71 174 (L6 (d0L l)) (by rfl) ?_
 refine hmx hQ hX 72 175 (lane l 20) (d0L l) (by rfl) ?_
 exact h
set_option maxHeartbeats 1000000 in
theorem mixC3 (l : List UInt64) (hl : l.length = 25) (n0 : Nat) (X : World) (Q : Exit → Act → World → Prop) (hQ : ∀ c a d v w, Q (.panic c) (Act.put a d v) w → Q (.panic c) a w) (hX : X.rangeAt n0 0 (laneCells l)) (h : mixS4 l n0 X Q) : mixS3 l n0 X Q := by
 unfold mixS3
 simp only [mixP, R6, R6.go, List.replicate, List.cons_append, List.nil_append]
 refine hmv0 hQ hX 74 177 (A6 n0 4) (by rfl) ?_
 refine hml hQ hX hl 75 178 4 (by rfl) ?_
 refine hmv0 hQ hX 76 179 (L6 (d4L l)) (by rfl) ?_
 refine hmx hQ hX 77 180 (lane l 4) (d4L l) (by rfl) ?_
 refine hmv0 hQ hX 79 182 (A6 n0 5) (by rfl) ?_
 refine hml hQ hX hl 80 183 5 (by rfl) ?_
 refine hmv0 hQ hX 81 184 (L6 (d0L l)) (by rfl) ?_
 refine hmx hQ hX 82 185 (lane l 5) (d0L l) (by rfl) ?_
 refine hmv0 hQ hX 84 187 (A6 n0 11) (by rfl) ?_
 refine hml hQ hX hl 85 188 11 (by rfl) ?_
 refine hmv0 hQ hX 86 189 (L6 (d1L l)) (by rfl) ?_
 refine hmx hQ hX 87 190 (lane l 11) (d1L l) (by rfl) ?_
 refine hmv0 hQ hX 89 192 (A6 n0 17) (by rfl) ?_
 refine hml hQ hX hl 90 193 17 (by rfl) ?_
 refine hmv0 hQ hX 91 194 (L6 (d2L l)) (by rfl) ?_
 refine hmx hQ hX 92 195 (lane l 17) (d2L l) (by rfl) ?_
 refine hmv0 hQ hX 94 197 (A6 n0 23) (by rfl) ?_
 refine hml hQ hX hl 95 198 23 (by rfl) ?_
 refine hmv0 hQ hX 96 199 (L6 (d3L l)) (by rfl) ?_
 refine hmx hQ hX 97 200 (lane l 23) (d3L l) (by rfl) ?_
 exact h
end Go.Proofs.YtbjpbeplpljieaaDoor


/-
 WALK: a part of keccak.mix's last statement.
-/
namespace Go.Proofs.YtbjpbeplpljieaaDoor
open Go.RowKit
set_option maxRecDepth 100000

set_option maxHeartbeats 1000000 in
theorem mixC4 (l : List UInt64) (hl : l.length = 25) (n0 : Nat) (X : World) (Q : Exit → Act → World → Prop) (hQ : ∀ c a d v w, Q (.panic c) (Act.put a d v) w → Q (.panic c) a w) (hX : X.rangeAt n0 0 (laneCells l)) (h : mixS5 l n0 X Q) : mixS4 l n0 X Q := by
 unfold mixS4
 simp only [mixP, R6, R6.go, List.replicate, List.cons_append, List.nil_append]
 refine hmv0 hQ hX 99 202 (A6 n0 2) (by rfl) ?_
 refine hml hQ hX hl 100 203 2 (by rfl) ?_
 refine hmv0 hQ hX 101 204 (L6 (d2L l)) (by rfl) ?_
 refine hmx hQ hX 102 205 (lane l 2) (d2L l) (by rfl) ?_
 refine hmv0 hQ hX 104 207 (A6 n0 8) (by rfl) ?_
 refine hml hQ hX hl 105 208 8 (by rfl) ?_
 refine hmv0 hQ hX 106 209 (L6 (d3L l)) (by rfl) ?_
 refine hmx hQ hX 107 210 (lane l 8) (d3L l) (by rfl) ?_
 refine hmv0 hQ hX 109 212 (A6 n0 14) (by rfl) ?_
 refine hml hQ hX hl 110 213 14 (by rfl) ?_
 refine hmv0 hQ hX 111 214 (L6 (d4L l)) (by rfl) ?_
 refine hmx hQ hX 112 215 (lane l 14) (d4L l) (by rfl) ?_
 refine hmv0 hQ hX 114 217 (A6 n0 15) (by rfl) ?_
 refine hml hQ hX hl 115 218 15 (by rfl) ?_
 refine hmv0 hQ hX 116 219 (L6 (d0L l)) (by rfl) ?_
 refine hmx hQ hX 117 220 (lane l 15) (d0L l) (by rfl) ?_
 refine hmv0 hQ hX 119 222 (A6 n0 21) (by rfl) ?_
 refine hml hQ hX hl 120 223 21 (by rfl) ?_
 refine hmv0 hQ hX 121 224 (L6 (d1L l)) (by rfl) ?_
 refine hmx hQ hX 122 225 (lane l 21) (d1L l) (by rfl) ?_
 exact h
set_option maxHeartbeats 1000000 in
theorem mixC5 (l : List UInt64) (_hl : l.length = 25) (n0 : Nat) (X : World) (Q : Exit → Act → World → Prop) (_hQ : ∀ c a d v w, Q (.panic c) (Act.put a d v) w → Q (.panic c) a w) (hX : X.rangeAt n0 0 (laneCells l)) (h : mixS6 l n0 X Q) : mixS5 l n0 X Q := by
 unfold mixS5
 simp only [mixP, R6, R6.go, List.replicate, List.cons_append, List.nil_append]
 refine hmc hX 8 111 44 (lane l 6 ^^^ d1L l) (by rfl) ?_
 refine hmc hX 13 116 43 (lane l 12 ^^^ d2L l) (by rfl) ?_
 refine hmc hX 18 121 21 (lane l 18 ^^^ d3L l) (by rfl) ?_
 refine hmc hX 23 126 14 (lane l 24 ^^^ d4L l) (by rfl) ?_
 refine hmc hX 28 131 28 (lane l 3 ^^^ d3L l) (by rfl) ?_
 refine hmc hX 33 136 20 (lane l 9 ^^^ d4L l) (by rfl) ?_
 refine hmc hX 38 141 3 (lane l 10 ^^^ d0L l) (by rfl) ?_
 refine hmc hX 43 146 45 (lane l 16 ^^^ d1L l) (by rfl) ?_
 refine hmc hX 48 151 61 (lane l 22 ^^^ d2L l) (by rfl) ?_
 exact h
set_option maxHeartbeats 1000000 in
theorem mixC6 (l : List UInt64) (_hl : l.length = 25) (n0 : Nat) (X : World) (Q : Exit → Act → World → Prop) (_hQ : ∀ c a d v w, Q (.panic c) (Act.put a d v) w → Q (.panic c) a w) (hX : X.rangeAt n0 0 (laneCells l)) (h : mixS7 l n0 X Q) : mixS6 l n0 X Q := by
 unfold mixS6
 simp only [mixP, R6, R6.go, List.replicate, List.cons_append, List.nil_append]
 refine hmc hX 53 156 1 (lane l 1 ^^^ d1L l) (by rfl) ?_
 refine hmc hX 58 161 6 (lane l 7 ^^^ d2L l) (by rfl) ?_
 refine hmc hX 63 166 25 (lane l 13 ^^^ d3L l) (by rfl) ?_
 refine hmc hX 68 171 8 (lane l 19 ^^^ d4L l) (by rfl) ?_
 refine hmc hX 73 176 18 (lane l 20 ^^^ d0L l) (by rfl) ?_
 refine hmc hX 78 181 27 (lane l 4 ^^^ d4L l) (by rfl) ?_
 refine hmc hX 83 186 36 (lane l 5 ^^^ d0L l) (by rfl) ?_
 refine hmc hX 88 191 10 (lane l 11 ^^^ d1L l) (by rfl) ?_
 exact h
set_option maxHeartbeats 1000000 in
theorem mixC7 (l : List UInt64) (_hl : l.length = 25) (n0 : Nat) (X : World) (Q : Exit → Act → World → Prop) (hQ : ∀ c a d v w, Q (.panic c) (Act.put a d v) w → Q (.panic c) a w) (hX : X.rangeAt n0 0 (laneCells l)) (h : mixS8 l n0 X Q) : mixS7 l n0 X Q := by
 unfold mixS7
 simp only [mixP, R6, R6.go, List.replicate, List.cons_append, List.nil_append]
 refine hmc hX 93 196 15 (lane l 17 ^^^ d2L l) (by rfl) ?_
 refine hmc hX 98 201 56 (lane l 23 ^^^ d3L l) (by rfl) ?_
 refine hmc hX 103 206 62 (lane l 2 ^^^ d2L l) (by rfl) ?_
 refine hmc hX 108 211 55 (lane l 8 ^^^ d3L l) (by rfl) ?_
 refine hmc hX 113 216 39 (lane l 14 ^^^ d4L l) (by rfl) ?_
 refine hmc hX 118 221 41 (lane l 15 ^^^ d0L l) (by rfl) ?_
 refine hmc hX 123 226 2 (lane l 21 ^^^ d1L l) (by rfl) ?_
 refine hmv0 hQ hX 124 227 (.agg (laneCells (mixL l)).toArray) (by rfl) ?_
 exact h
end Go.Proofs.YtbjpbeplpljieaaDoor
