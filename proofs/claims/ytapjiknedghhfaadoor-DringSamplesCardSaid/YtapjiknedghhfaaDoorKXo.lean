import Derived.Test.YtapjiknedghhfaaDoorKSp
/-
 WALKS: keccak.Xof: Shake128, Shake256, Read, Count, Clone, isMade.
-/
namespace Go.Proofs.YtapjiknedghhfaaDoor
open Go.RowKit
set_option maxRecDepth 100000

theorem list25 (l : List UInt64) (h : l.length = 25) : ∃ a0 a1 a2 a3 a4 a5 a6 a7 a8 a9 a10 a11 a12 a13 a14 a15 a16 a17 a18 a19 a20 a21 a22 a23 a24 : UInt64, l = [a0, a1, a2, a3, a4, a5, a6, a7, a8, a9, a10, a11, a12, a13, a14, a15, a16, a17, a18, a19, a20, a21, a22, a23, a24] := by
 rcases l with _ | ⟨a0, l⟩
 ·simp at h
 rcases l with _ | ⟨a1, l⟩
 ·simp at h
 rcases l with _ | ⟨a2, l⟩
 ·simp at h
 rcases l with _ | ⟨a3, l⟩
 ·simp at h
 rcases l with _ | ⟨a4, l⟩
 ·simp at h
 rcases l with _ | ⟨a5, l⟩
 ·simp at h
 rcases l with _ | ⟨a6, l⟩
 ·simp at h
 rcases l with _ | ⟨a7, l⟩
 ·simp at h
 rcases l with _ | ⟨a8, l⟩
 ·simp at h
 rcases l with _ | ⟨a9, l⟩
 ·simp at h
 rcases l with _ | ⟨a10, l⟩
 ·simp at h
 rcases l with _ | ⟨a11, l⟩
 ·simp at h
 rcases l with _ | ⟨a12, l⟩
 ·simp at h
 rcases l with _ | ⟨a13, l⟩
 ·simp at h
 rcases l with _ | ⟨a14, l⟩
 ·simp at h
 rcases l with _ | ⟨a15, l⟩
 ·simp at h
 rcases l with _ | ⟨a16, l⟩
 ·simp at h
 rcases l with _ | ⟨a17, l⟩
 ·simp at h
 rcases l with _ | ⟨a18, l⟩
 ·simp at h
 rcases l with _ | ⟨a19, l⟩
 ·simp at h
 rcases l with _ | ⟨a20, l⟩
 ·simp at h
 rcases l with _ | ⟨a21, l⟩
 ·simp at h
 rcases l with _ | ⟨a22, l⟩
 ·simp at h
 rcases l with _ | ⟨a23, l⟩
 ·simp at h
 rcases l with _ | ⟨a24, l⟩
 ·simp at h
 have hl : l = [] := by
  cases l with
  | nil => rfl
  | cons b r => simp at h
 subst hl
 exact ⟨a0, a1, a2, a3, a4, a5, a6, a7, a8, a9, a10, a11, a12, a13, a14, a15, a16, a17, a18, a19, a20, a21, a22, a23, a24, rfl⟩
theorem built_xof (s : Sp) (rate : Nat) (h : s.l.length = 25) : Tryd.prog.built 62 [(0, .bool true), (1, .agg (spCells [] s rate []).toArray)] = some (spCells [.bool true] s rate [.int .i64 0]).toArray := by
 obtain ⟨l, a⟩ := s
 obtain ⟨a0, a1, a2, a3, a4, a5, a6, a7, a8, a9, a10, a11, a12, a13, a14, a15, a16, a17, a18, a19, a20, a21, a22, a23, a24, hl⟩ := list25 l h
 subst hl
 kernel_rfl
/-- block g is a reader: the sponge s, so many bytes read -/
def XofAt (w : World) (g : Nat) (s : Sp) (rate cnt : Nat) : Prop := SpAt w g 1 62 [.bool true] s rate [.int .i64 (cnt : Int)]
/-- a new reader is handed back; nothing that was there has turned -/
def KNewIs (w : World) (s : Sp) (rate : Nat) (e : Ending) (w' : World) : Prop := ∃ g, e = .returned (.pointer (some ⟨g, 0, none⟩)) ∧ w.heap.size ≤ g ∧ XofAt w' g s rate 0 ∧ Below w.heap.size w w'

theorem shake128_any (bss : List (List UInt8)) (hbl : bss.length ≤ 1000000) (B : Nat) (v : Value) (w : World) (hp : PartsO w B B v bss) (hB : B ≤ w.heap.size) (hv : KVars w) :
  Calls Tryd.prog 18 #[v] w (KNewIs w (absorbL 168 31 bss.flatten) 168) := by
 unfold KNewIs
 have hSl := absorbL_len 168 31 bss.flatten
 go_enter Tryd.func18, Tryd.ntmps18
 go_wp2_with (go_at_call 33; refine (absorbed_any 168 (by decide) (by decide) 31 bss hbl B v _ hp hB hv).mono ?_)
 rintro e w1 ⟨rfl, b1⟩
 generalize hS : absorbL 168 31 bss.flatten = S at *
 have HS := Lib.hid hS
 clear hS
 go_wp2_with (refine wpList_build_eq rfl 62 _ rfl (spCells [.bool true] S 168 [.int .i64 0]).toArray (by exact (congrArg (Tryd.prog.built 62) (by kernel_rfl : _ = [(0, .bool true), (1, .agg (spCells [] S 168 []).toArray)])).trans (built_xof S 168 hSl)) ?_)
 go_ret
 exact ⟨w1.heap.size, rfl, b1.size, by rw [HS.out]; exact ⟨Row.new_ rfl rfl, rfl, hSl⟩, b1.alloc b1.size _⟩

theorem shake256_any (bss : List (List UInt8)) (hbl : bss.length ≤ 1000000) (B : Nat) (v : Value) (w : World) (hp : PartsO w B B v bss) (hB : B ≤ w.heap.size) (hv : KVars w) :
  Calls Tryd.prog 22 #[v] w (KNewIs w (absorbL 136 31 bss.flatten) 136) := by
 unfold KNewIs
 have hSl := absorbL_len 136 31 bss.flatten
 go_enter Tryd.func22, Tryd.ntmps22
 go_wp2_with (go_at_call 33; refine (absorbed_any 136 (by decide) (by decide) 31 bss hbl B v _ hp hB hv).mono ?_)
 rintro e w1 ⟨rfl, b1⟩
 generalize hS : absorbL 136 31 bss.flatten = S at *
 have HS := Lib.hid hS
 clear hS
 go_wp2_with (refine wpList_build_eq rfl 62 _ rfl (spCells [.bool true] S 136 [.int .i64 0]).toArray (by exact (congrArg (Tryd.prog.built 62) (by kernel_rfl : _ = [(0, .bool true), (1, .agg (spCells [] S 136 []).toArray)])).trans (built_xof S 136 hSl)) ?_)
 go_ret
 exact ⟨w1.heap.size, rfl, b1.size, by rw [HS.out]; exact ⟨Row.new_ rfl rfl, rfl, hSl⟩, b1.alloc b1.size _⟩

section
variable {w w' : World} {g : Nat} {s : Sp} {rate cnt : Nat}
theorem XofAt.made_cell (h : XofAt w g s rate cnt) : w.cell? ⟨g, 0, none⟩ = some (.bool true) := (SpAt.row h).cell 0
theorem spCells_end (hl : s.l.length = 25) : (spCells [.bool true] s rate [.int .i64 (cnt : Int)])[28]? = some (.int .i64 (cnt : Int)) := by
 unfold spCells
 rw [List.getElem?_append_right (by simp), List.getElem?_append_right (by rw [laneCells_length, hl]; simp), laneCells_length, hl]
 rfl
theorem spCells_setEnd (hl : s.l.length = 25) (n : Nat) : (spCells [.bool true] s rate [.int .i64 (cnt : Int)]).set 28 (.int .i64 (n : Int)) = spCells [.bool true] s rate [.int .i64 (n : Int)] := by
 unfold spCells
 rw [List.set_append_right _ _ (by simp), List.set_append_right _ _ (by rw [laneCells_length, hl]; simp), laneCells_length, hl]
 rfl
theorem XofAt.count_cell (h : XofAt w g s rate cnt) : w.cell? ⟨g, 28, none⟩ = some (.int .i64 (cnt : Int)) := ((SpAt.row h).cell 28).trans (spCells_end (SpAt.len h))
theorem XofAt.setCount (h : XofAt w g s rate cnt) (n : Nat) : XofAt (w.setCell ⟨g, 28, none⟩ (.int .i64 (n : Int))) g s rate n :=
 ⟨(congrArg (Row _ g _) (spCells_setEnd (SpAt.len h) n)).mp ((SpAt.row h).set_ _ _), rfl, SpAt.len h⟩
theorem kisMade_yes (h : XofAt w g s rate cnt) : Calls Tryd.prog 34 #[.pointer (some ⟨g, 0, none⟩)] w fun e w' => e = .returned (.bool true) ∧ w' = w := by
 have hc := h.made_cell
 go_enter Tryd.func34, Tryd.ntmps34
 go_wp2
 go_ret
 exact ⟨rfl, rfl⟩
theorem kisMade_nil (w : World) : Calls Tryd.prog 34 #[.pointer none] w fun e w' => e = .returned (.bool false) ∧ w' = w := by
 go_enter Tryd.func34, Tryd.ntmps34
 go_wp2
 go_ret
 exact ⟨rfl, rfl⟩
theorem read_nil (n : Int) (w : World) : Calls Tryd.prog 19 #[.pointer none, .int .i64 n] w fun e w' => e = .returned (.tuple #[.slice none 0 0, .int .i64 2]) ∧ w' = w := by
 go_enter Tryd.func19, Tryd.ntmps19
 go_wp2_with (go_at_call 34; refine (kisMade_nil _).mono ?_)
 rintro e wK ⟨rfl, rfl⟩
 go_wp2
 go_ret2
 exact ⟨rfl, rfl⟩
theorem read_neg (h : XofAt w g s rate cnt) (n : Int) (hn : n < 0) : Calls Tryd.prog 19 #[.pointer (some ⟨g, 0, none⟩), .int .i64 n] w fun e w' => e = .returned (.tuple #[.slice none 0 0, .int .i64 1]) ∧ w' = w := by
 go_enter Tryd.func19, Tryd.ntmps19
 go_wp2_with (go_at_call 34; refine (kisMade_yes h).mono ?_)
 rintro e wK ⟨rfl, rfl⟩
 go_wp2
 go_ret2
 exact ⟨rfl, rfl⟩
theorem read_much (h : XofAt w g s rate cnt) (n : Int) (hn : 1048576 < n) : Calls Tryd.prog 19 #[.pointer (some ⟨g, 0, none⟩), .int .i64 n] w fun e w' => e = .returned (.tuple #[.slice none 0 0, .int .i64 3]) ∧ w' = w := by
 have h0 : decide (n < 0) = false := by simp; omega
 go_enter Tryd.func19, Tryd.ntmps19
 go_wp2_with (go_at_call 34; refine (kisMade_yes h).mono ?_)
 rintro e wK ⟨rfl, rfl⟩
 go_wp2
 go_ret2
 exact ⟨rfl, rfl⟩
/-- n bytes of the output are handed back in a block of their own, and no error; the reader has gone on; nothing else has turned -/
def ReadIs (w : World) (g : Nat) (s : Sp) (rate cnt n : Nat) (e : Ending) (w' : World) : Prop :=
 e = .returned (.tuple #[.slice (some ⟨w.heap.size, 0, none⟩) n n, .int .i64 0]) ∧ Row w' w.heap.size 5 (Lib.byteCells (s.outs rate n)) ∧ XofAt w' g (s.behind rate n) rate (cnt + n) ∧ But w.heap.size g w w'
set_option maxHeartbeats 1000000 in
theorem read_any (h : XofAt w g s rate cnt) (hv : KVars w) (hg : 0 ≠ g) (ha : s.at_ ≤ rate) (hr : 0 < rate) (hr2 : rate ≤ 200) (n : Nat) (hn : n ≤ 1048576) (hc : cnt ≤ 1000000000) :
  Calls Tryd.prog 19 #[.pointer (some ⟨g, 0, none⟩), .int .i64 (n : Int)] w (ReadIs w g s rate cnt n) := by
 unfold ReadIs
 have h0 : decide ((n : Int) < 0) = false := by simp
 have h1 : decide ((1048576 : Int) < (n : Int)) = false := by simp; omega
 have hcc := h.count_cell
 have hcf := SpAt.free h 28
 have h2 := h.setCount (cnt + n)
 have hb2 := (But.refl w.heap.size g w).setCell 28 (.int .i64 ((cnt + n : Nat) : Int))
 have hz : (w.setCell ⟨g, 28, none⟩ (.int .i64 ((cnt + n : Nat) : Int))).heap.size = w.heap.size := by simp [World.setCell]
 have hv2 : KVars (w.setCell ⟨g, 28, none⟩ (.int .i64 ((cnt + n : Nat) : Int))) := hv.setBeyond _ hg
 have hq : ((cnt + n : Nat) : Int) = (cnt : Int) + (n : Int) := by omega
 rw [hq] at h2 hb2 hv2 hz
 have HZ := Lib.hid hz
 clear hz hq
 go_enter Tryd.func19, Tryd.ntmps19
 go_wp2_with (go_at_call 34; refine (kisMade_yes h).mono ?_)
 rintro e wK ⟨rfl, rfl⟩
 go_wp2_with (go_at_call 35; refine (squeezed_any h2 hv2 hg ha hr hr2 n hn).mono ?_)
 rintro e w2 ⟨rfl, hr3, h3, b3⟩
 rw [HZ.out] at hr3 b3 ⊢
 go_wp2
 go_ret2
 exact ⟨rfl, hr3, h3, hb2.trans b3⟩
end
end Go.Proofs.YtapjiknedghhfaaDoor

/-
 WALKS: keccak.Shake, Clone.
-/
namespace Go.Proofs.YtapjiknedghhfaaDoor
open Go.RowKit
set_option maxRecDepth 100000

/-- n bytes are handed back in a block of their own, and no error; nothing that was there has turned -/
def ShakeIs (w : World) (n : Nat) (bs : List UInt8) (e : Ending) (w' : World) : Prop :=
 ∃ q, e = .returned (.tuple #[.slice (some ⟨q, 0, none⟩) n n, .int .i64 0]) ∧ w.heap.size ≤ q ∧ Row w' q 5 (Lib.byteCells bs) ∧ Below w.heap.size w w'
/-- no bytes are handed back, and an error -/
def NoShakeIs (w : World) (c : Int) (e : Ending) (w' : World) : Prop := e = .returned (.tuple #[.slice none 0 0, .int .i64 c]) ∧ Below w.heap.size w w'

theorem shake_ok128 (n : Nat) (hn : n ≤ 1048576) (bss : List (List UInt8)) (hbl : bss.length ≤ 1000000) (B : Nat) (v : Value) (w : World) (hp : PartsO w B B v bss) (hB : B ≤ w.heap.size) (hv : KVars w) :
  Calls Tryd.prog 24 #[.int .i64 128, .int .i64 (n : Int), v] w (ShakeIs w n (spongeL 168 31 bss.flatten n)) := by
 unfold ShakeIs spongeL
 have hpos := hv.pos
 have hSa : (absorbL 168 31 bss.flatten).at_ ≤ 168 := Nat.le_refl _
 go_enter Tryd.func24, Tryd.ntmps24
 go_wp2_with (go_at_call 18; refine (shake128_any bss hbl B v _ hp hB hv).mono ?_)
 rintro e w1 ⟨g, rfl, hg, hx, b1⟩
 have hv1 := hv.step b1
 generalize hS : absorbL 168 31 bss.flatten = S at *
 have HS := Lib.hid hS
 clear hS
 go_wp2_with (go_at_call 19; refine (read_any hx hv1 (by omega) hSa (by decide) (by decide) n hn (by decide)).mono ?_)
 rintro e w2 ⟨rfl, hr2, -, b2⟩
 have hb := b1.trans (b2.under b1.size hg)
 have hs1 := b1.size
 clear hx hv1 b1 b2
 go_wp2
 go_ret2
 exact ⟨w1.heap.size, rfl, hs1, by rw [HS.out]; exact hr2, hb⟩
theorem shake_ok256 (n : Nat) (hn : n ≤ 1048576) (bss : List (List UInt8)) (hbl : bss.length ≤ 1000000) (B : Nat) (v : Value) (w : World) (hp : PartsO w B B v bss) (hB : B ≤ w.heap.size) (hv : KVars w) :
  Calls Tryd.prog 24 #[.int .i64 256, .int .i64 (n : Int), v] w (ShakeIs w n (spongeL 136 31 bss.flatten n)) := by
 unfold ShakeIs spongeL
 have hpos := hv.pos
 have hSa : (absorbL 136 31 bss.flatten).at_ ≤ 136 := Nat.le_refl _
 go_enter Tryd.func24, Tryd.ntmps24
 go_wp2_with (go_at_call 22; refine (shake256_any bss hbl B v _ hp hB hv).mono ?_)
 rintro e w1 ⟨g, rfl, hg, hx, b1⟩
 have hv1 := hv.step b1
 generalize hS : absorbL 136 31 bss.flatten = S at *
 have HS := Lib.hid hS
 clear hS
 go_wp2_with (go_at_call 19; refine (read_any hx hv1 (by omega) hSa (by decide) (by decide) n hn (by decide)).mono ?_)
 rintro e w2 ⟨rfl, hr2, -, b2⟩
 have hb := b1.trans (b2.under b1.size hg)
 have hs1 := b1.size
 clear hx hv1 b1 b2
 go_wp2
 go_ret2
 exact ⟨w1.heap.size, rfl, hs1, by rw [HS.out]; exact hr2, hb⟩
end Go.Proofs.YtapjiknedghhfaaDoor
