/-
  WALKS: the first state; the looks at arguments; a generator's own numbers.
-/
import Derived.Test.YtanpplniedphkaaDoorDr3
import Derived.Test.YtanpplniedphkaaDoorFew4
namespace Go.Proofs.YtanpplniedphkaaDoor
open Go.RowKit
set_option maxRecDepth 100000

theorem list64 (l : List UInt8) (h : l.length = 64) : ∃ a0 a1 a2 a3 a4 a5 a6 a7 a8 a9 a10 a11 a12 a13 a14 a15 a16 a17 a18 a19 a20 a21 a22 a23 a24 a25 a26 a27 a28 a29 a30 a31 a32 a33 a34 a35 a36 a37 a38 a39 a40 a41 a42 a43 a44 a45 a46 a47 a48 a49 a50 a51 a52 a53 a54 a55 a56 a57 a58 a59 a60 a61 a62 a63 : UInt8, l = [a0, a1, a2, a3, a4, a5, a6, a7, a8, a9, a10, a11, a12, a13, a14, a15, a16, a17, a18, a19, a20, a21, a22, a23, a24, a25, a26, a27, a28, a29, a30, a31, a32, a33, a34, a35, a36, a37, a38, a39, a40, a41, a42, a43, a44, a45, a46, a47, a48, a49, a50, a51, a52, a53, a54, a55, a56, a57, a58, a59, a60, a61, a62, a63] := by
  rcases l with _ | ⟨a0, l⟩
  · simp at h
  rcases l with _ | ⟨a1, l⟩
  · simp at h
  rcases l with _ | ⟨a2, l⟩
  · simp at h
  rcases l with _ | ⟨a3, l⟩
  · simp at h
  rcases l with _ | ⟨a4, l⟩
  · simp at h
  rcases l with _ | ⟨a5, l⟩
  · simp at h
  rcases l with _ | ⟨a6, l⟩
  · simp at h
  rcases l with _ | ⟨a7, l⟩
  · simp at h
  rcases l with _ | ⟨a8, l⟩
  · simp at h
  rcases l with _ | ⟨a9, l⟩
  · simp at h
  rcases l with _ | ⟨a10, l⟩
  · simp at h
  rcases l with _ | ⟨a11, l⟩
  · simp at h
  rcases l with _ | ⟨a12, l⟩
  · simp at h
  rcases l with _ | ⟨a13, l⟩
  · simp at h
  rcases l with _ | ⟨a14, l⟩
  · simp at h
  rcases l with _ | ⟨a15, l⟩
  · simp at h
  rcases l with _ | ⟨a16, l⟩
  · simp at h
  rcases l with _ | ⟨a17, l⟩
  · simp at h
  rcases l with _ | ⟨a18, l⟩
  · simp at h
  rcases l with _ | ⟨a19, l⟩
  · simp at h
  rcases l with _ | ⟨a20, l⟩
  · simp at h
  rcases l with _ | ⟨a21, l⟩
  · simp at h
  rcases l with _ | ⟨a22, l⟩
  · simp at h
  rcases l with _ | ⟨a23, l⟩
  · simp at h
  rcases l with _ | ⟨a24, l⟩
  · simp at h
  rcases l with _ | ⟨a25, l⟩
  · simp at h
  rcases l with _ | ⟨a26, l⟩
  · simp at h
  rcases l with _ | ⟨a27, l⟩
  · simp at h
  rcases l with _ | ⟨a28, l⟩
  · simp at h
  rcases l with _ | ⟨a29, l⟩
  · simp at h
  rcases l with _ | ⟨a30, l⟩
  · simp at h
  rcases l with _ | ⟨a31, l⟩
  · simp at h
  rcases l with _ | ⟨a32, l⟩
  · simp at h
  rcases l with _ | ⟨a33, l⟩
  · simp at h
  rcases l with _ | ⟨a34, l⟩
  · simp at h
  rcases l with _ | ⟨a35, l⟩
  · simp at h
  rcases l with _ | ⟨a36, l⟩
  · simp at h
  rcases l with _ | ⟨a37, l⟩
  · simp at h
  rcases l with _ | ⟨a38, l⟩
  · simp at h
  rcases l with _ | ⟨a39, l⟩
  · simp at h
  rcases l with _ | ⟨a40, l⟩
  · simp at h
  rcases l with _ | ⟨a41, l⟩
  · simp at h
  rcases l with _ | ⟨a42, l⟩
  · simp at h
  rcases l with _ | ⟨a43, l⟩
  · simp at h
  rcases l with _ | ⟨a44, l⟩
  · simp at h
  rcases l with _ | ⟨a45, l⟩
  · simp at h
  rcases l with _ | ⟨a46, l⟩
  · simp at h
  rcases l with _ | ⟨a47, l⟩
  · simp at h
  rcases l with _ | ⟨a48, l⟩
  · simp at h
  rcases l with _ | ⟨a49, l⟩
  · simp at h
  rcases l with _ | ⟨a50, l⟩
  · simp at h
  rcases l with _ | ⟨a51, l⟩
  · simp at h
  rcases l with _ | ⟨a52, l⟩
  · simp at h
  rcases l with _ | ⟨a53, l⟩
  · simp at h
  rcases l with _ | ⟨a54, l⟩
  · simp at h
  rcases l with _ | ⟨a55, l⟩
  · simp at h
  rcases l with _ | ⟨a56, l⟩
  · simp at h
  rcases l with _ | ⟨a57, l⟩
  · simp at h
  rcases l with _ | ⟨a58, l⟩
  · simp at h
  rcases l with _ | ⟨a59, l⟩
  · simp at h
  rcases l with _ | ⟨a60, l⟩
  · simp at h
  rcases l with _ | ⟨a61, l⟩
  · simp at h
  rcases l with _ | ⟨a62, l⟩
  · simp at h
  rcases l with _ | ⟨a63, l⟩
  · simp at h
  have hl : l = [] := by
    cases l with
    | nil => rfl
    | cons b r => simp at h
  subst hl
  exact ⟨a0, a1, a2, a3, a4, a5, a6, a7, a8, a9, a10, a11, a12, a13, a14, a15, a16, a17, a18, a19, a20, a21, a22, a23, a24, a25, a26, a27, a28, a29, a30, a31, a32, a33, a34, a35, a36, a37, a38, a39, a40, a41, a42, a43, a44, a45, a46, a47, a48, a49, a50, a51, a52, a53, a54, a55, a56, a57, a58, a59, a60, a61, a62, a63, rfl⟩
theorem built_dr (s : List UInt8) (h : s.length = 64) : Tryd.prog.built 85 [(0, .agg (Lib.byteCells s).toArray), (1, .int .i64 1)] = some (Lib.byteCells s ++ [Value.int .i64 1]).toArray := by
  obtain ⟨a0, a1, a2, a3, a4, a5, a6, a7, a8, a9, a10, a11, a12, a13, a14, a15, a16, a17, a18, a19, a20, a21, a22, a23, a24, a25, a26, a27, a28, a29, a30, a31, a32, a33, a34, a35, a36, a37, a38, a39, a40, a41, a42, a43, a44, a45, a46, a47, a48, a49, a50, a51, a52, a53, a54, a55, a56, a57, a58, a59, a60, a61, a62, a63, hl⟩ := list64 s h
  subst hl
  kernel_rfl
/-- block g is a generator: the state s, the counter c -/
structure DAt (w : World) (g : Nat) (s : List UInt8) (c : Nat) : Prop where
  row : Row w g 85 (Lib.byteCells s ++ [Value.int .i64 (c : Int)])
  len : s.length = 64
theorem DAt.go {w w' : World} {g c : Nat} {s : List UInt8} (h : DAt w g s c) (b : Below w.heap.size w w') : DAt w' g s c := ⟨h.row.go b, h.len⟩
theorem DAt.cnt {w : World} {g c : Nat} {s : List UInt8} (h : DAt w g s c) : w.cell? ⟨g, 64, none⟩ = some (.int .i64 (c : Int)) := by
  rw [h.row.cell, List.getElem?_append_right (by rw [Lib.byteCells_length, h.len]; omega), Lib.byteCells_length, h.len]
  rfl

/-! the first state -/
def ini64 (k : Nat) : List UInt8 := List.replicate 32 0 ++ List.replicate k 1 ++ List.replicate (32 - k) 0
theorem ini64_length (k : Nat) (h : k ≤ 32) : (ini64 k).length = 64 := by unfold ini64; simp; omega
theorem ini64_set (k : Nat) (h : k < 32) : (ini64 k).set (32 + k) 1 = ini64 (k + 1) := by
  have key : ∀ j : Fin 32, (ini64 j.val).set (32 + j.val) 1 = ini64 (j.val + 1) := by decide
  exact key ⟨k, h⟩
set_option maxHeartbeats 1000000 in
theorem initial_any (w : World) : Calls Tryd.prog 49 #[] w (SumIs w (ini64 32)) := by
  unfold SumIs
  generalize hN : w.heap.size = N at *
  have hsl := ini64_length 32 (by omega)
  obtain ⟨W1, hW1⟩ : ∃ W1, W1 = (w.alloc (.cells (Lib.byteCells (List.replicate 64 0)).toArray 81)).alloc (.cells (Lib.byteCells (List.replicate 64 0)).toArray 81) := ⟨_, rfl⟩
  have hb1 : Below N w W1 := by rw [hW1]; exact ((Below.refl N w).alloc (by omega) _).alloc (by rw [asz]; omega) _
  have HI : Shh (Row W1 N 81 (Lib.byteCells (List.replicate 64 0)) ∧ Row W1 (N + 1) 81 (Lib.byteCells (List.replicate 64 0)) ∧ Below N w W1) :=
    ⟨by rw [hW1]; exact (Row.new_ hN.symm rfl).alloc _, by rw [hW1]; exact Row.new_ (by rw [asz, hN]) rfl, hb1⟩
  rw [hW1, ← zero64b] at HI
  clear hb1 hW1
  go_enter Tryd.func49, Tryd.ntmps49
  go_wp2
  go_loopw [2, 3] (fun _ i wr => ∃ k : Nat, k ≤ 32 ∧ i = .int .i64 k ∧ Row wr N 81 (Lib.byteCells (List.replicate 64 0)) ∧ Row wr (N + 1) 81 (Lib.byteCells (ini64 k)) ∧ Below N w wr) (fun _ i _ => 32 - (intOf i).toNat)
  case atStart => exact ⟨0, by omega, rfl, HI.out⟩
  case round =>
    obtain ⟨k, hk, rfl, hrN, hrI, hbel⟩ := hrel
    by_cases hlt : k < 32
    · have hil := ini64_length k hk
      obtain ⟨x, hc⟩ : ∃ x : UInt8, wr.cell? ⟨N + 1, 32 + k, none⟩ = some (.int .u8 (x.toNat : Int)) := ⟨(ini64 k)[32 + k]'(by omega), by rw [hrI.cell, byteCells_get _ _ (by omega)]⟩
      have hf := hrI.free (32 + k)
      have hset := hrI.set_ (32 + k) (.int .u8 1)
      have hset2 : (Lib.byteCells (ini64 k)).set (32 + k) (.int .u8 1) = Lib.byteCells (ini64 (k + 1)) := by
        rw [← ini64_set k hlt]
        simp [Lib.byteCells, List.map_set]
      rw [hset2] at hset
      have hN2 := hrN.other ⟨N + 1, 32 + k, none⟩ (.int .u8 1) (by show N ≠ N + 1; omega)
      have HS : Shh (Row (wr.setCell ⟨N + 1, 32 + k, none⟩ (.int .u8 1)) N 81 (Lib.byteCells (List.replicate 64 0)) ∧ Row (wr.setCell ⟨N + 1, 32 + k, none⟩ (.int .u8 1)) (N + 1) 81 (Lib.byteCells (ini64 (k + 1))) ∧ Below N w (wr.setCell ⟨N + 1, 32 + k, none⟩ (.int .u8 1))) := ⟨hN2, hset, hbel.setCell (by show N ≤ N + 1; omega) _⟩
      clear hset hset2 hN2 hrN hrI hbel hil
      go_wp2
      go_roundw
      case rel => exact ⟨k + 1, by omega, by go_num, HS.out⟩
      case measure => simp [intOf]; omega
    · obtain rfl : k = 32 := by omega
      have HE : Shh (Row wr N 81 (Lib.byteCells (List.replicate 64 0)) ∧ Row wr (N + 1) 81 (Lib.byteCells (ini64 32)) ∧ Below N w wr) := ⟨hrN, hrI, hbel⟩
      clear hrN hrI hbel
      go_wp2_with (first | refine wpList_load_any rfl 81 (.tmp 1) rfl (N + 1) rfl 81 (Lib.byteCells (ini64 32)) _ HE.out.2.1 Tryd.underlying81 rfl (info_st.trans (size_bytes _ _ hsl)) ?_ | refine wpList_store_any rfl 81 (.tmp 0) (.tmp 10) rfl N rfl (Lib.byteCells (ini64 32)) rfl 81 (Lib.byteCells (List.replicate 64 0)) HE.out.1 (info_st.trans (size_bytes _ _ hsl)) (by rw [Lib.byteCells_length, Lib.byteCells_length, hsl]; rfl) (cell_oneCell _) ?_)
      intro Z hr bt2 _
      have G : Shh (Row Z N 81 (Lib.byteCells (ini64 32)) ∧ Below N w Z) := ⟨hr, HE.out.2.2.trans (bt2.under (Nat.le_of_lt HE.out.1.lt) (Nat.le_refl _))⟩
      clear hr bt2 HE
      go_wp2
      exact ret_row Tryd.results49 rfl rfl G.out.1 Tryd.underlying81 rfl (info_st.trans (size_bytes _ _ hsl)) ⟨rfl, G.out.2⟩

/-! looks at arguments -/
def longB (b : List UInt8) : Bool := decide (4096 < b.length)
theorem isLong_any (B : Nat) (v : Value) (b : List UInt8) (w : World) (hs : Sl w B v b) : Calls Tryd.prog 55 #[v] w fun e w' => e = .returned (.bool (longB b)) ∧ w = w' := by
  obtain ⟨A, c, rfl, _, _⟩ := hs.form
  have q : decide ((4096 : Int) < (b.length : Int)) = longB b := by unfold longB; simp; omega
  go_enter Tryd.func55, Tryd.ntmps55
  go_wp2
  go_ret
  first | exact ⟨by rw [q], rfl⟩ | (refine ⟨?_, rfl⟩; simp [longB])
end Go.Proofs.YtanpplniedphkaaDoor
