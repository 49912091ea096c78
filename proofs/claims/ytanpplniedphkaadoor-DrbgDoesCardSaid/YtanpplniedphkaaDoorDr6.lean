/-
  WALKS: a generator made; bytes drawn from it.
-/
import Derived.Test.YtanpplniedphkaaDoorDr5
namespace Go.Proofs.YtanpplniedphkaaDoor
open Go.RowKit
set_option maxRecDepth 100000

section
variable {w w' : World} {g c : Nat} {s : List UInt8}
theorem below1 (w : World) (o : Obj) : Below w.heap.size w (w.alloc o) := Below.alloc (Below.refl _ _) (Nat.le_refl _) _
theorem parts1 {A : Option Addr} {k : Nat} {b : List UInt8} (h : Sl w w.heap.size (.slice A b.length k) b) :
    PartsO (w.alloc (.cells #[.slice A b.length k] 22)) (w.alloc (.cells #[.slice A b.length k] 22)).heap.size (w.alloc (.cells #[.slice A b.length k] 22)).heap.size (.slice (some ⟨w.heap.size, 0, none⟩) 1 1) [b] := by
  have bx := below1 w (.cells #[.slice A b.length k] 22)
  have r : Row (w.alloc (.cells #[.slice A b.length k] 22)) w.heap.size 22 [.slice A b.length k] := Row.new_ rfl rfl
  exact PartsO.solo r r.lt (Nat.ne_of_lt r.lt) (h.go bx) ((h.go bx).off (Nat.le_refl _))
theorem parts2 {A A2 : Option Addr} {k k2 : Nat} {b b2 : List UInt8} (h : Sl w w.heap.size (.slice A b.length k) b) (h2 : Sl w w.heap.size (.slice A2 b2.length k2) b2) :
    PartsO (w.alloc (.cells #[.slice A b.length k, .slice A2 b2.length k2] 22)) (w.alloc (.cells #[.slice A b.length k, .slice A2 b2.length k2] 22)).heap.size (w.alloc (.cells #[.slice A b.length k, .slice A2 b2.length k2] 22)).heap.size (.slice (some ⟨w.heap.size, 0, none⟩) 2 2) [b, b2] := by
  have bx := below1 w (.cells #[.slice A b.length k, .slice A2 b2.length k2] 22)
  have r : Row (w.alloc (.cells #[.slice A b.length k, .slice A2 b2.length k2] 22)) w.heap.size 22 [.slice A b.length k, .slice A2 b2.length k2] := Row.new_ rfl rfl
  exact PartsO.two r.lt (Nat.ne_of_lt r.lt) r (h.go bx) ((h.go bx).off (Nat.le_refl _)) (h2.go bx) ((h2.go bx).off (Nat.le_refl _))
theorem parts3 {A A2 A3 : Option Addr} {k k2 k3 : Nat} {b b2 b3 : List UInt8} (h : Sl w w.heap.size (.slice A b.length k) b) (h2 : Sl w w.heap.size (.slice A2 b2.length k2) b2) (h3 : Sl w w.heap.size (.slice A3 b3.length k3) b3) :
    PartsO (w.alloc (.cells #[.slice A b.length k, .slice A2 b2.length k2, .slice A3 b3.length k3] 22)) (w.alloc (.cells #[.slice A b.length k, .slice A2 b2.length k2, .slice A3 b3.length k3] 22)).heap.size (w.alloc (.cells #[.slice A b.length k, .slice A2 b2.length k2, .slice A3 b3.length k3] 22)).heap.size (.slice (some ⟨w.heap.size, 0, none⟩) 3 3) [b, b2, b3] := by
  have bx := below1 w (.cells #[.slice A b.length k, .slice A2 b2.length k2, .slice A3 b3.length k3] 22)
  have r : Row (w.alloc (.cells #[.slice A b.length k, .slice A2 b2.length k2, .slice A3 b3.length k3] 22)) w.heap.size 22 [.slice A b.length k, .slice A2 b2.length k2, .slice A3 b3.length k3] := Row.new_ rfl rfl
  exact PartsO.three r.lt (Nat.ne_of_lt r.lt) r (h.go bx) ((h.go bx).off (Nat.le_refl _)) (h2.go bx) ((h2.go bx).off (Nat.le_refl _)) (h3.go bx) ((h3.go bx).off (Nat.le_refl _))
theorem DAt.lt (h : DAt w g s c) : g < w.heap.size := h.row.lt
theorem DAt.range (h : DAt w g s c) : w.rangeAt g 0 (Lib.byteCells s) := fun j v hv => by
  rw [Nat.zero_add, h.row.cell j]
  have hj : j < (Lib.byteCells s).length := (List.getElem?_eq_some_iff.1 hv).1
  rw [List.getElem?_append_left hj]
  exact hv
theorem DAt.free (h : DAt w g s c) : w.frozen? ⟨g, 64, none⟩ = false := h.row.free 64
theorem DAt.setc (h : DAt w g s c) (d : Nat) : DAt (w.setCell ⟨g, 64, none⟩ (.int .i64 (d : Int))) g s d := ⟨by
  have hr := h.row.set_ 64 (.int .i64 (d : Int))
  have e : (Lib.byteCells s ++ [Value.int .i64 (c : Int)]).set 64 (.int .i64 (d : Int)) = Lib.byteCells s ++ [Value.int .i64 (d : Int)] := by
    rw [List.set_append_right _ _ (by rw [Lib.byteCells_length, h.len]; omega), Lib.byteCells_length, h.len]
    rfl
  rw [e] at hr
  exact hr, h.len⟩
theorem But.setc (w : World) (g o : Nat) (v : Value) : But w.heap.size g w (w.setCell ⟨g, o, none⟩ v) := (But.refl _ _ _).setCell o v
theorem But.chn {a b d : World} (h : But a.heap.size g a b) (k : But b.heap.size g b d) : But a.heap.size g a d := h.trans (k.mono h.size)
theorem DAt.sets (h : DAt w g s c) (s2 : List UInt8) (hs : s2.length = 64) : DAt (w.setCells g 0 (Lib.byteCells s2)) g s2 c := ⟨by
  have hr := h.row.setCells (Lib.byteCells s2) 0
  rw [over_eq _ _ _ (by rw [List.length_append, Lib.byteCells_length, Lib.byteCells_length, h.len, hs]; simp), List.take_zero, List.nil_append, Nat.zero_add, Lib.byteCells_length, hs,
    show (64 : Nat) = (Lib.byteCells s).length by rw [Lib.byteCells_length, h.len], List.drop_left] at hr
  exact hr, hs⟩
variable {P : Program} {ops : Array Oper} {rest : List Oper} {op : Oper} {a : Act} {Q : Exit → Act → World → Prop}
theorem wpList_storeSt (hgd : op.guard = none) (x y : Operand) (hop : op.op = .store 81 x y) (g : Nat) (hx : a.eval x = .pointer (some ⟨g, 0, none⟩)) (s2 : List UInt8) (hy : a.eval y = .agg (Lib.byteCells s2).toArray) (hs : s2.length = 64)
    (s : List UInt8) (c : Nat) (h0 : DAt w g s c) (h : ∀ w2, DAt w2 g s2 c → But w.heap.size g w w2 → w2.heap.size = w.heap.size → wpList Tryd.prog ops Q rest (a.put op.dst undef) w2) : wpList Tryd.prog ops Q (op :: rest) a w :=
  wpList_store_mid hgd 81 x y hop g 0 (Lib.byteCells s2).toArray hx hy
    (by simpa using h0.row.there 0 (Lib.byteCells s2).length (by rw [List.length_append, Lib.byteCells_length, Lib.byteCells_length, h0.len, hs]; simp)) (by simpa using info_st.trans (size_bytes _ _ hs)) (all_oneCell_toArray (cell_oneCell s2))
    (h _ (h0.sets s2 hs) (But.setCells _ 0 (But.refl _ _ _)) (size_setCells _ _ _ _))
end

/-- a generator is handed back; nothing that was there has turned -/
def DNewIs (w : World) (s : List UInt8) (e : Ending) (w' : World) : Prop := ∃ g, e = .returned (.tuple #[.pointer (some ⟨g, 0, none⟩), .int .i64 0]) ∧ w.heap.size ≤ g ∧ DAt w' g s 1 ∧ Below w.heap.size w w'
def NilIs (er : Int) (w : World) (e : Ending) (w' : World) : Prop := e = .returned (.tuple #[.pointer none, .int .i64 er]) ∧ Below w.heap.size w w'
def newL (en no pe : List UInt8) : List UInt8 := updL (en ++ no ++ pe) (ini64 32)
theorem newL_length (en no pe : List UInt8) : (newL en no pe).length = 64 := updL_length _ _ (ini64_length 32 (by omega))
theorem fitE_lens {en : List UInt8} {bss : List (List UInt8)} (h : fitE en bss = 0) : en.length ≤ 4096 ∧ ∀ b ∈ bss, b.length ≤ 4096 := by
  unfold fitE at h
  split at h
  · cases h
  · split at h
    · cases h
    · rename_i h2
      simp only [Bool.or_eq_true, not_or, Bool.not_eq_true, List.any_eq_false, longB, decide_eq_true_eq] at h2
      exact ⟨by omega, fun b hb => by have := h2.2 b hb; omega⟩

set_option maxHeartbeats 2000000 in
theorem new_ok (ve vn vp : Value) (en no pe : List UInt8) (w : World) (he : Sl w w.heap.size ve en) (hn : Sl w w.heap.size vn no) (hp : Sl w w.heap.size vp pe) (hv : Vars w) (hf : fitE en [no, pe] = 0) :
    Calls Tryd.prog 13 #[ve, vn, vp] w (DNewIs w (newL en no pe)) := by
  unfold DNewIs
  obtain ⟨A1, c1, rfl, _, _⟩ := he.form
  obtain ⟨A2, c2, rfl, _, _⟩ := hn.form
  obtain ⟨A3, c3, rfl, _, _⟩ := hp.form
  have hl := fitE_lens hf
  have hle := hl.1
  have hln := hl.2 no (by simp)
  have hlp := hl.2 pe (by simp)
  have hnl := newL_length en no pe
  clear hl
  obtain ⟨W, hW⟩ : ∃ W, W = w.alloc (.cells #[.slice A2 no.length c2, .slice A3 pe.length c3] 22) := ⟨_, rfl⟩
  have bW : Below w.heap.size w W := by rw [hW]; exact below1 _ _
  have HC : Shh (PartsO W W.heap.size W.heap.size (.slice (some ⟨w.heap.size, 0, none⟩) 2 2) [no, pe] ∧ Sl W W.heap.size (.slice A1 en.length c1) en ∧ Sl W W.heap.size (.slice A2 no.length c2) no ∧ Sl W W.heap.size (.slice A3 pe.length c3) pe ∧ Vars W ∧ Below w.heap.size w W) :=
    ⟨by rw [hW]; exact parts2 hn hp, he.go bW, hn.go bW, hp.go bW, hv.go bW, bW⟩
  have HF : Shh (fitE en [no, pe] = 0) := ⟨hf⟩
  clear he hn hp hv hf bW
  rw [hW] at HC
  go_enter Tryd.func13, Tryd.ntmps13
  go_wp2_with (go_at_call 48; refine (check_any _ _ _ _ en [no, pe] _ HC.out.2.1 HC.out.1 (by simp)).mono ?_)
  unfold KeepIs
  rintro e w2 ⟨rfl, rfl⟩
  rw [HF.out]
  rw [← hW] at HC ⊢
  clear hW
  go_wp2_with (go_at_call 49; refine (initial_any W).mono ?_)
  rintro e Y ⟨rfl, bY⟩
  obtain ⟨Z, hZ⟩ : ∃ Z, Z = Y.alloc (.cells #[.slice A1 en.length c1, .slice A2 no.length c2, .slice A3 pe.length c3] 22) := ⟨_, rfl⟩
  have bZ : Below Y.heap.size Y Z := by rw [hZ]; exact below1 _ _
  have H2 : Shh (PartsO Z Z.heap.size Z.heap.size (.slice (some ⟨Y.heap.size, 0, none⟩) 3 3) [en, no, pe] ∧ Vars Z ∧ Below w.heap.size w Z) :=
    ⟨by rw [hZ]; exact parts3 (HC.out.2.1.go bY) (HC.out.2.2.1.go bY) (HC.out.2.2.2.1.go bY), (HC.out.2.2.2.2.1.go bY).go bZ, Below.chain HC.out.2.2.2.2.2 (Below.chain bY bZ)⟩
  rw [hZ] at H2
  clear HC bY bZ hZ
  have hil := ini64_length 32 (by omega)
  go_wp2_with (go_at_call 50; refine (updated_any _ _ [en, no, pe] (ini64 32) _ H2.out.1 (Nat.le_refl _) hil (by simp; omega) (by simp) H2.out.2.1).mono ?_)
  rintro e V ⟨rfl, bV⟩
  have e3 : updL [en, no, pe].flatten (ini64 32) = newL en no pe := by unfold newL; simp
  rw [e3]
  have H3 : Shh (Below w.heap.size w V) := ⟨Below.chain H2.out.2.2 bV⟩
  clear H2 bV e3
  obtain ⟨s, hs⟩ : ∃ s, s = newL en no pe := ⟨_, rfl⟩
  rw [← hs] at hnl ⊢
  have HS : Shh (s = newL en no pe) := ⟨hs⟩
  clear hs
  go_wp2_with (refine wpList_build_eq rfl 85 _ rfl (Lib.byteCells s ++ [Value.int .i64 1]).toArray (by exact (congrArg (Tryd.prog.built 85) (by kernel_rfl : _ = [(0, .agg (Lib.byteCells s).toArray), (1, .int .i64 1)])).trans (built_dr s hnl)) ?_)
  go_wp2
  go_ret2
  exact ⟨V.heap.size, rfl, H3.out.size, by rw [← HS.out]; exact ⟨Row.new_ rfl rfl, hnl⟩, H3.out.trans ((below1 V _).mono H3.out.size)⟩
set_option maxHeartbeats 2000000 in
theorem new_bad (ve vn vp : Value) (en no pe : List UInt8) (w : World) (he : Sl w w.heap.size ve en) (hn : Sl w w.heap.size vn no) (hp : Sl w w.heap.size vp pe) (hf : fitE en [no, pe] ≠ 0) :
    Calls Tryd.prog 13 #[ve, vn, vp] w (NilIs (fitE en [no, pe]) w) := by
  unfold NilIs
  obtain ⟨A1, c1, rfl, _, _⟩ := he.form
  obtain ⟨A2, c2, rfl, _, _⟩ := hn.form
  obtain ⟨A3, c3, rfl, _, _⟩ := hp.form
  obtain ⟨W, hW⟩ : ∃ W, W = w.alloc (.cells #[.slice A2 no.length c2, .slice A3 pe.length c3] 22) := ⟨_, rfl⟩
  have bW : Below w.heap.size w W := by rw [hW]; exact below1 _ _
  have HC : Shh (PartsO W W.heap.size W.heap.size (.slice (some ⟨w.heap.size, 0, none⟩) 2 2) [no, pe] ∧ Sl W W.heap.size (.slice A1 en.length c1) en ∧ Below w.heap.size w W) :=
    ⟨by rw [hW]; exact parts2 hn hp, he.go bW, bW⟩
  obtain ⟨er, her⟩ : ∃ er, er = fitE en [no, pe] := ⟨_, rfl⟩
  have hne : (er != 0) = true := by rw [her]; simpa using hf
  have HER : Shh (fitE en [no, pe] = er) := ⟨her.symm⟩
  rw [HER.out]
  clear he hn hp hf bW her
  rw [hW] at HC
  go_enter Tryd.func13, Tryd.ntmps13
  go_wp2_with (go_at_call 48; refine (check_any _ _ _ _ en [no, pe] _ HC.out.2.1 HC.out.1 (by simp)).mono ?_)
  unfold KeepIs
  rintro e w2 ⟨rfl, rfl⟩
  rw [HER.out]
  rw [← hW] at HC ⊢
  clear hW
  go_wp2
  go_ret2
  exact ⟨rfl, HC.out.2.2⟩
end Go.Proofs.YtanpplniedphkaaDoor
