/-
  WALK: (*sha2.Hash).add.
-/
import Derived.Test.YthafhghnciofaaaDoorHash
namespace Go.Proofs.YthafhghnciofaaaDoor
open Go.RowKit
set_option maxRecDepth 100000

theorem info_u8s : (Tryd.prog.info? 5).map (·.size) = some 1 := by kernel_rfl
/-- bytes have been added to the Hash in block g; nothing else has turned -/
def AddIs (w : World) (g : Nat) (m : List UInt8) (e : Ending) (w' : World) : Prop := e = .returned (.tuple #[]) ∧ HashAt w' g m ∧ But w.heap.size g w w'

def slLen : Value → Nat
  | .slice _ n _ => n
  | _ => 0
theorem splice_take (blk cs : List UInt8) (r : Nat) (h : r + cs.length ≤ blk.length) : (splice blk r cs).take (r + cs.length) = blk.take r ++ cs := by
  unfold splice
  rw [← List.append_assoc, List.take_append_of_le_length (by simp; omega)]
  exact List.take_of_length_le (by simp; omega)
theorem splice_all (blk cs : List UInt8) (r : Nat) (h : r + cs.length = blk.length) : splice blk r cs = blk.take r ++ cs := by
  unfold splice
  rw [h, List.drop_length, List.append_nil]

/-- what one round does to the bytes: n more bytes; they fill the block, or they don't -/
theorem round_part (M cs blk : List UInt8) (r : Nat) (hr : r = M.length % 64) (hb : blk.length = 64) (hblk : blk.take r = M.drop (64 * (M.length / 64))) (hc : r + cs.length < 64) :
    (M ++ cs).length / 64 = M.length / 64 ∧ states (M ++ cs) ((M ++ cs).length / 64) = states M (M.length / 64) ∧ (splice blk r cs).length = 64 ∧ (splice blk r cs).take ((M ++ cs).length % 64) = (M ++ cs).drop (64 * ((M ++ cs).length / 64)) := by
  have hd : (M ++ cs).length / 64 = M.length / 64 := by simp only [List.length_append]; omega
  have hm : (M ++ cs).length % 64 = r + cs.length := by simp only [List.length_append]; omega
  refine ⟨hd, by rw [hd, states_append _ _ _ (by omega)], by rw [length_splice _ _ _ (by omega), hb], ?_⟩
  rw [hd, hm, splice_take _ _ _ (by omega), hblk, List.drop_append_of_le_length (by omega)]
theorem round_full (M cs blk : List UInt8) (r : Nat) (hr : r = M.length % 64) (hb : blk.length = 64) (hblk : blk.take r = M.drop (64 * (M.length / 64))) (hc : r + cs.length = 64) :
    (M ++ cs).length / 64 = M.length / 64 + 1 ∧ (M ++ cs).length % 64 = 0 ∧ states (M ++ cs) ((M ++ cs).length / 64) = comp (states M (M.length / 64)) (splice blk r cs) ∧ (splice blk r cs).length = 64 := by
  have hd : (M ++ cs).length / 64 = M.length / 64 + 1 := by simp only [List.length_append]; omega
  have hm : (M ++ cs).length % 64 = 0 := by simp only [List.length_append]; omega
  refine ⟨hd, hm, ?_, by rw [length_splice _ _ _ (by omega), hb]⟩
  rw [hd, states, states_append _ _ _ (by omega), blockAt, splice_all _ _ _ (by omega), hblk, List.drop_append_of_le_length (by omega), List.take_of_length_le (by simp only [List.length_append, List.length_drop]; omega)]

theorem arr24 : Tryd.prog.underlying 24 = some (.array (Tryd.prog.arrayLen 24) (Tryd.prog.elem 24)) := by kernel_rfl
theorem elem24 : Tryd.prog.elem 24 = 5 := by kernel_rfl
theorem len24 : Tryd.prog.arrayLen 24 = 64 := by kernel_rfl
theorem slice24_from (g o r : Nat) (h : r < 64) (w : World) : (Instr.sliceAt 24 (.pointer (some ⟨g, o, none⟩)) (some (.int .i64 (r : Int))) none none).run Tryd.prog w = .ok (.slice (some ⟨g, o + r, none⟩) (64 - r) (64 - r)) w := by
  rw [run_sliceAt_array_l w 24 ⟨g, o, none⟩ arr24 .i64 (r : Int) (by omega) (by rw [len24]; omega), elem24, run_sizeOf_u8, Result.andThen_ok, Int.toNat_natCast, len24]
  unfold slicedAt
  rw [if_neg (by omega), addr_add, Nat.mul_one]
theorem slice24_to (g o r : Nat) (h : r ≤ 64) (w : World) : (Instr.sliceAt 24 (.pointer (some ⟨g, o, none⟩)) none (some (.int .i64 (r : Int))) none).run Tryd.prog w = .ok (.slice (some ⟨g, o, none⟩) r 64) w := by
  rw [run_sliceAt_array_h w 24 ⟨g, o, none⟩ arr24 .i64 (r : Int) (by omega) (by rw [len24]; omega), elem24, run_sizeOf_u8, Result.andThen_ok, Int.toNat_natCast, len24]
  unfold slicedAt
  rw [if_neg (by omega)]
  rfl

theorem take_more (p cs : List UInt8) (k j : Nat) (hcs : cs = (p.drop k).take j) : p.take (k + cs.length) = p.take k ++ cs := by
  rw [List.take_add]
  congr 1
  subst hcs
  rw [List.length_take, List.take_eq_take_iff]
  simp
theorem add_full {w : World} {g : Nat} {m p M cs blk blk2 : List UInt8} {k r sz N2 j : Nat} {st : St} (hg : 0 ≠ g) (hM : M = m ++ p.take k) (hcs : cs = (p.drop k).take j) (hrr : r = sz % 64) (hst : states M (M.length / 64) = st ∧ M.length = sz) (hb : blk.length = 64)
    (hblk : blk.take r = M.drop (64 * (sz / 64))) (hN : N2 = sz + cs.length ∧ 0 = N2 % 64) (hpos : 0 < cs.length) (hcl : cs.length ≤ 64 - r) (hbl2 : splice blk r cs = blk2)
    (hr : Row w g 59 (hashCells (comp st blk2) blk2 N2)) : HashAt w g (m ++ p.take (k + cs.length)) := by
  obtain ⟨hst, hsz⟩ := hst
  obtain ⟨hN, hz⟩ := hN
  rw [take_more p cs k j hcs, ← List.append_assoc, ← hM]
  subst hsz
  have hl : (M ++ cs).length = N2 := by rw [List.length_append, hN]
  obtain ⟨h1, h2, h3, h4⟩ := round_full M cs blk r hrr hb hblk (by omega)
  refine ⟨hg, blk2, ?_, by rw [← hbl2]; exact h4, ?_⟩
  · rw [h3, hst, hbl2, hl]; exact hr
  · rw [h2, List.take_zero, List.drop_of_length_le (by omega)]
theorem add_part {w : World} {g : Nat} {m p M cs blk blk2 : List UInt8} {k r sz N2 j r2 : Nat} {st : St} (hg : 0 ≠ g) (hM : M = m ++ p.take k) (hcs : cs = (p.drop k).take j) (hrr : r = sz % 64) (hst : states M (M.length / 64) = st ∧ M.length = sz) (hb : blk.length = 64)
    (hblk : blk.take r = M.drop (64 * (sz / 64))) (hN : N2 = sz + cs.length ∧ r2 = N2 % 64) (hz : ¬ r2 = 0) (hcl : cs.length ≤ 64 - r) (hbl2 : splice blk r cs = blk2)
    (hr : Row w g 59 (hashCells st blk2 N2)) : HashAt w g (m ++ p.take (k + cs.length)) := by
  obtain ⟨hst, hsz⟩ := hst
  obtain ⟨hN, hz2⟩ := hN
  rw [take_more p cs k j hcs, ← List.append_assoc, ← hM]
  subst hsz
  have hl : (M ++ cs).length = N2 := by rw [List.length_append, hN]
  obtain ⟨h1, h2, h3, h4⟩ := round_part M cs blk r hrr hb hblk (by omega)
  refine ⟨hg, blk2, ?_, by rw [← hbl2]; exact h3, by rw [← hbl2]; exact h4⟩
  rw [h2, hst, hl]; exact hr

/-! the operations of 'h.state = Compress(h.state, h.block)', written out: the region draws their order -/
def op147_0 : Oper := { dst := some 36, op := Op.move (Operand.tmp 0), type := 40, pos := "sha2.go:147", after := #[], guard := none }
def op147_1 : Oper := { dst := some 37, op := Op.move (Operand.tmp 0), type := 40, pos := "sha2.go:147", after := #[], guard := none }
def op147_2 : Oper := { dst := some 38, op := Op.nilCheck (Operand.tmp 37), type := 0, pos := "sha2.go:147", after := #[{ on := 1, ground := Ground.data }], guard := none }
def op147_3 : Oper := { dst := some 39, op := Op.fieldAddr 59 (Operand.tmp 38) 1, type := 0, pos := "sha2.go:147", after := #[{ on := 2, ground := Ground.data }], guard := none }
def op147_4 : Oper := { dst := some 40, op := Op.load 23 (Operand.tmp 39), type := 23, pos := "sha2.go:147", after := #[{ on := 3, ground := Ground.data }], guard := none }
def op147_5 : Oper := { dst := some 41, op := Op.move (Operand.tmp 0), type := 40, pos := "sha2.go:147", after := #[], guard := none }
def op147_6 : Oper := { dst := some 42, op := Op.nilCheck (Operand.tmp 41), type := 0, pos := "sha2.go:147", after := #[{ on := 5, ground := Ground.data }], guard := none }
def op147_7 : Oper := { dst := some 43, op := Op.fieldAddr 59 (Operand.tmp 42) 2, type := 0, pos := "sha2.go:147", after := #[{ on := 6, ground := Ground.data }], guard := none }
def op147_8 : Oper := { dst := some 44, op := Op.load 24 (Operand.tmp 43), type := 24, pos := "sha2.go:147", after := #[{ on := 7, ground := Ground.data }], guard := none }
def op147_9 : Oper := { dst := some 45, op := Op.call { callee := Callee.value (Operand.func 12), args := #[Operand.tmp 40, Operand.tmp 44], argTypes := #[23, 24] }, type := 23, pos := "sha2.go:147", after := #[{ on := 4, ground := Ground.data }, { on := 8, ground := Ground.data }], guard := none }
def op147_10 : Oper := { dst := some 46, op := Op.nilCheck (Operand.tmp 36), type := 0, pos := "sha2.go:147", after := #[{ on := 0, ground := Ground.data }, { on := 0, ground := Ground.phase }, { on := 1, ground := Ground.phase }, { on := 2, ground := Ground.phase }, { on := 3, ground := Ground.phase }, { on := 4, ground := Ground.phase }, { on := 5, ground := Ground.phase }, { on := 6, ground := Ground.phase }, { on := 7, ground := Ground.phase }, { on := 8, ground := Ground.phase }, { on := 9, ground := Ground.phase }], guard := none }
def op147_11 : Oper := { dst := some 47, op := Op.fieldAddr 59 (Operand.tmp 46) 1, type := 0, pos := "sha2.go:147", after := #[{ on := 10, ground := Ground.data }, { on := 0, ground := Ground.phase }, { on := 1, ground := Ground.phase }, { on := 2, ground := Ground.phase }, { on := 3, ground := Ground.phase }, { on := 4, ground := Ground.phase }, { on := 5, ground := Ground.phase }, { on := 6, ground := Ground.phase }, { on := 7, ground := Ground.phase }, { on := 8, ground := Ground.phase }, { on := 9, ground := Ground.phase }], guard := none }
def op147_12 : Oper := { dst := none, op := Op.store 23 (Operand.tmp 47) (Operand.tmp 45), type := 0, pos := "sha2.go:147", after := #[{ on := 11, ground := Ground.data }, { on := 9, ground := Ground.data }, { on := 9, ground := Ground.chain }, { on := 0, ground := Ground.phase }, { on := 1, ground := Ground.phase }, { on := 2, ground := Ground.phase }, { on := 3, ground := Ground.phase }, { on := 4, ground := Ground.phase }, { on := 5, ground := Ground.phase }, { on := 6, ground := Ground.phase }, { on := 7, ground := Ground.phase }, { on := 8, ground := Ground.phase }, { on := 9, ground := Ground.phase }], guard := none }

set_option maxHeartbeats 400000 in
theorem add_any (g : Nat) (m p : List UInt8) (B : Nat) (v : Value) (w : World) (h : HashAt w g m) (hs : Sl w B v p) (hB : B ≤ w.heap.size) (ho : Off g v) (hv : Vars w) (hl : m.length + p.length ≤ 1099511627776) :
    Calls Tryd.prog 42 #[.pointer (some ⟨g, 0, none⟩), v] w (AddIs w g (m ++ p)) := by
  unfold AddIs
  obtain ⟨A, c, rfl, _, _⟩ := hs.form
  go_enter Tryd.func42, Tryd.ntmps42
  go_wp2
  go_loopw [1] (fun v1 wr => ∃ (k : Nat) (A1 : Option Addr) (c1 : Nat), k ≤ p.length ∧ v1 = .slice A1 (p.length - k) c1 ∧ Hid (Sl wr B v1 (p.drop k)) ∧ Hid (Off g v1) ∧ HashAt wr g (m ++ p.take k) ∧ Vars wr ∧ But w.heap.size g w wr) (fun v1 _ => slLen v1)
  case atStart => exact ⟨0, A, c, Nat.zero_le _, rfl, Lib.hid hs, Lib.hid ho, by simpa using h, hv, But.refl _ _ _⟩
  case round =>
    clear h hs ho hv
    obtain ⟨k, A1, c1, hk, rfl, HS, HO, hh, hv, hbut⟩ := hrel
    by_cases hlt : k < p.length
    · obtain ⟨hg0, blk, hr, hbl, hblk⟩ := hh
      obtain ⟨M, hM⟩ : ∃ M, M = m ++ p.take k := ⟨_, rfl⟩
      rw [← hM] at hr hblk
      obtain ⟨r, hrr⟩ : ∃ r, r = M.length % 64 := ⟨_, rfl⟩
      rw [← hrr] at hblk
      obtain ⟨b, off, rfl, hbB, hcell⟩ := HS.out.at_ (by simp; omega)
      have hMl : M.length = m.length + k := by rw [hM]; simp; omega
      obtain ⟨cs, hcs⟩ : ∃ cs, cs = (p.drop k).take (64 - r) := ⟨_, rfl⟩
      have hcl : cs.length = Nat.min (p.length - k) (64 - r) := by rw [hcs]; simp [Nat.min_comm]
      have hcl1 : cs.length ≤ 64 - r := by rw [hcl]; exact Nat.min_le_right _ _
      have hcl2 : cs.length ≤ p.length - k := by rw [hcl]; exact Nat.min_le_left _ _
      have hrl : r < 64 := by omega
      have hsrc : Hid (∀ j u, (Lib.byteCells cs)[j]? = some u → wr.cell? ((⟨b, off, none⟩ : Addr).add j) = some u) := Lib.hid (fun j u hu => by
        have hj : j < cs.length := by have := (List.getElem?_eq_some_iff.1 hu).1; rwa [Lib.byteCells_length] at this
        rw [addr_add, hcell j (by simp; omega), ← hu, byteCells_get _ _ hj]
        subst hcs
        simp)
      have hc73 := hr.cell 73
      rw [hashCells_size _ _ _ hbl] at hc73
      have HR := Lib.hid hr
      have HB := Lib.hid (And.intro hblk (And.intro hM (And.intro hrr (And.intro hcs (And.intro hbl hcl)))))
      have HMl := Lib.hid hMl
      have q1 : (M.length : Int) % 64 = (r : Int) := by omega
      have q3 : (M.length : Int).tmod 64 = (r : Int) := (show (M.length : Int).tmod 64 = ((M.length % 64 : Nat) : Int) from rfl).trans (by omega)
      have hslc := slice24_from g 9 r hrl
      have q2 : ¬ 64 = r := by omega
      have hcpos : 0 < cs.length := by rw [hcl]; simp only [Nat.min_def]; split <;> omega
      clear hcell hr hblk hM hrr hcs hcl hMl
      obtain ⟨st, hst⟩ : ∃ st, states M (M.length / 64) = st := ⟨_, rfl⟩
      obtain ⟨sz, hsz⟩ : ∃ sz, M.length = sz := ⟨_, rfl⟩
      have HST := Lib.hid (And.intro hst hsz)
      rw [hst, hsz] at HR
      rw [hsz] at hc73 HMl HB q1 q3
      clear hst hsz
      go_wp2
      go_region_law (refine step_copy_but rfl (.tmp 16) (.tmp 17) 30 30 rfl 5 Tryd.underlying30 info_u8s (64 - r) (64 - r) (p.length - k) c1 ⟨b, off, none⟩ g (9 + r) (by simp [Act.eval, Act.put]) (by simp [Act.eval, Act.put]) _ _ HR.out (Lib.byteCells cs) (by rw [Lib.byteCells_length]; exact HB.out.2.2.2.2.2) hsrc.out (by rw [Lib.byteCells_length, hashCells_length _ _ _ HB.out.2.2.2.2.1]; omega) (cell_oneCell _) ?_; intro w4 hr4 hb4 hs4; rw [show goInt (Lib.byteCells cs).length = .int .i64 (cs.length : Int) by rw [Lib.byteCells_length]; rfl])
      rw [hashCells_splice _ _ _ _ _ HB.out.2.2.2.2.1 (by omega)] at hr4
      replace hb4 : But wr.heap.size g wr w4 := But.undrew hb4
      have hsv : Sl w4 B (.slice (some ⟨b, off, none⟩) (p.length - k) c1) (p.drop k) := Sl.but (w := wr) HS.out HO.out (hb4.mono (Nat.le_trans hB hbut.size))
      have hle : cs.length ≤ (p.drop k).length := by simp; omega
      have hv4 : Vars w4 := Vars.but (w := wr) hv hb4 hg0
      have hbut4 : But w.heap.size g w w4 := hbut.chain (w₁ := wr) hb4
      go_wp2_with (refine wpList_slice_from rfl (.tmp 19) (.tmp 20) rfl B _ rfl (p.drop k) hsv cs.length rfl hle ?_)
      intro v2 hs2 ho2
      replace ho2 := ho2 g HO.out
      obtain ⟨N2, hN2⟩ : ∃ N2, N2 = sz + cs.length := ⟨_, rfl⟩
      obtain ⟨r2, hr2⟩ : ∃ r2, r2 = N2 % 64 := ⟨_, rfl⟩
      have q4 : (sz : Int) + (cs.length : Int) = (N2 : Int) := by omega
      have q5 : (N2 : Int).tmod 64 = (r2 : Int) := (show (N2 : Int).tmod 64 = ((N2 % 64 : Nat) : Int) from rfl).trans (by omega)
      have q6 : (N2 : Int) % 64 = (r2 : Int) := by omega
      have hsb : N2 ≤ 1099511627776 := by have := HMl.out; omega
      have d73 := hr4.cell 73
      have hb2l : (splice blk r cs).length = 64 := by rw [length_splice _ _ _ (by have := HB.out.2.2.2.2.1; omega), HB.out.2.2.2.2.1]
      rw [hashCells_size _ _ _ hb2l] at d73
      have f73 := hr4.free 73
      have hr6 := hr4.set_ 73 (.int .i64 (N2 : Int))
      rw [hashCells_setSize _ _ _ _ hb2l] at hr6
      have hb6 := hbut4.setCell 73 (.int .i64 (N2 : Int))
      have hv6 : Vars (w4.setCell ⟨g, 73, none⟩ (.int .i64 (N2 : Int))) := hv4.but (But.setCell (But.refl _ _ _) 73 _) hg0
      have hs6 : Sl (w4.setCell ⟨g, 73, none⟩ (.int .i64 (N2 : Int))) B v2 (p.drop (k + cs.length)) := hs2.but ho2 (But.setCell (But.refl _ _ _) 73 _)
      obtain ⟨w6, hw6⟩ : ∃ w6, w4.setCell ⟨g, 73, none⟩ (.int .i64 (N2 : Int)) = w6 := ⟨_, rfl⟩
      have d6 := hr6.cell 73
      rw [hashCells_size _ _ _ hb2l] at d6
      have hN := Lib.hid (And.intro hN2 hr2)
      rw [hw6] at hr6 hb6 hv6 hs6 d6
      obtain ⟨A2, c2, rfl, _, _⟩ := hs6.form
      rw [List.length_drop] at hs6 ho2
      clear hs2 hr4 hN2 hr2 hc73 hslc q1 q3
      generalize hblk2 : splice blk r cs = blk2 at *
      by_cases hz : r2 = 0
      · subst hz
        have HR6 := Lib.hid hr6
        have hrg24 : w6.drew.rangeAt g 9 (Lib.byteCells blk2) := by
          have := hr6.drew.mid 9 64
          rwa [hashCells_blk _ _ _ hb2l] at this
        have hrg23 : w6.drew.rangeAt g 1 (wordCells st.list) := by
          have := hr6.drew.mid 1 8
          rwa [hashCells_st] at this
        clear hr6
        go_wp2
        refine wp_region_any (by kernel_rfl) ?_
        change wpAny _ _ _ _ _ _ _ (World.drew _)
        (refine wpAny_take (i := 0) (oi := op147_0) (v := ?_) rfl (by kernel_rfl) (by kernel_rfl) (by kernel_rfl) (fun _ _ _ h => h) (Or.inl ⟨by rfl, ?_⟩) ?_; rotate_left; focus (intro w; unfold op147_0; go_simp; try with_reducible rfl))
        simp only [op147_0, Act.put, List.setIfInBounds_toArray, List.set_cons_zero, List.set_cons_succ]
        (refine wpAny_take (i := 1) (oi := op147_1) (v := ?_) rfl (by kernel_rfl) (by kernel_rfl) (by kernel_rfl) (fun _ _ _ h => h) (Or.inl ⟨by rfl, ?_⟩) ?_; rotate_left; focus (intro w; unfold op147_1; go_simp; try with_reducible rfl))
        simp only [op147_1, Act.put, List.setIfInBounds_toArray, List.set_cons_zero, List.set_cons_succ]
        (refine wpAny_take (i := 2) (oi := op147_2) (v := ?_) rfl (by kernel_rfl) (by kernel_rfl) (by kernel_rfl) (fun _ _ _ h => h) (Or.inl ⟨by rfl, ?_⟩) ?_; rotate_left; focus (intro w; unfold op147_2; go_simp; try with_reducible rfl))
        simp only [op147_2, Act.put, List.setIfInBounds_toArray, List.set_cons_zero, List.set_cons_succ]
        (refine wpAny_take (i := 3) (oi := op147_3) (v := ?_) rfl (by kernel_rfl) (by kernel_rfl) (by kernel_rfl) (fun _ _ _ h => h) (Or.inl ⟨by rfl, ?_⟩) ?_; rotate_left; focus (intro w; unfold op147_3; go_simp; try with_reducible rfl))
        simp only [op147_3, Act.put, List.setIfInBounds_toArray, List.set_cons_zero, List.set_cons_succ]
        (refine wpAny_take (i := 5) (oi := op147_5) (v := ?_) rfl (by kernel_rfl) (by kernel_rfl) (by kernel_rfl) (fun _ _ _ h => h) (Or.inl ⟨by rfl, ?_⟩) ?_; rotate_left; focus (intro w; unfold op147_5; go_simp; try with_reducible rfl))
        simp only [op147_5, Act.put, List.setIfInBounds_toArray, List.set_cons_zero, List.set_cons_succ]
        (refine wpAny_take (i := 6) (oi := op147_6) (v := ?_) rfl (by kernel_rfl) (by kernel_rfl) (by kernel_rfl) (fun _ _ _ h => h) (Or.inl ⟨by rfl, ?_⟩) ?_; rotate_left; focus (intro w; unfold op147_6; go_simp; try with_reducible rfl))
        simp only [op147_6, Act.put, List.setIfInBounds_toArray, List.set_cons_zero, List.set_cons_succ]
        (refine wpAny_take (i := 7) (oi := op147_7) (v := ?_) rfl (by kernel_rfl) (by kernel_rfl) (by kernel_rfl) (fun _ _ _ h => h) (Or.inl ⟨by rfl, ?_⟩) ?_; rotate_left; focus (intro w; unfold op147_7; go_simp; try with_reducible rfl))
        simp only [op147_7, Act.put, List.setIfInBounds_toArray, List.set_cons_zero, List.set_cons_succ]
        refine wpAny_ready (rs := [4, 8]) (by kernel_rfl) (by simp) (ready_load 4 23 (.tmp 39) (some 40) (by kernel_rfl) (by kernel_rfl) (by kernel_rfl) g 1 (by rfl) (wordCells st.list) (.array 8 22) hrg23 Tryd.underlying23 rfl (info_w8.trans (size_words _ _ rfl)) ?_ (ready_load 8 24 (.tmp 43) (some 44) (by kernel_rfl) (by kernel_rfl) (by kernel_rfl) g 9 (by rfl) (Lib.byteCells blk2) (.array 64 5) hrg24 Tryd.underlying24 rfl (info_b64.trans (size_bytes _ _ hb2l)) ?_ AllReady.nil))
        · simp only [Act.put, List.setIfInBounds_toArray, List.set_cons_zero, List.set_cons_succ]
          refine wpAny_ready (rs := [8]) (by kernel_rfl) (by simp) (ready_load 8 24 (.tmp 43) (some 44) (by kernel_rfl) (by kernel_rfl) (by kernel_rfl) g 9 (by rfl) (Lib.byteCells blk2) (.array 64 5) hrg24 Tryd.underlying24 rfl (info_b64.trans (size_bytes _ _ hb2l)) ?_ AllReady.nil)
          simp only [Act.put, List.setIfInBounds_toArray, List.set_cons_zero, List.set_cons_succ]
          refine wpAny_ready (rs := [9]) (by kernel_rfl) (by simp) (AllReady.cons (o := op147_9) rfl (fun K hK => ?_) AllReady.nil)
          unfold op147_9
          go_simp
          go_at_call 12
          refine (compress_any st blk2 hb2l _ hv6.drew).mono ?_
          rintro e w7 ⟨rfl, b7d⟩
          have b7 : Below w6.heap.size w6 w7 := ⟨b7d.os, b7d.tape, b7d.output, b7d.size, b7d.block⟩
          clear b7d
          try go_simp
          refine hK _ _ ?_
          clear hK K
          (refine wpAny_take (i := 10) (oi := op147_10) (v := ?_) rfl (by kernel_rfl) (by kernel_rfl) (by kernel_rfl) (fun _ _ _ h => h) (Or.inl ⟨by rfl, ?_⟩) ?_; rotate_left; focus (intro w; unfold op147_10; go_simp; try with_reducible rfl))
          simp only [op147_10, Act.put, List.setIfInBounds_toArray, List.set_cons_zero, List.set_cons_succ]
          (refine wpAny_take (i := 11) (oi := op147_11) (v := ?_) rfl (by kernel_rfl) (by kernel_rfl) (by kernel_rfl) (fun _ _ _ h => h) (Or.inl ⟨by rfl, ?_⟩) ?_; rotate_left; focus (intro w; unfold op147_11; go_simp; try with_reducible rfl))
          simp only [op147_11, Act.put, List.setIfInBounds_toArray, List.set_cons_zero, List.set_cons_succ]
          have hr7 : Row w7 g 59 (hashCells st blk2 N2) := HR6.out.below (B := w6.heap.size) b7 HR6.out.lt
          refine wpAny_ready (rs := [12]) (by kernel_rfl) (by simp) (ready_store 12 23 (.tmp 47) (.tmp 45) none (by kernel_rfl) (by kernel_rfl) (by kernel_rfl) g 1 (by rfl) (wordCells (comp st blk2).list) (by rfl) (hr7.there 1 8 (by rw [hashCells_length _ _ _ hb2l]; decide)) (info_w8.trans (size_words _ _ rfl)) (cell_oneWord _) ?_ AllReady.nil)
          simp only [Act.put]
          refine wpAny_done (by kernel_rfl) ?_ _
          have hr8 := hr7.setCells (wordCells (comp st blk2).list) 1
          rw [hashCells_setSt] at hr8
          have hb8 : But w.heap.size g w (w7.setCells g 1 (wordCells (comp st blk2).list)) := (hb6.chain (But.of b7 g)).trans (But.setCells _ 1 (But.refl _ _ _))
          have hv8 : Vars (w7.setCells g 1 (wordCells (comp st blk2).list)) := (hv6.step b7).but (But.setCells _ 1 (But.refl _ _ _)) hg0
          have hs8 : Sl (w7.setCells g 1 (wordCells (comp st blk2).list)) B (.slice A2 (p.length - (k + cs.length)) c2) (p.drop (k + cs.length)) := (hs6.below (b7.mono (Nat.le_trans hB hb6.size))).but ho2 (But.setCells _ 1 (But.refl _ _ _))
          clear hr7
          generalize w7.setCells g 1 (wordCells (comp st blk2).list) = w8 at *
          go_wp2
          go_roundw
          case rel =>
            obtain ⟨z1, z2, z3, z4, z5, z6⟩ := HB.out
            exact ⟨k + cs.length, A2, c2, by omega, rfl, Lib.hid hs8, Lib.hid ho2, add_full hg0 z2 z4 z3 HST.out z5 z1 hN.out hcpos hcl1 hblk2 hr8, hv8, hb8⟩
          case measure => simp [slLen]; omega
        · simp only [Act.put, List.setIfInBounds_toArray, List.set_cons_zero, List.set_cons_succ]
          refine wpAny_ready (rs := [4]) (by kernel_rfl) (by simp) (ready_load 4 23 (.tmp 39) (some 40) (by kernel_rfl) (by kernel_rfl) (by kernel_rfl) g 1 (by rfl) (wordCells st.list) (.array 8 22) hrg23 Tryd.underlying23 rfl (info_w8.trans (size_words _ _ rfl)) ?_ AllReady.nil)
          simp only [Act.put, List.setIfInBounds_toArray, List.set_cons_zero, List.set_cons_succ]
          refine wpAny_ready (rs := [9]) (by kernel_rfl) (by simp) (AllReady.cons (o := op147_9) rfl (fun K hK => ?_) AllReady.nil)
          unfold op147_9
          go_simp
          go_at_call 12
          refine (compress_any st blk2 hb2l _ hv6.drew).mono ?_
          rintro e w7 ⟨rfl, b7d⟩
          have b7 : Below w6.heap.size w6 w7 := ⟨b7d.os, b7d.tape, b7d.output, b7d.size, b7d.block⟩
          clear b7d
          try go_simp
          refine hK _ _ ?_
          clear hK K
          (refine wpAny_take (i := 10) (oi := op147_10) (v := ?_) rfl (by kernel_rfl) (by kernel_rfl) (by kernel_rfl) (fun _ _ _ h => h) (Or.inl ⟨by rfl, ?_⟩) ?_; rotate_left; focus (intro w; unfold op147_10; go_simp; try with_reducible rfl))
          simp only [op147_10, Act.put, List.setIfInBounds_toArray, List.set_cons_zero, List.set_cons_succ]
          (refine wpAny_take (i := 11) (oi := op147_11) (v := ?_) rfl (by kernel_rfl) (by kernel_rfl) (by kernel_rfl) (fun _ _ _ h => h) (Or.inl ⟨by rfl, ?_⟩) ?_; rotate_left; focus (intro w; unfold op147_11; go_simp; try with_reducible rfl))
          simp only [op147_11, Act.put, List.setIfInBounds_toArray, List.set_cons_zero, List.set_cons_succ]
          have hr7 : Row w7 g 59 (hashCells st blk2 N2) := HR6.out.below (B := w6.heap.size) b7 HR6.out.lt
          refine wpAny_ready (rs := [12]) (by kernel_rfl) (by simp) (ready_store 12 23 (.tmp 47) (.tmp 45) none (by kernel_rfl) (by kernel_rfl) (by kernel_rfl) g 1 (by rfl) (wordCells (comp st blk2).list) (by rfl) (hr7.there 1 8 (by rw [hashCells_length _ _ _ hb2l]; decide)) (info_w8.trans (size_words _ _ rfl)) (cell_oneWord _) ?_ AllReady.nil)
          simp only [Act.put]
          refine wpAny_done (by kernel_rfl) ?_ _
          have hr8 := hr7.setCells (wordCells (comp st blk2).list) 1
          rw [hashCells_setSt] at hr8
          have hb8 : But w.heap.size g w (w7.setCells g 1 (wordCells (comp st blk2).list)) := (hb6.chain (But.of b7 g)).trans (But.setCells _ 1 (But.refl _ _ _))
          have hv8 : Vars (w7.setCells g 1 (wordCells (comp st blk2).list)) := (hv6.step b7).but (But.setCells _ 1 (But.refl _ _ _)) hg0
          have hs8 : Sl (w7.setCells g 1 (wordCells (comp st blk2).list)) B (.slice A2 (p.length - (k + cs.length)) c2) (p.drop (k + cs.length)) := (hs6.below (b7.mono (Nat.le_trans hB hb6.size))).but ho2 (But.setCells _ 1 (But.refl _ _ _))
          clear hr7
          generalize w7.setCells g 1 (wordCells (comp st blk2).list) = w8 at *
          go_wp2
          go_roundw
          case rel =>
            obtain ⟨z1, z2, z3, z4, z5, z6⟩ := HB.out
            exact ⟨k + cs.length, A2, c2, by omega, rfl, Lib.hid hs8, Lib.hid ho2, add_full hg0 z2 z4 z3 HST.out z5 z1 hN.out hcpos hcl1 hblk2 hr8, hv8, hb8⟩
          case measure => simp [slLen]; omega
      · have hz' : ¬ (r2 : Int) = 0 := by omega
        go_wp2
        go_roundw
        case rel =>
          obtain ⟨z1, z2, z3, z4, z5, z6⟩ := HB.out
          exact ⟨k + cs.length, A2, c2, by omega, by simp, Lib.hid (by simpa using hs6), Lib.hid (by simpa using ho2), add_part hg0 z2 z4 z3 HST.out z5 z1 hN.out hz hcl1 hblk2 hr6, hv6, hb6⟩
        case measure => simp [slLen]; omega
    · obtain rfl : k = p.length := by omega
      rw [List.take_length] at hh
      go_wp2
      go_end0
      exact ⟨rfl, hh, hbut⟩
end Go.Proofs.YthafhghnciofaaaDoor
