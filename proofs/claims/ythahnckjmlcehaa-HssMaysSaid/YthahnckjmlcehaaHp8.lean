/-
  WALK: hss.split.
-/
import Derived.Test.YthahnckjmlcehaaHp7
namespace Go.Proofs.Ythahnckjmlcehaa
open Go.RowKit
set_option maxRecDepth 100000
attribute [local go_sem] Oper.semAt_some
section
variable {a : Act} {x y : Operand} {op : Oper} {w : World}
theorem load_u64c {p : Addr} {i : Int} (ho : op.op = .load 24 x) (hc : w.cell? p = some (.int .u64 i)) (hx : a.eval x = .pointer (some p)) : (execOp a.eval op).run Try.prog w = .ok (.value (.int .u64 i)) w := by
  unfold execOp
  simp only [ho, hx]
  go_simp
theorem load_us {p : Addr} {A : Option Addr} {n c : Nat} (ho : op.op = .load 32 x) (hc : w.cell? p = some (.slice A n c)) (hx : a.eval x = .pointer (some p)) : (execOp a.eval op).run Try.prog w = .ok (.value (.slice A n c)) w := by
  unfold execOp
  simp only [ho, hx]
  go_simp
theorem rem_u64 {i p : Nat} (hp : 0 < p) (ho : op.op = .binOp .rem 24 x y 24) (hx : a.eval x = .int .u64 (i : Int)) (hy : a.eval y = .int .u64 (p : Int)) : (execOp a.eval op).run Try.prog w = .ok (.value (.int .u64 ((i % p : Nat) : Int))) w := by
  have h0 : ¬ p = 0 := by omega
  have e : ((i % p : Nat) : Int) = (i : Int).tmod (p : Int) := by rw [Int.tmod_eq_emod_of_nonneg (by omega)]; exact Int.natCast_emod i p
  unfold execOp
  simp only [ho, hx, hy, e]
  go_simp
theorem quo_u64 {i p : Nat} (hi : i < 18446744073709551616) (hp : 0 < p) (ho : op.op = .binOp .quo 24 x y 24) (hx : a.eval x = .int .u64 (i : Int)) (hy : a.eval y = .int .u64 (p : Int)) : (execOp a.eval op).run Try.prog w = .ok (.value (.int .u64 ((i / p : Nat) : Int))) w := by
  have h0 : ¬ p = 0 := by omega
  have e : ((i / p : Nat) : Int) = (i : Int).tdiv (p : Int) := by rw [Int.tdiv_eq_ediv_of_nonneg (by omega)]; exact Int.natCast_ediv i p
  have hl := Nat.div_le_self i p
  have hw : IntKind.u64.wrap ((i : Int).tdiv (p : Int)) = (i : Int).tdiv (p : Int) := by
    rw [← e, IntKind.wrap_u64]
    generalize i / p = q at hl
    omega
  have hw2 : IntKind.u64.wrap ((i : Int) / (p : Int)) = (i : Int) / (p : Int) := by
    rw [Int.tdiv_eq_ediv_of_nonneg (by omega)] at hw
    exact hw
  unfold execOp
  simp only [ho, hx, hy, e]
  go_simp
theorem conv_u64 {i : Nat} (hi : i < 4294967296) (ho : op.op = .convert 24 35 x) (hx : a.eval x = .int .u64 (i : Int)) : (execOp a.eval op).run Try.prog w = .ok (.value (.int .u32 (i : Int))) w := by
  have hw : IntKind.u32.wrap (i : Int) = (i : Int) := by rw [IntKind.wrap_u32]; omega
  unfold execOp
  simp only [ho, hx]
  go_simp
theorem index_u (b k n c : Nat) (hk : k < n) (ho : op.op = .indexAddr 32 x y) (hx : a.eval x = .slice (some ⟨b, 0, none⟩) n c) (hy : a.eval y = .int .i64 (k : Int)) (w : World) :
    (execOp a.eval op).run Try.prog w = .ok (.value (.pointer (some ⟨b, k, none⟩))) w := by
  have h0 : (0 : Int) ≤ (k : Int) := by omega
  have h1 : (k : Int) < (n : Int) := by omega
  unfold execOp
  simp only [ho, hx, hy]
  go_simp
theorem store_u {g k : Nat} {T : TypeId} {cs : List Value} {i : Int} (ho : op.op = .store 35 x y) (hx : a.eval x = .pointer (some ⟨g, k, none⟩)) (hy : a.eval y = .int .u32 i) (hr : Row w g T cs) (hk : k < cs.length) :
    (execOp a.eval op).run Try.prog w = .ok .skip (w.setCell ⟨g, k, none⟩ (.int .u32 i)) := by
  have hc := hr.cell k
  rw [List.getElem?_eq_getElem hk] at hc
  have hf := hr.free k
  unfold execOp
  simp only [ho, hx, hy]
  go_simp
theorem store_u64 {g k : Nat} {T : TypeId} {cs : List Value} {i : Int} (ho : op.op = .store 24 x y) (hx : a.eval x = .pointer (some ⟨g, k, none⟩)) (hy : a.eval y = .int .u64 i) (hr : Row w g T cs) (hk : k < cs.length) :
    (execOp a.eval op).run Try.prog w = .ok .skip (w.setCell ⟨g, k, none⟩ (.int .u64 i)) := by
  have hc := hr.cell k
  rw [List.getElem?_eq_getElem hk] at hc
  have hf := hr.free k
  unfold execOp
  simp only [ho, hx, hy]
  go_simp
end
/-- a row is stored, within a round -/
theorem wlIn_store_anyR {l n : Nat} {P : Program} {ops : Array Oper} {rest : List Oper} {o : Oper} {a : Act} {w : World} {Q : Exit → Act → World → Prop} (hgd : o.guard = none) (ty : TypeId) (x y : Operand) (ho : o.op = .store ty x y)
    (g : Nat) (hx : a.eval x = .pointer (some ⟨g, 0, none⟩)) (ds : List Value) (hy : a.eval y = .agg ds.toArray)
    (t : TypeId) (cs : List Value) (hr : Row w g t cs) (hi : (P.info? ty).map (·.size) = some ds.length)
    (hold : cs.length = ds.length) (h1 : ∀ u ∈ ds, u.oneCell' = true)
    (h : ∀ w2, Row w2 g t ds → But w.heap.size g w w2 → w2.heap.size = w.heap.size → wpListIn (Fence.wide.inRound l) n P ops Q rest (a.put o.dst undef) w2) : wpListIn (Fence.wide.inRound l) n P ops Q (o :: rest) a w :=
  wpListIn_plain hgd fun K hK => oper_inRound (by unfold plainOp; rw [ho]) (wp_store_row ty x y ho g ds.toArray hx hy t cs.toArray hr (by simpa using hi) (by simpa using hold) (all_oneCell_toArray h1)
    (hK _ _ (h _ (hr.setRow ds) ⟨rfl, rfl, rfl, Nat.le_of_eq (by simp), fun k _ hk => Go.setRow_other w g k _ hk⟩ (by simp))))
theorem row_put {W : World} {B D : Nat} {t : TypeId} {cs : List Value} (h : Row W B t cs) (hD : B ≠ D) (o : Obj) : Row (W.putObj D o) B t cs := by
  unfold Row at h ⊢
  rw [← h]
  simp [World.putObj, Ne.symm hD]
theorem Us.of_row {w : World} {g : Nat} {T : TypeId} {l : List Nat} (h : Row w g T (uC l)) (hl : l.length ≤ 8) : Us w w.heap.size (.slice (some ⟨g, 0, none⟩) l.length l.length) l :=
  ⟨some ⟨g, 0, none⟩, l.length, rfl, Nat.le_refl _, by unfold maxLen; omega, fun _ => ⟨g, 0, rfl, h.lt, fun k hk => by rw [Nat.zero_add, h.cell k, uC_get l k hk]⟩⟩
/-- all old blocks but the index and the leaves lie as they lay -/
def Old2 (w W X : World) : Prop := W.heap.size ≤ X.heap.size ∧ ∀ k, k < W.heap.size → k ≠ w.heap.size → k ≠ w.heap.size + 1 → X.heap[k]? = W.heap[k]?
theorem Old2.below {w W X Y : World} (h : Old2 w W X) (b : Below X.heap.size X Y) : Old2 w W Y := ⟨Nat.le_trans h.1 b.size, fun k hk h1 h2 => (b.block k (Nat.lt_of_lt_of_le hk h.1)).trans (h.2 k hk h1 h2)⟩
theorem Old2.set {w W X : World} (h : Old2 w W X) (b : Nat) (hb : b = w.heap.size ∨ b = w.heap.size + 1) (o : Nat) (v : Value) : Old2 w W (X.setCell ⟨b, o, none⟩ v) := by
  refine ⟨?_, fun k hk h1 h2 => (heap_setCell_other X ⟨b, o, none⟩ k v ?_).trans (h.2 k hk h1 h2)⟩
  · have := h.1
    simpa [World.setCell] using this
  · show k ≠ b
    rcases hb with rfl | rfl <;> assumption
/-- where split stands, behind the beginning of its loop -/
def SpJ (w : World) (B0 : Nat) (lv : List (Nat × Nat)) (idx : Nat) (pre : List (Fin lv.length)) (W : World) : Prop := SpI w lv idx pre W ∧ B0 ≤ W.heap.size
theorem SpJ.own (w : World) (B0 : Nat) (lv : List (Nat × Nat)) (idx B : Nat) (hB : w.heap.size ≤ B) : OwnFrom B (SpJ w B0 lv idx) := by
  intro pre A C row hs hg hr
  exact ⟨SpI.own w lv idx B hB pre A C row hs.1 hg hr, Nat.le_trans hs.2 hg.size⟩
theorem post6 {w W X : World} {lv : List (Nat × Nat)} {idx : Nat} {pre : List (Fin lv.length)} {x : Fin lv.length} {bS g B0 i : Nat} {l : List Nat} (hB0 : w.heap.size + 2 ≤ B0 ∧ B0 ≤ W.heap.size) (hbS : w.heap.size + 2 ≤ bS ∧ bS < W.heap.size) (hg : g < w.heap.size ∧ w.heap.size ≤ W.heap.size)
    (hx : rn lv idx (pre ++ [x]) = (i, l)) (hO : Old2 w W X) (h : Row X w.heap.size 24 [.int .u64 (i : Int)] ∧ Row X (w.heap.size + 1) 35 (uC l) ∧ Row X (w.heap.size + 2) 32 [.slice (some ⟨w.heap.size + 1, 0, none⟩) lv.length lv.length] ∧ Below w.heap.size w X) :
    KeepsFrom B0 W X ∧ Kp2 bS g W X ∧ SpJ w B0 lv idx (pre ++ [x]) X := by
  refine ⟨⟨hO.1, fun k o hk hko _ => (hO.2 k (Array.getElem?_eq_some_iff.1 hko).1 (by omega) (by omega)).trans hko⟩, ⟨hO.1, hO.2 bS hbS.2 (by omega) (by omega), hO.2 g (by omega) (by omega) (by omega)⟩, ?_, Nat.le_trans hB0.2 hO.1⟩
  unfold SpI
  rw [hx]
  exact h
set_option maxHeartbeats 8000000 in
theorem split_any (g : Nat) (lv : List (Nat × Nat)) (hlen : lv.length ≤ 8) (idx : Nat) (hidx : idx < 18446744073709551616) (w : World) (hs : StAt w g lv) :
    Calls Try.prog 22 #[.slice (some ⟨g, 0, none⟩) lv.length lv.length, .int .u64 (idx : Int)] w (SpIs lv idx w) := by
  unfold SpIs
  have hmk := make_u lv.length (by omega)
  have HS := Shh.mk hs
  have hg := hs.lt
  clear hs
  obtain ⟨SE, HSE⟩ : ∃ SE, Shh (SE = SpE lv idx) := ⟨_, ⟨rfl⟩⟩
  rw [← HSE.out]
  obtain ⟨U, hU⟩ : ∃ U, U = ((w.alloc (.cells #[.int .u64 (idx : Int)] 24)).alloc (.cells (uC (List.replicate lv.length 0)).toArray 35)).alloc (.cells #[.slice (some ⟨w.heap.size + 1, 0, none⟩) lv.length lv.length] 32) := ⟨_, rfl⟩
  have HU : Shh (SpI w lv idx [] U ∧ StAt U g lv ∧ U.heap.size = w.heap.size + 3) := by
    rw [hU]
    refine ⟨⟨((Row.new_ rfl rfl : Row _ w.heap.size 24 [.int .u64 (idx : Int)]).alloc _).alloc _, (Row.new_ (by rw [asz]) rfl).alloc _, Row.new_ (by rw [asz, asz]) rfl, ?_⟩, ((HS.out.alloc _).alloc _).alloc _, by rw [asz, asz, asz]⟩
    exact ((Below.alloc (Below.refl _ _) (by omega) _).alloc (by rw [asz]; omega) _).alloc (by rw [asz, asz]; omega) _
  refine (callsIn_wide (n := 4)).1 ?_
  refine callsIn_of_wp_marks Try.func22 rfl trivial ?_ rfl
  simp only [Try.ntmps22, List.size_toArray, List.length_cons, List.length_nil, Nat.reduceAdd, Nat.reduceSub, Array.replicate_succ, Array.replicate_zero, List.push_toArray, List.append_toArray, List.nil_append, List.cons_append]
  gi_wp2_with (refine ⟨trivial, ?_⟩; gi_at_call 35; refine (callsIn_wide.2 (backward_any g lv.length lv.length _)).mono ?_)
  unfold BackIs
  rw [← hU]
  rintro e w5 ⟨rfl, h5⟩
  obtain ⟨bS, hbS⟩ : ∃ bS, bS = U.heap.size := ⟨_, rfl⟩
  rw [← hbS]
  have H5 : Shh (SpI w lv idx [] w5 ∧ StAt w5 g lv ∧ Boxed w5 bS 46 (.slice (some ⟨g, 0, none⟩) lv.length lv.length) ∧ w5.heap.size = w.heap.size + 4 ∧ bS = w.heap.size + 3) := by
    rw [← h5, hbS]
    exact ⟨HU.out.1.go (Below.alloc (Below.refl _ _) (Nat.le_refl _) _), HU.out.2.1.alloc _, Boxed.new U _ _, by rw [asz, HU.out.2.2], HU.out.2.2⟩
  clear h5 hU HU hbS HS hmk
  have HW5 : Shh (w.heap.size + 2 ≤ w5.heap.size) := ⟨by rw [H5.out.2.2.2.1]; omega⟩
  gi_wp2
  refine wpIn_rangeFunc_ownH (F := Fence.wide) rfl (by omega) (gf := 46) (lb := #[.pointer (some ⟨bS, 0, none⟩)]) rfl trivial (fun _ _ => rfl)
    (encs := bkE lv) (Kp := Kp2 bS g) (S := fun ys => ys = dnL lv.length lv.length) (Sp := fun _ => True) (N := 100) (w0 := w5)
    (fun l J Jx W hW _ _ hY h0 => back_in l bS g lv hlen J Jx W hY ((hW.block bS H5.out.2.2.1.lt).trans H5.out.2.2.1) ((hW.block g H5.out.2.1.lt).trans H5.out.2.1) h0)
    (fun h k => Kp2.trans h k) ?hKb (Below.refl _ _) (fun _ => rfl)
    (SpJ w w5.heap.size lv idx) (fun _ _ _ => False) (SpJ.own w _ lv idx _ (by have := HW5.out; omega)) (fun _ _ _ _ _ h _ _ => h) ⟨H5.out.1, Nat.le_refl _⟩
    (fun x a' W => ∃ M, w5.heap.size ≤ M ∧ Row W M 52 (stC lv[x].1 lv[x].2) ∧ a' = { tmps := #[.slice (some ⟨g, 0, none⟩) lv.length lv.length, .int .u64 (idx : Int), undef, .pointer (some ⟨w.heap.size, 0, none⟩), .slice none 0 0, .int .i64 0, .pointer (some ⟨w.heap.size + 2, 0, none⟩), .int .i64 (x.val : Int), .pointer (some ⟨M, 0, none⟩), .slice (some ⟨g, 0, none⟩) lv.length lv.length, .int .i64 (lv.length : Int), .slice (some ⟨w.heap.size + 1, 0, none⟩) lv.length lv.length, .slice (some ⟨g, 0, none⟩) lv.length lv.length, .func (.func 46) #[] #[.pointer (some ⟨bS, 0, none⟩)], .int .i64 (x.val : Int), .agg (stC lv[x].1 lv[x].2).toArray, undef, undef, undef, undef, undef, undef, undef, undef, undef, undef, undef, undef, undef, undef, undef], defers := [] })
    ?hAx ?assign ?body ?done (fun _ _ _ _ _ _ h => h.elim)
  case hKb =>
    intro W l o o' hl ho hc hw
    have hbs := H5.out.2.2.2.2
    have hz := H5.out.2.2.2.1
    exact ⟨by simp, World.putObj_heap_other (by omega), World.putObj_heap_other (by omega)⟩
  case hAx =>
    rintro x a' _ A C row ⟨M, hM, hr, ha⟩ hgr hrow
    exact ⟨M, hM, (hgr.block _ hr.lt (notcells_ne hr hrow)).trans hr, ha⟩
  case assign =>
    rintro l pre x W K hI hK
    unfold bkE
    have hRZ : Row (w := W.alloc (.cells #[.int .u32 0, .bool false, .int .i64 0, .int .i64 0, .int .u32 0, .bool false, .int .i64 0, .int .i64 0, .int .i64 0, .int .i64 0] 52)) (g := W.heap.size) (T := 52) (cs := stZ) := Row.new_ rfl rfl
    have hsz := hI.1.2.2.1.lt
    have hW5W := hI.2
    have hbS5 := H5.out.2.2.2
    have hgW : g < W.heap.size := by omega
    have hbW : bS < W.heap.size := by omega
    clear hbS5
    clear H5 HSE
    gi_wp2_with (refine wlIn_store_anyR rfl 52 (.tmp 8) (.tmp 15) rfl W.heap.size rfl (stC lv[x].1 lv[x].2) rfl 52 stZ hRZ info_st rfl oneCell10 ?_)
    intro Z hr bt hz
    have bZ : Below W.heap.size W Z := (Below.alloc (Below.refl _ _) (Nat.le_refl _) _).trans (bt.under (by omega) (Nat.le_refl _))
    have HQ : Shh (KeepsFrom w5.heap.size W Z ∧ Kp2 bS g W Z ∧ SpJ w w5.heap.size lv idx pre Z ∧ Row Z W.heap.size 52 (stC lv[x].1 lv[x].2)) :=
      ⟨⟨bZ.size, fun k o _ hk _ => (bZ.block k (Array.getElem?_eq_some_iff.1 hk).1).trans hk⟩, ⟨bZ.size, bZ.block bS hbW, bZ.block g hgW⟩, ⟨hI.1.go bZ, Nat.le_trans hW5W bZ.size⟩, hr⟩
    gi_wp2
    exact hK _ _ HQ.out.1 HQ.out.2.1 HQ.out.2.2.1 ⟨W.heap.size, hW5W, HQ.out.2.2.2, rfl⟩
  case body =>
    rintro l pre x a' W hl hrec hI ⟨M, hM, hrow, rfl⟩ hlt
    obtain ⟨k, hkl⟩ := x
    have hWM := hrow.lt
    have hz5 := H5.out.2.2.2.1
    have hb5 := H5.out.2.2.2.2
    have HW5 : Shh (w.heap.size + 2 ≤ w5.heap.size ∧ w5.heap.size ≤ W.heap.size) := ⟨HW5.out, hI.2⟩
    have hI := hI.1
    have HBS : Shh (w.heap.size + 2 ≤ bS ∧ bS < W.heap.size) := ⟨by omega, by omega⟩
    have HG : Shh (g < w.heap.size ∧ w.heap.size ≤ W.heap.size) := ⟨hg, by omega⟩
    have hMM : w.heap.size + 4 ≤ M := by omega
    clear hWM hz5 hb5 hM hl hrec hlt H5 HSE hg
    unfold SpI at hI
    obtain ⟨s1, hs1⟩ : ∃ s1, s1 = (rn lv idx pre).1 := ⟨_, rfl⟩
    obtain ⟨s2, hs2⟩ : ∃ s2, s2 = (rn lv idx pre).2 := ⟨_, rfl⟩
    have hrl := rn_all lv idx pre
    rw [← hs1, ← hs2] at hI hrl
    obtain ⟨a, ha⟩ : ∃ a, a = lv[k].1 := ⟨_, rfl⟩
    obtain ⟨b, hb⟩ : ∃ b, b = lv[k].2 := ⟨_, rfl⟩
    have hrow2 : Row W M 52 (stC a b) := by rw [ha, hb]; exact hrow
    obtain ⟨pw, hpw⟩ : ∃ pw, pw = 2 ^ lH a := ⟨_, rfl⟩
    have HX : Shh (rn lv idx (pre ++ [⟨k, hkl⟩]) = (s1 / pw, s2.set k (s1 % pw))) := ⟨by rw [rn_snoc, hpw, ha, hs1, hs2]; rfl⟩
    have HP : Shh (0 < pw ∧ s1 % pw < 4294967296 ∧ s1 < 18446744073709551616) := by
      have h1 : 0 < pw := by rw [hpw]; exact Nat.two_pow_pos _
      have h2 := Nat.mod_lt s1 h1
      have h3 := pow2_le (lH a) 25 (lH_le a)
      have h4 : 2 ^ 25 = 33554432 := by decide
      exact ⟨h1, by omega, by omega⟩
    have HV : Shh (∀ W, Calls Try.prog 36 #[.agg (stC a b).toArray] W (OldIs (.int .u64 (pw : Int)) W)) := ⟨fun W => by rw [hpw]; exact leaves_any a b W⟩
    have hS2 : s2.length = lv.length := hrl.2
    clear ha hb hpw hs1 hs2 hrl hrow
    obtain ⟨i3, iL, i6, iB⟩ := hI
    gi_wp2
    refine region_inRound (S := fun w' => w'.cell? ⟨w.heap.size + 2, 0, none⟩ = some (.slice (some ⟨w.heap.size + 1, 0, none⟩) lv.length lv.length) ∧ w'.cell? ⟨w.heap.size, 0, none⟩ = some (.int .u64 (s1 : Int)) ∧ w'.rangeAt M 0 (stC a b)) (by kernel_rfl) (by rfl) (by rintro ⟨a, w, h⟩; exact h) ⟨i6.cell, i3.cell, hrow2.drew.range⟩ (fun hS => ?_)
    clear hS
    obtain ⟨V, hV⟩ : ∃ V, V = World.drew W := ⟨_, rfl⟩
    rw [← hV]
    have r6 : Row V (w.heap.size + 2) 32 [.slice (some ⟨w.heap.size + 1, 0, none⟩) lv.length lv.length] := by rw [hV]; exact i6
    have r3 : Row V w.heap.size 24 [.int .u64 (s1 : Int)] := by rw [hV]; exact i3
    have rL : Row V (w.heap.size + 1) 35 (uC s2) := by rw [hV]; exact iL
    have rM : Row V M 52 (stC a b) := by rw [hV]; exact hrow2
    have HB : Shh (Below w.heap.size w V ∧ Old2 w W V) := ⟨by rw [hV]; exact iB.drew, by rw [hV]; exact ⟨Nat.le_refl _, fun _ _ _ _ => rfl⟩⟩
    clear hV i3 iL i6 iB hrow2
    refine held_value 0 _ _ (some 16) (.slice (some ⟨w.heap.size + 1, 0, none⟩) lv.length lv.length) (by kernel_rfl) (by rfl) (by kernel_rfl) (fun w hS => load_us rfl hS.1 (by kernel_rfl)) (fun _ _ _ _ h => h) (⟨(r6).cell 0, (r3).cell 0, (rM).range⟩) ?_
    simp only [Act.put, List.setIfInBounds_toArray, List.set_cons_zero, List.set_cons_succ]
    refine held_value 1 _ _ (some 17) (.int .i64 (k : Int)) (by kernel_rfl) (by rfl) (by kernel_rfl) (fun w hS => by first | kernel_rfl | go_simp) (fun _ _ _ _ h => h) (⟨(r6).cell 0, (r3).cell 0, (rM).range⟩) ?_
    simp only [Act.put, List.setIfInBounds_toArray, List.set_cons_zero, List.set_cons_succ]
    refine held_value 2 _ _ (some 18) (.int .u64 (s1 : Int)) (by kernel_rfl) (by rfl) (by kernel_rfl) (fun w hS => load_u64c rfl hS.2.1 (by kernel_rfl)) (fun _ _ _ _ h => h) (⟨(r6).cell 0, (r3).cell 0, (rM).range⟩) ?_
    simp only [Act.put, List.setIfInBounds_toArray, List.set_cons_zero, List.set_cons_succ]
    refine held_load 3 52 (.tmp 8) (some 19) (by kernel_rfl) (by rfl) (by kernel_rfl) M 0 (by kernel_rfl) (stC a b) _ (fun w h => h.2.2) Try.underlying52 rfl (info_st) (fun _ _ _ _ h => h) (⟨(r6).cell 0, (r3).cell 0, (rM).range⟩) ?_
    simp only [Act.put, List.setIfInBounds_toArray, List.set_cons_zero, List.set_cons_succ]
    refine held_one 4 (by kernel_rfl) ?_
    refine step_call 4 _ _ (some 20) 36 #[.agg (stC a b).toArray] (by rfl) (by kernel_rfl) (by first | kernel_rfl | go_simp) ?_
    refine (HV.out V).mono ?_
    unfold OldIs
    rintro e Y1 ⟨rfl, b4⟩
    have bx : Below V.heap.size V Y1 := b4
    clear b4
    have b_V := bx
    have m_Y1 : V.heap.size ≤ Y1.heap.size := bx.size
    clear bx
    refine ⟨_, rfl, ⟨((r6.go b_V)).cell 0, ((r3.go b_V)).cell 0, ((rM.go b_V)).range⟩, ?_⟩
    simp only [Act.put, List.setIfInBounds_toArray, List.set_cons_zero, List.set_cons_succ]
    refine held_value 5 _ _ (some 21) (.int .u64 ((s1 % pw : Nat) : Int)) (by kernel_rfl) (by rfl) (by kernel_rfl) (fun w hS => rem_u64 HP.out.1 rfl (by kernel_rfl) (by kernel_rfl)) (fun _ _ _ _ h => h) (⟨((r6.go b_V)).cell 0, ((r3.go b_V)).cell 0, ((rM.go b_V)).range⟩) ?_
    simp only [Act.put, List.setIfInBounds_toArray, List.set_cons_zero, List.set_cons_succ]
    refine held_value 6 _ _ (some 22) (.int .u32 ((s1 % pw : Nat) : Int)) (by kernel_rfl) (by rfl) (by kernel_rfl) (fun w hS => conv_u64 HP.out.2.1 rfl (by kernel_rfl)) (fun _ _ _ _ h => h) (⟨((r6.go b_V)).cell 0, ((r3.go b_V)).cell 0, ((rM.go b_V)).range⟩) ?_
    simp only [Act.put, List.setIfInBounds_toArray, List.set_cons_zero, List.set_cons_succ]
    refine held_value 7 _ _ (some 23) (.pointer (some ⟨w.heap.size + 1, k, none⟩)) (by kernel_rfl) (by rfl) (by kernel_rfl) (fun w hS => index_u _ k lv.length lv.length hkl rfl (by kernel_rfl) (by kernel_rfl) _) (fun _ _ _ _ h => h) (⟨((r6.go b_V)).cell 0, ((r3.go b_V)).cell 0, ((rM.go b_V)).range⟩) ?_
    simp only [Act.put, List.setIfInBounds_toArray, List.set_cons_zero, List.set_cons_succ]
    refine held_one 8 (by kernel_rfl) ?_
    have n6 : Row (Y1.setCell ⟨w.heap.size + 1, k, none⟩ (.int .u32 ((s1 % pw : Nat) : Int))) (w.heap.size + 2) 32 [.slice (some ⟨w.heap.size + 1, 0, none⟩) lv.length lv.length] := ((r6.go b_V)).other _ _ (by show w.heap.size + 2 ≠ w.heap.size + 1; omega)
    have n3 : Row (Y1.setCell ⟨w.heap.size + 1, k, none⟩ (.int .u32 ((s1 % pw : Nat) : Int))) w.heap.size 24 [.int .u64 (s1 : Int)] := ((r3.go b_V)).other _ _ (by show w.heap.size ≠ w.heap.size + 1; omega)
    have nM : Row (Y1.setCell ⟨w.heap.size + 1, k, none⟩ (.int .u32 ((s1 % pw : Nat) : Int))) M 52 (stC a b) := ((rM.go b_V)).other _ _ (by show M ≠ w.heap.size + 1; omega)
    have nL : Row (Y1.setCell ⟨w.heap.size + 1, k, none⟩ (.int .u32 ((s1 % pw : Nat) : Int))) (w.heap.size + 1) 35 (uC (s2.set k (s1 % pw))) := by rw [← uC_set]; exact Row.set_ ((rL.go b_V)) k _
    have nB : Below w.heap.size w (Y1.setCell ⟨w.heap.size + 1, k, none⟩ (.int .u32 ((s1 % pw : Nat) : Int))) := (Below.chain HB.out.1 b_V).setCell (by show w.heap.size ≤ w.heap.size + 1; omega) _
    have nO : Old2 w W (Y1.setCell ⟨w.heap.size + 1, k, none⟩ (.int .u32 ((s1 % pw : Nat) : Int))) := (HB.out.2.below b_V).set (w.heap.size + 1) (Or.inr rfl) _ _
    refine step_store1 8 _ (by rfl) (by kernel_rfl) (Y1.setCell ⟨w.heap.size + 1, k, none⟩ (.int .u32 ((s1 % pw : Nat) : Int))) (store_u rfl (by kernel_rfl) (by kernel_rfl) ((rL.go b_V)) (by rw [uC_length]; omega)) ?_
    generalize (Y1.setCell ⟨w.heap.size + 1, k, none⟩ (.int .u32 ((s1 % pw : Nat) : Int))) = Y2 at n6 n3 nM nL nB nO ⊢
    refine ⟨⟨n6.cell 0, n3.cell 0, nM.range⟩, ?_⟩
    refine wpAnyH_done (by kernel_rfl) ?_ _
    have H6 : Shh (Row Y2 w.heap.size 24 [.int .u64 (s1 : Int)] ∧ Row Y2 (w.heap.size + 1) 35 (uC (s2.set k (s1 % pw))) ∧ Row Y2 (w.heap.size + 2) 32 [.slice (some ⟨w.heap.size + 1, 0, none⟩) lv.length lv.length] ∧ Row Y2 M 52 (stC a b) ∧ Below w.heap.size w Y2 ∧ Old2 w W Y2) := ⟨n3, nL, n6, nM, nB, nO⟩
    clear n6 n3 nM nL nB nO b_V m_Y1 r6 r3 rM rL HB
    revert H6
    generalize Y2 = Z6
    intro H6
    gi_wp2_with fail
    refine region_inRound (S := fun w' => w'.rangeAt M 0 (stC a b)) (by kernel_rfl) (by rfl) (by rintro ⟨a, w, h⟩; exact h) H6.out.2.2.2.1.drew.range (fun hS => ?_)
    clear hS
    obtain ⟨V, hV⟩ : ∃ V, V = World.drew Z6 := ⟨_, rfl⟩
    rw [← hV]
    have r6 : Row V (w.heap.size + 2) 32 [.slice (some ⟨w.heap.size + 1, 0, none⟩) lv.length lv.length] := by rw [hV]; exact H6.out.2.2.1
    have r3 : Row V w.heap.size 24 [.int .u64 (s1 : Int)] := by rw [hV]; exact H6.out.1
    have rL : Row V (w.heap.size + 1) 35 (uC (s2.set k (s1 % pw))) := by rw [hV]; exact H6.out.2.1
    have rM : Row V M 52 (stC a b) := by rw [hV]; exact H6.out.2.2.2.1
    have HB : Shh (Below w.heap.size w V ∧ Old2 w W V) := ⟨by rw [hV]; exact H6.out.2.2.2.2.1.drew, by rw [hV]; exact H6.out.2.2.2.2.2⟩
    clear hV H6
    refine held_load 1 52 (.tmp 8) (some 25) (by kernel_rfl) (by rfl) (by kernel_rfl) M 0 (by kernel_rfl) (stC a b) _ (fun w h => h) Try.underlying52 rfl (info_st) (fun _ _ _ _ h => h) ((rM).range) ?_
    simp only [Act.put, List.setIfInBounds_toArray, List.set_cons_zero, List.set_cons_succ]
    refine held_two 0 2 (by kernel_rfl) ?_ ?_
    · refine step_value 0 _ _ (some 24) (.int .u64 (s1 : Int)) V (by rfl) (by kernel_rfl) (load_u64c rfl ((r3).cell 0) (by kernel_rfl)) ((rM).range) ?_
      simp only [Act.put, List.setIfInBounds_toArray, List.set_cons_zero, List.set_cons_succ]
      refine held_one 2 (by kernel_rfl) ?_
      refine step_call 2 _ _ (some 26) 36 #[.agg (stC a b).toArray] (by rfl) (by kernel_rfl) (by first | kernel_rfl | go_simp) ?_
      refine (HV.out V).mono ?_
      unfold OldIs
      rintro e Y2 ⟨rfl, b4⟩
      have bx : Below V.heap.size V Y2 := b4
      clear b4
      have b_V := bx
      have m_Y2 : V.heap.size ≤ Y2.heap.size := bx.size
      clear bx
      refine ⟨_, rfl, ((rM.go b_V)).range, ?_⟩
      simp only [Act.put, List.setIfInBounds_toArray, List.set_cons_zero, List.set_cons_succ]
      refine held_value 3 _ _ (some 27) (.int .u64 ((s1 / pw : Nat) : Int)) (by kernel_rfl) (by rfl) (by kernel_rfl) (fun w hS => quo_u64 HP.out.2.2 HP.out.1 rfl (by kernel_rfl) (by kernel_rfl)) (fun _ _ _ _ h => h) (((rM.go b_V)).range) ?_
      simp only [Act.put, List.setIfInBounds_toArray, List.set_cons_zero, List.set_cons_succ]
      refine held_one 4 (by kernel_rfl) ?_
      have n6 : Row (Y2.setCell ⟨w.heap.size, 0, none⟩ (.int .u64 ((s1 / pw : Nat) : Int))) (w.heap.size + 2) 32 [.slice (some ⟨w.heap.size + 1, 0, none⟩) lv.length lv.length] := ((r6.go b_V)).other _ _ (by show w.heap.size + 2 ≠ w.heap.size; omega)
      have nL : Row (Y2.setCell ⟨w.heap.size, 0, none⟩ (.int .u64 ((s1 / pw : Nat) : Int))) (w.heap.size + 1) 35 (uC (s2.set k (s1 % pw))) := ((rL.go b_V)).other _ _ (by show w.heap.size + 1 ≠ w.heap.size; omega)
      have nM : Row (Y2.setCell ⟨w.heap.size, 0, none⟩ (.int .u64 ((s1 / pw : Nat) : Int))) M 52 (stC a b) := ((rM.go b_V)).other _ _ (by show M ≠ w.heap.size; omega)
      have n3 : Row (Y2.setCell ⟨w.heap.size, 0, none⟩ (.int .u64 ((s1 / pw : Nat) : Int))) w.heap.size 24 [.int .u64 ((s1 / pw : Nat) : Int)] := Row.set_ ((r3.go b_V)) 0 _
      have nB : Below w.heap.size w (Y2.setCell ⟨w.heap.size, 0, none⟩ (.int .u64 ((s1 / pw : Nat) : Int))) := (Below.chain HB.out.1 b_V).setCell (Nat.le_refl _) _
      have nO : Old2 w W (Y2.setCell ⟨w.heap.size, 0, none⟩ (.int .u64 ((s1 / pw : Nat) : Int))) := (HB.out.2.below b_V).set w.heap.size (Or.inl rfl) _ _
      refine step_store1 4 _ (by rfl) (by kernel_rfl) (Y2.setCell ⟨w.heap.size, 0, none⟩ (.int .u64 ((s1 / pw : Nat) : Int))) (store_u64 rfl (by kernel_rfl) (by kernel_rfl) ((r3.go b_V)) (Nat.lt_succ_self 0)) ?_
      generalize (Y2.setCell ⟨w.heap.size, 0, none⟩ (.int .u64 ((s1 / pw : Nat) : Int))) = Y3 at n6 n3 nM nL nB nO ⊢
      refine ⟨nM.range, ?_⟩
      refine wpAnyH_done (by kernel_rfl) ?_ _
      exact post6 HW5.out HBS.out HG.out HX.out nO ⟨n3, nL, n6, nB⟩
    · refine step_call 2 _ _ (some 26) 36 #[.agg (stC a b).toArray] (by rfl) (by kernel_rfl) (by first | kernel_rfl | go_simp) ?_
      refine (HV.out V).mono ?_
      unfold OldIs
      rintro e Y1 ⟨rfl, b4⟩
      have bx : Below V.heap.size V Y1 := b4
      clear b4
      have b_V := bx
      have m_Y1 : V.heap.size ≤ Y1.heap.size := bx.size
      clear bx
      refine ⟨_, rfl, ((rM.go b_V)).range, ?_⟩
      simp only [Act.put, List.setIfInBounds_toArray, List.set_cons_zero, List.set_cons_succ]
      refine held_one 0 (by kernel_rfl) ?_
      refine step_value 0 _ _ (some 24) (.int .u64 (s1 : Int)) Y1 (by rfl) (by kernel_rfl) (load_u64c rfl (((r3.go b_V)).cell 0) (by kernel_rfl)) (((rM.go b_V)).range) ?_
      simp only [Act.put, List.setIfInBounds_toArray, List.set_cons_zero, List.set_cons_succ]
      refine held_value 3 _ _ (some 27) (.int .u64 ((s1 / pw : Nat) : Int)) (by kernel_rfl) (by rfl) (by kernel_rfl) (fun w hS => quo_u64 HP.out.2.2 HP.out.1 rfl (by kernel_rfl) (by kernel_rfl)) (fun _ _ _ _ h => h) (((rM.go b_V)).range) ?_
      simp only [Act.put, List.setIfInBounds_toArray, List.set_cons_zero, List.set_cons_succ]
      refine held_one 4 (by kernel_rfl) ?_
      have n6 : Row (Y1.setCell ⟨w.heap.size, 0, none⟩ (.int .u64 ((s1 / pw : Nat) : Int))) (w.heap.size + 2) 32 [.slice (some ⟨w.heap.size + 1, 0, none⟩) lv.length lv.length] := ((r6.go b_V)).other _ _ (by show w.heap.size + 2 ≠ w.heap.size; omega)
      have nL : Row (Y1.setCell ⟨w.heap.size, 0, none⟩ (.int .u64 ((s1 / pw : Nat) : Int))) (w.heap.size + 1) 35 (uC (s2.set k (s1 % pw))) := ((rL.go b_V)).other _ _ (by show w.heap.size + 1 ≠ w.heap.size; omega)
      have nM : Row (Y1.setCell ⟨w.heap.size, 0, none⟩ (.int .u64 ((s1 / pw : Nat) : Int))) M 52 (stC a b) := ((rM.go b_V)).other _ _ (by show M ≠ w.heap.size; omega)
      have n3 : Row (Y1.setCell ⟨w.heap.size, 0, none⟩ (.int .u64 ((s1 / pw : Nat) : Int))) w.heap.size 24 [.int .u64 ((s1 / pw : Nat) : Int)] := Row.set_ ((r3.go b_V)) 0 _
      have nB : Below w.heap.size w (Y1.setCell ⟨w.heap.size, 0, none⟩ (.int .u64 ((s1 / pw : Nat) : Int))) := (Below.chain HB.out.1 b_V).setCell (Nat.le_refl _) _
      have nO : Old2 w W (Y1.setCell ⟨w.heap.size, 0, none⟩ (.int .u64 ((s1 / pw : Nat) : Int))) := (HB.out.2.below b_V).set w.heap.size (Or.inl rfl) _ _
      refine step_store1 4 _ (by rfl) (by kernel_rfl) (Y1.setCell ⟨w.heap.size, 0, none⟩ (.int .u64 ((s1 / pw : Nat) : Int))) (store_u64 rfl (by kernel_rfl) (by kernel_rfl) ((r3.go b_V)) (Nat.lt_succ_self 0)) ?_
      generalize (Y1.setCell ⟨w.heap.size, 0, none⟩ (.int .u64 ((s1 / pw : Nat) : Int))) = Y3 at n6 n3 nM nL nB nO ⊢
      refine ⟨nM.range, ?_⟩
      refine wpAnyH_done (by kernel_rfl) ?_ _
      exact post6 HW5.out HBS.out HG.out HX.out nO ⟨n3, nL, n6, nB⟩
  case done =>
    rintro D xs W hD rfl hI hK
    have hz5 := H5.out.2.2.2.1
    have hI := hI.1
    obtain ⟨e1, e2⟩ := rn_end lv idx
    unfold SpI at hI
    rw [e1, e2] at hI
    obtain ⟨h3, hL, h6, hB⟩ := hI
    have c3 := h3.cell
    have c6 := h6.cell
    have HP0 := Shh.mk (pre_pos lv idx)
    have hpl := pre_le lv idx 0
    clear e1 e2 H5 hg
    generalize preL lv idx 0 = p0 at *
    by_cases hp : p0 = 0
    · subst hp
      have hse : SE = 0 := by rw [HSE.out]; unfold SpE; rw [if_pos (HP0.out.1 rfl)]
      have HLL : Shh ((splitL lv idx).length = lv.length) := ⟨splitL_length lv idx⟩
      subst hse
      have HR : Shh (Row W (w.heap.size + 1) 35 (uC (splitL lv idx)) ∧ Below w.heap.size w W) := ⟨hL, hB⟩
      have hD1 : w.heap.size + 4 ≤ D := by omega
      clear hL hB h3 h6 HSE HP0
      gi_wp2
      refine ⟨by simp, .inl ⟨_, _, rfl, run_takeDeferred hK, ?_⟩⟩
      refine ⟨_, results_tmp2 rfl _ _ _, _, rfl, HR.out.2.trans (belowK_b (w := w) (Nat.le_refl _) W D _ _ (by omega) hK rfl rfl), ?_⟩
      have := Us.of_row (row_put HR.out.1 (D := D) (by omega) (.deferred none)) (by rw [HLL.out]; exact hlen)
      rw [HLL.out] at this
      exact this
    · have hse : SE = 80 := by rw [HSE.out]; unfold SpE; rw [if_neg (fun h => hp (HP0.out.2 h))]
      subst hse
      have HR : Shh (Below w.heap.size w W) := ⟨hB⟩
      have hp1 : (0 : Int) < (p0 : Int) := by omega
      have hD1 : w.heap.size + 4 ≤ D := by omega
      clear hL hB h3 h6 HSE HP0 hp
      gi_wp2
      refine ⟨by simp, .inl ⟨_, _, rfl, run_takeDeferred hK, ?_⟩⟩
      exact ⟨_, results_tmp2 rfl _ _ _, _, rfl, HR.out.trans (belowK_b (w := w) (Nat.le_refl _) W D _ _ (by omega) hK rfl rfl), fun h => (by cases h), fun _ => rfl⟩
end Go.Proofs.Ythahnckjmlcehaa
