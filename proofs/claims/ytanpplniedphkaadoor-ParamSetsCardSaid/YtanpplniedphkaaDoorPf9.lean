/-
  WALK: named: which of the codes has the name.
-/
import Derived.Test.YtanpplniedphkaaDoorPf4
import Derived.Test.YtanpplniedphkaaDoorPf8
import Derived.RangeFuncRecord
namespace Go.Proofs.YtanpplniedphkaaDoor
open Go.RowKit Go.Shelf
set_option maxRecDepth 100000
attribute [local go_sem] Oper.semAt_some
def cdV (kind : Int) (l : List Nat) (name : ByteArray) : Value :=
  match l.find? (fun c => decide (nmOf kind c = name)) with
  | some c => .tuple #[.int .i64 kind, .int .u32 (c : Int), .int .i64 0]
  | none => .tuple #[.int .i64 0, .int .u32 0, .int .i64 60]
theorem cdV_some {kind : Int} {pre l : List C32} {x : C32} {name : ByteArray} (hp : pre ++ [x] <+: l) (hn : ∀ y ∈ pre, nmOf kind y.1 ≠ name) (hx : nmOf kind x.1 = name) :
    cdV kind (l.map (·.1)) name = .tuple #[.int .i64 kind, .int .u32 (x.1 : Int), .int .i64 0] := by
  obtain ⟨t, rfl⟩ := hp
  have h : ((pre ++ [x] ++ t).map (·.1)).find? (fun c => decide (nmOf kind c = name)) = some x.1 := by
    rw [List.map_append, List.map_append, List.append_assoc, List.find?_append]
    have h1 : (pre.map (·.1)).find? (fun c => decide (nmOf kind c = name)) = none := by
      rw [List.find?_eq_none]
      intro c hc
      obtain ⟨y, hy, rfl⟩ := List.mem_map.1 hc
      simpa using hn y hy
    rw [h1]
    simp [hx]
  unfold cdV
  rw [h]
theorem cdV_none {kind : Int} {l : List C32} {name : ByteArray} (hn : ∀ y ∈ l, nmOf kind y.1 ≠ name) :
    cdV kind (l.map (·.1)) name = .tuple #[.int .i64 0, .int .u32 0, .int .i64 60] := by
  have h1 : (l.map (·.1)).find? (fun c => decide (nmOf kind c = name)) = none := by
    rw [List.find?_eq_none]
    intro c hc
    obtain ⟨y, hy, rfl⟩ := List.mem_map.1 hc
    simpa using hn y hy
  unfold cdV
  rw [h1]
theorem keeps_below {B : Nat} {W W' : World} (h : Below W.heap.size W W') : KeepsFrom B W W' :=
  ⟨h.size, fun k _ _ hk _ => (h.block k (Array.getElem?_eq_some_iff.1 hk).1).trans hk⟩
theorem results_cells3 {P : Program} {fn : Func} {p q r : Tmp} {tp tq tr : TypeId} (h : fn.results = #[.cell p tp, .cell q tq, .cell r tr]) (tmps : Array Value) (w : World) (a b c : Addr) (va vb vc : Value)
    (hp : tmps.getD p undef = .pointer (some a)) (hq : tmps.getD q undef = .pointer (some b)) (hr : tmps.getD r undef = .pointer (some c))
    (ha : (loadVar tp a).run P w = .ok va w) (hb : (loadVar tq b).run P w = .ok vb w) (hc : (loadVar tr c).run P w = .ok vc w) : (results fn tmps).run P w = .ok (.tuple #[va, vb, vc]) w := by
  simp only [results, h]
  simp only [Array.getD_eq_getD_getElem?] at hp hq hr
  simp [Sem.run_bind, Result.andThen, hp, hq, hr, ha, hb, hc, asAddr]
theorem load3 {w : World} {a b c : Nat} {va vc : Int} {vb : Int} (ha : Boxed w a 3 (.int .i64 va)) (hb : Boxed w b 44 (.int .u32 vb)) (hc : Boxed w c 29 (.int .i64 vc)) :
    (loadVar 3 ⟨a, 0, none⟩).run Tryd.prog w = .ok (.int .i64 va) w ∧ (loadVar 44 ⟨b, 0, none⟩).run Tryd.prog w = .ok (.int .u32 vb) w ∧ (loadVar 29 ⟨c, 0, none⟩).run Tryd.prog w = .ok (.int .i64 vc) w := by
  have h1 := ha.cell
  have h2 := hb.cell
  have h3 := hc.cell
  refine ⟨?_, ?_, ?_⟩
  all_goals go_simp
theorem set3 {w W : World} {va vb vc : Value} (h2 : Boxed W (w.heap.size + 1 + 1) 3 va) (h3 : Boxed W (w.heap.size + 1 + 1 + 1) 44 vb) (h4 : Boxed W (w.heap.size + 1 + 1 + 1 + 1) 29 vc) (a b c : Int) (hB : Below w.heap.size w W) :
    (Boxed (((W.setCell ⟨w.heap.size + 1 + 1, 0, none⟩ (.int .i64 a)).setCell ⟨w.heap.size + 1 + 1 + 1, 0, none⟩ (.int .u32 b)).setCell ⟨w.heap.size + 1 + 1 + 1 + 1, 0, none⟩ (.int .i64 c)) (w.heap.size + 1 + 1) 3 (.int .i64 a) ∧
      Boxed (((W.setCell ⟨w.heap.size + 1 + 1, 0, none⟩ (.int .i64 a)).setCell ⟨w.heap.size + 1 + 1 + 1, 0, none⟩ (.int .u32 b)).setCell ⟨w.heap.size + 1 + 1 + 1 + 1, 0, none⟩ (.int .i64 c)) (w.heap.size + 1 + 1 + 1) 44 (.int .u32 b) ∧
      Boxed (((W.setCell ⟨w.heap.size + 1 + 1, 0, none⟩ (.int .i64 a)).setCell ⟨w.heap.size + 1 + 1 + 1, 0, none⟩ (.int .u32 b)).setCell ⟨w.heap.size + 1 + 1 + 1 + 1, 0, none⟩ (.int .i64 c)) (w.heap.size + 1 + 1 + 1 + 1) 29 (.int .i64 c)) ∧
    Below w.heap.size w (((W.setCell ⟨w.heap.size + 1 + 1, 0, none⟩ (.int .i64 a)).setCell ⟨w.heap.size + 1 + 1 + 1, 0, none⟩ (.int .u32 b)).setCell ⟨w.heap.size + 1 + 1 + 1 + 1, 0, none⟩ (.int .i64 c)) ∧
    W.heap.size ≤ (((W.setCell ⟨w.heap.size + 1 + 1, 0, none⟩ (.int .i64 a)).setCell ⟨w.heap.size + 1 + 1 + 1, 0, none⟩ (.int .u32 b)).setCell ⟨w.heap.size + 1 + 1 + 1 + 1, 0, none⟩ (.int .i64 c)).heap.size ∧ ∀ (D : Nat) (o : Obj), W.heap[D]? = some o → w.heap.size + 5 ≤ D → (((W.setCell ⟨w.heap.size + 1 + 1, 0, none⟩ (.int .i64 a)).setCell ⟨w.heap.size + 1 + 1 + 1, 0, none⟩ (.int .u32 b)).setCell ⟨w.heap.size + 1 + 1 + 1 + 1, 0, none⟩ (.int .i64 c)).heap[D]? = some o := by
  have g2 := grownBy_setCell' W (w.heap.size + 1 + 1) (.int .i64 a)
  have k2 := h2.set (.int .i64 a)
  have k3 := h3.kept g2 (fun e => by injection e; omega)
  have k4 := h4.kept g2 (fun e => by injection e; omega)
  have d2 := fun (D : Nat) (o : Obj) (hK : W.heap[D]? = some o) (hD : w.heap.size + 5 ≤ D) => (g2.block D (Array.getElem?_eq_some_iff.1 hK).1 (fun e => by injection e; omega)).trans hK
  have s2 := g2.size
  have b2 : Below w.heap.size w _ := hB.grown g2 hB.size (fun k hk => by cases hk; omega)
  generalize W.setCell ⟨w.heap.size + 1 + 1, 0, none⟩ (.int .i64 a) = X at *
  have g3 := grownBy_setCell' X (w.heap.size + 1 + 1 + 1) (.int .u32 b)
  have m2 := k2.kept g3 (fun e => by injection e; omega)
  have m3 := k3.set (.int .u32 b)
  have m4 := k4.kept g3 (fun e => by injection e; omega)
  have d3 := fun (D : Nat) (o : Obj) (hK : W.heap[D]? = some o) (hD : w.heap.size + 5 ≤ D) => (g3.block D (Array.getElem?_eq_some_iff.1 (d2 D o hK hD)).1 (fun e => by injection e; omega)).trans (d2 D o hK hD)
  have s3 := g3.size
  have b3 : Below w.heap.size w _ := b2.grown g3 b2.size (fun k hk => by cases hk; omega)
  generalize X.setCell ⟨w.heap.size + 1 + 1 + 1, 0, none⟩ (.int .u32 b) = Y at *
  have g4 := grownBy_setCell' Y (w.heap.size + 1 + 1 + 1 + 1) (.int .i64 c)
  exact ⟨⟨m2.kept g4 (fun e => by injection e; omega), m3.kept g4 (fun e => by injection e; omega), m4.set (.int .i64 c)⟩, b3.grown g4 b3.size (fun k hk => by cases hk; omega), Nat.le_trans s2 (Nat.le_trans s3 g4.size), fun D o hK hD => (g4.block D (Array.getElem?_eq_some_iff.1 (d3 D o hK hD)).1 (fun e => by injection e; omega)).trans (d3 D o hK hD)⟩
theorem box_below {W W2 : World} {B : Nat} {t : TypeId} {v : Value} (h : Boxed W B t v) (hb : Below W.drew.heap.size W.drew W2) : Boxed W2 B t v := (hb.block B h.lt).trans h
theorem str_eq (a b : ByteArray) : (a.toList == b.toList) = decide (a = b) := by
  by_cases h : a = b
  · rw [h]; simp
  · rw [decide_eq_false h, beq_eq_false_iff_ne]
    intro e
    rw [ByteArray.toList_eq, ByteArray.toList_eq] at e
    exact h (ByteArray.ext (Array.toList_inj.1 e))
theorem box_put {W : World} {B D : Nat} {t : TypeId} {v : Value} (h : Boxed W B t v) (hD : B ≠ D) (o : Obj) : Boxed (W.putObj D o) B t v := by
  unfold Boxed at h ⊢
  rw [← h]
  simp [World.putObj, Ne.symm hD]
def NamedI (w : World) (kind : Int) (name : ByteArray) (pre : List C32) (W : World) : Prop := Shh (∀ y ∈ pre, nmOf kind y.1 ≠ name) ∧ (Boxed W w.heap.size 9 (.string name) ∧ Boxed W (w.heap.size + 1) 3 (.int .i64 kind) ∧ Boxed W (w.heap.size + 1 + 1) 3 (.int .i64 0) ∧ Boxed W (w.heap.size + 1 + 1 + 1) 44 (.int .u32 0) ∧ Boxed W (w.heap.size + 1 + 1 + 1 + 1) 29 (.int .i64 0)) ∧ Below w.heap.size w W
def NamedX (w : World) (kind : Int) (name : ByteArray) (c : Code) (pre : List C32) (W : World) : Prop := c = .ret ∧ ∃ pre' x, pre = pre' ++ [x] ∧ Shh (∀ y ∈ pre', nmOf kind y.1 ≠ name) ∧ Shh (nmOf kind (x : C32).1 = name) ∧ (Boxed W (w.heap.size + 1 + 1) 3 (.int .i64 kind) ∧ Boxed W (w.heap.size + 1 + 1 + 1) 44 (.int .u32 (x.1 : Int)) ∧ Boxed W (w.heap.size + 1 + 1 + 1 + 1) 29 (.int .i64 0)) ∧ Below w.heap.size w W
set_option maxHeartbeats 4000000 in
theorem named_of (gf : Nat) (lb : Array Value) (L : List C32) (kind : Int) (name : ByteArray) (w : World) (hp : Pow w) (eg : ∀ args w, (callFunc gf args).run Tryd.prog w = .ok (.enter gf args) w) (hs : Stops gf lb L w.heap.size w) :
    Calls Tryd.prog 76 #[.string name, .int .i64 kind, .func (.func gf) #[] lb] w (OldIs (cdV kind (L.map (·.1)) name) w) := by
  unfold OldIs
  have HP := Shh.mk hp
  clear hp
  refine (callsIn_wide (n := 4)).1 ?_
  refine callsIn_of_wp_marks Tryd.func76 rfl trivial ?_ rfl
  simp only [Tryd.ntmps76, List.size_toArray, List.length_cons, List.length_nil, Nat.reduceAdd, Nat.reduceSub, Array.replicate_succ, Array.replicate_zero, List.push_toArray, List.append_toArray, List.nil_append, List.cons_append]
  gi_wp2
  obtain ⟨W5, hW5⟩ : ∃ W5, W5 = (((((w.alloc (.cells #[.string name] 9)).alloc (.cells #[.int .i64 kind] 3)).alloc (.cells #[.int .i64 0] 3)).alloc (.cells #[.int .u32 0] 44)).alloc (.cells #[.int .i64 0] 29)) := ⟨_, rfl⟩
  have z5 : W5.heap.size = w.heap.size + 5 := by rw [hW5]; simp only [asz]
  have hB0 : Below w.heap.size w W5 := by
    rw [hW5]
    exact (((((Below.refl _ w).alloc (Nat.le_refl _) _).alloc (by simp only [asz]; omega) _).alloc (by simp only [asz]; omega) _).alloc (by simp only [asz]; omega) _).alloc (by simp only [asz]; omega) _
  have hX : Shh (Boxed W5 w.heap.size 9 (.string name) ∧ Boxed W5 (w.heap.size + 1) 3 (.int .i64 kind) ∧ Boxed W5 (w.heap.size + 1 + 1) 3 (.int .i64 0) ∧ Boxed W5 (w.heap.size + 1 + 1 + 1) 44 (.int .u32 0) ∧ Boxed W5 (w.heap.size + 1 + 1 + 1 + 1) 29 (.int .i64 0)) := by
    rw [hW5]
    have b0 := Boxed.new w 9 (.string name)
    have b1 := Boxed.new (w.alloc (.cells #[.string name] 9)) 3 (.int .i64 kind)
    have b2 := Boxed.new ((w.alloc (.cells #[.string name] 9)).alloc (.cells #[.int .i64 kind] 3)) 3 (.int .i64 0)
    have b3 := Boxed.new (((w.alloc (.cells #[.string name] 9)).alloc (.cells #[.int .i64 kind] 3)).alloc (.cells #[.int .i64 0] 3)) 44 (.int .u32 0)
    have b4 := Boxed.new ((((w.alloc (.cells #[.string name] 9)).alloc (.cells #[.int .i64 kind] 3)).alloc (.cells #[.int .i64 0] 3)).alloc (.cells #[.int .u32 0] 44)) 29 (.int .i64 0)
    simp only [asz] at b1 b2 b3 b4
    exact ⟨(((b0.alloc _).alloc _).alloc _).alloc _, ((b1.alloc _).alloc _).alloc _, (b2.alloc _).alloc _, b3.alloc _, b4⟩
  rw [← hW5]
  clear hW5
  have hHP : ∀ Z, Below w.heap.size w Z → Pow Z := fun Z hZ => HP.out.go hZ
  clear HP
  have HP := Shh.mk hHP
  clear hHP
  refine wpIn_rangeFunc_ownG (F := Fence.wide) rfl (by omega) (gf := gf) (lb := lb) rfl trivial eg hs belowK_t (belowK_b (by omega)) hB0 (fun _ => rfl)
    (NamedI w kind name)
    (NamedX w kind name)
    ?hI ?hIx ?h0
    (fun x => { tmps := #[.string name, .int .i64 kind, .func (.func gf) #[] lb, .pointer (some ⟨w.heap.size, 0, none⟩), .pointer (some ⟨w.heap.size + 1, 0, none⟩), undef, .pointer (some ⟨w.heap.size + 1 + 1, 0, none⟩), .pointer (some ⟨w.heap.size + 1 + 1 + 1, 0, none⟩), .pointer (some ⟨w.heap.size + 1 + 1 + 1 + 1, 0, none⟩), .int .u32 (x.1 : Int), .func (.func gf) #[] lb, .int .u32 (x.1 : Int), undef, undef, undef, undef, undef, undef, undef], defers := [] }) ?assign ?body ?done ?stop
  case hI =>
    intro pre A B row hs2 hg hr
    obtain ⟨hl, ⟨h0, h1, h2, h3, h4⟩, hb⟩ := hs2
    exact ⟨hl, ⟨h0.kept hg (box_ne h0 hr), h1.kept hg (box_ne h1 hr), h2.kept hg (box_ne h2 hr), h3.kept hg (box_ne h3 hr), h4.kept hg (box_ne h4 hr)⟩, ownFrom_below (Nat.le_refl _) (by omega) pre A B row hb hg hr⟩
  case hIx =>
    rintro c pre A B row ⟨rfl, pre', x, e1, e2, e3, ⟨h2, h3, h4⟩, hb⟩ hg hr
    exact ⟨rfl, pre', x, e1, e2, e3, ⟨h2.kept hg (box_ne h2 hr), h3.kept hg (box_ne h3 hr), h4.kept hg (box_ne h4 hr)⟩, ownFrom_below (Nat.le_refl _) (by omega) pre A B row hb hg hr⟩
  case h0 => exact ⟨⟨fun y h => by cases h⟩, hX.out, hB0⟩
  case assign =>
    intro l x W K hK
    gi_wp2
    exact hK
  case body =>
    clear hX hB0
    rintro l pre x W ⟨hl, hbx, hB⟩ hlt
    have hmx : Tryd.prog.follows .mixedOrders = true := by kernel_rfl
    have hnm : ∀ Z, Below W.heap.size W Z → Calls Tryd.prog 30 #[.int .i64 kind, .int .u32 (x.1 : Int)] Z (OldIs (.string (nmOf kind x.1)) Z) := fun Z hZ => name_any kind x.1 x.2 Z (HP.out Z (hB.trans (hZ.mono hB.size)))
    have hc0 := hbx.1.cell
    have hc1 := hbx.2.1.cell
    obtain ⟨N, hN⟩ : ∃ N, nmOf kind x.1 = N := ⟨_, rfl⟩
    rw [hN] at hnm
    have hsz := hB.size
    have hlt0 : w.heap.size < W.heap.size := hbx.1.lt
    have HBX := Shh.mk hbx
    clear hbx
    gi_wp2
    gi_region_with_o (refine ⟨trivial, ?_⟩; gi_at_call 30; refine (CallsIn.inRound l (callsIn_wide.2 (hnm _ (by first | exact Below.refl _ _ | exact (Below.refl _ _).drew)))).mono ?_; unfold OldIs; rintro e w2 ⟨rfl, hb⟩; have hq := (hb.cell (p := ⟨w.heap.size, 0, none⟩) (by simpa using hlt0)).trans hc0)
    all_goals
      clear hnm hc0 hc1 hq hlt0
      have hB2 : Below w.heap.size w w2 := hB.drew.trans (hb.mono hsz)
      have hkp : KeepsFrom W5.heap.size W w2 := ⟨hb.size, fun k _ _ hk _ => (hb.block k (Array.getElem?_eq_some_iff.1 hk).1).trans hk⟩
      have k0 := box_below HBX.out.1 hb
      have k1 := box_below HBX.out.2.1 hb
      have k2 := box_below HBX.out.2.2.1 hb
      have k3 := box_below HBX.out.2.2.2.1 hb
      have k4 := box_below HBX.out.2.2.2.2 hb
      clear HBX
      rw [str_eq N name]
      by_cases hk : N = name
      · rw [decide_eq_true hk]
        have HN : Shh (nmOf kind x.1 = name) := ⟨by rw [hN, hk]⟩
        have c2 := k2.cell
        have c3 := k3.cell
        have c4 := k4.cell
        have f2 := k2.frozen
        have f3 := k3.frozen
        have f4 := k4.frozen
        have c1 := k1.cell
        obtain ⟨⟨q1, q2, q3⟩, q4, q5, q6⟩ := set3 k2 k3 k4 kind x.1 0 hB2
        have Q : Shh (KeepsFrom W5.heap.size W (((w2.setCell ⟨w.heap.size + 1 + 1, 0, none⟩ (.int .i64 kind)).setCell ⟨w.heap.size + 1 + 1 + 1, 0, none⟩ (.int .u32 (x.1 : Int))).setCell ⟨w.heap.size + 1 + 1 + 1 + 1, 0, none⟩ (.int .i64 0)) ∧ NamedX w kind name .ret (pre ++ [x]) (((w2.setCell ⟨w.heap.size + 1 + 1, 0, none⟩ (.int .i64 kind)).setCell ⟨w.heap.size + 1 + 1 + 1, 0, none⟩ (.int .u32 (x.1 : Int))).setCell ⟨w.heap.size + 1 + 1 + 1 + 1, 0, none⟩ (.int .i64 0))) :=
          ⟨hkp.trans ⟨q5, fun k o hk hk2 _ => q6 k o hk2 (by omega)⟩, rfl, pre, x, rfl, hl, HN, ⟨q1, q2, q3⟩, q4⟩
        clear z5 q1 q2 q3 q4 q5 q6 k0 k1 k2 k3 k4 hN hk hl hb hkp hB hB2
        gi_wp2
        exact Q.out
      · rw [decide_eq_false hk]
        have HN : Shh (∀ y ∈ pre ++ [x], nmOf kind y.1 ≠ name) := ⟨fun y hy => by
          rcases List.mem_append.1 hy with h | h
          · exact hl.out y h
          · rw [List.mem_singleton.1 h, hN]; exact hk⟩
        have Q : Shh (KeepsFrom W5.heap.size W w2 ∧ Below w.heap.size W w2 ∧ NamedI w kind name (pre ++ [x]) w2) :=
          ⟨hkp, ⟨hb.os, hb.tape, hb.output, hb.size, fun k hk => hb.block k (Nat.lt_of_lt_of_le hk hsz)⟩, HN, ⟨k0, k1, k2, k3, k4⟩, hB2⟩
        clear z5 k0 k1 k2 k3 k4 hN hk hl hb hkp hB hB2 HN
        gi_wp2
        exact Q.out
  case done =>
    rintro D ys W hD rfl ⟨hl, ⟨h0, h1, h2, h3, h4⟩, hB⟩ hK
    have c2 := h2.cell
    have c3 := h3.cell
    have c4 := h4.cell
    have f2 := h2.frozen
    have f3 := h3.frozen
    have f4 := h4.frozen
    have g2 := grownBy_setCell' W (w.heap.size + 1 + 1) (.int .i64 0)
    gi_wp2
    obtain ⟨Z, hZ⟩ : ∃ Z, Z = (((W.setCell ⟨w.heap.size + 1 + 1, 0, none⟩ (.int .i64 0)).setCell ⟨w.heap.size + 1 + 1 + 1, 0, none⟩ (.int .u32 0)).setCell ⟨w.heap.size + 1 + 1 + 1 + 1, 0, none⟩ (.int .i64 60)) := ⟨_, rfl⟩
    have F : Shh ((Boxed Z (w.heap.size + 1 + 1) 3 (.int .i64 0) ∧ Boxed Z (w.heap.size + 1 + 1 + 1) 44 (.int .u32 0) ∧ Boxed Z (w.heap.size + 1 + 1 + 1 + 1) 29 (.int .i64 60)) ∧ Below w.heap.size w Z ∧ Z.heap[D]? = some (Obj.deferred (some []))) := ⟨by
      obtain ⟨q1, q2, _, q3⟩ := set3 h2 h3 h4 0 0 60 hB
      rw [hZ]
      exact ⟨q1, q2, q3 D _ hK (by omega)⟩⟩
    rw [← hZ]
    clear hZ g2 c2 c3 c4 f2 f3 f4 h0 h1 h2 h3 h4 hK
    obtain ⟨l2, l3, l4⟩ := load3 (box_put (D := D) F.out.1.1 (by omega) (.deferred none)) (box_put (D := D) F.out.1.2.1 (by omega) (.deferred none)) (box_put (D := D) F.out.1.2.2 (by omega) (.deferred none))
    refine ⟨by simp, .inl ⟨_, _, rfl, run_takeDeferred F.out.2.2, ?_⟩⟩
    exact ⟨_, results_cells3 rfl _ _ _ _ _ _ _ _ rfl rfl rfl l2 l3 l4, by rw [cdV_none hl.out], F.out.2.1.trans (belowK_b (w := w) (Nat.le_refl _) Z D _ _ (by omega) F.out.2.2 rfl rfl)⟩
  case stop =>
    rintro D c pre W hD hp ⟨rfl, pre', x, rfl, e2, e3, ⟨h2, h3, h4⟩, hB⟩ hK
    have c2 := h2.cell
    have c3 := h3.cell
    have c4 := h4.cell
    have f2 := h2.frozen
    have f3 := h3.frozen
    have f4 := h4.frozen
    gi_wp2
    obtain ⟨l2, l3, l4⟩ := load3 (box_put (D := D) h2 (by omega) (.deferred none)) (box_put (D := D) h3 (by omega) (.deferred none)) (box_put (D := D) h4 (by omega) (.deferred none))
    refine ⟨by simp, .inl ⟨_, _, rfl, run_takeDeferred hK, ?_⟩⟩
    exact ⟨_, results_cells3 rfl _ _ _ _ _ _ _ _ rfl rfl rfl l2 l3 l4, by rw [cdV_some hp e2.out e3.out], hB.trans (belowK_b (w := w) (Nat.le_refl _) W D _ _ (by omega) hK rfl rfl)⟩
end Go.Proofs.YtanpplniedphkaaDoor
