/-
  ARGUMENTS OPENED: an array of numbers by value; a slice of slices of bytes.
-/
import Derived.Test.YthafhghnciofaaaDoorLaw
import Derived.Test.YthafhghnciofaaaDoorWrite
import Derived.Deep.Matrix
import Derived.WideKeyArr2
import Derived.Deep.Grids
namespace Go.Proofs.YthafhghnciofaaaDoor
open Go.ChangeShapes Go.WideShapes Go.ChangeAt Go.RowKit

section
variable {H : Type} {enc : TypeId × Value → H} {P : Program}

theorem mapM_each {α β : Type} {f : α → Option β} : ∀ {L : List α} {xs : List β}, L.mapM f = some xs → ∀ i ∈ L, ∃ y, f i = some y
  | [], _, _, i, hi => by cases hi
  | a :: L, xs, h, i, hi => by
    rw [List.mapM_cons] at h
    simp only [bind, Option.bind_eq_some_iff, pure, Option.some.injEq] at h
    obtain ⟨y, hy, ys, hys, _⟩ := h
    rcases List.mem_cons.1 hi with rfl | hi
    · exact ⟨y, hy⟩
    · exact mapM_each hys i hi

def intAt : Value → Int
  | .int _ a => a
  | _ => 0
/-- an array of numbers that came in by value -/
theorem open_arr_ints {W : World} {base n : Nat} {t e : TypeId} {q : IntKind} {v : Value} {d : DataW H} {ps : List MemPlace} (ht : P.underlying t = some (.array n e)) (he : P.underlying e = some (.int q)) (ce : P.cellsOf e = 1) (ct : P.cellsOf t = n)
    (hval : Value.okWide P W .any base t v) (h : DataW.Trod enc P W 0 (fun _ => true) true t v d ps) : ∃ zs : List Int, v = .agg (zs.map (Value.int q)).toArray ∧ zs.length = n ∧ ∀ z ∈ zs, (Lit.int q z).wf = true := by
  simp only [Value.okWide, ht] at hval
  obtain ⟨xs, rfl, hsz, _⟩ := hval
  rw [ct] at hsz
  obtain ⟨fuel, hf⟩ := h
  cases fuel with
  | zero => simp [DataW.trod] at hf
  | succ m =>
    rw [DataW.trod_step] at hf
    unfold DataW.trodStep at hf
    simp only [ht, Value.cells, ce, Nat.mul_one] at hf
    rw [if_pos (by simp only [Array.length_toList]; omega)] at hf
    simp only [Option.map_eq_some_iff] at hf
    obtain ⟨ys, hy, _⟩ := hf
    have each : ∀ i, i < n → ∃ a, xs.toList[i]? = some (.int q a) ∧ (Lit.int q a).wf = true := fun i hi => by
      obtain ⟨y, hy1⟩ := mapM_each hy i (List.mem_range.2 hi)
      obtain ⟨a, ha, _, wa⟩ := DataW.trod_int he hy1
      refine ⟨a, ?_, wa⟩
      have := congrArg (·[0]?) ha
      simpa using this
    refine ⟨xs.toList.map intAt, ?_, by simp; omega, fun z hz => ?_⟩
    · congr 1
      apply Array.ext
      · simp
      intro i h1 h2
      obtain ⟨a, ha, _⟩ := each i (by omega)
      have hx : xs[i] = .int q a := by
        rw [Array.getElem?_toList, Array.getElem?_eq_getElem h1] at ha
        exact Option.some.inj ha
      simp [hx, intAt]
    · simp only [List.mem_map] at hz
      obtain ⟨x, hx, rfl⟩ := hz
      obtain ⟨i, hi, hxi⟩ := List.getElem_of_mem hx
      simp only [Array.length_toList] at hi
      obtain ⟨a, ha, wa⟩ := each i (by omega)
      rw [List.getElem?_eq_getElem (by simpa using hi), hxi] at ha
      rw [Option.some.inj ha]
      exact wa

theorem wf_u32 {z : Int} (h : (Lit.int .u32 z).wf = true) : 0 ≤ z ∧ z ≤ 4294967295 := by simpa [Lit.wf, IntKind.min, IntKind.max, IntKind.signed, IntKind.bits] using h
theorem wf_u8 {z : Int} (h : (Lit.int .u8 z).wf = true) : 0 ≤ z ∧ z ≤ 255 := by simpa [Lit.wf, IntKind.min, IntKind.max, IntKind.signed, IntKind.bits] using h
theorem map_same {α : Type} (f : α → α) (l : List α) (h : ∀ x ∈ l, f x = x) : l.map f = l := by
  conv => rhs; rw [← List.map_id l]
  exact List.map_congr_left h
theorem words_of_ints (zs : List Int) (h : ∀ z ∈ zs, (Lit.int .u32 z).wf = true) : zs.map (Value.int .u32) = wordCells (zs.map fun z => UInt32.ofNat z.toNat) := by
  unfold wordCells
  rw [List.map_map]
  apply List.map_congr_left
  intro z hz
  have := wf_u32 (h z hz)
  have e : (UInt32.ofNat z.toNat).toNat = z.toNat := by simp; omega
  show Value.int .u32 z = .int .u32 (((UInt32.ofNat z.toNat).toNat : Nat) : Int)
  rw [e]
  congr 1
  omega
theorem bytes_of_ints (zs : List Int) (h : ∀ z ∈ zs, (Lit.int .u8 z).wf = true) : zs.map (Value.int .u8) = Lib.byteCells (zs.map fun z => UInt8.ofNat z.toNat) := by
  unfold Lib.byteCells
  rw [List.map_map]
  apply List.map_congr_left
  intro z hz
  have := wf_u8 (h z hz)
  have e : (UInt8.ofNat z.toNat).toNat = z.toNat := by simp; omega
  show Value.int .u8 z = .int .u8 (((UInt8.ofNat z.toNat).toNat : Nat) : Int)
  rw [e]
  congr 1
  omega

/-- the slice value v reads as the bools l -/
def Slb (w : World) (B : Nat) (v : Value) (l : List Bool) : Prop :=
  ∃ A c, v = .slice A l.length c ∧ (0 < l.length → ∃ b off, A = some ⟨b, off, none⟩ ∧ b < B ∧ ∀ k (h : k < l.length), w.cell? ⟨b, off + k, none⟩ = some (.bool l[k]))
theorem Slb.below {w w' : World} {B : Nat} {v : Value} {l : List Bool} (h : Slb w B v l) (hb : Below B w w') : Slb w' B v l := by
  obtain ⟨A, c, hv, hc⟩ := h
  refine ⟨A, c, hv, fun hn => ?_⟩
  obtain ⟨b, off, hA, hbb, hr⟩ := hc hn
  exact ⟨b, off, hA, hbb, fun k hk => (hb.cell (p := ⟨b, off + k, none⟩) hbb).trans (hr k hk)⟩
theorem spotless {W : World} (x : Addr) (u : Value) (h0 : W.cell? (x.add 0) = some u) : x.spot = none := by
  simp only [Addr.add, if_true, World.cell?] at h0
  split at h0
  · split at h0
    · cases h0
    · rename_i hns; simpa using hns
  · cases h0
theorem open_boolsl {W : World} {base : Nat} {t e : TypeId} {v : Value} {d : DataW H} {ps : List MemPlace} (ht : P.underlying t = some (.slice e)) (he : P.underlying e = some .bool) (hc : P.cellsOf e = 1)
    (hval : Value.okWide P W .any base t v) (h : DataW.Trod enc P W 0 (fun _ => true) true t v d ps) : ∃ l : List Bool, Slb W W.heap.size v l ∧ l.length ≤ 9223372036854775807 := by
  obtain ⟨a0, len, cap, rfl⟩ := okWide_slice ht hval
  obtain ⟨fuel, hf⟩ := h
  rcases Deep.open_bools ht he hc hf with ⟨hcs, hx⟩ | ⟨a, len', cap', Z, hcs, _, hl, hm, hx, hcell⟩
  · simp [Value.cells] at hcs
    obtain ⟨rfl, rfl, rfl⟩ := hcs
    exact ⟨[], ⟨none, 0, rfl, fun h => absurd h (by simp)⟩, by decide⟩
  · simp [Value.cells] at hcs
    obtain ⟨rfl, rfl, rfl⟩ := hcs
    have hbl : ((List.range len).map Z).length = len := by simp
    refine ⟨(List.range len).map Z, ⟨some a, cap, by rw [hbl], fun hn => ?_⟩, by rw [hbl]; unfold maxLen at hm; omega⟩
    rw [hbl] at hn
    have h0 := hcell 0 (by omega)
    have hsp := spotless _ _ h0
    obtain ⟨b, off, sp⟩ := a
    simp only at hsp
    subst hsp
    have hb : b < W.heap.size := by
      have := World.block_lt_of_cell? W _ h0
      simpa [Addr.add] using this
    refine ⟨b, off, rfl, hb, fun k hk => ?_⟩
    rw [hbl] at hk
    have hck := hcell k (by omega)
    rw [addr_add] at hck
    rw [hck]
    simp
/-- the slice value v reads as the numbers zs of kind k -/
def Sli (k : IntKind) (w : World) (B : Nat) (v : Value) (zs : List Int) : Prop :=
  ∃ A c, v = .slice A zs.length c ∧ zs.length ≤ c ∧ (0 < zs.length → ∃ b off, A = some ⟨b, off, none⟩ ∧ b < B ∧ ∀ i (h : i < zs.length), w.cell? ⟨b, off + i, none⟩ = some (.int k zs[i]))
theorem Sli.below {k : IntKind} {w w' : World} {B : Nat} {v : Value} {l : List Int} (h : Sli k w B v l) (hb : Below B w w') : Sli k w' B v l := by
  obtain ⟨A, c, hv, h1, hc⟩ := h
  refine ⟨A, c, hv, h1, fun hn => ?_⟩
  obtain ⟨b, off, hA, hbb, hr⟩ := hc hn
  exact ⟨b, off, hA, hbb, fun i hi => (hb.cell (p := ⟨b, off + i, none⟩) hbb).trans (hr i hi)⟩
theorem open_intsl {W : World} {base : Nat} {t e : TypeId} {k : IntKind} {v : Value} {d : DataW H} {ps : List MemPlace} (ht : P.underlying t = some (.slice e)) (he : P.underlying e = some (.int k)) (hc : P.cellsOf e = 1)
    (hval : Value.okWide P W .any base t v) (h : DataW.Trod enc P W 0 (fun _ => true) true t v d ps) : ∃ zs : List Int, Sli k W W.heap.size v zs ∧ zs.length ≤ 9223372036854775807 ∧ ∀ z ∈ zs, (Lit.int k z).wf = true := by
  obtain ⟨a0, len, cap, rfl⟩ := okWide_slice ht hval
  obtain ⟨fuel, hf⟩ := h
  rcases open_ints ht he hc hf with ⟨hcs, hx⟩ | ⟨a, len', cap', zs, hcs, _, hl, hm, hz, hx, hcell, hwz⟩
  · simp [Value.cells] at hcs
    obtain ⟨rfl, rfl, rfl⟩ := hcs
    exact ⟨[], ⟨none, 0, rfl, Nat.le_refl _, fun h => absurd h (by simp)⟩, by decide, fun z hz => by cases hz⟩
  · simp [Value.cells] at hcs
    obtain ⟨rfl, rfl, rfl⟩ := hcs
    have hzl : zs.length = cap := by simpa using hz
    have hbl : (zs.take len).length = len := by simp; omega
    refine ⟨zs.take len, ⟨some a, cap, by rw [hbl], by rw [hbl]; omega, fun hn => ?_⟩, by rw [hbl]; unfold maxLen at hm; omega, fun z hz => hwz z (List.mem_of_mem_take hz)⟩
    rw [hbl] at hn
    have h0 := hcell 0 (by omega)
    have hsp := spotless _ _ h0
    obtain ⟨b, off, sp⟩ := a
    simp only at hsp
    subst hsp
    have hb : b < W.heap.size := by
      have := World.block_lt_of_cell? W _ h0
      simpa [Addr.add] using this
    refine ⟨b, off, rfl, hb, fun i hi => ?_⟩
    rw [hbl] at hi
    have hck := hcell i (by omega)
    rw [addr_add] at hck
    rw [hck]
    have hg : zs.getD i 0 = zs[i] := by simp [List.getD, List.getElem?_eq_getElem (show i < zs.length by omega)]
    rw [hg]
    simp

/-- a slice of slices of bytes that came in -/
theorem open_parts {W : World} {base : Nat} {t e q : TypeId} {v : Value} {d : DataW H} {ps : List MemPlace} (ht : P.underlying t = some (.slice e)) (he : P.underlying e = some (.slice q)) (hq : P.underlying q = some (.int .u8)) (ce : P.cellsOf e = 1) (cq : P.cellsOf q = 1)
    (hval : Value.okWide P W .any base t v) (h : DataW.Trod enc P W 0 (fun _ => true) true t v d ps) : ∃ bss : List (List UInt8), PartsO W W.heap.size W.heap.size v bss ∧ bss.length ≤ 9223372036854775807 := by
  obtain ⟨a0, len, cap, rfl⟩ := okWide_slice ht hval
  obtain ⟨fuel, hf⟩ := h
  rcases Deep.open_int_rows ht he hq ce cq hf with ⟨hcs, _⟩ | ⟨a, len', cap', A, L, C, Z, hcs, _, hl, hm, _, hr⟩
  · simp [Value.cells] at hcs
    obtain ⟨rfl, rfl, rfl⟩ := hcs
    exact ⟨[], ⟨none, 0, rfl, fun h => by cases h⟩, by decide⟩
  · simp [Value.cells] at hcs
    obtain ⟨rfl, rfl, rfl⟩ := hcs
    refine ⟨(List.range len).map fun r => (((Z r).take (L r)).map fun z => UInt8.ofNat z.toNat), ⟨some a, cap, by simp, fun hn => ?_⟩, by unfold maxLen at hm; simp only [List.length_map, List.length_range]; omega⟩
    simp only [List.length_map, List.length_range] at hn
    have spotless : ∀ (x : Addr) (u : Value), W.cell? (x.add 0) = some u → x.spot = none := fun x u h0 => by
      simp only [Addr.add, if_true, World.cell?] at h0
      split at h0
      · split at h0
        · cases h0
        · rename_i hns; simpa using hns
      · cases h0
    have h0 := (hr 0 (by omega)).1
    have hsp := spotless _ _ h0
    obtain ⟨b, off, sp⟩ := a
    simp only at hsp
    subst hsp
    have hb : b < W.heap.size := by
      have := World.block_lt_of_cell? W _ h0
      simpa [Addr.add] using this
    refine ⟨b, off, rfl, hb, by omega, fun i hi => ?_⟩
    simp only [List.length_map, List.length_range] at hi
    obtain ⟨hc, hLC, hCm, hZl, hwf, hnil, hcell⟩ := hr i (by omega)
    rw [addr_add] at hc
    have hlen : ((((List.range len).map fun r => (((Z r).take (L r)).map fun z => UInt8.ofNat z.toNat)))[i]'(by simpa using hi)).length = L i := by simp; omega
    have hs : Sl W W.heap.size (.slice (A i) (L i) (C i)) ((((List.range len).map fun r => (((Z r).take (L r)).map fun z => UInt8.ofNat z.toNat)))[i]'(by simpa using hi)) := by
      refine ⟨A i, C i, by rw [hlen], by omega, hCm, fun hpos => ?_⟩
      rw [hlen] at hpos
      cases hA : A i with
      | none => have := hnil hA; omega
      | some a' =>
        obtain ⟨_, hc'⟩ := hcell a' hA
        have g0 := hc' 0 (by omega)
        have hsp' := spotless _ _ g0
        obtain ⟨b', off', sp'⟩ := a'
        simp only at hsp'
        subst hsp'
        have hb' : b' < W.heap.size := by
          have := World.block_lt_of_cell? W _ g0
          simpa [Addr.add] using this
        refine ⟨b', off', rfl, hb', fun k hk => ?_⟩
        rw [hlen] at hk
        have g := hc' k (by omega)
        rw [addr_add] at g
        rw [g]
        have hkz : k < (Z i).length := by omega
        have hwk := wf_u8 (hwf (Z i)[k] (List.getElem_mem hkz))
        have hg : (Z i).getD k 0 = (Z i)[k] := by simp [List.getD, List.getElem?_eq_getElem hkz]
        have hu : ((UInt8.ofNat (Z i)[k].toNat).toNat : Int) = (Z i)[k] := by
          have : (UInt8.ofNat (Z i)[k].toNat).toNat = (Z i)[k].toNat := by simp; omega
          rw [this]; omega
        rw [hg]
        simp only [List.getElem_map, List.getElem_range, List.getElem_take]
        rw [hu]
    exact ⟨_, hc, hs, hs.off (Nat.le_refl _)⟩
end

theorem cells_u32' : Tryd.prog.cellsOf 22 = 1 := by kernel_rfl
theorem cells_w8 : Tryd.prog.cellsOf 23 = 8 := by kernel_rfl
theorem cells_b64 : Tryd.prog.cellsOf 24 = 64 := by kernel_rfl
section
variable {H : Type} {enc : TypeId × Value → H}
theorem open_st8 {W : World} {base : Nat} {v : Value} {d : DataW H} {ps : List MemPlace} (hval : Value.okWide Tryd.prog W .any base 23 v) (h : DataW.Trod enc Tryd.prog W 0 (fun _ => true) true 23 v d ps) :
    ∃ s : St, v = .agg (wordCells s.list).toArray := by
  obtain ⟨zs, rfl, hl, hwf⟩ := open_arr_ints Tryd.underlying23 Tryd.underlying22 cells_u32' cells_w8 hval h
  exact ⟨St.of (zs.map fun z => UInt32.ofNat z.toNat), by rw [St.list_of _ (by simpa using hl), words_of_ints zs hwf]⟩
theorem open_blk {W : World} {base : Nat} {v : Value} {d : DataW H} {ps : List MemPlace} (hval : Value.okWide Tryd.prog W .any base 24 v) (h : DataW.Trod enc Tryd.prog W 0 (fun _ => true) true 24 v d ps) :
    ∃ b : List UInt8, b.length = 64 ∧ v = .agg (Lib.byteCells b).toArray := by
  obtain ⟨zs, rfl, hl, hwf⟩ := open_arr_ints Tryd.underlying24 Tryd.underlying5 cells_u8 cells_b64 hval h
  exact ⟨zs.map fun z => UInt8.ofNat z.toNat, by simpa using hl, by rw [bytes_of_ints zs hwf]⟩
theorem cells_u16 : Tryd.prog.cellsOf 54 = 1 := by kernel_rfl
theorem open_bls {W : World} {base : Nat} {v : Value} {d : DataW H} {ps : List MemPlace} (hval : Value.okWide Tryd.prog W .any base 39 v) (h : DataW.Trod enc Tryd.prog W 0 (fun _ => true) true 39 v d ps) :
    ∃ l : List Bool, Slb W W.heap.size v l ∧ l.length ≤ 9223372036854775807 := open_boolsl Tryd.underlying39 Tryd.underlying4 cells_bool hval h
theorem open_u16s {W : World} {base : Nat} {v : Value} {d : DataW H} {ps : List MemPlace} (hval : Value.okWide Tryd.prog W .any base 53 v) (h : DataW.Trod enc Tryd.prog W 0 (fun _ => true) true 53 v d ps) :
    ∃ zs : List Int, Sli .u16 W W.heap.size v zs ∧ zs.length ≤ 9223372036854775807 ∧ ∀ z ∈ zs, (Lit.int .u16 z).wf = true := open_intsl Tryd.underlying53 Tryd.underlying54 cells_u16 hval h
theorem cells_sl : Tryd.prog.cellsOf 30 = 1 := by kernel_rfl
theorem open_bss {W : World} {base : Nat} {v : Value} {d : DataW H} {ps : List MemPlace} (hval : Value.okWide Tryd.prog W .any base 28 v) (h : DataW.Trod enc Tryd.prog W 0 (fun _ => true) true 28 v d ps) :
    ∃ bss : List (List UInt8), PartsO W W.heap.size W.heap.size v bss ∧ bss.length ≤ 9223372036854775807 := open_parts Tryd.underlying28 Tryd.underlying30 Tryd.underlying5 cells_sl cells_u8 hval h
end
end Go.Proofs.YthafhghnciofaaaDoor
