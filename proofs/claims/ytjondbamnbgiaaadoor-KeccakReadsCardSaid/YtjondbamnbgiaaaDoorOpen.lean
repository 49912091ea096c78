/-
  ARGUMENTS OPENED: an array of lanes by value; a slice of slices of bytes, and how long its parts can be.
-/
import Derived.Test.YtjondbamnbgiaaaDoorLaw
import Derived.Test.YtjondbamnbgiaaaDoorLaid
import Derived.Test.YtjondbamnbgiaaaDoorParts
import Derived.Deep.Matrix
import Derived.WideKeyArr2
import Derived.Deep.Grids
namespace Go.Proofs.YtjondbamnbgiaaaDoor
open Go.ChangeShapes Go.WideShapes Go.ChangeAt Go.RowKit

section
variable {H : Type} {enc : TypeId × Value → H} {P : Program}

theorem mapM_each {α β : Type} {f : α → Option β} : ∀ {L : List α} {xs : List β}, L.mapM f = some xs → ∀ i ∈ L, ∃ y, f i = some y
  | [], _, _, i, hi => by cases hi
  | a :: L, xs, h, i, hi => by
    rw [List.mapM_cons] at h
    simp only [bind, Option.bind_eq_some_iff, pure, Option.some.injEq] at h
    obtain ⟨y, hy, ys, hys, _⟩ := h
    rcases List.mem_cons.1 hi with rfl | hi
    · exact ⟨y, hy⟩
    · exact mapM_each hys i hi

def intAt : Value → Int
  | .int _ a => a
  | _ => 0
/-- an array of numbers that came in by value -/
theorem open_arr_ints {W : World} {base n : Nat} {t e : TypeId} {q : IntKind} {v : Value} {d : DataW H} {ps : List MemPlace} (ht : P.underlying t = some (.array n e)) (he : P.underlying e = some (.int q)) (ce : P.cellsOf e = 1) (ct : P.cellsOf t = n)
    (hval : Value.okWide P W .any base t v) (h : DataW.Trod enc P W 0 (fun _ => true) true t v d ps) : ∃ zs : List Int, v = .agg (zs.map (Value.int q)).toArray ∧ zs.length = n ∧ ∀ z ∈ zs, (Lit.int q z).wf = true := by
  simp only [Value.okWide, ht] at hval
  obtain ⟨xs, rfl, hsz, _⟩ := hval
  rw [ct] at hsz
  obtain ⟨fuel, hf⟩ := h
  cases fuel with
  | zero => simp [DataW.trod] at hf
  | succ m =>
    rw [DataW.trod_step] at hf
    unfold DataW.trodStep at hf
    simp only [ht, Value.cells, ce, Nat.mul_one] at hf
    rw [if_pos (by simp only [Array.length_toList]; omega)] at hf
    simp only [Option.map_eq_some_iff] at hf
    obtain ⟨ys, hy, _⟩ := hf
    have each : ∀ i, i < n → ∃ a, xs.toList[i]? = some (.int q a) ∧ (Lit.int q a).wf = true := fun i hi => by
      obtain ⟨y, hy1⟩ := mapM_each hy i (List.mem_range.2 hi)
      obtain ⟨a, ha, _, wa⟩ := DataW.trod_int he hy1
      refine ⟨a, ?_, wa⟩
      have := congrArg (·[0]?) ha
      simpa using this
    refine ⟨xs.toList.map intAt, ?_, by simp; omega, fun z hz => ?_⟩
    · congr 1
      apply Array.ext
      · simp
      intro i h1 h2
      obtain ⟨a, ha, _⟩ := each i (by omega)
      have hx : xs[i] = .int q a := by
        rw [Array.getElem?_toList, Array.getElem?_eq_getElem h1] at ha
        exact Option.some.inj ha
      simp [hx, intAt]
    · simp only [List.mem_map] at hz
      obtain ⟨x, hx, rfl⟩ := hz
      obtain ⟨i, hi, hxi⟩ := List.getElem_of_mem hx
      simp only [Array.length_toList] at hi
      obtain ⟨a, ha, wa⟩ := each i (by omega)
      rw [List.getElem?_eq_getElem (by simpa using hi), hxi] at ha
      rw [Option.some.inj ha]
      exact wa

theorem wf_u8 {z : Int} (h : (Lit.int .u8 z).wf = true) : 0 ≤ z ∧ z ≤ 255 := by simpa [Lit.wf, IntKind.min, IntKind.max, IntKind.signed, IntKind.bits] using h
theorem wf_u64 {z : Int} (h : (Lit.int .u64 z).wf = true) : 0 ≤ z ∧ z ≤ 18446744073709551615 := by simpa [Lit.wf, IntKind.min, IntKind.max, IntKind.signed, IntKind.bits] using h
theorem lanes_of_ints (zs : List Int) (h : ∀ z ∈ zs, (Lit.int .u64 z).wf = true) : zs.map (Value.int .u64) = laneCells (zs.map fun z => UInt64.ofNat z.toNat) := by
  unfold laneCells
  rw [List.map_map]
  apply List.map_congr_left
  intro z hz
  have := wf_u64 (h z hz)
  have e : (UInt64.ofNat z.toNat).toNat = z.toNat := by simp; omega
  show Value.int .u64 z = .int .u64 (((UInt64.ofNat z.toNat).toNat : Nat) : Int)
  rw [e]
  congr 1
  omega
theorem weightsAll_mem {e : TypeId} {d : DataW H} : ∀ {l : List (DataW H)}, d ∈ l → ∀ n ∈ d.weights P e, n ∈ DataW.weightsAll P e l
  | x :: r, hd, n, hn => by
    rw [DataW.weightsAll]
    rcases List.mem_cons.1 hd with rfl | hd
    · exact List.mem_append_left _ hn
    · exact List.mem_append_right _ (weightsAll_mem hd n hn)
/-- a slice of slices of bytes that came in -/
theorem open_parts {W : World} {base : Nat} {t e q : TypeId} {v : Value} {d : DataW H} {ps : List MemPlace} (ht : P.underlying t = some (.slice e)) (he : P.underlying e = some (.slice q)) (hq : P.underlying q = some (.int .u8)) (ce : P.cellsOf e = 1) (cq : P.cellsOf q = 1)
    (hval : Value.okWide P W .any base t v) (h : DataW.Trod enc P W 0 (fun _ => true) true t v d ps) (bq : P.bytesOf q = 1) (be : P.bytesOf e = 24) (hsz : ∀ n ∈ d.weights P t, n ≤ reachBytes) : ∃ bss : List (List UInt8), PartsO W W.heap.size W.heap.size v bss ∧ bss.length ≤ 281474976710656 ∧ ∀ i (h : i < bss.length), bss[i].length ≤ 281474976710656 := by
  obtain ⟨a0, len, cap, rfl⟩ := okWide_slice ht hval
  obtain ⟨fuel, hf⟩ := h
  rcases Deep.open_int_rows ht he hq ce cq hf with ⟨hcs, _⟩ | ⟨a, len', cap', A, L, C, Z, hcs, _, hl, hm, hx, hr⟩
  · simp [Value.cells] at hcs
    obtain ⟨rfl, rfl, rfl⟩ := hcs
    exact ⟨[], ⟨none, 0, rfl, fun h => by cases h⟩, by decide, fun i h => by cases h⟩
  · simp [Value.cells] at hcs
    obtain ⟨rfl, rfl, rfl⟩ := hcs
    have hd : d = .slice ((List.range len).map fun r => Deep.intRow .u8 (A r) (L r) (Z r)) ((List.range (cap - len)).map fun j => Deep.intRow .u8 (A (len + j)) (L (len + j)) (Z (len + j))) := congrArg Prod.fst hx
    have hw0 := hsz ((((List.range len).map fun r => Deep.intRow (H := H) .u8 (A r) (L r) (Z r)).length + ((List.range (cap - len)).map fun j => Deep.intRow (H := H) .u8 (A (len + j)) (L (len + j)) (Z (len + j))).length) * P.bytesOf e) (by rw [hd]; simp [DataW.weights, ht])
    have hlenb : len ≤ 281474976710656 := by
      simp only [List.length_map, List.length_range, be, reachBytes] at hw0
      omega
    have hrow : ∀ r, r < len → L r ≤ 281474976710656 := fun r hr' => by
      obtain ⟨_, hLC, _, hZl, _, hnil, _⟩ := hr r (by omega)
      cases hA : A r with
      | none => have := hnil hA; omega
      | some a' =>
        have hmem : Deep.intRow (H := H) .u8 (A r) (L r) (Z r) ∈ (List.range len).map fun r => Deep.intRow (H := H) .u8 (A r) (L r) (Z r) := List.mem_map.2 ⟨r, List.mem_range.2 hr', rfl⟩
        have hw1 := hsz (((lits (H := H) .u8 ((Z r).take (L r))).length + (lits (H := H) .u8 ((Z r).drop (L r))).length) * P.bytesOf q) (by
          rw [hd]
          simp only [DataW.weights, ht, List.mem_cons, List.mem_append]
          exact .inr (.inl (weightsAll_mem hmem _ (by simp [Deep.intRow, hA, DataW.weights, he]))))
        simp only [lits, List.length_map, List.length_take, List.length_drop, bq, reachBytes] at hw1
        omega
    refine ⟨(List.range len).map fun r => (((Z r).take (L r)).map fun z => UInt8.ofNat z.toNat), ⟨some a, cap, by simp, fun hn => ?_⟩, by simpa using hlenb, fun i hi => by
      simp only [List.length_map, List.length_range] at hi
      simp only [List.getElem_map, List.getElem_range, List.length_map, List.length_take]
      have := hrow i hi
      omega⟩
    simp only [List.length_map, List.length_range] at hn
    have spotless : ∀ (x : Addr) (u : Value), W.cell? (x.add 0) = some u → x.spot = none := fun x u h0 => by
      simp only [Addr.add, if_true, World.cell?] at h0
      split at h0
      · split at h0
        · cases h0
        · rename_i hns; simpa using hns
      · cases h0
    have h0 := (hr 0 (by omega)).1
    have hsp := spotless _ _ h0
    obtain ⟨b, off, sp⟩ := a
    simp only at hsp
    subst hsp
    have hb : b < W.heap.size := by
      have := World.block_lt_of_cell? W _ h0
      simpa [Addr.add] using this
    refine ⟨b, off, rfl, hb, by omega, fun i hi => ?_⟩
    simp only [List.length_map, List.length_range] at hi
    obtain ⟨hc, hLC, hCm, hZl, hwf, hnil, hcell⟩ := hr i (by omega)
    rw [addr_add] at hc
    have hlen : ((((List.range len).map fun r => (((Z r).take (L r)).map fun z => UInt8.ofNat z.toNat)))[i]'(by simpa using hi)).length = L i := by simp; omega
    have hs : Sl W W.heap.size (.slice (A i) (L i) (C i)) ((((List.range len).map fun r => (((Z r).take (L r)).map fun z => UInt8.ofNat z.toNat)))[i]'(by simpa using hi)) := by
      refine ⟨A i, C i, by rw [hlen], by omega, hCm, fun hpos => ?_⟩
      rw [hlen] at hpos
      cases hA : A i with
      | none => have := hnil hA; omega
      | some a' =>
        obtain ⟨_, hc'⟩ := hcell a' hA
        have g0 := hc' 0 (by omega)
        have hsp' := spotless _ _ g0
        obtain ⟨b', off', sp'⟩ := a'
        simp only at hsp'
        subst hsp'
        have hb' : b' < W.heap.size := by
          have := World.block_lt_of_cell? W _ g0
          simpa [Addr.add] using this
        refine ⟨b', off', rfl, hb', fun k hk => ?_⟩
        rw [hlen] at hk
        have g := hc' k (by omega)
        rw [addr_add] at g
        rw [g]
        have hkz : k < (Z i).length := by omega
        have hwk := wf_u8 (hwf (Z i)[k] (List.getElem_mem hkz))
        have hg : (Z i).getD k 0 = (Z i)[k] := by simp [List.getD, List.getElem?_eq_getElem hkz]
        have hu : ((UInt8.ofNat (Z i)[k].toNat).toNat : Int) = (Z i)[k] := by
          have : (UInt8.ofNat (Z i)[k].toNat).toNat = (Z i)[k].toNat := by simp; omega
          rw [this]; omega
        rw [hg]
        simp only [List.getElem_map, List.getElem_range, List.getElem_take]
        rw [hu]
    exact ⟨_, hc, hs, hs.off (Nat.le_refl _)⟩
end
theorem cells_sl : Tryd.prog.cellsOf 29 = 1 := by kernel_rfl
theorem bytes_sl : Tryd.prog.bytesOf 29 = 24 := by kernel_rfl
theorem cells_l25 : Tryd.prog.cellsOf 23 = 25 := by kernel_rfl
section
variable {H : Type} {enc : TypeId × Value → H}
theorem open_bss {W : World} {base : Nat} {v : Value} {d : DataW H} {ps : List MemPlace} (hval : Value.okWide Tryd.prog W .any base 27 v) (h : DataW.Trod enc Tryd.prog W 0 (fun _ => true) true 27 v d ps) (hsz : ∀ n ∈ d.weights Tryd.prog 27, n ≤ reachBytes) :
    ∃ bss : List (List UInt8), PartsO W W.heap.size W.heap.size v bss ∧ bss.length ≤ 281474976710656 ∧ ∀ i (h : i < bss.length), bss[i].length ≤ 281474976710656 := open_parts Tryd.underlying27 Tryd.underlying29 Tryd.underlying5 cells_sl cells_u8 hval h bytes_u8 bytes_sl hsz
theorem open_l25 {W : World} {base : Nat} {v : Value} {d : DataW H} {ps : List MemPlace} (hval : Value.okWide Tryd.prog W .any base 23 v) (h : DataW.Trod enc Tryd.prog W 0 (fun _ => true) true 23 v d ps) :
    ∃ l : List UInt64, l.length = 25 ∧ v = .agg (laneCells l).toArray := by
  obtain ⟨zs, rfl, hl, hwf⟩ := open_arr_ints Tryd.underlying23 Tryd.underlying22 cells_u64 cells_l25 hval h
  exact ⟨zs.map fun z => UInt64.ofNat z.toNat, by simpa using hl, by rw [lanes_of_ints zs hwf]⟩
theorem weights_le {P : Program} {ts : List TypeId} {ds : List (DataW H)} (h : (DataW.weightsEach P ts ds).all (· ≤ reachBytes) = true) {j : Nat} {t : TypeId} {d : DataW H} (ht : ts[j]? = some t) (hd : ds[j]? = some d) : ∀ n ∈ d.weights P t, n ≤ reachBytes := fun n hn => by
  have := List.all_eq_true.1 h _ (DataW.weights_mem_each ht hd n hn)
  simpa using this
end
end Go.Proofs.YtjondbamnbgiaaaDoor
