/-
  WALK: (*keccak.Xof).Clone of a made reader; a slice of turns that came in.
-/
import Derived.Test.YtjondbamnbgiaaaDoorOpen
import Derived.Test.YtjondbamnbgiaaaDoorXof
import Derived.Deep.SlicePairs
namespace Go.Proofs.YtjondbamnbgiaaaDoor
open Go.ChangeShapes Go.WideShapes Go.ChangeAt Go.RowKit
set_option maxRecDepth 100000

theorem info_xof : (Tryd.prog.info? 69).map (·.size) = some 29 := by kernel_rfl
theorem xof_oneCell (s : Sp) (rate cnt : Nat) : ∀ u ∈ spCells [.bool true] s rate [.int .i64 (cnt : Int)], u.oneCell' = true := by
  intro u hu
  simp only [spCells, List.mem_append, List.mem_cons, List.not_mem_nil, or_false] at hu
  rcases hu with rfl | hu | rfl | rfl | rfl
  · rfl
  · exact cell_oneLane _ u hu
  · rfl
  · rfl
  · rfl
def zero29L : List Value := spCells [.bool false] ⟨zeroL, 0⟩ 0 [.int .i64 0]
theorem xof_size (s : Sp) (rate cnt : Nat) (h : s.l.length = 25) : some 29 = some (spCells [.bool true] s rate [.int .i64 (cnt : Int)]).length := by rw [spCells_length, h]; rfl
/-- a reader like the first one is handed back, in a block of its own; nothing that was there has turned -/
def CloneIs (w : World) (s : Sp) (rate cnt : Nat) (e : Ending) (w' : World) : Prop := ∃ g, e = .returned (.pointer (some ⟨g, 0, none⟩)) ∧ w.heap.size ≤ g ∧ XofAt w' g s rate cnt ∧ Below w.heap.size w w'
theorem clone_any {w : World} {g : Nat} {s : Sp} {rate cnt : Nat} (h : XofAt w g s rate cnt) :
    Calls Tryd.prog 27 #[.pointer (some ⟨g, 0, none⟩)] w (CloneIs w s rate cnt) := by
  unfold CloneIs
  have hr := SpAt.row h
  have hl := SpAt.len h
  have hrA := hr.alloc (.cells zero29L.toArray 69)
  obtain ⟨N, hN⟩ : ∃ N, w.heap.size = N := ⟨_, rfl⟩
  have hrZ : Row (w.alloc (.cells zero29L.toArray 69)) N 69 zero29L := Row.new_ hN.symm rfl
  have hgl := hr.lt
  have hb0 : Below w.heap.size w (w.alloc (.cells zero29L.toArray 69)) := (Below.refl _ w).alloc (Nat.le_refl _) _
  go_enter Tryd.func27, Tryd.ntmps27
  go_wp2_with (go_at_call 38; refine (isMade_yes h).mono ?_)
  rintro e wK ⟨rfl, rfl⟩
  go_wp2_with (first
    | refine wpList_load_any rfl 69 (.tmp 8) rfl g rfl 69 (spCells [.bool true] s rate [.int .i64 (cnt : Int)]) _ hr Tryd.underlying69 rfl (info_xof.trans (xof_size s rate cnt hl)) ?_
    | refine wpList_store_any rfl 69 (.tmp 3) (.tmp 9) rfl N rfl (spCells [.bool true] s rate [.int .i64 (cnt : Int)]) rfl 69 _ hrZ (info_xof.trans (xof_size s rate cnt hl)) (by rw [spCells_length, hl]; rfl) (xof_oneCell s rate cnt) ?_)
  intro w2 hr2 b2 _
  have hb2 := hb0.trans (b2.under (by omega) (by omega))
  go_wp2
  go_ret
  exact ⟨N, rfl, by omega, ⟨hr2, rfl, hl⟩, hb2⟩

/-- the slice value v reads as the turns ts -/
def Turns (w : World) (B : Nat) (v : Value) (ts : List (Int × Bool)) : Prop :=
  ∃ A c, v = .slice A ts.length c ∧ ts.length ≤ c ∧ c ≤ maxLen ∧ (0 < ts.length → ∃ b off, A = some ⟨b, off, none⟩ ∧ b < B ∧ ∀ k (h : k < ts.length), w.cell? ⟨b, off + k * 2, none⟩ = some (.int .i64 ts[k].1) ∧ w.cell? ⟨b, off + k * 2 + 1, none⟩ = some (.bool ts[k].2))
theorem Turns.below {w w' : World} {B : Nat} {v : Value} {ts : List (Int × Bool)} (h : Turns w B v ts) (hb : Below B w w') : Turns w' B v ts := by
  obtain ⟨A, c, hv, h1, h2, hc⟩ := h
  refine ⟨A, c, hv, h1, h2, fun hn => ?_⟩
  obtain ⟨b, off, hA, hbb, hr⟩ := hc hn
  exact ⟨b, off, hA, hbb, fun k hk => ⟨(hb.cell (p := ⟨b, off + k * 2, none⟩) hbb).trans (hr k hk).1, (hb.cell (p := ⟨b, off + k * 2 + 1, none⟩) hbb).trans (hr k hk).2⟩⟩
def boolAt : Value → Bool
  | .bool b => b
  | _ => false
theorem cells_turn : Tryd.prog.cellsOf 47 = 2 := by kernel_rfl
theorem cells_int : Tryd.prog.cellsOf 3 = 1 := by kernel_rfl
theorem trod_boolv {H : Type} {enc : TypeId × Value → H} {P : Program} {w : World} {base : Nat} {spare : Nat → Bool} {held : Bool} {t : TypeId} {fuel : Nat} {v : Value} {x : DataW H × List MemPlace} (ht : P.underlying t = some .bool) (h : DataW.trod enc P w base spare held fuel t [v] = some x) : ∃ b, v = .bool b := by
  cases fuel with
  | zero => simp [DataW.trod] at h
  | succ m =>
    rw [DataW.trod_step] at h
    unfold DataW.trodStep at h
    simp only [ht] at h
    cases v <;> simp at h
    exact ⟨_, rfl⟩
section
variable {H : Type} {enc : TypeId × Value → H}
theorem open_turns {W : World} {base : Nat} {v : Value} {d : DataW H} {ps : List MemPlace} (hval : Value.okWide Tryd.prog W .any base 42 v) (h : DataW.Trod enc Tryd.prog W 0 (fun _ => true) true 42 v d ps) :
    ∃ ts : List (Int × Bool), Turns W W.heap.size v ts ∧ ts.length ≤ 9223372036854775807 := by
  obtain ⟨a0, len, cap, rfl⟩ := okWide_slice Tryd.underlying42 hval
  obtain ⟨fuel, hf⟩ := h
  rcases Deep.open_slice_pairs Tryd.underlying42 Tryd.underlying47 cells_turn rfl rfl cells_int cells_bool hf with ⟨hcs, _⟩ | ⟨a, len', cap', m, n, V0, V1, D0, D1, P0, P1, hcs, _, hl, hm, hmm, _, hr⟩
  · simp [Value.cells] at hcs
    obtain ⟨rfl, rfl, rfl⟩ := hcs
    exact ⟨[], ⟨none, 0, rfl, Nat.le_refl _, by unfold maxLen; omega, fun h => by cases h⟩, by decide⟩
  · simp [Value.cells] at hcs
    obtain ⟨rfl, rfl, rfl⟩ := hcs
    simp only [if_true] at hmm
    subst hmm
    refine ⟨(List.range len).map fun i => (intAt (V0 i), boolAt (V1 i)), ⟨some a, m, by simp, by simpa using hl, hm, fun hn => ?_⟩, by unfold maxLen at hm; simp only [List.length_map, List.length_range]; omega⟩
    simp only [List.length_map, List.length_range] at hn
    have h0 := (hr 0 (by omega)).1
    have hsp : a.spot = none := by
      rw [Nat.zero_mul] at h0
      simp only [Addr.add, if_true, World.cell?] at h0
      split at h0
      · split at h0
        · cases h0
        · rename_i hns; simpa using hns
      · cases h0
    obtain ⟨b, off, sp⟩ := a
    simp only at hsp
    subst hsp
    have hb : b < W.heap.size := by
      have := World.block_lt_of_cell? W _ h0
      simpa [Addr.add] using this
    refine ⟨b, off, rfl, hb, fun k hk => ?_⟩
    simp only [List.length_map, List.length_range] at hk
    obtain ⟨hc0, hc1, ht0, ht1⟩ := hr k (by omega)
    obtain ⟨z, hz, _⟩ := DataW.trod_int Tryd.underlying3 ht0
    obtain ⟨bo, hbo⟩ := trod_boolv Tryd.underlying4 ht1
    simp only [List.cons.injEq, and_true] at hz
    rw [addr_add] at hc0 hc1
    simp only [List.getElem_map, List.getElem_range]
    rw [hc0, show off + k * 2 + 1 = off + (k * 2 + 1) by omega, hc1, hz, hbo]
    exact ⟨rfl, rfl⟩
end
end Go.Proofs.YtjondbamnbgiaaaDoor
