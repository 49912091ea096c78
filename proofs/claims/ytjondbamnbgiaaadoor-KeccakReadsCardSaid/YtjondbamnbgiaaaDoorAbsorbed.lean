/-
  WALK: keccak.absorbed.
-/
import Derived.Test.YtjondbamnbgiaaaDoorAbsorb
namespace Go.Proofs.YtjondbamnbgiaaaDoor
open Go.RowKit
set_option maxRecDepth 100000

theorem info_sp : (Tryd.prog.info? 64).map (·.size) = some 27 := by kernel_rfl
/-- a sponge is handed back; nothing that was there has turned -/
def SpongeIs (w : World) (s : Sp) (rate : Nat) (e : Ending) (w' : World) : Prop := e = .returned (.agg (spCells [] s rate []).toArray) ∧ Below w.heap.size w w'
theorem sp_oneCell (s : Sp) (rate : Nat) : ∀ u ∈ spCells [] s rate [], u.oneCell' = true := by
  intro u hu
  simp only [spCells, List.nil_append, List.mem_append, List.mem_cons, List.not_mem_nil, or_false] at hu
  rcases hu with hu | rfl | rfl
  · exact cell_oneLane _ u hu
  · rfl
  · rfl
theorem zero27 : (#[.int .u64 0, .int .u64 0, .int .u64 0, .int .u64 0, .int .u64 0, .int .u64 0, .int .u64 0, .int .u64 0, .int .u64 0, .int .u64 0, .int .u64 0, .int .u64 0, .int .u64 0, .int .u64 0, .int .u64 0, .int .u64 0, .int .u64 0, .int .u64 0, .int .u64 0, .int .u64 0, .int .u64 0, .int .u64 0, .int .u64 0, .int .u64 0, .int .u64 0, .int .i64 0, .int .i64 0] : Array Value) = (spCells [] ⟨zeroL, 0⟩ 0 []).toArray := by rfl
theorem zero_len : zeroL.length = 25 := rfl

theorem SpAt.of_row {w : World} {g : Nat} {T : TypeId} {s : Sp} {rate : Nat} (h : Row w g T (spCells [] s rate [])) (hl : s.l.length = 25) : SpAt w g 0 T [] s rate [] := ⟨h, rfl, hl⟩
theorem Sp.puts_flat (rate : Nat) (s : Sp) (bss : List (List UInt8)) (k : Nat) (h : k < bss.length) : s.puts rate (bss.take (k + 1)).flatten = (s.puts rate (bss.take k).flatten).puts rate bss[k] := by
  rw [List.take_succ_eq_append_getElem h, List.flatten_append, Sp.puts_append]
  simp only [List.flatten_cons, List.flatten_nil, List.append_nil]
theorem spCells_size (s : Sp) (rate : Nat) (h : s.l.length = 25) : some 27 = some (spCells [] s rate []).length := by rw [spCells_length, h]; rfl
theorem absorbL_eq (rate : Nat) (suf : UInt8) (m : List UInt8) (s : Sp) (h : s = ((Sp.mk zeroL 0).puts rate m).puts rate [suf]) : absorbL rate suf m = ⟨maskL s.l (rate - 1) 128, rate⟩ := by rw [h, ← Sp.puts_append]; rfl

set_option maxHeartbeats 1000000 in
theorem absorbed_any (rate : Nat) (hr : 0 < rate) (hr2 : rate ≤ 200) (suf : UInt8) (bss : List (List UInt8)) (hbl : bss.length ≤ 1000000) (B : Nat) (v : Value) (w : World) (hp : PartsO w B B v bss) (hB : B ≤ w.heap.size) (hv : Vars w) :
    Calls Tryd.prog 35 #[.int .i64 (rate : Int), .int .u8 (suf.toNat : Int), v] w (SpongeIs w (absorbL rate suf bss.flatten) rate) := by
  unfold SpongeIs
  obtain ⟨A, c, rfl⟩ := hp.form
  have hpos := hv.pos
  generalize hn0 : w.heap.size = n0 at *
  go_enter Tryd.func35, Tryd.ntmps35
  go_wp2_with (first
    | refine wpList_build_eq rfl 64 _ rfl (spCells [] ⟨zeroL, 0⟩ rate []).toArray (by kernel_rfl) ?_
    | refine wpList_store_any rfl 64 (.tmp 7) (.tmp 11) rfl (n0 + 1) rfl (spCells [] ⟨zeroL, 0⟩ rate []) rfl 64 (spCells [] ⟨zeroL, 0⟩ 0 []) (Row.new_ (by rw [asz, hn0]) zero27) (info_sp.trans (spCells_size _ _ rfl)) rfl (sp_oneCell _ _) ?_)
  intro w2 hr4 bt hs2
  have h4 := SpAt.of_row hr4 zero_len
  have hrA : Row w2 n0 64 (spCells [] ⟨zeroL, 0⟩ 0 []) := bt.row ((Row.new_ hn0.symm zero27).alloc _) (by omega) (by omega)
  have hbel : Below n0 w w2 := (((Below.refl n0 w).alloc (by omega) _).alloc (by rw [asz]; omega) _).trans (bt.under (by omega) (by omega))
  have hv2 : Vars w2 := hv.under hbel hpos
  clear hr4 bt hs2
  go_wp2
  go_loopw [9, 14] (fun _ i wr => ∃ k : Nat, k ≤ bss.length ∧ i = .int .i64 k ∧ SpAt wr (n0 + 1) 0 64 [] ((Sp.mk zeroL 0).puts rate (bss.take k).flatten) rate [] ∧ Row wr n0 64 (spCells [] ⟨zeroL, 0⟩ 0 []) ∧ Vars wr ∧ Below n0 w wr) (fun _ i _ => bss.length - (intOf i).toNat)
  case atStart => exact ⟨0, Nat.zero_le _, rfl, h4, hrA, hv2, hbel⟩
  case round =>
    clear h4 hrA hv2 hbel
    obtain ⟨k, hk, rfl, hh, hrA, hv2, hbel⟩ := hrel
    have hlr := hh.lt
    by_cases hlt : k < bss.length
    · have hpr := hp.below (hbel.mono hB)
      obtain ⟨q, off, rfl, hq, hqg, hc⟩ := hpr.at_ (by omega)
      obtain ⟨u, hu, hs, ho⟩ := hc k hlt
      have HF := Lib.hid (Sp.puts_flat rate (Sp.mk zeroL 0) bss k hlt)
      have hat := Sp.puts_at rate hr (bss.take k).flatten (Sp.mk zeroL 0) (Nat.zero_le _)
      clear hpr hc
      generalize bss[k] = bk at *
      generalize (Sp.mk zeroL 0).puts rate (bss.take k).flatten = sk at *
      go_wp2_with (go_at_call 42; refine (absorb_any hh hv2 (by omega) hat hr hr2 bk B u hs (by omega) (hs.off (by omega))).mono ?_)
      rintro e w3 ⟨rfl, hh2, hb2⟩
      rw [← HF.out] at hh2
      go_wp2
      go_roundw
      case rel => exact ⟨k + 1, by omega, by go_num, hh2, hb2.row hrA (by omega) (by omega), hv2.but hb2 (by omega), hbel.trans (hb2.under (by omega) (by omega))⟩
      case measure => simp [intOf]; omega
    · obtain rfl : k = bss.length := by omega
      rw [List.take_length] at hh
      have hat := Sp.puts_at rate hr bss.flatten (Sp.mk zeroL 0) (Nat.zero_le _)
      have HA := Lib.hid (absorbL_eq rate suf bss.flatten _ rfl)
      generalize (Sp.mk zeroL 0).puts rate bss.flatten = sk at *
      have hbA : Below wr.heap.size wr (wr.alloc (.cells #[.int .u8 (suf.toNat : Int)] 5)) := (Below.refl _ _).alloc (Nat.le_refl _) _
      have hhA := hh.below hbA
      have hvA := hv2.step hbA
      have hbelA := hbel.trans (hbA.mono (Nat.le_of_lt (Nat.lt_trans (Nat.lt_succ_self n0) hlr)))
      have hrB := hrA.alloc (.cells #[.int .u8 (suf.toNat : Int)] 5)
      have hsl : Sl (wr.alloc (.cells #[.int .u8 (suf.toNat : Int)] 5)) (wr.heap.size + 1) (.slice (some ⟨wr.heap.size, 0, none⟩) 1 1) [suf] := Sl.of_bytes (T := 5) (Row.new_ rfl rfl) (by omega) rfl (by omega)
      have hq1 : (rate : Int) - 1 = ((rate - 1 : Nat) : Int) := by omega
      clear hh hv2 hbel hrA hbA
      go_wp2_with (go_at_call 42; refine (absorb_any hhA hvA (by omega) hat hr hr2 [suf] (wr.heap.size + 1) _ hsl (by rw [asz]; omega) (Off.at_ (by omega))).mono ?_)
      rintro e w3 ⟨rfl, hh3, hb3⟩
      rw [asz] at hb3
      have hrC := hb3.row hrB (by omega) (by omega)
      have hbel3 := hbelA.trans (hb3.under (by omega) (by omega))
      have hlr3 := hh3.lt
      clear hhA hvA hbelA hrB hsl hb3
      go_wp2_with (go_at_call 43; refine (mask_any hh3 (rate - 1) (by omega) 128).mono ?_)
      rintro e w4 ⟨rfl, hh4, hb4⟩
      have hrD := hb4.row hrC (by omega) (by omega)
      have hbel4 := hbel3.trans (hb4.under (by omega) (by omega))
      have hca : w4.cell? ⟨n0 + 1, 26, none⟩ = _ := hh4.at_cell
      have hfa := hh4.free 26
      have hlr4 := hh4.lt
      have h5 := hh4.setAt rate
      have hrE := hrD.other ⟨n0 + 1, 26, none⟩ (.int .i64 (rate : Int)) (by show n0 ≠ n0 + 1; omega)
      have hbel5 := hbel4.setCell (p := ⟨n0 + 1, 26, none⟩) (Nat.le_succ n0) (.int .i64 (rate : Int))
      clear hh3 hh4 hb4 hbel3 hbel4 hrC hrD
      go_wp2_with (first
        | refine wpList_load_any rfl 64 (.tmp 7) rfl (n0 + 1) rfl 64 (spCells [] _ rate []) _ h5.row Tryd.underlying64 rfl (info_sp.trans (spCells_size _ _ h5.len)) ?_
        | refine wpList_store_any rfl 64 (.tmp 6) (.tmp 29) rfl n0 rfl (spCells [] _ rate []) rfl 64 _ hrE (info_sp.trans (spCells_size _ _ h5.len)) ((Option.some.inj ((spCells_size _ _ zero_len).symm.trans (spCells_size _ _ h5.len)))) (sp_oneCell _ _) ?_)
      intro w9 hr9 b9 _
      have hb9 := hbel5.trans (b9.under (by omega) (Nat.le_refl _))
      go_wp2
      exact ret_row Tryd.results35 rfl rfl hr9 Tryd.underlying64 rfl (info_sp.trans (spCells_size _ _ h5.len)) ⟨by rw [HA.out], hb9⟩
end Go.Proofs.YtjondbamnbgiaaaDoor
