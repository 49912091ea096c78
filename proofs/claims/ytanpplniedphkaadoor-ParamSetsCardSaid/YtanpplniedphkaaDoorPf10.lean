/-
  WALKS: the head of a name; Code; the laws' codes.
-/
import Derived.Test.YtanpplniedphkaaDoorPf9
namespace Go.Proofs.YtanpplniedphkaaDoor
open Go.RowKit Go.Shelf
set_option maxRecDepth 100000
def headGo (s : ByteArray) : Nat → Nat → ByteArray
  | 0, _ => ⟨#[]⟩
  | f + 1, pos => if pos < s.size then (if (Utf8.decode s pos).1 = 95 ∨ (Utf8.decode s pos).1 = 45 then s.extract 0 (pos + 1) else headGo s f (pos + (Utf8.decode s pos).2)) else ⟨#[]⟩
/-- a name up to its first separator, with that -/
def headB (s : ByteArray) : ByteArray := headGo s (s.size + 1) 0
theorem decode_pos (s : ByteArray) (pos : Nat) (h : pos < s.size) : 1 ≤ (Utf8.decode s pos).2 := by
  by_cases ha : (s[pos]'h).toNat < 128
  · rw [decode_ascii s pos h ha]; exact Nat.le_refl _
  · exact (decode_high s pos h (by omega)).2
theorem headGo_end (s : ByteArray) (f pos : Nat) (h : ¬ pos < s.size) : headGo s f pos = ⟨#[]⟩ := by
  cases f with
  | zero => rfl
  | succ f => unfold headGo; rw [if_neg h]
set_option maxHeartbeats 1000000 in
theorem headOf_any (s : ByteArray) (hl : s.size ≤ 1000) (w : World) : Calls Tryd.prog 75 #[.string s] w (OldIs (.string (headB s)) w) := by
  unfold OldIs
  obtain ⟨N, hN⟩ : ∃ N, headB s = N := ⟨_, rfl⟩
  rw [hN]
  have HN : Shh (headGo s (s.size + 1) 0 = N) := ⟨hN⟩
  clear hN
  go_enter Tryd.func75, Tryd.ntmps75
  go_wp2
  go_loopw [3, 4] (fun _ _ wr => ∃ (pos f : Nat), wr.heap[w.heap.size]? = some (.stringIter s pos) ∧ Below w.heap.size w wr ∧ Shh (headGo s f pos = N ∧ s.size < pos + f)) (fun _ _ wr => s.size - wr.iterPos w.heap.size)
  case atStart => exact ⟨0, s.size + 1, World.iter_heap w s 0, (Below.refl _ w).alloc (Nat.le_refl _) _, HN.out, by omega⟩
  case round =>
    clear HN
    obtain ⟨pos, f, hit, hbel, HG⟩ := hrel
    by_cases hp : pos < s.size
    · have hnx : ∀ ty, (Instr.next (.pointer (some ⟨w.heap.size, 0, none⟩)) true ty).run Tryd.prog wr = _ := fun ty => Lib.run_next_any_at wr w.heap.size s pos ty hit hp
      have hwd := decode_pos s pos hp
      have hit2 := Lib.iterAt_heap wr w.heap.size s pos (pos + (Utf8.decode s pos).2) hit
      have hbel2 := Lib.below_iterAt hbel (k := w.heap.size) (by omega) s (pos + (Utf8.decode s pos).2)
      obtain ⟨g, hg⟩ : ∃ g, f = g + 1 := ⟨f - 1, by have := HG.out.2; omega⟩
      have HS : Shh ((if (Utf8.decode s pos).1 = 95 ∨ (Utf8.decode s pos).1 = 45 then s.extract 0 (pos + 1) else headGo s g (pos + (Utf8.decode s pos).2)) = N) := ⟨by
        have h := HG.out.1
        rw [hg] at h
        unfold headGo at h
        rw [if_pos hp] at h
        exact h⟩
      have HF : Shh (s.size < (pos + (Utf8.decode s pos).2) + g) := ⟨by have := HG.out.2; omega⟩
      obtain ⟨r, hr⟩ : ∃ r, (Utf8.decode s pos).1 = r := ⟨_, rfl⟩
      obtain ⟨d, hd⟩ : ∃ d, (Utf8.decode s pos).2 = d := ⟨_, rfl⟩
      rw [hr] at hnx HS
      rw [hd] at hnx HS HF hit2 hbel2 hwd
      have HIT := Shh.mk hit
      have HIT2 := Shh.mk hit2
      clear hit hit2 HG hg hr hd
      by_cases h1 : r = 95
      · have HS2 : Shh (s.extract 0 (pos + 1) = N) := ⟨by have h := HS.out; rw [if_pos (.inl h1)] at h; exact h⟩
        have ee : ((r : Int) == 95) = true := by simp [h1]
        clear HS h1 HF
        go_wp2
        go_ret
        exact ⟨by rw [← HS2.out]; rfl, hbel2⟩
      · by_cases h2 : r = 45
        · have HS2 : Shh (s.extract 0 (pos + 1) = N) := ⟨by have h := HS.out; rw [if_pos (.inr h2)] at h; exact h⟩
          have ee : ((r : Int) == 95) = false := by simp; omega
          have ee2 : ((r : Int) == 45) = true := by simp [h2]
          clear HS h1 h2 HF
          go_wp2
          go_ret
          exact ⟨by rw [← HS2.out]; rfl, hbel2⟩
        · have HS2 : Shh (headGo s g (pos + d) = N ∧ s.size < pos + d + g) := ⟨by have h := HS.out; rw [if_neg (by omega)] at h; exact ⟨h, HF.out⟩⟩
          have ee : ((r : Int) == 95) = false := by simp; omega
          have ee2 : ((r : Int) == 45) = false := by simp; omega
          clear HS h1 h2 HF
          go_wp2
          go_roundw
          case rel => exact ⟨pos + d, g, HIT2.out, hbel2, HS2⟩
          case measure =>
            simp only [World.iterPos, HIT2.out, HIT.out]
            omega
    · have hnx : ∀ ty, (Instr.next (.pointer (some ⟨w.heap.size, 0, none⟩)) true ty).run Tryd.prog wr = _ := fun ty => Lib.run_next_end_at wr w.heap.size s pos ty hit hp
      have HS : Shh ((⟨#[]⟩ : ByteArray) = N) := ⟨by rw [← HG.out.1, headGo_end s f pos hp]⟩
      clear HG
      go_wp2
      go_ret
      exact ⟨by rw [← HS.out]; rfl, hbel⟩
theorem kO : (upC okO [0] 64).map (·.1) = rL okO := by decide +kernel
theorem kL : (upC okL [0, 4026531840] 128).map (·.1) = rL okL := by decide +kernel
theorem kX : (upC okX [0, 4043309056] 128).map (·.1) = rL okX := by decide +kernel
def codeV (name : ByteArray) : Value := if headB name = (⟨#[76, 77, 79, 84, 83, 95]⟩ : ByteArray) then cdV 1 (rL okO) name else if headB name = (⟨#[76, 77, 83, 95]⟩ : ByteArray) then cdV 2 (rL okL) name else if headB name = (⟨#[88, 77, 83, 83, 45]⟩ : ByteArray) then cdV 3 (rL okX) name else .tuple #[.int .i64 0, .int .u32 0, .int .i64 60]
def kN (kind : Int) : List Nat := if kind = 1 then rL okO else if kind = 2 then rL okL else if kind = 3 then rL okX else []
theorem cdV_form (kind : Int) (l : List Nat) (name : ByteArray) : ∃ (a : Int) (b : Nat) (c : Int), cdV kind l name = .tuple #[.int .i64 a, .int .u32 (b : Int), .int .i64 c] := by
  unfold cdV
  split
  · exact ⟨_, _, _, rfl⟩
  · exact ⟨0, 0, 60, rfl⟩
theorem codes6_1 (most : Int) (w : World) : Calls Tryd.prog 27 #[.int .i64 1, .int .i64 most] w (SeeIs w ((rL okO).take most.toNat)) := by
  unfold SeeIs
  go_enter Tryd.func27, Tryd.ntmps27
  go_wp2_with (go_at_call 72; refine (codesOfOts _).mono ?_)
  unfold ItIs
  rintro e w2 ⟨v, rfl, hi, b2⟩
  obtain ⟨lb, rfl, hs⟩ := stopsOts v w2 hi
  have F := Shh.mk (And.intro hs b2)
  clear hi hs b2
  go_wp2_with (go_at_call 71; refine (told_of _ lb _ most _ (fun _ _ => rfl) F.out.1 (Nat.le_trans upC_length (by decide))).mono ?_)
  unfold ToldIs
  rintro e w3 ⟨v, rfl, ho, b3⟩
  have F2 : Shh (SU w3 v ((rL okO).take most.toNat) ∧ Below w.heap.size w w3) := ⟨by rw [← kO, ← List.map_take]; exact SU.of_own ho, Below.chain F.out.2 b3⟩
  clear ho b3 F
  go_wp2
  go_ret
  exact ⟨_, rfl, F2.out.1, F2.out.2⟩
theorem code_1 (name : ByteArray) (hl : name.size ≤ 1000) (hh : headB name = (⟨#[76, 77, 79, 84, 83, 95]⟩ : ByteArray)) (w : World) (hp : Pow w) : Calls Tryd.prog 28 #[.string name] w (OldIs (cdV 1 (rL okO) name) w) := by
  unfold OldIs
  have HP := Shh.mk hp
  obtain ⟨a, b, c, hv⟩ := cdV_form 1 (rL okO) name
  have HV := Shh.mk hv
  have hq := fun W => headOf_any name hl W
  rw [hh] at hq
  rw [hv]
  clear hp hv hh hl
  go_enter Tryd.func28, Tryd.ntmps28
  go_wp2_with (go_at_call 75; refine (hq _).mono ?_)
  unfold OldIs
  rintro e w1 ⟨rfl, b1⟩
  have F0 := Shh.mk b1
  clear b1 hq
  go_wp2_with (go_at_call 72; refine (codesOfOts _).mono ?_)
  unfold ItIs
  rintro e w2 ⟨v, rfl, hi, b2⟩
  obtain ⟨lb, rfl, hs⟩ := stopsOts v w2 hi
  have F := Shh.mk (And.intro hs (And.intro (Below.chain F0.out b2) (HP.out.go (Below.chain F0.out b2))))
  clear hi hs b2 F0 HP
  go_wp2_with (go_at_call 76; refine (named_of _ lb _ 1 name _ F.out.2.2 (fun _ _ => rfl) F.out.1).mono ?_)
  unfold OldIs
  rw [kO, HV.out]
  rintro e w3 ⟨rfl, b3⟩
  have F2 := Shh.mk (Below.chain F.out.2.1 b3)
  clear b3 F
  go_wp2
  go_ret3
  exact ⟨rfl, F2.out⟩
theorem codes6_2 (most : Int) (w : World) : Calls Tryd.prog 27 #[.int .i64 2, .int .i64 most] w (SeeIs w ((rL okL).take most.toNat)) := by
  unfold SeeIs
  go_enter Tryd.func27, Tryd.ntmps27
  go_wp2_with (go_at_call 73; refine (codesOfLms _).mono ?_)
  unfold ItIs
  rintro e w2 ⟨v, rfl, hi, b2⟩
  obtain ⟨lb, rfl, hs⟩ := stopsLms v w2 hi
  have F := Shh.mk (And.intro hs b2)
  clear hi hs b2
  go_wp2_with (go_at_call 71; refine (told_of _ lb _ most _ (fun _ _ => rfl) F.out.1 (Nat.le_trans upC_length (by decide))).mono ?_)
  unfold ToldIs
  rintro e w3 ⟨v, rfl, ho, b3⟩
  have F2 : Shh (SU w3 v ((rL okL).take most.toNat) ∧ Below w.heap.size w w3) := ⟨by rw [← kL, ← List.map_take]; exact SU.of_own ho, Below.chain F.out.2 b3⟩
  clear ho b3 F
  go_wp2
  go_ret
  exact ⟨_, rfl, F2.out.1, F2.out.2⟩
theorem code_2 (name : ByteArray) (hl : name.size ≤ 1000) (hh : headB name = (⟨#[76, 77, 83, 95]⟩ : ByteArray)) (w : World) (hp : Pow w) : Calls Tryd.prog 28 #[.string name] w (OldIs (cdV 2 (rL okL) name) w) := by
  unfold OldIs
  have HP := Shh.mk hp
  obtain ⟨a, b, c, hv⟩ := cdV_form 2 (rL okL) name
  have HV := Shh.mk hv
  have hq := fun W => headOf_any name hl W
  rw [hh] at hq
  rw [hv]
  clear hp hv hh hl
  go_enter Tryd.func28, Tryd.ntmps28
  go_wp2_with (go_at_call 75; refine (hq _).mono ?_)
  unfold OldIs
  rintro e w1 ⟨rfl, b1⟩
  have F0 := Shh.mk b1
  clear b1 hq
  go_wp2_with (go_at_call 73; refine (codesOfLms _).mono ?_)
  unfold ItIs
  rintro e w2 ⟨v, rfl, hi, b2⟩
  obtain ⟨lb, rfl, hs⟩ := stopsLms v w2 hi
  have F := Shh.mk (And.intro hs (And.intro (Below.chain F0.out b2) (HP.out.go (Below.chain F0.out b2))))
  clear hi hs b2 F0 HP
  go_wp2_with (go_at_call 76; refine (named_of _ lb _ 2 name _ F.out.2.2 (fun _ _ => rfl) F.out.1).mono ?_)
  unfold OldIs
  rw [kL, HV.out]
  rintro e w3 ⟨rfl, b3⟩
  have F2 := Shh.mk (Below.chain F.out.2.1 b3)
  clear b3 F
  go_wp2
  go_ret3
  exact ⟨rfl, F2.out⟩
theorem codes6_3 (most : Int) (w : World) : Calls Tryd.prog 27 #[.int .i64 3, .int .i64 most] w (SeeIs w ((rL okX).take most.toNat)) := by
  unfold SeeIs
  go_enter Tryd.func27, Tryd.ntmps27
  go_wp2_with (go_at_call 74; refine (codesOfXmss _).mono ?_)
  unfold ItIs
  rintro e w2 ⟨v, rfl, hi, b2⟩
  obtain ⟨lb, rfl, hs⟩ := stopsXmss v w2 hi
  have F := Shh.mk (And.intro hs b2)
  clear hi hs b2
  go_wp2_with (go_at_call 71; refine (told_of _ lb _ most _ (fun _ _ => rfl) F.out.1 (Nat.le_trans upC_length (by decide))).mono ?_)
  unfold ToldIs
  rintro e w3 ⟨v, rfl, ho, b3⟩
  have F2 : Shh (SU w3 v ((rL okX).take most.toNat) ∧ Below w.heap.size w w3) := ⟨by rw [← kX, ← List.map_take]; exact SU.of_own ho, Below.chain F.out.2 b3⟩
  clear ho b3 F
  go_wp2
  go_ret
  exact ⟨_, rfl, F2.out.1, F2.out.2⟩
theorem code_3 (name : ByteArray) (hl : name.size ≤ 1000) (hh : headB name = (⟨#[88, 77, 83, 83, 45]⟩ : ByteArray)) (w : World) (hp : Pow w) : Calls Tryd.prog 28 #[.string name] w (OldIs (cdV 3 (rL okX) name) w) := by
  unfold OldIs
  have HP := Shh.mk hp
  obtain ⟨a, b, c, hv⟩ := cdV_form 3 (rL okX) name
  have HV := Shh.mk hv
  have hq := fun W => headOf_any name hl W
  rw [hh] at hq
  rw [hv]
  clear hp hv hh hl
  go_enter Tryd.func28, Tryd.ntmps28
  go_wp2_with (go_at_call 75; refine (hq _).mono ?_)
  unfold OldIs
  rintro e w1 ⟨rfl, b1⟩
  have F0 := Shh.mk b1
  clear b1 hq
  go_wp2_with (go_at_call 74; refine (codesOfXmss _).mono ?_)
  unfold ItIs
  rintro e w2 ⟨v, rfl, hi, b2⟩
  obtain ⟨lb, rfl, hs⟩ := stopsXmss v w2 hi
  have F := Shh.mk (And.intro hs (And.intro (Below.chain F0.out b2) (HP.out.go (Below.chain F0.out b2))))
  clear hi hs b2 F0 HP
  go_wp2_with (go_at_call 76; refine (named_of _ lb _ 3 name _ F.out.2.2 (fun _ _ => rfl) F.out.1).mono ?_)
  unfold OldIs
  rw [kX, HV.out]
  rintro e w3 ⟨rfl, b3⟩
  have F2 := Shh.mk (Below.chain F.out.2.1 b3)
  clear b3 F
  go_wp2
  go_ret3
  exact ⟨rfl, F2.out⟩
theorem code_no (name : ByteArray) (hl : name.size ≤ 1000) (h1 : headB name ≠ (⟨#[76, 77, 79, 84, 83, 95]⟩ : ByteArray)) (h2 : headB name ≠ (⟨#[76, 77, 83, 95]⟩ : ByteArray)) (h3 : headB name ≠ (⟨#[88, 77, 83, 83, 45]⟩ : ByteArray)) (w : World) : Calls Tryd.prog 28 #[.string name] w (OldIs (.tuple #[.int .i64 0, .int .u32 0, .int .i64 60]) w) := by
  unfold OldIs
  have hq := fun W => headOf_any name hl W
  obtain ⟨hb, hh⟩ : ∃ hb, headB name = hb := ⟨_, rfl⟩
  rw [hh] at hq h1 h2 h3
  have e1 : (hb.toList == [76, 77, 79, 84, 83, 95]) = false := by rw [show ([76, 77, 79, 84, 83, 95] : List UInt8) = (⟨#[76, 77, 79, 84, 83, 95]⟩ : ByteArray).toList by rw [ByteArray.toList_eq], str_eq]; exact decide_eq_false h1
  have e2 : (hb.toList == [76, 77, 83, 95]) = false := by rw [show ([76, 77, 83, 95] : List UInt8) = (⟨#[76, 77, 83, 95]⟩ : ByteArray).toList by rw [ByteArray.toList_eq], str_eq]; exact decide_eq_false h2
  have e3 : (hb.toList == [88, 77, 83, 83, 45]) = false := by rw [show ([88, 77, 83, 83, 45] : List UInt8) = (⟨#[88, 77, 83, 83, 45]⟩ : ByteArray).toList by rw [ByteArray.toList_eq], str_eq]; exact decide_eq_false h3
  clear h1 h2 h3 hh hl
  go_enter Tryd.func28, Tryd.ntmps28
  go_wp2_with (go_at_call 75; refine (hq _).mono ?_)
  unfold OldIs
  rintro e w1 ⟨rfl, b1⟩
  have F0 := Shh.mk b1
  clear b1 hq
  go_wp2
  go_ret3
  exact ⟨rfl, F0.out⟩
theorem codes6_any (kind most : Int) (w : World) (h : 1 ≤ kind ∧ kind ≤ 3) : Calls Tryd.prog 27 #[.int .i64 kind, .int .i64 most] w (SeeIs w ((kN kind).take most.toNat)) := by
  rcases (by omega : kind = 1 ∨ kind = 2 ∨ kind = 3) with rfl | rfl | rfl
  · exact codes6_1 most w
  · exact codes6_2 most w
  · exact codes6_3 most w
theorem codes6_no (kind most : Int) (w : World) (h1 : kind ≠ 1) (h2 : kind ≠ 2) (h3 : kind ≠ 3) : Calls Tryd.prog 27 #[.int .i64 kind, .int .i64 most] w (SeeIs w []) := by
  unfold SeeIs
  have e1 : (kind == 1) = false := by simpa using h1
  have e2 : (kind == 2) = false := by simpa using h2
  have e3 : (kind == 3) = false := by simpa using h3
  clear h1 h2 h3
  go_enter Tryd.func27, Tryd.ntmps27
  go_wp2
  go_ret
  exact ⟨_, rfl, ⟨none, 0, rfl, .inl ⟨rfl, rfl, rfl⟩⟩, Below.refl _ _⟩
theorem code_any (name : ByteArray) (hl : name.size ≤ 1000) (w : World) (hp : Pow w) : Calls Tryd.prog 28 #[.string name] w (OldIs (codeV name) w) := by
  unfold codeV
  by_cases h1 : headB name = (⟨#[76, 77, 79, 84, 83, 95]⟩ : ByteArray)
  · rw [if_pos h1]; exact code_1 name hl h1 w hp
  rw [if_neg h1]
  by_cases h2 : headB name = (⟨#[76, 77, 83, 95]⟩ : ByteArray)
  · rw [if_pos h2]; exact code_2 name hl h2 w hp
  rw [if_neg h2]
  by_cases h3 : headB name = (⟨#[88, 77, 83, 83, 45]⟩ : ByteArray)
  · rw [if_pos h3]; exact code_3 name hl h3 w hp
  rw [if_neg h3]
  exact code_no name hl h1 h2 h3 w
end Go.Proofs.YtanpplniedphkaaDoor
