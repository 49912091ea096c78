/-
  WALKS: octet.invalid, octet.Quote: at every string, valid or not.
-/
import Derived.Test.YtijkhpiehaocpaaBuild
namespace Go.Proofs.Ytijkhpiehaocpaa
open Go.RowKit

theorem invalid_not (r : Int) (s : ByteArray) (w : World) (h : (r == 65533) = false) :
    Calls Try.prog 50 #[.int .i32 r, .string s] w fun e w' => e = .returned (.bool false) ∧ w = w' := by
  go_enter Try.func50, Try.ntmps50
  go_wp2
  go_ret
  exact ⟨rfl, rfl⟩
theorem invalid_fffd (s : ByteArray) (w : World) (b : Bool) (h : Lib.hasPrefix s.data.toList [239, 191, 189] = b) :
    Calls Try.prog 50 #[.int .i32 65533, .string s] w fun e w' => e = .returned (.bool (!b)) ∧ w = w' := by
  subst h
  go_enter Try.func50, Try.ntmps50
  go_wp2_with (go_at_call 56; refine (Try.strings_HasPrefix s (Utf8.encode 65533) _).mono ?_; rintro e w' ⟨rfl, rfl⟩)
  go_ret
  exact ⟨rfl, rfl⟩

/-- Is the rune at a place one byte that is no rune? -/
def badAt (s : ByteArray) (pos : Nat) : Bool := (Utf8.decode s pos).1 == 65533 && !Lib.hasPrefix (s.data.toList.drop pos) [239, 191, 189]
/-- What the rune at a place is written as. -/
def qAt (s : ByteArray) (pos : Nat) : List UInt8 :=
  if (Utf8.decode s pos).1 = 34 ∨ (Utf8.decode s pos).1 = 92 then 92 :: Lib.encodeRune (Utf8.decode s pos).1
  else if (Utf8.decode s pos).1 < 32 ∨ (Utf8.decode s pos).1 = 127 ∨ badAt s pos = true then [92, 120] ++ hexL [s.data.toList.getD pos 0]
  else Lib.encodeRune (Utf8.decode s pos).1
def qFrom (s : ByteArray) : Nat → Nat → List UInt8
  | 0, _ => []
  | fuel + 1, pos => if pos < s.size then qAt s pos ++ qFrom s fuel (pos + (Utf8.decode s pos).2) else []
def quoteL (s : ByteArray) : List UInt8 := 34 :: (qFrom s s.size 0 ++ [34])
theorem qFrom_end (s : ByteArray) (fuel pos : Nat) (h : ¬ pos < s.size) : qFrom s fuel pos = [] := by
  cases fuel with
  | zero => rfl
  | succ f => simp [qFrom, h]
theorem width_pos (s : ByteArray) (pos : Nat) (h : pos < s.size) : 1 ≤ (Utf8.decode s pos).2 := by
  by_cases ha : (s[pos]'h).toNat < 128
  · rw [decode_ascii s pos h ha]
    exact Nat.le_refl _
  · exact (decode_high s pos h (by omega)).2
theorem decode_fit (s : ByteArray) (pos : Nat) (h : pos < s.size) : pos + (Utf8.decode s pos).2 ≤ s.size := by
  simp only [Utf8.decode]
  repeat' split
  all_goals simp_all
  all_goals omega
theorem encode_le (r : Int) : (Lib.encodeRune r).length ≤ 4 := by
  have := Lib.runeCells_le r
  rw [Lib.runeCells_length] at this
  omega

theorem qAt_esc (s : ByteArray) (pos r : Nat) (hr : (Utf8.decode s pos).1 = r) (h : r = 34 ∨ r = 92) : qAt s pos = 92 :: Lib.encodeRune r := by
  subst hr
  exact if_pos h
theorem qAt_hex (s : ByteArray) (pos r : Nat) (hr : (Utf8.decode s pos).1 = r) (h1 : ¬ (r = 34 ∨ r = 92)) (h : r < 32 ∨ r = 127 ∨ badAt s pos = true) : qAt s pos = [92, 120] ++ hexL [s.data.toList.getD pos 0] := by
  subst hr
  unfold qAt
  rw [if_neg h1, if_pos h]
theorem qAt_rune (s : ByteArray) (pos r : Nat) (hr : (Utf8.decode s pos).1 = r) (h1 : ¬ (r = 34 ∨ r = 92)) (h : ¬ (r < 32 ∨ r = 127 ∨ badAt s pos = true)) : qAt s pos = Lib.encodeRune r := by
  subst hr
  unfold qAt
  rw [if_neg h1, if_neg h]
theorem grown_of_below {w w' : World} (h : Below w.heap.size w w') : w.grownBy w' none := ⟨h.os, h.tape, h.output, h.size, fun k hk _ => h.block k hk⟩
theorem bldAt_below {T e : TypeId} {B b : Nat} {p : Value} {xs : List Value} {w w' : World} (h : Lib.BuilderAtF T e B b p xs w) (hb : Below w.heap.size w w') : Lib.BuilderAtF T e B b p xs w' := by
  have hlt := h.lt
  obtain ⟨hB, v, hbk, hown, hne⟩ := h
  refine ⟨hB, v, (hb.block b hlt).trans hbk, hown.kept (grown_of_below hb) ?_, hne⟩
  cases v.ownBlock with
  | none => exact .inl rfl
  | some g => exact .inr (by simp)
theorem bld_below {T e : TypeId} {B b : Nat} {xs : List Value} {w w' : World} (h : Lib.IsBuilderF T e B b xs w) (hb : Below w.heap.size w w') : Lib.IsBuilderF T e B b xs w' :=
  h.elim (fun x => .inl (bldAt_below x hb)) (fun x => .inr (bldAt_below x hb))
theorem new1_sl (w : World) (x : UInt8) : Sl (w.alloc (.cells #[.int .u8 (x.toNat : Int)] 5)) (w.heap.size + 1) (.slice (some ⟨w.heap.size, 0, none⟩) 1 1) [x] := by
  refine ⟨_, 1, rfl, Nat.le_refl _, by unfold maxLen; omega, fun _ => ⟨w.heap.size, 0, rfl, by omega, fun k hk => ?_⟩⟩
  have h0 : k = 0 := by simpa using hk
  subst h0
  rw [cell_of_row _ _ _ _ _ _ (heap_alloc_new w _)]
  rfl

theorem extract_end (s : ByteArray) (a : Nat) : (s.extract a s.size).data.toList = s.data.toList.drop a := by
  rw [Lib.extract_data, List.take_of_length_le]
  rw [List.length_drop]
  simp
theorem esc_data (x : UInt8) : ((⟨#[92, 120]⟩ : ByteArray) ++ ⟨(hexL [x]).toArray⟩).data.toList = [92, 120] ++ hexL [x] := by simp
theorem esc_size (x : UInt8) : ((⟨#[92, 120]⟩ : ByteArray) ++ ⟨(hexL [x]).toArray⟩).size = 4 := by
  rw [ByteArray.size_append]
  simp [ByteArray.size, hexL_length]

set_option maxHeartbeats 2000000 in
set_option maxRecDepth 100000 in
theorem quote_any (s : ByteArray) (w : World) (hs : s.size ≤ 1099511627776) :
    Calls Try.prog 37 #[.string s] w (StrIs w (quoteL s)) := by
  obtain ⟨B, hBB⟩ : ∃ B, B = w.heap.size := ⟨_, rfl⟩
  have HB := Lib.hid hBB
  go_enter Try.func37, Try.ntmps37
  go_wp2_with (go_at_call 48; refine (writeByte_any w.heap.size w.heap.size [] 34 _ (Lib.IsBuilderF.of (Lib.fresh_isBuilder 69 5 w)) (by simp) (by simp)).mono ?_)
  rintro e w1 ⟨rfl, hI1, hb1, _⟩
  have hlt1 : w.heap.size < w1.heap.size := by rcases hI1 with h | h <;> exact h.lt
  go_wp2
  go_loopw [] (fun wr => ∃ (pos fuel : Nat) (acc : List UInt8), Bld w.heap.size w.heap.size acc wr ∧ wr.heap[w1.heap.size]? = some (.stringIter s pos) ∧ Below w.heap.size w wr ∧ Hid (acc ++ (qFrom s fuel pos ++ [34]) = quoteL s) ∧ s.size ≤ pos + fuel ∧ acc.length ≤ 5 * pos + 1 ∧ pos ≤ s.size) (fun wr => s.size - wr.iterPos w1.heap.size)
  case atStart =>
    refine ⟨0, s.size, [34], ?_, ?_, (((Below.refl _ w).alloc (Nat.le_refl _) _).trans hb1).alloc (by omega) _, Lib.hid rfl, by omega, by simp, Nat.zero_le _⟩
    · exact Lib.IsBuilderF.alloc hI1 _
    · exact World.iter_heap w1 s 0
  case round =>
    obtain ⟨pos, fuel, acc, hI, hit, hbw, hacc, hfu, hal, hps⟩ := hrel
    have hsz : w1.heap.size < wr.heap.size := (Array.getElem?_eq_some_iff.1 hit).1
    by_cases hp : pos < s.size
    · have hnx : ∀ ty, (Instr.next (.pointer (some ⟨w1.heap.size, 0, none⟩)) true ty).run Try.prog wr = _ := fun ty => Lib.run_next_any_at wr w1.heap.size s pos ty hit hp
      have hwd := width_pos s pos hp
      have hfit := decode_fit s pos hp
      have hd1 := decode_le s pos
      have hI2 := hI.iterAt hit (pos + (Utf8.decode s pos).2)
      have hit2 := Lib.iterAt_heap wr w1.heap.size s pos (pos + (Utf8.decode s pos).2) hit
      have hbw2 := Lib.below_iterAt hbw (k := w1.heap.size) (by omega) s (pos + (Utf8.decode s pos).2)
      have hsz2 : w.heap.size ≤ (wr.iterAt w1.heap.size s (pos + (Utf8.decode s pos).2)).heap.size := by rw [Lib.iterAt_size]; omega
      obtain ⟨f, rfl⟩ : ∃ f, fuel = f + 1 := ⟨fuel - 1, by omega⟩
      have hacc2 : Hid ((acc ++ qAt s pos) ++ (qFrom s f (pos + (Utf8.decode s pos).2) ++ [34]) = quoteL s) := by
        apply Lib.hid
        rw [← hacc.out]
        simp [qFrom, hp]
      have hE := encode_le ((Utf8.decode s pos).1 : Int)
      have hqa := Lib.hid (show qAt s pos = _ from rfl)
      generalize hR : (Utf8.decode s pos).1 = r at *
      generalize hD : (Utf8.decode s pos).2 = d at *
      have HR := Lib.hid hR
      have HIT := Lib.hid hit
      clear hR hD hacc hit hI hbw
      by_cases h1 : r = 34 ∨ r = 92
      · have hq := qAt_esc s pos r HR.out h1
        have hacc3 : Hid ((acc ++ [92] ++ Lib.encodeRune r) ++ (qFrom s f (pos + d) ++ [34]) = quoteL s) := by
          apply Lib.hid
          rw [← hacc2.out, hq]
          simp
        clear hq hqa hacc2
        rcases h1 with rfl | rfl
        all_goals
          go_wp2_with (go_at_call 48; refine (writeByte_any w.heap.size w.heap.size acc 92 _ hI2 (by omega) hsz2).mono ?_)
          rintro e W1 ⟨rfl, hA, bA, kA⟩
          have hsA := bA.size
          have hitA := kA.iter hit2 (by omega)
          go_wp2_with (go_at_call 49; refine (writeRune_any w.heap.size w.heap.size _ _ (by omega) (by omega) _ hA (by simp; omega) (by omega)).mono ?_)
          rintro e W2 ⟨rfl, hC, bC, kC⟩
          have hE2 := encode_le 34
          have hE3 := encode_le 92
          have hitC := kC.iter hitA (by omega)
          go_wp2
          go_roundw
          case rel => exact ⟨pos + d, f, _, hC, hitC, (hbw2.trans bA).trans bC, hacc3, by omega, by simp only [List.length_append, List.length_cons, List.length_nil]; omega, hfit⟩
          case measure =>
            simp only [World.iterPos, hitC, HIT.out]
            omega
      · have e1 : ((r : Int) == 34) = false := by rw [beq_eq_false_iff_ne]; omega
        have e2 : ((r : Int) == 92) = false := by rw [beq_eq_false_iff_ne]; omega
        by_cases h2 : r < 32 ∨ r = 127 ∨ badAt s pos = true
        · have hq := qAt_hex s pos r HR.out h1 h2
          have hg : s.data.toList.getD pos 0 = s[pos] := by
            rw [List.getD_eq_getElem?_getD, List.getElem?_eq_getElem (by simpa using hp), bytes_get s pos hp]; rfl
          rw [hg] at hq
          have hacc3 : Hid ((acc ++ ([92, 120] ++ hexL [s[pos]])) ++ (qFrom s f (pos + d) ++ [34]) = quoteL s) := by
            apply Lib.hid
            rw [← hacc2.out, hq]
          clear hq hqa hacc2 hg
          have hbx := hI2.alloc (.cells #[.int .u8 (s[pos].toNat : Int)] 5)
          have hitx := iter_alloc hit2 (.cells #[.int .u8 (s[pos].toNat : Int)] 5)
          have hbwx := hbw2.alloc hsz2 (.cells #[.int .u8 (s[pos].toNat : Int)] 5)
          by_cases h3 : r < 32
          · clear h2
            go_wp2_with (go_at_call 34; refine (hex_any _ _ [s[pos]] _ (new1_sl _ _) (by simp) (by simp)).mono ?_)
            rintro e W1 ⟨rfl, bH⟩
            have hA := bld_below hbx bH
            have hitA := (bH.block _ (Array.getElem?_eq_some_iff.1 hitx).1).trans hitx
            have hbA := hbwx.trans (bH.mono (by simp; omega))
            have hsA := hbA.size
            go_wp2_with (go_at_call 51; refine (writeString_any w.heap.size w.heap.size acc _ _ hA (by rw [esc_size]; omega) (by omega)).mono ?_)
            rintro e W2 ⟨rfl, hC, bC, kC⟩
            rw [esc_data] at hC
            have hitC := kC.iter hitA (by omega)
            go_wp2
            go_roundw
            case rel => exact ⟨pos + d, f, _, hC, hitC, hbA.trans bC, hacc3, by omega, by simp only [List.length_append, List.length_cons, List.length_nil, hexL_length]; omega, hfit⟩
            case measure =>
              simp only [World.iterPos, hitC, HIT.out]
              omega
          · have e3 : decide ((r : Int) < 32) = false := by simp; omega
            by_cases h4 : r = 127
            · subst h4
              clear h2
              go_wp2_with (go_at_call 34; refine (hex_any _ _ [s[pos]] _ (new1_sl _ _) (by simp) (by simp)).mono ?_)
              rintro e W1 ⟨rfl, bH⟩
              have hA := bld_below hbx bH
              have hitA := (bH.block _ (Array.getElem?_eq_some_iff.1 hitx).1).trans hitx
              have hbA := hbwx.trans (bH.mono (by simp; omega))
              have hsA := hbA.size
              go_wp2_with (go_at_call 51; refine (writeString_any w.heap.size w.heap.size acc _ _ hA (by rw [esc_size]; omega) (by omega)).mono ?_)
              rintro e W2 ⟨rfl, hC, bC, kC⟩
              rw [esc_data] at hC
              have hitC := kC.iter hitA (by omega)
              go_wp2
              go_roundw
              case rel => exact ⟨pos + d, f, _, hC, hitC, hbA.trans bC, hacc3, by omega, by simp only [List.length_append, List.length_cons, List.length_nil, hexL_length]; omega, hfit⟩
              case measure =>
                simp only [World.iterPos, hitC, HIT.out]
                omega
            · have e4 : ((r : Int) == 127) = false := by rw [beq_eq_false_iff_ne]; omega
              have h5 : badAt s pos = true := by rcases h2 with h | h | h; exact absurd h h3; exact absurd h h4; exact h
              unfold badAt at h5
              rw [HR.out, Bool.and_eq_true, beq_iff_eq, Bool.not_eq_true'] at h5
              obtain ⟨rfl, h6⟩ := h5
              rw [← extract_end] at h6
              have H6 := Lib.hid h6
              clear h2 h6 h3 h4
              go_wp2_with (first | (go_at_call 50; refine (invalid_fffd _ _ false H6.out).mono ?_; rintro e w' ⟨rfl, rfl⟩) | (go_at_call 34; refine (hex_any _ _ [s[pos]] _ (new1_sl _ _) (by simp) (by simp)).mono ?_))
              rintro e W1 ⟨rfl, bH⟩
              have hA := bld_below hbx bH
              have hitA := (bH.block _ (Array.getElem?_eq_some_iff.1 hitx).1).trans hitx
              have hbA := hbwx.trans (bH.mono (by simp; omega))
              have hsA := hbA.size
              go_wp2_with (go_at_call 51; refine (writeString_any w.heap.size w.heap.size acc _ _ hA (by rw [esc_size]; omega) (by omega)).mono ?_)
              rintro e W2 ⟨rfl, hC, bC, kC⟩
              rw [esc_data] at hC
              have hitC := kC.iter hitA (by omega)
              go_wp2
              go_roundw
              case rel => exact ⟨pos + d, f, _, hC, hitC, hbA.trans bC, hacc3, by omega, by simp only [List.length_append, List.length_cons, List.length_nil, hexL_length]; omega, hfit⟩
              case measure =>
                simp only [World.iterPos, hitC, HIT.out]
                omega
        · have hq := qAt_rune s pos r HR.out h1 h2
          have hacc3 : Hid ((acc ++ Lib.encodeRune r) ++ (qFrom s f (pos + d) ++ [34]) = quoteL s) := by
            apply Lib.hid
            rw [← hacc2.out, hq]
          clear hq hqa hacc2
          have e3 : decide ((r : Int) < 32) = false := by simp; omega
          have e4 : ((r : Int) == 127) = false := by rw [beq_eq_false_iff_ne]; omega
          by_cases h5 : r = 65533
          · subst h5
            have h6 : Lib.hasPrefix (s.data.toList.drop pos) [239, 191, 189] = true := by
              cases hh : Lib.hasPrefix (s.data.toList.drop pos) [239, 191, 189] with
              | true => rfl
              | false =>
                exfalso
                apply h2
                refine .inr (.inr ?_)
                unfold badAt
                rw [HR.out, hh]
                rfl
            rw [← extract_end] at h6
            have H6 := Lib.hid h6
            clear h2 h6
            go_wp2_with (first | (go_at_call 50; refine (invalid_fffd _ _ true H6.out).mono ?_; rintro e w' ⟨rfl, rfl⟩) | (go_at_call 49; refine (writeRune_any w.heap.size w.heap.size acc _ (by omega) (by omega) _ hI2 (by omega) hsz2).mono ?_))
            rintro e W2 ⟨rfl, hC, bC, kC⟩
            have hitC := kC.iter hit2 (by omega)
            have hE2 := encode_le 65533
            go_wp2
            go_roundw
            case rel => exact ⟨pos + d, f, _, hC, hitC, hbw2.trans bC, hacc3, by omega, by simp only [List.length_append]; omega, hfit⟩
            case measure =>
              simp only [World.iterPos, hitC, HIT.out]
              omega
          · have e5 : ((r : Int) == 65533) = false := by rw [beq_eq_false_iff_ne]; omega
            clear h2 h5
            go_wp2_with (first | (go_at_call 50; refine (invalid_not _ _ _ e5).mono ?_; rintro e w' ⟨rfl, rfl⟩) | (go_at_call 49; refine (writeRune_any w.heap.size w.heap.size acc _ (by omega) (by omega) _ hI2 (by omega) hsz2).mono ?_))
            rintro e W2 ⟨rfl, hC, bC, kC⟩
            have hitC := kC.iter hit2 (by omega)
            go_wp2
            go_roundw
            case rel => exact ⟨pos + d, f, _, hC, hitC, hbw2.trans bC, hacc3, by omega, by simp only [List.length_append]; omega, hfit⟩
            case measure =>
              simp only [World.iterPos, hitC, HIT.out]
              omega
    · have hnx : ∀ ty, (Instr.next (.pointer (some ⟨w1.heap.size, 0, none⟩)) true ty).run Try.prog wr = _ := fun ty => Lib.run_next_end_at wr w1.heap.size s pos ty hit hp
      rw [qFrom_end s fuel pos hp] at hacc
      go_wp2_with (go_at_call 48; refine (writeByte_any w.heap.size w.heap.size acc 34 _ hI (by omega) (by omega)).mono ?_)
      rintro e w2 ⟨rfl, hI2, hb2, _⟩
      have hs2 := hb2.size
      go_wp2_with (go_at_call 52; refine (Try.Builder_String_any_k w.heap.size w.heap.size _ _ hI2 (by omega)).mono ?_)
      rintro e w3 ⟨rfl, _, hb3, _⟩
      go_wp2
      go_ret
      exact ⟨by rw [← hacc.out]; rfl, (hbw.trans hb2).trans hb3⟩
end Go.Proofs.Ytijkhpiehaocpaa
