/-
  WALKS: octet.escape, octet.unescape, octet.Unquote: at every string, valid or not.
-/
import Derived.Test.YtijkhpiehaocpaaDoorUnqMath
import Derived.Test.YtijkhpiehaocpaaDoorNumbersWalk
import Derived.Deep.QuietTactic
namespace Go.Proofs.YtijkhpiehaocpaaDoor
open Go.RowKit
set_option maxRecDepth 100000

def EscIs (w : World) (x : UInt8 × Nat) (e : Ending) (w' : World) : Prop := e = .returned (.tuple #[.int .u8 (x.1.toNat : Int), .int .i64 (x.2 : Int)]) ∧ Below w.heap.size w w'
theorem getD_at (t : ByteArray) (k : Nat) (h : k < t.size) : t.data.toList.getD k 0 = t[k] := by
  rw [List.getD_eq_getElem?_getD, List.getElem?_eq_getElem (by simpa using h), bytes_get t k h]; rfl
theorem extract_two (t : ByteArray) (h : 4 ≤ t.size) : (t.extract 2 4).data.toList = [t[2], t[3]] := by
  rw [Lib.extract_data]
  have hl : t.data.toList.length = t.size := by simp
  rw [List.drop_eq_getElem_cons (by omega), List.drop_eq_getElem_cons (by omega), bytes_get t 2 (by omega), bytes_get t 3 (by omega)]
  rfl
theorem u8_beq (a : UInt8) (n : Nat) (hn : n < 256) : (((a.toNat : Nat) : Int) == (n : Int)) = (a == UInt8.ofNat n) := by
  rw [Bool.eq_iff_iff, beq_iff_eq, beq_iff_eq]
  constructor
  · intro h
    have h2 : a.toNat = n := by omega
    rw [← h2]; simp
  · intro h
    rw [h]
    have : (UInt8.ofNat n).toNat = n := by simp; omega
    rw [this]

set_option maxHeartbeats 1000000 in
theorem escape_any (t : ByteArray) (w : World) (hl : t.size ≤ 1099511627776) :
    Calls Tryd.prog 41 #[.string t] w (EscIs w (escL t.data.toList)) := by
  have hsz : t.data.toList.length = t.size := by simp
  obtain ⟨x, hx⟩ : ∃ x, escL t.data.toList = x := ⟨_, rfl⟩
  rw [hx]
  unfold escL at hx
  rw [hsz] at hx
  by_cases h2 : 2 ≤ t.size
  · have i2 : (2 : Int) ≤ t.size := by omega
    have g1 := getD_at t 1 (by omega)
    rw [g1] at hx
    by_cases hq : t[1] = 34 ∨ t[1] = 92
    · rw [if_pos ⟨h2, hq⟩] at hx
      subst hx
      rcases hq with hq | hq
      all_goals
        rw [hq]
        have hv : ((t[1].toNat : Nat) : Int) = _ := congrArg (fun c : UInt8 => (c.toNat : Int)) hq
        clear g1
        go_enter Tryd.func41, Tryd.ntmps41
        go_wp2
        go_ret2
        exact ⟨by simp, Below.refl _ _⟩
    · rw [if_neg (fun h => hq h.2)] at hx
      have n1 : (((t[1].toNat : Nat) : Int) == 34) = false := by
        show (((t[1].toNat : Nat) : Int) == ((34 : Nat) : Int)) = _
        rw [u8_beq t[1] 34 (by omega), beq_eq_false_iff_ne]
        exact fun e => hq (.inl e)
      have n2 : (((t[1].toNat : Nat) : Int) == 92) = false := by
        show (((t[1].toNat : Nat) : Int) == ((92 : Nat) : Int)) = _
        rw [u8_beq t[1] 92 (by omega), beq_eq_false_iff_ne]
        exact fun e => hq (.inr e)
      by_cases h4 : 4 ≤ t.size
      · have i4 : (4 : Int) ≤ t.size := by omega
        have g2 := getD_at t 2 (by omega)
        have g3 := getD_at t 3 (by omega)
        rw [g2, g3] at hx
        by_cases h120 : t[1] = 120
        · have n3 : (((t[1].toNat : Nat) : Int) == 120) = true := by
            show (((t[1].toNat : Nat) : Int) == ((120 : Nat) : Int)) = _
            rw [u8_beq t[1] 120 (by omega), beq_iff_eq]
            exact h120
          have hex := extract_two t h4
          obtain ⟨u1, u2⟩ := un_two t[2] t[3]
          have hes : (t.extract 2 4).size ≤ 1099511627776 := by
            rw [ByteArray.size_extract]; omega
          have hun := unhex_any (t.extract 2 4)
          rw [hex] at hun
          by_cases hh : isHexB t[2] = true ∧ isHexB t[3] = true
          · rw [if_pos ⟨h4, h120, hh⟩] at hx
            rw [if_pos hh] at u1
            rw [u1, u2 hh] at hun
            clear g1 g2 g3 u1 u2 hq hex
            generalize UInt8.ofNat (16 * hexV t[2] + hexV t[3]) = y at *
            subst hx
            go_enter Tryd.func41, Tryd.ntmps41
            go_wp2_with (go_at_call 14; refine (hun _ hes).mono ?_)
            rintro e w1 ⟨v, rfl, g⟩
            have hb := g.2
            have hs := gives_sl g
            obtain ⟨A, c, rfl, _, _⟩ := hs.form
            obtain ⟨b, off, rfl, hbb, hc⟩ := hs.at_ (by simp)
            have hc0 : w1.cell? ⟨b, off, none⟩ = some (.int .u8 (y.toNat : Int)) := by simpa using hc 0 (by simp)
            clear hc hs g hun
            go_wp2
            go_ret2
            exact ⟨rfl, hb⟩
          · rw [if_neg (fun h => hh h.2.2)] at hx
            rw [if_neg hh] at u1
            rw [u1] at hun
            clear g1 g2 g3 u1 u2 hq hex
            subst hx
            generalize unB [t[2], t[3]] = ub at *
            generalize hexN [t[2], t[3]] = un at *
            go_enter Tryd.func41, Tryd.ntmps41
            go_wp2_with (go_at_call 14; refine (hun _ hes).mono ?_)
            rintro e w1 ⟨v, rfl, g⟩
            have hb := g.2
            clear g hun
            go_wp2
            go_ret2
            exact ⟨rfl, hb⟩
        · have n3 : (((t[1].toNat : Nat) : Int) == 120) = false := by
            show (((t[1].toNat : Nat) : Int) == ((120 : Nat) : Int)) = _
            rw [u8_beq t[1] 120 (by omega), beq_eq_false_iff_ne]
            exact h120
          rw [if_neg (fun h => h120 h.2.1)] at hx
          subst hx
          clear g1 g2 g3
          go_enter Tryd.func41, Tryd.ntmps41
          go_wp2
          go_ret2
          exact ⟨rfl, Below.refl _ _⟩
      · have i4 : ¬ (4 : Int) ≤ t.size := by omega
        rw [if_neg (fun h => h4 h.1)] at hx
        subst hx
        clear g1
        go_enter Tryd.func41, Tryd.ntmps41
        go_wp2
        go_ret2
        exact ⟨rfl, Below.refl _ _⟩
  · have i2 : ¬ (2 : Int) ≤ t.size := by omega
    have i4 : ¬ (4 : Int) ≤ t.size := by omega
    rw [if_neg (fun h => h2 h.1), if_neg (fun h => by omega)] at hx
    subst hx
    go_enter Tryd.func41, Tryd.ntmps41
    go_wp2
    go_ret2
    exact ⟨rfl, Below.refl _ _⟩

theorem drop_ne2 (s : ByteArray) (pos : Nat) (h : pos < s.size) : s.data.toList.drop pos ≠ [] := by
  rw [drop_one s pos h]; exact List.cons_ne_nil _ _
theorem escL_le (t : List UInt8) : (escL t).2 ≤ 4 := by
  unfold escL
  split
  · omega
  · split <;> omega

set_option maxHeartbeats 2000000 in
theorem unescape_any (s : ByteArray) (w : World) (hl : s.size ≤ 1099511627776) :
    Calls Tryd.prog 29 #[.string s] w (StrIs w (unL s.size 0 s.data.toList)) := by
  obtain ⟨U, hU⟩ : ∃ U, U = unL s.size 0 s.data.toList := ⟨_, rfl⟩
  rw [← hU]
  have HU := Lib.hid hU
  clear hU
  go_enter Tryd.func29, Tryd.ntmps29
  go_wp2
  go_step3
  go_wp2
  go_step3
  go_wp2
  go_loopw [4, 5, 6, 7, 8, 17, 21] (fun nx _ _ _ _ _ _ wr => ∃ (pos n fuel : Nat) (acc : List UInt8), Bld w.heap.size w.heap.size acc wr ∧ wr.heap[w.heap.size + 1]? = some (.stringIter s pos) ∧ Below w.heap.size w wr ∧ nx = .int .i64 n ∧ n ≤ pos + 4 ∧ Hid (acc ++ unL fuel (n - pos) (s.data.toList.drop pos) = U) ∧ s.size ≤ pos + fuel ∧ acc.length ≤ 4 * pos ∧ pos ≤ s.size) (fun _ _ _ _ _ _ _ wr => s.size - wr.iterPos (w.heap.size + 1))
  case atStart =>
    have hI0 := (Lib.IsBuilderF.of (Lib.fresh_isBuilder 59 5 w)).alloc (.stringIter s 0)
    refine ⟨0, 0, s.size, [], hI0, ?_, ?_, rfl, by omega, Lib.hid (by rw [HU.out]; rfl), by omega, by simp, Nat.zero_le _⟩
    · have := World.iter_heap (w.alloc (.cells #[.pointer none, .slice none 0 0] 59)) s 0
      simpa using this
    · exact ((Below.refl _ w).alloc (Nat.le_refl _) _).alloc (by simp) _
  case round =>
    obtain ⟨pos, n, fuel, acc, hI, hit, hbw, rfl, hn4, hacc, hfu, hal, hps⟩ := hrel
    have hsz : w.heap.size + 1 < wr.heap.size := (Array.getElem?_eq_some_iff.1 hit).1
    by_cases hp : pos < s.size
    · have hnx : ∀ ty, (Instr.next (.pointer (some ⟨w.heap.size + 1, 0, none⟩)) true ty).run Tryd.prog wr = _ := fun ty => Lib.run_next_any_at wr (w.heap.size + 1) s pos ty hit hp
      have hwd := width_pos s pos hp
      have hfit := decode_fit s pos hp
      have hd1 := decode_le s pos
      have hI2 := hI.iterAt hit (pos + (Utf8.decode s pos).2)
      have hit2 := Lib.iterAt_heap wr (w.heap.size + 1) s pos (pos + (Utf8.decode s pos).2) hit
      have hbw2 := Lib.below_iterAt hbw (k := w.heap.size + 1) (by omega) s (pos + (Utf8.decode s pos).2)
      have hsz2 : w.heap.size + 1 < (wr.iterAt (w.heap.size + 1) s (pos + (Utf8.decode s pos).2)).heap.size := by rw [Lib.iterAt_size]; omega
      obtain ⟨f, rfl⟩ : ∃ f, fuel = f + 1 := ⟨fuel - 1, by omega⟩
      have hne := drop_ne2 s pos hp
      have hun := hacc.out
      simp only [unL, if_neg hne, Lib.decodeL_drop, List.drop_drop] at hun
      have hE := encode_le ((Utf8.decode s pos).1 : Int)
      have hone := low_one s pos hp
      have HIT := Lib.hid hit
      clear hacc hit hI hbw hne
      generalize hR : (Utf8.decode s pos).1 = r at *
      generalize hD : (Utf8.decode s pos).2 = d at *
      clear hD
      by_cases hsk : pos < n
      · rw [if_pos (by omega), show n - pos - d = n - (pos + d) by omega] at hun
        have HUN := Lib.hid hun
        clear hun hR
        have isk : (pos : Int) < n := by omega
        go_wp2
        go_roundw
        case rel => exact ⟨pos + d, n, f, acc, hI2, hit2, hbw2, rfl, by omega, HUN, by omega, by omega, hfit⟩
        case measure =>
          simp only [World.iterPos, hit2, HIT.out]
          omega
      · rw [if_neg (by omega)] at hun
        have isk : ¬ (pos : Int) < n := by omega
        by_cases h92 : r = 92
        · rw [if_pos h92] at hun
          have hd1' : d = 1 := hone (by omega)
          have hext : (s.extract pos s.size).data.toList = s.data.toList.drop pos := extract_end s pos
          have hexs : (s.extract pos s.size).size ≤ 1099511627776 := by rw [ByteArray.size_extract]; omega
          have hesc := escape_any (s.extract pos s.size)
          rw [hext] at hesc
          have he4 := escL_le (s.data.toList.drop pos)
          generalize escL (s.data.toList.drop pos) = x at *
          subst h92
          subst hd1'
          clear hR hext hone
          by_cases hx0 : x.2 = 0
          · rw [if_pos hx0, List.append_nil] at hun
            subst hun
            have ix : (x.2 : Int) = 0 := by omega
            clear HU
            go_wp2_with (go_at_call 41; refine (hesc _ hexs).mono ?_)
            rintro e w1 ⟨rfl, hb⟩
            have hA := bld_below hI2 hb
            have hsA := hb.size
            have hbA := hbw2.trans (hb.mono (by omega))
            clear hesc
            go_wp2_with (go_at_call 36; refine (Tryd.Builder_String_any_k w.heap.size w.heap.size _ _ hA (by omega)).mono ?_)
            rintro e w3 ⟨rfl, _, hb3, _⟩
            go_wp2
            rw [Exit.noGoto_ret]
            go_ret
            exact ⟨rfl, hbA.trans hb3⟩
          · rw [if_neg hx0] at hun
            have ix : ((x.2 : Int) == 0) = false := by rw [beq_eq_false_iff_ne]; omega
            have HUN : Hid ((acc ++ [x.1]) ++ unL f (pos + x.2 - (pos + 1)) (s.data.toList.drop (pos + 1)) = U) := Lib.hid (by rw [← hun, show pos + x.2 - (pos + 1) = x.2 - 1 by omega]; simp)
            clear hun
            go_wp2_with (go_at_call 41; refine (hesc _ hexs).mono ?_)
            rintro e w1 ⟨rfl, hb⟩
            have hA := bld_below hI2 hb
            have hsA := hb.size
            have hbA := hbw2.trans (hb.mono (by omega))
            have hitA := (hb.block _ (Array.getElem?_eq_some_iff.1 hit2).1).trans hit2
            clear hesc
            go_wp2_with (go_at_call 32; refine (writeByte_any w.heap.size w.heap.size acc x.1 _ hA (by omega) (by omega)).mono ?_)
            rintro e W2 ⟨rfl, hC, bC, kC⟩
            have hitC := kC.iter hitA (by omega)
            go_wp2
            go_roundw
            case rel => exact ⟨pos + 1, pos + x.2, f, _, hC, hitC, hbA.trans bC, by go_num, by omega, HUN, by omega, by simp only [List.length_append, List.length_cons, List.length_nil]; omega, hfit⟩
            case measure =>
              simp only [World.iterPos, hitC, HIT.out]
              omega
        · rw [if_neg h92] at hun
          have i92 : ((r : Int) == 92) = false := by rw [beq_eq_false_iff_ne]; omega
          have HUN : Hid ((acc ++ Lib.encodeRune r) ++ unL f (n - (pos + d)) (s.data.toList.drop (pos + d)) = U) := Lib.hid (by rw [← hun, show n - (pos + d) = 0 by omega]; simp)
          clear hun hR
          go_wp2_with (go_at_call 33; refine (writeRune_any w.heap.size w.heap.size acc _ (by omega) (by omega) _ hI2 (by omega) (by omega)).mono ?_)
          rintro e W2 rfl ⟨hC, bC, kC⟩
          have hitC := kC.iter hit2 (by omega)
          go_wp2
          go_roundw
          case rel => exact ⟨pos + d, n, f, _, hC, hitC, hbw2.trans bC, rfl, by omega, HUN, by omega, by simp only [List.length_append]; omega, hfit⟩
          case measure =>
            simp only [World.iterPos, hitC, HIT.out]
            omega
    · have hnx : ∀ ty, (Instr.next (.pointer (some ⟨w.heap.size + 1, 0, none⟩)) true ty).run Tryd.prog wr = _ := fun ty => Lib.run_next_end_at wr (w.heap.size + 1) s pos ty hit hp
      have hfin : acc = U := by
        rw [← hacc.out, List.drop_eq_nil_of_le (by simp; omega), unL_nil, List.append_nil]
      subst hfin
      clear hacc HU
      go_wp2_with (go_at_call 36; refine (Tryd.Builder_String_any_k w.heap.size w.heap.size _ _ hI (by omega)).mono ?_)
      rintro e w3 ⟨rfl, _, hb3, _⟩
      go_wp2
      go_ret
      exact ⟨rfl, hbw.trans hb3⟩

/-! ### Unquote -/
def UqIs (w : World) (l : List UInt8) (er : Int) (e : Ending) (w' : World) : Prop := e = .returned (.tuple #[.string ⟨l.toArray⟩, .int .i64 er]) ∧ Below w.heap.size w w'

set_option maxHeartbeats 1000000 in
theorem unquote_any (q : ByteArray) (w : World) (hl : q.size ≤ 68719476736) (l : List UInt8) (er : Int)
    (h : (quoteL ⟨(unqL q.data.toList).toArray⟩ = q.data.toList ∧ l = unqL q.data.toList ∧ er = 0) ∨ (quoteL ⟨(unqL q.data.toList).toArray⟩ ≠ q.data.toList ∧ l = [] ∧ er = 11)) :
    Calls Tryd.prog 16 #[.string q] w (UqIs w l er) := by
  have hql : q.data.toList.length = q.size := by simp
  have hbl := body_le q.data.toList
  have hbs : (⟨(bodyL q.data.toList).toArray⟩ : ByteArray).size ≤ 68719476736 := by
    have : (⟨(bodyL q.data.toList).toArray⟩ : ByteArray).size = (bodyL q.data.toList).length := by simp [ByteArray.size]
    omega
  have hun := unescape_any ⟨(bodyL q.data.toList).toArray⟩
  have e1 : unL (⟨(bodyL q.data.toList).toArray⟩ : ByteArray).size 0 (⟨(bodyL q.data.toList).toArray⟩ : ByteArray).data.toList = unqL q.data.toList := by
    have : (⟨(bodyL q.data.toList).toArray⟩ : ByteArray).size = (bodyL q.data.toList).length := by simp [ByteArray.size]
    rw [this]
    rfl
  rw [e1] at hun
  have hus : (⟨(unqL q.data.toList).toArray⟩ : ByteArray).size ≤ 1099511627776 := by
    have h1 : (⟨(unqL q.data.toList).toArray⟩ : ByteArray).size = (unqL q.data.toList).length := by simp [ByteArray.size]
    have h2 := unL_le (bodyL q.data.toList).length 0 (bodyL q.data.toList)
    unfold unqL at h1 ⊢
    omega
  have htp : ∀ w, Calls Tryd.prog 31 #[.string q, .string ⟨#[34]⟩] w fun e w' => e = .returned (.string ⟨(Lib.trimPrefix q.data.toList [34]).toArray⟩) ∧ w' = w := fun w => Tryd.strings_TrimPrefix q ⟨#[34]⟩ w
  have hps : (⟨(Lib.trimPrefix q.data.toList [34]).toArray⟩ : ByteArray).size ≤ 9223372036854775807 := by
    have h1 : (⟨(Lib.trimPrefix q.data.toList [34]).toArray⟩ : ByteArray).size = (Lib.trimPrefix q.data.toList [34]).length := by simp [ByteArray.size]
    have h2 : (Lib.trimPrefix q.data.toList [34]).length ≤ q.data.toList.length := by
      unfold Lib.trimPrefix
      split
      · rw [List.length_drop]; omega
      · exact Nat.le_refl _
    omega
  have hts : ∀ w, Calls Tryd.prog 30 #[.string ⟨(Lib.trimPrefix q.data.toList [34]).toArray⟩, .string ⟨#[34]⟩] w fun e w' => e = .returned (.string ⟨(bodyL q.data.toList).toArray⟩) ∧ w' = w := fun w => Tryd.strings_TrimSuffix ⟨(Lib.trimPrefix q.data.toList [34]).toArray⟩ ⟨#[34]⟩ w hps
  clear hql hbl hps e1
  generalize Lib.trimPrefix q.data.toList [34] = tp at *
  generalize bodyL q.data.toList = bd at *
  generalize unqL q.data.toList = uq at *
  have hq := quote_any ⟨uq.toArray⟩
  rcases h with ⟨h1, rfl, rfl⟩ | ⟨h1, rfl, rfl⟩
  · rw [h1] at hq
    have hq' : ∀ w, Calls Tryd.prog 17 #[.string ⟨l.toArray⟩] w (StrIs w q.data.toList) := fun w => hq w hus
    clear hq
    go_enter Tryd.func16, Tryd.ntmps16
    go_wp2_with (first | (go_at_call 31; refine (htp _).mono ?_; rintro e w' ⟨rfl, rfl⟩) | (go_at_call 30; refine (hts _).mono ?_; rintro e w' ⟨rfl, rfl⟩) | (go_at_call 29; refine (hun _ (by omega)).mono ?_))
    rintro e w1 ⟨rfl, b1⟩
    go_wp2_with (go_at_call 17; refine (hq' _).mono ?_)
    rintro e w2 ⟨rfl, b2⟩
    have b12 := Below.chain b1 b2
    clear b1 b2
    go_wp2
    go_ret2
    exact ⟨rfl, b12⟩
  · have hq' : ∀ w, Calls Tryd.prog 17 #[.string ⟨uq.toArray⟩] w (StrIs w (quoteL ⟨uq.toArray⟩)) := fun w => hq w hus
    clear hq
    generalize quoteL ⟨uq.toArray⟩ = ql at *
    have hne2 : (ql == q.toList) = false := by
      rw [beq_eq_false_iff_ne]
      intro e
      exact h1 (by rw [e, ByteArray.toList_eq])
    clear h1
    go_enter Tryd.func16, Tryd.ntmps16
    go_wp2_with (first | (go_at_call 31; refine (htp _).mono ?_; rintro e w' ⟨rfl, rfl⟩) | (go_at_call 30; refine (hts _).mono ?_; rintro e w' ⟨rfl, rfl⟩) | (go_at_call 29; refine (hun _ (by omega)).mono ?_))
    rintro e w1 ⟨rfl, b1⟩
    go_wp2_with (go_at_call 17; refine (hq' _).mono ?_)
    rintro e w2 ⟨rfl, b2⟩
    have b12 := Below.chain b1 b2
    clear b1 b2
    go_wp2
    go_ret2
    exact ⟨rfl, b12⟩
end Go.Proofs.YtijkhpiehaocpaaDoor
