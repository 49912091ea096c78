/-
  THE WALK of liverylaw01.OctetPlain.
-/
import Derived.Test.YtijkhpiehaocpaaLabel
import Derived.Test.YtijkhpiehaocpaaNumbersWalk
import Derived.Laws.Cover4
namespace Go.Proofs.Ytijkhpiehaocpaa
open Go.RowKit

/-- The model's own bytes of a rune are the library's. -/
theorem encode_is (r : Int) : (Utf8.encode r).data.toList = Lib.encodeRune r := by
  have ub : ∀ n : Nat, UInt8.ofNat n = n.toUInt8 := fun _ => rfl
  unfold Lib.encodeRune
  by_cases hv : (0 ≤ r ∧ r < 55296) ∨ (57344 ≤ r ∧ r ≤ 1114111)
  · have v : Utf8.valid r = true := by simp [Utf8.valid]; omega
    obtain ⟨n, rfl⟩ := Int.eq_ofNat_of_zero_le (show 0 ≤ r by omega)
    by_cases c1 : n < 128
    · rw [Lib.encodeRuneZ_one (by omega) (by omega)]
      simp [Utf8.encode, v, c1]
    · by_cases c2 : n < 2048
      · rw [Lib.encodeRuneZ_two (by omega) (by omega)]
        simp only [Utf8.encode, v, if_true, Int.toNat_natCast, if_neg c1, if_pos c2, List.map_cons, List.map_nil, ub]
        rw [show (192 + (n : Int) / 64).toNat = 192 + n / 64 by omega, show (128 + (n : Int) % 64).toNat = 128 + n % 64 by omega]
      · by_cases c3 : n < 65536
        · rw [Lib.encodeRuneZ_three (by omega)]
          simp only [Utf8.encode, v, if_true, Int.toNat_natCast, if_neg c1, if_neg c2, if_pos c3, List.map_cons, List.map_nil, ub]
          rw [show (224 + (n : Int) / 4096).toNat = 224 + n / 4096 by omega, show (128 + (n : Int) / 64 % 64).toNat = 128 + n / 64 % 64 by omega, show (128 + (n : Int) % 64).toNat = 128 + n % 64 by omega]
        · rw [Lib.encodeRuneZ_four (by omega) (by omega)]
          simp only [Utf8.encode, v, if_true, Int.toNat_natCast, if_neg c1, if_neg c2, if_neg c3, List.map_cons, List.map_nil, ub]
          rw [show (240 + (n : Int) / 262144).toNat = 240 + n / 262144 by omega, show (128 + (n : Int) / 4096 % 64).toNat = 128 + n / 4096 % 64 by omega, show (128 + (n : Int) / 64 % 64).toNat = 128 + n / 64 % 64 by omega, show (128 + (n : Int) % 64).toNat = 128 + n % 64 by omega]
  · have v : Utf8.valid r = false := by simp [Utf8.valid]; omega
    rw [Lib.encodeRuneZ_bad (by omega)]
    simp [Utf8.encode, v, Utf8.runeError]

theorem cell_box {w : World} {B : Nat} {v : Value} {t : TypeId} (h : w.heap[B]? = some (.cells #[v] t (0, 0))) : w.cell? ⟨B, 0, none⟩ = some v := by
  simp [World.cell?, h]
theorem cell_new (w : World) (v : Value) (t : TypeId) : (w.alloc (.cells #[v] t)).cell? ⟨w.heap.size, 0, none⟩ = some v := cell_box (heap_alloc_new w _)
/-- string([]rune{r}) of a slice just built. -/
theorem convert_one (r : Int) (w : World) (t : TypeId) :
    (convert 53 9 (.slice (some ⟨w.heap.size, 0, none⟩) 1 1)).run Try.prog (w.alloc (.cells #[.int .i32 r] t)) = .ok (.string (Utf8.encode r)) (w.alloc (.cells #[.int .i32 r] t)) := by
  have h := run_convert_runes (P := Try.prog) (w.alloc (.cells #[.int .i32 r] t)) 53 9 21 ⟨w.heap.size, 0, none⟩ 1 1 [r] (by simp) Try.underlying53 Try.underlying21 Try.underlying9
    (fun j hj => by
      obtain rfl : j = 0 := by simp at hj; omega
      exact cell_new w _ t)
  rw [h]
  simp [runesBytes]

/-- A label is quoted as it stands, has 1 to 24 runes, and what is longer by one rune is longer by one rune. -/
theorem plain_facts (s : ByteArray) (r : Int) (h : lab 0 (runesL s.data.toList) = true) :
    quoteL s = 34 :: (s.data.toList ++ [34]) ∧ 1 ≤ (runesL s.data.toList).length ∧ (runesL s.data.toList).length ≤ 24 ∧
    (runesL (s ++ Utf8.encode r).data.toList).length = (runesL s.data.toList).length + 1 ∧
    lab 0 (runesL (s ++ ⟨#[32]⟩).data.toList) = false ∧
    ((runesL s.data.toList).length = 24 → lab 0 (runesL (s ++ Utf8.encode r).data.toList) = false) := by
  obtain ⟨h1, h2, h3⟩ := lab_true _ 0 (by omega) h
  have hne : ∀ x ∈ runesL s.data.toList, x ≠ 65533 := fun x hx => (okR_ne (h3 x hx)).1
  have ha : (s ++ Utf8.encode r).data.toList = s.data.toList ++ Lib.encodeRune r := by
    rw [ByteArray.data_append, Array.toList_append, encode_is]
  have hb : (s ++ ⟨#[32]⟩).data.toList = s.data.toList ++ Lib.encodeRune 32 := by
    rw [ByteArray.data_append, Array.toList_append]
    congr 1
  have hc := runesL_snoc s.data.toList r hne
  have hd := runesL_snoc s.data.toList 32 hne
  refine ⟨quoteL_label s h3, by omega, by omega, ?_, ?_, ?_⟩
  · rw [ha, hc]; simp
  · rw [hb, hd]
    exact lab_barred _ 32 (by simp [runeOf]) (by decide) 0 (by omega)
  · intro h24
    rw [ha, hc]
    exact lab_long _ 0 (by omega) (by simp; omega)
theorem quoted_eq (s : ByteArray) : (⟨#[34]⟩ : ByteArray) ++ s ++ ⟨#[34]⟩ = ⟨(34 :: (s.data.toList ++ [34])).toArray⟩ := by
  apply ByteArray.ext
  apply Array.toList_inj.1
  simp

/-- Of 24 runes a text has at most 96 bytes. -/
theorem width_le (l : List UInt8) : (Lib.decodeL l).2 ≤ 4 := by
  rw [Lib.decodeL_N]
  unfold Lib.decodeN
  repeat' split
  all_goals simp
theorem runes_bytes : ∀ (n : Nat) (l : List UInt8), l.length ≤ n → l.length ≤ 4 * (runesL l).length := by
  intro n
  induction n with
  | zero => intro l h; omega
  | succ n ih =>
    intro l h
    by_cases hne : l = []
    · subst hne; simp
    · have hl : 0 < l.length := List.length_pos_iff.2 hne
      have hw := Lib.decodeL_width l
      have hw4 := width_le l
      have := ih (l.drop (Lib.decodeL l).2) (by rw [List.length_drop]; omega)
      rw [List.length_drop] at this
      rw [runesL_step l hne, List.length_cons]
      omega
theorem label_short (s : ByteArray) (h : lab 0 (runesL s.data.toList) = true) : s.size ≤ 96 := by
  have h1 := (lab_true _ 0 (by omega) h).2.1
  have h2 := runes_bytes s.data.toList.length s.data.toList (Nat.le_refl _)
  have h3 : s.data.toList.length = s.size := by simp
  omega

set_option maxHeartbeats 2000000 in
theorem plain_walk (s : ByteArray) (r : Int) (w : World) :
    Calls Try.prog 8 #[.string s, .int .i32 r] w (TrueIs w) := by
  go_enter Try.func8, Try.ntmps8
  go_wp2_with (go_at_call 16; refine (live_any _).mono ?_)
  rintro e w1 ⟨rfl, b1⟩
  go_wp2_with (go_at_call 36; refine (label_any s _).mono ?_)
  rintro e w2 ⟨rfl, b2⟩
  have b12 := Below.chain b1 b2
  clear b1 b2
  cases hL : lab 0 (runesL s.data.toList)
  · go_wp2_with (go_at_call 16; refine (live_any _).mono ?_)
    rintro e w3 ⟨rfl, b3⟩
    have b13 := Below.chain b12 b3
    clear b12 b3 hL
    go_wp2
    go_ret
    exact ⟨rfl, b13⟩
  · have hl := label_short s hL
    obtain ⟨q1, q2, q3, q4, q5, q6⟩ := plain_facts s r hL
    clear hL
    have hl3 : s.size + (Utf8.encode r).size ≤ 1099511627776 := by
      have h4 := encode_le r
      rw [← encode_is] at h4
      have h5 : (Utf8.encode r).size = (Utf8.encode r).data.toList.length := by simp
      omega
    have hl2 : (s ++ Utf8.encode r).size ≤ 1099511627776 := by rwa [ByteArray.size_append]
    have hl4 : (⟨#[34]⟩ : ByteArray).size + s.size ≤ 1099511627776 := by
      have : (⟨#[34]⟩ : ByteArray).size = 1 := rfl
      omega
    have hl5 : ((⟨#[34]⟩ : ByteArray) ++ s).size + (⟨#[34]⟩ : ByteArray).size ≤ 1099511627776 := by
      rw [ByteArray.size_append]
      have : (⟨#[34]⟩ : ByteArray).size = 1 := rfl
      omega
    have hl6 : s.size + (⟨#[32]⟩ : ByteArray).size ≤ 1099511627776 := by
      have : (⟨#[32]⟩ : ByteArray).size = 1 := rfl
      omega
    have hqe := quoted_eq s
    rw [← q1] at hqe
    clear q1
    have b2b := b12.alloc (Below.size b12) (.cells #[.int .i32 r] 21)
    go_wp2_with (first | rw [convert_one] | go_at_call 37; refine (quote_any s _ (by omega)).mono ?_)
    generalize hT : s ++ Utf8.encode r = t at *
    rintro e w3 ⟨rfl, b3⟩
    have b13 := Below.chain b2b b3
    clear b3 b2b b12
    go_wp2_with (go_at_call 38; refine (runes_any s _ (by omega)).mono ?_)
    rintro e w4 ⟨rfl, b4⟩
    have b14 := Below.chain b13 b4
    clear b4 b13
    go_wp2_with (go_at_call 38; refine (runes_any s _ (by omega)).mono ?_)
    rintro e w5 ⟨rfl, b5⟩
    have b15 := Below.chain b14 b5
    clear b5 b14
    go_wp2_with (go_at_call 38; refine (runes_any t _ hl2).mono ?_)
    rintro e w6 ⟨rfl, b6⟩
    have b16 := Below.chain b15 b6
    clear b6 b15
    go_wp2_with (go_at_call 38; refine (runes_any s _ (by omega)).mono ?_)
    rintro e w7 ⟨rfl, b7⟩
    have b17 := Below.chain b16 b7
    clear b7 b16
    have hLS := label_any (s ++ ⟨#[32]⟩)
    rw [q5] at hLS
    go_wp2_with (go_at_call 36; refine (hLS _).mono ?_)
    rintro e w8 ⟨rfl, b8⟩
    have b18 := Below.chain b17 b8
    clear b8 b17
    go_wp2_with (go_at_call 38; refine (runes_any s _ (by omega)).mono ?_)
    rintro e w9 ⟨rfl, b9⟩
    have b19 := Below.chain b18 b9
    clear b9 b18
    by_cases h24 : (runesL s.data.toList).length = 24
    · have hLT := label_any t
      rw [q6 h24] at hLT
      have h24' : ((runesL s.data.toList).length : Int) = 24 := by omega
      go_wp2_with (go_at_call 36; refine (hLT _).mono ?_)
      rintro e w10 ⟨rfl, b10⟩
      have b20 := Below.chain b19 b10
      clear b10 b19
      go_wp2
      go_ret
      exact ⟨rfl, b20⟩
    · have h24' : ((runesL s.data.toList).length : Int) < 24 := by omega
      go_wp2
      go_ret
      exact ⟨rfl, b19⟩
end Go.Proofs.Ytijkhpiehaocpaa
