/-
  WALKS: octet.digitOf, octet.Unhex: at every string, valid or not.
-/
import Derived.Test.YtijkhpiehaocpaaHex
import Derived.Lib.OthersKept
import Derived.WalkMore
import Derived.Deep.LoopGhost
namespace Go.Proofs.Ytijkhpiehaocpaa
open Go.RowKit

def isHexB (b : UInt8) : Bool := (48 ≤ b.toNat && b.toNat ≤ 57) || (97 ≤ b.toNat && b.toNat ≤ 102)
def hexV (b : UInt8) : Nat := if b.toNat ≤ 57 then b.toNat - 48 else b.toNat - 87
def pairs : List UInt8 → List UInt8
  | a :: b :: r => UInt8.ofNat (16 * hexV a + hexV b) :: pairs r
  | _ => []
def hexN (l : List UInt8) : Nat := (l.takeWhile isHexB).length
def unOk (l : List UInt8) : Prop := hexN l = l.length ∧ l.length % 2 = 0
instance (l : List UInt8) : Decidable (unOk l) := by unfold unOk; infer_instance
def unB (l : List UInt8) : List UInt8 := if unOk l then pairs l else []
def unE (l : List UInt8) : Int := if unOk l then 0 else 10

theorem pairs_two (l : List UInt8) (a b : UInt8) (h : l.length % 2 = 0) : pairs (l ++ [a, b]) = pairs l ++ [UInt8.ofNat (16 * hexV a + hexV b)] := by
  match l, h with
  | [], _ => rfl
  | [x], h => simp at h
  | x :: y :: r, h =>
    simp only [List.cons_append, pairs]
    rw [pairs_two r a b (by simp only [List.length_cons] at h; omega)]
theorem pairs_one (l : List UInt8) (a : UInt8) (h : l.length % 2 = 0) : pairs (l ++ [a]) = pairs l := by
  match l, h with
  | [], _ => rfl
  | [x], h => simp at h
  | x :: y :: r, h =>
    simp only [List.cons_append, pairs]
    rw [pairs_one r a (by simp only [List.length_cons] at h; omega)]
theorem hexN_le (l : List UInt8) : hexN l ≤ l.length := by
  unfold hexN
  induction l with
  | nil => simp
  | cons a r ih =>
    simp only [List.takeWhile_cons]
    split
    · simp only [List.length_cons]; omega
    · simp
theorem hexN_stop (l : List UInt8) (k : Nat) (h : ∀ j (hj : j < l.length), j < k → isHexB l[j] = true) (hk : k < l.length) (hb : isHexB l[k] = false) : hexN l = k := by
  unfold hexN
  induction l generalizing k with
  | nil => simp at hk
  | cons a r ih =>
    cases k with
    | zero =>
      simp only [List.getElem_cons_zero] at hb
      simp [hb]
    | succ k =>
      have h0 := h 0 (by simp) (by omega)
      simp only [List.getElem_cons_zero] at h0
      simp only [List.takeWhile_cons, h0, if_true, List.length_cons]
      rw [ih k (fun j hj hjk => by have := h (j + 1) (by simp; omega) (by omega); simpa using this) (by simpa using hk) (by simpa using hb)]
theorem hexN_all (l : List UInt8) (h : ∀ j (hj : j < l.length), isHexB l[j] = true) : hexN l = l.length := by
  unfold hexN
  induction l with
  | nil => rfl
  | cons a r ih =>
    have h0 := h 0 (by simp)
    simp only [List.getElem_cons_zero] at h0
    simp only [List.takeWhile_cons, h0, if_true, List.length_cons]
    rw [ih (fun j hj => by have := h (j + 1) (by simp; omega); simpa using this)]

/-! ### digitOf -/
theorem digitOf_yes (r : Int) (w : World) (h : (48 ≤ r ∧ r ≤ 57)) :
    Calls Try.prog 45 #[.int .i32 r] w fun e w' => e = .returned (.tuple #[.int .u8 (r - 48), .bool true]) ∧ w = w' := by
  obtain ⟨h1, h2⟩ := h
  go_enter Try.func45, Try.ntmps45
  go_wp2
  go_ret2
  exact ⟨rfl, rfl⟩
theorem digitOf_let (r : Int) (w : World) (h : (97 ≤ r ∧ r ≤ 102)) :
    Calls Try.prog 45 #[.int .i32 r] w fun e w' => e = .returned (.tuple #[.int .u8 (r - 97 + 10), .bool true]) ∧ w = w' := by
  obtain ⟨h1, h2⟩ := h
  have h3 : 48 ≤ r := by omega
  have h4 : decide (r ≤ 57) = false := by simp; omega
  go_enter Try.func45, Try.ntmps45
  go_wp2
  go_ret2
  exact ⟨rfl, rfl⟩
theorem digitOf_no (r : Int) (w : World) (h : r < 48 ∨ (57 < r ∧ r < 97) ∨ 102 < r) :
    Calls Try.prog 45 #[.int .i32 r] w fun e w' => e = .returned (.tuple #[.int .u8 0, .bool false]) ∧ w = w' := by
  rcases h with h | ⟨h, h'⟩ | h
  · have h3 : decide (48 ≤ r) = false := by simp; omega
    have h4 : decide (97 ≤ r) = false := by simp; omega
    go_enter Try.func45, Try.ntmps45
    go_wp2
    go_ret2
    exact ⟨rfl, rfl⟩
  · have h3 : 48 ≤ r := by omega
    have h4 : decide (r ≤ 57) = false := by simp; omega
    have h5 : decide (97 ≤ r) = false := by simp; omega
    go_enter Try.func45, Try.ntmps45
    go_wp2
    go_ret2
    exact ⟨rfl, rfl⟩
  · have h3 : 48 ≤ r := by omega
    have h4 : decide (r ≤ 57) = false := by simp; omega
    have h5 : 97 ≤ r := by omega
    have h6 : decide (r ≤ 102) = false := by simp; omega
    go_enter Try.func45, Try.ntmps45
    go_wp2
    go_ret2
    exact ⟨rfl, rfl⟩
theorem digitOf_hex (b : UInt8) (w : World) (h : isHexB b = true) :
    Calls Try.prog 45 #[.int .i32 (b.toNat : Int)] w fun e w' => e = .returned (.tuple #[.int .u8 (hexV b : Int), .bool true]) ∧ w = w' := by
  simp only [isHexB, Bool.or_eq_true, Bool.and_eq_true, decide_eq_true_eq] at h
  rcases h with ⟨h1, h2⟩ | ⟨h1, h2⟩
  · refine (digitOf_yes _ w ⟨by omega, by omega⟩).mono ?_
    rintro e w' ⟨rfl, rfl⟩
    refine ⟨?_, rfl⟩
    have : (b.toNat : Int) - 48 = (hexV b : Int) := by unfold hexV; rw [if_pos h2]; omega
    rw [this]
  · refine (digitOf_let _ w ⟨by omega, by omega⟩).mono ?_
    rintro e w' ⟨rfl, rfl⟩
    refine ⟨?_, rfl⟩
    have : (b.toNat : Int) - 97 + 10 = (hexV b : Int) := by unfold hexV; rw [if_neg (by omega)]; omega
    rw [this]

/-- a rune that is no digit, where the byte is none -/
theorem rune_hex (s : ByteArray) (k : Nat) (h : k < s.size) (hb : isHexB s[k] = true) : Utf8.decode s k = (s[k].toNat, 1) := by
  refine decode_ascii s k h ?_
  simp only [isHexB, Bool.or_eq_true, Bool.and_eq_true, decide_eq_true_eq] at hb
  omega
theorem rune_nohex (s : ByteArray) (k : Nat) (h : k < s.size) (hb : isHexB s[k] = false) :
    ((Utf8.decode s k).1 : Int) < 48 ∨ (57 < ((Utf8.decode s k).1 : Int) ∧ ((Utf8.decode s k).1 : Int) < 97) ∨ 102 < ((Utf8.decode s k).1 : Int) := by
  by_cases ha : (s[k]).toNat < 128
  · rw [decode_ascii s k h ha]
    simp only [isHexB, Bool.or_eq_false_iff, Bool.and_eq_false_iff, decide_eq_false_iff_not] at hb
    show ((s[k].toNat : Nat) : Int) < 48 ∨ _
    simp only
    omega
  · have := (decode_high s k h (by omega)).1
    omega
theorem hexV_lt (b : UInt8) (h : isHexB b = true) : hexV b < 16 := by
  simp only [isHexB, Bool.or_eq_true, Bool.and_eq_true, decide_eq_true_eq] at h
  unfold hexV
  split <;> omega
theorem bytes_get (s : ByteArray) (k : Nat) (h : k < s.size) : s.data.toList[k]'(by simpa using h) = s[k] := by simp; rfl

/-! ### the iterator of a range over a string, beside a slice of the call's own -/
section
variable {w w1 : World} {base e g : Nat} {v : Value} {n : Nat} {xs : List Value} {s : ByteArray} {pos : Nat}
theorem own_ne_iter (h : w.ownsRow base e 1 v n xs) (hit : w.heap[g]? = some (.stringIter s pos)) : v.ownBlock ≠ some g := by
  intro hg
  rcases h.2 with ⟨rfl, _⟩ | ⟨g', cap, cur, rfl, _, hgg, _⟩
  · simp [Value.ownBlock] at hg
  · simp [Value.ownBlock] at hg
    subst hg
    rw [hgg] at hit
    cases hit
theorem own_iterAt (h : w.ownsRow base e 1 v n xs) (hit : w.heap[g]? = some (.stringIter s pos)) (pos' : Nat) : (w.iterAt g s pos').ownsRow base e 1 v n xs := by
  have hne := own_ne_iter h hit
  refine ⟨h.1, ?_⟩
  rcases h.2 with hn | ⟨g', cap, cur, rfl, hb, hgg, rest⟩
  · exact .inl hn
  · refine .inr ⟨g', cap, cur, rfl, hb, ?_, rest⟩
    rw [Lib.iterAt_other w g g' s pos' (fun e => hne (by rw [e]; rfl))]
    exact hgg
theorem iter_alloc (hit : w.heap[g]? = some (.stringIter s pos)) (o : Obj) : (w.alloc o).heap[g]? = some (.stringIter s pos) :=
  (Below.heap_alloc w o g (Array.getElem?_eq_some_iff.1 hit).1).trans hit
theorem iter_grown (h : w.ownsRow base e 1 v n xs) (hit : w.heap[g]? = some (.stringIter s pos)) {o : Obj} (hg : (w.alloc o).grownBy w1 v.ownBlock) : w1.heap[g]? = some (.stringIter s pos) :=
  (hg.block g (Array.getElem?_eq_some_iff.1 (iter_alloc hit o)).1 (fun e => own_ne_iter h hit e.symm)).trans (iter_alloc hit o)
end

theorem pairs_step (l : List UInt8) (k : Nat) (h : k < l.length) (h2 : k % 2 = 1) :
    pairs (l.take (k + 1)) = pairs (l.take k) ++ [UInt8.ofNat (16 * hexV (l[k - 1]'(by omega)) + hexV l[k])] := by
  obtain ⟨m, rfl⟩ : ∃ m, k = m + 1 := ⟨k - 1, by omega⟩
  have hm : (l.take m).length % 2 = 0 := by rw [List.length_take, Nat.min_eq_left (by omega)]; omega
  rw [take_snoc l (m + 1) h, take_snoc l m (by omega), List.append_assoc]
  show pairs (l.take m ++ [l[m], l[m + 1]]) = pairs (l.take m ++ [l[m]]) ++ _
  rw [pairs_two _ _ _ hm, pairs_one _ _ hm]
  rfl
theorem pairs_even (l : List UInt8) (k : Nat) (h : k < l.length) (h2 : k % 2 = 0) : pairs (l.take (k + 1)) = pairs (l.take k) := by
  rw [take_snoc l k h, pairs_one _ _ (by rw [List.length_take, Nat.min_eq_left (by omega)]; omega)]
theorem pairs_length (l : List UInt8) : (pairs l).length = l.length / 2 := by
  match l with
  | [] => rfl
  | [x] => simp [pairs]
  | x :: y :: r =>
    simp only [pairs, List.length_cons]
    rw [pairs_length r]
    omega
theorem nib_or (a b : Nat) (ha : a < 16) (hb : b < 16) : bits .or .u8 ((a : Int) * 16) (b : Int) = ((UInt8.ofNat (16 * a + b)).toNat : Int) := by
  have e : (a : Int) * 16 = ((16 * a : Nat) : Int) := by omega
  rw [e, bits_join .u8 8 (by decide) wraps_u8 4 _ _ (by omega) (by omega) (by omega) (by omega) (by omega) (by omega)]
  have : (UInt8.ofNat (16 * a + b)).toNat = 16 * a + b := by simp; omega
  rw [this]; omega

set_option maxHeartbeats 1000000 in
theorem unhex_any (s : ByteArray) (w : World) (hl : s.size ≤ 1099511627776) :
    Calls Try.prog 32 #[.string s] w fun e w' => ∃ v, e = .returned (.tuple #[v, .int .i64 (hexN s.data.toList), .int .i64 (unE s.data.toList)]) ∧ Gives w (unB s.data.toList) v w' := by
  obtain ⟨i0, hi, hz0, hz1, hz2⟩ := info_parts info_u8
  have hmk := make0_run (s.size / 2) (by omega)
  simp only [Int.natCast_ediv, Int.cast_ofNat_Int] at hmk
  obtain ⟨l, hll⟩ : ∃ l, l = s.data.toList := ⟨_, rfl⟩
  rw [← hll]
  have HL := Lib.hid hll
  have hsz : l.length = s.size := by rw [hll]; simp
  have HSZ := Lib.hid hsz
  have HG : Hid (∀ k (h : k < s.size), l[k]? = some s[k]) := by
    apply Lib.hid
    intro k h
    rw [List.getElem?_eq_getElem (by omega)]
    subst hll
    rw [bytes_get s k h]
  clear hll hsz
  go_enter Try.func32, Try.ntmps32
  go_wp2
  go_step3
  go_wp2
  go_step3
  go_wp2
  go_loopw [5, 6, 7] (fun o h c wr => ∃ (k : Nat) (hv : UInt8), k ≤ s.size ∧ c = .int .i64 k ∧ h = .int .u8 (hexV hv) ∧ isHexB hv = true ∧ Hid (k % 2 = 1 → l[k - 1]? = some hv) ∧ Hid (∀ j b, l[j]? = some b → j < k → isHexB b = true) ∧
      wr.ownsRow w.heap.size 5 1 o (k / 2) (Lib.byteCells (pairs (l.take k))) ∧ wr.heap[w.heap.size + 1]? = some (.stringIter s k) ∧ Below w.heap.size w wr) (fun _ _ c _ => s.size - (intOf c).toNat)
  case atStart =>
    refine ⟨0, 48, Nat.zero_le _, rfl, rfl, rfl, Lib.hid (fun h => by simp at h), Lib.hid (fun j _ _ h => by omega), ?_, ?_, ?_⟩
    · exact (World.ownsRow_made w _ (s.size / 2) (Nat.le_refl _) (by unfold maxLen; omega) (by simp [Lib.byteCells])).alloc _
    · have := World.iter_heap (w.alloc (.cells (Lib.byteCells (List.replicate (s.size / 2) 0)).toArray 5)) s 0
      simpa using this
    · exact ((Below.refl _ w).alloc (Nat.le_refl _) _).alloc (by simp) _
  case round =>
    obtain ⟨k, hv, hk, rfl, rfl, hhv, hodd, hall, hown, hit, hbel⟩ := hrel
    by_cases hp : k < s.size
    · have hbelS := hbel.size
      have hbel2 := Lib.below_iterAt hbel (k := w.heap.size + 1) (by omega) s (k + 1)
      have hit2 := Lib.iterAt_heap wr (w.heap.size + 1) s k (k + 1) hit
      have hown2 := own_iterAt hown hit (k + 1)
      cases hb : isHexB s[k]
      · have hr := rune_nohex s k hp hb
        have hnx : ∀ ty, (Instr.next (.pointer (some ⟨w.heap.size + 1, 0, none⟩)) true ty).run Try.prog wr = _ := fun ty => Lib.run_next_any_at wr (w.heap.size + 1) s k ty hit hp
        have hN : hexN l = k := by
          have h1 := HG.out k hp
          have h2 := HSZ.out
          obtain ⟨h3, h4⟩ := List.getElem?_eq_some_iff.1 h1
          exact hexN_stop l k (fun j hj hjk => hall.out j _ (List.getElem?_eq_getElem hj) hjk) h3 (by rw [h4]; exact hb)
        have hno : ¬ unOk l := fun h => by have h1 := h.1; have h2 := HSZ.out; omega
        have hB : unB l = [] := if_neg hno
        have hE : unE l = 10 := if_neg hno
        have HN := Lib.hid hN
        have HB := Lib.hid hB
        have HE := Lib.hid hE
        have hbel3 := Lib.below_iterAt hbel (k := w.heap.size + 1) (by omega) s (k + (Utf8.decode s k).2)
        clear hno hN hB hE hown2 hit2 hbel2 hown
        go_wp2_with (go_at_call 45; refine (digitOf_no _ _ hr).mono ?_; rintro e w' ⟨rfl, rfl⟩)
        rw [Exit.noGoto_ret]
        go_ret3
        rw [HB.out, HE.out, HN.out]
        exact ⟨_, rfl, World.ownsRow_nil _ _ _ _, hbel3⟩
      · have hnx : ∀ ty, (Instr.next (.pointer (some ⟨w.heap.size + 1, 0, none⟩)) true ty).run Try.prog wr = _ := fun ty => Lib.run_next_any_at wr (w.heap.size + 1) s k ty hit hp
        rw [rune_hex s k hp hb] at hnx
        have hlk : l[k]? = some s[k] := HG.out k hp
        have hall2 : Hid (∀ j b, l[j]? = some b → j < k + 1 → isHexB b = true) := by
          apply Lib.hid
          intro j b hj hjk
          by_cases e : j = k
          · subst e
            rw [hlk] at hj
            injection hj with hj
            rw [← hj]; exact hb
          · exact hall.out j b hj (by omega)
        by_cases hpar : k % 2 = 0
        · have hodd2 : Hid ((k + 1) % 2 = 1 → l[k + 1 - 1]? = some s[k]) := Lib.hid (fun _ => by simpa using hlk)
          have hPE : Hid ((wr.iterAt (w.heap.size + 1) s (k + 1)).heap.size = wr.heap.size) := Lib.hid (Lib.iterAt_size _ _ _ _)
          have HO : ∀ v, wr.ownsRow w.heap.size 5 1 v (k / 2) (Lib.byteCells (pairs (l.take k))) → Hid ((wr.iterAt (w.heap.size + 1) s (k + 1)).ownsRow w.heap.size 5 1 v ((k + 1) / 2) (Lib.byteCells (pairs (l.take (k + 1))))) := by
            intro v hv
            rw [pairs_even l k (by have := HSZ.out; omega) hpar, show (k + 1) / 2 = k / 2 by omega]
            exact Lib.hid (own_iterAt hv hit (k + 1))
          have HO2 := HO _ hown
          have ht : ((k : Int) % 2 == 0) = true := by rw [beq_iff_eq]; omega
          clear HO hown hown2 hodd hall hlk hpar
          go_wp2_with (go_at_call 45; refine (digitOf_hex _ _ hb).mono ?_; rintro e w' ⟨rfl, rfl⟩)
          go_roundw
          case rel => exact ⟨k + 1, s[k], by omega, by go_num, rfl, hb, hodd2, hall2, HO2.out, hit2, hbel2⟩
          case measure => simp [intOf]; omega
        · have hlk1 := hodd.out (by omega)
          have hl16 := hexV_lt hv hhv
          have hl16' := hexV_lt s[k] hb
          have HNIB := Lib.hid (nib_or _ _ hl16 hl16')
          have hodd2 : Hid ((k + 1) % 2 = 1 → l[k + 1 - 1]? = some hv) := Lib.hid (fun h => by omega)
          have HX : Hid (Lib.byteCells (pairs (l.take (k + 1))) = Lib.byteCells (pairs (l.take k)) ++ [.int .u8 ((UInt8.ofNat (16 * hexV hv + hexV s[k])).toNat : Int)]) := by
            apply Lib.hid
            have h2 := HSZ.out
            rw [pairs_step l k (by omega) (by omega), Lib.byteCells_append]
            have g1 : l[k - 1]'(by omega) = hv := by rw [List.getElem?_eq_getElem (by omega)] at hlk1; exact Option.some.inj hlk1
            have g2 : l[k]'(by omega) = s[k] := by rw [List.getElem?_eq_getElem (by omega)] at hlk; exact Option.some.inj hlk
            rw [g1, g2]
            rfl
          have ht : ((k : Int) % 2 == 0) = false := by rw [beq_eq_false_iff_ne]; omega
          have hK : Hid (k / 2 + 1 = (k + 1) / 2) := Lib.hid (by omega)
          have hsz2 : w.heap.size ≤ (wr.iterAt (w.heap.size + 1) s (k + 1)).heap.size := by rw [Lib.iterAt_size]; omega
          generalize Lib.byteCells (pairs (l.take k)) = xs at hown hown2 HX
          clear hown hodd hall hlk hlk1 hpar
          go_wp2_with (first
            | (go_at_call 45; refine (digitOf_hex _ _ hb).mono ?_; rintro e w' ⟨rfl, rfl⟩)
            | (at_builtin; refine wp_append1 _ 23 5 i0 (.int .u8 0) Try.underlying23 hi hz0 hz1 hz2 rfl rfl _ _ rfl hown2 rfl rfl rfl (by omega) hsz2 ?_))
          intro v' w1 hown1 hg1 hb1
          have hit3 := iter_grown hown2 hit2 hg1
          rw [HNIB.out, ← HX.out] at hown1
          have HO := Lib.hid (own_len hown1 hK.out)
          clear hown1 hg1
          go_wp2
          go_roundw
          case rel => exact ⟨k + 1, hv, by omega, by go_num, rfl, hhv, hodd2, hall2, HO.out, hit3, hbel2.trans (hb1 _ (Nat.le_refl _))⟩
          case measure => simp [intOf]; omega
    · obtain rfl : k = s.size := by omega
      have hnx : ∀ ty, (Instr.next (.pointer (some ⟨w.heap.size + 1, 0, none⟩)) true ty).run Try.prog wr = _ := fun ty => Lib.run_next_end_at wr (w.heap.size + 1) s s.size ty hit hp
      have hN : hexN l = s.size := by
        have h2 := HSZ.out
        rw [← h2]
        exact hexN_all l (fun j hj => hall.out j _ (List.getElem?_eq_getElem hj) (by omega))
      rw [List.take_of_length_le (by have h2 := HSZ.out; omega)] at hown
      by_cases hpar : s.size % 2 = 0
      · have hok : unOk l := ⟨by rw [hN, HSZ.out], by rw [HSZ.out]; exact hpar⟩
        have hB : unB l = pairs l := if_pos hok
        have hE : unE l = 0 := if_pos hok
        have HN := Lib.hid hN
        have HB := Lib.hid hB
        have HE := Lib.hid hE
        have ht : ((s.size : Int) % 2 != 0) = false := by rw [bne_eq_false_iff_eq]; omega
        have HO := Lib.hid (own_len hown (show s.size / 2 = (pairs l).length by rw [pairs_length, HSZ.out]))
        clear hok hB hE hN hown hpar
        go_wp2
        rw [Exit.noGoto_ret]
        go_ret3
        rw [HB.out, HE.out, HN.out]
        exact ⟨_, rfl, HO.out, hbel⟩
      · have hok : ¬ unOk l := fun h => hpar (by have := h.2; rwa [HSZ.out] at this)
        have hB : unB l = [] := if_neg hok
        have hE : unE l = 10 := if_neg hok
        have HN := Lib.hid hN
        have HB := Lib.hid hB
        have HE := Lib.hid hE
        have ht : ((s.size : Int) % 2 != 0) = true := by rw [bne_iff_ne]; omega
        clear hok hB hE hN hown hpar
        go_wp2
        rw [Exit.noGoto_ret]
        go_ret3
        rw [HB.out, HE.out, HN.out]
        exact ⟨_, rfl, World.ownsRow_nil _ _ _ _, hbel⟩
end Go.Proofs.Ytijkhpiehaocpaa
