/-
  THE DOCUMENT's names: decimal, Is, Name.
-/
import Derived.Test.YtanpplniedphkaaDoorPf4
import Derived.Test.YtanpplniedphkaaDoorPa4
import Derived.Test.YtanpplniedphkaaDoorPa7
import Derived.Test.YtanpplniedphkaaDoorPa8
namespace Go.Proofs.YtanpplniedphkaaDoor
open Go.RowKit Go.Shelf
set_option maxRecDepth 100000
theorem dig6 (m : Nat) : (⟨#[48, 49, 50, 51, 52, 53, 54, 55, 56, 57, 97, 98, 99, 100, 101, 102]⟩ : ByteArray).extract (m % 10) (m % 10 + 1) = ⟨[UInt8.ofNat (48 + m % 10)].toArray⟩ := by
  have key : ∀ j : Fin 10, (⟨#[48, 49, 50, 51, 52, 53, 54, 55, 56, 57, 97, 98, 99, 100, 101, 102]⟩ : ByteArray).extract j.val (j.val + 1) = ⟨[UInt8.ofNat (48 + j.val)].toArray⟩ := by decide +kernel
  exact key ⟨m % 10, by omega⟩
theorem dig6_cons (m : Nat) (acc : List UInt8) : (⟨#[48, 49, 50, 51, 52, 53, 54, 55, 56, 57, 97, 98, 99, 100, 101, 102]⟩ : ByteArray).extract (m % 10) (m % 10 + 1) ++ ⟨acc.toArray⟩ = ⟨(UInt8.ofNat (48 + m % 10) :: acc).toArray⟩ := by
  rw [dig6]
  apply ByteArray.ext
  apply Array.toList_inj.1
  simp
theorem dec6_big {m : Nat} (h : 10 ≤ m) : Lib.decDigits m = Lib.decDigits (m / 10) ++ [UInt8.ofNat (48 + m % 10)] := by rw [Lib.decDigits, dif_neg (by omega)]
theorem dec6_small {m : Nat} (h : m < 10) : Lib.decDigits m = [UInt8.ofNat (48 + m % 10)] := by rw [Lib.decDigits_one h, Nat.mod_eq_of_lt h]
set_option maxHeartbeats 1000000 in
theorem refDec (n : Nat) (hn : n < 1000) (w : World) : Calls Tryd.prog 101 #[.int .u64 n] w (StayIs (.string (decB n)) w) := by
  unfold StayIs
  rw [show decB n = ⟨(Lib.decDigits n).toArray⟩ by rw [dec_eq n hn]; rfl]
  have h20 : (Lib.decDigits n).length ≤ 20 := by
    rw [dec_eq n hn]
    unfold decT
    repeat' split
    all_goals simp
  obtain ⟨L, hL⟩ : ∃ L, L = Lib.decDigits n := ⟨_, rfl⟩
  rw [← hL] at h20 ⊢
  have HL := Shh.mk hL
  clear hL
  have E1 := Shh.mk (dig6 n)
  have hm1 : n % 10 < 10 := by omega
  have hn2 : n < 18446744073709551616 := by omega
  go_enter Tryd.func101, Tryd.ntmps101
  go_wp2
  go_loop [0, 3] (fun m o => ∃ (k : Nat) (acc : List UInt8), k < 18446744073709551616 ∧ m = .int .u64 k ∧ o = .string ⟨acc.toArray⟩ ∧ acc.length ≤ 20 ∧ Shh (∃ t, acc = UInt8.ofNat (48 + k % 10) :: t ∧ Lib.decDigits k ++ t = L)) (fun m _ => (intOf m).toNat)
  case atStart =>
    refine ⟨n, _, hn2, rfl, congrArg Value.string E1.out, by simp, ⟨⟨[], rfl, by rw [HL.out, List.append_nil]⟩⟩⟩
  case round =>
    obtain ⟨k, acc, hk, rfl, rfl, hal, hrel⟩ := hrel
    by_cases h10 : k < 10
    · have i10 : (k : Int) < 10 := by omega
      have hfin : acc = L := by
        obtain ⟨t, ht, hd⟩ := hrel.out
        rw [dec6_small h10] at hd
        rw [ht, ← hd]
        rfl
      subst hfin
      clear hrel
      go_wp2
      go_ret
      exact ⟨rfl, rfl⟩
    · have i10 : ¬ (k : Int) < 10 := by omega
      have h2 : Shh (∃ t, UInt8.ofNat (48 + k / 10 % 10) :: acc = UInt8.ofNat (48 + k / 10 % 10) :: t ∧ Lib.decDigits (k / 10) ++ t = L) := by
        constructor
        obtain ⟨t, ht, hd⟩ := hrel.out
        refine ⟨acc, rfl, ?_⟩
        rw [dec6_big (by omega)] at hd
        rw [ht, ← hd]
        simp
      have hal2 : (UInt8.ofNat (48 + k / 10 % 10) :: acc).length ≤ 20 := by
        obtain ⟨t, ht, hd⟩ := h2.out
        have h3 := congrArg List.length hd
        have h4 := Lib.nDigits_pos (k / 10)
        rw [List.length_append, Lib.decDigits_length] at h3
        rw [ht, List.length_cons]
        omega
      have E2 := Shh.mk (dig6_cons (k / 10) acc)
      have hm2 : k / 10 % 10 < 10 := by omega
      clear hrel
      go_wp2
      go_round
      case rel => exact ⟨k / 10, _, by omega, by go_num, congrArg Value.string E2.out, hal2, h2⟩
      case measure => simp [intOf]; omega
theorem refdec6 (n : Nat) (hn : n < 1000) (w : World) : Calls Tryd.prog 81 #[.int .i64 (n : Int)] w (StayIs (.string (decB n)) w) := by
  unfold StayIs
  have w1 : IntKind.u64.wrap (n : Int) = (n : Int) := by rw [IntKind.wrap_u64]; omega
  have hd := refDec n hn
  unfold StayIs at hd
  clear hn
  go_enter Tryd.func81, Tryd.ntmps81
  go_wp2_with (go_at_call 101; refine (hd _).mono ?_)
  rintro e w' ⟨rfl, rfl⟩
  go_wp2
  go_ret
  exact ⟨rfl, rfl⟩
theorem pick6 (b : Bool) (x y : ByteArray) (w : World) : Calls Tryd.prog 80 #[.bool b, .string x, .string y] w (StayIs (.string (if b then x else y)) w) := by
  unfold StayIs
  cases b
  all_goals
    go_enter Tryd.func80, Tryd.ntmps80
    go_wp2
    go_ret
    exact ⟨by simp, rfl⟩
/-- is there a set of a kind with a code -/
def okK (kind : Int) (c : Nat) : Bool := if kind = 1 then okO c else if kind = 2 then okL c else if kind = 3 then okX c else false
theorem is_1 (c : Nat) (w : World) : Calls Tryd.prog 70 #[.int .i64 1, .int .u32 (c : Int)] w (OldIs (.bool (okO c)) w) := by
  have hset := fun W => refOts_any c W
  unfold okO
  unfold OldIs at hset ⊢
  obtain ⟨V, hV⟩ : ∃ V, otsV c = V := ⟨_, rfl⟩
  rw [hV] at hset
  rcases oE_or c with hE | hE
  all_goals
    rw [hE] at hset ⊢
    clear hE hV
    go_enter Tryd.func70, Tryd.ntmps70
    go_wp2_with (go_at_call 21; refine (hset _).mono ?_)
    rintro e w2 ⟨rfl, b2⟩
    have HB := Shh.mk b2
    clear b2 hset
    go_wp2
    go_ret
    exact ⟨rfl, HB.out⟩
theorem is_2 (c : Nat) (hc : c < 4294967296) (w : World) : Calls Tryd.prog 70 #[.int .i64 2, .int .u32 (c : Int)] w (OldIs (.bool (okL c)) w) := by
  have hset := fun W => refLms_any c hc W
  unfold okL
  unfold OldIs at hset ⊢
  obtain ⟨V, hV⟩ : ∃ V, lmsV c = V := ⟨_, rfl⟩
  rw [hV] at hset
  rcases lE_or c with hE | hE
  all_goals
    rw [hE] at hset ⊢
    clear hE hV
    go_enter Tryd.func70, Tryd.ntmps70
    go_wp2_with (go_at_call 22; refine (hset _).mono ?_)
    rintro e w2 ⟨rfl, b2⟩
    have HB := Shh.mk b2
    clear b2 hset
    go_wp2
    go_ret
    exact ⟨rfl, HB.out⟩
theorem is_3 (c : Nat) (hc : c < 4294967296) (w : World) : Calls Tryd.prog 70 #[.int .i64 3, .int .u32 (c : Int)] w (OldIs (.bool (okX c)) w) := by
  have hset := fun W => refXmss_any c hc W
  unfold okX
  unfold OldIs at hset ⊢
  obtain ⟨V, hV⟩ : ∃ V, xmsV c = V := ⟨_, rfl⟩
  rw [hV] at hset
  rcases xE_or c with hE | hE
  all_goals
    rw [hE] at hset ⊢
    clear hE hV
    go_enter Tryd.func70, Tryd.ntmps70
    go_wp2_with (go_at_call 23; refine (hset _).mono ?_)
    rintro e w2 ⟨rfl, b2⟩
    have HB := Shh.mk b2
    clear b2 hset
    go_wp2
    go_ret
    exact ⟨rfl, HB.out⟩
theorem is_other (kind : Int) (c : Nat) (h1 : kind ≠ 1) (h2 : kind ≠ 2) (h3 : kind ≠ 3) (w : World) : Calls Tryd.prog 70 #[.int .i64 kind, .int .u32 (c : Int)] w (OldIs (.bool false) w) := by
  unfold OldIs
  have e1 : (kind == 1) = false := by simpa using h1
  have e2 : (kind == 2) = false := by simpa using h2
  have e3 : (kind == 3) = false := by simpa using h3
  go_enter Tryd.func70, Tryd.ntmps70
  go_wp2
  go_ret
  exact ⟨rfl, Below.refl _ _⟩
theorem is_any (kind : Int) (c : Nat) (hc : c < 4294967296) (w : World) : Calls Tryd.prog 70 #[.int .i64 kind, .int .u32 (c : Int)] w (OldIs (.bool (okK kind c)) w) := by
  unfold okK
  by_cases h1 : kind = 1
  · subst h1; exact is_1 c w
  rw [if_neg h1]
  by_cases h2 : kind = 2
  · subst h2; exact is_2 c hc w
  rw [if_neg h2]
  by_cases h3 : kind = 3
  · subst h3; exact is_3 c hc w
  rw [if_neg h3]
  exact is_other kind c h1 h2 h3 w
end Go.Proofs.YtanpplniedphkaaDoor
