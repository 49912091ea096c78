/-
  WALKS: the name of every kind and code; the head of a name.
-/
import Derived.Test.YtanpplniedphkaaDoorPf3
import Derived.Lib.OthersKept
import Derived.Lib.MapLaws
namespace Go.Proofs.YtanpplniedphkaaDoor
open Go.Shelf Go.RowKit
set_option maxRecDepth 100000
/-- the name of a kind and code; "" if there is none -/
def nm1 (c : Nat) : ByteArray := if okO c then nmB (⟨#[76, 77, 79, 84, 83, 95]⟩ : ByteArray) (hshL (oR c).1) (⟨#[95, 78]⟩ : ByteArray) (decB (oR c).2.1.toNat) (⟨#[95, 87]⟩ : ByteArray) (decB (oR c).2.2.1.toNat) else ⟨#[]⟩
def nm2 (c : Nat) : ByteArray := if okL c then nmB (⟨#[76, 77, 83, 95]⟩ : ByteArray) (hshL (lSh c)) (⟨#[95, 77]⟩ : ByteArray) (decB (lN c).toNat) (⟨#[95, 72]⟩ : ByteArray) (decB (lH c)) else ⟨#[]⟩
def nm3 (c : Nat) : ByteArray := if okX c then nmB (⟨#[88, 77, 83, 83, 45]⟩ : ByteArray) (hshX (xSh c)) (⟨#[95]⟩ : ByteArray) (decB (xH c)) (⟨#[95]⟩ : ByteArray) (decB (8 * (xN c).toNat)) else ⟨#[]⟩
def nmOf (kind : Int) (c : Nat) : ByteArray := if kind = 1 then nm1 c else if kind = 2 then nm2 c else if kind = 3 then nm3 c else ⟨#[]⟩
theorem oR_lt (c : Nat) : ((oR c).2.1.toNat < 100 ∧ (oR c).2.2.1.toNat < 100) ∧ (((oR c).2.1.toNat : Int) = (oR c).2.1 ∧ ((oR c).2.2.1.toNat : Int) = (oR c).2.2.1) := by
  by_cases h : c < 1 ∨ 16 < c
  · rw [(oR_none h).1]; decide
  · have key : ∀ j : Fin 17, ((oR j.val).2.1.toNat < 100 ∧ (oR j.val).2.2.1.toNat < 100) ∧ (((oR j.val).2.1.toNat : Int) = (oR j.val).2.1 ∧ ((oR j.val).2.2.1.toNat : Int) = (oR j.val).2.2.1) := by decide +kernel
    exact key ⟨c, by omega⟩
theorem hN_nat (f : Nat) : hN f = 24 ∨ hN f = 32 := by unfold hN; split <;> omega
theorem name1_no (c : Nat) (cc N H P L : Int) (s : Bool) (hset : ∀ W, Calls Tryd.prog 18 #[.int .u32 (c : Int)] W (OldIs (.tuple #[.agg #[.int .u32 cc, .bool s, .int .i64 N, .int .i64 H, .int .i64 P, .int .i64 L], .int .i64 60]) W)) (w : World) :
    Calls Tryd.prog 30 #[.int .i64 1, .int .u32 (c : Int)] w (OldIs (.string ⟨#[]⟩) w) := by
  unfold OldIs
  go_enter Tryd.func30, Tryd.ntmps30
  go_wp2_with (go_at_call 18; refine (hset _).mono ?_)
  unfold OldIs
  rintro e w2 ⟨rfl, b2⟩
  obtain ⟨G, hG⟩ : ∃ G, Shh (G = w2.heap.size) := ⟨_, ⟨rfl⟩⟩
  go_wp2_with (refine wpList_store_any rfl 46 (.tmp 5) (.tmp 17) rfl G (by rw [hG.out]; rfl) [.int .u32 cc, .bool s, .int .i64 N, .int .i64 H, .int .i64 P, .int .i64 L] rfl 46 _ (Row.new_ hG.out rfl) info_ots rfl oneCell6 ?_)
  intro Z hr bt _
  have F : Shh (Below w.heap.size w Z) := ⟨Below.chain b2 ((Below.alloc (Below.refl _ _) (Nat.le_refl _) _).trans (bt.under (by have := hG.out; first | omega | (simp only [asz]; omega)) (by have := hG.out; omega)))⟩
  clear hr bt b2 hG hset
  go_wp2
  go_ret
  exact ⟨rfl, F.out⟩
theorem name2_no (c : Nat) (cc N H : Int) (s : Bool) (hset : ∀ W, Calls Tryd.prog 19 #[.int .u32 (c : Int)] W (OldIs (.tuple #[.agg #[.int .u32 cc, .bool s, .int .i64 N, .int .i64 H], .int .i64 60]) W)) (w : World) :
    Calls Tryd.prog 30 #[.int .i64 2, .int .u32 (c : Int)] w (OldIs (.string ⟨#[]⟩) w) := by
  unfold OldIs
  go_enter Tryd.func30, Tryd.ntmps30
  go_wp2_with (go_at_call 19; refine (hset _).mono ?_)
  unfold OldIs
  rintro e w2 ⟨rfl, b2⟩
  obtain ⟨G, hG⟩ : ∃ G, Shh (G = w2.heap.size) := ⟨_, ⟨rfl⟩⟩
  go_wp2_with (refine wpList_store_any rfl 50 (.tmp 7) (.tmp 40) rfl G (by rw [hG.out]; rfl) [.int .u32 cc, .bool s, .int .i64 N, .int .i64 H] rfl 50 _ (Row.new_ hG.out rfl) info_lms rfl oneCell4 ?_)
  intro Z hr bt _
  have F : Shh (Below w.heap.size w Z) := ⟨Below.chain b2 ((Below.alloc (Below.refl _ _) (Nat.le_refl _) _).trans (bt.under (by have := hG.out; first | omega | (simp only [asz]; omega)) (by have := hG.out; omega)))⟩
  clear hr bt b2 hG hset
  go_wp2
  go_ret
  exact ⟨rfl, F.out⟩
theorem name3_no (c : Nat) (cc N H L : Int) (s : Bool) (hset : ∀ W, Calls Tryd.prog 20 #[.int .u32 (c : Int)] W (OldIs (.tuple #[.agg #[.int .u32 cc, .bool s, .int .i64 N, .int .i64 H, .int .i64 L], .int .i64 60]) W)) (w : World) :
    Calls Tryd.prog 30 #[.int .i64 3, .int .u32 (c : Int)] w (OldIs (.string ⟨#[]⟩) w) := by
  unfold OldIs
  go_enter Tryd.func30, Tryd.ntmps30
  go_wp2_with (go_at_call 20; refine (hset _).mono ?_)
  unfold OldIs
  rintro e w2 ⟨rfl, b2⟩
  obtain ⟨G, hG⟩ : ∃ G, Shh (G = w2.heap.size) := ⟨_, ⟨rfl⟩⟩
  go_wp2_with (refine wpList_store_any rfl 54 (.tmp 9) (.tmp 63) rfl G (by rw [hG.out]; rfl) [.int .u32 cc, .bool s, .int .i64 N, .int .i64 H, .int .i64 L] rfl 54 _ (Row.new_ hG.out rfl) info_xms rfl oneCell5 ?_)
  intro Z hr bt _
  have F : Shh (Below w.heap.size w Z) := ⟨Below.chain b2 ((Below.alloc (Below.refl _ _) (Nat.le_refl _) _).trans (bt.under (by have := hG.out; first | omega | (simp only [asz]; omega)) (by have := hG.out; omega)))⟩
  clear hr bt b2 hG hset
  go_wp2
  go_ret
  exact ⟨rfl, F.out⟩
theorem name_other (kind : Int) (c : Nat) (h1 : kind ≠ 1) (h2 : kind ≠ 2) (h3 : kind ≠ 3) (w : World) : Calls Tryd.prog 30 #[.int .i64 kind, .int .u32 (c : Int)] w (OldIs (.string ⟨#[]⟩) w) := by
  unfold OldIs
  have e1 : (kind == 1) = false := by simpa using h1
  have e2 : (kind == 2) = false := by simpa using h2
  have e3 : (kind == 3) = false := by simpa using h3
  go_enter Tryd.func30, Tryd.ntmps30
  go_wp2
  go_ret
  exact ⟨rfl, Below.refl _ _⟩
theorem name_any (kind : Int) (c : Nat) (hc : c < 4294967296) (w : World) (hp : Pow w) : Calls Tryd.prog 30 #[.int .i64 kind, .int .u32 (c : Int)] w (OldIs (.string (nmOf kind c)) w) := by
  unfold nmOf
  by_cases h1 : kind = 1
  · subst h1
    rw [if_pos rfl]
    unfold nm1
    cases hk : okO c with
    | true =>
      rw [if_pos rfl]
      obtain ⟨⟨a1, a2⟩, a3, a4⟩ := oR_lt c
      have he : oE c = 0 := of_decide_eq_true hk
      have hcc : oC c = (c : Int) := by unfold oE at he; unfold oC; split at he <;> simp_all
      refine name1_of c c _ _ (oR c).1 (oR c).2.2.2.1 (oR c).2.2.2.2 a1 a2 (fun W => ?_) w
      have h := ots_any c W
      unfold otsV at h
      rw [he, hcc] at h
      rw [a3, a4]
      exact h
    | false =>
      rw [if_neg (by simp)]
      have he : oE c = 60 := by rcases oE_or c with h | h; exact absurd h (of_decide_eq_false hk); exact h
      refine name1_no c (oC c) (oR c).2.1 (oR c).2.2.1 (oR c).2.2.2.1 (oR c).2.2.2.2 (oR c).1 (fun W => ?_) w
      have h := ots_any c W
      unfold otsV at h
      rw [he] at h
      exact h
  rw [if_neg h1]
  by_cases h2 : kind = 2
  · subst h2
    rw [if_pos rfl]
    unfold nm2
    cases hk : okL c with
    | true =>
      rw [if_pos rfl]
      have he : lE c = 0 := of_decide_eq_true hk
      have hcc : lC c = (c : Int) := by unfold lE at he; unfold lC; split at he <;> simp_all
      have hn : lN c = 24 ∨ lN c = 32 := by
        unfold lE at he
        unfold lN
        split at he
        · omega
        · rw [if_neg (by assumption)]; exact hN_nat _
      have hn2 : ((lN c).toNat : Int) = lN c := Int.toNat_of_nonneg (by omega)
      refine name2_of c c _ _ (lSh c) (by omega) (by have := lH_le c; omega) (fun W => ?_) w
      have h := lms_any c hc W
      unfold lmsV at h
      rw [he, hcc] at h
      rw [hn2]
      exact h
    | false =>
      rw [if_neg (by simp)]
      have he : lE c = 60 := by rcases lE_or c with h | h; exact absurd h (of_decide_eq_false hk); exact h
      refine name2_no c (lC c) (lN c) (lH c : Int) (lSh c) (fun W => ?_) w
      have h := lms_any c hc W
      unfold lmsV at h
      rw [he] at h
      exact h
  rw [if_neg h2]
  by_cases h3 : kind = 3
  · subst h3
    rw [if_pos rfl]
    unfold nm3
    cases hk : okX c with
    | true =>
      rw [if_pos rfl]
      have he : xE c = 0 := of_decide_eq_true hk
      have hcc : xC c = (c : Int) := by unfold xE at he; unfold xC; split at he <;> simp_all
      have hn : xN c = 24 ∨ xN c = 32 := by
        unfold xE at he
        unfold xN
        split at he
        · omega
        · rw [if_neg (by assumption)]; exact hN_nat _
      have hx : ∀ W, Calls Tryd.prog 20 #[.int .u32 (c : Int)] W (OldIs (.tuple #[.agg #[.int .u32 (c : Int), .bool (xSh c), .int .i64 (xN c), .int .i64 (xH c : Int), .int .i64 (xL c)], .int .i64 0]) W) := by
        intro W
        have h := xmss_any c hc W
        unfold xmsV at h
        rw [he, hcc] at h
        exact h
      rcases hn with hn | hn
      · rw [hn] at hx ⊢
        exact name3_24 c c (xH c) (xSh c) (xL c) (by have := xH_le c; omega) hx w hp
      · rw [hn] at hx ⊢
        exact name3_32 c c (xH c) (xSh c) (xL c) (by have := xH_le c; omega) hx w hp
    | false =>
      rw [if_neg (by simp)]
      have he : xE c = 60 := by rcases xE_or c with h | h; exact absurd h (of_decide_eq_false hk); exact h
      refine name3_no c (xC c) (xN c) (xH c : Int) (xL c) (xSh c) (fun W => ?_) w
      have h := xmss_any c hc W
      unfold xmsV at h
      rw [he] at h
      exact h
  rw [if_neg h3]
  exact name_other kind c h1 h2 h3 w
end Go.Proofs.YtanpplniedphkaaDoor
