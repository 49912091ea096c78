/-
  CHAINS COMPOSE; the pieces of a signature; where its chains end; addresses that agree.
-/
import Derived.Test.YtobbbljnkdfkeaaDoorWs11
namespace Go.Proofs.YtobbbljnkdfkeaaDoor
open Go.RowKit
set_option maxRecDepth 100000
theorem goB_add (s : Bool) (n : Int) (seed : List UInt8) (a : List UInt32) (b : List UInt8) (f j k : Nat) : goB s n seed a (goB s n seed a b f j) (f + j) k = goB s n seed a b f (j + k) := by
  induction k with
  | zero => rfl
  | succ k ih =>
    show stepB s n seed a (f + j + k) (goB s n seed a (goB s n seed a b f j) (f + j) k) = stepB s n seed a (f + (j + k)) (goB s n seed a b f (j + k))
    rw [ih, Nat.add_assoc]
theorem flat_len (g : Nat → List UInt8) (n k : Nat) (h : ∀ i, i < k → (g i).length = n) : ((List.range k).flatMap g).length = k * n := by
  induction k with
  | zero => simp
  | succ k ih =>
    rw [List.range_succ, List.flatMap_append, List.length_append, ih (fun i hi => h i (by omega)), Nat.succ_mul]
    simp [h k (by omega)]
theorem flat_piece (g : Nat → List UInt8) (n k i : Nat) (h : ∀ i, i < k → (g i).length = n) (hi : i < k) : pieceB n ((List.range k).flatMap g) i = g i := by
  induction k with
  | zero => omega
  | succ k ih =>
    have hl := flat_len g n k (fun i hi => h i (by omega))
    have hk := h k (by omega)
    have hsn : (List.range (k + 1)).flatMap g = (List.range k).flatMap g ++ g k := by
      rw [List.range_succ, List.flatMap_append]
      simp
    rw [hsn]
    unfold pieceB
    by_cases hik : i < k
    · have h1 : (i + 1) * n ≤ k * n := Nat.mul_le_mul_right _ (by omega)
      rw [List.take_append_of_le_length (by rw [hl]; exact h1)]
      exact ih (fun i hi => h i (by omega)) hik
    · obtain rfl : i = k := by omega
      rw [List.take_of_length_le (by rw [List.length_append, hl, hk, Nat.succ_mul]; exact Nat.le_refl _), ← hl, List.drop_left]
theorem on_ends {x : S5} (hx : x.ok = true) (sk seed : List UInt8) (a : List UInt32) (d : Nat → Nat) (hd : ∀ i, d i ≤ 15) (L k : Nat) (hk : k ≤ L) :
    onB x.s x.n seed a d (endsB x.s x.n sk seed a d L) k = endsB x.s x.n sk seed a (dOf []) k := by
  have hg : ∀ i, i < L → (goB x.s x.n seed (atA a i) (beginB x.s x.n sk seed a i) 0 (d i)).length = x.n.toNat := fun i _ => goB_length hx seed (atA a i) (beginB x.s x.n sk seed a i) 0 (d i) (ok_len hx 4 sk _).1
  induction k with
  | zero => rfl
  | succ k ih =>
    rw [onB_step, endsB_step, ih (by omega)]
    congr 1
    have e : pieceB x.n.toNat (endsB x.s x.n sk seed a d L) k = goB x.s x.n seed (atA a k) (beginB x.s x.n sk seed a k) 0 (d k) := flat_piece _ _ _ _ hg (by omega)
    rw [e]
    have h := goB_add x.s x.n seed (atA a k) (beginB x.s x.n sk seed a k) 0 (d k) (15 - d k)
    rw [Nat.zero_add] at h
    rw [h, show d k + (15 - d k) = 15 by have := hd k; omega]
    rfl
theorem dOf_dig (m : List UInt8) : dOf (dig10 m) = fun i => (dig10 m).getD i 0 := by
  funext i
  unfold dOf
  rw [if_neg]
  intro h
  have := dig10_length m
  rw [h] at this
  simp at this
/-- a signature, if it may be asked -/
def sgB (x : S5) (sk seed m : List UInt8) (a : List UInt32) : List UInt8 := if badE x [sk, seed, m] = 0 then endsB x.s x.n sk seed a (dOf (dig10 m)) x.l.toNat else []
theorem badE_of {x : S5} {bss : List (List UInt8)} (h : x.ok = true) (h2 : ∀ b ∈ bss, (b.length : Int) = x.n) : badE x bss = 0 := by
  unfold badE
  rw [if_pos h, if_pos]
  rw [List.all_eq_true]
  exact fun b hb => decide_eq_true (h2 b hb)
/-- what was signed verifies -/
theorem sg_verifies {x : S5} {sk seed m : List UInt8} {a : List UInt32} (h : badE x [sk, seed, m] = 0) : badE x [sk, seed] = 0 ∧ fsE x seed m (sgB x sk seed m a) = 0 ∧ fsB x seed m (sgB x sk seed m a) a = pubB x sk seed a ∧ ((pubB x sk seed a).length : Int) = x.l * x.n := by
  obtain ⟨hx, hall⟩ := badE_ok h
  have h1 : badE x [sk, seed] = 0 := badE_of hx (fun b hb => hall b (by simp only [List.mem_cons, List.not_mem_nil, or_false] at hb ⊢; rcases hb with h | h <;> simp [h]))
  have h2 : badE x [seed, m] = 0 := badE_of hx (fun b hb => hall b (by simp only [List.mem_cons, List.not_mem_nil, or_false] at hb ⊢; rcases hb with h | h <;> simp [h]))
  have hlx : x.l = (x.l.toNat : Int) ∧ x.n = (x.n.toNat : Int) := by rcases S5.ok_is hx with h | h <;> omega
  have hs : sgB x sk seed m a = endsB x.s x.n sk seed a (dOf (dig10 m)) x.l.toNat := by unfold sgB; rw [if_pos h]
  have hp : pubB x sk seed a = endsB x.s x.n sk seed a (dOf []) x.l.toNat := by unfold pubB; rw [if_pos h1]
  have hlen : ∀ d : Nat → Nat, ((endsB x.s x.n sk seed a d x.l.toNat).length : Int) = x.l * x.n := fun d => by
    rw [endsB_len hx, Int.natCast_mul, ← hlx.1, ← hlx.2, Int.mul_comm]
  have hf : fsE x seed m (sgB x sk seed m a) = 0 := by unfold fsE; rw [if_pos h2, hs, if_pos (hlen _)]
  have hml : m.length ≤ 32 := by
    have l1 := hall m (by simp)
    rcases ok_n hx with h | h <;> omega
  refine ⟨h1, hf, ?_, by rw [hp]; exact hlen _⟩
  unfold fsB
  rw [if_pos hf, hs, hp, ← dOf_dig]
  exact on_ends hx sk seed a (dOf (dig10 m)) (dOf_le (dig10_lt m hml)) x.l.toNat x.l.toNat (Nat.le_refl _)
/-- addresses that agree but for the last words -/
theorem withA_agree {a b : List UInt32} (ha : a.length = 8) (hb : b.length = 8) (h : ∀ i, i < 6 → a.getD i 0 = b.getD i 0) (s t : Nat) : withA a s t = withA b s t := by
  obtain ⟨a0, a1, a2, a3, a4, a5, a6, a7, rfl⟩ := eight ha
  obtain ⟨b0, b1, b2, b3, b4, b5, b6, b7, rfl⟩ := eight hb
  have e0 := h 0 (by decide)
  have e1 := h 1 (by decide)
  have e2 := h 2 (by decide)
  have e3 := h 3 (by decide)
  have e4 := h 4 (by decide)
  have e5 := h 5 (by decide)
  simp at e0 e1 e2 e3 e4 e5
  subst e0 e1 e2 e3 e4 e5
  rfl
theorem goB_agree (s : Bool) (n : Int) (seed : List UInt8) {a a' : List UInt32} (h : ∀ st t, withA a st t = withA a' st t) (b : List UInt8) (f k : Nat) : goB s n seed a b f k = goB s n seed a' b f k := by
  induction k with
  | zero => rfl
  | succ k ih =>
    show stepB s n seed a (f + k) _ = stepB s n seed a' (f + k) _
    rw [ih]
    unfold stepB
    rw [h, h]
end Go.Proofs.YtobbbljnkdfkeaaDoor
