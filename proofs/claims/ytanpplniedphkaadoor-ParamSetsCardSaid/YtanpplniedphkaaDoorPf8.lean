/-
  THE DOCUMENT's codes of a kind; the laws' codes; what they are.
-/
import Derived.Test.YtanpplniedphkaaDoorPf5
import Derived.Test.YtanpplniedphkaaDoorPf7
import Derived.Maps.AppendAt
namespace Go.Proofs.YtanpplniedphkaaDoor
open Go.RowKit Go.Shelf
set_option maxRecDepth 100000
def OwnN (w : World) (base : Nat) (v : Value) (l : List Nat) : Prop := w.ownsRow base 44 1 v l.length (l.map fun x : Nat => Value.int .u32 (x : Int))
theorem SU.of_ownN {w : World} {base : Nat} {v : Value} {l : List Nat} (h : OwnN w base v l) : SU w v l := by
  rcases h with ⟨hl, ⟨rfl, h0⟩ | ⟨g, cap, cur, rfl, _, hgb, hc, hc2, hs, ht⟩⟩
  · obtain rfl : l = [] := List.eq_nil_of_length_eq_zero h0
    exact ⟨none, 0, rfl, .inl ⟨rfl, rfl, rfl⟩⟩
  · have hlt := Array.getElem?_eq_some_iff.1 hgb
    refine ⟨some ⟨g, 0, none⟩, cap, rfl, .inr ⟨g, rfl, hlt.1, hc, hc2, fun j hj => ?_⟩⟩
    have h2 : cur[j]? = some (.int .u32 ((l[j] : Nat) : Int)) := by
      have e : (cur.toList.take (l.length * 1))[j]? = (l.map fun x : Nat => Value.int .u32 (x : Int))[j]? := by rw [ht]
      rw [List.getElem?_take_of_lt (by omega), Array.getElem?_toList] at e
      rw [e]
      simp [hj]
    simpa [World.cell?, hgb] using h2
theorem OwnN.snoc {w : World} {base : Nat} {v : Value} {l : List Nat} {x : Nat} (h : w.ownsRow base 44 1 v (l.length + 1) ((l.map fun x : Nat => Value.int .u32 (x : Int)) ++ [.int .u32 (x : Int)])) : OwnN w base v (l ++ [x]) := by
  unfold OwnN
  simpa using h
theorem ownN_base {W : World} {base : Nat} {v : Value} {l : List Nat} (h : OwnN W base v l) : ∀ k, v.ownBlock = some k → base ≤ k := by
  intro k e
  rcases h.2 with ⟨rfl, _⟩ | ⟨g, cap, cur, rfl, hb, _⟩
  · cases e
  · cases e; exact hb
/-- one element of four bytes: the walk has laid it in a new block of one cell -/
theorem wp_append1w {P : Program} {ops : Array Oper} {rest : List Oper} {o : Oper} {a : Act} {Q : Exit → Act → World → Prop} (w : World) (t e : TypeId) (i0 : TypeInfo) (z : Value) (ht : P.underlying t = some (.slice e)) (hi : P.info? e = some i0) (hz : i0.zero = some z) (hsz : i0.size = 1) (hby : i0.bytes = 4) (hzc : z.cells.size = 1)
    (hgd : o.guard = none) (s x : Operand) (ho : o.op = .call { callee := .builtin .append, args := #[s, x], argTypes := #[t, t] })
    {base : Nat} {v : Value} {n : Nat} {xs : List Value} {u : Value} (hown : w.ownsRow base e 1 v n xs) (hs : a.eval s = v) (hx : a.eval x = .slice (some ⟨w.heap.size, 0, none⟩) 1 1)
    (hu : u.oneCell' = true) (hlen : n + 1 ≤ 1099511627776) (hbase : base ≤ w.heap.size)
    (h : ∀ v' w', w'.ownsRow base e 1 v' (n + 1) (xs ++ [u]) → (w.alloc (.cells #[u] e)).grownBy w' v.ownBlock → (∀ B, B ≤ base → Below B w w') → wpList P ops Q rest (a.put o.dst v') w') :
    wpList P ops Q (o :: rest) a (w.alloc (.cells #[u] e)) := by
  refine wpList_append_own (w.alloc (.cells #[u] e)) hgd s x t ho base e i0 z 1 4 ht hi hz hsz hby hzc (by decide) v n xs hs (hown.alloc _) ⟨w.heap.size, 0, none⟩ 1 1 [u] hx rfl ?_ (by simpa using hu) (by unfold maxLen; omega) (by omega) (by simp; omega) ?_
  · intro j y hj
    match j, hj with
    | 0, hj =>
      simp at hj; subst hj
      rw [addr_add, cell_of_row _ _ _ _ _ _ (heap_alloc_new w _)]
      rfl
    | (j + 1), hj => simp at hj
  · intro v' w' ho' hg _
    refine h v' w' ho' hg fun B hB => ?_
    exact (((Below.refl B w).alloc (by omega) _).grown hg (by simp; omega) (fun k hk => by have := (hown.lt k hk).1; omega))
def l1 (ok : Nat → Bool) : Nat → List Nat
  | 0 => []
  | k + 1 => l1 ok k ++ (if ok (k + 1) then [k + 1] else [])
def l2 (ok : Nat → Bool) : Nat → List Nat
  | 0 => []
  | k + 1 => l2 ok k ++ (if ok (lB + k) then [lB + k] else []) ++ (if ok (xB + k) then [xB + k] else [])
theorem l1_len (ok : Nat → Bool) (k : Nat) : (l1 ok k).length ≤ k := by
  induction k with
  | zero => exact Nat.le_refl _
  | succ k ih => unfold l1; rw [List.length_append]; split <;> simp <;> omega
theorem l2_len (ok : Nat → Bool) (k : Nat) : (l2 ok k).length ≤ 2 * k := by
  induction k with
  | zero => exact Nat.le_refl _
  | succ k ih => unfold l2; rw [List.length_append, List.length_append]; split <;> split <;> simp <;> omega
/-- all codes of a kind, as the document tells them -/
def rL (ok : Nat → Bool) : List Nat := l1 ok 24 ++ l2 ok 64
set_option maxHeartbeats 4000000 in
theorem refCodes_of (kind : Int) (ok : Nat → Bool) (hIs : ∀ c W, c < 4294967296 → Calls Tryd.prog 70 #[.int .i64 kind, .int .u32 ((c : Nat) : Int)] W (OldIs (.bool (ok c)) W)) (w : World) :
    Calls Tryd.prog 25 #[.int .i64 kind] w (SeeIs w (rL ok)) := by
  unfold SeeIs
  obtain ⟨i0, hi, hz0, hz1, hz2⟩ := info_parts info_u32
  have HI := Shh.mk hIs
  clear hIs
  go_enter Tryd.func25, Tryd.ntmps25
  go_wp2
  have O0 : Shh (OwnN (w.alloc (.cells #[] 44)) w.heap.size (.slice (some ⟨w.heap.size, 0, none⟩) 0 0) (l1 ok 0) ∧ Below w.heap.size w (w.alloc (.cells #[] 44))) :=
    ⟨⟨rfl, .inr ⟨w.heap.size, 0, #[], rfl, Nat.le_refl _, World.alloc_heap_new w _, Nat.le_refl _, Nat.zero_le _, rfl, rfl⟩⟩, Below.alloc (Below.refl _ _) (Nat.le_refl _) _⟩
  go_loopw [3, 4] (fun u c wr => ∃ (k d : Nat) (s : Value), k ≤ 24 ∧ d ≤ 25 ∧ s = u ∧ c = .int .u32 (d : Int) ∧ Shh (d = k + 1) ∧ Shh (OwnN wr w.heap.size s (l1 ok k) ∧ Below w.heap.size w wr)) (fun _ c _ => 25 - (intOf c).toNat)
  case atStart => exact ⟨0, 1, _, by omega, by omega, rfl, by go_num, ⟨rfl⟩, O0⟩
  case round =>
    obtain ⟨k, d, s, hk, hd, rfl, rfl, HD, H⟩ := hrel
    by_cases hlt : k < 24
    · have hd2 : d ≤ 24 := by have := HD.out; omega
      have HD2 : Shh (d + 1 = (k + 1) + 1) := ⟨by rw [HD.out]⟩
      have hl := l1_len ok k
      have hL : (l1 ok k).length ≤ 1000 := by omega
      have hIs := HI.out d wr (by omega)
      obtain ⟨l, hl1⟩ : ∃ l, l1 ok k = l := ⟨_, rfl⟩
      have HS : Shh (l1 ok (k + 1) = l ++ (if ok d then [d] else [])) := ⟨by rw [← hl1, HD.out]; rfl⟩
      rw [hl1] at H hL hl
      clear hl hl1
      cases hok : ok d with
      | false =>
        rw [hok] at hIs HS
        go_wp2_with (go_at_call 70; refine hIs.mono ?_)
        unfold OldIs
        rintro e w2 ⟨rfl, b2⟩
        have F : Shh (OwnN w2 w.heap.size s (l1 ok (k + 1)) ∧ Below w.heap.size w w2) := ⟨by rw [HS.out]; simp only [Bool.false_eq_true, if_false, List.append_nil]; exact own_step H.out.1 b2, Below.chain H.out.2 b2⟩
        clear b2 hIs H HS
        go_wp2
        go_roundw
        case rel => exact ⟨k + 1, d + 1, _, by omega, by omega, rfl, by go_num, HD2, F⟩
        case measure => simp [intOf]; omega
      | true =>
        rw [hok] at hIs HS
        go_wp2_with (go_at_call 70; refine hIs.mono ?_)
        unfold OldIs
        rintro e w2 ⟨rfl, b2⟩
        have F : Shh (OwnN w2 w.heap.size s l ∧ Below w.heap.size w w2) := ⟨own_step H.out.1 b2, Below.chain H.out.2 b2⟩
        have hz := F.out.2.size
        clear b2 hIs H
        go_wp2_with (at_builtin; refine wp_append1w _ 57 44 i0 (.int .u32 0) Tryd.underlying57 hi hz0 hz1 hz2 rfl rfl _ _ rfl F.out.1 rfl rfl rfl (by omega) hz ?_)
        intro v' w1 hown' hgrow hbl
        have F2 : Shh (OwnN w1 w.heap.size v' (l1 ok (k + 1)) ∧ Below w.heap.size w w1) := ⟨by rw [HS.out]; exact OwnN.snoc hown', F.out.2.trans (hbl _ (Nat.le_refl _))⟩
        clear hown' hgrow hbl F HS hz
        go_wp2
        go_roundw
        case rel => exact ⟨k + 1, d + 1, _, by omega, by omega, rfl, by go_num, HD2, F2⟩
        case measure => simp [intOf]; omega
    · have hd2 : ¬ (d : Int) ≤ 24 := by have := HD.out; omega
      have hk24 : k = 24 := by omega
      rw [hk24] at H
      clear HD hk hlt hk24
      have H1 : Shh (OwnN wr w.heap.size s (l1 ok 24 ++ l2 ok 0) ∧ Below w.heap.size w wr) := ⟨by rw [show l2 ok 0 = [] from rfl, List.append_nil]; exact H.out.1, H.out.2⟩
      clear O0 H
      go_wp2
      go_loopw [3, 5, 18] (fun u _ c wr => ∃ (k : Nat) (s : Value), k ≤ 64 ∧ s = u ∧ c = .int .u32 ((k : Nat) : Int) ∧ Shh (OwnN wr w.heap.size s (l1 ok 24 ++ l2 ok k) ∧ Below w.heap.size w wr)) (fun _ _ c _ => 64 - (intOf c).toNat)
      case atStart => exact ⟨0, _, by omega, rfl, by go_num, H1⟩
      case round =>
        clear H1
        obtain ⟨k, s, hk, rfl, rfl, H⟩ := hrel
        by_cases hlt : k < 64
        · have hl : (l1 ok 24 ++ l2 ok k).length ≤ 24 + 2 * k := by have h1 := l1_len ok 24; have h2 := l2_len ok k; rw [List.length_append]; omega
          have hL : (l1 ok 24 ++ l2 ok k).length ≤ 1000 := by omega
          have hIs := HI.out (4026531840 + k) wr (by omega)
          have a1 : IntKind.u32.wrap (4026531840 + (k : Int)) = ((4026531840 + k : Nat) : Int) := by rw [IntKind.wrap_u32]; omega
          have a2 : IntKind.u32.wrap (4043309056 + (k : Int)) = ((4043309056 + k : Nat) : Int) := by rw [IntKind.wrap_u32]; omega
          obtain ⟨l, hl1⟩ : ∃ l, l1 ok 24 ++ l2 ok k = l := ⟨_, rfl⟩
          have HS : Shh (l1 ok 24 ++ l2 ok (k + 1) = l ++ (if ok (4026531840 + k) then [4026531840 + k] else []) ++ (if ok (4043309056 + k) then [4043309056 + k] else [])) := ⟨by rw [← hl1]; show l1 ok 24 ++ (l2 ok k ++ _ ++ _) = _; simp only [List.append_assoc]; rfl⟩
          rw [hl1] at H hL hl
          clear hl hl1
          cases hok : ok (4026531840 + k) with
          | false =>
            rw [hok] at hIs
            go_wp2_with (go_at_call 70; refine hIs.mono ?_)
            unfold OldIs
            rintro e w2 ⟨rfl, b2⟩
            have F : Shh (OwnN w2 w.heap.size s l ∧ Below w.heap.size w w2) := ⟨own_step H.out.1 b2, Below.chain H.out.2 b2⟩
            have HS1 : Shh (l1 ok 24 ++ l2 ok (k + 1) = l ++ (if ok (4043309056 + k) then [4043309056 + k] else [])) := ⟨by rw [HS.out, hok]; simp⟩
            clear b2 hIs H HS hok
            have hIs := HI.out (4043309056 + k) w2 (by omega)
            cases hok : ok (4043309056 + k) with
            | false =>
              rw [hok] at hIs HS1
              go_wp2_with (go_at_call 70; refine hIs.mono ?_)
              unfold OldIs
              rintro e w3 ⟨rfl, b3⟩
              have F3 : Shh (OwnN w3 w.heap.size s (l1 ok 24 ++ l2 ok (k + 1)) ∧ Below w.heap.size w w3) := ⟨by rw [HS1.out]; simp only [Bool.false_eq_true, if_false, List.append_nil]; exact own_step F.out.1 b3, Below.chain F.out.2 b3⟩
              clear b3 hIs F HS1
              go_wp2
              go_roundw
              case rel => exact ⟨k + 1, _, by omega, rfl, by go_num, F3⟩
              case measure => simp [intOf]; omega
            | true =>
              rw [hok] at hIs HS1
              go_wp2_with (go_at_call 70; refine hIs.mono ?_)
              unfold OldIs
              rintro e w3 ⟨rfl, b3⟩
              have F3 : Shh (OwnN w3 w.heap.size s l ∧ Below w.heap.size w w3) := ⟨own_step F.out.1 b3, Below.chain F.out.2 b3⟩
              have hz := F3.out.2.size
              clear b3 hIs F
              go_wp2_with (at_builtin; refine wp_append1w _ 57 44 i0 (.int .u32 0) Tryd.underlying57 hi hz0 hz1 hz2 rfl rfl _ _ rfl F3.out.1 rfl rfl rfl (by omega) hz ?_)
              intro v4 w4 hown' hgrow hbl
              have F4 : Shh (OwnN w4 w.heap.size v4 (l1 ok 24 ++ l2 ok (k + 1)) ∧ Below w.heap.size w w4) := ⟨by rw [HS1.out]; exact OwnN.snoc hown', F3.out.2.trans (hbl _ (Nat.le_refl _))⟩
              clear hown' hgrow hbl F3 HS1 hz
              go_wp2
              go_roundw
              case rel => exact ⟨k + 1, _, by omega, rfl, by go_num, F4⟩
              case measure => simp [intOf]; omega
          | true =>
            rw [hok] at hIs
            go_wp2_with (go_at_call 70; refine hIs.mono ?_)
            unfold OldIs
            rintro e w2 ⟨rfl, b2⟩
            have F : Shh (OwnN w2 w.heap.size s l ∧ Below w.heap.size w w2) := ⟨own_step H.out.1 b2, Below.chain H.out.2 b2⟩
            have hz := F.out.2.size
            clear b2 hIs H
            go_wp2_with (at_builtin; refine wp_append1w _ 57 44 i0 (.int .u32 0) Tryd.underlying57 hi hz0 hz1 hz2 rfl rfl _ _ rfl F.out.1 rfl rfl rfl (by omega) hz ?_)
            intro v' w1 hown' hgrow hbl
            have F2 : Shh (OwnN w1 w.heap.size v' (l ++ [4026531840 + k]) ∧ Below w.heap.size w w1) := ⟨OwnN.snoc hown', F.out.2.trans (hbl _ (Nat.le_refl _))⟩
            have HS1 : Shh (l1 ok 24 ++ l2 ok (k + 1) = (l ++ [4026531840 + k]) ++ (if ok (4043309056 + k) then [4043309056 + k] else [])) := ⟨by rw [HS.out, hok]; simp⟩
            have hL2 : (l ++ [4026531840 + k]).length ≤ 1001 := by rw [List.length_append]; simp; omega
            clear hown' hgrow hbl F HS hz hok hL
            have F := F2
            clear F2
            generalize l ++ [4026531840 + k] = l at *
            have hIs := HI.out (4043309056 + k) w1 (by omega)
            cases hok : ok (4043309056 + k) with
            | false =>
              rw [hok] at hIs HS1
              go_wp2_with (go_at_call 70; refine hIs.mono ?_)
              unfold OldIs
              rintro e w3 ⟨rfl, b3⟩
              have F3 : Shh (OwnN w3 w.heap.size v' (l1 ok 24 ++ l2 ok (k + 1)) ∧ Below w.heap.size w w3) := ⟨by rw [HS1.out]; simp only [Bool.false_eq_true, if_false, List.append_nil]; exact own_step F.out.1 b3, Below.chain F.out.2 b3⟩
              clear b3 hIs F HS1
              go_wp2
              go_roundw
              case rel => exact ⟨k + 1, _, by omega, rfl, by go_num, F3⟩
              case measure => simp [intOf]; omega
            | true =>
              rw [hok] at hIs HS1
              go_wp2_with (go_at_call 70; refine hIs.mono ?_)
              unfold OldIs
              rintro e w3 ⟨rfl, b3⟩
              have F3 : Shh (OwnN w3 w.heap.size v' l ∧ Below w.heap.size w w3) := ⟨own_step F.out.1 b3, Below.chain F.out.2 b3⟩
              have hz := F3.out.2.size
              clear b3 hIs F
              go_wp2_with (at_builtin; refine wp_append1w _ 57 44 i0 (.int .u32 0) Tryd.underlying57 hi hz0 hz1 hz2 rfl rfl _ _ rfl F3.out.1 rfl rfl rfl (by omega) hz ?_)
              intro v4 w4 hown' hgrow hbl
              have F4 : Shh (OwnN w4 w.heap.size v4 (l1 ok 24 ++ l2 ok (k + 1)) ∧ Below w.heap.size w w4) := ⟨by rw [HS1.out]; exact OwnN.snoc hown', F3.out.2.trans (hbl _ (Nat.le_refl _))⟩
              clear hown' hgrow hbl F3 HS1 hz
              go_wp2
              go_roundw
              case rel => exact ⟨k + 1, _, by omega, rfl, by go_num, F4⟩
              case measure => simp [intOf]; omega
        · obtain rfl : k = 64 := by omega
          go_wp2
          go_ret
          exact ⟨_, rfl, SU.of_ownN H.out.1, H.out.2⟩
end Go.Proofs.YtanpplniedphkaaDoor
