/-
  THE DIGITS: the checksum; words for joining ints in a drawn region; the greatest digit.
-/
import Derived.Test.YtcbcgegppnojmaaLp
import Derived.Test.YtcbcgegppnojmaaLr
import Derived.Test.YtcbcgegppnojmaaHand2
namespace Go.Proofs.Ytcbcgegppnojmaa
open Go.RowKit
set_option maxRecDepth 100000
section
variable {P : Program} {md : Region.Mode} {ops : Array Oper} {Q : Exit → Act → World → Prop} {S : World → Prop} {fuel : Nat} {listed : Array Bool} {a : Act}
/-- ints joined in a region that draws its order -/
theorem step_appendI (w : World) (i : Nat) (ty : TypeId) (dst : Option Tmp) (t e : TypeId) (i0 : TypeInfo) (z : Value) (ht : P.underlying t = some (.slice e)) (hi : P.info? e = some i0) (hz : i0.zero = some z) (hsz : i0.size = 1) (hby : i0.bytes = 8) (hzc : z.cells.size = 1)
    (s x : Operand) (hop : (ops[i]?).map (fun o => (o.op, o.type, o.dst)) = some (.call { callee := .builtin .append, args := #[s, x], argTypes := #[t, t] }, ty, dst)) (hw : (ops[i]?).map (fun o => Region.wanted o (yielded ops a.tmps)) = some true)
    {base n : Nat} {v : Value} {xs : List Value} {g m c : Nat} {us : List Value} (hown : w.ownsRow base e 1 v n xs) (hs : a.eval s = v) (hx : a.eval x = .slice (some ⟨g, 0, none⟩) m c) (hus : us.length = m)
    (hc : ∀ j u, us[j]? = some u → w.cell? ⟨g, j, none⟩ = some u) (hu : ∀ u ∈ us, u.oneCell' = true) (hlen : n + m ≤ 1099511627776) (hbase : base ≤ w.heap.size)
    (h : ∀ v' w', w'.ownsRow base e 1 v' (n + m) (xs ++ us) → (∀ B, B ≤ base → Below B w w') → S w' ∧ wpAnyH P md ops Q S fuel (listed.setIfInBounds i true) (a.put dst v') w') : HStep P md ops Q S fuel listed a w i := by
  unfold HStep
  cases ho : ops[i]? with
  | none => rw [ho] at hop; cases hop
  | some op =>
    rw [ho] at hop hw
    simp only [Option.map_some, Option.some.injEq, Prod.mk.injEq] at hop hw
    obtain ⟨hop1, _, hop3⟩ := hop
    refine wpOp_step ho fun K' hK => ?_
    rw [if_pos hw]
    refine wp_append_own w s x t hop1 base e i0 z 1 8 ht hi hz hsz hby hzc (by decide) v n xs hs hown ⟨g, 0, none⟩ m c us hx (by omega) ?_ hu (by unfold maxLen; omega) (by omega) hbase ?_
    · intro j y hj
      rw [addr_add, Nat.zero_add]
      exact hc j y hj
    · intro v' w' ho' hg _
      rw [hop3]
      exact hK _ _ (h v' w' ho' fun B hB => (Below.refl B w).grown hg (by omega) (fun k hk => by have := (hown.lt k hk).1; omega))
end
theorem sliceI : Try.prog.underlying 29 = some (.slice (Try.prog.elem 29)) := by kernel_rfl
theorem elemI : Try.prog.elem 29 = 3 := by kernel_rfl
theorem run_sizeOf_int (w : World) : (sizeOf 3).run Try.prog w = .ok 1 w := by simp [go_sem]
/-- l[:j] -/
theorem run_cutI (g n c j : Nat) (z : Int) (hz : z = (j : Int)) (hj : j ≤ c) (w : World) : (Instr.sliceAt 29 (.slice (some ⟨g, 0, none⟩) n c) none (some (.int .i64 z)) none).run Try.prog w = .ok (.slice (some ⟨g, 0, none⟩) j c) w := by
  subst hz
  have h : (Instr.sliceAt 29 (.slice (some ⟨g, 0, none⟩) n c) none (some (.int .i64 (j : Int))) none).run Try.prog w = .ok (sliced (some ⟨g, 0, none⟩) 0 j c 1) w := by
    rw [run_sliceAt_slice _ _ _ _ _ _ sliceI, run_slice_h w 29 (some ⟨g, 0, none⟩) n c sliceI .i64 (j : Int) (by omega) (by omega), elemI, run_sizeOf_int, Result.andThen_ok, Int.toNat_natCast]
  rw [h]
  unfold sliced
  simp [Addr.add]
/-- the checksum -/
def chk (w : Nat) (l : List Nat) : Nat := (l.map fun d => 2 ^ w - 1 - d).sum
theorem chk_snoc (w : Nat) (l : List Nat) (d : Nat) : chk w (l ++ [d]) = chk w l + (2 ^ w - 1 - d) := by simp [chk]
def ckB (w L : Nat) (l : List Nat) : List UInt8 := bigB (chk w l * 2 ^ L) 2
/-- the digits of a hash -/
def dgs (w P L : Nat) (bs : List UInt8) : List Nat := (pcs w bs ++ pcs w (ckB w L (pcs w bs))).take P
/-- ints that can be read are handed back -/
def SeeI (w : World) (l : List Nat) (e : Ending) (w' : World) : Prop := ∃ v, e = .returned v ∧ SI w' w'.heap.size v l ∧ Below w.heap.size w w'
theorem u16_any (n : Nat) (w : World) (_h : n < 65536) : Calls Try.prog 25 #[.int .u16 n] w fun e w' => ∃ v, e = .returned v ∧ Gives w (bigB n 2) v w' := by
  go_enter Try.func25, Try.ntmps25
  go_wp2_with (go_at_call 27; refine (bigBytes_any n 2 _ (by omega)).mono ?_)
  rintro e w1 ⟨v, rfl, rfl, hb, hbel⟩
  go_wp2
  go_ret
  exact ⟨_, rfl, own_of_blk (bigB_length _ _) (by omega) hb hbel⟩
theorem last_1 (xc : Int) (xs : Bool) (xn xp xl : Int) (w : World) : Calls Try.prog 24 #[.agg #[.int .u32 xc, .bool xs, .int .i64 xn, .int .i64 1, .int .i64 xp, .int .i64 xl]] w (OldIs (.int .i64 1) w) := by
  unfold OldIs
  go_enter Try.func24, Try.ntmps24
  go_wp2
  go_ret
  exact ⟨rfl, Below.alloc (Below.refl _ _) (Nat.le_refl _) _⟩
theorem most_1 (xc : Int) (xs : Bool) (xn xp xl : Int) (w : World) : Calls Try.prog 16 #[.agg #[.int .u32 xc, .bool xs, .int .i64 xn, .int .i64 1, .int .i64 xp, .int .i64 xl]] w (OldIs (.int .i64 1) w) := by
  unfold OldIs
  have HB : Shh (Below w.heap.size w (w.alloc (.cells #[.int .u32 xc, .bool xs, .int .i64 xn, .int .i64 1, .int .i64 xp, .int .i64 xl] 24))) := ⟨Below.alloc (Below.refl _ _) (Nat.le_refl _) _⟩
  go_enter Try.func16, Try.ntmps16
  go_wp2
  go_loop [3, 6] (fun m i => ∃ (q p : Nat), q ≤ 1 ∧ i = .int .i64 q ∧ m = .int .i64 (p : Int) ∧ p ≤ 2 ∧ Shh (p = 2 ^ q)) (fun _ i => 1 - (intOf i).toNat)
  case atStart => exact ⟨0, 1, Nat.zero_le _, rfl, rfl, by omega, ⟨rfl⟩⟩
  case round =>
    obtain ⟨q, p, hq, rfl, rfl, hp, HP⟩ := hrel
    by_cases hql : q < 1
    · have HP2 : Shh (p * 2 = 2 ^ (q + 1)) := ⟨by rw [HP.out, Nat.pow_succ]⟩
      have hp2 : p * 2 ≤ 2 := by
        rw [HP2.out]
        exact Nat.le_trans (Nat.pow_le_pow_right (by decide) (show q + 1 ≤ 1 by omega)) (by decide)
      clear HP
      go_wp2
      go_round
      case rel => exact ⟨q + 1, p * 2, by omega, by go_num, by go_num, hp2, HP2⟩
      case measure => simp [intOf]; omega
    · have hpm : p = 2 := by
        have hqw : q = 1 := by omega
        rw [HP.out, hqw]
      subst hpm
      clear HP hp
      go_wp2
      go_ret
      exact ⟨rfl, HB.out⟩
theorem last_2 (xc : Int) (xs : Bool) (xn xp xl : Int) (w : World) : Calls Try.prog 24 #[.agg #[.int .u32 xc, .bool xs, .int .i64 xn, .int .i64 2, .int .i64 xp, .int .i64 xl]] w (OldIs (.int .i64 3) w) := by
  unfold OldIs
  go_enter Try.func24, Try.ntmps24
  go_wp2
  go_ret
  exact ⟨rfl, Below.alloc (Below.refl _ _) (Nat.le_refl _) _⟩
theorem most_2 (xc : Int) (xs : Bool) (xn xp xl : Int) (w : World) : Calls Try.prog 16 #[.agg #[.int .u32 xc, .bool xs, .int .i64 xn, .int .i64 2, .int .i64 xp, .int .i64 xl]] w (OldIs (.int .i64 3) w) := by
  unfold OldIs
  have HB : Shh (Below w.heap.size w (w.alloc (.cells #[.int .u32 xc, .bool xs, .int .i64 xn, .int .i64 2, .int .i64 xp, .int .i64 xl] 24))) := ⟨Below.alloc (Below.refl _ _) (Nat.le_refl _) _⟩
  go_enter Try.func16, Try.ntmps16
  go_wp2
  go_loop [3, 6] (fun m i => ∃ (q p : Nat), q ≤ 2 ∧ i = .int .i64 q ∧ m = .int .i64 (p : Int) ∧ p ≤ 4 ∧ Shh (p = 2 ^ q)) (fun _ i => 2 - (intOf i).toNat)
  case atStart => exact ⟨0, 1, Nat.zero_le _, rfl, rfl, by omega, ⟨rfl⟩⟩
  case round =>
    obtain ⟨q, p, hq, rfl, rfl, hp, HP⟩ := hrel
    by_cases hql : q < 2
    · have HP2 : Shh (p * 2 = 2 ^ (q + 1)) := ⟨by rw [HP.out, Nat.pow_succ]⟩
      have hp2 : p * 2 ≤ 4 := by
        rw [HP2.out]
        exact Nat.le_trans (Nat.pow_le_pow_right (by decide) (show q + 1 ≤ 2 by omega)) (by decide)
      clear HP
      go_wp2
      go_round
      case rel => exact ⟨q + 1, p * 2, by omega, by go_num, by go_num, hp2, HP2⟩
      case measure => simp [intOf]; omega
    · have hpm : p = 4 := by
        have hqw : q = 2 := by omega
        rw [HP.out, hqw]
      subst hpm
      clear HP hp
      go_wp2
      go_ret
      exact ⟨rfl, HB.out⟩
theorem last_4 (xc : Int) (xs : Bool) (xn xp xl : Int) (w : World) : Calls Try.prog 24 #[.agg #[.int .u32 xc, .bool xs, .int .i64 xn, .int .i64 4, .int .i64 xp, .int .i64 xl]] w (OldIs (.int .i64 15) w) := by
  unfold OldIs
  go_enter Try.func24, Try.ntmps24
  go_wp2
  go_ret
  exact ⟨rfl, Below.alloc (Below.refl _ _) (Nat.le_refl _) _⟩
theorem most_4 (xc : Int) (xs : Bool) (xn xp xl : Int) (w : World) : Calls Try.prog 16 #[.agg #[.int .u32 xc, .bool xs, .int .i64 xn, .int .i64 4, .int .i64 xp, .int .i64 xl]] w (OldIs (.int .i64 15) w) := by
  unfold OldIs
  have HB : Shh (Below w.heap.size w (w.alloc (.cells #[.int .u32 xc, .bool xs, .int .i64 xn, .int .i64 4, .int .i64 xp, .int .i64 xl] 24))) := ⟨Below.alloc (Below.refl _ _) (Nat.le_refl _) _⟩
  go_enter Try.func16, Try.ntmps16
  go_wp2
  go_loop [3, 6] (fun m i => ∃ (q p : Nat), q ≤ 4 ∧ i = .int .i64 q ∧ m = .int .i64 (p : Int) ∧ p ≤ 16 ∧ Shh (p = 2 ^ q)) (fun _ i => 4 - (intOf i).toNat)
  case atStart => exact ⟨0, 1, Nat.zero_le _, rfl, rfl, by omega, ⟨rfl⟩⟩
  case round =>
    obtain ⟨q, p, hq, rfl, rfl, hp, HP⟩ := hrel
    by_cases hql : q < 4
    · have HP2 : Shh (p * 2 = 2 ^ (q + 1)) := ⟨by rw [HP.out, Nat.pow_succ]⟩
      have hp2 : p * 2 ≤ 16 := by
        rw [HP2.out]
        exact Nat.le_trans (Nat.pow_le_pow_right (by decide) (show q + 1 ≤ 4 by omega)) (by decide)
      clear HP
      go_wp2
      go_round
      case rel => exact ⟨q + 1, p * 2, by omega, by go_num, by go_num, hp2, HP2⟩
      case measure => simp [intOf]; omega
    · have hpm : p = 16 := by
        have hqw : q = 4 := by omega
        rw [HP.out, hqw]
      subst hpm
      clear HP hp
      go_wp2
      go_ret
      exact ⟨rfl, HB.out⟩
theorem last_8 (xc : Int) (xs : Bool) (xn xp xl : Int) (w : World) : Calls Try.prog 24 #[.agg #[.int .u32 xc, .bool xs, .int .i64 xn, .int .i64 8, .int .i64 xp, .int .i64 xl]] w (OldIs (.int .i64 255) w) := by
  unfold OldIs
  go_enter Try.func24, Try.ntmps24
  go_wp2
  go_ret
  exact ⟨rfl, Below.alloc (Below.refl _ _) (Nat.le_refl _) _⟩
theorem most_8 (xc : Int) (xs : Bool) (xn xp xl : Int) (w : World) : Calls Try.prog 16 #[.agg #[.int .u32 xc, .bool xs, .int .i64 xn, .int .i64 8, .int .i64 xp, .int .i64 xl]] w (OldIs (.int .i64 255) w) := by
  unfold OldIs
  have HB : Shh (Below w.heap.size w (w.alloc (.cells #[.int .u32 xc, .bool xs, .int .i64 xn, .int .i64 8, .int .i64 xp, .int .i64 xl] 24))) := ⟨Below.alloc (Below.refl _ _) (Nat.le_refl _) _⟩
  go_enter Try.func16, Try.ntmps16
  go_wp2
  go_loop [3, 6] (fun m i => ∃ (q p : Nat), q ≤ 8 ∧ i = .int .i64 q ∧ m = .int .i64 (p : Int) ∧ p ≤ 256 ∧ Shh (p = 2 ^ q)) (fun _ i => 8 - (intOf i).toNat)
  case atStart => exact ⟨0, 1, Nat.zero_le _, rfl, rfl, by omega, ⟨rfl⟩⟩
  case round =>
    obtain ⟨q, p, hq, rfl, rfl, hp, HP⟩ := hrel
    by_cases hql : q < 8
    · have HP2 : Shh (p * 2 = 2 ^ (q + 1)) := ⟨by rw [HP.out, Nat.pow_succ]⟩
      have hp2 : p * 2 ≤ 256 := by
        rw [HP2.out]
        exact Nat.le_trans (Nat.pow_le_pow_right (by decide) (show q + 1 ≤ 8 by omega)) (by decide)
      clear HP
      go_wp2
      go_round
      case rel => exact ⟨q + 1, p * 2, by omega, by go_num, by go_num, hp2, HP2⟩
      case measure => simp [intOf]; omega
    · have hpm : p = 256 := by
        have hqw : q = 8 := by omega
        rw [HP.out, hqw]
      subst hpm
      clear HP hp
      go_wp2
      go_ret
      exact ⟨rfl, HB.out⟩
end Go.Proofs.Ytcbcgegppnojmaa
