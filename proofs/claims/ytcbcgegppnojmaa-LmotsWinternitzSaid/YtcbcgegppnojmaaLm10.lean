/-
  WALK: LmotsWinternitz: at every code and every two hashes.
-/
import Derived.Test.YtcbcgegppnojmaaLw0
import Derived.Test.YtcbcgegppnojmaaLw1
import Derived.Test.YtcbcgegppnojmaaLw2
import Derived.Test.YtcbcgegppnojmaaLw4
import Derived.Test.YtcbcgegppnojmaaLw8
namespace Go.Proofs.Ytcbcgegppnojmaa
open Go.RowKit
set_option maxRecDepth 100000
theorem beq_turn (a b : List UInt8) : (b == a) = (a == b) := by
  by_cases h : a = b
  · subst h; rfl
  · rw [show (a == b) = false by simpa using h, show (b == a) = false by simpa using fun e => h e.symm]
theorem winternitz_of (k : Nat) (x : S6) (hok : x.wf) (hset : ∀ W, Calls Try.prog 6 #[.int .u32 (k : Int)] W (OldIs (.agg #[.int .u32 x.c, .bool x.s, .int .i64 x.n, .int .i64 x.w, .int .i64 x.p, .int .i64 x.l]) W)) (B : Nat) (v1 v2 : Value) (a b : List UInt8) (w : World) (h1 : Sl w B v1 a) (h2 : Sl w B v2 b) (hB : B ≤ w.heap.size) :
    Calls Try.prog 4 #[.int .u32 (k : Int), v1, v2] w (TrueIs w) := by
  obtain ⟨xc, xs, xn, xwd, xp, xl⟩ := x
  simp only at hset
  have pa := pack a xc xs xn xwd xp xl hok
  have pb := pack b xc xs xn xwd xp xl hok
  by_cases ea : chkE ⟨xc, xs, xn, xwd, xp, xl⟩ a.length = 0
  · rw [ea] at pa
    by_cases eb : chkE ⟨xc, xs, xn, xwd, xp, xl⟩ b.length = 0
    · rw [eb] at pb
      obtain ⟨ok, la⟩ := chkE_zero ea
      obtain ⟨_, lb⟩ := chkE_zero eb
      obtain ⟨N, W, P, L, hsh, hn, hw, hp, hl⟩ := shape_of ok
      simp only at hn hw hp hl la lb
      subst hn hw hp hl
      have la' : a.length = N := by omega
      have lb' : b.length = N := by omega
      have da : digY ⟨xc, xs, N, W, P, L⟩ a = dgs W P L a := by
        unfold digY
        rw [if_pos ea]
        unfold dgX
        simp only [Int.toNat_natCast]
      have db : digY ⟨xc, xs, N, W, P, L⟩ b = dgs W P L b := by
        unfold digY
        rw [if_pos eb]
        unfold dgX
        simp only [Int.toNat_natCast]
      rw [da] at pa
      rw [db] at pb
      have na := dgs_len hsh a la'
      have nb := dgs_len hsh b lb'
      have l1 := lessU_all hsh a b la' lb'
      have l2 := lessU_all hsh b a lb' la'
      rw [beq_turn] at l2
      have lt := dgs_lt W P L a
      have hwk := (shape_facts hsh).1
      clear ea eb da db hsh ok la lb
      rcases hwk with rfl | rfl | rfl | rfl
      · exact win_1 k xc xs N P L a b P _ _ hset pa pb na.1 nb.1 lt rfl na.2 l1 l2 B v1 v2 w h1 h2 hB
      · exact win_2 k xc xs N P L a b P _ _ hset pa pb na.1 nb.1 lt rfl na.2 l1 l2 B v1 v2 w h1 h2 hB
      · exact win_4 k xc xs N P L a b P _ _ hset pa pb na.1 nb.1 lt rfl na.2 l1 l2 B v1 v2 w h1 h2 hB
      · exact win_8 k xc xs N P L a b P _ _ hset pa pb na.1 nb.1 lt rfl na.2 l1 l2 B v1 v2 w h1 h2 hB
    · exact win_bad2 k xc xs xn xwd xp xl a b _ _ _ hset pa pb eb B v1 v2 w h1 h2 hB
  · exact win_bad1 k xc xs xn xwd xp xl a b _ _ _ _ hset pa pb ea B v1 v2 w h1 h2 hB
theorem winternitz_law (k : Nat) (hk : k < 4294967296) (B : Nat) (v1 v2 : Value) (a b : List UInt8) (w : World) (h1 : Sl w B v1 a) (h2 : Sl w B v2 b) (hB : B ≤ w.heap.size) :
    Calls Try.prog 4 #[.int .u32 (k : Int), v1, v2] w (TrueIs w) :=
  winternitz_of k (sX k) (sX_wf k hk) (fun W => set_any k W) B v1 v2 a b w h1 h2 hB
end Go.Proofs.Ytcbcgegppnojmaa
