import Derived.Deep.MidRow
import Derived.Deep.WholeRow
import Derived.BigRegion
import Derived.BigQuiet
import Derived.Deep.RegionHeld3
import Derived.Deep.QuietTactic
import Derived.Lib.ConvBytes
import Derived.Lib.AtoiErrMem
import Derived.Laws.AppendOwn
import Derived.Test.YtdakbipiifkmfaaGreatDoorRows
import Derived.ProofKit
import Derived.OpenShut
import Derived.JoinedCond
import Derived.SizedLaws
import Derived.Carry
import Derived.Deep.Grids
import Derived.Laws.CopyOwn
import Derived.Deep.RegionLaw
import Derived.DeepKeys
import Derived.Lib.SmallJoins
import Derived.WalkKit
import Derived.Test.YtdakbipiifkmfaaGreatDoorProg
import Derived.WalkSpells
import Derived.WalkLawsBesides
import Derived.Lib.UnsafeStr
import Derived.Lib.Hide
import Derived.Laws.BytesArg
import Derived.Deep.Draws
import Derived.RegionTactic
import Derived.ChangeAlike
import Derived.Laws.AppendOwnNone
import Derived.StillTailTactics
import Derived.Test.YtdakbipiifkmfaaGreatDoorHB
namespace Go.Proofs.YtdakbipiifkmfaaGreatDoor
open Go.RowKit
set_option maxRecDepth 100000
def StayIs (v : Value) (w : World) (e : Ending) (w' : World) : Prop := e = .returned v /\ w = w'
def OldIs (v : Value) (w : World) (e : Ending) (w' : World) : Prop := e = .returned v /\ Below w.heap.size w w'
def hS (f : Nat) : Bool := decide (f = 2 ∨ f = 3)
def hN (f : Nat) : Int := if f = 1 ∨ f = 3 then 24 else 32
theorem hashOf_any (f : Nat) (w : World) : Calls Tryz.prog 127 #[.int .u32 (f : Int)] w (StayIs (.tuple #[.bool (hS f), .int .i64 (hN f)]) w) := by
 unfold StayIs
 by_cases h1 : f = 1
 ·subst h1;go_enter Tryz.func127, Tryz.ntmps127;go_wp2;go_ret2;exact ⟨rfl, rfl⟩
 by_cases h2 : f = 2
 ·subst h2;go_enter Tryz.func127, Tryz.ntmps127;go_wp2;go_ret2;exact ⟨rfl, rfl⟩
 by_cases h3 : f = 3
 ·subst h3;go_enter Tryz.func127, Tryz.ntmps127;go_wp2;go_ret2;exact ⟨rfl, rfl⟩
 have e1 : hS f = false := by unfold hS; simp; omega
 have e2 : hN f = 32 := by unfold hN; rw [if_neg (by omega)]
 rw [e1, e2];have i1 : ¬ (f : Int) = 1 := by omega
 have i2 : ¬ (f : Int) = 2 := by omega
 have i3 : ¬ (f : Int) = 3 := by omega
 go_enter Tryz.func127, Tryz.ntmps127;go_wp2;go_ret2;exact ⟨rfl, rfl⟩
theorem results_row_slot {P : Program} {fn : Func} {q p : Tmp} {ty : TypeId} (h : fn.results = #[.cell p ty, .tmp q]) (tmps : Array Value) (w : World) (g : Nat) (t : TypeId) (cs : List Value) (d : TypeDesc) (v : Value)
  (hq : tmps.getD q undef = v) (hp : tmps.getD p undef = .pointer (some ⟨g, 0, none⟩)) (hg : Row w g t cs)
  (hu : P.underlying ty = some d) (hd : (match d with | .struct _ | .array _ _ => true | _ => false) = true) (hi : (P.info? ty).map (·.size) = some cs.length) :
  (results fn tmps).run P w = .ok (.tuple #[.agg cs.toArray, v]) w := by
 have hp' : tmps[p]?.getD undef = .pointer (some ⟨g, 0, none⟩) := by simpa using hp
 have hq' : tmps[q]?.getD undef = v := by simpa using hq
 simp [results, h, hp', hq', asAddr, run_loadVar_row w g t ty cs.toArray (0, 0) d hg hu hd (by simpa using hi)]
theorem ret_rs {P : Program} {f : Func} {a : Act} {q p : Tmp} {ty : TypeId} {d : TypeDesc} {post : Ending -> World -> Prop} {w : World} {g : Nat} {T : TypeId} {cs : List Value} {v : Value} (hf : f.results = #[.cell p ty, .tmp q]) (hdf : a.defers = []) (hq : a.tmps.getD q undef = v) (hp : a.tmps.getD p undef = .pointer (some ⟨g, 0, none⟩)) (hr : Row w g T cs)
  (hu : P.underlying ty = some d) (hd : (match d with | .struct _ | .array _ _ => true | _ => false) = true) (hi : (P.info? ty).map (·.size) = some cs.length) (h : post (.returned (.tuple #[.agg cs.toArray, v])) w) : bodyPost P f post .ret a w :=
 bodyPost_ret (v := .tuple #[.agg cs.toArray, v]) (results_row_slot hf _ _ g T cs d v hq hp hr hu hd hi) hdf h
def oTab : List (Bool × Int × Int × Int × Int) := [(false, 0, 0, 0, 0),
 (false, 32, 1, 265, 7), (false, 32, 2, 133, 6), (false, 32, 4, 67, 4), (false, 32, 8, 34, 0),
 (false, 24, 1, 200, 8), (false, 24, 2, 101, 6), (false, 24, 4, 51, 4), (false, 24, 8, 26, 0),
 (true, 32, 1, 265, 7), (true, 32, 2, 133, 6), (true, 32, 4, 67, 4), (true, 32, 8, 34, 0),
 (true, 24, 1, 200, 8), (true, 24, 2, 101, 6), (true, 24, 4, 51, 4), (true, 24, 8, 26, 0)]
def oR (c : Nat) : Bool × Int × Int × Int × Int := oTab.getD c (false, 0, 0, 0, 0)
def oCc (c : Nat) : Int := if 1 <= c /\ c <= 16 then (c : Int) else 0
def oE (c : Nat) : Int := if 1 <= c /\ c <= 16 then 0 else 60
def oLl (c : Nat) : List Value := [.int .u32 (oCc c), .bool (oR c).1, .int .i64 (oR c).2.1, .int .i64 (oR c).2.2.1, .int .i64 (oR c).2.2.2.1, .int .i64 (oR c).2.2.2.2]
theorem bytes6_any (f : Nat) (hf : f <= 3) (w : World) : Calls Tryz.prog 85 #[.int .i64 (f : Int)] w (StayIs (.int .i64 (hN f)) w) := by
 unfold StayIs;have : f = 0 ∨ f = 1 ∨ f = 2 ∨ f = 3 := by omega
 rcases this with rfl | rfl | rfl | rfl
 all_goals
  go_enter Tryz.func85, Tryz.ntmps85;go_wp2;go_ret;exact ⟨rfl, rfl⟩
def ownF (c b : Nat) : Nat := if c < b ∨ 64 <= c - b ∨ 4 < (c - b) % 16 then 0 else (c - b) / 16
def ownH (c b : Nat) : Nat := if c < b ∨ 64 <= c - b ∨ 4 < (c - b) % 16 then 0 else (c - b) % 16
theorem own_no {c b : Nat} (h : c < b ∨ 64 <= c - b ∨ 4 < (c - b) % 16) : ownF c b = 0 /\ ownH c b = 0 := ⟨by unfold ownF; rw [if_pos h], by unfold ownH; rw [if_pos h]⟩
theorem own_yes {c b : Nat} (h : ¬ (c < b ∨ 64 <= c - b ∨ 4 < (c - b) % 16)) : ownF c b = (c - b) / 16 /\ ownH c b = (c - b) % 16 := ⟨by unfold ownF; rw [if_neg h], by unfold ownH; rw [if_neg h]⟩
theorem ownTree_any (c b : Nat) (hc : c < 4294967296) (hb : b < 4294967296) (w : World) : Calls Tryz.prog 148 #[.int .u32 (c : Int), .int .u32 (b : Int)] w (StayIs (.tuple #[.int .u32 (ownF c b : Int), .int .u32 (ownH c b : Int)]) w) := by
 unfold StayIs
 by_cases h1 : c < b
 ·obtain ⟨e1, e2⟩ := own_no (c := c) (b := b) (.inl h1);rw [e1, e2];have i1 : (c : Int) < (b : Int) := by omega
  go_enter Tryz.func148, Tryz.ntmps148;go_wp2;go_ret2;exact ⟨rfl, rfl⟩
 obtain ⟨d, hd⟩ : ∃ d, d = c - b := ⟨_, rfl⟩;have i1 : ¬ (c : Int) < (b : Int) := by omega
 have hw : IntKind.u32.wrap ((c : Int) - (b : Int)) = (d : Int) := by rw [IntKind.wrap_u32]; omega
 by_cases h2 : 64 <= d
 ·obtain ⟨e1, e2⟩ := own_no (c := c) (b := b) (.inr (.inl (by omega)));rw [e1, e2];have i2 : (64 : Int) <= (d : Int) := by omega
  clear hd;go_enter Tryz.func148, Tryz.ntmps148;go_wp2;go_ret2;exact ⟨rfl, rfl⟩
 have i2 : ¬ (64 : Int) <= (d : Int) := by omega
 obtain ⟨q, hq⟩ : ∃ q, q = d / 16 := ⟨_, rfl⟩;obtain ⟨r, hr⟩ : ∃ r, r = d % 16 := ⟨_, rfl⟩;have ht : Int.tmod (d : Int) 16 = (r : Int) := by rw [hr, Int.tmod_eq_emod_of_nonneg (by omega)]; omega
 have hv : Int.tdiv (d : Int) 16 = (q : Int) := by rw [hq, Int.tdiv_eq_ediv_of_nonneg (by omega)]; omega
 by_cases h3 : 4 < r
 ·obtain ⟨e1, e2⟩ := own_no (c := c) (b := b) (.inr (.inr (by omega)));rw [e1, e2];have i3 : (4 : Int) < (r : Int) := by omega
  clear hd hq hr hv;go_enter Tryz.func148, Tryz.ntmps148;go_wp2;go_ret2;exact ⟨rfl, rfl⟩
 obtain ⟨e1, e2⟩ := own_yes (c := c) (b := b) (by omega);rw [e1, e2, <- hd, <- hq, <- hr];have i3 : ¬ (4 : Int) < (r : Int) := by omega
 have hqw : IntKind.u32.wrap (q : Int) = (q : Int) := by rw [IntKind.wrap_u32]; omega
 have hrw : IntKind.u32.wrap (r : Int) = (r : Int) := by rw [IntKind.wrap_u32]; omega
 clear hd hq hr e1 e2;go_enter Tryz.func148, Tryz.ntmps148;go_wp2;go_ret2;exact ⟨rfl, rfl⟩
def xB : Nat := 4043309056
theorem ownF_le (c b : Nat) : ownF c b <= 3 := by
 unfold ownF
 split
 ·omega
 ·omega
theorem ownH_le (c b : Nat) : ownH c b <= 4 := by
 unfold ownH
 split
 ·omega
 ·omega
def hts (i : Nat) : Nat := if i = 0 then 10 else if i = 1 then 16 else 20
def xF (c : Nat) : Nat := if 1 <= c /\ c <= 3 then 0 else if 13 <= c /\ c <= 21 then 1 + (c - 13) / 3 else ownF c xB
def xH (c : Nat) : Nat := if 1 <= c /\ c <= 3 then hts (c - 1) else if 13 <= c /\ c <= 21 then hts ((c - 13) % 3) else ownH c xB
theorem hts_le (i : Nat) : hts i <= 20 := by
 unfold hts
 split
 ·omega
 ·split <;> omega
theorem xF_le (c : Nat) : xF c <= 3 := by
 unfold xF
 split
 ·omega
 ·split
  ·omega
  ·exact ownF_le c xB
theorem xH_le (c : Nat) : xH c <= 20 := by
 unfold xH
 split
 ·exact hts_le _
 ·split
  ·exact hts_le _
  ·have := ownH_le c xB; omega
theorem xmssTree_1 (w : World) : Calls Tryz.prog 126 #[.int .u32 1] w (OldIs (.tuple #[.int .u32 0, .int .u32 10]) w) := by
 unfold OldIs;have HW : Shh (Row (w.alloc (.cells #[.int .u32 10, .int .u32 16, .int .u32 20] 171)).drew w.heap.size 171 [.int .u32 10, .int .u32 16, .int .u32 20] /\ Below w.heap.size w (w.alloc (.cells #[.int .u32 10, .int .u32 16, .int .u32 20] 171)).drew) := ⟨(Row.new_ rfl rfl).drew, (Below.alloc (Below.refl _ _) (Nat.le_refl _) _).drew⟩;obtain ⟨N, hN⟩ : ∃ N, w.heap.size = N := ⟨_, rfl⟩;go_enter Tryz.func126, Tryz.ntmps126;go_wp2;refine wp_region_held_drew (S := fun w' => Row w' N 171 [.int .u32 10, .int .u32 16, .int .u32 20]) (by kernel_rfl) (by rw [<- hN]; exact HW.out.1) (fun hS => ?_);clear hS;rw [hN] at HW;generalize World.drew _ = V at HW ⊢;have rW := HW.out.1;have hb := HW.out.2;clear HW;refine hdv0 0 13 (.int .u32 1) (by rfl) (rW) ?_;refine hdv 1 14 (.int .u32 0) (by rfl) (fun w hS => by kernel_rfl) (rW) ?_;refine hdv 2 15 (.pointer (some ⟨N, 0, none⟩)) (by rfl) (fun w hS => by kernel_rfl) (rW) ?_;refine hdv 3 16 (.int .u32 10) (by rfl) (fun w hS => by have h2 : w.cell? ⟨N, 0, none⟩ = some (.int .u32 10) := hS.cell 0; go_simp) (rW) ?_;refine hdv0 4 2 (.int .u32 0) (by rfl) (rW) ?_;refine hdv0 5 3 (.int .u32 10) (by rfl) (rW) ?_;refine wpAnyH_done (by kernel_rfl) ?_ _;go_wp2;go_ret2;exact ⟨rfl, by rw [hN]; exact hb⟩
theorem xmssTree_2 (w : World) : Calls Tryz.prog 126 #[.int .u32 2] w (OldIs (.tuple #[.int .u32 0, .int .u32 16]) w) := by
 unfold OldIs;have HW : Shh (Row (w.alloc (.cells #[.int .u32 10, .int .u32 16, .int .u32 20] 171)).drew w.heap.size 171 [.int .u32 10, .int .u32 16, .int .u32 20] /\ Below w.heap.size w (w.alloc (.cells #[.int .u32 10, .int .u32 16, .int .u32 20] 171)).drew) := ⟨(Row.new_ rfl rfl).drew, (Below.alloc (Below.refl _ _) (Nat.le_refl _) _).drew⟩;obtain ⟨N, hN⟩ : ∃ N, w.heap.size = N := ⟨_, rfl⟩;go_enter Tryz.func126, Tryz.ntmps126;go_wp2;refine wp_region_held_drew (S := fun w' => Row w' N 171 [.int .u32 10, .int .u32 16, .int .u32 20]) (by kernel_rfl) (by rw [<- hN]; exact HW.out.1) (fun hS => ?_);clear hS;rw [hN] at HW;generalize World.drew _ = V at HW ⊢;have rW := HW.out.1;have hb := HW.out.2;clear HW;refine hdv0 0 13 (.int .u32 2) (by rfl) (rW) ?_;refine hdv 1 14 (.int .u32 1) (by rfl) (fun w hS => by kernel_rfl) (rW) ?_;refine hdv 2 15 (.pointer (some ⟨N, 1, none⟩)) (by rfl) (fun w hS => by kernel_rfl) (rW) ?_;refine hdv 3 16 (.int .u32 16) (by rfl) (fun w hS => by have h2 : w.cell? ⟨N, 1, none⟩ = some (.int .u32 16) := hS.cell 1; go_simp) (rW) ?_;refine hdv0 4 2 (.int .u32 0) (by rfl) (rW) ?_;refine hdv0 5 3 (.int .u32 16) (by rfl) (rW) ?_;refine wpAnyH_done (by kernel_rfl) ?_ _;go_wp2;go_ret2;exact ⟨rfl, by rw [hN]; exact hb⟩
theorem xmssTree_3 (w : World) : Calls Tryz.prog 126 #[.int .u32 3] w (OldIs (.tuple #[.int .u32 0, .int .u32 20]) w) := by
 unfold OldIs;have HW : Shh (Row (w.alloc (.cells #[.int .u32 10, .int .u32 16, .int .u32 20] 171)).drew w.heap.size 171 [.int .u32 10, .int .u32 16, .int .u32 20] /\ Below w.heap.size w (w.alloc (.cells #[.int .u32 10, .int .u32 16, .int .u32 20] 171)).drew) := ⟨(Row.new_ rfl rfl).drew, (Below.alloc (Below.refl _ _) (Nat.le_refl _) _).drew⟩;obtain ⟨N, hN⟩ : ∃ N, w.heap.size = N := ⟨_, rfl⟩;go_enter Tryz.func126, Tryz.ntmps126;go_wp2;refine wp_region_held_drew (S := fun w' => Row w' N 171 [.int .u32 10, .int .u32 16, .int .u32 20]) (by kernel_rfl) (by rw [<- hN]; exact HW.out.1) (fun hS => ?_);clear hS;rw [hN] at HW;generalize World.drew _ = V at HW ⊢;have rW := HW.out.1;have hb := HW.out.2;clear HW;refine hdv0 0 13 (.int .u32 3) (by rfl) (rW) ?_;refine hdv 1 14 (.int .u32 2) (by rfl) (fun w hS => by kernel_rfl) (rW) ?_;refine hdv 2 15 (.pointer (some ⟨N, 2, none⟩)) (by rfl) (fun w hS => by kernel_rfl) (rW) ?_;refine hdv 3 16 (.int .u32 20) (by rfl) (fun w hS => by have h2 : w.cell? ⟨N, 2, none⟩ = some (.int .u32 20) := hS.cell 2; go_simp) (rW) ?_;refine hdv0 4 2 (.int .u32 0) (by rfl) (rW) ?_;refine hdv0 5 3 (.int .u32 20) (by rfl) (rW) ?_;refine wpAnyH_done (by kernel_rfl) ?_ _;go_wp2;go_ret2;exact ⟨rfl, by rw [hN]; exact hb⟩
theorem xmssTree_13 (w : World) : Calls Tryz.prog 126 #[.int .u32 13] w (OldIs (.tuple #[.int .u32 1, .int .u32 10]) w) := by
 unfold OldIs;have HW : Shh (Row (w.alloc (.cells #[.int .u32 10, .int .u32 16, .int .u32 20] 171)).drew w.heap.size 171 [.int .u32 10, .int .u32 16, .int .u32 20] /\ Below w.heap.size w (w.alloc (.cells #[.int .u32 10, .int .u32 16, .int .u32 20] 171)).drew) := ⟨(Row.new_ rfl rfl).drew, (Below.alloc (Below.refl _ _) (Nat.le_refl _) _).drew⟩;obtain ⟨N, hN⟩ : ∃ N, w.heap.size = N := ⟨_, rfl⟩;go_enter Tryz.func126, Tryz.ntmps126;go_wp2;refine wp_region_held_drew (S := fun w' => Row w' N 171 [.int .u32 10, .int .u32 16, .int .u32 20]) (by kernel_rfl) (by rw [<- hN]; exact HW.out.1) (fun hS => ?_);clear hS;rw [hN] at HW;generalize World.drew _ = V at HW ⊢;have rW := HW.out.1;have hb := HW.out.2;clear HW;refine hdv0 0 24 (.int .u32 13) (by rfl) (rW) ?_;refine hdv 1 25 (.int .u32 0) (by rfl) (fun w hS => by kernel_rfl) (rW) ?_;refine hdv 2 26 (.int .u32 0) (by rfl) (fun w hS => by kernel_rfl) (rW) ?_;refine hdv 3 27 (.int .u32 1) (by rfl) (fun w hS => by kernel_rfl) (rW) ?_;refine hdv0 4 28 (.int .u32 13) (by rfl) (rW) ?_;refine hdv 5 29 (.int .u32 0) (by rfl) (fun w hS => by kernel_rfl) (rW) ?_;refine hdv 6 30 (.int .u32 0) (by rfl) (fun w hS => by kernel_rfl) (rW) ?_;refine hdv 7 31 (.pointer (some ⟨N, 0, none⟩)) (by rfl) (fun w hS => by kernel_rfl) (rW) ?_;refine hdv 8 32 (.int .u32 10) (by rfl) (fun w hS => by have h2 : w.cell? ⟨N, 0, none⟩ = some (.int .u32 10) := hS.cell 0; go_simp) (rW) ?_;refine hdv0 9 2 (.int .u32 1) (by rfl) (rW) ?_;refine hdv0 10 3 (.int .u32 10) (by rfl) (rW) ?_;refine wpAnyH_done (by kernel_rfl) ?_ _;go_wp2;go_ret2;exact ⟨rfl, by rw [hN]; exact hb⟩
theorem xmssTree_14 (w : World) : Calls Tryz.prog 126 #[.int .u32 14] w (OldIs (.tuple #[.int .u32 1, .int .u32 16]) w) := by
 unfold OldIs;have HW : Shh (Row (w.alloc (.cells #[.int .u32 10, .int .u32 16, .int .u32 20] 171)).drew w.heap.size 171 [.int .u32 10, .int .u32 16, .int .u32 20] /\ Below w.heap.size w (w.alloc (.cells #[.int .u32 10, .int .u32 16, .int .u32 20] 171)).drew) := ⟨(Row.new_ rfl rfl).drew, (Below.alloc (Below.refl _ _) (Nat.le_refl _) _).drew⟩;obtain ⟨N, hN⟩ : ∃ N, w.heap.size = N := ⟨_, rfl⟩;go_enter Tryz.func126, Tryz.ntmps126;go_wp2;refine wp_region_held_drew (S := fun w' => Row w' N 171 [.int .u32 10, .int .u32 16, .int .u32 20]) (by kernel_rfl) (by rw [<- hN]; exact HW.out.1) (fun hS => ?_);clear hS;rw [hN] at HW;generalize World.drew _ = V at HW ⊢;have rW := HW.out.1;have hb := HW.out.2;clear HW;refine hdv0 0 24 (.int .u32 14) (by rfl) (rW) ?_;refine hdv 1 25 (.int .u32 1) (by rfl) (fun w hS => by kernel_rfl) (rW) ?_;refine hdv 2 26 (.int .u32 0) (by rfl) (fun w hS => by kernel_rfl) (rW) ?_;refine hdv 3 27 (.int .u32 1) (by rfl) (fun w hS => by kernel_rfl) (rW) ?_;refine hdv0 4 28 (.int .u32 14) (by rfl) (rW) ?_;refine hdv 5 29 (.int .u32 1) (by rfl) (fun w hS => by kernel_rfl) (rW) ?_;refine hdv 6 30 (.int .u32 1) (by rfl) (fun w hS => by kernel_rfl) (rW) ?_;refine hdv 7 31 (.pointer (some ⟨N, 1, none⟩)) (by rfl) (fun w hS => by kernel_rfl) (rW) ?_;refine hdv 8 32 (.int .u32 16) (by rfl) (fun w hS => by have h2 : w.cell? ⟨N, 1, none⟩ = some (.int .u32 16) := hS.cell 1; go_simp) (rW) ?_;refine hdv0 9 2 (.int .u32 1) (by rfl) (rW) ?_;refine hdv0 10 3 (.int .u32 16) (by rfl) (rW) ?_;refine wpAnyH_done (by kernel_rfl) ?_ _;go_wp2;go_ret2;exact ⟨rfl, by rw [hN]; exact hb⟩
theorem xmssTree_15 (w : World) : Calls Tryz.prog 126 #[.int .u32 15] w (OldIs (.tuple #[.int .u32 1, .int .u32 20]) w) := by
 unfold OldIs;have HW : Shh (Row (w.alloc (.cells #[.int .u32 10, .int .u32 16, .int .u32 20] 171)).drew w.heap.size 171 [.int .u32 10, .int .u32 16, .int .u32 20] /\ Below w.heap.size w (w.alloc (.cells #[.int .u32 10, .int .u32 16, .int .u32 20] 171)).drew) := ⟨(Row.new_ rfl rfl).drew, (Below.alloc (Below.refl _ _) (Nat.le_refl _) _).drew⟩;obtain ⟨N, hN⟩ : ∃ N, w.heap.size = N := ⟨_, rfl⟩;go_enter Tryz.func126, Tryz.ntmps126;go_wp2;refine wp_region_held_drew (S := fun w' => Row w' N 171 [.int .u32 10, .int .u32 16, .int .u32 20]) (by kernel_rfl) (by rw [<- hN]; exact HW.out.1) (fun hS => ?_);clear hS;rw [hN] at HW;generalize World.drew _ = V at HW ⊢;have rW := HW.out.1;have hb := HW.out.2;clear HW;refine hdv0 0 24 (.int .u32 15) (by rfl) (rW) ?_;refine hdv 1 25 (.int .u32 2) (by rfl) (fun w hS => by kernel_rfl) (rW) ?_;refine hdv 2 26 (.int .u32 0) (by rfl) (fun w hS => by kernel_rfl) (rW) ?_;refine hdv 3 27 (.int .u32 1) (by rfl) (fun w hS => by kernel_rfl) (rW) ?_;refine hdv0 4 28 (.int .u32 15) (by rfl) (rW) ?_;refine hdv 5 29 (.int .u32 2) (by rfl) (fun w hS => by kernel_rfl) (rW) ?_;refine hdv 6 30 (.int .u32 2) (by rfl) (fun w hS => by kernel_rfl) (rW) ?_;refine hdv 7 31 (.pointer (some ⟨N, 2, none⟩)) (by rfl) (fun w hS => by kernel_rfl) (rW) ?_;refine hdv 8 32 (.int .u32 20) (by rfl) (fun w hS => by have h2 : w.cell? ⟨N, 2, none⟩ = some (.int .u32 20) := hS.cell 2; go_simp) (rW) ?_;refine hdv0 9 2 (.int .u32 1) (by rfl) (rW) ?_;refine hdv0 10 3 (.int .u32 20) (by rfl) (rW) ?_;refine wpAnyH_done (by kernel_rfl) ?_ _;go_wp2;go_ret2;exact ⟨rfl, by rw [hN]; exact hb⟩
theorem xmssTree_16 (w : World) : Calls Tryz.prog 126 #[.int .u32 16] w (OldIs (.tuple #[.int .u32 2, .int .u32 10]) w) := by
 unfold OldIs;have HW : Shh (Row (w.alloc (.cells #[.int .u32 10, .int .u32 16, .int .u32 20] 171)).drew w.heap.size 171 [.int .u32 10, .int .u32 16, .int .u32 20] /\ Below w.heap.size w (w.alloc (.cells #[.int .u32 10, .int .u32 16, .int .u32 20] 171)).drew) := ⟨(Row.new_ rfl rfl).drew, (Below.alloc (Below.refl _ _) (Nat.le_refl _) _).drew⟩;obtain ⟨N, hN⟩ : ∃ N, w.heap.size = N := ⟨_, rfl⟩;go_enter Tryz.func126, Tryz.ntmps126;go_wp2;refine wp_region_held_drew (S := fun w' => Row w' N 171 [.int .u32 10, .int .u32 16, .int .u32 20]) (by kernel_rfl) (by rw [<- hN]; exact HW.out.1) (fun hS => ?_);clear hS;rw [hN] at HW;generalize World.drew _ = V at HW ⊢;have rW := HW.out.1;have hb := HW.out.2;clear HW;refine hdv0 0 24 (.int .u32 16) (by rfl) (rW) ?_;refine hdv 1 25 (.int .u32 3) (by rfl) (fun w hS => by kernel_rfl) (rW) ?_;refine hdv 2 26 (.int .u32 1) (by rfl) (fun w hS => by kernel_rfl) (rW) ?_;refine hdv 3 27 (.int .u32 2) (by rfl) (fun w hS => by kernel_rfl) (rW) ?_;refine hdv0 4 28 (.int .u32 16) (by rfl) (rW) ?_;refine hdv 5 29 (.int .u32 3) (by rfl) (fun w hS => by kernel_rfl) (rW) ?_;refine hdv 6 30 (.int .u32 0) (by rfl) (fun w hS => by kernel_rfl) (rW) ?_;refine hdv 7 31 (.pointer (some ⟨N, 0, none⟩)) (by rfl) (fun w hS => by kernel_rfl) (rW) ?_;refine hdv 8 32 (.int .u32 10) (by rfl) (fun w hS => by have h2 : w.cell? ⟨N, 0, none⟩ = some (.int .u32 10) := hS.cell 0; go_simp) (rW) ?_;refine hdv0 9 2 (.int .u32 2) (by rfl) (rW) ?_;refine hdv0 10 3 (.int .u32 10) (by rfl) (rW) ?_;refine wpAnyH_done (by kernel_rfl) ?_ _;go_wp2;go_ret2;exact ⟨rfl, by rw [hN]; exact hb⟩
theorem xmssTree_17 (w : World) : Calls Tryz.prog 126 #[.int .u32 17] w (OldIs (.tuple #[.int .u32 2, .int .u32 16]) w) := by
 unfold OldIs;have HW : Shh (Row (w.alloc (.cells #[.int .u32 10, .int .u32 16, .int .u32 20] 171)).drew w.heap.size 171 [.int .u32 10, .int .u32 16, .int .u32 20] /\ Below w.heap.size w (w.alloc (.cells #[.int .u32 10, .int .u32 16, .int .u32 20] 171)).drew) := ⟨(Row.new_ rfl rfl).drew, (Below.alloc (Below.refl _ _) (Nat.le_refl _) _).drew⟩;obtain ⟨N, hN⟩ : ∃ N, w.heap.size = N := ⟨_, rfl⟩;go_enter Tryz.func126, Tryz.ntmps126;go_wp2;refine wp_region_held_drew (S := fun w' => Row w' N 171 [.int .u32 10, .int .u32 16, .int .u32 20]) (by kernel_rfl) (by rw [<- hN]; exact HW.out.1) (fun hS => ?_);clear hS;rw [hN] at HW;generalize World.drew _ = V at HW ⊢;have rW := HW.out.1;have hb := HW.out.2;clear HW;refine hdv0 0 24 (.int .u32 17) (by rfl) (rW) ?_;refine hdv 1 25 (.int .u32 4) (by rfl) (fun w hS => by kernel_rfl) (rW) ?_;refine hdv 2 26 (.int .u32 1) (by rfl) (fun w hS => by kernel_rfl) (rW) ?_;refine hdv 3 27 (.int .u32 2) (by rfl) (fun w hS => by kernel_rfl) (rW) ?_;refine hdv0 4 28 (.int .u32 17) (by rfl) (rW) ?_;refine hdv 5 29 (.int .u32 4) (by rfl) (fun w hS => by kernel_rfl) (rW) ?_;refine hdv 6 30 (.int .u32 1) (by rfl) (fun w hS => by kernel_rfl) (rW) ?_;refine hdv 7 31 (.pointer (some ⟨N, 1, none⟩)) (by rfl) (fun w hS => by kernel_rfl) (rW) ?_;refine hdv 8 32 (.int .u32 16) (by rfl) (fun w hS => by have h2 : w.cell? ⟨N, 1, none⟩ = some (.int .u32 16) := hS.cell 1; go_simp) (rW) ?_;refine hdv0 9 2 (.int .u32 2) (by rfl) (rW) ?_;refine hdv0 10 3 (.int .u32 16) (by rfl) (rW) ?_;refine wpAnyH_done (by kernel_rfl) ?_ _;go_wp2;go_ret2;exact ⟨rfl, by rw [hN]; exact hb⟩
theorem xmssTree_18 (w : World) : Calls Tryz.prog 126 #[.int .u32 18] w (OldIs (.tuple #[.int .u32 2, .int .u32 20]) w) := by
 unfold OldIs;have HW : Shh (Row (w.alloc (.cells #[.int .u32 10, .int .u32 16, .int .u32 20] 171)).drew w.heap.size 171 [.int .u32 10, .int .u32 16, .int .u32 20] /\ Below w.heap.size w (w.alloc (.cells #[.int .u32 10, .int .u32 16, .int .u32 20] 171)).drew) := ⟨(Row.new_ rfl rfl).drew, (Below.alloc (Below.refl _ _) (Nat.le_refl _) _).drew⟩;obtain ⟨N, hN⟩ : ∃ N, w.heap.size = N := ⟨_, rfl⟩;go_enter Tryz.func126, Tryz.ntmps126;go_wp2;refine wp_region_held_drew (S := fun w' => Row w' N 171 [.int .u32 10, .int .u32 16, .int .u32 20]) (by kernel_rfl) (by rw [<- hN]; exact HW.out.1) (fun hS => ?_);clear hS;rw [hN] at HW;generalize World.drew _ = V at HW ⊢;have rW := HW.out.1;have hb := HW.out.2;clear HW;refine hdv0 0 24 (.int .u32 18) (by rfl) (rW) ?_;refine hdv 1 25 (.int .u32 5) (by rfl) (fun w hS => by kernel_rfl) (rW) ?_;refine hdv 2 26 (.int .u32 1) (by rfl) (fun w hS => by kernel_rfl) (rW) ?_;refine hdv 3 27 (.int .u32 2) (by rfl) (fun w hS => by kernel_rfl) (rW) ?_;refine hdv0 4 28 (.int .u32 18) (by rfl) (rW) ?_;refine hdv 5 29 (.int .u32 5) (by rfl) (fun w hS => by kernel_rfl) (rW) ?_;refine hdv 6 30 (.int .u32 2) (by rfl) (fun w hS => by kernel_rfl) (rW) ?_;refine hdv 7 31 (.pointer (some ⟨N, 2, none⟩)) (by rfl) (fun w hS => by kernel_rfl) (rW) ?_;refine hdv 8 32 (.int .u32 20) (by rfl) (fun w hS => by have h2 : w.cell? ⟨N, 2, none⟩ = some (.int .u32 20) := hS.cell 2; go_simp) (rW) ?_;refine hdv0 9 2 (.int .u32 2) (by rfl) (rW) ?_;refine hdv0 10 3 (.int .u32 20) (by rfl) (rW) ?_;refine wpAnyH_done (by kernel_rfl) ?_ _;go_wp2;go_ret2;exact ⟨rfl, by rw [hN]; exact hb⟩
theorem xmssTree_19 (w : World) : Calls Tryz.prog 126 #[.int .u32 19] w (OldIs (.tuple #[.int .u32 3, .int .u32 10]) w) := by
 unfold OldIs;have HW : Shh (Row (w.alloc (.cells #[.int .u32 10, .int .u32 16, .int .u32 20] 171)).drew w.heap.size 171 [.int .u32 10, .int .u32 16, .int .u32 20] /\ Below w.heap.size w (w.alloc (.cells #[.int .u32 10, .int .u32 16, .int .u32 20] 171)).drew) := ⟨(Row.new_ rfl rfl).drew, (Below.alloc (Below.refl _ _) (Nat.le_refl _) _).drew⟩;obtain ⟨N, hN⟩ : ∃ N, w.heap.size = N := ⟨_, rfl⟩;go_enter Tryz.func126, Tryz.ntmps126;go_wp2;refine wp_region_held_drew (S := fun w' => Row w' N 171 [.int .u32 10, .int .u32 16, .int .u32 20]) (by kernel_rfl) (by rw [<- hN]; exact HW.out.1) (fun hS => ?_);clear hS;rw [hN] at HW;generalize World.drew _ = V at HW ⊢;have rW := HW.out.1;have hb := HW.out.2;clear HW;refine hdv0 0 24 (.int .u32 19) (by rfl) (rW) ?_;refine hdv 1 25 (.int .u32 6) (by rfl) (fun w hS => by kernel_rfl) (rW) ?_;refine hdv 2 26 (.int .u32 2) (by rfl) (fun w hS => by kernel_rfl) (rW) ?_;refine hdv 3 27 (.int .u32 3) (by rfl) (fun w hS => by kernel_rfl) (rW) ?_;refine hdv0 4 28 (.int .u32 19) (by rfl) (rW) ?_;refine hdv 5 29 (.int .u32 6) (by rfl) (fun w hS => by kernel_rfl) (rW) ?_;refine hdv 6 30 (.int .u32 0) (by rfl) (fun w hS => by kernel_rfl) (rW) ?_;refine hdv 7 31 (.pointer (some ⟨N, 0, none⟩)) (by rfl) (fun w hS => by kernel_rfl) (rW) ?_;refine hdv 8 32 (.int .u32 10) (by rfl) (fun w hS => by have h2 : w.cell? ⟨N, 0, none⟩ = some (.int .u32 10) := hS.cell 0; go_simp) (rW) ?_;refine hdv0 9 2 (.int .u32 3) (by rfl) (rW) ?_;refine hdv0 10 3 (.int .u32 10) (by rfl) (rW) ?_;refine wpAnyH_done (by kernel_rfl) ?_ _;go_wp2;go_ret2;exact ⟨rfl, by rw [hN]; exact hb⟩
theorem xmssTree_20 (w : World) : Calls Tryz.prog 126 #[.int .u32 20] w (OldIs (.tuple #[.int .u32 3, .int .u32 16]) w) := by
 unfold OldIs;have HW : Shh (Row (w.alloc (.cells #[.int .u32 10, .int .u32 16, .int .u32 20] 171)).drew w.heap.size 171 [.int .u32 10, .int .u32 16, .int .u32 20] /\ Below w.heap.size w (w.alloc (.cells #[.int .u32 10, .int .u32 16, .int .u32 20] 171)).drew) := ⟨(Row.new_ rfl rfl).drew, (Below.alloc (Below.refl _ _) (Nat.le_refl _) _).drew⟩;obtain ⟨N, hN⟩ : ∃ N, w.heap.size = N := ⟨_, rfl⟩;go_enter Tryz.func126, Tryz.ntmps126;go_wp2;refine wp_region_held_drew (S := fun w' => Row w' N 171 [.int .u32 10, .int .u32 16, .int .u32 20]) (by kernel_rfl) (by rw [<- hN]; exact HW.out.1) (fun hS => ?_);clear hS;rw [hN] at HW;generalize World.drew _ = V at HW ⊢;have rW := HW.out.1;have hb := HW.out.2;clear HW;refine hdv0 0 24 (.int .u32 20) (by rfl) (rW) ?_;refine hdv 1 25 (.int .u32 7) (by rfl) (fun w hS => by kernel_rfl) (rW) ?_;refine hdv 2 26 (.int .u32 2) (by rfl) (fun w hS => by kernel_rfl) (rW) ?_;refine hdv 3 27 (.int .u32 3) (by rfl) (fun w hS => by kernel_rfl) (rW) ?_;refine hdv0 4 28 (.int .u32 20) (by rfl) (rW) ?_;refine hdv 5 29 (.int .u32 7) (by rfl) (fun w hS => by kernel_rfl) (rW) ?_;refine hdv 6 30 (.int .u32 1) (by rfl) (fun w hS => by kernel_rfl) (rW) ?_;refine hdv 7 31 (.pointer (some ⟨N, 1, none⟩)) (by rfl) (fun w hS => by kernel_rfl) (rW) ?_;refine hdv 8 32 (.int .u32 16) (by rfl) (fun w hS => by have h2 : w.cell? ⟨N, 1, none⟩ = some (.int .u32 16) := hS.cell 1; go_simp) (rW) ?_;refine hdv0 9 2 (.int .u32 3) (by rfl) (rW) ?_;refine hdv0 10 3 (.int .u32 16) (by rfl) (rW) ?_;refine wpAnyH_done (by kernel_rfl) ?_ _;go_wp2;go_ret2;exact ⟨rfl, by rw [hN]; exact hb⟩
theorem xmssTree_21 (w : World) : Calls Tryz.prog 126 #[.int .u32 21] w (OldIs (.tuple #[.int .u32 3, .int .u32 20]) w) := by
 unfold OldIs;have HW : Shh (Row (w.alloc (.cells #[.int .u32 10, .int .u32 16, .int .u32 20] 171)).drew w.heap.size 171 [.int .u32 10, .int .u32 16, .int .u32 20] /\ Below w.heap.size w (w.alloc (.cells #[.int .u32 10, .int .u32 16, .int .u32 20] 171)).drew) := ⟨(Row.new_ rfl rfl).drew, (Below.alloc (Below.refl _ _) (Nat.le_refl _) _).drew⟩;obtain ⟨N, hN⟩ : ∃ N, w.heap.size = N := ⟨_, rfl⟩;go_enter Tryz.func126, Tryz.ntmps126;go_wp2;refine wp_region_held_drew (S := fun w' => Row w' N 171 [.int .u32 10, .int .u32 16, .int .u32 20]) (by kernel_rfl) (by rw [<- hN]; exact HW.out.1) (fun hS => ?_);clear hS;rw [hN] at HW;generalize World.drew _ = V at HW ⊢;have rW := HW.out.1;have hb := HW.out.2;clear HW;refine hdv0 0 24 (.int .u32 21) (by rfl) (rW) ?_;refine hdv 1 25 (.int .u32 8) (by rfl) (fun w hS => by kernel_rfl) (rW) ?_;refine hdv 2 26 (.int .u32 2) (by rfl) (fun w hS => by kernel_rfl) (rW) ?_;refine hdv 3 27 (.int .u32 3) (by rfl) (fun w hS => by kernel_rfl) (rW) ?_;refine hdv0 4 28 (.int .u32 21) (by rfl) (rW) ?_;refine hdv 5 29 (.int .u32 8) (by rfl) (fun w hS => by kernel_rfl) (rW) ?_;refine hdv 6 30 (.int .u32 2) (by rfl) (fun w hS => by kernel_rfl) (rW) ?_;refine hdv 7 31 (.pointer (some ⟨N, 2, none⟩)) (by rfl) (fun w hS => by kernel_rfl) (rW) ?_;refine hdv 8 32 (.int .u32 20) (by rfl) (fun w hS => by have h2 : w.cell? ⟨N, 2, none⟩ = some (.int .u32 20) := hS.cell 2; go_simp) (rW) ?_;refine hdv0 9 2 (.int .u32 3) (by rfl) (rW) ?_;refine hdv0 10 3 (.int .u32 20) (by rfl) (rW) ?_;refine wpAnyH_done (by kernel_rfl) ?_ _;go_wp2;go_ret2;exact ⟨rfl, by rw [hN]; exact hb⟩
theorem xmssTree_own (c : Nat) (hc : c < 4294967296) (h : ¬ (1 <= c /\ c <= 3)) (h2 : ¬ (13 <= c /\ c <= 21)) (w : World) : Calls Tryz.prog 126 #[.int .u32 (c : Int)] w (OldIs (.tuple #[.int .u32 (ownF c xB : Int), .int .u32 (ownH c xB : Int)]) w) := by
 unfold OldIs;have hown : ∀ W, Calls Tryz.prog 148 #[.int .u32 (c : Int), .int .u32 4043309056] W (StayIs (.tuple #[.int .u32 (ownF c xB : Int), .int .u32 (ownH c xB : Int)]) W) := fun W => ownTree_any c 4043309056 hc (by omega) W
 have hb : Shh (Below w.heap.size w (w.alloc (.cells #[.int .u32 10, .int .u32 16, .int .u32 20] 171))) := ⟨Below.alloc (Below.refl _ _) (Nat.le_refl _) _⟩
 by_cases hq : c < 1
 ·skip
  have i0 : ¬ (1 : Int) <= (c : Int) := by omega
  have i1 : ¬ (13 : Int) <= (c : Int) := by omega
  clear h h2;go_enter Tryz.func126, Tryz.ntmps126
  go_wp2_with (go_at_call 148; refine (hown _).mono ?_)
  unfold StayIs;rintro e w2 ⟨rfl, rfl⟩;go_wp2;go_ret2;exact ⟨rfl, hb.out⟩
 by_cases hq : c < 13
 ·skip
  have i0 : (1 : Int) <= (c : Int) := by omega
  have i1 : ¬ (c : Int) <= 3 := by omega
  have i2 : ¬ (13 : Int) <= (c : Int) := by omega
  clear h h2;go_enter Tryz.func126, Tryz.ntmps126
  go_wp2_with (go_at_call 148; refine (hown _).mono ?_)
  unfold StayIs;rintro e w2 ⟨rfl, rfl⟩;go_wp2;go_ret2;exact ⟨rfl, hb.out⟩
 have i0 : (1 : Int) <= (c : Int) := by omega
 have i1 : ¬ (c : Int) <= 3 := by omega
 have i2 : (13 : Int) <= (c : Int) := by omega
 have i3 : ¬ (c : Int) <= 21 := by omega
 clear h h2;go_enter Tryz.func126, Tryz.ntmps126
 go_wp2_with (go_at_call 148; refine (hown _).mono ?_)
 unfold StayIs;rintro e w2 ⟨rfl, rfl⟩;go_wp2;go_ret2;exact ⟨rfl, hb.out⟩
theorem xmssTree_any (c : Nat) (hc : c < 4294967296) (w : World) : Calls Tryz.prog 126 #[.int .u32 (c : Int)] w (OldIs (.tuple #[.int .u32 (xF c : Int), .int .u32 (xH c : Int)]) w) := by
 by_cases h : 1 <= c /\ c <= 3
 ·have : c = 1 ∨ c = 2 ∨ c = 3 := by omega
  rcases this with rfl | rfl | rfl
  ·exact xmssTree_1 w
  ·exact xmssTree_2 w
  ·exact xmssTree_3 w
 by_cases h2 : 13 <= c /\ c <= 21
 ·have : c = 13 ∨ c = 14 ∨ c = 15 ∨ c = 16 ∨ c = 17 ∨ c = 18 ∨ c = 19 ∨ c = 20 ∨ c = 21 := by omega
  rcases this with rfl | rfl | rfl | rfl | rfl | rfl | rfl | rfl | rfl
  ·exact xmssTree_13 w
  ·exact xmssTree_14 w
  ·exact xmssTree_15 w
  ·exact xmssTree_16 w
  ·exact xmssTree_17 w
  ·exact xmssTree_18 w
  ·exact xmssTree_19 w
  ·exact xmssTree_20 w
  ·exact xmssTree_21 w
 have e1 : xF c = ownF c xB := by unfold xF; rw [if_neg h, if_neg h2]
 have e2 : xH c = ownH c xB := by unfold xH; rw [if_neg h, if_neg h2]
 rw [e1, e2];exact xmssTree_own c hc h h2 w
def xC (c : Nat) : Int := if xH c = 0 then 0 else (c : Int)
def xSh (c : Nat) : Bool := if xH c = 0 then false else hS (xF c)
def xN (c : Nat) : Int := if xH c = 0 then 0 else hN (xF c)
def xL (c : Nat) : Int := if xH c = 0 then 0 else if hN (xF c) = 24 then 51 else 67
def xE (c : Nat) : Int := if xH c = 0 then 60 else 0
def xmsV (c : Nat) : Value := .agg #[.int .u32 (xC c), .bool (xSh c), .int .i64 (xN c), .int .i64 (xH c : Int), .int .i64 (xL c)]
theorem info_xms : (Tryz.prog.info? 27).map (·.size) = some 5 := by kernel_rfl
theorem oneCell5 {a : Int} {b : Bool} {c d e : Int} : ∀ u ∈ [Value.int .u32 a, .bool b, .int .i64 c, .int .i64 d, .int .i64 e], u.oneCell' = true := by
 intro u hu;simp only [List.mem_cons, List.not_mem_nil, or_false] at hu
 rcases hu with rfl | rfl | rfl | rfl | rfl <;> rfl
theorem xmss_any (c : Nat) (hc : c < 4294967296) (w : World) : Calls Tryz.prog 101 #[.int .u32 (c : Int)] w (OldIs (.tuple #[xmsV c, .int .i64 (xE c)]) w) := by
 unfold OldIs xmsV;obtain ⟨W, hW⟩ : ∃ W, W = w.alloc (.cells #[.int .u32 0, .bool false, .int .i64 0, .int .i64 0, .int .i64 0] 27) := ⟨_, rfl⟩;have HW : Shh (Row W w.heap.size 27 [.int .u32 0, .bool false, .int .i64 0, .int .i64 0, .int .i64 0] /\ Below w.heap.size w W) := ⟨by rw [hW]; exact Row.new_ rfl rfl, by rw [hW]; exact Below.alloc (Below.refl _ _) (Nat.le_refl _) _⟩;rw [hW] at HW;clear hW;have hle := xH_le c;have hht : ∀ W, Calls Tryz.prog 126 #[.int .u32 (c : Int)] W (OldIs (.tuple #[.int .u32 (xF c : Int), .int .u32 (xH c : Int)]) W) := fun W => xmssTree_any c hc W
 obtain ⟨h, hh⟩ : ∃ h, h = xH c := ⟨_, rfl⟩;obtain ⟨f, hf⟩ : ∃ f, f = xF c := ⟨_, rfl⟩;rw [<- hh, <- hf] at hht
 by_cases h0 : h = 0
 ·have e1 : xC c = 0 := by unfold xC; rw [if_pos (by omega)]
  have e2 : xSh c = false := by unfold xSh; rw [if_pos (by omega)]
  have e3 : xN c = 0 := by unfold xN; rw [if_pos (by omega)]
  have e4 : xE c = 60 := by unfold xE; rw [if_pos (by omega)]
  have e5 : xL c = 0 := by unfold xL; rw [if_pos (by omega)]
  rw [e1, e2, e3, e4, e5, <- hh];subst h0;clear hh hf e1 e2 e3 e4 e5;go_enter Tryz.func101, Tryz.ntmps101
  go_wp2_with (go_at_call 126; refine (hht _).mono ?_)
  unfold OldIs;rintro e w2 ⟨rfl, bV⟩;have HV : Shh (Row w2 w.heap.size 27 [.int .u32 0, .bool false, .int .i64 0, .int .i64 0, .int .i64 0] /\ Below w.heap.size w w2) := ⟨HW.out.1.go bV, Below.chain HW.out.2 bV⟩;clear HW bV hht
  go_wp2_with (refine wpList_store_any rfl 27 (.tmp 2) (.tmp 16) rfl w.heap.size rfl [.int .u32 0, .bool false, .int .i64 0, .int .i64 0, .int .i64 0] rfl 27 _ HV.out.1 info_xms rfl oneCell5 ?_)
  intro Z hr bt _;have F : Shh (Row Z w.heap.size 27 [.int .u32 0, .bool false, .int .i64 0, .int .i64 0, .int .i64 0] /\ Below w.heap.size w Z) := ⟨hr, HV.out.2.trans (bt.under HV.out.2.size (Nat.le_refl _))⟩;clear hr bt HV;go_wp2;exact ret_rs Tryz.results101 rfl rfl rfl F.out.1 Tryz.underlying27 rfl info_xms ⟨rfl, F.out.2⟩
 by_cases hk : hN f = 24
 ·skip
  have e1 : xC c = (c : Int) := by unfold xC; rw [if_neg (by omega)]
  have e2 : xSh c = hS f := by unfold xSh; rw [if_neg (by omega), hf]
  have e3 : xN c = hN f := by unfold xN; rw [if_neg (by omega), hf]
  have e4 : xE c = 0 := by unfold xE; rw [if_neg (by omega)]
  have e5 : xL c = 51 := by unfold xL; rw [if_neg (by omega), <- hf, if_pos hk]
  rw [e1, e2, e3, e4, e5, <- hh];have hz : ¬ (h : Int) = 0 := by omega
  have hhw : IntKind.i64.wrap (h : Int) = (h : Int) := by rw [IntKind.wrap_i64]; omega
  clear hh hf e1 e2 e3 e4 e5;obtain ⟨nn, hnn⟩ : ∃ nn, nn = hN f := ⟨_, rfl⟩;have hhash : ∀ W, Calls Tryz.prog 127 #[.int .u32 (f : Int)] W (StayIs (.tuple #[.bool (hS f), .int .i64 nn]) W) := fun W => by rw [hnn]; exact hashOf_any f W
  rw [<- hnn] at hk ⊢;clear hnn;subst hk;go_enter Tryz.func101, Tryz.ntmps101
  go_wp2_with (go_at_call 126; refine (hht _).mono ?_)
  unfold OldIs;rintro e w2 ⟨rfl, bV⟩;have HV : Shh (Row w2 w.heap.size 27 [.int .u32 0, .bool false, .int .i64 0, .int .i64 0, .int .i64 0] /\ Below w.heap.size w w2) := ⟨HW.out.1.go bV, Below.chain HW.out.2 bV⟩;clear HW bV hht
  go_wp2_with (go_at_call 127; refine (hhash _).mono ?_)
  unfold StayIs;rintro e w3 ⟨rfl, rfl⟩
  go_wp2_with (refine wpList_store_any rfl 27 (.tmp 2) (.tmp 30) rfl w.heap.size rfl [.int .u32 (c : Int), .bool (hS f), .int .i64 24, .int .i64 (h : Int), .int .i64 51] rfl 27 _ HV.out.1 info_xms rfl oneCell5 ?_)
  intro Z hr bt _;have F : Shh (Row Z w.heap.size 27 [.int .u32 (c : Int), .bool (hS f), .int .i64 24, .int .i64 (h : Int), .int .i64 51] /\ Below w.heap.size w Z) := ⟨hr, HV.out.2.trans (bt.under HV.out.2.size (Nat.le_refl _))⟩;clear hr bt HV;go_wp2;exact ret_rs Tryz.results101 rfl rfl rfl F.out.1 Tryz.underlying27 rfl info_xms ⟨rfl, F.out.2⟩
 ·skip
  have e1 : xC c = (c : Int) := by unfold xC; rw [if_neg (by omega)]
  have e2 : xSh c = hS f := by unfold xSh; rw [if_neg (by omega), hf]
  have e3 : xN c = hN f := by unfold xN; rw [if_neg (by omega), hf]
  have e4 : xE c = 0 := by unfold xE; rw [if_neg (by omega)]
  have e5 : xL c = 67 := by unfold xL; rw [if_neg (by omega), <- hf, if_neg hk]
  rw [e1, e2, e3, e4, e5, <- hh];have hz : ¬ (h : Int) = 0 := by omega
  have hhw : IntKind.i64.wrap (h : Int) = (h : Int) := by rw [IntKind.wrap_i64]; omega
  clear hh hf e1 e2 e3 e4 e5;obtain ⟨nn, hnn⟩ : ∃ nn, nn = hN f := ⟨_, rfl⟩;have hhash : ∀ W, Calls Tryz.prog 127 #[.int .u32 (f : Int)] W (StayIs (.tuple #[.bool (hS f), .int .i64 nn]) W) := fun W => by rw [hnn]; exact hashOf_any f W
  rw [<- hnn] at hk ⊢;clear hnn;go_enter Tryz.func101, Tryz.ntmps101
  go_wp2_with (go_at_call 126; refine (hht _).mono ?_)
  unfold OldIs;rintro e w2 ⟨rfl, bV⟩;have HV : Shh (Row w2 w.heap.size 27 [.int .u32 0, .bool false, .int .i64 0, .int .i64 0, .int .i64 0] /\ Below w.heap.size w w2) := ⟨HW.out.1.go bV, Below.chain HW.out.2 bV⟩;clear HW bV hht
  go_wp2_with (go_at_call 127; refine (hhash _).mono ?_)
  unfold StayIs;rintro e w3 ⟨rfl, rfl⟩
  go_wp2_with (refine wpList_store_any rfl 27 (.tmp 2) (.tmp 30) rfl w.heap.size rfl [.int .u32 (c : Int), .bool (hS f), .int .i64 nn, .int .i64 (h : Int), .int .i64 67] rfl 27 _ HV.out.1 info_xms rfl oneCell5 ?_)
  intro Z hr bt _;have F : Shh (Row Z w.heap.size 27 [.int .u32 (c : Int), .bool (hS f), .int .i64 nn, .int .i64 (h : Int), .int .i64 67] /\ Below w.heap.size w Z) := ⟨hr, HV.out.2.trans (bt.under HV.out.2.size (Nat.le_refl _))⟩;clear hr bt HV;go_wp2;exact ret_rs Tryz.results101 rfl rfl rfl F.out.1 Tryz.underlying27 rfl info_xms ⟨rfl, F.out.2⟩
def rF (c b : Nat) : Nat := if c < b ∨ 64 <= c - b then 0 else (c - b) / 16
def rH (c b : Nat) : Nat := if c < b ∨ 64 <= c - b then 0 else (c - b) % 16
def rOk (c b : Nat) : Bool := if c < b ∨ 64 <= c - b then false else decide (1 <= (c - b) % 16 /\ (c - b) % 16 <= 4)
theorem rOk_yes {c b : Nat} (h : rOk c b = true) : rF c b = ownF c b /\ rH c b = ownH c b /\ ownH c b ≠ 0 := by
 unfold rOk at h
 split at h
 ·cases h
 ·next h1 =>
  have h2 := of_decide_eq_true h;unfold rF rH ownF ownH;rw [if_neg h1, if_neg h1, if_neg (by omega), if_neg (by omega)];exact ⟨rfl, rfl, by omega⟩
theorem rOk_no {c b : Nat} (h : rOk c b = false) : ownH c b = 0 := by
 unfold rOk at h;unfold ownH
 split at h
 ·next h1 => rw [if_pos (by omega)]
 ·have h2 := of_decide_eq_false h
  split <;> omega
theorem refOwn_any (c b : Nat) (_hc : c < 4294967296) (hb : b < 4294967000) (w : World) : Calls Tryz.prog 84 #[.int .u32 (c : Int), .int .u32 (b : Int)] w (StayIs (.tuple #[.int .i64 (rF c b : Int), .int .i64 (rH c b : Int), .bool (rOk c b)]) w) := by
 unfold StayIs;have hw0 : IntKind.u32.wrap ((b : Int) + 63) = (b : Int) + 63 := by rw [IntKind.wrap_u32]; omega
 by_cases h1 : c < b ∨ 64 <= c - b
 ·have e1 : rF c b = 0 := by unfold rF; rw [if_pos h1]
  have e2 : rH c b = 0 := by unfold rH; rw [if_pos h1]
  have e3 : rOk c b = false := by unfold rOk; rw [if_pos h1]
  rw [e1, e2, e3];clear e1 e2 e3
  by_cases h2 : c < b
  ·have i1 : (c : Int) < (b : Int) := by omega
   clear h1;go_enter Tryz.func84, Tryz.ntmps84;go_wp2
   go_ret3
   exact ⟨rfl, rfl⟩
  ·have i1 : ¬ (c : Int) < (b : Int) := by omega
   have i2 : (b : Int) + 63 < (c : Int) := by omega
   clear h1;go_enter Tryz.func84, Tryz.ntmps84;go_wp2
   go_ret3
   exact ⟨rfl, rfl⟩
 ·obtain ⟨d, hd⟩ : ∃ d, d = c - b := ⟨_, rfl⟩;obtain ⟨q, hq⟩ : ∃ q, q = d / 16 := ⟨_, rfl⟩;obtain ⟨r, hr⟩ : ∃ r, r = d % 16 := ⟨_, rfl⟩;have e1 : rF c b = q := by unfold rF; rw [if_neg h1, <- hd, hq]
  have e2 : rH c b = r := by unfold rH; rw [if_neg h1, <- hd, hr]
  have e3 : rOk c b = decide (1 <= r /\ r <= 4) := by unfold rOk; rw [if_neg h1, <- hd, <- hr]
  rw [e1, e2, e3];clear e1 e2 e3;have i1 : ¬ (c : Int) < (b : Int) := by omega
  have i2 : ¬ (b : Int) + 63 < (c : Int) := by omega
  have hw : IntKind.u32.wrap ((c : Int) - (b : Int)) = (d : Int) := by rw [IntKind.wrap_u32]; omega
  have hw2 : IntKind.i64.wrap (d : Int) = (d : Int) := by rw [IntKind.wrap_i64]; omega
  have ht : Int.tmod (d : Int) 16 = (r : Int) := by rw [hr, Int.tmod_eq_emod_of_nonneg (by omega)]; omega
  have hv : Int.tdiv (d : Int) 16 = (q : Int) := by rw [hq, Int.tdiv_eq_ediv_of_nonneg (by omega)]; omega
  have hqw : IntKind.i64.wrap (q : Int) = (q : Int) := by rw [IntKind.wrap_i64]; omega
  have hrw : IntKind.i64.wrap (r : Int) = (r : Int) := by rw [IntKind.wrap_i64]; omega
  clear hd hq hr h1
  by_cases h3 : 1 <= r
  ·have i3 : (1 : Int) <= (r : Int) := by omega
   by_cases h4 : r <= 4
   ·have i4 : (r : Int) <= 4 := by omega
    have e : decide (1 <= r /\ r <= 4) = true := by simp; omega
    rw [e];go_enter Tryz.func84, Tryz.ntmps84;go_wp2
    go_ret3
    exact ⟨rfl, rfl⟩
   ·have i4 : ¬ (r : Int) <= 4 := by omega
    have e : decide (1 <= r /\ r <= 4) = false := by simp; omega
    rw [e];go_enter Tryz.func84, Tryz.ntmps84;go_wp2
    go_ret3
    exact ⟨rfl, rfl⟩
  ·have i3 : ¬ (1 : Int) <= (r : Int) := by omega
   have e : decide (1 <= r /\ r <= 4) = false := by simp; omega
   rw [e];go_enter Tryz.func84, Tryz.ntmps84;go_wp2
   go_ret3
   exact ⟨rfl, rfl⟩
theorem hS_dec {f : Nat} (h : f <= 3) : hS f = decide ((2 : Int) <= (f : Int)) := by
 unfold hS;exact decide_eq_decide.2 (by omega)
end Go.Proofs.YtdakbipiifkmfaaGreatDoor
