/-
 DISKS AND SCRATCH: several disks, and blocks of the law's own that no disk owns.
-/
import Derived.Test.YtpajdmbajopofaaRe10
import Derived.Test.YtpajdmbajopofaaDo17
namespace Go.Proofs.Ytpajdmbajopofaa
open Go.RowKit
set_option maxRecDepth 100000
/-- as Sys; the blocks of Q are nobody's -/
def SysQ (w W : World) (E : Nat → Option Ent) (Q : Nat → Prop) : Prop := Below w.heap.size w W ∧ (∀ k, Q k → k < W.heap.size) ∧ ∃ col : Nat → Nat, (∀ k, k < w.heap.size → col k = 9) ∧ (∀ k, Q k → col k = 9) ∧ E 0 = none ∧ E 9 = none ∧ ∀ c x, E c = some x → x.is col c W
def QIs (w W : World) (E : Nat → Option Ent) (Q : Nat → Prop) (v : Value) (e : Ending) (w' : World) : Prop := e = .returned v ∧ SysQ w w' E Q ∧ ∀ k, Q k → w'.heap[k]? = W.heap[k]?
section
variable {w W Z : World} {E : Nat → Option Ent} {Q : Nat → Prop} {c g : Nat} {s : DS}
theorem SysQ.sys (h : SysQ w W E Q) : Sys w W E := by
 obtain ⟨h1, _, col, h2, _, h3⟩ := h
 exact ⟨h1, col, h2, h3⟩
theorem Sys.q (h : Sys w W E) : SysQ w W E fun _ => False := by
 obtain ⟨h1, col, h2, h3⟩ := h
 exact ⟨h1, fun _ h => h.elim, col, h2, fun _ h => h.elim, h3⟩
/-- new blocks are nobody's -/
theorem SysQ.new (h : SysQ w W E Q) (b : Below W.heap.size W Z) : SysQ w Z E fun k => Q k ∨ (W.heap.size ≤ k ∧ k < Z.heap.size) := by
 obtain ⟨h1, h0, col, h2, hq, h3, h4, h5⟩ := h
 have hs := h1.size
 have hz := b.size
 refine ⟨Below.chain h1 b, fun k hk => ?_, paint col W.heap.size 9, fun k hk => by rw [paint_lt (by omega)]; exact h2 k hk, fun k hk => ?_, h3, h4, fun d x hx => ?_⟩
 ·rcases hk with hk | hk
  ·have := h0 k hk; omega
  ·exact hk.2
 ·rcases hk with hk | hk
  ·rw [paint_lt (h0 k hk)]; exact hq k hk
  ·exact paint_ge hk.1
 ·have hd9 : d ≠ 9 := fun e => by rw [e, h4] at hx; cases hx
  exact (h5 d x hx).ext ((Ext.of_below col 9 b).paint 9) hd9 (by decide)
theorem SysQ.less {Q' : Nat → Prop} (h : SysQ w W E Q) (hq : ∀ k, Q' k → Q k) : SysQ w W E Q' := by
 obtain ⟨h1, h0, col, h2, h3, h4⟩ := h
 exact ⟨h1, fun k hk => h0 k (hq k hk), col, h2, fun k hk => h3 k (hq k hk), h4⟩
theorem SysQ.go (h : SysQ w W E Q) (b : Below W.heap.size W Z) : SysQ w Z E Q := (h.new b).less fun _ => .inl
/-- one of them turns -/
theorem SysQ.mess {q : Nat} (h : SysQ w W E Q) (hq : Q q) (hw : w.heap.size ≤ q) (b : But W.heap.size q W Z) : SysQ w Z E Q := by
 obtain ⟨h1, h0, col, h2, h3, h4, h5, h6⟩ := h
 have hs := h1.size
 refine ⟨h1.trans (b.under hs hw), fun k hk => Nat.lt_of_lt_of_le (h0 k hk) b.size, col, h2, h3, h4, h5, fun d x hx => ?_⟩
 have hd9 : d ≠ 9 := fun e => by rw [e, h5] at hx; cases hx
 exact (h6 d x hx).ext (Ext.of_but b (h3 q hq)) hd9 (by decide)
theorem SysQ.drop (h : SysQ w W E Q) (c : Nat) : SysQ w W (putE E c none) Q := by
 obtain ⟨h1, h0, col, h2, hq, h3, h4, h5⟩ := h
 refine ⟨h1, h0, col, h2, hq, ?_, ?_, fun d x hx => ?_⟩
 ·unfold putE; split <;> first | rfl | exact h3
 ·unfold putE; split <;> first | rfl | exact h4
 ·unfold putE at hx
  split at hx
  ·cases hx
  ·exact h5 d x hx
theorem SysQ.run {x y : Ent} {P : Program} {f : FuncId} {args : Array Value} {v : Value} (h : SysQ w W E Q) (hx : E c = some x)
  (hc : ∀ col : Nat → Nat, c ≠ 0 → (∀ k, k < w.heap.size → col k ≠ c) → x.is col c W → Calls P f args W fun e w' => e = .returned v ∧ ∃ col', Ext col c W w' col' ∧ y.is col' c w') : Calls P f args W (QIs w W (putE E c (some y)) Q v) := by
 obtain ⟨h1, h0, col, h2, hq, h3, h4, h5⟩ := h
 have hc0 : c ≠ 0 := fun e => by rw [e, h3] at hx; cases hx
 have hc9 : c ≠ 9 := fun e => by rw [e, h4] at hx; cases hx
 refine (hc col hc0 (fun k hk => by rw [h2 k hk]; exact Ne.symm hc9) (h5 c x hx)).mono ?_
 rintro e w' ⟨he, col', hE, hy⟩
 have hs := h1.size
 refine ⟨he, ⟨h1.trans (hE.below (fun k hk => by rw [h2 k hk]; exact Ne.symm hc9) hs), fun k hk => Nat.lt_of_lt_of_le (h0 k hk) hE.size, col', fun k hk => by rw [hE.hue k (by omega)]; exact h2 k hk, fun k hk => by rw [hE.hue k (h0 k hk)]; exact hq k hk, ?_, ?_, fun d z hz => ?_⟩, fun k hk => hE.block k (h0 k hk) (by rw [hq k hk]; exact Ne.symm hc9)⟩
 ·rw [putE_ne E _ (Ne.symm hc0)]; exact h3
 ·rw [putE_ne E _ (Ne.symm hc9)]; exact h4
 ·by_cases hd : d = c
  ·subst hd
   rw [putE_same] at hz
   cases hz
   exact hy
  ·rw [putE_ne E _ hd] at hz
   exact (h5 d z hz).ext hE hd hc0
theorem q_Write (h : SysQ w W E Q) (hx : E c = some ⟨false, g, s⟩) (hl : s.wait.length ≤ 1000000) (i : Int) (B : Nat) (v : Value) (b : List UInt8) (hs : Sl W B v b) (hB : B ≤ W.heap.size) : Calls Try.prog 28 #[.pointer (some ⟨g, 0, none⟩), .int .i64 i, v] W (QIs w W (putE E c (some ⟨false, g, wrS s i b⟩)) Q (.int .i64 (wrE s i b.length))) :=
 h.run hx fun _ hc _ hd => Write_any hd hc hl i B v b hs hB
theorem q_Sync (h : SysQ w W E Q) (hx : E c = some ⟨false, g, s⟩) (hl : s.wait.length ≤ 1000000) : Calls Try.prog 27 #[.pointer (some ⟨g, 0, none⟩)] W (QIs w W (putE E c (some ⟨false, g, syS s⟩)) Q (.int .i64 (syE s))) :=
 h.run hx fun col hc _ hd => (Sync_any hd hc hl).mono fun _ _ hp => ⟨hp.1, col, hp.2.1, hp.2.2⟩
theorem q_Arm (h : SysQ w W E Q) (hx : E c = some ⟨false, g, s⟩) (n : Int) (hn : n ≤ 9223372036854775807) : Calls Try.prog 35 #[.pointer (some ⟨g, 0, none⟩), .int .i64 n] W (QIs w W (putE E c (some ⟨false, g, arS s n⟩)) Q (.int .i64 (arE s n))) :=
 h.run hx fun col hc _ hd => (Arm_any hd hc n hn).mono fun _ _ hp => ⟨hp.1, col, hp.2.1, hp.2.2⟩
theorem q_Calm (h : SysQ w W E Q) (hx : E c = some ⟨false, g, s⟩) : Calls Try.prog 34 #[.pointer (some ⟨g, 0, none⟩)] W (QIs w W (putE E c (some ⟨false, g, caS s⟩)) Q (.tuple #[])) :=
 h.run hx fun col hc _ hd => (Calm_any hd hc).mono fun _ _ hp => ⟨hp.1, col, hp.2.1, hp.2.2⟩
theorem q_Crash (h : SysQ w W E Q) (hx : E c = some ⟨false, g, s⟩) (hl : s.wait.length ≤ 1000000) (v : Value) (l : List Bool) (hs : Slb W w.heap.size v l) : Calls Try.prog 17 #[.pointer (some ⟨g, 0, none⟩), v] W (QIs w W (putE E c (some ⟨false, g, crS s l⟩)) Q (.tuple #[])) :=
 h.run hx fun _ hc hn hd => Crash_any hd hc hl v l (SlbC.of_slb hs h.1.size hn)
theorem q_rWrite (h : SysQ w W E Q) (hx : E c = some ⟨true, g, s⟩) (hl : s.wait.length ≤ 1000000) (i : Int) (B : Nat) (v : Value) (b : List UInt8) (hs : Sl W B v b) (hB : B ≤ W.heap.size) : Calls Try.prog 38 #[.pointer (some ⟨g, 0, none⟩), .int .i64 i, v] W (QIs w W (putE E c (some ⟨true, g, wrS s i b⟩)) Q (.int .i64 (wrE s i b.length))) :=
 h.run hx fun _ hc _ hd => rWrite_any hd hc hl i B v b hs hB
theorem q_rSync (h : SysQ w W E Q) (hx : E c = some ⟨true, g, s⟩) (hl : s.wait.length ≤ 1000000) : Calls Try.prog 39 #[.pointer (some ⟨g, 0, none⟩)] W (QIs w W (putE E c (some ⟨true, g, syS s⟩)) Q (.int .i64 (syE s))) :=
 h.run hx fun col hc _ hd => (rSync_any hd hc hl).mono fun _ _ hp => ⟨hp.1, col, hp.2.1, hp.2.2⟩
theorem q_rArm (h : SysQ w W E Q) (hx : E c = some ⟨true, g, s⟩) (n : Int) (hn : n ≤ 9223372036854775807) : Calls Try.prog 40 #[.pointer (some ⟨g, 0, none⟩), .int .i64 n] W (QIs w W (putE E c (some ⟨true, g, arS s n⟩)) Q (.int .i64 (arE s n))) :=
 h.run hx fun col hc _ hd => (rArm_any hd hc n hn).mono fun _ _ hp => ⟨hp.1, col, hp.2.1, hp.2.2⟩
theorem q_rCrash (h : SysQ w W E Q) (hx : E c = some ⟨true, g, s⟩) (hl : s.wait.length ≤ 1000000) (v : Value) (l : List Bool) (hs : Slb W w.heap.size v l) : Calls Try.prog 41 #[.pointer (some ⟨g, 0, none⟩), v] W (QIs w W (putE E c (some ⟨true, g, crS s l⟩)) Q (.tuple #[])) :=
 h.run hx fun col hc hn hd => (rCrash_any hd hc hl v l (SlbC.of_slb hs h.1.size hn)).mono fun _ _ hp => ⟨hp.1, col, hp.2.1, hp.2.2⟩
theorem SysQ.rcalm (h : SysQ w W E Q) (hx : E c = some ⟨true, g, s⟩) : SysQ w (W.setCell ⟨g, 3, none⟩ (.int .i64 (-1))) (putE E c (some ⟨true, g, caS s⟩)) Q := by
 obtain ⟨h1, h0, col, h2, hq, h3, h4, h5⟩ := h
 have hc0 : c ≠ 0 := fun e => by rw [e, h3] at hx; cases hx
 have hc9 : c ≠ 9 := fun e => by rw [e, h4] at hx; cases hx
 have hd' : RAt col c W g s := h5 c _ hx
 have ht := hd'.turn hc0 (but_set W g 3 (.int .i64 (-1))) s.on (-1) s.done (fun x y hr => hr.set_ 3 _) hd'.1.calm
 have hE := ht.1
 have hs := h1.size
 refine ⟨h1.trans (hE.below (fun k hk => by rw [h2 k hk]; exact Ne.symm hc9) hs), fun k hk => Nat.lt_of_lt_of_le (h0 k hk) hE.size, col, h2, hq, ?_, ?_, fun d z hz => ?_⟩
 ·rw [putE_ne E _ (Ne.symm hc0)]; exact h3
 ·rw [putE_ne E _ (Ne.symm hc9)]; exact h4
 ·by_cases hd : d = c
  ·subst hd
   rw [putE_same] at hz
   cases hz
   exact ht.2
  ·rw [putE_ne E _ hd] at hz
   exact (h5 d z hz).ext hE hd hc0
theorem SysQ.rfuse (h : SysQ w W E Q) (hx : E c = some ⟨true, g, s⟩) : W.frozen? ⟨g, 3, none⟩ = false ∧ ∃ f, W.cell? ⟨g, 3, none⟩ = some (.int .i64 f) := by
 obtain ⟨col, hr, hc, _⟩ := h.sys.rat hx
 exact ⟨hr.free 3, _, hr.cells.2.1⟩
end
/-! what is done, as values -/
def stS (s : DS) (y : OpV) : DS := if y.d = 1 then wrS s y.i (blkL y.x 256) else if y.d = 2 then syS s else if y.d = 3 then arS s y.n else if y.d = 4 then caS s else if y.d = 5 then crS s y.p else if y.d = 7 then wrS s y.i y.b else s
theorem opS_wait' (s : DS) : (opS s).wait = s.wait := by unfold opS; split <;> rfl
theorem wrS_wait (s : DS) (i : Int) (b : List UInt8) : (wrS s i b).wait.length ≤ s.wait.length + 1 := by
 unfold wrS
 split
 ·omega
 ·split
  ·omega
  ·rw [opS_wait']; simp
theorem stS_wait (s : DS) (y : OpV) : (stS s y).wait.length ≤ s.wait.length + 1 := by
 unfold stS
 split
 ·exact wrS_wait _ _ _
 ·split
  ·unfold syS
   split
   ·omega
   ·split
    ·rw [opS_wait']; omega
    ·show ([] : List (Nat × List UInt8)).length ≤ _; simp
  ·split
   ·unfold arS
    split
    ·omega
    ·split
     ·omega
     ·show s.wait.length ≤ _; omega
   ·split
    ·show s.wait.length ≤ _; omega
    ·split
     ·show ([] : List (Nat × List UInt8)).length ≤ _; simp
     ·split
      ·exact wrS_wait _ _ _
      ·omega
end Go.Proofs.Ytpajdmbajopofaa
