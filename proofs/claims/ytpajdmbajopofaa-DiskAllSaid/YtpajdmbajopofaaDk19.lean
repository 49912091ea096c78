/-
 CALLS on one of several disks.
-/
import Derived.Test.YtpajdmbajopofaaDk18
namespace Go.Proofs.Ytpajdmbajopofaa
open Go.RowKit
set_option maxRecDepth 100000
def SysIs (w : World) (E : Nat → Option Ent) (v : Value) (e : Ending) (w' : World) : Prop := e = .returned v ∧ Sys w w' E
section
variable {w W : World} {E : Nat → Option Ent} {c : Nat}
theorem Sys.run {x y : Ent} {P : Program} {f : FuncId} {args : Array Value} {v : Value} (h : Sys w W E) (hx : E c = some x)
  (hc : ∀ col : Nat → Nat, c ≠ 0 → (∀ k, k < w.heap.size → col k ≠ c) → x.is col c W → Calls P f args W fun e w' => e = .returned v ∧ ∃ col', Ext col c W w' col' ∧ y.is col' c w') : Calls P f args W (SysIs w (putE E c (some y)) v) := by
 obtain ⟨h1, col, h2, h3, h4, h5⟩ := h
 have hc0 : c ≠ 0 := fun e => by rw [e, h3] at hx; cases hx
 have hc9 : c ≠ 9 := fun e => by rw [e, h4] at hx; cases hx
 refine (hc col hc0 (fun k hk => by rw [h2 k hk]; exact Ne.symm hc9) (h5 c x hx)).mono ?_
 rintro e w' ⟨he, col', hE, hy⟩
 have hs := h1.size
 refine ⟨he, h1.trans (hE.below (fun k hk => by rw [h2 k hk]; exact Ne.symm hc9) hs), col', fun k hk => by rw [hE.hue k (by omega)]; exact h2 k hk, ?_, ?_, fun d z hz => ?_⟩
 ·rw [putE_ne E _ (Ne.symm hc0)]; exact h3
 ·rw [putE_ne E _ (Ne.symm hc9)]; exact h4
 ·by_cases hd : d = c
  ·subst hd
   rw [putE_same] at hz
   cases hz
   exact hy
  ·rw [putE_ne E _ hd] at hz
   exact (h5 d z hz).ext hE hd hc0
variable {g : Nat} {s : DS}
theorem sys_Write (h : Sys w W E) (hx : E c = some ⟨false, g, s⟩) (hl : s.wait.length ≤ 1000000) (i : Int) (B : Nat) (v : Value) (b : List UInt8) (hs : Sl W B v b) (hB : B ≤ W.heap.size) : Calls Try.prog 28 #[.pointer (some ⟨g, 0, none⟩), .int .i64 i, v] W (SysIs w (putE E c (some ⟨false, g, wrS s i b⟩)) (.int .i64 (wrE s i b.length))) :=
 h.run hx fun _ hc _ hd => Write_any hd hc hl i B v b hs hB
theorem sys_Sync (h : Sys w W E) (hx : E c = some ⟨false, g, s⟩) (hl : s.wait.length ≤ 1000000) : Calls Try.prog 27 #[.pointer (some ⟨g, 0, none⟩)] W (SysIs w (putE E c (some ⟨false, g, syS s⟩)) (.int .i64 (syE s))) :=
 h.run hx fun col hc _ hd => (Sync_any hd hc hl).mono fun _ _ hp => ⟨hp.1, col, hp.2.1, hp.2.2⟩
theorem sys_Arm (h : Sys w W E) (hx : E c = some ⟨false, g, s⟩) (n : Int) (hn : n ≤ 9223372036854775807) : Calls Try.prog 35 #[.pointer (some ⟨g, 0, none⟩), .int .i64 n] W (SysIs w (putE E c (some ⟨false, g, arS s n⟩)) (.int .i64 (arE s n))) :=
 h.run hx fun col hc _ hd => (Arm_any hd hc n hn).mono fun _ _ hp => ⟨hp.1, col, hp.2.1, hp.2.2⟩
theorem sys_Calm (h : Sys w W E) (hx : E c = some ⟨false, g, s⟩) : Calls Try.prog 34 #[.pointer (some ⟨g, 0, none⟩)] W (SysIs w (putE E c (some ⟨false, g, caS s⟩)) (.tuple #[])) :=
 h.run hx fun col hc _ hd => (Calm_any hd hc).mono fun _ _ hp => ⟨hp.1, col, hp.2.1, hp.2.2⟩
theorem sys_Crash (h : Sys w W E) (hx : E c = some ⟨false, g, s⟩) (hl : s.wait.length ≤ 1000000) (v : Value) (l : List Bool) (hs : Slb W w.heap.size v l) : Calls Try.prog 17 #[.pointer (some ⟨g, 0, none⟩), v] W (SysIs w (putE E c (some ⟨false, g, crS s l⟩)) (.tuple #[])) :=
 h.run hx fun _ hc hn hd => Crash_any hd hc hl v l (SlbC.of_slb hs h.bel.size hn)
/-- a slice of bools in a new block that no disk owns -/
theorem sys_CrashNew {q n cp : Nat} {T : TypeId} {W0 : World} (h : Sys w W0 E) (hx : E c = some ⟨false, g, s⟩) (hl : s.wait.length ≤ 1000000) (l : List Bool) (b : Below W0.heap.size W0 W) (hq : W0.heap.size ≤ q) (hr : Row W q T (boolCells l)) (hn : l.length = n) (hcp : n ≤ cp) (hm : cp ≤ maxLen) : Calls Try.prog 17 #[.pointer (some ⟨g, 0, none⟩), .slice (some ⟨q, 0, none⟩) n cp] W (SysIs w (putE E c (some ⟨false, g, crS s l⟩)) (.tuple #[])) := by
 obtain ⟨h1, col, h2, h3, h4, h5⟩ := h
 have hc0 : c ≠ 0 := fun e => by rw [e, h3] at hx; cases hx
 have hc9 : c ≠ 9 := fun e => by rw [e, h4] at hx; cases hx
 have hs1 := h1.size
 have hlt := hr.lt
 have hd : DAt (paint col W0.heap.size 9) c W g s := ((h5 c _ hx : DAt col c W0 g s).re (fun k hk => paint_lt hk)).go b
 have hsl : SlbC (paint col W0.heap.size 9) c W (.slice (some ⟨q, 0, none⟩) n cp) l := ⟨some ⟨q, 0, none⟩, cp, by rw [hn], by omega, hm, fun _ => ⟨q, 0, rfl, hlt, by rw [paint_ge hq]; exact Ne.symm hc9, fun k hk => by rw [Nat.zero_add, hr.cell k]; simp [boolCells, hk]⟩⟩
 have hE : Ext col c W0 W (paint col W0.heap.size 9) := (Ext.of_below col c b).paint 9
 refine (Crash_any hd hc0 hl _ l hsl).mono ?_
 rintro e w' ⟨he, col', hE2, hy⟩
 have hE3 := hE.trans hE2
 refine ⟨he, h1.trans (hE3.below (fun k hk => by rw [h2 k hk]; exact Ne.symm hc9) hs1), col', fun k hk => by rw [hE3.hue k (by omega)]; exact h2 k hk, ?_, ?_, fun d z hz => ?_⟩
 ·rw [putE_ne E _ (Ne.symm hc0)]; exact h3
 ·rw [putE_ne E _ (Ne.symm hc9)]; exact h4
 ·by_cases hd' : d = c
  ·subst hd'
   rw [putE_same] at hz
   cases hz
   exact hy
  ·rw [putE_ne E _ hd'] at hz
   exact (h5 d z hz).ext hE3 hd' hc0
theorem sys_Sectors (h : Sys w W E) (hx : E c = some ⟨false, g, s⟩) : Calls Try.prog 30 #[.pointer (some ⟨g, 0, none⟩)] W (AnsIs W (.int .i64 (s.good.length : Int))) := by
 obtain ⟨_, hd, _⟩ := h.dat hx
 exact Sectors_any hd
theorem sys_On (h : Sys w W E) (hx : E c = some ⟨false, g, s⟩) : Calls Try.prog 32 #[.pointer (some ⟨g, 0, none⟩)] W (AnsIs W (.bool s.on)) := by
 obtain ⟨_, hd, _⟩ := h.dat hx
 exact On_any hd
theorem sys_Waits (h : Sys w W E) (hx : E c = some ⟨false, g, s⟩) : Calls Try.prog 31 #[.pointer (some ⟨g, 0, none⟩)] W (AnsIs W (.int .i64 (s.wait.length : Int))) := by
 obtain ⟨_, hd, _⟩ := h.dat hx
 exact Waits_any hd
theorem sys_Ops (h : Sys w W E) (hx : E c = some ⟨false, g, s⟩) : Calls Try.prog 33 #[.pointer (some ⟨g, 0, none⟩)] W (AnsIs W (.int .i64 s.done)) := by
 obtain ⟨_, hd, _⟩ := h.dat hx
 exact Ops_any hd
theorem sys_Image (h : Sys w W E) (hx : E c = some ⟨false, g, s⟩) : Calls Try.prog 19 #[.pointer (some ⟨g, 0, none⟩)] W (OwnIs W s.good.flatten) := by
 obtain ⟨_, hd, _⟩ := h.dat hx
 exact Image_any hd
theorem sys_Read (h : Sys w W E) (hx : E c = some ⟨false, g, s⟩) (hl : s.wait.length ≤ 1000000) (i : Int) : Calls Try.prog 24 #[.pointer (some ⟨g, 0, none⟩), .int .i64 i] W (RdIs W (rdB s i) (rdE s i)) := by
 obtain ⟨_, hd, _⟩ := h.dat hx
 exact Read_any hd hl i
/-- a new disk: where it lies, and the disks behind it -/
def SysNew (w W : World) (E : Nat → Option Ent) (c : Nat) (s : DS) (f : Value → Value) (e : Ending) (w' : World) : Prop := ∃ g, e = .returned (f (.pointer (some ⟨g, 0, none⟩))) ∧ Sys w w' (putE E c (some ⟨false, g, s⟩)) ∧ Below W.heap.size W w' ∧ W.heap.size ≤ g
theorem sys_New (h : Sys w W E) (hx : E c = none) (hc0 : c ≠ 0) (hc9 : c ≠ 9) (n : Nat) (h8 : 8 ≤ n) (hm : n ≤ 2048) : Calls Try.prog 10 #[.int .i64 (n : Int)] W (SysNew w W E c (newS (secs (List.replicate (256 * n) 0) n)) fun p => .tuple #[p, .int .i64 0]) := by
 obtain ⟨h1, col, h2, h3, h4, h5⟩ := h
 have hn := New_any col c (n : Int) W
 unfold MkIs at hn
 rw [show decide ((n : Int) < 8 ∨ 2048 < (n : Int)) = false from by simp; omega] at hn
 simp only [Bool.false_eq_true, ↓reduceIte, Int.toNat_natCast] at hn
 refine hn.mono ?_
 rintro e w' ⟨g, he, hg, hb, hd⟩
 have hs := h1.size
 refine ⟨g, he, ⟨Below.chain h1 hb, paint col W.heap.size c, fun k hk => by rw [paint_lt (by omega)]; exact h2 k hk, ?_, ?_, fun d z hz => ?_⟩, hb, hg⟩
 ·rw [putE_ne E _ (Ne.symm hc0)]; exact h3
 ·rw [putE_ne E _ (Ne.symm hc9)]; exact h4
 ·by_cases hd' : d = c
  ·subst hd'
   rw [putE_same] at hz
   cases hz
   exact hd
  ·rw [putE_ne E _ hd'] at hz
   exact (h5 d z hz).ext ((Ext.of_below col c hb).paint c) hd' hc0
theorem sys_Clone {c2 : Nat} (h : Sys w W E) (hx : E c = some ⟨false, g, s⟩) (hl : s.wait.length ≤ 1000000) (hx2 : E c2 = none) (hc0 : c2 ≠ 0) (hc9 : c2 ≠ 9) : Calls Try.prog 16 #[.pointer (some ⟨g, 0, none⟩)] W (SysNew w W E c2 s fun p => p) := by
 obtain ⟨h1, col, h2, h3, h4, h5⟩ := h
 refine (Clone_any (h5 c _ hx : DAt col c W g s) hl c2 hc0).mono ?_
 rintro e w' ⟨g', he, hg, hb, hd⟩
 have hs := h1.size
 refine ⟨g', he, ⟨Below.chain h1 hb, paint col W.heap.size c2, fun k hk => by rw [paint_lt (by omega)]; exact h2 k hk, ?_, ?_, fun d z hz => ?_⟩, hb, hg⟩
 ·rw [putE_ne E _ (Ne.symm hc0)]; exact h3
 ·rw [putE_ne E _ (Ne.symm hc9)]; exact h4
 ·by_cases hd' : d = c2
  ·subst hd'
   rw [putE_same] at hz
   cases hz
   exact hd
  ·rw [putE_ne E _ hd'] at hz
   exact (h5 d z hz).ext ((Ext.of_below col c2 hb).paint c2) hd' hc0
end
end Go.Proofs.Ytpajdmbajopofaa
