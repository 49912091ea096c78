/-
 CALLS on the document's disk beside others.
-/
import Derived.Test.YtpajdmbajopofaaRe9
namespace Go.Proofs.Ytpajdmbajopofaa
open Go.RowKit
set_option maxRecDepth 100000
section
variable {w W : World} {E : Nat → Option Ent} {c g : Nat} {s : DS}
theorem sys_rWrite (h : Sys w W E) (hx : E c = some ⟨true, g, s⟩) (hl : s.wait.length ≤ 1000000) (i : Int) (B : Nat) (v : Value) (b : List UInt8) (hs : Sl W B v b) (hB : B ≤ W.heap.size) : Calls Try.prog 38 #[.pointer (some ⟨g, 0, none⟩), .int .i64 i, v] W (SysIs w (putE E c (some ⟨true, g, wrS s i b⟩)) (.int .i64 (wrE s i b.length))) :=
 h.run hx fun _ hc _ hd => rWrite_any hd hc hl i B v b hs hB
theorem sys_rSync (h : Sys w W E) (hx : E c = some ⟨true, g, s⟩) (hl : s.wait.length ≤ 1000000) : Calls Try.prog 39 #[.pointer (some ⟨g, 0, none⟩)] W (SysIs w (putE E c (some ⟨true, g, syS s⟩)) (.int .i64 (syE s))) :=
 h.run hx fun col hc _ hd => (rSync_any hd hc hl).mono fun _ _ hp => ⟨hp.1, col, hp.2.1, hp.2.2⟩
theorem sys_rCrash (h : Sys w W E) (hx : E c = some ⟨true, g, s⟩) (hl : s.wait.length ≤ 1000000) (v : Value) (l : List Bool) (hs : Slb W w.heap.size v l) : Calls Try.prog 41 #[.pointer (some ⟨g, 0, none⟩), v] W (SysIs w (putE E c (some ⟨true, g, crS s l⟩)) (.tuple #[])) :=
 h.run hx fun col hc hn hd => (rCrash_any hd hc hl v l (SlbC.of_slb hs h.bel.size hn)).mono fun _ _ hp => ⟨hp.1, col, hp.2.1, hp.2.2⟩
/-- the fuse of the document's disk is taken away by the law itself -/
theorem Sys.rcalm (h : Sys w W E) (hx : E c = some ⟨true, g, s⟩) : Sys w (W.setCell ⟨g, 3, none⟩ (.int .i64 (-1))) (putE E c (some ⟨true, g, caS s⟩)) ∧ W.frozen? ⟨g, 3, none⟩ = false ∧ (∃ f, W.cell? ⟨g, 3, none⟩ = some (.int .i64 f)) := by
 obtain ⟨col, hr, hc, _⟩ := h.rat hx
 refine ⟨h.turn hx fun col hd => ?_, hr.free 3, _, hr.cells.2.1⟩
 have hd' : RAt col c W g s := hd
 have := hd'.turn hc (but_set W g 3 (.int .i64 (-1))) s.on (-1) s.done (fun x y hr => hr.set_ 3 _) hd'.1.calm
 exact ⟨col, this.1, this.2⟩
end
end Go.Proofs.Ytpajdmbajopofaa
