import Derived.Test.YtbjpbeplpljieaaDoorZG
import Derived.Test.YtbjpbeplpljieaaDoorZJ
/-
 THE DEFERRED CLOSURES: an error that was raised becomes a result.
-/
namespace Go.Proofs.YtbjpbeplpljieaaDoor
open Go.RowKit
set_option maxRecDepth 100000
set_option maxHeartbeats 1000000 in
theorem caught_kg (g : Nat) (x er : Int) (older : List PanicEntry) (w : World) (hr : Row w g 24 [.int .i64 x]) : CallsD Tryd.prog 18 #[.pointer (some ⟨g, 0, none⟩)] (.panicking (raisedV er :: older)) w fun e u' w' =>
  e = .returned (.tuple #[]) ∧ u' = .panicking ({ raisedV er with recovered := true } :: older) ∧ w' = w.setCell ⟨g, 0, none⟩ (.int .i64 er) := by
 have hc : w.cell? ⟨g, 0, none⟩ = some (.int .i64 x) := hr.cell 0
 have hz := hr.free 0
 unfold raisedV
 refine callsD_of_wpS Tryd.func18 rfl fun c₀ cs hu => ?_
 apply wpS_region
 simp [wpOpsS, go_sem, recoverD, hu, Tryd.ntmps18]
 refine (raised_some er w).mono ?_
 rintro e w1 ⟨rfl, rfl⟩
 simp [go_sem, hc, hz, bodyPostS, results, Tryd.results18]
theorem idle_kg (g : Nat) (x : Int) (w : World) (hr : Row w g 24 [.int .i64 x]) : CallsD Tryd.prog 18 #[.pointer (some ⟨g, 0, none⟩)] .returning w fun e u' w' =>
  e = .returned (.tuple #[]) ∧ u' = .returning ∧ w' = w.setCell ⟨g, 0, none⟩ (.int .i64 0) := by
 have hc : w.cell? ⟨g, 0, none⟩ = some (.int .i64 x) := hr.cell 0
 have hz := hr.free 0
 refine callsD_of_wpS Tryd.func18 rfl fun c₀ cs hu => ?_
 apply wpS_region
 simp [wpOpsS, go_sem, recoverD, hu, Tryd.ntmps18]
 refine (raised_nil w).mono ?_
 rintro e w1 ⟨rfl, rfl⟩
 simp [go_sem, hc, hz, bodyPostS, results, Tryd.results18]
 cases c₀
 simp_all
set_option maxHeartbeats 1000000 in
theorem caught_en (g : Nat) (x er : Int) (older : List PanicEntry) (w : World) (hr : Row w g 24 [.int .i64 x]) : CallsD Tryd.prog 23 #[.pointer (some ⟨g, 0, none⟩)] (.panicking (raisedV er :: older)) w fun e u' w' =>
  e = .returned (.tuple #[]) ∧ u' = .panicking ({ raisedV er with recovered := true } :: older) ∧ w' = w.setCell ⟨g, 0, none⟩ (.int .i64 er) := by
 have hc : w.cell? ⟨g, 0, none⟩ = some (.int .i64 x) := hr.cell 0
 have hz := hr.free 0
 unfold raisedV
 refine callsD_of_wpS Tryd.func23 rfl fun c₀ cs hu => ?_
 apply wpS_region
 simp [wpOpsS, go_sem, recoverD, hu, Tryd.ntmps23]
 refine (raised_some er w).mono ?_
 rintro e w1 ⟨rfl, rfl⟩
 simp [go_sem, hc, hz, bodyPostS, results, Tryd.results23]
theorem idle_en (g : Nat) (x : Int) (w : World) (hr : Row w g 24 [.int .i64 x]) : CallsD Tryd.prog 23 #[.pointer (some ⟨g, 0, none⟩)] .returning w fun e u' w' =>
  e = .returned (.tuple #[]) ∧ u' = .returning ∧ w' = w.setCell ⟨g, 0, none⟩ (.int .i64 0) := by
 have hc : w.cell? ⟨g, 0, none⟩ = some (.int .i64 x) := hr.cell 0
 have hz := hr.free 0
 refine callsD_of_wpS Tryd.func23 rfl fun c₀ cs hu => ?_
 apply wpS_region
 simp [wpOpsS, go_sem, recoverD, hu, Tryd.ntmps23]
 refine (raised_nil w).mono ?_
 rintro e w1 ⟨rfl, rfl⟩
 simp [go_sem, hc, hz, bodyPostS, results, Tryd.results23]
 cases c₀
 simp_all
set_option maxHeartbeats 1000000 in
theorem caught_de (g : Nat) (x er : Int) (older : List PanicEntry) (w : World) (hr : Row w g 24 [.int .i64 x]) : CallsD Tryd.prog 27 #[.pointer (some ⟨g, 0, none⟩)] (.panicking (raisedV er :: older)) w fun e u' w' =>
  e = .returned (.tuple #[]) ∧ u' = .panicking ({ raisedV er with recovered := true } :: older) ∧ w' = w.setCell ⟨g, 0, none⟩ (.int .i64 er) := by
 have hc : w.cell? ⟨g, 0, none⟩ = some (.int .i64 x) := hr.cell 0
 have hz := hr.free 0
 unfold raisedV
 refine callsD_of_wpS Tryd.func27 rfl fun c₀ cs hu => ?_
 apply wpS_region
 simp [wpOpsS, go_sem, recoverD, hu, Tryd.ntmps27]
 refine (raised_some er w).mono ?_
 rintro e w1 ⟨rfl, rfl⟩
 simp [go_sem, hc, hz, bodyPostS, results, Tryd.results27]
theorem idle_de (g : Nat) (x : Int) (w : World) (hr : Row w g 24 [.int .i64 x]) : CallsD Tryd.prog 27 #[.pointer (some ⟨g, 0, none⟩)] .returning w fun e u' w' =>
  e = .returned (.tuple #[]) ∧ u' = .returning ∧ w' = w.setCell ⟨g, 0, none⟩ (.int .i64 0) := by
 have hc : w.cell? ⟨g, 0, none⟩ = some (.int .i64 x) := hr.cell 0
 have hz := hr.free 0
 refine callsD_of_wpS Tryd.func27 rfl fun c₀ cs hu => ?_
 apply wpS_region
 simp [wpOpsS, go_sem, recoverD, hu, Tryd.ntmps27]
 refine (raised_nil w).mono ?_
 rintro e w1 ⟨rfl, rfl⟩
 simp [go_sem, hc, hz, bodyPostS, results, Tryd.results27]
 cases c₀
 simp_all
set_option maxHeartbeats 1000000 in
theorem caught_pd (g : Nat) (x er : Int) (older : List PanicEntry) (w : World) (hr : Row w g 24 [.int .i64 x]) : CallsD Tryd.prog 35 #[.pointer (some ⟨g, 0, none⟩)] (.panicking (raisedV er :: older)) w fun e u' w' =>
  e = .returned (.tuple #[]) ∧ u' = .panicking ({ raisedV er with recovered := true } :: older) ∧ w' = w.setCell ⟨g, 0, none⟩ (.int .i64 er) := by
 have hc : w.cell? ⟨g, 0, none⟩ = some (.int .i64 x) := hr.cell 0
 have hz := hr.free 0
 unfold raisedV
 refine callsD_of_wpS Tryd.func35 rfl fun c₀ cs hu => ?_
 apply wpS_region
 simp [wpOpsS, go_sem, recoverD, hu, Tryd.ntmps35]
 refine (raised_some er w).mono ?_
 rintro e w1 ⟨rfl, rfl⟩
 simp [go_sem, hc, hz, bodyPostS, results, Tryd.results35]
theorem idle_pd (g : Nat) (x : Int) (w : World) (hr : Row w g 24 [.int .i64 x]) : CallsD Tryd.prog 35 #[.pointer (some ⟨g, 0, none⟩)] .returning w fun e u' w' =>
  e = .returned (.tuple #[]) ∧ u' = .returning ∧ w' = w.setCell ⟨g, 0, none⟩ (.int .i64 0) := by
 have hc : w.cell? ⟨g, 0, none⟩ = some (.int .i64 x) := hr.cell 0
 have hz := hr.free 0
 refine callsD_of_wpS Tryd.func35 rfl fun c₀ cs hu => ?_
 apply wpS_region
 simp [wpOpsS, go_sem, recoverD, hu, Tryd.ntmps35]
 refine (raised_nil w).mono ?_
 rintro e w1 ⟨rfl, rfl⟩
 simp [go_sem, hc, hz, bodyPostS, results, Tryd.results35]
 cases c₀
 simp_all
set_option maxHeartbeats 1000000 in
theorem caught_ce (g : Nat) (x er : Int) (older : List PanicEntry) (w : World) (hr : Row w g 24 [.int .i64 x]) : CallsD Tryd.prog 37 #[.pointer (some ⟨g, 0, none⟩)] (.panicking (raisedV er :: older)) w fun e u' w' =>
  e = .returned (.tuple #[]) ∧ u' = .panicking ({ raisedV er with recovered := true } :: older) ∧ w' = w.setCell ⟨g, 0, none⟩ (.int .i64 er) := by
 have hc : w.cell? ⟨g, 0, none⟩ = some (.int .i64 x) := hr.cell 0
 have hz := hr.free 0
 unfold raisedV
 refine callsD_of_wpS Tryd.func37 rfl fun c₀ cs hu => ?_
 apply wpS_region
 simp [wpOpsS, go_sem, recoverD, hu, Tryd.ntmps37]
 refine (raised_some er w).mono ?_
 rintro e w1 ⟨rfl, rfl⟩
 simp [go_sem, hc, hz, bodyPostS, results, Tryd.results37]
theorem idle_ce (g : Nat) (x : Int) (w : World) (hr : Row w g 24 [.int .i64 x]) : CallsD Tryd.prog 37 #[.pointer (some ⟨g, 0, none⟩)] .returning w fun e u' w' =>
  e = .returned (.tuple #[]) ∧ u' = .returning ∧ w' = w.setCell ⟨g, 0, none⟩ (.int .i64 0) := by
 have hc : w.cell? ⟨g, 0, none⟩ = some (.int .i64 x) := hr.cell 0
 have hz := hr.free 0
 refine callsD_of_wpS Tryd.func37 rfl fun c₀ cs hu => ?_
 apply wpS_region
 simp [wpOpsS, go_sem, recoverD, hu, Tryd.ntmps37]
 refine (raised_nil w).mono ?_
 rintro e w1 ⟨rfl, rfl⟩
 simp [go_sem, hc, hz, bodyPostS, results, Tryd.results37]
 cases c₀
 simp_all
set_option maxHeartbeats 1000000 in
theorem caught_cd (g : Nat) (x er : Int) (older : List PanicEntry) (w : World) (hr : Row w g 24 [.int .i64 x]) : CallsD Tryd.prog 38 #[.pointer (some ⟨g, 0, none⟩)] (.panicking (raisedV er :: older)) w fun e u' w' =>
  e = .returned (.tuple #[]) ∧ u' = .panicking ({ raisedV er with recovered := true } :: older) ∧ w' = w.setCell ⟨g, 0, none⟩ (.int .i64 er) := by
 have hc : w.cell? ⟨g, 0, none⟩ = some (.int .i64 x) := hr.cell 0
 have hz := hr.free 0
 unfold raisedV
 refine callsD_of_wpS Tryd.func38 rfl fun c₀ cs hu => ?_
 apply wpS_region
 simp [wpOpsS, go_sem, recoverD, hu, Tryd.ntmps38]
 refine (raised_some er w).mono ?_
 rintro e w1 ⟨rfl, rfl⟩
 simp [go_sem, hc, hz, bodyPostS, results, Tryd.results38]
theorem idle_cd (g : Nat) (x : Int) (w : World) (hr : Row w g 24 [.int .i64 x]) : CallsD Tryd.prog 38 #[.pointer (some ⟨g, 0, none⟩)] .returning w fun e u' w' =>
  e = .returned (.tuple #[]) ∧ u' = .returning ∧ w' = w.setCell ⟨g, 0, none⟩ (.int .i64 0) := by
 have hc : w.cell? ⟨g, 0, none⟩ = some (.int .i64 x) := hr.cell 0
 have hz := hr.free 0
 refine callsD_of_wpS Tryd.func38 rfl fun c₀ cs hu => ?_
 apply wpS_region
 simp [wpOpsS, go_sem, recoverD, hu, Tryd.ntmps38]
 refine (raised_nil w).mono ?_
 rintro e w1 ⟨rfl, rfl⟩
 simp [go_sem, hc, hz, bodyPostS, results, Tryd.results38]
 cases c₀
 simp_all
end Go.Proofs.YtbjpbeplpljieaaDoor

/-
 THE EXPORTED FUNCTIONS: words at the door; CheckEk, CheckDk.
-/
namespace Go.Proofs.YtbjpbeplpljieaaDoor
open Go.RowKit
set_option maxRecDepth 100000
/-- a code is handed back, and what was in memory stays -/
def ErIs (w : World) (er : Int) (e : Ending) (w' : World) : Prop := e = .returned (.int .i64 er) ∧ Below w.heap.size w w'
theorem hmf (fn : Fn) (first cap : Array Value) (w : World) : (Instr.makeFunc fn first cap).run Tryd.prog w = .ok (.func fn first cap) w := rfl
/-- a code in a variable of its own -/
abbrev ErRow (w : World) (g : Nat) (er : Int) : Prop := Row w g 24 [.int .i64 er]
theorem load_er {w : World} {g : Nat} {er : Int} (h : ErRow w g er) : (loadVar 24 ⟨g, 0, none⟩).run Tryd.prog w = .ok (.int .i64 er) w := by
 have h1 : w.cell? ⟨g, 0, none⟩ = some (.int .i64 er) := h.cell 0
 go_simp
theorem set_er {w : World} {g : Nat} {x : Int} (h : ErRow w g x) (er : Int) : ErRow (w.setCell ⟨g, 0, none⟩ (.int .i64 er)) g er := h.set_ 0 _
theorem results_er {P : Program} {fn : Func} {p : Tmp} {tp : TypeId} (h : fn.results = #[.cell p tp]) (tmps : Array Value) (w : World) (a : Addr) (va : Value) (hp : tmps.getD p undef = .pointer (some a)) (ha : (loadVar tp a).run P w = .ok va w) : (results fn tmps).run P w = .ok va w := by
 simp only [results, h]
 simp only [Array.getD_eq_getD_getElem?] at hp
 simp [hp, ha, asAddr]
set_option maxHeartbeats 2000000 in
theorem CheckEk_any (ek : List UInt8) (hl : ek.length = 1184) (B : Nat) (v : Value) (w : World) (hs : Sl w B v ek) (hB : B ≤ w.heap.size) : Calls Tryd.prog 16 #[v] w (ErIs w (if canK (ek.take 1152) 3 = true then 0 else 140)) := by
 unfold ErIs
 have hmf := hmf
 obtain ⟨er, her⟩ : ∃ er, Shh (er = if canK (ek.take 1152) 3 = true then (0 : Int) else 140) := ⟨_, ⟨rfl⟩⟩
 rw [← her.out]
 have HM : Shh (∀ W, Sl W B v ek → B ≤ W.heap.size → Calls Tryd.prog 24 #[v] W (OrEr (canK (ek.take 1152) 3 = true) W 140 (DoneIs W))) := ⟨fun W hs hB => mustEk_any ek hl B v W hs hB⟩
 generalize hN : w.heap.size = N at *
 have HW : Shh (ErRow (w.alloc (.cells #[.int .i64 0] 24)) N 0 ∧ Below N w (w.alloc (.cells #[.int .i64 0] 24)) ∧ Sl (w.alloc (.cells #[.int .i64 0] 24)) B v ek ∧ B ≤ (w.alloc (.cells #[.int .i64 0] 24)).heap.size) := by
  refine ⟨Row.new_ hN.symm rfl, ?_, hs.below ((bel1 _ _).mono (by omega)), by rw [asz]; omega⟩
  rw [← hN]
  exact bel1 _ _
 obtain ⟨A, c, rfl, _, _⟩ := hs.form
 clear hs hB hl
 go_enter_defers Tryd.func16, Tryd.ntmps16
 go_wp2_with (go_at_call 24; refine (HM.out _ HW.out.2.2.1 HW.out.2.2.2).mono ?_)
 rintro e w2 ⟨h1, h2⟩
 by_cases hok : canK (ek.take 1152) 3 = true
 ·obtain ⟨rfl, b2⟩ := h1 hok
  have HI : Shh (ErRow w2 N 0 ∧ Below N w w2) := ⟨HW.out.1.go b2, HW.out.2.1.trans (b2.mono (by have := HW.out.1.lt; omega))⟩
  have HE : Shh (er = 0) := ⟨by rw [her.out, if_pos hok]⟩
  clear b2 HW HM h1 h2 hok her
  have hc : w2.cell? ⟨N, 0, none⟩ = some (.int .i64 0) := HI.out.1.cell 0
  have hz := HI.out.1.free 0
  go_wp2
  refine leaves_cons (f := 37) (args := #[.pointer (some ⟨N, 0, none⟩)]) (by simp) (by simp [go_sem]) ?_
  refine (idle_ce N 0 _ (set_er HI.out.1 0)).mono ?_
  rintro e u' w'' ⟨rfl, rfl, rfl⟩
  refine ⟨.int .i64 er, results_er Tryd.results16 _ _ ⟨N, 0, none⟩ _ rfl (by rw [HE.out]; exact load_er (set_er (set_er HI.out.1 0) 0)), rfl, ?_⟩
  exact (HI.out.2.setCell (p := ⟨N, 0, none⟩) (Nat.le_refl _) _).setCell (p := ⟨N, 0, none⟩) (Nat.le_refl _) _
 ·obtain ⟨rfl, b2⟩ := h2 hok
  have HI : Shh (ErRow w2 N 0 ∧ Below N w w2) := ⟨HW.out.1.go b2, HW.out.2.1.trans (b2.mono (by have := HW.out.1.lt; omega))⟩
  have HE : Shh (er = 140) := ⟨by rw [her.out, if_neg hok]⟩
  clear b2 HW HM h1 h2 hok her
  go_wp2
  refine leaves_cons (f := 37) (args := #[.pointer (some ⟨N, 0, none⟩)]) (by simp) (by simp [go_sem]) ?_
  refine (caught_ce N 0 140 [] _ HI.out.1).mono ?_
  rintro e u' w'' ⟨rfl, rfl, rfl⟩
  refine ⟨.int .i64 er, results_er Tryd.results16 _ _ ⟨N, 0, none⟩ _ rfl (by rw [HE.out]; exact load_er (set_er HI.out.1 140)), rfl, ?_⟩
  exact HI.out.2.setCell (p := ⟨N, 0, none⟩) (Nat.le_refl _) _
end Go.Proofs.YtbjpbeplpljieaaDoor

/-
 THE EXPORTED FUNCTIONS: CheckDk, PkeDecrypt.
-/
namespace Go.Proofs.YtbjpbeplpljieaaDoor
open Go.RowKit
set_option maxRecDepth 100000
section
variable {ops : Array Oper} {rest : List Oper} {o o1 : Oper} {a : Act} {w : World} {Q : Exit → Act → World → Prop} {x y : Operand} {op : Oper}
/-- a new variable for a code -/
theorem wl_zeroE (d : Nat) (hg1 : o1.guard = none) (hd : o1.dst = some d) (h1 : o1.op = .alloc 24)
 (h : ∀ g w2, Shh (g = w.heap.size) → ErRow w2 g 0 → Below w.heap.size w w2 → wpList Tryd.prog ops Q rest (a.put (some d) (.pointer (some ⟨g, 0, none⟩))) w2) : wpList Tryd.prog ops Q (o1 :: rest) a w := by
 refine wl_valueW (.pointer (some ⟨w.heap.size, 0, none⟩)) (w.alloc (.cells #[.int .i64 0] 24)) hg1 ?_ ?_
 ·unfold execOp
  simp only [h1]
  go_simp
 ·rw [hd]
  exact h _ _ ⟨rfl⟩ (Row.new_ rfl rfl) (bel1 w _)
/-- a code is laid into its variable -/
theorem wl_storeEr {g : Nat} {x0 er : Int} (hgd : o.guard = none) (hd : o.dst = none) (ho : o.op = .store 24 x y) (hx : a.eval x = .pointer (some ⟨g, 0, none⟩)) (hy : a.eval y = .int .i64 er) (hr : ErRow w g x0)
 (h : ∀ w2, ErRow w2 g er → But w.heap.size g w w2 → w2.heap.size = w.heap.size → wpList Tryd.prog ops Q rest a w2) : wpList Tryd.prog ops Q (o :: rest) a w := by
 have hc : w.cell? ⟨g, 0, none⟩ = some (.int .i64 x0) := hr.cell 0
 have hf := hr.free 0
 refine wpList_plain hgd fun K hK => ?_
 unfold Oper.wp
 rw [show (execOp a.eval o).run Tryd.prog w = .ok .skip (w.setCell ⟨g, 0, none⟩ (.int .i64 er)) from by
  unfold execOp
  simp only [ho, hx, hy]
  go_simp]
 refine hK _ _ ?_
 rw [hd]
 exact h _ (set_er hr er) ((But.refl _ _ _).setCell _ _) (by simp [World.setCell])
end
theorem results_cc {P : Program} {fn : Func} {p q : Tmp} {tp tq : TypeId} (h : fn.results = #[.cell p tp, .cell q tq]) (tmps : Array Value) (w : World) (a b : Addr) (va vb : Value) (hp : tmps.getD p undef = .pointer (some a)) (hq : tmps.getD q undef = .pointer (some b)) (ha : (loadVar tp a).run P w = .ok va w) (hb : (loadVar tq b).run P w = .ok vb w) : (results fn tmps).run P w = .ok (.tuple #[va, vb]) w := by
 simp only [results, h]
 simp only [Array.getD_eq_getD_getElem?] at hp hq
 simp [Sem.run_bind, Result.andThen, hp, hq, ha, hb, asAddr]
theorem load_a32 {w : World} {g : Nat} {T : TypeId} {m : List UInt8} (hm : m.length = 32) (h : Row w g T (Lib.byteCells m)) : (loadVar 22 ⟨g, 0, none⟩).run Tryd.prog w = .ok (.agg (Lib.byteCells m).toArray) w :=
 run_loadVar_row w g T 22 _ (0, 0) _ h Tryd.underlying22 rfl (by have := size_a32 hm; simpa using this)
/-- an array and a code are handed back -/
def ArrErIs (w : World) (m : List UInt8) (er : Int) (e : Ending) (w' : World) : Prop := e = .returned (.tuple #[.agg (Lib.byteCells m).toArray, .int .i64 er]) ∧ Below w.heap.size w w'
set_option maxHeartbeats 2000000 in
theorem CheckDk_ok (dk : List UInt8) (hl : dk.length = 2400) (hh : dkH dk = hB (dkEk dk)) (B : Nat) (v : Value) (w : World) (hs : Sl w B v dk) (hBB : B ≤ w.heap.size) (hv : KVars w) : Calls Tryd.prog 17 #[v] w (ErIs w 0) := by
 unfold ErIs
 have hmf := hmf
 have HM : Shh (∀ W, Sl W B v dk → B ≤ W.heap.size → KVars W → Calls Tryd.prog 28 #[v] W (OrEr True W 141 (DoneIs W))) := ⟨fun W hs hB hv => (mustDk_any dk hl B v W hs hB hv).mono fun e w' h => ⟨fun _ => h.1 hh, fun h2 => absurd trivial h2⟩⟩
 generalize hN : w.heap.size = N at *
 have HW : Shh (ErRow (w.alloc (.cells #[.int .i64 0] 24)) N 0 ∧ Below N w (w.alloc (.cells #[.int .i64 0] 24)) ∧ Sl (w.alloc (.cells #[.int .i64 0] 24)) B v dk ∧ B ≤ (w.alloc (.cells #[.int .i64 0] 24)).heap.size ∧ KVars (w.alloc (.cells #[.int .i64 0] 24))) := by
  refine ⟨Row.new_ hN.symm rfl, ?_, hs.below ((bel1 _ _).mono (by omega)), by rw [asz]; omega, hv.step (bel1 _ _)⟩
  rw [← hN]
  exact bel1 _ _
 obtain ⟨A, c, rfl, _, _⟩ := hs.form
 clear hs hBB hl hh hv
 go_enter_defers Tryd.func17, Tryd.ntmps17
 go_wp2_with (go_at_call 28; refine (HM.out _ HW.out.2.2.1 HW.out.2.2.2.1 HW.out.2.2.2.2).mono ?_)
 rintro e w2 ⟨h1, h2⟩
 obtain ⟨rfl, b2⟩ := h1 trivial
 have HI : Shh (ErRow w2 N 0 ∧ Below N w w2) := ⟨HW.out.1.go b2, HW.out.2.1.trans (b2.mono (by have := HW.out.1.lt; omega))⟩
 clear b2 HW HM h1 h2
 go_wp2_with (refine wl_storeEr rfl rfl rfl rfl rfl HI.out.1 ?_)
 intro w3 r3 b3 _
 have HJ : Shh (ErRow w3 N 0 ∧ Below N w w3) := ⟨r3, HI.out.2.trans (b3.under (Nat.le_of_lt HI.out.1.lt) (Nat.le_refl _))⟩
 clear r3 b3 HI
 go_wp2
 refine leaves_cons (f := 38) (args := #[.pointer (some ⟨N, 0, none⟩)]) (by simp) (by simp [go_sem]) ?_
 refine (idle_cd N 0 _ HJ.out.1).mono ?_
 rintro e u' w'' ⟨rfl, rfl, rfl⟩
 exact ⟨_, results_er Tryd.results17 _ _ ⟨N, 0, none⟩ _ rfl (load_er (set_er HJ.out.1 0)), rfl, HJ.out.2.setCell (p := ⟨N, 0, none⟩) (Nat.le_refl _) _⟩
set_option maxHeartbeats 4000000 in
theorem PkeDecrypt_ok (dk : List UInt8) (hdk : dk.length = 1152) (ct : List UInt8) (hct : ct.length = 1088) (B B2 : Nat) (v v2 : Value) (w : World) (hs : Sl w B v dk) (hBB : B ≤ w.heap.size) (hs2 : Sl w B2 v2 ct) (hB2 : B2 ≤ w.heap.size) : Calls Tryd.prog 10 #[v, v2] w (ArrErIs w (decE dk ct) 0) := by
 unfold ArrErIs
 have hmf := hmf
 have HM : Shh (∀ W B B2, Sl W B v dk → B ≤ W.heap.size → Sl W B2 v2 ct → B2 ≤ W.heap.size → Calls Tryd.prog 30 #[v, v2] W (SumIs W (decE dk ct))) := ⟨fun W B B2 h1 h2 h3 h4 => decrypted_any dk hdk ct hct B B2 v v2 W h1 h2 h3 h4⟩
 have HL : Shh ((decE dk ct).length = 32) := ⟨decE_length dk ct⟩
 generalize decE dk ct = m at *
 have HLL : Shh ((dk.length : Int) = 1152 ∧ (ct.length : Int) = 1088) := ⟨by omega, by omega⟩
 generalize hN : w.heap.size = N at *
 have hN0 := Shh.mk hN
 have HS0 : Shh (Sl w N v dk ∧ Sl w N v2 ct) := ⟨hs.more hBB, hs2.more hB2⟩
 obtain ⟨A, c, rfl, _, _⟩ := hs.form
 obtain ⟨A2, c2, rfl, _, _⟩ := hs2.form
 clear hs hs2 hBB hB2 hdk hct hN
 go_enter_defers Tryd.func10, Tryd.ntmps10
 go_wp2_with (refine wl_zero32 4 rfl rfl rfl ?_)
 intro N1 w2 hN1 r2 b2
 simp only [Act.put, arr9, hd9, tl9]
 obtain rfl : N = N1 := hN0.out.symm.trans hN1.out.symm
 have HI : Shh (Sl w2 N (.slice A dk.length c) dk ∧ Sl w2 N (.slice A2 ct.length c2) ct ∧ Row w2 N 22 (Lib.byteCells z32) ∧ Below N w w2) := by
  rw [hN0.out] at b2
  exact ⟨HS0.out.1.below b2, HS0.out.2.below b2, r2, b2⟩
 clear r2 b2 hN1 HS0
 go_wp2_with (refine wl_zeroE 5 rfl rfl rfl ?_)
 intro G w3 hG r3 b3
 simp only [Act.put, arr9, hd9, tl9]
 have HJ : Shh (Sl w3 N (.slice A dk.length c) dk ∧ Sl w3 N (.slice A2 ct.length c2) ct ∧ Row w3 N 22 (Lib.byteCells z32) ∧ Below N w w3 ∧ ErRow w3 G 0 ∧ N < G) := by
  obtain ⟨h1, h2, h3, h4⟩ := HI.out
  have := h3.lt
  have := hG.out
  exact ⟨h1.below (b3.mono (by omega)), h2.below (b3.mono (by omega)), h3.go b3, h4.trans (b3.mono (by omega)), r3, by omega⟩
 clear r3 b3 hG HI
 go_wp2_with (first | refine wl_at 9 rfl (.bool true) rfl (eqi_yes (i := dk.length) HLL.out.1 rfl rfl) ?_ | (go_at_call 29; refine (demand_yes 141 w3).mono ?_))
 rintro e w4 ⟨rfl, rfl⟩
 go_wp2_with (first | refine wl_at 13 rfl (.bool true) rfl (eqi_yes (i := ct.length) HLL.out.2 rfl rfl) ?_ | (go_at_call 29; refine (demand_yes 142 w3).mono ?_))
 rintro e w4 ⟨rfl, rfl⟩
 go_wp2_with (go_at_call 30; refine (HM.out w3 N N HJ.out.1 (Nat.le_of_lt HJ.out.2.2.1.lt) HJ.out.2.1 (Nat.le_of_lt HJ.out.2.2.1.lt)).mono ?_)
 rintro e w4 ⟨rfl, b4⟩
 have HI : Shh (Row w4 N 22 (Lib.byteCells z32) ∧ Below N w w4 ∧ ErRow w4 G 0 ∧ N < G) := by
  obtain ⟨h1, h2, h3, h4, h5, h6⟩ := HJ.out
  exact ⟨h3.go b4, h4.trans (b4.mono (Nat.le_of_lt h3.lt)), h5.go b4, h6⟩
 clear b4 HJ HM
 go_wp2_with (refine wpList_store_any rfl 22 (.tmp 4) (.tmp 17) rfl N rfl (Lib.byteCells m) rfl 22 _ HI.out.1 (size_a32 HL.out) (by rw [Lib.byteCells_length, Lib.byteCells_length, HL.out, z32_length]) (cell_oneCell _) ?_)
 intro w5 r5 b5 _
 have HJ : Shh (Row w5 N 22 (Lib.byteCells m) ∧ Below N w w5 ∧ ErRow w5 G 0 ∧ N < G) := by
  obtain ⟨h3, h4, h5, h6⟩ := HI.out
  exact ⟨r5, h4.trans (b5.under (Nat.le_of_lt h3.lt) (Nat.le_refl _)), b5.row h5 h5.lt (by omega), h6⟩
 clear r5 b5 HI
 go_wp2_with (refine wl_storeEr rfl rfl rfl rfl rfl HJ.out.2.2.1 ?_)
 intro w6 r6 b6 _
 have HI : Shh (Row w6 N 22 (Lib.byteCells m) ∧ Below N w w6 ∧ ErRow w6 G 0 ∧ N < G) := by
  obtain ⟨h3, h4, h5, h6⟩ := HJ.out
  exact ⟨b6.row h3 h3.lt (by omega), h4.trans (b6.under (Nat.le_of_lt h3.lt) (Nat.le_of_lt h6)), r6, h6⟩
 clear r6 b6 HJ
 go_wp2
 refine leaves_cons (f := 35) (args := #[.pointer (some ⟨G, 0, none⟩)]) (by simp) (by simp [go_sem]) ?_
 refine (idle_pd G 0 _ HI.out.2.2.1).mono ?_
 rintro e u' w'' ⟨rfl, rfl, rfl⟩
 obtain ⟨h3, h4, h5, h6⟩ := HI.out
 exact ⟨_, results_cc Tryd.results10 _ _ ⟨N, 0, none⟩ ⟨G, 0, none⟩ _ _ rfl rfl (load_a32 HL.out (h3.other ⟨G, 0, none⟩ _ (by simp; omega))) (load_er (set_er h5 0)), rfl, h4.setCell (p := ⟨G, 0, none⟩) (Nat.le_of_lt h6) _⟩
end Go.Proofs.YtbjpbeplpljieaaDoor

/-
 DRAWN REGIONS in a function that defers: a slot that is no result may be written first.
-/
namespace Go.Proofs.YtbjpbeplpljieaaDoor
open Go.RowKit
set_option maxRecDepth 100000
section
variable {P : Program} {fn : Func} {R : Ending → World → Prop}
theorem leaves_tmps {t t' : Array Value} (h : results fn t = results fn t') : ∀ ds : List Deferred, Leaves P fn t R ds = Leaves P fn t' R ds
 | [] => by
  funext u w
  cases u <;> simp [Leaves, h]
 | d :: ds => by
  funext u w
  unfold Leaves
  rw [leaves_tmps h ds]
theorem panic_put {d : Nat} (hr : ∀ (v : Value) (t : Array Value), results fn (t.setIfInBounds d v) = results fn t) {c : List PanicEntry} {a : Act} {v : Value} {w : World} (h : bodyPostD P fn R (.panic c) (a.put (some d) v) w) : bodyPostD P fn R (.panic c) a w := by
 have e : Leaves P fn (a.tmps.setIfInBounds d v) R a.defers = Leaves P fn a.tmps R a.defers := leaves_tmps (hr v a.tmps) _
 have h2 : Leaves P fn (a.tmps.setIfInBounds d v) R a.defers (.panicking c) w := h
 rw [e] at h2
 exact h2
end
theorem put_kg {d : Nat} (hd : (d == 4 || d == 5 || d == 6) = false) (v : Value) (t : Array Value) : results Tryd.f6 (t.setIfInBounds d v) = results Tryd.f6 t := by
 simp only [Bool.or_eq_false_iff, beq_eq_false_iff_ne] at hd
 have e : ∀ i, d ≠ i → (t.setIfInBounds d v).getD i undef = t.getD i undef := fun i hi => by
  rw [Array.getD_eq_getD_getElem?, Array.getD_eq_getD_getElem?, Array.getElem?_setIfInBounds_ne hi]
 unfold results
 rw [Tryd.results6]
 simp only [List.mapM_cons, List.mapM_nil, Array.mapM_eq_mapM_toList, e 4 hd.1.1, e 5 hd.1.2, e 6 hd.2]
theorem put_en {d : Nat} (hd : (d == 4 || d == 5 || d == 6) = false) (v : Value) (t : Array Value) : results Tryd.f8 (t.setIfInBounds d v) = results Tryd.f8 t := by
 simp only [Bool.or_eq_false_iff, beq_eq_false_iff_ne] at hd
 have e : ∀ i, d ≠ i → (t.setIfInBounds d v).getD i undef = t.getD i undef := fun i hi => by
  rw [Array.getD_eq_getD_getElem?, Array.getD_eq_getD_getElem?, Array.getElem?_setIfInBounds_ne hi]
 unfold results
 rw [Tryd.results8]
 simp only [List.mapM_cons, List.mapM_nil, Array.mapM_eq_mapM_toList, e 4 hd.1.1, e 5 hd.1.2, e 6 hd.2]
theorem put_de {d : Nat} (hd : (d == 4 || d == 5) = false) (v : Value) (t : Array Value) : results Tryd.f9 (t.setIfInBounds d v) = results Tryd.f9 t := by
 simp only [Bool.or_eq_false_iff, beq_eq_false_iff_ne] at hd
 have e : ∀ i, d ≠ i → (t.setIfInBounds d v).getD i undef = t.getD i undef := fun i hi => by
  rw [Array.getD_eq_getD_getElem?, Array.getD_eq_getD_getElem?, Array.getElem?_setIfInBounds_ne hi]
 unfold results
 rw [Tryd.results9]
 simp only [List.mapM_cons, List.mapM_nil, Array.mapM_eq_mapM_toList, e 4 hd.1, e 5 hd.2]
end Go.Proofs.YtbjpbeplpljieaaDoor

/-
 THE EXPORTED FUNCTIONS: KeyGen.
-/
namespace Go.Proofs.YtbjpbeplpljieaaDoor
open Go.RowKit
set_option maxRecDepth 100000
theorem parts_four {w : World} {u u2 u3 u4 : Value} {bs bs2 bs3 bs4 : List UInt8} {T : TypeId} {n g : Nat} (hg : g = w.heap.size) (h1 : Sl w g u bs) (h2 : Sl w g u2 bs2) (h3 : Sl w g u3 bs3) (h4 : Sl w g u4 bs4) : PartsO (w.alloc (.cells #[u, u2, u3, u4] T)) (g + 1) (g + 1) (.slice (some ⟨g, 0, none⟩) 4 n) [bs, bs2, bs3, bs4] := by
 subst hg
 have e1 := (h1.below (bel1 w (.cells #[u, u2, u3, u4] T))).more (Nat.le_succ w.heap.size)
 have e2 := (h2.below (bel1 w (.cells #[u, u2, u3, u4] T))).more (Nat.le_succ w.heap.size)
 have e3 := (h3.below (bel1 w (.cells #[u, u2, u3, u4] T))).more (Nat.le_succ w.heap.size)
 have e4 := (h4.below (bel1 w (.cells #[u, u2, u3, u4] T))).more (Nat.le_succ w.heap.size)
 have hr : Row (w.alloc (.cells #[u, u2, u3, u4] T)) w.heap.size T [u, u2, u3, u4] := Row.new_ rfl rfl
 exact ⟨_, n, rfl, fun _ => ⟨w.heap.size, 0, rfl, Nat.lt_succ_self _, by omega, fun i hi => by
  match i, hi with
  | 0, _ => exact ⟨u, hr.cell 0, e1, e1.off (Nat.le_refl _)⟩
  | 1, _ => exact ⟨u2, hr.cell 1, e2, e2.off (Nat.le_refl _)⟩
  | 2, _ => exact ⟨u3, hr.cell 2, e3, e3.off (Nat.le_refl _)⟩
  | 3, _ => exact ⟨u4, hr.cell 3, e4, e4.off (Nat.le_refl _)⟩⟩⟩
theorem results_ttc {P : Program} {fn : Func} {p q r : Tmp} {tr : TypeId} (h : fn.results = #[.tmp p, .tmp q, .cell r tr]) (tmps : Array Value) (w : World) (a : Addr) (vp vq vr : Value) (hp : tmps.getD p undef = vp) (hq : tmps.getD q undef = vq) (hr : tmps.getD r undef = .pointer (some a)) (ha : (loadVar tr a).run P w = .ok vr w) : (results fn tmps).run P w = .ok (.tuple #[vp, vq, vr]) w := by
 simp only [results, h]
 simp only [Array.getD_eq_getD_getElem?] at hp hq hr
 simp [Result.andThen, hp, hq, hr, ha, asAddr]
theorem own_but2 {w w' : World} {base e n g : Nat} {v : Value} {xs : List Value} (h : w.ownsRow base e 1 v n xs) (hb : But w.heap.size g w w') (hg : ∀ k, v.ownBlock = some k → ¬ k = g) : w'.ownsRow base e 1 v n xs := by
 obtain ⟨h1, h2⟩ := h
 refine ⟨h1, ?_⟩
 rcases h2 with h2 | ⟨q, cap, cur, rfl, h3, h4, h5⟩
 ·exact .inl h2
 ·exact .inr ⟨q, cap, cur, rfl, h3, (hb.block q (Array.getElem?_eq_some_iff.1 h4).1 (hg q rfl)).trans h4, h5⟩
/-- bytes of one's own do not lie in a row of another type -/
theorem own_apart {w : World} {base e n q c g : Nat} {xs : List Value} {T : TypeId} {cs : List Value} (h : w.ownsRow base e 1 (.slice (some ⟨q, 0, none⟩) n c) n xs) (hn : 0 < n) (hr : Row w g T cs) (hT : (e == T) = false) (hq : q = g) : False := by
 subst hq
 rcases h.2 with ⟨_, h0⟩ | ⟨g', cap, cur, he, _, h4, _⟩
 ·omega
 ·cases he
  have h5 := h4.symm.trans hr
  injection h5 with h5
  injection h5 with _ h6 _
  rw [h6] at hT
  simp at hT
section
variable {md : Region.Mode} {ops : Array Oper} {Q : Exit → Act → World → Prop} {S : World → Prop} {fuel : Nat} {listed : Array Bool} {a : Act} {w : World}
theorem step_storeEr (i : Nat) (x y : Operand) (hop : (ops[i]?).map (fun o => (o.op, o.type, o.dst)) = some (.store 24 x y, 0, none)) (hw : (ops[i]?).map (fun o => Region.wanted o (yielded ops a.tmps)) = some true)
  {g : Nat} {x0 er : Int} (hx : a.eval x = .pointer (some ⟨g, 0, none⟩)) (hy : a.eval y = .int .i64 er) (hr : ErRow w g x0)
  (h : ∀ w2, ErRow w2 g er → But w.heap.size g w w2 → w2.heap.size = w.heap.size → S w2 ∧ wpAnyH Tryd.prog md ops Q S fuel (listed.setIfInBounds i true) a w2) : HStep Tryd.prog md ops Q S fuel listed a w i := by
 have hc : w.cell? ⟨g, 0, none⟩ = some (.int .i64 x0) := hr.cell 0
 have hf := hr.free 0
 refine step_store1 i _ hop hw (w.setCell ⟨g, 0, none⟩ (.int .i64 er)) (by
  unfold execOp
  simp only [hx, hy]
  go_simp) ?_
 exact h _ (set_er hr er) ((But.refl _ _ _).setCell _ _) (by simp [World.setCell])
end
/-- the decapsulation key -/
def dkF (d z : List UInt8) : List UInt8 := dkB d ++ (ekB d ++ (hB (ekB d) ++ z))
theorem dkF_length (d z : List UInt8) (hz : z.length = 32) : (dkF d z).length = 2400 := by unfold dkF; rw [List.length_append, List.length_append, List.length_append, dkB_length, ekB_length, hB_length, hz]
/-- both keys are handed back, the second in memory behind the first -/
def KeysIs (w : World) (ek dk : List UInt8) (e : Ending) (w' : World) : Prop := ∃ v1 v2 B1, e = .returned (.tuple #[v1, v2, .int .i64 0]) ∧ w'.ownsRow w.heap.size 5 1 v1 ek.length (Lib.byteCells ek) ∧ w'.ownsRow B1 5 1 v2 dk.length (Lib.byteCells dk) ∧ w.heap.size ≤ B1 ∧ (∀ k, v1.ownBlock = some k → k < B1) ∧ Below w.heap.size w w'
def NoKeysIs (w : World) (e : Ending) (w' : World) : Prop := e = .returned (.tuple #[.slice none 0 0, .slice none 0 0, .int .i64 130]) ∧ Below w.heap.size w w'
def KgIs (ok : Prop) (w : World) (ek dk : List UInt8) (e : Ending) (w' : World) : Prop := (ok → KeysIs w ek dk e w') ∧ (¬ ok → NoKeysIs w e w')
set_option maxHeartbeats 8000000 in
theorem KeyGen_any (d z : List UInt8) (hd : d.length = 32) (hz : z.length = 32) (w : World) (hv : KVars w) : Calls Tryd.prog 6 #[arrV d, arrV z] w (KgIs (allOk (rhoB d)) w (ekB d) (dkF d z)) := by
 unfold KgIs KeysIs NoKeysIs arrV dkF
 have hmf := hmf
 have hpos := hv.pos
 have HM : Shh (∀ W, KVars W → Calls Tryd.prog 20 #[.agg (Lib.byteCells d).toArray] W (OrPan (allOk (rhoB d)) W (PairIs W (ekB d) (dkB d)))) := ⟨fun W hv => pair_any d hd W hv⟩
 have HC : Shh (∀ W B' u, PartsO W B' B' u [ekB d] → B' ≤ W.heap.size → KVars W → Calls Tryd.prog 21 #[u] W (SumIs W (hB (ekB d)))) := ⟨fun W B' u hp hB' hv => by
  have h := sha3256_any [ekB d] (by simp) B' u W hp hB' hv
  simpa [hB] using h⟩
 have HL : Shh (z.length = 32 ∧ d.length = 32 ∧ (ekB d).length = 1184 ∧ (dkB d).length = 1152 ∧ (hB (ekB d)).length = 32) := ⟨hz, hd, ekB_length d, dkB_length d, hB_length _⟩
 obtain ⟨ok, hok⟩ : ∃ p : Prop, p = allOk (rhoB d) := ⟨_, rfl⟩
 rw [← hok] at HM ⊢
 clear hok
 generalize hB (ekB d) = m at *
 generalize ekB d = ek at *
 generalize dkB d = dk at *
 generalize hN : w.heap.size = N at *
 obtain ⟨W0, hW0⟩ : ∃ W0, W0 = (w.alloc (.cells (Lib.byteCells d).toArray 22)).alloc (.cells (Lib.byteCells z).toArray 22) := ⟨_, rfl⟩
 have FA : Shh (Row W0 N 22 (Lib.byteCells d) ∧ Row W0 (N + 1) 22 (Lib.byteCells z) ∧ KVars W0 ∧ 0 < N ∧ Below N w W0) := by
  have b1 := Below.chain (bel1 w (.cells (Lib.byteCells d).toArray 22)) (bel1 _ (.cells (Lib.byteCells z).toArray 22))
  rw [hW0]
  refine ⟨(Row.new_ hN.symm rfl).alloc _, Row.new_ (by rw [asz, hN]) rfl, hv.step b1, hpos, ?_⟩
  rw [← hN]
  exact b1
 clear hd hz hv hpos
 go_enter_defers Tryd.func6, Tryd.ntmps6
 go_wp2_with (refine wl_zeroE 6 rfl rfl rfl ?_)
 intro G w2 hG r2 b2
 rw [← hW0] at hG b2
 clear hW0 hN
 simp only [Act.put, arr9, hd9, tl9]
 have FB : Shh (Row w2 N 22 (Lib.byteCells d) ∧ Row w2 (N + 1) 22 (Lib.byteCells z) ∧ KVars w2 ∧ 0 < N ∧ Below N w w2 ∧ Row w2 G 24 ([.int .i64 0]) ∧ N + 1 < G) := by
  obtain ⟨h0, h1, h2, h3, h4⟩ := FA.out
  have := h0.lt
  have := h1.lt
  have := b2.size
  have := hG.out
  exact ⟨h0.go b2, h1.go b2, h2.step b2, h3, h4.trans (b2.mono (by omega)), r2, (by omega)⟩
 clear b2 FA r2 hG
 go_wp2_with (first | refine wpList_load_any rfl 22 (.tmp 2) rfl N rfl 22 (Lib.byteCells d) _ (FB.out.1) Tryd.underlying22 rfl (size_a32 HL.out.2.1) ?_ | (go_at_call 20; refine (HM.out _ FB.out.2.2.1).mono ?_))
 rintro e w3 ⟨h1, h2⟩
 by_cases hok : ok
 case neg =>
  obtain ⟨rfl, b3⟩ := h2 hok
  clear h1 h2 HM HC
  have FC : Shh (Row w3 N 22 (Lib.byteCells d) ∧ Row w3 (N + 1) 22 (Lib.byteCells z) ∧ KVars w3 ∧ 0 < N ∧ Below N w w3 ∧ Row w3 G 24 ([.int .i64 0]) ∧ N + 1 < G) := by
   obtain ⟨h0, h1, h2, h3, h4, h5, h6⟩ := FB.out
   have := h0.lt
   have := h1.lt
   have := h5.lt
   have := b3.size
   exact ⟨h0.go b3, h1.go b3, h2.step b3, h3, h4.trans (b3.mono (by omega)), h5.go b3, h6⟩
  clear b3 FB
  go_wp2
  refine leaves_cons (f := 18) (args := #[.pointer (some ⟨G, 0, none⟩)]) (by simp) (by simp [go_sem]) ?_
  refine (caught_kg G 0 130 [] _ (FC.out.2.2.2.2.2.1)).mono ?_
  rintro e u' w'' ⟨rfl, rfl, rfl⟩
  exact ⟨_, results_ttc Tryd.results6 _ _ ⟨G, 0, none⟩ _ _ _ rfl rfl rfl (load_er (set_er (FC.out.2.2.2.2.2.1) 130)), fun h => absurd h hok, fun _ => ⟨rfl, (FC.out.2.2.2.2.1).setCell (p := ⟨G, 0, none⟩) (by have := FC.out.2.2.2.2.2.2; show N ≤ G; omega) _⟩⟩
 obtain ⟨va, vb, rfl, ha, hb, b3⟩ := h1 hok
 obtain ⟨ga, ca, rfl⟩ := own_some ha (by rw [HL.out.2.2.1]; decide)
 obtain ⟨gb, cb, rfl⟩ := own_some hb (by rw [HL.out.2.2.2.1]; decide)
 have FC : Shh (Row w3 N 22 (Lib.byteCells d) ∧ Row w3 (N + 1) 22 (Lib.byteCells z) ∧ KVars w3 ∧ 0 < N ∧ Below N w w3 ∧ Row w3 G 24 ([.int .i64 0]) ∧ N + 1 < G ∧ w3.ownsRow (N) 5 1 (.slice (some ⟨ga, 0, none⟩) ek.length ca) (ek).length (Lib.byteCells (ek)) ∧ Sl w3 w3.heap.size (.slice (some ⟨gb, 0, none⟩) dk.length cb) (dk) ∧ ga < w3.heap.size) := by
  obtain ⟨h0, h1, h2, h3, h4, h5, h6⟩ := FB.out
  have := h0.lt
  have := h1.lt
  have := h5.lt
  have := b3.size
  exact ⟨h0.go b3, h1.go b3, h2.step b3, h3, h4.trans (b3.mono (by omega)), h5.go b3, h6, kown_mono ha (by omega), Sl.of_own hb, (ha.lt ga rfl).2⟩
 clear b3 FB ha hb h1 h2 HM
 go_wp2_with (go_at_call 21; refine (HC.out _ (w3.heap.size + 1) _ (parts_one rfl (Sl.of_own (FC.out.2.2.2.2.2.2.2.1))) (by rw [asz]; exact Nat.le_refl _) ((FC.out.2.2.1).step (bel1 _ _))).mono ?_)
 rintro e w4 ⟨rfl, b4⟩
 have b5 := Below.chain (bel1 w3 _) b4
 clear b4
 have FD : Shh (Row w4 N 22 (Lib.byteCells d) ∧ Row w4 (N + 1) 22 (Lib.byteCells z) ∧ KVars w4 ∧ 0 < N ∧ Below N w w4 ∧ Row w4 G 24 ([.int .i64 0]) ∧ N + 1 < G ∧ w4.ownsRow (N) 5 1 (.slice (some ⟨ga, 0, none⟩) ek.length ca) (ek).length (Lib.byteCells (ek)) ∧ Sl w4 w4.heap.size (.slice (some ⟨gb, 0, none⟩) dk.length cb) (dk) ∧ ga < w4.heap.size) := by
  obtain ⟨h0, h1, h2, h3, h4, h5, h6, h7, h8, h9⟩ := FC.out
  have := h0.lt
  have := h1.lt
  have := h5.lt
  have := b5.size
  exact ⟨h0.go b5, h1.go b5, h2.step b5, h3, h4.trans (b5.mono (by omega)), h5.go b5, h6, own_below h7 b5, h8.go b5, (by omega)⟩
 clear b5 FC HC
 go_wp2_with (refine wl_new32 9 m HL.out.2.2.2.2 rfl rfl rfl rfl rfl rfl rfl rfl ?_)
 intro G9 w2 hG9 r3 b1
 simp only [Act.put, arr9, hd9, tl9]
 have FE : Shh (Row w2 N 22 (Lib.byteCells d) ∧ Row w2 (N + 1) 22 (Lib.byteCells z) ∧ KVars w2 ∧ 0 < N ∧ Below N w w2 ∧ Row w2 G 24 ([.int .i64 0]) ∧ N + 1 < G ∧ w2.ownsRow (N) 5 1 (.slice (some ⟨ga, 0, none⟩) ek.length ca) (ek).length (Lib.byteCells (ek)) ∧ Sl w2 w2.heap.size (.slice (some ⟨gb, 0, none⟩) dk.length cb) (dk) ∧ ga < w4.heap.size ∧ Row w2 G9 22 (Lib.byteCells m) ∧ G < G9 ∧ ga < G9) := by
  obtain ⟨h0, h1, h2, h3, h4, h5, h6, h7, h8, h9⟩ := FD.out
  have := h0.lt
  have := h1.lt
  have := h5.lt
  have := b1.size
  have := hG9.out
  exact ⟨h0.go b1, h1.go b1, h2.step b1, h3, h4.trans (b1.mono (by omega)), h5.go b1, h6, own_below h7 b1, h8.go b1, h9, r3, (by omega), (by omega)⟩
 clear b1 FD r3 hG9
 go_wp2
 refine wp_region_held_drew (S := fun w' => True) (by kernel_rfl) trivial (fun hS => ?_)
 clear hS
 obtain ⟨X4, hX4⟩ : ∃ V, V = World.drew w2 := ⟨_, rfl⟩
 rw [← hX4]
 have FF : Shh (Row X4 N 22 (Lib.byteCells d) ∧ Row X4 (N + 1) 22 (Lib.byteCells z) ∧ KVars X4 ∧ 0 < N ∧ Below N w X4 ∧ Row X4 G 24 ([.int .i64 0]) ∧ N + 1 < G ∧ X4.ownsRow (N) 5 1 (.slice (some ⟨ga, 0, none⟩) ek.length ca) (ek).length (Lib.byteCells (ek)) ∧ Sl X4 X4.heap.size (.slice (some ⟨gb, 0, none⟩) dk.length cb) (dk) ∧ ga < w4.heap.size ∧ Row X4 G9 22 (Lib.byteCells m) ∧ G < G9 ∧ ga < G9) := by
  obtain ⟨h0, h1, h2, h3, h4, h5, h6, h7, h8, h9, h10, h11, h12⟩ := FE.out
  rw [hX4]
  exact ⟨h0.drew, h1.drew, h2.drew, h3, h4.drew, h5.drew, h6, h7.drew, h8.drew, h9, h10.drew, h11, h12⟩
 clear hX4 FE
 obtain ⟨M, hM⟩ : ∃ M, Shh (M = X4.heap.size) := ⟨_, ⟨rfl⟩⟩
 have HGX : Shh (G < X4.heap.size) := ⟨(FF.out.2.2.2.2.2.1).lt⟩
 refine hdv0 0 19 (.slice (some ⟨ga, 0, none⟩) ek.length ca) (by rfl) trivial ?_ (hQ := fun _ _ _ _ h => panic_put (put_kg (d := 19) (by decide)) h)
 refine hdv0 1 20 (.slice (some ⟨gb, 0, none⟩) dk.length cb) (by rfl) trivial ?_ (hQ := fun _ _ _ _ h => panic_put (put_kg (d := 20) (by decide)) h)
 refine hdv0 2 21 (.slice (some ⟨ga, 0, none⟩) ek.length ca) (by rfl) trivial ?_ (hQ := fun _ _ _ _ h => panic_put (put_kg (d := 21) (by decide)) h)
 refine hdv0 3 22 (.slice (some ⟨G9, 0, none⟩) 32 32) (by rfl) trivial ?_ (hQ := fun _ _ _ _ h => panic_put (put_kg (d := 22) (by decide)) h)
 refine hdv0 4 23 (.slice (some ⟨N + 1, 0, none⟩) 32 32) (by rfl) trivial ?_ (hQ := fun _ _ _ _ h => panic_put (put_kg (d := 23) (by decide)) h)
 refine held_one 5 (by kernel_rfl) ?_
 have HP : Shh (PartsO (X4.alloc (.cells #[.slice (some ⟨gb, 0, none⟩) dk.length cb, .slice (some ⟨ga, 0, none⟩) ek.length ca, .slice (some ⟨G9, 0, none⟩) 32 32, .slice (some ⟨N + 1, 0, none⟩) 32 32] 23)) (X4.heap.size + 1) (X4.heap.size + 1) (.slice (some ⟨X4.heap.size, 0, none⟩) 4 4) [dk, ek, m, z]) := by
  have hm : Sl X4 X4.heap.size (.slice (some ⟨G9, 0, none⟩) 32 32) m := Sl.of_bytes (FF.out.2.2.2.2.2.2.2.2.2.2.1) (FF.out.2.2.2.2.2.2.2.2.2.2.1).lt HL.out.2.2.2.2 (by decide)
  have hz : Sl X4 X4.heap.size (.slice (some ⟨N + 1, 0, none⟩) 32 32) z := Sl.of_bytes (FF.out.2.1) (FF.out.2.1).lt HL.out.1 (by decide)
  exact ⟨parts_four rfl (FF.out.2.2.2.2.2.2.2.2.1) (Sl.of_own (FF.out.2.2.2.2.2.2.2.1)) hm hz⟩
 refine step_value 5 _ _ (some 24) (.slice (some ⟨X4.heap.size, 0, none⟩) 4 4) (X4.alloc (.cells #[.slice (some ⟨gb, 0, none⟩) dk.length cb, .slice (some ⟨ga, 0, none⟩) ek.length ca, .slice (some ⟨G9, 0, none⟩) 32 32, .slice (some ⟨N + 1, 0, none⟩) 32 32] 23)) (by rfl) (by kernel_rfl) (by first | kernel_rfl | go_simp) trivial ?_
 simp only [Act.put, arr9, hd9, tl9]
 refine held_one 6 (by kernel_rfl) ?_
 refine step_call 6 _ _ (some 25) 22 #[.slice (some ⟨X4.heap.size, 0, none⟩) 4 4] (by rfl) (by kernel_rfl) (by first | kernel_rfl | go_simp) ?_
 refine (join_any (X4.heap.size + 1) (X4.heap.size + 1) _ [dk, ek, m, z] _ HP.out (by rw [asz]; exact Nat.le_refl _) (by simp [HL.out]) (by simp)).mono ?_
 rintro e Y ⟨u2, rfl, hu, bu⟩
 have b7 := Below.chain (bel1 X4 _) bu
 have FG : Shh (Row Y N 22 (Lib.byteCells d) ∧ Row Y (N + 1) 22 (Lib.byteCells z) ∧ KVars Y ∧ 0 < N ∧ Below N w Y ∧ Row Y G 24 ([.int .i64 0]) ∧ N + 1 < G ∧ Y.ownsRow (N) 5 1 (.slice (some ⟨ga, 0, none⟩) ek.length ca) (ek).length (Lib.byteCells (ek)) ∧ Sl Y Y.heap.size (.slice (some ⟨gb, 0, none⟩) dk.length cb) (dk) ∧ ga < w4.heap.size ∧ Row Y G9 22 (Lib.byteCells m) ∧ G < G9 ∧ ga < G9 ∧ Y.ownsRow (X4.heap.size) 5 1 (u2) ((dk ++ (ek ++ (m ++ z)))).length (Lib.byteCells ((dk ++ (ek ++ (m ++ z))))) ∧ G9 < X4.heap.size ∧ N ≤ X4.heap.size) := by
  obtain ⟨h0, h1, h2, h3, h4, h5, h6, h7, h8, h9, h10, h11, h12⟩ := FF.out
  have := h0.lt
  have := h1.lt
  have := h5.lt
  have := h10.lt
  have := b7.size
  exact ⟨h0.go b7, h1.go b7, h2.step b7, h3, h4.trans (b7.mono (by omega)), h5.go b7, h6, own_below h7 b7, h8.go b7, h9, h10.go b7, h11, h12, (by rw [show [dk, ek, m, z].flatten = dk ++ (ek ++ (m ++ z)) by simp] at hu; exact kown_mono hu (by rw [asz]; omega)), (by omega)⟩
 clear b7 FF hu bu HP
 refine ⟨_, rfl, trivial, ?_⟩
 simp only [Act.put, arr9, hd9, tl9]
 refine held_one 7 (by kernel_rfl) ?_
 refine step_value 7 _ _ (some 4) (.slice (some ⟨ga, 0, none⟩) ek.length ca) Y (by rfl) (by kernel_rfl) (by first | kernel_rfl | go_simp) trivial ?_
 simp only [Act.put, arr9, hd9, tl9]
 refine held_one 8 (by kernel_rfl) ?_
 refine step_value 8 _ _ (some 5) (u2) Y (by rfl) (by kernel_rfl) (by first | kernel_rfl | go_simp) trivial ?_
 simp only [Act.put, arr9, hd9, tl9]
 refine held_one 9 (by kernel_rfl) ?_
 refine step_storeEr 9 (.tmp 6) (.const (.int .i64 0)) (by rfl) (by kernel_rfl) (g := G) (er := 0) (by kernel_rfl) (by kernel_rfl) (FG.out.2.2.2.2.2.1) ?_
 intro Z r9 b9 z9
 have HZ : Shh (Row Z G 24 [.int .i64 0] ∧ Z.ownsRow N 5 1 (.slice (some ⟨ga, 0, none⟩) ek.length ca) ek.length (Lib.byteCells ek) ∧ Z.ownsRow X4.heap.size 5 1 u2 (dk ++ (ek ++ (m ++ z))).length (Lib.byteCells (dk ++ (ek ++ (m ++ z)))) ∧ Below N w Z ∧ N ≤ X4.heap.size ∧ ga < X4.heap.size ∧ N < G) := by
  obtain ⟨h0, h1, h2, h3, h4, h5, h6, h7, h8, h9, h10, h11, h12, h13, h14⟩ := FG.out
  have := h0.lt
  have := h1.lt
  have := h5.lt
  have := h10.lt
  have hne : ¬ ga = G := fun h => own_apart h7 (by rw [HL.out.2.2.1]; decide) h5 (by kernel_rfl) h
  exact ⟨r9, own_but2 h7 b9 (fun k hk => by cases hk; exact hne), own_but2 h13 b9 (fun k hk => by have := (h13.lt k hk).1; omega), h4.trans (b9.under (by omega) (by omega)), by omega, by omega, by omega⟩
 clear r9 b9 z9 FG
 refine ⟨trivial, ?_⟩
 refine wpAnyH_done (by kernel_rfl) ?_ _
 go_wp2
 refine leaves_cons (f := 18) (args := #[.pointer (some ⟨G, 0, none⟩)]) (by simp) (by simp [go_sem]) ?_
 refine (idle_kg G 0 _ HZ.out.1).mono ?_
 rintro e u' w'' ⟨rfl, rfl, rfl⟩
 obtain ⟨h1, h2, h3, h4, h5, h6, h7⟩ := HZ.out
 have hbb : But Z.heap.size G Z (Z.setCell ⟨G, 0, none⟩ (.int .i64 0)) := (But.refl _ _ _).setCell _ _
 have hne : ¬ ga = G := fun h => own_apart h2 (by rw [HL.out.2.2.1]; decide) h1 (by kernel_rfl) h
 refine ⟨_, results_ttc Tryd.results6 _ _ ⟨G, 0, none⟩ _ _ _ rfl rfl rfl (load_er (set_er h1 0)), fun _ => ⟨_, _, X4.heap.size, rfl, own_but2 h2 hbb (fun k hk => by cases hk; exact hne), own_but2 h3 hbb (fun k hk => ?_), h5, fun k hk => by cases hk; exact h6, h4.setCell (p := ⟨G, 0, none⟩) (Nat.le_of_lt h7) _⟩, fun h => absurd hok h⟩
 have := (h3.lt k hk).1
 have := HGX.out
 omega
end Go.Proofs.YtbjpbeplpljieaaDoor

/-
 THE EXPORTED FUNCTIONS: Encaps.
-/
namespace Go.Proofs.YtbjpbeplpljieaaDoor
open Go.RowKit
set_option maxRecDepth 100000
theorem results_ctc {P : Program} {fn : Func} {p q r : Tmp} {tp tr : TypeId} (h : fn.results = #[.cell p tp, .tmp q, .cell r tr]) (tmps : Array Value) (w : World) (a b : Addr) (vp vq vr : Value) (hp : tmps.getD p undef = .pointer (some a)) (hq : tmps.getD q undef = vq) (hr : tmps.getD r undef = .pointer (some b)) (ha : (loadVar tp a).run P w = .ok vp w) (hb : (loadVar tr b).run P w = .ok vr w) : (results fn tmps).run P w = .ok (.tuple #[vp, vq, vr]) w := by
 simp only [results, h]
 simp only [Array.getD_eq_getD_getElem?] at hp hq hr
 simp [Sem.run_bind, Result.andThen, hp, hq, hr, ha, hb, asAddr]
/-- a shared key and a ciphertext are handed back -/
def EncIs (w : World) (k ct : List UInt8) (e : Ending) (w' : World) : Prop := ∃ v, e = .returned (.tuple #[.agg (Lib.byteCells k).toArray, v, .int .i64 0]) ∧ w'.ownsRow w.heap.size 5 1 v ct.length (Lib.byteCells ct) ∧ Below w.heap.size w w'
def NoEncIs (w : World) (er : Int) (e : Ending) (w' : World) : Prop := e = .returned (.tuple #[.agg (Lib.byteCells z32).toArray, .slice none 0 0, .int .i64 er]) ∧ Below w.heap.size w w'
def shK (ek m : List UInt8) : List UInt8 := dhK m (hB ek)
def shC (ek m : List UInt8) : List UInt8 := encE ek m (dhR m (hB ek))
theorem shK_length (ek m : List UInt8) : (shK ek m).length = 32 := dhK_length _ _
theorem shC_length (ek m : List UInt8) : (shC ek m).length = 1088 := encE_length _ _ _
def EncapsIs (ok : Prop) (w : World) (k ct : List UInt8) (e : Ending) (w' : World) : Prop := (ok → EncIs w k ct e w') ∧ (¬ ok → NoEncIs w 140 e w')
set_option maxHeartbeats 8000000 in
theorem Encaps_any (ek : List UInt8) (hl : ek.length = 1184) (hall : allOk (ek.drop 1152)) (m : List UInt8) (hm : m.length = 32) (B : Nat) (v : Value) (w : World) (hs : Sl w B v ek) (hBB : B ≤ w.heap.size) (hv : KVars w) : Calls Tryd.prog 8 #[v, arrV m] w (EncapsIs (canK (ek.take 1152) 3 = true) w (shK ek m) (shC ek m)) := by
 unfold EncapsIs EncIs NoEncIs arrV shK shC
 have hmf := hmf
 have hpos := hv.pos
 obtain ⟨ok, hok⟩ : ∃ p : Prop, p = (canK (ek.take 1152) 3 = true) := ⟨_, rfl⟩
 have HCK : Shh (∀ W B, Sl W B v ek → B ≤ W.heap.size → Calls Tryd.prog 24 #[v] W (OrEr ok W 140 (DoneIs W))) := ⟨fun W B hs hB => by
  rw [hok]
  exact mustEk_any ek hl B v W hs hB⟩
 have HSH : Shh (∀ W B' u, PartsO W B' B' u [ek] → B' ≤ W.heap.size → KVars W → Calls Tryd.prog 21 #[u] W (SumIs W (hB ek))) := ⟨fun W B' u hp hB' hv => by
  have h := sha3256_any [ek] (by simp) B' u W hp hB' hv
  simpa [hB] using h⟩
 have HDE : Shh (∀ W B u, Sl W B u (hB ek) → B ≤ W.heap.size → KVars W → Calls Tryd.prog 25 #[.agg (Lib.byteCells m).toArray, u] W (TwoIs W (dhK m (hB ek)) (dhR m (hB ek)))) := ⟨fun W B u hs hB' hv => kderived_any m hm (hB ek) B u W hs hB' hv⟩
 have HEN : Shh (∀ W B, Sl W B v ek → B ≤ W.heap.size → KVars W → Calls Tryd.prog 26 #[v, .agg (Lib.byteCells m).toArray, .agg (Lib.byteCells (dhR m (hB ek))).toArray] W (OwnIs W (encE ek m (dhR m (hB ek))))) := ⟨fun W B hs hB' hv => (encrypted_any ek hl m hm _ (dhR_length _ _) B v W hs hB' hv).mono fun e w' h => h.1 hall⟩
 have HLL : Shh (m.length = 32 ∧ (hB ek).length = 32 ∧ (dhK m (hB ek)).length = 32 ∧ (dhR m (hB ek)).length = 32 ∧ (encE ek m (dhR m (hB ek))).length = 1088) := ⟨hm, hB_length _, dhK_length _ _, dhR_length _ _, encE_length _ _ _⟩
 rw [← hok]
 clear hok hall hl hm
 generalize encE ek m (dhR m (hB ek)) = ct at *
 generalize dhK m (hB ek) = kk at *
 generalize dhR m (hB ek) = rr at *
 generalize hB ek = hh at *
 generalize hN : w.heap.size = N at *
 obtain ⟨W0, hW0⟩ : ∃ W0, W0 = w.alloc (.cells (Lib.byteCells m).toArray 22) := ⟨_, rfl⟩
 have FA : Shh (Row W0 N 22 (Lib.byteCells m) ∧ Sl W0 N v ek ∧ KVars W0 ∧ 0 < N ∧ Below N w W0) := by
  rw [hW0]
  refine ⟨Row.new_ hN.symm rfl, (hs.below ((bel1 _ _).mono (by omega))).more hBB, hv.step (bel1 _ _), hpos, ?_⟩
  rw [← hN]
  exact bel1 _ _
 obtain ⟨A, c, rfl, _, _⟩ := hs.form
 clear hs hBB hv hpos
 go_enter_defers Tryd.func8, Tryd.ntmps8
 go_wp2_with (refine wl_zero32 4 rfl rfl rfl ?_)
 intro G4 w1 hG4 r1 b1
 rw [← hW0] at hG4 b1
 clear hW0 hN
 simp only [Act.put, arr9, hd9, tl9]
 have FB : Shh (Row w1 N 22 (Lib.byteCells m) ∧ Sl w1 (N) (.slice A ek.length c) (ek) ∧ KVars w1 ∧ 0 < N ∧ Below N w w1 ∧ Row w1 G4 22 (Lib.byteCells z32) ∧ N < G4) := by
  obtain ⟨h0, h1, h2, h3, h4⟩ := FA.out
  have := h0.lt
  have := b1.size
  have := hG4.out
  exact ⟨h0.go b1, h1.below (b1.mono (by omega)), h2.step b1, h3, h4.trans (b1.mono (by omega)), r1, (by omega)⟩
 clear b1 FA r1 hG4
 go_wp2_with (refine wl_zeroE 6 rfl rfl rfl ?_)
 intro G6 w7 hG6 r8 b6
 simp only [Act.put, arr9, hd9, tl9]
 have FC : Shh (Row w7 N 22 (Lib.byteCells m) ∧ Sl w7 (N) (.slice A ek.length c) (ek) ∧ KVars w7 ∧ 0 < N ∧ Below N w w7 ∧ Row w7 G4 22 (Lib.byteCells z32) ∧ N < G4 ∧ Row w7 G6 24 ([.int .i64 0]) ∧ G4 < G6) := by
  obtain ⟨h0, h1, h2, h3, h4, h5, h6⟩ := FB.out
  have := h0.lt
  have := h5.lt
  have := b6.size
  have := hG6.out
  exact ⟨h0.go b6, h1.below (b6.mono (by omega)), h2.step b6, h3, h4.trans (b6.mono (by omega)), h5.go b6, h6, r8, (by omega)⟩
 clear b6 FB r8 hG6
 go_wp2_with (go_at_call 24; refine (HCK.out _ N FC.out.2.1 (Nat.le_of_lt (FC.out.1).lt)).mono ?_)
 rintro e w3 ⟨h1, h2⟩
 by_cases hok : ok
 case neg =>
  obtain ⟨rfl, b3⟩ := h2 hok
  clear h1 h2 HCK HSH HDE HEN
  have FD : Shh (Row w3 N 22 (Lib.byteCells m) ∧ Sl w3 (N) (.slice A ek.length c) (ek) ∧ KVars w3 ∧ 0 < N ∧ Below N w w3 ∧ Row w3 G4 22 (Lib.byteCells z32) ∧ N < G4 ∧ Row w3 G6 24 ([.int .i64 0]) ∧ G4 < G6) := by
   obtain ⟨h0, h1, h2, h3, h4, h5, h6, h7, h8⟩ := FC.out
   have := h0.lt
   have := h5.lt
   have := h7.lt
   have := b3.size
   exact ⟨h0.go b3, h1.below (b3.mono (by omega)), h2.step b3, h3, h4.trans (b3.mono (by omega)), h5.go b3, h6, h7.go b3, h8⟩
  clear b3 FC
  go_wp2
  refine leaves_cons (f := 23) (args := #[.pointer (some ⟨G6, 0, none⟩)]) (by simp) (by simp [go_sem]) ?_
  refine (caught_en G6 0 140 [] _ (FD.out.2.2.2.2.2.2.2.1)).mono ?_
  rintro e u' w'' ⟨rfl, rfl, rfl⟩
  exact ⟨_, results_ctc Tryd.results8 _ _ ⟨G4, 0, none⟩ ⟨G6, 0, none⟩ _ _ _ rfl rfl rfl (load_a32 z32_length ((FD.out.2.2.2.2.2.1).other ⟨G6, 0, none⟩ _ (by have := FD.out.2.2.2.2.2.2.2.2; show ¬ G4 = G6; omega))) (load_er (set_er (FD.out.2.2.2.2.2.2.2.1) 140)), fun h => absurd h hok, fun _ => ⟨rfl, (FD.out.2.2.2.2.1).setCell (p := ⟨G6, 0, none⟩) (by have := FD.out.2.2.2.2.2.2.2.2; have := FD.out.2.2.2.2.2.2.1; show N ≤ G6; omega) _⟩⟩
 obtain ⟨rfl, b3⟩ := h1 hok
 have FD : Shh (Row w3 N 22 (Lib.byteCells m) ∧ Sl w3 (N) (.slice A ek.length c) (ek) ∧ KVars w3 ∧ 0 < N ∧ Below N w w3 ∧ Row w3 G4 22 (Lib.byteCells z32) ∧ N < G4 ∧ Row w3 G6 24 ([.int .i64 0]) ∧ G4 < G6) := by
  obtain ⟨h0, h1, h2, h3, h4, h5, h6, h7, h8⟩ := FC.out
  have := h0.lt
  have := h5.lt
  have := h7.lt
  have := b3.size
  exact ⟨h0.go b3, h1.below (b3.mono (by omega)), h2.step b3, h3, h4.trans (b3.mono (by omega)), h5.go b3, h6, h7.go b3, h8⟩
 clear b3 FC h1 h2 HCK
 go_wp2_with (go_at_call 21; refine (HSH.out _ (w3.heap.size + 1) _ (parts_one rfl ((FD.out.2.1).more (Nat.le_of_lt (FD.out.1).lt))) (by rw [asz]; exact Nat.le_refl _) ((FD.out.2.2.1).step (bel1 _ _))).mono ?_)
 rintro e w4 ⟨rfl, b4⟩
 have b5 := Below.chain (bel1 w3 _) b4
 clear b4
 have FE : Shh (Row w4 N 22 (Lib.byteCells m) ∧ Sl w4 (N) (.slice A ek.length c) (ek) ∧ KVars w4 ∧ 0 < N ∧ Below N w w4 ∧ Row w4 G4 22 (Lib.byteCells z32) ∧ N < G4 ∧ Row w4 G6 24 ([.int .i64 0]) ∧ G4 < G6) := by
  obtain ⟨h0, h1, h2, h3, h4, h5, h6, h7, h8⟩ := FD.out
  have := h0.lt
  have := h5.lt
  have := h7.lt
  have := b5.size
  exact ⟨h0.go b5, h1.below (b5.mono (by omega)), h2.step b5, h3, h4.trans (b5.mono (by omega)), h5.go b5, h6, h7.go b5, h8⟩
 clear b5 FD HSH
 go_wp2_with (refine wl_new32 7 hh HLL.out.2.1 rfl rfl rfl rfl rfl rfl rfl rfl ?_)
 intro G7 w10 hG7 r11 b9
 simp only [Act.put, arr9, hd9, tl9]
 have FF : Shh (Row w10 N 22 (Lib.byteCells m) ∧ Sl w10 (N) (.slice A ek.length c) (ek) ∧ KVars w10 ∧ 0 < N ∧ Below N w w10 ∧ Row w10 G4 22 (Lib.byteCells z32) ∧ N < G4 ∧ Row w10 G6 24 ([.int .i64 0]) ∧ G4 < G6 ∧ Row w10 G7 22 (Lib.byteCells hh) ∧ G6 < G7) := by
  obtain ⟨h0, h1, h2, h3, h4, h5, h6, h7, h8⟩ := FE.out
  have := h0.lt
  have := h5.lt
  have := h7.lt
  have := b9.size
  have := hG7.out
  exact ⟨h0.go b9, h1.below (b9.mono (by omega)), h2.step b9, h3, h4.trans (b9.mono (by omega)), h5.go b9, h6, h7.go b9, h8, r11, (by omega)⟩
 clear b9 FE r11 hG7
 go_wp2
 refine wp_region_held_drew (S := fun w' => Row w' N 22 (Lib.byteCells m)) (by kernel_rfl) FF.out.1.drew (fun hS => ?_)
 clear hS
 obtain ⟨X12, hX12⟩ : ∃ V, V = World.drew w10 := ⟨_, rfl⟩
 rw [← hX12]
 have FG : Shh (Row X12 N 22 (Lib.byteCells m) ∧ Sl X12 (N) (.slice A ek.length c) (ek) ∧ KVars X12 ∧ 0 < N ∧ Below N w X12 ∧ Row X12 G4 22 (Lib.byteCells z32) ∧ N < G4 ∧ Row X12 G6 24 ([.int .i64 0]) ∧ G4 < G6 ∧ Row X12 G7 22 (Lib.byteCells hh) ∧ G6 < G7) := by
  obtain ⟨h0, h1, h2, h3, h4, h5, h6, h7, h8, h9, h10⟩ := FF.out
  rw [hX12]
  exact ⟨h0.drew, h1.drew, h2.drew, h3, h4.drew, h5.drew, h6, h7.drew, h8, h9.drew, h10⟩
 clear hX12 FF
 refine share (T := ?T1) (fun hT => ?gg1) ?tt1
 case gg1 =>
  have FH : Shh (Below X12.heap.size X12 X12) := ⟨Below.refl _ _⟩
  refine held_load 0 22 (.tmp 3) (some 17) (by kernel_rfl) (by rfl) (by kernel_rfl) (N) 0 (by kernel_rfl) (Lib.byteCells m) _ (fun w h => h.range) Tryd.underlying22 rfl (size_a32 HLL.out.1) (fun _ _ _ _ h => panic_put (put_en (d := 17) (by decide)) h) (Row.go FG.out.1 FH.out) ?_
  simp only [Act.put, arr9, hd9, tl9]
  refine hdv0 1 18 (.slice (some ⟨G7, 0, none⟩) 32 32) (by rfl) (Row.go FG.out.1 FH.out) ?_ (hQ := fun _ _ _ _ h => panic_put (put_en (d := 18) (by decide)) h)
  refine held_three 2 6 7 (by kernel_rfl) ?_ ?_ ?_
  ·refine step_call 2 _ _ (some 19) 25 #[.agg (Lib.byteCells m).toArray, .slice (some ⟨G7, 0, none⟩) 32 32] (by rfl) (by kernel_rfl) (by first | kernel_rfl | go_simp) ?_
   refine (HDE.out X12 (G7 + 1) _ (Sl.of_bytes ((Row.go FG.out.2.2.2.2.2.2.2.2.2.1 FH.out)) (Nat.lt_succ_self _) HLL.out.2.1 (by decide)) ((Row.go FG.out.2.2.2.2.2.2.2.2.2.1 FH.out)).lt (FG.out.2.2.1.step FH.out)).mono ?_
   rintro e w14 ⟨rfl, b13⟩
   have FI : Shh (Below X12.heap.size X12 w14) := by
    have h0 := FH.out
    have := b13.size
    have := h0.size
    exact ⟨Below.chain h0 b13⟩
   clear b13 FH
   refine ⟨_, rfl, (Row.go FG.out.1 FI.out), ?_⟩
   simp only [Act.put, arr9, hd9, tl9]
   refine hdv0 3 16 (.tuple #[.agg (Lib.byteCells kk).toArray, .agg (Lib.byteCells rr).toArray]) (by rfl) (Row.go FG.out.1 FI.out) ?_ (hQ := fun _ _ _ _ h => panic_put (put_en (d := 16) (by decide)) h)
   refine hdv0 4 20 (.agg (Lib.byteCells kk).toArray) (by rfl) (Row.go FG.out.1 FI.out) ?_ (hQ := fun _ _ _ _ h => panic_put (put_en (d := 20) (by decide)) h)
   refine hdv0 5 21 (.agg (Lib.byteCells rr).toArray) (by rfl) (Row.go FG.out.1 FI.out) ?_ (hQ := fun _ _ _ _ h => panic_put (put_en (d := 21) (by decide)) h)
   refine held_two 6 7 (by kernel_rfl) ?_ ?_
   ·refine step_zero32 6 8 (by rfl) (by kernel_rfl) ?_
    intro G8 w16 hG8 r17 b15
    have FJ : Shh (Below X12.heap.size X12 w16 ∧ Row w16 G8 22 (Lib.byteCells z32) ∧ X12.heap.size ≤ G8 ∧ X12.heap.size ≤ G8) := by
     have h0 := FI.out
     have := b15.size
     have := h0.size
     have := hG8.out
     exact ⟨Below.chain h0 b15, r17, (by omega), (by omega)⟩
    clear b15 FI r17 hG8
    refine ⟨(Row.go FG.out.1 FJ.out.1), ?_⟩
    simp only [Act.put, arr9, hd9, tl9]
    refine held_one 7 (by kernel_rfl) ?_
    refine step_zero32 7 9 (by rfl) (by kernel_rfl) ?_
    intro G9 w19 hG9 r20 b18
    have FK : Shh (Below X12.heap.size X12 w19 ∧ Row w19 G8 22 (Lib.byteCells z32) ∧ X12.heap.size ≤ G8 ∧ X12.heap.size ≤ G8 ∧ Row w19 G9 22 (Lib.byteCells z32) ∧ X12.heap.size ≤ G9 ∧ ¬ G8 = G9) := by
     obtain ⟨h0, h1, h2, h3⟩ := FJ.out
     have := h1.lt
     have := b18.size
     have := h0.size
     have := hG9.out
     exact ⟨Below.chain h0 b18, h1.go b18, h2, h3, r20, (by omega), (by omega)⟩
    clear b18 FJ r20 hG9
    refine ⟨(Row.go FG.out.1 FK.out.1), ?_⟩
    simp only [Act.put, arr9, hd9, tl9]
    refine held_one 8 (by kernel_rfl) ?_
    refine step_storeRow 8 22 (.tmp 8) (.tmp 20) (by rfl) (by kernel_rfl) G8 rfl (Lib.byteCells kk) rfl 22 (Lib.byteCells z32) (FK.out.2.1) (size_a32 HLL.out.2.2.1) (by rw [Lib.byteCells_length, Lib.byteCells_length, HLL.out.2.2.1, z32_length]) (cell_oneCell _) ?_
    intro w22 r23 bt21 zbt21
    have FL : Shh (Below X12.heap.size X12 w22 ∧ Row w22 G8 22 (Lib.byteCells kk) ∧ X12.heap.size ≤ G8 ∧ X12.heap.size ≤ G8 ∧ Row w22 G9 22 (Lib.byteCells z32) ∧ X12.heap.size ≤ G9 ∧ ¬ G8 = G9) := by
     obtain ⟨h0, h1, h2, h3, h4, h5, h6⟩ := FK.out
     have := h1.lt
     have := h4.lt
     have := h0.size
     have hb := bt21.under (Nat.le_of_lt h1.lt) (Nat.le_refl _)
     have := hb.size
     exact ⟨h0.trans (bt21.under (by omega) (by omega)), r23, h2, h3, bt21.row h4 h4.lt (by omega), h5, h6⟩
    clear bt21 FK r23 zbt21
    refine ⟨(Row.go FG.out.1 FL.out.1), ?_⟩
    refine held_one 9 (by kernel_rfl) ?_
    refine step_storeRow 9 22 (.tmp 9) (.tmp 21) (by rfl) (by kernel_rfl) G9 rfl (Lib.byteCells rr) rfl 22 (Lib.byteCells z32) (FL.out.2.2.2.2.1) (size_a32 HLL.out.2.2.2.1) (by rw [Lib.byteCells_length, Lib.byteCells_length, HLL.out.2.2.2.1, z32_length]) (cell_oneCell _) ?_
    intro w25 r26 bt24 zbt24
    have FM : Shh (Below X12.heap.size X12 w25 ∧ Row w25 G8 22 (Lib.byteCells kk) ∧ X12.heap.size ≤ G8 ∧ X12.heap.size ≤ G8 ∧ Row w25 G9 22 (Lib.byteCells rr) ∧ X12.heap.size ≤ G9 ∧ ¬ G8 = G9) := by
     obtain ⟨h0, h1, h2, h3, h4, h5, h6⟩ := FL.out
     have := h1.lt
     have := h4.lt
     have := h0.size
     have hb := bt24.under (Nat.le_of_lt h4.lt) (Nat.le_refl _)
     have := hb.size
     exact ⟨h0.trans (bt24.under (by omega) (by omega)), bt24.row h1 h1.lt (by omega), h2, h3, r26, h5, h6⟩
    clear bt24 FL r26 zbt24
    refine ⟨(Row.go FG.out.1 FM.out.1), ?_⟩
    refine wpAnyH_done (by kernel_rfl) ?_ _
    have HZ : Shh (Row w25 N 22 (Lib.byteCells m) ∧ Sl w25 (N) (.slice A ek.length c) (ek) ∧ KVars w25 ∧ 0 < N ∧ Below N w w25 ∧ Row w25 G4 22 (Lib.byteCells z32) ∧ N < G4 ∧ Row w25 G6 24 ([.int .i64 0]) ∧ G4 < G6 ∧ Row w25 G7 22 (Lib.byteCells hh) ∧ G6 < G7 ∧ Row w25 G8 22 (Lib.byteCells kk) ∧ Row w25 G9 22 (Lib.byteCells rr) ∧ G7 < G8 ∧ G7 < G9) := by
     obtain ⟨h0, h1, h2, h3, h4, h5, h6, h7, h8, h9, h10⟩ := FG.out
     obtain ⟨d0, d1, d2, d3, d4, d5, d6⟩ := FM.out
     have := h0.lt
     have := h5.lt
     have := h7.lt
     have := h9.lt
     have := d1.lt
     have := d4.lt
     have := d0.size
     exact ⟨h0.go d0, h1.below (d0.mono (by omega)), h2.step d0, h3, h4.trans (d0.mono (by omega)), h5.go d0, h6, h7.go d0, h8, h9.go d0, h10, d1, d4, (by omega), (by omega)⟩
    clear FM
    revert HZ
    revert w25
    revert G9
    revert G8
    exact hT.out
   ·refine step_zero32 7 9 (by rfl) (by kernel_rfl) ?_
    intro G9 w16 hG9 r17 b15
    have FJ : Shh (Below X12.heap.size X12 w16 ∧ Row w16 G9 22 (Lib.byteCells z32) ∧ X12.heap.size ≤ G9 ∧ X12.heap.size ≤ G9) := by
     have h0 := FI.out
     have := b15.size
     have := h0.size
     have := hG9.out
     exact ⟨Below.chain h0 b15, r17, (by omega), (by omega)⟩
    clear b15 FI r17 hG9
    refine ⟨(Row.go FG.out.1 FJ.out.1), ?_⟩
    simp only [Act.put, arr9, hd9, tl9]
    refine held_one 6 (by kernel_rfl) ?_
    refine step_zero32 6 8 (by rfl) (by kernel_rfl) ?_
    intro G8 w19 hG8 r20 b18
    have FK : Shh (Below X12.heap.size X12 w19 ∧ Row w19 G9 22 (Lib.byteCells z32) ∧ X12.heap.size ≤ G9 ∧ X12.heap.size ≤ G9 ∧ Row w19 G8 22 (Lib.byteCells z32) ∧ X12.heap.size ≤ G8 ∧ ¬ G8 = G9) := by
     obtain ⟨h0, h1, h2, h3⟩ := FJ.out
     have := h1.lt
     have := b18.size
     have := h0.size
     have := hG8.out
     exact ⟨Below.chain h0 b18, h1.go b18, h2, h3, r20, (by omega), (by omega)⟩
    clear b18 FJ r20 hG8
    refine ⟨(Row.go FG.out.1 FK.out.1), ?_⟩
    simp only [Act.put, arr9, hd9, tl9]
    refine held_one 8 (by kernel_rfl) ?_
    refine step_storeRow 8 22 (.tmp 8) (.tmp 20) (by rfl) (by kernel_rfl) G8 rfl (Lib.byteCells kk) rfl 22 (Lib.byteCells z32) (FK.out.2.2.2.2.1) (size_a32 HLL.out.2.2.1) (by rw [Lib.byteCells_length, Lib.byteCells_length, HLL.out.2.2.1, z32_length]) (cell_oneCell _) ?_
    intro w22 r23 bt21 zbt21
    have FL : Shh (Below X12.heap.size X12 w22 ∧ Row w22 G9 22 (Lib.byteCells z32) ∧ X12.heap.size ≤ G9 ∧ X12.heap.size ≤ G9 ∧ Row w22 G8 22 (Lib.byteCells kk) ∧ X12.heap.size ≤ G8 ∧ ¬ G8 = G9) := by
     obtain ⟨h0, h1, h2, h3, h4, h5, h6⟩ := FK.out
     have := h1.lt
     have := h4.lt
     have := h0.size
     have hb := bt21.under (Nat.le_of_lt h4.lt) (Nat.le_refl _)
     have := hb.size
     exact ⟨h0.trans (bt21.under (by omega) (by omega)), bt21.row h1 h1.lt (by omega), h2, h3, r23, h5, h6⟩
    clear bt21 FK r23 zbt21
    refine ⟨(Row.go FG.out.1 FL.out.1), ?_⟩
    refine held_one 9 (by kernel_rfl) ?_
    refine step_storeRow 9 22 (.tmp 9) (.tmp 21) (by rfl) (by kernel_rfl) G9 rfl (Lib.byteCells rr) rfl 22 (Lib.byteCells z32) (FL.out.2.1) (size_a32 HLL.out.2.2.2.1) (by rw [Lib.byteCells_length, Lib.byteCells_length, HLL.out.2.2.2.1, z32_length]) (cell_oneCell _) ?_
    intro w25 r26 bt24 zbt24
    have FM : Shh (Below X12.heap.size X12 w25 ∧ Row w25 G9 22 (Lib.byteCells rr) ∧ X12.heap.size ≤ G9 ∧ X12.heap.size ≤ G9 ∧ Row w25 G8 22 (Lib.byteCells kk) ∧ X12.heap.size ≤ G8 ∧ ¬ G8 = G9) := by
     obtain ⟨h0, h1, h2, h3, h4, h5, h6⟩ := FL.out
     have := h1.lt
     have := h4.lt
     have := h0.size
     have hb := bt24.under (Nat.le_of_lt h1.lt) (Nat.le_refl _)
     have := hb.size
     exact ⟨h0.trans (bt24.under (by omega) (by omega)), r26, h2, h3, bt24.row h4 h4.lt (by omega), h5, h6⟩
    clear bt24 FL r26 zbt24
    refine ⟨(Row.go FG.out.1 FM.out.1), ?_⟩
    refine wpAnyH_done (by kernel_rfl) ?_ _
    have HZ : Shh (Row w25 N 22 (Lib.byteCells m) ∧ Sl w25 (N) (.slice A ek.length c) (ek) ∧ KVars w25 ∧ 0 < N ∧ Below N w w25 ∧ Row w25 G4 22 (Lib.byteCells z32) ∧ N < G4 ∧ Row w25 G6 24 ([.int .i64 0]) ∧ G4 < G6 ∧ Row w25 G7 22 (Lib.byteCells hh) ∧ G6 < G7 ∧ Row w25 G8 22 (Lib.byteCells kk) ∧ Row w25 G9 22 (Lib.byteCells rr) ∧ G7 < G8 ∧ G7 < G9) := by
     obtain ⟨h0, h1, h2, h3, h4, h5, h6, h7, h8, h9, h10⟩ := FG.out
     obtain ⟨d0, d1, d2, d3, d4, d5, d6⟩ := FM.out
     have := h0.lt
     have := h5.lt
     have := h7.lt
     have := h9.lt
     have := d1.lt
     have := d4.lt
     have := d0.size
     exact ⟨h0.go d0, h1.below (d0.mono (by omega)), h2.step d0, h3, h4.trans (d0.mono (by omega)), h5.go d0, h6, h7.go d0, h8, h9.go d0, h10, d4, d1, (by omega), (by omega)⟩
    clear FM
    revert HZ
    revert w25
    revert G9
    revert G8
    exact hT.out
  ·refine step_zero32 6 8 (by rfl) (by kernel_rfl) ?_
   intro G8 w14 hG8 r15 b13
   have FI : Shh (Below X12.heap.size X12 w14 ∧ Row w14 G8 22 (Lib.byteCells z32) ∧ X12.heap.size ≤ G8 ∧ X12.heap.size ≤ G8) := by
    have h0 := FH.out
    have := b13.size
    have := h0.size
    have := hG8.out
    exact ⟨Below.chain h0 b13, r15, (by omega), (by omega)⟩
   clear b13 FH r15 hG8
   refine ⟨(Row.go FG.out.1 FI.out.1), ?_⟩
   simp only [Act.put, arr9, hd9, tl9]
   refine held_two 2 7 (by kernel_rfl) ?_ ?_
   ·refine step_call 2 _ _ (some 19) 25 #[.agg (Lib.byteCells m).toArray, .slice (some ⟨G7, 0, none⟩) 32 32] (by rfl) (by kernel_rfl) (by first | kernel_rfl | go_simp) ?_
    refine (HDE.out w14 (G7 + 1) _ (Sl.of_bytes ((Row.go FG.out.2.2.2.2.2.2.2.2.2.1 FI.out.1)) (Nat.lt_succ_self _) HLL.out.2.1 (by decide)) ((Row.go FG.out.2.2.2.2.2.2.2.2.2.1 FI.out.1)).lt (FG.out.2.2.1.step FI.out.1)).mono ?_
    rintro e w17 ⟨rfl, b16⟩
    have FJ : Shh (Below X12.heap.size X12 w17 ∧ Row w17 G8 22 (Lib.byteCells z32) ∧ X12.heap.size ≤ G8 ∧ X12.heap.size ≤ G8) := by
     obtain ⟨h0, h1, h2, h3⟩ := FI.out
     have := h1.lt
     have := b16.size
     have := h0.size
     exact ⟨Below.chain h0 b16, h1.go b16, h2, h3⟩
    clear b16 FI
    refine ⟨_, rfl, (Row.go FG.out.1 FJ.out.1), ?_⟩
    simp only [Act.put, arr9, hd9, tl9]
    refine hdv0 3 16 (.tuple #[.agg (Lib.byteCells kk).toArray, .agg (Lib.byteCells rr).toArray]) (by rfl) (Row.go FG.out.1 FJ.out.1) ?_ (hQ := fun _ _ _ _ h => panic_put (put_en (d := 16) (by decide)) h)
    refine hdv0 4 20 (.agg (Lib.byteCells kk).toArray) (by rfl) (Row.go FG.out.1 FJ.out.1) ?_ (hQ := fun _ _ _ _ h => panic_put (put_en (d := 20) (by decide)) h)
    refine hdv0 5 21 (.agg (Lib.byteCells rr).toArray) (by rfl) (Row.go FG.out.1 FJ.out.1) ?_ (hQ := fun _ _ _ _ h => panic_put (put_en (d := 21) (by decide)) h)
    refine held_one 7 (by kernel_rfl) ?_
    refine step_zero32 7 9 (by rfl) (by kernel_rfl) ?_
    intro G9 w19 hG9 r20 b18
    have FK : Shh (Below X12.heap.size X12 w19 ∧ Row w19 G8 22 (Lib.byteCells z32) ∧ X12.heap.size ≤ G8 ∧ X12.heap.size ≤ G8 ∧ Row w19 G9 22 (Lib.byteCells z32) ∧ X12.heap.size ≤ G9 ∧ ¬ G8 = G9) := by
     obtain ⟨h0, h1, h2, h3⟩ := FJ.out
     have := h1.lt
     have := b18.size
     have := h0.size
     have := hG9.out
     exact ⟨Below.chain h0 b18, h1.go b18, h2, h3, r20, (by omega), (by omega)⟩
    clear b18 FJ r20 hG9
    refine ⟨(Row.go FG.out.1 FK.out.1), ?_⟩
    simp only [Act.put, arr9, hd9, tl9]
    refine held_one 8 (by kernel_rfl) ?_
    refine step_storeRow 8 22 (.tmp 8) (.tmp 20) (by rfl) (by kernel_rfl) G8 rfl (Lib.byteCells kk) rfl 22 (Lib.byteCells z32) (FK.out.2.1) (size_a32 HLL.out.2.2.1) (by rw [Lib.byteCells_length, Lib.byteCells_length, HLL.out.2.2.1, z32_length]) (cell_oneCell _) ?_
    intro w22 r23 bt21 zbt21
    have FL : Shh (Below X12.heap.size X12 w22 ∧ Row w22 G8 22 (Lib.byteCells kk) ∧ X12.heap.size ≤ G8 ∧ X12.heap.size ≤ G8 ∧ Row w22 G9 22 (Lib.byteCells z32) ∧ X12.heap.size ≤ G9 ∧ ¬ G8 = G9) := by
     obtain ⟨h0, h1, h2, h3, h4, h5, h6⟩ := FK.out
     have := h1.lt
     have := h4.lt
     have := h0.size
     have hb := bt21.under (Nat.le_of_lt h1.lt) (Nat.le_refl _)
     have := hb.size
     exact ⟨h0.trans (bt21.under (by omega) (by omega)), r23, h2, h3, bt21.row h4 h4.lt (by omega), h5, h6⟩
    clear bt21 FK r23 zbt21
    refine ⟨(Row.go FG.out.1 FL.out.1), ?_⟩
    refine held_one 9 (by kernel_rfl) ?_
    refine step_storeRow 9 22 (.tmp 9) (.tmp 21) (by rfl) (by kernel_rfl) G9 rfl (Lib.byteCells rr) rfl 22 (Lib.byteCells z32) (FL.out.2.2.2.2.1) (size_a32 HLL.out.2.2.2.1) (by rw [Lib.byteCells_length, Lib.byteCells_length, HLL.out.2.2.2.1, z32_length]) (cell_oneCell _) ?_
    intro w25 r26 bt24 zbt24
    have FM : Shh (Below X12.heap.size X12 w25 ∧ Row w25 G8 22 (Lib.byteCells kk) ∧ X12.heap.size ≤ G8 ∧ X12.heap.size ≤ G8 ∧ Row w25 G9 22 (Lib.byteCells rr) ∧ X12.heap.size ≤ G9 ∧ ¬ G8 = G9) := by
     obtain ⟨h0, h1, h2, h3, h4, h5, h6⟩ := FL.out
     have := h1.lt
     have := h4.lt
     have := h0.size
     have hb := bt24.under (Nat.le_of_lt h4.lt) (Nat.le_refl _)
     have := hb.size
     exact ⟨h0.trans (bt24.under (by omega) (by omega)), bt24.row h1 h1.lt (by omega), h2, h3, r26, h5, h6⟩
    clear bt24 FL r26 zbt24
    refine ⟨(Row.go FG.out.1 FM.out.1), ?_⟩
    refine wpAnyH_done (by kernel_rfl) ?_ _
    have HZ : Shh (Row w25 N 22 (Lib.byteCells m) ∧ Sl w25 (N) (.slice A ek.length c) (ek) ∧ KVars w25 ∧ 0 < N ∧ Below N w w25 ∧ Row w25 G4 22 (Lib.byteCells z32) ∧ N < G4 ∧ Row w25 G6 24 ([.int .i64 0]) ∧ G4 < G6 ∧ Row w25 G7 22 (Lib.byteCells hh) ∧ G6 < G7 ∧ Row w25 G8 22 (Lib.byteCells kk) ∧ Row w25 G9 22 (Lib.byteCells rr) ∧ G7 < G8 ∧ G7 < G9) := by
     obtain ⟨h0, h1, h2, h3, h4, h5, h6, h7, h8, h9, h10⟩ := FG.out
     obtain ⟨d0, d1, d2, d3, d4, d5, d6⟩ := FM.out
     have := h0.lt
     have := h5.lt
     have := h7.lt
     have := h9.lt
     have := d1.lt
     have := d4.lt
     have := d0.size
     exact ⟨h0.go d0, h1.below (d0.mono (by omega)), h2.step d0, h3, h4.trans (d0.mono (by omega)), h5.go d0, h6, h7.go d0, h8, h9.go d0, h10, d1, d4, (by omega), (by omega)⟩
    clear FM
    revert HZ
    revert w25
    revert G9
    revert G8
    exact hT.out
   ·refine step_zero32 7 9 (by rfl) (by kernel_rfl) ?_
    intro G9 w17 hG9 r18 b16
    have FJ : Shh (Below X12.heap.size X12 w17 ∧ Row w17 G8 22 (Lib.byteCells z32) ∧ X12.heap.size ≤ G8 ∧ X12.heap.size ≤ G8 ∧ Row w17 G9 22 (Lib.byteCells z32) ∧ X12.heap.size ≤ G9 ∧ ¬ G8 = G9) := by
     obtain ⟨h0, h1, h2, h3⟩ := FI.out
     have := h1.lt
     have := b16.size
     have := h0.size
     have := hG9.out
     exact ⟨Below.chain h0 b16, h1.go b16, h2, h3, r18, (by omega), (by omega)⟩
    clear b16 FI r18 hG9
    refine ⟨(Row.go FG.out.1 FJ.out.1), ?_⟩
    simp only [Act.put, arr9, hd9, tl9]
    refine held_one 2 (by kernel_rfl) ?_
    refine step_call 2 _ _ (some 19) 25 #[.agg (Lib.byteCells m).toArray, .slice (some ⟨G7, 0, none⟩) 32 32] (by rfl) (by kernel_rfl) (by first | kernel_rfl | go_simp) ?_
    refine (HDE.out w17 (G7 + 1) _ (Sl.of_bytes ((Row.go FG.out.2.2.2.2.2.2.2.2.2.1 FJ.out.1)) (Nat.lt_succ_self _) HLL.out.2.1 (by decide)) ((Row.go FG.out.2.2.2.2.2.2.2.2.2.1 FJ.out.1)).lt (FG.out.2.2.1.step FJ.out.1)).mono ?_
    rintro e w20 ⟨rfl, b19⟩
    have FK : Shh (Below X12.heap.size X12 w20 ∧ Row w20 G8 22 (Lib.byteCells z32) ∧ X12.heap.size ≤ G8 ∧ X12.heap.size ≤ G8 ∧ Row w20 G9 22 (Lib.byteCells z32) ∧ X12.heap.size ≤ G9 ∧ ¬ G8 = G9) := by
     obtain ⟨h0, h1, h2, h3, h4, h5, h6⟩ := FJ.out
     have := h1.lt
     have := h4.lt
     have := b19.size
     have := h0.size
     exact ⟨Below.chain h0 b19, h1.go b19, h2, h3, h4.go b19, h5, h6⟩
    clear b19 FJ
    refine ⟨_, rfl, (Row.go FG.out.1 FK.out.1), ?_⟩
    simp only [Act.put, arr9, hd9, tl9]
    refine hdv0 3 16 (.tuple #[.agg (Lib.byteCells kk).toArray, .agg (Lib.byteCells rr).toArray]) (by rfl) (Row.go FG.out.1 FK.out.1) ?_ (hQ := fun _ _ _ _ h => panic_put (put_en (d := 16) (by decide)) h)
    refine hdv0 4 20 (.agg (Lib.byteCells kk).toArray) (by rfl) (Row.go FG.out.1 FK.out.1) ?_ (hQ := fun _ _ _ _ h => panic_put (put_en (d := 20) (by decide)) h)
    refine hdv0 5 21 (.agg (Lib.byteCells rr).toArray) (by rfl) (Row.go FG.out.1 FK.out.1) ?_ (hQ := fun _ _ _ _ h => panic_put (put_en (d := 21) (by decide)) h)
    refine held_one 8 (by kernel_rfl) ?_
    refine step_storeRow 8 22 (.tmp 8) (.tmp 20) (by rfl) (by kernel_rfl) G8 rfl (Lib.byteCells kk) rfl 22 (Lib.byteCells z32) (FK.out.2.1) (size_a32 HLL.out.2.2.1) (by rw [Lib.byteCells_length, Lib.byteCells_length, HLL.out.2.2.1, z32_length]) (cell_oneCell _) ?_
    intro w22 r23 bt21 zbt21
    have FL : Shh (Below X12.heap.size X12 w22 ∧ Row w22 G8 22 (Lib.byteCells kk) ∧ X12.heap.size ≤ G8 ∧ X12.heap.size ≤ G8 ∧ Row w22 G9 22 (Lib.byteCells z32) ∧ X12.heap.size ≤ G9 ∧ ¬ G8 = G9) := by
     obtain ⟨h0, h1, h2, h3, h4, h5, h6⟩ := FK.out
     have := h1.lt
     have := h4.lt
     have := h0.size
     have hb := bt21.under (Nat.le_of_lt h1.lt) (Nat.le_refl _)
     have := hb.size
     exact ⟨h0.trans (bt21.under (by omega) (by omega)), r23, h2, h3, bt21.row h4 h4.lt (by omega), h5, h6⟩
    clear bt21 FK r23 zbt21
    refine ⟨(Row.go FG.out.1 FL.out.1), ?_⟩
    refine held_one 9 (by kernel_rfl) ?_
    refine step_storeRow 9 22 (.tmp 9) (.tmp 21) (by rfl) (by kernel_rfl) G9 rfl (Lib.byteCells rr) rfl 22 (Lib.byteCells z32) (FL.out.2.2.2.2.1) (size_a32 HLL.out.2.2.2.1) (by rw [Lib.byteCells_length, Lib.byteCells_length, HLL.out.2.2.2.1, z32_length]) (cell_oneCell _) ?_
    intro w25 r26 bt24 zbt24
    have FM : Shh (Below X12.heap.size X12 w25 ∧ Row w25 G8 22 (Lib.byteCells kk) ∧ X12.heap.size ≤ G8 ∧ X12.heap.size ≤ G8 ∧ Row w25 G9 22 (Lib.byteCells rr) ∧ X12.heap.size ≤ G9 ∧ ¬ G8 = G9) := by
     obtain ⟨h0, h1, h2, h3, h4, h5, h6⟩ := FL.out
     have := h1.lt
     have := h4.lt
     have := h0.size
     have hb := bt24.under (Nat.le_of_lt h4.lt) (Nat.le_refl _)
     have := hb.size
     exact ⟨h0.trans (bt24.under (by omega) (by omega)), bt24.row h1 h1.lt (by omega), h2, h3, r26, h5, h6⟩
    clear bt24 FL r26 zbt24
    refine ⟨(Row.go FG.out.1 FM.out.1), ?_⟩
    refine wpAnyH_done (by kernel_rfl) ?_ _
    have HZ : Shh (Row w25 N 22 (Lib.byteCells m) ∧ Sl w25 (N) (.slice A ek.length c) (ek) ∧ KVars w25 ∧ 0 < N ∧ Below N w w25 ∧ Row w25 G4 22 (Lib.byteCells z32) ∧ N < G4 ∧ Row w25 G6 24 ([.int .i64 0]) ∧ G4 < G6 ∧ Row w25 G7 22 (Lib.byteCells hh) ∧ G6 < G7 ∧ Row w25 G8 22 (Lib.byteCells kk) ∧ Row w25 G9 22 (Lib.byteCells rr) ∧ G7 < G8 ∧ G7 < G9) := by
     obtain ⟨h0, h1, h2, h3, h4, h5, h6, h7, h8, h9, h10⟩ := FG.out
     obtain ⟨d0, d1, d2, d3, d4, d5, d6⟩ := FM.out
     have := h0.lt
     have := h5.lt
     have := h7.lt
     have := h9.lt
     have := d1.lt
     have := d4.lt
     have := d0.size
     exact ⟨h0.go d0, h1.below (d0.mono (by omega)), h2.step d0, h3, h4.trans (d0.mono (by omega)), h5.go d0, h6, h7.go d0, h8, h9.go d0, h10, d1, d4, (by omega), (by omega)⟩
    clear FM
    revert HZ
    revert w25
    revert G9
    revert G8
    exact hT.out
  ·refine step_zero32 7 9 (by rfl) (by kernel_rfl) ?_
   intro G9 w14 hG9 r15 b13
   have FI : Shh (Below X12.heap.size X12 w14 ∧ Row w14 G9 22 (Lib.byteCells z32) ∧ X12.heap.size ≤ G9 ∧ X12.heap.size ≤ G9) := by
    have h0 := FH.out
    have := b13.size
    have := h0.size
    have := hG9.out
    exact ⟨Below.chain h0 b13, r15, (by omega), (by omega)⟩
   clear b13 FH r15 hG9
   refine ⟨(Row.go FG.out.1 FI.out.1), ?_⟩
   simp only [Act.put, arr9, hd9, tl9]
   refine held_two 2 6 (by kernel_rfl) ?_ ?_
   ·refine step_call 2 _ _ (some 19) 25 #[.agg (Lib.byteCells m).toArray, .slice (some ⟨G7, 0, none⟩) 32 32] (by rfl) (by kernel_rfl) (by first | kernel_rfl | go_simp) ?_
    refine (HDE.out w14 (G7 + 1) _ (Sl.of_bytes ((Row.go FG.out.2.2.2.2.2.2.2.2.2.1 FI.out.1)) (Nat.lt_succ_self _) HLL.out.2.1 (by decide)) ((Row.go FG.out.2.2.2.2.2.2.2.2.2.1 FI.out.1)).lt (FG.out.2.2.1.step FI.out.1)).mono ?_
    rintro e w17 ⟨rfl, b16⟩
    have FJ : Shh (Below X12.heap.size X12 w17 ∧ Row w17 G9 22 (Lib.byteCells z32) ∧ X12.heap.size ≤ G9 ∧ X12.heap.size ≤ G9) := by
     obtain ⟨h0, h1, h2, h3⟩ := FI.out
     have := h1.lt
     have := b16.size
     have := h0.size
     exact ⟨Below.chain h0 b16, h1.go b16, h2, h3⟩
    clear b16 FI
    refine ⟨_, rfl, (Row.go FG.out.1 FJ.out.1), ?_⟩
    simp only [Act.put, arr9, hd9, tl9]
    refine hdv0 3 16 (.tuple #[.agg (Lib.byteCells kk).toArray, .agg (Lib.byteCells rr).toArray]) (by rfl) (Row.go FG.out.1 FJ.out.1) ?_ (hQ := fun _ _ _ _ h => panic_put (put_en (d := 16) (by decide)) h)
    refine hdv0 4 20 (.agg (Lib.byteCells kk).toArray) (by rfl) (Row.go FG.out.1 FJ.out.1) ?_ (hQ := fun _ _ _ _ h => panic_put (put_en (d := 20) (by decide)) h)
    refine hdv0 5 21 (.agg (Lib.byteCells rr).toArray) (by rfl) (Row.go FG.out.1 FJ.out.1) ?_ (hQ := fun _ _ _ _ h => panic_put (put_en (d := 21) (by decide)) h)
    refine held_one 6 (by kernel_rfl) ?_
    refine step_zero32 6 8 (by rfl) (by kernel_rfl) ?_
    intro G8 w19 hG8 r20 b18
    have FK : Shh (Below X12.heap.size X12 w19 ∧ Row w19 G9 22 (Lib.byteCells z32) ∧ X12.heap.size ≤ G9 ∧ X12.heap.size ≤ G9 ∧ Row w19 G8 22 (Lib.byteCells z32) ∧ X12.heap.size ≤ G8 ∧ ¬ G8 = G9) := by
     obtain ⟨h0, h1, h2, h3⟩ := FJ.out
     have := h1.lt
     have := b18.size
     have := h0.size
     have := hG8.out
     exact ⟨Below.chain h0 b18, h1.go b18, h2, h3, r20, (by omega), (by omega)⟩
    clear b18 FJ r20 hG8
    refine ⟨(Row.go FG.out.1 FK.out.1), ?_⟩
    simp only [Act.put, arr9, hd9, tl9]
    refine held_one 8 (by kernel_rfl) ?_
    refine step_storeRow 8 22 (.tmp 8) (.tmp 20) (by rfl) (by kernel_rfl) G8 rfl (Lib.byteCells kk) rfl 22 (Lib.byteCells z32) (FK.out.2.2.2.2.1) (size_a32 HLL.out.2.2.1) (by rw [Lib.byteCells_length, Lib.byteCells_length, HLL.out.2.2.1, z32_length]) (cell_oneCell _) ?_
    intro w22 r23 bt21 zbt21
    have FL : Shh (Below X12.heap.size X12 w22 ∧ Row w22 G9 22 (Lib.byteCells z32) ∧ X12.heap.size ≤ G9 ∧ X12.heap.size ≤ G9 ∧ Row w22 G8 22 (Lib.byteCells kk) ∧ X12.heap.size ≤ G8 ∧ ¬ G8 = G9) := by
     obtain ⟨h0, h1, h2, h3, h4, h5, h6⟩ := FK.out
     have := h1.lt
     have := h4.lt
     have := h0.size
     have hb := bt21.under (Nat.le_of_lt h4.lt) (Nat.le_refl _)
     have := hb.size
     exact ⟨h0.trans (bt21.under (by omega) (by omega)), bt21.row h1 h1.lt (by omega), h2, h3, r23, h5, h6⟩
    clear bt21 FK r23 zbt21
    refine ⟨(Row.go FG.out.1 FL.out.1), ?_⟩
    refine held_one 9 (by kernel_rfl) ?_
    refine step_storeRow 9 22 (.tmp 9) (.tmp 21) (by rfl) (by kernel_rfl) G9 rfl (Lib.byteCells rr) rfl 22 (Lib.byteCells z32) (FL.out.2.1) (size_a32 HLL.out.2.2.2.1) (by rw [Lib.byteCells_length, Lib.byteCells_length, HLL.out.2.2.2.1, z32_length]) (cell_oneCell _) ?_
    intro w25 r26 bt24 zbt24
    have FM : Shh (Below X12.heap.size X12 w25 ∧ Row w25 G9 22 (Lib.byteCells rr) ∧ X12.heap.size ≤ G9 ∧ X12.heap.size ≤ G9 ∧ Row w25 G8 22 (Lib.byteCells kk) ∧ X12.heap.size ≤ G8 ∧ ¬ G8 = G9) := by
     obtain ⟨h0, h1, h2, h3, h4, h5, h6⟩ := FL.out
     have := h1.lt
     have := h4.lt
     have := h0.size
     have hb := bt24.under (Nat.le_of_lt h1.lt) (Nat.le_refl _)
     have := hb.size
     exact ⟨h0.trans (bt24.under (by omega) (by omega)), r26, h2, h3, bt24.row h4 h4.lt (by omega), h5, h6⟩
    clear bt24 FL r26 zbt24
    refine ⟨(Row.go FG.out.1 FM.out.1), ?_⟩
    refine wpAnyH_done (by kernel_rfl) ?_ _
    have HZ : Shh (Row w25 N 22 (Lib.byteCells m) ∧ Sl w25 (N) (.slice A ek.length c) (ek) ∧ KVars w25 ∧ 0 < N ∧ Below N w w25 ∧ Row w25 G4 22 (Lib.byteCells z32) ∧ N < G4 ∧ Row w25 G6 24 ([.int .i64 0]) ∧ G4 < G6 ∧ Row w25 G7 22 (Lib.byteCells hh) ∧ G6 < G7 ∧ Row w25 G8 22 (Lib.byteCells kk) ∧ Row w25 G9 22 (Lib.byteCells rr) ∧ G7 < G8 ∧ G7 < G9) := by
     obtain ⟨h0, h1, h2, h3, h4, h5, h6, h7, h8, h9, h10⟩ := FG.out
     obtain ⟨d0, d1, d2, d3, d4, d5, d6⟩ := FM.out
     have := h0.lt
     have := h5.lt
     have := h7.lt
     have := h9.lt
     have := d1.lt
     have := d4.lt
     have := d0.size
     exact ⟨h0.go d0, h1.below (d0.mono (by omega)), h2.step d0, h3, h4.trans (d0.mono (by omega)), h5.go d0, h6, h7.go d0, h8, h9.go d0, h10, d4, d1, (by omega), (by omega)⟩
    clear FM
    revert HZ
    revert w25
    revert G9
    revert G8
    exact hT.out
   ·refine step_zero32 6 8 (by rfl) (by kernel_rfl) ?_
    intro G8 w17 hG8 r18 b16
    have FJ : Shh (Below X12.heap.size X12 w17 ∧ Row w17 G9 22 (Lib.byteCells z32) ∧ X12.heap.size ≤ G9 ∧ X12.heap.size ≤ G9 ∧ Row w17 G8 22 (Lib.byteCells z32) ∧ X12.heap.size ≤ G8 ∧ ¬ G8 = G9) := by
     obtain ⟨h0, h1, h2, h3⟩ := FI.out
     have := h1.lt
     have := b16.size
     have := h0.size
     have := hG8.out
     exact ⟨Below.chain h0 b16, h1.go b16, h2, h3, r18, (by omega), (by omega)⟩
    clear b16 FI r18 hG8
    refine ⟨(Row.go FG.out.1 FJ.out.1), ?_⟩
    simp only [Act.put, arr9, hd9, tl9]
    refine held_one 2 (by kernel_rfl) ?_
    refine step_call 2 _ _ (some 19) 25 #[.agg (Lib.byteCells m).toArray, .slice (some ⟨G7, 0, none⟩) 32 32] (by rfl) (by kernel_rfl) (by first | kernel_rfl | go_simp) ?_
    refine (HDE.out w17 (G7 + 1) _ (Sl.of_bytes ((Row.go FG.out.2.2.2.2.2.2.2.2.2.1 FJ.out.1)) (Nat.lt_succ_self _) HLL.out.2.1 (by decide)) ((Row.go FG.out.2.2.2.2.2.2.2.2.2.1 FJ.out.1)).lt (FG.out.2.2.1.step FJ.out.1)).mono ?_
    rintro e w20 ⟨rfl, b19⟩
    have FK : Shh (Below X12.heap.size X12 w20 ∧ Row w20 G9 22 (Lib.byteCells z32) ∧ X12.heap.size ≤ G9 ∧ X12.heap.size ≤ G9 ∧ Row w20 G8 22 (Lib.byteCells z32) ∧ X12.heap.size ≤ G8 ∧ ¬ G8 = G9) := by
     obtain ⟨h0, h1, h2, h3, h4, h5, h6⟩ := FJ.out
     have := h1.lt
     have := h4.lt
     have := b19.size
     have := h0.size
     exact ⟨Below.chain h0 b19, h1.go b19, h2, h3, h4.go b19, h5, h6⟩
    clear b19 FJ
    refine ⟨_, rfl, (Row.go FG.out.1 FK.out.1), ?_⟩
    simp only [Act.put, arr9, hd9, tl9]
    refine hdv0 3 16 (.tuple #[.agg (Lib.byteCells kk).toArray, .agg (Lib.byteCells rr).toArray]) (by rfl) (Row.go FG.out.1 FK.out.1) ?_ (hQ := fun _ _ _ _ h => panic_put (put_en (d := 16) (by decide)) h)
    refine hdv0 4 20 (.agg (Lib.byteCells kk).toArray) (by rfl) (Row.go FG.out.1 FK.out.1) ?_ (hQ := fun _ _ _ _ h => panic_put (put_en (d := 20) (by decide)) h)
    refine hdv0 5 21 (.agg (Lib.byteCells rr).toArray) (by rfl) (Row.go FG.out.1 FK.out.1) ?_ (hQ := fun _ _ _ _ h => panic_put (put_en (d := 21) (by decide)) h)
    refine held_one 8 (by kernel_rfl) ?_
    refine step_storeRow 8 22 (.tmp 8) (.tmp 20) (by rfl) (by kernel_rfl) G8 rfl (Lib.byteCells kk) rfl 22 (Lib.byteCells z32) (FK.out.2.2.2.2.1) (size_a32 HLL.out.2.2.1) (by rw [Lib.byteCells_length, Lib.byteCells_length, HLL.out.2.2.1, z32_length]) (cell_oneCell _) ?_
    intro w22 r23 bt21 zbt21
    have FL : Shh (Below X12.heap.size X12 w22 ∧ Row w22 G9 22 (Lib.byteCells z32) ∧ X12.heap.size ≤ G9 ∧ X12.heap.size ≤ G9 ∧ Row w22 G8 22 (Lib.byteCells kk) ∧ X12.heap.size ≤ G8 ∧ ¬ G8 = G9) := by
     obtain ⟨h0, h1, h2, h3, h4, h5, h6⟩ := FK.out
     have := h1.lt
     have := h4.lt
     have := h0.size
     have hb := bt21.under (Nat.le_of_lt h4.lt) (Nat.le_refl _)
     have := hb.size
     exact ⟨h0.trans (bt21.under (by omega) (by omega)), bt21.row h1 h1.lt (by omega), h2, h3, r23, h5, h6⟩
    clear bt21 FK r23 zbt21
    refine ⟨(Row.go FG.out.1 FL.out.1), ?_⟩
    refine held_one 9 (by kernel_rfl) ?_
    refine step_storeRow 9 22 (.tmp 9) (.tmp 21) (by rfl) (by kernel_rfl) G9 rfl (Lib.byteCells rr) rfl 22 (Lib.byteCells z32) (FL.out.2.1) (size_a32 HLL.out.2.2.2.1) (by rw [Lib.byteCells_length, Lib.byteCells_length, HLL.out.2.2.2.1, z32_length]) (cell_oneCell _) ?_
    intro w25 r26 bt24 zbt24
    have FM : Shh (Below X12.heap.size X12 w25 ∧ Row w25 G9 22 (Lib.byteCells rr) ∧ X12.heap.size ≤ G9 ∧ X12.heap.size ≤ G9 ∧ Row w25 G8 22 (Lib.byteCells kk) ∧ X12.heap.size ≤ G8 ∧ ¬ G8 = G9) := by
     obtain ⟨h0, h1, h2, h3, h4, h5, h6⟩ := FL.out
     have := h1.lt
     have := h4.lt
     have := h0.size
     have hb := bt24.under (Nat.le_of_lt h1.lt) (Nat.le_refl _)
     have := hb.size
     exact ⟨h0.trans (bt24.under (by omega) (by omega)), r26, h2, h3, bt24.row h4 h4.lt (by omega), h5, h6⟩
    clear bt24 FL r26 zbt24
    refine ⟨(Row.go FG.out.1 FM.out.1), ?_⟩
    refine wpAnyH_done (by kernel_rfl) ?_ _
    have HZ : Shh (Row w25 N 22 (Lib.byteCells m) ∧ Sl w25 (N) (.slice A ek.length c) (ek) ∧ KVars w25 ∧ 0 < N ∧ Below N w w25 ∧ Row w25 G4 22 (Lib.byteCells z32) ∧ N < G4 ∧ Row w25 G6 24 ([.int .i64 0]) ∧ G4 < G6 ∧ Row w25 G7 22 (Lib.byteCells hh) ∧ G6 < G7 ∧ Row w25 G8 22 (Lib.byteCells kk) ∧ Row w25 G9 22 (Lib.byteCells rr) ∧ G7 < G8 ∧ G7 < G9) := by
     obtain ⟨h0, h1, h2, h3, h4, h5, h6, h7, h8, h9, h10⟩ := FG.out
     obtain ⟨d0, d1, d2, d3, d4, d5, d6⟩ := FM.out
     have := h0.lt
     have := h5.lt
     have := h7.lt
     have := h9.lt
     have := d1.lt
     have := d4.lt
     have := d0.size
     exact ⟨h0.go d0, h1.below (d0.mono (by omega)), h2.step d0, h3, h4.trans (d0.mono (by omega)), h5.go d0, h6, h7.go d0, h8, h9.go d0, h10, d4, d1, (by omega), (by omega)⟩
    clear FM
    revert HZ
    revert w25
    revert G9
    revert G8
    exact hT.out
 case tt1 =>
  clear FG
  intro G8 G9 X4 FA
  clear HDE
  go_wp2_with (first | refine wpList_load_any rfl 22 (.tmp 3) rfl N rfl 22 (Lib.byteCells m) _ (FA.out.1) Tryd.underlying22 rfl (size_a32 HLL.out.1) ?_ | refine wpList_load_any rfl 22 (.tmp 9) rfl G9 rfl 22 (Lib.byteCells rr) _ (FA.out.2.2.2.2.2.2.2.2.2.2.2.2.1) Tryd.underlying22 rfl (size_a32 HLL.out.2.2.2.1) ?_ | (go_at_call 26; refine (HEN.out _ N FA.out.2.1 (Nat.le_of_lt (FA.out.1).lt) FA.out.2.2.1).mono ?_))
  rintro e w5 ⟨u, rfl, hu, b5⟩
  obtain ⟨gu, cu, rfl⟩ := own_some hu (by rw [HLL.out.2.2.2.2]; decide)
  have FB : Shh (Row w5 N 22 (Lib.byteCells m) ∧ Sl w5 (N) (.slice A ek.length c) (ek) ∧ KVars w5 ∧ 0 < N ∧ Below N w w5 ∧ Row w5 G4 22 (Lib.byteCells z32) ∧ N < G4 ∧ Row w5 G6 24 ([.int .i64 0]) ∧ G4 < G6 ∧ Row w5 G7 22 (Lib.byteCells hh) ∧ G6 < G7 ∧ Row w5 G8 22 (Lib.byteCells kk) ∧ Row w5 G9 22 (Lib.byteCells rr) ∧ G7 < G8 ∧ G7 < G9 ∧ w5.ownsRow (X4.heap.size) 5 1 (.slice (some ⟨gu, 0, none⟩) ct.length cu) (ct).length (Lib.byteCells (ct)) ∧ G8 < X4.heap.size ∧ G6 < X4.heap.size ∧ G4 < X4.heap.size ∧ N ≤ X4.heap.size) := by
   obtain ⟨h0, h1, h2, h3, h4, h5, h6, h7, h8, h9, h10, h11, h12, h13, h14⟩ := FA.out
   have := h0.lt
   have := h5.lt
   have := h7.lt
   have := h9.lt
   have := h11.lt
   have := h12.lt
   have := b5.size
   exact ⟨h0.go b5, h1.below (b5.mono (by omega)), h2.step b5, h3, h4.trans (b5.mono (by omega)), h5.go b5, h6, h7.go b5, h8, h9.go b5, h10, h11.go b5, h12.go b5, h13, h14, hu, (by omega)⟩
  clear b5 FA hu HEN
  go_wp2_with (first | refine wpList_load_any rfl 22 (.tmp 8) rfl G8 rfl 22 (Lib.byteCells kk) _ (FB.out.2.2.2.2.2.2.2.2.2.2.2.1) Tryd.underlying22 rfl (size_a32 HLL.out.2.2.1) ?_ | refine wpList_store_any rfl 22 (.tmp 4) (.tmp 26) rfl G4 rfl (Lib.byteCells kk) rfl 22 _ (FB.out.2.2.2.2.2.1) (size_a32 HLL.out.2.2.1) (by rw [Lib.byteCells_length, Lib.byteCells_length, HLL.out.2.2.1, z32_length]) (cell_oneCell _) ?_)
  intro w6 r6 b6 _
  have FZ : Shh (Row w6 G4 22 (Lib.byteCells kk) ∧ Row w6 G6 24 [.int .i64 0] ∧ w6.ownsRow X4.heap.size 5 1 (.slice (some ⟨gu, 0, none⟩) ct.length cu) ct.length (Lib.byteCells ct) ∧ Below N w w6 ∧ N < G4 ∧ G4 < G6 ∧ G6 < X4.heap.size) := by
   obtain ⟨h0, h1, h2, h3, h4, h5, h6, h7, h8, h9, h10, h11, h12, h13, h14, h15, h16⟩ := FB.out
   exact ⟨r6, b6.row h7 h7.lt (by omega), own_but2 h15 b6 (fun k hk => by have := (h15.lt k hk).1; omega), h4.trans (b6.under (Nat.le_of_lt h0.lt) (by omega)), by omega, by omega, by omega⟩
  clear r6 b6 FB
  go_wp2_with (refine wl_storeEr rfl rfl rfl rfl rfl FZ.out.2.1 ?_)
  intro w7 r7 b7 _
  have FY : Shh (Row w7 G4 22 (Lib.byteCells kk) ∧ Row w7 G6 24 [.int .i64 0] ∧ w7.ownsRow X4.heap.size 5 1 (.slice (some ⟨gu, 0, none⟩) ct.length cu) ct.length (Lib.byteCells ct) ∧ Below N w w7 ∧ N < G4 ∧ G4 < G6 ∧ G6 < X4.heap.size) := by
   obtain ⟨h1, h2, h3, h4, h5, h6, h7⟩ := FZ.out
   exact ⟨b7.row h1 h1.lt (by omega), r7, own_but2 h3 b7 (fun k hk => by have := (h3.lt k hk).1; omega), h4.trans (b7.under (by have := h1.lt; omega) (by omega)), h5, h6, h7⟩
  clear r7 b7 FZ
  go_wp2
  refine leaves_cons (f := 23) (args := #[.pointer (some ⟨G6, 0, none⟩)]) (by simp) (by simp [go_sem]) ?_
  refine (idle_en G6 0 _ FY.out.2.1).mono ?_
  rintro e u' w'' ⟨rfl, rfl, rfl⟩
  obtain ⟨h1, h2, h3, h4, h5, h6, h7⟩ := FY.out
  have hbb : But w7.heap.size G6 w7 (w7.setCell ⟨G6, 0, none⟩ (.int .i64 0)) := (But.refl _ _ _).setCell _ _
  exact ⟨_, results_ctc Tryd.results8 _ _ ⟨G4, 0, none⟩ ⟨G6, 0, none⟩ _ _ _ rfl rfl rfl (load_a32 HLL.out.2.2.1 (h1.other ⟨G6, 0, none⟩ _ (by show ¬ G4 = G6; omega))) (load_er (set_er h2 0)), fun _ => ⟨_, rfl, kown_mono (own_but2 h3 hbb (fun k hk => by have := (h3.lt k hk).1; omega)) (by omega), h4.setCell (p := ⟨G6, 0, none⟩) (by show N ≤ G6; omega) _⟩, fun h => absurd hok h⟩
end Go.Proofs.YtbjpbeplpljieaaDoor
