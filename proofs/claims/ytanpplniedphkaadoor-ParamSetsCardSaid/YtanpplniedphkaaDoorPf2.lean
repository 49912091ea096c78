/-
  WHO HANDS THE ITERATORS BACK; told: codes that are told, at most so many.
-/
import Derived.Test.YtanpplniedphkaaDoorPf1
import Derived.RangeFuncWrites
namespace Go.Proofs.YtanpplniedphkaaDoor
open Go.RowKit Go.Shelf
set_option maxRecDepth 100000
attribute [local go_sem] Oper.semAt_some
/-- v is the iterator f over the blocks of codes from bs on of which find has a set -/
def ItAt (f find : Nat) (bs : List Nat) (w : World) (v : Value) : Prop := ∃ bB fB g, v = .func (.func f) #[] #[.pointer (some ⟨bB, 0, none⟩), .pointer (some ⟨fB, 0, none⟩)] ∧ (bB < w.heap.size ∧ fB < w.heap.size ∧ g < w.heap.size) ∧
  w.cell? ⟨bB, 0, none⟩ = some (.slice (some ⟨g, 0, none⟩) bs.length bs.length) ∧ w.cell? ⟨fB, 0, none⟩ = some (.func (.func find) #[] #[]) ∧ ∀ i, i < bs.length → w.cell? ⟨g, i, none⟩ = some (.int .u32 ((bs.getD i 0 : Nat) : Int))
theorem ItAt.go {f find : Nat} {bs : List Nat} {w w' : World} {v : Value} (h : ItAt f find bs w v) (b : Below w.heap.size w w') : ItAt f find bs w' v := by
  obtain ⟨bB, fB, g, rfl, ⟨l1, l2, l3⟩, h1, h2, h3⟩ := h
  have := b.size
  exact ⟨bB, fB, g, rfl, ⟨by omega, by omega, by omega⟩, (b.cell (p := ⟨bB, 0, none⟩) l1).trans h1, (b.cell (p := ⟨fB, 0, none⟩) l2).trans h2, fun i hi => (b.cell (p := ⟨g, i, none⟩) l3).trans (h3 i hi)⟩
/-- what an iterator promises: all of L in order, or a beginning of it -/
def Stops (gf : Nat) (lb : Array Value) (L : List C32) (n₀ : Nat) (w : World) : Prop := SeqStopsK Fence.wide 3 Tryd.prog gf lb (fun x : C32 => #[Value.int .u32 (x.1 : Int)]) (Below n₀) (fun ys => ys = L) (fun pre => pre <+: L) (L.length + 100000) w
/-- an iterator is handed back -/
def ItIs (f find : Nat) (bs : List Nat) (w : World) (e : Ending) (w' : World) : Prop := ∃ v, e = .returned v ∧ ItAt f find bs w' v ∧ Below w.heap.size w w'
theorem stopsOts (v : Value) (w : World) (h : ItAt 109 18 [0] w v) : ∃ lb, v = .func (.func 109) #[] lb ∧ Stops 109 lb (upC okO [0] 64) w.heap.size w := by
  obtain ⟨bB, fB, g, rfl, ⟨l1, l2, l3⟩, h1, h2, h3⟩ := h
  refine ⟨_, rfl, fun l J Jx W hW hJ _ hY h0 => ?_⟩
  exact codesOts_in l bB fB g w.heap.size [0] (by decide) (by decide) J Jx W hJ (fun pre x W1 hj hl => hY pre x W1 hj (Nat.lt_of_lt_of_le hl (by simp))) hW.size l1 l2 l3 ((hW.cell (p := ⟨bB, 0, none⟩) l1).trans h1) ((hW.cell (p := ⟨fB, 0, none⟩) l2).trans h2) (fun i hi => (hW.cell (p := ⟨g, i, none⟩) l3).trans (h3 i hi)) h0
theorem newOts (g : Nat) (w : World) (hr : Row w g 44 [.int .u32 0]) : Calls Tryd.prog 97 #[.func (.func 18) #[] #[], .slice (some ⟨g, 0, none⟩) 1 1] w (ItIs 109 18 [0] w) := by
  unfold ItIs ItAt
  have HR := Shh.mk hr
  clear hr
  have b1 : Below w.heap.size w ((w.alloc (.cells #[.func (.func 18) #[] #[]] 48)).alloc (.cells #[.slice (some ⟨g, 0, none⟩) 1 1] 57)) := (Below.alloc (Below.refl _ _) (Nat.le_refl _) _).trans (Below.alloc (Below.refl _ _) (by simp only [asz]; omega) _)
  have HB := Shh.mk b1
  clear b1
  go_enter Tryd.func97, Tryd.ntmps97
  go_wp2
  go_ret
  have hl := HR.out.lt
  have hr2 := HR.out.go HB.out
  have r2 := Row.new_ (w := w.alloc (.cells #[.func (.func 18) #[] #[]] 48)) (T := 57) (cs := [.slice (some ⟨g, 0, none⟩) 1 1]) (asz _ _).symm rfl
  have r1 := (Row.new_ (w := w) (T := 48) (cs := [.func (.func 18) #[] #[]]) rfl rfl).alloc (.cells #[.slice (some ⟨g, 0, none⟩) 1 1] 57)
  refine ⟨_, rfl, ⟨w.heap.size + 1, w.heap.size, g, rfl, ⟨?_, ?_, hr2.lt⟩, ?_, ?_, ?_⟩, HB.out⟩
  · simp only [asz]; omega
  · simp only [asz]; omega
  · exact r2.cell 0
  · exact r1.cell 0
  · intro i hi
    have hi' : i < 1 := hi
    rcases (by omega : i = 0) with rfl
    · exact hr2.cell 0
theorem codesOfOts (w : World) : Calls Tryd.prog 72 #[] w (ItIs 109 18 [0] w) := by
  obtain ⟨W, hW⟩ : ∃ W, W = w.alloc (.cells #[.int .u32 0] 44) := ⟨_, rfl⟩
  have HR : Shh (Row W w.heap.size 44 [.int .u32 0] ∧ Below w.heap.size w W) := ⟨by rw [hW]; exact Row.new_ rfl rfl, by rw [hW]; exact Below.alloc (Below.refl _ _) (Nat.le_refl _) _⟩
  rw [hW] at HR
  clear hW
  unfold ItIs
  go_enter Tryd.func72, Tryd.ntmps72
  go_wp2_with (go_at_call 97; refine (newOts w.heap.size _ HR.out.1).mono ?_)
  unfold ItIs
  rintro e w2 ⟨v, rfl, hi, b2⟩
  have F : Shh (ItAt 109 18 [0] w2 v ∧ Below w.heap.size w w2) := ⟨hi, Below.chain HR.out.2 b2⟩
  clear hi b2 HR
  go_wp2
  go_ret
  exact ⟨_, rfl, F.out.1, F.out.2⟩
theorem stopsLms (v : Value) (w : World) (h : ItAt 110 19 [0, 4026531840] w v) : ∃ lb, v = .func (.func 110) #[] lb ∧ Stops 110 lb (upC okL [0, 4026531840] 128) w.heap.size w := by
  obtain ⟨bB, fB, g, rfl, ⟨l1, l2, l3⟩, h1, h2, h3⟩ := h
  refine ⟨_, rfl, fun l J Jx W hW hJ _ hY h0 => ?_⟩
  exact codesLms_in l bB fB g w.heap.size [0, 4026531840] (by decide) (by decide) J Jx W hJ (fun pre x W1 hj hl => hY pre x W1 hj (Nat.lt_of_lt_of_le hl (by simp))) hW.size l1 l2 l3 ((hW.cell (p := ⟨bB, 0, none⟩) l1).trans h1) ((hW.cell (p := ⟨fB, 0, none⟩) l2).trans h2) (fun i hi => (hW.cell (p := ⟨g, i, none⟩) l3).trans (h3 i hi)) h0
theorem newLms (g : Nat) (w : World) (hr : Row w g 44 [.int .u32 0, .int .u32 4026531840]) : Calls Tryd.prog 98 #[.func (.func 19) #[] #[], .slice (some ⟨g, 0, none⟩) 2 2] w (ItIs 110 19 [0, 4026531840] w) := by
  unfold ItIs ItAt
  have HR := Shh.mk hr
  clear hr
  have b1 : Below w.heap.size w ((w.alloc (.cells #[.func (.func 19) #[] #[]] 52)).alloc (.cells #[.slice (some ⟨g, 0, none⟩) 2 2] 57)) := (Below.alloc (Below.refl _ _) (Nat.le_refl _) _).trans (Below.alloc (Below.refl _ _) (by simp only [asz]; omega) _)
  have HB := Shh.mk b1
  clear b1
  go_enter Tryd.func98, Tryd.ntmps98
  go_wp2
  go_ret
  have hl := HR.out.lt
  have hr2 := HR.out.go HB.out
  have r2 := Row.new_ (w := w.alloc (.cells #[.func (.func 19) #[] #[]] 52)) (T := 57) (cs := [.slice (some ⟨g, 0, none⟩) 2 2]) (asz _ _).symm rfl
  have r1 := (Row.new_ (w := w) (T := 52) (cs := [.func (.func 19) #[] #[]]) rfl rfl).alloc (.cells #[.slice (some ⟨g, 0, none⟩) 2 2] 57)
  refine ⟨_, rfl, ⟨w.heap.size + 1, w.heap.size, g, rfl, ⟨?_, ?_, hr2.lt⟩, ?_, ?_, ?_⟩, HB.out⟩
  · simp only [asz]; omega
  · simp only [asz]; omega
  · exact r2.cell 0
  · exact r1.cell 0
  · intro i hi
    have hi' : i < 2 := hi
    rcases (by omega : i = 0 ∨ i = 1) with rfl | rfl
    · exact hr2.cell 0
    · exact hr2.cell 1
theorem codesOfLms (w : World) : Calls Tryd.prog 73 #[] w (ItIs 110 19 [0, 4026531840] w) := by
  obtain ⟨W, hW⟩ : ∃ W, W = w.alloc (.cells #[.int .u32 0, .int .u32 4026531840] 44) := ⟨_, rfl⟩
  have HR : Shh (Row W w.heap.size 44 [.int .u32 0, .int .u32 4026531840] ∧ Below w.heap.size w W) := ⟨by rw [hW]; exact Row.new_ rfl rfl, by rw [hW]; exact Below.alloc (Below.refl _ _) (Nat.le_refl _) _⟩
  rw [hW] at HR
  clear hW
  unfold ItIs
  go_enter Tryd.func73, Tryd.ntmps73
  go_wp2_with (go_at_call 98; refine (newLms w.heap.size _ HR.out.1).mono ?_)
  unfold ItIs
  rintro e w2 ⟨v, rfl, hi, b2⟩
  have F : Shh (ItAt 110 19 [0, 4026531840] w2 v ∧ Below w.heap.size w w2) := ⟨hi, Below.chain HR.out.2 b2⟩
  clear hi b2 HR
  go_wp2
  go_ret
  exact ⟨_, rfl, F.out.1, F.out.2⟩
theorem stopsXmss (v : Value) (w : World) (h : ItAt 111 20 [0, 4043309056] w v) : ∃ lb, v = .func (.func 111) #[] lb ∧ Stops 111 lb (upC okX [0, 4043309056] 128) w.heap.size w := by
  obtain ⟨bB, fB, g, rfl, ⟨l1, l2, l3⟩, h1, h2, h3⟩ := h
  refine ⟨_, rfl, fun l J Jx W hW hJ _ hY h0 => ?_⟩
  exact codesXmss_in l bB fB g w.heap.size [0, 4043309056] (by decide) (by decide) J Jx W hJ (fun pre x W1 hj hl => hY pre x W1 hj (Nat.lt_of_lt_of_le hl (by simp))) hW.size l1 l2 l3 ((hW.cell (p := ⟨bB, 0, none⟩) l1).trans h1) ((hW.cell (p := ⟨fB, 0, none⟩) l2).trans h2) (fun i hi => (hW.cell (p := ⟨g, i, none⟩) l3).trans (h3 i hi)) h0
theorem newXmss (g : Nat) (w : World) (hr : Row w g 44 [.int .u32 0, .int .u32 4043309056]) : Calls Tryd.prog 99 #[.func (.func 20) #[] #[], .slice (some ⟨g, 0, none⟩) 2 2] w (ItIs 111 20 [0, 4043309056] w) := by
  unfold ItIs ItAt
  have HR := Shh.mk hr
  clear hr
  have b1 : Below w.heap.size w ((w.alloc (.cells #[.func (.func 20) #[] #[]] 56)).alloc (.cells #[.slice (some ⟨g, 0, none⟩) 2 2] 57)) := (Below.alloc (Below.refl _ _) (Nat.le_refl _) _).trans (Below.alloc (Below.refl _ _) (by simp only [asz]; omega) _)
  have HB := Shh.mk b1
  clear b1
  go_enter Tryd.func99, Tryd.ntmps99
  go_wp2
  go_ret
  have hl := HR.out.lt
  have hr2 := HR.out.go HB.out
  have r2 := Row.new_ (w := w.alloc (.cells #[.func (.func 20) #[] #[]] 56)) (T := 57) (cs := [.slice (some ⟨g, 0, none⟩) 2 2]) (asz _ _).symm rfl
  have r1 := (Row.new_ (w := w) (T := 56) (cs := [.func (.func 20) #[] #[]]) rfl rfl).alloc (.cells #[.slice (some ⟨g, 0, none⟩) 2 2] 57)
  refine ⟨_, rfl, ⟨w.heap.size + 1, w.heap.size, g, rfl, ⟨?_, ?_, hr2.lt⟩, ?_, ?_, ?_⟩, HB.out⟩
  · simp only [asz]; omega
  · simp only [asz]; omega
  · exact r2.cell 0
  · exact r1.cell 0
  · intro i hi
    have hi' : i < 2 := hi
    rcases (by omega : i = 0 ∨ i = 1) with rfl | rfl
    · exact hr2.cell 0
    · exact hr2.cell 1
theorem codesOfXmss (w : World) : Calls Tryd.prog 74 #[] w (ItIs 111 20 [0, 4043309056] w) := by
  obtain ⟨W, hW⟩ : ∃ W, W = w.alloc (.cells #[.int .u32 0, .int .u32 4043309056] 44) := ⟨_, rfl⟩
  have HR : Shh (Row W w.heap.size 44 [.int .u32 0, .int .u32 4043309056] ∧ Below w.heap.size w W) := ⟨by rw [hW]; exact Row.new_ rfl rfl, by rw [hW]; exact Below.alloc (Below.refl _ _) (Nat.le_refl _) _⟩
  rw [hW] at HR
  clear hW
  unfold ItIs
  go_enter Tryd.func74, Tryd.ntmps74
  go_wp2_with (go_at_call 99; refine (newXmss w.heap.size _ HR.out.1).mono ?_)
  unfold ItIs
  rintro e w2 ⟨v, rfl, hi, b2⟩
  have F : Shh (ItAt 111 20 [0, 4043309056] w2 v ∧ Below w.heap.size w w2) := ⟨hi, Below.chain HR.out.2 b2⟩
  clear hi b2 HR
  go_wp2
  go_ret
  exact ⟨_, rfl, F.out.1, F.out.2⟩
/-- a slice of codes that owns its cells -/
def OwnU (w : World) (base : Nat) (v : Value) (l : List C32) : Prop := w.ownsRow base 44 1 v l.length (l.map fun x => Value.int .u32 (x.1 : Int))
/-- a slice of codes is handed back -/
def ToldIs (w : World) (l : List C32) (e : Ending) (w' : World) : Prop := ∃ v, e = .returned v ∧ OwnU w' w.heap.size v l ∧ Below w.heap.size w w'
theorem info_u32 : (Tryd.prog.info? 44).map (fun i => (i.zero, i.size, i.bytes)) = some (some (.int .u32 0), 1, 4) := by kernel_rfl
theorem box_ne {W : World} {B n : Nat} {t : TypeId} {v : Value} {row : Option Nat} (h : Boxed W B t v) (hr : ∀ r, row = some r → n ≤ r ∧ ∃ o : Obj, W.heap[r]? = some o ∧ o.isCells = false) : some B ≠ row := by
  intro e
  obtain ⟨_, o, ho, hc⟩ := hr B e.symm
  rw [show W.heap[B]? = _ from h] at ho
  cases ho
  cases hc
theorem ownsRow_kept {W W' : World} {base n : Nat} {e : TypeId} {size : Nat} {v : Value} {k : Nat} {xs : List Value} {row : Option Nat} (h : W.ownsRow base e size v k xs) (hg : W.grownBy W' row) (hrow : ∀ r, row = some r → n ≤ r ∧ ∃ o : Obj, W.heap[r]? = some o ∧ o.isCells = false) : W'.ownsRow base e size v k xs := by
  refine h.kept hg ?_
  rcases h.2 with ⟨rfl, _⟩ | ⟨g, cap, cur, rfl, _, hgb, _⟩
  · exact .inl rfl
  · refine .inr fun e' => ?_
    obtain ⟨_, o, ho, hc⟩ := hrow g (by rw [← e']; rfl)
    rw [hgb] at ho
    cases ho
    cases hc
theorem run_equalIn_func_nil {P : Program} {t : TypeId} {ps rs : Array TypeId} {b : Bool} (h : P.underlying t = some (.func ps rs b)) (d : Nat) (f : Fn) (c lb : Array Value) (W : World) : (Op.equalIn (d + 1) t (.func f c lb) .nilFunc).run P W = .ok false W := by
  simp [Op.equalIn, run_underlying h]
theorem run_eql_func_nil {P : Program} {t : TypeId} {ps rs : Array TypeId} {b : Bool} (h : P.underlying t = some (.func ps rs b)) (gf : Nat) (c lb : Array Value) (W : World) : (binOp .eql t (.func (.func gf) c lb) .nilFunc).run P W = .ok (.bool false) W := by
  simp only [binOp]
  simp [Op.equal, Op.maxDepth, run_equalIn_func_nil h 9999 (.func gf) c lb W]
set_option maxHeartbeats 4000000 in
theorem told_of (gf : Nat) (lb : Array Value) (L : List C32) (most : Int) (w : World) (eg : ∀ args w, (callFunc gf args).run Tryd.prog w = .ok (.enter gf args) w) (hs : Stops gf lb L w.heap.size w) (hL : L.length ≤ 1000000) :
    Calls Tryd.prog 71 #[.func (.func gf) #[] lb, .int .i64 most] w (ToldIs w (L.take most.toNat)) := by
  unfold ToldIs OwnU
  obtain ⟨i0, hi, hz0, hz1, hz2⟩ := info_parts info_u32
  refine (callsIn_wide (n := 4)).1 ?_
  refine callsIn_of_wp_marks Tryd.func71 rfl trivial ?_ rfl
  simp only [Tryd.ntmps71, List.size_toArray, List.length_cons, List.length_nil, Nat.reduceAdd, Nat.reduceSub, Array.replicate_succ, Array.replicate_zero, List.push_toArray, List.append_toArray, List.nil_append, List.cons_append]
  have heq : ∀ W : World, (binOp .eql 108 (.func (.func gf) #[] lb) .nilFunc).run Tryd.prog W = .ok (.bool false) W := fun W => run_eql_func_nil Tryd.underlying108 gf #[] lb W
  gi_wp2
  have bM := Boxed.new w 3 (.int .i64 most)
  have bO := Boxed.new (w.alloc (.cells #[.int .i64 most] 3)) 57 (.slice none 0 0)
  rw [World.size_alloc] at bO
  have hB0 : Below w.heap.size w ((w.alloc (.cells #[.int .i64 most] 3)).alloc (.cells #[.slice none 0 0] 57)) := ((Below.refl _ w).alloc (Nat.le_refl _) _).alloc (by simp) _
  clear heq
  refine wpIn_rangeFunc_ownG (F := Fence.wide) rfl (by omega) (gf := gf) (lb := lb) rfl trivial eg hs belowK_t (belowK_b (by simp; omega)) hB0 (fun _ => rfl)
    (fun pre W => pre.length ≤ most.toNat ∧ (Boxed W w.heap.size 3 (.int .i64 most) ∧ ∃ v, Boxed W (w.heap.size + 1) 57 v ∧ W.ownsRow w.heap.size 44 1 v pre.length (pre.map fun x : C32 => Value.int .u32 (x.1 : Int)) ∧ (v = .slice none 0 0 ↔ pre = [])) ∧ Below w.heap.size w W)
    (fun c pre W => c = .exit 0 ∧ ∃ pre' x, pre = pre' ++ [x] ∧ pre'.length = most.toNat ∧ (∃ v, Boxed W (w.heap.size + 1) 57 v ∧ W.ownsRow w.heap.size 44 1 v pre'.length (pre'.map fun x : C32 => Value.int .u32 (x.1 : Int))) ∧ Below w.heap.size w W)
    ?hI ?hIx ?h0
    (fun x => { tmps := #[.func (.func gf) #[] lb, .int .i64 most, undef, .pointer (some ⟨w.heap.size, 0, none⟩), .slice none 0 0, .pointer (some ⟨w.heap.size + 1, 0, none⟩), .int .u32 (x.1 : Int), .func (.func gf) #[] lb, .bool false, .func (.func gf) #[] lb, .int .u32 (x.1 : Int), undef, undef, undef, undef, undef, undef, undef, undef, undef], defers := [] }) ?assign ?body ?done ?stop
  case hI =>
    intro pre A B row hs2 hg hr
    obtain ⟨hl, ⟨hm, v, hv, hrow, hnil⟩, hb⟩ := hs2
    exact ⟨hl, ⟨hm.kept hg (box_ne hm hr), v, hv.kept hg (box_ne hv hr), ownsRow_kept hrow hg hr, hnil⟩, ownFrom_below (Nat.le_refl _) (by simp; omega) pre A B row hb hg hr⟩
  case hIx =>
    rintro c pre A B row ⟨rfl, pre', x, e1, e2, ⟨v, hv, hrow⟩, hb⟩ hg hr
    exact ⟨rfl, pre', x, e1, e2, ⟨v, hv.kept hg (box_ne hv hr), ownsRow_kept hrow hg hr⟩, ownFrom_below (Nat.le_refl _) (by simp; omega) pre A B row hb hg hr⟩
  case h0 => exact ⟨Nat.zero_le _, ⟨bM.alloc _, _, bO, World.ownsRow_nil _ _ _ _, by simp⟩, hB0⟩
  case assign =>
    intro l x W K hK
    gi_wp2
    exact hK
  case body =>
    rintro l pre x W ⟨hl, ⟨hm, v, hv, hrow, hnil⟩, hB⟩ hlt
    have hc := hv.cell
    have hcm := hm.cell
    have hbd : pre.length + 1 ≤ maxLen := by unfold maxLen; omega
    obtain ⟨A, cp, hv0⟩ : ∃ A cp, v = .slice A pre.length cp := by
      rcases hrow.2 with ⟨rfl, h0⟩ | ⟨g, cap, _, rfl, _⟩
      · exact ⟨none, 0, by rw [h0]⟩
      · exact ⟨_, _, rfl⟩
    rw [hv0] at hc
    by_cases hmost : most ≤ (pre.length : Int)
    · gi_wp2
      exact ⟨KeepsFrom.refl _ _, rfl, pre, x, rfl, by omega, ⟨v, hv, hrow⟩, hB⟩
    · rw [hv0] at hrow hv
      clear hv0 hnil
      gi_wp2_with (gi_at_builtin; refine wpListIn_append_own _ rfl _ _ 57 rfl w.heap.size 44 i0 (.int .u32 0) 1 4 Tryd.underlying57 hi hz0 hz1 hz2 rfl (by decide) _ _ _ rfl (hrow.alloc _) ⟨W.heap.size, 0, none⟩ 1 1 [.int .u32 (x.1 : Int)] rfl rfl (cell_one_new _ _ _) (by simp [Value.oneCell']) (by omega) (by omega) (by have := hB.size; simp; omega) ?_; intro v' w1 hown' hgrow _; obtain ⟨g', cap', rfl⟩ := ownsRow_succ hown'; obtain ⟨hv1, hv2, hr2, hk2, hb2⟩ := hv.appended (by decide) hrow hB.size (by omega) hown' hgrow; have hc1 := hv1.cell; have hf1 := hv1.frozen)
      exact ⟨hk2.from _, hb2, by simp; omega, ⟨((hm.alloc _).kept hgrow (hm.not_row (by decide) hrow)).kept (grownBy_setCell' w1 _ _) (by simp), _, hv2, by simpa using hr2, by simp⟩, hB.trans hb2⟩
  case done =>
    rintro D ys W hD rfl ⟨hl, ⟨hm, v, hv, hrow, hnil⟩, hB⟩ hK
    have hc := hv.cell
    have he : ys.take most.toNat = ys := List.take_of_length_le hl
    gi_wp2
    refine ⟨by simp, .inl ⟨_, _, rfl, run_takeDeferred hK, ?_⟩⟩
    exact ⟨_, results_tmp rfl _ _ _, v, rfl, by rw [he]; exact ownsRow_putObj hrow _ hK rfl, hB.trans (belowK_b (w := w) (Nat.le_refl _) W D _ _ (by simp at hD; omega) hK rfl rfl)⟩
  case stop =>
    rintro D c pre W hD hp ⟨rfl, pre', x, rfl, hl, ⟨v, hv, hrow⟩, hB⟩ hK
    have hc := hv.cell
    have he : L.take most.toNat = pre' := by
      rw [← hl]
      exact (List.prefix_iff_eq_take.1 ((List.prefix_append _ _).trans hp)).symm
    gi_wp2
    refine ⟨by simp, .inl ⟨_, _, rfl, run_takeDeferred hK, ?_⟩⟩
    exact ⟨_, results_tmp rfl _ _ _, v, rfl, by rw [he]; exact ownsRow_putObj hrow _ hK rfl, hB.trans (belowK_b (w := w) (Nat.le_refl _) W D _ _ (by simp at hD; omega) hK rfl rfl)⟩
end Go.Proofs.YtanpplniedphkaaDoor
