/-
 WALKS: the document's New; 'same'; calls on the document's disks beside others.
-/
import Derived.Test.YtpajdmbajopofaaRe5
namespace Go.Proofs.Ytpajdmbajopofaa
open Go.RowKit
set_option maxRecDepth 100000
theorem mul_256' {o : Oper} {a : Act} {w : World} {x : Operand} {i j : Nat} (h : j = 256 * i) (hi : i ≤ 2048) (ho : o.op = .binOp .mul 3 (.const (.int .i64 256)) x 3) (hx : a.eval x = .int .i64 (i : Int)) : (execOp a.eval o).run Try.prog w = .ok (.value (.int .i64 (j : Int))) w := by
 have e : IntKind.i64.wrap (256 * (i : Int)) = (j : Int) := by rw [IntKind.wrap_i64]; omega
 have hk : a.eval (.const (.int .i64 256)) = .int .i64 256 := rfl
 unfold execOp
 simp only [ho, hx, hk]
 go_simp
set_option maxHeartbeats 1000000 in
theorem rNew_any (c : Nat) (hc : c ≠ 0) (n : Int) (w : World) : Calls Try.prog 11 #[.int .i64 n] w (RmkIs c w (decide (n < 8 ∨ 2048 < n)) (newS (secs (List.replicate (256 * n.toNat) 0) n.toNat))) := by
 have HB0 : Shh (Below w.heap.size w w) := ⟨Below.refl _ _⟩
 have HM := Shh.mk (May_any n w)
 by_cases h1 : 8 ≤ n ∧ n ≤ 2048
 case neg =>
  rw [show (decide (n < 8 ∨ 2048 < n)) = true from by simp; omega]
  rw [show (decide (8 ≤ n ∧ n ≤ 2048)) = false from by simp; omega] at HM
  unfold RmkIs
  simp only [↓reduceIte]
  clear h1
  go_enter Try.func11, Try.ntmps11
  go_wp2_with (go_at_call 37; refine (HM.out).mono ?_)
  unfold AnsIs
  rintro e w1 ⟨rfl, rfl⟩
  go_wp2
  go_ret2
  exact ⟨rfl, HB0.out⟩
 ·rw [show (decide (n < 8 ∨ 2048 < n)) = false from by simp; omega]
  rw [show (decide (8 ≤ n ∧ n ≤ 2048)) = true from by simp; omega] at HM
  obtain ⟨m, rfl⟩ : ∃ m : Nat, n = (m : Int) := ⟨n.toNat, by omega⟩
  rw [Int.toNat_natCast]
  have h8 : 8 ≤ m := by omega
  have hm2 : m ≤ 2048 := by omega
  obtain ⟨J, HJ⟩ : ∃ J, Shh (J = 256 * m) := ⟨_, ⟨rfl⟩⟩
  have hmk := fun u => make_run J (by have := HJ.out; omega) u
  obtain ⟨W0, hW0⟩ : ∃ W0, w.alloc (.cells (Lib.byteCells (List.replicate J 0)).toArray 5) = W0 := ⟨_, rfl⟩
  have bA : Below w.heap.size w W0 := by rw [← hW0]; exact Below.alloc (Below.refl _ _) (Nat.le_refl _) _
  have hr : Row W0 w.heap.size 5 (Lib.byteCells (List.replicate J 0)) := by rw [← hW0]; exact Row.new_ rfl rfl
  have hsl : Sl W0 W0.heap.size (.slice (some ⟨w.heap.size, 0, none⟩) J J) (List.replicate J 0) := by
   refine ⟨some ⟨w.heap.size, 0, none⟩, J, by rw [List.length_replicate], by rw [List.length_replicate]; exact Nat.le_refl _, by have := HJ.out; unfold maxLen; omega, fun _ => ⟨w.heap.size, 0, rfl, hr.lt, fun k hk => ?_⟩⟩
   rw [Nat.zero_add, hr.cell k, byteCells_get _ k hk]
  have HL := rLoad_any c hc W0.heap.size _ _ W0 hsl (Nat.le_refl _)
  have hbad : ldBad (List.replicate J (0 : UInt8)).length = false := by unfold ldBad; rw [List.length_replicate, HJ.out]; simp; omega
  have hdv2 : (List.replicate J (0 : UInt8)).length / 256 = m := by rw [List.length_replicate, HJ.out]; omega
  rw [hbad, hdv2] at HL
  have HLD := Shh.mk HL
  have HBA := Shh.mk bA
  rw [← HJ.out]
  clear HL hbad hdv2 hsl hr bA h8 h1
  unfold RmkIs at HLD ⊢
  simp only [Bool.false_eq_true, ↓reduceIte] at HLD ⊢
  go_enter Try.func11, Try.ntmps11
  go_wp2_with (first | (go_at_call 37; refine (HM.out).mono ?_))
  unfold AnsIs
  rintro e w1 ⟨rfl, rfl⟩
  go_wp2_with (first | refine wl_at 8 rfl (.int .i64 (J : Int)) rfl (mul_256' HJ.out hm2 rfl rfl) ?_ | (go_at_call 23; refine (HLD.out).mono ?_))
  rintro e w2 ⟨g, rfl, h1, col, h2, h3⟩
  have F : Shh (Below w.heap.size w w2 ∧ ∃ col : Nat → Nat, (∀ j, j < w.heap.size → col j = c + 1) ∧ RAt col c w2 g (newS (secs (List.replicate J 0) m))) := ⟨Below.chain HBA.out h1, col, fun j hj => h2 j (by have := HBA.out.size; omega), h3⟩
  clear h1 h2 h3
  go_wp2
  go_ret2
  exact ⟨_, rfl, F.out⟩
theorem RAt.tint {col col' : Nat → Nat} {c g : Nat} {w : World} {s : DS} (h : RAt col c w g s) (h0 : ∀ k, col k = 0 → col' k = 0) (hc : ∀ k, col k = c → col' k = c) : RAt col' c w g s := by
 have hd : ∀ {u : Value} {bs : List UInt8}, Dat col w u bs → Dat col' w u bs := fun h => by
  obtain ⟨b, off, cp, h1, h2, h3⟩ := h
  exact ⟨b, off, cp, h1, h0 b h2, h3⟩
 obtain ⟨k0, k1, gv, wv, k3, ⟨xs, k4, k5, k6⟩, ys, k7, k8, k9⟩ := h
 exact ⟨k0, hc g k1, gv, wv, k3, ⟨xs, k4, fun k hk => hc k (k5 k hk), fun j hj => by obtain ⟨u, h4, h6⟩ := k6 j hj; exact ⟨u, h4, hd h6⟩⟩, ys, k7, fun k hk => hc k (k8 k hk), fun j hj => by obtain ⟨u, h4, h5, h6⟩ := k9 j hj; exact ⟨u, h4, h5, hd h6⟩⟩
/-- a new disk of the document -/
def SysRNew (w W : World) (E : Nat → Option Ent) (c : Nat) (s : DS) (e : Ending) (w' : World) : Prop := ∃ g, e = .returned (.tuple #[.pointer (some ⟨g, 0, none⟩), .int .i64 0]) ∧ Sys w w' (putE E c (some ⟨true, g, s⟩)) ∧ Below W.heap.size W w'
section
variable {w W : World} {E : Nat → Option Ent} {c g : Nat} {s : DS}
theorem Sys.radd {Z : World} {col2 : Nat → Nat} (h : Sys w W E) (hx : E c = none) (hc0 : c ≠ 0) (hc9 : c ≠ 9) (hb : Below W.heap.size W Z) (h2 : ∀ j, j < W.heap.size → col2 j = c + 1) (h3 : RAt col2 c Z g s) : Sys w Z (putE E c (some ⟨true, g, s⟩)) := by
 obtain ⟨h1, col, k2, k3, k4, k5⟩ := h
 have hs := h1.size
 let col3 : Nat → Nat := fun k => if k < W.heap.size then col k else col2 k
 have hl : ∀ k, k < W.heap.size → col3 k = col k := fun k hk => if_pos hk
 have hg : ∀ k, ¬ k < W.heap.size → col3 k = col2 k := fun k hk => if_neg hk
 have h4 : RAt col3 c Z g s := h3.tint (fun k hk => by
   by_cases hkl : k < W.heap.size
   ·rw [h2 k hkl] at hk; omega
   ·rw [hg k hkl]; exact hk) (fun k hk => by
   by_cases hkl : k < W.heap.size
   ·rw [h2 k hkl] at hk; omega
   ·rw [hg k hkl]; exact hk)
 refine ⟨Below.chain h1 hb, col3, fun k hk => by rw [hl k (by omega)]; exact k2 k hk, ?_, ?_, fun d z hz => ?_⟩
 ·rw [putE_ne E _ (Ne.symm hc0)]; exact k3
 ·rw [putE_ne E _ (Ne.symm hc9)]; exact k4
 ·by_cases hd' : d = c
  ·subst hd'
   rw [putE_same] at hz
   cases hz
   exact h4
  ·rw [putE_ne E _ hd'] at hz
   exact (k5 d z hz).ext ((Ext.of_below col c hb).re hl) hd' hc0
theorem sys_rNew (h : Sys w W E) (hx : E c = none) (hc0 : c ≠ 0) (hc9 : c ≠ 9) (n : Nat) (h8 : 8 ≤ n) (hm : n ≤ 2048) : Calls Try.prog 11 #[.int .i64 (n : Int)] W (SysRNew w W E c (newS (secs (List.replicate (256 * n) 0) n))) := by
 have hn := rNew_any c hc0 (n : Int) W
 unfold RmkIs at hn
 rw [show decide ((n : Int) < 8 ∨ 2048 < (n : Int)) = false from by simp; omega] at hn
 simp only [Bool.false_eq_true, ↓reduceIte, Int.toNat_natCast] at hn
 refine hn.mono ?_
 rintro e w' ⟨g, he, hb, col2, h2, h3⟩
 exact ⟨g, he, h.radd hx hc0 hc9 hb h2 h3, hb⟩
theorem sys_rLoad (h : Sys w W E) (hx : E c = none) (hc0 : c ≠ 0) (hc9 : c ≠ 9) (B : Nat) (v : Value) (b : List UInt8) (hs : Sl W B v b) (hB : B ≤ W.heap.size) (hbad : ldBad b.length = false) : Calls Try.prog 23 #[v] W (SysRNew w W E c (newS (secs b (b.length / 256)))) := by
 have hn := rLoad_any c hc0 B v b W hs hB
 unfold RmkIs at hn
 rw [hbad] at hn
 simp only [Bool.false_eq_true, ↓reduceIte] at hn
 refine hn.mono ?_
 rintro e w' ⟨g, he, hb, col2, h2, h3⟩
 exact ⟨g, he, h.radd hx hc0 hc9 hb h2 h3, hb⟩
theorem Sys.rat (h : Sys w W E) (hx : E c = some ⟨true, g, s⟩) : ∃ col : Nat → Nat, RAt col c W g s ∧ c ≠ 0 ∧ ∀ k, k < w.heap.size → col k ≠ c := by
 obtain ⟨h1, col, h2, h3, h4, h5⟩ := h
 exact ⟨col, h5 c _ hx, (fun e => by rw [e, h3] at hx; cases hx), fun k hk e => by rw [h2 k hk] at e; rw [← e, h4] at hx; cases hx⟩
theorem sys_rRead (h : Sys w W E) (hx : E c = some ⟨true, g, s⟩) (hl : s.wait.length ≤ 1000000) (i : Int) : Calls Try.prog 25 #[.pointer (some ⟨g, 0, none⟩), .int .i64 i] W (RdIs W (rdB s i) (rdE s i)) := by
 obtain ⟨_, hd, _⟩ := h.rat hx
 exact rRead_any hd hl i
theorem sys_rImage (h : Sys w W E) (hx : E c = some ⟨true, g, s⟩) : Calls Try.prog 20 #[.pointer (some ⟨g, 0, none⟩)] W (OwnIs W s.good.flatten) := by
 obtain ⟨_, hd, _⟩ := h.rat hx
 exact rImage_any hd
theorem sys_rArm (h : Sys w W E) (hx : E c = some ⟨true, g, s⟩) (n : Int) (hn : n ≤ 9223372036854775807) : Calls Try.prog 40 #[.pointer (some ⟨g, 0, none⟩), .int .i64 n] W (SysIs w (putE E c (some ⟨true, g, arS s n⟩)) (.int .i64 (arE s n))) :=
 h.run hx fun col hc _ hd => (rArm_any hd hc n hn).mono fun _ _ hp => ⟨hp.1, col, hp.2.1, hp.2.2⟩
end
section
variable {a : Act} {x y : Operand} {op : Oper} {w : World}
theorem eqi_yes {i j : Int} (h : i = j) (ho : op.op = .binOp .eql 3 x y 3) (hx : a.eval x = .int .i64 i) (hy : a.eval y = .int .i64 j) : (execOp a.eval op).run Try.prog w = .ok (.value (.bool true)) w := by
 subst h
 unfold execOp
 simp only [ho, hx, hy]
 go_simp
theorem fr_2 {g : Nat} (ho : op.op = .fieldAddr 64 x 2) (hx : a.eval x = .pointer (some ⟨g, 0, none⟩)) : (execOp a.eval op).run Try.prog w = .ok (.value (.pointer (some ⟨g, 2, none⟩))) w := by
 unfold execOp
 simp only [ho, hx]
 go_simp
theorem fr_4 {g : Nat} (ho : op.op = .fieldAddr 64 x 4) (hx : a.eval x = .pointer (some ⟨g, 0, none⟩)) : (execOp a.eval op).run Try.prog w = .ok (.value (.pointer (some ⟨g, 4, none⟩))) w := by
 unfold execOp
 simp only [ho, hx]
 go_simp
theorem rload_bo {p : Addr} {b : Bool} (ho : op.op = .load 4 x) (hc : w.cell? p = some (.bool b)) (hx : a.eval x = .pointer (some p)) : (execOp a.eval op).run Try.prog w = .ok (.value (.bool b)) w := by
 unfold execOp
 simp only [ho, hx]
 go_simp
end
set_option maxHeartbeats 2000000 in
theorem same_any {w W : World} {E : Nat → Option Ent} {c d g r : Nat} {s : DS} (h : Sys w W E) (hx : E c = some ⟨false, g, s⟩) (hy : E d = some ⟨true, r, s⟩) : Calls Try.prog 14 #[.pointer (some ⟨g, 0, none⟩), .pointer (some ⟨r, 0, none⟩)] W (TrueIs W) := by
 unfold TrueIs
 obtain ⟨V, hV⟩ : ∃ V, V = World.drew W := ⟨_, rfl⟩
 have HB : Shh (Below W.heap.size W V) := ⟨by rw [hV]; exact (Below.refl _ _).drew⟩
 have hV2 := h.go HB.out
 have H1 := Shh.mk (sys_Sectors hV2 hx)
 have H2 := Shh.mk (sys_On hV2 hx)
 have H3 := Shh.mk (sys_Waits hV2 hx)
 have H4 := Shh.mk (sys_Ops hV2 hx)
 obtain ⟨col, hr, _⟩ := hV2.rat hy
 obtain ⟨c2, c3, c4, ⟨A0, n0, c0⟩, A1, n1, c1⟩ := hr.cells
 obtain ⟨n, hn⟩ : ∃ n, n = s.good.length := ⟨_, rfl⟩
 obtain ⟨m, hm⟩ : ∃ m, m = s.wait.length := ⟨_, rfl⟩
 obtain ⟨p, hp⟩ : ∃ p, p = s.done := ⟨_, rfl⟩
 obtain ⟨on, hon⟩ : ∃ on, on = s.on := ⟨_, rfl⟩
 rw [← hn] at c0 H1
 rw [← hm] at c1 H3
 rw [← hp] at c4 H4
 rw [← hon] at c2 H2
 have HS : Shh (V.cell? ⟨r, 0, none⟩ = some (.slice A0 n n0) ∧ V.cell? ⟨r, 2, none⟩ = some (.bool (!on)) ∧ V.cell? ⟨r, 1, none⟩ = some (.slice A1 m n1) ∧ V.cell? ⟨r, 4, none⟩ = some (.int .i64 p)) := ⟨c0, c2, c1, c4⟩
 clear hV2 hr c0 c1 c2 c3 c4 hn hm hp hon h
 go_enter Try.func14, Try.ntmps14
 go_wp2
 refine wp_region_held_drew (S := fun w' => w'.cell? ⟨r, 0, none⟩ = some (.slice A0 n n0) ∧ w'.cell? ⟨r, 2, none⟩ = some (.bool (!on)) ∧ w'.cell? ⟨r, 1, none⟩ = some (.slice A1 m n1) ∧ w'.cell? ⟨r, 4, none⟩ = some (.int .i64 p)) (by kernel_rfl) (by rw [hV] at HS; exact HS.out) (fun hS => ?_)
 clear hS
 rw [← hV]
 clear hV
 refine hdv0 0 5 (.pointer (some ⟨g, 0, none⟩)) (by rfl) HS.out ?_
 refine hdv0 2 7 (.pointer (some ⟨r, 0, none⟩)) (by rfl) HS.out ?_
 refine hdv 3 8 (.pointer (some ⟨r, 0, none⟩)) (by rfl) (fun w hS => rnil_ok rfl (by kernel_rfl)) HS.out ?_
 refine hdv 4 9 (.pointer (some ⟨r, 0, none⟩)) (by rfl) (fun w hS => fr_0 rfl (by kernel_rfl)) HS.out ?_
 refine hdv 5 10 (.slice A0 n n0) (by rfl) (fun w hS => rload_ss rfl hS.1 (by kernel_rfl)) HS.out ?_
 refine hdv0 6 11 (.int .i64 (n : Int)) (by rfl) HS.out ?_
 refine held_one 1 (by kernel_rfl) ?_
 refine step_call 1 _ _ (some 6) 30 #[.pointer (some ⟨g, 0, none⟩)] (by rfl) (by kernel_rfl) (by first | kernel_rfl | go_simp) ?_
 refine (H1.out).mono ?_
 unfold AnsIs
 rintro e w1 ⟨rfl, rfl⟩
 refine ⟨_, rfl, HS.out, ?_⟩
 simp only [Act.put, arr9, hd9, tl9]
 refine hdv 7 12 (.bool true) (by rfl) (fun w hS => eqi_yes (i := (n : Int)) (j := (n : Int)) rfl rfl (by kernel_rfl) (by kernel_rfl)) HS.out ?_
 refine hdv0 8 13 (.bool true) (by rfl) HS.out ?_
 refine hdv0 9 14 (.pointer (some ⟨g, 0, none⟩)) (by rfl) HS.out ?_
 refine hdv0 11 16 (.pointer (some ⟨r, 0, none⟩)) (by rfl) HS.out ?_
 refine hdv 12 17 (.pointer (some ⟨r, 0, none⟩)) (by rfl) (fun w hS => rnil_ok rfl (by kernel_rfl)) HS.out ?_
 refine hdv 13 18 (.pointer (some ⟨r, 2, none⟩)) (by rfl) (fun w hS => fr_2 rfl (by kernel_rfl)) HS.out ?_
 refine hdv 14 19 (.bool (!on)) (by rfl) (fun w hS => rload_bo rfl hS.2.1 (by kernel_rfl)) HS.out ?_
 refine hdv 15 20 (.bool on) (by rfl) (fun w hS => by cases on <;> kernel_rfl) HS.out ?_
 refine held_one 10 (by kernel_rfl) ?_
 refine step_call 10 _ _ (some 15) 32 #[.pointer (some ⟨g, 0, none⟩)] (by rfl) (by kernel_rfl) (by first | kernel_rfl | go_simp) ?_
 refine (H2.out).mono ?_
 unfold AnsIs
 rintro e w1 ⟨rfl, rfl⟩
 refine ⟨_, rfl, HS.out, ?_⟩
 simp only [Act.put, arr9, hd9, tl9]
 refine hdv 16 21 (.bool true) (by rfl) (fun w hS => by cases on <;> kernel_rfl) HS.out ?_
 refine hdv0 17 22 (.bool true) (by rfl) HS.out ?_
 refine hdv0 18 23 (.bool true) (by rfl) HS.out ?_
 refine hdv0 19 24 (.pointer (some ⟨g, 0, none⟩)) (by rfl) HS.out ?_
 refine hdv0 21 26 (.pointer (some ⟨r, 0, none⟩)) (by rfl) HS.out ?_
 refine hdv 22 27 (.pointer (some ⟨r, 0, none⟩)) (by rfl) (fun w hS => rnil_ok rfl (by kernel_rfl)) HS.out ?_
 refine hdv 23 28 (.pointer (some ⟨r, 1, none⟩)) (by rfl) (fun w hS => fr_1 rfl (by kernel_rfl)) HS.out ?_
 refine hdv 24 29 (.slice A1 m n1) (by rfl) (fun w hS => rload_ws rfl hS.2.2.1 (by kernel_rfl)) HS.out ?_
 refine hdv0 25 30 (.int .i64 (m : Int)) (by rfl) HS.out ?_
 refine held_one 20 (by kernel_rfl) ?_
 refine step_call 20 _ _ (some 25) 31 #[.pointer (some ⟨g, 0, none⟩)] (by rfl) (by kernel_rfl) (by first | kernel_rfl | go_simp) ?_
 refine (H3.out).mono ?_
 unfold AnsIs
 rintro e w1 ⟨rfl, rfl⟩
 refine ⟨_, rfl, HS.out, ?_⟩
 simp only [Act.put, arr9, hd9, tl9]
 refine hdv 26 31 (.bool true) (by rfl) (fun w hS => eqi_yes (i := (m : Int)) (j := (m : Int)) rfl rfl (by kernel_rfl) (by kernel_rfl)) HS.out ?_
 refine hdv0 27 32 (.bool true) (by rfl) HS.out ?_
 refine hdv0 28 33 (.bool true) (by rfl) HS.out ?_
 refine hdv0 29 34 (.pointer (some ⟨g, 0, none⟩)) (by rfl) HS.out ?_
 refine hdv0 31 36 (.pointer (some ⟨r, 0, none⟩)) (by rfl) HS.out ?_
 refine hdv 32 37 (.pointer (some ⟨r, 0, none⟩)) (by rfl) (fun w hS => rnil_ok rfl (by kernel_rfl)) HS.out ?_
 refine hdv 33 38 (.pointer (some ⟨r, 4, none⟩)) (by rfl) (fun w hS => fr_4 rfl (by kernel_rfl)) HS.out ?_
 refine hdv 34 39 (.int .i64 p) (by rfl) (fun w hS => rload_in rfl hS.2.2.2 (by kernel_rfl)) HS.out ?_
 refine held_one 30 (by kernel_rfl) ?_
 refine step_call 30 _ _ (some 35) 33 #[.pointer (some ⟨g, 0, none⟩)] (by rfl) (by kernel_rfl) (by first | kernel_rfl | go_simp) ?_
 refine (H4.out).mono ?_
 unfold AnsIs
 rintro e w1 ⟨rfl, rfl⟩
 refine ⟨_, rfl, HS.out, ?_⟩
 simp only [Act.put, arr9, hd9, tl9]
 refine hdv 35 40 (.bool true) (by rfl) (fun w hS => eqi_yes (i := p) (j := p) rfl rfl (by kernel_rfl) (by kernel_rfl)) HS.out ?_
 refine hdv0 36 41 (.bool true) (by rfl) HS.out ?_
 refine hdv0 37 4 (.bool true) (by rfl) HS.out ?_
 refine wpAnyH_done (by kernel_rfl) ?_ _
 go_wp2
 go_ret
 exact ⟨rfl, HB.out⟩
end Go.Proofs.Ytpajdmbajopofaa
