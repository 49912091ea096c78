/-
 WALK: does.
-/
import Derived.Test.YtpajdmbajopofaaDm2
namespace Go.Proofs.Ytpajdmbajopofaa
open Go.RowKit
set_option maxRecDepth 100000
section
variable {s : DS} {y : OpV}
theorem st1 (h : y.d = 1) : stS s y = wrS s y.i (blkL y.x 256) := by unfold stS; rw [if_pos h]
theorem st2 (h : y.d = 2) : stS s y = syS s := by unfold stS; rw [if_neg (by omega), if_pos h]
theorem st3 (h : y.d = 3) : stS s y = arS s y.n := by unfold stS; rw [if_neg (by omega), if_neg (by omega), if_pos h]
theorem st4 (h : y.d = 4) : stS s y = caS s := by unfold stS; rw [if_neg (by omega), if_neg (by omega), if_neg (by omega), if_pos h]
theorem st5 (h : y.d = 5) : stS s y = crS s y.p := by unfold stS; rw [if_neg (by omega), if_neg (by omega), if_neg (by omega), if_neg (by omega), if_pos h]
theorem st7 (h : y.d = 7) : stS s y = wrS s y.i y.b := by unfold stS; rw [if_neg (by omega), if_neg (by omega), if_neg (by omega), if_neg (by omega), if_neg (by omega), if_pos h]
theorem st9 (h1 : y.d ≠ 1) (h2 : y.d ≠ 2) (h3 : y.d ≠ 3) (h4 : y.d ≠ 4) (h5 : y.d ≠ 5) (h7 : y.d ≠ 7) : stS s y = s := by unfold stS; rw [if_neg h1, if_neg h2, if_neg h3, if_neg h4, if_neg h5, if_neg h7]
end
theorem putE_id {E : Nat → Option Ent} {c : Nat} {x : Ent} (h : E c = some x) : putE E c (some x) = E := by
 funext k
 unfold putE
 split
 ·rename_i hk; rw [hk, h]
 ·rfl
section
variable {o : Oper} {a : Act} {w : World} {x y : Operand}
theorem err_d {i j : Int} (b : Bool) (h : b = decide (i = j)) (ho : o.op = .binOp .eql 24 x y 24) (hx : a.eval x = .int .i64 i) (hy : a.eval y = .int .i64 j) : (execOp a.eval o).run Try.prog w = .ok (.value (.bool b)) w := by
 have e : (execOp a.eval o).run Try.prog w = .ok (.value (.bool (i == j))) w := by
  unfold execOp
  simp only [ho, hx, hy]
  go_simp
 rw [e, h]
 congr 3
theorem eqc_no {i j : Int} (h : i ≠ j) (ho : o.op = .binOp .eql 3 x (.const (.int .i64 j)) 3) (hx : a.eval x = .int .i64 i) : (execOp a.eval o).run Try.prog w = .ok (.value (.bool false)) w :=
 eqi_no (by rw [beq_eq_false_iff_ne]; exact h) ho hx rfl
theorem fo_k {g k : Nat} (hk : k < 6) (ho : o.op = .fieldAddr 36 x k) (hx : a.eval x = .pointer (some ⟨g, 0, none⟩)) : (execOp a.eval o).run Try.prog w = .ok (.value (.pointer (some ⟨g, k, none⟩))) w := by
 unfold execOp
 simp only [ho, hx]
 match k, hk with
 | 0, _ => go_simp
 | 1, _ => go_simp
 | 2, _ => go_simp
 | 3, _ => go_simp
 | 4, _ => go_simp
 | 5, _ => go_simp
theorem rload_u8 {p : Addr} {b : Int} (ho : o.op = .load 5 x) (hc : w.cell? p = some (.int .u8 b)) (hx : a.eval x = .pointer (some p)) : (execOp a.eval o).run Try.prog w = .ok (.value (.int .u8 b)) w := by
 unfold execOp
 simp only [ho, hx]
 go_simp
end
def DoesIs (w W : World) (E : Nat → Option Ent) (Q0 : Nat → Prop) (c d g r : Nat) (s t : DS) (y : OpV) (e : Ending) (w' : World) : Prop := ∃ b : Bool, e = .returned (.bool b) ∧ (s = t → b = true) ∧ SysQ w w' (putE (putE E c (some ⟨false, g, stS s y⟩)) d (some ⟨true, r, stS t y⟩)) Q0 ∧ ∀ k, Q0 k → w'.heap[k]? = W.heap[k]?
theorem SysQ.rcalm2 {w W : World} {E : Nat → Option Ent} {Q : Nat → Prop} {c g : Nat} {s : DS} (h : SysQ w W E Q) (hx : E c = some ⟨true, g, s⟩) : ∀ k, Q k → (W.setCell ⟨g, 3, none⟩ (.int .i64 (-1))).heap[k]? = W.heap[k]? := by
 obtain ⟨h1, h0, col, h2, hq, h3, h4, h5⟩ := h
 have hc9 : c ≠ 9 := fun e => by rw [e, h4] at hx; cases hx
 have hd' : RAt col c W g s := h5 c _ hx
 exact fun k hk => heap_setCell_other W ⟨g, 3, none⟩ k _ (fun e => hc9 (by have e2 : k = g := e; rw [← hd'.2.1, ← e2]; exact hq k hk))
set_option maxHeartbeats 1000000 in
theorem does_sync {w W : World} {E : Nat → Option Ent} {Q0 : Nat → Prop} {c d g r : Nat} {s t : DS} (h : SysQ w W E Q0) (hx : E c = some ⟨false, g, s⟩) (hy : E d = some ⟨true, r, t⟩) (hcd : c ≠ d) (hls : s.wait.length ≤ 1000000) (hlt : t.wait.length ≤ 1000000) (y : OpV) (hd : y.d = 2) (vb vp : Value) (hn : y.n ≤ 9223372036854775807) (hb : Sl w w.heap.size vb y.b) (hp : Slb w w.heap.size vp y.p) (hbl : y.b.length ≤ 1000) : Calls Try.prog 15 #[.pointer (some ⟨g, 0, none⟩), .pointer (some ⟨r, 0, none⟩), .agg (opC y.d y.i y.n y.x vb vp).toArray] W (DoesIs w W E Q0 c d g r s t y) := by
 unfold DoesIs
 rw [st2 hd, st2 hd]
 obtain ⟨yd, i, n, x, b, p⟩ := y
 obtain ⟨Ab, cb, rfl, _, _⟩ := hb.form
 obtain ⟨Ap, cp, rfl, _, _⟩ : ∃ A cp, vp = .slice A p.length cp ∧ p.length ≤ cp ∧ cp ≤ maxLen := by obtain ⟨A, cp, h1, h2, h3, _⟩ := hp; exact ⟨A, cp, h1, h2, h3⟩
 have hd : yd = 2 := hd
 subst hd
 unfold opC
 obtain ⟨nb, hnb⟩ : ∃ nb, nb = b.length := ⟨_, rfl⟩
 obtain ⟨np, hnp⟩ : ∃ np, np = p.length := ⟨_, rfl⟩
 have HNB := Shh.mk hnb
 have HNP := Shh.mk hnp
 have HAB : Shh (Sl w w.heap.size (.slice Ab nb cb) b ∧ Slb w w.heap.size (.slice Ap np cp) p ∧ b.length ≤ 1000) := ⟨by rw [hnb]; exact hb, by rw [hnp]; exact hp, hbl⟩
 show Calls _ _ #[_, _, .agg #[.int .i64 2, .int .i64 i, .int .i64 n, .int .u8 (x.toNat : Int), .slice Ab b.length cb, .slice Ap p.length cp]] _ _
 rw [← hnb, ← hnp]
 clear hb hp hbl hnb hnp
 obtain ⟨W0, hW0⟩ : ∃ W0, W.alloc (.cells #[.int .i64 2, .int .i64 i, .int .i64 n, .int .u8 (x.toNat : Int), .slice Ab nb cb, .slice Ap np cp] 36) = W0 := ⟨_, rfl⟩
 have bA : Below W.heap.size W W0 := by rw [← hW0]; exact Below.alloc (Below.refl _ _) (Nat.le_refl _) _
 have HR : Shh (Row W0 W.heap.size 36 (opC 2 i n x (.slice Ab nb cb) (.slice Ap np cp))) := ⟨by rw [← hW0]; exact Row.new_ rfl rfl⟩
 have HQ : Shh (SysQ w W0 E fun k => Q0 k ∨ k = W.heap.size) := ⟨(h.new bA).less fun k hk => hk.elim .inl fun hk => .inr ⟨by omega, by have := HR.out.lt; omega⟩⟩
 have HK0 : Shh (∀ k, Q0 k → W0.heap[k]? = W.heap[k]?) := ⟨fun k hk => bA.block k (h.2.1 k hk)⟩
 have HQL : Shh (∀ k, Q0 k → k < W.heap.size) := ⟨h.2.1⟩
 have HBA := Shh.mk bA
 have c0 : W0.cell? ⟨W.heap.size, 0, none⟩ = some (.int .i64 2) := HR.out.cell 0
 have c1 : W0.cell? ⟨W.heap.size, 1, none⟩ = some (.int .i64 i) := HR.out.cell 1
 have c4 : W0.cell? ⟨W.heap.size, 4, none⟩ = some (.slice Ab nb cb) := HR.out.cell 4
 have c5 : W0.cell? ⟨W.heap.size, 5, none⟩ = some (.slice Ap np cp) := HR.out.cell 5
 have HP : Shh (E c = some ⟨false, g, s⟩ ∧ E d = some ⟨true, r, t⟩ ∧ c ≠ d ∧ s.wait.length ≤ 1000000 ∧ t.wait.length ≤ 1000000 ∧ n ≤ 9223372036854775807 ∧ ∀ z, putE E c z d = some ⟨true, r, t⟩) := ⟨hx, hy, hcd, hls, hlt, hn, fun z => by rw [putE_ne E _ (Ne.symm hcd)]; exact hy⟩
 have hz0 : W0.heap.size = W.heap.size + 1 := by rw [← hW0, asz]
 clear h hx hy hcd hls hlt hn bA
 have H1 := Shh.mk (q_Sync HQ.out HP.out.1 HP.out.2.2.2.1)
 clear c1 c4 c5 hz0
 go_enter Try.func15, Try.ntmps15
 go_wp2_with (go_at_call 27; refine (H1.out).mono ?_)
 unfold QIs
 rintro e w1 ⟨rfl, q1, k1⟩
 have K1 : ∀ k, Q0 k → w1.heap[k]? = W.heap[k]? := fun k hk => (k1 k (.inl hk)).trans (HK0.out k hk)
 have H2 := Shh.mk (q_rSync q1 (HP.out.2.2.2.2.2.2 _) HP.out.2.2.2.2.1)
 have HK1 := Shh.mk K1
 clear q1 H1 k1 K1
 go_wp2_with (go_at_call 39; refine (H2.out).mono ?_)
 unfold QIs
 rintro e w2 ⟨rfl, q2, k2⟩
 have K2 : ∀ k, Q0 k → w2.heap[k]? = W.heap[k]? := fun k hk => (k2 k (.inl hk)).trans (HK1.out k hk)
 have F : Shh (SysQ w w2 (putE (putE E c (some ⟨false, g, syS s⟩)) d (some ⟨true, r, syS t⟩)) Q0 ∧ ∀ k, Q0 k → w2.heap[k]? = W.heap[k]?) := ⟨q2.less fun k hk => .inl hk, K2⟩
 clear q2 H2 k2 K2 HK1
 obtain ⟨bo, hbo⟩ : ∃ bo, bo = decide (syE s = syE t) := ⟨_, rfl⟩
 have HBO := Shh.mk hbo
 clear hbo
 go_wp2_with (refine wl_at 63 rfl (.bool bo) rfl (err_d bo HBO.out rfl rfl rfl) ?_)
 go_ret
 exact ⟨bo, rfl, fun e => by rw [HBO.out, e]; simp, F.out⟩
set_option maxHeartbeats 1000000 in
theorem does_calm {w W : World} {E : Nat → Option Ent} {Q0 : Nat → Prop} {c d g r : Nat} {s t : DS} (h : SysQ w W E Q0) (hx : E c = some ⟨false, g, s⟩) (hy : E d = some ⟨true, r, t⟩) (hcd : c ≠ d) (hls : s.wait.length ≤ 1000000) (hlt : t.wait.length ≤ 1000000) (y : OpV) (hd : y.d = 4) (vb vp : Value) (hn : y.n ≤ 9223372036854775807) (hb : Sl w w.heap.size vb y.b) (hp : Slb w w.heap.size vp y.p) (hbl : y.b.length ≤ 1000) : Calls Try.prog 15 #[.pointer (some ⟨g, 0, none⟩), .pointer (some ⟨r, 0, none⟩), .agg (opC y.d y.i y.n y.x vb vp).toArray] W (DoesIs w W E Q0 c d g r s t y) := by
 unfold DoesIs
 rw [st4 hd, st4 hd]
 obtain ⟨yd, i, n, x, b, p⟩ := y
 obtain ⟨Ab, cb, rfl, _, _⟩ := hb.form
 obtain ⟨Ap, cp, rfl, _, _⟩ : ∃ A cp, vp = .slice A p.length cp ∧ p.length ≤ cp ∧ cp ≤ maxLen := by obtain ⟨A, cp, h1, h2, h3, _⟩ := hp; exact ⟨A, cp, h1, h2, h3⟩
 have hd : yd = 4 := hd
 subst hd
 unfold opC
 obtain ⟨nb, hnb⟩ : ∃ nb, nb = b.length := ⟨_, rfl⟩
 obtain ⟨np, hnp⟩ : ∃ np, np = p.length := ⟨_, rfl⟩
 have HNB := Shh.mk hnb
 have HNP := Shh.mk hnp
 have HAB : Shh (Sl w w.heap.size (.slice Ab nb cb) b ∧ Slb w w.heap.size (.slice Ap np cp) p ∧ b.length ≤ 1000) := ⟨by rw [hnb]; exact hb, by rw [hnp]; exact hp, hbl⟩
 show Calls _ _ #[_, _, .agg #[.int .i64 4, .int .i64 i, .int .i64 n, .int .u8 (x.toNat : Int), .slice Ab b.length cb, .slice Ap p.length cp]] _ _
 rw [← hnb, ← hnp]
 clear hb hp hbl hnb hnp
 obtain ⟨W0, hW0⟩ : ∃ W0, W.alloc (.cells #[.int .i64 4, .int .i64 i, .int .i64 n, .int .u8 (x.toNat : Int), .slice Ab nb cb, .slice Ap np cp] 36) = W0 := ⟨_, rfl⟩
 have bA : Below W.heap.size W W0 := by rw [← hW0]; exact Below.alloc (Below.refl _ _) (Nat.le_refl _) _
 have HR : Shh (Row W0 W.heap.size 36 (opC 4 i n x (.slice Ab nb cb) (.slice Ap np cp))) := ⟨by rw [← hW0]; exact Row.new_ rfl rfl⟩
 have HQ : Shh (SysQ w W0 E fun k => Q0 k ∨ k = W.heap.size) := ⟨(h.new bA).less fun k hk => hk.elim .inl fun hk => .inr ⟨by omega, by have := HR.out.lt; omega⟩⟩
 have HK0 : Shh (∀ k, Q0 k → W0.heap[k]? = W.heap[k]?) := ⟨fun k hk => bA.block k (h.2.1 k hk)⟩
 have HQL : Shh (∀ k, Q0 k → k < W.heap.size) := ⟨h.2.1⟩
 have HBA := Shh.mk bA
 have c0 : W0.cell? ⟨W.heap.size, 0, none⟩ = some (.int .i64 4) := HR.out.cell 0
 have c1 : W0.cell? ⟨W.heap.size, 1, none⟩ = some (.int .i64 i) := HR.out.cell 1
 have c4 : W0.cell? ⟨W.heap.size, 4, none⟩ = some (.slice Ab nb cb) := HR.out.cell 4
 have c5 : W0.cell? ⟨W.heap.size, 5, none⟩ = some (.slice Ap np cp) := HR.out.cell 5
 have HP : Shh (E c = some ⟨false, g, s⟩ ∧ E d = some ⟨true, r, t⟩ ∧ c ≠ d ∧ s.wait.length ≤ 1000000 ∧ t.wait.length ≤ 1000000 ∧ n ≤ 9223372036854775807 ∧ ∀ z, putE E c z d = some ⟨true, r, t⟩) := ⟨hx, hy, hcd, hls, hlt, hn, fun z => by rw [putE_ne E _ (Ne.symm hcd)]; exact hy⟩
 have hz0 : W0.heap.size = W.heap.size + 1 := by rw [← hW0, asz]
 clear h hx hy hcd hls hlt hn bA
 have H1 := Shh.mk (q_Calm HQ.out HP.out.1)
 clear c1 c4 c5 hz0
 go_enter Try.func15, Try.ntmps15
 go_wp2_with (go_at_call 34; refine (H1.out).mono ?_)
 unfold QIs
 rintro e w1 ⟨rfl, q1, k1⟩
 obtain ⟨hfz, f0, hf0⟩ := q1.rfuse (HP.out.2.2.2.2.2.2 _)
 have F : Shh (SysQ w (w1.setCell ⟨r, 3, none⟩ (.int .i64 (-1))) (putE (putE E c (some ⟨false, g, caS s⟩)) d (some ⟨true, r, caS t⟩)) Q0 ∧ ∀ k, Q0 k → (w1.setCell ⟨r, 3, none⟩ (.int .i64 (-1))).heap[k]? = W.heap[k]?) := ⟨(q1.rcalm (HP.out.2.2.2.2.2.2 _)).less fun k hk => .inl hk, fun k hk => ((q1.rcalm2 (HP.out.2.2.2.2.2.2 _)) k (.inl hk)).trans ((k1 k (.inl hk)).trans (HK0.out k hk))⟩
 clear q1 H1 k1
 go_wp2
 go_ret
 exact ⟨true, rfl, fun _ => rfl, F.out⟩
set_option maxHeartbeats 1000000 in
theorem does_crash {w W : World} {E : Nat → Option Ent} {Q0 : Nat → Prop} {c d g r : Nat} {s t : DS} (h : SysQ w W E Q0) (hx : E c = some ⟨false, g, s⟩) (hy : E d = some ⟨true, r, t⟩) (hcd : c ≠ d) (hls : s.wait.length ≤ 1000000) (hlt : t.wait.length ≤ 1000000) (y : OpV) (hd : y.d = 5) (vb vp : Value) (hn : y.n ≤ 9223372036854775807) (hb : Sl w w.heap.size vb y.b) (hp : Slb w w.heap.size vp y.p) (hbl : y.b.length ≤ 1000) : Calls Try.prog 15 #[.pointer (some ⟨g, 0, none⟩), .pointer (some ⟨r, 0, none⟩), .agg (opC y.d y.i y.n y.x vb vp).toArray] W (DoesIs w W E Q0 c d g r s t y) := by
 unfold DoesIs
 rw [st5 hd, st5 hd]
 obtain ⟨yd, i, n, x, b, p⟩ := y
 obtain ⟨Ab, cb, rfl, _, _⟩ := hb.form
 obtain ⟨Ap, cp, rfl, _, _⟩ : ∃ A cp, vp = .slice A p.length cp ∧ p.length ≤ cp ∧ cp ≤ maxLen := by obtain ⟨A, cp, h1, h2, h3, _⟩ := hp; exact ⟨A, cp, h1, h2, h3⟩
 have hd : yd = 5 := hd
 subst hd
 unfold opC
 obtain ⟨nb, hnb⟩ : ∃ nb, nb = b.length := ⟨_, rfl⟩
 obtain ⟨np, hnp⟩ : ∃ np, np = p.length := ⟨_, rfl⟩
 have HNB := Shh.mk hnb
 have HNP := Shh.mk hnp
 have HAB : Shh (Sl w w.heap.size (.slice Ab nb cb) b ∧ Slb w w.heap.size (.slice Ap np cp) p ∧ b.length ≤ 1000) := ⟨by rw [hnb]; exact hb, by rw [hnp]; exact hp, hbl⟩
 show Calls _ _ #[_, _, .agg #[.int .i64 5, .int .i64 i, .int .i64 n, .int .u8 (x.toNat : Int), .slice Ab b.length cb, .slice Ap p.length cp]] _ _
 rw [← hnb, ← hnp]
 clear hb hp hbl hnb hnp
 obtain ⟨W0, hW0⟩ : ∃ W0, W.alloc (.cells #[.int .i64 5, .int .i64 i, .int .i64 n, .int .u8 (x.toNat : Int), .slice Ab nb cb, .slice Ap np cp] 36) = W0 := ⟨_, rfl⟩
 have bA : Below W.heap.size W W0 := by rw [← hW0]; exact Below.alloc (Below.refl _ _) (Nat.le_refl _) _
 have HR : Shh (Row W0 W.heap.size 36 (opC 5 i n x (.slice Ab nb cb) (.slice Ap np cp))) := ⟨by rw [← hW0]; exact Row.new_ rfl rfl⟩
 have HQ : Shh (SysQ w W0 E fun k => Q0 k ∨ k = W.heap.size) := ⟨(h.new bA).less fun k hk => hk.elim .inl fun hk => .inr ⟨by omega, by have := HR.out.lt; omega⟩⟩
 have HK0 : Shh (∀ k, Q0 k → W0.heap[k]? = W.heap[k]?) := ⟨fun k hk => bA.block k (h.2.1 k hk)⟩
 have HQL : Shh (∀ k, Q0 k → k < W.heap.size) := ⟨h.2.1⟩
 have HBA := Shh.mk bA
 have c0 : W0.cell? ⟨W.heap.size, 0, none⟩ = some (.int .i64 5) := HR.out.cell 0
 have c1 : W0.cell? ⟨W.heap.size, 1, none⟩ = some (.int .i64 i) := HR.out.cell 1
 have c4 : W0.cell? ⟨W.heap.size, 4, none⟩ = some (.slice Ab nb cb) := HR.out.cell 4
 have c5 : W0.cell? ⟨W.heap.size, 5, none⟩ = some (.slice Ap np cp) := HR.out.cell 5
 have HP : Shh (E c = some ⟨false, g, s⟩ ∧ E d = some ⟨true, r, t⟩ ∧ c ≠ d ∧ s.wait.length ≤ 1000000 ∧ t.wait.length ≤ 1000000 ∧ n ≤ 9223372036854775807 ∧ ∀ z, putE E c z d = some ⟨true, r, t⟩) := ⟨hx, hy, hcd, hls, hlt, hn, fun z => by rw [putE_ne E _ (Ne.symm hcd)]; exact hy⟩
 have hz0 : W0.heap.size = W.heap.size + 1 := by rw [← hW0, asz]
 clear h hx hy hcd hls hlt hn bA
 have H1 := Shh.mk (q_Crash HQ.out HP.out.1 HP.out.2.2.2.1 _ p (HAB.out.2.1.below HQ.out.1))
 clear c1 c4 hz0
 go_enter Try.func15, Try.ntmps15
 go_wp2_with (go_at_call 17; refine (H1.out).mono ?_)
 unfold QIs
 rintro e w1 ⟨rfl, q1, k1⟩
 have hr1 : Row w1 W.heap.size _ _ := (k1 _ (.inr rfl)).trans HR.out
 have K1 : ∀ k, Q0 k → w1.heap[k]? = W.heap[k]? := fun k hk => (k1 k (.inl hk)).trans (HK0.out k hk)
 have HK1 := Shh.mk K1
 have c5' : w1.cell? ⟨W.heap.size, 5, none⟩ = some (.slice Ap np cp) := hr1.cell 5
 have H2 := Shh.mk (q_rCrash q1 (HP.out.2.2.2.2.2.2 _) HP.out.2.2.2.2.1 _ p (HAB.out.2.1.below q1.1))
 clear q1 k1 hr1 H1 c5 c0 hW0 K1
 go_wp2_with (go_at_call 41; refine (H2.out).mono ?_)
 unfold QIs
 rintro e w2 ⟨rfl, q2, k2⟩
 have K2 : ∀ k, Q0 k → w2.heap[k]? = W.heap[k]? := fun k hk => (k2 k (.inl hk)).trans (HK1.out k hk)
 have F : Shh (SysQ w w2 (putE (putE E c (some ⟨false, g, crS s p⟩)) d (some ⟨true, r, crS t p⟩)) Q0 ∧ ∀ k, Q0 k → w2.heap[k]? = W.heap[k]?) := ⟨q2.less fun k hk => .inl hk, K2⟩
 clear q2 H2 k2 K2
 go_wp2
 go_ret
 exact ⟨true, rfl, fun _ => rfl, F.out⟩
set_option maxHeartbeats 1000000 in
theorem does_read {w W : World} {E : Nat → Option Ent} {Q0 : Nat → Prop} {c d g r : Nat} {s t : DS} (h : SysQ w W E Q0) (hx : E c = some ⟨false, g, s⟩) (hy : E d = some ⟨true, r, t⟩) (hcd : c ≠ d) (hls : s.wait.length ≤ 1000000) (hlt : t.wait.length ≤ 1000000) (y : OpV) (hd : y.d = 0) (vb vp : Value) (hn : y.n ≤ 9223372036854775807) (hb : Sl w w.heap.size vb y.b) (hp : Slb w w.heap.size vp y.p) (hbl : y.b.length ≤ 1000) : Calls Try.prog 15 #[.pointer (some ⟨g, 0, none⟩), .pointer (some ⟨r, 0, none⟩), .agg (opC y.d y.i y.n y.x vb vp).toArray] W (DoesIs w W E Q0 c d g r s t y) := by
 unfold DoesIs
 rw [st9 (by omega) (by omega) (by omega) (by omega) (by omega) (by omega), st9 (by omega) (by omega) (by omega) (by omega) (by omega) (by omega)]
 obtain ⟨yd, i, n, x, b, p⟩ := y
 obtain ⟨Ab, cb, rfl, _, _⟩ := hb.form
 obtain ⟨Ap, cp, rfl, _, _⟩ : ∃ A cp, vp = .slice A p.length cp ∧ p.length ≤ cp ∧ cp ≤ maxLen := by obtain ⟨A, cp, h1, h2, h3, _⟩ := hp; exact ⟨A, cp, h1, h2, h3⟩
 have hd : yd = 0 := hd
 subst hd
 unfold opC
 obtain ⟨nb, hnb⟩ : ∃ nb, nb = b.length := ⟨_, rfl⟩
 obtain ⟨np, hnp⟩ : ∃ np, np = p.length := ⟨_, rfl⟩
 have HNB := Shh.mk hnb
 have HNP := Shh.mk hnp
 have HAB : Shh (Sl w w.heap.size (.slice Ab nb cb) b ∧ Slb w w.heap.size (.slice Ap np cp) p ∧ b.length ≤ 1000) := ⟨by rw [hnb]; exact hb, by rw [hnp]; exact hp, hbl⟩
 show Calls _ _ #[_, _, .agg #[.int .i64 0, .int .i64 i, .int .i64 n, .int .u8 (x.toNat : Int), .slice Ab b.length cb, .slice Ap p.length cp]] _ _
 rw [← hnb, ← hnp]
 clear hb hp hbl hnb hnp
 obtain ⟨W0, hW0⟩ : ∃ W0, W.alloc (.cells #[.int .i64 0, .int .i64 i, .int .i64 n, .int .u8 (x.toNat : Int), .slice Ab nb cb, .slice Ap np cp] 36) = W0 := ⟨_, rfl⟩
 have bA : Below W.heap.size W W0 := by rw [← hW0]; exact Below.alloc (Below.refl _ _) (Nat.le_refl _) _
 have HR : Shh (Row W0 W.heap.size 36 (opC 0 i n x (.slice Ab nb cb) (.slice Ap np cp))) := ⟨by rw [← hW0]; exact Row.new_ rfl rfl⟩
 have HQ : Shh (SysQ w W0 E fun k => Q0 k ∨ k = W.heap.size) := ⟨(h.new bA).less fun k hk => hk.elim .inl fun hk => .inr ⟨by omega, by have := HR.out.lt; omega⟩⟩
 have HK0 : Shh (∀ k, Q0 k → W0.heap[k]? = W.heap[k]?) := ⟨fun k hk => bA.block k (h.2.1 k hk)⟩
 have HQL : Shh (∀ k, Q0 k → k < W.heap.size) := ⟨h.2.1⟩
 have HBA := Shh.mk bA
 have c0 : W0.cell? ⟨W.heap.size, 0, none⟩ = some (.int .i64 0) := HR.out.cell 0
 have c1 : W0.cell? ⟨W.heap.size, 1, none⟩ = some (.int .i64 i) := HR.out.cell 1
 have c4 : W0.cell? ⟨W.heap.size, 4, none⟩ = some (.slice Ab nb cb) := HR.out.cell 4
 have c5 : W0.cell? ⟨W.heap.size, 5, none⟩ = some (.slice Ap np cp) := HR.out.cell 5
 have HP : Shh (E c = some ⟨false, g, s⟩ ∧ E d = some ⟨true, r, t⟩ ∧ c ≠ d ∧ s.wait.length ≤ 1000000 ∧ t.wait.length ≤ 1000000 ∧ n ≤ 9223372036854775807 ∧ ∀ z, putE E c z d = some ⟨true, r, t⟩) := ⟨hx, hy, hcd, hls, hlt, hn, fun z => by rw [putE_ne E _ (Ne.symm hcd)]; exact hy⟩
 have hz0 : W0.heap.size = W.heap.size + 1 := by rw [← hW0, asz]
 clear h hx hy hcd hls hlt hn bA
 have H1 := Shh.mk (sys_Read HQ.out.sys HP.out.1 HP.out.2.2.2.1 i)
 clear c4 c5 hz0
 go_enter Try.func15, Try.ntmps15
 go_wp2_with (go_at_call 24; refine (H1.out).mono ?_)
 unfold RdIs
 rintro e w1 ⟨v1, rfl, k1, b1⟩
 have q1 := HQ.out.sys.go b1
 have hq1 := HQ.out.go b1
 have K1 : ∀ k, Q0 k → w1.heap[k]? = W.heap[k]? := fun k hk => (b1.block k (HQ.out.2.1 k (.inl hk))).trans (HK0.out k hk)
 have H2 := Shh.mk (sys_rRead q1 HP.out.2.1 HP.out.2.2.2.2.1 i)
 have c1' : w1.cell? ⟨W.heap.size, 1, none⟩ = some (.int .i64 i) := (HR.out.go b1).cell 1
 have HS1 : Shh ((SysQ w w1 E (fun k => Q0 k ∨ k = W.heap.size) ∧ ∀ k, Q0 k → w1.heap[k]? = W.heap[k]?) ∧ Sl w1 w1.heap.size v1 (rdB s i)) := ⟨⟨hq1, K1⟩, Sl.of_own k1⟩
 clear q1 hq1 K1 k1 b1 H1 c1 c0 hW0
 go_wp2_with (go_at_call 25; refine (H2.out).mono ?_)
 unfold RdIs
 rintro e w2 ⟨v2, rfl, k2, b2⟩
 have EQ := Shh.mk (refEqual_any _ _ v1 v2 _ _ w2 (HS1.out.2.below b2) (Sl.of_own k2))
 have F0 := Shh.mk (HS1.out.1.1.go b2)
 have F : Shh (SysQ w w2 (putE (putE E c (some ⟨false, g, s⟩)) d (some ⟨true, r, t⟩)) Q0 ∧ ∀ k, Q0 k → w2.heap[k]? = W.heap[k]?) := ⟨by rw [putE_id HP.out.1, putE_id HP.out.2.1]; exact F0.out.less fun k hk => .inl hk, fun k hk => (b2.block k (HS1.out.1.1.2.1 k (.inl hk))).trans (HS1.out.1.2 k hk)⟩
 obtain ⟨bo, hbo⟩ : ∃ bo, bo = (rdB s i == rdB t i) := ⟨_, rfl⟩
 rw [← hbo] at EQ
 have HBO := Shh.mk hbo
 clear k2 b2 H2 HS1 F0 c1' hbo
 go_wp2_with (go_at_call 18; refine (EQ.out).mono ?_)
 rintro e w3 ⟨rfl, rfl⟩
 clear EQ
 cases bo with
 | false =>
  go_wp2
  go_ret
  exact ⟨false, rfl, fun e => by have := HBO.out; rw [e] at this; simp at this, F.out⟩
 | true =>
  obtain ⟨b2, hb2⟩ : ∃ b2, b2 = decide (rdE s i = rdE t i) := ⟨_, rfl⟩
  have HB2 := Shh.mk hb2
  clear hb2
  go_wp2_with (refine wl_atW 38 rfl (.bool b2) (by kernel_rfl) (err_d b2 HB2.out rfl rfl rfl) ?_)
  go_ret
  exact ⟨b2, rfl, fun e => by rw [HB2.out, e]; simp, F.out⟩
set_option maxHeartbeats 1000000 in
theorem does_arm {w W : World} {E : Nat → Option Ent} {Q0 : Nat → Prop} {c d g r : Nat} {s t : DS} (h : SysQ w W E Q0) (hx : E c = some ⟨false, g, s⟩) (hy : E d = some ⟨true, r, t⟩) (hcd : c ≠ d) (hls : s.wait.length ≤ 1000000) (hlt : t.wait.length ≤ 1000000) (y : OpV) (hd : y.d = 3) (vb vp : Value) (hn : y.n ≤ 9223372036854775807) (hb : Sl w w.heap.size vb y.b) (hp : Slb w w.heap.size vp y.p) (hbl : y.b.length ≤ 1000) : Calls Try.prog 15 #[.pointer (some ⟨g, 0, none⟩), .pointer (some ⟨r, 0, none⟩), .agg (opC y.d y.i y.n y.x vb vp).toArray] W (DoesIs w W E Q0 c d g r s t y) := by
 unfold DoesIs
 rw [st3 hd, st3 hd]
 obtain ⟨yd, i, n, x, b, p⟩ := y
 obtain ⟨Ab, cb, rfl, _, _⟩ := hb.form
 obtain ⟨Ap, cp, rfl, _, _⟩ : ∃ A cp, vp = .slice A p.length cp ∧ p.length ≤ cp ∧ cp ≤ maxLen := by obtain ⟨A, cp, h1, h2, h3, _⟩ := hp; exact ⟨A, cp, h1, h2, h3⟩
 have hd : yd = 3 := hd
 subst hd
 unfold opC
 obtain ⟨nb, hnb⟩ : ∃ nb, nb = b.length := ⟨_, rfl⟩
 obtain ⟨np, hnp⟩ : ∃ np, np = p.length := ⟨_, rfl⟩
 have HNB := Shh.mk hnb
 have HNP := Shh.mk hnp
 have HAB : Shh (Sl w w.heap.size (.slice Ab nb cb) b ∧ Slb w w.heap.size (.slice Ap np cp) p ∧ b.length ≤ 1000) := ⟨by rw [hnb]; exact hb, by rw [hnp]; exact hp, hbl⟩
 show Calls _ _ #[_, _, .agg #[.int .i64 3, .int .i64 i, .int .i64 n, .int .u8 (x.toNat : Int), .slice Ab b.length cb, .slice Ap p.length cp]] _ _
 rw [← hnb, ← hnp]
 clear hb hp hbl hnb hnp
 obtain ⟨W0, hW0⟩ : ∃ W0, W.alloc (.cells #[.int .i64 3, .int .i64 i, .int .i64 n, .int .u8 (x.toNat : Int), .slice Ab nb cb, .slice Ap np cp] 36) = W0 := ⟨_, rfl⟩
 have bA : Below W.heap.size W W0 := by rw [← hW0]; exact Below.alloc (Below.refl _ _) (Nat.le_refl _) _
 have HR : Shh (Row W0 W.heap.size 36 (opC 3 i n x (.slice Ab nb cb) (.slice Ap np cp))) := ⟨by rw [← hW0]; exact Row.new_ rfl rfl⟩
 have HQ : Shh (SysQ w W0 E fun k => Q0 k ∨ k = W.heap.size) := ⟨(h.new bA).less fun k hk => hk.elim .inl fun hk => .inr ⟨by omega, by have := HR.out.lt; omega⟩⟩
 have HK0 : Shh (∀ k, Q0 k → W0.heap[k]? = W.heap[k]?) := ⟨fun k hk => bA.block k (h.2.1 k hk)⟩
 have HQL : Shh (∀ k, Q0 k → k < W.heap.size) := ⟨h.2.1⟩
 have HBA := Shh.mk bA
 have c0 : W0.cell? ⟨W.heap.size, 0, none⟩ = some (.int .i64 3) := HR.out.cell 0
 have c1 : W0.cell? ⟨W.heap.size, 1, none⟩ = some (.int .i64 i) := HR.out.cell 1
 have c4 : W0.cell? ⟨W.heap.size, 4, none⟩ = some (.slice Ab nb cb) := HR.out.cell 4
 have c5 : W0.cell? ⟨W.heap.size, 5, none⟩ = some (.slice Ap np cp) := HR.out.cell 5
 have HP : Shh (E c = some ⟨false, g, s⟩ ∧ E d = some ⟨true, r, t⟩ ∧ c ≠ d ∧ s.wait.length ≤ 1000000 ∧ t.wait.length ≤ 1000000 ∧ n ≤ 9223372036854775807 ∧ ∀ z, putE E c z d = some ⟨true, r, t⟩) := ⟨hx, hy, hcd, hls, hlt, hn, fun z => by rw [putE_ne E _ (Ne.symm hcd)]; exact hy⟩
 have hz0 : W0.heap.size = W.heap.size + 1 := by rw [← hW0, asz]
 clear h hx hy hcd hls hlt hn bA
 obtain ⟨V, hV⟩ : ∃ V, V = World.drew W0 := ⟨_, rfl⟩
 have hbV : Below W0.heap.size W0 V := by rw [hV]; exact (Below.refl _ _).drew
 have HQV := Shh.mk (HQ.out.go hbV)
 have HRV := Shh.mk (HR.out.go hbV)
 have HKV : Shh (∀ k, Q0 k → V.heap[k]? = W.heap[k]?) := ⟨fun k hk => (hbV.block k (HQ.out.2.1 k (.inl hk))).trans (HK0.out k hk)⟩
 clear hbV
 have H1 := Shh.mk (q_Arm HQV.out HP.out.1 n HP.out.2.2.2.2.2.1)
 clear c1 c4 c5 hz0
 go_enter Try.func15, Try.ntmps15
 go_wp2
 refine wp_region_held_drew (S := fun w' => Row w' W.heap.size 36 (opC 3 i n x (.slice Ab nb cb) (.slice Ap np cp))) (by kernel_rfl) (HR.out.drew) (fun hS => ?_)
 clear hS
 rw [← hV]
 clear hV hW0 c0
 refine hdv0 0 66 (.pointer (some ⟨g, 0, none⟩)) (by rfl) HRV.out ?_
 refine hdv 1 67 (.pointer (some ⟨W.heap.size, 2, none⟩)) (by rfl) (fun w hS => fo_k (by decide) rfl (by kernel_rfl)) HRV.out ?_
 refine hdv 2 68 (.int .i64 n) (by rfl) (fun w hS => rload_in rfl (hS.cell 2) (by kernel_rfl)) HRV.out ?_
 refine hdv0 4 70 (.pointer (some ⟨r, 0, none⟩)) (by rfl) HRV.out ?_
 refine hdv 5 71 (.pointer (some ⟨W.heap.size, 2, none⟩)) (by rfl) (fun w hS => fo_k (by decide) rfl (by kernel_rfl)) HRV.out ?_
 refine hdv 6 72 (.int .i64 n) (by rfl) (fun w hS => rload_in rfl (hS.cell 2) (by kernel_rfl)) HRV.out ?_
 refine held_one 3 (by kernel_rfl) ?_
 refine step_call 3 _ _ (some 69) 35 #[.pointer (some ⟨g, 0, none⟩), .int .i64 n] (by rfl) (by kernel_rfl) (by first | kernel_rfl | go_simp) ?_
 refine (H1.out).mono ?_
 unfold QIs
 rintro e w1 ⟨rfl, q1, k1⟩
 have hr1 : Row w1 W.heap.size _ _ := (k1 _ (.inr rfl)).trans HRV.out
 have K1 : ∀ k, Q0 k → w1.heap[k]? = W.heap[k]? := fun k hk => (k1 k (.inl hk)).trans (HKV.out k hk)
 have H2 := Shh.mk (q_rArm q1 (HP.out.2.2.2.2.2.2 _) n HP.out.2.2.2.2.2.1)
 refine ⟨_, rfl, hr1, ?_⟩
 simp only [Act.put, arr9, hd9, tl9]
 refine held_one 7 (by kernel_rfl) ?_
 refine step_call 7 _ _ (some 73) 40 #[.pointer (some ⟨r, 0, none⟩), .int .i64 n] (by rfl) (by kernel_rfl) (by first | kernel_rfl | go_simp) ?_
 refine (H2.out).mono ?_
 unfold QIs
 rintro e w2 ⟨rfl, q2, k2⟩
 have hr2 : Row w2 W.heap.size _ _ := (k2 _ (.inr rfl)).trans hr1
 have K2 : ∀ k, Q0 k → w2.heap[k]? = W.heap[k]? := fun k hk => (k2 k (.inl hk)).trans (K1 k hk)
 have F : Shh (SysQ w w2 (putE (putE E c (some ⟨false, g, arS s n⟩)) d (some ⟨true, r, arS t n⟩)) Q0 ∧ ∀ k, Q0 k → w2.heap[k]? = W.heap[k]?) := ⟨q2.less fun k hk => .inl hk, K2⟩
 refine ⟨_, rfl, hr2, ?_⟩
 simp only [Act.put, arr9, hd9, tl9]
 obtain ⟨bo, hbo⟩ : ∃ bo, bo = decide (arE s n = arE t n) := ⟨_, rfl⟩
 refine hdv 8 74 (.bool bo) (by rfl) (fun w hS => err_d bo hbo rfl (by kernel_rfl) (by kernel_rfl)) hr2 ?_
 refine hdv0 9 6 (.bool bo) (by rfl) hr2 ?_
 refine wpAnyH_done (by kernel_rfl) ?_ _
 have HBO := Shh.mk hbo
 clear hbo hr2 hr1 q1 q2 k1 k2 H1 H2 K1 K2
 go_wp2
 go_ret
 exact ⟨bo, rfl, fun e => by rw [HBO.out, e]; simp, F.out⟩
set_option maxHeartbeats 1000000 in
theorem does_write {w W : World} {E : Nat → Option Ent} {Q0 : Nat → Prop} {c d g r : Nat} {s t : DS} (h : SysQ w W E Q0) (hx : E c = some ⟨false, g, s⟩) (hy : E d = some ⟨true, r, t⟩) (hcd : c ≠ d) (hls : s.wait.length ≤ 1000000) (hlt : t.wait.length ≤ 1000000) (y : OpV) (hd : y.d = 1) (vb vp : Value) (hn : y.n ≤ 9223372036854775807) (hb : Sl w w.heap.size vb y.b) (hp : Slb w w.heap.size vp y.p) (hbl : y.b.length ≤ 1000) : Calls Try.prog 15 #[.pointer (some ⟨g, 0, none⟩), .pointer (some ⟨r, 0, none⟩), .agg (opC y.d y.i y.n y.x vb vp).toArray] W (DoesIs w W E Q0 c d g r s t y) := by
 unfold DoesIs
 rw [st1 hd, st1 hd]
 obtain ⟨yd, i, n, x, b, p⟩ := y
 obtain ⟨Ab, cb, rfl, _, _⟩ := hb.form
 obtain ⟨Ap, cp, rfl, _, _⟩ : ∃ A cp, vp = .slice A p.length cp ∧ p.length ≤ cp ∧ cp ≤ maxLen := by obtain ⟨A, cp, h1, h2, h3, _⟩ := hp; exact ⟨A, cp, h1, h2, h3⟩
 have hd : yd = 1 := hd
 subst hd
 unfold opC
 obtain ⟨nb, hnb⟩ : ∃ nb, nb = b.length := ⟨_, rfl⟩
 obtain ⟨np, hnp⟩ : ∃ np, np = p.length := ⟨_, rfl⟩
 have HNB := Shh.mk hnb
 have HNP := Shh.mk hnp
 have HAB : Shh (Sl w w.heap.size (.slice Ab nb cb) b ∧ Slb w w.heap.size (.slice Ap np cp) p ∧ b.length ≤ 1000) := ⟨by rw [hnb]; exact hb, by rw [hnp]; exact hp, hbl⟩
 show Calls _ _ #[_, _, .agg #[.int .i64 1, .int .i64 i, .int .i64 n, .int .u8 (x.toNat : Int), .slice Ab b.length cb, .slice Ap p.length cp]] _ _
 rw [← hnb, ← hnp]
 clear hb hp hbl hnb hnp
 obtain ⟨W0, hW0⟩ : ∃ W0, W.alloc (.cells #[.int .i64 1, .int .i64 i, .int .i64 n, .int .u8 (x.toNat : Int), .slice Ab nb cb, .slice Ap np cp] 36) = W0 := ⟨_, rfl⟩
 have bA : Below W.heap.size W W0 := by rw [← hW0]; exact Below.alloc (Below.refl _ _) (Nat.le_refl _) _
 have HR : Shh (Row W0 W.heap.size 36 (opC 1 i n x (.slice Ab nb cb) (.slice Ap np cp))) := ⟨by rw [← hW0]; exact Row.new_ rfl rfl⟩
 have HQ : Shh (SysQ w W0 E fun k => Q0 k ∨ k = W.heap.size) := ⟨(h.new bA).less fun k hk => hk.elim .inl fun hk => .inr ⟨by omega, by have := HR.out.lt; omega⟩⟩
 have HK0 : Shh (∀ k, Q0 k → W0.heap[k]? = W.heap[k]?) := ⟨fun k hk => bA.block k (h.2.1 k hk)⟩
 have HQL : Shh (∀ k, Q0 k → k < W.heap.size) := ⟨h.2.1⟩
 have HBA := Shh.mk bA
 have c0 : W0.cell? ⟨W.heap.size, 0, none⟩ = some (.int .i64 1) := HR.out.cell 0
 have c1 : W0.cell? ⟨W.heap.size, 1, none⟩ = some (.int .i64 i) := HR.out.cell 1
 have c4 : W0.cell? ⟨W.heap.size, 4, none⟩ = some (.slice Ab nb cb) := HR.out.cell 4
 have c5 : W0.cell? ⟨W.heap.size, 5, none⟩ = some (.slice Ap np cp) := HR.out.cell 5
 have HP : Shh (E c = some ⟨false, g, s⟩ ∧ E d = some ⟨true, r, t⟩ ∧ c ≠ d ∧ s.wait.length ≤ 1000000 ∧ t.wait.length ≤ 1000000 ∧ n ≤ 9223372036854775807 ∧ ∀ z, putE E c z d = some ⟨true, r, t⟩) := ⟨hx, hy, hcd, hls, hlt, hn, fun z => by rw [putE_ne E _ (Ne.symm hcd)]; exact hy⟩
 have hz0 : W0.heap.size = W.heap.size + 1 := by rw [← hW0, asz]
 clear h hx hy hcd hls hlt hn bA
 obtain ⟨V, hV⟩ : ∃ V, V = World.drew W0 := ⟨_, rfl⟩
 have hbV : Below W0.heap.size W0 V := by rw [hV]; exact (Below.refl _ _).drew
 have HQV := Shh.mk (HQ.out.go hbV)
 have HRV := Shh.mk (HR.out.go hbV)
 have HKV : Shh (∀ k, Q0 k → V.heap[k]? = W.heap[k]?) := ⟨fun k hk => (hbV.block k (HQ.out.2.1 k (.inl hk))).trans (HK0.out k hk)⟩
 clear hbV
 clear c1 c4 c5 hz0
 go_enter Try.func15, Try.ntmps15
 go_wp2
 refine wp_region_held_drew (S := fun w' => Row w' W.heap.size 36 (opC 1 i n x (.slice Ab nb cb) (.slice Ap np cp))) (by kernel_rfl) (HR.out.drew) (fun hS => ?_)
 clear hS
 rw [← hV]
 clear hV hW0 c0
 refine hdv0 0 42 (.pointer (some ⟨g, 0, none⟩)) (by rfl) HRV.out ?_
 refine hdv 1 43 (.pointer (some ⟨W.heap.size, 1, none⟩)) (by rfl) (fun w hS => fo_k (by decide) rfl (by kernel_rfl)) HRV.out ?_
 refine hdv 2 44 (.int .i64 i) (by rfl) (fun w hS => rload_in rfl (hS.cell 1) (by kernel_rfl)) HRV.out ?_
 refine hdv 3 45 (.pointer (some ⟨W.heap.size, 3, none⟩)) (by rfl) (fun w hS => fo_k (by decide) rfl (by kernel_rfl)) HRV.out ?_
 refine hdv 4 46 (.int .u8 (x.toNat : Int)) (by rfl) (fun w hS => rload_u8 rfl (hS.cell 3) (by kernel_rfl)) HRV.out ?_
 refine hdv0 7 49 (.pointer (some ⟨r, 0, none⟩)) (by rfl) HRV.out ?_
 refine hdv 8 50 (.pointer (some ⟨W.heap.size, 1, none⟩)) (by rfl) (fun w hS => fo_k (by decide) rfl (by kernel_rfl)) HRV.out ?_
 refine hdv 9 51 (.int .i64 i) (by rfl) (fun w hS => rload_in rfl (hS.cell 1) (by kernel_rfl)) HRV.out ?_
 refine hdv 10 52 (.pointer (some ⟨W.heap.size, 3, none⟩)) (by rfl) (fun w hS => fo_k (by decide) rfl (by kernel_rfl)) HRV.out ?_
 refine hdv 11 53 (.int .u8 (x.toNat : Int)) (by rfl) (fun w hS => rload_u8 rfl (hS.cell 3) (by kernel_rfl)) HRV.out ?_
 refine held_one 5 (by kernel_rfl) ?_
 refine step_call 5 _ _ (some 47) 29 #[.int .u8 (x.toNat : Int)] (by rfl) (by kernel_rfl) (by first | kernel_rfl | go_simp) ?_
 refine (Block_any x V).mono ?_
 unfold OwnIs Gives
 rintro e w1 ⟨v1, rfl, k1, b1⟩
 have hr1 := HRV.out.go b1
 have q1 := HQV.out.go b1
 have K1 : ∀ k, Q0 k → w1.heap[k]? = W.heap[k]? := fun k hk => (b1.block k (HQV.out.2.1 k (.inl hk))).trans (HKV.out k hk)
 have H1 := Shh.mk (q_Write q1 HP.out.1 HP.out.2.2.2.1 i w1.heap.size v1 _ (Sl.of_own k1) (Nat.le_refl _))
 refine ⟨_, rfl, hr1, ?_⟩
 simp only [Act.put, arr9, hd9, tl9]
 refine held_one 6 (by kernel_rfl) ?_
 refine step_call 6 _ _ (some 48) 28 #[.pointer (some ⟨g, 0, none⟩), .int .i64 i, v1] (by rfl) (by kernel_rfl) (by first | kernel_rfl | go_simp) ?_
 refine (H1.out).mono ?_
 unfold QIs
 rintro e w2 ⟨rfl, q2, k2⟩
 have hr2 : Row w2 W.heap.size _ _ := (k2 _ (.inr rfl)).trans hr1
 have K2 : ∀ k, Q0 k → w2.heap[k]? = W.heap[k]? := fun k hk => (k2 k (.inl hk)).trans (K1 k hk)
 refine ⟨_, rfl, hr2, ?_⟩
 simp only [Act.put, arr9, hd9, tl9]
 refine held_one 12 (by kernel_rfl) ?_
 refine step_call 12 _ _ (some 54) 29 #[.int .u8 (x.toNat : Int)] (by rfl) (by kernel_rfl) (by first | kernel_rfl | go_simp) ?_
 refine (Block_any x w2).mono ?_
 unfold OwnIs Gives
 rintro e w3 ⟨v3, rfl, k3, b3⟩
 have hr3 := hr2.go b3
 have q3 := q2.go b3
 have K3 : ∀ k, Q0 k → w3.heap[k]? = W.heap[k]? := fun k hk => (b3.block k (q2.2.1 k (.inl hk))).trans (K2 k hk)
 have H3 := Shh.mk (q_rWrite q3 (HP.out.2.2.2.2.2.2 _) HP.out.2.2.2.2.1 i w3.heap.size v3 _ (Sl.of_own k3) (Nat.le_refl _))
 refine ⟨_, rfl, hr3, ?_⟩
 simp only [Act.put, arr9, hd9, tl9]
 refine held_one 13 (by kernel_rfl) ?_
 refine step_call 13 _ _ (some 55) 38 #[.pointer (some ⟨r, 0, none⟩), .int .i64 i, v3] (by rfl) (by kernel_rfl) (by first | kernel_rfl | go_simp) ?_
 refine (H3.out).mono ?_
 unfold QIs
 rintro e w4 ⟨rfl, q4, k4⟩
 have hr4 : Row w4 W.heap.size _ _ := (k4 _ (.inr rfl)).trans hr3
 have K4 : ∀ k, Q0 k → w4.heap[k]? = W.heap[k]? := fun k hk => (k4 k (.inl hk)).trans (K3 k hk)
 have F : Shh (SysQ w w4 (putE (putE E c (some ⟨false, g, wrS s i (blkL x 256)⟩)) d (some ⟨true, r, wrS t i (blkL x 256)⟩)) Q0 ∧ ∀ k, Q0 k → w4.heap[k]? = W.heap[k]?) := ⟨q4.less fun k hk => .inl hk, K4⟩
 refine ⟨_, rfl, hr4, ?_⟩
 simp only [Act.put, arr9, hd9, tl9]
 obtain ⟨bo, hbo⟩ : ∃ bo, bo = decide (wrE s i (blkL x 256).length = wrE t i (blkL x 256).length) := ⟨_, rfl⟩
 refine hdv 14 56 (.bool bo) (by rfl) (fun w hS => err_d bo hbo rfl (by kernel_rfl) (by kernel_rfl)) hr4 ?_
 refine hdv0 15 6 (.bool bo) (by rfl) hr4 ?_
 refine wpAnyH_done (by kernel_rfl) ?_ _
 have HBO := Shh.mk hbo
 clear hbo hr1 hr2 hr3 hr4 q1 q2 q3 q4 k1 k2 k3 k4 b1 b3 H1 H3 K1 K2 K3 K4
 go_wp2
 go_ret
 exact ⟨bo, rfl, fun e => by rw [HBO.out, e]; simp, F.out⟩
set_option maxHeartbeats 1000000 in
theorem does_other {w W : World} {E : Nat → Option Ent} {Q0 : Nat → Prop} {c d g r : Nat} {s t : DS} (h : SysQ w W E Q0) (hx : E c = some ⟨false, g, s⟩) (hy : E d = some ⟨true, r, t⟩) (hcd : c ≠ d) (hls : s.wait.length ≤ 1000000) (hlt : t.wait.length ≤ 1000000) (y : OpV) (hd : y.d ≠ 0 ∧ y.d ≠ 1 ∧ y.d ≠ 2 ∧ y.d ≠ 3 ∧ y.d ≠ 4 ∧ y.d ≠ 5 ∧ y.d ≠ 7) (vb vp : Value) (hn : y.n ≤ 9223372036854775807) (hb : Sl w w.heap.size vb y.b) (hp : Slb w w.heap.size vp y.p) (hbl : y.b.length ≤ 1000) : Calls Try.prog 15 #[.pointer (some ⟨g, 0, none⟩), .pointer (some ⟨r, 0, none⟩), .agg (opC y.d y.i y.n y.x vb vp).toArray] W (DoesIs w W E Q0 c d g r s t y) := by
 unfold DoesIs
 rw [st9 hd.2.1 hd.2.2.1 hd.2.2.2.1 hd.2.2.2.2.1 hd.2.2.2.2.2.1 hd.2.2.2.2.2.2, st9 hd.2.1 hd.2.2.1 hd.2.2.2.1 hd.2.2.2.2.1 hd.2.2.2.2.2.1 hd.2.2.2.2.2.2]
 obtain ⟨yd, i, n, x, b, p⟩ := y
 obtain ⟨Ab, cb, rfl, _, _⟩ := hb.form
 obtain ⟨Ap, cp, rfl, _, _⟩ : ∃ A cp, vp = .slice A p.length cp ∧ p.length ≤ cp ∧ cp ≤ maxLen := by obtain ⟨A, cp, h1, h2, h3, _⟩ := hp; exact ⟨A, cp, h1, h2, h3⟩
 have HD := Shh.mk (show yd ≠ 0 ∧ yd ≠ 1 ∧ yd ≠ 2 ∧ yd ≠ 3 ∧ yd ≠ 4 ∧ yd ≠ 5 ∧ yd ≠ 7 from hd)
 clear hd
 unfold opC
 obtain ⟨nb, hnb⟩ : ∃ nb, nb = b.length := ⟨_, rfl⟩
 obtain ⟨np, hnp⟩ : ∃ np, np = p.length := ⟨_, rfl⟩
 have HNB := Shh.mk hnb
 have HNP := Shh.mk hnp
 have HAB : Shh (Sl w w.heap.size (.slice Ab nb cb) b ∧ Slb w w.heap.size (.slice Ap np cp) p ∧ b.length ≤ 1000) := ⟨by rw [hnb]; exact hb, by rw [hnp]; exact hp, hbl⟩
 show Calls _ _ #[_, _, .agg #[.int .i64 yd, .int .i64 i, .int .i64 n, .int .u8 (x.toNat : Int), .slice Ab b.length cb, .slice Ap p.length cp]] _ _
 rw [← hnb, ← hnp]
 clear hb hp hbl hnb hnp
 obtain ⟨W0, hW0⟩ : ∃ W0, W.alloc (.cells #[.int .i64 yd, .int .i64 i, .int .i64 n, .int .u8 (x.toNat : Int), .slice Ab nb cb, .slice Ap np cp] 36) = W0 := ⟨_, rfl⟩
 have bA : Below W.heap.size W W0 := by rw [← hW0]; exact Below.alloc (Below.refl _ _) (Nat.le_refl _) _
 have HR : Shh (Row W0 W.heap.size 36 (opC yd i n x (.slice Ab nb cb) (.slice Ap np cp))) := ⟨by rw [← hW0]; exact Row.new_ rfl rfl⟩
 have HQ : Shh (SysQ w W0 E fun k => Q0 k ∨ k = W.heap.size) := ⟨(h.new bA).less fun k hk => hk.elim .inl fun hk => .inr ⟨by omega, by have := HR.out.lt; omega⟩⟩
 have HK0 : Shh (∀ k, Q0 k → W0.heap[k]? = W.heap[k]?) := ⟨fun k hk => bA.block k (h.2.1 k hk)⟩
 have HQL : Shh (∀ k, Q0 k → k < W.heap.size) := ⟨h.2.1⟩
 have HBA := Shh.mk bA
 have c0 : W0.cell? ⟨W.heap.size, 0, none⟩ = some (.int .i64 yd) := HR.out.cell 0
 have c1 : W0.cell? ⟨W.heap.size, 1, none⟩ = some (.int .i64 i) := HR.out.cell 1
 have c4 : W0.cell? ⟨W.heap.size, 4, none⟩ = some (.slice Ab nb cb) := HR.out.cell 4
 have c5 : W0.cell? ⟨W.heap.size, 5, none⟩ = some (.slice Ap np cp) := HR.out.cell 5
 have HP : Shh (E c = some ⟨false, g, s⟩ ∧ E d = some ⟨true, r, t⟩ ∧ c ≠ d ∧ s.wait.length ≤ 1000000 ∧ t.wait.length ≤ 1000000 ∧ n ≤ 9223372036854775807 ∧ ∀ z, putE E c z d = some ⟨true, r, t⟩) := ⟨hx, hy, hcd, hls, hlt, hn, fun z => by rw [putE_ne E _ (Ne.symm hcd)]; exact hy⟩
 have hz0 : W0.heap.size = W.heap.size + 1 := by rw [← hW0, asz]
 clear h hx hy hcd hls hlt hn bA
 have F : Shh (SysQ w W0 (putE (putE E c (some ⟨false, g, s⟩)) d (some ⟨true, r, t⟩)) Q0 ∧ ∀ k, Q0 k → W0.heap[k]? = W.heap[k]?) := ⟨by rw [putE_id HP.out.1, putE_id HP.out.2.1]; exact HQ.out.less fun k hk => .inl hk, HK0.out⟩
 clear c1 c4 c5 hz0
 go_enter Try.func15, Try.ntmps15
 go_wp2_with (first | refine wl_at 17 rfl (.bool false) rfl (eqc_no HD.out.1 rfl rfl) ?_ | refine wl_at 41 rfl (.bool false) rfl (eqc_no HD.out.2.1 rfl rfl) ?_ | refine wl_at 58 rfl (.bool false) rfl (eqc_no HD.out.2.2.1 rfl rfl) ?_ | refine wl_at 65 rfl (.bool false) rfl (eqc_no HD.out.2.2.2.1 rfl rfl) ?_ | refine wl_at 76 rfl (.bool false) rfl (eqc_no HD.out.2.2.2.2.1 rfl rfl) ?_ | refine wl_at 83 rfl (.bool false) rfl (eqc_no HD.out.2.2.2.2.2.1 rfl rfl) ?_ | refine wl_at 93 rfl (.bool false) rfl (eqc_no HD.out.2.2.2.2.2.2 rfl rfl) ?_)
 go_ret
 exact .inr ⟨rfl, F.out⟩
end Go.Proofs.Ytpajdmbajopofaa
