/-
 WALK: does, with the caller's bytes that turn behind the call; all of does.
-/
import Derived.Test.YtpajdmbajopofaaDm3
namespace Go.Proofs.Ytpajdmbajopofaa
open Go.RowKit
set_option maxRecDepth 100000
theorem own_keep {w w' : World} {base sz n : Nat} {T : TypeId} {v : Value} {xs : List Value} (h : w.ownsRow base T sz v n xs) (hk : ∀ k, v.ownBlock = some k → w'.heap[k]? = w.heap[k]?) : w'.ownsRow base T sz v n xs := by
 refine ⟨h.1, ?_⟩
 rcases h.2 with h2 | ⟨p, cap, cur, hv, hb, hp, rest⟩
 ·exact .inl h2
 ·exact .inr ⟨p, cap, cur, hv, hb, (hk p (by rw [hv]; rfl)).trans hp, rest⟩
theorem own_fm {w : World} {base sz n : Nat} {T : TypeId} {v : Value} {xs : List Value} (h : w.ownsRow base T sz v n xs) : ∃ A cp, v = .slice A n cp := by
 rcases h.2 with ⟨rfl, e⟩ | ⟨p, cap, cur, rfl, _⟩
 ·exact ⟨none, 0, by rw [e]⟩
 ·exact ⟨_, _, rfl⟩
theorem add_u8 {o : Oper} {a : Act} {w : World} {x : Operand} {p : UInt8} (ho : o.op = .binOp .add 5 x (.const (.int .u8 1)) 5) (hx : a.eval x = .int .u8 (p.toNat : Int)) : (execOp a.eval o).run Try.prog w = .ok (.value (.int .u8 ((p + 1).toNat : Int))) w :=
 add_88 (q := 1) rfl ho hx rfl
/-- bytes of the law's own, of which some have turned -/
def MsI (w Wb : World) (E : Nat → Option Ent) (Q0 Q : Nat → Prop) (v : Value) (n : Nat) (W : World) : Prop := (SysQ w W E Q ∧ (∀ k, Q0 k → k < Wb.heap.size ∧ W.heap[k]? = Wb.heap[k]?)) ∧ ∃ bs : List UInt8, bs.length = n ∧ W.ownsRow w.heap.size 5 1 v n (Lib.byteCells bs)
theorem MsI.cell {w Wb W : World} {E : Nat → Option Ent} {Q0 Q : Nat → Prop} {v : Value} {n k : Nat} (h : MsI w Wb E Q0 Q v n W) (hk : k < n) : ∃ q cp z, v = .slice (some ⟨q, 0, none⟩) n cp ∧ W.cell? ⟨q, k, none⟩ = some (.int .u8 ((z : UInt8).toNat : Int)) ∧ W.frozen? ⟨q, k, none⟩ = false := by
 obtain ⟨_, bs, hl, h2⟩ := h
 rcases id h2.2 with ⟨_, e⟩ | ⟨q, cap, cur, rfl, _⟩
 ·omega
 ·refine ⟨q, cap, bs[k], rfl, ?_, h2.frozenAt k⟩
  rw [h2.cellAt k (by omega), byteCells_get bs k (by omega)]
theorem MsI.set {w Wb W : World} {E : Nat → Option Ent} {Q0 Q : Nat → Prop} {q cp n k : Nat} (z : UInt8) (h : MsI w Wb E Q0 Q (.slice (some ⟨q, 0, none⟩) n cp) n W) (hq : Q q) (hqb : Wb.heap.size ≤ q) : MsI w Wb E Q0 Q (.slice (some ⟨q, 0, none⟩) n cp) n (W.setCell ⟨q, k, none⟩ (.int .u8 (z.toNat : Int))) := by
 obtain ⟨h1, bs, hl, h2⟩ := h
 have hw := (h2.lt q rfl).1
 refine ⟨⟨h1.1.mess hq hw (but_set W q k _), fun j hj => ⟨(h1.2 j hj).1, (heap_setCell_other W ⟨q, k, none⟩ j _ (by show j ≠ q; have := (h1.2 j hj).1; omega)).trans (h1.2 j hj).2⟩⟩, bs.set k z, by rw [List.length_set]; exact hl, ?_⟩
 have := (h2.stored k (.int .u8 (z.toNat : Int))).1
 rw [show (Lib.byteCells bs).set k (.int .u8 (z.toNat : Int)) = Lib.byteCells (bs.set k z) by simp [Lib.byteCells, List.map_set]] at this
 exact this
set_option maxHeartbeats 1000000 in
theorem does_raw {w W : World} {E : Nat → Option Ent} {Q0 : Nat → Prop} {c d g r : Nat} {s t : DS} (h : SysQ w W E Q0) (hx : E c = some ⟨false, g, s⟩) (hy : E d = some ⟨true, r, t⟩) (hcd : c ≠ d) (hls : s.wait.length ≤ 1000000) (hlt : t.wait.length ≤ 1000000) (y : OpV) (hd : y.d = 7) (vb vp : Value) (hn : y.n ≤ 9223372036854775807) (hb : Sl w w.heap.size vb y.b) (hp : Slb w w.heap.size vp y.p) (hbl : y.b.length ≤ 1000) : Calls Try.prog 15 #[.pointer (some ⟨g, 0, none⟩), .pointer (some ⟨r, 0, none⟩), .agg (opC y.d y.i y.n y.x vb vp).toArray] W (DoesIs w W E Q0 c d g r s t y) := by
 unfold DoesIs
 rw [st7 hd, st7 hd]
 obtain ⟨yd, i, n, x, b, p⟩ := y
 obtain ⟨Ab, cb, rfl, _, _⟩ := hb.form
 obtain ⟨Ap, cp, rfl, _, _⟩ : ∃ A cp, vp = .slice A p.length cp ∧ p.length ≤ cp ∧ cp ≤ maxLen := by obtain ⟨A, cp, h1, h2, h3, _⟩ := hp; exact ⟨A, cp, h1, h2, h3⟩
 have hd : yd = 7 := hd
 subst hd
 unfold opC
 obtain ⟨nb, hnb⟩ : ∃ nb, nb = b.length := ⟨_, rfl⟩
 obtain ⟨np, hnp⟩ : ∃ np, np = p.length := ⟨_, rfl⟩
 have HNB := Shh.mk hnb
 have HNP := Shh.mk hnp
 have HAB : Shh (Sl w w.heap.size (.slice Ab nb cb) b ∧ Slb w w.heap.size (.slice Ap np cp) p ∧ b.length ≤ 1000) := ⟨by rw [hnb]; exact hb, by rw [hnp]; exact hp, hbl⟩
 show Calls _ _ #[_, _, .agg #[.int .i64 7, .int .i64 i, .int .i64 n, .int .u8 (x.toNat : Int), .slice Ab b.length cb, .slice Ap p.length cp]] _ _
 rw [← hnb, ← hnp]
 clear hb hp hbl hnb hnp
 obtain ⟨W0, hW0⟩ : ∃ W0, W.alloc (.cells #[.int .i64 7, .int .i64 i, .int .i64 n, .int .u8 (x.toNat : Int), .slice Ab nb cb, .slice Ap np cp] 36) = W0 := ⟨_, rfl⟩
 have bA : Below W.heap.size W W0 := by rw [← hW0]; exact Below.alloc (Below.refl _ _) (Nat.le_refl _) _
 have HR : Shh (Row W0 W.heap.size 36 (opC 7 i n x (.slice Ab nb cb) (.slice Ap np cp))) := ⟨by rw [← hW0]; exact Row.new_ rfl rfl⟩
 have HQ : Shh (SysQ w W0 E fun k => Q0 k ∨ k = W.heap.size) := ⟨(h.new bA).less fun k hk => hk.elim .inl fun hk => .inr ⟨by omega, by have := HR.out.lt; omega⟩⟩
 have HK0 : Shh (∀ k, Q0 k → W0.heap[k]? = W.heap[k]?) := ⟨fun k hk => bA.block k (h.2.1 k hk)⟩
 have HQL : Shh (∀ k, Q0 k → k < W.heap.size) := ⟨h.2.1⟩
 have HBA := Shh.mk bA
 have c0 : W0.cell? ⟨W.heap.size, 0, none⟩ = some (.int .i64 7) := HR.out.cell 0
 have c1 : W0.cell? ⟨W.heap.size, 1, none⟩ = some (.int .i64 i) := HR.out.cell 1
 have c4 : W0.cell? ⟨W.heap.size, 4, none⟩ = some (.slice Ab nb cb) := HR.out.cell 4
 have c5 : W0.cell? ⟨W.heap.size, 5, none⟩ = some (.slice Ap np cp) := HR.out.cell 5
 have HP : Shh (E c = some ⟨false, g, s⟩ ∧ E d = some ⟨true, r, t⟩ ∧ c ≠ d ∧ s.wait.length ≤ 1000000 ∧ t.wait.length ≤ 1000000 ∧ n ≤ 9223372036854775807 ∧ ∀ z, putE E c z d = some ⟨true, r, t⟩) := ⟨hx, hy, hcd, hls, hlt, hn, fun z => by rw [putE_ne E _ (Ne.symm hcd)]; exact hy⟩
 have hz0 : W0.heap.size = W.heap.size + 1 := by rw [← hW0, asz]
 clear h hx hy hcd hls hlt hn bA
 obtain ⟨W1, hW1⟩ : ∃ W1, W0.alloc (.cells #[.slice Ab nb cb] 33) = W1 := ⟨_, rfl⟩
 have b1 : Below W0.heap.size W0 W1 := by rw [← hW1]; exact Below.alloc (Below.refl _ _) (Nat.le_refl _) _
 have r1 : Row W1 W0.heap.size 33 [.slice Ab nb cb] := by rw [← hW1]; exact Row.new_ rfl rfl
 have q1 := HQ.out.go b1
 have hr1 := HR.out.go b1
 have HKB1 : Shh (∀ k, Q0 k → k < W.heap.size ∧ W1.heap[k]? = W.heap[k]?) := ⟨fun k hk => ⟨HQL.out k hk, (b1.block k (HQ.out.2.1 k (.inl hk))).trans (HK0.out k hk)⟩⟩
 have hsz := HQ.out.1.size
 have hs1 : Sl W1 w.heap.size (.slice Ab nb cb) b := HAB.out.1.below q1.1
 have HJ : Shh (Calls Try.prog 21 #[.slice (some ⟨W0.heap.size, 0, none⟩) 1 1] W1 (OwnIs W1 b)) := by
  have := refJoin_any W1.heap.size W1.heap.size _ [b] W1 (PartsO.solo (n := 1) r1 r1.lt (by have := r1.lt; omega) (hs1.more (by have := q1.1.size; omega)) (hs1.off (by have := q1.1.size; omega))) (Nat.le_refl _) (by simp; have := HAB.out.2.2; omega) (by simp)
  rw [flat_one] at this
  exact ⟨this⟩
 have HQ1 := Shh.mk q1
 have HR1 := Shh.mk hr1
 have HB1 := Shh.mk b1
 clear c1 c5 hz0 b1 r1 q1 hr1 hs1 hsz
 go_enter Try.func15, Try.ntmps15
 go_wp2_with (go_at_call 21; refine (HJ.out).mono ?_)
 unfold OwnIs Gives
 rintro e w1 ⟨v1, rfl, k1, b1⟩
 obtain ⟨VA, vc, rfl⟩ := own_fm k1
 rw [← HNB.out] at k1 ⊢
 have hz1 := HQ1.out.1.size
 have HKw : Shh ((∀ k, Q0 k → k < W.heap.size ∧ w1.heap[k]? = W.heap[k]?) ∧ ∀ q, (Value.slice VA nb vc).ownBlock = some q → W.heap.size ≤ q) := ⟨fun k hk => ⟨HQL.out k hk, (b1.block k (HQ1.out.2.1 k (.inl hk))).trans (HKB1.out k hk).2⟩, fun q hq => by have := (k1.lt q hq).1; have := HBA.out.size; have := HB1.out.size; omega⟩
 have HX : Shh (SysQ w w1 E (fun k => (Q0 k ∨ k = W.heap.size) ∨ (Value.slice VA nb vc).ownBlock = some k) ∧ Row w1 W.heap.size 36 (opC 7 i n x (.slice Ab nb cb) (.slice Ap np cp)) ∧ w1.ownsRow w.heap.size 5 1 (.slice VA nb vc) nb (Lib.byteCells b)) := by
  refine ⟨(HQ1.out.new b1).less fun k hk => ?_, HR1.out.go b1, own_base k1 (by omega)⟩
  rcases hk with hk | hk
  ·exact .inl hk
  ·exact .inr (k1.lt k hk)
 clear k1 b1 HJ hW1 c0 c4 hz1
 go_wp2
 refine wp_region_held_drew (S := fun w' => Row w' W.heap.size 36 (opC 7 i n x (.slice Ab nb cb) (.slice Ap np cp))) (by kernel_rfl) (HX.out.2.1.drew) (fun hS => ?_)
 clear hS
 obtain ⟨V, hV⟩ : ∃ V, V = World.drew w1 := ⟨_, rfl⟩
 rw [← hV]
 have hbV : Below w1.heap.size w1 V := by rw [hV]; exact (Below.refl _ _).drew
 have HQV := Shh.mk (HX.out.1.go hbV)
 have HRV := Shh.mk (HX.out.2.1.go hbV)
 have HKV : Shh (∀ k, Q0 k → V.heap[k]? = W.heap[k]?) := ⟨fun k hk => (hbV.block k (HX.out.1.2.1 k (.inl (.inl hk)))).trans (HKw.out.1 k hk).2⟩
 have HOV : Shh (V.ownsRow w.heap.size 5 1 (.slice VA nb vc) nb (Lib.byteCells b)) := ⟨by rw [hV]; exact HX.out.2.2.drew⟩
 have H1 := Shh.mk (q_Write HQV.out HP.out.1 HP.out.2.2.2.1 i V.heap.size _ b (by have := Sl.of_own HOV.out; exact this) (Nat.le_refl _))
 clear hbV hV HX hW0
 refine hdv0 0 98 (.pointer (some ⟨g, 0, none⟩)) (by rfl) HRV.out ?_
 refine hdv 1 99 (.pointer (some ⟨W.heap.size, 1, none⟩)) (by rfl) (fun w hS => fo_k (by decide) rfl (by kernel_rfl)) HRV.out ?_
 refine hdv 2 100 (.int .i64 i) (by rfl) (fun w hS => rload_in rfl (hS.cell 1) (by kernel_rfl)) HRV.out ?_
 refine hdv0 3 101 (.slice VA nb vc) (by rfl) HRV.out ?_
 refine hdv0 5 103 (.pointer (some ⟨r, 0, none⟩)) (by rfl) HRV.out ?_
 refine hdv 6 104 (.pointer (some ⟨W.heap.size, 1, none⟩)) (by rfl) (fun w hS => fo_k (by decide) rfl (by kernel_rfl)) HRV.out ?_
 refine hdv 7 105 (.int .i64 i) (by rfl) (fun w hS => rload_in rfl (hS.cell 1) (by kernel_rfl)) HRV.out ?_
 refine hdv 8 106 (.pointer (some ⟨W.heap.size, 4, none⟩)) (by rfl) (fun w hS => fo_k (by decide) rfl (by kernel_rfl)) HRV.out ?_
 refine hdv 9 107 (.slice Ab nb cb) (by rfl) (fun w hS => rload_by rfl (hS.cell 4) (by kernel_rfl)) HRV.out ?_
 refine held_one 4 (by kernel_rfl) ?_
 refine step_call 4 _ _ (some 102) 28 #[.pointer (some ⟨g, 0, none⟩), .int .i64 i, .slice VA nb vc] (by rfl) (by kernel_rfl) (by first | kernel_rfl | go_simp) ?_
 refine (H1.out).mono ?_
 unfold QIs
 rintro e w2 ⟨rfl, q2, k2⟩
 have hr2 : Row w2 W.heap.size _ _ := (k2 _ (.inl (.inr rfl))).trans HRV.out
 have K2 : ∀ k, Q0 k → k < W.heap.size ∧ w2.heap[k]? = W.heap[k]? := fun k hk => ⟨HQL.out k hk, (k2 k (.inl (.inl hk))).trans (HKV.out k hk)⟩
 have o2 := own_keep HOV.out fun k hk => k2 k (.inr hk)
 have H2 := Shh.mk (q_rWrite q2 (HP.out.2.2.2.2.2.2 _) HP.out.2.2.2.2.1 i w.heap.size _ b (HAB.out.1.below q2.1) q2.1.size)
 refine ⟨_, rfl, hr2, ?_⟩
 simp only [Act.put, arr9, hd9, tl9]
 refine held_one 10 (by kernel_rfl) ?_
 refine step_call 10 _ _ (some 108) 38 #[.pointer (some ⟨r, 0, none⟩), .int .i64 i, .slice Ab nb cb] (by rfl) (by kernel_rfl) (by first | kernel_rfl | go_simp) ?_
 refine (H2.out).mono ?_
 unfold QIs
 rintro e w3 ⟨rfl, q3, k3⟩
 have hr3 : Row w3 W.heap.size _ _ := (k3 _ (.inl (.inr rfl))).trans hr2
 have K3 : ∀ k, Q0 k → k < W.heap.size ∧ w3.heap[k]? = W.heap[k]? := fun k hk => ⟨HQL.out k hk, (k3 k (.inl (.inl hk))).trans (K2 k hk).2⟩
 have o3 := own_keep o2 fun k hk => k3 k (.inr hk)
 refine ⟨_, rfl, hr3, ?_⟩
 simp only [Act.put, arr9, hd9, tl9]
 obtain ⟨bo, hbo⟩ : ∃ bo, bo = decide (wrE s i b.length = wrE t i b.length) := ⟨_, rfl⟩
 refine hdv 11 109 (.bool bo) (by rfl) (fun w hS => err_d bo hbo rfl (by kernel_rfl) (by kernel_rfl)) hr3 ?_
 refine hdv0 12 12 (.bool bo) (by rfl) hr3 ?_
 refine wpAnyH_done (by kernel_rfl) ?_ _
 have HBO := Shh.mk hbo
 obtain ⟨E2, hE2⟩ : ∃ E2, E2 = putE (putE E c (some ⟨false, g, wrS s i b⟩)) d (some ⟨true, r, wrS t i b⟩) := ⟨_, rfl⟩
 obtain ⟨Q2, hQ2⟩ : ∃ Q2 : Nat → Prop, Q2 = fun k => (Q0 k ∨ k = W.heap.size) ∨ (Value.slice VA nb vc).ownBlock = some k := ⟨_, rfl⟩
 have HE2 := Shh.mk hE2
 have HQ2 := Shh.mk hQ2
 have HI : Shh (MsI w W E2 Q0 Q2 (.slice VA nb vc) nb w3) := ⟨⟨by rw [hE2, hQ2]; exact q3, K3⟩, b, HNB.out.symm, o3⟩
 have HNBB : Shh (nb ≤ 1000) := ⟨by have := HNB.out; have := HAB.out.2.2; omega⟩
 clear hbo hr2 hr3 q2 q3 k2 k3 o2 o3 H1 H2 hE2 hQ2 K2 K3
 go_wp2
 go_loopw [112] (fun j wr => ∃ k : Nat, k ≤ nb ∧ j = .int .i64 (k : Int) ∧ Shh (MsI w W E2 Q0 Q2 (.slice VA nb vc) nb wr)) (fun j _ => nb - (intOf j).toNat)
 case atStart => exact ⟨0, Nat.zero_le _, rfl, HI⟩
 case round =>
  clear HI
  obtain ⟨k, hk, rfl, H⟩ := hrel
  by_cases hlt : k < nb
  ·have hlt2 : (k : Int) < (nb : Int) := by omega
   have hz : (0 : Int) ≤ (k : Int) := by omega
   obtain ⟨q, cp3, z, hv, hcl, hfr⟩ := H.out.cell hlt
   injection hv with hv1 hv2 hv3
   subst hv1
   have hqq : Q2 q := by rw [HQ2.out]; exact .inr rfl
   have HF : Shh (MsI w W E2 Q0 Q2 (.slice (some ⟨q, 0, none⟩) nb vc) nb (wr.setCell ⟨q, k, none⟩ (.int .u8 ((z + 1).toNat : Int)))) := ⟨H.out.set (z + 1) hqq (HKw.out.2 q rfl)⟩
   have HKB : Shh (k ≤ 1000000000 ∧ k < nb) := ⟨by have := HNBB.out; omega, hlt⟩
   clear H hqq hlt hk hv2 hv3
   go_wp2_with (first | refine wl_at 119 rfl (.int .u8 ((z + 1).toNat : Int)) rfl (add_u8 rfl rfl) ?_ | refine wl_at 121 rfl (.int .i64 ((k + 1 : Nat) : Int)) rfl (add_i1 HKB.out.1 rfl rfl) ?_)
   go_roundw
   case rel => exact ⟨k + 1, HKB.out.2, by go_num, HF⟩
   case measure => have := HKB.out.2; simp [intOf]; omega
  ·obtain rfl : k = nb := by omega
   have hlt2 : ¬ (k : Int) < (k : Int) := by omega
   have F : Shh (SysQ w wr (putE (putE E c (some ⟨false, g, wrS s i b⟩)) d (some ⟨true, r, wrS t i b⟩)) Q0 ∧ ∀ k, Q0 k → wr.heap[k]? = W.heap[k]?) := ⟨by rw [← HE2.out]; exact H.out.1.1.less fun k hk => by rw [HQ2.out]; exact .inl (.inl hk), fun k hk => (H.out.1.2 k hk).2⟩
   clear H hlt hk
   go_wp2
   go_ret
   cases bo with
   | false => exact .inl ⟨rfl, fun e => by have := HBO.out; rw [e] at this; simp at this, F.out⟩
   | true => exact .inr ⟨rfl, F.out⟩
theorem does_any {w W : World} {E : Nat → Option Ent} {Q0 : Nat → Prop} {c d g r : Nat} {s t : DS} (h : SysQ w W E Q0) (hx : E c = some ⟨false, g, s⟩) (hy : E d = some ⟨true, r, t⟩) (hcd : c ≠ d) (hls : s.wait.length ≤ 1000000) (hlt : t.wait.length ≤ 1000000) (y : OpV) (vb vp : Value) (hn : y.n ≤ 9223372036854775807) (hb : Sl w w.heap.size vb y.b) (hp : Slb w w.heap.size vp y.p) (hbl : y.b.length ≤ 1000) : Calls Try.prog 15 #[.pointer (some ⟨g, 0, none⟩), .pointer (some ⟨r, 0, none⟩), .agg (opC y.d y.i y.n y.x vb vp).toArray] W (DoesIs w W E Q0 c d g r s t y) := by
 by_cases h0 : y.d = 0
 ·exact does_read h hx hy hcd hls hlt y h0 vb vp hn hb hp hbl
 by_cases h1 : y.d = 1
 ·exact does_write h hx hy hcd hls hlt y h1 vb vp hn hb hp hbl
 by_cases h2 : y.d = 2
 ·exact does_sync h hx hy hcd hls hlt y h2 vb vp hn hb hp hbl
 by_cases h3 : y.d = 3
 ·exact does_arm h hx hy hcd hls hlt y h3 vb vp hn hb hp hbl
 by_cases h4 : y.d = 4
 ·exact does_calm h hx hy hcd hls hlt y h4 vb vp hn hb hp hbl
 by_cases h5 : y.d = 5
 ·exact does_crash h hx hy hcd hls hlt y h5 vb vp hn hb hp hbl
 by_cases h7 : y.d = 7
 ·exact does_raw h hx hy hcd hls hlt y h7 vb vp hn hb hp hbl
 ·exact does_other h hx hy hcd hls hlt y ⟨h0, h1, h2, h3, h4, h5, h7⟩ vb vp hn hb hp hbl
end Go.Proofs.Ytpajdmbajopofaa
