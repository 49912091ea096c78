/-
 WALK: few.
-/
import Derived.Test.YtpajdmbajopofaaDm1
namespace Go.Proofs.Ytpajdmbajopofaa
open Go.RowKit
set_option maxRecDepth 100000
theorem info_op6 : (Try.prog.info? 36).map (·.size) = some 6 := by kernel_rfl
def opZ : List Value := [.int .i64 0, .int .i64 0, .int .i64 0, .int .u8 0, .slice none 0 0, .slice none 0 0]
def fewO (l : List OpV) : Bool := (l.all fun y => decide (y.b.length ≤ 1000 ∧ y.p.length ≤ 1000)) && decide (l.length ≤ 200)
theorem fewO_iff {l : List OpV} : fewO l = true ↔ (∀ y ∈ l, y.b.length ≤ 1000 ∧ y.p.length ≤ 1000) ∧ l.length ≤ 200 := by
 unfold fewO
 rw [Bool.and_eq_true, List.all_eq_true, decide_eq_true_iff]
 simp only [decide_eq_true_eq]
theorem opC_one {d i n : Int} {x : UInt8} {A1 A2 : Option Addr} {n1 n2 c1 c2 : Nat} : ∀ u ∈ opC d i n x (.slice A1 n1 c1) (.slice A2 n2 c2), u.oneCell' = true := by
 intro u hu
 simp only [opC, List.mem_cons, List.not_mem_nil, or_false] at hu
 rcases hu with rfl | rfl | rfl | rfl | rfl | rfl <;> rfl
def FewOIs (w : World) (l : List OpV) (e : Ending) (w' : World) : Prop := e = .returned (.bool (fewO l)) ∧ Below w.heap.size w w'
theorem gtr_d {o : Oper} {a : Act} {w : World} {x : Operand} {k : Nat} (b : Bool) (h : b = decide (1000 < k)) (ho : o.op = .binOp .gtr 3 x (.const (.int .i64 1000)) 3) (hx : a.eval x = .int .i64 (k : Int)) : (execOp a.eval o).run Try.prog w = .ok (.value (.bool b)) w := by
 have e : (execOp a.eval o).run Try.prog w = .ok (.value (.bool (decide ((1000 : Int) < (k : Int))))) w := by
  have hc : a.eval (.const (.int .i64 1000)) = .int .i64 1000 := rfl
  unfold execOp
  simp only [ho, hx, hc]
  go_simp
 rw [e, h]
 congr 3
 rw [decide_eq_decide]
 omega
theorem leq_d {o : Oper} {a : Act} {w : World} {x : Operand} {k : Nat} (b : Bool) (h : b = decide (k ≤ 200)) (ho : o.op = .binOp .leq 3 x (.const (.int .i64 200)) 3) (hx : a.eval x = .int .i64 (k : Int)) : (execOp a.eval o).run Try.prog w = .ok (.value (.bool b)) w := by
 have e : (execOp a.eval o).run Try.prog w = .ok (.value (.bool (decide ((k : Int) ≤ (200 : Int))))) w := by
  have hc : a.eval (.const (.int .i64 200)) = .int .i64 200 := rfl
  unfold execOp
  simp only [ho, hx, hc]
  go_simp
 rw [e, h]
 congr 3
 rw [decide_eq_decide]
 omega
theorem add_big {o : Oper} {a : Act} {w : World} {x : Operand} {k : Nat} (hk : k + 1 ≤ 9223372036854775807) (ho : o.op = .binOp .add 3 x (.const (.int .i64 1)) 3) (hx : a.eval x = .int .i64 (k : Int)) : (execOp a.eval o).run Try.prog w = .ok (.value (.int .i64 ((k + 1 : Nat) : Int))) w := by
 have e : IntKind.i64.wrap ((k : Int) + 1) = ((k + 1 : Nat) : Int) := by rw [IntKind.wrap_i64]; omega
 have hc : a.eval (.const (.int .i64 1)) = .int .i64 1 := rfl
 unfold execOp
 simp only [ho, hx, hc]
 go_simp
set_option maxHeartbeats 4000000 in
theorem few_any (B : Nat) (v : Value) (l : List OpV) (w : World) (h : Ops w B v l) (hB : B ≤ w.heap.size) : Calls Try.prog 13 #[v] w (FewOIs w l) := by
 unfold FewOIs
 have HB0 : Shh (Below w.heap.size w w) := ⟨Below.refl _ _⟩
 have HO := Shh.mk h
 obtain ⟨A, c, rfl, hlc, hcm⟩ := h.form
 have hnat : l.length ≤ 9223372036854775807 := by unfold maxLen at hcm; omega
 obtain ⟨n, hn⟩ : ∃ n, n = l.length := ⟨_, rfl⟩
 have HN := Shh.mk hn
 have HMX0 : Shh (n ≤ 9223372036854775807) := ⟨by omega⟩
 rw [← hn]
 clear h hlc hcm hnat hn
 go_enter Try.func13, Try.ntmps13
 go_wp2
 go_loopw [7] (fun j wr => ∃ k : Nat, k ≤ n ∧ j = .int .i64 (k : Int) ∧ Shh ((∀ j (h : j < l.length), j < k → l[j].b.length ≤ 1000 ∧ l[j].p.length ≤ 1000) ∧ Below w.heap.size w wr)) (fun j _ => n - (intOf j).toNat)
 case atStart => exact ⟨0, Nat.zero_le _, rfl, ⟨fun j h hj => by omega, HB0.out⟩⟩
 case round =>
  obtain ⟨k, hk, rfl, H⟩ := hrel
  by_cases hlt : k < n
  ·have hlt2 : (k : Int) < (n : Int) := by omega
   have hz : (0 : Int) ≤ (k : Int) := by omega
   have hkl : k < l.length := by rw [← HN.out]; exact hlt
   have HK : Shh (k < n ∧ k < l.length) := ⟨hlt, hkl⟩
   obtain ⟨q, off, rfl, hq, hop⟩ := HO.out.at_ (by omega)
   have hb := H.out.2
   have hbs := hb.size
   obtain ⟨y0, vb, vp, y1, y2, y3⟩ := (hop k hkl).below (hb.mono hB) hq
   obtain ⟨A1, c1, rfl, _, _⟩ := y2.form
   obtain ⟨A2, c2, rfl, _, _⟩ := y3.form
   obtain ⟨y, hy⟩ : ∃ y, y = l[k] := ⟨_, rfl⟩
   rw [← hy] at y1
   have HY := Shh.mk hy
   have hRZ : Row (w := wr.alloc (.cells #[.int .i64 0, .int .i64 0, .int .i64 0, .int .u8 0, .slice none 0 0, .slice none 0 0] 36)) (g := wr.heap.size) (T := 36) (cs := opZ) := Row.new_ rfl rfl
   clear y2 y3 hop hy y0
   clear hb hbs hlt
   go_wp2_with (first | refine wpList_load_mid rfl 36 (.tmp 9) rfl q (off + k * 6) (by go_num) (opC y.d y.i y.n y.x (.slice A1 y.b.length c1) (.slice A2 y.p.length c2)) _ y1 Try.underlying36 rfl info_op6 ?_ | refine wpList_store_any rfl 36 (.tmp 4) (.tmp 10) rfl wr.heap.size rfl (opC y.d y.i y.n y.x (.slice A1 y.b.length c1) (.slice A2 y.p.length c2)) rfl 36 _ hRZ info_op6 rfl opC_one ?_)
   intro Z hr bt hz2
   have bZ : Below wr.heap.size wr Z := (Below.alloc (Below.refl _ _) (Nat.le_refl _) _).trans (bt.under (by omega) (Nat.le_refl _))
   have m4 : Z.cell? ⟨wr.heap.size, 4, none⟩ = some (.slice A1 y.b.length c1) := hr.cell 4
   have m5 : Z.cell? ⟨wr.heap.size, 5, none⟩ = some (.slice A2 y.p.length c2) := hr.cell 5
   have F : Shh (Below w.heap.size w Z) := ⟨Below.chain H.out.2 bZ⟩
   have HPF := Shh.mk H.out.1
   obtain ⟨n1, hn1⟩ : ∃ n1, n1 = y.b.length := ⟨_, rfl⟩
   obtain ⟨n2, hn2⟩ : ∃ n2, n2 = y.p.length := ⟨_, rfl⟩
   rw [← hn1] at m4
   rw [← hn2] at m5
   have HYN : Shh (∀ h : k < l.length, n1 = l[k].b.length ∧ n2 = l[k].p.length) := ⟨fun _ => by rw [← HY.out]; exact ⟨hn1, hn2⟩⟩
   have HMX : Shh (k + 1 ≤ 9223372036854775807) := ⟨by have := HK.out; have := HMX0.out; omega⟩
   clear hr bt hz2 bZ y1 hRZ H hn1 hn2 HY
   by_cases g1 : 1000 < n1
   ·have G1 : Shh (true = decide (1000 < n1)) := ⟨by simp [g1]⟩
    have HE : Shh (fewO l = false) := by
     have : ¬ fewO l = true := fun e => by
      have := (fewO_iff.1 e).1 _ (List.getElem_mem HK.out.2)
      have := HYN.out HK.out.2
      omega
     exact ⟨by simpa using this⟩
    clear g1
    go_wp2_with (first | refine wl_at 14 rfl (.bool true) rfl (gtr_d true G1.out rfl rfl) ?_)
    go_ret
    exact ⟨by rw [HE.out]; rfl, F.out⟩
   ·have G1 : Shh (false = decide (1000 < n1)) := ⟨by simp [g1]⟩
    by_cases g2 : 1000 < n2
    ·have G2 : Shh (true = decide (1000 < n2)) := ⟨by simp [g2]⟩
     have HE : Shh (fewO l = false) := by
      have : ¬ fewO l = true := fun e => by
       have := (fewO_iff.1 e).1 _ (List.getElem_mem HK.out.2)
       have := HYN.out HK.out.2
       omega
      exact ⟨by simpa using this⟩
     clear g1 g2
     go_wp2_with (first | refine wl_at 14 rfl (.bool false) rfl (gtr_d false G1.out rfl rfl) ?_ | refine wl_atW 19 rfl (.bool true) (by kernel_rfl) (gtr_d true G2.out rfl rfl) ?_)
     go_ret
     exact ⟨by rw [HE.out]; rfl, F.out⟩
    ·have G2 : Shh (false = decide (1000 < n2)) := ⟨by simp [g2]⟩
     have HR : Shh ((∀ j (h : j < l.length), j < k + 1 → l[j].b.length ≤ 1000 ∧ l[j].p.length ≤ 1000) ∧ Below w.heap.size w Z) := by
      refine ⟨fun j hj hjk => ?_, F.out⟩
      by_cases hjk2 : j = k
      ·subst hjk2
       have := HYN.out hj
       omega
      ·exact HPF.out j hj (by omega)
     clear g1 g2 F HPF
     go_wp2_with (first | refine wl_at 14 rfl (.bool false) rfl (gtr_d false G1.out rfl rfl) ?_ | refine wl_atW 19 rfl (.bool false) (by kernel_rfl) (gtr_d false G2.out rfl rfl) ?_ | refine wl_at 21 rfl (.int .i64 ((k + 1 : Nat) : Int)) rfl (add_big HMX.out rfl rfl) ?_)
     go_roundw
     case rel => exact ⟨k + 1, HK.out.1, by go_num, HR⟩
     case measure => have := HK.out.1; simp [intOf]; omega
  ·obtain rfl : k = n := by omega
   have hlt2 : ¬ (k : Int) < (k : Int) := by omega
   have HE : Shh (fewO l = decide (k ≤ 200)) := by
    refine ⟨?_⟩
    have hn := HN.out
    by_cases h200 : k ≤ 200
    ·rw [decide_eq_true h200]
     exact fewO_iff.2 ⟨fun y hy => by obtain ⟨j, hj, rfl⟩ := List.mem_iff_getElem.1 hy; exact H.out.1 j hj (by omega), by omega⟩
    ·rw [decide_eq_false h200]
     have : ¬ fewO l = true := fun e => by have := (fewO_iff.1 e).2; omega
     simpa using this
   have F := Shh.mk H.out.2
   obtain ⟨bo, hbo⟩ : ∃ bo, bo = decide (k ≤ 200) := ⟨_, rfl⟩
   have HBO := Shh.mk hbo
   clear H hbo hlt hk
   go_wp2_with (refine wl_at 24 rfl (.bool bo) rfl (leq_d bo HBO.out rfl rfl) ?_)
   go_ret
   exact ⟨by rw [HE.out, ← HBO.out]; rfl, F.out⟩
end Go.Proofs.Ytpajdmbajopofaa
