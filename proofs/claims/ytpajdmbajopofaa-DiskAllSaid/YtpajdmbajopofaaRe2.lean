/-
 WALK: the document's Read.
-/
import Derived.Test.YtpajdmbajopofaaRe1
namespace Go.Proofs.Ytpajdmbajopofaa
open Go.RowKit
set_option maxRecDepth 100000
theorem info_wt : (Try.prog.info? 75).map (·.size) = some 2 := by kernel_rfl
theorem GAt.open_ {col : Nat → Nat} {d : Nat} {w : World} {v : Value} {l : List (List UInt8)} (h : GAt col d w v l) (hl : 0 < l.length) : ∃ p cap, v = .slice (some ⟨p, 0, none⟩) l.length cap ∧ col p = d ∧ p < w.heap.size ∧ ∀ i (hi : i < l.length), ∃ u, w.cell? ⟨p, i, none⟩ = some u ∧ Dat col w u l[i] := by
 obtain ⟨xs, h1, h2, h3⟩ := h
 rcases h1.2 with ⟨_, e⟩ | ⟨p, cap, cur, rfl, _, hp, hn, hm, hs, ht⟩
 ·omega
 ·refine ⟨p, cap, rfl, h2 p rfl, (Array.getElem?_eq_some_iff.1 hp).1, fun i hi => ?_⟩
  obtain ⟨u, h4, h5⟩ := h3 i hi
  have hc := h1.cells (g := p) rfl i u h4
  rw [addr_add, Nat.zero_add] at hc
  exact ⟨u, hc, h5⟩
theorem add_i1 {o : Oper} {a : Act} {w : World} {x : Operand} {k : Nat} (hk : k ≤ 1000000000) (ho : o.op = .binOp .add 3 x (.const (.int .i64 1)) 3) (hx : a.eval x = .int .i64 (k : Int)) : (execOp a.eval o).run Try.prog w = .ok (.value (.int .i64 ((k + 1 : Nat) : Int))) w := by
 have e : IntKind.i64.wrap ((k : Int) + 1) = ((k + 1 : Nat) : Int) := by rw [IntKind.wrap_i64]; omega
 have hc : a.eval (.const (.int .i64 1)) = .int .i64 1 := rfl
 unfold execOp
 simp only [ho, hx, hc]
 go_simp
theorem eqi_no {o : Oper} {a : Act} {w : World} {x y : Operand} {i j : Int} (h : (i == j) = false) (ho : o.op = .binOp .eql 3 x y 3) (hx : a.eval x = .int .i64 i) (hy : a.eval y = .int .i64 j) : (execOp a.eval o).run Try.prog w = .ok (.value (.bool false)) w := by
 obtain ⟨b, hb⟩ : ∃ b, b = (i == j) := ⟨_, rfl⟩
 rw [← hb] at h
 have e : (execOp a.eval o).run Try.prog w = .ok (.value (.bool (i == j))) w := by
  unfold execOp
  simp only [ho, hx, hy]
  go_simp
 rw [e, ← hb, h]
set_option maxHeartbeats 4000000 in
theorem rRead_any {col : Nat → Nat} {c g : Nat} {w : World} {s : DS} (h : RAt col c w g s) (hl : s.wait.length ≤ 1000000) (i : Int) : Calls Try.prog 25 #[.pointer (some ⟨g, 0, none⟩), .int .i64 i] w (RdIs w (rdB s i) (rdE s i)) := by
 unfold RdIs
 obtain ⟨c2, c3, c4, ⟨A0, cap0, c0⟩, A1, cap1, c1⟩ := h.cells
 have HB0 : Shh (Below w.heap.size w w) := ⟨Below.refl _ _⟩
 cases hh : s.has i with
 | false =>
  have HE : Shh (rdE s i = 1 ∧ rdB s i = []) := ⟨by unfold rdE; rw [hh]; rfl, by unfold rdB rdE; rw [hh]; rfl⟩
  rw [HE.out.1, HE.out.2]
  have hn : ¬ (0 ≤ i ∧ i < s.good.length) := fun e => by rw [has_iff.2 e] at hh; cases hh
  clear h HE hh
  by_cases h1 : i < 0
  ·go_enter Try.func25, Try.ntmps25
   go_wp2
   go_ret2
   exact ⟨_, rfl, World.ownsRow_nil _ _ _ _, HB0.out⟩
  ·have h2 : (s.good.length : Int) ≤ i := by omega
   clear hn
   go_enter Try.func25, Try.ntmps25
   go_wp2
   go_ret2
   exact ⟨_, rfl, World.ownsRow_nil _ _ _ _, HB0.out⟩
 | true =>
  obtain ⟨hi0, hi1⟩ := has_iff.1 hh
  have h1 : ¬ i < 0 := by omega
  have h2 : ¬ (s.good.length : Int) ≤ i := by omega
  cases hon : s.on with
  | false =>
   have HE : Shh (rdE s i = 5 ∧ rdB s i = []) := ⟨by unfold rdE; rw [hh, hon]; rfl, by unfold rdB rdE; rw [hh, hon]; rfl⟩
   rw [HE.out.1, HE.out.2]
   rw [hon] at c2
   have c2' : w.cell? ⟨g, 2, none⟩ = some (.bool true) := c2
   clear h HE hh c2
   go_enter Try.func25, Try.ntmps25
   go_wp2
   go_ret2
   exact ⟨_, rfl, World.ownsRow_nil _ _ _ _, HB0.out⟩
  | true =>
   obtain ⟨n, rfl⟩ : ∃ n : Nat, i = (n : Int) := ⟨i.toNat, by omega⟩
   have hn : n < s.good.length := by omega
   have HE : Shh (rdE s (n : Int) = 0 ∧ rdB s (n : Int) = secL s n) := ⟨by unfold rdE; rw [hh, hon]; rfl, by unfold rdB rdE; rw [hh, hon]; rfl⟩
   rw [HE.out.1, HE.out.2]
   rw [hon] at c2
   have c2' : w.cell? ⟨g, 2, none⟩ = some (.bool false) := c2
   have HLN := Shh.mk (secL_length h.1 hn)
   obtain ⟨h0, k1, gv, wv, k3, k4, k5⟩ := h
   obtain ⟨p, cp, rfl, hpc, hpl, hel⟩ := k4.open_ (by omega)
   obtain ⟨u, hu, hud⟩ := hel n hn
   obtain ⟨A, cap, pw, raw, rfl, hw, hrl, _, hdat⟩ := k5.raw k3.lt
   have c0' : w.cell? ⟨g, 0, none⟩ = some (.slice (some ⟨p, 0, none⟩) s.good.length cp) := k3.cell 0
   have c1' : w.cell? ⟨g, 1, none⟩ = some (.slice A raw.length cap) := k3.cell 1
   rw [c0] at c0'
   rw [c1] at c1'
   obtain ⟨ub, uo, uc, rfl, _⟩ := id hud
   have e0 : Value.slice A0 s.good.length cap0 = .slice (some ⟨p, 0, none⟩) s.good.length cp := by injection c0'
   have e1 : Value.slice A1 s.wait.length cap1 = .slice A raw.length cap := by injection c1'
   rw [e0] at c0
   rw [e1] at c1
   have eg : s.good.getD n [] = s.good[n] := by simp [List.getD, hn]
   have hglen : (s.good[n]).length = 256 := h0.sec _ (List.getElem_mem hn)
   have HI : Shh (Dat col w (.slice (some ⟨ub, uo, none⟩) 256 uc) (readL (s.good.getD n []) (s.wait.take 0) n) ∧ Below w.heap.size w w) := by
    rw [eg]
    rw [hglen] at hud
    exact ⟨hud, Below.refl _ _⟩
   have HX := Shh.mk (And.intro hw (And.intro hrl hdat))
   have HWT := Shh.mk h0.wt
   have hsx : secL s n = readL (s.good.getD n []) (s.wait.take raw.length) n := by rw [hrl, List.take_length]; rfl
   obtain ⟨out, hout⟩ : ∃ out, out = secL s n := ⟨_, rfl⟩
   rw [← hout] at hsx HLN ⊢
   have HSX := Shh.mk hsx
   rw [hglen] at hu
   have hrl2 : (raw.length : Int) = (s.wait.length : Int) := by omega
   have hhi := h0.hi
   clear hud h0 k1 k3 k4 k5 hel hpc hw hrl hdat hout hsx c0' c1' e0 e1 eg hglen HE hi0 hi1 hrl2 hon hh c2
   go_enter Try.func25, Try.ntmps25
   go_wp2
   go_loopw [6, 36] (fun bv j wr => ∃ k : Nat, k ≤ raw.length ∧ j = .int .i64 (k : Int) ∧ ∃ b o cc, bv = .slice (some ⟨b, o, none⟩) 256 cc ∧ Shh (Dat col wr (.slice (some ⟨b, o, none⟩) 256 cc) (readL (s.good.getD n []) (s.wait.take k) n) ∧ Below w.heap.size w wr)) (fun _ j _ => raw.length - (intOf j).toNat)
   case atStart => exact ⟨0, Nat.zero_le _, rfl, _, _, _, rfl, HI⟩
   case round =>
    clear HI hu c0 c1 c2' c3 c4
    obtain ⟨k, hk, rfl, b, o, cc, rfl, H⟩ := hrel
    by_cases hlt : k < raw.length
    ·have hlt2 : (k : Int) < (raw.length : Int) := by omega
     have hz : (0 : Int) ≤ (k : Int) := by omega
     have hkw : k < s.wait.length := by have := HX.out.2.1; omega
     have hwa := HX.out.1.go H.out.2
     obtain ⟨hA, hrg⟩ := hwa.2 k hlt
     obtain ⟨d1, b2, o2, cp2, d2, d3, d4, d5, d6, d7⟩ := HX.out.2.2 k hlt hkw
     have hwt := HWT.out _ (List.getElem_mem hkw)
     have HD2 := Shh.mk (show Dat col w (.slice (some ⟨b2, o2, none⟩) s.wait[k].2.length cp2) s.wait[k].2 from ⟨b2, o2, cp2, rfl, d3, d4, d5, d6, d7⟩)
     rw [hwt.2] at d2
     have hyw : wcC raw[k] = [.int .i64 (s.wait[k].1 : Int), .slice (some ⟨b2, o2, none⟩) 256 cp2] := by unfold wcC; rw [d2, d1]
     rw [hyw] at hrg
     obtain ⟨x1, hx1⟩ : ∃ x1, x1 = s.wait[k].1 := ⟨_, rfl⟩
     rw [← hx1] at hrg
     have HRD : Shh (readL (s.good.getD n []) (s.wait.take (k + 1)) n = if x1 = n then s.wait[k].2 else readL (s.good.getD n []) (s.wait.take k) n) := ⟨by rw [take_snoc _ _ hkw, readL_snoc, hx1]⟩
     have HL2 := Shh.mk hwt.2
     subst hA
     have hRZ : Row (w := wr.alloc (.cells #[.int .i64 0, .slice none 0 0] 75)) (g := wr.heap.size) (T := 75) (cs := [.int .i64 0, .slice none 0 0]) := Row.new_ rfl rfl
     have hrg2 : (wr.alloc (.cells #[.int .i64 0, .slice none 0 0] 75)).rangeAt pw (k * 2) [.int .i64 (x1 : Int), .slice (some ⟨b2, o2, none⟩) 256 cp2] := range_below hrg (Below.alloc (Below.refl _ wr) (Nat.le_refl _) _) hwa.1
     have h1 : ∀ u ∈ ([.int .i64 (x1 : Int), .slice (some ⟨b2, o2, none⟩) 256 cp2] : List Value), u.oneCell' = true := by
      intro u hu
      simp only [List.mem_cons, List.not_mem_nil, or_false] at hu
      rcases hu with rfl | rfl <;> rfl
     clear hwa d1 d2 d3 d4 d5 d6 d7 hwt hyw hx1
     go_wp2_with (first | refine wpList_load_mid rfl 75 (.tmp 38) rfl pw (k * 2) (by go_num) [.int .i64 (x1 : Int), .slice (some ⟨b2, o2, none⟩) 256 cp2] _ hrg Try.underlying75 rfl info_wt ?_ | refine wpList_store_any rfl 75 (.tmp 8) (.tmp 39) rfl wr.heap.size rfl [.int .i64 (x1 : Int), .slice (some ⟨b2, o2, none⟩) 256 cp2] rfl 75 _ hRZ info_wt rfl h1 ?_)
     intro Z hr bt hz2
     have bZ : Below wr.heap.size wr Z := (Below.alloc (Below.refl _ _) (Nat.le_refl _) _).trans (bt.under (by omega) (Nat.le_refl _))
     have m0 : Z.cell? ⟨wr.heap.size, 0, none⟩ = some (.int .i64 (x1 : Int)) := hr.cell 0
     have m1 : Z.cell? ⟨wr.heap.size, 1, none⟩ = some (.slice (some ⟨b2, o2, none⟩) 256 cp2) := hr.cell 1
     have F : Shh (Dat col Z (.slice (some ⟨b, o, none⟩) 256 cc) (readL (s.good.getD n []) (s.wait.take k) n) ∧ Below w.heap.size w Z) := ⟨H.out.1.go bZ, Below.chain H.out.2 bZ⟩
     have hkb : k ≤ 1000000000 := by omega
     have HKB := Shh.mk hkb
     clear hkb
     clear hr bt hz2 bZ hrg hrg2 hRZ h1 H
     by_cases hx : x1 = n
     ·have F2 : Shh (Dat col Z (.slice (some ⟨b2, o2, none⟩) 256 cp2) (readL (s.good.getD n []) (s.wait.take (k + 1)) n) ∧ Below w.heap.size w Z) := by
       refine ⟨?_, F.out.2⟩
       rw [HRD.out, if_pos hx]
       have := HD2.out.go F.out.2
       rw [HL2.out] at this
       exact this
      clear F HRD HD2
      subst hx
      go_wp2_with (refine wl_at 46 rfl (.int .i64 ((k + 1 : Nat) : Int)) rfl (add_i1 HKB.out rfl rfl) ?_)
      go_roundw
      case rel => exact ⟨k + 1, hlt, by go_num, _, _, _, rfl, F2⟩
      case measure => simp [intOf]; omega
     ·have hx2 : ((x1 : Int) == (n : Int)) = false := by rw [beq_eq_false_iff_ne]; omega
      have HX2 := Shh.mk hx2
      clear hx2
      have F2 : Shh (Dat col Z (.slice (some ⟨b, o, none⟩) 256 cc) (readL (s.good.getD n []) (s.wait.take (k + 1)) n) ∧ Below w.heap.size w Z) := by
       refine ⟨?_, F.out.2⟩
       rw [HRD.out, if_neg hx]
       exact F.out.1
      clear F hx HRD HD2
      go_wp2_with (first | refine wl_at 43 rfl (.bool false) rfl (eqi_no HX2.out rfl rfl rfl) ?_ | refine wl_at 46 rfl (.int .i64 ((k + 1 : Nat) : Int)) rfl (add_i1 HKB.out rfl rfl) ?_)
      go_roundw
      case rel => exact ⟨k + 1, hlt, by go_num, _, _, _, rfl, F2⟩
      case measure => simp [intOf]; omega
    ·obtain rfl : k = raw.length := by omega
     have hlt2 : ¬ (raw.length : Int) < (raw.length : Int) := by omega
     have HO : Shh (Dat col wr (.slice (some ⟨b, o, none⟩) 256 cc) out ∧ Below w.heap.size w wr) := ⟨by rw [HSX.out]; exact H.out.1, H.out.2⟩
     obtain ⟨W0, hW0⟩ : ∃ W0, wr.alloc (.cells #[.slice (some ⟨b, o, none⟩) 256 cc] 33) = W0 := ⟨_, rfl⟩
     have bA : Below wr.heap.size wr W0 := by rw [← hW0]; exact Below.alloc (Below.refl _ _) (Nat.le_refl _) _
     have hr : Row W0 wr.heap.size 33 [.slice (some ⟨b, o, none⟩) 256 cc] := by rw [← hW0]; exact Row.new_ rfl rfl
     have hd0 := HO.out.1.go bA
     have HJ : Shh (Calls Try.prog 21 #[.slice (some ⟨wr.heap.size, 0, none⟩) 1 1] W0 (OwnIs W0 out)) := by
      have := refJoin_any W0.heap.size W0.heap.size _ [out] W0 (PartsO.solo (n := 1) hr hr.lt (by have := hr.lt; omega) hd0.sl (dat_off hd0)) (Nat.le_refl _) (by simp; have := HLN.out; omega) (by simp)
      rw [flat_one] at this
      exact ⟨this⟩
     have HW := Shh.mk (Below.chain HO.out.2 bA)
     clear H HO bA hr hd0
     go_wp2_with (go_at_call 21; refine (HJ.out).mono ?_)
     unfold OwnIs Gives
     rintro e w9 ⟨v, rfl, k1, k2⟩
     have F : Shh (w9.ownsRow w.heap.size 5 1 v out.length (Lib.byteCells out) ∧ Below w.heap.size w w9) := ⟨own_base k1 HW.out.size, Below.chain HW.out k2⟩
     clear k1 k2 HJ HW hW0
     go_wp2
     go_ret2
     exact ⟨_, rfl, F.out⟩
end Go.Proofs.Ytpajdmbajopofaa
