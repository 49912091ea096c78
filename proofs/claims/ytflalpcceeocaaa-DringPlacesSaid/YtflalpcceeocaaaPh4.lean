/-
 THE DOCUMENT'S OWN PackHints.
-/
import Derived.Test.YtflalpcceeocaaaPh3
namespace Go.Proofs.Ytflalpcceeocaaa
open Go.RowKit
set_option maxRecDepth 100000
section
variable {ops : Array Oper} {rest : List Oper} {o : Oper} {a : Act} {w : World} {Q : Exit → Act → World → Prop} {x y : Operand} {op : Oper}
/-- one's own slice behind one's own -/
theorem wl_append_both (hgd : o.guard = none) (d : Nat) (hd : o.dst = some d) (s x : Operand) (ho : o.op = .call { callee := .builtin .append, args := #[s, x], argTypes := #[23, 23] })
 {N : Nat} {v1 v2 : Value} {a1 b1 : List UInt8} (hO : Own2 w N v1 a1 v2 b1) (hs : a.eval s = v1) (hx : a.eval x = v2) (hlen : a1.length + b1.length ≤ 1000000) (hN : N ≤ w.heap.size)
 (h : ∀ v' w', Sl w' w'.heap.size v' (a1 ++ b1) → Below N w w' → wpList Try.prog ops Q rest (a.put (some d) v') w') : wpList Try.prog ops Q (o :: rest) a w := by
 obtain ⟨g1, c1, g2, c2, rfl, rfl, hne, o1, o2⟩ := hO
 have hc : ∀ j u, (Lib.byteCells b1)[j]? = some u → w.cell? ((⟨g2, 0, none⟩ : Addr).add j) = some u := fun j u hu => o2.cells (g := g2) rfl j u hu
 obtain ⟨G, C, w', hr, ho2, hg, hG⟩ := run_append_where w o.type o1 ⟨g2, 0, none⟩ b1.length c2 (Lib.byteCells b1) (Lib.byteCells_length _) hc (fun u hu => by
  simp only [Lib.byteCells, List.mem_map] at hu
  obtain ⟨b, _, rfl⟩ := hu
  rfl) (by omega) hN
 have hl1 := o1.lt g1 rfl
 refine wpList_plain hgd fun K hK => ?_
 unfold Oper.wp execOp
 simp only [ho, resolve, invoke, builtin, Sem.run_bind, Sem.run_pure, Result.andThen_ok, List.map_toArray, List.map_cons, List.map_nil, hs, hx, hr]
 have h2 := h (.slice (some ⟨G, 0, none⟩) (a1.length + b1.length) C) w' ?_ ?_
 ·rw [Oper.upon_value, hd]
  exact hK _ _ h2
 ·have e : Lib.byteCells a1 ++ Lib.byteCells b1 = Lib.byteCells (a1 ++ b1) := by simp [Lib.byteCells]
  rw [e] at ho2
  exact Sl.of_own ho2
 ·exact (Below.refl N w).grown hg hN (fun k hk => by cases hk; omega)
end
theorem own2_new (w : World) : Own2 ((w.alloc (.cells #[] 5)).alloc (.cells #[] 5)) w.heap.size (.slice (some ⟨w.heap.size, 0, none⟩) 0 0) [] (.slice (some ⟨w.heap.size + 1, 0, none⟩) 0 0) [] := by
 have h1 := World.ownsRow_made (base := w.heap.size) (e := 5) (size := 1) w #[] 0 (Nat.le_refl _) (by unfold maxLen; omega) rfl
 have h2 := World.ownsRow_made (base := w.heap.size) (e := 5) (size := 1) (w.alloc (.cells #[] 5)) #[] 0 (by rw [asz]; omega) (by unfold maxLen; omega) rfl
 rw [asz] at h2
 exact ⟨_, 0, _, 0, rfl, rfl, by omega, h1.alloc _, h2⟩
set_option maxHeartbeats 4000000 in
theorem refPackHints_bad (n : Nat) (most : Int) (hb : mayB (n : Int) most = false) (A : Option Addr) (c0 : Nat) (w : World) : Calls Try.prog 6 #[.slice A n c0, .int .i64 most] w (BytesErr w 1 []) := by
 unfold BytesErr
 unfold mayB at hb
 by_cases h1 : 16 < (n : Int)
 ·clear hb
  go_enter Try.func6, Try.ntmps6
  go_wp2
  go_ret2
  exact ⟨_, rfl, Sl.nil_, Below.refl _ _⟩
 ·by_cases h2 : most < 0
  ·clear hb
   go_enter Try.func6, Try.ntmps6
   go_wp2
   go_ret2
   exact ⟨_, rfl, Sl.nil_, Below.refl _ _⟩
  ·have h3 : 255 < most := by
    simp at hb
    omega
   clear hb
   go_enter Try.func6, Try.ntmps6
   go_wp2
   go_ret2
   exact ⟨_, rfl, Sl.nil_, Below.refl _ _⟩
set_option maxHeartbeats 8000000 in
theorem refPackHints_ok (n most : Nat) (hn : n ≤ 16) (hm : most ≤ 255) (B : Nat) (v : Value) (L : Nat → Nat → Bool) (w : World) (hs : HintsAt w B v n L) (hB : B ≤ w.heap.size) : Calls Try.prog 6 #[v, .int .i64 (most : Int)] w (BytesErr w (pkE L n most) (pkB L n most)) := by
 unfold BytesErr
 generalize hN : w.heap.size = N at *
 obtain ⟨A, c0, rfl⟩ := hs.form
 have HN1 := Shh.mk (And.intro hn hm)
 have HPL : Shh ((plc L n).length ≤ 4096) := ⟨by have := plc_le L n; omega⟩
 have i1 : ¬ (16 : Int) < (n : Int) := by omega
 have i2 : ¬ (most : Int) < 0 := by omega
 have i3 : ¬ (255 : Int) < (most : Int) := by omega
 obtain ⟨W, hW⟩ : ∃ W, W = (w.alloc (.cells #[] 5)).alloc (.cells #[] 5) := ⟨_, rfl⟩
 have FA : Shh (Own2 W N (.slice (some ⟨N, 0, none⟩) 0 0) [] (.slice (some ⟨N + 1, 0, none⟩) 0 0) [] ∧ HintsAt W B (.slice A n c0) n L ∧ Below N w W ∧ N ≤ W.heap.size) := by
  have h := own2_new w
  have hb : Below N w W := by
   rw [hW, ← hN]
   exact Below.chain (belA _ _) (belA _ _)
  rw [← hW, hN] at h
  exact ⟨h, hs.below (hb.mono hB), hb, by rw [hW, asz, asz, hN]; omega⟩
 have HBN := Shh.mk hB
 clear hs hB hn hm
 go_enter Try.func6, Try.ntmps6
 go_wp2
 try simp only [asz, hN]
 rw [← hW]
 clear hW i1 i2 i3
 go_wp2
 go_loopw [6, 7, 25] (fun p e i wr => ∃ k : Nat, k ≤ n ∧ i = .int .i64 (k : Int) ∧ Shh ((plc L k).length ≤ most ∧ Own2 wr N p (plc L k) e (endsB L k) ∧ HintsAt wr B (.slice A n c0) n L ∧ Below N w wr ∧ N ≤ wr.heap.size)) (fun _ _ i _ => n - (intOf i).toNat)
 case atStart => exact ⟨0, Nat.zero_le _, rfl, ⟨⟨Nat.zero_le _, FA.out.1, FA.out.2.1, FA.out.2.2.1, FA.out.2.2.2⟩⟩⟩
 case round =>
  clear FA
  obtain ⟨k, hk, rfl, HI⟩ := hrel
  by_cases hlt : k < n
  ·have hlt2 : (k : Int) < (n : Int) := by omega
   have hn16 := HN1.out.1
   obtain ⟨g, oo, rfl, hg, hr⟩ := HI.out.2.2.1.at_ (by omega)
   have hgB := Shh.mk hg
   clear hr hg
   have FB : Shh (Own2 wr N u6 (plc L k ++ pls (L k) 0) u7 (endsB L k) ∧ HintsAt wr B (.slice (some ⟨g, oo, none⟩) n c0) n L ∧ Below N w wr ∧ N ≤ wr.heap.size) := ⟨by
    rw [show plc L k ++ pls (L k) 0 = plc L k from List.append_nil _]
    exact ⟨HI.out.2.1, HI.out.2.2⟩⟩
   have HMK := Shh.mk HI.out.1
   clear HI
   go_wp2
   go_loopw [6, 28] (fun p i wq => ∃ j : Nat, j ≤ 256 ∧ i = .int .i64 (j : Int) ∧ Shh (Own2 wq N p (plc L k ++ pls (L k) j) u7 (endsB L k) ∧ HintsAt wq B (.slice (some ⟨g, oo, none⟩) n c0) n L ∧ Below N w wq ∧ N ≤ wq.heap.size)) (fun _ i _ => 256 - (intOf i).toNat)
   case atStart => exact ⟨0, Nat.zero_le _, rfl, FB⟩
   case round =>
    clear FB
    obtain ⟨j, hj, rfl, HI⟩ := hrel
    by_cases hjl : j < 256
    ·have hjl2 : (j : Int) < 256 := by omega
     have HCJ : Shh (wr.cell? ⟨g, oo + k * 256 + j, none⟩ = some (.bool (L k j))) := ⟨by
      obtain ⟨g', o', e, _, h4⟩ := HI.out.2.1.at_ (by omega)
      cases e
      exact h4 k hlt j _ (hc_get (L k) hjl)⟩
     cases hb : L k j with
     | false =>
      rw [hb] at HCJ
      have HX := Shh.mk (pls_no hb)
      clear hb
      go_wp2_with (first | refine wl_at 34 rfl (.pointer (some ⟨g, oo + k * 256, none⟩)) rfl (at_hl hlt rfl rfl rfl) ?_ | refine wl_at 35 rfl (.pointer (some ⟨g, oo + k * 256 + j, none⟩)) rfl (at_hin hjl rfl rfl rfl) ?_ | refine wl_at 36 rfl (.bool false) rfl (load_b rfl HCJ.out rfl) ?_)
      go_roundw
      case rel => exact ⟨j + 1, by omega, by go_num, ⟨by rw [HX.out]; exact HI.out⟩⟩
      case measure => simp [intOf]; omega
     | true =>
      rw [hb] at HCJ
      have HX : Shh (plc L k ++ pls (L k) (j + 1) = (plc L k ++ pls (L k) j) ++ [UInt8.ofNat j]) := ⟨by rw [pls_yes hb, List.append_assoc]⟩
      clear hb
      obtain ⟨bj, Hbj⟩ : ∃ b : UInt8, Shh (b = UInt8.ofNat j) := ⟨_, ⟨rfl⟩⟩
      have HLE : Shh ((plc L k ++ pls (L k) j).length ≤ 1000000) := ⟨by
       have h1 := plc_in L hlt hj
       have := HPL.out
       omega⟩
      have hn63 := HI.out.2.2.2
      go_wp2_with (first | refine wl_at 34 rfl (.pointer (some ⟨g, oo + k * 256, none⟩)) rfl (at_hl hlt rfl rfl rfl) ?_ | refine wl_at 35 rfl (.pointer (some ⟨g, oo + k * 256 + j, none⟩)) rfl (at_hin hjl rfl rfl rfl) ?_ | refine wl_at 36 rfl (.bool true) rfl (load_b rfl HCJ.out rfl) ?_ | refine wl_at 39 rfl (.int .u8 (bj.toNat : Int)) rfl (conv_b (n := j) Hbj.out rfl rfl) ?_ | (at_builtin; refine wl_append_fst rfl 41 rfl _ _ rfl rfl HI.out.1 rfl rfl HLE.out hn63 ?_))
      intro v' w' hO hb
      rw [Hbj.out, ← HX.out] at hO
      have HJ : Shh (Own2 w' N v' (plc L k ++ pls (L k) (j + 1)) u7 (endsB L k) ∧ HintsAt w' B (.slice (some ⟨g, oo, none⟩) n c0) n L ∧ Below N w w' ∧ N ≤ w'.heap.size) := ⟨hO, HI.out.2.1.below (hb.mono HBN.out), HI.out.2.2.1.trans hb, by have := hb.size; omega⟩
      clear hO hb HI HCJ hn63
      go_wp2
      go_roundw
      case rel => exact ⟨j + 1, by omega, by go_num, HJ⟩
      case measure => simp [intOf]; omega
    ·have hjl2 : ¬ (j : Int) < 256 := by omega
     have HPJ : Shh (plc L k ++ pls (L k) j = plc L (k + 1)) := ⟨by rw [show j = 256 by omega]; exact (plc_succ L k).symm⟩
     rw [HPJ.out] at HI
     obtain ⟨A1, c1, rfl⟩ := HI.out.1.form1
     obtain ⟨q, hq⟩ : ∃ q, q = (plc L (k + 1)).length := ⟨_, rfl⟩
     have HQ := Shh.mk hq
     rw [← hq]
     clear hq
     by_cases hqm : q ≤ most
     ·have hqi : ¬ (most : Int) < (q : Int) := by omega
      obtain ⟨bj, Hbj⟩ : ∃ b : UInt8, Shh (b = UInt8.ofNat q) := ⟨_, ⟨rfl⟩⟩
      have HEL : Shh ((endsB L k).length ≤ 1000000) := ⟨by rw [endsB_length]; have := HN1.out; omega⟩
      have hn63 := HI.out.2.2.2
      have hOs := HI.out.1.symm
      go_wp2_with (first | refine wl_at 50 rfl (.int .u8 (bj.toNat : Int)) rfl (conv_b (n := q) Hbj.out rfl rfl) ?_ | (at_builtin; refine wl_append_fst rfl 52 rfl _ _ rfl rfl hOs rfl rfl HEL.out hn63 ?_))
      intro v' w' hO hb
      rw [Hbj.out, HQ.out, show endsB L k ++ [UInt8.ofNat (plc L (k + 1)).length] = endsB L (k + 1) from rfl] at hO
      have HJ : Shh ((plc L (k + 1)).length ≤ most ∧ Own2 w' N (.slice A1 q c1) (plc L (k + 1)) v' (endsB L (k + 1)) ∧ HintsAt w' B (.slice (some ⟨g, oo, none⟩) n c0) n L ∧ Below N w w' ∧ N ≤ w'.heap.size) := ⟨by rw [← HQ.out]; exact hqm, by rw [HQ.out]; exact hO.symm, HI.out.2.1.below (hb.mono HBN.out), HI.out.2.2.1.trans hb, by have := hb.size; omega⟩
      clear hO hb HI hn63 hOs
      go_wp2
      go_roundw
      case rel => exact ⟨k + 1, by omega, by go_num, HJ⟩
      case measure => simp [intOf]; omega
     ·have hqi : (most : Int) < (q : Int) := by omega
      have HF : Shh (¬ (plc L n).length ≤ most) := ⟨by
       have h1 := plc_mono L (show k + 1 ≤ n by omega)
       rw [← HQ.out] at h1
       omega⟩
      go_wp2
      go_ret2
      exact ⟨_, by unfold pkE; rw [if_neg HF.out]; rfl, by unfold pkB; rw [if_neg HF.out]; exact Sl.nil_, HI.out.2.2.1⟩
  ·have hlt2 : ¬ (k : Int) < (n : Int) := by omega
   have hkn : k = n := by omega
   have HF : Shh ((plc L n).length ≤ most) := ⟨by rw [← hkn]; exact HI.out.1⟩
   have FC : Shh (Own2 wr N u6 (plc L n ++ List.replicate 0 0) u7 (endsB L n) ∧ Below N w wr ∧ N ≤ wr.heap.size) := ⟨by
    have h := HI.out
    rw [hkn] at h
    rw [show plc L n ++ List.replicate 0 0 = plc L n from List.append_nil _]
    exact ⟨h.2.1, h.2.2.2⟩⟩
   clear HI hkn
   go_wp2
   go_loopw [6] (fun p wq => ∃ z : Nat, Shh ((plc L n).length + z ≤ most ∧ Own2 wq N p (plc L n ++ List.replicate z 0) u7 (endsB L n) ∧ Below N w wq ∧ N ≤ wq.heap.size)) (fun p _ => most - lenV p)
   case atStart => exact ⟨0, ⟨⟨HF.out, FC.out⟩⟩⟩
   case round =>
    clear FC
    obtain ⟨z, HI⟩ := hrel
    obtain ⟨A1, c1, rfl⟩ := HI.out.2.1.form1
    obtain ⟨q, hq⟩ : ∃ q, q = (plc L n ++ List.replicate z (0 : UInt8)).length := ⟨_, rfl⟩
    have HQ : Shh (q = (plc L n ++ List.replicate z (0 : UInt8)).length ∧ q = (plc L n).length + z) := ⟨hq, by rw [hq]; simp⟩
    rw [← hq]
    clear hq
    by_cases hqm : q < most
    ·have hqi : (q : Int) < (most : Int) := by omega
     have hn63 := HI.out.2.2.2
     have HLE : Shh ((plc L n ++ List.replicate z (0 : UInt8)).length ≤ 1000000) := ⟨by rw [← HQ.out.1]; have := HN1.out; omega⟩
     go_wp2_with (at_builtin; refine wl_append_fst (u := 0) rfl 60 rfl _ _ rfl rfl HI.out.2.1 (by rw [← HQ.out.1]; rfl) rfl HLE.out hn63 ?_)
     intro v' w' hO hb
     have e : (plc L n ++ List.replicate z (0 : UInt8)) ++ [0] = plc L n ++ List.replicate (z + 1) 0 := by
      rw [List.append_assoc, List.replicate_succ']
     rw [e] at hO
     have HJ : Shh ((plc L n).length + (z + 1) ≤ most ∧ Own2 w' N v' (plc L n ++ List.replicate (z + 1) 0) u7 (endsB L n) ∧ Below N w w' ∧ N ≤ w'.heap.size) := ⟨by have := HQ.out.2; omega, hO, HI.out.2.2.1.trans hb, by have := hb.size; omega⟩
     obtain ⟨A2, c2, rfl⟩ := hO.form1
     have HQ2 : Shh ((plc L n ++ List.replicate (z + 1) (0 : UInt8)).length = q + 1) := ⟨by rw [HQ.out.2]; simp; omega⟩
     rw [HQ2.out] at HJ ⊢
     clear hO hb HI hn63 e
     go_wp2
     go_roundw
     case rel => exact ⟨z + 1, HJ⟩
     case measure => simp [lenV]; omega
    ·have hqi : ¬ (q : Int) < (most : Int) := by omega
     have HZ : Shh (z = most - (plc L n).length) := ⟨by have := HQ.out.2; have := HI.out.1; omega⟩
     have hn63 := HI.out.2.2.2
     have HLE : Shh ((plc L n ++ List.replicate z (0 : UInt8)).length + (endsB L n).length ≤ 1000000) := ⟨by rw [← HQ.out.1, endsB_length]; have := HN1.out; have := HQ.out.2; have := HI.out.1; omega⟩
     have hO := HI.out.2.1
     go_wp2_with (at_builtin; refine wl_append_both rfl 63 rfl _ _ rfl hO (by rw [← HQ.out.1]; rfl) rfl HLE.out hn63 ?_)
     intro v' w' hsl hb
     have HSL : Shh (Sl w' w'.heap.size v' (packB L n most) ∧ Below N w w') := ⟨by
      have e : (plc L n ++ List.replicate z (0 : UInt8)) ++ endsB L n = packB L n most := by
       unfold packB
       rw [HZ.out, List.append_assoc]
      rw [← e, List.append_assoc]
      exact hsl, HI.out.2.2.1.trans hb⟩
     clear hsl hb hO HI hn63
     go_wp2
     go_ret2
     exact ⟨_, by unfold pkE; rw [if_pos HF.out]; rfl, by unfold pkB; rw [if_pos HF.out]; exact HSL.out.1, HSL.out.2⟩
end Go.Proofs.Ytflalpcceeocaaa
