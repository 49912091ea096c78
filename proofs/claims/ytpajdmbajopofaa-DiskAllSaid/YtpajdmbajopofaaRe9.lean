/-
 WALKS: the document's Sync and Crash.
-/
import Derived.Test.YtpajdmbajopofaaRe8
namespace Go.Proofs.Ytpajdmbajopofaa
open Go.RowKit
set_option maxRecDepth 100000
set_option maxHeartbeats 4000000 in
theorem rSync_any {col : Nat → Nat} {c g : Nat} {w : World} {s : DS} (h : RAt col c w g s) (hc : c ≠ 0) (hl : s.wait.length ≤ 1000000) : Calls Try.prog 39 #[.pointer (some ⟨g, 0, none⟩)] w (RefIs col c w g (syS s) (.int .i64 (syE s))) := by
 unfold RefIs
 obtain ⟨c2, _⟩ := h.cells
 cases hon : s.on with
 | false =>
  have HE : Shh (syE s = 5 ∧ syS s = s) := ⟨by unfold syE; rw [if_pos hon], by unfold syS; rw [if_pos hon]⟩
  rw [HE.out.1, HE.out.2]
  have F : Shh (Ext col c w w col ∧ RAt col c w g s) := ⟨Ext.refl _ _ _, h⟩
  rw [hon] at c2
  have c2' : w.cell? ⟨g, 2, none⟩ = some (.bool true) := c2
  clear h HE c2
  go_enter Try.func39, Try.ntmps39
  go_wp2
  go_ret
  exact ⟨rfl, F.out⟩
 | true =>
  have HBN := Shh.mk (burnt_any h hc)
  rw [hon] at c2
  have c2' : w.cell? ⟨g, 2, none⟩ = some (.bool false) := c2
  clear c2
  by_cases hz : s.fuse = 0
  ·have HE : Shh (syE s = 5 ∧ syS s = opS s) := ⟨by unfold syE; rw [if_neg (by rw [hon]; decide)]; unfold opE; rw [if_pos hz], by unfold syS; rw [if_neg (by rw [hon]; decide), if_pos hz]⟩
   rw [HE.out.1, HE.out.2]
   rw [decide_eq_true hz] at HBN
   clear h HE hz
   go_enter Try.func39, Try.ntmps39
   go_wp2_with (go_at_call 51; refine (HBN.out).mono ?_)
   unfold RefIs
   rintro e w1 ⟨rfl, h1, h2⟩
   have F := Shh.mk (And.intro h1 h2)
   clear h1 h2 HBN
   go_wp2
   go_ret
   exact ⟨rfl, F.out⟩
  ·have HE : Shh (syE s = 0 ∧ syS s = settleS (opS s) fun _ => true) := ⟨by unfold syE; rw [if_neg (by rw [hon]; decide)]; unfold opE; rw [if_neg hz], by unfold syS; rw [if_neg (by rw [hon]; decide), if_neg hz]⟩
   rw [HE.out.1, HE.out.2]
   rw [decide_eq_false hz] at HBN
   have hl1 : (opS s).wait.length ≤ 1000000 := by unfold opS; rw [if_neg hz]; exact hl
   obtain ⟨s1, hs1⟩ : ∃ s1, s1 = opS s := ⟨_, rfl⟩
   rw [← hs1] at HBN hl1 ⊢
   obtain ⟨pk, hpk⟩ : ∃ pk : Nat → Bool, pk = fun _ => true := ⟨_, rfl⟩
   rw [← hpk]
   have HPKA : Shh (∀ k, pk k = true) := ⟨fun k => by rw [hpk]⟩
   clear hpk
   clear h HE hz hs1 hl hon
   go_enter Try.func39, Try.ntmps39
   go_wp2_with (go_at_call 51; refine (HBN.out).mono ?_)
   unfold RefIs
   rintro e w1 ⟨rfl, h1, hR⟩
   have HE1 := Shh.mk h1
   clear h1 HBN c2'
   obtain ⟨p, cp, cur0, hp0, hpc, hpg, hpb, _⟩ := hR.open0
   obtain ⟨k0, k1, gv, wv, k3, k4, k5⟩ := id hR
   obtain ⟨A, cap, pw, raw, rfl, hw, hrl, hpw0, hdat⟩ := k5.raw k3.lt
   have hpl : p < w1.heap.size := (Array.getElem?_eq_some_iff.1 hpb).1
   have hpwp : pw ≠ p := fun e => by
    rcases hpw0 with e2 | ⟨cur, e2⟩
    ·exact hpg (by rw [← e, e2])
    ·rw [e, hpb] at e2
     injection e2 with e2
     injection e2 with _ e2
     exact absurd e2 (by decide)
   have HX : Shh (WAt w1 A pw raw ∧ raw.length = s1.wait.length ∧ pw ≠ p ∧ (∀ k (h1 : k < raw.length) (h2 : k < s1.wait.length), raw[k].1 = s1.wait[k].1 ∧ Dat col w1 raw[k].2 s1.wait[k].2) ∧ (∀ x ∈ s1.wait, x.1 < s1.good.length ∧ x.2.length = 256)) := ⟨hw, hrl, hpwp, hdat, k0.wt⟩
   have HG : Shh (g < w1.heap.size ∧ p < w1.heap.size ∧ g ≠ p ∧ col p = c) := ⟨k3.lt, hpl, Ne.symm hpg, hpc⟩
   obtain ⟨n, hn⟩ : ∃ n, n = s1.good.length := ⟨_, rfl⟩
   rw [← hn] at hp0
   have HN := Shh.mk hn
   have HP0 := Shh.mk hp0
   have c1 : w1.cell? ⟨g, 1, none⟩ = some (.slice A raw.length cap) := k3.cell 1
   have HI0 : Shh (RsI col c g p w1 s1 pk 0 w1) := ⟨RsI.start hR⟩
   have HRL : Shh (raw.length ≤ 1000000) := ⟨by omega⟩
   clear hp0 hpc hpg hpb k0 k1 k3 k4 k5 hw hpw0 hdat hpl hpwp hn
   clear hR hrl
   go_wp2
   clear c1
   go_loopw [18] (fun j wr => ∃ k : Nat, k ≤ raw.length ∧ j = .int .i64 (k : Int) ∧ Shh (RsI col c g p w1 s1 pk k wr)) (fun j _ => raw.length - (intOf j).toNat)
   case atStart => exact ⟨0, Nat.zero_le _, rfl, HI0⟩
   case round =>
    clear HI0
    obtain ⟨k, hk, rfl, H⟩ := hrel
    by_cases hlt : k < raw.length
    ·have HPK : Shh (pk k = true) := ⟨HPKA.out k⟩
     have hlt2 : (k : Int) < (raw.length : Int) := by omega
     have hz : (0 : Int) ≤ (k : Int) := by omega
     have HKB : Shh (k ≤ 1000000000 ∧ k < raw.length) := ⟨by have := HRL.out; omega, hlt⟩
     obtain ⟨x01, x02, x03, x04, x05⟩ := HX.out
     have hkw : k < s1.wait.length := by omega
     have hbut := H.out.2
     have hwa : WAt wr A pw raw := x01.same hbut.size (hbut.block pw x01.1 x03)
     obtain ⟨hA, hrg⟩ := hwa.2 k hlt
     obtain ⟨d1, d2⟩ := x04 k hlt hkw
     have hwt := x05 _ (List.getElem_mem hkw)
     obtain ⟨b2, o2, cp2, d3, d4⟩ := id d2
     rw [hwt.2] at d3
     have hyw : wcC raw[k] = [.int .i64 (s1.wait[k].1 : Int), .slice (some ⟨b2, o2, none⟩) 256 cp2] := by unfold wcC; rw [d3, d1]
     rw [hyw] at hrg
     rw [d3] at d2
     obtain ⟨x1, hx1⟩ : ∃ x1, x1 = s1.wait[k].1 := ⟨_, rfl⟩
     rw [← hx1] at hrg hwt
     have HD : Shh (∃ hkw : k < s1.wait.length, x1 = s1.wait[k].1 ∧ Dat col w1 (.slice (some ⟨b2, o2, none⟩) 256 cp2) s1.wait[k].2 ∧ s1.wait[k].2.length = 256) := ⟨hkw, hx1, d2, hwt.2⟩
     have HXN : Shh (x1 < n) := ⟨by rw [HN.out]; exact hwt.1⟩
     subst hA
     have hRZ : Row (w := wr.alloc (.cells #[.int .i64 0, .slice none 0 0] 75)) (g := wr.heap.size) (T := 75) (cs := [.int .i64 0, .slice none 0 0]) := Row.new_ rfl rfl
     have hrg2 : (wr.alloc (.cells #[.int .i64 0, .slice none 0 0] 75)).rangeAt pw (k * 2) [.int .i64 (x1 : Int), .slice (some ⟨b2, o2, none⟩) 256 cp2] := range_below hrg (Below.alloc (Below.refl _ wr) (Nat.le_refl _) _) hwa.1
     have h1 : ∀ u ∈ ([.int .i64 (x1 : Int), .slice (some ⟨b2, o2, none⟩) 256 cp2] : List Value), u.oneCell' = true := by
      intro u hu
      simp only [List.mem_cons, List.not_mem_nil, or_false] at hu
      rcases hu with rfl | rfl <;> rfl
     clear hwa d1 d2 d3 d4 hwt hyw hx1 x01 x02 x03 x04 x05 hbut hlt hkw
     go_wp2_with (first | refine wpList_load_mid rfl 75 (.tmp 20) rfl pw (k * 2) (by go_num) [.int .i64 (x1 : Int), .slice (some ⟨b2, o2, none⟩) 256 cp2] _ (by first | exact hrg | exact hrg2) Try.underlying75 rfl info_wt ?_ | refine wpList_store_any rfl 75 (.tmp 4) (.tmp 21) rfl wr.heap.size rfl [.int .i64 (x1 : Int), .slice (some ⟨b2, o2, none⟩) 256 cp2] rfl 75 _ hRZ info_wt rfl h1 ?_)
     intro Z hr bt hz2
     have bZ : Below wr.heap.size wr Z := (Below.alloc (Below.refl _ _) (Nat.le_refl _) _).trans (bt.under (by omega) (Nat.le_refl _))
     have HZ : Shh (Z.cell? ⟨wr.heap.size, 0, none⟩ = some (.int .i64 (x1 : Int)) ∧ Z.cell? ⟨wr.heap.size, 1, none⟩ = some (.slice (some ⟨b2, o2, none⟩) 256 cp2) ∧ Below wr.heap.size wr Z ∧ wr.heap.size < Z.heap.size) := ⟨hr.cell 0, hr.cell 1, bZ, hr.lt⟩
     clear hr bt hz2 bZ hrg hrg2 hRZ h1
     go_wp2
     obtain ⟨M, hM⟩ : ∃ M, M = wr.heap.size := ⟨_, rfl⟩
     rw [← hM] at HZ ⊢
     have HS0 : Shh (Z.cell? ⟨M, 0, none⟩ = some (.int .i64 (x1 : Int)) ∧ Z.cell? ⟨M, 1, none⟩ = some (.slice (some ⟨b2, o2, none⟩) 256 cp2) ∧ Z.cell? ⟨g, 0, none⟩ = some (.slice (some ⟨p, 0, none⟩) n cp)) := by
      have hb := H.out.2
      obtain ⟨g1, g2, g3, g4⟩ := HG.out
      have := hb.size
      exact ⟨HZ.out.1, HZ.out.2.1, ((HZ.out.2.2.1).cell (p := ⟨g, 0, none⟩) (by show g < M; omega)).trans ((hb.cell (p := ⟨g, 0, none⟩) g1 g3).trans HP0.out)⟩
     refine wp_region_held_drew (S := fun w' => w'.cell? ⟨M, 0, none⟩ = some (.int .i64 (x1 : Int)) ∧ w'.cell? ⟨M, 1, none⟩ = some (.slice (some ⟨b2, o2, none⟩) 256 cp2) ∧ w'.cell? ⟨g, 0, none⟩ = some (.slice (some ⟨p, 0, none⟩) n cp)) (by kernel_rfl) HS0.out (fun hS => ?_)
     obtain ⟨V, hV⟩ : ∃ V, V = World.drew Z := ⟨_, rfl⟩
     rw [← hV] at hS ⊢
     have hbV : Below wr.heap.size wr V := by rw [hV, ← hM]; exact HZ.out.2.2.1.drew
     have HF : Shh (RsI col c g p w1 s1 pk (k + 1) (V.setCell ⟨p, x1, none⟩ (.slice (some ⟨b2, o2, none⟩) 256 cp2)) ∧ ∃ cs, Row V p 33 cs ∧ n ≤ cs.length) := by
      obtain ⟨hkw, hx1, hdd, hll⟩ := HD.out
      obtain ⟨g1, g2, g3, g4⟩ := HG.out
      have := H.out.step hc HPK.out hkw hbV HP0.out g1 g2 g3 g4 hdd hll
      rw [← hx1, ← HN.out] at this
      exact ⟨this⟩
     have HSE : Shh ((V.setCell ⟨p, x1, none⟩ (.slice (some ⟨b2, o2, none⟩) 256 cp2)).cell? ⟨M, 0, none⟩ = some (.int .i64 (x1 : Int)) ∧ (V.setCell ⟨p, x1, none⟩ (.slice (some ⟨b2, o2, none⟩) 256 cp2)).cell? ⟨M, 1, none⟩ = some (.slice (some ⟨b2, o2, none⟩) 256 cp2) ∧ (V.setCell ⟨p, x1, none⟩ (.slice (some ⟨b2, o2, none⟩) 256 cp2)).cell? ⟨g, 0, none⟩ = some (.slice (some ⟨p, 0, none⟩) n cp)) := by
      obtain ⟨g1, g2, g3, g4⟩ := HG.out
      have hMp : M ≠ p := by have := H.out.2.size; omega
      have ho : ∀ q j, q ≠ p → (V.setCell ⟨p, x1, none⟩ (.slice (some ⟨b2, o2, none⟩) 256 cp2)).cell? ⟨q, j, none⟩ = V.cell? ⟨q, j, none⟩ := fun q j hq => World.cell?_of_block (a := ⟨q, j, none⟩) (heap_setCell_other V ⟨p, x1, none⟩ q _ hq)
      exact ⟨by rw [ho _ _ hMp]; exact hS.1, by rw [ho _ _ hMp]; exact hS.2.1, by rw [ho _ _ g3]; exact hS.2.2⟩
     clear hV hbV HS0 HZ H hM
     refine hdv0 0 22 (.pointer (some ⟨g, 0, none⟩)) (by rfl) hS ?_
     refine hdv 1 23 (.pointer (some ⟨g, 0, none⟩)) (by rfl) (fun w hS => rnil_ok rfl (by kernel_rfl)) hS ?_
     refine hdv 2 24 (.pointer (some ⟨g, 0, none⟩)) (by rfl) (fun w hS => fr_0 rfl (by kernel_rfl)) hS ?_
     refine hdv 3 25 (.slice (some ⟨p, 0, none⟩) n cp) (by rfl) (fun w hS => rload_ss rfl hS.2.2 (by kernel_rfl)) hS ?_
     refine hdv 4 26 (.pointer (some ⟨M, 0, none⟩)) (by rfl) (fun w hS => fw_0 rfl (by kernel_rfl)) hS ?_
     refine hdv 5 27 (.int .i64 (x1 : Int)) (by rfl) (fun w hS => rload_in rfl hS.1 (by kernel_rfl)) hS ?_
     refine hdv 6 28 (.pointer (some ⟨M, 1, none⟩)) (by rfl) (fun w hS => fw_1 rfl (by kernel_rfl)) hS ?_
     refine hdv 7 29 (.slice (some ⟨b2, o2, none⟩) 256 cp2) (by rfl) (fun w hS => rload_by rfl hS.2.1 (by kernel_rfl)) hS ?_
     refine hdv 8 30 (.pointer (some ⟨p, x1, none⟩)) (by rfl) (fun w hS => idx_rs (cp := cp) HXN.out rfl (by kernel_rfl) (by kernel_rfl)) hS ?_
     obtain ⟨cs, hcs, hcl⟩ := HF.out.2
     refine held_one 9 (by kernel_rfl) ?_
     refine step_store1 9 _ (by rfl) (by kernel_rfl) (V.setCell ⟨p, x1, none⟩ (.slice (some ⟨b2, o2, none⟩) 256 cp2)) (store_rb rfl (by kernel_rfl) (by kernel_rfl) hcs (by have := HXN.out; omega)) ?_
     refine ⟨HSE.out, ?_⟩
     refine wpAnyH_done (by kernel_rfl) ?_ _
     clear hcs hcl hS HSE
     have HR : Shh (RsI col c g p w1 s1 pk (k + 1) (V.setCell ⟨p, x1, none⟩ (.slice (some ⟨b2, o2, none⟩) 256 cp2))) := ⟨HF.out.1⟩
     clear HF HD HXN
     go_wp2_with (refine wl_at 31 rfl (.int .i64 ((k + 1 : Nat) : Int)) rfl (add_i1 HKB.out.1 rfl rfl) ?_)
     go_roundw
     case rel => exact ⟨k + 1, HKB.out.2, by go_num, HR⟩
     case measure => have := HKB.out.2; simp [intOf]; omega
    ·obtain rfl : k = raw.length := by omega
     have hlt2 : ¬ (raw.length : Int) < (raw.length : Int) := by omega
     obtain ⟨g1, g2, g3, g4⟩ := HG.out
     have hw1 := H.out.1.unwait hc
     have heq : ({ gk s1 pk raw.length with wait := [] } : DS) = settleS s1 pk := by unfold gk settleS; rw [HX.out.2.1]
     rw [heq] at hw1
     obtain ⟨⟨A0, n0, cc0⟩, A1, n1, cc1⟩ := H.out.1.cells.2.2.2
     have ff1 := H.out.1.free 1
     have F : Shh (Ext col c w (wr.setCell ⟨g, 1, none⟩ (.slice none 0 0)) col ∧ RAt col c (wr.setCell ⟨g, 1, none⟩ (.slice none 0 0)) g (settleS s1 pk)) := ⟨(HE1.out.trans (Ext.of_but H.out.2 g4)).trans hw1.1, hw1.2⟩
     clear H hw1 heq g1 g2 g3 g4 HX HN HP0 cc0 HG HE1
     go_wp2
     go_ret
     exact ⟨rfl, F.out⟩
set_option maxHeartbeats 4000000 in
theorem rCrash_any {col : Nat → Nat} {c g : Nat} {w : World} {s1 : DS} (hR : RAt col c w g s1) (hc : c ≠ 0) (hl1 : s1.wait.length ≤ 1000000) (v : Value) (l : List Bool) (hs : SlbC col c w v l) : Calls Try.prog 41 #[.pointer (some ⟨g, 0, none⟩), v] w (RefIs col c w g (crS s1 l) (.tuple #[])) := by
 unfold RefIs
 obtain ⟨Av, cv, rfl, _, _, hsa⟩ : ∃ A cp, v = .slice A l.length cp ∧ l.length ≤ cp ∧ cp ≤ maxLen ∧ (0 < l.length → ∃ b off, A = some ⟨b, off, none⟩ ∧ b < w.heap.size ∧ col b ≠ c ∧ ∀ k (h : k < l.length), w.cell? ⟨b, off + k, none⟩ = some (.bool l[k])) := hs
 obtain ⟨nl, hnl⟩ : ∃ nl, nl = l.length := ⟨_, rfl⟩
 have HSA : Shh (0 < nl → ∃ b off, Av = some ⟨b, off, none⟩ ∧ b < w.heap.size ∧ col b ≠ c ∧ ∀ k (h : k < l.length), w.cell? ⟨b, off + k, none⟩ = some (.bool l[k])) := ⟨fun h => hsa (by omega)⟩
 have HNL := Shh.mk hnl
 rw [← hnl]
 clear hsa hnl
 obtain ⟨pk, hpk⟩ : ∃ pk : Nat → Bool, pk = pkF l := ⟨_, rfl⟩
 have HPKA : Shh (pk = pkF l) := ⟨hpk⟩
 clear hpk
 obtain ⟨p, cp, cur0, hp0, hpc, hpg, hpb, _⟩ := hR.open0
 obtain ⟨k0, k1, gv, wv, k3, k4, k5⟩ := id hR
 obtain ⟨A, cap, pw, raw, rfl, hw, hrl, hpw0, hdat⟩ := k5.raw k3.lt
 have hpl : p < w.heap.size := (Array.getElem?_eq_some_iff.1 hpb).1
 have hpwp : pw ≠ p := fun e => by
  rcases hpw0 with e2 | ⟨cur, e2⟩
  ·exact hpg (by rw [← e, e2])
  ·rw [e, hpb] at e2
   injection e2 with e2
   injection e2 with _ e2
   exact absurd e2 (by decide)
 have HX : Shh (WAt w A pw raw ∧ raw.length = s1.wait.length ∧ pw ≠ p ∧ (∀ k (h1 : k < raw.length) (h2 : k < s1.wait.length), raw[k].1 = s1.wait[k].1 ∧ Dat col w raw[k].2 s1.wait[k].2) ∧ (∀ x ∈ s1.wait, x.1 < s1.good.length ∧ x.2.length = 256)) := ⟨hw, hrl, hpwp, hdat, k0.wt⟩
 have HG : Shh (g < w.heap.size ∧ p < w.heap.size ∧ g ≠ p ∧ col p = c) := ⟨k3.lt, hpl, Ne.symm hpg, hpc⟩
 obtain ⟨n, hn⟩ : ∃ n, n = s1.good.length := ⟨_, rfl⟩
 rw [← hn] at hp0
 have HN := Shh.mk hn
 have HP0 := Shh.mk hp0
 have c1 : w.cell? ⟨g, 1, none⟩ = some (.slice A raw.length cap) := k3.cell 1
 have HI0 : Shh (RsI col c g p w s1 pk 0 w) := ⟨RsI.start hR⟩
 have HRL : Shh (raw.length ≤ 1000000) := ⟨by omega⟩
 clear hp0 hpc hpg hpb k0 k1 k3 k4 k5 hw hpw0 hdat hpl hpwp hn
 clear hR hrl
 go_enter Try.func41, Try.ntmps41
 go_wp2
 clear c1
 go_loopw [11] (fun j wr => ∃ k : Nat, k ≤ raw.length ∧ j = .int .i64 (k : Int) ∧ Shh (RsI col c g p w s1 pk k wr)) (fun j _ => raw.length - (intOf j).toNat)
 case atStart => exact ⟨0, Nat.zero_le _, rfl, HI0⟩
 case round =>
  clear HI0
  obtain ⟨k, hk, rfl, H⟩ := hrel
  by_cases hlt : k < raw.length
  ·have hlt2 : (k : Int) < (raw.length : Int) := by omega
   have hz : (0 : Int) ≤ (k : Int) := by omega
   have HKB : Shh (k ≤ 1000000000 ∧ k < raw.length) := ⟨by have := HRL.out; omega, hlt⟩
   obtain ⟨x01, x02, x03, x04, x05⟩ := HX.out
   have hkw : k < s1.wait.length := by omega
   have hbut := H.out.2
   have hwa : WAt wr A pw raw := x01.same hbut.size (hbut.block pw x01.1 x03)
   obtain ⟨hA, hrg⟩ := hwa.2 k hlt
   obtain ⟨d1, d2⟩ := x04 k hlt hkw
   have hwt := x05 _ (List.getElem_mem hkw)
   obtain ⟨b2, o2, cp2, d3, d4⟩ := id d2
   rw [hwt.2] at d3
   have hyw : wcC raw[k] = [.int .i64 (s1.wait[k].1 : Int), .slice (some ⟨b2, o2, none⟩) 256 cp2] := by unfold wcC; rw [d3, d1]
   rw [hyw] at hrg
   rw [d3] at d2
   obtain ⟨x1, hx1⟩ : ∃ x1, x1 = s1.wait[k].1 := ⟨_, rfl⟩
   rw [← hx1] at hrg hwt
   have HD : Shh (∃ hkw : k < s1.wait.length, x1 = s1.wait[k].1 ∧ Dat col w (.slice (some ⟨b2, o2, none⟩) 256 cp2) s1.wait[k].2 ∧ s1.wait[k].2.length = 256) := ⟨hkw, hx1, d2, hwt.2⟩
   have HXN : Shh (x1 < n) := ⟨by rw [HN.out]; exact hwt.1⟩
   subst hA
   have hRZ : Row (w := wr.alloc (.cells #[.int .i64 0, .slice none 0 0] 75)) (g := wr.heap.size) (T := 75) (cs := [.int .i64 0, .slice none 0 0]) := Row.new_ rfl rfl
   have hrg2 : (wr.alloc (.cells #[.int .i64 0, .slice none 0 0] 75)).rangeAt pw (k * 2) [.int .i64 (x1 : Int), .slice (some ⟨b2, o2, none⟩) 256 cp2] := range_below hrg (Below.alloc (Below.refl _ wr) (Nat.le_refl _) _) hwa.1
   have h1 : ∀ u ∈ ([.int .i64 (x1 : Int), .slice (some ⟨b2, o2, none⟩) 256 cp2] : List Value), u.oneCell' = true := by
    intro u hu
    simp only [List.mem_cons, List.not_mem_nil, or_false] at hu
    rcases hu with rfl | rfl <;> rfl
   clear hwa d1 d2 d3 d4 hwt hyw hx1 x01 x02 x03 x04 x05 hbut hlt hkw
   go_wp2_with (first | refine wpList_load_mid rfl 75 (.tmp 14) rfl pw (k * 2) (by go_num) [.int .i64 (x1 : Int), .slice (some ⟨b2, o2, none⟩) 256 cp2] _ (by first | exact hrg | exact hrg2) Try.underlying75 rfl info_wt ?_ | refine wpList_store_any rfl 75 (.tmp 5) (.tmp 15) rfl wr.heap.size rfl [.int .i64 (x1 : Int), .slice (some ⟨b2, o2, none⟩) 256 cp2] rfl 75 _ hRZ info_wt rfl h1 ?_)
   intro Z hr bt hz2
   have bZ : Below wr.heap.size wr Z := (Below.alloc (Below.refl _ _) (Nat.le_refl _) _).trans (bt.under (by omega) (Nat.le_refl _))
   have HZ : Shh (Z.cell? ⟨wr.heap.size, 0, none⟩ = some (.int .i64 (x1 : Int)) ∧ Z.cell? ⟨wr.heap.size, 1, none⟩ = some (.slice (some ⟨b2, o2, none⟩) 256 cp2) ∧ Below wr.heap.size wr Z ∧ wr.heap.size < Z.heap.size) := ⟨hr.cell 0, hr.cell 1, bZ, hr.lt⟩
   clear hr bt hz2 bZ hrg hrg2 hRZ h1
   by_cases hkn : k < nl
   ·have hkn2 : (k : Int) < (nl : Int) := by omega
    obtain ⟨bb, off, rfl, hbb, hbc, hbv⟩ := HSA.out (by omega)
    have hkl : k < l.length := by rw [← HNL.out]; exact hkn
    obtain ⟨bo, hbo⟩ : ∃ bo, bo = l[k] := ⟨_, rfl⟩
    have HPK : Shh (pk k = bo) := ⟨by rw [HPKA.out, hbo]; unfold pkF; simp [List.getD, hkl]⟩
    have m2 : Z.cell? ⟨bb, off + k, none⟩ = some (.bool bo) := by
     have hb := H.out.2
     have := hb.size
     obtain ⟨g1, g2, g3, g4⟩ := HG.out
     rw [hbo]
     exact ((HZ.out.2.2.1).cell (p := ⟨bb, off + k, none⟩) (by show bb < _; omega)).trans ((hb.cell (p := ⟨bb, off + k, none⟩) hbb (fun e => hbc (by have e2 : bb = p := e; rw [e2]; exact g4))).trans (hbv k hkl))
    clear hbb hbc hbv hkl hbo hkn
    cases bo with
    | true =>
     go_wp2
     clear m2
     obtain ⟨M, hM⟩ : ∃ M, M = wr.heap.size := ⟨_, rfl⟩
     rw [← hM] at HZ ⊢
     have HS0 : Shh (Z.cell? ⟨M, 0, none⟩ = some (.int .i64 (x1 : Int)) ∧ Z.cell? ⟨M, 1, none⟩ = some (.slice (some ⟨b2, o2, none⟩) 256 cp2) ∧ Z.cell? ⟨g, 0, none⟩ = some (.slice (some ⟨p, 0, none⟩) n cp)) := by
      have hb := H.out.2
      obtain ⟨g1, g2, g3, g4⟩ := HG.out
      have := hb.size
      exact ⟨HZ.out.1, HZ.out.2.1, ((HZ.out.2.2.1).cell (p := ⟨g, 0, none⟩) (by show g < M; omega)).trans ((hb.cell (p := ⟨g, 0, none⟩) g1 g3).trans HP0.out)⟩
     refine wp_region_held_drew (S := fun w' => w'.cell? ⟨M, 0, none⟩ = some (.int .i64 (x1 : Int)) ∧ w'.cell? ⟨M, 1, none⟩ = some (.slice (some ⟨b2, o2, none⟩) 256 cp2) ∧ w'.cell? ⟨g, 0, none⟩ = some (.slice (some ⟨p, 0, none⟩) n cp)) (by kernel_rfl) HS0.out (fun hS => ?_)
     obtain ⟨V, hV⟩ : ∃ V, V = World.drew Z := ⟨_, rfl⟩
     rw [← hV] at hS ⊢
     have hbV : Below wr.heap.size wr V := by rw [hV, ← hM]; exact HZ.out.2.2.1.drew
     have HF : Shh (RsI col c g p w s1 pk (k + 1) (V.setCell ⟨p, x1, none⟩ (.slice (some ⟨b2, o2, none⟩) 256 cp2)) ∧ ∃ cs, Row V p 33 cs ∧ n ≤ cs.length) := by
      obtain ⟨hkw, hx1, hdd, hll⟩ := HD.out
      obtain ⟨g1, g2, g3, g4⟩ := HG.out
      have := H.out.step hc HPK.out hkw hbV HP0.out g1 g2 g3 g4 hdd hll
      rw [← hx1, ← HN.out] at this
      exact ⟨this⟩
     have HSE : Shh ((V.setCell ⟨p, x1, none⟩ (.slice (some ⟨b2, o2, none⟩) 256 cp2)).cell? ⟨M, 0, none⟩ = some (.int .i64 (x1 : Int)) ∧ (V.setCell ⟨p, x1, none⟩ (.slice (some ⟨b2, o2, none⟩) 256 cp2)).cell? ⟨M, 1, none⟩ = some (.slice (some ⟨b2, o2, none⟩) 256 cp2) ∧ (V.setCell ⟨p, x1, none⟩ (.slice (some ⟨b2, o2, none⟩) 256 cp2)).cell? ⟨g, 0, none⟩ = some (.slice (some ⟨p, 0, none⟩) n cp)) := by
      obtain ⟨g1, g2, g3, g4⟩ := HG.out
      have hMp : M ≠ p := by have := H.out.2.size; omega
      have ho : ∀ q j, q ≠ p → (V.setCell ⟨p, x1, none⟩ (.slice (some ⟨b2, o2, none⟩) 256 cp2)).cell? ⟨q, j, none⟩ = V.cell? ⟨q, j, none⟩ := fun q j hq => World.cell?_of_block (a := ⟨q, j, none⟩) (heap_setCell_other V ⟨p, x1, none⟩ q _ hq)
      exact ⟨by rw [ho _ _ hMp]; exact hS.1, by rw [ho _ _ hMp]; exact hS.2.1, by rw [ho _ _ g3]; exact hS.2.2⟩
     clear hV hbV HS0 HZ H hM
     refine hdv0 0 26 (.pointer (some ⟨g, 0, none⟩)) (by rfl) hS ?_
     refine hdv 1 27 (.pointer (some ⟨g, 0, none⟩)) (by rfl) (fun w hS => rnil_ok rfl (by kernel_rfl)) hS ?_
     refine hdv 2 28 (.pointer (some ⟨g, 0, none⟩)) (by rfl) (fun w hS => fr_0 rfl (by kernel_rfl)) hS ?_
     refine hdv 3 29 (.slice (some ⟨p, 0, none⟩) n cp) (by rfl) (fun w hS => rload_ss rfl hS.2.2 (by kernel_rfl)) hS ?_
     refine hdv 4 30 (.pointer (some ⟨M, 0, none⟩)) (by rfl) (fun w hS => fw_0 rfl (by kernel_rfl)) hS ?_
     refine hdv 5 31 (.int .i64 (x1 : Int)) (by rfl) (fun w hS => rload_in rfl hS.1 (by kernel_rfl)) hS ?_
     refine hdv 6 32 (.pointer (some ⟨M, 1, none⟩)) (by rfl) (fun w hS => fw_1 rfl (by kernel_rfl)) hS ?_
     refine hdv 7 33 (.slice (some ⟨b2, o2, none⟩) 256 cp2) (by rfl) (fun w hS => rload_by rfl hS.2.1 (by kernel_rfl)) hS ?_
     refine hdv 8 34 (.pointer (some ⟨p, x1, none⟩)) (by rfl) (fun w hS => idx_rs (cp := cp) HXN.out rfl (by kernel_rfl) (by kernel_rfl)) hS ?_
     obtain ⟨cs, hcs, hcl⟩ := HF.out.2
     refine held_one 9 (by kernel_rfl) ?_
     refine step_store1 9 _ (by rfl) (by kernel_rfl) (V.setCell ⟨p, x1, none⟩ (.slice (some ⟨b2, o2, none⟩) 256 cp2)) (store_rb rfl (by kernel_rfl) (by kernel_rfl) hcs (by have := HXN.out; omega)) ?_
     refine ⟨HSE.out, ?_⟩
     refine wpAnyH_done (by kernel_rfl) ?_ _
     clear hcs hcl hS HSE
     have HR : Shh (RsI col c g p w s1 pk (k + 1) (V.setCell ⟨p, x1, none⟩ (.slice (some ⟨b2, o2, none⟩) 256 cp2))) := ⟨HF.out.1⟩
     clear HF HD HXN
     go_wp2_with (refine wl_at 35 rfl (.int .i64 ((k + 1 : Nat) : Int)) rfl (add_i1 HKB.out.1 rfl rfl) ?_)
     go_roundw
     case rel => exact ⟨k + 1, HKB.out.2, by go_num, HR⟩
     case measure => have := HKB.out.2; simp [intOf]; omega
    | false =>
     skip
     have HR : Shh (RsI col c g p w s1 pk (k + 1) Z) := ⟨H.out.skip HPK.out HZ.out.2.2.1⟩
     clear HZ H HD HXN
     have HKC := Shh.mk HKB.out
     go_wp2_with (refine wl_at 35 rfl (.int .i64 ((k + 1 : Nat) : Int)) rfl (add_i1 HKB.out.1 rfl rfl) ?_)
     go_roundw
     case rel => exact ⟨k + 1, HKB.out.2, by go_num, HR⟩
     case measure => have := HKB.out.2; simp [intOf]; omega
   ·have hkn2 : ¬ (k : Int) < (nl : Int) := by omega
    have HPK : Shh (pk k = false) := ⟨by rw [HPKA.out]; unfold pkF; have := HNL.out; rw [List.getD, List.getElem?_eq_none (by omega)]; rfl⟩
    clear hkn
    have HR : Shh (RsI col c g p w s1 pk (k + 1) Z) := ⟨H.out.skip HPK.out HZ.out.2.2.1⟩
    clear HZ H HD HXN
    go_wp2_with (refine wl_at 35 rfl (.int .i64 ((k + 1 : Nat) : Int)) rfl (add_i1 HKB.out.1 rfl rfl) ?_)
    go_roundw
    case rel => exact ⟨k + 1, HKB.out.2, by go_num, HR⟩
    case measure => have := HKB.out.2; simp [intOf]; omega
  ·obtain rfl : k = raw.length := by omega
   have hlt2 : ¬ (raw.length : Int) < (raw.length : Int) := by omega
   obtain ⟨g1, g2, g3, g4⟩ := HG.out
   have hw1 := H.out.1.unwait hc
   have heq : ({ gk s1 pk raw.length with wait := [] } : DS) = settleS s1 pk := by unfold gk settleS; rw [HX.out.2.1]
   rw [heq] at hw1
   obtain ⟨cc2, cc3, cc4, ⟨A0, n0, cc0⟩, A1, n1, cc1⟩ := H.out.1.cells
   have ff1 := H.out.1.free 1
   have ff2 := H.out.1.free 2
   have ff3 := H.out.1.free 3
   have hok := hw1.2.1
   have ht := hw1.2.turn hc (But.chain (but_set (wr.setCell ⟨g, 1, none⟩ (.slice none 0 0)) g 2 (.bool false)) (but_set _ g 3 (.int .i64 (-1)))) true (-1) (settleS s1 pk).done (fun x y hr => (hr.set_ 2 _).set_ 3 _) (hok.set _ _ _ _ _ rfl hok.sec hok.wt (by omega) (by omega))
   have F : Shh (Ext col c w (((wr.setCell ⟨g, 1, none⟩ (.slice none 0 0)).setCell ⟨g, 2, none⟩ (.bool false)).setCell ⟨g, 3, none⟩ (.int .i64 (-1))) col ∧ RAt col c (((wr.setCell ⟨g, 1, none⟩ (.slice none 0 0)).setCell ⟨g, 2, none⟩ (.bool false)).setCell ⟨g, 3, none⟩ (.int .i64 (-1))) g (crS s1 l)) := by
    refine ⟨((Ext.of_but H.out.2 g4).trans hw1.1).trans ht.1, ?_⟩
    have e : crS s1 l = { settleS s1 pk with on := true, fuse := -1, done := (settleS s1 pk).done } := by rw [HPKA.out]; rfl
    rw [e]
    exact ht.2
   clear H hw1 heq g1 g2 g3 g4 HX HN HP0 cc0 HG ht hok HPKA
   go_wp2
   go_end0
   exact ⟨rfl, F.out⟩
end Go.Proofs.Ytpajdmbajopofaa
