/-
 WALKS: Clone.
-/
import Derived.Test.YtpajdmbajopofaaDk15
namespace Go.Proofs.Ytpajdmbajopofaa
open Go.RowKit
set_option maxRecDepth 100000
/-- a copy of pending writes in new memory -/
def SClIs (w : World) (n : Nat) (xs : List Value) (e : Ending) (w' : World) : Prop := ∃ v, e = .returned v ∧ w'.ownsRow 0 71 2 v n xs ∧ (∀ k, v.ownBlock = some k → w.heap.size ≤ k) ∧ Below w.heap.size w w'
theorem own_one {xs : List Value} {n : Nat} (l : List (Nat × List UInt8)) (hl : xs.length = n * 2) (hn : n = l.length) {col : Nat → Nat} {w : World} (h : ∀ j (h : j < l.length), ∃ u, xs[2 * j]? = some (.int .i64 (l[j].1 : Int)) ∧ xs[2 * j + 1]? = some u ∧ Dat col w u l[j].2) : ∀ u ∈ xs, u.oneCell' = true := by
 intro u hu
 obtain ⟨i, hi, rfl⟩ := List.mem_iff_getElem.1 hu
 obtain ⟨x, h1, h2, b, off, cp, h3, _⟩ := h (i / 2) (by omega)
 by_cases e : i % 2 = 0
 ·have e2 : 2 * (i / 2) = i := by omega
  rw [e2, List.getElem?_eq_getElem hi] at h1
  injection h1 with h1
  rw [h1]
  rfl
 ·have e2 : 2 * (i / 2) + 1 = i := by omega
  rw [e2, List.getElem?_eq_getElem hi] at h2
  injection h2 with h2
  rw [h2, h3]
  rfl
theorem sclone_any (A : Option Addr) (n cap : Nat) (xs : List Value) (w : World) (ho : w.ownsRow 0 71 2 (.slice A n cap) n xs) (h1 : ∀ u ∈ xs, u.oneCell' = true) (hn : n ≤ 1000000) : Calls Try.prog 44 #[.slice A n cap] w (SClIs w n xs) := by
 unfold SClIs
 have HB0 : Shh (Below w.heap.size w w) := ⟨Below.refl _ _⟩
 rcases ho.2 with ⟨e, e0⟩ | ⟨p, cap', cur, e, _, hp, _, _, _, ht⟩
 ·injection e with e1 e2 e3
  subst e1 e2 e3
  have hx : xs = [] := List.eq_nil_of_length_eq_zero (by have := ho.1; omega)
  subst hx
  have heq := fun W => run_eql_none Try.underlying65 W
  clear ho h1 hn
  go_enter Try.func44, Try.ntmps44
  go_wp2
  go_ret
  exact ⟨_, rfl, World.ownsRow_nil _ _ _ _, (fun k hk => by cases hk), HB0.out⟩
 ·injection e with e1 e2 e3
  subst e1 e3
  have heq := fun W => run_eql_some Try.underlying65 ⟨p, 0, none⟩ n cap W
  obtain ⟨i0, hi, hz0, hz1, hz2⟩ := info_parts info_wr3
  obtain ⟨W0, hW0⟩ : ∃ W0, w.alloc (.cells #[] 71) = W0 := ⟨_, rfl⟩
  have bA : Below w.heap.size w W0 := by rw [← hW0]; exact Below.alloc (Below.refl _ _) (Nat.le_refl _) _
  have hz : W0.heap.size = w.heap.size + 1 := by rw [← hW0, asz]
  have hown : W0.ownsRow 0 71 2 (.slice (some ⟨w.heap.size, 0, none⟩) 0 0) 0 [] := by rw [← hW0]; exact World.ownsRow_made w (#[] : Array Value) 0 (Nat.zero_le _) (Nat.zero_le _) rfl
  have hsrc : ∀ j u, xs[j]? = some u → W0.cell? ((⟨p, 0, none⟩ : Addr).add j) = some u := fun j u hj => (ownsRow_go ho bA).cells (g := p) rfl j u hj
  have HA := Shh.mk (And.intro bA hz)
  have HX := Shh.mk (And.intro h1 (And.intro hn ho.1))
  clear ho h1 hn bA hz hp ht
  go_enter Try.func44, Try.ntmps44
  go_wp2_with (refine wpList_append_own_at _ rfl _ _ 65 rfl 0 71 i0 _ 2 32 Try.underlying65 hi hz0 hz1 hz2 rfl (by decide) _ _ _ rfl hown ⟨p, 0, none⟩ n cap xs rfl HX.out.2.2 hsrc HX.out.1 (by have := HX.out.2.1; unfold maxLen; omega) (by have := HX.out.2.1; omega) (Nat.zero_le _) ?_)
  intro v' w1 hown' hgr _ hat
  have F : Shh (w1.ownsRow 0 71 2 v' n xs ∧ (∀ k, v'.ownBlock = some k → w.heap.size ≤ k) ∧ Below w.heap.size w w1) := by
   refine ⟨by simpa using hown', fun k hk => ?_, ?_⟩
   ·rcases hat with hat | hat
    ·rw [hat] at hk
     injection hk with hk
     exact Nat.le_of_eq hk
    ·rw [hat] at hk
     injection hk with hk
     have := HA.out.2
     omega
   ·have hz := HA.out.2
    refine HA.out.1.trans ⟨hgr.os, hgr.tape, hgr.output, hgr.size, fun k hk => hgr.block k (by omega) (fun e => ?_)⟩
    injection e with e
    have e2 : k = w.heap.size := e
    omega
  clear hown' hgr hown hsrc HA hW0
  go_wp2
  go_ret
  exact ⟨_, rfl, F.out⟩
theorem info_disk : (Try.prog.info? 67).map (·.size) = some 5 := by kernel_rfl
/-- Clone's answer -/
def ClIs (col : Nat → Nat) (c : Nat) (w : World) (s : DS) (e : Ending) (w' : World) : Prop := ∃ g, e = .returned (.pointer (some ⟨g, 0, none⟩)) ∧ w.heap.size ≤ g ∧ Below w.heap.size w w' ∧ DAt (paint col w.heap.size c) c w' g s
set_option maxHeartbeats 2000000 in
theorem Clone_any {col : Nat → Nat} {c g : Nat} {w : World} {s : DS} (h : DAt col c w g s) (hl : s.wait.length ≤ 1000000) (d : Nat) (hd : d ≠ 0) : Calls Try.prog 16 #[.pointer (some ⟨g, 0, none⟩)] w (ClIs col d w s) := by
 unfold ClIs
 have HM := Shh.mk h.made
 obtain ⟨h0, h1, q, dc, pv, sp, h2, h3, h4, h5, h6, xs, p1, p2, p3⟩ := h
 have hfl := flat_length h0.sec
 have hhi := h0.hi
 have hlo := h0.lo
 have hone := own_one s.wait p1.1 rfl p3
 obtain ⟨A, cap, rfl⟩ : ∃ A cap, pv = .slice A s.wait.length cap := by
  rcases p1.2 with ⟨rfl, e⟩ | ⟨p, cap, cur, rfl, _⟩
  ·exact ⟨none, 0, by rw [e]⟩
  ·exact ⟨_, _, rfl⟩
 have hsl : ∀ W, Below w.heap.size w W → Sl W W.heap.size (.slice (some ⟨q, 0, none⟩) (256 * s.good.length) dc) s.good.flatten := fun W hW => by
  have hr := h4.go hW
  refine ⟨some ⟨q, 0, none⟩, dc, by rw [hfl], by omega, h6, fun _ => ⟨q, 0, rfl, hr.lt, fun k hk => ?_⟩⟩
  rw [Nat.zero_add, hr.cell k, List.getElem?_append_left (by rw [bc_len]; exact hk), byteCells_get _ k hk]
 obtain ⟨bs, HBS⟩ : ∃ bs, Shh (bs = s.good.flatten) := ⟨_, ⟨rfl⟩⟩
 rw [← HBS.out] at hfl hsl
 obtain ⟨N, HN⟩ : ∃ N, Shh (N = 256 * s.good.length) := ⟨_, ⟨rfl⟩⟩
 have HBC : Shh (∀ W, Below w.heap.size w W → Calls Try.prog 43 #[.slice (some ⟨q, 0, none⟩) N dc] W (OwnIs W bs)) := ⟨fun W hW => by rw [HN.out]; exact bclone_any W.heap.size _ _ W (hsl W hW) (Nat.le_refl _) (by omega) (by omega)⟩
 have HSC : Shh (∀ W, Below w.heap.size w W → Calls Try.prog 44 #[.slice A s.wait.length cap] W (SClIs W s.wait.length xs)) := ⟨fun W hW => sclone_any A _ cap xs W (ownsRow_go p1 hW) hone hl⟩
 have HK := Shh.mk (And.intro h0 (And.intro hfl (And.intro p3 p1.1)))
 rw [← HN.out] at h3
 have HR := Shh.mk h3
 have hg := h3.lt
 obtain ⟨W0, hW0⟩ : ∃ W0, w.alloc (.cells #[.slice (some ⟨q, 0, none⟩) N dc, .slice A s.wait.length cap, .bool s.on, .int .i64 s.fuse, .int .i64 s.done] 67) = W0 := ⟨_, rfl⟩
 have bA : Below w.heap.size w W0 := by rw [← hW0]; exact Below.alloc (Below.refl _ _) (Nat.le_refl _) _
 have hz0 : W0.heap.size = w.heap.size + 1 := by rw [← hW0, asz]
 have hR0 : Row W0 w.heap.size 67 [.slice (some ⟨q, 0, none⟩) N dc, .slice A s.wait.length cap, .bool s.on, .int .i64 s.fuse, .int .i64 s.done] := by rw [← hW0]; exact Row.new_ rfl rfl
 have HW0 := Shh.mk (And.intro bA (And.intro hz0 hR0))
 have c0 : W0.cell? ⟨g, 0, none⟩ = some (.slice (some ⟨q, 0, none⟩) N dc) := (h3.go bA).cell 0
 have HB1 := Shh.mk (HBC.out W0 bA)
 clear h0 h2 h4 h5 h6 p1 p2 p3 hfl hone hsl hl bA hz0 hR0 h3 HBC
 go_enter Try.func16, Try.ntmps16
 go_wp2_with (go_at_call 42; refine (HM.out).mono ?_)
 unfold AnsIs
 rintro e w1 ⟨rfl, rfl⟩
 go_wp2_with (first | refine wpList_load_any rfl 67 (.tmp 8) rfl g rfl 67 _ _ HR.out Try.underlying67 rfl info_disk ?_ | (go_at_call 43; refine (HB1.out).mono ?_))
 unfold OwnIs Gives
 rintro e w2 ⟨v, rfl, ho, hb⟩
 obtain ⟨q2, dc2, sp2, rfl, k1, k2, k3, k4⟩ := own_row' ho (by have := HK.out.2.1; omega)
 have hR2 := HW0.out.2.2.go hb
 have c20 : w2.cell? ⟨w.heap.size, 0, none⟩ = some (.slice (some ⟨q, 0, none⟩) N dc) := hR2.cell 0
 have f20 : w2.frozen? ⟨w.heap.size, 0, none⟩ = false := hR2.free 0
 obtain ⟨W3, hW3⟩ : ∃ W3, w2.setCell ⟨w.heap.size, 0, none⟩ (.slice (some ⟨q2, 0, none⟩) bs.length dc2) = W3 := ⟨_, rfl⟩
 have hz0 := HW0.out.2.1
 have b03 : Below w.heap.size w W3 := by
  rw [← hW3]
  exact (Below.chain HW0.out.1 hb).setCell (p := ⟨w.heap.size, 0, none⟩) (Nat.le_refl _) _
 have hR3 : Row W3 w.heap.size 67 [.slice (some ⟨q2, 0, none⟩) bs.length dc2, .slice A s.wait.length cap, .bool s.on, .int .i64 s.fuse, .int .i64 s.done] := by rw [← hW3]; exact hR2.set_ 0 _
 have hq3 : Row W3 q2 5 (Lib.byteCells bs ++ sp2) := by rw [← hW3]; exact k2.other _ _ (by show q2 ≠ w.heap.size; omega)
 have c31 : W3.cell? ⟨g, 1, none⟩ = some (.slice A s.wait.length cap) := (b03.cell (p := ⟨g, 1, none⟩) hg).trans (HR.out.cell 1)
 have H3 := Shh.mk (And.intro b03 (And.intro hR3 (And.intro hq3 (And.intro k3 (And.intro k4 (show w.heap.size + 1 ≤ q2 by omega))))))
 have HS1 := Shh.mk (HSC.out W3 b03)
 clear ho hb k1 k2 k3 k4 hR2 hz0 b03 hR3 hq3 HSC HB1 HW0 hW0 c0
 go_wp2_with (go_at_call 44; refine (HS1.out).mono ?_)
 unfold SClIs
 rintro e w4 ⟨v, rfl, ho, hv, hb⟩
 obtain ⟨va, vc, rfl⟩ : ∃ va vc, v = .slice va s.wait.length vc := by
  rcases ho.2 with ⟨rfl, e⟩ | ⟨p, cap, cur, rfl, _⟩
  ·exact ⟨none, 0, by rw [e]⟩
  ·exact ⟨_, _, rfl⟩
 have hR4 := H3.out.2.1.go hb
 have c41 : w4.cell? ⟨w.heap.size, 1, none⟩ = some (.slice A s.wait.length cap) := hR4.cell 1
 have f41 : w4.frozen? ⟨w.heap.size, 1, none⟩ = false := hR4.free 1
 have hz3 := H3.out.2.1.lt
 have F : Shh (Below w.heap.size w (w4.setCell ⟨w.heap.size, 1, none⟩ (.slice va s.wait.length vc)) ∧ DAt (paint col w.heap.size d) d (w4.setCell ⟨w.heap.size, 1, none⟩ (.slice va s.wait.length vc)) w.heap.size s) := by
  have bF : Below w.heap.size w (w4.setCell ⟨w.heap.size, 1, none⟩ (.slice va s.wait.length vc)) := (Below.chain H3.out.1 hb).setCell (p := ⟨w.heap.size, 1, none⟩) (Nat.le_refl _) _
  refine ⟨bF, HK.out.1, paint_ge (Nat.le_refl _), q2, dc2, .slice va s.wait.length vc, sp2, paint_ge (by have := H3.out.2.2.2.2.2; omega), ?_, ?_, ?_, H3.out.2.2.2.2.1, xs, ?_, ?_, fun j hj => ?_⟩
  ·rw [← HK.out.2.1]
   exact hR4.set_ 1 _
  ·rw [← HBS.out]
   exact (H3.out.2.2.1.go hb).other _ _ (by show q2 ≠ w.heap.size; have := H3.out.2.2.2.2.2; omega)
  ·rw [← HK.out.2.1]; exact H3.out.2.2.2.1
  ·refine ⟨ho.1, ?_⟩
   rcases ho.2 with h2 | ⟨p', cap', cur, hv', hb', hp', rest⟩
   ·exact .inl h2
   ·refine .inr ⟨p', cap', cur, hv', hb', (heap_setCell_other w4 ⟨w.heap.size, 1, none⟩ p' _ (fun e => ?_)).trans hp', rest⟩
    have e2 : p' = w.heap.size := e
    rw [e2, show w4.heap[w.heap.size]? = _ from hR4] at hp'
    injection hp' with hp'
    injection hp' with _ hp'
    exact absurd hp' (by decide)
  ·intro k hk
   have := hv k hk
   exact paint_ge (by omega)
  ·obtain ⟨u, k1, k2, b, off, cp, k3, k4, k5, k6, k7, k8⟩ := HK.out.2.2.1 j hj
   exact ⟨u, k1, k2, b, off, cp, k3, by rw [paint_lt k5]; exact k4, Nat.lt_of_lt_of_le k5 bF.size, k6, k7, fun k hk => (bF.cell (p := ⟨b, off + k, none⟩) k5).trans (k8 k hk)⟩
 clear ho hv hb hR4 hz3 H3 HS1 hW3
 go_wp2
 go_ret
 exact ⟨_, rfl, Nat.le_refl _, F.out.1, F.out.2⟩
end Go.Proofs.Ytpajdmbajopofaa
