/-
 WALKS: Sync, Crash.
-/
import Derived.Test.YtpajdmbajopofaaDk13
namespace Go.Proofs.Ytpajdmbajopofaa
open Go.RowKit
set_option maxRecDepth 100000
theorem pkSeq_sync (col : Nat → Nat) (c : Nat) (w : World) (g : Nat) : PkSeq col c w g 50 #[] (fun _ => true) := by
 intro q p cap A lv W5 hq hlen hone hb hz bD bF c1 hw hne hql l J Jx W hW hJ _ hY h0
 exact pickS_in l _ _ g p q cap A (fun _ => true) lv hlen hone W5 J Jx W (But.of hW q) hJ hY bD bF c1 hw ⟨by omega, by omega, hne.1, hne.2⟩ (fun Z _ k _ => sync1_any k Z) h0
/-- bools that lie in a block of another colour -/
def SlbC (col : Nat → Nat) (c : Nat) (w : World) (v : Value) (l : List Bool) : Prop := ∃ A cp, v = .slice A l.length cp ∧ l.length ≤ cp ∧ cp ≤ maxLen ∧ (0 < l.length → ∃ b off, A = some ⟨b, off, none⟩ ∧ b < w.heap.size ∧ col b ≠ c ∧ ∀ k (h : k < l.length), w.cell? ⟨b, off + k, none⟩ = some (.bool l[k]))
theorem SlbC.of_slb {col : Nat → Nat} {c B : Nat} {w : World} {v : Value} {l : List Bool} (h : Slb w B v l) (hB : B ≤ w.heap.size) (hcB : ∀ k, k < B → col k ≠ c) : SlbC col c w v l := by
 obtain ⟨A, cp, h1, h2, h3, h4⟩ := h
 refine ⟨A, cp, h1, h2, h3, fun hn => ?_⟩
 obtain ⟨b, off, h5, h6, h7⟩ := h4 hn
 exact ⟨b, off, h5, by omega, hcB b h6, h7⟩
theorem SlbC.alloc {col col' : Nat → Nat} {c : Nat} {w w' : World} {v : Value} {l : List Bool} (h : SlbC col c w v l) (b : Below w.heap.size w w') (hd : ∀ k, k < w.heap.size → col' k = col k) : SlbC col' c w' v l := by
 obtain ⟨A, cp, h1, h2, h3, h4⟩ := h
 refine ⟨A, cp, h1, h2, h3, fun hn => ?_⟩
 obtain ⟨q, off, h5, h6, h7, h8⟩ := h4 hn
 exact ⟨q, off, h5, Nat.lt_of_lt_of_le h6 b.size, by rw [hd q h6]; exact h7, fun k hk => (b.cell (p := ⟨q, off + k, none⟩) h6).trans (h8 k hk)⟩
theorem pkSeq_crash (col : Nat → Nat) (c : Nat) (w : World) (g bP : Nat) (v : Value) (l : List Bool) (hbP : Boxed w bP 34 v) (hs : SlbC col c w v l) (hcP : col bP ≠ c) : PkSeq col c w g 46 #[.pointer (some ⟨bP, 0, none⟩)] (pkF l) := by
 intro q p cap A lv W5 hq hlen hone hb hz bD bF c1 hw hne hql l' J Jx W hW hJ _ hY h0
 refine pickC_in l' _ _ g p q cap bP A (pkF l) lv hlen hone W5 J Jx W (But.of hW q) hJ hY bD bF c1 hw ⟨by omega, by omega, hne.1, hne.2⟩ (fun Z hZ k _ => crash1_any bP Z.heap.size v l k Z ?_ ?_) h0
 ·have h1 := hbP.lt
  exact (hZ.block bP (by omega) (fun e => hcP (by rw [e]; exact hq))).trans ((hb.block bP h1).trans hbP)
 ·obtain ⟨A', cp, k1, k2, k3, k4⟩ := hs
  refine ⟨A', cp, k1, k2, k3, fun hn => ?_⟩
  obtain ⟨b, off, k5, k6, k7, k8⟩ := k4 hn
  have hzs := hZ.size
  exact ⟨b, off, k5, by omega, fun k hk => (hZ.cell (p := ⟨b, off + k, none⟩) (by show b < _; omega) (fun e => k7 (by rw [show b = q from e]; exact hq))).trans ((hb.cell (p := ⟨b, off + k, none⟩) k6).trans (k8 k hk))⟩
theorem settle_sync {col : Nat → Nat} {c g : Nat} {w : World} {s : DS} (h : DAt col c w g s) (hc : c ≠ 0) (hl : s.wait.length ≤ 1000000) : Calls Try.prog 45 #[.pointer (some ⟨g, 0, none⟩), .func (.func 50) #[] #[]] w (DiskIs col c w g (settleS s fun _ => true) (.tuple #[])) :=
 settle_of h hc hl _ _ _ (pkSeq_sync col c w g)
theorem DAt.re {col col' : Nat → Nat} {c g : Nat} {w : World} {s : DS} (h : DAt col c w g s) (hd : ∀ k, k < w.heap.size → col' k = col k) : DAt col' c w g s := h.ext ((Ext.refl col (c + 1) w).re hd) (by omega) (by omega)
theorem opS_wait (s : DS) : (opS s).wait = s.wait := by unfold opS; split <;> rfl
set_option maxHeartbeats 2000000 in
theorem Sync_any {col : Nat → Nat} {c g : Nat} {w : World} {s : DS} (h : DAt col c w g s) (hc : c ≠ 0) (hl : s.wait.length ≤ 1000000) : Calls Try.prog 27 #[.pointer (some ⟨g, 0, none⟩)] w (DiskIs col c w g (syS s) (.int .i64 (syE s))) := by
 unfold DiskIs
 have HM := Shh.mk h.made
 obtain ⟨q, N, dc, pv, HN, c0, c1, c2, c3, c4, A, cap, rfl⟩ := h.cells
 unfold syS syE
 cases hon : s.on with
 | false =>
  rw [if_pos rfl, if_pos rfl]
  have F : Shh (Ext col c w w col ∧ DAt col c w g s) := ⟨Ext.refl _ _ _, h⟩
  rw [hon] at c2
  clear h HN
  go_enter Try.func27, Try.ntmps27
  go_wp2_with (go_at_call 42; refine (HM.out).mono ?_)
  unfold AnsIs
  rintro e w1 ⟨rfl, rfl⟩
  go_wp2
  go_ret
  exact ⟨rfl, F.out⟩
 | true =>
  rw [if_neg (by decide), if_neg (by decide)]
  have HO := Shh.mk (operate_any h hc)
  rw [hon] at c2
  by_cases hz : s.fuse = 0
  ·rw [if_pos hz]
   have he : opE s = 5 := by unfold opE; rw [if_pos hz]
   rw [he] at HO ⊢
   clear h HN hz he
   go_enter Try.func27, Try.ntmps27
   go_wp2_with (first | (go_at_call 42; refine (HM.out).mono ?_) | (go_at_call 49; refine (HO.out).mono ?_))
   unfold AnsIs
   rintro e w1 ⟨rfl, rfl⟩
   go_wp2_with (first | (go_at_call 42; refine (HM.out).mono ?_) | (go_at_call 49; refine (HO.out).mono ?_))
   unfold DiskIs
   rintro e w2 ⟨rfl, h2, h3⟩
   have F := Shh.mk (And.intro h2 h3)
   clear h2 h3 HO
   go_wp2
   go_ret
   exact ⟨rfl, F.out⟩
  ·rw [if_neg hz]
   have he : opE s = 0 := by unfold opE; rw [if_neg hz]
   rw [he] at HO ⊢
   have HL : Shh ((opS s).wait.length ≤ 1000000) := ⟨by rw [opS_wait]; exact hl⟩
   clear h HN hz he hl
   go_enter Try.func27, Try.ntmps27
   go_wp2_with (first | (go_at_call 42; refine (HM.out).mono ?_) | (go_at_call 49; refine (HO.out).mono ?_))
   unfold AnsIs
   rintro e w1 ⟨rfl, rfl⟩
   go_wp2_with (first | (go_at_call 42; refine (HM.out).mono ?_) | (go_at_call 49; refine (HO.out).mono ?_))
   unfold DiskIs
   rintro e w2 ⟨rfl, h2, h3⟩
   have HSS := Shh.mk (settle_sync h3 hc HL.out)
   have HE2 := Shh.mk h2
   clear h2 h3 HO c0 c1 c2 c3 c4
   go_wp2_with (go_at_call 45; refine (HSS.out).mono ?_)
   unfold DiskIs
   rintro e w3 ⟨rfl, h2, h3⟩
   have F := Shh.mk (And.intro (HE2.out.trans h2) h3)
   clear h2 h3 HSS HE2
   go_wp2
   go_ret
   exact ⟨rfl, F.out⟩
set_option maxHeartbeats 2000000 in
theorem Crash_any {col : Nat → Nat} {c g : Nat} {w : World} {s : DS} (h : DAt col c w g s) (hc : c ≠ 0) (hl : s.wait.length ≤ 1000000) (v : Value) (l : List Bool) (hs : SlbC col c w v l) : Calls Try.prog 17 #[.pointer (some ⟨g, 0, none⟩), v] w (DiskIx col c w g (crS s l) (.tuple #[])) := by
 unfold DiskIx
 obtain ⟨Av, cv, rfl, _, _⟩ : ∃ A cp, v = .slice A l.length cp ∧ l.length ≤ cp ∧ cp ≤ maxLen := by obtain ⟨A, cp, h1, h2, h3, _⟩ := hs; exact ⟨A, cp, h1, h2, h3⟩
 obtain ⟨W0, hW0⟩ : ∃ W0, w.alloc (.cells #[.slice Av l.length cv] 34) = W0 := ⟨_, rfl⟩
 have bA : Below w.heap.size w W0 := by rw [← hW0]; exact Below.alloc (Below.refl _ _) (Nat.le_refl _) _
 have bx : Boxed W0 w.heap.size 34 (.slice Av l.length cv) := by rw [← hW0]; exact Boxed.new w _ _
 have hd0 : DAt (paint col w.heap.size (c + 1)) c W0 g s := (h.re (fun k hk => paint_lt hk)).go bA
 have HSE := Shh.mk (settle_of hd0 hc hl (pkF l) _ _ (pkSeq_crash _ c W0 g w.heap.size _ l bx (hs.alloc bA (fun k hk => paint_lt hk)) (by rw [paint_ge (Nat.le_refl _)]; omega)))
 have HM := Shh.mk hd0.made
 have HE0 : Shh (Ext col c w W0 (paint col w.heap.size (c + 1))) := ⟨(Ext.of_below col c bA).paint _⟩
 clear h hs bA bx hd0
 generalize l.length = n at *
 go_enter Try.func17, Try.ntmps17
 go_wp2_with (go_at_call 42; refine (HM.out).mono ?_)
 unfold AnsIs
 rintro e w1 ⟨rfl, rfl⟩
 go_wp2_with (go_at_call 45; refine (HSE.out).mono ?_)
 unfold DiskIs
 rintro e w3 ⟨rfl, h2, h3⟩
 obtain ⟨q, N, dc, pv, HN, c0, c1, c2, c3, c4, A, cap, rfl⟩ := h3.cells
 have f2 : w3.frozen? ⟨g, 2, none⟩ = false := by obtain ⟨_, _, _, _, _, _, _, h3, _⟩ := h3; exact h3.free 2
 have f3 : w3.frozen? ⟨g, 3, none⟩ = false := by obtain ⟨_, _, _, _, _, _, _, h3, _⟩ := h3; exact h3.free 3
 have hok := h3.1
 have ht := h3.turn hc (But.chain (but_set w3 g 2 (.bool true)) (but_set _ g 3 (.int .i64 (-1)))) true (-1) (settleS s (pkF l)).done (fun x y hr => (hr.set_ 2 _).set_ 3 _) (hok.set _ _ _ _ _ rfl hok.sec hok.wt (by omega) (by omega))
 have F := Shh.mk (And.intro (HE0.out.trans (h2.trans ht.1)) ht.2)
 clear h2 h3 HSE HE0 HM ht hok HN hW0
 go_wp2
 go_end0
 exact ⟨rfl, _, F.out.1, F.out.2⟩
end Go.Proofs.Ytpajdmbajopofaa
