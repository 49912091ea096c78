/-
  WALKS: the document's own Draw, served.
-/
import Derived.Test.YtanpplniedphkaaDoorDe5
namespace Go.Proofs.YtanpplniedphkaaDoor
open Go.RowKit
set_option maxRecDepth 100000
theorem Sl.grown {w w' : World} {B : Nat} {y : Value} {bs : List UInt8} {r : Option Nat} (h : Sl w B y bs) (ho : ∀ g, r = some g → Off g y) (hg : w.grownBy w' r) (hB : B ≤ w.heap.size) : Sl w' B y bs := by
  rcases r with _ | g
  · exact h.below ⟨hg.os, hg.tape, hg.output, hg.size, fun i hi => hg.block i (by omega) (by simp)⟩
  · exact h.but (ho g rfl) ⟨hg.os, hg.tape, hg.output, hg.size, fun i hi hne => hg.block i (by omega) (by simpa using hne)⟩
/-- a slice that reads as a list and lies beside two blocks: what a row of the document's generator holds -/
theorem SlO.old {w w' : World} {N : Nat} {v : Value} {bs : List UInt8} (h : Sl w N v bs) (b : Below N w w') (hs : N ≤ w'.heap.size) : SlO w' N v bs := ⟨(h.below b).more hs, h.off (Nat.le_refl _), h.off (by omega)⟩
theorem drS_key (s : List UInt8) (h : s.length = 64) : ∀ k, keyL (drS s k) = keyL s
  | 0 => rfl
  | k + 1 => by rw [drS, keyL_step _ (drS_length s h k), drS_key s h k]
theorem drS_val (s : List UInt8) (h : s.length = 64) (k : Nat) : valL (drS s (k + 1)) = macB (keyL s) (valL (drS s k)) := by
  rw [drS, valL_step _ (drS_length s h k), drS_key s h k]
set_option maxHeartbeats 8000000 in
theorem refDraw_ok (c n : Nat) (x va : Value) (ad s : List UInt8) (w : World) (hx : RSt w x s (c : Int)) (ha : Sl w w.heap.size va ad) (hs : s.length = 64) (hn : n ≤ 65536) (hal : ad.length ≤ 4096) (hc : c ≤ 1024) :
    Calls Tryd.prog 59 #[x, .int .i64 (n : Int), va] w (RDrawIs w (fun _ => True) (drawB (drS1 ad s) n) (drS2 ad s n) ((c : Int) + 1) 0) := by
  unfold RDrawIs
  obtain ⟨s1, hs1⟩ : ∃ s1, s1 = drS1 ad s := ⟨_, rfl⟩
  obtain ⟨s2, hs2⟩ : ∃ s2, s2 = drS2 ad s n := ⟨_, rfl⟩
  have HN : Shh (s1 = drS1 ad s ∧ s2 = updL ad (drawS s1 n) ∧ s1.length = 64 ∧ ad.length ≤ 4096) := ⟨hs1, by rw [hs2, hs1]; rfl, by rw [hs1]; exact drS1_length _ _ hs, hal⟩
  rw [← hs1, ← hs2]
  clear hs1 hs2
  obtain ⟨vk, vv, rfl, hk, hv⟩ := hx
  obtain ⟨A2, c2, rfl, _, _⟩ := ha.form
  obtain ⟨kB, hkB⟩ : ∃ kB, kB = keyL s := ⟨_, rfl⟩
  obtain ⟨vB, hvB⟩ : ∃ vB, vB = valL s := ⟨_, rfl⟩
  have HKV : Shh (kB = keyL s ∧ vB = valL s) := ⟨hkB, hvB⟩
  rw [← hkB] at hk
  rw [← hvB] at hv
  clear hkB hvB
  obtain ⟨Ak, ck, rfl, _, _⟩ := hk.form
  obtain ⟨Av, cv, rfl, _, _⟩ := hv.form
  obtain ⟨N, hN⟩ : ∃ N, w.heap.size = N := ⟨_, rfl⟩
  obtain ⟨W0, hW0⟩ : ∃ W0, W0 = w.alloc (.cells #[.slice Ak kB.length ck, .slice Av vB.length cv, .int .i64 (c : Int)] 33) := ⟨_, rfl⟩
  have b0 : Below w.heap.size w W0 := by rw [hW0]; exact below1 _ _
  have z0 : W0.heap.size = N + 1 := by rw [hW0, asz, hN]
  obtain ⟨W, hW⟩ : ∃ W, W = W0.alloc (.cells #[.slice none 0 0, .slice none 0 0, .int .i64 0] 33) := ⟨_, rfl⟩
  have b1 : Below W0.heap.size W0 W := by rw [hW]; exact below1 _ _
  have bb := Below.chain b0 b1
  have HC : Shh (Sl W W.heap.size (.slice A2 ad.length c2) ad ∧ Row W N 33 [.slice Ak kB.length ck, .slice Av vB.length cv, .int .i64 (c : Int)] ∧ Row W (N + 1) 33 [.slice none 0 0, .slice none 0 0, .int .i64 0] ∧ Sl W N (.slice Ak kB.length ck) kB ∧ Sl W N (.slice Av vB.length cv) vB ∧ Below N w W ∧ N + 2 ≤ W.heap.size) :=
    ⟨ha.go bb, by rw [hW, hW0]; exact (Row.new_ hN.symm rfl).alloc _, by rw [hW]; exact Row.new_ z0.symm rfl, by rw [← hN]; exact hk.below bb, by rw [← hN]; exact hv.below bb, by rw [← hN]; exact bb, by rw [hW, asz, z0]; omega⟩
  have HQ : Shh (SlO W N (.slice Ak kB.length ck) kB ∧ SlO W N (.slice Av vB.length cv) vB ∧ SlO W N (.slice A2 ad.length c2) ad) :=
    ⟨⟨HC.out.2.2.2.1.more (by have := HC.out.2.2.2.2.2.2; omega), HC.out.2.2.2.1.off (Nat.le_refl _), HC.out.2.2.2.1.off (by omega)⟩, ⟨HC.out.2.2.2.2.1.more (by have := HC.out.2.2.2.2.2.2; omega), HC.out.2.2.2.2.1.off (Nat.le_refl _), HC.out.2.2.2.2.1.off (by omega)⟩, ⟨HC.out.1, ha.off (by omega), ha.off (by omega)⟩⟩
  have h1 : ¬ (n : Int) < 0 := by omega
  have h2 : ¬ (65536 : Int) < (n : Int) := by omega
  have h3 : ¬ (4096 : Int) < (ad.length : Int) := by omega
  have h4 : ¬ (1024 : Int) < (c : Int) := by omega
  have zW : W.heap.size = N + 2 := by rw [hW, asz, z0]
  clear hk hv ha b0 b1 bb z0
  have cN := HC.out.2.1.cell 2
  simp only [List.getElem?_cons_succ, List.getElem?_cons_zero] at cN
  by_cases hz : ad = []
  · have hl0 : ¬ 0 < ad.length := by rw [hz]; simp
    have HK : Shh (kB = keyL s1 ∧ vB = valL s1) := by
      have e : s1 = s := by rw [HN.out.1]; unfold drS1; rw [if_pos hz]
      rw [e]; exact HKV
    have HS : Shh (Row W N 33 [.slice Ak kB.length ck, .slice Av vB.length cv, .int .i64 (c : Int)] ∧ Row W (N + 1) 33 [.slice none 0 0, .slice none 0 0, .int .i64 0] ∧ SlO W N (.slice Ak kB.length ck) kB ∧ SlO W N (.slice Av vB.length cv) vB ∧ SlO W N (.slice A2 ad.length c2) ad ∧ Below N w W ∧ N + 2 ≤ W.heap.size) := ⟨HC.out.2.1, HC.out.2.2.1, HQ.out.1, HQ.out.2.1, HQ.out.2.2, HC.out.2.2.2.2.2.1, HC.out.2.2.2.2.2.2⟩
    clear HC HQ HKV hz
    rw [hW, hW0] at cN
    go_enter Tryd.func59, Tryd.ntmps59
    obtain ⟨X1, hX1⟩ : ∃ X1, X1 = W.alloc (.cells #[] 5) := ⟨_, rfl⟩
    have bX1 : Below W.heap.size W X1 := by rw [hX1]; exact below1 _ _
    obtain ⟨vL0, hvL0⟩ : ∃ v, v = vB := ⟨_, rfl⟩
    have HI : Shh (X1.ownsRow (N + 2) 5 1 (.slice (some ⟨(N + 2), 0, none⟩) 0 0) 0 [] ∧ Row X1 N 33 [.slice Ak kB.length ck, .slice Av vB.length cv, .int .i64 (c : Int)] ∧ Row X1 (N + 1) 33 [.slice none 0 0, .slice none 0 0, .int .i64 0] ∧ Sl X1 (N + 2) (.slice Ak kB.length ck) kB ∧ SlO X1 N (.slice Av vB.length cv) vB ∧ Sl X1 (N + 2) (.slice A2 ad.length c2) ad ∧ Below N w X1 ∧ (N + 2) ≤ X1.heap.size) :=
      ⟨by rw [hX1, ← zW]; exact World.ownsRow_made W #[] 0 (Nat.le_refl _) (Nat.zero_le _) rfl, HS.out.1.go bX1, HS.out.2.1.go bX1, by rw [← zW]; exact HS.out.2.2.1.1.below bX1, HS.out.2.2.2.1.go bX1, by rw [← zW]; exact HS.out.2.2.2.2.1.1.below bX1, HS.out.2.2.2.2.2.1.trans (bX1.mono (by have := HS.out.2.2.2.2.2.2; omega)), by rw [hX1, asz, zW]; omega⟩
    have HO : Shh ((Off N (.slice Ak kB.length ck) ∧ Off (N + 1) (.slice Ak kB.length ck)) ∧ Off N (.slice A2 ad.length c2) ∧ Off (N + 1) (.slice A2 ad.length c2)) := ⟨HS.out.2.2.1.2, HS.out.2.2.2.2.1.2⟩
    have hNM : N + 2 ≤ (N + 2) := by have := HS.out.2.2.2.2.2.2; omega
    rw [hX1, hW, hW0] at HI
    clear bX1 hX1 HS hvL0 hW hW0 zW
    go_wp2
    go_loopw [9] (fun o wr => ∃ (k q : Nat) (A : Option Addr) (cc : Nat) (B : Option Addr) (cb : Nat) (vL : List UInt8), q = 32 * k ∧ o = .slice A q cc ∧ Shh ((k = 0 ∨ 32 * (k - 1) < n) ∧ vL = valL (drS s1 k) ∧ wr.ownsRow (N + 2) 5 1 o q (Lib.byteCells (drO s1 k)) ∧ Row wr N 33 [.slice Ak kB.length ck, .slice B vL.length cb, .int .i64 (c : Int)] ∧ Row wr (N + 1) 33 [.slice none 0 0, .slice none 0 0, .int .i64 0] ∧ Sl wr (N + 2) (.slice Ak kB.length ck) kB ∧ SlO wr N (.slice B vL.length cb) vL ∧ Sl wr (N + 2) (.slice A2 ad.length c2) ad ∧ Below N w wr ∧ (N + 2) ≤ wr.heap.size)) (fun o _ => n - slLen o)
    case atStart =>
      exact ⟨0, 0, _, _, _, _, vB, rfl, rfl, ⟨.inl rfl, HK.out.2, HI.out⟩⟩
    case round =>
      clear HI
      obtain ⟨k, q, A, cc, B, cb, vL, hq, rfl, H⟩ := hrel
      by_cases hlt : q < n
      · have hlti : (q : Int) < (n : Int) := by omega
        have d0 := H.out.2.2.2.1.cell 0
        have d1 := H.out.2.2.2.1.cell 1
        have df := H.out.2.2.2.1.free 1
        simp only [List.getElem?_cons_zero] at d0
        simp only [List.getElem?_cons_succ, List.getElem?_cons_zero] at d1
        have HL : Shh (kB.length = 32 ∧ vL.length = 32) := ⟨by rw [HK.out.1]; exact keyL_length _ HN.out.2.2.1, by rw [H.out.2.1]; exact valL_length _ (drS_length s1 HN.out.2.2.1 k)⟩
        have HQK : Shh (q = 32 * k) := ⟨hq⟩
        clear hq
        have HZ : Shh (N + 2 ≤ (N + 2) ∧ (N + 2) ≤ wr.heap.size) := ⟨hNM, H.out.2.2.2.2.2.2.2.2.2⟩
        go_wp2_with (go_at_call 93; refine (refMac_any _ _ _ kB vL wr (H.out.2.2.2.2.2.1.more HZ.out.2) H.out.2.2.2.2.2.2.1.1 (Nat.le_refl _) (by have := HL.out; omega) (by have := HL.out; omega)).mono ?_)
        rintro e Y ⟨vn, rfl, gn⟩
        obtain ⟨nL, hnL⟩ : ∃ l, l = valL (drS s1 (k + 1)) := ⟨_, rfl⟩
        have sn : Sl Y Y.heap.size vn nL := by have := gives_sl gn; rw [hnL, drS_val s1 HN.out.2.2.1 k, ← HK.out.1, ← H.out.2.1]; exact this
        have HNL : Shh (nL = valL (drS s1 (k + 1)) ∧ nL.length = 32 ∧ (drO s1 k).length = q) := ⟨hnL, by rw [hnL]; exact valL_length _ (drS_length s1 HN.out.2.2.1 _), by rw [drO_length s1 HN.out.2.2.1]; exact HQK.out.symm⟩
        have ofn : Off N vn ∧ Off (N + 1) vn := ⟨gives_off gn N (by have := HZ.out; omega), gives_off gn (N + 1) (by have := HZ.out; omega)⟩
        have HOB : Shh (∀ g, (Value.slice A q cc).ownBlock = some g → Off g vn) := ⟨fun g hg => gives_off gn g (H.out.2.2.1.lt g hg).2⟩
        clear hnL
        obtain ⟨An, cn, rfl, _, _⟩ := sn.form
        have bS := But.setc Y N 1 (.slice An nL.length cn)
        have hYM : (N + 2) ≤ Y.heap.size := by have := HZ.out; have := gn.2.size; omega
        have G : Shh ((Y.setCell ⟨N, 1, none⟩ (.slice An nL.length cn)).ownsRow (N + 2) 5 1 (.slice A q cc) q (Lib.byteCells (drO s1 k)) ∧ Row (Y.setCell ⟨N, 1, none⟩ (.slice An nL.length cn)) N 33 [.slice Ak kB.length ck, .slice An nL.length cn, .int .i64 (c : Int)] ∧ Row (Y.setCell ⟨N, 1, none⟩ (.slice An nL.length cn)) (N + 1) 33 [.slice none 0 0, .slice none 0 0, .int .i64 0] ∧ Sl (Y.setCell ⟨N, 1, none⟩ (.slice An nL.length cn)) (N + 2) (.slice Ak kB.length ck) kB ∧ SlO (Y.setCell ⟨N, 1, none⟩ (.slice An nL.length cn)) N (.slice An nL.length cn) nL ∧ Sl (Y.setCell ⟨N, 1, none⟩ (.slice An nL.length cn)) (N + 2) (.slice A2 ad.length c2) ad ∧ Below N w (Y.setCell ⟨N, 1, none⟩ (.slice An nL.length cn)) ∧ (N + 2) ≤ (Y.setCell ⟨N, 1, none⟩ (.slice An nL.length cn)).heap.size) :=
          ⟨own_but (own_step H.out.2.2.1 gn.2) bS (by omega), (H.out.2.2.2.1.go gn.2).set_ 1 _, (H.out.2.2.2.2.1.go gn.2).other _ _ (by show N + 1 ≠ N; omega), (H.out.2.2.2.2.2.1.below (gn.2.mono HZ.out.2)).but HO.out.1.1 (bS.mono hYM), SlO.set ⟨sn, ofn⟩ 1 _, (H.out.2.2.2.2.2.2.2.1.below (gn.2.mono HZ.out.2)).but HO.out.2.1 (bS.mono hYM), (H.out.2.2.2.2.2.2.2.2.1.trans (gn.2.mono (by have := HZ.out; omega))).setCell (Nat.le_refl _) _, Nat.le_trans hYM bS.size⟩
        have d1y := (H.out.2.2.2.1.go gn.2).cell 1
        have dfy := (H.out.2.2.2.1.go gn.2).free 1
        simp only [List.getElem?_cons_succ, List.getElem?_cons_zero] at d1y
        clear sn gn ofn d0 d1 df H HZ bS hYM
        go_wp2_with (refine wl_store1 rfl rfl (Y.setCell ⟨N, 1, none⟩ (.slice An nL.length cn)) (by go_simp) ?_)
        intro Z hZ
        rw [← hZ] at G
        clear hZ d1y dfy
        have e1 := G.out.2.1.cell 1
        simp only [List.getElem?_cons_succ, List.getElem?_cons_zero] at e1
        obtain ⟨i0, hi0, hz0, hz1, hz2⟩ := info_parts info_u8
        go_wp2_with (at_builtin; refine wp_appendSl _ 22 5 i0 Tryd.underlying22 hi0 hz0 hz1 hz2 rfl _ _ rfl (own_len G.out.1 HNL.out.2.2.symm) G.out.2.2.2.2.1.1 rfl rfl (by have := HNL.out.2; omega) G.out.2.2.2.2.2.2.2 ?_)
        intro v' Y3 hown5 hg5 hb5
        have eO : drO s1 k ++ nL = drO s1 (k + 1) := by rw [HNL.out.1]; rfl
        rw [eO] at hown5
        have hown6 := own_len hown5 (show _ = 32 * (k + 1) by have := HNL.out.2; have := HQK.out; have := drO_length s1 HN.out.2.2.1 (k + 1); first | omega | (rw [drO_length s1 HN.out.2.2.1]; omega))
        obtain ⟨A5, c5, rfl⟩ := own_form hown6
        have b2 := hb5 (N + 2) (Nat.le_refl _)
        have H3 : Shh ((k + 1 = 0 ∨ 32 * (k + 1 - 1) < n) ∧ nL = valL (drS s1 (k + 1)) ∧ Y3.ownsRow (N + 2) 5 1 (.slice A5 (32 * (k + 1)) c5) (32 * (k + 1)) (Lib.byteCells (drO s1 (k + 1))) ∧ Row Y3 N 33 [.slice Ak kB.length ck, .slice An nL.length cn, .int .i64 (c : Int)] ∧ Row Y3 (N + 1) 33 [.slice none 0 0, .slice none 0 0, .int .i64 0] ∧ Sl Y3 (N + 2) (.slice Ak kB.length ck) kB ∧ SlO Y3 N (.slice An nL.length cn) nL ∧ Sl Y3 (N + 2) (.slice A2 ad.length c2) ad ∧ Below N w Y3 ∧ (N + 2) ≤ Y3.heap.size) :=
          ⟨.inr (by have := HQK.out; omega), HNL.out.1, hown6, G.out.2.1.below b2 (by omega), G.out.2.2.1.below b2 (by omega), G.out.2.2.2.1.below b2, ⟨(Sl.grown G.out.2.2.2.2.1.1 HOB.out hg5 (Nat.le_refl _)).more hg5.size, G.out.2.2.2.2.1.2⟩, G.out.2.2.2.2.2.1.below b2, G.out.2.2.2.2.2.2.1.trans (b2.mono (by omega)), Nat.le_trans G.out.2.2.2.2.2.2.2 b2.size⟩
        clear hown5 hown6 hg5 hb5 b2 G e1 HOB
        go_wp2
        go_roundw
        case rel => exact ⟨k + 1, _, _, _, _, _, nL, rfl, rfl, H3⟩
        case measure => simp [slLen]; have := HQK.out; omega
      · have HKn : Shh (k = blocksN n) := ⟨by have := H.out.1; unfold blocksN; omega⟩
        have HB : Shh (keyL (drawS s1 n) = kB ∧ valL (drawS s1 n) = vL ∧ (drO s1 k).take n = drawB s1 n ∧ (drawS s1 n).length = 64 ∧ (drO s1 k).length = q ∧ n ≤ q) :=
          ⟨by unfold drawS; rw [drS_key s1 HN.out.2.2.1, HK.out.1], by unfold drawS; rw [← HKn.out, H.out.2.1], by unfold drawB; rw [← HKn.out], drawS_length s1 HN.out.2.2.1 n, by rw [drO_length s1 HN.out.2.2.1]; exact hq.symm, by omega⟩
        have hgei : (n : Int) ≤ (q : Int) := by omega
        clear hq hlt
        go_wp2_with (first | refine wpList_load_any rfl 33 (.tmp 3) rfl N rfl 33 [.slice Ak kB.length ck, .slice B vL.length cb, .int .i64 (c : Int)] _ H.out.2.2.2.1 Tryd.underlying33 rfl info_rd ?_ | (go_at_call 52; refine (refUpdated_any wr.heap.size _ _ (.slice A2 ad.length c2) (c : Int) (drawS s1 n) ad wr (by rw [HB.out.1]; exact H.out.2.2.2.2.2.1.more H.out.2.2.2.2.2.2.2.2.2) (by rw [HB.out.2.1]; exact H.out.2.2.2.2.2.2.1.1) (H.out.2.2.2.2.2.2.2.1.more H.out.2.2.2.2.2.2.2.2.2) (Nat.le_refl _) HB.out.2.2.2.1 (by have := HN.out.2.2.2; omega)).mono ?_))
        rintro e Y ⟨vk2, vv2, rfl, sk, sv, bY, oo⟩
        rw [← HN.out.2.1] at sk sv
        obtain ⟨kB2, hkB2⟩ : ∃ kB, kB = keyL s2 := ⟨_, rfl⟩
        obtain ⟨vB2, hvB2⟩ : ∃ vB, vB = valL s2 := ⟨_, rfl⟩
        rw [← hkB2] at sk
        rw [← hvB2] at sv
        have HS2 : Shh (kB2 = keyL s2 ∧ vB2 = valL s2) := ⟨hkB2, hvB2⟩
        clear hkB2 hvB2
        have hMw := H.out.2.2.2.2.2.2.2.2.2
        have HO2 : Shh ((Off N vk2 ∧ Off N vv2) ∧ Off (N + 1) vk2 ∧ Off (N + 1) vv2) := ⟨oo N (by omega), oo (N + 1) (by omega)⟩
        have HW2 : Shh (∀ g, g < w.heap.size → Off g vk2 ∧ Off g vv2) := ⟨fun g hg => oo g (by omega)⟩
        clear oo
        obtain ⟨Ak2, ck2, rfl, _, _⟩ := sk.form
        obtain ⟨Av2, cv2, rfl, _, _⟩ := sv.form
        have H1 : Shh (Y.ownsRow (N + 2) 5 1 (.slice A q cc) q (Lib.byteCells (drO s1 k)) ∧ Row Y N 33 [.slice Ak kB.length ck, .slice B vL.length cb, .int .i64 (c : Int)] ∧ Row Y (N + 1) 33 [.slice none 0 0, .slice none 0 0, .int .i64 0] ∧ Sl Y Y.heap.size (.slice Ak2 kB2.length ck2) kB2 ∧ Sl Y Y.heap.size (.slice Av2 vB2.length cv2) vB2 ∧ Below N w Y ∧ (N + 2) ≤ Y.heap.size) :=
          ⟨own_step H.out.2.2.1 bY, H.out.2.2.2.1.go bY, H.out.2.2.2.2.1.go bY, sk, sv, H.out.2.2.2.2.2.2.2.2.1.trans (bY.mono (by omega)), Nat.le_trans hMw bY.size⟩
        clear sk sv bY H hMw
        go_wp2_with (refine wpList_store_any rfl 33 (.tmp 3) (.tmp 48) rfl N rfl [.slice Ak2 kB2.length ck2, .slice Av2 vB2.length cv2, .int .i64 (c : Int)] rfl 33 [.slice Ak kB.length ck, .slice B vL.length cb, .int .i64 (c : Int)] H1.out.2.1 info_rd rfl cell_slices ?_)
        intro Y2 hr bt _
        have f2 := hr.cell 2
        have g2 := hr.free 2
        simp only [List.getElem?_cons_succ, List.getElem?_cons_zero] at f2
        go_wp2_with (refine wl_store1 rfl rfl (Y2.setCell ⟨N, 2, none⟩ (.int .i64 ((c : Int) + 1))) (by go_simp) ?_)
        intro Z hZ
        have bt2 : But Y.heap.size N Y Z := by rw [hZ]; exact bt.setCell 2 _
        have hr2 : Row Z N 33 [.slice Ak2 kB2.length ck2, .slice Av2 vB2.length cv2, .int .i64 ((c : Int) + 1)] := by rw [hZ]; exact hr.set_ 2 _
        have hMY := H1.out.2.2.2.2.2.2
        have HV0 : Shh (Z.drew.ownsRow (N + 2) 5 1 (.slice A q cc) q (Lib.byteCells (drO s1 k)) ∧ Row Z.drew N 33 [.slice Ak2 kB2.length ck2, .slice Av2 vB2.length cv2, .int .i64 ((c : Int) + 1)] ∧ Row Z.drew (N + 1) 33 [.slice none 0 0, .slice none 0 0, .int .i64 0] ∧ Sl Z.drew Z.drew.heap.size (.slice Ak2 kB2.length ck2) kB2 ∧ Sl Z.drew Z.drew.heap.size (.slice Av2 vB2.length cv2) vB2 ∧ Below N w Z.drew ∧ (N + 2) ≤ Z.drew.heap.size) :=
          ⟨World.ownsRow.drew (own_but H1.out.1 bt2 (by omega)), hr2.drew, (bt2.row H1.out.2.2.1 (by omega) (by omega)).drew, (H1.out.2.2.2.1.but HO2.out.1.1 bt2).more bt2.size, (H1.out.2.2.2.2.1.but HO2.out.1.2 bt2).more bt2.size, (H1.out.2.2.2.2.2.1.trans (bt2.under (by omega) (Nat.le_refl _))).drew, Nat.le_trans hMY bt2.size⟩
        have hqc : q ≤ cc := by
          rcases HV0.out.1.2 with ⟨h, h0⟩ | ⟨g, cap, cur, h, _, _, hc', _⟩
          · omega
          · cases h; exact hc'
        have hqci : (q : Int) ≤ (cc : Int) := by omega
        have hnci : (n : Int) ≤ (cc : Int) := by omega
        clear hr bt bt2 hr2 hZ f2 g2 H1 hMY
        go_wp2
        refine wp_region_held_drew (S := fun _ => True) (by kernel_rfl) trivial (fun hS => ?_)
        have HV := HV0
        generalize World.drew _ = V at HV ⊢
        clear HV0
        have rB := HV.out.2.1
        have rZ := HV.out.2.2.1
        refine held_value 0 _ _ (some 53) (.slice A q cc) (by kernel_rfl) (by rfl) (by kernel_rfl) (fun w hS => by first | kernel_rfl | go_simp) (fun _ _ _ _ h => h) (trivial) ?_
        simp only [Act.put, List.setIfInBounds_toArray, List.set_cons_zero, List.set_cons_succ]
        refine held_value 1 _ _ (some 54) (.int .i64 (n : Int)) (by kernel_rfl) (by rfl) (by kernel_rfl) (fun w hS => by first | kernel_rfl | go_simp) (fun _ _ _ _ h => h) (trivial) ?_
        simp only [Act.put, List.setIfInBounds_toArray, List.set_cons_zero, List.set_cons_succ]
        refine held_two 2 3 (by kernel_rfl) ?_ ?_
        · refine step_value 2 _ _ (some 55) (.slice A n cc) V (by rfl) (by kernel_rfl) (by go_simp) (trivial) ?_
          simp only [Act.put, List.setIfInBounds_toArray, List.set_cons_zero, List.set_cons_succ]
          refine held_value 4 _ _ (some 6) (.slice A n cc) (by kernel_rfl) (by rfl) (by kernel_rfl) (fun w hS => by first | kernel_rfl | go_simp) (fun _ _ _ _ h => h) (trivial) ?_
          simp only [Act.put, List.setIfInBounds_toArray, List.set_cons_zero, List.set_cons_succ]
          refine held_one 3 (by kernel_rfl) ?_
          refine step_value 3 _ _ (some 56) (.agg #[.slice Ak2 kB2.length ck2, .slice Av2 vB2.length cv2, .int .i64 ((c : Int) + 1)]) V (by rfl) (by kernel_rfl) (run_loadRow rfl rB Tryd.underlying33 rfl info_rd) (trivial) ?_
          simp only [Act.put, List.setIfInBounds_toArray, List.set_cons_zero, List.set_cons_succ]
          refine held_one 5 (by kernel_rfl) ?_
          refine step_storeRow 5 33 (.tmp 7) (.tmp 56) (by rfl) (by kernel_rfl) (_) rfl ([.slice Ak2 kB2.length ck2, .slice Av2 vB2.length cv2, .int .i64 ((c : Int) + 1)]) rfl 33 ([.slice none 0 0, .slice none 0 0, .int .i64 0]) rZ (info_rd) (rfl) cell_slices ?_
          intro Y3 rS bt zt
          refine ⟨trivial, ?_⟩
          refine held_value 6 _ _ (some 8) (.int .i64 0) (by kernel_rfl) (by rfl) (by kernel_rfl) (fun w hS => by first | kernel_rfl | go_simp) (fun _ _ _ _ h => h) (trivial) ?_
          simp only [Act.put, List.setIfInBounds_toArray, List.set_cons_zero, List.set_cons_succ]
          refine wpAnyH_done (by kernel_rfl) ?_ _
          have hMV := HV.out.2.2.2.2.2.2
          have FV : Shh (∀ g, g < w.heap.size → Off g (.slice A n cc)) := ⟨fun g hg => (off_own HV.out.1 (by omega)).less HB.out.2.2.2.2.2⟩
          have F : Shh (Row Y3 (N + 1) 33 [.slice Ak2 kB2.length ck2, .slice Av2 vB2.length cv2, .int .i64 ((c : Int) + 1)] ∧ Sl Y3 Y3.heap.size (.slice Ak2 kB2.length ck2) (keyL s2) ∧ Sl Y3 Y3.heap.size (.slice Av2 vB2.length cv2) (valL s2) ∧ Below w.heap.size w Y3 ∧ Sl Y3 Y3.heap.size (.slice A n cc) (drawB s1 n)) := ⟨rS, by rw [← HS2.out.1]; exact (HV.out.2.2.2.1.but HO2.out.2.1 bt).more bt.size, by rw [← HS2.out.2]; exact (HV.out.2.2.2.2.1.but HO2.out.2.2 bt).more bt.size, by rw [hN]; exact HV.out.2.2.2.2.2.1.trans (bt.under (by omega) (by omega)), by rw [← HB.out.2.2.1]; exact (Sl.begins (n := q) (Sl.of_own (own_but HV.out.1 bt (by omega))) n (by rw [HB.out.2.2.2.2.1]; exact HB.out.2.2.2.2.2))⟩
          clear hMV
          clear zt bt rS rB rZ hS HV
          go_wp2
          exact ret_three Tryd.results59 rfl rfl rfl rfl F.out.1 Tryd.underlying33 rfl info_rd ⟨_, _, rfl, F.out.2.2.2.2, ⟨_, _, rfl, F.out.2.1, F.out.2.2.1⟩, F.out.2.2.2.1, fun g hg => ⟨FV.out g hg, fun _ => ⟨_, _, _, rfl, HW2.out g hg⟩⟩⟩
        · refine step_value 3 _ _ (some 56) (.agg #[.slice Ak2 kB2.length ck2, .slice Av2 vB2.length cv2, .int .i64 ((c : Int) + 1)]) V (by rfl) (by kernel_rfl) (run_loadRow rfl rB Tryd.underlying33 rfl info_rd) (trivial) ?_
          simp only [Act.put, List.setIfInBounds_toArray, List.set_cons_zero, List.set_cons_succ]
          refine held_one 2 (by kernel_rfl) ?_
          refine step_value 2 _ _ (some 55) (.slice A n cc) V (by rfl) (by kernel_rfl) (by go_simp) (trivial) ?_
          simp only [Act.put, List.setIfInBounds_toArray, List.set_cons_zero, List.set_cons_succ]
          refine held_value 4 _ _ (some 6) (.slice A n cc) (by kernel_rfl) (by rfl) (by kernel_rfl) (fun w hS => by first | kernel_rfl | go_simp) (fun _ _ _ _ h => h) (trivial) ?_
          simp only [Act.put, List.setIfInBounds_toArray, List.set_cons_zero, List.set_cons_succ]
          refine held_one 5 (by kernel_rfl) ?_
          refine step_storeRow 5 33 (.tmp 7) (.tmp 56) (by rfl) (by kernel_rfl) (_) rfl ([.slice Ak2 kB2.length ck2, .slice Av2 vB2.length cv2, .int .i64 ((c : Int) + 1)]) rfl 33 ([.slice none 0 0, .slice none 0 0, .int .i64 0]) rZ (info_rd) (rfl) cell_slices ?_
          intro Y3 rS bt zt
          refine ⟨trivial, ?_⟩
          refine held_value 6 _ _ (some 8) (.int .i64 0) (by kernel_rfl) (by rfl) (by kernel_rfl) (fun w hS => by first | kernel_rfl | go_simp) (fun _ _ _ _ h => h) (trivial) ?_
          simp only [Act.put, List.setIfInBounds_toArray, List.set_cons_zero, List.set_cons_succ]
          refine wpAnyH_done (by kernel_rfl) ?_ _
          have hMV := HV.out.2.2.2.2.2.2
          have FV : Shh (∀ g, g < w.heap.size → Off g (.slice A n cc)) := ⟨fun g hg => (off_own HV.out.1 (by omega)).less HB.out.2.2.2.2.2⟩
          have F : Shh (Row Y3 (N + 1) 33 [.slice Ak2 kB2.length ck2, .slice Av2 vB2.length cv2, .int .i64 ((c : Int) + 1)] ∧ Sl Y3 Y3.heap.size (.slice Ak2 kB2.length ck2) (keyL s2) ∧ Sl Y3 Y3.heap.size (.slice Av2 vB2.length cv2) (valL s2) ∧ Below w.heap.size w Y3 ∧ Sl Y3 Y3.heap.size (.slice A n cc) (drawB s1 n)) := ⟨rS, by rw [← HS2.out.1]; exact (HV.out.2.2.2.1.but HO2.out.2.1 bt).more bt.size, by rw [← HS2.out.2]; exact (HV.out.2.2.2.2.1.but HO2.out.2.2 bt).more bt.size, by rw [hN]; exact HV.out.2.2.2.2.2.1.trans (bt.under (by omega) (by omega)), by rw [← HB.out.2.2.1]; exact (Sl.begins (n := q) (Sl.of_own (own_but HV.out.1 bt (by omega))) n (by rw [HB.out.2.2.2.2.1]; exact HB.out.2.2.2.2.2))⟩
          clear hMV
          clear zt bt rS rB rZ hS HV
          go_wp2
          exact ret_three Tryd.results59 rfl rfl rfl rfl F.out.1 Tryd.underlying33 rfl info_rd ⟨_, _, rfl, F.out.2.2.2.2, ⟨_, _, rfl, F.out.2.1, F.out.2.2.1⟩, F.out.2.2.2.1, fun g hg => ⟨FV.out g hg, fun _ => ⟨_, _, _, rfl, HW2.out g hg⟩⟩⟩
  · have hl0 : 0 < ad.length := List.length_pos_iff.2 hz
    have HE1 : Shh (s1 = updL ad s) := ⟨by rw [HN.out.1]; unfold drS1; rw [if_neg hz]⟩
    have HX : Shh (Row W N 33 [.slice Ak kB.length ck, .slice Av vB.length cv, .int .i64 (c : Int)] ∧ Row W (N + 1) 33 [.slice none 0 0, .slice none 0 0, .int .i64 0] ∧ SlO W N (.slice Ak kB.length ck) (keyL s) ∧ SlO W N (.slice Av vB.length cv) (valL s) ∧ SlO W N (.slice A2 ad.length c2) ad ∧ Below N w W ∧ N + 2 ≤ W.heap.size) := ⟨HC.out.2.1, HC.out.2.2.1, by rw [← HKV.out.1]; exact HQ.out.1, by rw [← HKV.out.2]; exact HQ.out.2.1, HQ.out.2.2, HC.out.2.2.2.2.2.1, HC.out.2.2.2.2.2.2⟩
    have hlad := hal
    clear HC HQ HKV hz
    rw [hW, hW0] at cN HX
    go_enter Tryd.func59, Tryd.ntmps59
    go_wp2_with (first | refine wpList_load_any rfl 33 (.tmp 3) rfl N rfl 33 [.slice Ak kB.length ck, .slice Av vB.length cv, .int .i64 (c : Int)] _ HX.out.1 Tryd.underlying33 rfl info_rd ?_ | (go_at_call 52; refine (refUpdated_any _ _ _ (.slice A2 ad.length c2) (c : Int) s ad _ HX.out.2.2.1.1 HX.out.2.2.2.1.1 HX.out.2.2.2.2.1.1 (Nat.le_refl _) hs (by omega)).mono ?_))
    rw [← hW0, ← hW] at HX ⊢
    clear hW hW0 cN
    rintro e Y0 ⟨vk2, vv2, rfl, sk, sv, bY, oo⟩
    rw [← HE1.out] at sk sv
    obtain ⟨kB1, hkB1⟩ : ∃ kB, kB = keyL s1 := ⟨_, rfl⟩
    obtain ⟨vB1, hvB1⟩ : ∃ vB, vB = valL s1 := ⟨_, rfl⟩
    rw [← hkB1] at sk
    rw [← hvB1] at sv
    have HK : Shh (kB1 = keyL s1 ∧ vB1 = valL s1) := ⟨hkB1, hvB1⟩
    clear hkB1 hvB1
    have hNW := HX.out.2.2.2.2.2.2
    have HO1 : Shh ((Off N vk2 ∧ Off N vv2) ∧ Off (N + 1) vk2 ∧ Off (N + 1) vv2) := ⟨oo N (by omega), oo (N + 1) (by omega)⟩
    clear oo
    obtain ⟨Ak1, ck1, rfl, _, _⟩ := sk.form
    obtain ⟨Av1, cv1, rfl, _, _⟩ := sv.form
    have HY : Shh (Row Y0 N 33 [.slice Ak kB.length ck, .slice Av vB.length cv, .int .i64 (c : Int)] ∧ Row Y0 (N + 1) 33 [.slice none 0 0, .slice none 0 0, .int .i64 0] ∧ SlO Y0 N (.slice Ak1 kB1.length ck1) kB1 ∧ SlO Y0 N (.slice Av1 vB1.length cv1) vB1 ∧ SlO Y0 N (.slice A2 ad.length c2) ad ∧ Below N w Y0 ∧ N + 2 ≤ Y0.heap.size) :=
      ⟨HX.out.1.go bY, HX.out.2.1.go bY, ⟨sk, HO1.out.1.1, HO1.out.2.1⟩, ⟨sv, HO1.out.1.2, HO1.out.2.2⟩, HX.out.2.2.2.2.1.go bY, HX.out.2.2.2.2.2.1.trans (bY.mono (by omega)), Nat.le_trans hNW bY.size⟩
    clear sk sv bY HX hNW HO1
    go_wp2_with (refine wpList_store_any rfl 33 (.tmp 3) (.tmp 30) rfl N rfl [.slice Ak1 kB1.length ck1, .slice Av1 vB1.length cv1, .int .i64 (c : Int)] rfl 33 [.slice Ak kB.length ck, .slice Av vB.length cv, .int .i64 (c : Int)] HY.out.1 info_rd rfl cell_slices ?_)
    intro W2 hr bt zt
    clear zt
    have hNY := HY.out.2.2.2.2.2.2
    have HS : Shh (Row W2 N 33 [.slice Ak1 kB1.length ck1, .slice Av1 vB1.length cv1, .int .i64 (c : Int)] ∧ Row W2 (N + 1) 33 [.slice none 0 0, .slice none 0 0, .int .i64 0] ∧ SlO W2 N (.slice Ak1 kB1.length ck1) kB1 ∧ SlO W2 N (.slice Av1 vB1.length cv1) vB1 ∧ SlO W2 N (.slice A2 ad.length c2) ad ∧ Below N w W2 ∧ N + 2 ≤ W2.heap.size) :=
      ⟨hr, bt.row HY.out.2.1 (by omega) (by omega), ⟨(HY.out.2.2.1.1.but HY.out.2.2.1.2.1 bt).more bt.size, HY.out.2.2.1.2⟩, ⟨(HY.out.2.2.2.1.1.but HY.out.2.2.2.1.2.1 bt).more bt.size, HY.out.2.2.2.1.2⟩, ⟨(HY.out.2.2.2.2.1.1.but HY.out.2.2.2.2.1.2.1 bt).more bt.size, HY.out.2.2.2.2.1.2⟩, HY.out.2.2.2.2.2.1.trans (bt.under (by omega) (Nat.le_refl _)), Nat.le_trans hNY bt.size⟩
    clear hr bt HY hNY
    obtain ⟨M, hM⟩ : ∃ M, W2.heap.size = M := ⟨_, rfl⟩
    obtain ⟨X1, hX1⟩ : ∃ X1, X1 = W2.alloc (.cells #[] 5) := ⟨_, rfl⟩
    have bX1 : Below W2.heap.size W2 X1 := by rw [hX1]; exact below1 _ _
    obtain ⟨vL0, hvL0⟩ : ∃ v, v = vB1 := ⟨_, rfl⟩
    have HI : Shh (X1.ownsRow M 5 1 (.slice (some ⟨M, 0, none⟩) 0 0) 0 [] ∧ Row X1 N 33 [.slice Ak1 kB1.length ck1, .slice Av1 vB1.length cv1, .int .i64 (c : Int)] ∧ Row X1 (N + 1) 33 [.slice none 0 0, .slice none 0 0, .int .i64 0] ∧ Sl X1 M (.slice Ak1 kB1.length ck1) kB1 ∧ SlO X1 N (.slice Av1 vB1.length cv1) vB1 ∧ Sl X1 M (.slice A2 ad.length c2) ad ∧ Below N w X1 ∧ M ≤ X1.heap.size) :=
      ⟨by rw [hX1, ← hM]; exact World.ownsRow_made W2 #[] 0 (Nat.le_refl _) (Nat.zero_le _) rfl, HS.out.1.go bX1, HS.out.2.1.go bX1, by rw [← hM]; exact HS.out.2.2.1.1.below bX1, HS.out.2.2.2.1.go bX1, by rw [← hM]; exact HS.out.2.2.2.2.1.1.below bX1, HS.out.2.2.2.2.2.1.trans (bX1.mono (by have := HS.out.2.2.2.2.2.2; omega)), by rw [hX1, asz, hM]; omega⟩
    have HO : Shh ((Off N (.slice Ak1 kB1.length ck1) ∧ Off (N + 1) (.slice Ak1 kB1.length ck1)) ∧ Off N (.slice A2 ad.length c2) ∧ Off (N + 1) (.slice A2 ad.length c2)) := ⟨HS.out.2.2.1.2, HS.out.2.2.2.2.1.2⟩
    have hNM : N + 2 ≤ M := by have := HS.out.2.2.2.2.2.2; omega
    rw [hX1] at HI
    clear bX1 hX1 HS hvL0
    go_wp2
    go_loopw [9] (fun o wr => ∃ (k q : Nat) (A : Option Addr) (cc : Nat) (B : Option Addr) (cb : Nat) (vL : List UInt8), q = 32 * k ∧ o = .slice A q cc ∧ Shh ((k = 0 ∨ 32 * (k - 1) < n) ∧ vL = valL (drS s1 k) ∧ wr.ownsRow M 5 1 o q (Lib.byteCells (drO s1 k)) ∧ Row wr N 33 [.slice Ak1 kB1.length ck1, .slice B vL.length cb, .int .i64 (c : Int)] ∧ Row wr (N + 1) 33 [.slice none 0 0, .slice none 0 0, .int .i64 0] ∧ Sl wr M (.slice Ak1 kB1.length ck1) kB1 ∧ SlO wr N (.slice B vL.length cb) vL ∧ Sl wr M (.slice A2 ad.length c2) ad ∧ Below N w wr ∧ M ≤ wr.heap.size)) (fun o _ => n - slLen o)
    case atStart =>
      exact ⟨0, 0, _, _, _, _, vB1, rfl, rfl, ⟨.inl rfl, HK.out.2, HI.out⟩⟩
    case round =>
      clear HI
      obtain ⟨k, q, A, cc, B, cb, vL, hq, rfl, H⟩ := hrel
      by_cases hlt : q < n
      · have hlti : (q : Int) < (n : Int) := by omega
        have d0 := H.out.2.2.2.1.cell 0
        have d1 := H.out.2.2.2.1.cell 1
        have df := H.out.2.2.2.1.free 1
        simp only [List.getElem?_cons_zero] at d0
        simp only [List.getElem?_cons_succ, List.getElem?_cons_zero] at d1
        have HL : Shh (kB1.length = 32 ∧ vL.length = 32) := ⟨by rw [HK.out.1]; exact keyL_length _ HN.out.2.2.1, by rw [H.out.2.1]; exact valL_length _ (drS_length s1 HN.out.2.2.1 k)⟩
        have HQK : Shh (q = 32 * k) := ⟨hq⟩
        clear hq
        have HZ : Shh (N + 2 ≤ M ∧ M ≤ wr.heap.size) := ⟨hNM, H.out.2.2.2.2.2.2.2.2.2⟩
        go_wp2_with (go_at_call 93; refine (refMac_any _ _ _ kB1 vL wr (H.out.2.2.2.2.2.1.more HZ.out.2) H.out.2.2.2.2.2.2.1.1 (Nat.le_refl _) (by have := HL.out; omega) (by have := HL.out; omega)).mono ?_)
        rintro e Y ⟨vn, rfl, gn⟩
        obtain ⟨nL, hnL⟩ : ∃ l, l = valL (drS s1 (k + 1)) := ⟨_, rfl⟩
        have sn : Sl Y Y.heap.size vn nL := by have := gives_sl gn; rw [hnL, drS_val s1 HN.out.2.2.1 k, ← HK.out.1, ← H.out.2.1]; exact this
        have HNL : Shh (nL = valL (drS s1 (k + 1)) ∧ nL.length = 32 ∧ (drO s1 k).length = q) := ⟨hnL, by rw [hnL]; exact valL_length _ (drS_length s1 HN.out.2.2.1 _), by rw [drO_length s1 HN.out.2.2.1]; exact HQK.out.symm⟩
        have ofn : Off N vn ∧ Off (N + 1) vn := ⟨gives_off gn N (by have := HZ.out; omega), gives_off gn (N + 1) (by have := HZ.out; omega)⟩
        have HOB : Shh (∀ g, (Value.slice A q cc).ownBlock = some g → Off g vn) := ⟨fun g hg => gives_off gn g (H.out.2.2.1.lt g hg).2⟩
        clear hnL
        obtain ⟨An, cn, rfl, _, _⟩ := sn.form
        have bS := But.setc Y N 1 (.slice An nL.length cn)
        have hYM : M ≤ Y.heap.size := by have := HZ.out; have := gn.2.size; omega
        have G : Shh ((Y.setCell ⟨N, 1, none⟩ (.slice An nL.length cn)).ownsRow M 5 1 (.slice A q cc) q (Lib.byteCells (drO s1 k)) ∧ Row (Y.setCell ⟨N, 1, none⟩ (.slice An nL.length cn)) N 33 [.slice Ak1 kB1.length ck1, .slice An nL.length cn, .int .i64 (c : Int)] ∧ Row (Y.setCell ⟨N, 1, none⟩ (.slice An nL.length cn)) (N + 1) 33 [.slice none 0 0, .slice none 0 0, .int .i64 0] ∧ Sl (Y.setCell ⟨N, 1, none⟩ (.slice An nL.length cn)) M (.slice Ak1 kB1.length ck1) kB1 ∧ SlO (Y.setCell ⟨N, 1, none⟩ (.slice An nL.length cn)) N (.slice An nL.length cn) nL ∧ Sl (Y.setCell ⟨N, 1, none⟩ (.slice An nL.length cn)) M (.slice A2 ad.length c2) ad ∧ Below N w (Y.setCell ⟨N, 1, none⟩ (.slice An nL.length cn)) ∧ M ≤ (Y.setCell ⟨N, 1, none⟩ (.slice An nL.length cn)).heap.size) :=
          ⟨own_but (own_step H.out.2.2.1 gn.2) bS (by omega), (H.out.2.2.2.1.go gn.2).set_ 1 _, (H.out.2.2.2.2.1.go gn.2).other _ _ (by show N + 1 ≠ N; omega), (H.out.2.2.2.2.2.1.below (gn.2.mono HZ.out.2)).but HO.out.1.1 (bS.mono hYM), SlO.set ⟨sn, ofn⟩ 1 _, (H.out.2.2.2.2.2.2.2.1.below (gn.2.mono HZ.out.2)).but HO.out.2.1 (bS.mono hYM), (H.out.2.2.2.2.2.2.2.2.1.trans (gn.2.mono (by have := HZ.out; omega))).setCell (Nat.le_refl _) _, Nat.le_trans hYM bS.size⟩
        have d1y := (H.out.2.2.2.1.go gn.2).cell 1
        have dfy := (H.out.2.2.2.1.go gn.2).free 1
        simp only [List.getElem?_cons_succ, List.getElem?_cons_zero] at d1y
        clear sn gn ofn d0 d1 df H HZ bS hYM
        go_wp2_with (refine wl_store1 rfl rfl (Y.setCell ⟨N, 1, none⟩ (.slice An nL.length cn)) (by go_simp) ?_)
        intro Z hZ
        rw [← hZ] at G
        clear hZ d1y dfy
        have e1 := G.out.2.1.cell 1
        simp only [List.getElem?_cons_succ, List.getElem?_cons_zero] at e1
        obtain ⟨i0, hi0, hz0, hz1, hz2⟩ := info_parts info_u8
        go_wp2_with (at_builtin; refine wp_appendSl _ 22 5 i0 Tryd.underlying22 hi0 hz0 hz1 hz2 rfl _ _ rfl (own_len G.out.1 HNL.out.2.2.symm) G.out.2.2.2.2.1.1 rfl rfl (by have := HNL.out.2; omega) G.out.2.2.2.2.2.2.2 ?_)
        intro v' Y3 hown5 hg5 hb5
        have eO : drO s1 k ++ nL = drO s1 (k + 1) := by rw [HNL.out.1]; rfl
        rw [eO] at hown5
        have hown6 := own_len hown5 (show _ = 32 * (k + 1) by have := HNL.out.2; have := HQK.out; have := drO_length s1 HN.out.2.2.1 (k + 1); first | omega | (rw [drO_length s1 HN.out.2.2.1]; omega))
        obtain ⟨A5, c5, rfl⟩ := own_form hown6
        have b2 := hb5 M (Nat.le_refl _)
        have H3 : Shh ((k + 1 = 0 ∨ 32 * (k + 1 - 1) < n) ∧ nL = valL (drS s1 (k + 1)) ∧ Y3.ownsRow M 5 1 (.slice A5 (32 * (k + 1)) c5) (32 * (k + 1)) (Lib.byteCells (drO s1 (k + 1))) ∧ Row Y3 N 33 [.slice Ak1 kB1.length ck1, .slice An nL.length cn, .int .i64 (c : Int)] ∧ Row Y3 (N + 1) 33 [.slice none 0 0, .slice none 0 0, .int .i64 0] ∧ Sl Y3 M (.slice Ak1 kB1.length ck1) kB1 ∧ SlO Y3 N (.slice An nL.length cn) nL ∧ Sl Y3 M (.slice A2 ad.length c2) ad ∧ Below N w Y3 ∧ M ≤ Y3.heap.size) :=
          ⟨.inr (by have := HQK.out; omega), HNL.out.1, hown6, G.out.2.1.below b2 (by omega), G.out.2.2.1.below b2 (by omega), G.out.2.2.2.1.below b2, ⟨(Sl.grown G.out.2.2.2.2.1.1 HOB.out hg5 (Nat.le_refl _)).more hg5.size, G.out.2.2.2.2.1.2⟩, G.out.2.2.2.2.2.1.below b2, G.out.2.2.2.2.2.2.1.trans (b2.mono (by omega)), Nat.le_trans G.out.2.2.2.2.2.2.2 b2.size⟩
        clear hown5 hown6 hg5 hb5 b2 G e1 HOB
        go_wp2
        go_roundw
        case rel => exact ⟨k + 1, _, _, _, _, _, nL, rfl, rfl, H3⟩
        case measure => simp [slLen]; have := HQK.out; omega
      · have HKn : Shh (k = blocksN n) := ⟨by have := H.out.1; unfold blocksN; omega⟩
        have HB : Shh (keyL (drawS s1 n) = kB1 ∧ valL (drawS s1 n) = vL ∧ (drO s1 k).take n = drawB s1 n ∧ (drawS s1 n).length = 64 ∧ (drO s1 k).length = q ∧ n ≤ q) :=
          ⟨by unfold drawS; rw [drS_key s1 HN.out.2.2.1, HK.out.1], by unfold drawS; rw [← HKn.out, H.out.2.1], by unfold drawB; rw [← HKn.out], drawS_length s1 HN.out.2.2.1 n, by rw [drO_length s1 HN.out.2.2.1]; exact hq.symm, by omega⟩
        have hgei : (n : Int) ≤ (q : Int) := by omega
        clear hq hlt
        go_wp2_with (first | refine wpList_load_any rfl 33 (.tmp 3) rfl N rfl 33 [.slice Ak1 kB1.length ck1, .slice B vL.length cb, .int .i64 (c : Int)] _ H.out.2.2.2.1 Tryd.underlying33 rfl info_rd ?_ | (go_at_call 52; refine (refUpdated_any wr.heap.size _ _ (.slice A2 ad.length c2) (c : Int) (drawS s1 n) ad wr (by rw [HB.out.1]; exact H.out.2.2.2.2.2.1.more H.out.2.2.2.2.2.2.2.2.2) (by rw [HB.out.2.1]; exact H.out.2.2.2.2.2.2.1.1) (H.out.2.2.2.2.2.2.2.1.more H.out.2.2.2.2.2.2.2.2.2) (Nat.le_refl _) HB.out.2.2.2.1 (by have := HN.out.2.2.2; omega)).mono ?_))
        rintro e Y ⟨vk2, vv2, rfl, sk, sv, bY, oo⟩
        rw [← HN.out.2.1] at sk sv
        obtain ⟨kB2, hkB2⟩ : ∃ kB, kB = keyL s2 := ⟨_, rfl⟩
        obtain ⟨vB2, hvB2⟩ : ∃ vB, vB = valL s2 := ⟨_, rfl⟩
        rw [← hkB2] at sk
        rw [← hvB2] at sv
        have HS2 : Shh (kB2 = keyL s2 ∧ vB2 = valL s2) := ⟨hkB2, hvB2⟩
        clear hkB2 hvB2
        have hMw := H.out.2.2.2.2.2.2.2.2.2
        have HO2 : Shh ((Off N vk2 ∧ Off N vv2) ∧ Off (N + 1) vk2 ∧ Off (N + 1) vv2) := ⟨oo N (by omega), oo (N + 1) (by omega)⟩
        have HW2 : Shh (∀ g, g < w.heap.size → Off g vk2 ∧ Off g vv2) := ⟨fun g hg => oo g (by omega)⟩
        clear oo
        obtain ⟨Ak2, ck2, rfl, _, _⟩ := sk.form
        obtain ⟨Av2, cv2, rfl, _, _⟩ := sv.form
        have H1 : Shh (Y.ownsRow M 5 1 (.slice A q cc) q (Lib.byteCells (drO s1 k)) ∧ Row Y N 33 [.slice Ak1 kB1.length ck1, .slice B vL.length cb, .int .i64 (c : Int)] ∧ Row Y (N + 1) 33 [.slice none 0 0, .slice none 0 0, .int .i64 0] ∧ Sl Y Y.heap.size (.slice Ak2 kB2.length ck2) kB2 ∧ Sl Y Y.heap.size (.slice Av2 vB2.length cv2) vB2 ∧ Below N w Y ∧ M ≤ Y.heap.size) :=
          ⟨own_step H.out.2.2.1 bY, H.out.2.2.2.1.go bY, H.out.2.2.2.2.1.go bY, sk, sv, H.out.2.2.2.2.2.2.2.2.1.trans (bY.mono (by omega)), Nat.le_trans hMw bY.size⟩
        clear sk sv bY H hMw
        go_wp2_with (refine wpList_store_any rfl 33 (.tmp 3) (.tmp 48) rfl N rfl [.slice Ak2 kB2.length ck2, .slice Av2 vB2.length cv2, .int .i64 (c : Int)] rfl 33 [.slice Ak1 kB1.length ck1, .slice B vL.length cb, .int .i64 (c : Int)] H1.out.2.1 info_rd rfl cell_slices ?_)
        intro Y2 hr bt _
        have f2 := hr.cell 2
        have g2 := hr.free 2
        simp only [List.getElem?_cons_succ, List.getElem?_cons_zero] at f2
        go_wp2_with (refine wl_store1 rfl rfl (Y2.setCell ⟨N, 2, none⟩ (.int .i64 ((c : Int) + 1))) (by go_simp) ?_)
        intro Z hZ
        have bt2 : But Y.heap.size N Y Z := by rw [hZ]; exact bt.setCell 2 _
        have hr2 : Row Z N 33 [.slice Ak2 kB2.length ck2, .slice Av2 vB2.length cv2, .int .i64 ((c : Int) + 1)] := by rw [hZ]; exact hr.set_ 2 _
        have hMY := H1.out.2.2.2.2.2.2
        have HV0 : Shh (Z.drew.ownsRow M 5 1 (.slice A q cc) q (Lib.byteCells (drO s1 k)) ∧ Row Z.drew N 33 [.slice Ak2 kB2.length ck2, .slice Av2 vB2.length cv2, .int .i64 ((c : Int) + 1)] ∧ Row Z.drew (N + 1) 33 [.slice none 0 0, .slice none 0 0, .int .i64 0] ∧ Sl Z.drew Z.drew.heap.size (.slice Ak2 kB2.length ck2) kB2 ∧ Sl Z.drew Z.drew.heap.size (.slice Av2 vB2.length cv2) vB2 ∧ Below N w Z.drew ∧ M ≤ Z.drew.heap.size) :=
          ⟨World.ownsRow.drew (own_but H1.out.1 bt2 (by omega)), hr2.drew, (bt2.row H1.out.2.2.1 (by omega) (by omega)).drew, (H1.out.2.2.2.1.but HO2.out.1.1 bt2).more bt2.size, (H1.out.2.2.2.2.1.but HO2.out.1.2 bt2).more bt2.size, (H1.out.2.2.2.2.2.1.trans (bt2.under (by omega) (Nat.le_refl _))).drew, Nat.le_trans hMY bt2.size⟩
        have hqc : q ≤ cc := by
          rcases HV0.out.1.2 with ⟨h, h0⟩ | ⟨g, cap, cur, h, _, _, hc', _⟩
          · omega
          · cases h; exact hc'
        have hqci : (q : Int) ≤ (cc : Int) := by omega
        have hnci : (n : Int) ≤ (cc : Int) := by omega
        clear hr bt bt2 hr2 hZ f2 g2 H1 hMY
        go_wp2
        refine wp_region_held_drew (S := fun _ => True) (by kernel_rfl) trivial (fun hS => ?_)
        have HV := HV0
        generalize World.drew _ = V at HV ⊢
        clear HV0
        have rB := HV.out.2.1
        have rZ := HV.out.2.2.1
        refine held_value 0 _ _ (some 53) (.slice A q cc) (by kernel_rfl) (by rfl) (by kernel_rfl) (fun w hS => by first | kernel_rfl | go_simp) (fun _ _ _ _ h => h) (trivial) ?_
        simp only [Act.put, List.setIfInBounds_toArray, List.set_cons_zero, List.set_cons_succ]
        refine held_value 1 _ _ (some 54) (.int .i64 (n : Int)) (by kernel_rfl) (by rfl) (by kernel_rfl) (fun w hS => by first | kernel_rfl | go_simp) (fun _ _ _ _ h => h) (trivial) ?_
        simp only [Act.put, List.setIfInBounds_toArray, List.set_cons_zero, List.set_cons_succ]
        refine held_two 2 3 (by kernel_rfl) ?_ ?_
        · refine step_value 2 _ _ (some 55) (.slice A n cc) V (by rfl) (by kernel_rfl) (by go_simp) (trivial) ?_
          simp only [Act.put, List.setIfInBounds_toArray, List.set_cons_zero, List.set_cons_succ]
          refine held_value 4 _ _ (some 6) (.slice A n cc) (by kernel_rfl) (by rfl) (by kernel_rfl) (fun w hS => by first | kernel_rfl | go_simp) (fun _ _ _ _ h => h) (trivial) ?_
          simp only [Act.put, List.setIfInBounds_toArray, List.set_cons_zero, List.set_cons_succ]
          refine held_one 3 (by kernel_rfl) ?_
          refine step_value 3 _ _ (some 56) (.agg #[.slice Ak2 kB2.length ck2, .slice Av2 vB2.length cv2, .int .i64 ((c : Int) + 1)]) V (by rfl) (by kernel_rfl) (run_loadRow rfl rB Tryd.underlying33 rfl info_rd) (trivial) ?_
          simp only [Act.put, List.setIfInBounds_toArray, List.set_cons_zero, List.set_cons_succ]
          refine held_one 5 (by kernel_rfl) ?_
          refine step_storeRow 5 33 (.tmp 7) (.tmp 56) (by rfl) (by kernel_rfl) (_) rfl ([.slice Ak2 kB2.length ck2, .slice Av2 vB2.length cv2, .int .i64 ((c : Int) + 1)]) rfl 33 ([.slice none 0 0, .slice none 0 0, .int .i64 0]) rZ (info_rd) (rfl) cell_slices ?_
          intro Y3 rS bt zt
          refine ⟨trivial, ?_⟩
          refine held_value 6 _ _ (some 8) (.int .i64 0) (by kernel_rfl) (by rfl) (by kernel_rfl) (fun w hS => by first | kernel_rfl | go_simp) (fun _ _ _ _ h => h) (trivial) ?_
          simp only [Act.put, List.setIfInBounds_toArray, List.set_cons_zero, List.set_cons_succ]
          refine wpAnyH_done (by kernel_rfl) ?_ _
          have hMV := HV.out.2.2.2.2.2.2
          have FV : Shh (∀ g, g < w.heap.size → Off g (.slice A n cc)) := ⟨fun g hg => (off_own HV.out.1 (by omega)).less HB.out.2.2.2.2.2⟩
          have F : Shh (Row Y3 (N + 1) 33 [.slice Ak2 kB2.length ck2, .slice Av2 vB2.length cv2, .int .i64 ((c : Int) + 1)] ∧ Sl Y3 Y3.heap.size (.slice Ak2 kB2.length ck2) (keyL s2) ∧ Sl Y3 Y3.heap.size (.slice Av2 vB2.length cv2) (valL s2) ∧ Below w.heap.size w Y3 ∧ Sl Y3 Y3.heap.size (.slice A n cc) (drawB s1 n)) := ⟨rS, by rw [← HS2.out.1]; exact (HV.out.2.2.2.1.but HO2.out.2.1 bt).more bt.size, by rw [← HS2.out.2]; exact (HV.out.2.2.2.2.1.but HO2.out.2.2 bt).more bt.size, by rw [hN]; exact HV.out.2.2.2.2.2.1.trans (bt.under (by omega) (by omega)), by rw [← HB.out.2.2.1]; exact (Sl.begins (n := q) (Sl.of_own (own_but HV.out.1 bt (by omega))) n (by rw [HB.out.2.2.2.2.1]; exact HB.out.2.2.2.2.2))⟩
          clear hMV
          clear zt bt rS rB rZ hS HV
          go_wp2
          exact ret_three Tryd.results59 rfl rfl rfl rfl F.out.1 Tryd.underlying33 rfl info_rd ⟨_, _, rfl, F.out.2.2.2.2, ⟨_, _, rfl, F.out.2.1, F.out.2.2.1⟩, F.out.2.2.2.1, fun g hg => ⟨FV.out g hg, fun _ => ⟨_, _, _, rfl, HW2.out g hg⟩⟩⟩
        · refine step_value 3 _ _ (some 56) (.agg #[.slice Ak2 kB2.length ck2, .slice Av2 vB2.length cv2, .int .i64 ((c : Int) + 1)]) V (by rfl) (by kernel_rfl) (run_loadRow rfl rB Tryd.underlying33 rfl info_rd) (trivial) ?_
          simp only [Act.put, List.setIfInBounds_toArray, List.set_cons_zero, List.set_cons_succ]
          refine held_one 2 (by kernel_rfl) ?_
          refine step_value 2 _ _ (some 55) (.slice A n cc) V (by rfl) (by kernel_rfl) (by go_simp) (trivial) ?_
          simp only [Act.put, List.setIfInBounds_toArray, List.set_cons_zero, List.set_cons_succ]
          refine held_value 4 _ _ (some 6) (.slice A n cc) (by kernel_rfl) (by rfl) (by kernel_rfl) (fun w hS => by first | kernel_rfl | go_simp) (fun _ _ _ _ h => h) (trivial) ?_
          simp only [Act.put, List.setIfInBounds_toArray, List.set_cons_zero, List.set_cons_succ]
          refine held_one 5 (by kernel_rfl) ?_
          refine step_storeRow 5 33 (.tmp 7) (.tmp 56) (by rfl) (by kernel_rfl) (_) rfl ([.slice Ak2 kB2.length ck2, .slice Av2 vB2.length cv2, .int .i64 ((c : Int) + 1)]) rfl 33 ([.slice none 0 0, .slice none 0 0, .int .i64 0]) rZ (info_rd) (rfl) cell_slices ?_
          intro Y3 rS bt zt
          refine ⟨trivial, ?_⟩
          refine held_value 6 _ _ (some 8) (.int .i64 0) (by kernel_rfl) (by rfl) (by kernel_rfl) (fun w hS => by first | kernel_rfl | go_simp) (fun _ _ _ _ h => h) (trivial) ?_
          simp only [Act.put, List.setIfInBounds_toArray, List.set_cons_zero, List.set_cons_succ]
          refine wpAnyH_done (by kernel_rfl) ?_ _
          have hMV := HV.out.2.2.2.2.2.2
          have FV : Shh (∀ g, g < w.heap.size → Off g (.slice A n cc)) := ⟨fun g hg => (off_own HV.out.1 (by omega)).less HB.out.2.2.2.2.2⟩
          have F : Shh (Row Y3 (N + 1) 33 [.slice Ak2 kB2.length ck2, .slice Av2 vB2.length cv2, .int .i64 ((c : Int) + 1)] ∧ Sl Y3 Y3.heap.size (.slice Ak2 kB2.length ck2) (keyL s2) ∧ Sl Y3 Y3.heap.size (.slice Av2 vB2.length cv2) (valL s2) ∧ Below w.heap.size w Y3 ∧ Sl Y3 Y3.heap.size (.slice A n cc) (drawB s1 n)) := ⟨rS, by rw [← HS2.out.1]; exact (HV.out.2.2.2.1.but HO2.out.2.1 bt).more bt.size, by rw [← HS2.out.2]; exact (HV.out.2.2.2.2.1.but HO2.out.2.2 bt).more bt.size, by rw [hN]; exact HV.out.2.2.2.2.2.1.trans (bt.under (by omega) (by omega)), by rw [← HB.out.2.2.1]; exact (Sl.begins (n := q) (Sl.of_own (own_but HV.out.1 bt (by omega))) n (by rw [HB.out.2.2.2.2.1]; exact HB.out.2.2.2.2.2))⟩
          clear hMV
          clear zt bt rS rB rZ hS HV
          go_wp2
          exact ret_three Tryd.results59 rfl rfl rfl rfl F.out.1 Tryd.underlying33 rfl info_rd ⟨_, _, rfl, F.out.2.2.2.2, ⟨_, _, rfl, F.out.2.1, F.out.2.2.1⟩, F.out.2.2.2.1, fun g hg => ⟨FV.out g hg, fun _ => ⟨_, _, _, rfl, HW2.out g hg⟩⟩⟩
end Go.Proofs.YtanpplniedphkaaDoor
