/-
 WALK: the law DiskAll.
-/
import Derived.Test.YtpajdmbajopofaaDm7
namespace Go.Proofs.Ytpajdmbajopofaa
open Go.RowKit
set_option maxRecDepth 100000
/-- only the writes of a script are done -/
def wS (s : DS) (y : OpV) : DS := if y.d = 1 then wrS s y.i (blkL y.x 256) else s
def runW (s : DS) (l : List OpV) : DS := l.foldl wS s
theorem runW_take (s : DS) (l : List OpV) (k : Nat) (h : k < l.length) : runW s (l.take (k + 1)) = wS (runW s (l.take k)) l[k] := by unfold runW; rw [take_snoc l k h, List.foldl_append]; rfl
theorem wS_wait (s : DS) (y : OpV) : (wS s y).wait.length ≤ s.wait.length + 1 := by
 unfold wS
 split
 ·exact wrS_wait _ _ _
 ·omega
theorem runW_wait (s : DS) (l : List OpV) : (runW s l).wait.length ≤ s.wait.length + l.length := by
 induction l generalizing s with
 | nil => exact Nat.le_refl _
 | cons y l ih =>
  have := ih (wS s y)
  have := wS_wait s y
  show (runW (wS s y) l).wait.length ≤ _
  rw [List.length_cons]
  omega
theorem wrS_kp {s : DS} {i : Int} {b : List UInt8} (h1 : s.on = true) (h2 : s.fuse = -1) : (wrS s i b).on = true ∧ (wrS s i b).fuse = -1 ∧ (wrS s i b).good = s.good := by
 unfold wrS
 split
 ·exact ⟨h1, h2, rfl⟩
 ·split
  ·exact ⟨h1, h2, rfl⟩
  ·unfold opS
   rw [if_neg (by show ¬ s.fuse = 0; omega)]
   exact ⟨h1, by show (if s.fuse = -1 then (-1 : Int) else _) = _; rw [if_pos h2], rfl⟩
theorem runW_kp {s : DS} (l : List OpV) (h1 : s.on = true) (h2 : s.fuse = -1) : (runW s l).on = true ∧ (runW s l).fuse = -1 ∧ (runW s l).good = s.good := by
 induction l generalizing s with
 | nil => exact ⟨h1, h2, rfl⟩
 | cons y l ih =>
  have hw : (wS s y).on = true ∧ (wS s y).fuse = -1 ∧ (wS s y).good = s.good := by
   unfold wS
   split
   ·exact wrS_kp h1 h2
   ·exact ⟨h1, h2, rfl⟩
  obtain ⟨k1, k2, k3⟩ := ih hw.1 hw.2.1
  exact ⟨k1, k2, k3.trans hw.2.2⟩
theorem pickU_congr {p q : Nat → Bool} {l : List (Nat × List UInt8)} {t : Nat} (h : ∀ i, i < t → p i = q i) (ht : t ≤ l.length) : pickU p l t = pickU q l t := by
 induction t with
 | zero => rfl
 | succ t ih =>
  have e := ih (fun i hi => h i (by omega)) (by omega)
  cases hp : p t with
  | true => rw [pickU_yes hp (by omega), pickU_yes (by rw [← h t (by omega)]; exact hp) (by omega), e]
  | false => rw [pickU_no hp, pickU_no (by rw [← h t (by omega)]; exact hp), e]
theorem sy_calm {s : DS} (h1 : s.on = true) (h2 : s.fuse = -1) : syE s = 0 ∧ (syS s).good = applyL s.good (pickU (fun _ => true) s.wait s.wait.length) ∧ (syS s).wait = [] ∧ (syS s).on = true ∧ (syS s).fuse = -1 := by
 have hz : ¬ s.fuse = 0 := by omega
 refine ⟨by unfold syE opE; rw [if_neg (by rw [h1]; decide), if_neg hz], ?_⟩
 unfold syS
 rw [if_neg (by rw [h1]; decide), if_neg hz]
 unfold opS
 rw [if_neg hz]
 exact ⟨rfl, rfl, h1, by show (if s.fuse = -1 then (-1 : Int) else _) = _; rw [if_pos h2]⟩
theorem cr_all {s : DS} (h1 : s.on = true) (h2 : s.fuse = -1) : (crS s (List.replicate s.wait.length true)).good = (syS s).good := by
 rw [(sy_calm h1 h2).2.1]
 show applyL s.good (pickU _ s.wait s.wait.length) = _
 rw [pickU_congr (p := pkF (List.replicate s.wait.length true)) (q := fun _ => true) (fun i hi => by unfold pkF; rw [List.getD, List.getElem?_replicate, if_pos hi]; rfl) (Nat.le_refl _)]
theorem cr_nil (s : DS) : (crS s []).good = s.good := by
 show applyL s.good (pickU (pkF []) s.wait s.wait.length) = _
 rw [pickU_congr (p := pkF []) (q := fun _ => false) (fun i _ => rfl) (Nat.le_refl _), pickU_none]
 rfl
/-- a crash that picks from a slice of nobody -/
theorem q_CrashQ {w W : World} {E : Nat → Option Ent} {Q : Nat → Prop} {c g q n cp : Nat} {s : DS} {T : TypeId} (h : SysQ w W E Q) (hx : E c = some ⟨false, g, s⟩) (hl : s.wait.length ≤ 1000000) (l : List Bool) (hq : Q q) (hr : Row W q T (boolCells l)) (hn : l.length = n) (hcp : n ≤ cp) (hm : cp ≤ maxLen) : Calls Try.prog 17 #[.pointer (some ⟨g, 0, none⟩), .slice (some ⟨q, 0, none⟩) n cp] W (QIs w W (putE E c (some ⟨false, g, crS s l⟩)) Q (.tuple #[])) := by
 obtain ⟨h1, h0, col, h2, hq9, h3, h4, h5⟩ := h
 have hc0 : c ≠ 0 := fun e => by rw [e, h3] at hx; cases hx
 have hc9 : c ≠ 9 := fun e => by rw [e, h4] at hx; cases hx
 have hsl : SlbC col c W (.slice (some ⟨q, 0, none⟩) n cp) l := ⟨some ⟨q, 0, none⟩, cp, by rw [hn], by omega, hm, fun _ => ⟨q, 0, rfl, hr.lt, by rw [hq9 q hq]; exact Ne.symm hc9, fun k hk => by rw [Nat.zero_add, hr.cell k]; simp [boolCells, hk]⟩⟩
 refine (Crash_any (h5 c _ hx : DAt col c W g s) hc0 hl _ l hsl).mono ?_
 rintro e w' ⟨he, col', hE, hy⟩
 have hs := h1.size
 refine ⟨he, ⟨h1.trans (hE.below (fun k hk => by rw [h2 k hk]; exact Ne.symm hc9) hs), fun k hk => Nat.lt_of_lt_of_le (h0 k hk) hE.size, col', fun k hk => by rw [hE.hue k (by omega)]; exact h2 k hk, fun k hk => by rw [hE.hue k (h0 k hk)]; exact hq9 k hk, ?_, ?_, fun d z hz => ?_⟩, fun k hk => hE.block k (h0 k hk) (by rw [hq9 k hk]; exact Ne.symm hc9)⟩
 ·rw [putE_ne E _ (Ne.symm hc0)]; exact h3
 ·rw [putE_ne E _ (Ne.symm hc9)]; exact h4
 ·by_cases hd : d = c
  ·subst hd
   rw [putE_same] at hz
   cases hz
   exact hy
  ·rw [putE_ne E _ hd] at hz
   exact (h5 d z hz).ext hE hd hc0
theorem makeb_run (n : Nat) (hn : n ≤ 281474976710656) (u : World) : (Instr.makeSlice 34 (.int .i64 (n : Int)) (.int .i64 (n : Int))).run Try.prog u =
  .ok (.slice (some ⟨u.heap.size, 0, none⟩) n n) (u.alloc (.cells (boolCells (List.replicate n false)).toArray 4)) := by
 obtain ⟨i0, hi, hz0, hz1, hz2⟩ := info_parts info_bool
 have h := run_make (P := Try.prog) u 34 4 i0 (.bool false) Try.underlying34 hi hz0 .i64 .i64 (n : Int) (n : Int) (by omega) (Int.le_refl _) (by rw [hz2]; omega) (by omega)
 have e : (n : Int).toNat = n := by omega
 rw [e] at h
 rw [← made_false]
 simpa [hz1, Value.cells] using h
theorem rep_set (n k : Nat) (h : k < n) : (List.replicate k true ++ List.replicate (n - k) false).set k true = List.replicate (k + 1) true ++ List.replicate (n - (k + 1)) false := by
 rw [List.set_append_right _ _ (by rw [List.length_replicate]; exact Nat.le_refl _), List.length_replicate, Nat.sub_self, show n - k = (n - (k + 1)) + 1 by omega, List.replicate_succ, List.set_cons_zero, List.replicate_succ', List.append_assoc]
 rfl
set_option maxHeartbeats 4000000 in
theorem all_law (n : Int) (v1 v2 : Value) (l1 l : List OpV) (w : World) (hl1 : Ops w w.heap.size v1 l1) (hl : Ops w w.heap.size v2 l) : Calls Try.prog 7 #[.int .i64 n, v1, v2] w (TrueIs w) := by
 unfold TrueIs
 obtain ⟨A, cv, rfl, hlc, hcm⟩ := hl.form
 obtain ⟨A0, cv0, rfl, _, _⟩ := hl1.form
 have HO := Shh.mk hl
 have HNB : Shh (l.length ≤ 9223372036854775807) := ⟨by unfold maxLen at hcm; omega⟩
 have HWO := Shh.mk (worn_any n _ l1 w hl1)
 obtain ⟨nl, hnl⟩ : ∃ nl, nl = l.length := ⟨_, rfl⟩
 have HN := Shh.mk hnl
 rw [← hnl]
 obtain ⟨n0, hn0⟩ : ∃ n0, n0 = l1.length := ⟨_, rfl⟩
 rw [← hn0] at HWO ⊢
 clear hl hlc hcm hnl hl1 hn0
 go_enter Try.func7, Try.ntmps7
 go_wp2_with (go_at_call 26; refine (HWO.out).mono ?_)
 unfold WornIs
 rintro e w1 (⟨rfl, b1⟩ | ⟨g, s, rfl, h1, hon, hfu, hwl⟩)
 ·have HB1 := Shh.mk b1
  clear b1 HWO
  go_wp2_with (go_at_call 12; refine (live_any _).mono ?_)
  unfold TrueIs
  rintro e w2 ⟨rfl, b2⟩
  have HB2 := Shh.mk (Below.chain HB1.out b2)
  clear b2 HB1
  go_wp2_with (go_at_call 12; refine (live_any _).mono ?_)
  unfold TrueIs
  rintro e w3 ⟨rfl, b3⟩
  have F := Shh.mk (Below.chain HB2.out b3)
  clear b3 HB2
  go_wp2
  go_ret
  exact ⟨rfl, F.out⟩
 have HS1 := Shh.mk h1
 have HWN := Shh.mk (And.intro hon (And.intro hfu hwl))
 clear h1 hon hfu hwl HWO
 go_wp2_with (go_at_call 12; refine (live_any _).mono ?_)
 unfold TrueIs
 rintro e w2 ⟨rfl, b2⟩
 have HS2 := Shh.mk (HS1.out.go b2)
 clear b2 HS1
 have HFA : Shh (Calls Try.prog 13 #[.slice A nl cv] w2 (FewOIs w2 l)) := ⟨by rw [HN.out]; exact few_any w.heap.size _ l w2 (HO.out.below HS2.out.bel) HS2.out.bel.size⟩
 go_wp2_with (go_at_call 13; refine (HFA.out).mono ?_)
 unfold FewOIs
 rintro e w3 ⟨rfl, b3⟩
 have HS3 := Shh.mk (HS2.out.go b3)
 clear b3 HS2 HFA
 cases hfw : fewO l with
 | false =>
  go_wp2_with (go_at_call 12; refine (live_any _).mono ?_)
  unfold TrueIs
  rintro e w4 ⟨rfl, b4⟩
  have F := Shh.mk (Below.chain HS3.out.bel b4)
  clear b4 HS3
  go_wp2
  go_ret
  exact ⟨rfl, F.out⟩
 | true =>
  have HFW := Shh.mk (fewO_iff.1 hfw)
  have HNL : Shh (nl ≤ 200) := ⟨by rw [HN.out]; exact HFW.out.2⟩
  clear hfw
  have HI0 : Shh (Sys w w3 (OneE g (runW s (l.take 0))) ∧ True) := ⟨HS3.out, trivial⟩
  clear HS3
  go_wp2
  go_loopw [32] (fun j wr => ∃ k : Nat, k ≤ nl ∧ j = .int .i64 (k : Int) ∧ Shh (Sys w wr (OneE g (runW s (l.take k))) ∧ True)) (fun j _ => nl - (intOf j).toNat)
  case atStart => exact ⟨0, Nat.zero_le _, rfl, HI0⟩
  case round =>
   clear HI0
   obtain ⟨k, hk, rfl, H⟩ := hrel
   by_cases hlt : k < nl
   ·have hlt2 : (k : Int) < (nl : Int) := by omega
    have hz : (0 : Int) ≤ (k : Int) := by omega
    have hkl : k < l.length := by rw [← HN.out]; exact hlt
    have HK : Shh (k < nl ∧ k < l.length) := ⟨hlt, hkl⟩
    obtain ⟨q, off, rfl, hq, hop⟩ := HO.out.at_ (by omega)
    have hb := H.out.1.bel
    have hol := hop k hkl
    obtain ⟨y, hy⟩ : ∃ y, y = l[k] := ⟨_, rfl⟩
    have hfy : y.b.length ≤ 1000 := by rw [hy]; exact (HFW.out.1 _ (List.getElem_mem hkl)).1
    rw [← hy] at hol
    obtain ⟨yn, A1, c1, A2, c2, y1, y2, y3⟩ := op_now hol hb hq
    have HY := Shh.mk (And.intro yn (And.intro y2 (And.intro y3 hfy)))
    have hRZ : Row (w := wr.alloc (.cells #[.int .i64 0, .int .i64 0, .int .i64 0, .int .u8 0, .slice none 0 0, .slice none 0 0] 36)) (g := wr.heap.size) (T := 36) (cs := opZ) := Row.new_ rfl rfl
    have HYK : Shh (runW s (l.take (k + 1)) = wS (runW s (l.take k)) y) := ⟨by rw [hy]; exact runW_take s l k hkl⟩
    have HWL : Shh ((runW s (l.take k)).wait.length ≤ 400) := ⟨by have := runW_wait s (l.take k); have := HWN.out; have := HNL.out; have := List.length_take_le k l; omega⟩
    clear y2 y3 hop hol hb yn hfy hy hkl hlt
    go_wp2_with (first | refine wpList_load_mid rfl 36 (.tmp 34) rfl q (off + k * 6) (by go_num) (opRow y A1 A2 c1 c2) _ y1 Try.underlying36 rfl info_op6 ?_ | refine wpList_store_any rfl 36 (.tmp 9) (.tmp 35) rfl wr.heap.size rfl (opRow y A1 A2 c1 c2) rfl 36 _ hRZ info_op6 rfl opC_one ?_)
    intro Z hr bt hz2
    have bZ : Below wr.heap.size wr Z := (Below.alloc (Below.refl _ _) (Nat.le_refl _) _).trans (bt.under (by omega) (Nat.le_refl _))
    have hqZ : SysQ w Z (OneE g (runW s (l.take k))) (fun k => k = wr.heap.size) := (H.out.1.q.new bZ).less fun k hk => .inr ⟨by omega, by have := hr.lt; omega⟩
    have HRW := Shh.mk hr
    have hrg := hr.range
    clear y1 hRZ hz2 bt bZ hr
    obtain ⟨M, hM⟩ : ∃ M, M = wr.heap.size := ⟨_, rfl⟩
    rw [← hM] at hqZ HRW hrg ⊢
    have HKB : Shh (k ≤ 1000000000 ∧ k < nl) := ⟨by have := HK.out.1; have := HNL.out; omega, HK.out.1⟩
    have HQZ := Shh.mk hqZ
    have c0 : Z.cell? ⟨M, 0, none⟩ = some (.int .i64 y.d) := HRW.out.cell 0
    clear hrg hqZ H hM
    by_cases hd1 : y.d = 1
    ·rw [hd1] at c0
     have HS1 : Shh (wS (runW s (l.take k)) y = wrS (runW s (l.take k)) y.i (blkL y.x 256)) := ⟨by unfold wS; rw [if_pos hd1]⟩
     clear hd1
     go_wp2
     refine wp_region_held_drew (S := fun w' => Row w' M 36 (opRow y A1 A2 c1 c2)) (by kernel_rfl) HRW.out.drew (fun hS => ?_)
     clear hS
     obtain ⟨V, hV⟩ : ∃ V, V = World.drew Z := ⟨_, rfl⟩
     rw [← hV]
     have hbV : Below Z.heap.size Z V := by rw [hV]; exact (Below.refl _ _).drew
     have HQV := Shh.mk (HQZ.out.go hbV)
     have HRV := Shh.mk (HRW.out.go hbV)
     clear hbV hV c0
     refine hdv0 0 39 (.pointer (some ⟨g, 0, none⟩)) (by rfl) HRV.out ?_
     refine hdv 1 40 (.pointer (some ⟨M, 1, none⟩)) (by rfl) (fun w hS => fo_k (by decide) rfl (by kernel_rfl)) HRV.out ?_
     refine hdv 2 41 (.int .i64 y.i) (by rfl) (fun w hS => rload_in rfl (hS.cell 1) (by kernel_rfl)) HRV.out ?_
     refine hdv 3 42 (.pointer (some ⟨M, 3, none⟩)) (by rfl) (fun w hS => fo_k (by decide) rfl (by kernel_rfl)) HRV.out ?_
     refine hdv 4 43 (.int .u8 (y.x.toNat : Int)) (by rfl) (fun w hS => rload_u8 rfl (hS.cell 3) (by kernel_rfl)) HRV.out ?_
     refine held_one 5 (by kernel_rfl) ?_
     refine step_call 5 _ _ (some 44) 29 #[.int .u8 (y.x.toNat : Int)] (by rfl) (by kernel_rfl) (by first | kernel_rfl | go_simp) ?_
     refine (Block_any y.x V).mono ?_
     unfold OwnIs Gives
     rintro e w5 ⟨v5, rfl, k5, b5⟩
     have hr5 := HRV.out.go b5
     have q5 := HQV.out.go b5
     have H1 := Shh.mk (q_Write q5 (oneE_1 _ _) (by have := HWL.out; omega) y.i w5.heap.size v5 _ (Sl.of_own k5) (Nat.le_refl _))
     refine ⟨_, rfl, hr5, ?_⟩
     simp only [Act.put, arr9, hd9, tl9]
     refine held_one 6 (by kernel_rfl) ?_
     refine step_call 6 _ _ (some 45) 28 #[.pointer (some ⟨g, 0, none⟩), .int .i64 y.i, v5] (by rfl) (by kernel_rfl) (by first | kernel_rfl | go_simp) ?_
     refine (H1.out).mono ?_
     unfold QIs
     rintro e w6 ⟨rfl, q6, k6⟩
     have hr6 : Row w6 M _ _ := (k6 _ rfl).trans hr5
     rw [oneE_put, ← HS1.out, ← HYK.out] at q6
     have HI : Shh (Sys w w6 (OneE g (runW s (l.take (k + 1)))) ∧ True) := ⟨q6.sys, trivial⟩
     refine ⟨_, rfl, hr6, ?_⟩
     simp only [Act.put, arr9, hd9, tl9]
     refine wpAnyH_done (by kernel_rfl) ?_ _
     clear hr5 hr6 q5 q6 k5 k6 b5 H1
     go_wp2_with (refine wl_at 46 rfl (.int .i64 ((k + 1 : Nat) : Int)) rfl (add_i1 HKB.out.1 rfl rfl) ?_)
     go_roundw
     case rel => exact ⟨k + 1, HKB.out.2, by go_num, HI⟩
     case measure => have := HKB.out.2; simp [intOf]; omega
    ·have HD1 := Shh.mk hd1
     have HI : Shh (Sys w Z (OneE g (runW s (l.take (k + 1)))) ∧ True) := ⟨by rw [HYK.out]; unfold wS; rw [if_neg hd1]; exact HQZ.out.sys, trivial⟩
     clear hd1 HQZ HRW
     go_wp2_with (first | refine wl_at 38 rfl (.bool false) rfl (eqc_no HD1.out rfl rfl) ?_ | refine wl_at 46 rfl (.int .i64 ((k + 1 : Nat) : Int)) rfl (add_i1 HKB.out.1 rfl rfl) ?_)
     go_roundw
     case rel => exact ⟨k + 1, HKB.out.2, by go_num, HI⟩
     case measure => have := HKB.out.2; simp [intOf]; omega
   ·obtain rfl : nl = k := by omega
    have hlt2 : ¬ (nl : Int) < (nl : Int) := by omega
    have htk : l.take nl = l := by rw [HN.out, List.take_length]
    obtain ⟨t, ht⟩ : ∃ t, t = runW s l := ⟨_, rfl⟩
    have HT : Shh (t.on = true ∧ t.fuse = -1 ∧ t.wait.length ≤ 400) := ⟨by obtain ⟨a1, a2, a3⟩ := runW_kp (s := s) l HWN.out.1 HWN.out.2.1; rw [ht]; exact ⟨a1, a2, by have := runW_wait s l; have := HWN.out.2.2; have := HFW.out.2; omega⟩⟩
    have HS3 : Shh (Sys w wr (OneE g t)) := ⟨by have := H.out.1; rw [htk, ← ht] at this; exact this⟩
    clear H hlt hk htk ht
    have HC1 := Shh.mk (sys_Clone HS3.out (oneE_1 _ _) (by have := HT.out; omega) (c2 := 3) rfl (by decide) (by decide))
    go_wp2_with (go_at_call 16; refine (HC1.out).mono ?_)
    unfold SysNew
    rintro e w4 ⟨g3, rfl, h4, _, _⟩
    have HC2 := Shh.mk (sys_Clone h4 (c := 1) (g := g) (s := t) rfl (by have := HT.out; omega) (c2 := 4) rfl (by decide) (by decide))
    clear h4 HC1 HS3
    go_wp2_with (go_at_call 16; refine (HC2.out).mono ?_)
    unfold SysNew
    rintro e w5 ⟨g4, rfl, h5, _, _⟩
    obtain ⟨E5, hE5⟩ : ∃ E5, E5 = putE (putE (OneE g t) 3 (some ⟨false, g3, t⟩)) 4 (some ⟨false, g4, t⟩) := ⟨_, rfl⟩
    rw [← hE5] at h5
    have HE : Shh (E5 1 = some ⟨false, g, t⟩ ∧ E5 3 = some ⟨false, g3, t⟩ ∧ E5 4 = some ⟨false, g4, t⟩) := ⟨by rw [hE5]; exact ⟨rfl, rfl, rfl⟩⟩
    have HS5 := Shh.mk h5
    have HIM := Shh.mk (sys_Image h5 HE.out.1)
    clear h5 HC2 hE5
    go_wp2_with (go_at_call 19; refine (HIM.out).mono ?_)
    unfold OwnIs Gives
    rintro e w6 ⟨v6, rfl, k6, b6⟩
    obtain ⟨Q, hQ⟩ : ∃ Q : Nat → Prop, Q = fun k => v6.ownBlock = some k := ⟨_, rfl⟩
    have hq6 : SysQ w w6 _ Q := (HS5.out.q.new b6).less fun k hk => by rw [hQ] at hk; exact .inr (k6.lt k hk)
    have HK6 : Shh (w6.ownsRow w.heap.size 5 1 v6 t.good.flatten.length (Lib.byteCells t.good.flatten)) := ⟨own_base k6 HS5.out.bel.size⟩
    have HQ := Shh.mk hQ
    have HQ6 := Shh.mk hq6
    have HWT := Shh.mk (sys_Waits hq6.sys HE.out.1)
    obtain ⟨nw, hnw⟩ : ∃ nw, nw = t.wait.length := ⟨_, rfl⟩
    have HNW : Shh (nw = t.wait.length ∧ nw ≤ 400) := ⟨hnw, by rw [hnw]; exact HT.out.2.2⟩
    rw [← hnw] at HWT
    clear hq6 k6 b6 HIM HS5 hQ hnw
    go_wp2_with (go_at_call 31; refine (HWT.out).mono ?_)
    unfold AnsIs
    rintro e w7 ⟨rfl, rfl⟩
    have hmk := fun u => makeb_run nw (by have := HNW.out; omega) u
    obtain ⟨W0, hW0⟩ : ∃ W0, w6.alloc (.cells (boolCells (List.replicate nw false)).toArray 4) = W0 := ⟨_, rfl⟩
    have bA : Below w6.heap.size w6 W0 := by rw [← hW0]; exact Below.alloc (Below.refl _ _) (Nat.le_refl _) _
    have hr0 : Row W0 w6.heap.size 4 (boolCells (List.replicate nw false)) := by rw [← hW0]; exact Row.new_ rfl rfl
    obtain ⟨M, hM⟩ : ∃ M, M = w6.heap.size := ⟨_, rfl⟩
    obtain ⟨Q2, hQ2⟩ : ∃ Q2 : Nat → Prop, Q2 = fun k => Q k ∨ k = M := ⟨_, rfl⟩
    have HQ2 := Shh.mk hQ2
    have hq0 : SysQ w W0 E5 Q2 := (HQ6.out.new bA).less fun k hk => by rw [hQ2] at hk; exact hk.elim .inl fun hk => .inr ⟨by omega, by have := hr0.lt; omega⟩
    have HMB : Shh (w.heap.size ≤ M ∧ ∀ k, v6.ownBlock = some k → k < M) := ⟨by have := HQ6.out.1.size; omega, fun k hk => by have := (HK6.out.lt k hk).2; omega⟩
    have HI0 : Shh (SysQ w W0 E5 Q2 ∧ Row W0 M 4 (boolCells (List.replicate 0 true ++ List.replicate (nw - 0) false)) ∧ W0.ownsRow w.heap.size 5 1 v6 t.good.flatten.length (Lib.byteCells t.good.flatten)) := ⟨hq0, by rw [hM]; exact hr0, own_bel HK6.out bA⟩
    clear HWT HQ6 HK6 bA hr0 hq0 hQ2
    go_wp2
    clear hW0 hmk
    rw [← hM]
    clear hM
    go_loopw [64] (fun j wr => ∃ k : Nat, k ≤ nw ∧ j = .int .i64 (k : Int) ∧ Shh (SysQ w wr E5 Q2 ∧ Row wr M 4 (boolCells (List.replicate k true ++ List.replicate (nw - k) false)) ∧ wr.ownsRow w.heap.size 5 1 v6 t.good.flatten.length (Lib.byteCells t.good.flatten))) (fun j _ => nw - (intOf j).toNat)
    case atStart => exact ⟨0, Nat.zero_le _, rfl, HI0⟩
    case round =>
     clear HI0
     obtain ⟨k, hk, rfl, H⟩ := hrel
     by_cases hlt : k < nw
     ·have hlt3 : (k : Int) < (nw : Int) := by omega
      have hz : (0 : Int) ≤ (k : Int) := by omega
      have hlen : (List.replicate k true ++ List.replicate (nw - k) false).length = nw := by rw [List.length_append, List.length_replicate, List.length_replicate]; omega
      have hcl : ∃ z, wr.cell? ⟨M, k, none⟩ = some z := by rw [H.out.2.1.cell k, List.getElem?_eq_getElem (by rw [boolCells_length, hlen]; exact hlt)]; exact ⟨_, rfl⟩
      obtain ⟨z, hcl⟩ := hcl
      have hfr := H.out.2.1.free k
      have HI : Shh (SysQ w (wr.setCell ⟨M, k, none⟩ (.bool true)) E5 Q2 ∧ Row (wr.setCell ⟨M, k, none⟩ (.bool true)) M 4 (boolCells (List.replicate (k + 1) true ++ List.replicate (nw - (k + 1)) false)) ∧ (wr.setCell ⟨M, k, none⟩ (.bool true)).ownsRow w.heap.size 5 1 v6 t.good.flatten.length (Lib.byteCells t.good.flatten)) := by
       refine ⟨H.out.1.mess (by rw [HQ2.out]; exact .inr rfl) HMB.out.1 (but_set wr M k _), ?_, own_keep H.out.2.2 fun j hj => heap_setCell_other wr ⟨M, k, none⟩ j _ (by show j ≠ M; have := HMB.out.2 j hj; omega)⟩
       have := H.out.2.1.set_ k (.bool true)
       rw [show (boolCells (List.replicate k true ++ List.replicate (nw - k) false)).set k (.bool true) = boolCells ((List.replicate k true ++ List.replicate (nw - k) false).set k true) by simp [boolCells, List.map_set], rep_set nw k hlt] at this
       exact this
      have HKB : Shh (k ≤ 1000000000 ∧ k < nw) := ⟨by have := HNW.out; omega, hlt⟩
      clear H hlt hk hlen
      go_wp2_with (refine wl_at 70 rfl (.int .i64 ((k + 1 : Nat) : Int)) rfl (add_i1 HKB.out.1 rfl rfl) ?_)
      go_roundw
      case rel => exact ⟨k + 1, HKB.out.2, by go_num, HI⟩
      case measure => have := HKB.out.2; simp [intOf]; omega
     ·obtain rfl : nw = k := by omega
      have hlt3 : ¬ (nw : Int) < (nw : Int) := by omega
      have hrk : Row wr M 4 (boolCells (List.replicate nw true)) := by have := H.out.2.1; rw [Nat.sub_self, List.replicate_zero, List.append_nil] at this; exact this
      have HCA := Shh.mk (q_CrashQ H.out.1 HE.out.2.1 (by have := HNW.out; omega) (List.replicate nw true) (by rw [HQ2.out]; exact .inr rfl) hrk (by rw [List.length_replicate]) (Nat.le_refl _) (by have := HNW.out; unfold maxLen; omega))
      have HKR := Shh.mk H.out.2.2
      clear H hlt hk hrk
      go_wp2_with (go_at_call 17; refine (HCA.out).mono ?_)
      unfold QIs
      rintro e w8 ⟨rfl, q8, k8⟩
      have HK8 : Shh (w8.ownsRow w.heap.size 5 1 v6 t.good.flatten.length (Lib.byteCells t.good.flatten)) := ⟨own_keep HKR.out fun k hk => k8 k (by rw [HQ2.out, HQ.out]; exact .inl hk)⟩
      have HCB := Shh.mk (q_Crash q8 (c := 4) (g := g4) (s := t) (by rw [putE_ne _ _ (by decide)]; exact HE.out.2.2) (by have := HNW.out; omega) (.slice none 0 0) [] (slb_nil _ _))
      clear q8 k8 HCA HKR
      go_wp2_with (go_at_call 17; refine (HCB.out).mono ?_)
      unfold QIs
      rintro e w9 ⟨rfl, q9, k9⟩
      have HK9 : Shh (w9.ownsRow w.heap.size 5 1 v6 t.good.flatten.length (Lib.byteCells t.good.flatten)) := ⟨own_keep HK8.out fun k hk => k9 k (by rw [HQ2.out, HQ.out]; exact .inl hk)⟩
      have HSY := Shh.mk (q_Sync q9 (c := 1) (g := g) (s := t) (by rw [putE_ne _ _ (by decide), putE_ne _ _ (by decide)]; exact HE.out.1) (by have := HNW.out; omega))
      rw [(sy_calm HT.out.1 HT.out.2.1).1] at HSY
      clear q9 k9 HCB HK8
      go_wp2_with (go_at_call 27; refine (HSY.out).mono ?_)
      unfold QIs
      rintro e wa ⟨rfl, qa, ka⟩
      have HKa : Shh (wa.ownsRow w.heap.size 5 1 v6 t.good.flatten.length (Lib.byteCells t.good.flatten)) := ⟨own_keep HK9.out fun k hk => ka k (by rw [HQ2.out, HQ.out]; exact .inl hk)⟩
      obtain ⟨E9, hE9⟩ : ∃ E9, E9 = putE (putE (putE E5 3 (some ⟨false, g3, crS t (List.replicate nw true)⟩)) 4 (some ⟨false, g4, crS t []⟩)) 1 (some ⟨false, g, syS t⟩) := ⟨_, rfl⟩
      rw [← hE9] at qa
      have HE9 : Shh (E9 1 = some ⟨false, g, syS t⟩ ∧ E9 3 = some ⟨false, g3, crS t (List.replicate nw true)⟩ ∧ E9 4 = some ⟨false, g4, crS t []⟩) := ⟨by rw [hE9]; exact ⟨rfl, rfl, rfl⟩⟩
      have HSa := Shh.mk (And.intro qa.sys HKa.out)
      clear qa ka hE9 HSY HK9 HKa
      have I3 := Shh.mk (sys_Image HSa.out.1 HE9.out.2.1)
      rw [HNW.out.1, cr_all HT.out.1 HT.out.2.1] at I3
      go_wp2_with (go_at_call 19; refine (I3.out).mono ?_)
      unfold OwnIs Gives
      rintro e wb ⟨vb, rfl, kb, bb⟩
      have HSb := Shh.mk (And.intro (HSa.out.1.go bb) (And.intro (own_bel HSa.out.2 bb) (Sl.of_own kb)))
      have I1 := Shh.mk (sys_Image HSb.out.1 HE9.out.1)
      clear kb bb I3 HSa
      go_wp2_with (go_at_call 19; refine (I1.out).mono ?_)
      unfold OwnIs Gives
      rintro e wc ⟨vc, rfl, kc, bc⟩
      have EQ := Shh.mk (refEqual_any _ _ vb vc _ _ wc (HSb.out.2.2.below bc) (Sl.of_own kc))
      rw [show ((syS t).good.flatten == (syS t).good.flatten) = true from by simp] at EQ
      have HSc := Shh.mk (And.intro (HSb.out.1.go bc) (own_bel HSb.out.2.1 bc))
      have I4 := Shh.mk (sys_Image HSc.out.1 HE9.out.2.2)
      rw [cr_nil] at I4
      clear kc bc I1 HSb
      go_wp2_with (go_at_call 18; refine (EQ.out).mono ?_)
      rintro e wd ⟨rfl, rfl⟩
      clear EQ
      go_wp2_with (go_at_call 19; refine (I4.out).mono ?_)
      unfold OwnIs Gives
      rintro e wd ⟨vd, rfl, kd, bd⟩
      have EQ := Shh.mk (refEqual_any _ _ vd v6 _ _ wd (Sl.of_own kd) (Sl.of_own (own_bel HSc.out.2 bd)))
      rw [show (t.good.flatten == t.good.flatten) = true from by simp] at EQ
      have HSd := Shh.mk (HSc.out.1.go bd)
      have W3 := Shh.mk (sys_Waits HSd.out HE9.out.2.1)
      have W4 := Shh.mk (sys_Waits HSd.out HE9.out.2.2)
      have F := Shh.mk HSd.out.bel
      clear kd bd I4 HSc HSd
      rw [show ((crS t (List.replicate nw true)).wait.length : Int) = 0 from rfl] at W3
      rw [show ((crS t []).wait.length : Int) = 0 from rfl] at W4
      go_wp2_with (go_at_call 18; refine (EQ.out).mono ?_)
      rintro e we ⟨rfl, rfl⟩
      clear EQ
      go_wp2_with (go_at_call 31; refine (W3.out).mono ?_)
      unfold AnsIs
      rintro e we ⟨rfl, rfl⟩
      clear W3
      go_wp2_with (go_at_call 31; refine (W4.out).mono ?_)
      unfold AnsIs
      rintro e we ⟨rfl, rfl⟩
      clear W4
      go_wp2
      go_ret
      exact ⟨rfl, F.out⟩
end Go.Proofs.Ytpajdmbajopofaa
