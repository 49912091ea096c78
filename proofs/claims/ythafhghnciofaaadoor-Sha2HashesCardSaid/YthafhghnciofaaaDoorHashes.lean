/-
  WALK: the law Sha2Hashes.
-/
import Derived.Test.YthafhghnciofaaaDoorRefSum
import Derived.Test.YthafhghnciofaaaDoorHand
import Derived.Test.YthafhghnciofaaaDoorExp
import Derived.Test.YthafhghnciofaaaDoorOpen
namespace Go.Proofs.YthafhghnciofaaaDoor
open Go.RowKit
set_option maxRecDepth 100000

/-- a slice of n bytes that may be written; its cells lie from block base on -/
def Wr (w : World) (base n : Nat) (v : Value) : Prop :=
  ∃ A c, v = .slice A n c ∧ (0 < n → ∃ gO T cs, A = some ⟨gO, 0, none⟩ ∧ base ≤ gO ∧ Row w gO T cs ∧ ∀ j, j < n → ∃ x : UInt8, cs[j]? = some (.int .u8 (x.toNat : Int)))
theorem Wr.form {w : World} {base n : Nat} {v : Value} (h : Wr w base n v) : ∃ A c, v = .slice A n c := by
  obtain ⟨A, c, hv, _⟩ := h
  exact ⟨A, c, hv⟩
theorem Wr.at_ {w : World} {base n c : Nat} {A : Option Addr} (h : Wr w base n (.slice A n c)) (hn : 0 < n) : ∃ gO T cs, A = some ⟨gO, 0, none⟩ ∧ base ≤ gO ∧ Row w gO T cs ∧ ∀ j, j < n → ∃ x : UInt8, cs[j]? = some (.int .u8 (x.toNat : Int)) := by
  obtain ⟨A', c', hv, hc⟩ := h
  cases hv
  exact hc hn
theorem Wr.of_own {w : World} {base e : Nat} {v : Value} {bs : List UInt8} (h : w.ownsRow base e 1 v bs.length (Lib.byteCells bs)) : Wr w base bs.length v := by
  rcases h.2 with ⟨rfl, hn⟩ | ⟨g, cap, cur, rfl, hb, hg, hnc, hcm, hsz, hcur⟩
  · exact ⟨_, _, by rw [hn], fun h => by omega⟩
  · refine ⟨_, _, rfl, fun hn => ⟨g, e, cur.toList, rfl, hb, by unfold Row; simpa using hg, fun j hj => ⟨bs[j], ?_⟩⟩⟩
    have h1 := (byteCells_get bs j hj)
    have hcell := h
    have : cur[j]? = (Lib.byteCells bs)[j]? := by
      rw [← hcur, List.getElem?_take_of_lt (by omega), Array.getElem?_toList]
    rw [Array.getElem?_toList, this]
    exact h1
theorem Wr.but {w w' : World} {base n g : Nat} {v : Value} (h : Wr w base n v) (hg : g < base) (hb : But w.heap.size g w w') : Wr w' base n v := by
  obtain ⟨A, c, hv, hc⟩ := h
  refine ⟨A, c, hv, fun hn => ?_⟩
  obtain ⟨gO, T, cs, hA, hbO, hr, hx⟩ := hc hn
  exact ⟨gO, T, cs, hA, hbO, hb.row hr hr.lt (by omega), hx⟩
theorem Wr.mono_ {w : World} {base base' n : Nat} {v : Value} (h : Wr w base' n v) (hb : base < base') : Wr w base n v := by
  obtain ⟨A, c, hv, hc⟩ := h
  refine ⟨A, c, hv, fun hn => ?_⟩
  obtain ⟨gO, T, cs, hA, hbO, hr, hx⟩ := hc hn
  exact ⟨gO, T, cs, hA, by omega, hr, hx⟩
theorem Wr.set_ {w : World} {base n gO c j : Nat} {T : TypeId} {cs : List Value} (x : UInt8) (hb : base ≤ gO) (hr : Row w gO T cs) (hx : ∀ j, j < n → ∃ x : UInt8, cs[j]? = some (.int .u8 (x.toNat : Int))) : Wr (w.setCell ⟨gO, j, none⟩ (.int .u8 (x.toNat : Int))) base n (.slice (some ⟨gO, 0, none⟩) n c) := by
  refine ⟨_, c, rfl, fun _ => ⟨gO, T, _, rfl, hb, hr.set_ j _, fun i hi => ?_⟩⟩
  by_cases hij : j = i
  · subst hij
    obtain ⟨y, hy⟩ := hx j hi
    exact ⟨x, by rw [List.getElem?_set_self (List.getElem?_eq_some_iff.1 hy).1]⟩
  · rw [List.getElem?_set_ne hij]
    exact hx i hi
theorem flat_few {bss : List (List UInt8)} (hfa : ∀ b ∈ bss, b.length ≤ 3000) : bss.flatten.length ≤ 3000 * bss.length := by
  induction bss with
  | nil => simp
  | cons x r ih =>
    have h1 := hfa x (by simp)
    have h2 := ih (fun b hb => hfa b (by simp [hb]))
    simp only [List.flatten_cons, List.length_append, List.length_cons]
    omega

set_option maxHeartbeats 800000 in
theorem hashes_walk (vp vb : Value) (bss : List (List UInt8)) (bl : List Bool) (w : World) (hp : PartsO w w.heap.size w.heap.size vp bss) (hbl : Slb w w.heap.size vb bl) (hn : bss.length ≤ 9223372036854775807) (hnb : bl.length ≤ 9223372036854775807) (hv : Vars w) :
    Calls Tryd.prog 5 #[vp, vb] w (TrueIs w) := by
  unfold TrueIs
  obtain ⟨A, c, rfl⟩ := hp.form
  obtain ⟨Ab, cb, rfl, hbc⟩ := hbl
  have HBL0 := Lib.hid (show Slb w w.heap.size (.slice Ab bl.length cb) bl from ⟨Ab, cb, rfl, hbc⟩)
  clear hbc
  have hal : ∀ (X : World) o, Below X.heap.size X (X.alloc o) := fun X o => Below.alloc (Below.refl _ _) (Nat.le_refl _) o
  generalize hn0 : w.heap.size = n0 at *
  go_enter Tryd.func5, Tryd.ntmps5
  go_wp2_with (go_at_call 11; refine (live_any _ hv).mono ?_)
  rintro e w1 ⟨rfl, b1⟩
  rw [hn0] at b1
  have hv1 := hv.step (by rw [hn0]; exact b1)
  have hp1 := hp.below b1
  have hs1 := b1.size
  rw [hn0] at hs1
  go_wp2_with (go_at_call 14; refine (few_any _ _ _ bss _ hp1 hn).mono ?_)
  rintro e w2 ⟨rfl, rfl⟩
  cases hf : fewB bss with
  | false =>
    go_wp2_with (go_at_call 11; refine (live_any _ hv1).mono ?_)
    rintro e w3 ⟨rfl, b3⟩
    go_wp2
    go_ret
    exact ⟨rfl, b1.trans (b3.mono hs1)⟩
  | true =>
    obtain ⟨hfa, hfb⟩ := few_yes hf
    have hfl2 : bss.flatten.length ≤ 120000 := by have := flat_few hfa; omega
    have hbsl : Hid (∀ b ∈ bss, b.length ≤ 3000) := Lib.hid hfa
    clear hf hfa
    go_wp2_with (go_at_call 20; refine (new_any _ hv1).mono ?_)
    rintro e w3 ⟨g, rfl, hg, hh3, b3⟩
    have hb3 := b1.trans (b3.mono hs1)
    have hv3 := hv1.step b3
    have hng : n0 ≤ g := by omega
    have hs3 := b3.size
    have hglt := hh3.lt
    clear b1 b3 hv1 hp1 hg hv
    go_wp2
    go_loopw [5, 6, 7, 8, 9, 10, 11, 12, 27] (fun h o _ _ _ _ _ _ i wr => ∃ (k g : Nat) (Aa : Option Addr) (la ca : Nat), k ≤ bss.length ∧ i = .int .i64 k ∧ h = .pointer (some ⟨g, 0, none⟩) ∧ o = .slice Aa la ca ∧ Hid (la = (bss.take k).flatten.length) ∧ n0 ≤ g ∧ HashAt wr g (bss.take k).flatten ∧ Hid (Sl wr wr.heap.size (.slice Aa la ca) (bss.take k).flatten) ∧ Hid (Off g (.slice Aa la ca)) ∧ Vars wr ∧ Below n0 w wr) (fun _ _ _ _ _ _ _ _ i _ => bss.length - (intOf i).toNat)
    case atStart =>
      refine ⟨0, g, _, 0, 0, Nat.zero_le _, rfl, rfl, rfl, Lib.hid rfl, hng, hh3.step (hal _ _), Lib.hid ⟨_, 0, rfl, Nat.le_refl _, by unfold maxLen; omega, fun h => absurd h (by simp)⟩, Lib.hid (fun x l c hx hl => ?_), hv3.step (hal _ _), hb3.trans ((hal _ _).mono (by omega))⟩
      cases hx
      omega
    case round =>
      clear hh3 hv3 hb3 hng hglt hs3
      obtain ⟨k, g, Aa, la, ca, hk, rfl, rfl, rfl, HLA, hng, hh, SA, OA, hv, hb⟩ := hrel
      have hsz := hb.size
      rw [hn0] at hsz
      by_cases hlt : k < bss.length
      · have hpr := hp.below hb
        obtain ⟨q, off, rfl, hq, hqg, hcc⟩ := hpr.at_ (by omega)
        obtain ⟨u, hu, hsu, hou⟩ := hcc k hlt
        have HF := Lib.hid (flat_snoc bss k hlt)
        have hfl := flat_le bss (k + 1)
        rw [HF.out, List.length_append] at hfl
        have hbk : bss[k].length ≤ 3000 := hbsl.out _ (List.getElem_mem hlt)
        clear hpr hcc hou
        obtain ⟨M, hM⟩ : ∃ M, M = (bss.take k).flatten := ⟨_, rfl⟩
        rw [← hM] at HLA hh SA HF hfl
        clear hM
        generalize bss[k] = bk at *
        obtain ⟨M2, HM2⟩ : ∃ M2, Hid (M2 = (bss.take (k + 1)).flatten) := ⟨_, Lib.hid rfl⟩
        rw [← HM2.out] at HF
        have hM2l : M2.length ≤ 130000 := by rw [HF.out, List.length_append]; omega
        have hMl : M.length ≤ 130000 := by omega
        have sa := SA.out
        have oa := OA.out
        rw [HLA.out] at sa oa ⊢
        clear SA OA HLA hfl
        obtain ⟨Au, cu, rfl, _, _⟩ := hsu.form
        obtain ⟨base, hbase⟩ : ∃ base, base = wr.heap.size := ⟨_, rfl⟩
        go_wp2_with (go_at_call 16; refine (refJoin_any (wr.heap.size + 1) (wr.heap.size + 1) _ [bk] _ (PartsO.solo (Row.new_ rfl rfl) (Nat.lt_succ_self _) (by omega) ((hsu.below ((hal wr _).mono hsz)).more (by omega)) (hsu.off (by omega))) (by rw [asz]; exact Nat.le_refl _) (by rw [flat_one]; omega) (by simp)).mono ?_)
        rintro e w3 ⟨v9, rfl, g9⟩
        rw [flat_one] at g9
        have s9 := gives_sl g9
        have o9 : Off g v9 := off_own g9.1 (by rw [asz]; have := hh.lt; omega)
        have r9 := Wr.of_own g9.1
        rw [asz, ← hbase] at r9
        have b3 := (hal _ _).trans (g9.2.mono (by rw [asz]; omega))
        have hh3 := hh.step b3
        have hv3 := hv.step b3
        have sa3 := sa.below b3
        have hb3 := hb.trans (b3.mono hsz)
        have hsu3 := hsu.below (b3.mono hsz)
        have hglt : g < base := by rw [hbase]; exact hh.lt
        have hbs3 : base < w3.heap.size := by have := g9.2.size; rw [asz] at this; omega
        have hsb : n0 ≤ base := by omega
        rw [← hbase] at sa3
        clear g9 b3 hh hv sa hb hsu hu hbase hsz
        obtain ⟨A9, c9, rfl, _, _⟩ := s9.form
        go_wp2_with (go_at_call 21; refine (write_any g M [bk] (w3.heap.size + 1) _ _ (hh3.step (hal w3 _)) (PartsO.solo (Row.new_ rfl rfl) (Nat.lt_succ_self _) (by omega) ((s9.below (hal w3 _)).more (by omega)) o9) (by rw [asz]; exact Nat.le_refl _) (hv3.step (hal w3 _)) (by rw [flat_one]; omega) (by simp)).mono ?_)
        rintro e w4 ⟨rfl, hh4, b4'⟩
        rw [flat_one, ← HF.out] at hh4
        have b4 : But w3.heap.size g w3 w4 := (But.of (hal w3 _) g).trans (b4'.mono (by rw [asz]; omega))
        have hv4 := hv3.but b4 hh3.1
        have sa4 : Sl w4 base _ M := sa3.but oa (b4.mono (by omega))
        have s94 := s9.but o9 b4
        have r94 := r9.mono_ (Nat.lt_succ_self base) |>.but hglt b4
        have hsu4 := hsu3.below (b4.under (by omega) hng)
        have hb4 := hb3.trans (b4.under (by omega) hng)
        have hbs4 : base < w4.heap.size := by have := b4.size; omega
        clear b4 b4' hh3 hv3 sa3 s9 r9 hsu3 hb3 hbs3 o9
        go_wp2_with (go_at_call 19; refine (refEqual_any _ _ _ _ bk bk _ s94 hsu4).mono ?_)
        rintro e w5 ⟨rfl, rfl⟩
        rw [show (bk == bk) = true by simp]
        clear s94
        go_wp2
        go_loopw [10, 48] (fun _ i wx => ∃ j : Nat, j ≤ bk.length ∧ i = .int .i64 j ∧ Wr wx base bk.length (.slice A9 bk.length c9) ∧ Below base w4 wx) (fun _ i _ => bk.length - (intOf i).toNat)
        case atStart => exact ⟨0, Nat.zero_le _, rfl, r94, Below.refl _ _⟩
        case round =>
          clear r94
          obtain ⟨j, hj, rfl, r94, bx⟩ := hrel
          by_cases hjl : j < bk.length
          · obtain ⟨gO, T, cs, rfl, hbO, hrO, hxs⟩ := r94.at_ (by omega)
            obtain ⟨x, hx⟩ := hxs j hjl
            have hc := hrO.cell j
            rw [hx] at hc
            have hfz := hrO.free j
            have HX := Lib.hid (u8_xor x 255)
            have HW := Lib.hid (Wr.set_ (j := j) (c := c9) (x ^^^ 255) hbO hrO hxs)
            have HBX := Lib.hid (bx.setCell (p := ⟨gO, j, none⟩) hbO (.int .u8 ((x ^^^ 255).toNat : Int)))
            have qx : bits .xor .u8 (x.toNat : Int) 255 = ((x ^^^ 255).toNat : Int) := HX.out
            clear hx hxs hrO r94 bx HX
            go_wp2
            go_roundw
            case rel => exact ⟨j + 1, by omega, by go_num, HW.out, HBX.out⟩
            case measure => simp [intOf]; omega
          · have hhx := hh4.below bx hglt
            have hvx : Vars wr := fun k hk => (bx.cell (p := ⟨0, k, none⟩) (show 0 < base by omega)).trans (hv4 k hk)
            have sax := sa4.below bx
            have hsux := hsu4.below (bx.mono (by omega))
            have hbx := hb4.trans (bx.mono (by omega))
            have hbsx : base < wr.heap.size := by have := bx.size; omega
            clear bx r94 hh4 hv4 sa4 hsu4 hb4 hbs4
            go_wp2_with (go_at_call 16; refine (refJoin_any (wr.heap.size + 1) (wr.heap.size + 1) _ [M, bk] _ (PartsO.two (Nat.lt_succ_self _) (by omega) (Row.new_ rfl rfl) ((sax.below ((hal wr _).mono (by omega))).more (by omega)) (sax.off (by omega)) ((hsux.below ((hal wr _).mono (by omega))).more (by omega)) (hsux.off (by omega))) (by rw [asz]; exact Nat.le_refl _) (by rw [two_flat, ← HF.out]; omega) (by simp)).mono ?_)
            rintro e w6 ⟨v6, rfl, g6⟩
            rw [two_flat, ← HF.out] at g6
            have sa6 := gives_sl g6
            have oa6 : Off g v6 := off_own g6.1 (by rw [asz]; have := hhx.lt; omega)
            have b6 := (hal _ _).trans (g6.2.mono (by rw [asz]; omega))
            have hh6 := hhx.step b6
            have hv6 := hvx.step b6
            have hb6 := hbx.trans (b6.mono (by omega))
            have hn06 : n0 ≤ w6.heap.size := by have := b6.size; omega
            have hbl6 := HBL0.out.below hb6
            clear g6 b6 hhx hvx sax hsux hbx oa
            obtain ⟨Aa, ca, rfl, _, _⟩ := sa6.form
            by_cases hkb : k < bl.length
            · obtain ⟨_, _, hvb, hcb⟩ := hbl6
              cases hvb
              obtain ⟨bb, ob, rfl, hbb, hbc⟩ := hcb (by omega)
              have hbck := hbc k hkb
              clear hbc hcb
              cases hbv : bl[k] with
              | true =>
                rw [hbv] at hbck
                go_wp2_with (go_at_call 22; refine (clone_any g M2 _ hh6).mono ?_)
                rintro e w7 ⟨g2, rfl, hg2, hh7, b7⟩
                have hg7 := hh6.step b7
                have hv7 := hv6.step b7
                have sa7 := sa6.below b7
                have hb7 := hb6.trans (b7.mono (by omega))
                have oa9 : Off g2 (.slice Aa M2.length ca) := sa6.off (by omega)
                have hgg : ¬ g2 = g := by have := hh6.lt; omega
                have hng2 : n0 ≤ g2 := by omega
                have z7 := b7.size
                have hg27 := hh7.lt
                have hgl7 := hg7.lt
                clear hg2 b7 hh6 hv6 sa6 hb6
                generalize hn7 : w7.heap.size = n7 at *
                have hcv := Go.Joins.run_convert_bytes_const_at (P := Tryd.prog) w7 30 5 #[.int .u8 111, .int .u8 116, .int .u8 104, .int .u8 101, .int .u8 114] 5 5 n7 hn7.symm Tryd.underlying30 Tryd.underlying5
                have bA : ∀ o o2, Below n7 w7 ((w7.alloc o).alloc o2) := fun o o2 => ((Below.refl n7 w7).alloc (by omega) o).alloc (by rw [asz]; omega) o2
                have hhA : ∀ o o2, HashAt ((w7.alloc o).alloc o2) g M2 := fun o o2 => hg7.below (bA o o2) hgl7
                have hvA : ∀ o o2, Vars ((w7.alloc o).alloc o2) := fun o o2 => hv7.step (by rw [hn7]; exact bA o o2)
                go_wp2_with (go_at_call 21; refine (write_any g M2 [[111, 116, 104, 101, 114]] (n7 + 2) _ _ (hhA _ _) (PartsO.solo (q := n7 + 1) (u := .slice (some ⟨n7, 0, none⟩) 5 5) (Row.new_ (by rw [asz, hn7]) rfl) (Nat.lt_succ_self _) (by omega) (Sl.of_block (heap_under (heap_new hn7.symm)) rfl (by omega) rfl (by decide)) (Off.at_ (by omega))) (by rw [asz, asz, hn7]; exact Nat.le_refl _) (hvA _ _) (by simp; omega) (by decide)).mono ?_)
                rintro e w9 ⟨rfl, _, b9'⟩
                have b9 : But n7 g w7 w9 := (But.of (bA _ _) g).trans (b9'.mono (by rw [asz, asz, hn7]; omega))
                have hh9 : HashAt w9 g2 M2 := hh7.but (by rw [hn7]; exact b9) hgg
                have hv9 : Vars w9 := hv7.but (by rw [hn7]; exact b9) hg7.1
                have sa9 := sa7.but oa6 (b9.mono (by omega))
                have hb9 := hb7.trans (b9.under (by omega) hng)
                have hn09 : n0 ≤ w9.heap.size := by have := b9.size; omega
                have h69 : w6.heap.size ≤ w9.heap.size := by have := b9.size; omega
                clear hcv bA hhA hvA b9 b9' hg7 hv7 sa7 hb7 hh7 oa6 hng
                have hng := hng2
                clear hng2 hn7
                have hzz := hn09
                go_wp2_with (go_at_call 23; refine (sum_any g2 M2 _ hh9 hv9 (by omega)).mono ?_)
                rintro e x1 ⟨rfl, c1⟩
                have hhx := hh9.step c1
                have hvx := hv9.step c1
                have sax := sa9.below (c1.mono (by omega))
                have hbx := hb9.trans (c1.mono (by omega))
                have zx := c1.size
                have offx := oa9
                clear c1 hh9 hv9 sa9 hb9 oa9
                obtain ⟨sm, HSM⟩ : ∃ sm, Hid (sm = sha M2) := ⟨_, Lib.hid rfl⟩
                have hsl : sm.length = 32 := by rw [HSM.out]; exact sha_length _
                rw [← HSM.out]
                have HSL := Lib.hid hsl
                go_wp2_with (refine wpList_store_any rfl 33 (.tmp 12) (.tmp 83) rfl x1.heap.size rfl (Lib.byteCells sm) rfl 33 (Lib.byteCells (List.replicate 32 0)) (Row.new_ rfl zero32b) (info_b32.trans (size_bytes _ _ hsl)) (by rw [Lib.byteCells_length, Lib.byteCells_length, hsl]; rfl) (cell_oneCell _) ?_)
                intro x2 hr2 bt zt
                try simp only [asz] at bt zt
                have b2 : Below x1.heap.size x1 x2 := (Below.alloc (Below.refl _ _) (Nat.le_refl _) _).trans (bt.under (Nat.le_succ _) (Nat.le_refl _))
                have hh2 := (hhx.step b2).drew
                have hv2 := (hvx.step b2).drew
                have sa2 := (sax.below (b2.mono (by omega))).drew
                have hb2 := (hbx.trans (b2.mono (by omega))).drew
                have hr3 := hr2.drew
                have hlt2 : x1.heap.size < x2.drew.heap.size := hr3.lt
                clear b2 bt zt hhx hvx sax hbx hr2
                go_wp2
                refine wp_region_held_drew (S := fun w' => True) (by kernel_rfl) trivial (fun hS => ?_)
                generalize x2.drew = X at *
                generalize hnx : x1.heap.size = nx at *
                refine held_value 0 _ _ (some 84) (.slice (some ⟨nx, 0, none⟩) 32 32) (by kernel_rfl) (by rfl) (by kernel_rfl) (fun w _ => by first | kernel_rfl | go_simp) (fun _ _ _ _ h => h) trivial ?_
                refine held_value 1 _ _ (some 85) (.slice Aa M2.length ca) (by kernel_rfl) (by rfl) (by kernel_rfl) (fun w _ => by first | kernel_rfl | go_simp) (fun _ _ _ _ h => h) trivial ?_
                simp only [Act.put, List.setIfInBounds_toArray, List.set_cons_zero, List.set_cons_succ]
                refine held_call 2 _ _ (some 86) 15 #[.slice Aa M2.length ca] (by kernel_rfl) (by rfl) (by kernel_rfl) (by kernel_rfl) ?_
                refine (refSum_any X.heap.size _ M2 X (sa2.more (by omega)) (Nat.le_refl _) (by omega)).mono ?_
                rintro e Y ⟨v86, rfl, g86⟩
                rw [← HSM.out] at g86
                have s86 := gives_sl g86
                have bY := g86.2
                have zY := bY.size
                have hhY := hh2.step bY
                have hvY := hv2.step bY
                have saY := sa2.below (bY.mono (by omega))
                have hbY := hb2.trans (bY.mono (by omega))
                have hrY := hr3.below bY hr3.lt
                clear g86 bY hh2 hv2 sa2 hb2 hr3
                refine ⟨_, rfl, trivial, ?_⟩
                simp only [Act.put, List.setIfInBounds_toArray, List.set_cons_zero, List.set_cons_succ]
                refine held_call 3 _ _ (some 87) 19 #[.slice (some ⟨nx, 0, none⟩) 32 32, v86] (by kernel_rfl) (by rfl) (by kernel_rfl) (by kernel_rfl) ?_
                refine (refEqual_any Y.heap.size Y.heap.size _ _ sm sm Y (Sl.of_bytes hrY hrY.lt HSL.out (by decide)) s86).mono ?_
                rintro e Y2 ⟨rfl, rfl⟩
                refine ⟨.bool true, by simp, trivial, ?_⟩
                simp only [Act.put, List.setIfInBounds_toArray, List.set_cons_zero, List.set_cons_succ]
                refine held_value 4 _ _ (some 88) (.bool false) (by kernel_rfl) (by rfl) (by kernel_rfl) (fun w _ => by first | kernel_rfl | go_simp) (fun _ _ _ _ h => h) trivial ?_
                simp only [Act.put, List.setIfInBounds_toArray, List.set_cons_zero, List.set_cons_succ]
                refine held_value 5 _ _ (some 89) (.bool false) (by kernel_rfl) (by rfl) (by kernel_rfl) (fun w _ => by first | kernel_rfl | go_simp) (fun _ _ _ _ h => h) trivial ?_
                simp only [Act.put, List.setIfInBounds_toArray, List.set_cons_zero, List.set_cons_succ]
                refine held_value 6 _ _ (some 90) (.pointer (some ⟨g2, 0, none⟩)) (by kernel_rfl) (by rfl) (by kernel_rfl) (fun w _ => by first | kernel_rfl | go_simp) (fun _ _ _ _ h => h) trivial ?_
                simp only [Act.put, List.setIfInBounds_toArray, List.set_cons_zero, List.set_cons_succ]
                refine held_value 8 _ _ (some 92) (.slice Aa M2.length ca) (by kernel_rfl) (by rfl) (by kernel_rfl) (fun w _ => by first | kernel_rfl | go_simp) (fun _ _ _ _ h => h) trivial ?_
                simp only [Act.put, List.setIfInBounds_toArray, List.set_cons_zero, List.set_cons_succ]
                refine held_value 9 _ _ (some 93) (.int .i64 (M2.length : Int)) (by kernel_rfl) (by rfl) (by kernel_rfl) (fun w _ => by first | kernel_rfl | go_simp) (fun _ _ _ _ h => h) trivial ?_
                simp only [Act.put, List.setIfInBounds_toArray, List.set_cons_zero, List.set_cons_succ]
                refine held_call 7 _ _ (some 91) 24 #[.pointer (some ⟨g2, 0, none⟩)] (by kernel_rfl) (by rfl) (by kernel_rfl) (by kernel_rfl) ?_
                refine (len_any g2 M2 _ hhY).mono ?_
                rintro e Y2 ⟨rfl, rfl⟩
                refine ⟨_, rfl, trivial, ?_⟩
                simp only [Act.put, List.setIfInBounds_toArray, List.set_cons_zero, List.set_cons_succ]
                refine held_value 10 _ _ (some 94) (.bool false) (by kernel_rfl) (by rfl) (by kernel_rfl) (fun w _ => by go_simp) (fun _ _ _ _ h => h) trivial ?_
                simp only [Act.put, List.setIfInBounds_toArray, List.set_cons_zero, List.set_cons_succ]
                refine held_value 11 _ _ (some 95) (.bool false) (by kernel_rfl) (by rfl) (by kernel_rfl) (fun w _ => by first | kernel_rfl | go_simp) (fun _ _ _ _ h => h) trivial ?_
                refine wpAnyH_done (by kernel_rfl) ?_ _
                simp only [Act.put, List.setIfInBounds_toArray, List.set_cons_zero, List.set_cons_succ]
                go_wp2
                go_roundw
                case rel => exact ⟨k + 1, g2, Aa, M2.length, ca, by omega, by go_num, rfl, rfl, Lib.hid (by rw [HM2.out]), hng, by rw [← HM2.out]; exact hhY, by rw [← HM2.out]; exact Lib.hid (saY.more (by omega)), Lib.hid offx, hvY, hbY⟩
                case measure => simp [intOf]; omega
              | false =>
                rw [hbv] at hbck
                have hzz := hn06
                go_wp2_with (go_at_call 23; refine (sum_any g M2 _ hh6 hv6 (by omega)).mono ?_)
                rintro e x1 ⟨rfl, c1⟩
                have hhx := hh6.step c1
                have hvx := hv6.step c1
                have sax := sa6.below c1
                have hbx := hb6.trans (c1.mono (by omega))
                have zx := c1.size
                have offx := oa6
                clear c1 hh6 hv6 sa6 hb6 oa6
                obtain ⟨sm, HSM⟩ : ∃ sm, Hid (sm = sha M2) := ⟨_, Lib.hid rfl⟩
                have hsl : sm.length = 32 := by rw [HSM.out]; exact sha_length _
                rw [← HSM.out]
                have HSL := Lib.hid hsl
                go_wp2_with (refine wpList_store_any rfl 33 (.tmp 12) (.tmp 83) rfl x1.heap.size rfl (Lib.byteCells sm) rfl 33 (Lib.byteCells (List.replicate 32 0)) (Row.new_ rfl zero32b) (info_b32.trans (size_bytes _ _ hsl)) (by rw [Lib.byteCells_length, Lib.byteCells_length, hsl]; rfl) (cell_oneCell _) ?_)
                intro x2 hr2 bt zt
                try simp only [asz] at bt zt
                have b2 : Below x1.heap.size x1 x2 := (Below.alloc (Below.refl _ _) (Nat.le_refl _) _).trans (bt.under (Nat.le_succ _) (Nat.le_refl _))
                have hh2 := (hhx.step b2).drew
                have hv2 := (hvx.step b2).drew
                have sa2 := (sax.below (b2.mono (by omega))).drew
                have hb2 := (hbx.trans (b2.mono (by omega))).drew
                have hr3 := hr2.drew
                have hlt2 : x1.heap.size < x2.drew.heap.size := hr3.lt
                clear b2 bt zt hhx hvx sax hbx hr2
                go_wp2
                refine wp_region_held_drew (S := fun w' => True) (by kernel_rfl) trivial (fun hS => ?_)
                generalize x2.drew = X at *
                generalize hnx : x1.heap.size = nx at *
                refine held_value 0 _ _ (some 84) (.slice (some ⟨nx, 0, none⟩) 32 32) (by kernel_rfl) (by rfl) (by kernel_rfl) (fun w _ => by first | kernel_rfl | go_simp) (fun _ _ _ _ h => h) trivial ?_
                refine held_value 1 _ _ (some 85) (.slice Aa M2.length ca) (by kernel_rfl) (by rfl) (by kernel_rfl) (fun w _ => by first | kernel_rfl | go_simp) (fun _ _ _ _ h => h) trivial ?_
                simp only [Act.put, List.setIfInBounds_toArray, List.set_cons_zero, List.set_cons_succ]
                refine held_call 2 _ _ (some 86) 15 #[.slice Aa M2.length ca] (by kernel_rfl) (by rfl) (by kernel_rfl) (by kernel_rfl) ?_
                refine (refSum_any X.heap.size _ M2 X (sa2.more (by omega)) (Nat.le_refl _) (by omega)).mono ?_
                rintro e Y ⟨v86, rfl, g86⟩
                rw [← HSM.out] at g86
                have s86 := gives_sl g86
                have bY := g86.2
                have zY := bY.size
                have hhY := hh2.step bY
                have hvY := hv2.step bY
                have saY := sa2.below (bY.mono (by omega))
                have hbY := hb2.trans (bY.mono (by omega))
                have hrY := hr3.below bY hr3.lt
                clear g86 bY hh2 hv2 sa2 hb2 hr3
                refine ⟨_, rfl, trivial, ?_⟩
                simp only [Act.put, List.setIfInBounds_toArray, List.set_cons_zero, List.set_cons_succ]
                refine held_call 3 _ _ (some 87) 19 #[.slice (some ⟨nx, 0, none⟩) 32 32, v86] (by kernel_rfl) (by rfl) (by kernel_rfl) (by kernel_rfl) ?_
                refine (refEqual_any Y.heap.size Y.heap.size _ _ sm sm Y (Sl.of_bytes hrY hrY.lt HSL.out (by decide)) s86).mono ?_
                rintro e Y2 ⟨rfl, rfl⟩
                refine ⟨.bool true, by simp, trivial, ?_⟩
                simp only [Act.put, List.setIfInBounds_toArray, List.set_cons_zero, List.set_cons_succ]
                refine held_value 4 _ _ (some 88) (.bool false) (by kernel_rfl) (by rfl) (by kernel_rfl) (fun w _ => by first | kernel_rfl | go_simp) (fun _ _ _ _ h => h) trivial ?_
                simp only [Act.put, List.setIfInBounds_toArray, List.set_cons_zero, List.set_cons_succ]
                refine held_value 5 _ _ (some 89) (.bool false) (by kernel_rfl) (by rfl) (by kernel_rfl) (fun w _ => by first | kernel_rfl | go_simp) (fun _ _ _ _ h => h) trivial ?_
                simp only [Act.put, List.setIfInBounds_toArray, List.set_cons_zero, List.set_cons_succ]
                refine held_value 6 _ _ (some 90) (.pointer (some ⟨g, 0, none⟩)) (by kernel_rfl) (by rfl) (by kernel_rfl) (fun w _ => by first | kernel_rfl | go_simp) (fun _ _ _ _ h => h) trivial ?_
                simp only [Act.put, List.setIfInBounds_toArray, List.set_cons_zero, List.set_cons_succ]
                refine held_value 8 _ _ (some 92) (.slice Aa M2.length ca) (by kernel_rfl) (by rfl) (by kernel_rfl) (fun w _ => by first | kernel_rfl | go_simp) (fun _ _ _ _ h => h) trivial ?_
                simp only [Act.put, List.setIfInBounds_toArray, List.set_cons_zero, List.set_cons_succ]
                refine held_value 9 _ _ (some 93) (.int .i64 (M2.length : Int)) (by kernel_rfl) (by rfl) (by kernel_rfl) (fun w _ => by first | kernel_rfl | go_simp) (fun _ _ _ _ h => h) trivial ?_
                simp only [Act.put, List.setIfInBounds_toArray, List.set_cons_zero, List.set_cons_succ]
                refine held_call 7 _ _ (some 91) 24 #[.pointer (some ⟨g, 0, none⟩)] (by kernel_rfl) (by rfl) (by kernel_rfl) (by kernel_rfl) ?_
                refine (len_any g M2 _ hhY).mono ?_
                rintro e Y2 ⟨rfl, rfl⟩
                refine ⟨_, rfl, trivial, ?_⟩
                simp only [Act.put, List.setIfInBounds_toArray, List.set_cons_zero, List.set_cons_succ]
                refine held_value 10 _ _ (some 94) (.bool false) (by kernel_rfl) (by rfl) (by kernel_rfl) (fun w _ => by go_simp) (fun _ _ _ _ h => h) trivial ?_
                simp only [Act.put, List.setIfInBounds_toArray, List.set_cons_zero, List.set_cons_succ]
                refine held_value 11 _ _ (some 95) (.bool false) (by kernel_rfl) (by rfl) (by kernel_rfl) (fun w _ => by first | kernel_rfl | go_simp) (fun _ _ _ _ h => h) trivial ?_
                refine wpAnyH_done (by kernel_rfl) ?_ _
                simp only [Act.put, List.setIfInBounds_toArray, List.set_cons_zero, List.set_cons_succ]
                go_wp2
                go_roundw
                case rel => exact ⟨k + 1, g, Aa, M2.length, ca, by omega, by go_num, rfl, rfl, Lib.hid (by rw [HM2.out]), hng, by rw [← HM2.out]; exact hhY, by rw [← HM2.out]; exact Lib.hid (saY.more (by omega)), Lib.hid offx, hvY, hbY⟩
                case measure => simp [intOf]; omega
            · clear hbl6
              have hzz := hn06
              go_wp2_with (go_at_call 23; refine (sum_any g M2 _ hh6 hv6 (by omega)).mono ?_)
              rintro e x1 ⟨rfl, c1⟩
              have hhx := hh6.step c1
              have hvx := hv6.step c1
              have sax := sa6.below c1
              have hbx := hb6.trans (c1.mono (by omega))
              have zx := c1.size
              have offx := oa6
              clear c1 hh6 hv6 sa6 hb6 oa6
              obtain ⟨sm, HSM⟩ : ∃ sm, Hid (sm = sha M2) := ⟨_, Lib.hid rfl⟩
              have hsl : sm.length = 32 := by rw [HSM.out]; exact sha_length _
              rw [← HSM.out]
              have HSL := Lib.hid hsl
              go_wp2_with (refine wpList_store_any rfl 33 (.tmp 12) (.tmp 83) rfl x1.heap.size rfl (Lib.byteCells sm) rfl 33 (Lib.byteCells (List.replicate 32 0)) (Row.new_ rfl zero32b) (info_b32.trans (size_bytes _ _ hsl)) (by rw [Lib.byteCells_length, Lib.byteCells_length, hsl]; rfl) (cell_oneCell _) ?_)
              intro x2 hr2 bt zt
              try simp only [asz] at bt zt
              have b2 : Below x1.heap.size x1 x2 := (Below.alloc (Below.refl _ _) (Nat.le_refl _) _).trans (bt.under (Nat.le_succ _) (Nat.le_refl _))
              have hh2 := (hhx.step b2).drew
              have hv2 := (hvx.step b2).drew
              have sa2 := (sax.below (b2.mono (by omega))).drew
              have hb2 := (hbx.trans (b2.mono (by omega))).drew
              have hr3 := hr2.drew
              have hlt2 : x1.heap.size < x2.drew.heap.size := hr3.lt
              clear b2 bt zt hhx hvx sax hbx hr2
              go_wp2
              refine wp_region_held_drew (S := fun w' => True) (by kernel_rfl) trivial (fun hS => ?_)
              generalize x2.drew = X at *
              generalize hnx : x1.heap.size = nx at *
              refine held_value 0 _ _ (some 84) (.slice (some ⟨nx, 0, none⟩) 32 32) (by kernel_rfl) (by rfl) (by kernel_rfl) (fun w _ => by first | kernel_rfl | go_simp) (fun _ _ _ _ h => h) trivial ?_
              refine held_value 1 _ _ (some 85) (.slice Aa M2.length ca) (by kernel_rfl) (by rfl) (by kernel_rfl) (fun w _ => by first | kernel_rfl | go_simp) (fun _ _ _ _ h => h) trivial ?_
              simp only [Act.put, List.setIfInBounds_toArray, List.set_cons_zero, List.set_cons_succ]
              refine held_call 2 _ _ (some 86) 15 #[.slice Aa M2.length ca] (by kernel_rfl) (by rfl) (by kernel_rfl) (by kernel_rfl) ?_
              refine (refSum_any X.heap.size _ M2 X (sa2.more (by omega)) (Nat.le_refl _) (by omega)).mono ?_
              rintro e Y ⟨v86, rfl, g86⟩
              rw [← HSM.out] at g86
              have s86 := gives_sl g86
              have bY := g86.2
              have zY := bY.size
              have hhY := hh2.step bY
              have hvY := hv2.step bY
              have saY := sa2.below (bY.mono (by omega))
              have hbY := hb2.trans (bY.mono (by omega))
              have hrY := hr3.below bY hr3.lt
              clear g86 bY hh2 hv2 sa2 hb2 hr3
              refine ⟨_, rfl, trivial, ?_⟩
              simp only [Act.put, List.setIfInBounds_toArray, List.set_cons_zero, List.set_cons_succ]
              refine held_call 3 _ _ (some 87) 19 #[.slice (some ⟨nx, 0, none⟩) 32 32, v86] (by kernel_rfl) (by rfl) (by kernel_rfl) (by kernel_rfl) ?_
              refine (refEqual_any Y.heap.size Y.heap.size _ _ sm sm Y (Sl.of_bytes hrY hrY.lt HSL.out (by decide)) s86).mono ?_
              rintro e Y2 ⟨rfl, rfl⟩
              refine ⟨.bool true, by simp, trivial, ?_⟩
              simp only [Act.put, List.setIfInBounds_toArray, List.set_cons_zero, List.set_cons_succ]
              refine held_value 4 _ _ (some 88) (.bool false) (by kernel_rfl) (by rfl) (by kernel_rfl) (fun w _ => by first | kernel_rfl | go_simp) (fun _ _ _ _ h => h) trivial ?_
              simp only [Act.put, List.setIfInBounds_toArray, List.set_cons_zero, List.set_cons_succ]
              refine held_value 5 _ _ (some 89) (.bool false) (by kernel_rfl) (by rfl) (by kernel_rfl) (fun w _ => by first | kernel_rfl | go_simp) (fun _ _ _ _ h => h) trivial ?_
              simp only [Act.put, List.setIfInBounds_toArray, List.set_cons_zero, List.set_cons_succ]
              refine held_value 6 _ _ (some 90) (.pointer (some ⟨g, 0, none⟩)) (by kernel_rfl) (by rfl) (by kernel_rfl) (fun w _ => by first | kernel_rfl | go_simp) (fun _ _ _ _ h => h) trivial ?_
              simp only [Act.put, List.setIfInBounds_toArray, List.set_cons_zero, List.set_cons_succ]
              refine held_value 8 _ _ (some 92) (.slice Aa M2.length ca) (by kernel_rfl) (by rfl) (by kernel_rfl) (fun w _ => by first | kernel_rfl | go_simp) (fun _ _ _ _ h => h) trivial ?_
              simp only [Act.put, List.setIfInBounds_toArray, List.set_cons_zero, List.set_cons_succ]
              refine held_value 9 _ _ (some 93) (.int .i64 (M2.length : Int)) (by kernel_rfl) (by rfl) (by kernel_rfl) (fun w _ => by first | kernel_rfl | go_simp) (fun _ _ _ _ h => h) trivial ?_
              simp only [Act.put, List.setIfInBounds_toArray, List.set_cons_zero, List.set_cons_succ]
              refine held_call 7 _ _ (some 91) 24 #[.pointer (some ⟨g, 0, none⟩)] (by kernel_rfl) (by rfl) (by kernel_rfl) (by kernel_rfl) ?_
              refine (len_any g M2 _ hhY).mono ?_
              rintro e Y2 ⟨rfl, rfl⟩
              refine ⟨_, rfl, trivial, ?_⟩
              simp only [Act.put, List.setIfInBounds_toArray, List.set_cons_zero, List.set_cons_succ]
              refine held_value 10 _ _ (some 94) (.bool false) (by kernel_rfl) (by rfl) (by kernel_rfl) (fun w _ => by go_simp) (fun _ _ _ _ h => h) trivial ?_
              simp only [Act.put, List.setIfInBounds_toArray, List.set_cons_zero, List.set_cons_succ]
              refine held_value 11 _ _ (some 95) (.bool false) (by kernel_rfl) (by rfl) (by kernel_rfl) (fun w _ => by first | kernel_rfl | go_simp) (fun _ _ _ _ h => h) trivial ?_
              refine wpAnyH_done (by kernel_rfl) ?_ _
              simp only [Act.put, List.setIfInBounds_toArray, List.set_cons_zero, List.set_cons_succ]
              go_wp2
              go_roundw
              case rel => exact ⟨k + 1, g, Aa, M2.length, ca, by omega, by go_num, rfl, rfl, Lib.hid (by rw [HM2.out]), hng, by rw [← HM2.out]; exact hhY, by rw [← HM2.out]; exact Lib.hid (saY.more (by omega)), Lib.hid offx, hvY, hbY⟩
              case measure => simp [intOf]; omega
      · clear hp
        go_wp2
        go_ret
        exact ⟨rfl, hb⟩
end Go.Proofs.YthafhghnciofaaaDoor
