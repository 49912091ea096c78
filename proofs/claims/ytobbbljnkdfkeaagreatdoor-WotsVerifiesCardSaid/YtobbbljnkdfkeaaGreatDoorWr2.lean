/-
  THE PROGRAM'S OWN grown.
-/
import Derived.Test.YtobbbljnkdfkeaaGreatDoorWq9
import Derived.Test.YtobbbljnkdfkeaaGreatDoorWr1
namespace Go.Proofs.YtobbbljnkdfkeaaGreatDoor
open Go.RowKit
set_option maxRecDepth 100000
set_option maxHeartbeats 2000000 in
theorem grown_24 (xc : Int) (xs : Bool) (xh : Int) (hx : (⟨xc, xs, 24, xh, 51⟩ : S5).ok = true) (vk vs vc : Value) (sk seed : List UInt8) (a : List UInt32) (ha : a.length = 8) (cl : List Nat) (d : Nat → Nat) (hcl : cl.length = 51) (hd : ∀ i, i < 51 → cl.getD i 0 = d i ∧ d i ≤ 15) (w : World) (hk : Sl w w.heap.size vk sk) (hs : Sl w w.heap.size vs seed) (hc : SI w w.heap.size vc cl) (ht : Tabs w)
    (hkl : sk.length = 24) (hsl : seed.length = 24) :
    Calls Tryz.prog 19 #[.agg #[.int .u32 xc, .bool xs, .int .i64 24, .int .i64 xh, .int .i64 51], vk, vs, adrV a, vc] w (SlIs w (endsB xs 24 sk seed a d 51)) := by
  unfold SlIs
  obtain ⟨Ak, ck, rfl, _, _⟩ := hk.form
  obtain ⟨As, cs, rfl, _, _⟩ := hs.form
  obtain ⟨Ac, cc, rfl, _, _⟩ := hc.form
  obtain ⟨gc, hAc, hgc, hgc2, hcc⟩ := hc.at_ (by omega)
  subst hAc
  have H0 : Shh (Sl w w.heap.size (.slice Ak sk.length ck) sk ∧ Sl w w.heap.size (.slice As seed.length cs) seed ∧ Tabs w ∧ gc < w.heap.size ∧ ∀ j (h : j < cl.length), w.cell? ⟨gc, j, none⟩ = some (.int .i64 ((cl[j] : Nat) : Int))) := ⟨hk, hs, ht, hgc2, hcc⟩
  clear hk hs ht hc hcc hgc hgc2
  have HST : Shh (∀ W, Sl W W.heap.size (.slice Ak sk.length ck) sk → Sl W W.heap.size (.slice As seed.length cs) seed → Tabs W → (w.heap.size + 1) < W.heap.size → Calls Tryz.prog 32 #[.agg #[.int .u32 xc, .bool xs, .int .i64 24, .int .i64 xh, .int .i64 51], .slice Ak sk.length ck, .slice As seed.length cs] W (StarterIs W (w.heap.size + 1) (⟨xc, xs, 24, xh, 51⟩ : S5) sk seed)) := ⟨fun W h1 h2 h3 h4 => starter_any (⟨xc, xs, 24, xh, 51⟩ : S5) hx _ _ sk seed W h1 (by omega) h2 (by omega) h3 (w.heap.size + 1) h4 (H0.out.2.1.off (by omega))⟩
  have HWK : Shh (∀ W, Sl W W.heap.size (.slice As seed.length cs) seed → Tabs W → (w.heap.size + 1) < W.heap.size → Calls Tryz.prog 25 #[.agg #[.int .u32 xc, .bool xs, .int .i64 24, .int .i64 xh, .int .i64 51], .slice As seed.length cs] W (WalkerIs W (w.heap.size + 1) (⟨xc, xs, 24, xh, 51⟩ : S5) seed)) := ⟨fun W h1 h2 h3 => walker_any (⟨xc, xs, 24, xh, 51⟩ : S5) hx _ seed W h1 (by omega) h2 (w.heap.size + 1) h3⟩
  have HLE : Shh (∀ k, (endsB xs 24 sk seed a d k).length = 24 * k) := ⟨fun k => endsB_len (x := (⟨xc, xs, 24, xh, 51⟩ : S5)) hx sk seed a d k⟩
  have HLB : Shh (∀ key m, (keyd xs 24 4 key m).length = 24) := ⟨fun key m => (ok_len (x := (⟨xc, xs, 24, xh, 51⟩ : S5)) hx 4 key m).1⟩
  have HGO : Shh (∀ a b f k, b.length = 24 → (goB xs 24 seed a b f k).length = 24) := ⟨fun a b f k hb => goB_length (x := (⟨xc, xs, 24, xh, 51⟩ : S5)) hx seed a b f k hb⟩
  have HD : Shh (cl.length = 51 ∧ ∀ i, i < 51 → cl.getD i 0 = d i ∧ d i ≤ 15) := ⟨hcl, hd⟩
  have HA : Shh (a.length = 8 ∧ (wordCells a).length = 8 ∧ ∀ k, (wordCells (atA a k)).length = 8) := ⟨ha, by rw [wordCells_length]; exact ha, fun k => by rw [wordCells_length, atA_length]; exact ha⟩
  clear ha hcl hd hx
  obtain ⟨zl, HZL⟩ : ∃ zl : List UInt8, Shh (zl = List.replicate 1224 0) := ⟨_, ⟨rfl⟩⟩
  have hmk : ∀ u : World, (Instr.makeSlice 25 (.int .i64 0) (.int .i64 1224)).run Tryz.prog u = .ok (.slice (some ⟨u.heap.size, 0, none⟩) 0 1224) (u.alloc (.cells (Lib.byteCells zl).toArray 5)) := fun u => by rw [HZL.out]; exact make0_run 1224 (by decide) u
  obtain ⟨W, hW⟩ : ∃ W, W = (w.alloc (.cells #[.int .u32 xc, .bool xs, .int .i64 24, .int .i64 xh, .int .i64 51] 24)).alloc (.cells (wordCells a).toArray 27) := ⟨_, rfl⟩
  have HW : Shh (Row W w.heap.size 24 [.int .u32 xc, .bool xs, .int .i64 24, .int .i64 xh, .int .i64 51] ∧ Row W (w.heap.size + 1) 27 (wordCells a) ∧ Below w.heap.size w W) := by
    rw [hW]
    exact ⟨(Row.new_ rfl rfl).alloc _, Row.new_ (by rw [asz]) rfl, Below.chain (below1 _ _) (below1 _ _)⟩
  unfold adrV
  go_enter Tryz.func19, Tryz.ntmps19
  go_wp2_with fail
  rw [← hW]
  clear hW
  refine wp_region_held_drew (S := fun w' => Row w' w.heap.size 24 [.int .u32 xc, .bool xs, .int .i64 24, .int .i64 xh, .int .i64 51]) (by kernel_rfl) HW.out.1.drew (fun hS => ?_)
  clear hS
  obtain ⟨V, hV⟩ : ∃ V, V = World.drew W := ⟨_, rfl⟩
  rw [← hV]
  have rX : Row V w.heap.size 24 [.int .u32 xc, .bool xs, .int .i64 24, .int .i64 xh, .int .i64 51] := by rw [hV]; exact HW.out.1.drew
  have rA : Row V (w.heap.size + 1) 27 (wordCells a) := by rw [hV]; exact HW.out.2.1.drew
  have HBV : Below w.heap.size w V := by rw [hV]; exact HW.out.2.2.drew
  have sK : Sl V V.heap.size (.slice Ak sk.length ck) sk := H0.out.1.go HBV
  have sS : Sl V V.heap.size (.slice As seed.length cs) seed := H0.out.2.1.go HBV
  have rT : Tabs V := H0.out.2.2.1.go HBV
  clear hV HW
  refine held_value 1 _ _ (some 17) (.slice Ak sk.length ck) (by kernel_rfl) (by rfl) (by kernel_rfl) (fun w hS => by first | kernel_rfl | go_simp) (fun _ _ _ _ h => h) (rX) ?_
  simp only [Act.put, List.setIfInBounds_toArray, List.set_cons_zero, List.set_cons_succ]
  refine held_value 2 _ _ (some 18) (.slice As seed.length cs) (by kernel_rfl) (by rfl) (by kernel_rfl) (fun w hS => by first | kernel_rfl | go_simp) (fun _ _ _ _ h => h) (rX) ?_
  simp only [Act.put, List.setIfInBounds_toArray, List.set_cons_zero, List.set_cons_succ]
  refine held_value 5 _ _ (some 21) (.slice As seed.length cs) (by kernel_rfl) (by rfl) (by kernel_rfl) (fun w hS => by first | kernel_rfl | go_simp) (fun _ _ _ _ h => h) (rX) ?_
  simp only [Act.put, List.setIfInBounds_toArray, List.set_cons_zero, List.set_cons_succ]
  refine held_load 0 24 (.tmp 5) (some 16) (by kernel_rfl) (by rfl) (by kernel_rfl) w.heap.size 0 (by kernel_rfl) ([.int .u32 xc, .bool xs, .int .i64 24, .int .i64 xh, .int .i64 51]) _ (fun w h => h.range) Tryz.underlying24 rfl (info_xms) (fun _ _ _ _ h => h) (rX) ?_
  simp only [Act.put, List.setIfInBounds_toArray, List.set_cons_zero, List.set_cons_succ]
  refine held_load 4 24 (.tmp 5) (some 20) (by kernel_rfl) (by rfl) (by kernel_rfl) w.heap.size 0 (by kernel_rfl) ([.int .u32 xc, .bool xs, .int .i64 24, .int .i64 xh, .int .i64 51]) _ (fun w h => h.range) Tryz.underlying24 rfl (info_xms) (fun _ _ _ _ h => h) (rX) ?_
  simp only [Act.put, List.setIfInBounds_toArray, List.set_cons_zero, List.set_cons_succ]
  refine held_one 3 (by kernel_rfl) ?_
  refine step_call 3 _ _ (some 19) 32 #[.agg ([.int .u32 xc, .bool xs, .int .i64 24, .int .i64 xh, .int .i64 51]).toArray, .slice Ak sk.length ck, .slice As seed.length cs] (by rfl) (by kernel_rfl) (by first | kernel_rfl | go_simp) ?_
  refine (HST.out V (sK) (sS) (rT) (rA).lt).mono ?_
  rintro e Y1 ⟨v, rfl, kv, bv⟩
  have bx : Below V.heap.size V Y1 := bv
  have kS := kv
  obtain ⟨Fs, p1, p2, vEq, _, _⟩ := kv
  subst vEq
  have b_V := bx
  have m_Y1 : V.heap.size ≤ Y1.heap.size := bx.size
  clear bx
  refine ⟨_, rfl, (rX.go b_V), ?_⟩
  simp only [Act.put, List.setIfInBounds_toArray, List.set_cons_zero, List.set_cons_succ]
  refine held_one 6 (by kernel_rfl) ?_
  refine step_call 6 _ _ (some 22) 25 #[.agg ([.int .u32 xc, .bool xs, .int .i64 24, .int .i64 xh, .int .i64 51]).toArray, .slice As seed.length cs] (by rfl) (by kernel_rfl) (by first | kernel_rfl | go_simp) ?_
  refine (HWK.out Y1 ((sS.go b_V)) ((rT.go b_V)) ((rA.go b_V)).lt).mono ?_
  rintro e Y2 ⟨v, rfl, kv, bv⟩
  have bx : Below Y1.heap.size Y1 Y2 := bv
  have kW := kv
  obtain ⟨Fw, q1, q2, vEq, _, _⟩ := kv
  subst vEq
  replace b_V := Below.chain b_V bx
  have b_Y1 := bx
  have m_Y2 : Y1.heap.size ≤ Y2.heap.size := bx.size
  clear bx
  refine ⟨_, rfl, (rX.go b_V), ?_⟩
  simp only [Act.put, List.setIfInBounds_toArray, List.set_cons_zero, List.set_cons_succ]
  refine held_value 7 _ _ (some 11) (.func (.func Fs) #[] #[p1, p2]) (by kernel_rfl) (by rfl) (by kernel_rfl) (fun w hS => by first | kernel_rfl | go_simp) (fun _ _ _ _ h => h) ((rX.go b_V)) ?_
  simp only [Act.put, List.setIfInBounds_toArray, List.set_cons_zero, List.set_cons_succ]
  refine held_value 8 _ _ (some 12) (.func (.func Fw) #[] #[q1, q2]) (by kernel_rfl) (by rfl) (by kernel_rfl) (fun w hS => by first | kernel_rfl | go_simp) (fun _ _ _ _ h => h) ((rX.go b_V)) ?_
  simp only [Act.put, List.setIfInBounds_toArray, List.set_cons_zero, List.set_cons_succ]
  refine wpAnyH_done (by kernel_rfl) ?_ _
  have H2 : Shh (Row Y2 w.heap.size 24 [.int .u32 xc, .bool xs, .int .i64 24, .int .i64 xh, .int .i64 51] ∧ Row Y2 (w.heap.size + 1) 27 (wordCells a) ∧ Below w.heap.size w Y2) := ⟨(rX.go b_V), (rA.go b_V), Below.chain HBV b_V⟩
  have kS2 := (kS.go b_Y1)
  have kW2 := kW
  obtain ⟨_, _, _, eS, hcs, hks⟩ := kS2
  cases eS
  obtain ⟨_, _, _, eW, hcw, hkw⟩ := kW2
  cases eW
  have HKS := Shh.mk hks
  have HKW := Shh.mk hkw
  clear m_Y2 b_Y1 kW m_Y1 b_V kS bv HBV rX rA sK sS rT hks hkw
  have e2 := H2.out.1.cell 2
  have e4 := H2.out.1.cell 4
  simp only [List.getElem?_cons_succ, List.getElem?_cons_zero] at e2 e4
  obtain ⟨W4, hW4⟩ : ∃ W4, W4 = Y2.alloc (.cells (Lib.byteCells zl).toArray 5) := ⟨_, rfl⟩
  obtain ⟨B, hB⟩ : ∃ B, Shh (B = Y2.heap.size) := ⟨_, ⟨rfl⟩⟩
  have H5 : Shh (But Y2.heap.size (w.heap.size + 1) Y2 W4 ∧ Row W4 w.heap.size 24 [.int .u32 xc, .bool xs, .int .i64 24, .int .i64 xh, .int .i64 51] ∧ Own W4 B (.slice (some ⟨B, 0, none⟩) 0 1224) [] ∧ Row W4 (w.heap.size + 1) 27 (wordCells a) ∧ B ≤ W4.heap.size) := by
    rw [hW4, hB.out]
    exact ⟨But.of (below1 _ _) _, H2.out.1.alloc _, World.ownsRow_made Y2 _ 1224 (Nat.le_refl _) (by unfold maxLen; omega) (by rw [HZL.out]; simp [Lib.byteCells]), H2.out.2.1.alloc _, by rw [asz]; omega⟩
  have HB2 : Shh (w.heap.size + 1 < B ∧ Below w.heap.size w Y2 ∧ B = Y2.heap.size) := ⟨by rw [hB.out]; exact H2.out.2.1.lt, H2.out.2.2, hB.out⟩
  go_wp2
  rw [← hB.out, ← hW4]
  clear H2 hW4 hB e2 e4 hmk HZL HST HWK
  go_loopw [13, 31] (fun o i wr => ∃ (k : Nat) (a' : List UInt32), k ≤ 51 ∧ i = .int .i64 (k : Int) ∧ Shh (a'.length = 8 ∧ (∀ i, atA a' i = atA a i) ∧ Row wr (w.heap.size + 1) 27 (wordCells a') ∧ Row wr w.heap.size 24 [.int .u32 xc, .bool xs, .int .i64 24, .int .i64 xh, .int .i64 51] ∧ But Y2.heap.size (w.heap.size + 1) Y2 wr ∧ B ≤ wr.heap.size) ∧ Shh (Own wr B o (endsB xs 24 sk seed a d k))) (fun _ i _ => 51 - (intOf i).toNat)
  case atStart => exact ⟨0, a, Nat.zero_le _, rfl, ⟨HA.out.1, fun _ => rfl, H5.out.2.2.2.1, H5.out.2.1, H5.out.1, H5.out.2.2.2.2⟩, ⟨H5.out.2.2.1⟩⟩
  case round =>
    clear H5
    obtain ⟨k, a', hk, rfl, HL, HO⟩ := hrel
    have ho := HO.out
    obtain ⟨Ao, co, rfl⟩ := own_form ho
    clear ho
    have HBW : Shh (Below w.heap.size w wr) := ⟨HB2.out.2.1.trans (HL.out.2.2.2.2.1.under (by have := HB2.out; omega) (by omega))⟩
    by_cases hlt : k < 51
    · obtain ⟨dk, hdk⟩ : ∃ dk, dk = d k := ⟨_, rfl⟩
      have hkd : k < cl.length := by rw [HD.out.1]; exact hlt
      have hdg : cl[k] = dk := by
        have h := (HD.out.2 k hlt).1
        rw [List.getD_eq_getElem?_getD, List.getElem?_eq_getElem hkd] at h
        rw [hdk]
        exact h
      have hd16 : dk ≤ 15 := by rw [hdk]; exact (HD.out.2 k hlt).2
      have hck := (HBW.out.cell (p := ⟨gc, k, none⟩) H0.out.2.2.2.1).trans (H0.out.2.2.2.2 k hkd)
      rw [hdg] at hck
      have hkdi : (k : Int) < (cl.length : Int) := by omega
      have hkq : (k : Int) % 4294967296 = (k : Int) := by omega
      obtain ⟨bg, hbg⟩ : ∃ bg, bg = keyd xs 24 4 sk (seed ++ adrB (withA (atA a k) 0 0)) := ⟨_, rfl⟩
      obtain ⟨nb, hnb⟩ : ∃ nb, nb = goB xs 24 seed (atA a k) bg 0 dk := ⟨_, rfl⟩
      have HE : Shh ((endsB xs 24 sk seed a d (k + 1)) = (endsB xs 24 sk seed a d k) ++ nb ∧ (endsB xs 24 sk seed a d k).length ≤ 3000 ∧ nb.length = 24 ∧ bg.length = 24) := by
        have hp : bg.length = 24 := by rw [hbg]; exact HLB.out _ _
        refine ⟨by rw [hnb, hbg, hdk]; exact endsB_step xs 24 sk seed a d k, by rw [HLE.out k]; omega, by rw [hnb]; exact HGO.out _ _ _ _ hp, hp⟩
      have HNB : Shh (nb = goB xs 24 seed (atA a k) bg 0 dk ∧ bg = keyd xs 24 4 sk (seed ++ adrB (withA (atA a k) 0 0))) := ⟨hnb, hbg⟩
      clear hnb hbg hdk hdg
      obtain ⟨E2, hE2⟩ : ∃ E2, E2 = (endsB xs 24 sk seed a d (k + 1)) := ⟨_, rfl⟩
      have HE2 : Shh (E2 = (endsB xs 24 sk seed a d (k + 1))) := ⟨hE2⟩
      rw [← hE2] at HE
      clear hE2
      generalize (endsB xs 24 sk seed a d k) = E at HE HO
      obtain ⟨y5, c5⟩ : ∃ y : Int, wr.cell? ⟨w.heap.size + 1, 5, none⟩ = some (.int .u32 y) := ⟨_, wordRow_cell HL.out.2.2.1 5 (by rw [HL.out.1]; decide)⟩
      have f5 := HL.out.2.2.1.free 5
      obtain ⟨Z, hZ⟩ : ∃ Z, Z = wr.setCell ⟨w.heap.size + 1, 5, none⟩ (.int .u32 (k : Int)) := ⟨_, rfl⟩
      have HZ : Shh (Row Z w.heap.size 24 [.int .u32 xc, .bool xs, .int .i64 24, .int .i64 xh, .int .i64 51] ∧ Row Z (w.heap.size + 1) 27 (wordCells (atA a k)) ∧ Below w.heap.size w Z ∧ But Y2.heap.size (w.heap.size + 1) Y2 Z ∧ Own Z B (.slice Ao E.length co) E ∧ B ≤ Z.heap.size) := by
        rw [hZ]
        refine ⟨HL.out.2.2.2.1.other _ _ (by show w.heap.size ≠ w.heap.size + 1; omega), ?_, HBW.out.setCell (Nat.le_succ _) _, HL.out.2.2.2.2.1.setCell _ _, ownsRow_setCell_below HO.out HB2.out.1 _, by simpa using HL.out.2.2.2.2.2⟩
        rw [← HL.out.2.1 k]
        exact wordRow_set HL.out.2.2.1 5 k (by omega)
      clear HL HO HBW
      go_wp2_with fail
      rw [← hZ]
      clear hZ c5 f5 hck hkdi hkq
      refine wp_region_held_drew (S := fun w' => Row w' w.heap.size 24 [.int .u32 xc, .bool xs, .int .i64 24, .int .i64 xh, .int .i64 51] ∧ Row w' (w.heap.size + 1) 27 (wordCells (atA a k))) (by kernel_rfl) ⟨HZ.out.1.drew, HZ.out.2.1.drew⟩ (fun hS => ?_)
      clear hS
      obtain ⟨V3, hV3⟩ : ∃ V3, V3 = World.drew Z := ⟨_, rfl⟩
      rw [← hV3]
      have rX3 : Row V3 w.heap.size 24 [.int .u32 xc, .bool xs, .int .i64 24, .int .i64 xh, .int .i64 51] := by rw [hV3]; exact HZ.out.1.drew
      have rA3 : Row V3 (w.heap.size + 1) 27 (wordCells (atA a k)) := by rw [hV3]; exact HZ.out.2.1.drew
      have HBV3 : Below w.heap.size w V3 := by rw [hV3]; exact HZ.out.2.2.1.drew
      have HBu : But Y2.heap.size (w.heap.size + 1) Y2 V3 := by rw [hV3]; exact HZ.out.2.2.2.1.drew
      have oE : Own V3 B (.slice Ao E.length co) E := by rw [hV3]; exact HZ.out.2.2.2.2.1.drew
      have hBV : B ≤ V3.heap.size := by rw [hV3]; exact HZ.out.2.2.2.2.2
      have rT3 : Tabs V3 := H0.out.2.2.1.go HBV3
      clear hV3 HZ
      refine held_value 0 _ _ (some 39) (.slice Ao E.length co) (by kernel_rfl) (by rfl) (by kernel_rfl) (fun w hS => by first | kernel_rfl | go_simp) (fun _ _ _ _ h => h) (⟨rX3, rA3⟩) ?_
      simp only [Act.put, List.setIfInBounds_toArray, List.set_cons_zero, List.set_cons_succ]
      refine held_value 1 _ _ (some 40) (.func (.func Fw) #[] #[q1, q2]) (by kernel_rfl) (by rfl) (by kernel_rfl) (fun w hS => by first | kernel_rfl | go_simp) (fun _ _ _ _ h => h) (⟨rX3, rA3⟩) ?_
      simp only [Act.put, List.setIfInBounds_toArray, List.set_cons_zero, List.set_cons_succ]
      refine held_value 2 _ _ (some 41) (.func (.func Fs) #[] #[p1, p2]) (by kernel_rfl) (by rfl) (by kernel_rfl) (fun w hS => by first | kernel_rfl | go_simp) (fun _ _ _ _ h => h) (⟨rX3, rA3⟩) ?_
      simp only [Act.put, List.setIfInBounds_toArray, List.set_cons_zero, List.set_cons_succ]
      refine held_value 5 _ _ (some 44) (.int .i64 (dk : Int)) (by kernel_rfl) (by rfl) (by kernel_rfl) (fun w hS => by first | kernel_rfl | go_simp) (fun _ _ _ _ h => h) (⟨rX3, rA3⟩) ?_
      simp only [Act.put, List.setIfInBounds_toArray, List.set_cons_zero, List.set_cons_succ]
      refine held_load 3 27 (.tmp 8) (some 42) (by kernel_rfl) (by rfl) (by kernel_rfl) (w.heap.size + 1) 0 (by kernel_rfl) (wordCells (atA a k)) _ (fun w h => h.2.range) Tryz.underlying27 rfl (info_adr10 (HA.out.2.2 k)) (fun _ _ _ _ h => h) (⟨rX3, rA3⟩) ?_
      simp only [Act.put, List.setIfInBounds_toArray, List.set_cons_zero, List.set_cons_succ]
      refine held_load 6 27 (.tmp 8) (some 45) (by kernel_rfl) (by rfl) (by kernel_rfl) (w.heap.size + 1) 0 (by kernel_rfl) (wordCells (atA a k)) _ (fun w h => h.2.range) Tryz.underlying27 rfl (info_adr10 (HA.out.2.2 k)) (fun _ _ _ _ h => h) (⟨rX3, rA3⟩) ?_
      simp only [Act.put, List.setIfInBounds_toArray, List.set_cons_zero, List.set_cons_succ]
      refine held_one 4 (by kernel_rfl) ?_
      refine step_call 4 _ _ (some 43) Fs #[.agg (wordCells (atA a k)).toArray, p1, p2] (by rfl) (by kernel_rfl) (by go_simp) ?_
      refine (HKS.out V3 (atA a k) (HBu.chain (But.of (Below.refl _ _) _)) (rT3) (by rw [atA_length]; exact HA.out.1)).mono ?_
      rintro e Y3 ⟨vb, rfl, gb, bb, ob⟩
      have bx : Below V3.heap.size V3 Y3 := bb
      have sB : Sl Y3 Y3.heap.size vb bg := by rw [HNB.out.2]; exact gb
      clear gb ob
      have b_V3 := bx
      have m_Y3 : V3.heap.size ≤ Y3.heap.size := bx.size
      clear bx
      refine ⟨_, rfl, ⟨(rX3.go b_V3), (rA3.go b_V3)⟩, ?_⟩
      simp only [Act.put, List.setIfInBounds_toArray, List.set_cons_zero, List.set_cons_succ]
      refine held_one 7 (by kernel_rfl) ?_
      refine step_call 7 _ _ (some 46) Fw #[vb, .int .i64 0, .int .i64 (dk : Int), .agg (wordCells (atA a k)).toArray, q1, q2] (by rfl) (by kernel_rfl) (by go_simp) ?_
      refine (HKW.out Y3 _ bg 0 dk (atA a k) (HBu.chain (But.of b_V3 _)) ((rT3.go b_V3)) (sB) HE.out.2.2.2 (by omega) (by rw [atA_length]; exact HA.out.1)).mono ?_
      rintro e Y4 ⟨vr, rfl, gr, br, or⟩
      have bx : Below Y3.heap.size Y3 Y4 := br
      have sR : Sl Y4 Y4.heap.size vr nb := by rw [HNB.out.1]; exact gr
      clear gr or
      replace b_V3 := Below.chain b_V3 bx
      have b_Y3 := bx
      have m_Y4 : Y3.heap.size ≤ Y4.heap.size := bx.size
      clear bx
      refine ⟨_, rfl, ⟨(rX3.go b_V3), (rA3.go b_V3)⟩, ?_⟩
      simp only [Act.put, List.setIfInBounds_toArray, List.set_cons_zero, List.set_cons_succ]
      refine held_one 8 (by kernel_rfl) ?_
      obtain ⟨i0, hi, hz0, hz1, hz2⟩ := info_parts info_u8
      refine step_appendSl Y4 8 _ (some 47) 25 5 i0 Tryz.underlying25 hi hz0 hz1 hz2 (.tmp 39) (.tmp 46) (by rfl) (by kernel_rfl) ((oE.go b_V3)) (sR) (by rw [HE.out.2.2.1]; decide) rfl rfl (by rw [HE.out.2.2.1]; have := HE.out.2.1; omega) (Nat.le_trans hBV (b_V3).size) (fun v9 Y5 o9 g9 b9 => ?_)
      rw [← HE.out.1] at o9
      have q0 : Row Y5 w.heap.size 24 [.int .u32 xc, .bool xs, .int .i64 24, .int .i64 xh, .int .i64 51] := ((rX3.go b_V3)).below (b9 _ (Nat.le_refl _)) (by have := HB2.out; omega)
      have q1x : Row Y5 (w.heap.size + 1) 27 (wordCells (atA a k)) := ((rA3.go b_V3)).below (b9 _ (Nat.le_refl _)) (by have := HB2.out; omega)
      have q3 : But Y2.heap.size (w.heap.size + 1) Y2 Y5 := (HBu.chain (But.of b_V3 _)).trans (But.of (b9 _ (by have := HB2.out; omega)) _)
      have q4 : B ≤ Y5.heap.size := Nat.le_trans (Nat.le_trans hBV (b_V3).size) (b9 _ (Nat.le_refl _)).size
      replace rX3 := q0
      replace rA3 := q1x
      refine ⟨⟨rX3, rA3⟩, ?_⟩
      simp only [Act.put, List.setIfInBounds_toArray, List.set_cons_zero, List.set_cons_succ]
      refine held_value 9 _ _ (some 13) (v9) (by kernel_rfl) (by rfl) (by kernel_rfl) (fun w hS => by first | kernel_rfl | go_simp) (fun _ _ _ _ h => h) (⟨rX3, rA3⟩) ?_
      simp only [Act.put, List.setIfInBounds_toArray, List.set_cons_zero, List.set_cons_succ]
      refine wpAnyH_done (by kernel_rfl) ?_ _
      have H9 : Shh ((atA a k).length = 8 ∧ (∀ i, atA (atA a k) i = atA a i) ∧ Row Y5 (w.heap.size + 1) 27 (wordCells (atA a k)) ∧ Row Y5 w.heap.size 24 [.int .u32 xc, .bool xs, .int .i64 24, .int .i64 xh, .int .i64 51] ∧ But Y2.heap.size (w.heap.size + 1) Y2 Y5 ∧ B ≤ Y5.heap.size) := ⟨by rw [atA_length]; exact HA.out.1, fun i => atA_again a k i, q1x, q0, q3, q4⟩
      have H11 : Shh (Own Y5 B v9 (endsB xs 24 sk seed a d (k + 1))) := ⟨by rw [← HE2.out]; exact o9⟩
      clear q0 q1x q3 q4 o9 g9 b9 HBV3 HBu oE hBV rT3 rX3 rA3 HE HE2 HNB
      go_wp2
      go_roundw
      case rel => exact ⟨k + 1, _, by omega, by go_num, H9, H11⟩
      case measure => simp [intOf]; omega
    · have hkd : ¬ ((k : Int) < (cl.length : Int)) := by have := HD.out.1; omega
      have HR : Shh (Sl wr wr.heap.size (.slice Ao (endsB xs 24 sk seed a d k).length co) (endsB xs 24 sk seed a d 51) ∧ Below w.heap.size w wr) := ⟨by
        have hk2 : k = 51 := by omega
        have h := Sl.of_own HO.out
        rw [hk2] at h ⊢
        exact h, HBW.out⟩
      clear HL HO HBW HLE HGO
      go_wp2
      go_ret
      exact ⟨_, rfl, HR.out⟩
set_option maxHeartbeats 2000000 in
theorem grown_32 (xc : Int) (xs : Bool) (xh : Int) (hx : (⟨xc, xs, 32, xh, 67⟩ : S5).ok = true) (vk vs vc : Value) (sk seed : List UInt8) (a : List UInt32) (ha : a.length = 8) (cl : List Nat) (d : Nat → Nat) (hcl : cl.length = 67) (hd : ∀ i, i < 67 → cl.getD i 0 = d i ∧ d i ≤ 15) (w : World) (hk : Sl w w.heap.size vk sk) (hs : Sl w w.heap.size vs seed) (hc : SI w w.heap.size vc cl) (ht : Tabs w)
    (hkl : sk.length = 32) (hsl : seed.length = 32) :
    Calls Tryz.prog 19 #[.agg #[.int .u32 xc, .bool xs, .int .i64 32, .int .i64 xh, .int .i64 67], vk, vs, adrV a, vc] w (SlIs w (endsB xs 32 sk seed a d 67)) := by
  unfold SlIs
  obtain ⟨Ak, ck, rfl, _, _⟩ := hk.form
  obtain ⟨As, cs, rfl, _, _⟩ := hs.form
  obtain ⟨Ac, cc, rfl, _, _⟩ := hc.form
  obtain ⟨gc, hAc, hgc, hgc2, hcc⟩ := hc.at_ (by omega)
  subst hAc
  have H0 : Shh (Sl w w.heap.size (.slice Ak sk.length ck) sk ∧ Sl w w.heap.size (.slice As seed.length cs) seed ∧ Tabs w ∧ gc < w.heap.size ∧ ∀ j (h : j < cl.length), w.cell? ⟨gc, j, none⟩ = some (.int .i64 ((cl[j] : Nat) : Int))) := ⟨hk, hs, ht, hgc2, hcc⟩
  clear hk hs ht hc hcc hgc hgc2
  have HST : Shh (∀ W, Sl W W.heap.size (.slice Ak sk.length ck) sk → Sl W W.heap.size (.slice As seed.length cs) seed → Tabs W → (w.heap.size + 1) < W.heap.size → Calls Tryz.prog 32 #[.agg #[.int .u32 xc, .bool xs, .int .i64 32, .int .i64 xh, .int .i64 67], .slice Ak sk.length ck, .slice As seed.length cs] W (StarterIs W (w.heap.size + 1) (⟨xc, xs, 32, xh, 67⟩ : S5) sk seed)) := ⟨fun W h1 h2 h3 h4 => starter_any (⟨xc, xs, 32, xh, 67⟩ : S5) hx _ _ sk seed W h1 (by omega) h2 (by omega) h3 (w.heap.size + 1) h4 (H0.out.2.1.off (by omega))⟩
  have HWK : Shh (∀ W, Sl W W.heap.size (.slice As seed.length cs) seed → Tabs W → (w.heap.size + 1) < W.heap.size → Calls Tryz.prog 25 #[.agg #[.int .u32 xc, .bool xs, .int .i64 32, .int .i64 xh, .int .i64 67], .slice As seed.length cs] W (WalkerIs W (w.heap.size + 1) (⟨xc, xs, 32, xh, 67⟩ : S5) seed)) := ⟨fun W h1 h2 h3 => walker_any (⟨xc, xs, 32, xh, 67⟩ : S5) hx _ seed W h1 (by omega) h2 (w.heap.size + 1) h3⟩
  have HLE : Shh (∀ k, (endsB xs 32 sk seed a d k).length = 32 * k) := ⟨fun k => endsB_len (x := (⟨xc, xs, 32, xh, 67⟩ : S5)) hx sk seed a d k⟩
  have HLB : Shh (∀ key m, (keyd xs 32 4 key m).length = 32) := ⟨fun key m => (ok_len (x := (⟨xc, xs, 32, xh, 67⟩ : S5)) hx 4 key m).1⟩
  have HGO : Shh (∀ a b f k, b.length = 32 → (goB xs 32 seed a b f k).length = 32) := ⟨fun a b f k hb => goB_length (x := (⟨xc, xs, 32, xh, 67⟩ : S5)) hx seed a b f k hb⟩
  have HD : Shh (cl.length = 67 ∧ ∀ i, i < 67 → cl.getD i 0 = d i ∧ d i ≤ 15) := ⟨hcl, hd⟩
  have HA : Shh (a.length = 8 ∧ (wordCells a).length = 8 ∧ ∀ k, (wordCells (atA a k)).length = 8) := ⟨ha, by rw [wordCells_length]; exact ha, fun k => by rw [wordCells_length, atA_length]; exact ha⟩
  clear ha hcl hd hx
  obtain ⟨zl, HZL⟩ : ∃ zl : List UInt8, Shh (zl = List.replicate 2144 0) := ⟨_, ⟨rfl⟩⟩
  have hmk : ∀ u : World, (Instr.makeSlice 25 (.int .i64 0) (.int .i64 2144)).run Tryz.prog u = .ok (.slice (some ⟨u.heap.size, 0, none⟩) 0 2144) (u.alloc (.cells (Lib.byteCells zl).toArray 5)) := fun u => by rw [HZL.out]; exact make0_run 2144 (by decide) u
  obtain ⟨W, hW⟩ : ∃ W, W = (w.alloc (.cells #[.int .u32 xc, .bool xs, .int .i64 32, .int .i64 xh, .int .i64 67] 24)).alloc (.cells (wordCells a).toArray 27) := ⟨_, rfl⟩
  have HW : Shh (Row W w.heap.size 24 [.int .u32 xc, .bool xs, .int .i64 32, .int .i64 xh, .int .i64 67] ∧ Row W (w.heap.size + 1) 27 (wordCells a) ∧ Below w.heap.size w W) := by
    rw [hW]
    exact ⟨(Row.new_ rfl rfl).alloc _, Row.new_ (by rw [asz]) rfl, Below.chain (below1 _ _) (below1 _ _)⟩
  unfold adrV
  go_enter Tryz.func19, Tryz.ntmps19
  go_wp2_with fail
  rw [← hW]
  clear hW
  refine wp_region_held_drew (S := fun w' => Row w' w.heap.size 24 [.int .u32 xc, .bool xs, .int .i64 32, .int .i64 xh, .int .i64 67]) (by kernel_rfl) HW.out.1.drew (fun hS => ?_)
  clear hS
  obtain ⟨V, hV⟩ : ∃ V, V = World.drew W := ⟨_, rfl⟩
  rw [← hV]
  have rX : Row V w.heap.size 24 [.int .u32 xc, .bool xs, .int .i64 32, .int .i64 xh, .int .i64 67] := by rw [hV]; exact HW.out.1.drew
  have rA : Row V (w.heap.size + 1) 27 (wordCells a) := by rw [hV]; exact HW.out.2.1.drew
  have HBV : Below w.heap.size w V := by rw [hV]; exact HW.out.2.2.drew
  have sK : Sl V V.heap.size (.slice Ak sk.length ck) sk := H0.out.1.go HBV
  have sS : Sl V V.heap.size (.slice As seed.length cs) seed := H0.out.2.1.go HBV
  have rT : Tabs V := H0.out.2.2.1.go HBV
  clear hV HW
  refine held_value 1 _ _ (some 17) (.slice Ak sk.length ck) (by kernel_rfl) (by rfl) (by kernel_rfl) (fun w hS => by first | kernel_rfl | go_simp) (fun _ _ _ _ h => h) (rX) ?_
  simp only [Act.put, List.setIfInBounds_toArray, List.set_cons_zero, List.set_cons_succ]
  refine held_value 2 _ _ (some 18) (.slice As seed.length cs) (by kernel_rfl) (by rfl) (by kernel_rfl) (fun w hS => by first | kernel_rfl | go_simp) (fun _ _ _ _ h => h) (rX) ?_
  simp only [Act.put, List.setIfInBounds_toArray, List.set_cons_zero, List.set_cons_succ]
  refine held_value 5 _ _ (some 21) (.slice As seed.length cs) (by kernel_rfl) (by rfl) (by kernel_rfl) (fun w hS => by first | kernel_rfl | go_simp) (fun _ _ _ _ h => h) (rX) ?_
  simp only [Act.put, List.setIfInBounds_toArray, List.set_cons_zero, List.set_cons_succ]
  refine held_load 0 24 (.tmp 5) (some 16) (by kernel_rfl) (by rfl) (by kernel_rfl) w.heap.size 0 (by kernel_rfl) ([.int .u32 xc, .bool xs, .int .i64 32, .int .i64 xh, .int .i64 67]) _ (fun w h => h.range) Tryz.underlying24 rfl (info_xms) (fun _ _ _ _ h => h) (rX) ?_
  simp only [Act.put, List.setIfInBounds_toArray, List.set_cons_zero, List.set_cons_succ]
  refine held_load 4 24 (.tmp 5) (some 20) (by kernel_rfl) (by rfl) (by kernel_rfl) w.heap.size 0 (by kernel_rfl) ([.int .u32 xc, .bool xs, .int .i64 32, .int .i64 xh, .int .i64 67]) _ (fun w h => h.range) Tryz.underlying24 rfl (info_xms) (fun _ _ _ _ h => h) (rX) ?_
  simp only [Act.put, List.setIfInBounds_toArray, List.set_cons_zero, List.set_cons_succ]
  refine held_one 3 (by kernel_rfl) ?_
  refine step_call 3 _ _ (some 19) 32 #[.agg ([.int .u32 xc, .bool xs, .int .i64 32, .int .i64 xh, .int .i64 67]).toArray, .slice Ak sk.length ck, .slice As seed.length cs] (by rfl) (by kernel_rfl) (by first | kernel_rfl | go_simp) ?_
  refine (HST.out V (sK) (sS) (rT) (rA).lt).mono ?_
  rintro e Y1 ⟨v, rfl, kv, bv⟩
  have bx : Below V.heap.size V Y1 := bv
  have kS := kv
  obtain ⟨Fs, p1, p2, vEq, _, _⟩ := kv
  subst vEq
  have b_V := bx
  have m_Y1 : V.heap.size ≤ Y1.heap.size := bx.size
  clear bx
  refine ⟨_, rfl, (rX.go b_V), ?_⟩
  simp only [Act.put, List.setIfInBounds_toArray, List.set_cons_zero, List.set_cons_succ]
  refine held_one 6 (by kernel_rfl) ?_
  refine step_call 6 _ _ (some 22) 25 #[.agg ([.int .u32 xc, .bool xs, .int .i64 32, .int .i64 xh, .int .i64 67]).toArray, .slice As seed.length cs] (by rfl) (by kernel_rfl) (by first | kernel_rfl | go_simp) ?_
  refine (HWK.out Y1 ((sS.go b_V)) ((rT.go b_V)) ((rA.go b_V)).lt).mono ?_
  rintro e Y2 ⟨v, rfl, kv, bv⟩
  have bx : Below Y1.heap.size Y1 Y2 := bv
  have kW := kv
  obtain ⟨Fw, q1, q2, vEq, _, _⟩ := kv
  subst vEq
  replace b_V := Below.chain b_V bx
  have b_Y1 := bx
  have m_Y2 : Y1.heap.size ≤ Y2.heap.size := bx.size
  clear bx
  refine ⟨_, rfl, (rX.go b_V), ?_⟩
  simp only [Act.put, List.setIfInBounds_toArray, List.set_cons_zero, List.set_cons_succ]
  refine held_value 7 _ _ (some 11) (.func (.func Fs) #[] #[p1, p2]) (by kernel_rfl) (by rfl) (by kernel_rfl) (fun w hS => by first | kernel_rfl | go_simp) (fun _ _ _ _ h => h) ((rX.go b_V)) ?_
  simp only [Act.put, List.setIfInBounds_toArray, List.set_cons_zero, List.set_cons_succ]
  refine held_value 8 _ _ (some 12) (.func (.func Fw) #[] #[q1, q2]) (by kernel_rfl) (by rfl) (by kernel_rfl) (fun w hS => by first | kernel_rfl | go_simp) (fun _ _ _ _ h => h) ((rX.go b_V)) ?_
  simp only [Act.put, List.setIfInBounds_toArray, List.set_cons_zero, List.set_cons_succ]
  refine wpAnyH_done (by kernel_rfl) ?_ _
  have H2 : Shh (Row Y2 w.heap.size 24 [.int .u32 xc, .bool xs, .int .i64 32, .int .i64 xh, .int .i64 67] ∧ Row Y2 (w.heap.size + 1) 27 (wordCells a) ∧ Below w.heap.size w Y2) := ⟨(rX.go b_V), (rA.go b_V), Below.chain HBV b_V⟩
  have kS2 := (kS.go b_Y1)
  have kW2 := kW
  obtain ⟨_, _, _, eS, hcs, hks⟩ := kS2
  cases eS
  obtain ⟨_, _, _, eW, hcw, hkw⟩ := kW2
  cases eW
  have HKS := Shh.mk hks
  have HKW := Shh.mk hkw
  clear m_Y2 b_Y1 kW m_Y1 b_V kS bv HBV rX rA sK sS rT hks hkw
  have e2 := H2.out.1.cell 2
  have e4 := H2.out.1.cell 4
  simp only [List.getElem?_cons_succ, List.getElem?_cons_zero] at e2 e4
  obtain ⟨W4, hW4⟩ : ∃ W4, W4 = Y2.alloc (.cells (Lib.byteCells zl).toArray 5) := ⟨_, rfl⟩
  obtain ⟨B, hB⟩ : ∃ B, Shh (B = Y2.heap.size) := ⟨_, ⟨rfl⟩⟩
  have H5 : Shh (But Y2.heap.size (w.heap.size + 1) Y2 W4 ∧ Row W4 w.heap.size 24 [.int .u32 xc, .bool xs, .int .i64 32, .int .i64 xh, .int .i64 67] ∧ Own W4 B (.slice (some ⟨B, 0, none⟩) 0 2144) [] ∧ Row W4 (w.heap.size + 1) 27 (wordCells a) ∧ B ≤ W4.heap.size) := by
    rw [hW4, hB.out]
    exact ⟨But.of (below1 _ _) _, H2.out.1.alloc _, World.ownsRow_made Y2 _ 2144 (Nat.le_refl _) (by unfold maxLen; omega) (by rw [HZL.out]; simp [Lib.byteCells]), H2.out.2.1.alloc _, by rw [asz]; omega⟩
  have HB2 : Shh (w.heap.size + 1 < B ∧ Below w.heap.size w Y2 ∧ B = Y2.heap.size) := ⟨by rw [hB.out]; exact H2.out.2.1.lt, H2.out.2.2, hB.out⟩
  go_wp2
  rw [← hB.out, ← hW4]
  clear H2 hW4 hB e2 e4 hmk HZL HST HWK
  go_loopw [13, 31] (fun o i wr => ∃ (k : Nat) (a' : List UInt32), k ≤ 67 ∧ i = .int .i64 (k : Int) ∧ Shh (a'.length = 8 ∧ (∀ i, atA a' i = atA a i) ∧ Row wr (w.heap.size + 1) 27 (wordCells a') ∧ Row wr w.heap.size 24 [.int .u32 xc, .bool xs, .int .i64 32, .int .i64 xh, .int .i64 67] ∧ But Y2.heap.size (w.heap.size + 1) Y2 wr ∧ B ≤ wr.heap.size) ∧ Shh (Own wr B o (endsB xs 32 sk seed a d k))) (fun _ i _ => 67 - (intOf i).toNat)
  case atStart => exact ⟨0, a, Nat.zero_le _, rfl, ⟨HA.out.1, fun _ => rfl, H5.out.2.2.2.1, H5.out.2.1, H5.out.1, H5.out.2.2.2.2⟩, ⟨H5.out.2.2.1⟩⟩
  case round =>
    clear H5
    obtain ⟨k, a', hk, rfl, HL, HO⟩ := hrel
    have ho := HO.out
    obtain ⟨Ao, co, rfl⟩ := own_form ho
    clear ho
    have HBW : Shh (Below w.heap.size w wr) := ⟨HB2.out.2.1.trans (HL.out.2.2.2.2.1.under (by have := HB2.out; omega) (by omega))⟩
    by_cases hlt : k < 67
    · obtain ⟨dk, hdk⟩ : ∃ dk, dk = d k := ⟨_, rfl⟩
      have hkd : k < cl.length := by rw [HD.out.1]; exact hlt
      have hdg : cl[k] = dk := by
        have h := (HD.out.2 k hlt).1
        rw [List.getD_eq_getElem?_getD, List.getElem?_eq_getElem hkd] at h
        rw [hdk]
        exact h
      have hd16 : dk ≤ 15 := by rw [hdk]; exact (HD.out.2 k hlt).2
      have hck := (HBW.out.cell (p := ⟨gc, k, none⟩) H0.out.2.2.2.1).trans (H0.out.2.2.2.2 k hkd)
      rw [hdg] at hck
      have hkdi : (k : Int) < (cl.length : Int) := by omega
      have hkq : (k : Int) % 4294967296 = (k : Int) := by omega
      obtain ⟨bg, hbg⟩ : ∃ bg, bg = keyd xs 32 4 sk (seed ++ adrB (withA (atA a k) 0 0)) := ⟨_, rfl⟩
      obtain ⟨nb, hnb⟩ : ∃ nb, nb = goB xs 32 seed (atA a k) bg 0 dk := ⟨_, rfl⟩
      have HE : Shh ((endsB xs 32 sk seed a d (k + 1)) = (endsB xs 32 sk seed a d k) ++ nb ∧ (endsB xs 32 sk seed a d k).length ≤ 3000 ∧ nb.length = 32 ∧ bg.length = 32) := by
        have hp : bg.length = 32 := by rw [hbg]; exact HLB.out _ _
        refine ⟨by rw [hnb, hbg, hdk]; exact endsB_step xs 32 sk seed a d k, by rw [HLE.out k]; omega, by rw [hnb]; exact HGO.out _ _ _ _ hp, hp⟩
      have HNB : Shh (nb = goB xs 32 seed (atA a k) bg 0 dk ∧ bg = keyd xs 32 4 sk (seed ++ adrB (withA (atA a k) 0 0))) := ⟨hnb, hbg⟩
      clear hnb hbg hdk hdg
      obtain ⟨E2, hE2⟩ : ∃ E2, E2 = (endsB xs 32 sk seed a d (k + 1)) := ⟨_, rfl⟩
      have HE2 : Shh (E2 = (endsB xs 32 sk seed a d (k + 1))) := ⟨hE2⟩
      rw [← hE2] at HE
      clear hE2
      generalize (endsB xs 32 sk seed a d k) = E at HE HO
      obtain ⟨y5, c5⟩ : ∃ y : Int, wr.cell? ⟨w.heap.size + 1, 5, none⟩ = some (.int .u32 y) := ⟨_, wordRow_cell HL.out.2.2.1 5 (by rw [HL.out.1]; decide)⟩
      have f5 := HL.out.2.2.1.free 5
      obtain ⟨Z, hZ⟩ : ∃ Z, Z = wr.setCell ⟨w.heap.size + 1, 5, none⟩ (.int .u32 (k : Int)) := ⟨_, rfl⟩
      have HZ : Shh (Row Z w.heap.size 24 [.int .u32 xc, .bool xs, .int .i64 32, .int .i64 xh, .int .i64 67] ∧ Row Z (w.heap.size + 1) 27 (wordCells (atA a k)) ∧ Below w.heap.size w Z ∧ But Y2.heap.size (w.heap.size + 1) Y2 Z ∧ Own Z B (.slice Ao E.length co) E ∧ B ≤ Z.heap.size) := by
        rw [hZ]
        refine ⟨HL.out.2.2.2.1.other _ _ (by show w.heap.size ≠ w.heap.size + 1; omega), ?_, HBW.out.setCell (Nat.le_succ _) _, HL.out.2.2.2.2.1.setCell _ _, ownsRow_setCell_below HO.out HB2.out.1 _, by simpa using HL.out.2.2.2.2.2⟩
        rw [← HL.out.2.1 k]
        exact wordRow_set HL.out.2.2.1 5 k (by omega)
      clear HL HO HBW
      go_wp2_with fail
      rw [← hZ]
      clear hZ c5 f5 hck hkdi hkq
      refine wp_region_held_drew (S := fun w' => Row w' w.heap.size 24 [.int .u32 xc, .bool xs, .int .i64 32, .int .i64 xh, .int .i64 67] ∧ Row w' (w.heap.size + 1) 27 (wordCells (atA a k))) (by kernel_rfl) ⟨HZ.out.1.drew, HZ.out.2.1.drew⟩ (fun hS => ?_)
      clear hS
      obtain ⟨V3, hV3⟩ : ∃ V3, V3 = World.drew Z := ⟨_, rfl⟩
      rw [← hV3]
      have rX3 : Row V3 w.heap.size 24 [.int .u32 xc, .bool xs, .int .i64 32, .int .i64 xh, .int .i64 67] := by rw [hV3]; exact HZ.out.1.drew
      have rA3 : Row V3 (w.heap.size + 1) 27 (wordCells (atA a k)) := by rw [hV3]; exact HZ.out.2.1.drew
      have HBV3 : Below w.heap.size w V3 := by rw [hV3]; exact HZ.out.2.2.1.drew
      have HBu : But Y2.heap.size (w.heap.size + 1) Y2 V3 := by rw [hV3]; exact HZ.out.2.2.2.1.drew
      have oE : Own V3 B (.slice Ao E.length co) E := by rw [hV3]; exact HZ.out.2.2.2.2.1.drew
      have hBV : B ≤ V3.heap.size := by rw [hV3]; exact HZ.out.2.2.2.2.2
      have rT3 : Tabs V3 := H0.out.2.2.1.go HBV3
      clear hV3 HZ
      refine held_value 0 _ _ (some 39) (.slice Ao E.length co) (by kernel_rfl) (by rfl) (by kernel_rfl) (fun w hS => by first | kernel_rfl | go_simp) (fun _ _ _ _ h => h) (⟨rX3, rA3⟩) ?_
      simp only [Act.put, List.setIfInBounds_toArray, List.set_cons_zero, List.set_cons_succ]
      refine held_value 1 _ _ (some 40) (.func (.func Fw) #[] #[q1, q2]) (by kernel_rfl) (by rfl) (by kernel_rfl) (fun w hS => by first | kernel_rfl | go_simp) (fun _ _ _ _ h => h) (⟨rX3, rA3⟩) ?_
      simp only [Act.put, List.setIfInBounds_toArray, List.set_cons_zero, List.set_cons_succ]
      refine held_value 2 _ _ (some 41) (.func (.func Fs) #[] #[p1, p2]) (by kernel_rfl) (by rfl) (by kernel_rfl) (fun w hS => by first | kernel_rfl | go_simp) (fun _ _ _ _ h => h) (⟨rX3, rA3⟩) ?_
      simp only [Act.put, List.setIfInBounds_toArray, List.set_cons_zero, List.set_cons_succ]
      refine held_value 5 _ _ (some 44) (.int .i64 (dk : Int)) (by kernel_rfl) (by rfl) (by kernel_rfl) (fun w hS => by first | kernel_rfl | go_simp) (fun _ _ _ _ h => h) (⟨rX3, rA3⟩) ?_
      simp only [Act.put, List.setIfInBounds_toArray, List.set_cons_zero, List.set_cons_succ]
      refine held_load 3 27 (.tmp 8) (some 42) (by kernel_rfl) (by rfl) (by kernel_rfl) (w.heap.size + 1) 0 (by kernel_rfl) (wordCells (atA a k)) _ (fun w h => h.2.range) Tryz.underlying27 rfl (info_adr10 (HA.out.2.2 k)) (fun _ _ _ _ h => h) (⟨rX3, rA3⟩) ?_
      simp only [Act.put, List.setIfInBounds_toArray, List.set_cons_zero, List.set_cons_succ]
      refine held_load 6 27 (.tmp 8) (some 45) (by kernel_rfl) (by rfl) (by kernel_rfl) (w.heap.size + 1) 0 (by kernel_rfl) (wordCells (atA a k)) _ (fun w h => h.2.range) Tryz.underlying27 rfl (info_adr10 (HA.out.2.2 k)) (fun _ _ _ _ h => h) (⟨rX3, rA3⟩) ?_
      simp only [Act.put, List.setIfInBounds_toArray, List.set_cons_zero, List.set_cons_succ]
      refine held_one 4 (by kernel_rfl) ?_
      refine step_call 4 _ _ (some 43) Fs #[.agg (wordCells (atA a k)).toArray, p1, p2] (by rfl) (by kernel_rfl) (by go_simp) ?_
      refine (HKS.out V3 (atA a k) (HBu.chain (But.of (Below.refl _ _) _)) (rT3) (by rw [atA_length]; exact HA.out.1)).mono ?_
      rintro e Y3 ⟨vb, rfl, gb, bb, ob⟩
      have bx : Below V3.heap.size V3 Y3 := bb
      have sB : Sl Y3 Y3.heap.size vb bg := by rw [HNB.out.2]; exact gb
      clear gb ob
      have b_V3 := bx
      have m_Y3 : V3.heap.size ≤ Y3.heap.size := bx.size
      clear bx
      refine ⟨_, rfl, ⟨(rX3.go b_V3), (rA3.go b_V3)⟩, ?_⟩
      simp only [Act.put, List.setIfInBounds_toArray, List.set_cons_zero, List.set_cons_succ]
      refine held_one 7 (by kernel_rfl) ?_
      refine step_call 7 _ _ (some 46) Fw #[vb, .int .i64 0, .int .i64 (dk : Int), .agg (wordCells (atA a k)).toArray, q1, q2] (by rfl) (by kernel_rfl) (by go_simp) ?_
      refine (HKW.out Y3 _ bg 0 dk (atA a k) (HBu.chain (But.of b_V3 _)) ((rT3.go b_V3)) (sB) HE.out.2.2.2 (by omega) (by rw [atA_length]; exact HA.out.1)).mono ?_
      rintro e Y4 ⟨vr, rfl, gr, br, or⟩
      have bx : Below Y3.heap.size Y3 Y4 := br
      have sR : Sl Y4 Y4.heap.size vr nb := by rw [HNB.out.1]; exact gr
      clear gr or
      replace b_V3 := Below.chain b_V3 bx
      have b_Y3 := bx
      have m_Y4 : Y3.heap.size ≤ Y4.heap.size := bx.size
      clear bx
      refine ⟨_, rfl, ⟨(rX3.go b_V3), (rA3.go b_V3)⟩, ?_⟩
      simp only [Act.put, List.setIfInBounds_toArray, List.set_cons_zero, List.set_cons_succ]
      refine held_one 8 (by kernel_rfl) ?_
      obtain ⟨i0, hi, hz0, hz1, hz2⟩ := info_parts info_u8
      refine step_appendSl Y4 8 _ (some 47) 25 5 i0 Tryz.underlying25 hi hz0 hz1 hz2 (.tmp 39) (.tmp 46) (by rfl) (by kernel_rfl) ((oE.go b_V3)) (sR) (by rw [HE.out.2.2.1]; decide) rfl rfl (by rw [HE.out.2.2.1]; have := HE.out.2.1; omega) (Nat.le_trans hBV (b_V3).size) (fun v9 Y5 o9 g9 b9 => ?_)
      rw [← HE.out.1] at o9
      have q0 : Row Y5 w.heap.size 24 [.int .u32 xc, .bool xs, .int .i64 32, .int .i64 xh, .int .i64 67] := ((rX3.go b_V3)).below (b9 _ (Nat.le_refl _)) (by have := HB2.out; omega)
      have q1x : Row Y5 (w.heap.size + 1) 27 (wordCells (atA a k)) := ((rA3.go b_V3)).below (b9 _ (Nat.le_refl _)) (by have := HB2.out; omega)
      have q3 : But Y2.heap.size (w.heap.size + 1) Y2 Y5 := (HBu.chain (But.of b_V3 _)).trans (But.of (b9 _ (by have := HB2.out; omega)) _)
      have q4 : B ≤ Y5.heap.size := Nat.le_trans (Nat.le_trans hBV (b_V3).size) (b9 _ (Nat.le_refl _)).size
      replace rX3 := q0
      replace rA3 := q1x
      refine ⟨⟨rX3, rA3⟩, ?_⟩
      simp only [Act.put, List.setIfInBounds_toArray, List.set_cons_zero, List.set_cons_succ]
      refine held_value 9 _ _ (some 13) (v9) (by kernel_rfl) (by rfl) (by kernel_rfl) (fun w hS => by first | kernel_rfl | go_simp) (fun _ _ _ _ h => h) (⟨rX3, rA3⟩) ?_
      simp only [Act.put, List.setIfInBounds_toArray, List.set_cons_zero, List.set_cons_succ]
      refine wpAnyH_done (by kernel_rfl) ?_ _
      have H9 : Shh ((atA a k).length = 8 ∧ (∀ i, atA (atA a k) i = atA a i) ∧ Row Y5 (w.heap.size + 1) 27 (wordCells (atA a k)) ∧ Row Y5 w.heap.size 24 [.int .u32 xc, .bool xs, .int .i64 32, .int .i64 xh, .int .i64 67] ∧ But Y2.heap.size (w.heap.size + 1) Y2 Y5 ∧ B ≤ Y5.heap.size) := ⟨by rw [atA_length]; exact HA.out.1, fun i => atA_again a k i, q1x, q0, q3, q4⟩
      have H11 : Shh (Own Y5 B v9 (endsB xs 32 sk seed a d (k + 1))) := ⟨by rw [← HE2.out]; exact o9⟩
      clear q0 q1x q3 q4 o9 g9 b9 HBV3 HBu oE hBV rT3 rX3 rA3 HE HE2 HNB
      go_wp2
      go_roundw
      case rel => exact ⟨k + 1, _, by omega, by go_num, H9, H11⟩
      case measure => simp [intOf]; omega
    · have hkd : ¬ ((k : Int) < (cl.length : Int)) := by have := HD.out.1; omega
      have HR : Shh (Sl wr wr.heap.size (.slice Ao (endsB xs 32 sk seed a d k).length co) (endsB xs 32 sk seed a d 67) ∧ Below w.heap.size w wr) := ⟨by
        have hk2 : k = 67 := by omega
        have h := Sl.of_own HO.out
        rw [hk2] at h ⊢
        exact h, HBW.out⟩
      clear HL HO HBW HLE HGO
      go_wp2
      go_ret
      exact ⟨_, rfl, HR.out⟩
theorem grown_any (x : S5) (hx : x.ok = true) (vk vs vc : Value) (sk seed : List UInt8) (a : List UInt32) (ha : a.length = 8) (cl : List Nat) (d : Nat → Nat) (hcl : (cl.length : Int) = x.l) (hd : ∀ i, i < x.l.toNat → cl.getD i 0 = d i ∧ d i ≤ 15) (w : World) (hk : Sl w w.heap.size vk sk) (hs : Sl w w.heap.size vs seed) (hc : SI w w.heap.size vc cl) (ht : Tabs w)
    (hkl : (sk.length : Int) = x.n) (hsl : (seed.length : Int) = x.n) :
    Calls Tryz.prog 19 #[x.v, vk, vs, adrV a, vc] w (SlIs w (endsB x.s x.n sk seed a d x.l.toNat)) := by
  have hn := S5.ok_is hx
  obtain ⟨c, s, n, h, l⟩ := x
  simp only at hn hkl hsl hcl
  rcases hn with ⟨rfl, rfl⟩ | ⟨rfl, rfl⟩
  · exact grown_24 c s h hx vk vs vc sk seed a ha cl d (by omega) hd w hk hs hc ht (by omega) (by omega)
  · exact grown_32 c s h hx vk vs vc sk seed a ha cl d (by omega) hd w hk hs hc ht (by omega) (by omega)
end Go.Proofs.YtobbbljnkdfkeaaGreatDoor
