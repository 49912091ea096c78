/-
  WALKS: the document's own Reseed.
-/
import Derived.Test.YtanpplniedphkaaDoorDe3
namespace Go.Proofs.YtanpplniedphkaaDoor
open Go.RowKit
set_option maxRecDepth 100000
theorem run_loadRow {P : Program} {a : Act} {w : World} {dst : Option Tmp} {ty T ty2 : TypeId} {x : Operand} {g : Nat} {cs : List Value} {d : TypeDesc} (hx : a.eval x = .pointer (some ⟨g, 0, none⟩)) (hr : Row w g T cs)
    (hu : P.underlying ty = some d) (hd : (match d with | .struct _ | .array _ _ => true | _ => false) = true) (hi : (P.info? ty).map (·.size) = some cs.length) : (execOp a.eval ⟨dst, .load ty x, ty2, "", #[], none⟩).run P w = .ok (.value (.agg cs.toArray)) w := by
  unfold execOp
  simp only [hx, Instr.loadAt, Instr.sureAddr, Sem.run_bind, Sem.run_pure, Result.andThen_ok, run_loadVar_row w g T ty cs.toArray (0, 0) d hr hu hd (by simpa using hi)]
set_option maxHeartbeats 4000000 in
theorem refReseed_bad (x ve va : Value) (c : Int) (en ad s : List UInt8) (w : World) (hx : RSt w x s c) (he : Sl w w.heap.size ve en) (ha : Sl w w.heap.size va ad) (hf : fitE en [ad] ≠ 0) :
    Calls Tryd.prog 57 #[x, ve, va] w (RNewIs w (fun g => OffR g x) s c (fitE en [ad])) := by
  unfold RNewIs
  obtain ⟨vk, vv, rfl, hk, hv⟩ := hx
  obtain ⟨A1, c1, rfl, _, _⟩ := he.form
  obtain ⟨A2, c2, rfl, _, _⟩ := ha.form
  obtain ⟨kB, hkB⟩ : ∃ kB, kB = keyL s := ⟨_, rfl⟩
  obtain ⟨vB, hvB⟩ : ∃ vB, vB = valL s := ⟨_, rfl⟩
  have HKV : Shh (kB = keyL s ∧ vB = valL s) := ⟨hkB, hvB⟩
  rw [← hkB] at hk
  rw [← hvB] at hv
  clear hkB hvB
  obtain ⟨Ak, ck, rfl, _, _⟩ := hk.form
  obtain ⟨Av, cv, rfl, _, _⟩ := hv.form
  obtain ⟨N, hN⟩ : ∃ N, w.heap.size = N := ⟨_, rfl⟩
  obtain ⟨W0, hW0⟩ : ∃ W0, W0 = w.alloc (.cells #[.slice Ak kB.length ck, .slice Av vB.length cv, .int .i64 c] 33) := ⟨_, rfl⟩
  have b0 : Below w.heap.size w W0 := by rw [hW0]; exact below1 _ _
  have z0 : W0.heap.size = N + 1 := by rw [hW0, asz, hN]
  obtain ⟨W1, hW1⟩ : ∃ W1, W1 = W0.alloc (.cells #[.slice none 0 0, .slice none 0 0, .int .i64 0] 33) := ⟨_, rfl⟩
  have b1 : Below W0.heap.size W0 W1 := by rw [hW1]; exact below1 _ _
  have z1 : W1.heap.size = N + 2 := by rw [hW1, asz, z0]
  obtain ⟨W, hW⟩ : ∃ W, W = W1.alloc (.cells #[.slice A2 ad.length c2] 22) := ⟨_, rfl⟩
  have bW : Below W1.heap.size W1 W := by rw [hW]; exact below1 _ _
  have bb := Below.chain b0 b1
  have bbb := Below.chain bb bW
  have HC : Shh (PartsO W W.heap.size W.heap.size (.slice (some ⟨N + 2, 0, none⟩) 1 1) [ad] ∧ Sl W W.heap.size (.slice A1 en.length c1) en ∧ Sl W W.heap.size (.slice A2 ad.length c2) ad ∧ Row W N 33 [.slice Ak kB.length ck, .slice Av vB.length cv, .int .i64 c] ∧ Row W (N + 1) 33 [.slice none 0 0, .slice none 0 0, .int .i64 0] ∧ Sl W N (.slice Ak kB.length ck) kB ∧ Sl W N (.slice Av vB.length cv) vB ∧ Below N w W ∧ N + 3 ≤ W.heap.size) :=
    ⟨by rw [hW, ← z1]; exact parts1 (ha.go bb), (he.go bbb), (ha.go bbb), by rw [hW, hW1, hW0]; exact ((Row.new_ hN.symm rfl).alloc _).alloc _, by rw [hW, hW1]; exact (Row.new_ z0.symm rfl).alloc _, by rw [← hN]; exact hk.below bbb, by rw [← hN]; exact hv.below bbb, by rw [← hN]; exact bbb, by rw [hW, asz, z1]; omega⟩
  obtain ⟨er, her⟩ : ∃ er, er = fitE en [ad] := ⟨_, rfl⟩
  have hne : (er != 0) = true := by rw [her]; simpa using hf
  have HER : Shh (fitE en [ad] = er) := ⟨her.symm⟩
  rw [HER.out]
  clear hk hv he ha hf b0 b1 bb bbb bW her z0 z1
  rw [hW, hW1, hW0] at HC
  go_enter Tryd.func57, Tryd.ntmps57
  go_wp2_with (go_at_call 51; refine (fits_any _ _ _ _ en [ad] _ HC.out.2.1 HC.out.1 (by simp)).mono ?_)
  unfold KeepIs
  rintro e w2 ⟨rfl, rfl⟩
  rw [HER.out]
  rw [← hW0, ← hW1, ← hW] at HC ⊢
  clear hW hW1 hW0
  go_wp2_with (first | refine wpList_load_any rfl 33 (.tmp 3) rfl N rfl 33 [.slice Ak kB.length ck, .slice Av vB.length cv, .int .i64 c] _ HC.out.2.2.2.1 Tryd.underlying33 rfl info_rd ?_ | refine wpList_store_any rfl 33 (.tmp 6) (.tmp 15) rfl (N + 1) rfl [.slice Ak kB.length ck, .slice Av vB.length cv, .int .i64 c] rfl 33 [.slice none 0 0, .slice none 0 0, .int .i64 0] HC.out.2.2.2.2.1 info_rd rfl cell_slices ?_)
  intro Z hrZ btZ _
  have HE : Shh (Row Z (N + 1) 33 [.slice Ak kB.length ck, .slice Av vB.length cv, .int .i64 c] ∧ Sl Z Z.heap.size (.slice Ak kB.length ck) (keyL s) ∧ Sl Z Z.heap.size (.slice Av vB.length cv) (valL s) ∧ Below w.heap.size w Z) :=
    ⟨hrZ, by rw [← HKV.out.1]; exact (HC.out.2.2.2.2.2.1.below (btZ.under (by have := HC.out.2.2.2.2.2.2.2.2; omega) (by omega))).more (by have := HC.out.2.2.2.2.2.2.2.2; have := btZ.size; omega), by rw [← HKV.out.2]; exact (HC.out.2.2.2.2.2.2.1.below (btZ.under (by have := HC.out.2.2.2.2.2.2.2.2; omega) (by omega))).more (by have := HC.out.2.2.2.2.2.2.2.2; have := btZ.size; omega), by rw [hN]; exact HC.out.2.2.2.2.2.2.2.1.trans (btZ.under (by have := HC.out.2.2.2.2.2.2.2.2; omega) (by omega))⟩
  clear hrZ btZ HC
  go_wp2
  exact ret_row_slot Tryd.results57 rfl rfl rfl HE.out.1 Tryd.underlying33 rfl info_rd ⟨_, rfl, ⟨_, _, rfl, HE.out.2.1, HE.out.2.2.1⟩, HE.out.2.2.2, fun _ _ h => h⟩
set_option maxHeartbeats 4000000 in
theorem refReseed_ok (x ve va : Value) (c : Int) (en ad s : List UInt8) (w : World) (hx : RSt w x s c) (he : Sl w w.heap.size ve en) (ha : Sl w w.heap.size va ad) (hf : fitE en [ad] = 0) (hs : s.length = 64) :
    Calls Tryd.prog 57 #[x, ve, va] w (RNewIs w (fun _ => True) (updL (en ++ ad) s) 1 0) := by
  unfold RNewIs
  obtain ⟨s2, hs2⟩ : ∃ s2, s2 = updL (en ++ ad) s := ⟨_, rfl⟩
  have HSN : Shh (updL (en ++ ad) s = s2) := ⟨hs2.symm⟩
  rw [← hs2]
  clear hs2
  obtain ⟨vk, vv, rfl, hk, hv⟩ := hx
  obtain ⟨A1, c1, rfl, _, _⟩ := he.form
  obtain ⟨A2, c2, rfl, _, _⟩ := ha.form
  obtain ⟨kB, hkB⟩ : ∃ kB, kB = keyL s := ⟨_, rfl⟩
  obtain ⟨vB, hvB⟩ : ∃ vB, vB = valL s := ⟨_, rfl⟩
  have HKV : Shh (kB = keyL s ∧ vB = valL s) := ⟨hkB, hvB⟩
  rw [← hkB] at hk
  rw [← hvB] at hv
  clear hkB hvB
  obtain ⟨Ak, ck, rfl, _, _⟩ := hk.form
  obtain ⟨Av, cv, rfl, _, _⟩ := hv.form
  obtain ⟨N, hN⟩ : ∃ N, w.heap.size = N := ⟨_, rfl⟩
  obtain ⟨W0, hW0⟩ : ∃ W0, W0 = w.alloc (.cells #[.slice Ak kB.length ck, .slice Av vB.length cv, .int .i64 c] 33) := ⟨_, rfl⟩
  have b0 : Below w.heap.size w W0 := by rw [hW0]; exact below1 _ _
  have z0 : W0.heap.size = N + 1 := by rw [hW0, asz, hN]
  obtain ⟨W1, hW1⟩ : ∃ W1, W1 = W0.alloc (.cells #[.slice none 0 0, .slice none 0 0, .int .i64 0] 33) := ⟨_, rfl⟩
  have b1 : Below W0.heap.size W0 W1 := by rw [hW1]; exact below1 _ _
  have z1 : W1.heap.size = N + 2 := by rw [hW1, asz, z0]
  obtain ⟨W, hW⟩ : ∃ W, W = W1.alloc (.cells #[.slice A2 ad.length c2] 22) := ⟨_, rfl⟩
  have bW : Below W1.heap.size W1 W := by rw [hW]; exact below1 _ _
  have bb := Below.chain b0 b1
  have bbb := Below.chain bb bW
  have HC : Shh (PartsO W W.heap.size W.heap.size (.slice (some ⟨N + 2, 0, none⟩) 1 1) [ad] ∧ Sl W W.heap.size (.slice A1 en.length c1) en ∧ Sl W W.heap.size (.slice A2 ad.length c2) ad ∧ Row W N 33 [.slice Ak kB.length ck, .slice Av vB.length cv, .int .i64 c] ∧ Row W (N + 1) 33 [.slice none 0 0, .slice none 0 0, .int .i64 0] ∧ Sl W N (.slice Ak kB.length ck) kB ∧ Sl W N (.slice Av vB.length cv) vB ∧ Below N w W ∧ N + 3 ≤ W.heap.size) :=
    ⟨by rw [hW, ← z1]; exact parts1 (ha.go bb), (he.go bbb), (ha.go bbb), by rw [hW, hW1, hW0]; exact ((Row.new_ hN.symm rfl).alloc _).alloc _, by rw [hW, hW1]; exact (Row.new_ z0.symm rfl).alloc _, by rw [← hN]; exact hk.below bbb, by rw [← hN]; exact hv.below bbb, by rw [← hN]; exact bbb, by rw [hW, asz, z1]; omega⟩
  have hl := fitE_lens hf
  have hle := hl.1
  have hla := hl.2 ad (by simp)
  have HL : Shh (en.length ≤ 4096 ∧ ad.length ≤ 4096 ∧ s.length = 64) := ⟨hle, hla, hs⟩
  have HF : Shh (fitE en [ad] = 0) := ⟨hf⟩
  clear hk hv he ha hf b0 b1 bb bbb bW z0 z1 hl hle hla hs
  rw [hW, hW1, hW0] at HC
  go_enter Tryd.func57, Tryd.ntmps57
  go_wp2_with (go_at_call 51; refine (fits_any _ _ _ _ en [ad] _ HC.out.2.1 HC.out.1 (by simp)).mono ?_)
  unfold KeepIs
  rintro e w2 ⟨rfl, rfl⟩
  rw [HF.out]
  rw [← hW0, ← hW1, ← hW] at HC ⊢
  clear hW hW1 hW0
  have HA : Shh (Row W.drew N 33 [.slice Ak kB.length ck, .slice Av vB.length cv, .int .i64 c] ∧ Row W.drew (N + 1) 33 [.slice none 0 0, .slice none 0 0, .int .i64 0] ∧ Sl W.drew W.drew.heap.size (.slice Ak kB.length ck) kB ∧ Sl W.drew W.drew.heap.size (.slice Av vB.length cv) vB ∧ Sl W.drew W.drew.heap.size (.slice A1 en.length c1) en ∧ Sl W.drew W.drew.heap.size (.slice A2 ad.length c2) ad ∧ Below N w W.drew ∧ N + 3 ≤ W.drew.heap.size) :=
    ⟨HC.out.2.2.2.1.drew, HC.out.2.2.2.2.1.drew, HC.out.2.2.2.2.2.1.more (by show N ≤ W.heap.size; have := HC.out.2.2.2.2.2.2.2.2; omega), HC.out.2.2.2.2.2.2.1.more (by show N ≤ W.heap.size; have := HC.out.2.2.2.2.2.2.2.2; omega), HC.out.2.1, HC.out.2.2.1, HC.out.2.2.2.2.2.2.2.1.drew, HC.out.2.2.2.2.2.2.2.2⟩
  clear HC
  go_wp2
  obtain ⟨kB2, hkB2⟩ : ∃ kB, kB = keyL s2 := ⟨_, rfl⟩
  obtain ⟨vB2, hvB2⟩ : ∃ vB, vB = valL s2 := ⟨_, rfl⟩
  have HS : Shh (kB2 = keyL s2 ∧ vB2 = valL s2) := ⟨hkB2, hvB2⟩
  clear hkB2 hvB2
  refine share (T := ?T0) (fun hT => ?gg0) ?tt0
  case gg0 =>
    refine wp_region_held_drew (S := fun _ => True) (by kernel_rfl) trivial (fun hS => ?_)
    have HV := HA
    generalize World.drew _ = V at HV ⊢
    have rB := HV.out.1
    have rZ := HV.out.2.1
    have sK := HV.out.2.2.1
    have sV := HV.out.2.2.2.1
    have sE := HV.out.2.2.2.2.1
    have sA := HV.out.2.2.2.2.2.1
    refine held_value 1 _ _ (some 18) (.slice A1 en.length c1) (by kernel_rfl) (by rfl) (by kernel_rfl) (fun w hS => by first | kernel_rfl | go_simp) (fun _ _ _ _ h => h) (trivial) ?_
    simp only [Act.put, List.setIfInBounds_toArray, List.set_cons_zero, List.set_cons_succ]
    refine held_value 2 _ _ (some 19) (.slice A2 ad.length c2) (by kernel_rfl) (by rfl) (by kernel_rfl) (fun w hS => by first | kernel_rfl | go_simp) (fun _ _ _ _ h => h) (trivial) ?_
    simp only [Act.put, List.setIfInBounds_toArray, List.set_cons_zero, List.set_cons_succ]
    refine held_two 0 3 (by kernel_rfl) ?_ ?_
    · refine step_value 0 _ _ (some 17) (.agg #[.slice Ak kB.length ck, .slice Av vB.length cv, .int .i64 c]) V (by rfl) (by kernel_rfl) (run_loadRow rfl rB Tryd.underlying33 rfl info_rd) (trivial) ?_
      simp only [Act.put, List.setIfInBounds_toArray, List.set_cons_zero, List.set_cons_succ]
      refine held_one 3 (by kernel_rfl) ?_
      refine step_value 3 _ _ (some 20) (.slice (some ⟨V.heap.size, 0, none⟩) 2 2) (V.alloc (.cells #[.slice A1 en.length c1, .slice A2 ad.length c2] 22)) (by rfl) (by kernel_rfl) (by first | kernel_rfl | go_simp) (trivial) ?_
      simp only [Act.put, List.setIfInBounds_toArray, List.set_cons_zero, List.set_cons_succ]
      have bx : Below V.heap.size V (V.alloc (.cells #[.slice A1 en.length c1, .slice A2 ad.length c2] 22)) := Below.alloc (Below.refl _ _) (Nat.le_refl _) _
      have rQ : Row (V.alloc (.cells #[.slice A1 en.length c1, .slice A2 ad.length c2] 22)) V.heap.size 22 [.slice A1 en.length c1, .slice A2 ad.length c2] := Row.new_ rfl rfl
      have z_rQ := asz V (.cells #[.slice A1 en.length c1, .slice A2 ad.length c2] 22)
      generalize V.alloc (.cells #[.slice A1 en.length c1, .slice A2 ad.length c2] 22) = Y2 at *
      have b_V := bx
      have m_Y2 : V.heap.size ≤ Y2.heap.size := bx.size
      clear bx
      refine held_one 4 (by kernel_rfl) ?_
      refine step_call 4 _ _ (some 21) 12 #[.slice (some ⟨V.heap.size, 0, none⟩) 2 2] (by rfl) (by kernel_rfl) (by first | kernel_rfl | go_simp) ?_
      refine (refJoin_any Y2.heap.size Y2.heap.size _ [en, ad] Y2 (PartsO.two rQ.lt (Nat.ne_of_lt rQ.lt) rQ (sE.go b_V) ((sE.go b_V).off (Nat.le_refl _)) (sA.go b_V) ((sA.go b_V).off (Nat.le_refl _))) (Nat.le_refl _) (by simp; have := HL.out; omega) (by simp)).mono ?_
      rintro e Y3 ⟨vj, rfl, gj⟩
      have bx : Below Y2.heap.size Y2 Y3 := gj.2
      have sj : Sl Y3 Y3.heap.size vj (en ++ ad) := by have := gives_sl gj; simpa using this
      clear gj
      replace b_V := Below.chain b_V bx
      have b_Y2 := bx
      have m_Y3 : Y2.heap.size ≤ Y3.heap.size := bx.size
      clear bx
      refine ⟨_, rfl, trivial, ?_⟩
      simp only [Act.put, List.setIfInBounds_toArray, List.set_cons_zero, List.set_cons_succ]
      refine held_one 5 (by kernel_rfl) ?_
      refine step_call 5 _ _ (some 22) 52 #[.agg #[.slice Ak kB.length ck, .slice Av vB.length cv, .int .i64 c], vj] (by rfl) (by kernel_rfl) (by first | kernel_rfl | go_simp) ?_
      refine (refUpdated_any Y3.heap.size _ _ vj c s (en ++ ad) Y3 (by rw [← HKV.out.1]; exact (sK.go b_V)) (by rw [← HKV.out.2]; exact (sV.go b_V)) sj (Nat.le_refl _) HL.out.2.2 (by simp; have := HL.out; omega)).mono ?_
      rintro e Y4 ⟨vk2, vv2, rfl, sk0, sv0, bU, oo⟩
      have bx : Below Y3.heap.size Y3 Y4 := bU
      have sk : Sl Y4 Y4.heap.size vk2 kB2 := by rw [HS.out.1, ← HSN.out]; exact sk0
      have sv : Sl Y4 Y4.heap.size vv2 vB2 := by rw [HS.out.2, ← HSN.out]; exact sv0
      have ofo : (Off N vk2 ∧ Off N vv2) ∧ Off (N + 1) vk2 ∧ Off (N + 1) vv2 := ⟨oo N (by have := HV.out.2.2.2.2.2.2.2; omega), oo (N + 1) (by have := HV.out.2.2.2.2.2.2.2; omega)⟩
      have ofw : ∀ g, g < w.heap.size → Off g vk2 ∧ Off g vv2 := fun g hg => oo g (by have := HV.out.2.2.2.2.2.2.2; omega)
      clear oo sk0 sv0
      obtain ⟨Ak2, ck2, rfl, _, _⟩ := sk.form
      obtain ⟨Av2, cv2, rfl, _, _⟩ := sv.form
      replace b_V := Below.chain b_V bx
      replace b_Y2 := Below.chain b_Y2 bx
      have b_Y3 := bx
      have m_Y4 : Y3.heap.size ≤ Y4.heap.size := bx.size
      clear bx
      refine ⟨_, rfl, trivial, ?_⟩
      simp only [Act.put, List.setIfInBounds_toArray, List.set_cons_zero, List.set_cons_succ]
      refine held_one 6 (by kernel_rfl) ?_
      refine step_storeRow 6 33 (.tmp 3) (.tmp 22) (by rfl) (by kernel_rfl) (_) rfl ([.slice Ak2 kB2.length ck2, .slice Av2 vB2.length cv2, .int .i64 c]) rfl 33 ([.slice Ak kB.length ck, .slice Av vB.length cv, .int .i64 c]) (rB.go b_V) (info_rd) (rfl) cell_slices ?_
      intro Y5 rS bt zt
      refine ⟨trivial, ?_⟩
      refine wpAnyH_done (by kernel_rfl) ?_ _
      have F : Shh (Row Y5 N 33 [.slice Ak2 kB2.length ck2, .slice Av2 vB2.length cv2, .int .i64 c] ∧ Row Y5 (N + 1) 33 [.slice none 0 0, .slice none 0 0, .int .i64 0] ∧ Sl Y5 Y5.heap.size (.slice Ak2 kB2.length ck2) kB2 ∧ Sl Y5 Y5.heap.size (.slice Av2 vB2.length cv2) vB2 ∧ Below N w Y5 ∧ N + 3 ≤ Y5.heap.size) := ⟨rS, bt.row (rZ.go b_V) (by have := HV.out.2.2.2.2.2.2.2; have := b_V.size; omega) (by omega), (sk.but ofo.1.1 bt).more bt.size, (sv.but ofo.1.2 bt).more bt.size, HV.out.2.2.2.2.2.2.1.trans ((b_V.mono (by have := HV.out.2.2.2.2.2.2.2; omega)).trans (bt.under (by have := HV.out.2.2.2.2.2.2.2; have := b_V.size; omega) (Nat.le_refl _))), by have := HV.out.2.2.2.2.2.2.2; have := b_V.size; have := bt.size; omega⟩
      have FO : Shh ((Off N (.slice Ak2 kB2.length ck2) ∧ Off N (.slice Av2 vB2.length cv2)) ∧ Off (N + 1) (.slice Ak2 kB2.length ck2) ∧ Off (N + 1) (.slice Av2 vB2.length cv2)) := ⟨ofo⟩
      have FW : Shh (∀ g, g < w.heap.size → Off g (.slice Ak2 kB2.length ck2) ∧ Off g (.slice Av2 vB2.length cv2)) := ⟨ofw⟩
      generalize hnQ : V.heap.size = nQ
      clear hnQ
      clear zt bt rS m_Y4 b_Y3 ofw ofo sv sk bU m_Y3 b_Y2 sj m_Y2 b_V z_rQ rQ rB rZ sK sV sE sA hS HV
      revert FW
      revert FO
      revert F
      revert Y5 nQ
      revert Ak2 ck2 Av2 cv2
      revert vj
      exact hT.out
    · refine step_value 3 _ _ (some 20) (.slice (some ⟨V.heap.size, 0, none⟩) 2 2) (V.alloc (.cells #[.slice A1 en.length c1, .slice A2 ad.length c2] 22)) (by rfl) (by kernel_rfl) (by first | kernel_rfl | go_simp) (trivial) ?_
      simp only [Act.put, List.setIfInBounds_toArray, List.set_cons_zero, List.set_cons_succ]
      have bx : Below V.heap.size V (V.alloc (.cells #[.slice A1 en.length c1, .slice A2 ad.length c2] 22)) := Below.alloc (Below.refl _ _) (Nat.le_refl _) _
      have rQ : Row (V.alloc (.cells #[.slice A1 en.length c1, .slice A2 ad.length c2] 22)) V.heap.size 22 [.slice A1 en.length c1, .slice A2 ad.length c2] := Row.new_ rfl rfl
      have z_rQ := asz V (.cells #[.slice A1 en.length c1, .slice A2 ad.length c2] 22)
      generalize V.alloc (.cells #[.slice A1 en.length c1, .slice A2 ad.length c2] 22) = Y1 at *
      have b_V := bx
      have m_Y1 : V.heap.size ≤ Y1.heap.size := bx.size
      clear bx
      refine held_two 0 4 (by kernel_rfl) ?_ ?_
      · refine step_value 0 _ _ (some 17) (.agg #[.slice Ak kB.length ck, .slice Av vB.length cv, .int .i64 c]) Y1 (by rfl) (by kernel_rfl) (run_loadRow rfl (rB.go b_V) Tryd.underlying33 rfl info_rd) (trivial) ?_
        simp only [Act.put, List.setIfInBounds_toArray, List.set_cons_zero, List.set_cons_succ]
        refine held_one 4 (by kernel_rfl) ?_
        refine step_call 4 _ _ (some 21) 12 #[.slice (some ⟨V.heap.size, 0, none⟩) 2 2] (by rfl) (by kernel_rfl) (by first | kernel_rfl | go_simp) ?_
        refine (refJoin_any Y1.heap.size Y1.heap.size _ [en, ad] Y1 (PartsO.two rQ.lt (Nat.ne_of_lt rQ.lt) rQ (sE.go b_V) ((sE.go b_V).off (Nat.le_refl _)) (sA.go b_V) ((sA.go b_V).off (Nat.le_refl _))) (Nat.le_refl _) (by simp; have := HL.out; omega) (by simp)).mono ?_
        rintro e Y3 ⟨vj, rfl, gj⟩
        have bx : Below Y1.heap.size Y1 Y3 := gj.2
        have sj : Sl Y3 Y3.heap.size vj (en ++ ad) := by have := gives_sl gj; simpa using this
        clear gj
        replace b_V := Below.chain b_V bx
        have b_Y1 := bx
        have m_Y3 : Y1.heap.size ≤ Y3.heap.size := bx.size
        clear bx
        refine ⟨_, rfl, trivial, ?_⟩
        simp only [Act.put, List.setIfInBounds_toArray, List.set_cons_zero, List.set_cons_succ]
        refine held_one 5 (by kernel_rfl) ?_
        refine step_call 5 _ _ (some 22) 52 #[.agg #[.slice Ak kB.length ck, .slice Av vB.length cv, .int .i64 c], vj] (by rfl) (by kernel_rfl) (by first | kernel_rfl | go_simp) ?_
        refine (refUpdated_any Y3.heap.size _ _ vj c s (en ++ ad) Y3 (by rw [← HKV.out.1]; exact (sK.go b_V)) (by rw [← HKV.out.2]; exact (sV.go b_V)) sj (Nat.le_refl _) HL.out.2.2 (by simp; have := HL.out; omega)).mono ?_
        rintro e Y4 ⟨vk2, vv2, rfl, sk0, sv0, bU, oo⟩
        have bx : Below Y3.heap.size Y3 Y4 := bU
        have sk : Sl Y4 Y4.heap.size vk2 kB2 := by rw [HS.out.1, ← HSN.out]; exact sk0
        have sv : Sl Y4 Y4.heap.size vv2 vB2 := by rw [HS.out.2, ← HSN.out]; exact sv0
        have ofo : (Off N vk2 ∧ Off N vv2) ∧ Off (N + 1) vk2 ∧ Off (N + 1) vv2 := ⟨oo N (by have := HV.out.2.2.2.2.2.2.2; omega), oo (N + 1) (by have := HV.out.2.2.2.2.2.2.2; omega)⟩
        have ofw : ∀ g, g < w.heap.size → Off g vk2 ∧ Off g vv2 := fun g hg => oo g (by have := HV.out.2.2.2.2.2.2.2; omega)
        clear oo sk0 sv0
        obtain ⟨Ak2, ck2, rfl, _, _⟩ := sk.form
        obtain ⟨Av2, cv2, rfl, _, _⟩ := sv.form
        replace b_V := Below.chain b_V bx
        replace b_Y1 := Below.chain b_Y1 bx
        have b_Y3 := bx
        have m_Y4 : Y3.heap.size ≤ Y4.heap.size := bx.size
        clear bx
        refine ⟨_, rfl, trivial, ?_⟩
        simp only [Act.put, List.setIfInBounds_toArray, List.set_cons_zero, List.set_cons_succ]
        refine held_one 6 (by kernel_rfl) ?_
        refine step_storeRow 6 33 (.tmp 3) (.tmp 22) (by rfl) (by kernel_rfl) (_) rfl ([.slice Ak2 kB2.length ck2, .slice Av2 vB2.length cv2, .int .i64 c]) rfl 33 ([.slice Ak kB.length ck, .slice Av vB.length cv, .int .i64 c]) (rB.go b_V) (info_rd) (rfl) cell_slices ?_
        intro Y5 rS bt zt
        refine ⟨trivial, ?_⟩
        refine wpAnyH_done (by kernel_rfl) ?_ _
        have F : Shh (Row Y5 N 33 [.slice Ak2 kB2.length ck2, .slice Av2 vB2.length cv2, .int .i64 c] ∧ Row Y5 (N + 1) 33 [.slice none 0 0, .slice none 0 0, .int .i64 0] ∧ Sl Y5 Y5.heap.size (.slice Ak2 kB2.length ck2) kB2 ∧ Sl Y5 Y5.heap.size (.slice Av2 vB2.length cv2) vB2 ∧ Below N w Y5 ∧ N + 3 ≤ Y5.heap.size) := ⟨rS, bt.row (rZ.go b_V) (by have := HV.out.2.2.2.2.2.2.2; have := b_V.size; omega) (by omega), (sk.but ofo.1.1 bt).more bt.size, (sv.but ofo.1.2 bt).more bt.size, HV.out.2.2.2.2.2.2.1.trans ((b_V.mono (by have := HV.out.2.2.2.2.2.2.2; omega)).trans (bt.under (by have := HV.out.2.2.2.2.2.2.2; have := b_V.size; omega) (Nat.le_refl _))), by have := HV.out.2.2.2.2.2.2.2; have := b_V.size; have := bt.size; omega⟩
        have FO : Shh ((Off N (.slice Ak2 kB2.length ck2) ∧ Off N (.slice Av2 vB2.length cv2)) ∧ Off (N + 1) (.slice Ak2 kB2.length ck2) ∧ Off (N + 1) (.slice Av2 vB2.length cv2)) := ⟨ofo⟩
        have FW : Shh (∀ g, g < w.heap.size → Off g (.slice Ak2 kB2.length ck2) ∧ Off g (.slice Av2 vB2.length cv2)) := ⟨ofw⟩
        generalize hnQ : V.heap.size = nQ
        clear hnQ
        clear zt bt rS m_Y4 b_Y3 ofw ofo sv sk bU m_Y3 b_Y1 sj m_Y1 b_V z_rQ rQ rB rZ sK sV sE sA hS HV
        revert FW
        revert FO
        revert F
        revert Y5 nQ
        revert Ak2 ck2 Av2 cv2
        revert vj
        exact hT.out
      · refine step_call 4 _ _ (some 21) 12 #[.slice (some ⟨V.heap.size, 0, none⟩) 2 2] (by rfl) (by kernel_rfl) (by first | kernel_rfl | go_simp) ?_
        refine (refJoin_any Y1.heap.size Y1.heap.size _ [en, ad] Y1 (PartsO.two rQ.lt (Nat.ne_of_lt rQ.lt) rQ (sE.go b_V) ((sE.go b_V).off (Nat.le_refl _)) (sA.go b_V) ((sA.go b_V).off (Nat.le_refl _))) (Nat.le_refl _) (by simp; have := HL.out; omega) (by simp)).mono ?_
        rintro e Y2 ⟨vj, rfl, gj⟩
        have bx : Below Y1.heap.size Y1 Y2 := gj.2
        have sj : Sl Y2 Y2.heap.size vj (en ++ ad) := by have := gives_sl gj; simpa using this
        clear gj
        replace b_V := Below.chain b_V bx
        have b_Y1 := bx
        have m_Y2 : Y1.heap.size ≤ Y2.heap.size := bx.size
        clear bx
        refine ⟨_, rfl, trivial, ?_⟩
        simp only [Act.put, List.setIfInBounds_toArray, List.set_cons_zero, List.set_cons_succ]
        refine held_one 0 (by kernel_rfl) ?_
        refine step_value 0 _ _ (some 17) (.agg #[.slice Ak kB.length ck, .slice Av vB.length cv, .int .i64 c]) Y2 (by rfl) (by kernel_rfl) (run_loadRow rfl (rB.go b_V) Tryd.underlying33 rfl info_rd) (trivial) ?_
        simp only [Act.put, List.setIfInBounds_toArray, List.set_cons_zero, List.set_cons_succ]
        refine held_one 5 (by kernel_rfl) ?_
        refine step_call 5 _ _ (some 22) 52 #[.agg #[.slice Ak kB.length ck, .slice Av vB.length cv, .int .i64 c], vj] (by rfl) (by kernel_rfl) (by first | kernel_rfl | go_simp) ?_
        refine (refUpdated_any Y2.heap.size _ _ vj c s (en ++ ad) Y2 (by rw [← HKV.out.1]; exact (sK.go b_V)) (by rw [← HKV.out.2]; exact (sV.go b_V)) sj (Nat.le_refl _) HL.out.2.2 (by simp; have := HL.out; omega)).mono ?_
        rintro e Y4 ⟨vk2, vv2, rfl, sk0, sv0, bU, oo⟩
        have bx : Below Y2.heap.size Y2 Y4 := bU
        have sk : Sl Y4 Y4.heap.size vk2 kB2 := by rw [HS.out.1, ← HSN.out]; exact sk0
        have sv : Sl Y4 Y4.heap.size vv2 vB2 := by rw [HS.out.2, ← HSN.out]; exact sv0
        have ofo : (Off N vk2 ∧ Off N vv2) ∧ Off (N + 1) vk2 ∧ Off (N + 1) vv2 := ⟨oo N (by have := HV.out.2.2.2.2.2.2.2; omega), oo (N + 1) (by have := HV.out.2.2.2.2.2.2.2; omega)⟩
        have ofw : ∀ g, g < w.heap.size → Off g vk2 ∧ Off g vv2 := fun g hg => oo g (by have := HV.out.2.2.2.2.2.2.2; omega)
        clear oo sk0 sv0
        obtain ⟨Ak2, ck2, rfl, _, _⟩ := sk.form
        obtain ⟨Av2, cv2, rfl, _, _⟩ := sv.form
        replace b_V := Below.chain b_V bx
        replace b_Y1 := Below.chain b_Y1 bx
        have b_Y2 := bx
        have m_Y4 : Y2.heap.size ≤ Y4.heap.size := bx.size
        clear bx
        refine ⟨_, rfl, trivial, ?_⟩
        simp only [Act.put, List.setIfInBounds_toArray, List.set_cons_zero, List.set_cons_succ]
        refine held_one 6 (by kernel_rfl) ?_
        refine step_storeRow 6 33 (.tmp 3) (.tmp 22) (by rfl) (by kernel_rfl) (_) rfl ([.slice Ak2 kB2.length ck2, .slice Av2 vB2.length cv2, .int .i64 c]) rfl 33 ([.slice Ak kB.length ck, .slice Av vB.length cv, .int .i64 c]) (rB.go b_V) (info_rd) (rfl) cell_slices ?_
        intro Y5 rS bt zt
        refine ⟨trivial, ?_⟩
        refine wpAnyH_done (by kernel_rfl) ?_ _
        have F : Shh (Row Y5 N 33 [.slice Ak2 kB2.length ck2, .slice Av2 vB2.length cv2, .int .i64 c] ∧ Row Y5 (N + 1) 33 [.slice none 0 0, .slice none 0 0, .int .i64 0] ∧ Sl Y5 Y5.heap.size (.slice Ak2 kB2.length ck2) kB2 ∧ Sl Y5 Y5.heap.size (.slice Av2 vB2.length cv2) vB2 ∧ Below N w Y5 ∧ N + 3 ≤ Y5.heap.size) := ⟨rS, bt.row (rZ.go b_V) (by have := HV.out.2.2.2.2.2.2.2; have := b_V.size; omega) (by omega), (sk.but ofo.1.1 bt).more bt.size, (sv.but ofo.1.2 bt).more bt.size, HV.out.2.2.2.2.2.2.1.trans ((b_V.mono (by have := HV.out.2.2.2.2.2.2.2; omega)).trans (bt.under (by have := HV.out.2.2.2.2.2.2.2; have := b_V.size; omega) (Nat.le_refl _))), by have := HV.out.2.2.2.2.2.2.2; have := b_V.size; have := bt.size; omega⟩
        have FO : Shh ((Off N (.slice Ak2 kB2.length ck2) ∧ Off N (.slice Av2 vB2.length cv2)) ∧ Off (N + 1) (.slice Ak2 kB2.length ck2) ∧ Off (N + 1) (.slice Av2 vB2.length cv2)) := ⟨ofo⟩
        have FW : Shh (∀ g, g < w.heap.size → Off g (.slice Ak2 kB2.length ck2) ∧ Off g (.slice Av2 vB2.length cv2)) := ⟨ofw⟩
        generalize hnQ : V.heap.size = nQ
        clear hnQ
        clear zt bt rS m_Y4 b_Y2 ofw ofo sv sk bU m_Y2 b_Y1 sj m_Y1 b_V z_rQ rQ rB rZ sK sV sE sA hS HV
        revert FW
        revert FO
        revert F
        revert Y5 nQ
        revert Ak2 ck2 Av2 cv2
        revert vj
        exact hT.out
  case tt0 =>
    intro vj Ak2 ck2 _ _ Av2 cv2 _ _ V1 nQ F FO FW
    clear HA HKV
    have f2 := F.out.1.cell 2
    have g2 := F.out.1.free 2
    simp only [List.getElem?_cons_succ, List.getElem?_cons_zero] at f2
    go_wp2_with (refine wl_store1 rfl rfl (V1.setCell ⟨N, 2, none⟩ (.int .i64 1)) (by go_simp) ?_)
    intro Z2 hZ2
    have bt2 : But V1.heap.size N V1 Z2 := by rw [hZ2]; exact But.setc _ _ _ _
    have hr2 : Row Z2 N 33 [.slice Ak2 kB2.length ck2, .slice Av2 vB2.length cv2, .int .i64 1] := by rw [hZ2]; exact F.out.1.set_ 2 _
    have H5 : Shh (Row Z2 N 33 [.slice Ak2 kB2.length ck2, .slice Av2 vB2.length cv2, .int .i64 1] ∧ Row Z2 (N + 1) 33 [.slice none 0 0, .slice none 0 0, .int .i64 0] ∧ Sl Z2 Z2.heap.size (.slice Ak2 kB2.length ck2) kB2 ∧ Sl Z2 Z2.heap.size (.slice Av2 vB2.length cv2) vB2 ∧ Below N w Z2 ∧ N + 3 ≤ Z2.heap.size) :=
      ⟨hr2, bt2.row F.out.2.1 (by have := F.out.2.2.2.2.2; omega) (by omega), (F.out.2.2.1.but FO.out.1.1 bt2).more bt2.size, (F.out.2.2.2.1.but FO.out.1.2 bt2).more bt2.size, F.out.2.2.2.2.1.trans (bt2.under (by have := F.out.2.2.2.2.2; omega) (Nat.le_refl _)), by have := F.out.2.2.2.2.2; have := bt2.size; omega⟩
    clear hr2 bt2 hZ2 f2 g2 F
    go_wp2_with (first | refine wpList_load_any rfl 33 (.tmp 3) rfl N rfl 33 [.slice Ak2 kB2.length ck2, .slice Av2 vB2.length cv2, .int .i64 1] _ H5.out.1 Tryd.underlying33 rfl info_rd ?_ | refine wpList_store_any rfl 33 (.tmp 6) (.tmp 24) rfl (N + 1) rfl [.slice Ak2 kB2.length ck2, .slice Av2 vB2.length cv2, .int .i64 1] rfl 33 [.slice none 0 0, .slice none 0 0, .int .i64 0] H5.out.2.1 info_rd rfl cell_slices ?_)
    intro Z3 hr3 bt3 _
    have HE : Shh (Row Z3 (N + 1) 33 [.slice Ak2 kB2.length ck2, .slice Av2 vB2.length cv2, .int .i64 1] ∧ Sl Z3 Z3.heap.size (.slice Ak2 kB2.length ck2) (keyL s2) ∧ Sl Z3 Z3.heap.size (.slice Av2 vB2.length cv2) (valL s2) ∧ Below w.heap.size w Z3) :=
      ⟨hr3, by rw [← HS.out.1]; exact (H5.out.2.2.1.but FO.out.2.1 bt3).more bt3.size, by rw [← HS.out.2]; exact (H5.out.2.2.2.1.but FO.out.2.2 bt3).more bt3.size, by rw [hN]; exact H5.out.2.2.2.2.1.trans (bt3.under (by have := H5.out.2.2.2.2.2; omega) (by omega))⟩
    clear hr3 bt3 H5 HS FO
    go_wp2
    exact ret_row_slot Tryd.results57 rfl rfl rfl HE.out.1 Tryd.underlying33 rfl info_rd ⟨_, rfl, ⟨_, _, rfl, HE.out.2.1, HE.out.2.2.1⟩, HE.out.2.2.2, fun g hg _ => ⟨_, _, _, rfl, FW.out g hg⟩⟩
end Go.Proofs.YtanpplniedphkaaDoor
