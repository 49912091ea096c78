/-
  WALKS: the document's own New.
-/
import Derived.Test.YtanpplniedphkaaDoorDe2
namespace Go.Proofs.YtanpplniedphkaaDoor
open Go.RowKit
set_option maxRecDepth 100000
/-- the document's generator: two slices that read as the state's, and the counter -/
def RSt (w : World) (x : Value) (s : List UInt8) (c : Int) : Prop := ∃ vk vv, x = .agg #[vk, vv, .int .i64 c] ∧ Sl w w.heap.size vk (keyL s) ∧ Sl w w.heap.size vv (valL s)
theorem RSt.go {w w' : World} {x : Value} {s : List UInt8} {c : Int} (h : RSt w x s c) (b : Below w.heap.size w w') : RSt w' x s c := by
  obtain ⟨vk, vv, rfl, h1, h2⟩ := h
  exact ⟨vk, vv, rfl, h1.go b, h2.go b⟩
/-- the slices of a generator of the document lie beside a block -/
def OffR (g : Nat) (x : Value) : Prop := ∃ vk vv i, x = .agg #[vk, vv, i] ∧ Off g vk ∧ Off g vv
theorem Off.less {g n m c : Nat} {A : Option Addr} (h : Off g (.slice A n c)) (hm : m ≤ n) : Off g (.slice A m c) := fun x l c' e hl => by
  cases e
  exact h x n c rfl (by omega)
def RNewIs (w : World) (K : Nat → Prop) (s : List UInt8) (c er : Int) (e : Ending) (w' : World) : Prop := ∃ x, e = .returned (.tuple #[x, .int .i64 er]) ∧ RSt w' x s c ∧ Below w.heap.size w w' ∧ ∀ g, g < w.heap.size → K g → OffR g x
def RNone : Value := .agg #[.slice none 0 0, .slice none 0 0, .int .i64 0]
def RBadIs (w : World) (er : Int) (e : Ending) (w' : World) : Prop := e = .returned (.tuple #[RNone, .int .i64 er]) ∧ Below w.heap.size w w'
theorem results_cell_slot {P : Program} {fn : Func} {q p : Tmp} {ty : TypeId} (h : fn.results = #[.cell p ty, .tmp q]) (tmps : Array Value) (w : World) (g : Nat) (t : TypeId) (cs : List Value) (d : TypeDesc) (v : Value)
    (hq : tmps.getD q undef = v) (hp : tmps.getD p undef = .pointer (some ⟨g, 0, none⟩)) (hg : Row w g t cs)
    (hu : P.underlying ty = some d) (hd : (match d with | .struct _ | .array _ _ => true | _ => false) = true) (hi : (P.info? ty).map (·.size) = some cs.length) :
    (results fn tmps).run P w = .ok (.tuple #[.agg cs.toArray, v]) w := by
  have hp' : tmps[p]?.getD undef = .pointer (some ⟨g, 0, none⟩) := by simpa using hp
  have hq' : tmps[q]?.getD undef = v := by simpa using hq
  simp [results, h, hp', hq', asAddr, run_loadVar_row w g t ty cs.toArray (0, 0) d hg hu hd (by simpa using hi)]
theorem ret_row_slot {P : Program} {f : Func} {a : Act} {q p : Tmp} {ty : TypeId} {d : TypeDesc} {post : Ending → World → Prop} {w : World} {g : Nat} {T : TypeId} {cs : List Value} {v : Value} (hf : f.results = #[.cell p ty, .tmp q]) (hdf : a.defers = []) (hq : a.tmps.getD q undef = v) (hp : a.tmps.getD p undef = .pointer (some ⟨g, 0, none⟩)) (hr : Row w g T cs)
    (hu : P.underlying ty = some d) (hd : (match d with | .struct _ | .array _ _ => true | _ => false) = true) (hi : (P.info? ty).map (·.size) = some cs.length) (h : post (.returned (.tuple #[.agg cs.toArray, v])) w) : bodyPost P f post .ret a w :=
  bodyPost_ret (v := .tuple #[.agg cs.toArray, v]) (results_cell_slot hf _ _ g T cs d v hq hp hr hu hd hi) hdf h
theorem filled0 (w : World) : Calls Tryd.prog 53 #[.int .u8 0] w (SlIs w (List.replicate 32 0)) := filled_any 0 w
theorem filled1 (w : World) : Calls Tryd.prog 53 #[.int .u8 1] w (SlIs w (List.replicate 32 1)) := filled_any 1 w
theorem ini_key : keyL (ini64 32) = List.replicate 32 0 := by decide
theorem ini_val : valL (ini64 32) = List.replicate 32 1 := by decide
set_option maxHeartbeats 4000000 in
theorem refNew_bad (ve vn vp : Value) (en no pe : List UInt8) (w : World) (he : Sl w w.heap.size ve en) (hn : Sl w w.heap.size vn no) (hp : Sl w w.heap.size vp pe) (hf : fitE en [no, pe] ≠ 0) :
    Calls Tryd.prog 14 #[ve, vn, vp] w (RBadIs w (fitE en [no, pe])) := by
  unfold RBadIs
  obtain ⟨A1, c1, rfl, _, _⟩ := he.form
  obtain ⟨A2, c2, rfl, _, _⟩ := hn.form
  obtain ⟨A3, c3, rfl, _, _⟩ := hp.form
  obtain ⟨N, hN⟩ : ∃ N, w.heap.size = N := ⟨_, rfl⟩
  obtain ⟨W1, hW1⟩ : ∃ W1, W1 = w.alloc (.cells #[.slice none 0 0, .slice none 0 0, .int .i64 0] 33) := ⟨_, rfl⟩
  have b1 : Below w.heap.size w W1 := by rw [hW1]; exact below1 _ _
  have z1 : W1.heap.size = N + 1 := by rw [hW1, asz, hN]
  obtain ⟨W, hW⟩ : ∃ W, W = W1.alloc (.cells #[.slice A2 no.length c2, .slice A3 pe.length c3] 22) := ⟨_, rfl⟩
  have bW : Below W1.heap.size W1 W := by rw [hW]; exact below1 _ _
  have HC : Shh (PartsO W W.heap.size W.heap.size (.slice (some ⟨N + 1, 0, none⟩) 2 2) [no, pe] ∧ Sl W W.heap.size (.slice A1 en.length c1) en ∧ Sl W W.heap.size (.slice A2 no.length c2) no ∧ Sl W W.heap.size (.slice A3 pe.length c3) pe ∧ Row W N 33 [.slice none 0 0, .slice none 0 0, .int .i64 0] ∧ Below N w W ∧ N + 2 ≤ W.heap.size) :=
    ⟨by rw [hW, ← z1]; exact parts2 (hn.go b1) (hp.go b1), (he.go b1).go bW, (hn.go b1).go bW, (hp.go b1).go bW, by rw [hW, hW1]; exact (Row.new_ hN.symm rfl).alloc _, by rw [← hN]; exact Below.chain b1 bW, by rw [hW, asz, z1]; omega⟩
  obtain ⟨er, her⟩ : ∃ er, er = fitE en [no, pe] := ⟨_, rfl⟩
  have hne : (er != 0) = true := by rw [her]; simpa using hf
  have HER : Shh (fitE en [no, pe] = er) := ⟨her.symm⟩
  rw [HER.out]
  clear he hn hp hf b1 bW her z1
  rw [hW, hW1] at HC
  go_enter Tryd.func14, Tryd.ntmps14
  go_wp2_with (go_at_call 51; refine (fits_any _ _ _ _ en [no, pe] _ HC.out.2.1 HC.out.1 (by simp)).mono ?_)
  unfold KeepIs
  rintro e w2 ⟨rfl, rfl⟩
  rw [HER.out]
  rw [← hW1, ← hW] at HC ⊢
  clear hW hW1
  go_wp2_with (refine wpList_store_any rfl 33 (.tmp 6) (.tmp 17) rfl N rfl [.slice none 0 0, .slice none 0 0, .int .i64 0] rfl 33 [.slice none 0 0, .slice none 0 0, .int .i64 0] HC.out.2.2.2.2.1 info_rd rfl cell_slices ?_)
  intro Z hrZ btZ _
  have G : Shh (Row Z N 33 [.slice none 0 0, .slice none 0 0, .int .i64 0] ∧ Below w.heap.size w Z) := ⟨hrZ, by rw [hN]; exact HC.out.2.2.2.2.2.1.trans (btZ.under (by have := HC.out.2.2.2.2.2.2; omega) (Nat.le_refl _))⟩
  clear hrZ btZ HC
  go_wp2
  exact ret_row_slot Tryd.results14 rfl rfl rfl G.out.1 Tryd.underlying33 rfl info_rd ⟨rfl, G.out.2⟩
set_option maxHeartbeats 4000000 in
theorem refNew_ok (ve vn vp : Value) (en no pe : List UInt8) (w : World) (he : Sl w w.heap.size ve en) (hn : Sl w w.heap.size vn no) (hp : Sl w w.heap.size vp pe) (hf : fitE en [no, pe] = 0) :
    Calls Tryd.prog 14 #[ve, vn, vp] w (RNewIs w (fun _ => True) (newL en no pe) 1 0) := by
  unfold RNewIs
  obtain ⟨s, hs⟩ : ∃ s, s = newL en no pe := ⟨_, rfl⟩
  have HSN : Shh (updL (en ++ no ++ pe) (ini64 32) = s) := ⟨hs.symm⟩
  rw [← hs]
  clear hs
  obtain ⟨A1, c1, rfl, _, _⟩ := he.form
  obtain ⟨A2, c2, rfl, _, _⟩ := hn.form
  obtain ⟨A3, c3, rfl, _, _⟩ := hp.form
  obtain ⟨N, hN⟩ : ∃ N, w.heap.size = N := ⟨_, rfl⟩
  obtain ⟨W1, hW1⟩ : ∃ W1, W1 = w.alloc (.cells #[.slice none 0 0, .slice none 0 0, .int .i64 0] 33) := ⟨_, rfl⟩
  have b1 : Below w.heap.size w W1 := by rw [hW1]; exact below1 _ _
  have z1 : W1.heap.size = N + 1 := by rw [hW1, asz, hN]
  obtain ⟨W, hW⟩ : ∃ W, W = W1.alloc (.cells #[.slice A2 no.length c2, .slice A3 pe.length c3] 22) := ⟨_, rfl⟩
  have bW : Below W1.heap.size W1 W := by rw [hW]; exact below1 _ _
  have HC : Shh (PartsO W W.heap.size W.heap.size (.slice (some ⟨N + 1, 0, none⟩) 2 2) [no, pe] ∧ Sl W W.heap.size (.slice A1 en.length c1) en ∧ Sl W W.heap.size (.slice A2 no.length c2) no ∧ Sl W W.heap.size (.slice A3 pe.length c3) pe ∧ Row W N 33 [.slice none 0 0, .slice none 0 0, .int .i64 0] ∧ Below N w W ∧ N + 2 ≤ W.heap.size) :=
    ⟨by rw [hW, ← z1]; exact parts2 (hn.go b1) (hp.go b1), (he.go b1).go bW, (hn.go b1).go bW, (hp.go b1).go bW, by rw [hW, hW1]; exact (Row.new_ hN.symm rfl).alloc _, by rw [← hN]; exact Below.chain b1 bW, by rw [hW, asz, z1]; omega⟩
  have hl := fitE_lens hf
  have hle := hl.1
  have hln := hl.2 no (by simp)
  have hlp := hl.2 pe (by simp)
  clear hl
  have HF : Shh (fitE en [no, pe] = 0) := ⟨hf⟩
  clear he hn hp hf b1 bW z1
  rw [hW, hW1] at HC
  go_enter Tryd.func14, Tryd.ntmps14
  go_wp2_with (go_at_call 51; refine (fits_any _ _ _ _ en [no, pe] _ HC.out.2.1 HC.out.1 (by simp)).mono ?_)
  unfold KeepIs
  rintro e w2 ⟨rfl, rfl⟩
  rw [HF.out]
  rw [← hW1, ← hW] at HC ⊢
  clear hW hW1
  go_wp2_with (go_at_call 53; refine (filled0 W).mono ?_)
  rintro e Y0 ⟨vk, rfl, gk⟩
  go_wp2_with (go_at_call 53; refine (filled1 Y0).mono ?_)
  rintro e Y ⟨vv, rfl, gv⟩
  have HK : Shh (Sl Y Y.heap.size vk (keyL (ini64 32)) ∧ Sl Y Y.heap.size vv (valL (ini64 32)) ∧ Below W.heap.size W Y) := ⟨by rw [ini_key]; exact gk.1.go gv.2, by rw [ini_val]; exact gv.1, Below.chain gk.2 gv.2⟩
  clear gk gv
  obtain ⟨kB, hkB⟩ : ∃ kB, kB = keyL (ini64 32) := ⟨_, rfl⟩
  obtain ⟨vB, hvB⟩ : ∃ vB, vB = valL (ini64 32) := ⟨_, rfl⟩
  have HKV : Shh (kB = keyL (ini64 32) ∧ vB = valL (ini64 32)) := ⟨hkB, hvB⟩
  rw [← hkB, ← hvB] at HK
  clear hkB hvB
  obtain ⟨Ak, ck, rfl, _, _⟩ := HK.out.1.form
  obtain ⟨Av, cv, rfl, _, _⟩ := HK.out.2.1.form
  obtain ⟨Z, hZ⟩ : ∃ Z, Z = Y.alloc (.cells #[.slice A1 en.length c1, .slice A2 no.length c2, .slice A3 pe.length c3] 22) := ⟨_, rfl⟩
  have bZ : Below Y.heap.size Y Z := by rw [hZ]; exact below1 _ _
  have bb := Below.chain HK.out.2.2 bZ
  have H2 : Shh (PartsO Z Z.heap.size Z.heap.size (.slice (some ⟨Y.heap.size, 0, none⟩) 3 3) [en, no, pe] ∧ Sl Z Z.heap.size (.slice Ak kB.length ck) kB ∧ Sl Z Z.heap.size (.slice Av vB.length cv) vB ∧ Row Z N 33 [.slice none 0 0, .slice none 0 0, .int .i64 0] ∧ Below N w Z ∧ N + 2 ≤ Z.heap.size) :=
    ⟨by rw [hZ]; exact parts3 ((HC.out.2.1.go HK.out.2.2)) (HC.out.2.2.1.go HK.out.2.2) (HC.out.2.2.2.1.go HK.out.2.2), HK.out.1.go bZ, HK.out.2.1.go bZ, HC.out.2.2.2.2.1.go bb, HC.out.2.2.2.2.2.1.trans (bb.mono (by have := HC.out.2.2.2.2.2.2; omega)), by have := HC.out.2.2.2.2.2.2; have := bb.size; omega⟩
  rw [hZ] at H2
  clear HC HK bZ bb
  go_wp2_with (first | refine wpList_build_eq rfl 33 _ rfl #[.slice Ak kB.length ck, .slice Av vB.length cv, .int .i64 0] (by kernel_rfl) ?_ | (go_at_call 12; refine (refJoin_any _ _ _ [en, no, pe] _ H2.out.1 (Nat.le_refl _) (by simp; omega) (by simp)).mono ?_))
  rintro e U ⟨vj, rfl, gj⟩
  have e3 : [en, no, pe].flatten = en ++ no ++ pe := by simp
  rw [← hZ] at H2 gj
  clear hZ
  have sj := gives_sl gj
  rw [e3] at sj
  have bu := gj.2
  have H3 : Shh (Sl U U.heap.size (.slice Ak kB.length ck) (keyL (ini64 32)) ∧ Sl U U.heap.size (.slice Av vB.length cv) (valL (ini64 32)) ∧ Sl U U.heap.size vj (en ++ no ++ pe) ∧ Row U N 33 [.slice none 0 0, .slice none 0 0, .int .i64 0] ∧ Below N w U ∧ N + 2 ≤ U.heap.size) :=
    ⟨by rw [← HKV.out.1]; exact H2.out.2.1.go bu, by rw [← HKV.out.2]; exact H2.out.2.2.1.go bu, sj, H2.out.2.2.2.1.go bu, H2.out.2.2.2.2.1.trans (bu.mono (by have := H2.out.2.2.2.2.2; omega)), by have := H2.out.2.2.2.2.2; have := bu.size; omega⟩
  clear H2 gj sj bu e3 HKV
  go_wp2_with (go_at_call 52; refine (refUpdated_any U.heap.size _ _ vj 0 (ini64 32) (en ++ no ++ pe) U H3.out.1 H3.out.2.1 H3.out.2.2.1 (Nat.le_refl _) (ini64_length 32 (by omega)) (by simp; omega)).mono ?_)
  rintro e V ⟨vk2, vv2, rfl, sk, sv, bV, oo⟩
  rw [HSN.out] at sk sv
  obtain ⟨kB2, hkB2⟩ : ∃ kB, kB = keyL s := ⟨_, rfl⟩
  obtain ⟨vB2, hvB2⟩ : ∃ vB, vB = valL s := ⟨_, rfl⟩
  rw [← hkB2] at sk
  rw [← hvB2] at sv
  have HS : Shh (kB2 = keyL s ∧ vB2 = valL s) := ⟨hkB2, hvB2⟩
  clear hkB2 hvB2
  have HO : Shh (Off N vk2 ∧ Off N vv2) := ⟨oo N (by have := H3.out.2.2.2.2.2; omega)⟩
  have HW : Shh (∀ g, g < w.heap.size → Off g vk2 ∧ Off g vv2) := ⟨fun g hg => oo g (by have := H3.out.2.2.2.2.2; omega)⟩
  clear oo
  obtain ⟨Ak2, ck2, rfl, _, _⟩ := sk.form
  obtain ⟨Av2, cv2, rfl, _, _⟩ := sv.form
  have hM : ∃ M, V.heap.size = M := ⟨_, rfl⟩
  obtain ⟨M, hM⟩ := hM
  obtain ⟨V1, hV1⟩ : ∃ V1, V1 = V.alloc (.cells #[.slice none 0 0, .slice none 0 0, .int .i64 0] 33) := ⟨_, rfl⟩
  have b1 : Below V.heap.size V V1 := by rw [hV1]; exact below1 _ _
  have H4 : Shh (Row V1 M 33 [.slice none 0 0, .slice none 0 0, .int .i64 0] ∧ Row V1 N 33 [.slice none 0 0, .slice none 0 0, .int .i64 0] ∧ Sl V1 M (.slice Ak2 kB2.length ck2) kB2 ∧ Sl V1 M (.slice Av2 vB2.length cv2) vB2 ∧ Below N w V1 ∧ N + 2 ≤ M ∧ V1.heap.size = M + 1) :=
    ⟨by rw [hV1]; exact Row.new_ hM.symm rfl, (H3.out.2.2.2.1.go bV).go b1, by rw [← hM]; exact sk.below b1, by rw [← hM]; exact sv.below b1, H3.out.2.2.2.2.1.trans ((Below.chain bV b1).mono (by have := H3.out.2.2.2.2.2; omega)), by have := H3.out.2.2.2.2.2; have := bV.size; omega, by rw [hV1, asz, hM]⟩
  rw [hV1] at H4
  clear sk sv bV b1 H3
  go_wp2_with (refine wpList_store_any rfl 33 (.tmp 9) (.tmp 27) rfl M rfl [.slice Ak2 kB2.length ck2, .slice Av2 vB2.length cv2, .int .i64 0] rfl 33 [.slice none 0 0, .slice none 0 0, .int .i64 0] H4.out.1 info_rd rfl cell_slices ?_)
  intro Z1 hr1 bt1 _
  rw [← hV1] at H4 bt1
  clear hV1 hM
  have f2 := hr1.cell 2
  have g2 := hr1.free 2
  simp only [List.getElem?_cons_succ, List.getElem?_cons_zero] at f2
  go_wp2_with (refine wl_store1 rfl rfl (Z1.setCell ⟨M, 2, none⟩ (.int .i64 1)) (by go_simp) ?_)
  intro Z2 hZ2
  have bt2 : But (M + 1) M V1 Z2 := by rw [hZ2]; exact bt1.setCell 2 _
  have hr2 : Row Z2 M 33 [.slice Ak2 kB2.length ck2, .slice Av2 vB2.length cv2, .int .i64 1] := by rw [hZ2]; exact hr1.set_ 2 _
  have H5 : Shh (Row Z2 M 33 [.slice Ak2 kB2.length ck2, .slice Av2 vB2.length cv2, .int .i64 1] ∧ Row Z2 N 33 [.slice none 0 0, .slice none 0 0, .int .i64 0] ∧ Sl Z2 M (.slice Ak2 kB2.length ck2) kB2 ∧ Sl Z2 M (.slice Av2 vB2.length cv2) vB2 ∧ Below N w Z2 ∧ N + 2 ≤ M ∧ M + 1 ≤ Z2.heap.size) :=
    ⟨hr2, bt2.row H4.out.2.1 (by have := H4.out.2.2.2.2.2; omega) (by have := H4.out.2.2.2.2.2; omega), H4.out.2.2.1.below (bt2.under (by have := H4.out.2.2.2.2.2; omega) (Nat.le_refl _)), H4.out.2.2.2.1.below (bt2.under (by have := H4.out.2.2.2.2.2; omega) (Nat.le_refl _)), H4.out.2.2.2.2.1.trans (bt2.under (by have := H4.out.2.2.2.2.2; omega) (by have := H4.out.2.2.2.2.2; omega)), H4.out.2.2.2.2.2.1, by have := H4.out.2.2.2.2.2; have := bt2.size; omega⟩
  clear hr1 hr2 bt1 bt2 hZ2 f2 g2 H4
  go_wp2_with (first | refine wpList_load_any rfl 33 (.tmp 9) rfl M rfl 33 [.slice Ak2 kB2.length ck2, .slice Av2 vB2.length cv2, .int .i64 1] _ H5.out.1 Tryd.underlying33 rfl info_rd ?_ | refine wpList_store_any rfl 33 (.tmp 6) (.tmp 29) rfl N rfl [.slice Ak2 kB2.length ck2, .slice Av2 vB2.length cv2, .int .i64 1] rfl 33 [.slice none 0 0, .slice none 0 0, .int .i64 0] H5.out.2.1 info_rd rfl cell_slices ?_)
  intro Z3 hr3 bt3 _
  have oK : Off N (.slice Ak2 kB2.length ck2) := HO.out.1
  have oV : Off N (.slice Av2 vB2.length cv2) := HO.out.2
  have HE : Shh (Row Z3 N 33 [.slice Ak2 kB2.length ck2, .slice Av2 vB2.length cv2, .int .i64 1] ∧ Sl Z3 Z3.heap.size (.slice Ak2 kB2.length ck2) (keyL s) ∧ Sl Z3 Z3.heap.size (.slice Av2 vB2.length cv2) (valL s) ∧ Below w.heap.size w Z3) :=
    ⟨hr3, by rw [← HS.out.1]; exact ((H5.out.2.2.1.more (by have := H5.out.2.2.2.2.2; omega)).but oK bt3).more bt3.size, by rw [← HS.out.2]; exact ((H5.out.2.2.2.1.more (by have := H5.out.2.2.2.2.2; omega)).but oV bt3).more bt3.size, by rw [hN]; exact H5.out.2.2.2.2.1.trans (bt3.under (by have := H5.out.2.2.2.2.2; omega) (Nat.le_refl _))⟩
  clear hr3 bt3 H5 HS
  go_wp2
  exact ret_row_slot Tryd.results14 rfl rfl rfl HE.out.1 Tryd.underlying33 rfl info_rd ⟨_, rfl, ⟨_, _, rfl, HE.out.2.1, HE.out.2.2.1⟩, HE.out.2.2.2, fun g hg _ => ⟨_, _, _, rfl, HW.out g hg⟩⟩
end Go.Proofs.YtanpplniedphkaaDoor
