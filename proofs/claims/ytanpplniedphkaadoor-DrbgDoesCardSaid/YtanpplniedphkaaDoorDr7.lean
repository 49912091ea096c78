/-
  WALKS: bytes drawn; entropy anew; a copy.
-/
import Derived.Test.YtanpplniedphkaaDoorDr6
namespace Go.Proofs.YtanpplniedphkaaDoor
open Go.RowKit
set_option maxRecDepth 100000
theorem But.below {a b c : World} {g : Nat} (h : But a.heap.size g a b) (k : Below b.heap.size b c) : But a.heap.size g a c := h.trans (But.of (k.mono h.size) g)
theorem Below.but {a b c : World} {g : Nat} (h : Below a.heap.size a b) (k : But b.heap.size g b c) : But a.heap.size g a c := (But.of h g).trans (k.mono h.size)
def drS1 (ad s : List UInt8) : List UInt8 := if ad = [] then s else updL ad s
theorem drS1_length (ad s : List UInt8) (h : s.length = 64) : (drS1 ad s).length = 64 := by
  unfold drS1
  split
  · exact h
  · exact updL_length _ _ h
/-- the state behind a draw -/
def drS2 (ad s : List UInt8) (n : Nat) : List UInt8 := updL ad (drawS (drS1 ad s) n)
theorem drS2_length (ad s : List UInt8) (n : Nat) (h : s.length = 64) : (drS2 ad s n).length = 64 := updL_length _ _ (drawS_length _ (drS1_length _ _ h) _)
/-- bytes are handed back, the generator goes on -/
def DrawnIs (w : World) (g : Nat) (bs s : List UInt8) (c : Nat) (e : Ending) (w' : World) : Prop := ∃ v, e = .returned (.tuple #[v, .int .i64 0]) ∧ w'.ownsRow w.heap.size 5 1 v bs.length (Lib.byteCells bs) ∧ DAt w' g s c ∧ But w.heap.size g w w'
/-- the error of a draw -/
def drawE (n : Int) (ad : List UInt8) (c : Nat) : Int := if n < 0 then 1 else if 65536 < n then 3 else if longB ad then 3 else if 1024 < c then 51 else 0
def drNil (er : Int) : Value := .tuple #[.slice none 0 0, .int .i64 er]
set_option maxHeartbeats 4000000 in
theorem draw_ok (g c n : Nat) (va : Value) (ad s : List UInt8) (w : World) (hd : DAt w g s c) (ha : Sl w w.heap.size va ad) (hv : Vars w) (h0 : 0 < c) (h1 : c ≤ 1024) (hn : n ≤ 65536) (hal : longB ad = false) :
    Calls Tryd.prog 16 #[.pointer (some ⟨g, 0, none⟩), .int .i64 (n : Int), va] w (DrawnIs w g (drawB (drS1 ad s) n) (drS2 ad s n) (c + 1)) := by
  unfold DrawnIs
  obtain ⟨Aa, ca, rfl, _, _⟩ := ha.form
  have hadl : ad.length ≤ 4096 := by simpa [longB] using hal
  have hs := hd.len
  have hds := drS1_length ad s hs
  have hdd := drawS_length (drS1 ad s) hds n
  have hd2 := drS2_length ad s n hs
  have hg := hd.lt
  have HC : Shh (DAt w g s c ∧ Sl w w.heap.size (.slice Aa ad.length ca) ad ∧ True ∧ Vars w) := ⟨hd, ha, trivial, hv⟩
  have hc := hd.cnt
  have qm : decide (0 < c) = true := by simpa using h0
  have hvp := hv.pos
  clear ha hv hd
  obtain ⟨M, hM⟩ : ∃ M, M = w.heap.size := ⟨_, rfl⟩
  have HM : Shh (M = w.heap.size) := ⟨hM⟩
  have HVP : Shh (1 < M) := ⟨by rw [hM]; exact hvp⟩
  clear hvp
  have hgM : g < M := by omega
  clear hM
  go_enter Tryd.func16, Tryd.ntmps16
  go_wp2_with (go_at_call 54; refine (dr_isMade_any g c s w HC.out.1).mono ?_)
  unfold KeepIs
  rintro e w2 ⟨rfl, rfl⟩
  try rw [qm]
  go_wp2_with (go_at_call 55; refine (isLongK _ _ ad w HC.out.2.1).mono ?_)
  unfold KeepIs
  rintro e w2 ⟨rfl, rfl⟩
  rw [hal]
  clear qm
  go_wp2_with (first | refine wpList_load_mid rfl 81 (.tmp 33) rfl g 0 rfl (Lib.byteCells s) _ HC.out.1.range Tryd.underlying81 rfl (info_st.trans (size_bytes _ _ hs)) ?_ | refine wpList_store_any rfl 81 (.tmp 8) (.tmp 34) rfl w.heap.size rfl (Lib.byteCells (s)) rfl 81 (Lib.byteCells (List.replicate 64 0)) (Row.new_ rfl zero64b) (info_st.trans (size_bytes _ _ hs)) (by rw [Lib.byteCells_length, Lib.byteCells_length, hs]; rfl) (cell_oneCell _) ?_)
  intro Y1 hr1 bt1 zt1
  try simp only [asz] at bt1 zt1
  have b1 : Below w.heap.size w Y1 := (below1 w _).trans (bt1.under (by omega) (Nat.le_refl _))
  have H1 : Shh (Row Y1 M 81 (Lib.byteCells s) ∧ DAt Y1 g s c ∧ Vars Y1 ∧ Sl Y1 Y1.heap.size (.slice Aa ad.length ca) ad ∧ Below w.heap.size w Y1 ∧ M + 1 ≤ Y1.heap.size) :=
    ⟨by rw [HM.out]; exact hr1, HC.out.1.go b1, HC.out.2.2.2.go b1, HC.out.2.1.go b1, b1, by have := HM.out; omega⟩
  clear hr1 bt1 zt1 b1 hc
  rw [← HM.out]
  have hoM0 : Shh (Off M (.slice Aa ad.length ca)) := ⟨HC.out.2.1.off (by have := HM.out; omega)⟩
  clear HC
  by_cases ha0 : ad = []
  · have hS : drS1 ad s = s := by unfold drS1; rw [if_pos ha0]
    have HE : Shh (s = drS1 ad s) := ⟨hS.symm⟩
    have hl0 : ¬ (0 : Int) < (ad.length : Int) := by rw [ha0]; simp
    clear hS ha0
    go_wp2_with (first | refine wpList_load_any rfl 81 (.tmp 8) rfl M rfl 81 (Lib.byteCells (s)) _ H1.out.1 Tryd.underlying81 rfl (info_st.trans (size_bytes _ _ hs)) ?_ | (go_at_call 56; refine (drawn_any (s) n Y1 hs (by omega) H1.out.2.2.1).mono ?_))
    rintro e Y2 ⟨v, rfl, gv⟩
    rw [HE.out]
    have H2 : Shh (Y2.ownsRow Y1.heap.size 5 1 v (drawB (drS1 ad s) n).length (Lib.byteCells (drawB (drS1 ad s) n)) ∧ DAt Y2 g s c ∧ Vars Y2 ∧ Sl Y2 Y2.heap.size (.slice Aa ad.length ca) ad ∧ Below w.heap.size w Y2 ∧ M + 1 ≤ Y1.heap.size ∧ Y1.heap.size ≤ Y2.heap.size) :=
      ⟨by have := gv.1; rw [HE.out] at this; exact this, H1.out.2.1.go gv.2, H1.out.2.2.1.go gv.2, H1.out.2.2.2.1.go gv.2, H1.out.2.2.2.2.1.trans (gv.2.mono (by have := H1.out.2.2.2.2.2; have := HM.out; omega)), H1.out.2.2.2.2.2, gv.2.size⟩
    clear gv H1
    go_wp2_with (refine wpList_store_any rfl 81 (.tmp 10) (.tmp 47) rfl Y2.heap.size rfl (Lib.byteCells (drawS (drS1 ad s) n)) rfl 81 (Lib.byteCells (List.replicate 64 0)) (Row.new_ rfl zero64b) (info_st.trans (size_bytes _ _ hdd)) (by rw [Lib.byteCells_length, Lib.byteCells_length, hdd]; rfl) (cell_oneCell _) ?_)
    intro Y3 hr3 bt3 zt3
    try simp only [asz] at bt3 zt3
    have b3 : Below Y2.heap.size Y2 Y3 := (below1 Y2 _).trans (bt3.under (by omega) (Nat.le_refl _))
    have H3 : Shh (Y3.ownsRow Y1.heap.size 5 1 v (drawB (drS1 ad s) n).length (Lib.byteCells (drawB (drS1 ad s) n)) ∧ Row Y3 Y2.heap.size 81 (Lib.byteCells (drawS (drS1 ad s) n)) ∧ DAt Y3 g s c ∧ Vars Y3 ∧ Sl Y3 Y3.heap.size (.slice Aa ad.length ca) ad ∧ Below w.heap.size w Y3 ∧ M + 1 ≤ Y1.heap.size ∧ Y1.heap.size ≤ Y3.heap.size) :=
      ⟨own_step H2.out.1 b3, hr3, H2.out.2.1.go b3, H2.out.2.2.1.go b3, H2.out.2.2.2.1.go b3, H2.out.2.2.2.2.1.trans (b3.mono H2.out.2.2.2.2.1.size), H2.out.2.2.2.2.2.1, Nat.le_trans H2.out.2.2.2.2.2.2 b3.size⟩
    clear hr3 bt3 zt3 b3 H2
    generalize Y2.heap.size = K at *
    obtain ⟨X, hX⟩ : ∃ X, X = Y3.alloc (.cells #[.slice Aa ad.length ca] 22) := ⟨_, rfl⟩
    have bX : Below Y3.heap.size Y3 X := by rw [hX]; exact below1 _ _
    have H4 : Shh (PartsO X X.heap.size X.heap.size (.slice (some ⟨Y3.heap.size, 0, none⟩) 1 1) [ad] ∧ Vars X ∧ X.ownsRow Y1.heap.size 5 1 v (drawB (drS1 ad s) n).length (Lib.byteCells (drawB (drS1 ad s) n)) ∧ DAt X g s c ∧ Below w.heap.size w X) :=
      ⟨by rw [hX]; exact parts1 H3.out.2.2.2.2.1, H3.out.2.2.2.1.go bX, own_step H3.out.1 bX, H3.out.2.2.1.go bX, H3.out.2.2.2.2.2.1.trans (bX.mono H3.out.2.2.2.2.2.1.size)⟩
    rw [hX] at H4
    clear bX
    go_wp2_with (first | refine wpList_load_any rfl 81 (.tmp 10) rfl K rfl 81 (Lib.byteCells (drawS (drS1 ad s) n)) _ H3.out.2.1 Tryd.underlying81 rfl (info_st.trans (size_bytes _ _ hdd)) ?_ | (go_at_call 50; refine (updated_any _ _ [ad] (drawS (drS1 ad s) n) _ H4.out.1 (Nat.le_refl _) hdd (by simp; omega) (by simp) H4.out.2.1).mono ?_))
    rintro e Y4 ⟨rfl, b4⟩
    have e4 : updL [ad].flatten (drawS (drS1 ad s) n) = drS2 ad s n := by unfold drS2; simp
    rw [e4]
    rw [← hX] at H4 b4
    have H5 : Shh (Y4.ownsRow Y1.heap.size 5 1 v (drawB (drS1 ad s) n).length (Lib.byteCells (drawB (drS1 ad s) n)) ∧ DAt Y4 g s c ∧ Below w.heap.size w Y4 ∧ M + 1 ≤ Y1.heap.size) := ⟨own_step H4.out.2.2.1 b4, H4.out.2.2.2.1.go b4, H4.out.2.2.2.2.trans (b4.mono H4.out.2.2.2.2.size), H3.out.2.2.2.2.2.2.1⟩
    clear H4 H3 b4 hX e4
    go_wp2_with (refine wpList_storeSt rfl (.tmp 54) (.tmp 52) rfl g rfl (drS2 ad s n) rfl hd2 s c H5.out.2.1 ?_)
    intro Y5 hd5 bt5 zt5
    have hc5 := hd5.cnt
    have hf5 := hd5.free
    have hset := hd5.setc (c + 1)
    have H6 : Shh ((Y5.setCell ⟨g, 64, none⟩ (.int .i64 ((c : Int) + 1))).ownsRow w.heap.size 5 1 v (drawB (drS1 ad s) n).length (Lib.byteCells (drawB (drS1 ad s) n)) ∧ DAt (Y5.setCell ⟨g, 64, none⟩ (.int .i64 ((c : Int) + 1))) g (drS2 ad s n) (c + 1) ∧ But w.heap.size g w (Y5.setCell ⟨g, 64, none⟩ (.int .i64 ((c : Int) + 1)))) :=
      ⟨own_base (own_but (own_but H5.out.1 bt5 (by have := H5.out.2.2.2; omega)) (But.setc Y5 g 64 _) (by have := H5.out.2.2.2; omega)) (by have := H5.out.2.2.2; have := HM.out; omega), hset, Below.but H5.out.2.2.1 (But.chn bt5 (But.setc Y5 g 64 _))⟩
    clear hd5 bt5 zt5 hset H5
    go_wp2
    go_ret2
    exact ⟨_, rfl, H6.out⟩
  · have hS : drS1 ad s = updL ad s := by unfold drS1; rw [if_neg ha0]
    have HE : Shh (updL ad s = drS1 ad s) := ⟨hS.symm⟩
    have hl0 : (0 : Int) < (ad.length : Int) := by have := List.length_pos_iff.2 ha0; omega
    have hul := updL_length ad s hs
    clear hS ha0
    obtain ⟨X0, hX0⟩ : ∃ X, X = Y1.alloc (.cells #[.slice Aa ad.length ca] 22) := ⟨_, rfl⟩
    have bX0 : Below Y1.heap.size Y1 X0 := by rw [hX0]; exact below1 _ _
    have H1b : Shh (PartsO X0 X0.heap.size X0.heap.size (.slice (some ⟨Y1.heap.size, 0, none⟩) 1 1) [ad] ∧ Vars X0 ∧ Row X0 M 81 (Lib.byteCells s) ∧ DAt X0 g s c ∧ Sl X0 X0.heap.size (.slice Aa ad.length ca) ad ∧ Below w.heap.size w X0 ∧ M + 1 ≤ X0.heap.size) :=
      ⟨by rw [hX0]; exact parts1 H1.out.2.2.2.1, H1.out.2.2.1.go bX0, H1.out.1.go bX0, H1.out.2.1.go bX0, H1.out.2.2.2.1.go bX0, H1.out.2.2.2.2.1.trans (bX0.mono H1.out.2.2.2.2.1.size), by have := H1.out.2.2.2.2.2; have := bX0.size; omega⟩
    rw [hX0] at H1b
    clear bX0
    go_wp2_with (first | refine wpList_load_any rfl 81 (.tmp 8) rfl M rfl 81 (Lib.byteCells (s)) _ H1.out.1 Tryd.underlying81 rfl (info_st.trans (size_bytes _ _ hs)) ?_ | (go_at_call 50; refine (updated_any _ _ [ad] s _ H1b.out.1 (Nat.le_refl _) hs (by simp; omega) (by simp) H1b.out.2.1).mono ?_))
    rintro e Y1c ⟨rfl, bc⟩
    have ec : updL [ad].flatten s = updL ad s := by simp
    rw [ec]
    rw [← hX0] at H1b bc
    have H1c : Shh (Row Y1c M 81 (Lib.byteCells s) ∧ DAt Y1c g s c ∧ Vars Y1c ∧ Sl Y1c Y1c.heap.size (.slice Aa ad.length ca) ad ∧ Below w.heap.size w Y1c ∧ M + 1 ≤ Y1c.heap.size) :=
      ⟨H1b.out.2.2.1.go bc, H1b.out.2.2.2.1.go bc, H1b.out.2.1.go bc, H1b.out.2.2.2.2.1.go bc, H1b.out.2.2.2.2.2.1.trans (bc.mono H1b.out.2.2.2.2.2.1.size), by have := H1b.out.2.2.2.2.2.2; have := bc.size; omega⟩
    clear H1b bc hX0 ec H1
    go_wp2_with (refine wpList_store_any rfl 81 (.tmp 8) (.tmp 41) rfl M rfl (Lib.byteCells (updL ad s)) rfl 81 (Lib.byteCells (s)) H1c.out.1 (info_st.trans (size_bytes _ _ hul)) (by rw [Lib.byteCells_length, Lib.byteCells_length, hul, hs]) (cell_oneCell _) ?_)
    intro Y1d hr1 bt1 zt1
    have hoM : Off M (.slice Aa ad.length ca) := hoM0.out
    have H1d : Shh (Row Y1d M 81 (Lib.byteCells (updL ad s)) ∧ DAt Y1d g s c ∧ Vars Y1d ∧ Sl Y1d Y1d.heap.size (.slice Aa ad.length ca) ad ∧ Below w.heap.size w Y1d ∧ M + 1 ≤ Y1d.heap.size) :=
      ⟨hr1, ⟨bt1.row H1c.out.2.1.row H1c.out.2.1.lt (by omega), H1c.out.2.1.len⟩, H1c.out.2.2.1.but bt1 (by have := HVP.out; omega), (H1c.out.2.2.2.1.but hoM bt1).more (by omega), H1c.out.2.2.2.2.1.trans (bt1.under (by have := H1c.out.2.2.2.2.2; have := HM.out; omega) (by have := HM.out; omega)), by have := H1c.out.2.2.2.2.2; omega⟩
    clear hr1 bt1 zt1 H1c hoM
    go_wp2_with (first | refine wpList_load_any rfl 81 (.tmp 8) rfl M rfl 81 (Lib.byteCells (updL ad s)) _ H1d.out.1 Tryd.underlying81 rfl (info_st.trans (size_bytes _ _ hul)) ?_ | (go_at_call 56; refine (drawn_any (updL ad s) n Y1d hul (by omega) H1d.out.2.2.1).mono ?_))
    rintro e Y2 ⟨v, rfl, gv⟩
    rw [HE.out]
    have H2 : Shh (Y2.ownsRow Y1d.heap.size 5 1 v (drawB (drS1 ad s) n).length (Lib.byteCells (drawB (drS1 ad s) n)) ∧ DAt Y2 g s c ∧ Vars Y2 ∧ Sl Y2 Y2.heap.size (.slice Aa ad.length ca) ad ∧ Below w.heap.size w Y2 ∧ M + 1 ≤ Y1d.heap.size ∧ Y1d.heap.size ≤ Y2.heap.size) :=
      ⟨by have := gv.1; rw [HE.out] at this; exact this, H1d.out.2.1.go gv.2, H1d.out.2.2.1.go gv.2, H1d.out.2.2.2.1.go gv.2, H1d.out.2.2.2.2.1.trans (gv.2.mono (by have := H1d.out.2.2.2.2.2; have := HM.out; omega)), H1d.out.2.2.2.2.2, gv.2.size⟩
    clear gv H1d
    go_wp2_with (refine wpList_store_any rfl 81 (.tmp 10) (.tmp 47) rfl Y2.heap.size rfl (Lib.byteCells (drawS (drS1 ad s) n)) rfl 81 (Lib.byteCells (List.replicate 64 0)) (Row.new_ rfl zero64b) (info_st.trans (size_bytes _ _ hdd)) (by rw [Lib.byteCells_length, Lib.byteCells_length, hdd]; rfl) (cell_oneCell _) ?_)
    intro Y3 hr3 bt3 zt3
    try simp only [asz] at bt3 zt3
    have b3 : Below Y2.heap.size Y2 Y3 := (below1 Y2 _).trans (bt3.under (by omega) (Nat.le_refl _))
    have H3 : Shh (Y3.ownsRow Y1d.heap.size 5 1 v (drawB (drS1 ad s) n).length (Lib.byteCells (drawB (drS1 ad s) n)) ∧ Row Y3 Y2.heap.size 81 (Lib.byteCells (drawS (drS1 ad s) n)) ∧ DAt Y3 g s c ∧ Vars Y3 ∧ Sl Y3 Y3.heap.size (.slice Aa ad.length ca) ad ∧ Below w.heap.size w Y3 ∧ M + 1 ≤ Y1d.heap.size ∧ Y1d.heap.size ≤ Y3.heap.size) :=
      ⟨own_step H2.out.1 b3, hr3, H2.out.2.1.go b3, H2.out.2.2.1.go b3, H2.out.2.2.2.1.go b3, H2.out.2.2.2.2.1.trans (b3.mono H2.out.2.2.2.2.1.size), H2.out.2.2.2.2.2.1, Nat.le_trans H2.out.2.2.2.2.2.2 b3.size⟩
    clear hr3 bt3 zt3 b3 H2
    generalize Y2.heap.size = K at *
    obtain ⟨X, hX⟩ : ∃ X, X = Y3.alloc (.cells #[.slice Aa ad.length ca] 22) := ⟨_, rfl⟩
    have bX : Below Y3.heap.size Y3 X := by rw [hX]; exact below1 _ _
    have H4 : Shh (PartsO X X.heap.size X.heap.size (.slice (some ⟨Y3.heap.size, 0, none⟩) 1 1) [ad] ∧ Vars X ∧ X.ownsRow Y1d.heap.size 5 1 v (drawB (drS1 ad s) n).length (Lib.byteCells (drawB (drS1 ad s) n)) ∧ DAt X g s c ∧ Below w.heap.size w X) :=
      ⟨by rw [hX]; exact parts1 H3.out.2.2.2.2.1, H3.out.2.2.2.1.go bX, own_step H3.out.1 bX, H3.out.2.2.1.go bX, H3.out.2.2.2.2.2.1.trans (bX.mono H3.out.2.2.2.2.2.1.size)⟩
    rw [hX] at H4
    clear bX
    go_wp2_with (first | refine wpList_load_any rfl 81 (.tmp 10) rfl K rfl 81 (Lib.byteCells (drawS (drS1 ad s) n)) _ H3.out.2.1 Tryd.underlying81 rfl (info_st.trans (size_bytes _ _ hdd)) ?_ | (go_at_call 50; refine (updated_any _ _ [ad] (drawS (drS1 ad s) n) _ H4.out.1 (Nat.le_refl _) hdd (by simp; omega) (by simp) H4.out.2.1).mono ?_))
    rintro e Y4 ⟨rfl, b4⟩
    have e4 : updL [ad].flatten (drawS (drS1 ad s) n) = drS2 ad s n := by unfold drS2; simp
    rw [e4]
    rw [← hX] at H4 b4
    have H5 : Shh (Y4.ownsRow Y1d.heap.size 5 1 v (drawB (drS1 ad s) n).length (Lib.byteCells (drawB (drS1 ad s) n)) ∧ DAt Y4 g s c ∧ Below w.heap.size w Y4 ∧ M + 1 ≤ Y1d.heap.size) := ⟨own_step H4.out.2.2.1 b4, H4.out.2.2.2.1.go b4, H4.out.2.2.2.2.trans (b4.mono H4.out.2.2.2.2.size), H3.out.2.2.2.2.2.2.1⟩
    clear H4 H3 b4 hX e4
    go_wp2_with (refine wpList_storeSt rfl (.tmp 54) (.tmp 52) rfl g rfl (drS2 ad s n) rfl hd2 s c H5.out.2.1 ?_)
    intro Y5 hd5 bt5 zt5
    have hc5 := hd5.cnt
    have hf5 := hd5.free
    have hset := hd5.setc (c + 1)
    have H6 : Shh ((Y5.setCell ⟨g, 64, none⟩ (.int .i64 ((c : Int) + 1))).ownsRow w.heap.size 5 1 v (drawB (drS1 ad s) n).length (Lib.byteCells (drawB (drS1 ad s) n)) ∧ DAt (Y5.setCell ⟨g, 64, none⟩ (.int .i64 ((c : Int) + 1))) g (drS2 ad s n) (c + 1) ∧ But w.heap.size g w (Y5.setCell ⟨g, 64, none⟩ (.int .i64 ((c : Int) + 1)))) :=
      ⟨own_base (own_but (own_but H5.out.1 bt5 (by have := H5.out.2.2.2; omega)) (But.setc Y5 g 64 _) (by have := H5.out.2.2.2; omega)) (by have := H5.out.2.2.2; have := HM.out; omega), hset, Below.but H5.out.2.2.1 (But.chn bt5 (But.setc Y5 g 64 _))⟩
    clear hd5 bt5 zt5 hset H5
    go_wp2
    go_ret2
    exact ⟨_, rfl, H6.out⟩
set_option maxHeartbeats 2000000 in
theorem draw_bad (g c : Nat) (n : Int) (va : Value) (ad s : List UInt8) (w : World) (hd : DAt w g s c) (ha : Sl w w.heap.size va ad) (h0 : 0 < c) (he : drawE n ad c ≠ 0) :
    Calls Tryd.prog 16 #[.pointer (some ⟨g, 0, none⟩), .int .i64 n, va] w (KeepIs (drNil (drawE n ad c)) w) := by
  unfold KeepIs drNil
  obtain ⟨Aa, ca, rfl, _, _⟩ := ha.form
  have hc := hd.cnt
  have qm : decide (0 < c) = true := by simpa using h0
  have HC : Shh (DAt w g s c ∧ Sl w w.heap.size (.slice Aa ad.length ca) ad) := ⟨hd, ha⟩
  clear hd ha
  by_cases h1 : n < 0
  · have HE : Shh (drawE n ad c = 1) := ⟨by unfold drawE; rw [if_pos h1]⟩
    rw [HE.out]
    clear he
    go_enter Tryd.func16, Tryd.ntmps16
    go_wp2_with (go_at_call 54; refine (dr_isMade_any g c s w HC.out.1).mono ?_)
    unfold KeepIs
    rintro e w2 ⟨rfl, rfl⟩
    try rw [qm]
    go_wp2
    all_goals go_ret2
    all_goals exact ⟨rfl, rfl⟩
  · by_cases h2 : 65536 < n
    · have HE : Shh (drawE n ad c = 3) := ⟨by unfold drawE; rw [if_neg h1, if_pos h2]⟩
      rw [HE.out]
      clear he
      go_enter Tryd.func16, Tryd.ntmps16
      go_wp2_with (go_at_call 54; refine (dr_isMade_any g c s w HC.out.1).mono ?_)
      unfold KeepIs
      rintro e w2 ⟨rfl, rfl⟩
      try rw [qm]
      go_wp2
      all_goals go_ret2
      all_goals exact ⟨rfl, rfl⟩
    · cases h3 : longB ad with
      | true =>
        have HE : Shh (drawE n ad c = 3) := ⟨by unfold drawE; rw [if_neg h1, if_neg h2, h3]; rfl⟩
        rw [HE.out]
        clear he
        go_enter Tryd.func16, Tryd.ntmps16
        go_wp2_with (go_at_call 54; refine (dr_isMade_any g c s w HC.out.1).mono ?_)
        unfold KeepIs
        rintro e w2 ⟨rfl, rfl⟩
        try rw [qm]
        go_wp2_with (go_at_call 55; refine (isLongK _ _ ad w HC.out.2).mono ?_)
        unfold KeepIs
        rintro e w2 ⟨rfl, rfl⟩
        try rw [h3]
        go_wp2
        all_goals go_ret2
        all_goals exact ⟨rfl, rfl⟩
      | false =>
        have h4 : 1024 < c := by
          have he2 := he
          unfold drawE at he2
          rw [if_neg h1, if_neg h2, h3] at he2
          by_cases hq : 1024 < c
          · exact hq
          · rw [if_neg (by decide), if_neg hq] at he2; exact absurd rfl he2
        have HE : Shh (drawE n ad c = 51) := ⟨by unfold drawE; rw [if_neg h1, if_neg h2, h3, if_neg (by decide), if_pos h4]⟩
        rw [HE.out]
        clear he
        have h5 : (1024 : Int) < (c : Int) := by omega
        go_enter Tryd.func16, Tryd.ntmps16
        go_wp2_with (go_at_call 54; refine (dr_isMade_any g c s w HC.out.1).mono ?_)
        unfold KeepIs
        rintro e w2 ⟨rfl, rfl⟩
        try rw [qm]
        go_wp2_with (go_at_call 55; refine (isLongK _ _ ad w HC.out.2).mono ?_)
        unfold KeepIs
        rintro e w2 ⟨rfl, rfl⟩
        try rw [h3]
        go_wp2
        all_goals go_ret2
        all_goals exact ⟨rfl, rfl⟩
/-- a generator goes on from a new state -/
def ReseedIs (w : World) (g : Nat) (s : List UInt8) (e : Ending) (w' : World) : Prop := e = .returned (.int .i64 0) ∧ DAt w' g s 1 ∧ But w.heap.size g w w'
def ErrIs (er : Int) (w : World) (e : Ending) (w' : World) : Prop := e = .returned (.int .i64 er) ∧ Below w.heap.size w w'
set_option maxHeartbeats 2000000 in
theorem reseed_bad (g c : Nat) (ve va : Value) (en ad s : List UInt8) (w : World) (hd : DAt w g s c) (he : Sl w w.heap.size ve en) (ha : Sl w w.heap.size va ad) (h0 : 0 < c) (hf : fitE en [ad] ≠ 0) :
    Calls Tryd.prog 58 #[.pointer (some ⟨g, 0, none⟩), ve, va] w (ErrIs (fitE en [ad]) w) := by
  unfold ErrIs
  obtain ⟨Ae, ce, rfl, _, _⟩ := he.form
  obtain ⟨Aa, ca, rfl, _, _⟩ := ha.form
  have qm : decide (0 < c) = true := by simpa using h0
  obtain ⟨X, hX⟩ : ∃ X, X = w.alloc (.cells #[.slice Aa ad.length ca] 22) := ⟨_, rfl⟩
  have bX : Below w.heap.size w X := by rw [hX]; exact below1 _ _
  have HC : Shh (DAt w g s c ∧ PartsO X X.heap.size X.heap.size (.slice (some ⟨w.heap.size, 0, none⟩) 1 1) [ad] ∧ Sl X X.heap.size (.slice Ae en.length ce) en ∧ Below w.heap.size w X) := ⟨hd, by rw [hX]; exact parts1 ha, he.go bX, bX⟩
  obtain ⟨er, her⟩ : ∃ er, er = fitE en [ad] := ⟨_, rfl⟩
  have hne : (er != 0) = true := by rw [her]; simpa using hf
  have HER : Shh (fitE en [ad] = er) := ⟨her.symm⟩
  rw [HER.out]
  rw [hX] at HC
  clear hd he ha bX hf her
  go_enter Tryd.func58, Tryd.ntmps58
  go_wp2_with (go_at_call 54; refine (dr_isMade_any g c s w HC.out.1).mono ?_)
  unfold KeepIs
  rintro e w2 ⟨rfl, rfl⟩
  try rw [qm]
  go_wp2_with (go_at_call 48; refine (check_any _ _ _ _ en [ad] _ HC.out.2.2.1 HC.out.2.1 (by simp)).mono ?_)
  unfold KeepIs
  rintro e w2 ⟨rfl, rfl⟩
  rw [HER.out]
  rw [← hX] at HC ⊢
  clear hX
  go_wp2
  go_ret
  exact ⟨rfl, HC.out.2.2.2⟩
set_option maxHeartbeats 2000000 in
theorem reseed_ok (g c : Nat) (ve va : Value) (en ad s : List UInt8) (w : World) (hd : DAt w g s c) (he : Sl w w.heap.size ve en) (ha : Sl w w.heap.size va ad) (hv : Vars w) (h0 : 0 < c) (hf : fitE en [ad] = 0) :
    Calls Tryd.prog 58 #[.pointer (some ⟨g, 0, none⟩), ve, va] w (ReseedIs w g (updL (en ++ ad) s)) := by
  unfold ReseedIs
  obtain ⟨Ae, ce, rfl, _, _⟩ := he.form
  obtain ⟨Aa, ca, rfl, _, _⟩ := ha.form
  have qm : decide (0 < c) = true := by simpa using h0
  have hl := fitE_lens hf
  have hle := hl.1
  have hla := hl.2 ad (by simp)
  have hs := hd.len
  have hul := updL_length (en ++ ad) s hs
  obtain ⟨X, hX⟩ : ∃ X, X = w.alloc (.cells #[.slice Aa ad.length ca] 22) := ⟨_, rfl⟩
  have bX : Below w.heap.size w X := by rw [hX]; exact below1 _ _
  have HC : Shh (DAt w g s c ∧ PartsO X X.heap.size X.heap.size (.slice (some ⟨w.heap.size, 0, none⟩) 1 1) [ad] ∧ Sl X X.heap.size (.slice Ae en.length ce) en ∧ Sl X X.heap.size (.slice Aa ad.length ca) ad ∧ DAt X g s c ∧ Vars X ∧ Below w.heap.size w X) := ⟨hd, by rw [hX]; exact parts1 ha, he.go bX, ha.go bX, hd.go bX, hv.go bX, bX⟩
  have HF : Shh (fitE en [ad] = 0) := ⟨hf⟩
  rw [hX] at HC
  clear hd he ha bX hf hl hv
  go_enter Tryd.func58, Tryd.ntmps58
  go_wp2_with (go_at_call 54; refine (dr_isMade_any g c s w HC.out.1).mono ?_)
  unfold KeepIs
  rintro e w2 ⟨rfl, rfl⟩
  try rw [qm]
  go_wp2_with (go_at_call 48; refine (check_any _ _ _ _ en [ad] _ HC.out.2.2.1 HC.out.2.1 (by simp)).mono ?_)
  unfold KeepIs
  rintro e w2 ⟨rfl, rfl⟩
  rw [HF.out]
  rw [← hX] at HC ⊢
  clear hX
  obtain ⟨Z, hZ⟩ : ∃ Z, Z = X.alloc (.cells #[.slice Ae en.length ce, .slice Aa ad.length ca] 22) := ⟨_, rfl⟩
  have bZ : Below X.heap.size X Z := by rw [hZ]; exact below1 _ _
  have H2 : Shh (PartsO Z Z.heap.size Z.heap.size (.slice (some ⟨X.heap.size, 0, none⟩) 2 2) [en, ad] ∧ Vars Z ∧ DAt Z g s c ∧ Below w.heap.size w Z ∧ DAt X g s c) :=
    ⟨by rw [hZ]; exact parts2 HC.out.2.2.1 HC.out.2.2.2.1, HC.out.2.2.2.2.2.1.go bZ, HC.out.2.2.2.2.1.go bZ, Below.chain HC.out.2.2.2.2.2.2 bZ, HC.out.2.2.2.2.1⟩
  rw [hZ] at H2
  clear HC bZ
  go_wp2_with (first | refine wpList_load_mid rfl 81 (.tmp 22) rfl g 0 rfl (Lib.byteCells s) _ H2.out.2.2.2.2.range Tryd.underlying81 rfl (info_st.trans (size_bytes _ _ hs)) ?_ | (go_at_call 50; refine (updated_any _ _ [en, ad] s _ H2.out.1 (Nat.le_refl _) hs (by simp; omega) (by simp) H2.out.2.1).mono ?_))
  rintro e Y ⟨rfl, bY⟩
  have e3 : updL [en, ad].flatten s = updL (en ++ ad) s := by simp
  rw [e3]
  rw [← hZ] at H2 bY
  have H3 : Shh (DAt Y g s c ∧ Below w.heap.size w Y) := ⟨H2.out.2.2.1.go bY, Below.chain H2.out.2.2.2.1 bY⟩
  clear H2 bY hZ e3
  go_wp2_with (refine wpList_storeSt rfl (.tmp 29) (.tmp 27) rfl g rfl (updL (en ++ ad) s) rfl hul s c H3.out.1 ?_)
  intro Y5 hd5 bt5 zt5
  have hc5 := hd5.cnt
  have hf5 := hd5.free
  have H6 : Shh (DAt (Y5.setCell ⟨g, 64, none⟩ (.int .i64 1)) g (updL (en ++ ad) s) 1 ∧ But w.heap.size g w (Y5.setCell ⟨g, 64, none⟩ (.int .i64 1))) :=
    ⟨hd5.setc 1, Below.but H3.out.2 (But.chn bt5 (But.setc Y5 g 64 _))⟩
  clear hd5 bt5 zt5 H3
  go_wp2
  go_ret
  exact ⟨rfl, H6.out⟩
theorem info_dr : (Tryd.prog.info? 85).map (·.size) = some 65 := by kernel_rfl
theorem zero65 : (#[Value.int .u8 0, Value.int .u8 0, Value.int .u8 0, Value.int .u8 0, Value.int .u8 0, Value.int .u8 0, Value.int .u8 0, Value.int .u8 0, Value.int .u8 0, Value.int .u8 0, Value.int .u8 0, Value.int .u8 0, Value.int .u8 0, Value.int .u8 0, Value.int .u8 0, Value.int .u8 0, Value.int .u8 0, Value.int .u8 0, Value.int .u8 0, Value.int .u8 0, Value.int .u8 0, Value.int .u8 0, Value.int .u8 0, Value.int .u8 0, Value.int .u8 0, Value.int .u8 0, Value.int .u8 0, Value.int .u8 0, Value.int .u8 0, Value.int .u8 0, Value.int .u8 0, Value.int .u8 0, Value.int .u8 0, Value.int .u8 0, Value.int .u8 0, Value.int .u8 0, Value.int .u8 0, Value.int .u8 0, Value.int .u8 0, Value.int .u8 0, Value.int .u8 0, Value.int .u8 0, Value.int .u8 0, Value.int .u8 0, Value.int .u8 0, Value.int .u8 0, Value.int .u8 0, Value.int .u8 0, Value.int .u8 0, Value.int .u8 0, Value.int .u8 0, Value.int .u8 0, Value.int .u8 0, Value.int .u8 0, Value.int .u8 0, Value.int .u8 0, Value.int .u8 0, Value.int .u8 0, Value.int .u8 0, Value.int .u8 0, Value.int .u8 0, Value.int .u8 0, Value.int .u8 0, Value.int .u8 0, Value.int .i64 0] : Array Value) = (Lib.byteCells (List.replicate 64 0) ++ [Value.int .i64 0]).toArray := by rfl
theorem dr_oneCell (s : List UInt8) (c : Int) : ∀ u ∈ Lib.byteCells s ++ [Value.int .i64 c], u.oneCell' = true := by
  intro u hu
  rcases List.mem_append.1 hu with h | h
  · exact cell_oneCell s u h
  · rw [List.mem_singleton.1 h]; rfl
theorem dr_cells_length (s : List UInt8) (c : Int) (h : s.length = 64) : (Lib.byteCells s ++ [Value.int .i64 c]).length = 65 := by rw [List.length_append, Lib.byteCells_length, h]; rfl
/-- a copy is handed back; nothing that was there has turned -/
def CopyIs (w : World) (s : List UInt8) (c : Nat) (e : Ending) (w' : World) : Prop := ∃ g, e = .returned (.pointer (some ⟨g, 0, none⟩)) ∧ w.heap.size ≤ g ∧ DAt w' g s c ∧ Below w.heap.size w w'
set_option maxHeartbeats 2000000 in
theorem clone_ok (g c : Nat) (s : List UInt8) (w : World) (hd : DAt w g s c) (h0 : 0 < c) :
    Calls Tryd.prog 15 #[.pointer (some ⟨g, 0, none⟩)] w (CopyIs w s c) := by
  unfold CopyIs
  have qm : decide (0 < c) = true := by simpa using h0
  have hl := dr_cells_length s c hd.len
  have hl0 := dr_cells_length (List.replicate 64 0) 0 (by simp)
  have HC : Shh (DAt w g s c) := ⟨hd⟩
  clear hd
  go_enter Tryd.func15, Tryd.ntmps15
  go_wp2_with (go_at_call 54; refine (dr_isMade_any g c s w HC.out).mono ?_)
  unfold KeepIs
  rintro e w2 ⟨rfl, rfl⟩
  try rw [qm]
  go_wp2_with (first | refine wpList_load_any rfl 85 (.tmp 8) rfl g rfl 85 (Lib.byteCells s ++ [Value.int .i64 (c : Int)]) _ HC.out.row Tryd.underlying85 rfl (info_dr.trans (by rw [hl])) ?_ | refine wpList_store_any rfl 85 (.tmp 3) (.tmp 9) rfl w.heap.size rfl (Lib.byteCells s ++ [Value.int .i64 (c : Int)]) rfl 85 (Lib.byteCells (List.replicate 64 0) ++ [Value.int .i64 0]) (Row.new_ rfl zero65) (info_dr.trans (by rw [hl])) (by rw [hl, hl0]) (dr_oneCell s c) ?_)
  intro Y hr bt zt
  try simp only [asz] at bt zt
  have F : Shh (DAt Y w.heap.size s c ∧ Below w.heap.size w Y) := ⟨⟨hr, HC.out.len⟩, (below1 w _).trans (bt.under (by omega) (Nat.le_refl _))⟩
  clear hr bt zt
  go_wp2
  go_ret
  exact ⟨_, rfl, Nat.le_refl _, F.out⟩
end Go.Proofs.YtanpplniedphkaaDoor
