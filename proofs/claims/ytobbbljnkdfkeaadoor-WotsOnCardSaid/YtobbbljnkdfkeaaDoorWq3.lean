/-
  THE PROGRAM'S OWN keyed: functions that are handed back.
-/
import Derived.Test.YtobbbljnkdfkeaaDoorWq1
import Derived.Test.YtobbbljnkdfkeaaDoorNZ
namespace Go.Proofs.YtobbbljnkdfkeaaDoor
open Go.RowKit
set_option maxRecDepth 100000
/-- a function value that answers a keyed hash, from now on, whatever becomes of block g -/
def KeyAt (w : World) (g : Nat) (v : Value) (s : Bool) (n : Int) (kind : Nat) (key : List UInt8) : Prop :=
  ∃ F c1 c2, v = .func (.func F) #[] #[c1, c2] ∧ (∀ (xs : Array Value) (W : World), (callFunc F xs).run Tryd.prog W = .ok (.enter F xs) W) ∧ ∀ (W : World) (vm : Value) (m : List UInt8), But w.heap.size g w W → Tabs W → Sl W W.heap.size vm m → m.length ≤ 100000 → Calls Tryd.prog F #[vm, c1, c2] W (NewSl W (keyd s n kind key m))
theorem KeyAt.but {w w' : World} {g : Nat} {v : Value} {s : Bool} {n : Int} {kind : Nat} {key : List UInt8} (h : KeyAt w g v s n kind key) (b : But w.heap.size g w w') : KeyAt w' g v s n kind key := by
  obtain ⟨F, c1, c2, rfl, hf, h⟩ := h
  exact ⟨F, c1, c2, rfl, hf, fun W vm m hb => h W vm m (b.chain hb)⟩
theorem KeyAt.go {w w' : World} {g : Nat} {v : Value} {s : Bool} {n : Int} {kind : Nat} {key : List UInt8} (h : KeyAt w g v s n kind key) (b : Below w.heap.size w w') : KeyAt w' g v s n kind key := h.but (But.of b g)
/-- such a function is handed back -/
def KeyIs (w : World) (g : Nat) (s : Bool) (n : Int) (kind : Nat) (key : List UInt8) (e : Ending) (w' : World) : Prop := ∃ v, e = .returned v ∧ KeyAt w' g v s n kind key ∧ Below w.heap.size w w'
theorem bigB_small4 (kind : Nat) (h : kind ≤ 4) : bigB kind 4 = List.replicate 3 0 ++ [UInt8.ofNat kind] := by
  match kind, h with
  | 0, _ => decide
  | 1, _ => decide
  | 2, _ => decide
  | 3, _ => decide
  | 4, _ => decide
theorem bigB_small32 (kind : Nat) (h : kind ≤ 4) : bigB kind 32 = List.replicate 31 0 ++ [UInt8.ofNat kind] := by
  match kind, h with
  | 0, _ => decide
  | 1, _ => decide
  | 2, _ => decide
  | 3, _ => decide
  | 4, _ => decide
theorem two_flat10 (a b : List UInt8) : [a, b].flatten = a ++ b := by simp
theorem one_flat10 (a : List UInt8) : [a].flatten = a := by simp
theorem hsh_take (t : List UInt8) (N : Nat) (h : N ≤ 32) : spongeL 136 31 t N = (hsh true t).take N := (Sp.outs_take 136 N 32 h _).symm
set_option maxHeartbeats 1000000 in
theorem keyed1_24 (c h l : Int) (px ph : Nat) (vh vm : Value) (hd m : List UInt8) (w : World) (hx : Row w px 24 [.int .u32 c, .bool true, .int .i64 24, .int .i64 h, .int .i64 l]) (hh : Row w ph 25 [vh]) (hs : Sl w w.heap.size vh hd) (hm : Sl w w.heap.size vm m) (ht : Tabs w) :
    Calls Tryd.prog 64 #[vm, .pointer (some ⟨px, 0, none⟩), .pointer (some ⟨ph, 0, none⟩)] w (NewSl w ((hsh true (hd ++ m)).take 24)) := by
  unfold NewSl
  obtain ⟨A1, c1, rfl, _, _⟩ := hs.form
  obtain ⟨A2, c2, rfl, _, _⟩ := hm.form
  have e2 := hx.cell 2
  have eh := hh.cell 0
  simp only [List.getElem?_cons_succ, List.getElem?_cons_zero] at e2 eh
  have HS := Shh.mk (And.intro hs (And.intro hm ht))
  clear hs hm ht hx hh
  have HO : Shh (spongeL 136 31 ([hd, m].flatten) 24 = (hsh true (hd ++ m)).take 24 ∧ ((hsh true (hd ++ m)).take 24).length = 24) := ⟨by rw [two_flat10]; exact hsh_take _ 24 (by decide), by rw [List.length_take, hsh_length]; rfl⟩
  generalize (hsh true (hd ++ m)).take 24 = out at HO ⊢
  go_enter Tryd.func64, Tryd.ntmps64
  go_wp2_with (go_at_call 65; refine (shake_ok256 24 (by decide) [hd, m] (by simp) (w.heap.size + 1) _ _ (PartsO.two (Nat.lt_succ_self _) (by omega) (Row.new_ rfl rfl) ((HS.out.1.below (below1 _ _)).more (by omega)) (HS.out.1.off (by omega)) ((HS.out.2.1.below (below1 _ _)).more (by omega)) (HS.out.2.1.off (by omega))) (by rw [asz]; exact Nat.le_refl _) (HS.out.2.2.go (below1 _ _)).2).mono ?_)
  rintro e w2 ⟨q, rfl, hq, hr, b2⟩
  rw [HO.out.1] at hr
  have HR : Shh (Sl w2 w2.heap.size (.slice (some ⟨q, 0, none⟩) 24 24) out ∧ Below w.heap.size w w2 ∧ ∀ g, g < w.heap.size → Off g (.slice (some ⟨q, 0, none⟩) 24 24)) := ⟨hr.sl HO.out.2 (by decide), Below.chain (below1 _ _) b2, fun g hg => Off.at_ (by rw [asz] at hq; omega)⟩
  clear hq hr b2 HS e2 eh
  go_wp2
  go_ret
  exact ⟨_, rfl, HR.out⟩
set_option maxHeartbeats 1000000 in
theorem keyed1_32 (c h l : Int) (px ph : Nat) (vh vm : Value) (hd m : List UInt8) (w : World) (hx : Row w px 24 [.int .u32 c, .bool true, .int .i64 32, .int .i64 h, .int .i64 l]) (hh : Row w ph 25 [vh]) (hs : Sl w w.heap.size vh hd) (hm : Sl w w.heap.size vm m) (ht : Tabs w) :
    Calls Tryd.prog 64 #[vm, .pointer (some ⟨px, 0, none⟩), .pointer (some ⟨ph, 0, none⟩)] w (NewSl w ((hsh true (hd ++ m)).take 32)) := by
  unfold NewSl
  obtain ⟨A1, c1, rfl, _, _⟩ := hs.form
  obtain ⟨A2, c2, rfl, _, _⟩ := hm.form
  have e2 := hx.cell 2
  have eh := hh.cell 0
  simp only [List.getElem?_cons_succ, List.getElem?_cons_zero] at e2 eh
  have HS := Shh.mk (And.intro hs (And.intro hm ht))
  clear hs hm ht hx hh
  have HO : Shh (spongeL 136 31 ([hd, m].flatten) 32 = (hsh true (hd ++ m)).take 32 ∧ ((hsh true (hd ++ m)).take 32).length = 32) := ⟨by rw [two_flat10]; exact hsh_take _ 32 (by decide), by rw [List.length_take, hsh_length]; rfl⟩
  generalize (hsh true (hd ++ m)).take 32 = out at HO ⊢
  go_enter Tryd.func64, Tryd.ntmps64
  go_wp2_with (go_at_call 65; refine (shake_ok256 32 (by decide) [hd, m] (by simp) (w.heap.size + 1) _ _ (PartsO.two (Nat.lt_succ_self _) (by omega) (Row.new_ rfl rfl) ((HS.out.1.below (below1 _ _)).more (by omega)) (HS.out.1.off (by omega)) ((HS.out.2.1.below (below1 _ _)).more (by omega)) (HS.out.2.1.off (by omega))) (by rw [asz]; exact Nat.le_refl _) (HS.out.2.2.go (below1 _ _)).2).mono ?_)
  rintro e w2 ⟨q, rfl, hq, hr, b2⟩
  rw [HO.out.1] at hr
  have HR : Shh (Sl w2 w2.heap.size (.slice (some ⟨q, 0, none⟩) 32 32) out ∧ Below w.heap.size w w2 ∧ ∀ g, g < w.heap.size → Off g (.slice (some ⟨q, 0, none⟩) 32 32)) := ⟨hr.sl HO.out.2 (by decide), Below.chain (below1 _ _) b2, fun g hg => Off.at_ (by rw [asz] at hq; omega)⟩
  clear hq hr b2 HS e2 eh
  go_wp2
  go_ret
  exact ⟨_, rfl, HR.out⟩
set_option maxHeartbeats 1000000 in
theorem keyed2_24 (c h l : Int) (px pb g : Nat) (vm : Value) (hd m : List UInt8) (w : World) (hx : Row w px 24 [.int .u32 c, .bool false, .int .i64 24, .int .i64 h, .int .i64 l]) (hb : Row w pb 84 [.pointer (some ⟨g, 0, none⟩)]) (hg : HashAt w g hd) (hm : Sl w w.heap.size vm m) (ht : Tabs w) (hl1 : hd.length ≤ 200000) (hl2 : m.length ≤ 200000) :
    Calls Tryd.prog 68 #[vm, .pointer (some ⟨pb, 0, none⟩), .pointer (some ⟨px, 0, none⟩)] w (NewSl w ((hsh false (hd ++ m)).take 24)) := by
  unfold NewSl
  obtain ⟨A2, c2, rfl, _, _⟩ := hm.form
  have eb := hb.cell 0
  simp only [List.getElem?_cons_zero] at eb
  have HS := Shh.mk (And.intro hx (And.intro hm ht.1))
  have HG := Shh.mk hg
  clear hm ht hx hb hg
  have HO : Shh (sha (hd ++ m) = hsh false (hd ++ m) ∧ (hsh false (hd ++ m)).length = 32) := ⟨rfl, hsh_length _ _⟩
  generalize hsh false (hd ++ m) = out at HO ⊢
  go_enter Tryd.func68, Tryd.ntmps68
  go_wp2_with (go_at_call 69; refine (shclone_any g hd _ HG.out).mono ?_)
  rintro e w1 ⟨g1, rfl, hg1, hh1, b1⟩
  have H1 : Shh (Row w1 px 24 [.int .u32 c, .bool false, .int .i64 24, .int .i64 h, .int .i64 l] ∧ Sl w1 w1.heap.size (.slice A2 m.length c2) m ∧ Sl w1 w.heap.size (.slice A2 m.length c2) m ∧ Vars w1 ∧ HashAt w1 g1 hd ∧ Below w.heap.size w w1 ∧ g1 = w.heap.size ∧ px < w.heap.size ∧ g1 < w1.heap.size) := ⟨HS.out.1.go b1, HS.out.2.1.go b1, HS.out.2.1.below b1, HS.out.2.2.go b1, hh1, b1, hg1, HS.out.1.lt, hh1.lt⟩
  clear HS HG hh1 b1 hg1 eb
  have hwp : PartsO (w1.alloc (.cells #[.slice A2 m.length c2] 25)) (w1.heap.size + 1) g1 (.slice (some ⟨w1.heap.size, 0, none⟩) 1 1) [m] :=
    PartsO.solo (Row.new_ rfl rfl) (Nat.lt_succ_self _) (by have := H1.out.2.2.2.2.2.2.2.2; omega) ((H1.out.2.1.below (below1 _ _)).more (by omega)) (H1.out.2.2.1.off (by have := H1.out.2.2.2.2.2.2.1; omega))
  have HWP := Shh.mk hwp
  clear hwp
  go_wp2_with (go_at_call 67; refine (write_any g1 hd [m] (w1.heap.size + 1) _ _ (H1.out.2.2.2.2.1.step (below1 _ _)) HWP.out (by rw [asz]; exact Nat.le_refl _) (H1.out.2.2.2.1.go (below1 _ _)) (by rw [one_flat10]; omega) (by simp)).mono ?_)
  unfold WriteIs
  rintro e w2 ⟨rfl, hh2, b2⟩
  rw [one_flat10] at hh2
  have H2 : Shh (Row w2 px 24 [.int .u32 c, .bool false, .int .i64 24, .int .i64 h, .int .i64 l] ∧ Vars w2 ∧ HashAt w2 g1 (hd ++ m) ∧ Below w.heap.size w w2) := by
    have q1 := H1.out.2.2.2.2.2.1.size
    have q2 := H1.out.2.2.2.2.2.2
    refine ⟨b2.row (H1.out.1.alloc _) (by first | omega | (rw [asz]; omega)) (by omega), (H1.out.2.2.2.1.go (below1 _ _)).but b2 (H1.out.2.2.2.2.1).1, hh2, ?_⟩
    exact (Below.chain H1.out.2.2.2.2.2.1 (below1 _ _)).trans (b2.under (by first | omega | (rw [asz]; omega)) (by omega))
  clear H1 HWP hh2 b2
  go_wp2_with (go_at_call 70; refine (sum_any g1 (hd ++ m) _ H2.out.2.2.1 H2.out.2.1 (by rw [List.length_append]; omega)).mono ?_)
  unfold SumIs
  rintro e w3 ⟨rfl, b3⟩
  rw [HO.out.1]
  have H3 : Shh (Row w3 px 24 [.int .u32 c, .bool false, .int .i64 24, .int .i64 h, .int .i64 l] ∧ Below w.heap.size w w3) := ⟨H2.out.1.go b3, Below.chain H2.out.2.2.2 b3⟩
  clear H2 b3
  obtain ⟨G, hG⟩ : ∃ G, Shh (G = w3.heap.size) := ⟨_, ⟨rfl⟩⟩
  go_wp2_with (refine wpList_store_any rfl 30 (.tmp 6) (.tmp 14) rfl G (by rw [hG.out]; rfl) (Lib.byteCells out) rfl 30 _ (Row.new_ hG.out zero32b) (info_b32.trans (size_bytes _ _ HO.out.2)) (by rw [Lib.byteCells_length, Lib.byteCells_length, HO.out.2]; rfl) (cell_oneCell _) ?_)
  intro Z hr bt zt
  have H4 : Shh (Row Z px 24 [.int .u32 c, .bool false, .int .i64 24, .int .i64 h, .int .i64 l] ∧ Row Z G 30 (Lib.byteCells out) ∧ Below w.heap.size w Z ∧ w.heap.size ≤ G ∧ G < Z.heap.size) := by
    have q1 := H3.out.2.size
    have q2 := H3.out.1.lt
    have q3 := hG.out
    refine ⟨bt.row (H3.out.1.alloc _) (by first | omega | (rw [asz]; omega)) (by omega), hr, ?_, by omega, hr.lt⟩
    exact (Below.chain H3.out.2 (below1 _ _)).trans (bt.under (by first | omega | (rw [asz]; omega)) (by omega))
  rw [← hG.out]
  clear hr bt zt H3 hG
  have e2 := H4.out.1.cell 2
  simp only [List.getElem?_cons_succ, List.getElem?_cons_zero] at e2
  have hsl : ∀ u : World, (Instr.sliceAt 30 (.pointer (some ⟨G, 0, none⟩)) none (some (.int .i64 24)) none).run Tryd.prog u = .ok (.slice (some ⟨G, 0, none⟩) 24 32) u := fun u => run_arr32_h G 24 (by decide) u
  have HR : Shh (Sl Z Z.heap.size (.slice (some ⟨G, 0, none⟩) 24 32) (out.take 24) ∧ Below w.heap.size w Z ∧ ∀ g, g < w.heap.size → Off g (.slice (some ⟨G, 0, none⟩) 24 32)) := by
    have s0 := H4.out.2.1.sl HO.out.2 (by decide)
    have s1 := s0.cut 0 24 (Nat.zero_le _) (by decide) (by decide)
    rw [List.drop_zero] at s1
    refine ⟨by simpa [sliced, Addr.add] using s1, H4.out.2.2.1, fun g hg => Off.at_ ?_⟩
    have := H4.out.2.2.2.1
    omega
  clear H4
  go_wp2
  go_ret
  exact ⟨_, rfl, HR.out⟩
set_option maxHeartbeats 1000000 in
theorem keyed2_32 (c h l : Int) (px pb g : Nat) (vm : Value) (hd m : List UInt8) (w : World) (hx : Row w px 24 [.int .u32 c, .bool false, .int .i64 32, .int .i64 h, .int .i64 l]) (hb : Row w pb 84 [.pointer (some ⟨g, 0, none⟩)]) (hg : HashAt w g hd) (hm : Sl w w.heap.size vm m) (ht : Tabs w) (hl1 : hd.length ≤ 200000) (hl2 : m.length ≤ 200000) :
    Calls Tryd.prog 68 #[vm, .pointer (some ⟨pb, 0, none⟩), .pointer (some ⟨px, 0, none⟩)] w (NewSl w ((hsh false (hd ++ m)).take 32)) := by
  unfold NewSl
  obtain ⟨A2, c2, rfl, _, _⟩ := hm.form
  have eb := hb.cell 0
  simp only [List.getElem?_cons_zero] at eb
  have HS := Shh.mk (And.intro hx (And.intro hm ht.1))
  have HG := Shh.mk hg
  clear hm ht hx hb hg
  have HO : Shh (sha (hd ++ m) = hsh false (hd ++ m) ∧ (hsh false (hd ++ m)).length = 32) := ⟨rfl, hsh_length _ _⟩
  generalize hsh false (hd ++ m) = out at HO ⊢
  go_enter Tryd.func68, Tryd.ntmps68
  go_wp2_with (go_at_call 69; refine (shclone_any g hd _ HG.out).mono ?_)
  rintro e w1 ⟨g1, rfl, hg1, hh1, b1⟩
  have H1 : Shh (Row w1 px 24 [.int .u32 c, .bool false, .int .i64 32, .int .i64 h, .int .i64 l] ∧ Sl w1 w1.heap.size (.slice A2 m.length c2) m ∧ Sl w1 w.heap.size (.slice A2 m.length c2) m ∧ Vars w1 ∧ HashAt w1 g1 hd ∧ Below w.heap.size w w1 ∧ g1 = w.heap.size ∧ px < w.heap.size ∧ g1 < w1.heap.size) := ⟨HS.out.1.go b1, HS.out.2.1.go b1, HS.out.2.1.below b1, HS.out.2.2.go b1, hh1, b1, hg1, HS.out.1.lt, hh1.lt⟩
  clear HS HG hh1 b1 hg1 eb
  have hwp : PartsO (w1.alloc (.cells #[.slice A2 m.length c2] 25)) (w1.heap.size + 1) g1 (.slice (some ⟨w1.heap.size, 0, none⟩) 1 1) [m] :=
    PartsO.solo (Row.new_ rfl rfl) (Nat.lt_succ_self _) (by have := H1.out.2.2.2.2.2.2.2.2; omega) ((H1.out.2.1.below (below1 _ _)).more (by omega)) (H1.out.2.2.1.off (by have := H1.out.2.2.2.2.2.2.1; omega))
  have HWP := Shh.mk hwp
  clear hwp
  go_wp2_with (go_at_call 67; refine (write_any g1 hd [m] (w1.heap.size + 1) _ _ (H1.out.2.2.2.2.1.step (below1 _ _)) HWP.out (by rw [asz]; exact Nat.le_refl _) (H1.out.2.2.2.1.go (below1 _ _)) (by rw [one_flat10]; omega) (by simp)).mono ?_)
  unfold WriteIs
  rintro e w2 ⟨rfl, hh2, b2⟩
  rw [one_flat10] at hh2
  have H2 : Shh (Row w2 px 24 [.int .u32 c, .bool false, .int .i64 32, .int .i64 h, .int .i64 l] ∧ Vars w2 ∧ HashAt w2 g1 (hd ++ m) ∧ Below w.heap.size w w2) := by
    have q1 := H1.out.2.2.2.2.2.1.size
    have q2 := H1.out.2.2.2.2.2.2
    refine ⟨b2.row (H1.out.1.alloc _) (by first | omega | (rw [asz]; omega)) (by omega), (H1.out.2.2.2.1.go (below1 _ _)).but b2 (H1.out.2.2.2.2.1).1, hh2, ?_⟩
    exact (Below.chain H1.out.2.2.2.2.2.1 (below1 _ _)).trans (b2.under (by first | omega | (rw [asz]; omega)) (by omega))
  clear H1 HWP hh2 b2
  go_wp2_with (go_at_call 70; refine (sum_any g1 (hd ++ m) _ H2.out.2.2.1 H2.out.2.1 (by rw [List.length_append]; omega)).mono ?_)
  unfold SumIs
  rintro e w3 ⟨rfl, b3⟩
  rw [HO.out.1]
  have H3 : Shh (Row w3 px 24 [.int .u32 c, .bool false, .int .i64 32, .int .i64 h, .int .i64 l] ∧ Below w.heap.size w w3) := ⟨H2.out.1.go b3, Below.chain H2.out.2.2.2 b3⟩
  clear H2 b3
  obtain ⟨G, hG⟩ : ∃ G, Shh (G = w3.heap.size) := ⟨_, ⟨rfl⟩⟩
  go_wp2_with (refine wpList_store_any rfl 30 (.tmp 6) (.tmp 14) rfl G (by rw [hG.out]; rfl) (Lib.byteCells out) rfl 30 _ (Row.new_ hG.out zero32b) (info_b32.trans (size_bytes _ _ HO.out.2)) (by rw [Lib.byteCells_length, Lib.byteCells_length, HO.out.2]; rfl) (cell_oneCell _) ?_)
  intro Z hr bt zt
  have H4 : Shh (Row Z px 24 [.int .u32 c, .bool false, .int .i64 32, .int .i64 h, .int .i64 l] ∧ Row Z G 30 (Lib.byteCells out) ∧ Below w.heap.size w Z ∧ w.heap.size ≤ G ∧ G < Z.heap.size) := by
    have q1 := H3.out.2.size
    have q2 := H3.out.1.lt
    have q3 := hG.out
    refine ⟨bt.row (H3.out.1.alloc _) (by first | omega | (rw [asz]; omega)) (by omega), hr, ?_, by omega, hr.lt⟩
    exact (Below.chain H3.out.2 (below1 _ _)).trans (bt.under (by first | omega | (rw [asz]; omega)) (by omega))
  rw [← hG.out]
  clear hr bt zt H3 hG
  have e2 := H4.out.1.cell 2
  simp only [List.getElem?_cons_succ, List.getElem?_cons_zero] at e2
  have hsl : ∀ u : World, (Instr.sliceAt 30 (.pointer (some ⟨G, 0, none⟩)) none (some (.int .i64 32)) none).run Tryd.prog u = .ok (.slice (some ⟨G, 0, none⟩) 32 32) u := fun u => run_arr32_h G 32 (by decide) u
  have HR : Shh (Sl Z Z.heap.size (.slice (some ⟨G, 0, none⟩) 32 32) (out.take 32) ∧ Below w.heap.size w Z ∧ ∀ g, g < w.heap.size → Off g (.slice (some ⟨G, 0, none⟩) 32 32)) := by
    have s0 := H4.out.2.1.sl HO.out.2 (by decide)
    have s1 := s0.cut 0 32 (Nat.zero_le _) (by decide) (by decide)
    rw [List.drop_zero] at s1
    refine ⟨by simpa [sliced, Addr.add] using s1, H4.out.2.2.1, fun g hg => Off.at_ ?_⟩
    have := H4.out.2.2.2.1
    omega
  clear H4
  go_wp2
  go_ret
  exact ⟨_, rfl, HR.out⟩
set_option maxHeartbeats 1000000 in
theorem keyed_24_true (c h l : Int) (kind : Nat) (hk : kind ≤ 4) (vk : Value) (key : List UInt8) (w : World) (hkey : Sl w w.heap.size vk key) (hl1 : key.length ≤ 100000) (ht : Tabs w) (g0 : Nat) (hg0 : g0 < w.heap.size) :
    Calls Tryd.prog 48 #[.agg #[.int .u32 c, .bool true, .int .i64 24, .int .i64 h, .int .i64 l], .int .u8 (kind : Int), vk] w (KeyIs w g0 true 24 kind key) := by
  unfold KeyIs
  obtain ⟨A1, c1, rfl, _, _⟩ := hkey.form
  have hmf : ∀ (fn : Fn) (first cap : Array Value) (w : World), (Instr.makeFunc fn first cap).run Tryd.prog w = .ok (.func fn first cap) w := fun _ _ _ _ => rfl
  obtain ⟨zl, HZL⟩ : ∃ zl : List UInt8, Shh (zl = List.replicate 3 0) := ⟨_, ⟨rfl⟩⟩
  have hmk : ∀ u : World, (Instr.makeSlice 25 (.int .i64 3) (.int .i64 3)).run Tryd.prog u = .ok (.slice (some ⟨u.heap.size, 0, none⟩) 3 3) (u.alloc (.cells (Lib.byteCells zl).toArray 5)) := fun u => by rw [HZL.out]; exact make_run 3 (by decide) u
  have hu8 : (kind : Int) % 256 = (kind : Int) := by omega
  obtain ⟨W, hW⟩ : ∃ W, W = ((w.alloc (.cells #[.int .u32 c, .bool true, .int .i64 24, .int .i64 h, .int .i64 l] 24)).alloc (.cells (Lib.byteCells zl).toArray 5)).alloc (.cells #[.int .u8 (kind : Int)] 5) := ⟨_, rfl⟩
  have hkb : ((UInt8.ofNat kind).toNat : Int) = (kind : Int) := by simp; omega
  have HW : Shh (Row W w.heap.size 24 [.int .u32 c, .bool true, .int .i64 24, .int .i64 h, .int .i64 l] ∧ Sl W W.heap.size (.slice (some ⟨w.heap.size + 1, 0, none⟩) 3 3) zl ∧ Sl W W.heap.size (.slice (some ⟨w.heap.size + 1 + 1, 0, none⟩) 1 1) [UInt8.ofNat kind] ∧ Sl W W.heap.size (.slice A1 key.length c1) key ∧ Tabs W ∧ Below w.heap.size w W ∧ W.heap.size = w.heap.size + 3) := by
    have b1 := below1 w (.cells #[.int .u32 c, .bool true, .int .i64 24, .int .i64 h, .int .i64 l] 24)
    rw [hW]
    refine ⟨((Row.new_ rfl rfl).alloc _).alloc _, ?_, ?_, ((hkey.go (below1 _ _)).go (below1 _ _)).go (below1 _ _), ((ht.go (below1 _ _)).go (below1 _ _)).go (below1 _ _), Below.chain (Below.chain (below1 _ _) (below1 _ _)) (below1 _ _), by rw [asz, asz, asz]⟩
    · exact Row.sl ((Row.new_ (T := 5) (by rw [asz]) rfl).alloc _) (by rw [HZL.out]; simp) (by decide)
    · exact Row.sl (bs := [UInt8.ofNat kind]) (Row.new_ (T := 5) (by rw [asz, asz]) (by rw [← hkb]; rfl)) rfl (by decide)
  clear hkey ht hkb
  have HTX : Shh ([zl, [UInt8.ofNat kind], key].flatten = bigB kind 4 ++ key ∧ (bigB kind 4 ++ key).length ≤ 200000) := by
    refine ⟨by rw [HZL.out, three_flat10, bigB_small4 kind hk, List.append_assoc], ?_⟩
    rw [List.length_append, bigB_length]; omega
  have HKY : Shh (∀ m, keyd true 24 kind key m = (hsh true ((bigB kind 4 ++ key) ++ m)).take 24) := ⟨fun m => by unfold keyd ktxt; rw [List.append_assoc]; rfl⟩
  generalize bigB kind 4 ++ key = hd at HTX HKY
  go_enter Tryd.func48, Tryd.ntmps48
  go_wp2_with (go_at_call 56; go_loud (rw [← hW]; refine (join_any (W.heap.size + 1) (W.heap.size + 1) _ [zl, [UInt8.ofNat kind], key] _ (PartsO.three (q := w.heap.size + 1 + 1 + 1) (by have := HW.out.2.2.2.2.2.2; omega) (by have := HW.out.2.2.2.2.2.2; omega) (Row.new_ (by have := HW.out.2.2.2.2.2.2; omega) rfl) ((HW.out.2.1.below (below1 _ _)).more (by omega)) (HW.out.2.1.off (by omega)) ((HW.out.2.2.1.below (below1 _ _)).more (by omega)) (HW.out.2.2.1.off (by omega)) ((HW.out.2.2.2.1.below (below1 _ _)).more (by omega)) (HW.out.2.2.2.1.off (by omega))) (by rw [asz]; exact Nat.le_refl _) (by rw [HTX.out.1]; have := HTX.out.2; omega) (by simp)).mono ?_))
  clear hW
  rintro e w3 ⟨v3, rfl, g3⟩
  rw [HTX.out.1] at g3
  have HO3 : Shh (Off g0 v3) := ⟨gives_off g3 g0 (by rw [asz]; have := HW.out.2.2.2.2.2.2; omega)⟩
  obtain ⟨At, ct, rfl⟩ := own_form g3.1
  have H3 : Shh (Row w3 w.heap.size 24 [.int .u32 c, .bool true, .int .i64 24, .int .i64 h, .int .i64 l] ∧ Sl w3 w3.heap.size (.slice At hd.length ct) hd ∧ Tabs w3 ∧ Below w.heap.size w w3) := by
    have b1 : Below W.heap.size W w3 := Below.chain (below1 _ _) g3.2
    exact ⟨HW.out.1.go b1, gives_sl g3, HW.out.2.2.2.2.1.go b1, Below.chain HW.out.2.2.2.2.2.1 b1⟩
  have HTL : Shh (hd.length ≤ 200000) := ⟨HTX.out.2⟩
  clear g3 HW HTX hmk HZL
  have e1 : (w3.alloc (.cells #[.slice At hd.length ct] 25)).cell? ⟨w.heap.size, 1, none⟩ = some (.bool true) := (H3.out.1.alloc _).cell 1
  obtain ⟨Z, hZ⟩ : ∃ Z, Z = w3.alloc (.cells #[.slice At hd.length ct] 25) := ⟨_, rfl⟩
  have HR : Shh (KeyAt Z g0 (.func (.func 64) #[] #[.pointer (some ⟨w.heap.size, 0, none⟩), .pointer (some ⟨w3.heap.size, 0, none⟩)]) true 24 kind key ∧ Below w.heap.size w Z) := by
    have rh : Row Z w3.heap.size 25 [.slice At hd.length ct] := by rw [hZ]; exact Row.new_ rfl rfl
    have bz : Below w3.heap.size w3 Z := by rw [hZ]; exact below1 _ _
    refine ⟨⟨_, _, _, rfl, fun _ _ => by kernel_rfl, fun V vm m hb hT hm hlm => ?_⟩, Below.chain H3.out.2.2.2 bz⟩
    rw [HKY.out]
    have sb : Sl V V.heap.size (.slice At hd.length ct) hd := ((H3.out.2.1.go bz).but HO3.out hb).more hb.size
    have q0 := H3.out.2.2.2.size
    exact keyed1_24 c h l w.heap.size w3.heap.size _ vm hd m V (hb.row (H3.out.1.go bz) (H3.out.1.go bz).lt (by omega)) (hb.row rh rh.lt (by omega)) sb hm hT
  go_wp2
  rw [← hZ]
  go_ret
  exact ⟨_, rfl, HR.out⟩
set_option maxHeartbeats 1000000 in
theorem keyed_24_false (c h l : Int) (kind : Nat) (hk : kind ≤ 4) (vk : Value) (key : List UInt8) (w : World) (hkey : Sl w w.heap.size vk key) (hl1 : key.length ≤ 100000) (ht : Tabs w) (g0 : Nat) (hg0 : g0 < w.heap.size) :
    Calls Tryd.prog 48 #[.agg #[.int .u32 c, .bool false, .int .i64 24, .int .i64 h, .int .i64 l], .int .u8 (kind : Int), vk] w (KeyIs w g0 false 24 kind key) := by
  unfold KeyIs
  obtain ⟨A1, c1, rfl, _, _⟩ := hkey.form
  have hmf : ∀ (fn : Fn) (first cap : Array Value) (w : World), (Instr.makeFunc fn first cap).run Tryd.prog w = .ok (.func fn first cap) w := fun _ _ _ _ => rfl
  obtain ⟨zl, HZL⟩ : ∃ zl : List UInt8, Shh (zl = List.replicate 3 0) := ⟨_, ⟨rfl⟩⟩
  have hmk : ∀ u : World, (Instr.makeSlice 25 (.int .i64 3) (.int .i64 3)).run Tryd.prog u = .ok (.slice (some ⟨u.heap.size, 0, none⟩) 3 3) (u.alloc (.cells (Lib.byteCells zl).toArray 5)) := fun u => by rw [HZL.out]; exact make_run 3 (by decide) u
  have hu8 : (kind : Int) % 256 = (kind : Int) := by omega
  obtain ⟨W, hW⟩ : ∃ W, W = ((w.alloc (.cells #[.int .u32 c, .bool false, .int .i64 24, .int .i64 h, .int .i64 l] 24)).alloc (.cells (Lib.byteCells zl).toArray 5)).alloc (.cells #[.int .u8 (kind : Int)] 5) := ⟨_, rfl⟩
  have hkb : ((UInt8.ofNat kind).toNat : Int) = (kind : Int) := by simp; omega
  have HW : Shh (Row W w.heap.size 24 [.int .u32 c, .bool false, .int .i64 24, .int .i64 h, .int .i64 l] ∧ Sl W W.heap.size (.slice (some ⟨w.heap.size + 1, 0, none⟩) 3 3) zl ∧ Sl W W.heap.size (.slice (some ⟨w.heap.size + 1 + 1, 0, none⟩) 1 1) [UInt8.ofNat kind] ∧ Sl W W.heap.size (.slice A1 key.length c1) key ∧ Tabs W ∧ Below w.heap.size w W ∧ W.heap.size = w.heap.size + 3) := by
    have b1 := below1 w (.cells #[.int .u32 c, .bool false, .int .i64 24, .int .i64 h, .int .i64 l] 24)
    rw [hW]
    refine ⟨((Row.new_ rfl rfl).alloc _).alloc _, ?_, ?_, ((hkey.go (below1 _ _)).go (below1 _ _)).go (below1 _ _), ((ht.go (below1 _ _)).go (below1 _ _)).go (below1 _ _), Below.chain (Below.chain (below1 _ _) (below1 _ _)) (below1 _ _), by rw [asz, asz, asz]⟩
    · exact Row.sl ((Row.new_ (T := 5) (by rw [asz]) rfl).alloc _) (by rw [HZL.out]; simp) (by decide)
    · exact Row.sl (bs := [UInt8.ofNat kind]) (Row.new_ (T := 5) (by rw [asz, asz]) (by rw [← hkb]; rfl)) rfl (by decide)
  clear hkey ht hkb
  have HTX : Shh ([zl, [UInt8.ofNat kind], key].flatten = bigB kind 4 ++ key ∧ (bigB kind 4 ++ key).length ≤ 200000) := by
    refine ⟨by rw [HZL.out, three_flat10, bigB_small4 kind hk, List.append_assoc], ?_⟩
    rw [List.length_append, bigB_length]; omega
  have HKY : Shh (∀ m, keyd false 24 kind key m = (hsh false ((bigB kind 4 ++ key) ++ m)).take 24) := ⟨fun m => by unfold keyd ktxt; rw [List.append_assoc]; rfl⟩
  generalize bigB kind 4 ++ key = hd at HTX HKY
  go_enter Tryd.func48, Tryd.ntmps48
  go_wp2_with (go_at_call 56; go_loud (rw [← hW]; refine (join_any (W.heap.size + 1) (W.heap.size + 1) _ [zl, [UInt8.ofNat kind], key] _ (PartsO.three (q := w.heap.size + 1 + 1 + 1) (by have := HW.out.2.2.2.2.2.2; omega) (by have := HW.out.2.2.2.2.2.2; omega) (Row.new_ (by have := HW.out.2.2.2.2.2.2; omega) rfl) ((HW.out.2.1.below (below1 _ _)).more (by omega)) (HW.out.2.1.off (by omega)) ((HW.out.2.2.1.below (below1 _ _)).more (by omega)) (HW.out.2.2.1.off (by omega)) ((HW.out.2.2.2.1.below (below1 _ _)).more (by omega)) (HW.out.2.2.2.1.off (by omega))) (by rw [asz]; exact Nat.le_refl _) (by rw [HTX.out.1]; have := HTX.out.2; omega) (by simp)).mono ?_))
  clear hW
  rintro e w3 ⟨v3, rfl, g3⟩
  rw [HTX.out.1] at g3
  have HO3 : Shh (Off g0 v3) := ⟨gives_off g3 g0 (by rw [asz]; have := HW.out.2.2.2.2.2.2; omega)⟩
  obtain ⟨At, ct, rfl⟩ := own_form g3.1
  have H3 : Shh (Row w3 w.heap.size 24 [.int .u32 c, .bool false, .int .i64 24, .int .i64 h, .int .i64 l] ∧ Sl w3 w3.heap.size (.slice At hd.length ct) hd ∧ Tabs w3 ∧ Below w.heap.size w w3) := by
    have b1 : Below W.heap.size W w3 := Below.chain (below1 _ _) g3.2
    exact ⟨HW.out.1.go b1, gives_sl g3, HW.out.2.2.2.2.1.go b1, Below.chain HW.out.2.2.2.2.2.1 b1⟩
  have HTL : Shh (hd.length ≤ 200000) := ⟨HTX.out.2⟩
  clear g3 HW HTX hmk HZL
  have e1 : (w3.alloc (.cells #[.slice At hd.length ct] 25)).cell? ⟨w.heap.size, 1, none⟩ = some (.bool false) := (H3.out.1.alloc _).cell 1
  have HL := hd.length
  obtain ⟨W4, hW4⟩ : ∃ W4, W4 = w3.alloc (.cells #[.slice At hd.length ct] 25) := ⟨_, rfl⟩
  obtain ⟨gh, hgh⟩ : ∃ gh, Shh (gh = w3.heap.size) := ⟨_, ⟨rfl⟩⟩
  have H4 : Shh (Row W4 w.heap.size 24 [.int .u32 c, .bool false, .int .i64 24, .int .i64 h, .int .i64 l] ∧ Sl W4 W4.heap.size (.slice At hd.length ct) hd ∧ Row W4 gh 25 [.slice At hd.length ct] ∧ Tabs W4 ∧ Below w.heap.size w W4) := by
    have bz : Below w3.heap.size w3 W4 := by rw [hW4]; exact below1 _ _
    exact ⟨H3.out.1.go bz, H3.out.2.1.go bz, by rw [hW4]; exact Row.new_ hgh.out rfl, H3.out.2.2.1.go bz, Below.chain H3.out.2.2.2 bz⟩
  clear HL
  go_wp2_with (go_at_call 66; rw [← hW4]; refine (new_any _ H4.out.2.2.2.1.1).mono ?_)
  rw [← hgh.out]
  clear hW4 H3 e1 hgh
  unfold NewIs
  rintro e w5 ⟨g, rfl, hg, hh5, b5⟩
  have H5 : Shh (Row w5 w.heap.size 24 [.int .u32 c, .bool false, .int .i64 24, .int .i64 h, .int .i64 l] ∧ Sl w5 w5.heap.size (.slice At hd.length ct) hd ∧ Sl w5 g (.slice At hd.length ct) hd ∧ Row w5 gh 25 [.slice At hd.length ct] ∧ Tabs w5 ∧ HashAt w5 g [] ∧ Below w.heap.size w w5 ∧ w.heap.size < g ∧ g < w5.heap.size ∧ gh < g) := by
    have q := hh5.lt
    have q2 := H4.out.2.2.1.lt
    have q3 := H4.out.1.lt
    exact ⟨H4.out.1.go b5, H4.out.2.1.go b5, by rw [hg]; exact H4.out.2.1.below b5, H4.out.2.2.1.go b5, H4.out.2.2.2.1.go b5, hh5, Below.chain H4.out.2.2.2.2 b5, by omega, q, by omega⟩
  clear H4 hh5 b5 hg
  obtain ⟨W6, hW6⟩ : ∃ W6, W6 = w5.alloc (.cells #[.pointer (some ⟨g, 0, none⟩)] 84) := ⟨_, rfl⟩
  obtain ⟨gb, hgb⟩ : ∃ gb, Shh (gb = w5.heap.size) := ⟨_, ⟨rfl⟩⟩
  have H6 : Shh (Row W6 w.heap.size 24 [.int .u32 c, .bool false, .int .i64 24, .int .i64 h, .int .i64 l] ∧ Sl W6 W6.heap.size (.slice At hd.length ct) hd ∧ Sl W6 g (.slice At hd.length ct) hd ∧ Row W6 gh 25 [.slice At hd.length ct] ∧ Row W6 gb 84 [.pointer (some ⟨g, 0, none⟩)] ∧ Tabs W6 ∧ HashAt W6 g [] ∧ Below w.heap.size w W6 ∧ w.heap.size < g ∧ g < W6.heap.size ∧ gh < g ∧ g < gb) := by
    have bz : Below w5.heap.size w5 W6 := by rw [hW6]; exact below1 _ _
    have q := bz.size
    have q1 := H5.out.2.2.2.2.2.2.2
    refine ⟨H5.out.1.go bz, H5.out.2.1.go bz, H5.out.2.2.1.step (by omega) bz, H5.out.2.2.2.1.go bz, by rw [hW6]; exact Row.new_ hgb.out rfl, H5.out.2.2.2.2.1.go bz, H5.out.2.2.2.2.2.1.step bz, Below.chain H5.out.2.2.2.2.2.2.1 bz, by omega, by omega, by omega, by have := hgb.out; omega⟩
  have c1 : (w5.alloc (.cells #[.pointer (some ⟨g, 0, none⟩)] 84)).cell? ⟨gh, 0, none⟩ = some (.slice At hd.length ct) := (H5.out.2.2.2.1.alloc _).cell 0
  obtain ⟨W7, hW7⟩ : ∃ W7, W7 = W6.alloc (.cells #[.slice At hd.length ct] 25) := ⟨_, rfl⟩
  have hz6 : W6.heap.size = gb + 1 := by rw [hW6, asz, hgb.out]
  have HWP : Shh (PartsO W7 (gb + 2) g (.slice (some ⟨gb + 1, 0, none⟩) 1 1) [hd] ∧ W7.heap.size = gb + 2 ∧ Below W6.heap.size W6 W7) := by
    rw [hW7]
    exact ⟨PartsO.solo (Row.new_ hz6.symm rfl) (by omega) (by have := H6.out.2.2.2.2.2.2.2.2; omega) ((H6.out.2.1.below (below1 _ _)).more (by omega)) (H6.out.2.2.1.off (Nat.le_refl _)), by rw [asz, hz6], below1 _ _⟩
  clear hz6
  go_wp2_with (go_at_call 67; go_loud (rw [← hgb.out, ← hW6, ← hW7]; refine (write_any g [] [hd] (gb + 2) _ _ (H6.out.2.2.2.2.2.2.1.step HWP.out.2.2) HWP.out.1 (by rw [HWP.out.2.1]; exact Nat.le_refl _) (H6.out.2.2.2.2.2.1.1.go HWP.out.2.2) (by rw [one_flat10]; have := HTL.out; simp; omega) (by simp)).mono ?_))
  clear hW6 hW7 H5 hgb
  unfold WriteIs
  rintro e w8 ⟨rfl, hh8, b8⟩
  rw [one_flat10, List.nil_append] at hh8
  have HR : Shh (KeyAt w8 g0 (.func (.func 68) #[] #[.pointer (some ⟨gb, 0, none⟩), .pointer (some ⟨w.heap.size, 0, none⟩)]) false 24 kind key ∧ Below w.heap.size w w8) := by
    have q0 := HWP.out.2.1
    have q1 := H6.out.2.2.2.2.2.2.2.2
    have q2 := H6.out.2.2.2.2.1.lt
    have rx : Row w8 w.heap.size 24 [.int .u32 c, .bool false, .int .i64 24, .int .i64 h, .int .i64 l] := b8.row (H6.out.1.go HWP.out.2.2) (by omega) (by omega)
    have rb : Row w8 gb 84 [.pointer (some ⟨g, 0, none⟩)] := b8.row (H6.out.2.2.2.2.1.go HWP.out.2.2) (by omega) (by omega)
    refine ⟨⟨_, _, _, rfl, fun _ _ => by kernel_rfl, fun V vm m hb hT hm hlm => ?_⟩, ?_⟩
    · rw [HKY.out]
      exact keyed2_24 c h l w.heap.size gb g vm hd m V (hb.row rx rx.lt (by omega)) (hb.row rb rb.lt (by omega)) (hh8.but hb (by omega)) hm hT HTL.out (by omega)
    · have q3 := H6.out.2.2.2.2.2.2.2.1.size
      exact (Below.chain H6.out.2.2.2.2.2.2.2.1 HWP.out.2.2).trans (b8.under (by omega) (by omega))
  clear H6 HWP hh8 b8 c1
  go_wp2
  go_ret
  exact ⟨_, rfl, HR.out⟩
set_option maxHeartbeats 1000000 in
theorem keyed_32_true (c h l : Int) (kind : Nat) (hk : kind ≤ 4) (vk : Value) (key : List UInt8) (w : World) (hkey : Sl w w.heap.size vk key) (hl1 : key.length ≤ 100000) (ht : Tabs w) (g0 : Nat) (hg0 : g0 < w.heap.size) :
    Calls Tryd.prog 48 #[.agg #[.int .u32 c, .bool true, .int .i64 32, .int .i64 h, .int .i64 l], .int .u8 (kind : Int), vk] w (KeyIs w g0 true 32 kind key) := by
  unfold KeyIs
  obtain ⟨A1, c1, rfl, _, _⟩ := hkey.form
  have hmf : ∀ (fn : Fn) (first cap : Array Value) (w : World), (Instr.makeFunc fn first cap).run Tryd.prog w = .ok (.func fn first cap) w := fun _ _ _ _ => rfl
  obtain ⟨zl, HZL⟩ : ∃ zl : List UInt8, Shh (zl = List.replicate 31 0) := ⟨_, ⟨rfl⟩⟩
  have hmk : ∀ u : World, (Instr.makeSlice 25 (.int .i64 31) (.int .i64 31)).run Tryd.prog u = .ok (.slice (some ⟨u.heap.size, 0, none⟩) 31 31) (u.alloc (.cells (Lib.byteCells zl).toArray 5)) := fun u => by rw [HZL.out]; exact make_run 31 (by decide) u
  have hu8 : (kind : Int) % 256 = (kind : Int) := by omega
  obtain ⟨W, hW⟩ : ∃ W, W = ((w.alloc (.cells #[.int .u32 c, .bool true, .int .i64 32, .int .i64 h, .int .i64 l] 24)).alloc (.cells (Lib.byteCells zl).toArray 5)).alloc (.cells #[.int .u8 (kind : Int)] 5) := ⟨_, rfl⟩
  have hkb : ((UInt8.ofNat kind).toNat : Int) = (kind : Int) := by simp; omega
  have HW : Shh (Row W w.heap.size 24 [.int .u32 c, .bool true, .int .i64 32, .int .i64 h, .int .i64 l] ∧ Sl W W.heap.size (.slice (some ⟨w.heap.size + 1, 0, none⟩) 31 31) zl ∧ Sl W W.heap.size (.slice (some ⟨w.heap.size + 1 + 1, 0, none⟩) 1 1) [UInt8.ofNat kind] ∧ Sl W W.heap.size (.slice A1 key.length c1) key ∧ Tabs W ∧ Below w.heap.size w W ∧ W.heap.size = w.heap.size + 3) := by
    have b1 := below1 w (.cells #[.int .u32 c, .bool true, .int .i64 32, .int .i64 h, .int .i64 l] 24)
    rw [hW]
    refine ⟨((Row.new_ rfl rfl).alloc _).alloc _, ?_, ?_, ((hkey.go (below1 _ _)).go (below1 _ _)).go (below1 _ _), ((ht.go (below1 _ _)).go (below1 _ _)).go (below1 _ _), Below.chain (Below.chain (below1 _ _) (below1 _ _)) (below1 _ _), by rw [asz, asz, asz]⟩
    · exact Row.sl ((Row.new_ (T := 5) (by rw [asz]) rfl).alloc _) (by rw [HZL.out]; simp) (by decide)
    · exact Row.sl (bs := [UInt8.ofNat kind]) (Row.new_ (T := 5) (by rw [asz, asz]) (by rw [← hkb]; rfl)) rfl (by decide)
  clear hkey ht hkb
  have HTX : Shh ([zl, [UInt8.ofNat kind], key].flatten = bigB kind 32 ++ key ∧ (bigB kind 32 ++ key).length ≤ 200000) := by
    refine ⟨by rw [HZL.out, three_flat10, bigB_small32 kind hk, List.append_assoc], ?_⟩
    rw [List.length_append, bigB_length]; omega
  have HKY : Shh (∀ m, keyd true 32 kind key m = (hsh true ((bigB kind 32 ++ key) ++ m)).take 32) := ⟨fun m => by unfold keyd ktxt; rw [List.append_assoc]; rfl⟩
  generalize bigB kind 32 ++ key = hd at HTX HKY
  go_enter Tryd.func48, Tryd.ntmps48
  go_wp2_with (go_at_call 56; go_loud (rw [← hW]; refine (join_any (W.heap.size + 1) (W.heap.size + 1) _ [zl, [UInt8.ofNat kind], key] _ (PartsO.three (q := w.heap.size + 1 + 1 + 1) (by have := HW.out.2.2.2.2.2.2; omega) (by have := HW.out.2.2.2.2.2.2; omega) (Row.new_ (by have := HW.out.2.2.2.2.2.2; omega) rfl) ((HW.out.2.1.below (below1 _ _)).more (by omega)) (HW.out.2.1.off (by omega)) ((HW.out.2.2.1.below (below1 _ _)).more (by omega)) (HW.out.2.2.1.off (by omega)) ((HW.out.2.2.2.1.below (below1 _ _)).more (by omega)) (HW.out.2.2.2.1.off (by omega))) (by rw [asz]; exact Nat.le_refl _) (by rw [HTX.out.1]; have := HTX.out.2; omega) (by simp)).mono ?_))
  clear hW
  rintro e w3 ⟨v3, rfl, g3⟩
  rw [HTX.out.1] at g3
  have HO3 : Shh (Off g0 v3) := ⟨gives_off g3 g0 (by rw [asz]; have := HW.out.2.2.2.2.2.2; omega)⟩
  obtain ⟨At, ct, rfl⟩ := own_form g3.1
  have H3 : Shh (Row w3 w.heap.size 24 [.int .u32 c, .bool true, .int .i64 32, .int .i64 h, .int .i64 l] ∧ Sl w3 w3.heap.size (.slice At hd.length ct) hd ∧ Tabs w3 ∧ Below w.heap.size w w3) := by
    have b1 : Below W.heap.size W w3 := Below.chain (below1 _ _) g3.2
    exact ⟨HW.out.1.go b1, gives_sl g3, HW.out.2.2.2.2.1.go b1, Below.chain HW.out.2.2.2.2.2.1 b1⟩
  have HTL : Shh (hd.length ≤ 200000) := ⟨HTX.out.2⟩
  clear g3 HW HTX hmk HZL
  have e1 : (w3.alloc (.cells #[.slice At hd.length ct] 25)).cell? ⟨w.heap.size, 1, none⟩ = some (.bool true) := (H3.out.1.alloc _).cell 1
  obtain ⟨Z, hZ⟩ : ∃ Z, Z = w3.alloc (.cells #[.slice At hd.length ct] 25) := ⟨_, rfl⟩
  have HR : Shh (KeyAt Z g0 (.func (.func 64) #[] #[.pointer (some ⟨w.heap.size, 0, none⟩), .pointer (some ⟨w3.heap.size, 0, none⟩)]) true 32 kind key ∧ Below w.heap.size w Z) := by
    have rh : Row Z w3.heap.size 25 [.slice At hd.length ct] := by rw [hZ]; exact Row.new_ rfl rfl
    have bz : Below w3.heap.size w3 Z := by rw [hZ]; exact below1 _ _
    refine ⟨⟨_, _, _, rfl, fun _ _ => by kernel_rfl, fun V vm m hb hT hm hlm => ?_⟩, Below.chain H3.out.2.2.2 bz⟩
    rw [HKY.out]
    have sb : Sl V V.heap.size (.slice At hd.length ct) hd := ((H3.out.2.1.go bz).but HO3.out hb).more hb.size
    have q0 := H3.out.2.2.2.size
    exact keyed1_32 c h l w.heap.size w3.heap.size _ vm hd m V (hb.row (H3.out.1.go bz) (H3.out.1.go bz).lt (by omega)) (hb.row rh rh.lt (by omega)) sb hm hT
  go_wp2
  rw [← hZ]
  go_ret
  exact ⟨_, rfl, HR.out⟩
set_option maxHeartbeats 1000000 in
theorem keyed_32_false (c h l : Int) (kind : Nat) (hk : kind ≤ 4) (vk : Value) (key : List UInt8) (w : World) (hkey : Sl w w.heap.size vk key) (hl1 : key.length ≤ 100000) (ht : Tabs w) (g0 : Nat) (hg0 : g0 < w.heap.size) :
    Calls Tryd.prog 48 #[.agg #[.int .u32 c, .bool false, .int .i64 32, .int .i64 h, .int .i64 l], .int .u8 (kind : Int), vk] w (KeyIs w g0 false 32 kind key) := by
  unfold KeyIs
  obtain ⟨A1, c1, rfl, _, _⟩ := hkey.form
  have hmf : ∀ (fn : Fn) (first cap : Array Value) (w : World), (Instr.makeFunc fn first cap).run Tryd.prog w = .ok (.func fn first cap) w := fun _ _ _ _ => rfl
  obtain ⟨zl, HZL⟩ : ∃ zl : List UInt8, Shh (zl = List.replicate 31 0) := ⟨_, ⟨rfl⟩⟩
  have hmk : ∀ u : World, (Instr.makeSlice 25 (.int .i64 31) (.int .i64 31)).run Tryd.prog u = .ok (.slice (some ⟨u.heap.size, 0, none⟩) 31 31) (u.alloc (.cells (Lib.byteCells zl).toArray 5)) := fun u => by rw [HZL.out]; exact make_run 31 (by decide) u
  have hu8 : (kind : Int) % 256 = (kind : Int) := by omega
  obtain ⟨W, hW⟩ : ∃ W, W = ((w.alloc (.cells #[.int .u32 c, .bool false, .int .i64 32, .int .i64 h, .int .i64 l] 24)).alloc (.cells (Lib.byteCells zl).toArray 5)).alloc (.cells #[.int .u8 (kind : Int)] 5) := ⟨_, rfl⟩
  have hkb : ((UInt8.ofNat kind).toNat : Int) = (kind : Int) := by simp; omega
  have HW : Shh (Row W w.heap.size 24 [.int .u32 c, .bool false, .int .i64 32, .int .i64 h, .int .i64 l] ∧ Sl W W.heap.size (.slice (some ⟨w.heap.size + 1, 0, none⟩) 31 31) zl ∧ Sl W W.heap.size (.slice (some ⟨w.heap.size + 1 + 1, 0, none⟩) 1 1) [UInt8.ofNat kind] ∧ Sl W W.heap.size (.slice A1 key.length c1) key ∧ Tabs W ∧ Below w.heap.size w W ∧ W.heap.size = w.heap.size + 3) := by
    have b1 := below1 w (.cells #[.int .u32 c, .bool false, .int .i64 32, .int .i64 h, .int .i64 l] 24)
    rw [hW]
    refine ⟨((Row.new_ rfl rfl).alloc _).alloc _, ?_, ?_, ((hkey.go (below1 _ _)).go (below1 _ _)).go (below1 _ _), ((ht.go (below1 _ _)).go (below1 _ _)).go (below1 _ _), Below.chain (Below.chain (below1 _ _) (below1 _ _)) (below1 _ _), by rw [asz, asz, asz]⟩
    · exact Row.sl ((Row.new_ (T := 5) (by rw [asz]) rfl).alloc _) (by rw [HZL.out]; simp) (by decide)
    · exact Row.sl (bs := [UInt8.ofNat kind]) (Row.new_ (T := 5) (by rw [asz, asz]) (by rw [← hkb]; rfl)) rfl (by decide)
  clear hkey ht hkb
  have HTX : Shh ([zl, [UInt8.ofNat kind], key].flatten = bigB kind 32 ++ key ∧ (bigB kind 32 ++ key).length ≤ 200000) := by
    refine ⟨by rw [HZL.out, three_flat10, bigB_small32 kind hk, List.append_assoc], ?_⟩
    rw [List.length_append, bigB_length]; omega
  have HKY : Shh (∀ m, keyd false 32 kind key m = (hsh false ((bigB kind 32 ++ key) ++ m)).take 32) := ⟨fun m => by unfold keyd ktxt; rw [List.append_assoc]; rfl⟩
  generalize bigB kind 32 ++ key = hd at HTX HKY
  go_enter Tryd.func48, Tryd.ntmps48
  go_wp2_with (go_at_call 56; go_loud (rw [← hW]; refine (join_any (W.heap.size + 1) (W.heap.size + 1) _ [zl, [UInt8.ofNat kind], key] _ (PartsO.three (q := w.heap.size + 1 + 1 + 1) (by have := HW.out.2.2.2.2.2.2; omega) (by have := HW.out.2.2.2.2.2.2; omega) (Row.new_ (by have := HW.out.2.2.2.2.2.2; omega) rfl) ((HW.out.2.1.below (below1 _ _)).more (by omega)) (HW.out.2.1.off (by omega)) ((HW.out.2.2.1.below (below1 _ _)).more (by omega)) (HW.out.2.2.1.off (by omega)) ((HW.out.2.2.2.1.below (below1 _ _)).more (by omega)) (HW.out.2.2.2.1.off (by omega))) (by rw [asz]; exact Nat.le_refl _) (by rw [HTX.out.1]; have := HTX.out.2; omega) (by simp)).mono ?_))
  clear hW
  rintro e w3 ⟨v3, rfl, g3⟩
  rw [HTX.out.1] at g3
  have HO3 : Shh (Off g0 v3) := ⟨gives_off g3 g0 (by rw [asz]; have := HW.out.2.2.2.2.2.2; omega)⟩
  obtain ⟨At, ct, rfl⟩ := own_form g3.1
  have H3 : Shh (Row w3 w.heap.size 24 [.int .u32 c, .bool false, .int .i64 32, .int .i64 h, .int .i64 l] ∧ Sl w3 w3.heap.size (.slice At hd.length ct) hd ∧ Tabs w3 ∧ Below w.heap.size w w3) := by
    have b1 : Below W.heap.size W w3 := Below.chain (below1 _ _) g3.2
    exact ⟨HW.out.1.go b1, gives_sl g3, HW.out.2.2.2.2.1.go b1, Below.chain HW.out.2.2.2.2.2.1 b1⟩
  have HTL : Shh (hd.length ≤ 200000) := ⟨HTX.out.2⟩
  clear g3 HW HTX hmk HZL
  have e1 : (w3.alloc (.cells #[.slice At hd.length ct] 25)).cell? ⟨w.heap.size, 1, none⟩ = some (.bool false) := (H3.out.1.alloc _).cell 1
  have HL := hd.length
  obtain ⟨W4, hW4⟩ : ∃ W4, W4 = w3.alloc (.cells #[.slice At hd.length ct] 25) := ⟨_, rfl⟩
  obtain ⟨gh, hgh⟩ : ∃ gh, Shh (gh = w3.heap.size) := ⟨_, ⟨rfl⟩⟩
  have H4 : Shh (Row W4 w.heap.size 24 [.int .u32 c, .bool false, .int .i64 32, .int .i64 h, .int .i64 l] ∧ Sl W4 W4.heap.size (.slice At hd.length ct) hd ∧ Row W4 gh 25 [.slice At hd.length ct] ∧ Tabs W4 ∧ Below w.heap.size w W4) := by
    have bz : Below w3.heap.size w3 W4 := by rw [hW4]; exact below1 _ _
    exact ⟨H3.out.1.go bz, H3.out.2.1.go bz, by rw [hW4]; exact Row.new_ hgh.out rfl, H3.out.2.2.1.go bz, Below.chain H3.out.2.2.2 bz⟩
  clear HL
  go_wp2_with (go_at_call 66; rw [← hW4]; refine (new_any _ H4.out.2.2.2.1.1).mono ?_)
  rw [← hgh.out]
  clear hW4 H3 e1 hgh
  unfold NewIs
  rintro e w5 ⟨g, rfl, hg, hh5, b5⟩
  have H5 : Shh (Row w5 w.heap.size 24 [.int .u32 c, .bool false, .int .i64 32, .int .i64 h, .int .i64 l] ∧ Sl w5 w5.heap.size (.slice At hd.length ct) hd ∧ Sl w5 g (.slice At hd.length ct) hd ∧ Row w5 gh 25 [.slice At hd.length ct] ∧ Tabs w5 ∧ HashAt w5 g [] ∧ Below w.heap.size w w5 ∧ w.heap.size < g ∧ g < w5.heap.size ∧ gh < g) := by
    have q := hh5.lt
    have q2 := H4.out.2.2.1.lt
    have q3 := H4.out.1.lt
    exact ⟨H4.out.1.go b5, H4.out.2.1.go b5, by rw [hg]; exact H4.out.2.1.below b5, H4.out.2.2.1.go b5, H4.out.2.2.2.1.go b5, hh5, Below.chain H4.out.2.2.2.2 b5, by omega, q, by omega⟩
  clear H4 hh5 b5 hg
  obtain ⟨W6, hW6⟩ : ∃ W6, W6 = w5.alloc (.cells #[.pointer (some ⟨g, 0, none⟩)] 84) := ⟨_, rfl⟩
  obtain ⟨gb, hgb⟩ : ∃ gb, Shh (gb = w5.heap.size) := ⟨_, ⟨rfl⟩⟩
  have H6 : Shh (Row W6 w.heap.size 24 [.int .u32 c, .bool false, .int .i64 32, .int .i64 h, .int .i64 l] ∧ Sl W6 W6.heap.size (.slice At hd.length ct) hd ∧ Sl W6 g (.slice At hd.length ct) hd ∧ Row W6 gh 25 [.slice At hd.length ct] ∧ Row W6 gb 84 [.pointer (some ⟨g, 0, none⟩)] ∧ Tabs W6 ∧ HashAt W6 g [] ∧ Below w.heap.size w W6 ∧ w.heap.size < g ∧ g < W6.heap.size ∧ gh < g ∧ g < gb) := by
    have bz : Below w5.heap.size w5 W6 := by rw [hW6]; exact below1 _ _
    have q := bz.size
    have q1 := H5.out.2.2.2.2.2.2.2
    refine ⟨H5.out.1.go bz, H5.out.2.1.go bz, H5.out.2.2.1.step (by omega) bz, H5.out.2.2.2.1.go bz, by rw [hW6]; exact Row.new_ hgb.out rfl, H5.out.2.2.2.2.1.go bz, H5.out.2.2.2.2.2.1.step bz, Below.chain H5.out.2.2.2.2.2.2.1 bz, by omega, by omega, by omega, by have := hgb.out; omega⟩
  have c1 : (w5.alloc (.cells #[.pointer (some ⟨g, 0, none⟩)] 84)).cell? ⟨gh, 0, none⟩ = some (.slice At hd.length ct) := (H5.out.2.2.2.1.alloc _).cell 0
  obtain ⟨W7, hW7⟩ : ∃ W7, W7 = W6.alloc (.cells #[.slice At hd.length ct] 25) := ⟨_, rfl⟩
  have hz6 : W6.heap.size = gb + 1 := by rw [hW6, asz, hgb.out]
  have HWP : Shh (PartsO W7 (gb + 2) g (.slice (some ⟨gb + 1, 0, none⟩) 1 1) [hd] ∧ W7.heap.size = gb + 2 ∧ Below W6.heap.size W6 W7) := by
    rw [hW7]
    exact ⟨PartsO.solo (Row.new_ hz6.symm rfl) (by omega) (by have := H6.out.2.2.2.2.2.2.2.2; omega) ((H6.out.2.1.below (below1 _ _)).more (by omega)) (H6.out.2.2.1.off (Nat.le_refl _)), by rw [asz, hz6], below1 _ _⟩
  clear hz6
  go_wp2_with (go_at_call 67; go_loud (rw [← hgb.out, ← hW6, ← hW7]; refine (write_any g [] [hd] (gb + 2) _ _ (H6.out.2.2.2.2.2.2.1.step HWP.out.2.2) HWP.out.1 (by rw [HWP.out.2.1]; exact Nat.le_refl _) (H6.out.2.2.2.2.2.1.1.go HWP.out.2.2) (by rw [one_flat10]; have := HTL.out; simp; omega) (by simp)).mono ?_))
  clear hW6 hW7 H5 hgb
  unfold WriteIs
  rintro e w8 ⟨rfl, hh8, b8⟩
  rw [one_flat10, List.nil_append] at hh8
  have HR : Shh (KeyAt w8 g0 (.func (.func 68) #[] #[.pointer (some ⟨gb, 0, none⟩), .pointer (some ⟨w.heap.size, 0, none⟩)]) false 32 kind key ∧ Below w.heap.size w w8) := by
    have q0 := HWP.out.2.1
    have q1 := H6.out.2.2.2.2.2.2.2.2
    have q2 := H6.out.2.2.2.2.1.lt
    have rx : Row w8 w.heap.size 24 [.int .u32 c, .bool false, .int .i64 32, .int .i64 h, .int .i64 l] := b8.row (H6.out.1.go HWP.out.2.2) (by omega) (by omega)
    have rb : Row w8 gb 84 [.pointer (some ⟨g, 0, none⟩)] := b8.row (H6.out.2.2.2.2.1.go HWP.out.2.2) (by omega) (by omega)
    refine ⟨⟨_, _, _, rfl, fun _ _ => by kernel_rfl, fun V vm m hb hT hm hlm => ?_⟩, ?_⟩
    · rw [HKY.out]
      exact keyed2_32 c h l w.heap.size gb g vm hd m V (hb.row rx rx.lt (by omega)) (hb.row rb rb.lt (by omega)) (hh8.but hb (by omega)) hm hT HTL.out (by omega)
    · have q3 := H6.out.2.2.2.2.2.2.2.1.size
      exact (Below.chain H6.out.2.2.2.2.2.2.2.1 HWP.out.2.2).trans (b8.under (by omega) (by omega))
  clear H6 HWP hh8 b8 c1
  go_wp2
  go_ret
  exact ⟨_, rfl, HR.out⟩
end Go.Proofs.YtobbbljnkdfkeaaDoor
