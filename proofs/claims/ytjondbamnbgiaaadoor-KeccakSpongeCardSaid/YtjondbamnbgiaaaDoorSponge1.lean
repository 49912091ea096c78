/-
  WALK: the law KeccakSponge.
-/
import Derived.Test.YtjondbamnbgiaaaDoorMuch
import Derived.Test.YtjondbamnbgiaaaDoorRSponge
import Derived.Test.YtjondbamnbgiaaaDoorAppZ
import Derived.Laws.Cover3
namespace Go.Proofs.YtjondbamnbgiaaaDoor
open Go.RowKit
set_option maxRecDepth 100000

theorem run_cut2 (A : Option Addr) (n c j : Nat) (hj : j ≤ c) (w : World) : (Instr.sliceAt 29 (.slice A n c) none (some (.int .i64 (j : Int))) none).run Tryd.prog w = .ok (sliced A 0 j c 1) w := by
  rw [run_sliceAt_slice _ _ _ _ _ _ slice30, run_slice_h w 29 A n c slice30 .i64 (j : Int) (by omega) (by omega), elem30, run_sizeOf_u8, Result.andThen_ok, Int.toNat_natCast]
theorem run_orL {P : Program} {w : World} {a : Act} {o : Oper} {x y : Operand} {t u : TypeId} {p q : UInt64} (ho : o.op = .binOp .or t x y u) (hx : a.eval x = .int .u64 (p.toNat : Int)) (hy : a.eval y = .int .u64 (q.toNat : Int)) : (execOp a.eval o).run P w = .ok (.value (.int .u64 ((p ||| q).toNat : Int))) w := by
  have h := u64_or p q
  generalize (p ||| q).toNat = r at *
  unfold execOp
  simp only [ho, hx, hy]
  simp [go_sem, h]
theorem run_shrU {a : Act} {x y : Operand} {op : Oper} {t u : TypeId} (b : UInt64) (r : Nat) (hr : r < 64) (ho : op.op = .binOp .shr t x y u) (hx : a.eval x = .int .u64 (b.toNat : Int)) (hy : a.eval y = .int .u64 (r : Int)) (w : World) :
    (execOp a.eval op).run Tryd.prog w = .ok (.value (.int .u64 ((b.toNat / 2 ^ r : Nat) : Int))) w := by
  have h0 : (0 : Int) ≤ (r : Int) := by omega
  have h1 : (r : Int) < 64 := by omega
  have hn : ((r : Int)).toNat = r := by omega
  generalize hq : (2 : Nat) ^ r = q
  unfold execOp
  simp only [ho, hx, hy]
  clear hx hy ho
  simp [go_sem, hn]
  rw [← hq]
  simp
theorem run_index32 {a : Act} {x y : Operand} {o : Oper} (b k : Nat) (hk : k < 32) (ho : o.op = .indexAddr 31 x y) (hx : a.eval x = .pointer (some ⟨b, 0, none⟩)) (hy : a.eval y = .int .i64 (k : Int)) (w : World) :
    (execOp a.eval o).run Tryd.prog w = .ok (.value (.pointer (some ⟨b, k, none⟩))) w := by
  have h0 : (0 : Int) ≤ (k : Int) := by omega
  have h1 : (k : Int) < 32 := by omega
  unfold execOp
  simp only [ho, hx, hy]
  go_simp
theorem sponge_one (m : List UInt8) (h : m.length < 136) : spongeL 136 6 m 32 = (List.range 32).map (byteL (permL (layO zeroL 0 (padB 136 (m ++ [6]))))) := by
  have h1 := absorbL_block 136 (by decide) (by decide) 6 m 0 (by omega) (by omega)
  unfold spongeL
  rw [h1, (outs_full 136 _ 32 (by decide) (by decide)).1]
  rw [Nat.zero_mul, List.drop_zero]
  show (List.range 32).map (byteL (permL (layX zeroL 0 _))) = _
  rw [layX_layO _ zeroL 0 rfl (by rw [padB_length _ _ (by simp; omega)]; decide) low_zero]

set_option maxHeartbeats 4000000 in
theorem sponge_walk (v : Value) (m : List UInt8) (w : World) (hs : Sl w w.heap.size v m) (hv : Vars w) :
    Calls Tryd.prog 9 #[v] w (TrueIs w) := by
  unfold TrueIs
  obtain ⟨A, c, rfl, hmc, _⟩ := hs.form
  obtain ⟨i0, hi, hz0, hz1, hz2⟩ := info_parts info_u8
  have hpos := hv.pos
  generalize hN : w.heap.size = N at *
  go_enter Tryd.func9, Tryd.ntmps9
  go_wp2_with (go_at_call 12; refine (live_any _ hv).mono ?_)
  rintro e w1 ⟨rfl, b1⟩
  rw [hN] at b1
  have hv1 := hv.step (by rw [hN]; exact b1)
  have st1 := hs.below b1
  have hs1 := b1.size
  rw [hN] at hs1
  clear hs hv
  by_cases hlong : 136 ≤ m.length
  · have d1 : decide (136 ≤ (m.length : Int)) = true := by simp; omega
    go_wp2_with (go_at_call 12; refine (live_any _ hv1).mono ?_)
    rintro e w3 ⟨rfl, b3⟩
    go_wp2
    go_ret
    exact ⟨rfl, b1.trans (b3.mono hs1)⟩
  have d1 : decide (136 ≤ (m.length : Int)) = false := by simp; omega
  have hml : m.length < 136 := by omega
  have HSP : Shh (spongeL 136 6 m 32 = (List.range 32).map (byteL (permL (layO zeroL 0 (padB 136 (m ++ [6])))))) := Shh.mk (sponge_one m hml)
  clear hlong
  have hal2 : Below w1.heap.size w1 ((w1.alloc (.cells #[.int .u8 6] 5)).alloc (.cells #[.slice A m.length c, .slice (some ⟨w1.heap.size, 0, none⟩) 1 1] 29)) := ((Below.refl _ w1).alloc (Nat.le_refl _) _).alloc (by rw [asz]; omega) _
  have hJ := refJoin_any (w1.heap.size + 2) (w1.heap.size + 2) (.slice (some ⟨w1.heap.size + 1, 0, none⟩) 2 2) [m, [6]] _ (PartsO.two (Nat.lt_succ_self _) (by omega) (Row.new_ (by rw [asz]) rfl) ((st1.below (hal2.mono hs1)).more (by omega)) (st1.off (by omega)) (Sl.of_bytes (T := 5) ((Row.new_ rfl rfl).alloc _) (by omega) rfl (by simp)) (Off.at_ (by omega))) (by rw [asz, asz]; exact Nat.le_refl _) (by rw [two_flat]; simp; omega) (by simp)
  rw [two_flat] at hJ
  obtain ⟨x, hx⟩ : ∃ x, x = m ++ [(6 : UInt8)] := ⟨_, rfl⟩
  have hxl1 : x.length = m.length + 1 := by rw [hx]; simp
  have hxl : x.length ≤ 136 := by omega
  have hxp : 0 < x.length := by omega
  rw [← hx] at hJ HSP
  clear hx hxl1
  go_wp2_with (go_at_call 16; refine hJ.mono ?_)
  rintro e w3 ⟨v3, rfl, g3⟩
  have o3 := g3.1
  have b3 := hal2.trans (g3.2.mono (by rw [asz, asz]; omega))
  have hb3 := b1.trans (b3.mono hs1)
  have hv3 := hv1.step b3
  have st3 := st1.below (b3.mono hs1)
  have hz3 := g3.2.size
  rw [asz, asz] at o3 hz3
  clear g3 b1 hv1 st1 hJ hal2
  obtain ⟨A3, c3, rfl⟩ := own_form o3
  obtain ⟨B3, hB3⟩ : ∃ B, B = w1.heap.size + 1 + 1 := ⟨_, rfl⟩
  rw [← hB3] at o3 hz3
  have hNB : N ≤ B3 := by omega
  clear hB3 hs1
  have hcut136 : ∀ (A : Option Addr) n c, 136 ≤ c → ∀ u, (Instr.sliceAt 29 (.slice A n c) none (some (.int .i64 136)) none).run Tryd.prog u = .ok (sliced A 0 136 c 1) u := fun A n c h u => run_cut2 A n c 136 h u
  go_wp2_with (at_builtin; refine wp_appendZ _ 29 3 5 i0 Tryd.underlying29 Tryd.underlying3 hi hz0 hz1 hz2 rfl _ _ rfl (n := 136) o3 rfl rfl hxp (by omega) (by decide) (by decide) hz3 ?_)
  intro g cap cur w4 hrg hg hcap hcm hcl htk b4
  have hb4 := hb3.trans (b4 _ hNB)
  have hv4 := hv3.under (b4 _ (Nat.le_refl _)) (by omega)
  have st4 := st3.below (b4 _ hNB)
  have hs4 := (b4 _ (Nat.le_refl _)).size
  clear hb3 hv3 st3 b4 o3
  have hc136 : 136 ≤ cap := by omega
  have hsl : sliced (some ⟨g, 0, none⟩) 0 136 cap 1 = .slice (some ⟨g, 0, none⟩) 136 cap := by
    unfold sliced
    rw [if_neg (by omega)]
    simp [addr_add]
  have hcu := fun n u => hcut136 (some ⟨g, 0, none⟩) n cap hc136 u
  rw [hsl] at hcu
  clear hcut136 hsl
  obtain ⟨P0, hP0⟩ : ∃ P, P = x ++ List.replicate (136 - x.length) (0 : UInt8) := ⟨_, rfl⟩
  have hP0l : P0.length = 136 := by rw [hP0]; simp; omega
  have hcells : ∀ i (h : i < P0.length), cur[i]? = some (.int .u8 (P0[i].toNat : Int)) := fun i h => by
    have h2 := congrArg (fun l : List Value => l[i]?) htk
    replace h2 : (cur.take (x.length + 136))[i]? = (Lib.byteCells (x ++ List.replicate 136 (0 : UInt8)))[i]? := h2
    rw [List.getElem?_take_of_lt (by omega), byteCells_get _ i (by simp; omega)] at h2
    rw [h2]
    subst hP0
    rw [List.getElem_append, List.getElem_append]
    split
    · rfl
    · rw [List.getElem_replicate, List.getElem_replicate]
  have hPB : padB 136 x = P0.set 135 (P0.getD 135 0 ^^^ 128) := by rw [hP0]; rfl
  obtain ⟨y, hy⟩ : ∃ y, y = P0[135]'(by omega) := ⟨_, rfl⟩
  rw [getD_get P0 135 0 (by omega), ← hy] at hPB
  have hcb := (hrg.cell 135).trans (hcells 135 (by omega))
  rw [← hy] at hcb
  have hfb := hrg.free 135
  have hxo := u8_xor y 128
  rw [show ((128 : UInt8).toNat : Int) = 128 from rfl] at hxo
  have hrg2 := hrg.set_ 135 (.int .u8 ((y ^^^ 128).toNat : Int))
  obtain ⟨cs, hcs⟩ : ∃ cs, cs = cur.set 135 (.int .u8 ((y ^^^ 128).toNat : Int)) := ⟨_, rfl⟩
  obtain ⟨P1, hP1⟩ : ∃ P, P = padB 136 x := ⟨_, rfl⟩
  have hP1l : P1.length = 136 := by rw [hP1]; exact padB_length 136 x hxl
  have HCS : Shh (∀ i (h : i < P1.length), cs[i]? = some (.int .u8 (P1[i].toNat : Int))) := Shh.mk (fun i h => by
    have hP1' : P1 = P0.set 135 (y ^^^ 128) := hP1.trans hPB
    subst hP1'
    rw [hcs, List.getElem_set]
    by_cases hi : 135 = i
    · subst hi
      rw [List.getElem?_set_self (by omega), if_pos rfl]
    · rw [List.getElem?_set_ne hi, if_neg hi]
      exact hcells i (by omega))
  rw [← hcs] at hrg2
  rw [← hP1] at HSP
  have hv5 := hv4.setBeyond (q := g) (o := 135) (.int .u8 ((y ^^^ 128).toNat : Int)) (by omega)
  have st5 := st4.below (Below.setCell (p := ⟨g, 135, none⟩) (Below.refl N w4) (by show N ≤ g; omega) (.int .u8 ((y ^^^ 128).toNat : Int)))
  have hb5 := hb4.setCell (p := ⟨g, 135, none⟩) (show N ≤ g by omega) (.int .u8 ((y ^^^ 128).toNat : Int))
  have hgl := hrg.lt
  clear hrg hb4 hv4 st4 hcells hcs hP1 hPB hy hP0 hP0l htk hcl
  generalize (y ^^^ 128).toNat = yn at *
  have hYs : (w4.setCell ⟨g, 135, none⟩ (.int .u8 (yn : Int))).heap.size = w4.heap.size := by simp [World.setCell]
  obtain ⟨nA, hnA⟩ : ∃ nA, w4.heap.size = nA := ⟨_, rfl⟩
  rw [hnA] at hYs hs4 hgl
  have hal := fun o => (Below.refl (w4.setCell ⟨g, 135, none⟩ (.int .u8 (yn : Int))).heap.size (w4.setCell ⟨g, 135, none⟩ (.int .u8 (yn : Int)))).alloc (Nat.le_refl _) o
  have hrA : Row ((w4.setCell ⟨g, 135, none⟩ (.int .u8 (yn : Int))).alloc (.cells (laneCells (List.replicate 25 0)).toArray 23)) nA 23 (laneCells (layO zeroL 0 (P1.take 0))) := Row.new_ hYs.symm rfl
  have hrG := hrg2.alloc (.cells (laneCells (List.replicate 25 0)).toArray 23)
  have hbN := hb5.alloc (by rw [hYs]; omega) (.cells (laneCells (List.replicate 25 0)).toArray 23)
  have hv := hv5.step (hal (.cells (laneCells (List.replicate 25 0)).toArray 23))
  have st := st5.below ((hal (.cells (laneCells (List.replicate 25 0)).toArray 23)).mono (by rw [hYs]; omega))
  have hpg : 0 < N := hpos
  clear hrg2 hb5 hv5 st5 hal hYs
  go_wp2
  go_loopw [5, 29] (fun _ i wr => ∃ k : Nat, k ≤ 136 ∧ i = .int .i64 (k : Int) ∧ Row wr nA 23 (laneCells (layO zeroL 0 (P1.take k))) ∧ Row wr g 5 cs ∧ Vars wr ∧ Sl wr N (.slice A m.length c) m ∧ Below N w wr) (fun _ i _ => 136 - (intOf i).toNat)
  case atStart => exact ⟨0, Nat.zero_le _, rfl, hrA, hrG, hv, st, hbN⟩
  case round =>
    clear hrA hrG hv st hbN hcb hfb hxo hcu
    obtain ⟨k, hk, rfl, hrA, hrG, hv, st, hbN⟩ := hrel
    have hcl : (layO zeroL 0 (P1.take k)).length = 25 := layO_length _ _ _
    by_cases hlk : k < 136
    · have HLS : Shh (layO zeroL 0 (P1.take (k + 1)) = orL (layO zeroL 0 (P1.take k)) k (P1[k]'(by omega))) := Shh.mk (by rw [layO_take P1 zeroL 0 k (by omega), Nat.zero_add])
      obtain ⟨cu, hcu⟩ : ∃ c, c = layO zeroL 0 (P1.take k) := ⟨_, rfl⟩
      rw [← hcu] at HLS hcl hrA
      obtain ⟨y, hy⟩ : ∃ y, y = P1[k]'(by omega) := ⟨_, rfl⟩
      rw [← hy] at HLS
      have hgy : cs[k]? = some (.int .u8 (y.toNat : Int)) := by rw [HCS.out k (by omega), hy]
      obtain ⟨p, hp⟩ : ∃ p, p = k / 8 := ⟨_, rfl⟩
      obtain ⟨r, hr8⟩ : ∃ r, r = k % 8 := ⟨_, rfl⟩
      obtain ⟨r8, hrr⟩ : ∃ r', r' = 8 * r := ⟨_, rfl⟩
      have qp : (k : Int).tdiv 8 = (p : Int) := (show (k : Int).tdiv 8 = ((k / 8 : Nat) : Int) from rfl).trans (by rw [hp])
      have qp' : (k : Int) / 8 = (p : Int) := by omega
      have qr : (k : Int).tmod 8 = (r : Int) := (show (k : Int).tmod 8 = ((k % 8 : Nat) : Int) from rfl).trans (by rw [hr8])
      have qr' : (k : Int) % 8 = (r : Int) := by omega
      have qs : (8 : Int) * (r : Int) = (r8 : Int) := by omega
      have wp : IntKind.i64.wrap (p : Int) = (p : Int) := by rw [IntKind.wrap_i64]; omega
      have ws : IntKind.i64.wrap (r8 : Int) = (r8 : Int) := by rw [IntKind.wrap_i64]; omega
      have wu : IntKind.u64.wrap (r8 : Int) = (r8 : Int) := by rw [IntKind.wrap_u64]; omega
      have hp25 : p < 25 := by omega
      have hrb : r8 < 64 := by omega
      have HME : Shh (layO zeroL 0 (P1.take (k + 1)) = cu.set p (lane cu p ||| UInt64.ofNat (y.toNat * 2 ^ r8))) := Shh.mk (by rw [HLS.out, orL, hrr, hr8, hp])
      obtain ⟨z, hz⟩ : ∃ z, Shh (z = UInt64.ofNat (y.toNat * 2 ^ r8)) := ⟨_, Shh.mk rfl⟩
      obtain ⟨vz, hvz⟩ : ∃ z', Shh (z' = lane cu p ||| z) := ⟨_, Shh.mk rfl⟩
      clear HLS
      have HLS : Shh (layO zeroL 0 (P1.take (k + 1)) = cu.set p vz) := Shh.mk (by rw [HME.out, hvz.out, hz.out])
      have hy8 : y.toNat < 256 := y.toNat_lt
      have wy : IntKind.u64.wrap (y.toNat : Int) = (y.toNat : Int) := by rw [IntKind.wrap_u64]; omega
      clear HME hcu hy hp hr8 hrr
      replace hrA := hrA.drew
      replace hrG := hrG.drew
      replace hbN := hbN.drew
      replace hv := hv.drew
      replace st := st.drew
      have hca := (hrA.cell p).trans (laneCells_lane cu p (by omega))
      generalize lane cu p = v at *
      have hfa := hrA.free p
      have hra2 := hrA.set_ p (.int .u64 (vz.toNat : Int))
      rw [laneCells_set] at hra2
      have hrg2 := hrG.other ⟨nA, p, none⟩ (.int .u64 (vz.toNat : Int)) (by show g ≠ nA; omega)
      have hbel2 := hbN.setCell (p := ⟨nA, p, none⟩) (show N ≤ nA by omega) (.int .u64 (vz.toNat : Int))
      have hv2 := hv.setBeyond (q := nA) (o := p) (.int .u64 (vz.toNat : Int)) (by omega)
      have st2 := st.below (Below.setCell (p := ⟨nA, p, none⟩) (Below.refl N wr.drew) (by show N ≤ nA; omega) (.int .u64 (vz.toNat : Int)))
      go_wp2
      refine wp_region_held_drew (S := fun w' => w'.cell? ⟨g, k, none⟩ = some (.int .u8 (y.toNat : Int))) (by kernel_rfl) ((hrG.cell k).trans hgy) (fun hSX => ?_)
      generalize wr.drew = X at *
      refine held_value 0 (Op.move (Operand.tmp 5)) 3 (some 32) (.int .i64 (k : Int)) (by kernel_rfl) (by kernel_rfl) (by kernel_rfl) (fun w hS => by kernel_rfl) (fun _ _ _ _ h => h) hSX ?_
      simp only [Act.put, List.setIfInBounds_toArray, List.set_cons_zero, List.set_cons_succ]
      refine held_value 1 (Op.binOp BinOp.quo 3 (Operand.tmp 32) (Operand.const (Value.int IntKind.i64 8)) 3) 3 (some 33) (.int .i64 (p : Int)) (by kernel_rfl) (by kernel_rfl) (by kernel_rfl) (fun w hS => by go_simp) (fun _ _ _ _ h => h) hSX ?_
      simp only [Act.put, List.setIfInBounds_toArray, List.set_cons_zero, List.set_cons_succ]
      refine held_value 2 (Op.indexAddr 23 (Operand.tmp 4) (Operand.tmp 33)) 0 (some 34) (.pointer (some ⟨nA, p, none⟩)) (by kernel_rfl) (by kernel_rfl) (by kernel_rfl) (fun w hS => run_index25 nA p hp25 rfl (by kernel_rfl) (by kernel_rfl) w) (fun _ _ _ _ h => h) hSX ?_
      simp only [Act.put, List.setIfInBounds_toArray, List.set_cons_zero, List.set_cons_succ]
      refine held_value 4 (Op.move (Operand.tmp 3)) 29 (some 36) (.slice (some ⟨g, 0, none⟩) 136 cap) (by kernel_rfl) (by kernel_rfl) (by kernel_rfl) (fun w hS => by kernel_rfl) (fun _ _ _ _ h => h) hSX ?_
      simp only [Act.put, List.setIfInBounds_toArray, List.set_cons_zero, List.set_cons_succ]
      refine held_value 5 (Op.move (Operand.tmp 5)) 3 (some 37) (.int .i64 (k : Int)) (by kernel_rfl) (by kernel_rfl) (by kernel_rfl) (fun w hS => by kernel_rfl) (fun _ _ _ _ h => h) hSX ?_
      simp only [Act.put, List.setIfInBounds_toArray, List.set_cons_zero, List.set_cons_succ]
      refine held_value 6 (Op.indexAddr 29 (Operand.tmp 36) (Operand.tmp 37)) 0 (some 38) (.pointer (some ⟨g, k, none⟩)) (by kernel_rfl) (by kernel_rfl) (by kernel_rfl) (fun w hS => run_indexSc g k 136 cap hlk rfl (by kernel_rfl) (by kernel_rfl) w) (fun _ _ _ _ h => h) hSX ?_
      simp only [Act.put, List.setIfInBounds_toArray, List.set_cons_zero, List.set_cons_succ]
      refine held_value 7 (Op.load 5 (Operand.tmp 38)) 5 (some 39) (.int .u8 (y.toNat : Int)) (by kernel_rfl) (by kernel_rfl) (by kernel_rfl) (fun w hS => run_load1 rfl Tryd.underlying5 (by kernel_rfl) hS) (fun _ _ _ _ h => h) hSX ?_
      simp only [Act.put, List.setIfInBounds_toArray, List.set_cons_zero, List.set_cons_succ]
      refine held_value 8 (Op.convert 5 22 (Operand.tmp 39)) 22 (some 40) (.int .u64 (y.toNat : Int)) (by kernel_rfl) (by kernel_rfl) (by kernel_rfl) (fun w hS => by go_simp) (fun _ _ _ _ h => h) hSX ?_
      simp only [Act.put, List.setIfInBounds_toArray, List.set_cons_zero, List.set_cons_succ]
      refine held_value 9 (Op.move (Operand.tmp 5)) 3 (some 41) (.int .i64 (k : Int)) (by kernel_rfl) (by kernel_rfl) (by kernel_rfl) (fun w hS => by kernel_rfl) (fun _ _ _ _ h => h) hSX ?_
      simp only [Act.put, List.setIfInBounds_toArray, List.set_cons_zero, List.set_cons_succ]
      refine held_value 10 (Op.binOp BinOp.rem 3 (Operand.tmp 41) (Operand.const (Value.int IntKind.i64 8)) 3) 3 (some 42) (.int .i64 (r : Int)) (by kernel_rfl) (by kernel_rfl) (by kernel_rfl) (fun w hS => by go_simp) (fun _ _ _ _ h => h) hSX ?_
      simp only [Act.put, List.setIfInBounds_toArray, List.set_cons_zero, List.set_cons_succ]
      refine held_value 11 (Op.binOp BinOp.mul 3 (Operand.const (Value.int IntKind.i64 8)) (Operand.tmp 42) 3) 3 (some 43) (.int .i64 (r8 : Int)) (by kernel_rfl) (by kernel_rfl) (by kernel_rfl) (fun w hS => by go_simp) (fun _ _ _ _ h => h) hSX ?_
      simp only [Act.put, List.setIfInBounds_toArray, List.set_cons_zero, List.set_cons_succ]
      refine held_value 12 (Op.convert 3 54 (Operand.tmp 43)) 54 (some 44) (.int .u64 (r8 : Int)) (by kernel_rfl) (by kernel_rfl) (by kernel_rfl) (fun w hS => by go_simp) (fun _ _ _ _ h => h) hSX ?_
      simp only [Act.put, List.setIfInBounds_toArray, List.set_cons_zero, List.set_cons_succ]
      refine held_value 13 (Op.binOp BinOp.shl 22 (Operand.tmp 40) (Operand.tmp 44) 54) 22 (some 45) (.int .u64 (z.toNat : Int)) (by kernel_rfl) (by kernel_rfl) (by kernel_rfl) (fun w hS => by rw [hz.out]; exact run_shlU y r8 hrb rfl (by kernel_rfl) (by kernel_rfl) w) (fun _ _ _ _ h => h) hSX ?_
      simp only [Act.put, List.setIfInBounds_toArray, List.set_cons_zero, List.set_cons_succ]
      refine held_one 3 (by kernel_rfl) ?_
      refine step_value 3 (Op.load 22 (Operand.tmp 34)) 22 (some 35) (.int .u64 (v.toNat : Int)) _ (by kernel_rfl) (by kernel_rfl) (run_load1 rfl Tryd.underlying22 (by kernel_rfl) hca) hSX ?_
      simp only [Act.put, List.setIfInBounds_toArray, List.set_cons_zero, List.set_cons_succ]
      refine held_value 14 (Op.binOp BinOp.or 22 (Operand.tmp 35) (Operand.tmp 45) 22) 22 (some 46) (.int .u64 (vz.toNat : Int)) (by kernel_rfl) (by kernel_rfl) (by kernel_rfl) (fun w hS => by rw [hvz.out]; exact run_orL (p := v) (q := z) rfl (by kernel_rfl) (by kernel_rfl)) (fun _ _ _ _ h => h) hSX ?_
      simp only [Act.put, List.setIfInBounds_toArray, List.set_cons_zero, List.set_cons_succ]
      refine held_value 15 (Op.indexAddr 23 (Operand.tmp 4) (Operand.tmp 33)) 0 (some 47) (.pointer (some ⟨nA, p, none⟩)) (by kernel_rfl) (by kernel_rfl) (by kernel_rfl) (fun w hS => run_index25 nA p hp25 rfl (by kernel_rfl) (by kernel_rfl) w) (fun _ _ _ _ h => h) hSX ?_
      simp only [Act.put, List.setIfInBounds_toArray, List.set_cons_zero, List.set_cons_succ]
      refine held_one 16 (by kernel_rfl) ?_
      refine step_store1 16 (Op.store 22 (Operand.tmp 47) (Operand.tmp 46)) (by kernel_rfl) (by kernel_rfl) (X.setCell ⟨nA, p, none⟩ (.int .u64 (vz.toNat : Int))) (run_store64 vz nA p rfl (by kernel_rfl) (by kernel_rfl) hca hfa) ⟨(hrg2.cell k).trans hgy, ?_⟩
      refine wpAnyH_done (by kernel_rfl) ?_ _
      clear hSX hca hfa
      generalize X.setCell ⟨nA, p, none⟩ (.int .u64 (vz.toNat : Int)) = Y at *
      go_wp2
      go_roundw
      case rel => exact ⟨k + 1, by omega, by go_num, by rw [HLS.out]; exact hra2, hrg2, hv2, st2, hbel2⟩
      case measure => simp [intOf]; omega
    · have HE : Shh (layO zeroL 0 (P1.take k) = layO zeroL 0 P1) := Shh.mk (by rw [List.take_of_length_le (by omega)])
      rw [HE.out] at hrA hcl
      obtain ⟨nx, HNX⟩ : ∃ l, Shh (l = layO zeroL 0 P1) := ⟨_, Shh.mk rfl⟩
      rw [← HNX.out] at hrA hcl HSP
      have hpl := permL_length nx hcl
      have hPm := fun u hv => permOk nx u hcl hv
      obtain ⟨px, HPX⟩ : ∃ l, Shh (l = permL nx) := ⟨_, Shh.mk rfl⟩
      rw [← HPX.out] at hpl hPm HSP
      clear HE
      go_wp2_with (first
        | refine wpList_load_any rfl 23 (.tmp 4) rfl nA rfl 23 (laneCells nx) (.array 25 22) hrA Tryd.underlying23 rfl (info_l25.trans (size_lanes _ _ hcl)) ?_
        | (go_at_call 13; refine (hPm _ hv).mono ?_))
      rintro e w6 ⟨rfl, b6⟩
      replace hrA := hrA.below b6 hrA.lt
      replace hv := hv.step b6
      have hzN := hbN.size
      rw [hN] at hzN
      replace st := st.below (b6.mono hzN)
      replace hbN := hbN.trans (b6.mono hzN)
      clear b6 hrG hzN
      go_wp2_with (refine wpList_store_any rfl 23 (.tmp 4) (.tmp 50) rfl nA rfl (laneCells px) rfl 23 _ hrA (info_l25.trans (size_lanes _ _ hpl)) (by rw [laneCells_length, laneCells_length, hcl, hpl]) (cell_oneLane _) ?_)
      intro w7 hrA7 b7 z7
      have hzA := hrA.lt
      have hv7 := hv.but b7 (by omega)
      have st7 := st.below (b7.under (by omega) (by omega))
      have hbN7 := hbN.trans (b7.under (by omega) (by omega))
      have hz7 : N ≤ w7.heap.size := by omega
      clear hrA b7 z7 hv st hbN
      have bA8 : Below w7.heap.size w7 (w7.alloc (.cells #[.slice A m.length c] 29)) := Below.alloc (Below.refl _ _) (Nat.le_refl _) _
      have hq8 : PartsO (w7.alloc (.cells #[.slice A m.length c] 29)) (w7.heap.size + 1) (w7.heap.size + 1) (.slice (some ⟨w7.heap.size, 0, none⟩) 1 1) [m] :=
        PartsO.solo (Row.new_ rfl rfl) (Nat.lt_succ_self _) (by omega) ((st7.below (Below.alloc (Below.refl _ _) hz7 _)).more (by omega)) (st7.off (by omega))
      have hS := sha3256_any [m] (by simp) (w7.heap.size + 1) _ _ hq8 (by rw [asz]; exact Nat.le_refl _) (hv7.step bA8)
      rw [flat_one] at hS
      have hol : (spongeL 136 6 m 32).length = 32 := Sp.outs_length _ _ _
      obtain ⟨ou, HOU⟩ : ∃ o, Shh (o = spongeL 136 6 m 32) := ⟨_, Shh.mk rfl⟩
      rw [← HOU.out] at hS hol HSP
      go_wp2_with (go_at_call 17; refine hS.mono ?_)
      rintro e w8 ⟨rfl, b8'⟩
      have b8 := bA8.trans (b8'.mono bA8.size)
      have hrA8 := hrA7.below b8 hrA7.lt
      have hbN8 := hbN7.trans (b8.mono hz7)
      have hz8 : N ≤ w8.heap.size := by have := b8.size; omega
      have hA8 := hrA8.lt
      clear b8' b8 bA8 hq8 hS hrA7 hv7 st7 hbN7
      obtain ⟨nO, hnO⟩ : ∃ nO, w8.heap.size = nO := ⟨_, rfl⟩
      rw [hnO] at hz8 hA8
      go_wp2_with (refine wpList_store_any rfl 31 (.tmp 6) (.tmp 53) rfl nO rfl (Lib.byteCells ou) rfl 31 (Lib.byteCells (List.replicate 32 0)) (Row.new_ hnO.symm zero32b) (info_b32.trans (size_bytes _ _ hol)) (by rw [Lib.byteCells_length, Lib.byteCells_length, hol]; rfl) (cell_oneCell _) ?_)
      intro w9 hrO b9 z9
      try simp only [asz] at b9 z9
      have hrA := b9.row (hrA8.alloc _) (by omega) (by omega)
      have hbN := (hbN8.alloc (by omega) _).trans (b9.under (by omega) (by omega))
      clear b9 z9 hrA8 hbN8 hnO
      go_wp2
      go_loopw [7, 54] (fun _ i wr => ∃ k : Nat, k ≤ 32 ∧ i = .int .i64 (k : Int) ∧ Row wr nA 23 (laneCells px) ∧ Row wr nO 31 (Lib.byteCells ou) ∧ Below N w wr) (fun _ i _ => 32 - (intOf i).toNat)
      case atStart => exact ⟨0, Nat.zero_le _, rfl, hrA, hrO, hbN⟩
      case round =>
        clear hrA hrO hbN
        obtain ⟨k, hk, rfl, hrA, hrO, hbN⟩ := hrel
        by_cases hlk : k < 32
        · have hoy : ou[k]'(by omega) = byteL px k := by
            have e := HSP.out
            subst e
            simp
          have hgo : (Lib.byteCells ou)[k]? = some (.int .u8 ((byteL px k).toNat : Int)) := by rw [byteCells_get ou k (by omega), hoy]
          obtain ⟨p, hp⟩ : ∃ p, p = k / 8 := ⟨_, rfl⟩
          obtain ⟨r, hr8⟩ : ∃ r, r = k % 8 := ⟨_, rfl⟩
          obtain ⟨r8, hrr⟩ : ∃ r', r' = 8 * r := ⟨_, rfl⟩
          have qp : (k : Int).tdiv 8 = (p : Int) := (show (k : Int).tdiv 8 = ((k / 8 : Nat) : Int) from rfl).trans (by rw [hp])
          have qp' : (k : Int) / 8 = (p : Int) := by omega
          have qr : (k : Int).tmod 8 = (r : Int) := (show (k : Int).tmod 8 = ((k % 8 : Nat) : Int) from rfl).trans (by rw [hr8])
          have qr' : (k : Int) % 8 = (r : Int) := by omega
          have qs : (8 : Int) * (r : Int) = (r8 : Int) := by omega
          have wp : IntKind.i64.wrap (p : Int) = (p : Int) := by rw [IntKind.wrap_i64]; omega
          have ws : IntKind.i64.wrap (r8 : Int) = (r8 : Int) := by rw [IntKind.wrap_i64]; omega
          have wu : IntKind.u64.wrap (r8 : Int) = (r8 : Int) := by rw [IntKind.wrap_u64]; omega
          have hp25 : p < 25 := by omega
          have hrb : r8 < 64 := by omega
          have hby : byteL px k = UInt8.ofNat ((lane px p).toNat / 2 ^ r8) := by rw [hrr, hr8, hp]; rfl
          obtain ⟨y, HYE⟩ : ∃ y, Shh (y = byteL px k) := ⟨_, Shh.mk rfl⟩
          have hy : Shh (y = UInt8.ofNat ((lane px p).toNat / 2 ^ r8)) := Shh.mk (HYE.out.trans hby)
          rw [← HYE.out] at hgo
          clear hby hoy HYE hp hr8 hrr
          replace hrA := hrA.drew
          replace hrO := hrO.drew
          replace hbN := hbN.drew
          have hca := (hrA.cell p).trans (laneCells_lane px p (by omega))
          generalize lane px p = x at *
          go_wp2
          refine wp_region_held_drew (S := fun w' => w'.cell? ⟨nO, k, none⟩ = some (.int .u8 (y.toNat : Int)) ∧ w'.cell? ⟨nA, p, none⟩ = some (.int .u64 (x.toNat : Int))) (by kernel_rfl) ⟨(hrO.cell k).trans hgo, hca⟩ (fun hSX => ?_)
          generalize wr.drew = X at *
          refine held_value 0 (Op.move (Operand.tmp 7)) 3 (some 57) (.int .i64 (k : Int)) (by kernel_rfl) (by kernel_rfl) (by kernel_rfl) (fun w hS => by kernel_rfl) (fun _ _ _ _ h => h) hSX ?_
          simp only [Act.put, List.setIfInBounds_toArray, List.set_cons_zero, List.set_cons_succ]
          refine held_value 1 (Op.indexAddr 31 (Operand.tmp 6) (Operand.tmp 57)) 0 (some 58) (.pointer (some ⟨nO, k, none⟩)) (by kernel_rfl) (by kernel_rfl) (by kernel_rfl) (fun w hS => run_index32 nO k hlk rfl (by kernel_rfl) (by kernel_rfl) w) (fun _ _ _ _ h => h) hSX ?_
          simp only [Act.put, List.setIfInBounds_toArray, List.set_cons_zero, List.set_cons_succ]
          refine held_value 2 (Op.load 5 (Operand.tmp 58)) 5 (some 59) (.int .u8 (y.toNat : Int)) (by kernel_rfl) (by kernel_rfl) (by kernel_rfl) (fun w hS => run_load1 rfl Tryd.underlying5 (by kernel_rfl) hS.1) (fun _ _ _ _ h => h) hSX ?_
          simp only [Act.put, List.setIfInBounds_toArray, List.set_cons_zero, List.set_cons_succ]
          refine held_value 3 (Op.move (Operand.tmp 7)) 3 (some 60) (.int .i64 (k : Int)) (by kernel_rfl) (by kernel_rfl) (by kernel_rfl) (fun w hS => by kernel_rfl) (fun _ _ _ _ h => h) hSX ?_
          simp only [Act.put, List.setIfInBounds_toArray, List.set_cons_zero, List.set_cons_succ]
          refine held_value 4 (Op.binOp BinOp.quo 3 (Operand.tmp 60) (Operand.const (Value.int IntKind.i64 8)) 3) 3 (some 61) (.int .i64 (p : Int)) (by kernel_rfl) (by kernel_rfl) (by kernel_rfl) (fun w hS => by go_simp) (fun _ _ _ _ h => h) hSX ?_
          simp only [Act.put, List.setIfInBounds_toArray, List.set_cons_zero, List.set_cons_succ]
          refine held_value 5 (Op.indexAddr 23 (Operand.tmp 4) (Operand.tmp 61)) 0 (some 62) (.pointer (some ⟨nA, p, none⟩)) (by kernel_rfl) (by kernel_rfl) (by kernel_rfl) (fun w hS => run_index25 nA p hp25 rfl (by kernel_rfl) (by kernel_rfl) w) (fun _ _ _ _ h => h) hSX ?_
          simp only [Act.put, List.setIfInBounds_toArray, List.set_cons_zero, List.set_cons_succ]
          refine held_value 6 (Op.load 22 (Operand.tmp 62)) 22 (some 63) (.int .u64 (x.toNat : Int)) (by kernel_rfl) (by kernel_rfl) (by kernel_rfl) (fun w hS => run_load1 rfl Tryd.underlying22 (by kernel_rfl) hS.2) (fun _ _ _ _ h => h) hSX ?_
          simp only [Act.put, List.setIfInBounds_toArray, List.set_cons_zero, List.set_cons_succ]
          refine held_value 7 (Op.move (Operand.tmp 7)) 3 (some 64) (.int .i64 (k : Int)) (by kernel_rfl) (by kernel_rfl) (by kernel_rfl) (fun w hS => by kernel_rfl) (fun _ _ _ _ h => h) hSX ?_
          simp only [Act.put, List.setIfInBounds_toArray, List.set_cons_zero, List.set_cons_succ]
          refine held_value 8 (Op.binOp BinOp.rem 3 (Operand.tmp 64) (Operand.const (Value.int IntKind.i64 8)) 3) 3 (some 65) (.int .i64 (r : Int)) (by kernel_rfl) (by kernel_rfl) (by kernel_rfl) (fun w hS => by go_simp) (fun _ _ _ _ h => h) hSX ?_
          simp only [Act.put, List.setIfInBounds_toArray, List.set_cons_zero, List.set_cons_succ]
          refine held_value 9 (Op.binOp BinOp.mul 3 (Operand.const (Value.int IntKind.i64 8)) (Operand.tmp 65) 3) 3 (some 66) (.int .i64 (r8 : Int)) (by kernel_rfl) (by kernel_rfl) (by kernel_rfl) (fun w hS => by go_simp) (fun _ _ _ _ h => h) hSX ?_
          simp only [Act.put, List.setIfInBounds_toArray, List.set_cons_zero, List.set_cons_succ]
          refine held_value 10 (Op.convert 3 54 (Operand.tmp 66)) 54 (some 67) (.int .u64 (r8 : Int)) (by kernel_rfl) (by kernel_rfl) (by kernel_rfl) (fun w hS => by go_simp) (fun _ _ _ _ h => h) hSX ?_
          simp only [Act.put, List.setIfInBounds_toArray, List.set_cons_zero, List.set_cons_succ]
          refine held_value 11 (Op.binOp BinOp.shr 22 (Operand.tmp 63) (Operand.tmp 67) 54) 22 (some 68) (.int .u64 ((x.toNat / 2 ^ r8 : Nat) : Int)) (by kernel_rfl) (by kernel_rfl) (by kernel_rfl) (fun w hS => run_shrU x r8 hrb rfl (by kernel_rfl) (by kernel_rfl) w) (fun _ _ _ _ h => h) hSX ?_
          simp only [Act.put, List.setIfInBounds_toArray, List.set_cons_zero, List.set_cons_succ]
          refine held_value 12 (Op.convert 22 5 (Operand.tmp 68)) 5 (some 69) (.int .u8 (y.toNat : Int)) (by kernel_rfl) (by kernel_rfl) (by kernel_rfl) (fun w hS => by rw [hy.out]; exact run_convB (x.toNat / 2 ^ r8) rfl (by kernel_rfl) w) (fun _ _ _ _ h => h) hSX ?_
          simp only [Act.put, List.setIfInBounds_toArray, List.set_cons_zero, List.set_cons_succ]
          refine held_value 13 (Op.binOp BinOp.neq 5 (Operand.tmp 59) (Operand.tmp 69) 5) 4 (some 70) (.bool false) (by kernel_rfl) (by kernel_rfl) (by kernel_rfl) (fun w hS => by go_simp) (fun _ _ _ _ h => h) hSX ?_
          simp only [Act.put, List.setIfInBounds_toArray, List.set_cons_zero, List.set_cons_succ]
          refine wpAnyH_done (by kernel_rfl) ?_ _
          clear hSX
          go_wp2
          go_roundw
          case rel => exact ⟨k + 1, by omega, by go_num, hrA, hrO, hbN⟩
          case measure => simp [intOf]; omega
        · go_wp2
          go_ret
          exact ⟨rfl, hbN⟩
end Go.Proofs.YtjondbamnbgiaaaDoor
