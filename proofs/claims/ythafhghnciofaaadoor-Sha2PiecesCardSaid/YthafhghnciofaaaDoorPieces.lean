/-
  WALK: the law Sha2Pieces.
-/
import Derived.Test.YthafhghnciofaaaDoorSumB
import Derived.Test.YthafhghnciofaaaDoorHand
import Derived.Test.YthafhghnciofaaaDoorExp
import Derived.Test.YthafhghnciofaaaDoorOpen
namespace Go.Proofs.YthafhghnciofaaaDoor
open Go.RowKit
set_option maxRecDepth 100000

/-- the values read as the lists, pairwise -/
def Ps (w : World) (B : Nat) (xs : List Value) (pts : List (List UInt8)) : Prop := xs.length = pts.length ∧ ∀ (i : Nat) (u : Value) (p : List UInt8), xs[i]? = some u → pts[i]? = some p → Sl w B u p
theorem Ps.below {w w' : World} {B : Nat} {xs : List Value} {pts : List (List UInt8)} (h : Ps w B xs pts) (hb : Below B w w') : Ps w' B xs pts := ⟨h.1, fun i u p hu hp => (h.2 i u p hu hp).below hb⟩
theorem Ps.snoc {w : World} {B : Nat} {xs : List Value} {pts : List (List UInt8)} {u : Value} {p : List UInt8} (h : Ps w B xs pts) (hs : Sl w B u p) : Ps w B (xs ++ [u]) (pts ++ [p]) := by
  refine ⟨by simp [h.1], fun i u' p' hu hp => ?_⟩
  by_cases hi : i < xs.length
  · rw [List.getElem?_append_left hi] at hu
    rw [List.getElem?_append_left (by rw [← h.1]; exact hi)] at hp
    exact h.2 i u' p' hu hp
  · rw [List.getElem?_append_right (by omega)] at hu
    rw [List.getElem?_append_right (by rw [← h.1]; omega), ← h.1] at hp
    obtain ⟨j, hj⟩ : ∃ j, j = i - xs.length := ⟨_, rfl⟩
    rw [← hj] at hu hp
    match j with
    | 0 => simp at hu hp; subst hu; subst hp; exact hs
    | j + 1 => simp at hu
theorem Ps.parts {w : World} {B base g e : Nat} {v : Value} {xs : List Value} {pts : List (List UInt8)} (h : Ps w B xs pts) (ho : w.ownsRow base e 1 v pts.length xs) (hB : B ≤ g) (hg : g < base) (hBw : B ≤ w.heap.size) : PartsO w w.heap.size g v pts := by
  rcases ho.2 with ⟨rfl, hn⟩ | ⟨q, cap, cur, rfl, hb, hq, hnc, hcm, hsz, hcur⟩
  · exact ⟨none, 0, by rw [hn], fun h => by omega⟩
  · refine ⟨_, cap, rfl, fun hn => ⟨q, 0, rfl, (Array.getElem?_eq_some_iff.1 hq).1, by omega, fun i hi => ?_⟩⟩
    have hc := ho.cellAt i (by omega)
    have hxi : i < xs.length := by rw [h.1]; exact hi
    rw [List.getElem?_eq_getElem hxi] at hc
    have hs := h.2 i xs[i] pts[i] (List.getElem?_eq_getElem hxi) (List.getElem?_eq_getElem hi)
    exact ⟨xs[i], by rw [Nat.zero_add]; exact hc, hs.more hBw, hs.off hB⟩
theorem own_but {w w' : World} {base e n g : Nat} {v : Value} {xs : List Value} (h : w.ownsRow base e 1 v n xs) (hb : But w.heap.size g w w') (hg : g < base) : w'.ownsRow base e 1 v n xs := by
  refine ⟨h.1, ?_⟩
  rcases h.2 with h0 | ⟨q, cap, cur, h1, h2, h3, h4⟩
  · exact .inl h0
  · exact .inr ⟨q, cap, cur, h1, h2, (hb.block q (Array.getElem?_eq_some_iff.1 h3).1 (by omega)).trans h3, h4⟩
theorem info_sl : (Tryd.prog.info? 30).map (fun i => (i.zero, i.size, i.bytes)) = some (some (.slice none 0 0), 1, 24) := by kernel_rfl
theorem info_slp : ∃ i0, Tryd.prog.info? 30 = some i0 ∧ i0.zero = some (.slice none 0 0) ∧ i0.size = 1 ∧ i0.bytes = 24 := by
  have h := info_sl
  cases hi : Tryd.prog.info? 30 with
  | none => rw [hi] at h; cases h
  | some i0 =>
    rw [hi] at h
    simp only [Option.map_some, Option.some.injEq, Prod.mk.injEq] at h
    exact ⟨i0, rfl, h.1, h.2.1, h.2.2⟩
/-- one slice more: the walk has laid it in a new block of one cell -/
theorem wp_appendP {P : Program} {ops : Array Oper} {rest : List Oper} {o : Oper} {a : Act} {Q : Exit → Act → World → Prop} (w : World) (t e : TypeId) (i0 : TypeInfo) (z : Value) (ht : P.underlying t = some (.slice e)) (hi : P.info? e = some i0) (hz : i0.zero = some z) (hsz : i0.size = 1) (hby : i0.bytes = 24) (hzc : z.cells.size = 1)
    (hgd : o.guard = none) (s x : Operand) (ho : o.op = .call { callee := .builtin .append, args := #[s, x], argTypes := #[t, t] })
    {base : Nat} {v : Value} {n : Nat} {xs : List Value} {u : Value} (hown : w.ownsRow base e 1 v n xs) (hs : a.eval s = v) (hx : a.eval x = .slice (some ⟨w.heap.size, 0, none⟩) 1 1)
    (hu : u.oneCell' = true) (hlen : n ≤ 1000) (hbase : base ≤ w.heap.size)
    (h : ∀ v' w', w'.ownsRow base e 1 v' (n + 1) (xs ++ [u]) → (∀ B, B ≤ base → Below B w w') → wpList P ops Q rest (a.put o.dst v') w') :
    wpList P ops Q (o :: rest) a (w.alloc (.cells #[u] e)) := by
  refine wpList_append_own (w.alloc (.cells #[u] e)) hgd s x t ho base e i0 z 1 24 ht hi hz hsz hby hzc (by decide) v n xs hs (hown.alloc _) ⟨w.heap.size, 0, none⟩ 1 1 [u] hx rfl ?_ (by simpa using hu) (by unfold maxLen; omega) (by omega) (by simp; omega) ?_
  · intro j y hj
    match j, hj with
    | 0, hj =>
      simp at hj; subst hj
      rw [addr_add, cell_of_row _ _ _ _ _ _ (heap_alloc_new w _)]
      rfl
    | (j + 1), hj => simp at hj
  · intro v' w' ho' hg _
    refine h v' w' ho' fun B hB => ?_
    exact (((Below.refl B w).alloc (by omega) _).grown hg (by simp; omega) (fun k hk => by have := (hown.lt k hk).1; omega))
theorem run_lh (A : Option Addr) (n c i j : Nat) (hi : i ≤ j) (hj : j ≤ c) (w : World) : (Instr.sliceAt 30 (.slice A n c) (some (.int .i64 (i : Int))) (some (.int .i64 (j : Int))) none).run Tryd.prog w = .ok (sliced A i j c 1) w := by
  rw [run_sliceAt_slice _ _ _ _ _ _ slice30, run_slice_lh w 30 A n c slice30 .i64 .i64 (i : Int) (j : Int) (by omega) (by omega) (by omega), elem30, run_sizeOf_u8, Result.andThen_ok, Int.toNat_natCast, Int.toNat_natCast]
theorem run_lo (A : Option Addr) (n c i : Nat) (hi : i ≤ n) (w : World) : (Instr.sliceAt 30 (.slice A n c) (some (.int .i64 (i : Int))) none none).run Tryd.prog w = .ok (sliced A i n c 1) w := by
  rw [run_sliceAt_slice _ _ _ _ _ _ slice30, run_slice_l w 30 A n c slice30 .i64 (i : Int) (by omega) (by omega), elem30, run_sizeOf_u8, Result.andThen_ok, Int.toNat_natCast]
theorem slice53 : Tryd.prog.underlying 53 = some (.slice (Tryd.prog.elem 53)) := by kernel_rfl
theorem elem53 : Tryd.prog.elem 53 = 54 := by kernel_rfl
theorem run_sizeOf_u16 (w : World) : (sizeOf 54).run Tryd.prog w = .ok 1 w := by simp [go_sem]
theorem run_hi16 (A : Option Addr) (n c j : Nat) (hj : j ≤ c) (w : World) : (Instr.sliceAt 53 (.slice A n c) none (some (.int .i64 (j : Int))) none).run Tryd.prog w = .ok (.slice A j c) w := by
  rw [run_sliceAt_slice _ _ _ _ _ _ slice53, run_slice_h w 53 A n c slice53 .i64 (j : Int) (by omega) (by omega), elem53, run_sizeOf_u16, Result.andThen_ok, Int.toNat_natCast]
  unfold sliced
  cases A with
  | none => by_cases h : c = 0 <;> simp [h]
  | some a => by_cases h : c = 0 <;> simp [h, Addr.add]
theorem wf_u16 {z : Int} (h : (Lit.int .u16 z).wf = true) : 0 ≤ z ∧ z ≤ 65535 := by simpa [Lit.wf, IntKind.min, IntKind.max, IntKind.signed, IntKind.bits] using h
theorem take_drop_more (m : List UInt8) (a n : Nat) : m.take a ++ (m.take (a + n)).drop a = m.take (a + n) := by
  conv => rhs; rw [← List.take_append_drop a (m.take (a + n))]
  rw [List.take_take, Nat.min_eq_left (by omega)]

set_option maxHeartbeats 800000 in
theorem pieces_walk (vt vc : Value) (m : List UInt8) (zs : List Int) (w : World) (hm : Sl w w.heap.size vt m) (hc : Sli .u16 w w.heap.size vc zs) (hnz : zs.length ≤ 9223372036854775807) (hzw : ∀ z ∈ zs, (Lit.int .u16 z).wf = true) (hv : Vars w) :
    Calls Tryd.prog 7 #[vt, vc] w (TrueIs w) := by
  unfold TrueIs
  obtain ⟨A, c, rfl, hmc, _⟩ := hm.form
  have HM0 := Lib.hid hm
  obtain ⟨Az, cz, rfl, hzc, hcc⟩ := hc
  have HC0 := Lib.hid (show Sli .u16 w w.heap.size (.slice Az zs.length cz) zs from ⟨Az, cz, rfl, hzc, hcc⟩)
  have HZW := Lib.hid hzw
  clear hcc hzw
  obtain ⟨i0, hi, hz0, hz1, hz2⟩ := info_slp
  have hal : ∀ (X : World) o, Below X.heap.size X (X.alloc o) := fun X o => Below.alloc (Below.refl _ _) (Nat.le_refl _) o
  generalize hn0 : w.heap.size = n0 at *
  go_enter Tryd.func7, Tryd.ntmps7
  go_wp2_with (go_at_call 11; refine (live_any _ hv).mono ?_)
  rintro e w1 ⟨rfl, b1⟩
  rw [hn0] at b1
  have hv1 := hv.step (by rw [hn0]; exact b1)
  have hm1 := hm.below b1
  have hs1 := b1.size
  rw [hn0] at hs1
  have hpk : ∀ T, PartsO (w1.alloc (.cells #[.slice A m.length c] T)) (w1.heap.size + 1) (w1.heap.size + 1) (.slice (some ⟨w1.heap.size, 0, none⟩) 1 1) [m] := fun T =>
    PartsO.solo (Row.new_ rfl rfl) (Nat.lt_succ_self _) (by omega) ((hm1.below ((hal w1 _).mono hs1)).more (by omega)) (hm1.off (by omega))
  go_wp2_with (go_at_call 14; refine (few_any _ _ _ [m] _ (hpk _) (by simp)).mono ?_)
  rintro e w2 ⟨rfl, hw2⟩
  have hb2 : Below n0 w w2 := by rw [hw2]; exact b1.trans ((hal w1 _).mono hs1)
  have hv2 : Vars w2 := by rw [hw2]; exact hv1.step (hal _ _)
  have hm2 : Sl w2 n0 (.slice A m.length c) m := by rw [hw2]; exact hm1.below ((hal _ _).mono hs1)
  have hs2 : n0 ≤ w2.heap.size := by rw [hw2, asz]; omega
  clear hw2 hpk hv1 hm1 b1 hm hv hs1
  cases hf : fewB [m] with
  | false =>
    go_wp2_with (go_at_call 11; refine (live_any _ hv2).mono ?_)
    rintro e w3 ⟨rfl, b3⟩
    go_wp2
    go_ret
    exact ⟨rfl, hb2.trans (b3.mono hs2)⟩
  | true =>
    have hml : m.length ≤ 3000 := (few_yes hf).1 m (by simp)
    clear hf
    have hS := sum256_any [m] (w2.heap.size + 1) (.slice (some ⟨w2.heap.size, 0, none⟩) 1 1) (w2.alloc (.cells #[.slice A m.length c] 30)) (PartsO.solo (Row.new_ rfl rfl) (Nat.lt_succ_self _) (by rw [asz]; omega) ((hm2.below ((hal w2 _).mono hs2)).more (by omega)) (hm2.off (by rw [asz]; omega))) (by rw [asz]; exact Nat.le_refl _) (hv2.step (hal _ _)) (by rw [flat_one]; omega) (by simp)
    rw [flat_one] at hS
    obtain ⟨sm, HSM⟩ : ∃ sm, Hid (sm = sha m) := ⟨_, Lib.hid rfl⟩
    have hsl : sm.length = 32 := by rw [HSM.out]; exact sha_length _
    rw [← HSM.out] at hS
    have HSL := Lib.hid hsl
    go_wp2_with (go_at_call 17; refine hS.mono ?_)
    rintro e w3 ⟨rfl, b3'⟩
    have b3 := (hal w2 _).trans (b3'.mono (by rw [asz]; omega))
    have hb3 := hb2.trans (b3.mono hs2)
    have hv3 := hv2.step b3
    have hm3 := hm2.below (b3.mono hs2)
    have hs3 : n0 ≤ w3.heap.size := by have := b3.size; omega
    clear b3 b3' hb2 hv2 hm2 hS
    have hi33 : (Tryd.prog.info? 33).map (·.size) = some (Lib.byteCells sm).length := info_b32.trans (size_bytes _ _ hsl)
    go_wp2_with (refine wpList_store_any rfl 33 (.tmp 5) (.tmp 23) rfl w3.heap.size rfl (Lib.byteCells sm) rfl 33 (Lib.byteCells (List.replicate 32 0)) (Row.new_ rfl zero32b) hi33 (by rw [Lib.byteCells_length, Lib.byteCells_length, hsl]; rfl) (cell_oneCell _) ?_)
    intro w4 hr4 bt zt
    try simp only [asz] at bt zt
    have b4 : Below w3.heap.size w3 w4 := (hal _ _).trans (bt.under (Nat.le_succ _) (Nat.le_refl _))
    have hb4 := hb3.trans (b4.mono hs3)
    have hv4 := hv3.step b4
    have hm4 := hm3.below (b4.mono hs3)
    have h54 : w3.heap.size < w4.heap.size := by omega
    clear zt bt b4 hb3 hv3 hm3 hsl
    generalize hn5 : w3.heap.size = n5 at *
    clear hn5
    go_wp2_with (go_at_call 20; refine (new_any _ hv4).mono ?_)
    rintro e w5 ⟨g, rfl, hg, hh5, b5⟩
    have hr5 := hr4.below b5 hr4.lt
    have hb5 := hb4.trans (b5.mono (by omega))
    have hv5 := hv4.step b5
    have hm5 := hm4.below (b5.mono (by omega))
    have hgl := hh5.lt
    have h5g : n5 < g := by omega
    clear hg b5 hr4 hb4 hv4 hm4
    obtain ⟨base, hbase⟩ : ∃ base, base = w5.heap.size := ⟨_, rfl⟩
    rw [← hbase] at hgl
    have hbs : base ≤ w5.heap.size := by omega
    clear hbase
    obtain ⟨q, hq⟩ : ∃ q, q = min zs.length 40 := ⟨_, rfl⟩
    have hq3 : (if (40 : Int) < (zs.length : Int) then (40 : Int) else (zs.length : Int)) = (q : Int) := by split <;> omega
    have hq4 : (if (zs.length : Int) < 40 then (zs.length : Int) else (40 : Int)) = (q : Int) := by split <;> omega
    have hq40 : q ≤ 40 := by omega
    have hqz : q ≤ zs.length := by omega
    have hrq := run_hi16 Az zs.length cz q (by omega)
    clear hq
    go_wp2
    clear hq3 hq4 hrq
    go_loopw [7, 8, 10, 11, 33] (fun ps ta _ _ i wr => ∃ (k a : Nat) (xs : List Value) (pts : List (List UInt8)) (Ap : Option Addr) (lp cp : Nat), k ≤ q ∧ i = .int .i64 k ∧ ta = .int .i64 a ∧ a ≤ m.length ∧ ps = .slice Ap lp cp ∧ Hid (lp = pts.length) ∧ lp ≤ k ∧ Hid (pts.flatten = m.take a) ∧ Hid (wr.ownsRow base 30 1 (.slice Ap lp cp) lp xs) ∧ Hid (Ps wr n0 xs pts) ∧ HashAt wr g (m.take a) ∧ Row wr n5 33 (Lib.byteCells sm) ∧ Vars wr ∧ Below n0 w wr ∧ base ≤ wr.heap.size) (fun _ _ _ _ i _ => q - (intOf i).toNat)
    case atStart =>
      exact ⟨0, 0, [], [], _, 0, 0, Nat.zero_le _, rfl, rfl, Nat.zero_le _, rfl, Lib.hid rfl, Nat.le_refl _, Lib.hid (by simp), Lib.hid (World.ownsRow_nil _ _ _ _), Lib.hid ⟨rfl, fun i u p h => by simp at h⟩, by rw [List.take_zero]; exact hh5, hr5, hv5, hb5, hbs⟩
    case round =>
      clear hh5 hr5 hv5 hb5 hbs hm5
      obtain ⟨k, a, xs, pts, Ap, lp, cp, hk, rfl, rfl, ha, rfl, HLP, hlp, HF, HO, HP, hh, hr, hv, hb, hbs⟩ := hrel
      have hmr : Sl wr n0 (.slice A m.length c) m := HM0.out.below hb
      have h0b : 0 < base := by have := hh.1; omega
      by_cases hlt : k < q
      · have hcr : Sli .u16 wr n0 (.slice Az zs.length cz) zs := HC0.out.below hb
        obtain ⟨_, _, hvz, _, hcz⟩ := hcr
        cases hvz
        obtain ⟨bz, oz, rfl, _, hcell⟩ := hcz (by omega)
        have hck := hcell k (by omega)
        have hzr := wf_u16 (HZW.out zs[k] (List.getElem_mem _))
        obtain ⟨zz, hzz⟩ := Int.eq_ofNat_of_zero_le hzr.1
        rw [hzz] at hck hzr
        clear hcell hcz hzz
        obtain ⟨d, hd⟩ : ∃ d, d = m.length - a := ⟨_, rfl⟩
        obtain ⟨r, hrr⟩ : ∃ r, r = d + 1 := ⟨_, rfl⟩
        obtain ⟨nn, hnn⟩ : ∃ nn, nn = zz % r := ⟨_, rfl⟩
        obtain ⟨e2, he2⟩ : ∃ e2, e2 = a + nn := ⟨_, rfl⟩
        have hnr : nn < r := by rw [hnn]; exact Nat.mod_lt _ (by omega)
        have q1 : (m.length : Int) - (a : Int) = (d : Int) := by omega
        have q2 : (d : Int) + 1 = (r : Int) := by omega
        have q3 : (zz : Int).tmod (r : Int) = (nn : Int) := (show (zz : Int).tmod (r : Int) = ((zz % r : Nat) : Int) from rfl).trans (by rw [hnn])
        have q4 : (zz : Int) % (r : Int) = (nn : Int) := by rw [hnn]; rfl
        have q5 : IntKind.i64.wrap (zz : Int) = (zz : Int) := by rw [IntKind.wrap_i64]; omega
        have q6 : (a : Int) + (nn : Int) = (e2 : Int) := by omega
        have hr0 : ¬ r = 0 := by omega
        have he2m : e2 ≤ m.length := by omega
        have hae : a ≤ e2 := by omega
        have hrc := run_lh A m.length c a e2 hae (by omega)
        have hcut := hmr.cut a e2 hae he2m (by omega)
        obtain ⟨p, HPe⟩ : ∃ p, Hid (p = (m.take e2).drop a) := ⟨_, Lib.hid rfl⟩
        have HTE : Hid (m.take a ++ p = m.take e2) := Lib.hid (by rw [HPe.out, he2]; exact take_drop_more m a nn)
        rw [← HPe.out] at hcut
        have hpl : p.length ≤ 3000 := by rw [HPe.out]; simp; omega
        have hmal : (m.take a).length ≤ 3000 := by simp; omega
        generalize sliced A a e2 c 1 = vx at *
        obtain ⟨Ax, cx, rfl, _, _⟩ := hcut.form
        clear hd hrr hnn he2 hnr HPe
        generalize hta : m.take a = ta at *
        have hO := HO.out
        go_wp2_with (at_builtin; refine wp_appendP _ 28 30 i0 (.slice none 0 0) Tryd.underlying28 hi hz0 hz1 hz2 rfl rfl _ _ rfl hO rfl rfl rfl (by omega) hbs ?_)
        intro v' w6 ho6 b6
        have hh6 := hh.below (b6 base (Nat.le_refl _)) hgl
        have hr6 := hr.below (b6 base (Nat.le_refl _)) (by omega)
        have hv6 : Vars w6 := fun k hk => ((b6 base (Nat.le_refl _)).cell (p := ⟨0, k, none⟩) h0b).trans (hv k hk)
        have hP6 := (HP.out.snoc hcut).below (b6 n0 (by omega))
        have hx6 := hcut.below (b6 n0 (by omega))
        have hb6 := hb.trans (b6 n0 (by omega))
        have hbs6 : base ≤ w6.heap.size := by have := (b6 base (Nat.le_refl _)).size; omega
        obtain ⟨A', c', rfl⟩ := own_form ho6
        clear hh hr hv hb hcut b6 hO HO HP hck hmr hbs
        go_wp2_with (go_at_call 21; refine (write_any g ta [p] (w6.heap.size + 1) _ _ (hh6.step (hal w6 _)) (PartsO.solo (Row.new_ rfl rfl) (Nat.lt_succ_self _) (by omega) ((hx6.below ((hal w6 _).mono (by omega))).more (by omega)) (hx6.off (by omega))) (by rw [asz]; exact Nat.le_refl _) (hv6.step (hal w6 _)) (by rw [flat_one]; omega) (by simp)).mono ?_)
        rintro e w7 ⟨rfl, hh7, b7'⟩
        rw [flat_one, HTE.out] at hh7
        have b7 : But w6.heap.size g w6 w7 := (But.of (hal w6 _) g).trans (b7'.mono (by rw [asz]; omega))
        have ho7 := Lib.hid (own_but ho6 b7 hgl)
        have hr7 := b7.row hr6 hr6.lt (by omega)
        have hv7 := hv6.but b7 hh6.1
        have b7n : Below n0 w6 w7 := b7.under (by omega) (by omega)
        have hP7 := Lib.hid (hP6.below b7n)
        have hb7 := hb6.trans b7n
        have hbs7 : base ≤ w7.heap.size := by have := b7.size; omega
        have HF7 : Hid ((pts ++ [p]).flatten = m.take e2) := Lib.hid (by rw [← HTE.out, List.flatten_append, HF.out]; simp)
        have HL7 : Hid (lp + 1 = (pts ++ [p]).length) := Lib.hid (by rw [List.length_append, ← HLP.out]; rfl)
        clear b7 b7' b7n hh6 hr6 hv6 hP6 hx6 hb6 ho6 hbs6
        go_wp2
        go_roundw
        case rel => exact ⟨k + 1, e2, _, pts ++ [p], A', lp + 1, c', by omega, by go_num, rfl, he2m, rfl, HL7, by omega, HF7, ho7, hP7, hh7, hr7, hv7, hb7, hbs7⟩
        case measure => simp [intOf]; omega
      · have hrc := run_lo A m.length c a ha
        have hcut := hmr.cut a m.length ha (Nat.le_refl _) (by omega)
        rw [List.take_length] at hcut
        obtain ⟨p, HPe⟩ : ∃ p, Hid (p = m.drop a) := ⟨_, Lib.hid rfl⟩
        have HTE : Hid (m.take a ++ p = m) := Lib.hid (by rw [HPe.out]; exact List.take_append_drop a m)
        rw [← HPe.out] at hcut
        have hpl : p.length ≤ 3000 := by rw [HPe.out]; simp; omega
        have hmal : (m.take a).length ≤ 3000 := by simp; omega
        generalize sliced A a m.length c 1 = vx at *
        obtain ⟨Ax, cx, rfl, _, _⟩ := hcut.form
        clear HPe
        generalize hta : m.take a = ta at *
        have hO := HO.out
        go_wp2_with (at_builtin; refine wp_appendP _ 28 30 i0 (.slice none 0 0) Tryd.underlying28 hi hz0 hz1 hz2 rfl rfl _ _ rfl hO rfl rfl rfl (by omega) hbs ?_)
        intro v' w6 ho6 b6
        have hh6 := (hh.below (b6 base (Nat.le_refl _)) hgl).drew
        have hr6 := (hr.below (b6 base (Nat.le_refl _)) (by omega)).drew
        have hv6 : Vars w6.drew := fun k hk => ((b6 base (Nat.le_refl _)).cell (p := ⟨0, k, none⟩) h0b).trans (hv k hk)
        have hP6 : Ps w6.drew n0 _ _ := (HP.out.snoc hcut).below ((b6 n0 (by omega)).drew)
        have hx6 := (hcut.below (b6 n0 (by omega))).drew
        have hb6 := (hb.trans (b6 n0 (by omega))).drew
        have hbs6 : base ≤ w6.drew.heap.size := by have := (b6 base (Nat.le_refl _)).size; show base ≤ w6.heap.size; omega
        obtain ⟨A', c', rfl⟩ := own_form ho6
        have ho6' := World.ownsRow.drew ho6
        clear hh hr hv hb hcut b6 hO HO HP hmr hbs ho6
        have heq := eq32 sm sm HSL.out HSL.out
        have hbb : (sm == sm) = true := by simp
        rw [hbb] at heq
        have HF7 : Hid ((pts ++ [p]).flatten = m) := Lib.hid (by rw [List.flatten_append, HF.out]; simp; exact HTE.out)
        have HL7 : Hid (lp + 1 = (pts ++ [p]).length) := Lib.hid (by rw [List.length_append, ← HLP.out]; rfl)
        clear hbb
        go_wp2
        refine wp_region_held_drew (S := fun w' => w'.rangeAt n5 0 (Lib.byteCells sm)) (by kernel_rfl) hr6.range (fun hS => ?_)
        generalize w6.drew = W at *
        refine held_value 0 _ _ (some 74) (.pointer (some ⟨g, 0, none⟩)) (by kernel_rfl) (by rfl) (by kernel_rfl) (fun w _ => by first | kernel_rfl | go_simp) (fun _ _ _ _ h => h) hr6.range ?_
        refine held_value 1 _ _ (some 75) (.slice A m.length c) (by kernel_rfl) (by rfl) (by kernel_rfl) (fun w _ => by first | kernel_rfl | go_simp) (fun _ _ _ _ h => h) hr6.range ?_
        refine held_value 2 _ _ (some 76) (.int .i64 (a : Int)) (by kernel_rfl) (by rfl) (by kernel_rfl) (fun w _ => by first | kernel_rfl | go_simp) (fun _ _ _ _ h => h) hr6.range ?_
        simp only [Act.put, List.setIfInBounds_toArray, List.set_cons_zero, List.set_cons_succ]
        refine held_value 3 (.slice 30 (.tmp 75) (some (.tmp 76)) none none) 30 (some 77) (.slice Ax p.length cx) (by kernel_rfl) (by rfl) (by kernel_rfl) (fun w _ => run_slice_op_lo (u := .slice A m.length c) (h := .int .i64 (a : Int)) ⟨by kernel_rfl, by kernel_rfl⟩ (hrc w)) (fun _ _ _ _ h => h) hr6.range ?_
        simp only [Act.put, List.setIfInBounds_toArray, List.set_cons_zero, List.set_cons_succ]
        refine held_one 4 (by kernel_rfl) ?_
        have bx : Below W.heap.size W (W.alloc (.cells #[.slice Ax p.length cx] 30)) := hal W _
        refine step_value 4 _ _ (some 78) (.slice (some ⟨W.heap.size, 0, none⟩) 1 1) (W.alloc (.cells #[.slice Ax p.length cx] 30)) (by rfl) (by kernel_rfl) (by first | kernel_rfl | go_simp) (hr6.below bx hr6.lt).range ?_
        simp only [Act.put, List.setIfInBounds_toArray, List.set_cons_zero, List.set_cons_succ]
        have rP : Row (W.alloc (.cells #[.slice Ax p.length cx] 30)) W.heap.size _ _ := Row.new_ rfl rfl
        have zP := asz W (.cells #[.slice Ax p.length cx] 30)
        have hh7 := hh6.step bx
        have hr7 := hr6.below bx hr6.lt
        have hv7 := hv6.step bx
        have hP7 := hP6.below (bx.mono (by omega))
        have hx7 := hx6.below (bx.mono (by omega))
        have hb7 := hb6.trans (bx.mono (by omega))
        have ho7 := own_but ho6' (But.of bx g) hgl
        have hNP : W.heap.size < (W.alloc (.cells #[.slice Ax p.length cx] 30)).heap.size := by omega
        clear hh6 hr6 hv6 hP6 hx6 hb6 ho6'
        generalize W.alloc (.cells #[.slice Ax p.length cx] 30) = X at *
        clear zP bx
        generalize hbP' : W.heap.size = bP at *
        refine held_call 5 _ _ (some 79) 21 #[.pointer (some ⟨g, 0, none⟩), .slice (some ⟨bP, 0, none⟩) 1 1] (by kernel_rfl) (by rfl) (by kernel_rfl) (by kernel_rfl) ?_
        refine (write_any g ta [p] X.heap.size _ X hh7 (PartsO.solo rP rP.lt (by omega) (hx7.more (by omega)) (hx7.off (by omega))) (Nat.le_refl _) hv7 (by rw [flat_one]; omega) (by simp)).mono ?_
        rintro e Y ⟨rfl, hh8, bY⟩
        rw [flat_one, HTE.out] at hh8
        have hr8 := bY.row hr7 hr7.lt (by omega)
        have hv8 := hv7.but bY hh7.1
        have bYn : Below n0 X Y := bY.under (by omega) (by omega)
        have hP8 := hP7.below bYn
        have hb8 := hb7.trans bYn
        have ho8 := own_but ho7 bY hgl
        have hbs8 : base ≤ Y.heap.size := by have := bY.size; omega
        clear hh7 hr7 hv7 hP7 hx7 hb7 ho7 bY bYn rP
        refine ⟨_, rfl, hr8.range, ?_⟩
        simp only [Act.put, List.setIfInBounds_toArray, List.set_cons_zero, List.set_cons_succ]
        refine held_value 6 _ _ (some 80) (.bool true) (by kernel_rfl) (by rfl) (by kernel_rfl) (fun w _ => by first | kernel_rfl | go_simp) (fun _ _ _ _ h => h) hr8.range ?_
        simp only [Act.put, List.setIfInBounds_toArray, List.set_cons_zero, List.set_cons_succ]
        refine held_value 7 _ _ (some 81) (.bool true) (by kernel_rfl) (by rfl) (by kernel_rfl) (fun w _ => by first | kernel_rfl | go_simp) (fun _ _ _ _ h => h) hr8.range ?_
        simp only [Act.put, List.setIfInBounds_toArray, List.set_cons_zero, List.set_cons_succ]
        refine held_value 8 _ _ (some 82) (.pointer (some ⟨g, 0, none⟩)) (by kernel_rfl) (by rfl) (by kernel_rfl) (fun w _ => by first | kernel_rfl | go_simp) (fun _ _ _ _ h => h) hr8.range ?_
        simp only [Act.put, List.setIfInBounds_toArray, List.set_cons_zero, List.set_cons_succ]
        refine held_load 10 33 (.tmp 5) (some 84) (by kernel_rfl) (by rfl) (by kernel_rfl) n5 0 (by kernel_rfl) (Lib.byteCells sm) (.array 32 5) (fun w h => h) Tryd.underlying33 rfl hi33 (fun _ _ _ _ h => h) hr8.range ?_
        simp only [Act.put, List.setIfInBounds_toArray, List.set_cons_zero, List.set_cons_succ]
        refine held_call 9 _ _ (some 83) 23 #[.pointer (some ⟨g, 0, none⟩)] (by kernel_rfl) (by rfl) (by kernel_rfl) (by kernel_rfl) ?_
        refine (sum_any g m Y hh8 hv8 (by omega)).mono ?_
        rintro e Z0 ⟨rfl, bz⟩
        rw [← HSM.out]
        have z8 := bz.size
        have hh8 := hh8.step bz
        have hr8 := hr8.below bz hr8.lt
        have hv8 := hv8.step bz
        have hP8 := hP8.below (bz.mono (by omega))
        have hb8 := hb8.trans (bz.mono (by omega))
        have ho8 := own_but ho8 (But.of bz g) hgl
        have hbs8 : base ≤ Z0.heap.size := by omega
        clear bz
        refine ⟨_, rfl, hr8.range, ?_⟩
        simp only [Act.put, List.setIfInBounds_toArray, List.set_cons_zero, List.set_cons_succ]
        refine held_value 11 (.binOp .eql 33 (.tmp 83) (.tmp 84) 33) 4 (some 85) (.bool true) (by kernel_rfl) (by rfl) (by kernel_rfl) (fun w _ => run_eql_agg (P := Tryd.prog) (p := (Lib.byteCells sm).toArray) (q := (Lib.byteCells sm).toArray) (by kernel_rfl) (heq w) (by kernel_rfl) (by kernel_rfl)) (fun _ _ _ _ h => h) hr8.range ?_
        simp only [Act.put, List.setIfInBounds_toArray, List.set_cons_zero, List.set_cons_succ]
        refine held_value 12 _ _ (some 86) (.bool true) (by kernel_rfl) (by rfl) (by kernel_rfl) (fun w _ => by first | kernel_rfl | go_simp) (fun _ _ _ _ h => h) hr8.range ?_
        simp only [Act.put, List.setIfInBounds_toArray, List.set_cons_zero, List.set_cons_succ]
        refine held_value 13 _ _ (some 87) (.bool true) (by kernel_rfl) (by rfl) (by kernel_rfl) (fun w _ => by first | kernel_rfl | go_simp) (fun _ _ _ _ h => h) hr8.range ?_
        simp only [Act.put, List.setIfInBounds_toArray, List.set_cons_zero, List.set_cons_succ]
        refine held_value 14 _ _ (some 88) (.pointer (some ⟨g, 0, none⟩)) (by kernel_rfl) (by rfl) (by kernel_rfl) (fun w _ => by first | kernel_rfl | go_simp) (fun _ _ _ _ h => h) hr8.range ?_
        simp only [Act.put, List.setIfInBounds_toArray, List.set_cons_zero, List.set_cons_succ]
        refine held_load 16 33 (.tmp 5) (some 90) (by kernel_rfl) (by rfl) (by kernel_rfl) n5 0 (by kernel_rfl) (Lib.byteCells sm) (.array 32 5) (fun w h => h) Tryd.underlying33 rfl hi33 (fun _ _ _ _ h => h) hr8.range ?_
        simp only [Act.put, List.setIfInBounds_toArray, List.set_cons_zero, List.set_cons_succ]
        refine held_call 15 _ _ (some 89) 23 #[.pointer (some ⟨g, 0, none⟩)] (by kernel_rfl) (by rfl) (by kernel_rfl) (by kernel_rfl) ?_
        refine (sum_any g m Z0 hh8 hv8 (by omega)).mono ?_
        rintro e Z1 ⟨rfl, bz⟩
        rw [← HSM.out]
        have z8 := bz.size
        have hh8 := hh8.step bz
        have hr8 := hr8.below bz hr8.lt
        have hv8 := hv8.step bz
        have hP8 := hP8.below (bz.mono (by omega))
        have hb8 := hb8.trans (bz.mono (by omega))
        have ho8 := own_but ho8 (But.of bz g) hgl
        have hbs8 : base ≤ Z1.heap.size := by omega
        clear bz
        refine ⟨_, rfl, hr8.range, ?_⟩
        simp only [Act.put, List.setIfInBounds_toArray, List.set_cons_zero, List.set_cons_succ]
        refine held_value 17 (.binOp .eql 33 (.tmp 89) (.tmp 90) 33) 4 (some 91) (.bool true) (by kernel_rfl) (by rfl) (by kernel_rfl) (fun w _ => run_eql_agg (P := Tryd.prog) (p := (Lib.byteCells sm).toArray) (q := (Lib.byteCells sm).toArray) (by kernel_rfl) (heq w) (by kernel_rfl) (by kernel_rfl)) (fun _ _ _ _ h => h) hr8.range ?_
        simp only [Act.put, List.setIfInBounds_toArray, List.set_cons_zero, List.set_cons_succ]
        refine held_value 18 _ _ (some 92) (.bool true) (by kernel_rfl) (by rfl) (by kernel_rfl) (fun w _ => by first | kernel_rfl | go_simp) (fun _ _ _ _ h => h) hr8.range ?_
        simp only [Act.put, List.setIfInBounds_toArray, List.set_cons_zero, List.set_cons_succ]
        refine held_value 19 _ _ (some 93) (.bool true) (by kernel_rfl) (by rfl) (by kernel_rfl) (fun w _ => by first | kernel_rfl | go_simp) (fun _ _ _ _ h => h) hr8.range ?_
        simp only [Act.put, List.setIfInBounds_toArray, List.set_cons_zero, List.set_cons_succ]
        refine held_value 20 _ _ (some 94) (.slice A' (lp + 1) c') (by kernel_rfl) (by rfl) (by kernel_rfl) (fun w _ => by first | kernel_rfl | go_simp) (fun _ _ _ _ h => h) hr8.range ?_
        simp only [Act.put, List.setIfInBounds_toArray, List.set_cons_zero, List.set_cons_succ]
        refine held_load 22 33 (.tmp 5) (some 96) (by kernel_rfl) (by rfl) (by kernel_rfl) n5 0 (by kernel_rfl) (Lib.byteCells sm) (.array 32 5) (fun w h => h) Tryd.underlying33 rfl hi33 (fun _ _ _ _ h => h) hr8.range ?_
        simp only [Act.put, List.setIfInBounds_toArray, List.set_cons_zero, List.set_cons_succ]
        have hS2 := sum256_any (pts ++ [p]) Z1.heap.size (.slice A' (lp + 1) c') Z1 ((Ps.parts hP8 (by rw [← HL7.out]; exact ho8) (show n0 ≤ g by omega) hgl (by omega)).moved (Nat.le_refl _)) (Nat.le_refl _) hv8 (by rw [HF7.out]; omega) (by rw [← HL7.out]; omega)
        rw [HF7.out, ← HSM.out] at hS2
        refine held_call 21 _ _ (some 95) 17 #[.slice A' (lp + 1) c'] (by kernel_rfl) (by rfl) (by kernel_rfl) (by kernel_rfl) ?_
        refine hS2.mono ?_
        rintro e V ⟨rfl, bz⟩
        have z8 := bz.size
        have hh8 := hh8.step bz
        have hr8 := hr8.below bz hr8.lt
        have hv8 := hv8.step bz
        have hP8 := hP8.below (bz.mono (by omega))
        have hb8 := hb8.trans (bz.mono (by omega))
        have ho8 := own_but ho8 (But.of bz g) hgl
        refine ⟨_, rfl, hr8.range, ?_⟩
        simp only [Act.put, List.setIfInBounds_toArray, List.set_cons_zero, List.set_cons_succ]
        refine held_value 23 (.binOp .eql 33 (.tmp 95) (.tmp 96) 33) 4 (some 97) (.bool true) (by kernel_rfl) (by rfl) (by kernel_rfl) (fun w _ => run_eql_agg (P := Tryd.prog) (p := (Lib.byteCells sm).toArray) (q := (Lib.byteCells sm).toArray) (by kernel_rfl) (heq w) (by kernel_rfl) (by kernel_rfl)) (fun _ _ _ _ h => h) hr8.range ?_
        simp only [Act.put, List.setIfInBounds_toArray, List.set_cons_zero, List.set_cons_succ]
        refine held_value 24 _ _ (some 98) (.bool true) (by kernel_rfl) (by rfl) (by kernel_rfl) (fun w _ => by first | kernel_rfl | go_simp) (fun _ _ _ _ h => h) hr8.range ?_
        simp only [Act.put, List.setIfInBounds_toArray, List.set_cons_zero, List.set_cons_succ]
        refine held_value 25 _ _ (some 99) (.bool true) (by kernel_rfl) (by rfl) (by kernel_rfl) (fun w _ => by first | kernel_rfl | go_simp) (fun _ _ _ _ h => h) hr8.range ?_
        simp only [Act.put, List.setIfInBounds_toArray, List.set_cons_zero, List.set_cons_succ]
        refine held_value 26 _ _ (some 100) (.pointer (some ⟨g, 0, none⟩)) (by kernel_rfl) (by rfl) (by kernel_rfl) (fun w _ => by first | kernel_rfl | go_simp) (fun _ _ _ _ h => h) hr8.range ?_
        refine held_value 28 _ _ (some 102) (.slice A m.length c) (by kernel_rfl) (by rfl) (by kernel_rfl) (fun w _ => by first | kernel_rfl | go_simp) (fun _ _ _ _ h => h) hr8.range ?_
        simp only [Act.put, List.setIfInBounds_toArray, List.set_cons_zero, List.set_cons_succ]
        refine held_value 29 _ _ (some 103) (.int .i64 (m.length : Int)) (by kernel_rfl) (by rfl) (by kernel_rfl) (fun w _ => by first | kernel_rfl | go_simp) (fun _ _ _ _ h => h) hr8.range ?_
        simp only [Act.put, List.setIfInBounds_toArray, List.set_cons_zero, List.set_cons_succ]
        refine held_call 27 _ _ (some 101) 24 #[.pointer (some ⟨g, 0, none⟩)] (by kernel_rfl) (by rfl) (by kernel_rfl) (by kernel_rfl) ?_
        refine (len_any g m V hh8).mono ?_
        rintro e V2 ⟨rfl, rfl⟩
        refine ⟨_, rfl, hr8.range, ?_⟩
        simp only [Act.put, List.setIfInBounds_toArray, List.set_cons_zero, List.set_cons_succ]
        refine held_value 30 _ _ (some 104) (.bool true) (by kernel_rfl) (by rfl) (by kernel_rfl) (fun w _ => by go_simp) (fun _ _ _ _ h => h) hr8.range ?_
        simp only [Act.put, List.setIfInBounds_toArray, List.set_cons_zero, List.set_cons_succ]
        refine held_value 31 _ _ (some 105) (.bool true) (by kernel_rfl) (by rfl) (by kernel_rfl) (fun w _ => by first | kernel_rfl | go_simp) (fun _ _ _ _ h => h) hr8.range ?_
        simp only [Act.put, List.setIfInBounds_toArray, List.set_cons_zero, List.set_cons_succ]
        refine held_value 32 _ _ (some 4) (.bool true) (by kernel_rfl) (by rfl) (by kernel_rfl) (fun w _ => by first | kernel_rfl | go_simp) (fun _ _ _ _ h => h) hr8.range ?_
        refine wpAnyH_done (by kernel_rfl) ?_ _
        simp only [Act.put, List.setIfInBounds_toArray, List.set_cons_zero, List.set_cons_succ]
        go_wp2
        go_ret
        exact ⟨rfl, hb8⟩
end Go.Proofs.YthafhghnciofaaaDoor
