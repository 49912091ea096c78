/-
 WALK: settle.
-/
import Derived.Test.YtpajdmbajopofaaDk12
namespace Go.Proofs.Ytpajdmbajopofaa
open Go.RowKit
set_option maxRecDepth 100000
attribute [local go_sem] Oper.semAt_some
section
variable {a : Act} {x y : Operand} {op : Oper} {w : World}
theorem nil_ok {g : Nat} (ho : op.op = .nilCheck x) (hx : a.eval x = .pointer (some ⟨g, 0, none⟩)) : (execOp a.eval op).run Try.prog w = .ok (.value (.pointer (some ⟨g, 0, none⟩))) w := by
 unfold execOp
 simp only [ho, hx]
 go_simp
theorem fd_1 {g : Nat} (ho : op.op = .fieldAddr 67 x 1) (hx : a.eval x = .pointer (some ⟨g, 0, none⟩)) : (execOp a.eval op).run Try.prog w = .ok (.value (.pointer (some ⟨g, 1, none⟩))) w := by
 unfold execOp
 simp only [ho, hx]
 go_simp
theorem load_ws {p : Addr} {A : Option Addr} {n c : Nat} (ho : op.op = .load 65 x) (hc : w.cell? p = some (.slice A n c)) (hx : a.eval x = .pointer (some p)) : (execOp a.eval op).run Try.prog w = .ok (.value (.slice A n c)) w := by
 unfold execOp
 simp only [ho, hx]
 go_simp
theorem slice65 : Try.prog.underlying 65 = some (.slice (Try.prog.elem 65)) := by kernel_rfl
theorem elem65 : Try.prog.elem 65 = 71 := by kernel_rfl
theorem run_sizeOf_wr (w : World) : (sizeOf 71).run Try.prog w = .ok 2 w := by simp [go_sem]
theorem run_cutW (A : Option Addr) (n c : Nat) (w : World) : (Instr.sliceAt 65 (.slice A n c) none (some (.int .i64 0)) none).run Try.prog w = .ok (.slice A 0 c) w := by
 rw [run_sliceAt_slice _ _ _ _ _ _ slice65, run_slice_h w 65 A n c slice65 .i64 0 (by omega) (by omega), elem65, run_sizeOf_wr, Result.andThen_ok]
 unfold sliced
 cases A with
 | none => simp
 | some a => by_cases h : c = 0 <;> simp [h, Addr.add]
theorem store_ws {g k : Nat} {T : TypeId} {cs : List Value} {A : Option Addr} {n c : Nat} (ho : op.op = .store 65 x y) (hx : a.eval x = .pointer (some ⟨g, k, none⟩)) (hy : a.eval y = .slice A n c) (hr : Row w g T cs) (hk : k < cs.length) :
  (execOp a.eval op).run Try.prog w = .ok .skip (w.setCell ⟨g, k, none⟩ (.slice A n c)) := by
 have hc := hr.cell k
 rw [List.getElem?_eq_getElem hk] at hc
 have hf := hr.free k
 unfold execOp
 simp only [ho, hx, hy]
 go_simp
end
theorem set_res (t t' : Array Value) : results Try.f45 t = results Try.f45 t' := by
 unfold results
 rw [Try.results45]
 simp only [List.mapM_nil, Array.mapM_eq_mapM_toList]
/-- what is promised of the writes that are picked -/
def PkSeq (col : Nat → Nat) (c : Nat) (w : World) (g f : Nat) (lb : Array Value) (pk : Nat → Bool) : Prop :=
 ∀ (q p cap : Nat) (A : Option Addr) (lv : List (Nat × Value)) (W5 : World), col q = c → lv.length ≤ 1000000 → (∀ k (h : k < lv.length), ∃ a n c, lv[k].2 = .slice a n c) → Below w.heap.size w W5 → W5.heap.size = w.heap.size + 3 →
  Boxed W5 (w.heap.size + 1) 23 (.pointer (some ⟨g, 0, none⟩)) → Boxed W5 (w.heap.size + 1 + 1) 60 (.func (.func f) #[] lb) → W5.cell? ⟨g, 1, none⟩ = some (.slice A lv.length cap) → WAt W5 A p lv → g ≠ q ∧ p ≠ q → q < w.heap.size →
  SeqStopsK Fence.wide 3 Try.prog 55 #[.pointer (some ⟨w.heap.size + 1, 0, none⟩), .pointer (some ⟨w.heap.size + 1 + 1, 0, none⟩)] (fun x : Fin lv.length => #[.agg (wcC lv[x]).toArray]) (But W5.heap.size q) (fun xs => xs = pkL pk lv.length lv.length) (fun _ => True) (lv.length + 1) W5
set_option maxHeartbeats 8000000 in
theorem settle_of {col : Nat → Nat} {c g : Nat} {w : World} {s : DS} (h : DAt col c w g s) (hc : c ≠ 0) (hl : s.wait.length ≤ 1000000) (pk : Nat → Bool) (f : Nat) (lb : Array Value) (hseq : PkSeq col c w g f lb pk) :
 Calls Try.prog 45 #[.pointer (some ⟨g, 0, none⟩), .func (.func f) #[] lb] w (DiskIs col c w g (settleS s pk) (.tuple #[])) := by
 unfold DiskIs
 have HD := Shh.mk h
 obtain ⟨h0, h1, q, dc, pv, sp, h2, h3, h4, h5, h6, h7⟩ := h
 obtain ⟨A, cap, p, raw, rfl, hw, hrl, hp0, hdat⟩ := h7.raw h3.lt
 obtain ⟨xs, o1, o2, _⟩ := h7
 have hone : ∀ k (h : k < raw.length), ∃ a n c, raw[k].2 = .slice a n c := fun k hk => by
  obtain ⟨b, off, cp, e, _⟩ := (hdat k hk (by omega)).2
  exact ⟨_, _, _, e⟩
 have hgq : g ≠ q := fun e => by
  rw [← e, Row, show w.heap[g]? = _ from h3] at h4
  injection h4 with h4
  injection h4 with _ h4
  exact absurd h4 (by decide)
 have hpq : p ≠ q := fun e => by
  rcases hp0 with rfl | ⟨cur, hp⟩
  ·exact hgq e
  ·rw [e, show w.heap[q]? = _ from h4] at hp
   injection hp with hp
   injection hp with _ hp
   exact absurd hp (by decide)
 obtain ⟨U, hU⟩ : ∃ U, U = w.alloc (.cells #[.pointer (some ⟨g, 0, none⟩)] 23) := ⟨_, rfl⟩
 have bU : Below w.heap.size w U := by rw [hU]; exact Below.alloc (Below.refl _ _) (Nat.le_refl _) _
 have HU : Shh (Boxed U w.heap.size 23 (.pointer (some ⟨g, 0, none⟩)) ∧ Below w.heap.size w U ∧ U.heap.size = w.heap.size + 1) := ⟨by rw [hU]; exact Boxed.new w _ _, bU, by rw [hU, asz]⟩
 have HK := Shh.mk (And.intro h0 (And.intro h2 (And.intro h3 (And.intro h4 (And.intro h5 (And.intro h6 (And.intro o1 (And.intro o2 (And.intro hdat (And.intro hrl (And.intro hgq (And.intro hpq (And.intro hone hw)))))))))))))
 have HSQ := Shh.mk hseq
 clear h0 h2 h3 h4 h5 h6 o1 o2 hdat hseq hp0 hgq hpq hw hone bU hrl
 refine (callsIn_wide (n := 4)).1 ?_
 refine callsIn_of_wp_marks Try.func45 rfl trivial ?_ rfl
 simp only [Try.ntmps45, List.size_toArray, List.length_cons, List.length_nil, Nat.reduceAdd, Nat.reduceSub, Array.replicate_succ, Array.replicate_zero, List.push_toArray, List.append_toArray, List.nil_append, List.cons_append]
 gi_wp2_with (refine ⟨trivial, ?_⟩; gi_at_call 52; refine (callsIn_wide.2 (picked_any g f lb _)).mono ?_)
 unfold PkIs
 rw [← hU]
 rintro e w5 ⟨rfl, h5⟩
 rw [HU.out.2.2]
 have b5 : Below U.heap.size U w5 := by rw [← h5]; exact (Below.alloc (Below.refl _ _) (Nat.le_refl _) _).trans (Below.alloc (Below.refl _ _) (by rw [asz]; omega) _)
 have z5 : w5.heap.size = w.heap.size + 3 := by rw [← h5, asz, asz, HU.out.2.2]
 have H5 : Shh (Below w.heap.size w w5 ∧ w5.heap.size = w.heap.size + 3 ∧ Boxed w5 w.heap.size 23 (.pointer (some ⟨g, 0, none⟩)) ∧ Boxed w5 (w.heap.size + 1) 23 (.pointer (some ⟨g, 0, none⟩)) ∧ Boxed w5 (w.heap.size + 1 + 1) 60 (.func (.func f) #[] lb)) := by
  refine ⟨Below.chain HU.out.2.1 b5, z5, (b5.block _ HU.out.1.lt).trans HU.out.1, ?_, ?_⟩
  ·rw [← h5, ← HU.out.2.2]; exact (Boxed.new U _ _).alloc _
  ·rw [← h5]
   have := Boxed.new (U.alloc (.cells #[.pointer (some ⟨g, 0, none⟩)] 23)) 60 (.func (.func f) #[] lb)
   rwa [asz, HU.out.2.2] at this
 clear h5 b5 z5 hU HU
 gi_wp2
 have hk := HK.out
 obtain ⟨k0, k2, k3, k4, k5, k6, ko1, ko2, kdat, krl, kgq, kpq, kone, kw⟩ := hk
 have hseq5 := HSQ.out q p cap A raw w5 k2 (by omega) kone H5.out.1 H5.out.2.1 H5.out.2.2.2.1 H5.out.2.2.2.2 ((H5.out.1.cell (p := ⟨g, 1, none⟩) k3.lt).trans (k3.cell 1)) (kw.go H5.out.1) ⟨kgq, kpq⟩ k4.lt
 have HQL := Shh.mk k4.lt
 have HN : Shh (w5.heap.size = w.heap.size + 3) := ⟨H5.out.2.1⟩
 have HI0 : Shh (SeI w5 q s.good s.wait sp raw.length [] w5) := ⟨⟨k4.go H5.out.1, But.refl _ _ _⟩⟩
 clear k0 k2 k3 k4 k5 k6 ko1 ko2 kdat krl kgq kpq kone kw HSQ
 refine wpIn_rangeFunc_ownH (F := Fence.wide) rfl (by omega) (gf := 55) (lb := #[.pointer (some ⟨w.heap.size + 1, 0, none⟩), .pointer (some ⟨w.heap.size + 1 + 1, 0, none⟩)]) rfl trivial (fun _ _ => rfl)
  (encs := fun x : Fin raw.length => #[.agg (wcC raw[x]).toArray]) (Kp := But w5.heap.size q) (S := fun xs => xs = pkL pk raw.length raw.length) (Sp := fun _ => True) (N := raw.length + 1) (w0 := w5) hseq5
  (fun h k => h.trans k) ?hKb (Below.refl _ _) (fun _ => rfl)
  (SeI w5 q s.good s.wait sp raw.length) (fun _ _ _ => False) (SeI.own w5 q s.good s.wait sp raw.length) (fun _ _ _ _ _ h _ _ => h) HI0.out
  (fun x a' W => ∃ M, w5.heap.size ≤ M ∧ Row W M 71 (wcC raw[x]) ∧ a' = { tmps := #[.pointer (some ⟨g, 0, none⟩), .func (.func f) #[] lb, .pointer (some ⟨w.heap.size, 0, none⟩), undef, .pointer (some ⟨M, 0, none⟩), .pointer (some ⟨g, 0, none⟩), .func (.func f) #[] lb, .func (.func 55) #[] #[.pointer (some ⟨w.heap.size + 1, 0, none⟩), .pointer (some ⟨w.heap.size + 1 + 1, 0, none⟩)], .agg (wcC raw[x]).toArray, undef, undef, undef, undef, undef, undef, undef, undef, undef, undef, undef, undef, undef, undef, undef, undef, undef, undef, undef], defers := [] })
  ?hAx ?assign ?body ?done (fun _ _ _ _ _ _ h => h.elim)
 case hKb =>
  intro W l o o' hl ho hc hw
  have := HN.out
  have := HQL.out
  exact ⟨rfl, rfl, rfl, by simp, fun k hk hne => World.putObj_heap_other (by omega)⟩
 case hAx =>
  rintro x a' _ A' C row ⟨M, hM, hr, ha⟩ hgr hrow
  exact ⟨M, hM, (hgr.block _ hr.lt (notcells_ne hr hrow)).trans hr, ha⟩
 case assign =>
  rintro l pre x W K hI hK
  have hRZ : Row (w := W.alloc (.cells #[.int .i64 0, .slice none 0 0] 71)) (g := W.heap.size) (T := 71) (cs := [.int .i64 0, .slice none 0 0]) := Row.new_ rfl rfl
  have hsz := hI.2.size
  have hk1 : ∃ a n c, raw[x].2 = .slice a n c := HK.out.2.2.2.2.2.2.2.2.2.2.2.2.1 x.val x.isLt
  have H1 : ∀ u ∈ wcC raw[x], u.oneCell' = true := by
   intro u hu
   simp only [wcC, List.mem_cons, List.not_mem_nil, or_false] at hu
   rcases hu with rfl | rfl
   ·rfl
   ·obtain ⟨a, n, c, e⟩ := hk1
    rw [e]; rfl
  have HQ1 : Shh (q < w5.heap.size) := ⟨by have := HN.out; have := HQL.out; omega⟩
  clear H5 HK hseq5 HD
  gi_wp2_with (refine wlIn_store_anyR rfl 71 (.tmp 4) (.tmp 8) rfl W.heap.size rfl (wcC raw[x]) rfl 71 _ hRZ info_wr rfl H1 ?_)
  intro Z hr bt hz
  have bZ : Below W.heap.size W Z := (Below.alloc (Below.refl _ _) (Nat.le_refl _) _).trans (bt.under (by omega) (Nat.le_refl _))
  have HQ : Shh (KeepsFrom w5.heap.size W Z ∧ But w5.heap.size q W Z ∧ SeI w5 q s.good s.wait sp raw.length pre Z ∧ Row Z W.heap.size 71 (wcC raw[x])) :=
   ⟨keeps_from bZ, But.of (bZ.mono hsz) q, hI.go bZ, hr⟩
  gi_wp2
  exact hK _ _ HQ.out.1 HQ.out.2.1 HQ.out.2.2.1 ⟨W.heap.size, by omega, HQ.out.2.2.2, rfl⟩
 case body =>
  rintro l pre x a' W hl hrec hI ⟨M, hM, hrow, rfl⟩ hlt
  obtain ⟨k, hkl⟩ := x
  obtain ⟨k0, k2, k3, k4, k5, k6, ko1, ko2, kdat, krl, kgq, kpq, kone, kw⟩ := HK.out
  have hkw : k < s.wait.length := by omega
  obtain ⟨d1, b, off, cp, d2, d3, d4, d5, d6, d7⟩ := kdat k hkl hkw
  have hwt := k0.wt _ (List.getElem_mem hkw)
  obtain ⟨y, hy⟩ : ∃ y, y = raw[k] := ⟨_, rfl⟩
  have hrow2 : Row W M 71 (wcC y) := by rw [hy]; exact hrow
  rw [← hy] at d1 d2
  obtain ⟨y1, y2⟩ := y
  have d1' : y1 = s.wait[k].1 := d1
  have d2' : y2 = .slice (some ⟨b, off, none⟩) s.wait[k].2.length cp := d2
  subst d2'
  obtain ⟨bs, hbs⟩ : ∃ bs, bs = s.wait[k].2 := ⟨_, rfl⟩
  rw [← hbs] at hwt hrow2 hy d5 d7
  have hbl : bs.length = 256 := hwt.2
  have hn5 := HN.out
  have hqw := HQL.out
  have hbq : b ≠ q := fun e => by
   rw [e] at d3
   exact hc (k2.symm.trans d3)
  have hb := hI.2
  have rg : Row W g _ _ := hb.row (k3.go H5.out.1) (by have := k3.lt; omega) kgq
  have bN : Boxed W w.heap.size 23 (.pointer (some ⟨g, 0, none⟩)) := (hb.block w.heap.size (by omega) (by omega)).trans H5.out.2.2.1
  have hy1 : y1 < s.good.length := by rw [d1']; exact hwt.1
  have hsec := sector_any g q s.good.length dc y1 (.slice A raw.length cap) s.on s.fuse s.done W.drew hy1 k0.hi (by omega) rg.drew
  have HSEC2 : Shh (Calls Try.prog 53 #[.pointer (some ⟨g, 0, none⟩), .int .i64 (y1 : Int)] W.drew (AnsIs W.drew (.slice (some ⟨q, 256 * y1, none⟩) 256 (dc - 256 * y1)))) := ⟨hsec⟩
  have hmq : M ≠ q := by omega
  have hnq : w.heap.size ≠ q := by omega
  have hgl := applyL_length s.good (pre.map fun k => s.wait.getD k.val (0, []))
  have hgs : ∀ b ∈ applyL s.good (pre.map fun k => s.wait.getD k.val (0, [])), b.length = 256 := applyL_sec k0.sec (fun x hx => by
   obtain ⟨j, _, rfl⟩ := List.mem_map.1 hx
   have hj : j.val < s.wait.length := by have := j.isLt; omega
   have e : s.wait.getD j.val (0, []) = s.wait[j.val] := by simp [List.getD, hj]
   rw [e]
   exact (k0.wt _ (List.getElem_mem hj)).2)
  have hsp := bc_splice hgs (by rw [hgl]; exact hy1) hbl sp
  have hfin : (applyL s.good (pre.map fun k => s.wait.getD k.val (0, []))).set y1 bs = applyL s.good ((pre ++ [(⟨k, hkl⟩ : Fin raw.length)]).map fun k => s.wait.getD k.val (0, [])) := by
   rw [List.map_append, List.map_singleton, applyL_snoc]
   have e : s.wait.getD k (0, []) = s.wait[k] := by simp [List.getD, hkw]
   show _ = (applyL _ _).set (s.wait.getD k (0, [])).1 (s.wait.getD k (0, [])).2
   rw [e, d1', hbs]
  have hrq : Row W q 5 (Lib.byteCells (applyL s.good (pre.map fun k => s.wait.getD k.val (0, []))).flatten ++ sp) := hI.1
  have hfl := flat_length hgs
  rw [hgl] at hfl
  have hsrc : ∀ j v, (Lib.byteCells bs)[j]? = some v → W.cell? ((⟨b, off, none⟩ : Addr).add j) = some v := by
   intro j v hj
   have hjl : j < bs.length := by
    have := (List.getElem?_eq_some_iff.1 hj).1
    rwa [bc_len] at this
   rw [byteCells_get bs j hjl] at hj
   rw [addr_add, ← hj]
   exact (hb.cell (p := ⟨b, off + j, none⟩) (by show b < _; omega) hbq).trans ((H5.out.1.cell (p := ⟨b, off + j, none⟩) d4).trans (d7 j hjl))
  obtain ⟨ds, hds⟩ : ∃ ds, ds = Lib.byteCells (applyL s.good ((pre ++ [(⟨k, hkl⟩ : Fin raw.length)]).map fun k => s.wait.getD k.val (0, []))).flatten ++ sp := ⟨_, rfl⟩
  rw [hfin, ← hds] at hsp
  have HP : Shh (KeepsFrom w5.heap.size W (W.drew.setRow q ds.toArray) ∧ But w5.heap.size q W (W.drew.setRow q ds.toArray) ∧ SeI w5 q s.good s.wait sp raw.length (pre ++ [⟨k, hkl⟩]) (W.drew.setRow q ds.toArray)) := by
   have bq : But W.heap.size q W (W.drew.setRow q ds.toArray) := ⟨rfl, rfl, rfl, Nat.le_of_eq (by simp), fun k _ hk => Go.setRow_other W.drew q k _ hk⟩
   refine ⟨⟨bq.size, fun j o hj hjo _ => (Go.setRow_other W.drew q j _ (by omega)).trans hjo⟩, bq.mono hb.size, ?_, hb.trans (bq.mono hb.size)⟩
   rw [← hds]
   exact hrq.drew.setRow ds
  have cN := bN.cell
  have m0 : W.cell? ⟨M, 0, none⟩ = some (.int .i64 (y1 : Int)) := hrow2.cell 0
  have m1 : W.cell? ⟨M, 1, none⟩ = some (.slice (some ⟨b, off, none⟩) bs.length cp) := hrow2.cell 1
  have hS2 : (W.drew.setRow q ds.toArray).cell? ⟨w.heap.size, 0, none⟩ = some (.pointer (some ⟨g, 0, none⟩)) ∧ (W.drew.setRow q ds.toArray).cell? ⟨M, 0, none⟩ = some (.int .i64 (y1 : Int)) ∧ (W.drew.setRow q ds.toArray).cell? ⟨M, 1, none⟩ = some (.slice (some ⟨b, off, none⟩) bs.length cp) :=
   ⟨(World.cell?_of_block (a := ⟨w.heap.size, 0, none⟩) (Go.setRow_other W.drew q w.heap.size _ hnq)).trans cN, (World.cell?_of_block (a := ⟨M, 0, none⟩) (Go.setRow_other W.drew q M _ hmq)).trans m0, (World.cell?_of_block (a := ⟨M, 1, none⟩) (Go.setRow_other W.drew q M _ hmq)).trans m1⟩
  have HS2 := Shh.mk hS2
  have HCP : Shh (Row W.drew q 5 (Lib.byteCells (applyL s.good (pre.map fun k => s.wait.getD k.val (0, []))).flatten ++ sp) ∧ bs.length = 256 ∧ (∀ j v, (Lib.byteCells bs)[j]? = some v → W.drew.cell? ((⟨b, off, none⟩ : Addr).add j) = some v) ∧ 256 * y1 + (Lib.byteCells bs).length ≤ (Lib.byteCells (applyL s.good (pre.map fun k => s.wait.getD k.val (0, []))).flatten ++ sp).length) := ⟨hrq, hbl, hsrc, by rw [List.length_append, bc_len, bc_len, hfl]; omega⟩
  have HSP := Shh.mk hsp
  clear k0 k2 k3 k4 k5 k6 ko1 ko2 kdat krl kgq kpq kone kw d1 d2 d3 d4 d5 d6 d7 hwt hrow hrow2 hy d1' hn5 hqw hbq hb rg bN hy1 hsec hgl hgs hsp hfin hrq hfl hsrc hS2 hI hlt hl hrec HK hseq5 HD H5 hM hbs hkw HI0
  gi_wp2_with fail
  refine region_inRound (S := fun w' => w'.cell? ⟨w.heap.size, 0, none⟩ = some (.pointer (some ⟨g, 0, none⟩)) ∧ w'.cell? ⟨M, 0, none⟩ = some (.int .i64 (y1 : Int)) ∧ w'.cell? ⟨M, 1, none⟩ = some (.slice (some ⟨b, off, none⟩) bs.length cp)) (by kernel_rfl) (by rfl) (by rintro ⟨a, w, h⟩; exact h) ⟨cN, m0, m1⟩ (fun hS => ?_)
  have HSV : Shh (Calls Try.prog 53 #[.pointer (some ⟨g, 0, none⟩), .int .i64 (y1 : Int)] W.drew (AnsIs W.drew (.slice (some ⟨q, 256 * y1, none⟩) 256 (dc - 256 * y1)))) := ⟨HSEC2.out⟩
  clear cN m0 m1 HSEC2
  obtain ⟨V, hV⟩ : ∃ V, V = World.drew W := ⟨_, rfl⟩
  rw [← hV] at hS HSV HCP HP HS2
  rw [← hV]
  clear hV
  refine hdv 0 9 (.pointer (some ⟨g, 0, none⟩)) (by rfl) (fun w hS => load_dp rfl hS.1 (by kernel_rfl)) hS ?_
  refine hdv 1 10 (.pointer (some ⟨M, 0, none⟩)) (by rfl) (fun w hS => fa_0 rfl (by kernel_rfl)) hS ?_
  refine hdv 2 11 (.int .i64 (y1 : Int)) (by rfl) (fun w hS => load_in rfl hS.2.1 (by kernel_rfl)) hS ?_
  refine hdv 4 13 (.pointer (some ⟨M, 1, none⟩)) (by rfl) (fun w hS => fa_1 rfl (by kernel_rfl)) hS ?_
  refine hdv 5 14 (.slice (some ⟨b, off, none⟩) bs.length cp) (by rfl) (fun w hS => load_by rfl hS.2.2 (by kernel_rfl)) hS ?_
  refine held_one 3 (by kernel_rfl) ?_
  refine step_call 3 _ _ (some 12) 53 #[.pointer (some ⟨g, 0, none⟩), .int .i64 (y1 : Int)] (by rfl) (by kernel_rfl) (by first | kernel_rfl | go_simp) ?_
  refine (HSV.out).mono ?_
  unfold AnsIs
  rintro e Y ⟨rfl, rfl⟩
  refine ⟨_, rfl, hS, ?_⟩
  simp only [Act.put, arr9, hd9, tl9]
  refine held_one 6 (by kernel_rfl) ?_
  refine step_value 6 _ _ (some 15) (goInt (Lib.byteCells bs).length) (V.setRow q ds.toArray) (by rfl) (by kernel_rfl) (op_copy2 rfl 5 Try.underlying33 info_u8s 256 (dc - 256 * y1) bs.length cp ⟨b, off, none⟩ q (256 * y1) (by kernel_rfl) (by kernel_rfl) _ _ HCP.out.1 (Lib.byteCells bs) (by rw [bc_len, HCP.out.2.1]; rfl) HCP.out.2.2.1 HCP.out.2.2.2 (cell_oneCell bs) ds HSP.out) HS2.out ?_
  simp only [Act.put, arr9, hd9, tl9]
  refine wpAnyH_done (by kernel_rfl) ?_ _
  exact HP.out
 case done =>
  rintro D xs2 W hD rfl hI hK
  obtain ⟨k0, k2, k3, k4, k5, k6, ko1, ko2, kdat, krl, kgq, kpq, kone, kw⟩ := HK.out
  have hn5 := HN.out
  have hqw := HQL.out
  have hb := hI.2
  have hbs := hb.size
  have hmap := pkL_map (p := pk) (l := s.wait) krl (Nat.le_refl raw.length)
  have hrq : Row W q 5 (Lib.byteCells (settleS s pk).good.flatten ++ sp) := by
   have := hI.1
   rw [hmap, krl] at this
   exact this
  have rg : Row W g 67 [.slice (some ⟨q, 0, none⟩) (256 * s.good.length) dc, .slice A raw.length cap, .bool s.on, .int .i64 s.fuse, .int .i64 s.done] := hb.row (k3.go H5.out.1) (by have := k3.lt; omega) kgq
  have bN : Boxed W w.heap.size 23 (.pointer (some ⟨g, 0, none⟩)) := (hb.block w.heap.size (by omega) (by omega)).trans H5.out.2.2.1
  have hown : W.ownsRow 0 71 2 (.slice A raw.length cap) raw.length xs := by
   have ko3 := ko1
   rw [← krl] at ko3
   refine ⟨ko3.1, ?_⟩
   rcases ko3.2 with h2 | ⟨p', cap', cur, hv', hb', hp', rest⟩
   ·exact .inl h2
   ·refine .inr ⟨p', cap', cur, hv', hb', ?_, rest⟩
    have hp5 := (H5.out.1.block p' (Array.getElem?_eq_some_iff.1 hp').1).trans hp'
    refine (hb.block p' (by have := (Array.getElem?_eq_some_iff.1 hp').1; omega) (fun e => ?_)).trans hp5
    rw [e, show w.heap[q]? = _ from k4] at hp'
    injection hp' with hp'
    injection hp' with _ hp'
    exact absurd hp' (by decide)
  obtain ⟨W2, hcl, hown2, hz2, hg2⟩ := clear_own hown
  have hgo : some g ≠ (Value.slice A raw.length cap).ownBlock := fun e => by
   obtain ⟨cur, hp⟩ := own_blk hown g e.symm
   rw [show W.heap[g]? = _ from rg] at hp
   injection hp with hp
   injection hp with _ hp
   exact absurd hp (by decide)
  have hqo : some q ≠ (Value.slice A raw.length cap).ownBlock := fun e => by
   obtain ⟨cur, hp⟩ := own_blk hown q e.symm
   rw [show W.heap[q]? = _ from hrq] at hp
   injection hp with hp
   injection hp with _ hp
   exact absurd hp (by decide)
  have hNo : some w.heap.size ≠ (Value.slice A raw.length cap).ownBlock := fun e => by
   obtain ⟨cur, hp⟩ := own_blk hown w.heap.size e.symm
   rw [show W.heap[w.heap.size]? = _ from bN] at hp
   injection hp with hp
   injection hp with _ hp
   exact absurd hp (by decide)
  have hDo : some D ≠ (Value.slice A raw.length cap).ownBlock := fun e => by
   obtain ⟨cur, hp⟩ := own_blk hown D e.symm
   rw [hK] at hp
   injection hp with hp
   cases hp
  have hgl := rg.lt
  have hql := hrq.lt
  have rg2 : Row W2 g _ _ := (hg2.block g hgl hgo).trans rg
  have rq2 : Row W2 q _ _ := (hg2.block q hql hqo).trans hrq
  have bN2 : Boxed W2 w.heap.size 23 (.pointer (some ⟨g, 0, none⟩)) := (hg2.block _ bN.lt hNo).trans bN
  have hK2 : W2.heap[D]? = some (.deferred (some [])) := (hg2.block D (Array.getElem?_eq_some_iff.1 hK).1 hDo).trans hK
  have hgD : g ≠ D := by have := k3.lt; omega
  have hDg : D ≠ g := Ne.symm hgD
  have HK3 : Shh ((World.setCell W2.drew ⟨g, 1, none⟩ (.slice A 0 cap)).heap[D]? = some (.deferred (some []))) := ⟨(heap_setCell_other W2.drew ⟨g, 1, none⟩ D _ hDg).trans hK2⟩
  have hoc : ∀ k, (Value.slice A raw.length cap).ownBlock = some k → col k = c := fun k e => ko2 k e
  have HF : Shh (Ext col c w ((World.setCell W2.drew ⟨g, 1, none⟩ (.slice A 0 cap)).putObj D (.deferred none)) col ∧ DAt col c ((World.setCell W2.drew ⟨g, 1, none⟩ (.slice A 0 cap)).putObj D (.deferred none)) g (settleS s pk)) := by
   have hDl : D < W2.heap.size := (Array.getElem?_eq_some_iff.1 hK2).1
   have blk : ∀ k, k ≠ g → k ≠ D → ((World.setCell W2.drew ⟨g, 1, none⟩ (.slice A 0 cap)).putObj D (.deferred none)).heap[k]? = W2.heap[k]? := fun k h1 h2 =>
    (World.putObj_heap_other h2).trans (heap_setCell_other W2.drew ⟨g, 1, none⟩ k _ h1)
   refine ⟨⟨?_, ?_, ?_, ?_, fun _ _ => rfl, fun k hk hck => ?_⟩, k0.settle pk, h1, q, dc, .slice A 0 cap, sp, k2, ?_, ?_, ?_, k6, [], ?_, ?_, fun j hj => by cases hj⟩
   ·exact hg2.os.trans (hb.os.trans H5.out.1.os)
   ·exact hg2.tape.trans (hb.tape.trans H5.out.1.tape)
   ·exact hg2.output.trans (hb.output.trans H5.out.1.output)
   ·have e1 : ((World.setCell W2.drew ⟨g, 1, none⟩ (.slice A 0 cap)).putObj D (.deferred none)).heap.size = W2.heap.size := by simp [World.setCell]
    omega
   ·rw [blk k (fun e => hck (by rw [e]; exact h1)) (by omega), hg2.block k (by omega) (fun e => hck (hoc k e.symm)), hb.block k (by omega) (fun e => hck (by rw [e]; exact k2)), H5.out.1.block k hk]
   ·have e2 : (settleS s pk).good.length = s.good.length := applyL_length _ _
    rw [e2]
    exact row_put (Row.set_ rg2.drew 1 (.slice A 0 cap)) hgD _
   ·exact (blk q (Ne.symm kgq) (by omega)).trans rq2
   ·have e2 : (settleS s pk).good.length = s.good.length := applyL_length _ _
    rw [e2]; exact k5
   ·refine ⟨rfl, ?_⟩
    rcases hown2.2 with h2 | ⟨p', cap', cur, hv', hb', hp', rest⟩
    ·exact .inl h2
    ·refine .inr ⟨p', cap', cur, hv', hb', (blk p' (fun e => ?_) (fun e => ?_)).trans hp', rest⟩
     ·rw [e, show W2.heap[g]? = _ from rg2] at hp'
      injection hp' with hp'
      injection hp' with _ hp'
      exact absurd hp' (by decide)
     ·rw [e, hK2] at hp'
      injection hp' with hp'
      cases hp'
   ·intro k hk
    exact hoc k (by cases A with
     | none => cases hk
     | some a => exact hk)
  have cN := bN.cell
  have c1 : W.cell? ⟨g, 1, none⟩ = some (.slice A raw.length cap) := rg.cell 1
  have cN2 : W2.drew.cell? ⟨w.heap.size, 0, none⟩ = some (.pointer (some ⟨g, 0, none⟩)) := bN2.cell
  have HR2 : Shh (Row W2.drew g 67 [.slice (some ⟨q, 0, none⟩) (256 * s.good.length) dc, .slice A raw.length cap, .bool s.on, .int .i64 s.fuse, .int .i64 s.done]) := ⟨rg2.drew⟩
  have hNg : w.heap.size ≠ g := by have := k3.lt; omega
  clear k0 k2 k3 k4 k5 k6 ko1 ko2 kdat krl kgq kpq kone kw hn5 hqw hb hbs hmap hrq rg bN hown hown2 hz2 hg2 hgo hqo hNo hDo hgl hql rg2 rq2 bN2 hK2 hgD hDg hoc HK HD hseq5 H5 HI0 hI hK
  gi_wp2
  refine region_wide (S := fun w' => w'.cell? ⟨w.heap.size, 0, none⟩ = some (.pointer (some ⟨g, 0, none⟩))) (by kernel_rfl) (by rintro ⟨a, w, ⟨v, hv⟩, _⟩) cN2 (fun hS => ?_)
  have HS3 : Shh ((World.setCell W2.drew ⟨g, 1, none⟩ (.slice A 0 cap)).cell? ⟨w.heap.size, 0, none⟩ = some (.pointer (some ⟨g, 0, none⟩))) := ⟨(World.cell?_of_block (a := ⟨w.heap.size, 0, none⟩) (heap_setCell_other W2.drew ⟨g, 1, none⟩ w.heap.size _ hNg)).trans cN2⟩
  clear cN2
  obtain ⟨V, hV⟩ : ∃ V, V = World.drew W2 := ⟨_, rfl⟩
  rw [← hV] at hS HR2 HS3 HK3 HF
  rw [← hV]
  clear hV
  refine hdv 0 20 (.pointer (some ⟨g, 0, none⟩)) (by rfl) (fun w hS => load_dp rfl hS (by kernel_rfl)) hS ?_ (hQ := fun _ _ _ _ h => panic_putM set_res h)
  refine hdv 1 21 (.pointer (some ⟨g, 0, none⟩)) (by rfl) (fun w hS => load_dp rfl hS (by kernel_rfl)) hS ?_ (hQ := fun _ _ _ _ h => panic_putM set_res h)
  refine hdv 2 22 (.pointer (some ⟨g, 0, none⟩)) (by rfl) (fun w hS => nil_ok rfl (by kernel_rfl)) hS ?_ (hQ := fun _ _ _ _ h => panic_putM set_res h)
  refine hdv 3 23 (.pointer (some ⟨g, 1, none⟩)) (by rfl) (fun w hS => fd_1 rfl (by kernel_rfl)) hS ?_ (hQ := fun _ _ _ _ h => panic_putM set_res h)
  refine held_one 4 (by kernel_rfl) ?_
  refine step_value 4 _ _ (some 24) (.slice A raw.length cap) V (by rfl) (by kernel_rfl) (load_ws rfl (HR2.out.cell 1) (by kernel_rfl)) hS ?_
  simp only [Act.put, arr9, hd9, tl9]
  refine hdv 5 25 (.slice A 0 cap) (by rfl) (fun w hS => op_to (run_cutW A raw.length cap w) rfl (by kernel_rfl) (by kernel_rfl)) hS ?_ (hQ := fun _ _ _ _ h => panic_putM set_res h)
  refine hdv 6 26 (.pointer (some ⟨g, 0, none⟩)) (by rfl) (fun w hS => nil_ok rfl (by kernel_rfl)) hS ?_ (hQ := fun _ _ _ _ h => panic_putM set_res h)
  refine hdv 7 27 (.pointer (some ⟨g, 1, none⟩)) (by rfl) (fun w hS => fd_1 rfl (by kernel_rfl)) hS ?_ (hQ := fun _ _ _ _ h => panic_putM set_res h)
  refine held_one 8 (by kernel_rfl) ?_
  refine step_store1 8 _ (by rfl) (by kernel_rfl) (V.setCell ⟨g, 1, none⟩ (.slice A 0 cap)) (store_ws rfl (by kernel_rfl) (by kernel_rfl) HR2.out (by simp)) ?_
  refine ⟨HS3.out, ?_⟩
  refine wpAnyH_done (by kernel_rfl) ?_ _
  gi_wp2
  refine ⟨by simp, .inl ⟨_, _, rfl, run_takeDeferred HK3.out, ?_⟩⟩
  exact ⟨_, results_none rfl _ _ _, rfl, HF.out⟩
end Go.Proofs.Ytpajdmbajopofaa
