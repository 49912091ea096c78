/-
 WALKS: Arm, Calm; copies of bytes; Image.
-/
import Derived.Test.YtpajdmbajopofaaDk4
namespace Go.Proofs.Ytpajdmbajopofaa
open Go.RowKit
set_option maxRecDepth 100000
theorem Arm_any {col : Nat → Nat} {c g : Nat} {w : World} {s : DS} (h : DAt col c w g s) (hc : c ≠ 0) (n : Int) (hn : n ≤ 9223372036854775807) : Calls Try.prog 35 #[.pointer (some ⟨g, 0, none⟩), .int .i64 n] w (DiskIs col c w g (arS s n) (.int .i64 (arE s n))) := by
 unfold DiskIs
 have HM := Shh.mk h.made
 obtain ⟨q, N, dc, pv, HN, c0, c1, c2, c3, c4, A, cap, rfl⟩ := h.cells
 have hok := h.1.arm n hn
 have f3 : w.frozen? ⟨g, 3, none⟩ = false := by obtain ⟨_, _, _, _, _, _, _, h3, _⟩ := h; exact h3.free 3
 unfold arS arE at *
 by_cases hz : n < 0
 ·rw [if_pos hz, if_pos hz]
  have F : Shh (Ext col c w w col ∧ DAt col c w g s) := ⟨Ext.refl _ _ _, h⟩
  clear h HN hok
  go_enter Try.func35, Try.ntmps35
  go_wp2_with (go_at_call 42; refine (HM.out).mono ?_)
  unfold AnsIs
  rintro e w1 ⟨rfl, rfl⟩
  go_wp2
  go_ret
  exact ⟨rfl, F.out⟩
 ·rw [if_neg hz] at hok ⊢
  rw [if_neg hz]
  cases hon : s.on with
  | false =>
   rw [if_pos rfl, if_pos rfl]
   have F : Shh (Ext col c w w col ∧ DAt col c w g s) := ⟨Ext.refl _ _ _, h⟩
   rw [hon] at c2
   clear h HN hok
   go_enter Try.func35, Try.ntmps35
   go_wp2_with (go_at_call 42; refine (HM.out).mono ?_)
   unfold AnsIs
   rintro e w1 ⟨rfl, rfl⟩
   go_wp2
   go_ret
   exact ⟨rfl, F.out⟩
  | true =>
   rw [if_neg (by decide), if_neg (by decide)]
   rw [if_neg (by rw [hon]; decide)] at hok
   have F : Shh (Ext col c w (w.setCell ⟨g, 3, none⟩ (.int .i64 n)) col ∧ DAt col c (w.setCell ⟨g, 3, none⟩ (.int .i64 n)) g { s with fuse := n }) :=
    ⟨h.turn hc (but_set w g 3 _) s.on n s.done (fun x y hr => hr.set_ 3 _) hok⟩
   rw [hon] at c2 F
   clear h HN hok
   go_enter Try.func35, Try.ntmps35
   go_wp2_with (go_at_call 42; refine (HM.out).mono ?_)
   unfold AnsIs
   rintro e w1 ⟨rfl, rfl⟩
   go_wp2
   go_ret
   exact ⟨rfl, F.out⟩
theorem Calm_any {col : Nat → Nat} {c g : Nat} {w : World} {s : DS} (h : DAt col c w g s) (hc : c ≠ 0) : Calls Try.prog 34 #[.pointer (some ⟨g, 0, none⟩)] w (DiskIs col c w g (caS s) (.tuple #[])) := by
 unfold DiskIs
 have HM := Shh.mk h.made
 obtain ⟨q, N, dc, pv, HN, c0, c1, c2, c3, c4, A, cap, rfl⟩ := h.cells
 have f3 : w.frozen? ⟨g, 3, none⟩ = false := by obtain ⟨_, _, _, _, _, _, _, h3, _⟩ := h; exact h3.free 3
 have F : Shh (Ext col c w (w.setCell ⟨g, 3, none⟩ (.int .i64 (-1))) col ∧ DAt col c (w.setCell ⟨g, 3, none⟩ (.int .i64 (-1))) g (caS s)) :=
  ⟨h.turn hc (but_set w g 3 _) s.on (-1) s.done (fun x y hr => hr.set_ 3 _) h.1.calm⟩
 clear h HN
 go_enter Try.func34, Try.ntmps34
 go_wp2_with (go_at_call 42; refine (HM.out).mono ?_)
 unfold AnsIs
 rintro e w1 ⟨rfl, rfl⟩
 go_wp2
 go_end0
 exact ⟨rfl, F.out⟩
theorem eqIn_some {P : Program} {t e : TypeId} (h : P.underlying t = some (.slice e)) (d : Nat) (a : Addr) (n c : Nat) (W : World) : (Op.equalIn (d + 1) t (.slice (some a) n c) (.slice none 0 0)).run P W = .ok false W := by
 simp [Op.equalIn, run_underlying h]
theorem eqIn_none {P : Program} {t e : TypeId} (h : P.underlying t = some (.slice e)) (d : Nat) (W : World) : (Op.equalIn (d + 1) t (.slice none 0 0) (.slice none 0 0)).run P W = .ok true W := by
 simp [Op.equalIn, run_underlying h]
theorem run_eql_some {P : Program} {t e : TypeId} (h : P.underlying t = some (.slice e)) (a : Addr) (n c : Nat) (W : World) : (binOp .eql t (.slice (some a) n c) (.slice none 0 0)).run P W = .ok (.bool false) W := by
 simp only [binOp]
 simp [Op.equal, Op.maxDepth, eqIn_some h 9999 a n c W]
theorem run_eql_none {P : Program} {t e : TypeId} (h : P.underlying t = some (.slice e)) (W : World) : (binOp .eql t (.slice none 0 0) (.slice none 0 0)).run P W = .ok (.bool true) W := by
 simp only [binOp]
 simp [Op.equal, Op.maxDepth, eqIn_none h 9999 W]
theorem bc_len (bs : List UInt8) : (Lib.byteCells bs).length = bs.length := by simp [Lib.byteCells]
/-- bytes.Clone of a slice that is there -/
theorem bclone_any (B : Nat) (v : Value) (bs : List UInt8) (w : World) (hs : Sl w B v bs) (hB : B ≤ w.heap.size) (hne : 0 < bs.length) (hl : bs.length ≤ 140737488355328 - 4096) : Calls Try.prog 43 #[v] w (OwnIs w bs) := by
 unfold OwnIs Gives
 obtain ⟨A, c, rfl, hc1, hc2⟩ := hs.form
 obtain ⟨b, off, rfl, hb, hcell⟩ := hs.at_ hne
 obtain ⟨i0, hi, hz0, hz1, hz2⟩ := info_parts info_u8
 have hown := World.ownsRow_made w (#[] : Array Value) 0 (base := w.heap.size) (e := 5) (size := 1) (Nat.le_refl _) (Nat.zero_le _) rfl
 have hsrc : ∀ j u, (Lib.byteCells bs)[j]? = some u → (w.alloc (.cells #[] 5)).cell? ((⟨b, off, none⟩ : Addr).add j) = some u := by
  intro j u hj
  have hjl : j < bs.length := by
   have := (List.getElem?_eq_some_iff.1 hj).1
   simpa [Lib.byteCells] using this
  rw [byteCells_get bs j hjl] at hj
  rw [addr_add, ← hj]
  exact ((Below.alloc (Below.refl _ w) (Nat.le_refl _) _).cell (p := ⟨b, off + j, none⟩) (by show b < _; omega)).trans (hcell j hjl)
 have HB : Shh (Below w.heap.size w (w.alloc (.cells #[] 5))) := ⟨Below.alloc (Below.refl _ w) (Nat.le_refl _) _⟩
 have HL := Shh.mk hl
 have HC := Shh.mk hcell
 obtain ⟨n, hn⟩ : ∃ n, n = bs.length := ⟨_, rfl⟩
 rw [← hn] at hl ⊢
 have hl3 : bs.length ≤ n := by omega
 have HNN := Shh.mk hn
 have heq := fun W => run_eql_some Try.underlying33 ⟨b, off, none⟩ n c W
 clear hs hne hcell hc1 hc2 hn hl hl3
 go_enter Try.func43, Try.ntmps43
 go_wp2_with (refine wpList_append_own_at _ rfl _ _ 33 rfl w.heap.size 5 i0 (.int .u8 0) 1 1 Try.underlying33 hi hz0 hz1 hz2 rfl (by decide) _ _ _ rfl hown ⟨b, off, none⟩ n c (Lib.byteCells bs) rfl (by simp [Lib.byteCells, HNN.out]) hsrc (cell_oneCell bs) (by have := HL.out; have := HNN.out; unfold maxLen; omega) (by have := HL.out; have := HNN.out; omega) (by simp) ?_)
 intro v' w1 hown' hgr _ _
 have F : Shh (w1.ownsRow w.heap.size 5 1 v' n (Lib.byteCells bs) ∧ Below w.heap.size w w1) := by
  refine ⟨by simpa using hown', ?_⟩
  ·exact HB.out.grown hgr (by simp) (fun k hk => by
    simp [Value.ownBlock] at hk
    omega)
 clear hown' hgr hown hsrc HB HC
 go_wp2
 go_ret
 exact ⟨_, rfl, F.out⟩
theorem flat_ok {s : DS} (h : s.ok) : s.good.flatten.length = 256 * s.good.length ∧ 2048 ≤ 256 * s.good.length ∧ 256 * s.good.length ≤ 524288 := by
 have := h.lo
 have := h.hi
 exact ⟨flat_length h.sec, by omega, by omega⟩
theorem DAt.bytes {col : Nat → Nat} {c g q N dc : Nat} {w : World} {s : DS} (h : DAt col c w g s) (hc : w.cell? ⟨g, 0, none⟩ = some (.slice (some ⟨q, 0, none⟩) N dc)) : Sl w w.heap.size (.slice (some ⟨q, 0, none⟩) N dc) s.good.flatten := by
 obtain ⟨h0, h1, q', dc', pv, sp, h2, h3, h4, h5, h6, h7⟩ := h
 have e := h3.cell 0
 rw [hc] at e
 have e2 : Value.slice (some ⟨q, 0, none⟩) N dc = .slice (some ⟨q', 0, none⟩) (256 * s.good.length) dc' := by injection e
 rw [e2]
 have hl := (flat_ok h0).1
 rw [← hl]
 refine ⟨_, _, rfl, by omega, h6, fun _ => ⟨q', 0, rfl, h4.lt, fun k hk => ?_⟩⟩
 rw [Nat.zero_add, h4.cell k, List.getElem?_append_left (by rw [bc_len]; exact hk), byteCells_get _ k hk]
theorem Image_any {col : Nat → Nat} {c g : Nat} {w : World} {s : DS} (h : DAt col c w g s) : Calls Try.prog 19 #[.pointer (some ⟨g, 0, none⟩)] w (OwnIs w s.good.flatten) := by
 have HM := Shh.mk h.made
 obtain ⟨q, N, dc, pv, HN, c0, c1, c2, c3, c4, A, cap, rfl⟩ := h.cells
 have hl := flat_ok h.1
 have HC := Shh.mk (bclone_any w.heap.size _ s.good.flatten w (h.bytes c0) (Nat.le_refl _) (by omega) (by omega))
 clear h HN hl
 unfold OwnIs Gives at *
 go_enter Try.func19, Try.ntmps19
 go_wp2_with (first | (go_at_call 42; refine (HM.out).mono ?_) | (go_at_call 43; refine (HC.out).mono ?_))
 unfold AnsIs
 rintro e w1 ⟨rfl, rfl⟩
 go_wp2_with (first | (go_at_call 42; refine (HM.out).mono ?_) | (go_at_call 43; refine (HC.out).mono ?_))
 rintro e w2 ⟨v, rfl, h1, h2⟩
 have F := Shh.mk (And.intro h1 h2)
 clear h1 h2
 go_wp2
 go_ret
 exact ⟨_, rfl, F.out⟩
end Go.Proofs.Ytpajdmbajopofaa
