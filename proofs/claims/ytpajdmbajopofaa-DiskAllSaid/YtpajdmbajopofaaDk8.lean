/-
 WALKS: latest of a disk; Read.
-/
import Derived.Test.YtpajdmbajopofaaDk7
namespace Go.Proofs.Ytpajdmbajopofaa
open Go.RowKit
set_option maxRecDepth 100000
theorem wl_copy_but {P : Program} {ops : Array Oper} {rest : List Oper} {o : Oper} {a : Act} {w : World} {Q : Exit → Act → World → Prop} (hgd : o.guard = none) (d s : Operand) (dT sT : TypeId)
  (ho : o.op = .call { callee := .builtin .copy, args := #[d, s], argTypes := #[dT, sT] }) (elem : TypeId) (hu : P.underlying dT = some (.slice elem)) (hsz : (P.info? elem).map (·.size) = some 1)
  (dLen dCap sLen sCap : Nat) (ad : Addr) (g off : Nat) (hd : a.eval d = .slice (some ⟨g, off, none⟩) dLen dCap) (hs : a.eval s = .slice (some ad) sLen sCap)
  (cur : List Value) (t : TypeId) (hr : Row w g t cur) (cs : List Value) (hn : cs.length = Nat.min sLen dLen)
  (hsrc : ∀ j v, cs[j]? = some v → w.cell? (ad.add j) = some v) (hfit : off + cs.length ≤ cur.length) (h1 : ∀ v ∈ cs, v.oneCell' = true)
  (h : ∀ w', Row w' g t (splice cur off cs) → But w.heap.size g w w' → w'.heap.size = w.heap.size → wpList P ops Q rest (a.put o.dst (goInt cs.length)) w') : wpList P ops Q (o :: rest) a w := by
 refine wpList_plain hgd fun K hK => ?_
 have hrun := run_copy_row (P := P) w dT sT o.type elem g off dLen dCap ad sLen sCap cur.toArray t cs hu hsz hr hn hsrc (by simpa using hfit) h1
 unfold Oper.wp
 simp [execOp, ho, resolve, invoke, builtin, hd, hs, hrun, Result.andThen]
 exact hK _ _ (h _ (show _ = _ by simpa [splice] using setRow_heap w g _ _ t _ hr) ⟨rfl, rfl, rfl, Nat.le_of_eq (by simp), fun k _ hk => Go.setRow_other w g k _ hk⟩ (by simp))
theorem sl_src {w : World} {B : Nat} {ad : Addr} {n c : Nat} {bs : List UInt8} (h : Sl w B (.slice (some ad) n c) bs) : ∀ j v, (Lib.byteCells bs)[j]? = some v → w.cell? (ad.add j) = some v := by
 intro j v hj
 have hjl : j < bs.length := by
  have := (List.getElem?_eq_some_iff.1 hj).1
  rwa [bc_len] at this
 obtain ⟨b, off, e, _, hc⟩ := h.at_ (by omega)
 injection e with e
 subst e
 rw [byteCells_get bs j hjl] at hj
 rw [addr_add, ← hj]
 exact hc j hjl
/-- a sector's bytes -/
theorem sector_sl {w : World} {q n dc i : Nat} {g : List (List UInt8)} {sp : List Value} (hr : Row w q 5 (Lib.byteCells g.flatten ++ sp)) (hs : ∀ b ∈ g, b.length = 256) (hn : g.length = n) (hi : i < n) (hdc : 256 * n ≤ dc) (hm : dc ≤ maxLen) : Sl w w.heap.size (.slice (some ⟨q, 256 * i, none⟩) 256 (dc - 256 * i)) (g.getD i []) := by
 have hi2 : i < g.length := by omega
 have hb : (g[i]).length = 256 := hs _ (List.getElem_mem hi2)
 have e : g.getD i [] = g[i] := by simp [List.getD, hi2]
 rw [e]
 refine ⟨some ⟨q, 256 * i, none⟩, dc - 256 * i, by rw [hb], by rw [hb]; omega, by omega, fun _ => ⟨q, 256 * i, rfl, hr.lt, fun k hk => ?_⟩⟩
 have h2 := flat_at hs hi2 (show k < 256 by omega)
 rw [List.getElem?_eq_getElem hk] at h2
 obtain ⟨h3, h4⟩ := List.getElem?_eq_some_iff.1 h2
 rw [hr.cell, List.getElem?_append_left (by rw [bc_len]; exact h3), byteCells_get _ _ h3, h4]
theorem latest_any {col : Nat → Nat} {c g : Nat} {w : World} {s : DS} (h : DAt col c w g s) (hl : s.wait.length ≤ 1000000) (i : Nat) (hi : i < s.good.length) : Calls Try.prog 48 #[.pointer (some ⟨g, 0, none⟩), .int .i64 (i : Int)] w (BytesIs w (secL s i)) := by
 obtain ⟨h0, h1, q, dc, pv, sp, h2, h3, h4, h5, h6, h7⟩ := h
 obtain ⟨A, cap, p, raw, rfl, hw, hrl, _, hdat⟩ := h7.raw h3.lt
 have hone : ∀ k (h : k < raw.length), ∃ a n c, raw[k].2 = .slice a n c := fun k hk => by
  obtain ⟨b, off, cp, e, _⟩ := (hdat k hk (by omega)).2
  exact ⟨_, _, _, e⟩
 have c1 : w.cell? ⟨g, 1, none⟩ = some (.slice A raw.length cap) := h3.cell 1
 have hhi := h0.hi
 refine (latest_raw g i cap p A raw (by omega) w hw hone c1 (.slice (some ⟨q, 256 * i, none⟩) 256 (dc - 256 * i)) ⟨_, _, _, rfl⟩ (fun W hW => sector_any g q s.good.length dc i (.slice A raw.length cap) s.on s.fuse s.done W hi h0.hi (by omega) (h3.go hW))).mono ?_
 rintro e w' ⟨v, rfl, hb, hv⟩
 refine ⟨v, rfl, ?_, hb⟩
 unfold secL
 rcases hv with ⟨k, hk, e1, rfl, e2⟩ | ⟨rfl, e2⟩
 ·have hk2 : k < s.wait.length := by omega
  rw [readL_at hk2 (by rw [← (hdat k hk hk2).1]; exact e1) (fun j hj hkj => by rw [← (hdat j (by omega) hj).1]; exact e2 j (by omega) hkj)]
  exact ((hdat k hk hk2).2.go hb).sl
 ·rw [readL_none (fun j hj => by rw [← (hdat j (by omega) hj).1]; exact e2 j (by omega))]
  exact sector_sl (h4.go hb) h0.sec rfl hi (by omega) h6
theorem secL_length {s : DS} (h : s.ok) {i : Nat} (hi : i < s.good.length) : (secL s i).length = 256 := by
 unfold secL
 refine readL_length ?_ (fun x hx => (h.wt x hx).2)
 have e : s.good.getD i [] = s.good[i] := by simp [List.getD, hi]
 rw [e]
 exact h.sec _ (List.getElem_mem hi)
/-- Read's answer -/
def RdIs (w : World) (bs : List UInt8) (z : Int) (e : Ending) (w' : World) : Prop := ∃ v, e = .returned (.tuple #[v, .int .i64 z]) ∧ w'.ownsRow w.heap.size 5 1 v bs.length (Lib.byteCells bs) ∧ Below w.heap.size w w'
def zB : List UInt8 := List.replicate 256 0
theorem zB_len : zB.length = 256 := by unfold zB; rw [List.length_replicate]
theorem make_256 (u : World) : (Instr.makeSlice 33 (.int .i64 256) (.int .i64 256)).run Try.prog u = .ok (.slice (some ⟨u.heap.size, 0, none⟩) 256 256) (u.alloc (.cells (Lib.byteCells zB).toArray 5)) := by
 have := make_run 256 (by omega) u
 exact this
set_option maxHeartbeats 4000000 in
theorem Read_any {col : Nat → Nat} {c g : Nat} {w : World} {s : DS} (h : DAt col c w g s) (hl : s.wait.length ≤ 1000000) (i : Int) : Calls Try.prog 24 #[.pointer (some ⟨g, 0, none⟩), .int .i64 i] w (RdIs w (rdB s i) (rdE s i)) := by
 unfold RdIs
 have HM := Shh.mk h.made
 have HH := Shh.mk (has_any h i)
 obtain ⟨q, N, dc, pv, HN, c0, c1, c2, c3, c4, A, cap, rfl⟩ := h.cells
 have HB0 : Shh (Below w.heap.size w w) := ⟨Below.refl _ _⟩
 cases hh : s.has i with
 | false =>
  have HE : Shh (rdE s i = 1 ∧ rdB s i = []) := ⟨by unfold rdE; rw [hh]; rfl, by unfold rdB rdE; rw [hh]; rfl⟩
  rw [HE.out.1, HE.out.2]
  rw [hh] at HH
  clear h HN
  go_enter Try.func24, Try.ntmps24
  go_wp2_with (first | (go_at_call 42; refine (HM.out).mono ?_) | (go_at_call 47; refine (HH.out).mono ?_))
  unfold AnsIs
  rintro e w1 ⟨rfl, rfl⟩
  go_wp2_with (first | (go_at_call 42; refine (HM.out).mono ?_) | (go_at_call 47; refine (HH.out).mono ?_))
  unfold AnsIs
  rintro e w1 ⟨rfl, rfl⟩
  go_wp2
  go_ret2
  exact ⟨_, rfl, World.ownsRow_nil _ _ _ _, HB0.out⟩
 | true =>
  rw [hh] at HH
  cases hon : s.on with
  | false =>
   have HE : Shh (rdE s i = 5 ∧ rdB s i = []) := ⟨by unfold rdE; rw [hh, hon]; rfl, by unfold rdB rdE; rw [hh, hon]; rfl⟩
   rw [HE.out.1, HE.out.2]
   rw [hon] at c2
   clear h HN
   go_enter Try.func24, Try.ntmps24
   go_wp2_with (first | (go_at_call 42; refine (HM.out).mono ?_) | (go_at_call 47; refine (HH.out).mono ?_))
   unfold AnsIs
   rintro e w1 ⟨rfl, rfl⟩
   go_wp2_with (first | (go_at_call 42; refine (HM.out).mono ?_) | (go_at_call 47; refine (HH.out).mono ?_))
   unfold AnsIs
   rintro e w1 ⟨rfl, rfl⟩
   go_wp2
   go_ret2
   exact ⟨_, rfl, World.ownsRow_nil _ _ _ _, HB0.out⟩
  | true =>
   obtain ⟨hi0, hi1⟩ := has_iff.1 hh
   obtain ⟨n, rfl⟩ : ∃ n : Nat, i = (n : Int) := ⟨i.toNat, by omega⟩
   have hn : n < s.good.length := by omega
   have HE : Shh (rdE s (n : Int) = 0 ∧ rdB s (n : Int) = secL s n) := ⟨by unfold rdE; rw [hh, hon]; rfl, by unfold rdB rdE; rw [hh, hon]; rfl⟩
   rw [HE.out.1, HE.out.2]
   have hlen := secL_length h.1 hn
   obtain ⟨bs, hbs⟩ : ∃ bs, bs = secL s n := ⟨_, rfl⟩
   have bA := Below.alloc (Below.refl _ w) (Nat.le_refl _) (.cells (Lib.byteCells zB).toArray 5)
   have HLt : Shh (Calls Try.prog 48 #[.pointer (some ⟨g, 0, none⟩), .int .i64 (n : Int)] (w.alloc (.cells (Lib.byteCells zB).toArray 5)) (BytesIs (w.alloc (.cells (Lib.byteCells zB).toArray 5)) bs)) := ⟨by
    rw [hbs]
    exact latest_any (h.go bA) hl n hn⟩
   have HR : Shh (Row (w.alloc (.cells (Lib.byteCells zB).toArray 5)) w.heap.size 5 (Lib.byteCells zB) ∧ Below w.heap.size w (w.alloc (.cells (Lib.byteCells zB).toArray 5))) := ⟨Row.new_ rfl rfl, bA⟩
   rw [← hbs] at hlen ⊢
   have HLN := Shh.mk hlen
   have hmk := make_256
   rw [hon] at c2
   clear h HN hbs hlen bA hi0 hi1 hn
   generalize hW0 : w.alloc (.cells (Lib.byteCells zB).toArray 5) = W0 at *
   go_enter Try.func24, Try.ntmps24
   go_wp2_with (first | (go_at_call 42; refine (HM.out).mono ?_) | (go_at_call 47; refine (HH.out).mono ?_))
   unfold AnsIs
   rintro e w1 ⟨rfl, rfl⟩
   go_wp2_with (first | (go_at_call 42; refine (HM.out).mono ?_) | (go_at_call 47; refine (HH.out).mono ?_))
   unfold AnsIs
   rintro e w1 ⟨rfl, rfl⟩
   go_wp2_with (go_at_call 48; refine (HLt.out).mono ?_)
   unfold BytesIs
   rintro e w2 ⟨v, rfl, hv, b2⟩
   obtain ⟨Av, cv, rfl, _, _⟩ := hv.form
   obtain ⟨b, off, rfl, _, _⟩ := hv.at_ (by have := HLN.out; omega)
   have HR2 : Shh (Row w2 w.heap.size 5 (Lib.byteCells zB) ∧ Below w.heap.size w w2 ∧ ∀ j v, (Lib.byteCells bs)[j]? = some v → w2.cell? ((⟨b, off, none⟩ : Addr).add j) = some v) := ⟨HR.out.1.go b2, HR.out.2.trans (b2.mono HR.out.2.size), sl_src hv⟩
   clear hv b2 HR HLt hmk
   go_wp2_with (refine wl_copy_but rfl (.tmp 23) (.tmp 26) 33 33 rfl 5 Try.underlying33 info_u8s 256 256 bs.length cv ⟨b, off, none⟩ w.heap.size 0 rfl rfl _ _ HR2.out.1 (Lib.byteCells bs) (by rw [bc_len, HLN.out]; rfl) HR2.out.2.2 (by rw [bc_len, bc_len, HLN.out, zB_len]; exact Nat.le_refl _) (cell_oneCell bs) ?_)
   intro w3 hr3 b3 z3
   have F : Shh (Row w3 w.heap.size 5 (Lib.byteCells bs) ∧ Below w.heap.size w w3) := by
    refine ⟨?_, HR2.out.2.1.trans (b3.under (by have := HR2.out.2.1.size; omega) (Nat.le_refl _))⟩
    have e : splice (Lib.byteCells zB) 0 (Lib.byteCells bs) = Lib.byteCells bs := by
     unfold splice
     rw [List.take_zero, List.nil_append, Nat.zero_add, List.drop_eq_nil_of_le (by rw [bc_len, bc_len, HLN.out, zB_len]; exact Nat.le_refl _), List.append_nil]
    rw [e] at hr3
    exact hr3
   clear hr3 b3 z3 HR2
   go_wp2
   go_ret2
   refine ⟨_, rfl, ?_, F.out.2⟩
   have hF := F.out.1
   have hl2 := HLN.out
   refine ⟨by rw [bc_len, Nat.mul_one], .inr ⟨w.heap.size, 256, (Lib.byteCells bs).toArray, ?_, Nat.le_refl _, hF, by omega, by unfold maxLen; omega, by simp [bc_len, hl2], ?_⟩⟩
   ·rw [hl2]; rfl
   ·rw [hl2]
    simp only [Nat.mul_one]
    exact List.take_of_length_le (by rw [bc_len, hl2]; exact Nat.le_refl _)
end Go.Proofs.Ytpajdmbajopofaa
