/-
  WALKS: the law's does: one thing done with the program's generator and with the document's; both agree.
-/
import Derived.Test.YtanpplniedphkaaDoorDe6
import Derived.Lib.MinMax
namespace Go.Proofs.YtanpplniedphkaaDoor
open Go.RowKit
set_option maxRecDepth 100000
theorem run_max5 {P : Program} {a : Act} {w : World} {dst : Option Tmp} {x y : Operand} {T T' ty : TypeId} {j : Int} (hx : a.eval x = .int .i64 0) (hy : a.eval y = .int .i64 j) (hj : 0 ≤ j) :
    (execOp a.eval ⟨dst, .call { callee := .builtin .max, args := #[x, y], argTypes := #[T, T'] }, ty, "", #[], none⟩).run P w = .ok (.value (.int .i64 j)) w := by
  have hrun := run_max_int2 (P := P) (w := w) #[T, T'] ty .i64 .i64 0 j
  have e : (if j > 0 then j else 0) = j := by split <;> omega
  rw [e] at hrun
  simp [execOp, resolve, invoke, builtin, hx, hy, hrun, Result.andThen]
/-! both outcomes of a reseeding, and of a draw, as one -/
def rsS (en ad s : List UInt8) : List UInt8 := if fitE en [ad] = 0 then updL (en ++ ad) s else s
def rsC (en ad : List UInt8) (c : Nat) : Nat := if fitE en [ad] = 0 then 1 else c
def dwB (n : Int) (ad s : List UInt8) (c : Nat) : List UInt8 := if drawE n ad c = 0 then drawB (drS1 ad s) n.toNat else []
def dwS (n : Int) (ad s : List UInt8) (c : Nat) : List UInt8 := if drawE n ad c = 0 then drS2 ad s n.toNat else s
def dwC (n : Int) (ad : List UInt8) (c : Nat) : Nat := if drawE n ad c = 0 then c + 1 else c
theorem rsS_length (en ad s : List UInt8) (h : s.length = 64) : (rsS en ad s).length = 64 := by
  unfold rsS
  split
  · exact updL_length _ _ h
  · exact h
theorem dwS_length (n : Int) (ad s : List UInt8) (c : Nat) (h : s.length = 64) : (dwS n ad s c).length = 64 := by
  unfold dwS
  split
  · exact drS2_length _ _ _ h
  · exact h
theorem rsC_ok (en ad : List UInt8) (c : Nat) (h : 0 < c ∧ c ≤ 1025) : 0 < rsC en ad c ∧ rsC en ad c ≤ 1025 := by
  unfold rsC
  split <;> omega
theorem drawE_zero' {n : Int} {ad : List UInt8} {c : Nat} (h : drawE n ad c = 0) : 0 ≤ n ∧ n ≤ 65536 ∧ longB ad = false ∧ c ≤ 1024 := by
  unfold drawE at h
  by_cases h1 : n < 0
  · rw [if_pos h1] at h; cases h
  · rw [if_neg h1] at h
    by_cases h2 : 65536 < n
    · rw [if_pos h2] at h; cases h
    · rw [if_neg h2] at h
      cases h3 : longB ad with
      | true => rw [h3] at h; cases h
      | false =>
        rw [h3, if_neg (by decide)] at h
        by_cases h4 : 1024 < c
        · rw [if_pos h4] at h; cases h
        · exact ⟨by omega, by omega, rfl, by omega⟩
theorem dwC_ok (n : Int) (ad : List UInt8) (c : Nat) (h : 0 < c ∧ c ≤ 1025) : 0 < dwC n ad c ∧ dwC n ad c ≤ 1025 := by
  unfold dwC
  split
  · next h2 => have := drawE_zero' h2; omega
  · omega
/-- the document's generator behind it, and an error -/
def RResIs (w : World) (x : Value) (s : List UInt8) (c er : Int) (e : Ending) (w' : World) : Prop := ∃ y, e = .returned (.tuple #[y, .int .i64 er]) ∧ RSt w' y s c ∧ Below w.heap.size w w' ∧ ∀ g, g < w.heap.size → OffR g x → OffR g y
theorem refReseed_all (x ve va : Value) (c : Nat) (en ad s : List UInt8) (w : World) (hx : RSt w x s (c : Int)) (he : Sl w w.heap.size ve en) (ha : Sl w w.heap.size va ad) (hs : s.length = 64) :
    Calls Tryd.prog 57 #[x, ve, va] w (RResIs w x (rsS en ad s) (rsC en ad c : Int) (fitE en [ad])) := by
  by_cases hf : fitE en [ad] = 0
  · refine (refReseed_ok x ve va c en ad s w hx he ha hf hs).mono ?_
    rintro e w' ⟨y, h1, h2, h3, h4⟩
    refine ⟨y, by rw [hf]; exact h1, ?_, h3, fun g hg _ => h4 g hg trivial⟩
    unfold rsS rsC
    rw [if_pos hf, if_pos hf]
    exact h2
  · refine (refReseed_bad x ve va c en ad s w hx he ha hf).mono ?_
    rintro e w' ⟨y, h1, h2, h3, h4⟩
    refine ⟨y, h1, ?_, h3, h4⟩
    unfold rsS rsC
    rw [if_neg hf, if_neg hf]
    exact h2
def ResIs (w : World) (g : Nat) (s : List UInt8) (c : Nat) (er : Int) (e : Ending) (w' : World) : Prop := e = .returned (.int .i64 er) ∧ DAt w' g s c ∧ But w.heap.size g w w'
theorem reseed_all (g c : Nat) (ve va : Value) (en ad s : List UInt8) (w : World) (hd : DAt w g s c) (he : Sl w w.heap.size ve en) (ha : Sl w w.heap.size va ad) (hv : Vars w) (h0 : 0 < c) :
    Calls Tryd.prog 58 #[.pointer (some ⟨g, 0, none⟩), ve, va] w (ResIs w g (rsS en ad s) (rsC en ad c) (fitE en [ad])) := by
  by_cases hf : fitE en [ad] = 0
  · refine (reseed_ok g c ve va en ad s w hd he ha hv h0 hf).mono ?_
    rintro e w' ⟨h1, h2, h3⟩
    refine ⟨by rw [hf]; exact h1, ?_, h3⟩
    unfold rsS rsC
    rw [if_pos hf, if_pos hf]
    exact h2
  · refine (reseed_bad g c ve va en ad s w hd he ha h0 hf).mono ?_
    rintro e w' ⟨h1, h2⟩
    refine ⟨h1, ?_, But.of h2 g⟩
    unfold rsS rsC
    rw [if_neg hf, if_neg hf]
    exact hd.go h2
def RDrwIs (w : World) (x : Value) (bs s : List UInt8) (c er : Int) (e : Ending) (w' : World) : Prop := ∃ v y, e = .returned (.tuple #[v, y, .int .i64 er]) ∧ Sl w' w'.heap.size v bs ∧ RSt w' y s c ∧ Below w.heap.size w w' ∧ ∀ g, g < w.heap.size → Off g v ∧ (OffR g x → OffR g y)
theorem refDraw_all (c : Nat) (n : Int) (x va : Value) (ad s : List UInt8) (w : World) (hx : RSt w x s (c : Int)) (ha : Sl w w.heap.size va ad) (hs : s.length = 64) :
    Calls Tryd.prog 59 #[x, .int .i64 n, va] w (RDrwIs w x (dwB n ad s c) (dwS n ad s c) (dwC n ad c : Int) (drawE n ad c)) := by
  by_cases hf : drawE n ad c = 0
  · obtain ⟨z0, z1, z2, z3⟩ := drawE_zero' hf
    obtain ⟨j, rfl⟩ : ∃ j : Nat, n = (j : Int) := ⟨n.toNat, by omega⟩
    refine (refDraw_ok c j x va ad s w hx ha hs (by omega) (by simpa [longB] using z2) z3).mono ?_
    rintro e w' ⟨v, y, h1, h2, h3, h4, h5⟩
    refine ⟨v, y, by rw [hf]; exact h1, ?_, ?_, h4, fun g hg => ⟨(h5 g hg).1, fun _ => (h5 g hg).2 trivial⟩⟩
    · unfold dwB
      rw [if_pos hf]
      exact h2
    · unfold dwS dwC
      rw [if_pos hf, if_pos hf]
      exact h3
  · refine (refDraw_bad c n x va ad s w hx ha hf).mono ?_
    rintro e w' ⟨v, y, h1, h2, h3, h4, h5⟩
    refine ⟨v, y, h1, ?_, ?_, h4, h5⟩
    · unfold dwB
      rw [if_neg hf]
      exact h2
    · unfold dwS dwC
      rw [if_neg hf, if_neg hf]
      exact h3
def DrwIs (w : World) (g : Nat) (bs s : List UInt8) (c : Nat) (er : Int) (e : Ending) (w' : World) : Prop := ∃ v, e = .returned (.tuple #[v, .int .i64 er]) ∧ Sl w' w'.heap.size v bs ∧ DAt w' g s c ∧ But w.heap.size g w w'
theorem draw_all (g c : Nat) (n : Int) (va : Value) (ad s : List UInt8) (w : World) (hd : DAt w g s c) (ha : Sl w w.heap.size va ad) (hv : Vars w) (h0 : 0 < c) :
    Calls Tryd.prog 16 #[.pointer (some ⟨g, 0, none⟩), .int .i64 n, va] w (DrwIs w g (dwB n ad s c) (dwS n ad s c) (dwC n ad c) (drawE n ad c)) := by
  by_cases hf : drawE n ad c = 0
  · obtain ⟨z0, z1, z2, z3⟩ := drawE_zero' hf
    obtain ⟨j, rfl⟩ : ∃ j : Nat, n = (j : Int) := ⟨n.toNat, by omega⟩
    refine (draw_ok g c j va ad s w hd ha hv h0 z3 (by omega) z2).mono ?_
    rintro e w' ⟨v, h1, h2, h3, h4⟩
    refine ⟨v, by rw [hf]; exact h1, ?_, ?_, h4⟩
    · unfold dwB
      rw [if_pos hf]
      exact Sl.of_own h2
    · unfold dwS dwC
      rw [if_pos hf, if_pos hf]
      exact h3
  · refine (draw_bad g c n va ad s w hd ha h0 hf).mono ?_
    rintro e w' ⟨h1, rfl⟩
    refine ⟨_, h1, ?_, ?_, But.refl _ _ _⟩
    · unfold dwB
      rw [if_neg hf]
      exact Sl.nil_
    · unfold dwS dwC
      rw [if_neg hf, if_neg hf]
      exact hd
/-- both generators behind one thing done -/
def DoesIs (w : World) (g : Nat) (x : Value) (e : Ending) (w' : World) : Prop := ∃ (y : Value) (s : List UInt8) (c : Nat), e = .returned (.tuple #[y, .bool true]) ∧ RSt w' y s (c : Int) ∧ DAt w' g s c ∧ 0 < c ∧ c ≤ 1025 ∧ But w.heap.size g w w' ∧ ∀ q, q < w.heap.size → OffR q x → OffR q y
set_option maxHeartbeats 4000000 in
theorem does_any (g c : Nat) (x vb va : Value) (s : List UInt8) (r cp : Bool) (nn : Int) (bb aa : List UInt8) (w : World) (hd : DAt w g s c) (hx : RSt w x s (c : Int)) (ho : OffR g x) (hv : Vars w) (h0 : 0 < c) (h1 : c ≤ 1025) (sb : Sl w w.heap.size vb bb) (sa : Sl w w.heap.size va aa) :
    Calls Tryd.prog 17 #[.pointer (some ⟨g, 0, none⟩), x, .agg #[.bool r, .int .i64 nn, vb, va, .bool cp]] w (DoesIs w g x) := by
  unfold DoesIs
  have hs := hd.len
  have hgl := hd.lt
  obtain ⟨vk, vv, rfl, hk, hvv⟩ := hx
  obtain ⟨kB, hkB⟩ : ∃ kB, kB = keyL s := ⟨_, rfl⟩
  obtain ⟨vB, hvB⟩ : ∃ vB, vB = valL s := ⟨_, rfl⟩
  have HKV : Shh (kB = keyL s ∧ vB = valL s) := ⟨hkB, hvB⟩
  rw [← hkB] at hk
  rw [← hvB] at hvv
  clear hkB hvB
  obtain ⟨Ak, ck, rfl, _, _⟩ := hk.form
  obtain ⟨Av, cv, rfl, _, _⟩ := hvv.form
  obtain ⟨Ab, cb, rfl, _, _⟩ := sb.form
  obtain ⟨Aa, ca, rfl, _, _⟩ := sa.form
  obtain ⟨N, hN⟩ : ∃ N, w.heap.size = N := ⟨_, rfl⟩
  obtain ⟨W0, hW0⟩ : ∃ W0, W0 = w.alloc (.cells #[.slice Ak kB.length ck, .slice Av vB.length cv, .int .i64 (c : Int)] 33) := ⟨_, rfl⟩
  have b0 : Below w.heap.size w W0 := by rw [hW0]; exact below1 _ _
  have z0 : W0.heap.size = N + 1 := by rw [hW0, asz, hN]
  obtain ⟨W1, hW1⟩ : ∃ W1, W1 = W0.alloc (.cells #[.bool r, .int .i64 nn, .slice Ab bb.length cb, .slice Aa aa.length ca, .bool cp] 37) := ⟨_, rfl⟩
  have b1 : Below W0.heap.size W0 W1 := by rw [hW1]; exact below1 _ _
  have z1 : W1.heap.size = N + 2 := by rw [hW1, asz, z0]
  obtain ⟨W, hW⟩ : ∃ W, W = W1.alloc (.cells #[.slice none 0 0, .slice none 0 0, .int .i64 0] 33) := ⟨_, rfl⟩
  have b2 : Below W1.heap.size W1 W := by rw [hW]; exact below1 _ _
  have bbb := Below.chain (Below.chain b0 b1) b2
  have HC : Shh (Row W N 33 [.slice Ak kB.length ck, .slice Av vB.length cv, .int .i64 (c : Int)] ∧ Row W (N + 1) 37 [.bool r, .int .i64 nn, .slice Ab bb.length cb, .slice Aa aa.length ca, .bool cp] ∧ Row W (N + 2) 33 [.slice none 0 0, .slice none 0 0, .int .i64 0] ∧ RSt W (.agg #[.slice Ak kB.length ck, .slice Av vB.length cv, .int .i64 (c : Int)]) s (c : Int) ∧ DAt W g s c ∧ Vars W ∧ Sl W W.heap.size (.slice Ab bb.length cb) bb ∧ Sl W W.heap.size (.slice Aa aa.length ca) aa ∧ Below N w W ∧ N + 3 ≤ W.heap.size) :=
    ⟨by rw [hW, hW1, hW0]; exact ((Row.new_ hN.symm rfl).alloc _).alloc _, by rw [hW, hW1]; exact (Row.new_ z0.symm rfl).alloc _, by rw [hW]; exact Row.new_ z1.symm rfl, ⟨_, _, rfl, by rw [← HKV.out.1]; exact hk.go bbb, by rw [← HKV.out.2]; exact hvv.go bbb⟩, hd.go bbb, hv.go bbb, sb.go bbb, sa.go bbb, by rw [← hN]; exact bbb, by rw [hW, asz, z1]; omega⟩
  have HO : Shh (OffR (N + 2) (.agg #[.slice Ak kB.length ck, .slice Av vB.length cv, .int .i64 (c : Int)]) ∧ OffR g (.agg #[.slice Ak kB.length ck, .slice Av vB.length cv, .int .i64 (c : Int)])) := ⟨⟨_, _, _, rfl, hk.off (by omega), hvv.off (by omega)⟩, ho⟩
  have HVP : Shh (1 < N) := ⟨by rw [← hN]; exact hv.pos⟩
  have HG : Shh (g < N ∧ 0 < c ∧ c ≤ 1025 ∧ s.length = 64) := ⟨by omega, h0, h1, hs⟩
  have c1 := HC.out.2.1.cell 1
  have c2 := HC.out.2.1.cell 2
  have c3 := HC.out.2.1.cell 3
  have c0 := HC.out.2.1.cell 0
  simp only [List.getElem?_cons_succ, List.getElem?_cons_zero] at c0 c1 c2 c3
  clear hk hvv sb sa hd hv ho b0 b1 b2 bbb z0 z1 HKV hs hgl h0 h1
  rw [hW, hW1, hW0] at HC c0 c1 c2 c3
  cases r with
  | true =>
    go_enter Tryd.func17, Tryd.ntmps17
    obtain ⟨rw, hrow⟩ : ∃ u : List Value, u = [.bool true, .int .i64 nn, .slice Ab bb.length cb, .slice Aa aa.length ca, .bool cp] := ⟨_, rfl⟩
    go_wp2_with (first | refine wpList_load_any rfl 33 (.tmp 4) rfl N rfl 33 [.slice Ak kB.length ck, .slice Av vB.length cv, .int .i64 (c : Int)] _ HC.out.1 Tryd.underlying33 rfl info_rd ?_ | (go_at_call 57; refine (refReseed_all _ _ _ c bb aa s _ HC.out.2.2.2.1 HC.out.2.2.2.2.2.2.1 HC.out.2.2.2.2.2.2.2.1 HG.out.2.2.2).mono ?_))
    rintro e Y ⟨y, rfl, hy, bY, oy⟩
    rw [← hW0, ← hW1, ← hW] at HC c0 c1 c2 c3 bY oy
    obtain ⟨s2, hs2⟩ : ∃ s2, s2 = rsS bb aa s := ⟨_, rfl⟩
    obtain ⟨k2, hk2⟩ : ∃ k2, k2 = rsC bb aa c := ⟨_, rfl⟩
    obtain ⟨er, her⟩ : ∃ er, er = fitE bb [aa] := ⟨_, rfl⟩
    have HK : Shh (s2 = rsS bb aa s ∧ k2 = rsC bb aa c ∧ er = fitE bb [aa]) := ⟨hs2, hk2, her⟩
    rw [← hs2, ← hk2] at hy
    rw [← her]
    have hNW := HC.out.2.2.2.2.2.2.2.2.2
    have o2 := oy (N + 2) (by omega) HO.out.1
    have og := oy g (by have := HG.out; omega) HO.out.2
    have HQ : Shh (∀ q, q < w.heap.size → OffR q (.agg #[.slice Ak kB.length ck, .slice Av vB.length cv, .int .i64 (c : Int)]) → OffR q y) := ⟨fun q hq => oy q (by omega)⟩
    clear hs2 hk2 her oy hW hW1 hW0 hrow rw c0 c1 c2 c3
    obtain ⟨vk2, vv2, rfl, sk, sv⟩ := hy
    obtain ⟨q1, q2, i, e1, o21, o22⟩ := o2
    cases e1
    obtain ⟨q3, q4, i2, e2, og1, og2⟩ := og
    cases e2
    obtain ⟨kB2, hkB2⟩ : ∃ kB, kB = keyL s2 := ⟨_, rfl⟩
    obtain ⟨vB2, hvB2⟩ : ∃ vB, vB = valL s2 := ⟨_, rfl⟩
    rw [← hkB2] at sk
    rw [← hvB2] at sv
    have HS2 : Shh (kB2 = keyL s2 ∧ vB2 = valL s2) := ⟨hkB2, hvB2⟩
    clear hkB2 hvB2
    obtain ⟨Ak2, ck2, rfl, _, _⟩ := sk.form
    obtain ⟨Av2, cv2, rfl, _, _⟩ := sv.form
    obtain ⟨M, hM⟩ : ∃ M, Y.heap.size = M := ⟨_, rfl⟩
    have hMW : W.heap.size ≤ M := by have := bY.size; omega
    obtain ⟨Z, hZ⟩ : ∃ Z, Z = Y.alloc (.cells #[.slice none 0 0, .slice none 0 0, .int .i64 0] 33) := ⟨_, rfl⟩
    have bZ : Below Y.heap.size Y Z := by rw [hZ]; exact below1 _ _
    have bb2 := Below.chain bY bZ
    have HY : Shh (Row Z (N + 1) 37 [.bool true, .int .i64 nn, .slice Ab bb.length cb, .slice Aa aa.length ca, .bool cp] ∧ Row Z (N + 2) 33 [.slice none 0 0, .slice none 0 0, .int .i64 0] ∧ Row Z M 33 [.slice none 0 0, .slice none 0 0, .int .i64 0] ∧ Sl Z M (.slice Ak2 kB2.length ck2) kB2 ∧ Sl Z M (.slice Av2 vB2.length cv2) vB2 ∧ DAt Z g s c ∧ Vars Z ∧ Sl Z M (.slice Ab bb.length cb) bb ∧ Sl Z M (.slice Aa aa.length ca) aa ∧ Below N w Z ∧ Z.heap.size = M + 1 ∧ N + 3 ≤ M) :=
      ⟨HC.out.2.1.go bb2, HC.out.2.2.1.go bb2, by rw [hZ]; exact Row.new_ hM.symm rfl, by rw [← hM]; exact sk.below bZ, by rw [← hM]; exact sv.below bZ, HC.out.2.2.2.2.1.go bb2, HC.out.2.2.2.2.2.1.go bb2, by rw [← hM]; exact (HC.out.2.2.2.2.2.2.1.go bY).below bZ, by rw [← hM]; exact (HC.out.2.2.2.2.2.2.2.1.go bY).below bZ, HC.out.2.2.2.2.2.2.2.2.1.trans (bb2.mono (by omega)), by rw [hZ, asz, hM], by omega⟩
    have HF : Shh ((Off (N + 2) (.slice Ak2 kB2.length ck2) ∧ Off (N + 2) (.slice Av2 vB2.length cv2)) ∧ Off g (.slice Ak2 kB2.length ck2) ∧ Off g (.slice Av2 vB2.length cv2)) := ⟨⟨o21, o22⟩, og1, og2⟩
    clear sk sv bY bZ bb2 HC HO o21 o22 og1 og2 hNW hMW
    rw [hZ] at HY
    go_wp2_with (refine wpList_store_any rfl 33 (.tmp 8) (.tmp 24) rfl M rfl [.slice Ak2 kB2.length ck2, .slice Av2 vB2.length cv2, .int .i64 (k2 : Int)] rfl 33 [.slice none 0 0, .slice none 0 0, .int .i64 0] HY.out.2.2.1 info_rd rfl cell_slices ?_)
    intro Y2 hr8 bt _
    rw [← hZ] at HY bt
    clear hZ hM
    have HV0 : Shh (Row Y2.drew (N + 1) 37 [.bool true, .int .i64 nn, .slice Ab bb.length cb, .slice Aa aa.length ca, .bool cp] ∧ Row Y2.drew (N + 2) 33 [.slice none 0 0, .slice none 0 0, .int .i64 0] ∧ Row Y2.drew M 33 [.slice Ak2 kB2.length ck2, .slice Av2 vB2.length cv2, .int .i64 (k2 : Int)] ∧ Sl Y2.drew M (.slice Ak2 kB2.length ck2) kB2 ∧ Sl Y2.drew M (.slice Av2 vB2.length cv2) vB2 ∧ DAt Y2.drew g s c ∧ Vars Y2.drew ∧ Sl Y2.drew M (.slice Ab bb.length cb) bb ∧ Sl Y2.drew M (.slice Aa aa.length ca) aa ∧ Below N w Y2.drew ∧ M + 1 ≤ Y2.drew.heap.size ∧ N + 3 ≤ M) := by
      have hz := HY.out.2.2.2.2.2.2.2.2.2.2
      have hg := HG.out.1
      have bU : Below M Z Y2 := bt.under (by omega) (Nat.le_refl _)
      exact ⟨(HY.out.1.below bU (by omega)).drew, (HY.out.2.1.below bU (by omega)).drew, hr8.drew, HY.out.2.2.2.1.below bU.drew, HY.out.2.2.2.2.1.below bU.drew, ⟨(HY.out.2.2.2.2.2.1.row.below bU (by omega)).drew, HY.out.2.2.2.2.2.1.len⟩, (HY.out.2.2.2.2.2.2.1.but (g := M) (w := Z) (by rw [hz.1]; exact bt) (by have := HVP.out; omega)).drew, HY.out.2.2.2.2.2.2.2.1.below bU.drew, HY.out.2.2.2.2.2.2.2.2.1.below bU.drew, (HY.out.2.2.2.2.2.2.2.2.2.1.trans (bU.mono (by omega))).drew, by have := bt.size; show M + 1 ≤ Y2.heap.size; omega, hz.2⟩
    clear hr8 bt HY
    go_wp2
    refine wp_region_held_drew (S := fun w' => Row w' (N + 1) 37 [.bool true, .int .i64 nn, .slice Ab bb.length cb, .slice Aa aa.length ca, .bool cp] ∧ Row w' M 33 [.slice Ak2 kB2.length ck2, .slice Av2 vB2.length cv2, .int .i64 (k2 : Int)]) (by kernel_rfl) ⟨HV0.out.1, HV0.out.2.2.1⟩ (fun hS => ?_)
    clear hS
    have HV := HV0
    generalize World.drew _ = V at HV ⊢
    clear HV0
    have rO := HV.out.1
    have r8 := HV.out.2.2.1
    refine held_value 0 _ _ (some 26) (.agg #[.slice Ak2 kB2.length ck2, .slice Av2 vB2.length cv2, .int .i64 (k2 : Int)]) (by kernel_rfl) (by rfl) (by kernel_rfl) (fun w hS => run_loadRow rfl hS.2 Tryd.underlying33 rfl info_rd) (fun _ _ _ _ h => h) (⟨rO, r8⟩) ?_
    simp only [Act.put, List.setIfInBounds_toArray, List.set_cons_zero, List.set_cons_succ]
    refine held_value 1 _ _ (some 27) (.pointer (some ⟨g, 0, none⟩)) (by kernel_rfl) (by rfl) (by kernel_rfl) (fun w hS => by first | kernel_rfl | go_simp) (fun _ _ _ _ h => h) (⟨rO, r8⟩) ?_
    simp only [Act.put, List.setIfInBounds_toArray, List.set_cons_zero, List.set_cons_succ]
    refine held_value 2 _ _ (some 28) (.pointer (some ⟨N + 1, 2, none⟩)) (by kernel_rfl) (by rfl) (by kernel_rfl) (fun w hS => by first | kernel_rfl | go_simp) (fun _ _ _ _ h => h) (⟨rO, r8⟩) ?_
    simp only [Act.put, List.setIfInBounds_toArray, List.set_cons_zero, List.set_cons_succ]
    refine held_value 3 _ _ (some 29) (.slice Ab bb.length cb) (by kernel_rfl) (by rfl) (by kernel_rfl) (fun w hS => by have h2 : w.cell? ⟨N + 1, 2, none⟩ = some (.slice Ab bb.length cb) := hS.1.cell 2; go_simp) (fun _ _ _ _ h => h) (⟨rO, r8⟩) ?_
    simp only [Act.put, List.setIfInBounds_toArray, List.set_cons_zero, List.set_cons_succ]
    refine held_value 4 _ _ (some 30) (.pointer (some ⟨N + 1, 3, none⟩)) (by kernel_rfl) (by rfl) (by kernel_rfl) (fun w hS => by first | kernel_rfl | go_simp) (fun _ _ _ _ h => h) (⟨rO, r8⟩) ?_
    simp only [Act.put, List.setIfInBounds_toArray, List.set_cons_zero, List.set_cons_succ]
    refine held_value 5 _ _ (some 31) (.slice Aa aa.length ca) (by kernel_rfl) (by rfl) (by kernel_rfl) (fun w hS => by have h2 : w.cell? ⟨N + 1, 3, none⟩ = some (.slice Aa aa.length ca) := hS.1.cell 3; go_simp) (fun _ _ _ _ h => h) (⟨rO, r8⟩) ?_
    simp only [Act.put, List.setIfInBounds_toArray, List.set_cons_zero, List.set_cons_succ]
    refine held_value 7 _ _ (some 33) (.int .i64 er) (by kernel_rfl) (by rfl) (by kernel_rfl) (fun w hS => by first | kernel_rfl | go_simp) (fun _ _ _ _ h => h) (⟨rO, r8⟩) ?_
    simp only [Act.put, List.setIfInBounds_toArray, List.set_cons_zero, List.set_cons_succ]
    refine held_one 6 (by kernel_rfl) ?_
    refine step_call 6 _ _ (some 32) 58 #[.pointer (some ⟨g, 0, none⟩), .slice Ab bb.length cb, .slice Aa aa.length ca] (by rfl) (by kernel_rfl) (by first | kernel_rfl | go_simp) ?_
    refine (reseed_all g c _ _ bb aa s V HV.out.2.2.2.2.2.1 (HV.out.2.2.2.2.2.2.2.1.more (by have := HV.out.2.2.2.2.2.2.2.2.2.2; omega)) (HV.out.2.2.2.2.2.2.2.2.1.more (by have := HV.out.2.2.2.2.2.2.2.2.2.2; omega)) HV.out.2.2.2.2.2.2.1 HG.out.2.1).mono ?_
    rintro e Y1 ⟨rfl, hdy, byy⟩
    rw [← HK.out.2.2]
    rw [← HK.out.1, ← HK.out.2.1] at hdy
    have hzz := HV.out.2.2.2.2.2.2.2.2.2.2
    have hgg := HG.out.1
    have HY1 : Shh (DAt Y1 g s2 k2 ∧ Sl Y1 Y1.heap.size (.slice Ak2 kB2.length ck2) kB2 ∧ Sl Y1 Y1.heap.size (.slice Av2 vB2.length cv2) vB2 ∧ But N g w Y1 ∧ N + 3 ≤ Y1.heap.size ∧ 0 < k2 ∧ k2 ≤ 1025) := ⟨hdy, ((HV.out.2.2.2.1.more (by omega)).but HF.out.2.1 byy).more byy.size, ((HV.out.2.2.2.2.1.more (by omega)).but HF.out.2.2 byy).more byy.size, (But.of HV.out.2.2.2.2.2.2.2.2.2.1 g).trans (byy.mono (by omega)), by have := byy.size; omega, by rw [HK.out.2.1]; exact rsC_ok bb aa c ⟨HG.out.2.1, HG.out.2.2.1⟩⟩
    replace rO := byy.row rO rO.lt (by omega)
    replace r8 := byy.row r8 r8.lt (by omega)
    have r6 := byy.row HV.out.2.1 HV.out.2.1.lt (by omega)
    have hMY : M + 1 ≤ Y1.heap.size := by have := byy.size; omega
    clear hdy byy hgg
    refine ⟨_, rfl, ⟨rO, r8⟩, ?_⟩
    simp only [Act.put, List.setIfInBounds_toArray, List.set_cons_zero, List.set_cons_succ]
    refine held_value 8 _ _ (some 34) (.bool true) (by kernel_rfl) (by rfl) (by kernel_rfl) (fun w hS => by go_simp) (fun _ _ _ _ h => h) (⟨rO, r8⟩) ?_
    simp only [Act.put, List.setIfInBounds_toArray, List.set_cons_zero, List.set_cons_succ]
    refine held_value 9 _ _ (some 35) (.bool true) (by kernel_rfl) (by rfl) (by kernel_rfl) (fun w hS => by first | kernel_rfl | go_simp) (fun _ _ _ _ h => h) (⟨rO, r8⟩) ?_
    simp only [Act.put, List.setIfInBounds_toArray, List.set_cons_zero, List.set_cons_succ]
    refine held_value 10 _ _ (some 36) (.pointer (some ⟨g, 0, none⟩)) (by kernel_rfl) (by rfl) (by kernel_rfl) (fun w hS => by first | kernel_rfl | go_simp) (fun _ _ _ _ h => h) (⟨rO, r8⟩) ?_
    simp only [Act.put, List.setIfInBounds_toArray, List.set_cons_zero, List.set_cons_succ]
    refine held_value 12 _ _ (some 38) (.pointer (some ⟨M, 2, none⟩)) (by kernel_rfl) (by rfl) (by kernel_rfl) (fun w hS => by first | kernel_rfl | go_simp) (fun _ _ _ _ h => h) (⟨rO, r8⟩) ?_
    simp only [Act.put, List.setIfInBounds_toArray, List.set_cons_zero, List.set_cons_succ]
    refine held_value 13 _ _ (some 39) (.int .i64 (k2 : Int)) (by kernel_rfl) (by rfl) (by kernel_rfl) (fun w hS => by have h2 : w.cell? ⟨M, 2, none⟩ = some (.int .i64 (k2 : Int)) := hS.2.cell 2; go_simp) (fun _ _ _ _ h => h) (⟨rO, r8⟩) ?_
    simp only [Act.put, List.setIfInBounds_toArray, List.set_cons_zero, List.set_cons_succ]
    refine held_one 11 (by kernel_rfl) ?_
    refine step_call 11 _ _ (some 37) 46 #[.pointer (some ⟨g, 0, none⟩)] (by rfl) (by kernel_rfl) (by first | kernel_rfl | go_simp) ?_
    refine (dr_count_any g k2 s2 Y1 HY1.out.1 HY1.out.2.2.2.2.2.1).mono ?_
    rintro e Y2 ⟨rfl, hq⟩
    obtain rfl : Y1 = Y2 := hq
    refine ⟨_, rfl, ⟨rO, r8⟩, ?_⟩
    simp only [Act.put, List.setIfInBounds_toArray, List.set_cons_zero, List.set_cons_succ]
    refine held_value 14 _ _ (some 40) (.bool true) (by kernel_rfl) (by rfl) (by kernel_rfl) (fun w hS => by go_simp) (fun _ _ _ _ h => h) (⟨rO, r8⟩) ?_
    simp only [Act.put, List.setIfInBounds_toArray, List.set_cons_zero, List.set_cons_succ]
    refine held_value 15 _ _ (some 41) (.bool true) (by kernel_rfl) (by rfl) (by kernel_rfl) (fun w hS => by first | kernel_rfl | go_simp) (fun _ _ _ _ h => h) (⟨rO, r8⟩) ?_
    simp only [Act.put, List.setIfInBounds_toArray, List.set_cons_zero, List.set_cons_succ]
    refine held_one 16 (by kernel_rfl) ?_
    refine step_storeRow 16 33 (.tmp 6) (.tmp 26) (by rfl) (by kernel_rfl) (_) rfl ([.slice Ak2 kB2.length ck2, .slice Av2 vB2.length cv2, .int .i64 (k2 : Int)]) rfl 33 ([.slice none 0 0, .slice none 0 0, .int .i64 0]) r6 (info_rd) (rfl) cell_slices ?_
    intro Y3 rS bt zt
    replace rO := bt.row rO rO.lt (by omega)
    replace r8 := bt.row r8 r8.lt (by omega)
    refine ⟨⟨rO, r8⟩, ?_⟩
    refine held_value 17 _ _ (some 7) (.bool true) (by kernel_rfl) (by rfl) (by kernel_rfl) (fun w hS => by first | kernel_rfl | go_simp) (fun _ _ _ _ h => h) (⟨rO, r8⟩) ?_
    simp only [Act.put, List.setIfInBounds_toArray, List.set_cons_zero, List.set_cons_succ]
    refine wpAnyH_done (by kernel_rfl) ?_ _
    have F : Shh (Row Y3 (N + 2) 33 [.slice Ak2 kB2.length ck2, .slice Av2 vB2.length cv2, .int .i64 (k2 : Int)] ∧ Sl Y3 Y3.heap.size (.slice Ak2 kB2.length ck2) (keyL s2) ∧ Sl Y3 Y3.heap.size (.slice Av2 vB2.length cv2) (valL s2) ∧ DAt Y3 g s2 k2 ∧ (0 < k2 ∧ k2 ≤ 1025) ∧ But w.heap.size g w Y3) := ⟨rS, by rw [← HS2.out.1]; exact (HY1.out.2.1.but HF.out.1.1 bt).more bt.size, by rw [← HS2.out.2]; exact (HY1.out.2.2.1.but HF.out.1.2 bt).more bt.size, HY1.out.1.other bt (by have := HG.out; omega), HY1.out.2.2.2.2.2, by rw [hN]; exact HY1.out.2.2.2.1.trans (But.of (bt.under (by omega) (by omega)) g)⟩
    clear zt bt rS rO r8 r6 HY1 HV hzz hMY
    go_wp2
    exact ret_row_slot Tryd.results17 rfl rfl rfl F.out.1 Tryd.underlying33 rfl info_rd ⟨_, s2, k2, rfl, ⟨_, _, rfl, F.out.2.1, F.out.2.2.1⟩, F.out.2.2.2.1, F.out.2.2.2.2.1.1, F.out.2.2.2.2.1.2, F.out.2.2.2.2.2, HQ.out⟩
  | false =>
    go_enter Tryd.func17, Tryd.ntmps17
    go_wp2_with (first | refine wpList_load_any rfl 33 (.tmp 4) rfl N rfl 33 [.slice Ak kB.length ck, .slice Av vB.length cv, .int .i64 (c : Int)] _ HC.out.1 Tryd.underlying33 rfl info_rd ?_ | (go_at_call 59; refine (refDraw_all c nn _ _ aa s _ HC.out.2.2.2.1 HC.out.2.2.2.2.2.2.2.1 HG.out.2.2.2).mono ?_))
    rintro e Y ⟨vx, y, rfl, hx0, hy, bY, oy⟩
    rw [← hW0, ← hW1, ← hW] at HC c0 c1 c2 c3 bY oy
    obtain ⟨s2, hs2⟩ : ∃ s2, s2 = dwS nn aa s c := ⟨_, rfl⟩
    obtain ⟨k2, hk2⟩ : ∃ k2, k2 = dwC nn aa c := ⟨_, rfl⟩
    obtain ⟨er, her⟩ : ∃ er, er = drawE nn aa c := ⟨_, rfl⟩
    obtain ⟨bx, hbx⟩ : ∃ bx, bx = dwB nn aa s c := ⟨_, rfl⟩
    have HK : Shh (s2 = dwS nn aa s c ∧ k2 = dwC nn aa c ∧ er = drawE nn aa c ∧ bx = dwB nn aa s c) := ⟨hs2, hk2, her, hbx⟩
    rw [← hs2, ← hk2] at hy
    rw [← hbx] at hx0
    rw [← her]
    have hNW := HC.out.2.2.2.2.2.2.2.2.2
    have o2 := (oy (N + 2) (by omega)).2 HO.out.1
    have og := (oy g (by have := HG.out; omega)).2 HO.out.2
    have HQ : Shh (∀ q, q < w.heap.size → OffR q (.agg #[.slice Ak kB.length ck, .slice Av vB.length cv, .int .i64 (c : Int)]) → OffR q y) := ⟨fun q hq => (oy q (by omega)).2⟩
    have ox := (oy g (by have := HG.out; omega)).1
    have ox2 := (oy (N + 2) (by omega)).1
    clear hs2 hk2 her hbx oy hW hW1 hW0 c0 c1 c2 c3
    obtain ⟨Ax, cx, rfl, _, _⟩ := hx0.form
    obtain ⟨vk2, vv2, rfl, sk, sv⟩ := hy
    obtain ⟨q1, q2, i, e1, o21, o22⟩ := o2
    cases e1
    obtain ⟨q3, q4, i2, e2, og1, og2⟩ := og
    cases e2
    obtain ⟨kB2, hkB2⟩ : ∃ kB, kB = keyL s2 := ⟨_, rfl⟩
    obtain ⟨vB2, hvB2⟩ : ∃ vB, vB = valL s2 := ⟨_, rfl⟩
    rw [← hkB2] at sk
    rw [← hvB2] at sv
    have HS2 : Shh (kB2 = keyL s2 ∧ vB2 = valL s2) := ⟨hkB2, hvB2⟩
    clear hkB2 hvB2
    obtain ⟨Ak2, ck2, rfl, _, _⟩ := sk.form
    obtain ⟨Av2, cv2, rfl, _, _⟩ := sv.form
    obtain ⟨M, hM⟩ : ∃ M, Y.heap.size = M := ⟨_, rfl⟩
    have hMW : W.heap.size ≤ M := by have := bY.size; omega
    obtain ⟨Z, hZ⟩ : ∃ Z, Z = Y.alloc (.cells #[.slice none 0 0, .slice none 0 0, .int .i64 0] 33) := ⟨_, rfl⟩
    have bZ : Below Y.heap.size Y Z := by rw [hZ]; exact below1 _ _
    have bb2 := Below.chain bY bZ
    have HY : Shh (Row Z (N + 1) 37 [.bool false, .int .i64 nn, .slice Ab bb.length cb, .slice Aa aa.length ca, .bool cp] ∧ Row Z (N + 2) 33 [.slice none 0 0, .slice none 0 0, .int .i64 0] ∧ Row Z M 33 [.slice none 0 0, .slice none 0 0, .int .i64 0] ∧ Sl Z M (.slice Ak2 kB2.length ck2) kB2 ∧ Sl Z M (.slice Av2 vB2.length cv2) vB2 ∧ DAt Z g s c ∧ Vars Z ∧ Sl Z M (.slice Ax bx.length cx) bx ∧ Sl Z M (.slice Aa aa.length ca) aa ∧ Below N w Z ∧ Z.heap.size = M + 1 ∧ N + 3 ≤ M) :=
      ⟨HC.out.2.1.go bb2, HC.out.2.2.1.go bb2, by rw [hZ]; exact Row.new_ hM.symm rfl, by rw [← hM]; exact sk.below bZ, by rw [← hM]; exact sv.below bZ, HC.out.2.2.2.2.1.go bb2, HC.out.2.2.2.2.2.1.go bb2, by rw [← hM]; exact hx0.below bZ, by rw [← hM]; exact (HC.out.2.2.2.2.2.2.2.1.go bY).below bZ, HC.out.2.2.2.2.2.2.2.2.1.trans (bb2.mono (by omega)), by rw [hZ, asz, hM], by omega⟩
    have HF : Shh ((Off (N + 2) (.slice Ak2 kB2.length ck2) ∧ Off (N + 2) (.slice Av2 vB2.length cv2)) ∧ (Off g (.slice Ak2 kB2.length ck2) ∧ Off g (.slice Av2 vB2.length cv2)) ∧ Off g (.slice Ax bx.length cx)) := ⟨⟨o21, o22⟩, ⟨og1, og2⟩, ox⟩
    clear sk sv bY bZ bb2 HC HO o21 o22 og1 og2 hNW hMW hx0 ox ox2
    rw [hZ] at HY
    go_wp2_with (refine wpList_store_any rfl 33 (.tmp 11) (.tmp 50) rfl M rfl [.slice Ak2 kB2.length ck2, .slice Av2 vB2.length cv2, .int .i64 (k2 : Int)] rfl 33 [.slice none 0 0, .slice none 0 0, .int .i64 0] HY.out.2.2.1 info_rd rfl cell_slices ?_)
    intro Y2 hr8 bt zt
    rw [← hZ] at HY bt
    clear hZ hM
    have HV0 : Shh (Row Y2 (N + 1) 37 [.bool false, .int .i64 nn, .slice Ab bb.length cb, .slice Aa aa.length ca, .bool cp] ∧ Row Y2 (N + 2) 33 [.slice none 0 0, .slice none 0 0, .int .i64 0] ∧ Row Y2 M 33 [.slice Ak2 kB2.length ck2, .slice Av2 vB2.length cv2, .int .i64 (k2 : Int)] ∧ Sl Y2 M (.slice Ak2 kB2.length ck2) kB2 ∧ Sl Y2 M (.slice Av2 vB2.length cv2) vB2 ∧ DAt Y2 g s c ∧ Vars Y2 ∧ Sl Y2 M (.slice Ax bx.length cx) bx ∧ Sl Y2 Y2.heap.size (.slice Aa aa.length ca) aa ∧ Below N w Y2 ∧ M + 1 ≤ Y2.heap.size ∧ N + 3 ≤ M) := by
      have hz := HY.out.2.2.2.2.2.2.2.2.2.2
      have hg := HG.out.1
      have bU : Below M Z Y2 := bt.under (by omega) (Nat.le_refl _)
      exact ⟨HY.out.1.below bU (by omega), HY.out.2.1.below bU (by omega), hr8, HY.out.2.2.2.1.below bU, HY.out.2.2.2.2.1.below bU, ⟨HY.out.2.2.2.2.2.1.row.below bU (by omega), HY.out.2.2.2.2.2.1.len⟩, HY.out.2.2.2.2.2.2.1.but (g := M) (w := Z) (by rw [hz.1]; exact bt) (by have := HVP.out; omega), HY.out.2.2.2.2.2.2.2.1.below bU, (HY.out.2.2.2.2.2.2.2.2.1.below bU).more (by omega), HY.out.2.2.2.2.2.2.2.2.2.1.trans (bU.mono (by omega)), by omega, hz.2⟩
    have d1 := HV0.out.1.cell 1
    have d3 := HV0.out.1.cell 3
    simp only [List.getElem?_cons_succ, List.getElem?_cons_zero] at d1 d3
    clear hr8 bt HY zt
    go_wp2_with (go_at_call 16; refine (draw_all g c nn _ aa s Y2 HV0.out.2.2.2.2.2.1 HV0.out.2.2.2.2.2.2.2.2.1 HV0.out.2.2.2.2.2.2.1 HG.out.2.1).mono ?_)
    rintro e Y3 ⟨vd, rfl, sd, hd3, b3⟩
    rw [← HK.out.2.2.1]
    rw [← HK.out.2.2.2] at sd
    rw [← HK.out.1, ← HK.out.2.1] at hd3
    obtain ⟨Ad, cd, rfl, _, _⟩ := sd.form
    have HU : Shh (Row Y3.drew (N + 2) 33 [.slice none 0 0, .slice none 0 0, .int .i64 0] ∧ Row Y3.drew M 33 [.slice Ak2 kB2.length ck2, .slice Av2 vB2.length cv2, .int .i64 (k2 : Int)] ∧ Sl Y3.drew Y3.drew.heap.size (.slice Ak2 kB2.length ck2) kB2 ∧ Sl Y3.drew Y3.drew.heap.size (.slice Av2 vB2.length cv2) vB2 ∧ DAt Y3.drew g s2 k2 ∧ Sl Y3.drew Y3.drew.heap.size (.slice Ax bx.length cx) bx ∧ Sl Y3.drew Y3.drew.heap.size (.slice Ad bx.length cd) bx ∧ But N g w Y3.drew ∧ (0 < k2 ∧ k2 ≤ 1025) ∧ M + 1 ≤ Y3.drew.heap.size ∧ N + 3 ≤ M) := by
      have hz := HV0.out.2.2.2.2.2.2.2.2.2.2
      have hg := HG.out.1
      have hs3 := b3.size
      have hMM : M ≤ Y2.heap.size := by omega
      have f1 : Sl Y3 Y3.heap.size (.slice Ak2 kB2.length ck2) kB2 := ((HV0.out.2.2.2.1.more hMM).but HF.out.2.1.1 b3).more hs3
      have f2 : Sl Y3 Y3.heap.size (.slice Av2 vB2.length cv2) vB2 := ((HV0.out.2.2.2.2.1.more hMM).but HF.out.2.1.2 b3).more hs3
      have f3 : Sl Y3 Y3.heap.size (.slice Ax bx.length cx) bx := ((HV0.out.2.2.2.2.2.2.2.1.more hMM).but HF.out.2.2 b3).more hs3
      have f4 : But N g w Y3 := (But.of HV0.out.2.2.2.2.2.2.2.2.2.1 g).trans (b3.mono (by omega))
      exact ⟨(b3.row HV0.out.2.1 HV0.out.2.1.lt (by omega)).drew, (b3.row HV0.out.2.2.1 HV0.out.2.2.1.lt (by omega)).drew, f1, f2, ⟨hd3.row.drew, hd3.len⟩, f3, sd, f4.trans (But.of (Below.drew (Below.refl _ _)) g), by rw [HK.out.2.1]; exact dwC_ok nn aa c ⟨HG.out.2.1, HG.out.2.2.1⟩, by show M + 1 ≤ Y3.heap.size; omega, hz.2⟩
    clear sd hd3 b3 HV0 d1 d3
    go_wp2
    refine wp_region_held_drew (S := fun w' => Row w' M 33 [.slice Ak2 kB2.length ck2, .slice Av2 vB2.length cv2, .int .i64 (k2 : Int)]) (by kernel_rfl) HU.out.2.1 (fun hS => ?_)
    clear hS
    have HV := HU
    generalize World.drew _ = V at HV ⊢
    clear HU
    have r6 := HV.out.1
    have r8 := HV.out.2.1
    have hkk := HV.out.2.2.2.2.2.2.2.2.1
    have hzz := HV.out.2.2.2.2.2.2.2.2.2
    have hk0 : (0 : Int) ≤ 1025 - (k2 : Int) := by omega
    have hkw : IntKind.i64.wrap (1025 - (k2 : Int)) = 1025 - (k2 : Int) := by rw [IntKind.wrap_i64]; omega
    refine held_value 0 _ _ (some 61) (.agg #[.slice Ak2 kB2.length ck2, .slice Av2 vB2.length cv2, .int .i64 (k2 : Int)]) (by kernel_rfl) (by rfl) (by kernel_rfl) (fun w hS => run_loadRow rfl hS Tryd.underlying33 rfl info_rd) (fun _ _ _ _ h => h) (r8) ?_
    simp only [Act.put, List.setIfInBounds_toArray, List.set_cons_zero, List.set_cons_succ]
    refine held_value 1 _ _ (some 62) (.slice Ad bx.length cd) (by kernel_rfl) (by rfl) (by kernel_rfl) (fun w hS => by first | kernel_rfl | go_simp) (fun _ _ _ _ h => h) (r8) ?_
    simp only [Act.put, List.setIfInBounds_toArray, List.set_cons_zero, List.set_cons_succ]
    refine held_value 2 _ _ (some 63) (.slice Ax bx.length cx) (by kernel_rfl) (by rfl) (by kernel_rfl) (fun w hS => by first | kernel_rfl | go_simp) (fun _ _ _ _ h => h) (r8) ?_
    simp only [Act.put, List.setIfInBounds_toArray, List.set_cons_zero, List.set_cons_succ]
    refine held_one 3 (by kernel_rfl) ?_
    refine step_call 3 _ _ (some 64) 60 #[.slice Ad bx.length cd, .slice Ax bx.length cx] (by rfl) (by kernel_rfl) (by first | kernel_rfl | go_simp) ?_
    refine (refEqual_yes5 _ _ _ _ bx V HV.out.2.2.2.2.2.2.1 HV.out.2.2.2.2.2.1).mono ?_
    rintro e Y1 ⟨rfl, hq⟩
    obtain rfl : V = Y1 := hq
    refine ⟨_, rfl, r8, ?_⟩
    simp only [Act.put, List.setIfInBounds_toArray, List.set_cons_zero, List.set_cons_succ]
    refine held_value 4 _ _ (some 65) (.bool true) (by kernel_rfl) (by rfl) (by kernel_rfl) (fun w hS => by first | kernel_rfl | go_simp) (fun _ _ _ _ h => h) (r8) ?_
    simp only [Act.put, List.setIfInBounds_toArray, List.set_cons_zero, List.set_cons_succ]
    refine held_value 5 _ _ (some 66) (.int .i64 er) (by kernel_rfl) (by rfl) (by kernel_rfl) (fun w hS => by first | kernel_rfl | go_simp) (fun _ _ _ _ h => h) (r8) ?_
    simp only [Act.put, List.setIfInBounds_toArray, List.set_cons_zero, List.set_cons_succ]
    refine held_value 6 _ _ (some 67) (.int .i64 er) (by kernel_rfl) (by rfl) (by kernel_rfl) (fun w hS => by first | kernel_rfl | go_simp) (fun _ _ _ _ h => h) (r8) ?_
    simp only [Act.put, List.setIfInBounds_toArray, List.set_cons_zero, List.set_cons_succ]
    refine held_value 7 _ _ (some 68) (.bool true) (by kernel_rfl) (by rfl) (by kernel_rfl) (fun w hS => by go_simp) (fun _ _ _ _ h => h) (r8) ?_
    simp only [Act.put, List.setIfInBounds_toArray, List.set_cons_zero, List.set_cons_succ]
    refine held_value 8 _ _ (some 69) (.bool true) (by kernel_rfl) (by rfl) (by kernel_rfl) (fun w hS => by first | kernel_rfl | go_simp) (fun _ _ _ _ h => h) (r8) ?_
    simp only [Act.put, List.setIfInBounds_toArray, List.set_cons_zero, List.set_cons_succ]
    refine held_value 9 _ _ (some 70) (.bool true) (by kernel_rfl) (by rfl) (by kernel_rfl) (fun w hS => by first | kernel_rfl | go_simp) (fun _ _ _ _ h => h) (r8) ?_
    simp only [Act.put, List.setIfInBounds_toArray, List.set_cons_zero, List.set_cons_succ]
    refine held_value 10 _ _ (some 71) (.pointer (some ⟨g, 0, none⟩)) (by kernel_rfl) (by rfl) (by kernel_rfl) (fun w hS => by first | kernel_rfl | go_simp) (fun _ _ _ _ h => h) (r8) ?_
    simp only [Act.put, List.setIfInBounds_toArray, List.set_cons_zero, List.set_cons_succ]
    refine held_value 12 _ _ (some 73) (.pointer (some ⟨M, 2, none⟩)) (by kernel_rfl) (by rfl) (by kernel_rfl) (fun w hS => by first | kernel_rfl | go_simp) (fun _ _ _ _ h => h) (r8) ?_
    simp only [Act.put, List.setIfInBounds_toArray, List.set_cons_zero, List.set_cons_succ]
    refine held_value 13 _ _ (some 74) (.int .i64 (k2 : Int)) (by kernel_rfl) (by rfl) (by kernel_rfl) (fun w hS => by have h2 : w.cell? ⟨M, 2, none⟩ = some (.int .i64 (k2 : Int)) := hS.cell 2; go_simp) (fun _ _ _ _ h => h) (r8) ?_
    simp only [Act.put, List.setIfInBounds_toArray, List.set_cons_zero, List.set_cons_succ]
    refine held_one 11 (by kernel_rfl) ?_
    refine step_call 11 _ _ (some 72) 46 #[.pointer (some ⟨g, 0, none⟩)] (by rfl) (by kernel_rfl) (by first | kernel_rfl | go_simp) ?_
    refine (dr_count_any g k2 s2 V HV.out.2.2.2.2.1 hkk.1).mono ?_
    rintro e Y2 ⟨rfl, hq⟩
    obtain rfl : V = Y2 := hq
    refine ⟨_, rfl, r8, ?_⟩
    simp only [Act.put, List.setIfInBounds_toArray, List.set_cons_zero, List.set_cons_succ]
    refine held_value 14 _ _ (some 75) (.bool true) (by kernel_rfl) (by rfl) (by kernel_rfl) (fun w hS => by go_simp) (fun _ _ _ _ h => h) (r8) ?_
    simp only [Act.put, List.setIfInBounds_toArray, List.set_cons_zero, List.set_cons_succ]
    refine held_value 15 _ _ (some 76) (.bool true) (by kernel_rfl) (by rfl) (by kernel_rfl) (fun w hS => by first | kernel_rfl | go_simp) (fun _ _ _ _ h => h) (r8) ?_
    simp only [Act.put, List.setIfInBounds_toArray, List.set_cons_zero, List.set_cons_succ]
    refine held_value 16 _ _ (some 77) (.bool true) (by kernel_rfl) (by rfl) (by kernel_rfl) (fun w hS => by first | kernel_rfl | go_simp) (fun _ _ _ _ h => h) (r8) ?_
    simp only [Act.put, List.setIfInBounds_toArray, List.set_cons_zero, List.set_cons_succ]
    refine held_value 17 _ _ (some 78) (.pointer (some ⟨g, 0, none⟩)) (by kernel_rfl) (by rfl) (by kernel_rfl) (fun w hS => by first | kernel_rfl | go_simp) (fun _ _ _ _ h => h) (r8) ?_
    simp only [Act.put, List.setIfInBounds_toArray, List.set_cons_zero, List.set_cons_succ]
    refine held_value 19 _ _ (some 80) (.pointer (some ⟨M, 2, none⟩)) (by kernel_rfl) (by rfl) (by kernel_rfl) (fun w hS => by first | kernel_rfl | go_simp) (fun _ _ _ _ h => h) (r8) ?_
    simp only [Act.put, List.setIfInBounds_toArray, List.set_cons_zero, List.set_cons_succ]
    refine held_value 20 _ _ (some 81) (.int .i64 (k2 : Int)) (by kernel_rfl) (by rfl) (by kernel_rfl) (fun w hS => by have h2 : w.cell? ⟨M, 2, none⟩ = some (.int .i64 (k2 : Int)) := hS.cell 2; go_simp) (fun _ _ _ _ h => h) (r8) ?_
    simp only [Act.put, List.setIfInBounds_toArray, List.set_cons_zero, List.set_cons_succ]
    refine held_value 21 _ _ (some 82) (.int .i64 (1025 - (k2 : Int))) (by kernel_rfl) (by rfl) (by kernel_rfl) (fun w hS => by go_simp) (fun _ _ _ _ h => h) (r8) ?_
    simp only [Act.put, List.setIfInBounds_toArray, List.set_cons_zero, List.set_cons_succ]
    refine held_value 22 _ _ (some 83) (.int .i64 (1025 - (k2 : Int))) (by kernel_rfl) (by rfl) (by kernel_rfl) (fun w hS => run_max5 rfl rfl hk0) (fun _ _ _ _ h => h) (r8) ?_
    simp only [Act.put, List.setIfInBounds_toArray, List.set_cons_zero, List.set_cons_succ]
    refine held_one 18 (by kernel_rfl) ?_
    refine step_call 18 _ _ (some 79) 47 #[.pointer (some ⟨g, 0, none⟩)] (by rfl) (by kernel_rfl) (by first | kernel_rfl | go_simp) ?_
    refine (dr_left_any g k2 s2 V HV.out.2.2.2.2.1 hkk.1 hkk.2).mono ?_
    rintro e Y3 ⟨rfl, hq⟩
    obtain rfl : V = Y3 := hq
    refine ⟨_, rfl, r8, ?_⟩
    simp only [Act.put, List.setIfInBounds_toArray, List.set_cons_zero, List.set_cons_succ]
    refine held_value 23 _ _ (some 84) (.bool true) (by kernel_rfl) (by rfl) (by kernel_rfl) (fun w hS => by go_simp) (fun _ _ _ _ h => h) (r8) ?_
    simp only [Act.put, List.setIfInBounds_toArray, List.set_cons_zero, List.set_cons_succ]
    refine held_value 24 _ _ (some 85) (.bool true) (by kernel_rfl) (by rfl) (by kernel_rfl) (fun w hS => by first | kernel_rfl | go_simp) (fun _ _ _ _ h => h) (r8) ?_
    simp only [Act.put, List.setIfInBounds_toArray, List.set_cons_zero, List.set_cons_succ]
    refine held_one 25 (by kernel_rfl) ?_
    refine step_storeRow 25 33 (.tmp 6) (.tmp 61) (by rfl) (by kernel_rfl) (_) rfl ([.slice Ak2 kB2.length ck2, .slice Av2 vB2.length cv2, .int .i64 (k2 : Int)]) rfl 33 ([.slice none 0 0, .slice none 0 0, .int .i64 0]) r6 (info_rd) (rfl) cell_slices ?_
    intro Y4 rS bt zt
    replace r8 := bt.row r8 r8.lt (by omega)
    refine ⟨r8, ?_⟩
    refine held_value 26 _ _ (some 7) (.bool true) (by kernel_rfl) (by rfl) (by kernel_rfl) (fun w hS => by first | kernel_rfl | go_simp) (fun _ _ _ _ h => h) (r8) ?_
    simp only [Act.put, List.setIfInBounds_toArray, List.set_cons_zero, List.set_cons_succ]
    refine wpAnyH_done (by kernel_rfl) ?_ _
    have F : Shh (Row Y4 (N + 2) 33 [.slice Ak2 kB2.length ck2, .slice Av2 vB2.length cv2, .int .i64 (k2 : Int)] ∧ Sl Y4 Y4.heap.size (.slice Ak2 kB2.length ck2) (keyL s2) ∧ Sl Y4 Y4.heap.size (.slice Av2 vB2.length cv2) (valL s2) ∧ DAt Y4 g s2 k2 ∧ (0 < k2 ∧ k2 ≤ 1025) ∧ But w.heap.size g w Y4) := ⟨rS, by rw [← HS2.out.1]; exact (HV.out.2.2.1.but HF.out.1.1 bt).more bt.size, by rw [← HS2.out.2]; exact (HV.out.2.2.2.1.but HF.out.1.2 bt).more bt.size, HV.out.2.2.2.2.1.other bt (by have := HG.out; omega), hkk, by rw [hN]; exact HV.out.2.2.2.2.2.2.2.1.trans (But.of (bt.under (by omega) (by omega)) g)⟩
    clear zt bt rS r8 r6 HV hzz hkk hk0 hkw
    go_wp2
    exact ret_row_slot Tryd.results17 rfl rfl rfl F.out.1 Tryd.underlying33 rfl info_rd ⟨_, s2, k2, rfl, ⟨_, _, rfl, F.out.2.1, F.out.2.2.1⟩, F.out.2.2.2.1, F.out.2.2.2.2.1.1, F.out.2.2.2.2.1.2, F.out.2.2.2.2.2, HQ.out⟩
end Go.Proofs.YtanpplniedphkaaDoor
