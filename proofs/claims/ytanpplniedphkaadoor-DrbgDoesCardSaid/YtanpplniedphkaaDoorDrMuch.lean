/-
  WALK: the laws' 'much': is a script longer than is looked at?
-/
import Derived.Test.YtanpplniedphkaaDoorDrOps
namespace Go.Proofs.YtanpplniedphkaaDoor
open Go.RowKit
set_option maxRecDepth 100000
def badOp (x : OpV) : Bool := long5B x.b || long5B x.ad || decide (600 < x.n ∧ x.n ≤ 65536)
def much5B (l : List OpV) : Bool := l.any badOp || decide (40 < l.length)
def BelowIs (v : Value) (w : World) (e : Ending) (w' : World) : Prop := e = .returned v ∧ Below w.heap.size w w'
set_option maxHeartbeats 4000000 in
theorem much5_any (B : Nat) (v : Value) (l : List OpV) (w : World) (ho : Ops w B v l) (hB : B ≤ w.heap.size) (hn : l.length ≤ 9223372036854775807) : Calls Tryd.prog 11 #[v] w (BelowIs (.bool (much5B l)) w) := by
  unfold BelowIs
  obtain ⟨A, c, rfl⟩ := ho.form
  have HO : Shh (Ops w B (.slice A l.length c) l ∧ B ≤ w.heap.size) := ⟨ho, hB⟩
  clear ho
  go_enter Tryd.func11, Tryd.ntmps11
  go_wp2
  go_loopw [4, 7] (fun _ i wr => ∃ k : Nat, k ≤ l.length ∧ i = .int .i64 k ∧ Shh ((∀ j (h : j < l.length), j < k → badOp l[j] = false) ∧ Below w.heap.size w wr)) (fun _ i _ => l.length - (intOf i).toNat)
  case atStart => exact ⟨0, Nat.zero_le _, rfl, ⟨fun j _ h => absurd h (Nat.not_lt_zero _), Below.refl _ _⟩⟩
  case round =>
    obtain ⟨k, hk, rfl, HL⟩ := hrel
    by_cases hlt : k < l.length
    · obtain ⟨q, off, rfl, hq, hcc⟩ := HO.out.1.at_ (by omega)
      have hkb : badOp l[k] = true → much5B l = true := fun h => by
        unfold much5B
        rw [List.any_eq_true.2 ⟨l[k], List.getElem_mem hlt, h⟩]; rfl
      have hkn : badOp l[k] = false → ∀ j (h : j < l.length), j < k + 1 → badOp l[j] = false := fun h j hj hjk => by
        by_cases e : j = k
        · subst e; exact h
        · exact HL.out.1 j hj (by omega)
      have HK : Shh ((badOp l[k] = true → much5B l = true) ∧ (badOp l[k] = false → ∀ j (h : j < l.length), j < k + 1 → badOp l[j] = false)) := ⟨hkb, hkn⟩
      have hcells := (hcc k hlt).below (HL.out.2.mono HO.out.2) hq
      clear hkb hkn hcc
      generalize l[k] = x at *
      obtain ⟨r, nn, bb, aa, cp⟩ := x
      obtain ⟨vb, va, c0, c1, c2, c3, c4, sb, sa⟩ := hcells
      obtain ⟨Ab, cb, rfl, _, _⟩ := sb.form
      obtain ⟨Aa, ca, rfl, _, _⟩ := sa.form
      obtain ⟨nW, hnW⟩ : ∃ n, wr.heap.size = n := ⟨_, rfl⟩
      have hBW : B ≤ nW := by have := HL.out.2.size; have := HO.out.2; omega
      have bT : Below nW wr (wr.alloc (.cells #[.bool r, .int .i64 nn, .slice Ab bb.length cb, .slice Aa aa.length ca, .bool cp] 37)) := (Below.refl _ _).alloc (by omega) _
      have rT : Row (wr.alloc (.cells #[.bool r, .int .i64 nn, .slice Ab bb.length cb, .slice Aa aa.length ca, .bool cp] 37)) nW 37 [.bool r, .int .i64 nn, .slice Ab bb.length cb, .slice Aa aa.length ca, .bool cp] := Row.new_ hnW.symm rfl
      have HT : Shh (Sl (wr.alloc (.cells #[.bool r, .int .i64 nn, .slice Ab bb.length cb, .slice Aa aa.length ca, .bool cp] 37)) B (.slice Ab bb.length cb) bb ∧ Sl (wr.alloc (.cells #[.bool r, .int .i64 nn, .slice Ab bb.length cb, .slice Aa aa.length ca, .bool cp] 37)) B (.slice Aa aa.length ca) aa ∧ Below w.heap.size w (wr.alloc (.cells #[.bool r, .int .i64 nn, .slice Ab bb.length cb, .slice Aa aa.length ca, .bool cp] 37))) :=
        ⟨sb.below (bT.mono hBW), sa.below (bT.mono hBW), HL.out.2.trans (bT.mono (by have := HL.out.2.size; omega))⟩
      have h1 := rT.cell 1
      have h2 := rT.cell 2
      have h3 := rT.cell 3
      clear rT bT sb sa HL
      go_wp2_with (go_at_call 10; refine (long5_any _ _ bb _ HT.out.1).mono ?_)
      unfold KeepIs
      rintro e w2 ⟨rfl, rfl⟩
      cases hb1 : long5B bb with
      | true =>
        have HF : Shh (much5B l = true) := ⟨HK.out.1 (by unfold badOp; rw [hb1]; rfl)⟩
        have F : Shh (Below w.heap.size w (wr.alloc (.cells #[.bool r, .int .i64 nn, .slice Ab bb.length cb, .slice Aa aa.length ca, .bool cp] 37))) := ⟨HT.out.2.2⟩
        clear HK HT
        go_wp2
        go_ret
        exact ⟨by rw [HF.out]; rfl, F.out⟩
      | false =>
        go_wp2_with (go_at_call 10; refine (long5_any _ _ aa _ HT.out.2.1).mono ?_)
        unfold KeepIs
        rintro e w2 ⟨rfl, rfl⟩
        cases hb2 : long5B aa with
        | true =>
          have HF : Shh (much5B l = true) := ⟨HK.out.1 (by unfold badOp; rw [hb1, hb2]; rfl)⟩
          have F : Shh (Below w.heap.size w (wr.alloc (.cells #[.bool r, .int .i64 nn, .slice Ab bb.length cb, .slice Aa aa.length ca, .bool cp] 37))) := ⟨HT.out.2.2⟩
          clear HK HT
          go_wp2
          go_ret
          exact ⟨by rw [HF.out]; rfl, F.out⟩
        | false =>
          by_cases h6 : 600 < nn
          · by_cases h7 : nn ≤ 65536
            · skip
              have HF : Shh (much5B l = true) := ⟨HK.out.1 (by unfold badOp; rw [hb1, hb2]; simp; omega)⟩
              have F : Shh (Below w.heap.size w (wr.alloc (.cells #[.bool r, .int .i64 nn, .slice Ab bb.length cb, .slice Aa aa.length ca, .bool cp] 37))) := ⟨HT.out.2.2⟩
              clear HK HT
              go_wp2
              go_ret
              exact ⟨by rw [HF.out]; rfl, F.out⟩
            · skip
              have HF := HK.out.2 (by unfold badOp; rw [hb1, hb2]; simp; omega)
              have F : Shh ((∀ j (h : j < l.length), j < k + 1 → badOp l[j] = false) ∧ Below w.heap.size w (wr.alloc (.cells #[.bool r, .int .i64 nn, .slice Ab bb.length cb, .slice Aa aa.length ca, .bool cp] 37))) := ⟨HF, HT.out.2.2⟩
              clear HK HT HF
              go_wp2
              go_roundw
              case rel => exact ⟨k + 1, by omega, by go_num, F⟩
              case measure => simp [intOf]; omega
          · skip
            have HF := HK.out.2 (by unfold badOp; rw [hb1, hb2]; simp; omega)
            have F : Shh ((∀ j (h : j < l.length), j < k + 1 → badOp l[j] = false) ∧ Below w.heap.size w (wr.alloc (.cells #[.bool r, .int .i64 nn, .slice Ab bb.length cb, .slice Aa aa.length ca, .bool cp] 37))) := ⟨HF, HT.out.2.2⟩
            clear HK HT HF
            go_wp2
            go_roundw
            case rel => exact ⟨k + 1, by omega, by go_num, F⟩
            case measure => simp [intOf]; omega
    · obtain rfl : k = l.length := by omega
      have HF : Shh (decide ((40 : Int) < (l.length : Int)) = much5B l ∧ Below w.heap.size w wr) := ⟨by
        unfold much5B
        have h2 : l.any badOp = false := List.any_eq_false.2 (fun x hx => by
          obtain ⟨j, hj, rfl⟩ := List.getElem_of_mem hx
          simp [HL.out.1 j hj hj])
        rw [h2, Bool.false_or]
        simp
        omega, HL.out.2⟩
      clear HL
      go_wp2
      go_ret
      exact ⟨by rw [← HF.out.1]; rfl, HF.out.2⟩
end Go.Proofs.YtanpplniedphkaaDoor
