/-
  WALK: the law DrbgDoes.
-/
import Derived.Test.YtanpplniedphkaaDoorDe7
namespace Go.Proofs.YtanpplniedphkaaDoor
open Go.RowKit
set_option maxRecDepth 100000
/-- a slice whose cells may be read and stored to, in block q -/
def OwnAt (w : World) (A : Option Addr) (n q : Nat) : Prop := 0 < n → A = some ⟨q, 0, none⟩ ∧ ∃ T cs, Row w q T cs ∧ ∀ k, k < n → ∃ z : Int, cs[k]? = some (.int .u8 z)
theorem own_at {w w' : World} {v : Value} {bs : List UInt8} (h : Gives w bs v w') : ∃ A c q, v = .slice A bs.length c ∧ bs.length ≤ c ∧ (0 < bs.length → w.heap.size ≤ q ∧ q < w'.heap.size) ∧ OwnAt w' A bs.length q := by
  rcases h.1.2 with ⟨hv, h0⟩ | ⟨q, cap, cur, hv, hq, hr, hn, _, _, ht⟩
  · exact ⟨none, 0, 0, by rw [hv, h0], by omega, fun hp => by omega, fun hp => by omega⟩
  · refine ⟨_, cap, q, hv, hn, fun _ => ⟨hq, (Array.getElem?_eq_some_iff.1 hr).1⟩, fun _ => ⟨rfl, _, cur.toList, by simpa [Row] using hr, fun k hk => ?_⟩⟩
    have e : (cur.toList.take (bs.length * 1))[k]? = cur.toList[k]? := by rw [List.getElem?_take]; simp; omega
    rw [ht] at e
    exact ⟨_, e.symm.trans (byteCells_get bs k hk)⟩
theorem OwnAt.set_ {w : World} {A : Option Addr} {n q : Nat} (h : OwnAt w A n q) (k : Nat) (z : Int) : OwnAt (w.setCell ⟨q, k, none⟩ (.int .u8 z)) A n q := fun hp => by
  obtain ⟨hA, T, cs, hr, hc⟩ := h hp
  refine ⟨hA, T, _, hr.set_ k _, fun j hj => ?_⟩
  obtain ⟨y, hy⟩ := hc j hj
  by_cases e : k = j
  · subst e
    exact ⟨z, by rw [List.getElem?_set_self (List.getElem?_eq_some_iff.1 hy).1]⟩
  · exact ⟨y, by rw [List.getElem?_set_ne e]; exact hy⟩
theorem OwnAt.go {w w' : World} {A : Option Addr} {n q : Nat} (h : OwnAt w A n q) (b : Below w.heap.size w w') : OwnAt w' A n q := fun hp => by
  obtain ⟨hA, T, cs, hr, hc⟩ := h hp
  exact ⟨hA, T, cs, hr.go b, hc⟩
theorem But.own {w w' : World} {B q : Nat} (h : But w.heap.size q w w') (hB : B ≤ w.heap.size) (hq : B ≤ q) : Below B w w' := h.under hB hq
theorem info_op : (Tryd.prog.info? 37).map (·.size) = some 5 := by kernel_rfl
set_option maxHeartbeats 16000000 in
theorem dr_does_any (ve vn vp vl : Value) (en no pe : List UInt8) (l : List OpV) (w : World) (hv : Vars w) (he : Sl w w.heap.size ve en) (hn : Sl w w.heap.size vn no) (hp : Sl w w.heap.size vp pe) (ho : Ops w w.heap.size vl l) (hll : l.length ≤ 9223372036854775807) :
    Calls Tryd.prog 3 #[ve, vn, vp, vl] w (TrueIs w) := by
  unfold TrueIs
  obtain ⟨Ae, ce, rfl, _, _⟩ := he.form
  obtain ⟨An, cn, rfl, _, _⟩ := hn.form
  obtain ⟨Ap, cp', rfl, _, _⟩ := hp.form
  obtain ⟨Al, cl, rfl⟩ := ho.form
  have HW : Shh (Sl w w.heap.size (.slice Ae en.length ce) en ∧ Sl w w.heap.size (.slice An no.length cn) no ∧ Sl w w.heap.size (.slice Ap pe.length cp') pe ∧ Ops w w.heap.size (.slice Al l.length cl) l ∧ Vars w) := ⟨he, hn, hp, ho, hv⟩
  clear he hn hp ho hv
  cases hl0 : long5B en with
  | true =>
    go_enter Tryd.func3, Tryd.ntmps3
    go_wp2_with (go_at_call 9; refine (dr_live_any w HW.out.2.2.2.2).mono ?_)
    rintro e Y1 ⟨rfl, b1⟩
    have H1 : Shh (Below w.heap.size w Y1) := ⟨b1⟩
    clear b1
    go_wp2_with (go_at_call 10; refine (long5_any _ _ en Y1 (HW.out.1.go H1.out)).mono ?_)
    unfold KeepIs
    rintro e w9 ⟨rfl, rfl⟩
    rw [hl0]
    go_wp2_with (go_at_call 9; refine (dr_live_any Y1 (HW.out.2.2.2.2.go H1.out)).mono ?_)
    rintro e Y9 ⟨rfl, b9⟩
    have F : Shh (Below w.heap.size w Y9) := ⟨Below.chain H1.out b9⟩
    clear H1 b9
    go_wp2
    go_ret
    exact ⟨rfl, F.out⟩
  | false =>
    cases hl1 : long5B no with
    | true =>
      go_enter Tryd.func3, Tryd.ntmps3
      go_wp2_with (go_at_call 9; refine (dr_live_any w HW.out.2.2.2.2).mono ?_)
      rintro e Y1 ⟨rfl, b1⟩
      have H1 : Shh (Below w.heap.size w Y1) := ⟨b1⟩
      clear b1
      go_wp2_with (go_at_call 10; refine (long5_any _ _ en Y1 (HW.out.1.go H1.out)).mono ?_)
      unfold KeepIs
      rintro e w9 ⟨rfl, rfl⟩
      rw [hl0]
      go_wp2_with (go_at_call 10; refine (long5_any _ _ no Y1 (HW.out.2.1.go H1.out)).mono ?_)
      unfold KeepIs
      rintro e w9 ⟨rfl, rfl⟩
      rw [hl1]
      go_wp2_with (go_at_call 9; refine (dr_live_any Y1 (HW.out.2.2.2.2.go H1.out)).mono ?_)
      rintro e Y9 ⟨rfl, b9⟩
      have F : Shh (Below w.heap.size w Y9) := ⟨Below.chain H1.out b9⟩
      clear H1 b9
      go_wp2
      go_ret
      exact ⟨rfl, F.out⟩
    | false =>
      cases hl2 : long5B pe with
      | true =>
        go_enter Tryd.func3, Tryd.ntmps3
        go_wp2_with (go_at_call 9; refine (dr_live_any w HW.out.2.2.2.2).mono ?_)
        rintro e Y1 ⟨rfl, b1⟩
        have H1 : Shh (Below w.heap.size w Y1) := ⟨b1⟩
        clear b1
        go_wp2_with (go_at_call 10; refine (long5_any _ _ en Y1 (HW.out.1.go H1.out)).mono ?_)
        unfold KeepIs
        rintro e w9 ⟨rfl, rfl⟩
        rw [hl0]
        go_wp2_with (go_at_call 10; refine (long5_any _ _ no Y1 (HW.out.2.1.go H1.out)).mono ?_)
        unfold KeepIs
        rintro e w9 ⟨rfl, rfl⟩
        rw [hl1]
        go_wp2_with (go_at_call 10; refine (long5_any _ _ pe Y1 (HW.out.2.2.1.go H1.out)).mono ?_)
        unfold KeepIs
        rintro e w9 ⟨rfl, rfl⟩
        rw [hl2]
        go_wp2_with (go_at_call 9; refine (dr_live_any Y1 (HW.out.2.2.2.2.go H1.out)).mono ?_)
        rintro e Y9 ⟨rfl, b9⟩
        have F : Shh (Below w.heap.size w Y9) := ⟨Below.chain H1.out b9⟩
        clear H1 b9
        go_wp2
        go_ret
        exact ⟨rfl, F.out⟩
      | false =>
        cases hmu : much5B l with
        | true =>
          go_enter Tryd.func3, Tryd.ntmps3
          go_wp2_with (go_at_call 9; refine (dr_live_any w HW.out.2.2.2.2).mono ?_)
          rintro e Y1 ⟨rfl, b1⟩
          have H1 : Shh (Below w.heap.size w Y1) := ⟨b1⟩
          clear b1
          go_wp2_with (go_at_call 10; refine (long5_any _ _ en Y1 (HW.out.1.go H1.out)).mono ?_)
          unfold KeepIs
          rintro e w9 ⟨rfl, rfl⟩
          rw [hl0]
          go_wp2_with (go_at_call 10; refine (long5_any _ _ no Y1 (HW.out.2.1.go H1.out)).mono ?_)
          unfold KeepIs
          rintro e w9 ⟨rfl, rfl⟩
          rw [hl1]
          go_wp2_with (go_at_call 10; refine (long5_any _ _ pe Y1 (HW.out.2.2.1.go H1.out)).mono ?_)
          unfold KeepIs
          rintro e w9 ⟨rfl, rfl⟩
          rw [hl2]
          go_wp2_with (go_at_call 11; refine (much5_any w.heap.size _ l Y1 (HW.out.2.2.2.1.below H1.out) H1.out.size hll).mono ?_)
          unfold BelowIs
          rintro e Y2 ⟨rfl, b2⟩
          rw [hmu]
          have H2 : Shh (Below w.heap.size w Y2) := ⟨Below.chain H1.out b2⟩
          clear b2 H1
          go_wp2_with (go_at_call 9; refine (dr_live_any Y2 (HW.out.2.2.2.2.go H2.out)).mono ?_)
          rintro e Y9 ⟨rfl, b9⟩
          have F : Shh (Below w.heap.size w Y9) := ⟨Below.chain H2.out b9⟩
          clear H2 b9
          go_wp2
          go_ret
          exact ⟨rfl, F.out⟩
        | false =>
          go_enter Tryd.func3, Tryd.ntmps3
          go_wp2_with (go_at_call 9; refine (dr_live_any w HW.out.2.2.2.2).mono ?_)
          rintro e Y1 ⟨rfl, b1⟩
          have H1 : Shh (Below w.heap.size w Y1) := ⟨b1⟩
          clear b1
          go_wp2_with (go_at_call 10; refine (long5_any _ _ en Y1 (HW.out.1.go H1.out)).mono ?_)
          unfold KeepIs
          rintro e w9 ⟨rfl, rfl⟩
          rw [hl0]
          go_wp2_with (go_at_call 10; refine (long5_any _ _ no Y1 (HW.out.2.1.go H1.out)).mono ?_)
          unfold KeepIs
          rintro e w9 ⟨rfl, rfl⟩
          rw [hl1]
          go_wp2_with (go_at_call 10; refine (long5_any _ _ pe Y1 (HW.out.2.2.1.go H1.out)).mono ?_)
          unfold KeepIs
          rintro e w9 ⟨rfl, rfl⟩
          rw [hl2]
          go_wp2_with (go_at_call 11; refine (much5_any w.heap.size _ l Y1 (HW.out.2.2.2.1.below H1.out) H1.out.size hll).mono ?_)
          unfold BelowIs
          rintro e Y2 ⟨rfl, b2⟩
          rw [hmu]
          have H2 : Shh (Below w.heap.size w Y2) := ⟨Below.chain H1.out b2⟩
          clear b2 H1
          by_cases hf : fitE en [no, pe] = 0
          · skip
            have hel : en.length ≤ 9000 := by have h := hl0; unfold long5B at h; simp at h; omega
            obtain ⟨X, hX⟩ : ∃ X, X = Y2.alloc (.cells #[.slice Ae en.length ce] 22) := ⟨_, rfl⟩
            have bX : Below Y2.heap.size Y2 X := by rw [hX]; exact below1 _ _
            have HX : Shh (PartsO X X.heap.size X.heap.size (.slice (some ⟨Y2.heap.size, 0, none⟩) 1 1) [en] ∧ Below Y2.heap.size Y2 X) := ⟨by rw [hX]; exact parts1 (HW.out.1.go H2.out), bX⟩
            rw [hX] at HX
            clear bX
            go_wp2_with (go_at_call 12; refine (refJoin_any _ _ _ [en] _ HX.out.1 (Nat.le_refl _) (by simp; omega) (by simp)).mono ?_)
            rintro e Y4 ⟨v4, rfl, g4⟩
            have e4 : [en].flatten = en := by simp
            rw [e4] at g4
            rw [← hX] at HX g4
            obtain ⟨Ao, co, qo, rfl, hco, hqo, how⟩ := own_at g4
            have H4 : Shh (Sl Y4 Y4.heap.size (.slice Ao en.length co) en ∧ Below w.heap.size w Y4 ∧ OwnAt Y4 Ao en.length qo ∧ (0 < en.length → w.heap.size ≤ qo ∧ qo < Y4.heap.size)) := ⟨gives_sl g4, Below.chain H2.out (Below.chain HX.out.2 g4.2), how, fun h => by have := hqo h; have := H2.out.size; have := HX.out.2.size; omega⟩
            clear g4 HX e4 hX hqo how H2
            have HF : Shh (fitE en [no, pe] = 0) := ⟨hf⟩
            clear hf
            go_wp2_with (go_at_call 13; refine (new_ok _ _ _ en no pe Y4 H4.out.1 (HW.out.2.1.go H4.out.2.1) (HW.out.2.2.1.go H4.out.2.1) (HW.out.2.2.2.2.go H4.out.2.1) HF.out).mono ?_)
            rintro e Y5 ⟨g, rfl, hg1, hd1, b5⟩
            obtain ⟨s0, hs0⟩ : ∃ s, s = newL en no pe := ⟨_, rfl⟩
            have HS0 : Shh (newL en no pe = s0) := ⟨hs0.symm⟩
            rw [← hs0] at hd1
            clear hs0
            have H5 : Shh (DAt Y5 g s0 1 ∧ Below w.heap.size w Y5 ∧ OwnAt Y5 Ao en.length qo ∧ (0 < en.length → w.heap.size ≤ qo ∧ qo < Y4.heap.size) ∧ Y4.heap.size ≤ g ∧ w.heap.size ≤ Y4.heap.size) := ⟨hd1, Below.chain H4.out.2.1 b5, H4.out.2.2.1.go b5, H4.out.2.2.2, hg1, H4.out.2.1.size⟩
            have h45 : Y4.heap.size ≤ Y5.heap.size := b5.size
            clear hd1 hg1 b5 H4
            go_wp2_with (go_at_call 14; refine (refNew_ok _ _ _ en no pe Y5 (HW.out.1.go H5.out.2.1) (HW.out.2.1.go H5.out.2.1) (HW.out.2.2.1.go H5.out.2.1) HF.out).mono ?_)
            rintro e Y6 ⟨y, rfl, hy, b6, oy⟩
            rw [HS0.out] at hy
            have og := oy g H5.out.1.lt trivial
            have oq : 0 < en.length → OffR qo y := fun h => oy qo (by have := H5.out.2.2.2.1 h; omega) trivial
            clear oy
            obtain ⟨vk, vv, rfl, hk, hvv⟩ := hy
            have og2 : Off g vk ∧ Off g vv := by obtain ⟨_, _, _, e1, h1, h2⟩ := og; cases e1; exact ⟨h1, h2⟩
            have oq2 : 0 < en.length → Off qo vk ∧ Off qo vv := fun h => by obtain ⟨_, _, _, e1, h1, h2⟩ := oq h; cases e1; exact ⟨h1, h2⟩
            clear og oq
            obtain ⟨kB, hkB⟩ : ∃ kB, kB = keyL s0 := ⟨_, rfl⟩
            obtain ⟨vB, hvB⟩ : ∃ vB, vB = valL s0 := ⟨_, rfl⟩
            rw [← hkB] at hk
            rw [← hvB] at hvv
            have HKV : Shh (kB = keyL s0 ∧ vB = valL s0) := ⟨hkB, hvB⟩
            clear hkB hvB
            obtain ⟨Ak, ck, rfl, _, _⟩ := hk.form
            obtain ⟨Av, cv, rfl, _, _⟩ := hvv.form
            obtain ⟨P, hP⟩ : ∃ P, Y6.heap.size = P := ⟨_, rfl⟩
            obtain ⟨Z, hZ⟩ : ∃ Z, Z = Y6.alloc (.cells #[.slice none 0 0, .slice none 0 0, .int .i64 0] 33) := ⟨_, rfl⟩
            have bZ : Below Y6.heap.size Y6 Z := by rw [hZ]; exact below1 _ _
            have bb := Below.chain b6 bZ
            have hgP : g < P := by have := H5.out.1.lt; have := b6.size; omega
            have H6 : Shh (DAt Z g s0 1 ∧ Below w.heap.size w Z ∧ OwnAt Z Ao en.length qo ∧ Sl Z P (.slice Ak kB.length ck) kB ∧ Sl Z P (.slice Av vB.length cv) vB ∧ Row Z P 33 [.slice none 0 0, .slice none 0 0, .int .i64 0] ∧ Z.heap.size = P + 1) :=
              ⟨H5.out.1.go bb, H5.out.2.1.trans (bb.mono H5.out.2.1.size), H5.out.2.2.1.go bb, by rw [← hP]; exact hk.below bZ, by rw [← hP]; exact hvv.below bZ, by rw [hZ]; exact Row.new_ hP.symm rfl, by rw [hZ, asz, hP]⟩
            have HQ : Shh ((0 < en.length → w.heap.size ≤ qo ∧ qo < g ∧ Off qo (.slice Ak kB.length ck) ∧ Off qo (.slice Av vB.length cv)) ∧ (Off g (.slice Ak kB.length ck) ∧ Off g (.slice Av vB.length cv)) ∧ w.heap.size ≤ g ∧ g < P) :=
              ⟨fun h => ⟨(H5.out.2.2.2.1 h).1, by have := H5.out.2.2.2.1 h; have := H5.out.2.2.2.2.1; omega, oq2 h⟩, og2, by have := H5.out.2.2.2.2; omega, hgP⟩
            have HPO : Shh (Off P (.slice Ak kB.length ck) ∧ Off P (.slice Av vB.length cv)) := ⟨hk.off (by omega), hvv.off (by omega)⟩
            clear hk hvv b6 bZ bb og2 oq2 hgP h45 H5
            rw [hZ] at H6
            go_wp2_with (refine wpList_store_any rfl 33 (.tmp 12) (.tmp 54) rfl P rfl [.slice Ak kB.length ck, .slice Av vB.length cv, .int .i64 1] rfl 33 [.slice none 0 0, .slice none 0 0, .int .i64 0] H6.out.2.2.2.2.2.1 info_rd rfl cell_slices ?_)
            intro Z2 hr bt zt
            rw [← hZ] at H6 bt
            clear hZ hP zt
            have H7 : Shh (DAt Z2 g s0 1 ∧ Below w.heap.size w Z2 ∧ OwnAt Z2 Ao en.length qo ∧ Row Z2 P 33 [.slice Ak kB.length ck, .slice Av vB.length cv, .int .i64 1] ∧ Sl Z2 Z2.heap.size (.slice Ak kB.length ck) kB ∧ Sl Z2 Z2.heap.size (.slice Av vB.length cv) vB) := by
              have hz := H6.out.2.2.2.2.2.2
              have hq := HQ.out.2.2
              have bU : Below P Z Z2 := bt.under (by omega) (Nat.le_refl _)
              have hs := bt.size
              exact ⟨⟨H6.out.1.row.below bU hq.2, H6.out.1.len⟩, H6.out.2.1.trans (bU.mono (by omega)), fun h => by
                obtain ⟨hA, T, cs, hrr, hc⟩ := H6.out.2.2.1 h
                exact ⟨hA, T, cs, hrr.below bU (by have := HQ.out.1 h; omega), hc⟩, hr, (H6.out.2.2.2.1.below bU).more (by omega), (H6.out.2.2.2.2.1.below bU).more (by omega)⟩
            clear hr bt H6
            go_wp2
            go_loopw [14, 68] (fun _ i wr => ∃ k : Nat, k ≤ en.length ∧ i = .int .i64 k ∧ Shh (DAt wr g s0 1 ∧ Below w.heap.size w wr ∧ OwnAt wr Ao en.length qo ∧ Row wr P 33 [.slice Ak kB.length ck, .slice Av vB.length cv, .int .i64 1] ∧ Sl wr wr.heap.size (.slice Ak kB.length ck) kB ∧ Sl wr wr.heap.size (.slice Av vB.length cv) vB)) (fun _ i _ => en.length - (intOf i).toNat)
            case atStart => exact ⟨0, Nat.zero_le _, rfl, H7⟩
            case round =>
              clear H7
              obtain ⟨k, hk, rfl, H⟩ := hrel
              by_cases hlt : k < en.length
              · obtain ⟨rfl, T, cs, hr, hc⟩ := H.out.2.2.1 (by omega)
                obtain ⟨z, hz⟩ := hc k hlt
                have c0 : wr.cell? ⟨qo, k, none⟩ = some (.int .u8 z) := (hr.cell k).trans hz
                have f0 := hr.free k
                have HN : Shh (∀ z' : Int, DAt (wr.setCell ⟨qo, k, none⟩ (.int .u8 z')) g s0 1 ∧ Below w.heap.size w (wr.setCell ⟨qo, k, none⟩ (.int .u8 z')) ∧ OwnAt (wr.setCell ⟨qo, k, none⟩ (.int .u8 z')) (some ⟨qo, 0, none⟩) en.length qo ∧ Row (wr.setCell ⟨qo, k, none⟩ (.int .u8 z')) P 33 [.slice Ak kB.length ck, .slice Av vB.length cv, .int .i64 1] ∧ Sl (wr.setCell ⟨qo, k, none⟩ (.int .u8 z')) (wr.setCell ⟨qo, k, none⟩ (.int .u8 z')).heap.size (.slice Ak kB.length ck) kB ∧ Sl (wr.setCell ⟨qo, k, none⟩ (.int .u8 z')) (wr.setCell ⟨qo, k, none⟩ (.int .u8 z')).heap.size (.slice Av vB.length cv) vB) := ⟨fun z' => by
                  have b := But.setc wr qo k (.int .u8 z')
                  have hq := HQ.out.1 (by omega)
                  have hq2 := HQ.out.2.2
                  have hwr := H.out.2.1.size
                  exact ⟨H.out.1.other b (by omega), H.out.2.1.trans (b.under hwr hq.1), H.out.2.2.1.set_ k z', b.row H.out.2.2.2.1 H.out.2.2.2.1.lt (by omega), (H.out.2.2.2.2.1.but hq.2.2.1 b).more b.size, (H.out.2.2.2.2.2.but hq.2.2.2 b).more b.size⟩⟩
                clear H hr hc hz
                go_wp2
                go_roundw
                case rel => exact ⟨k + 1, by omega, by go_num, ⟨HN.out _⟩⟩
                case measure => simp [intOf]; omega
              · obtain rfl : k = en.length := by omega
                have H8 : Shh (∃ s c kB vB Ak ck Av cv, DAt wr g s c ∧ Below w.heap.size w wr ∧ 0 < c ∧ c ≤ 1025 ∧ (kB = keyL s ∧ vB = valL s) ∧ Row wr P 33 [.slice Ak kB.length ck, .slice Av vB.length cv, .int .i64 (c : Int)] ∧ Sl wr wr.heap.size (.slice Ak kB.length ck) kB ∧ Sl wr wr.heap.size (.slice Av vB.length cv) vB ∧ OffR g (.agg #[.slice Ak kB.length ck, .slice Av vB.length cv, .int .i64 (c : Int)]) ∧ OffR P (.agg #[.slice Ak kB.length ck, .slice Av vB.length cv, .int .i64 (c : Int)]) ∧ g ≠ P ∧ w.heap.size ≤ g ∧ w.heap.size ≤ P) :=
                  ⟨s0, 1, kB, vB, Ak, ck, Av, cv, H.out.1, H.out.2.1, by omega, by omega, HKV.out, H.out.2.2.2.1, H.out.2.2.2.2.1, H.out.2.2.2.2.2, ⟨_, _, _, rfl, HQ.out.2.1.1, HQ.out.2.1.2⟩, ⟨_, _, _, rfl, HPO.out.1, HPO.out.2⟩, by have := HQ.out.2.2; omega, HQ.out.2.2.1, by have := HQ.out.2.2; omega⟩
                clear H HKV HQ HPO hk hlt HF HS0
                go_wp2
                go_loopw [10, 16, 17, 18, 19, 80] (fun d _ _ _ _ i wr => ∃ (k g : Nat), k ≤ l.length ∧ d = .pointer (some ⟨g, 0, none⟩) ∧ i = .int .i64 k ∧ Shh (∃ s c kB vB Ak ck Av cv, DAt wr g s c ∧ Below w.heap.size w wr ∧ 0 < c ∧ c ≤ 1025 ∧ (kB = keyL s ∧ vB = valL s) ∧ Row wr P 33 [.slice Ak kB.length ck, .slice Av vB.length cv, .int .i64 (c : Int)] ∧ Sl wr wr.heap.size (.slice Ak kB.length ck) kB ∧ Sl wr wr.heap.size (.slice Av vB.length cv) vB ∧ OffR g (.agg #[.slice Ak kB.length ck, .slice Av vB.length cv, .int .i64 (c : Int)]) ∧ OffR P (.agg #[.slice Ak kB.length ck, .slice Av vB.length cv, .int .i64 (c : Int)]) ∧ g ≠ P ∧ w.heap.size ≤ g ∧ w.heap.size ≤ P)) (fun _ _ _ _ _ i _ => l.length - (intOf i).toNat)
                case atStart => exact ⟨0, g, Nat.zero_le _, rfl, rfl, H8⟩
                case round =>
                  clear H8
                  obtain ⟨k, g1, hk, rfl, rfl, HL⟩ := hrel
                  obtain ⟨s, c, kB, vB, Ak, ck, Av, cv, hl⟩ := HL.out
                  have HS : Shh (DAt wr g1 s c ∧ Below w.heap.size w wr ∧ Row wr P 33 [.slice Ak kB.length ck, .slice Av vB.length cv, .int .i64 (c : Int)] ∧ Sl wr wr.heap.size (.slice Ak kB.length ck) kB ∧ Sl wr wr.heap.size (.slice Av vB.length cv) vB ∧ OffR g1 (.agg #[.slice Ak kB.length ck, .slice Av vB.length cv, .int .i64 (c : Int)]) ∧ OffR P (.agg #[.slice Ak kB.length ck, .slice Av vB.length cv, .int .i64 (c : Int)]) ∧ g1 ≠ P ∧ w.heap.size ≤ g1 ∧ w.heap.size ≤ P) := ⟨hl.1, hl.2.1, hl.2.2.2.2.2⟩
                  have HK : Shh (kB = keyL s ∧ vB = valL s) := ⟨hl.2.2.2.2.1⟩
                  have hc0 := hl.2.2.1
                  have hc1 := hl.2.2.2.1
                  clear hl HL
                  by_cases hlt : k < l.length
                  · obtain ⟨q, off, rfl, hq, hcc⟩ := HW.out.2.2.2.1.at_ (by omega)
                    have hcw := hcc k hlt
                    clear hcc
                    generalize l[k] = x at *
                    obtain ⟨r, nn, bb, aa, cp⟩ := x
                    obtain ⟨vb, va, d0, d1, d2, d3, d4, tb, ta⟩ := hcw
                    obtain ⟨Ab, cb, rfl, _, _⟩ := tb.form
                    obtain ⟨Aa, ca, rfl, _, _⟩ := ta.form
                    have HC2 : Shh ((∀ Z, Below w.heap.size w Z → Sl Z Z.heap.size (.slice Ab bb.length cb) bb) ∧ (∀ Z, Below w.heap.size w Z → Sl Z Z.heap.size (.slice Aa aa.length ca) aa)) := ⟨fun Z hZ => tb.go hZ, fun Z hZ => ta.go hZ⟩
                    have hbw := HS.out.2.1
                    have c0 := (hbw.cell (p := ⟨q, off + k * 5, none⟩) hq).trans d0
                    have c1 := (hbw.cell (p := ⟨q, off + k * 5 + 1, none⟩) hq).trans d1
                    have c2 := (hbw.cell (p := ⟨q, off + k * 5 + 2, none⟩) hq).trans d2
                    have c3 := (hbw.cell (p := ⟨q, off + k * 5 + 3, none⟩) hq).trans d3
                    have c4 := (hbw.cell (p := ⟨q, off + k * 5 + 4, none⟩) hq).trans d4
                    clear d0 d1 d2 d3 d4 tb ta hbw
                    obtain ⟨nW, hnW⟩ : ∃ n, wr.heap.size = n := ⟨_, rfl⟩
                    obtain ⟨X, hX⟩ : ∃ X, X = wr.alloc (.cells #[.bool r, .int .i64 nn, .slice Ab bb.length cb, .slice Aa aa.length ca, .bool cp] 37) := ⟨_, rfl⟩
                    have bX : Below wr.heap.size wr X := by rw [hX]; exact below1 _ _
                    have HT : Shh (DAt X g1 s c ∧ Row X P 33 [.slice Ak kB.length ck, .slice Av vB.length cv, .int .i64 (c : Int)] ∧ Sl X X.heap.size (.slice Ak kB.length ck) kB ∧ Sl X X.heap.size (.slice Av vB.length cv) vB ∧ Row X nW 37 [.bool r, .int .i64 nn, .slice Ab bb.length cb, .slice Aa aa.length ca, .bool cp] ∧ Below w.heap.size w X ∧ Vars X ∧ OffR g1 (.agg #[.slice Ak kB.length ck, .slice Av vB.length cv, .int .i64 (c : Int)]) ∧ OffR P (.agg #[.slice Ak kB.length ck, .slice Av vB.length cv, .int .i64 (c : Int)]) ∧ g1 < X.heap.size ∧ P < X.heap.size ∧ g1 ≠ P ∧ w.heap.size ≤ g1 ∧ w.heap.size ≤ P) :=
                      ⟨HS.out.1.go bX, HS.out.2.2.1.go bX, HS.out.2.2.2.1.go bX, HS.out.2.2.2.2.1.go bX, by rw [hX]; exact Row.new_ hnW.symm rfl, HS.out.2.1.trans (bX.mono HS.out.2.1.size), HW.out.2.2.2.2.go (HS.out.2.1.trans (bX.mono HS.out.2.1.size)), HS.out.2.2.2.2.2.1, HS.out.2.2.2.2.2.2.1, (HS.out.1.go bX).lt, (HS.out.2.2.1.go bX).lt, HS.out.2.2.2.2.2.2.2⟩
                    have c5 := HT.out.2.2.2.2.1.cell 4
                    simp only [List.getElem?_cons_succ, List.getElem?_cons_zero] at c5
                    have HNW : Shh (g1 < nW ∧ P < nW) := ⟨by have := HS.out.1.lt; omega, by have := HS.out.2.2.1.lt; omega⟩
                    clear bX HS
                    cases cp with
                    | false =>
                      rw [hX] at HT c5
                      go_wp2_with (first | refine wpList_load_any rfl 33 (.tmp 12) rfl P rfl 33 [.slice Ak kB.length ck, .slice Av vB.length cv, .int .i64 (c : Int)] _ HT.out.2.1 Tryd.underlying33 rfl info_rd ?_ | refine wpList_load_any rfl 37 (.tmp 16) rfl nW rfl 37 [.bool r, .int .i64 nn, .slice Ab bb.length cb, .slice Aa aa.length ca, .bool false] _ HT.out.2.2.2.2.1 Tryd.underlying37 rfl info_op ?_ | (go_at_call 17; refine (does_any g1 c _ _ _ s r false nn bb aa _ HT.out.1 ⟨_, _, rfl, by rw [← HK.out.1]; exact HT.out.2.2.1, by rw [← HK.out.2]; exact HT.out.2.2.2.1⟩ HT.out.2.2.2.2.2.2.2.1 HT.out.2.2.2.2.2.2.1 hc0 hc1 (HC2.out.1 _ HT.out.2.2.2.2.2.1) (HC2.out.2 _ HT.out.2.2.2.2.2.1)).mono ?_))
                      rintro e Yd ⟨y, s2, k2, rfl, hy, hd2, hk0, hk1, bd, oq⟩
                      have h9 := HT.out.2.2.2.2.2.2.2.2.2
                      have og := oq g1 h9.1 HT.out.2.2.2.2.2.2.2.1
                      have oP := oq P h9.2.1 HT.out.2.2.2.2.2.2.2.2.1
                      obtain ⟨vk2, vv2, rfl, sk, sv⟩ := hy
                      obtain ⟨kB2, hkB2⟩ : ∃ kB, kB = keyL s2 := ⟨_, rfl⟩
                      obtain ⟨vB2, hvB2⟩ : ∃ vB, vB = valL s2 := ⟨_, rfl⟩
                      rw [← hkB2] at sk
                      rw [← hvB2] at sv
                      have HS2 : Shh (kB2 = keyL s2 ∧ vB2 = valL s2) := ⟨hkB2, hvB2⟩
                      clear hkB2 hvB2
                      obtain ⟨Ak2, ck2, rfl, _, _⟩ := sk.form
                      obtain ⟨Av2, cv2, rfl, _, _⟩ := sv.form
                      obtain ⟨M, hM⟩ : ∃ M, Yd.heap.size = M := ⟨_, rfl⟩
                      obtain ⟨Zd, hZd⟩ : ∃ Z, Z = Yd.alloc (.cells #[.slice none 0 0, .slice none 0 0, .int .i64 0] 33) := ⟨_, rfl⟩
                      have bZ : Below Yd.heap.size Yd Zd := by rw [hZd]; exact below1 _ _
                      have hPd := bd.row HT.out.2.1 HT.out.2.1.lt (by omega)
                      have hwd : Below w.heap.size w Yd := HT.out.2.2.2.2.2.1.trans (bd.under HT.out.2.2.2.2.2.1.size h9.2.2.2.1)
                      have oP2 : Off P (.slice Ak2 kB2.length ck2) ∧ Off P (.slice Av2 vB2.length cv2) := by obtain ⟨_, _, _, e1, h1, h2⟩ := oP; cases e1; exact ⟨h1, h2⟩
                      have HD : Shh (DAt Zd g1 s2 k2 ∧ Below w.heap.size w Zd ∧ Row Zd P 33 [.slice Ak kB.length ck, .slice Av vB.length cv, .int .i64 (c : Int)] ∧ Row Zd M 33 [.slice none 0 0, .slice none 0 0, .int .i64 0] ∧ Sl Zd M (.slice Ak2 kB2.length ck2) kB2 ∧ Sl Zd M (.slice Av2 vB2.length cv2) vB2 ∧ Zd.heap.size = M + 1 ∧ P < M ∧ g1 < M) :=
                        ⟨hd2.go bZ, hwd.trans (bZ.mono hwd.size), hPd.go bZ, by rw [hZd]; exact Row.new_ hM.symm rfl, by rw [← hM]; exact sk.below bZ, by rw [← hM]; exact sv.below bZ, by rw [hZd, asz, hM], by rw [← hM]; exact hPd.lt, by rw [← hM]; exact hd2.lt⟩
                      have HO : Shh (OffR g1 (.agg #[.slice Ak2 kB2.length ck2, .slice Av2 vB2.length cv2, .int .i64 (k2 : Int)]) ∧ OffR P (.agg #[.slice Ak2 kB2.length ck2, .slice Av2 vB2.length cv2, .int .i64 (k2 : Int)]) ∧ (Off P (.slice Ak2 kB2.length ck2) ∧ Off P (.slice Av2 vB2.length cv2)) ∧ (g1 ≠ P ∧ w.heap.size ≤ g1 ∧ w.heap.size ≤ P)) := ⟨og, oP, oP2, h9.2.2⟩
                      clear sk sv bd hd2 oq og oP oP2 bZ hPd hwd HT h9
                      rw [hZd] at HD
                      go_wp2_with (refine wpList_store_any rfl 33 (.tmp 18) (.tmp 100) rfl M rfl [.slice Ak2 kB2.length ck2, .slice Av2 vB2.length cv2, .int .i64 (k2 : Int)] rfl 33 [.slice none 0 0, .slice none 0 0, .int .i64 0] HD.out.2.2.2.1 info_rd rfl cell_slices ?_)
                      intro Ze hre bte zte
                      rw [← hZd] at HD bte
                      clear hZd hM zte
                      have HE : Shh (DAt Ze g1 s2 k2 ∧ Below w.heap.size w Ze ∧ Row Ze P 33 [.slice Ak kB.length ck, .slice Av vB.length cv, .int .i64 (c : Int)] ∧ Row Ze M 33 [.slice Ak2 kB2.length ck2, .slice Av2 vB2.length cv2, .int .i64 (k2 : Int)] ∧ Sl Ze Ze.heap.size (.slice Ak2 kB2.length ck2) kB2 ∧ Sl Ze Ze.heap.size (.slice Av2 vB2.length cv2) vB2) := by
                        have h9 := HD.out.2.2.2.2.2.2
                        have hO := HO.out.2.2.2
                        have bU : Below M Zd Ze := bte.under (by omega) (Nat.le_refl _)
                        have hs := bte.size
                        exact ⟨⟨HD.out.1.row.below bU h9.2.2, HD.out.1.len⟩, HD.out.2.1.trans (bU.mono (by omega)), HD.out.2.2.1.below bU h9.2.1, hre, (HD.out.2.2.2.2.1.below bU).more (by omega), (HD.out.2.2.2.2.2.1.below bU).more (by omega)⟩
                      clear hre bte HD
                      go_wp2_with (first | refine wpList_load_any rfl 33 (.tmp 18) rfl M rfl 33 [.slice Ak2 kB2.length ck2, .slice Av2 vB2.length cv2, .int .i64 (k2 : Int)] _ HE.out.2.2.2.1 Tryd.underlying33 rfl info_rd ?_ | refine wpList_store_any rfl 33 (.tmp 12) (.tmp 104) rfl P rfl [.slice Ak2 kB2.length ck2, .slice Av2 vB2.length cv2, .int .i64 (k2 : Int)] rfl 33 [.slice Ak kB.length ck, .slice Av vB.length cv, .int .i64 (c : Int)] HE.out.2.2.1 info_rd rfl cell_slices ?_)
                      intro Zf hrf btf ztf
                      clear ztf
                      have hO := HO.out.2.2.2
                      have FZ : Shh (∃ s c kB vB Ak ck Av cv, DAt Zf g1 s c ∧ Below w.heap.size w Zf ∧ 0 < c ∧ c ≤ 1025 ∧ (kB = keyL s ∧ vB = valL s) ∧ Row Zf P 33 [.slice Ak kB.length ck, .slice Av vB.length cv, .int .i64 (c : Int)] ∧ Sl Zf Zf.heap.size (.slice Ak kB.length ck) kB ∧ Sl Zf Zf.heap.size (.slice Av vB.length cv) vB ∧ OffR g1 (.agg #[.slice Ak kB.length ck, .slice Av vB.length cv, .int .i64 (c : Int)]) ∧ OffR P (.agg #[.slice Ak kB.length ck, .slice Av vB.length cv, .int .i64 (c : Int)]) ∧ g1 ≠ P ∧ w.heap.size ≤ g1 ∧ w.heap.size ≤ P) :=
                        ⟨s2, k2, kB2, vB2, Ak2, ck2, Av2, cv2, HE.out.1.other btf hO.1, HE.out.2.1.trans (btf.under HE.out.2.1.size hO.2.2), hk0, hk1, HS2.out, hrf, (HE.out.2.2.2.2.1.but HO.out.2.2.1.1 btf).more btf.size, (HE.out.2.2.2.2.2.but HO.out.2.2.1.2 btf).more btf.size, HO.out.1, HO.out.2.1, hO⟩
                      clear hrf btf HE HO hO HS2
                      go_wp2
                      go_roundw
                      case rel => exact ⟨k + 1, g1, by omega, rfl, by go_num, FZ⟩
                      case measure => simp [intOf]; omega
                    | true =>
                      rw [hX] at c5
                      have HX : Shh (X = wr.alloc (.cells #[.bool r, .int .i64 nn, .slice Ab bb.length cb, .slice Aa aa.length ca, .bool true] 37)) := ⟨hX⟩
                      clear hX
                      go_wp2_with (go_at_call 15; rw [← HX.out]; refine (clone_ok g1 c s X HT.out.1 hc0).mono ?_)
                      rintro e Yc ⟨g2, rfl, hg2, hd2, bc⟩
                      go_wp2_with (go_at_call 16; refine (draw_all g1 c 5 _ [] s Yc (HT.out.1.go bc) Sl.nil_ (HT.out.2.2.2.2.2.2.1.go bc) hc0).mono ?_)
                      rintro e Ye ⟨vd, rfl, _, _, be⟩
                      have hbe := be.size
                      have hbc := bc.size
                      have h9 := HT.out.2.2.2.2.2.2.2.2.2
                      have hg12 : g2 ≠ g1 := by omega
                      have hwe : Below w.heap.size w Ye := (HT.out.2.2.2.2.2.1.trans (bc.mono (by omega))).trans (be.under (by omega) h9.2.2.2.1)
                      have oo : Off g1 (.slice Ak kB.length ck) ∧ Off g1 (.slice Av vB.length cv) := by obtain ⟨_, _, _, e1, h1, h2⟩ := HT.out.2.2.2.2.2.2.2.1; cases e1; exact ⟨h1, h2⟩
                      have HU : Shh (DAt Ye g2 s c ∧ Row Ye P 33 [.slice Ak kB.length ck, .slice Av vB.length cv, .int .i64 (c : Int)] ∧ Sl Ye Ye.heap.size (.slice Ak kB.length ck) kB ∧ Sl Ye Ye.heap.size (.slice Av vB.length cv) vB ∧ Row Ye nW 37 [.bool r, .int .i64 nn, .slice Ab bb.length cb, .slice Aa aa.length ca, .bool true] ∧ Below w.heap.size w Ye ∧ Vars Ye ∧ OffR g2 (.agg #[.slice Ak kB.length ck, .slice Av vB.length cv, .int .i64 (c : Int)]) ∧ OffR P (.agg #[.slice Ak kB.length ck, .slice Av vB.length cv, .int .i64 (c : Int)]) ∧ g2 < Ye.heap.size ∧ P < Ye.heap.size ∧ g2 ≠ P ∧ w.heap.size ≤ g2 ∧ w.heap.size ≤ P) :=
                        ⟨hd2.other be hg12, be.row (HT.out.2.1.go bc) (HT.out.2.1.go bc).lt (by omega), ((HT.out.2.2.1.go bc).but oo.1 be).more hbe, ((HT.out.2.2.2.1.go bc).but oo.2 be).more hbe, be.row (HT.out.2.2.2.2.1.go bc) (HT.out.2.2.2.2.1.go bc).lt (by have := HT.out.1.lt; have := HNW.out; omega), hwe, HW.out.2.2.2.2.go hwe, ⟨_, _, _, rfl, HT.out.2.2.1.off hg2, HT.out.2.2.2.1.off hg2⟩, HT.out.2.2.2.2.2.2.2.2.1, by have := hd2.lt; omega, by omega, by omega, by omega, h9.2.2.2.2⟩
                      clear hg2 hd2 bc be hbe hbc h9 hg12 hwe oo HT HX
                      go_wp2_with (first | refine wpList_load_any rfl 33 (.tmp 12) rfl P rfl 33 [.slice Ak kB.length ck, .slice Av vB.length cv, .int .i64 (c : Int)] _ HU.out.2.1 Tryd.underlying33 rfl info_rd ?_ | refine wpList_load_any rfl 37 (.tmp 16) rfl nW rfl 37 [.bool r, .int .i64 nn, .slice Ab bb.length cb, .slice Aa aa.length ca, .bool true] _ HU.out.2.2.2.2.1 Tryd.underlying37 rfl info_op ?_ | (go_at_call 17; refine (does_any g2 c _ _ _ s r true nn bb aa Ye HU.out.1 ⟨_, _, rfl, by rw [← HK.out.1]; exact HU.out.2.2.1, by rw [← HK.out.2]; exact HU.out.2.2.2.1⟩ HU.out.2.2.2.2.2.2.2.1 HU.out.2.2.2.2.2.2.1 hc0 hc1 (HC2.out.1 _ HU.out.2.2.2.2.2.1) (HC2.out.2 _ HU.out.2.2.2.2.2.1)).mono ?_))
                      rintro e Yd ⟨y, s2, k2, rfl, hy, hd2, hk0, hk1, bd, oq⟩
                      have h9 := HU.out.2.2.2.2.2.2.2.2.2
                      have og := oq g2 h9.1 HU.out.2.2.2.2.2.2.2.1
                      have oP := oq P h9.2.1 HU.out.2.2.2.2.2.2.2.2.1
                      obtain ⟨vk2, vv2, rfl, sk, sv⟩ := hy
                      obtain ⟨kB2, hkB2⟩ : ∃ kB, kB = keyL s2 := ⟨_, rfl⟩
                      obtain ⟨vB2, hvB2⟩ : ∃ vB, vB = valL s2 := ⟨_, rfl⟩
                      rw [← hkB2] at sk
                      rw [← hvB2] at sv
                      have HS2 : Shh (kB2 = keyL s2 ∧ vB2 = valL s2) := ⟨hkB2, hvB2⟩
                      clear hkB2 hvB2
                      obtain ⟨Ak2, ck2, rfl, _, _⟩ := sk.form
                      obtain ⟨Av2, cv2, rfl, _, _⟩ := sv.form
                      obtain ⟨M, hM⟩ : ∃ M, Yd.heap.size = M := ⟨_, rfl⟩
                      obtain ⟨Zd, hZd⟩ : ∃ Z, Z = Yd.alloc (.cells #[.slice none 0 0, .slice none 0 0, .int .i64 0] 33) := ⟨_, rfl⟩
                      have bZ : Below Yd.heap.size Yd Zd := by rw [hZd]; exact below1 _ _
                      have hPd := bd.row HU.out.2.1 HU.out.2.1.lt (by omega)
                      have hwd : Below w.heap.size w Yd := HU.out.2.2.2.2.2.1.trans (bd.under HU.out.2.2.2.2.2.1.size h9.2.2.2.1)
                      have oP2 : Off P (.slice Ak2 kB2.length ck2) ∧ Off P (.slice Av2 vB2.length cv2) := by obtain ⟨_, _, _, e1, h1, h2⟩ := oP; cases e1; exact ⟨h1, h2⟩
                      have HD : Shh (DAt Zd g2 s2 k2 ∧ Below w.heap.size w Zd ∧ Row Zd P 33 [.slice Ak kB.length ck, .slice Av vB.length cv, .int .i64 (c : Int)] ∧ Row Zd M 33 [.slice none 0 0, .slice none 0 0, .int .i64 0] ∧ Sl Zd M (.slice Ak2 kB2.length ck2) kB2 ∧ Sl Zd M (.slice Av2 vB2.length cv2) vB2 ∧ Zd.heap.size = M + 1 ∧ P < M ∧ g2 < M) :=
                        ⟨hd2.go bZ, hwd.trans (bZ.mono hwd.size), hPd.go bZ, by rw [hZd]; exact Row.new_ hM.symm rfl, by rw [← hM]; exact sk.below bZ, by rw [← hM]; exact sv.below bZ, by rw [hZd, asz, hM], by rw [← hM]; exact hPd.lt, by rw [← hM]; exact hd2.lt⟩
                      have HO : Shh (OffR g2 (.agg #[.slice Ak2 kB2.length ck2, .slice Av2 vB2.length cv2, .int .i64 (k2 : Int)]) ∧ OffR P (.agg #[.slice Ak2 kB2.length ck2, .slice Av2 vB2.length cv2, .int .i64 (k2 : Int)]) ∧ (Off P (.slice Ak2 kB2.length ck2) ∧ Off P (.slice Av2 vB2.length cv2)) ∧ (g2 ≠ P ∧ w.heap.size ≤ g2 ∧ w.heap.size ≤ P)) := ⟨og, oP, oP2, h9.2.2⟩
                      clear sk sv bd hd2 oq og oP oP2 bZ hPd hwd HU h9
                      rw [hZd] at HD
                      go_wp2_with (refine wpList_store_any rfl 33 (.tmp 18) (.tmp 100) rfl M rfl [.slice Ak2 kB2.length ck2, .slice Av2 vB2.length cv2, .int .i64 (k2 : Int)] rfl 33 [.slice none 0 0, .slice none 0 0, .int .i64 0] HD.out.2.2.2.1 info_rd rfl cell_slices ?_)
                      intro Ze hre bte zte
                      rw [← hZd] at HD bte
                      clear hZd hM zte
                      have HE : Shh (DAt Ze g2 s2 k2 ∧ Below w.heap.size w Ze ∧ Row Ze P 33 [.slice Ak kB.length ck, .slice Av vB.length cv, .int .i64 (c : Int)] ∧ Row Ze M 33 [.slice Ak2 kB2.length ck2, .slice Av2 vB2.length cv2, .int .i64 (k2 : Int)] ∧ Sl Ze Ze.heap.size (.slice Ak2 kB2.length ck2) kB2 ∧ Sl Ze Ze.heap.size (.slice Av2 vB2.length cv2) vB2) := by
                        have h9 := HD.out.2.2.2.2.2.2
                        have hO := HO.out.2.2.2
                        have bU : Below M Zd Ze := bte.under (by omega) (Nat.le_refl _)
                        have hs := bte.size
                        exact ⟨⟨HD.out.1.row.below bU h9.2.2, HD.out.1.len⟩, HD.out.2.1.trans (bU.mono (by omega)), HD.out.2.2.1.below bU h9.2.1, hre, (HD.out.2.2.2.2.1.below bU).more (by omega), (HD.out.2.2.2.2.2.1.below bU).more (by omega)⟩
                      clear hre bte HD
                      go_wp2_with (first | refine wpList_load_any rfl 33 (.tmp 18) rfl M rfl 33 [.slice Ak2 kB2.length ck2, .slice Av2 vB2.length cv2, .int .i64 (k2 : Int)] _ HE.out.2.2.2.1 Tryd.underlying33 rfl info_rd ?_ | refine wpList_store_any rfl 33 (.tmp 12) (.tmp 104) rfl P rfl [.slice Ak2 kB2.length ck2, .slice Av2 vB2.length cv2, .int .i64 (k2 : Int)] rfl 33 [.slice Ak kB.length ck, .slice Av vB.length cv, .int .i64 (c : Int)] HE.out.2.2.1 info_rd rfl cell_slices ?_)
                      intro Zf hrf btf ztf
                      clear ztf
                      have hO := HO.out.2.2.2
                      have FZ : Shh (∃ s c kB vB Ak ck Av cv, DAt Zf g2 s c ∧ Below w.heap.size w Zf ∧ 0 < c ∧ c ≤ 1025 ∧ (kB = keyL s ∧ vB = valL s) ∧ Row Zf P 33 [.slice Ak kB.length ck, .slice Av vB.length cv, .int .i64 (c : Int)] ∧ Sl Zf Zf.heap.size (.slice Ak kB.length ck) kB ∧ Sl Zf Zf.heap.size (.slice Av vB.length cv) vB ∧ OffR g2 (.agg #[.slice Ak kB.length ck, .slice Av vB.length cv, .int .i64 (c : Int)]) ∧ OffR P (.agg #[.slice Ak kB.length ck, .slice Av vB.length cv, .int .i64 (c : Int)]) ∧ g2 ≠ P ∧ w.heap.size ≤ g2 ∧ w.heap.size ≤ P) :=
                        ⟨s2, k2, kB2, vB2, Ak2, ck2, Av2, cv2, HE.out.1.other btf hO.1, HE.out.2.1.trans (btf.under HE.out.2.1.size hO.2.2), hk0, hk1, HS2.out, hrf, (HE.out.2.2.2.2.1.but HO.out.2.2.1.1 btf).more btf.size, (HE.out.2.2.2.2.2.but HO.out.2.2.1.2 btf).more btf.size, HO.out.1, HO.out.2.1, hO⟩
                      clear hrf btf HE HO hO HS2
                      go_wp2
                      go_roundw
                      case rel => exact ⟨k + 1, g2, by omega, rfl, by go_num, FZ⟩
                      case measure => simp [intOf]; omega
                  · obtain rfl : k = l.length := by omega
                    have F : Shh (Below w.heap.size w wr) := ⟨HS.out.2.1⟩
                    clear HS HK
                    go_wp2
                    go_ret
                    exact ⟨rfl, F.out⟩
          · skip
            have hel : en.length ≤ 9000 := by have h := hl0; unfold long5B at h; simp at h; omega
            obtain ⟨X, hX⟩ : ∃ X, X = Y2.alloc (.cells #[.slice Ae en.length ce] 22) := ⟨_, rfl⟩
            have bX : Below Y2.heap.size Y2 X := by rw [hX]; exact below1 _ _
            have HX : Shh (PartsO X X.heap.size X.heap.size (.slice (some ⟨Y2.heap.size, 0, none⟩) 1 1) [en] ∧ Below Y2.heap.size Y2 X) := ⟨by rw [hX]; exact parts1 (HW.out.1.go H2.out), bX⟩
            rw [hX] at HX
            clear bX
            go_wp2_with (go_at_call 12; refine (refJoin_any _ _ _ [en] _ HX.out.1 (Nat.le_refl _) (by simp; omega) (by simp)).mono ?_)
            rintro e Y4 ⟨v4, rfl, g4⟩
            have e4 : [en].flatten = en := by simp
            rw [e4] at g4
            rw [← hX] at HX g4
            obtain ⟨Ao, co, qo, rfl, hco, hqo, how⟩ := own_at g4
            have H4 : Shh (Sl Y4 Y4.heap.size (.slice Ao en.length co) en ∧ Below w.heap.size w Y4 ∧ OwnAt Y4 Ao en.length qo ∧ (0 < en.length → w.heap.size ≤ qo ∧ qo < Y4.heap.size)) := ⟨gives_sl g4, Below.chain H2.out (Below.chain HX.out.2 g4.2), how, fun h => by have := hqo h; have := H2.out.size; have := HX.out.2.size; omega⟩
            clear g4 HX e4 hX hqo how H2
            obtain ⟨er, her⟩ : ∃ er, er = fitE en [no, pe] := ⟨_, rfl⟩
            have hne : (er != 0) = true := by rw [her]; simpa using hf
            have HER : Shh (fitE en [no, pe] = er) := ⟨her.symm⟩
            have HF : Shh (fitE en [no, pe] ≠ 0) := ⟨hf⟩
            clear hf her
            go_wp2_with (go_at_call 13; refine (new_bad _ _ _ en no pe Y4 H4.out.1 (HW.out.2.1.go H4.out.2.1) (HW.out.2.2.1.go H4.out.2.1) HF.out).mono ?_)
            rintro e Y5 ⟨rfl, b5⟩
            rw [HER.out]
            have H5 : Shh (Below w.heap.size w Y5 ∧ OwnAt Y5 Ao en.length qo ∧ (0 < en.length → w.heap.size ≤ qo ∧ qo < Y5.heap.size)) := ⟨Below.chain H4.out.2.1 b5, H4.out.2.2.1.go b5, fun h => by have := H4.out.2.2.2 h; have := b5.size; omega⟩
            clear b5 H4
            go_wp2_with (go_at_call 14; refine (refNew_bad _ _ _ en no pe Y5 (HW.out.1.go H5.out.1) (HW.out.2.1.go H5.out.1) (HW.out.2.2.1.go H5.out.1) HF.out).mono ?_)
            unfold RBadIs RNone
            rintro e Y6 ⟨rfl, b6⟩
            rw [HER.out]
            obtain ⟨P, hP⟩ : ∃ P, Y6.heap.size = P := ⟨_, rfl⟩
            obtain ⟨Z, hZ⟩ : ∃ Z, Z = Y6.alloc (.cells #[.slice none 0 0, .slice none 0 0, .int .i64 0] 33) := ⟨_, rfl⟩
            have bZ : Below Y6.heap.size Y6 Z := by rw [hZ]; exact below1 _ _
            have bb := Below.chain b6 bZ
            have H6 : Shh (Below w.heap.size w Z ∧ OwnAt Z Ao en.length qo ∧ (0 < en.length → w.heap.size ≤ qo ∧ qo < P) ∧ Row Z P 33 [.slice none 0 0, .slice none 0 0, .int .i64 0] ∧ Z.heap.size = P + 1 ∧ w.heap.size ≤ P) :=
              ⟨H5.out.1.trans (bb.mono H5.out.1.size), H5.out.2.1.go bb, fun h => by have := H5.out.2.2 h; have := b6.size; omega, by rw [hZ]; exact Row.new_ hP.symm rfl, by rw [hZ, asz, hP], by have := H5.out.1.size; have := b6.size; omega⟩
            clear b6 bZ bb H5
            rw [hZ] at H6
            go_wp2_with (refine wpList_store_any rfl 33 (.tmp 12) (.tmp 54) rfl P rfl [.slice none 0 0, .slice none 0 0, .int .i64 0] rfl 33 [.slice none 0 0, .slice none 0 0, .int .i64 0] H6.out.2.2.2.1 info_rd rfl cell_slices ?_)
            intro Z2 hr bt zt
            rw [← hZ] at H6 bt
            clear hZ hP zt hr
            have H7 : Shh (Below w.heap.size w Z2 ∧ OwnAt Z2 Ao en.length qo) := by
              have hz := H6.out.2.2.2.2
              have bU : Below P Z Z2 := bt.under (by omega) (Nat.le_refl _)
              exact ⟨H6.out.1.trans (bU.mono (by omega)), fun h => by
                obtain ⟨hA, T, cs, hrr, hc⟩ := H6.out.2.1 h
                exact ⟨hA, T, cs, hrr.below bU (by have := H6.out.2.2.1 h; omega), hc⟩⟩
            have HQ : Shh (0 < en.length → w.heap.size ≤ qo) := ⟨fun h => (H6.out.2.2.1 h).1⟩
            clear bt H6
            go_wp2
            go_loopw [14, 68] (fun _ i wr => ∃ k : Nat, k ≤ en.length ∧ i = .int .i64 k ∧ Shh (Below w.heap.size w wr ∧ OwnAt wr Ao en.length qo)) (fun _ i _ => en.length - (intOf i).toNat)
            case atStart => exact ⟨0, Nat.zero_le _, rfl, H7⟩
            case round =>
              clear H7
              obtain ⟨k, hk, rfl, H⟩ := hrel
              by_cases hlt : k < en.length
              · obtain ⟨rfl, T, cs, hr, hc⟩ := H.out.2 (by omega)
                obtain ⟨z, hz⟩ := hc k hlt
                have c0 : wr.cell? ⟨qo, k, none⟩ = some (.int .u8 z) := (hr.cell k).trans hz
                have f0 := hr.free k
                have HN : Shh (∀ z' : Int, Below w.heap.size w (wr.setCell ⟨qo, k, none⟩ (.int .u8 z')) ∧ OwnAt (wr.setCell ⟨qo, k, none⟩ (.int .u8 z')) (some ⟨qo, 0, none⟩) en.length qo) := ⟨fun z' => ⟨H.out.1.trans ((But.setc wr qo k (.int .u8 z')).under H.out.1.size (HQ.out (by omega))), H.out.2.set_ k z'⟩⟩
                clear H hr hc hz
                go_wp2
                go_roundw
                case rel => exact ⟨k + 1, by omega, by go_num, ⟨HN.out _⟩⟩
                case measure => simp [intOf]; omega
              · obtain rfl : k = en.length := by omega
                have H8 : Shh (Below w.heap.size w wr) := ⟨H.out.1⟩
                clear H HQ hk hlt HF HER
                go_wp2
                go_loopw [10, 16, 17, 18, 19, 80] (fun d _ _ _ _ i wr => d = .pointer none ∧ i = .int .i64 ((0 : Nat) : Int) ∧ Shh (Below w.heap.size w wr)) (fun _ _ _ _ _ i _ => l.length - (intOf i).toNat)
                case atStart => exact ⟨rfl, rfl, H8⟩
                case round =>
                  clear H8
                  obtain ⟨rfl, rfl, HS⟩ := hrel
                  by_cases hlt : 0 < l.length
                  · obtain ⟨q, off, rfl, hq, hcc⟩ := HW.out.2.2.2.1.at_ (by omega)
                    have hcw := hcc 0 hlt
                    clear hcc
                    generalize l[0] = x at *
                    obtain ⟨r, nn, bb, aa, cp⟩ := x
                    obtain ⟨vb, va, d0, d1, d2, d3, d4, tb, ta⟩ := hcw
                    obtain ⟨Ab, cb, rfl, _, _⟩ := tb.form
                    obtain ⟨Aa, ca, rfl, _, _⟩ := ta.form
                    have hbw := HS.out
                    have c0 := (hbw.cell (p := ⟨q, off, none⟩) hq).trans (by simpa using d0)
                    have c1 := (hbw.cell (p := ⟨q, off + 1, none⟩) hq).trans (by simpa using d1)
                    have c2 := (hbw.cell (p := ⟨q, off + 2, none⟩) hq).trans (by simpa using d2)
                    have c3 := (hbw.cell (p := ⟨q, off + 3, none⟩) hq).trans (by simpa using d3)
                    have c4 := (hbw.cell (p := ⟨q, off + 4, none⟩) hq).trans (by simpa using d4)
                    clear d0 d1 d2 d3 d4 tb ta hbw
                    have F : Shh (∀ o, Below w.heap.size w (wr.alloc o)) := ⟨fun o => HS.out.alloc HS.out.size _⟩
                    clear HS
                    go_wp2
                    go_ret
                    exact ⟨rfl, F.out _⟩
                  · have hl0 : l.length = 0 := by omega
                    have F : Shh (Below w.heap.size w wr) := HS
                    clear HS
                    go_wp2
                    go_ret
                    exact ⟨rfl, F.out⟩
end Go.Proofs.YtanpplniedphkaaDoor
