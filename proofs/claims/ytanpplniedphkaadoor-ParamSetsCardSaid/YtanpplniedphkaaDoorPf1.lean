/-
  THE ITERATORS over the codes of each kind: what they tell.
-/
import Derived.Test.YtanpplniedphkaaDoorPf0
namespace Go.Proofs.YtanpplniedphkaaDoor
open Go.RowKit Go.Shelf
set_option maxRecDepth 100000
attribute [local go_sem] Oper.semAt_some
def okO (c : Nat) : Bool := decide (oE c = 0)
def okL (c : Nat) : Bool := decide (lE c = 0)
def okX (c : Nat) : Bool := decide (xE c = 0)
theorem oE_or (c : Nat) : oE c = 0 ∨ oE c = 60 := by unfold oE; split <;> omega
theorem lE_or (c : Nat) : lE c = 0 ∨ lE c = 60 := by unfold lE; split <;> omega
theorem xE_or (c : Nat) : xE c = 0 ∨ xE c = 60 := by unfold xE; split <;> omega
set_option maxHeartbeats 4000000 in
theorem codesOts_in (l bB fB g n₀ : Nat) (bs : List Nat) (hlen : bs.length ≤ 1000) (hbs : ∀ b ∈ bs, b + 64 < 4294967296) (J Jx : List C32 → World → Prop) (W : World) (hJ : AbidesFrom W.heap.size J)
    (hY : ∀ pre x W1, J pre W1 → pre.length < 64 * bs.length + 1 → YieldAt Fence.wide 2 Tryd.prog l #[.int .u32 ((x : C32).1 : Int)] W1 fun e W' =>
      (e = .returned (.bool true) ∧ J (pre ++ [x]) W' ∧ Below n₀ W1 W') ∨ (e = .returned (.bool false) ∧ Jx (pre ++ [x]) W'))
    (hn : n₀ ≤ W.heap.size) (lB : bB < n₀) (lF : fB < n₀) (lg : g < n₀) (hB : W.cell? ⟨bB, 0, none⟩ = some (.slice (some ⟨g, 0, none⟩) bs.length bs.length)) (hF : W.cell? ⟨fB, 0, none⟩ = some (.func (.func 18) #[] #[]))
    (hg : ∀ i, i < bs.length → W.cell? ⟨g, i, none⟩ = some (.int .u32 ((bs.getD i 0 : Nat) : Int))) (h0 : J [] W) :
    CallsIn Fence.wide 3 Tryd.prog 109 (#[.func (.yield l) #[] #[]] ++ #[.pointer (some ⟨bB, 0, none⟩), .pointer (some ⟨fB, 0, none⟩)]) W fun e W' => (∃ v, e = .returned v) ∧ ((∃ xs, xs = upC okO bs (64 * bs.length) ∧ J xs W') ∨ (∃ pre, pre <+: upC okO bs (64 * bs.length) ∧ Jx pre W')) := by
  have H0 : Shh (J (upC okO bs (64 * 0)) W ∧ Below n₀ W W) := ⟨h0, Below.refl _ _⟩
  have HC : Shh (∀ Z, Below n₀ W Z → Z.cell? ⟨bB, 0, none⟩ = some (.slice (some ⟨g, 0, none⟩) bs.length bs.length) ∧ Z.cell? ⟨fB, 0, none⟩ = some (.func (.func 18) #[] #[]) ∧ ∀ i, i < bs.length → Z.cell? ⟨g, i, none⟩ = some (.int .u32 ((bs.getD i 0 : Nat) : Int))) :=
    ⟨fun Z hZ => ⟨(hZ.cell (p := ⟨bB, 0, none⟩) lB).trans hB, (hZ.cell (p := ⟨fB, 0, none⟩) lF).trans hF, fun i hi => (hZ.cell (p := ⟨g, i, none⟩) lg).trans (hg i hi)⟩⟩
  have HY := Shh.mk hY
  have HJ := Shh.mk hJ
  have HS := Shh.mk (And.intro hn (And.intro lB (And.intro lF lg)))
  have HBS := Shh.mk hbs
  clear hY hJ h0 hF hg hbs hn lB lF lg
  refine callsIn_of_wp Tryd.func109 rfl trivial ?_ rfl
  simp only [Tryd.ntmps109, List.size_toArray, List.length_cons, List.length_nil, Nat.reduceAdd, Nat.reduceSub, Array.replicate_succ, Array.replicate_zero, List.push_toArray, List.append_toArray, List.nil_append, List.cons_append]
  gi_wp2
  gi_loopw [11] (fun i wr => ∃ k : Nat, k ≤ bs.length ∧ i = .int .i64 (k : Int) ∧ Shh (J (upC okO bs (64 * k)) wr ∧ Below n₀ W wr)) (fun i _ => bs.length - (intOf i).toNat)
  case atStart => exact ⟨0, Nat.zero_le _, rfl, H0⟩
  case round =>
    clear H0 hB
    obtain ⟨k, hk, rfl, H⟩ := hrel
    by_cases hlt : k < bs.length
    · obtain ⟨b, hb⟩ : ∃ b, bs.getD k 0 = b := ⟨_, rfl⟩
      have hcb : wr.cell? ⟨g, k, none⟩ = some (.int .u32 (b : Int)) := by rw [← hb]; exact (HC.out wr H.out.2).2.2 k hlt
      have hb2 : b + 64 < 4294967296 := by
        rw [← hb]
        refine HBS.out _ ?_
        rw [List.getD_eq_getElem?_getD, List.getElem?_eq_getElem hlt]
        exact List.getElem_mem hlt
      have HB := Shh.mk hb
      clear hb
      have H1 : Shh (J (upC okO bs (64 * k + (b - b))) wr ∧ Below n₀ W wr) := by rw [Nat.sub_self]; exact H
      have hw : IntKind.u32.wrap ((b : Int) + 64) = (b : Int) + 64 := by rw [IntKind.wrap_u32]; omega
      clear H
      gi_wp2
      gi_loopw [6] (fun c w1 => ∃ q : Nat, b ≤ q ∧ q ≤ b + 64 ∧ c = .int .u32 (q : Int) ∧ Shh (J (upC okO bs (64 * k + (q - b))) w1 ∧ Below n₀ W w1)) (fun c _ => b + 64 - (intOf c).toNat)
      case atStart => exact ⟨b, Nat.le_refl _, by omega, rfl, H1⟩
      case round =>
        clear H1 hcb
        obtain ⟨q, hq1, hq2, rfl, H⟩ := hrel
        by_cases hjl : q < b + 64
        · obtain ⟨b1, hcf, _⟩ := HC.out wr H.out.2
          clear b1
          have hset : ∀ W, Calls Tryd.prog 18 #[.int .u32 (q : Int)] W (OldIs (.tuple #[otsV q, .int .i64 (oE q)]) W) := fun W => ots_any q W
          unfold otsV OldIs at hset
          have hi1 : (q : Int) < (b : Int) + 64 := by omega
          have hw2 : IntKind.u32.wrap ((q : Int) + 1) = (q : Int) + 1 := by rw [IntKind.wrap_u32]; omega
          have hidx : 64 * k + (q + 1 - b) = (64 * k + (q - b)) + 1 := by omega
          have he : (at32 bs (64 * k + (q - b))).1 = q := by rw [at32_eq (by omega) b HB.out hb2]; omega
          have HE := Shh.mk (And.intro hidx he)
          have hle : 64 * k + (q - b) < 64 * bs.length := by omega
          clear hidx he
          rcases oE_or q with hE | hE
          · have HO : Shh (okO (at32 bs (64 * k + (q - b))).1 = true) := ⟨by rw [HE.out.2]; exact decide_eq_true hE⟩
            rw [hE] at hset
            clear hE
            gi_wp2_with (refine ⟨trivial, ?_⟩; gi_at_call 18; refine (callsIn_wide.2 (hset _)).mono ?_)
            rintro e w2 ⟨rfl, b2⟩
            clear hset hcf
            obtain ⟨G, hG⟩ : ∃ G, Shh (G = w2.heap.size) := ⟨_, ⟨rfl⟩⟩
            gi_wp2_with (refine wlIn_store_any rfl 46 (.tmp 7) (.tmp 26) rfl G (by rw [hG.out]; rfl) [.int .u32 (oC q), .bool (oR q).1, .int .i64 (oR q).2.1, .int .i64 (oR q).2.2.1, .int .i64 (oR q).2.2.2.1, .int .i64 (oR q).2.2.2.2] rfl 46 _ (Row.new_ hG.out rfl) info_ots rfl oneCell6 ?_)
            intro Z hr bt _
            have F : Shh (J (upC okO bs (64 * k + (q - b))) Z ∧ Below n₀ W Z) := by
              have bZ : Below wr.heap.size wr Z := Below.chain b2 ((Below.alloc (Below.refl _ _) (Nat.le_refl _) _).trans (bt.under (by have := hG.out; first | omega | (simp only [asz]; omega)) (by have := hG.out; omega)))
              exact ⟨HJ.out _ _ _ none H.out.1 (grow_of bZ) (fun r e => by cases e), H.out.2.trans (bZ.mono (Nat.le_trans HS.out.1 H.out.2.size))⟩
            clear hr bt b2 hG H
            obtain ⟨fn, tmps, assign, body, hy, hR⟩ := HY.out _ (at32 bs (64 * k + (q - b))) Z F.out.1 (Nat.lt_of_le_of_lt upC_length (by omega))
            rw [HE.out.2] at hy
            gi_wp2
            refine hR.mono ?_
            rintro e W3 (⟨rfl, hJ3, hk3⟩ | ⟨rfl, hJx3⟩)
            · have F3 : Shh (J (upC okO bs (64 * k + (q + 1 - b))) W3 ∧ Below n₀ W W3) := ⟨by rw [HE.out.1, upC_yes HO.out]; exact hJ3, F.out.2.trans hk3⟩
              clear F hR hy hJ3 hk3
              gi_wp2
              go_roundw
              case rel => exact ⟨q + 1, by omega, by omega, by go_num, F3⟩
              case measure => simp [intOf]; omega
            · have F3 : Shh ((upC okO bs (64 * k + (q - b)) ++ [at32 bs (64 * k + (q - b))] <+: upC okO bs (64 * bs.length)) ∧ Jx (upC okO bs (64 * k + (q - b)) ++ [at32 bs (64 * k + (q - b))]) W3) := ⟨by rw [← upC_yes HO.out]; exact upC_le (by omega), hJx3⟩
              clear F hR hy hJx3
              gi_wp2
              refine bodyPost_ret (results_none rfl _ _ _) rfl ?_
              exact ⟨⟨_, rfl⟩, .inr ⟨_, F3.out.1, F3.out.2⟩⟩
          · have HO : Shh (okO (at32 bs (64 * k + (q - b))).1 = false) := ⟨by rw [HE.out.2]; exact decide_eq_false (by omega)⟩
            rw [hE] at hset
            clear hE
            gi_wp2_with (refine ⟨trivial, ?_⟩; gi_at_call 18; refine (callsIn_wide.2 (hset _)).mono ?_)
            rintro e w2 ⟨rfl, b2⟩
            clear hset hcf
            obtain ⟨G, hG⟩ : ∃ G, Shh (G = w2.heap.size) := ⟨_, ⟨rfl⟩⟩
            gi_wp2_with (refine wlIn_store_any rfl 46 (.tmp 7) (.tmp 26) rfl G (by rw [hG.out]; rfl) [.int .u32 (oC q), .bool (oR q).1, .int .i64 (oR q).2.1, .int .i64 (oR q).2.2.1, .int .i64 (oR q).2.2.2.1, .int .i64 (oR q).2.2.2.2] rfl 46 _ (Row.new_ hG.out rfl) info_ots rfl oneCell6 ?_)
            intro Z hr bt _
            have F3 : Shh (J (upC okO bs (64 * k + (q + 1 - b))) Z ∧ Below n₀ W Z) := by
              have bZ : Below wr.heap.size wr Z := Below.chain b2 ((Below.alloc (Below.refl _ _) (Nat.le_refl _) _).trans (bt.under (by have := hG.out; first | omega | (simp only [asz]; omega)) (by have := hG.out; omega)))
              exact ⟨by rw [HE.out.1, upC_no HO.out]; exact HJ.out _ _ _ none H.out.1 (grow_of bZ) (fun r e => by cases e), H.out.2.trans (bZ.mono (Nat.le_trans HS.out.1 H.out.2.size))⟩
            clear hr bt b2 hG H
            gi_wp2
            refine ⟨fun _ h => (by cases h), ?_⟩
            gi_wp2
            go_roundw
            case rel => exact ⟨q + 1, by omega, by omega, by go_num, F3⟩
            case measure => simp [intOf]; omega
        · have F4 : Shh (J (upC okO bs (64 * (k + 1))) wr ∧ Below n₀ W wr) := by
            have e : 64 * (k + 1) = 64 * k + (q - b) := by omega
            rw [e]
            exact H
          have hi1 : ¬ (q : Int) < (b : Int) + 64 := by omega
          clear H
          gi_wp2
          go_roundw
          case rel => exact ⟨k + 1, by omega, by go_num, F4⟩
          case measure => simp [intOf]; omega
    · obtain rfl : k = bs.length := by omega
      gi_wp2
      go_end0
      exact ⟨⟨_, rfl⟩, .inl ⟨_, rfl, H.out.1⟩⟩
set_option maxHeartbeats 4000000 in
theorem codesLms_in (l bB fB g n₀ : Nat) (bs : List Nat) (hlen : bs.length ≤ 1000) (hbs : ∀ b ∈ bs, b + 64 < 4294967296) (J Jx : List C32 → World → Prop) (W : World) (hJ : AbidesFrom W.heap.size J)
    (hY : ∀ pre x W1, J pre W1 → pre.length < 64 * bs.length + 1 → YieldAt Fence.wide 2 Tryd.prog l #[.int .u32 ((x : C32).1 : Int)] W1 fun e W' =>
      (e = .returned (.bool true) ∧ J (pre ++ [x]) W' ∧ Below n₀ W1 W') ∨ (e = .returned (.bool false) ∧ Jx (pre ++ [x]) W'))
    (hn : n₀ ≤ W.heap.size) (lB : bB < n₀) (lF : fB < n₀) (lg : g < n₀) (hB : W.cell? ⟨bB, 0, none⟩ = some (.slice (some ⟨g, 0, none⟩) bs.length bs.length)) (hF : W.cell? ⟨fB, 0, none⟩ = some (.func (.func 19) #[] #[]))
    (hg : ∀ i, i < bs.length → W.cell? ⟨g, i, none⟩ = some (.int .u32 ((bs.getD i 0 : Nat) : Int))) (h0 : J [] W) :
    CallsIn Fence.wide 3 Tryd.prog 110 (#[.func (.yield l) #[] #[]] ++ #[.pointer (some ⟨bB, 0, none⟩), .pointer (some ⟨fB, 0, none⟩)]) W fun e W' => (∃ v, e = .returned v) ∧ ((∃ xs, xs = upC okL bs (64 * bs.length) ∧ J xs W') ∨ (∃ pre, pre <+: upC okL bs (64 * bs.length) ∧ Jx pre W')) := by
  have H0 : Shh (J (upC okL bs (64 * 0)) W ∧ Below n₀ W W) := ⟨h0, Below.refl _ _⟩
  have HC : Shh (∀ Z, Below n₀ W Z → Z.cell? ⟨bB, 0, none⟩ = some (.slice (some ⟨g, 0, none⟩) bs.length bs.length) ∧ Z.cell? ⟨fB, 0, none⟩ = some (.func (.func 19) #[] #[]) ∧ ∀ i, i < bs.length → Z.cell? ⟨g, i, none⟩ = some (.int .u32 ((bs.getD i 0 : Nat) : Int))) :=
    ⟨fun Z hZ => ⟨(hZ.cell (p := ⟨bB, 0, none⟩) lB).trans hB, (hZ.cell (p := ⟨fB, 0, none⟩) lF).trans hF, fun i hi => (hZ.cell (p := ⟨g, i, none⟩) lg).trans (hg i hi)⟩⟩
  have HY := Shh.mk hY
  have HJ := Shh.mk hJ
  have HS := Shh.mk (And.intro hn (And.intro lB (And.intro lF lg)))
  have HBS := Shh.mk hbs
  clear hY hJ h0 hF hg hbs hn lB lF lg
  refine callsIn_of_wp Tryd.func110 rfl trivial ?_ rfl
  simp only [Tryd.ntmps110, List.size_toArray, List.length_cons, List.length_nil, Nat.reduceAdd, Nat.reduceSub, Array.replicate_succ, Array.replicate_zero, List.push_toArray, List.append_toArray, List.nil_append, List.cons_append]
  gi_wp2
  gi_loopw [11] (fun i wr => ∃ k : Nat, k ≤ bs.length ∧ i = .int .i64 (k : Int) ∧ Shh (J (upC okL bs (64 * k)) wr ∧ Below n₀ W wr)) (fun i _ => bs.length - (intOf i).toNat)
  case atStart => exact ⟨0, Nat.zero_le _, rfl, H0⟩
  case round =>
    clear H0 hB
    obtain ⟨k, hk, rfl, H⟩ := hrel
    by_cases hlt : k < bs.length
    · obtain ⟨b, hb⟩ : ∃ b, bs.getD k 0 = b := ⟨_, rfl⟩
      have hcb : wr.cell? ⟨g, k, none⟩ = some (.int .u32 (b : Int)) := by rw [← hb]; exact (HC.out wr H.out.2).2.2 k hlt
      have hb2 : b + 64 < 4294967296 := by
        rw [← hb]
        refine HBS.out _ ?_
        rw [List.getD_eq_getElem?_getD, List.getElem?_eq_getElem hlt]
        exact List.getElem_mem hlt
      have HB := Shh.mk hb
      clear hb
      have H1 : Shh (J (upC okL bs (64 * k + (b - b))) wr ∧ Below n₀ W wr) := by rw [Nat.sub_self]; exact H
      have hw : IntKind.u32.wrap ((b : Int) + 64) = (b : Int) + 64 := by rw [IntKind.wrap_u32]; omega
      clear H
      gi_wp2
      gi_loopw [6] (fun c w1 => ∃ q : Nat, b ≤ q ∧ q ≤ b + 64 ∧ c = .int .u32 (q : Int) ∧ Shh (J (upC okL bs (64 * k + (q - b))) w1 ∧ Below n₀ W w1)) (fun c _ => b + 64 - (intOf c).toNat)
      case atStart => exact ⟨b, Nat.le_refl _, by omega, rfl, H1⟩
      case round =>
        clear H1 hcb
        obtain ⟨q, hq1, hq2, rfl, H⟩ := hrel
        by_cases hjl : q < b + 64
        · obtain ⟨b1, hcf, _⟩ := HC.out wr H.out.2
          clear b1
          have hset : ∀ W, Calls Tryd.prog 19 #[.int .u32 (q : Int)] W (OldIs (.tuple #[lmsV q, .int .i64 (lE q)]) W) := fun W => lms_any q (by omega) W
          unfold lmsV OldIs at hset
          have hi1 : (q : Int) < (b : Int) + 64 := by omega
          have hw2 : IntKind.u32.wrap ((q : Int) + 1) = (q : Int) + 1 := by rw [IntKind.wrap_u32]; omega
          have hidx : 64 * k + (q + 1 - b) = (64 * k + (q - b)) + 1 := by omega
          have he : (at32 bs (64 * k + (q - b))).1 = q := by rw [at32_eq (by omega) b HB.out hb2]; omega
          have HE := Shh.mk (And.intro hidx he)
          have hle : 64 * k + (q - b) < 64 * bs.length := by omega
          clear hidx he
          rcases lE_or q with hE | hE
          · have HO : Shh (okL (at32 bs (64 * k + (q - b))).1 = true) := ⟨by rw [HE.out.2]; exact decide_eq_true hE⟩
            rw [hE] at hset
            clear hE
            gi_wp2_with (refine ⟨trivial, ?_⟩; gi_at_call 19; refine (callsIn_wide.2 (hset _)).mono ?_)
            rintro e w2 ⟨rfl, b2⟩
            clear hset hcf
            obtain ⟨G, hG⟩ : ∃ G, Shh (G = w2.heap.size) := ⟨_, ⟨rfl⟩⟩
            gi_wp2_with (refine wlIn_store_any rfl 50 (.tmp 7) (.tmp 26) rfl G (by rw [hG.out]; rfl) [.int .u32 (lC q), .bool (lSh q), .int .i64 (lN q), .int .i64 (lH q : Int)] rfl 50 _ (Row.new_ hG.out rfl) info_lms rfl oneCell4 ?_)
            intro Z hr bt _
            have F : Shh (J (upC okL bs (64 * k + (q - b))) Z ∧ Below n₀ W Z) := by
              have bZ : Below wr.heap.size wr Z := Below.chain b2 ((Below.alloc (Below.refl _ _) (Nat.le_refl _) _).trans (bt.under (by have := hG.out; first | omega | (simp only [asz]; omega)) (by have := hG.out; omega)))
              exact ⟨HJ.out _ _ _ none H.out.1 (grow_of bZ) (fun r e => by cases e), H.out.2.trans (bZ.mono (Nat.le_trans HS.out.1 H.out.2.size))⟩
            clear hr bt b2 hG H
            obtain ⟨fn, tmps, assign, body, hy, hR⟩ := HY.out _ (at32 bs (64 * k + (q - b))) Z F.out.1 (Nat.lt_of_le_of_lt upC_length (by omega))
            rw [HE.out.2] at hy
            gi_wp2
            refine hR.mono ?_
            rintro e W3 (⟨rfl, hJ3, hk3⟩ | ⟨rfl, hJx3⟩)
            · have F3 : Shh (J (upC okL bs (64 * k + (q + 1 - b))) W3 ∧ Below n₀ W W3) := ⟨by rw [HE.out.1, upC_yes HO.out]; exact hJ3, F.out.2.trans hk3⟩
              clear F hR hy hJ3 hk3
              gi_wp2
              go_roundw
              case rel => exact ⟨q + 1, by omega, by omega, by go_num, F3⟩
              case measure => simp [intOf]; omega
            · have F3 : Shh ((upC okL bs (64 * k + (q - b)) ++ [at32 bs (64 * k + (q - b))] <+: upC okL bs (64 * bs.length)) ∧ Jx (upC okL bs (64 * k + (q - b)) ++ [at32 bs (64 * k + (q - b))]) W3) := ⟨by rw [← upC_yes HO.out]; exact upC_le (by omega), hJx3⟩
              clear F hR hy hJx3
              gi_wp2
              refine bodyPost_ret (results_none rfl _ _ _) rfl ?_
              exact ⟨⟨_, rfl⟩, .inr ⟨_, F3.out.1, F3.out.2⟩⟩
          · have HO : Shh (okL (at32 bs (64 * k + (q - b))).1 = false) := ⟨by rw [HE.out.2]; exact decide_eq_false (by omega)⟩
            rw [hE] at hset
            clear hE
            gi_wp2_with (refine ⟨trivial, ?_⟩; gi_at_call 19; refine (callsIn_wide.2 (hset _)).mono ?_)
            rintro e w2 ⟨rfl, b2⟩
            clear hset hcf
            obtain ⟨G, hG⟩ : ∃ G, Shh (G = w2.heap.size) := ⟨_, ⟨rfl⟩⟩
            gi_wp2_with (refine wlIn_store_any rfl 50 (.tmp 7) (.tmp 26) rfl G (by rw [hG.out]; rfl) [.int .u32 (lC q), .bool (lSh q), .int .i64 (lN q), .int .i64 (lH q : Int)] rfl 50 _ (Row.new_ hG.out rfl) info_lms rfl oneCell4 ?_)
            intro Z hr bt _
            have F3 : Shh (J (upC okL bs (64 * k + (q + 1 - b))) Z ∧ Below n₀ W Z) := by
              have bZ : Below wr.heap.size wr Z := Below.chain b2 ((Below.alloc (Below.refl _ _) (Nat.le_refl _) _).trans (bt.under (by have := hG.out; first | omega | (simp only [asz]; omega)) (by have := hG.out; omega)))
              exact ⟨by rw [HE.out.1, upC_no HO.out]; exact HJ.out _ _ _ none H.out.1 (grow_of bZ) (fun r e => by cases e), H.out.2.trans (bZ.mono (Nat.le_trans HS.out.1 H.out.2.size))⟩
            clear hr bt b2 hG H
            gi_wp2
            refine ⟨fun _ h => (by cases h), ?_⟩
            gi_wp2
            go_roundw
            case rel => exact ⟨q + 1, by omega, by omega, by go_num, F3⟩
            case measure => simp [intOf]; omega
        · have F4 : Shh (J (upC okL bs (64 * (k + 1))) wr ∧ Below n₀ W wr) := by
            have e : 64 * (k + 1) = 64 * k + (q - b) := by omega
            rw [e]
            exact H
          have hi1 : ¬ (q : Int) < (b : Int) + 64 := by omega
          clear H
          gi_wp2
          go_roundw
          case rel => exact ⟨k + 1, by omega, by go_num, F4⟩
          case measure => simp [intOf]; omega
    · obtain rfl : k = bs.length := by omega
      gi_wp2
      go_end0
      exact ⟨⟨_, rfl⟩, .inl ⟨_, rfl, H.out.1⟩⟩
set_option maxHeartbeats 4000000 in
theorem codesXmss_in (l bB fB g n₀ : Nat) (bs : List Nat) (hlen : bs.length ≤ 1000) (hbs : ∀ b ∈ bs, b + 64 < 4294967296) (J Jx : List C32 → World → Prop) (W : World) (hJ : AbidesFrom W.heap.size J)
    (hY : ∀ pre x W1, J pre W1 → pre.length < 64 * bs.length + 1 → YieldAt Fence.wide 2 Tryd.prog l #[.int .u32 ((x : C32).1 : Int)] W1 fun e W' =>
      (e = .returned (.bool true) ∧ J (pre ++ [x]) W' ∧ Below n₀ W1 W') ∨ (e = .returned (.bool false) ∧ Jx (pre ++ [x]) W'))
    (hn : n₀ ≤ W.heap.size) (lB : bB < n₀) (lF : fB < n₀) (lg : g < n₀) (hB : W.cell? ⟨bB, 0, none⟩ = some (.slice (some ⟨g, 0, none⟩) bs.length bs.length)) (hF : W.cell? ⟨fB, 0, none⟩ = some (.func (.func 20) #[] #[]))
    (hg : ∀ i, i < bs.length → W.cell? ⟨g, i, none⟩ = some (.int .u32 ((bs.getD i 0 : Nat) : Int))) (h0 : J [] W) :
    CallsIn Fence.wide 3 Tryd.prog 111 (#[.func (.yield l) #[] #[]] ++ #[.pointer (some ⟨bB, 0, none⟩), .pointer (some ⟨fB, 0, none⟩)]) W fun e W' => (∃ v, e = .returned v) ∧ ((∃ xs, xs = upC okX bs (64 * bs.length) ∧ J xs W') ∨ (∃ pre, pre <+: upC okX bs (64 * bs.length) ∧ Jx pre W')) := by
  have H0 : Shh (J (upC okX bs (64 * 0)) W ∧ Below n₀ W W) := ⟨h0, Below.refl _ _⟩
  have HC : Shh (∀ Z, Below n₀ W Z → Z.cell? ⟨bB, 0, none⟩ = some (.slice (some ⟨g, 0, none⟩) bs.length bs.length) ∧ Z.cell? ⟨fB, 0, none⟩ = some (.func (.func 20) #[] #[]) ∧ ∀ i, i < bs.length → Z.cell? ⟨g, i, none⟩ = some (.int .u32 ((bs.getD i 0 : Nat) : Int))) :=
    ⟨fun Z hZ => ⟨(hZ.cell (p := ⟨bB, 0, none⟩) lB).trans hB, (hZ.cell (p := ⟨fB, 0, none⟩) lF).trans hF, fun i hi => (hZ.cell (p := ⟨g, i, none⟩) lg).trans (hg i hi)⟩⟩
  have HY := Shh.mk hY
  have HJ := Shh.mk hJ
  have HS := Shh.mk (And.intro hn (And.intro lB (And.intro lF lg)))
  have HBS := Shh.mk hbs
  clear hY hJ h0 hF hg hbs hn lB lF lg
  refine callsIn_of_wp Tryd.func111 rfl trivial ?_ rfl
  simp only [Tryd.ntmps111, List.size_toArray, List.length_cons, List.length_nil, Nat.reduceAdd, Nat.reduceSub, Array.replicate_succ, Array.replicate_zero, List.push_toArray, List.append_toArray, List.nil_append, List.cons_append]
  gi_wp2
  gi_loopw [11] (fun i wr => ∃ k : Nat, k ≤ bs.length ∧ i = .int .i64 (k : Int) ∧ Shh (J (upC okX bs (64 * k)) wr ∧ Below n₀ W wr)) (fun i _ => bs.length - (intOf i).toNat)
  case atStart => exact ⟨0, Nat.zero_le _, rfl, H0⟩
  case round =>
    clear H0 hB
    obtain ⟨k, hk, rfl, H⟩ := hrel
    by_cases hlt : k < bs.length
    · obtain ⟨b, hb⟩ : ∃ b, bs.getD k 0 = b := ⟨_, rfl⟩
      have hcb : wr.cell? ⟨g, k, none⟩ = some (.int .u32 (b : Int)) := by rw [← hb]; exact (HC.out wr H.out.2).2.2 k hlt
      have hb2 : b + 64 < 4294967296 := by
        rw [← hb]
        refine HBS.out _ ?_
        rw [List.getD_eq_getElem?_getD, List.getElem?_eq_getElem hlt]
        exact List.getElem_mem hlt
      have HB := Shh.mk hb
      clear hb
      have H1 : Shh (J (upC okX bs (64 * k + (b - b))) wr ∧ Below n₀ W wr) := by rw [Nat.sub_self]; exact H
      have hw : IntKind.u32.wrap ((b : Int) + 64) = (b : Int) + 64 := by rw [IntKind.wrap_u32]; omega
      clear H
      gi_wp2
      gi_loopw [6] (fun c w1 => ∃ q : Nat, b ≤ q ∧ q ≤ b + 64 ∧ c = .int .u32 (q : Int) ∧ Shh (J (upC okX bs (64 * k + (q - b))) w1 ∧ Below n₀ W w1)) (fun c _ => b + 64 - (intOf c).toNat)
      case atStart => exact ⟨b, Nat.le_refl _, by omega, rfl, H1⟩
      case round =>
        clear H1 hcb
        obtain ⟨q, hq1, hq2, rfl, H⟩ := hrel
        by_cases hjl : q < b + 64
        · obtain ⟨b1, hcf, _⟩ := HC.out wr H.out.2
          clear b1
          have hset : ∀ W, Calls Tryd.prog 20 #[.int .u32 (q : Int)] W (OldIs (.tuple #[xmsV q, .int .i64 (xE q)]) W) := fun W => xmss_any q (by omega) W
          unfold xmsV OldIs at hset
          have hi1 : (q : Int) < (b : Int) + 64 := by omega
          have hw2 : IntKind.u32.wrap ((q : Int) + 1) = (q : Int) + 1 := by rw [IntKind.wrap_u32]; omega
          have hidx : 64 * k + (q + 1 - b) = (64 * k + (q - b)) + 1 := by omega
          have he : (at32 bs (64 * k + (q - b))).1 = q := by rw [at32_eq (by omega) b HB.out hb2]; omega
          have HE := Shh.mk (And.intro hidx he)
          have hle : 64 * k + (q - b) < 64 * bs.length := by omega
          clear hidx he
          rcases xE_or q with hE | hE
          · have HO : Shh (okX (at32 bs (64 * k + (q - b))).1 = true) := ⟨by rw [HE.out.2]; exact decide_eq_true hE⟩
            rw [hE] at hset
            clear hE
            gi_wp2_with (refine ⟨trivial, ?_⟩; gi_at_call 20; refine (callsIn_wide.2 (hset _)).mono ?_)
            rintro e w2 ⟨rfl, b2⟩
            clear hset hcf
            obtain ⟨G, hG⟩ : ∃ G, Shh (G = w2.heap.size) := ⟨_, ⟨rfl⟩⟩
            gi_wp2_with (refine wlIn_store_any rfl 54 (.tmp 7) (.tmp 26) rfl G (by rw [hG.out]; rfl) [.int .u32 (xC q), .bool (xSh q), .int .i64 (xN q), .int .i64 (xH q : Int), .int .i64 (xL q)] rfl 54 _ (Row.new_ hG.out rfl) info_xms rfl oneCell5 ?_)
            intro Z hr bt _
            have F : Shh (J (upC okX bs (64 * k + (q - b))) Z ∧ Below n₀ W Z) := by
              have bZ : Below wr.heap.size wr Z := Below.chain b2 ((Below.alloc (Below.refl _ _) (Nat.le_refl _) _).trans (bt.under (by have := hG.out; first | omega | (simp only [asz]; omega)) (by have := hG.out; omega)))
              exact ⟨HJ.out _ _ _ none H.out.1 (grow_of bZ) (fun r e => by cases e), H.out.2.trans (bZ.mono (Nat.le_trans HS.out.1 H.out.2.size))⟩
            clear hr bt b2 hG H
            obtain ⟨fn, tmps, assign, body, hy, hR⟩ := HY.out _ (at32 bs (64 * k + (q - b))) Z F.out.1 (Nat.lt_of_le_of_lt upC_length (by omega))
            rw [HE.out.2] at hy
            gi_wp2
            refine hR.mono ?_
            rintro e W3 (⟨rfl, hJ3, hk3⟩ | ⟨rfl, hJx3⟩)
            · have F3 : Shh (J (upC okX bs (64 * k + (q + 1 - b))) W3 ∧ Below n₀ W W3) := ⟨by rw [HE.out.1, upC_yes HO.out]; exact hJ3, F.out.2.trans hk3⟩
              clear F hR hy hJ3 hk3
              gi_wp2
              go_roundw
              case rel => exact ⟨q + 1, by omega, by omega, by go_num, F3⟩
              case measure => simp [intOf]; omega
            · have F3 : Shh ((upC okX bs (64 * k + (q - b)) ++ [at32 bs (64 * k + (q - b))] <+: upC okX bs (64 * bs.length)) ∧ Jx (upC okX bs (64 * k + (q - b)) ++ [at32 bs (64 * k + (q - b))]) W3) := ⟨by rw [← upC_yes HO.out]; exact upC_le (by omega), hJx3⟩
              clear F hR hy hJx3
              gi_wp2
              refine bodyPost_ret (results_none rfl _ _ _) rfl ?_
              exact ⟨⟨_, rfl⟩, .inr ⟨_, F3.out.1, F3.out.2⟩⟩
          · have HO : Shh (okX (at32 bs (64 * k + (q - b))).1 = false) := ⟨by rw [HE.out.2]; exact decide_eq_false (by omega)⟩
            rw [hE] at hset
            clear hE
            gi_wp2_with (refine ⟨trivial, ?_⟩; gi_at_call 20; refine (callsIn_wide.2 (hset _)).mono ?_)
            rintro e w2 ⟨rfl, b2⟩
            clear hset hcf
            obtain ⟨G, hG⟩ : ∃ G, Shh (G = w2.heap.size) := ⟨_, ⟨rfl⟩⟩
            gi_wp2_with (refine wlIn_store_any rfl 54 (.tmp 7) (.tmp 26) rfl G (by rw [hG.out]; rfl) [.int .u32 (xC q), .bool (xSh q), .int .i64 (xN q), .int .i64 (xH q : Int), .int .i64 (xL q)] rfl 54 _ (Row.new_ hG.out rfl) info_xms rfl oneCell5 ?_)
            intro Z hr bt _
            have F3 : Shh (J (upC okX bs (64 * k + (q + 1 - b))) Z ∧ Below n₀ W Z) := by
              have bZ : Below wr.heap.size wr Z := Below.chain b2 ((Below.alloc (Below.refl _ _) (Nat.le_refl _) _).trans (bt.under (by have := hG.out; first | omega | (simp only [asz]; omega)) (by have := hG.out; omega)))
              exact ⟨by rw [HE.out.1, upC_no HO.out]; exact HJ.out _ _ _ none H.out.1 (grow_of bZ) (fun r e => by cases e), H.out.2.trans (bZ.mono (Nat.le_trans HS.out.1 H.out.2.size))⟩
            clear hr bt b2 hG H
            gi_wp2
            refine ⟨fun _ h => (by cases h), ?_⟩
            gi_wp2
            go_roundw
            case rel => exact ⟨q + 1, by omega, by omega, by go_num, F3⟩
            case measure => simp [intOf]; omega
        · have F4 : Shh (J (upC okX bs (64 * (k + 1))) wr ∧ Below n₀ W wr) := by
            have e : 64 * (k + 1) = 64 * k + (q - b) := by omega
            rw [e]
            exact H
          have hi1 : ¬ (q : Int) < (b : Int) + 64 := by omega
          clear H
          gi_wp2
          go_roundw
          case rel => exact ⟨k + 1, by omega, by go_num, F4⟩
          case measure => simp [intOf]; omega
    · obtain rfl : k = bs.length := by omega
      gi_wp2
      go_end0
      exact ⟨⟨_, rfl⟩, .inl ⟨_, rfl, H.out.1⟩⟩
end Go.Proofs.YtanpplniedphkaaDoor
