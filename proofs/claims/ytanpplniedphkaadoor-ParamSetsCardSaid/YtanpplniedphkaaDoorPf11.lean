/-
  WALK: the document's Code; it is the program's.
-/
import Derived.Test.YtanpplniedphkaaDoorPf10
namespace Go.Proofs.YtanpplniedphkaaDoor
open Go.RowKit Go.Shelf
set_option maxRecDepth 100000
def anyB (kind : Int) (l : List Nat) (name : ByteArray) : Bool := l.any (fun c => decide (nmOf kind c = name))
def refGo (name : ByteArray) : List Int → Value
  | [] => .tuple #[.int .i64 0, .int .u32 0, .int .i64 60]
  | k :: ks => if anyB k (kN k) name then cdV k (kN k) name else refGo name ks
def ksOf (n : Nat) : List Int := if n = 1 then [1, 2, 3] else if n = 2 then [2, 3] else if n = 3 then [3] else []
def refV (name : ByteArray) : Value := refGo name (ksOf 1)
theorem refGo_step (name : ByteArray) (n : Nat) (h1 : 1 ≤ n) (h3 : n ≤ 3) : refGo name (ksOf n) = if anyB (n : Int) (kN (n : Int)) name then cdV (n : Int) (kN (n : Int)) name else refGo name (ksOf (n + 1)) := by
  rcases (by omega : n = 1 ∨ n = 2 ∨ n = 3) with rfl | rfl | rfl
  · rfl
  · rfl
  · rfl
theorem kN_lt (kind : Int) : ∀ c ∈ kN kind, c < 4294967296 := by
  unfold kN
  split
  · exact (by decide +kernel : ∀ c ∈ rL okO, c < 4294967296)
  · split
    · exact (by decide +kernel : ∀ c ∈ rL okL, c < 4294967296)
    · split
      · exact (by decide +kernel : ∀ c ∈ rL okX, c < 4294967296)
      · intro c h; cases h
theorem rL_len (ok : Nat → Bool) : (rL ok).length ≤ 152 := by
  have h1 := l1_len ok 24
  have h2 := l2_len ok 64
  unfold rL
  rw [List.length_append]
  omega
theorem kN_len (kind : Int) : (kN kind).length ≤ 152 := by
  unfold kN
  split
  · exact rL_len _
  · split
    · exact rL_len _
    · split
      · exact rL_len _
      · exact Nat.zero_le _
theorem rL_okK (n : Nat) (h1 : 1 ≤ n) (h3 : n ≤ 3) : rL (okK (n : Int)) = kN (n : Int) := by
  rcases (by omega : n = 1 ∨ n = 2 ∨ n = 3) with rfl | rfl | rfl
  · rfl
  · rfl
  · rfl
theorem refCodes_any (n : Nat) (h1 : 1 ≤ n) (h3 : n ≤ 3) (w : World) : Calls Tryd.prog 25 #[.int .i64 (n : Int)] w (SeeIs w (kN (n : Int))) := by
  have h := refCodes_of (n : Int) (okK (n : Int)) (fun c W hc => is_any (n : Int) c hc W) w
  rw [rL_okK n h1 h3] at h
  exact h
theorem cdV_at {kind : Int} {l : List Nat} {name : ByteArray} {i : Nat} (hi : i < l.length) (hn : ∀ j (h : j < l.length), j < i → nmOf kind l[j] ≠ name) (hx : nmOf kind l[i] = name) : cdV kind l name = .tuple #[.int .i64 kind, .int .u32 ((l[i] : Nat) : Int), .int .i64 0] := by
  have h : l.find? (fun c => decide (nmOf kind c = name)) = some l[i] := by
    rw [List.find?_eq_some_iff_getElem]
    exact ⟨by simp [hx], i, hi, rfl, fun j hj => by simpa using hn j (by omega) hj⟩
  unfold cdV
  rw [h]
set_option maxHeartbeats 4000000 in
theorem refCode_any (name : ByteArray) (w : World) : Calls Tryd.prog 29 #[.string name] w (OldIs (refV name) w) := by
  unfold OldIs
  obtain ⟨V, hV⟩ : ∃ V, refV name = V := ⟨_, rfl⟩
  rw [hV]
  have HV : Shh (refGo name (ksOf 1) = V) := ⟨hV⟩
  clear hV
  go_enter Tryd.func29, Tryd.ntmps29
  go_wp2
  go_loopw [5] (fun v wr => ∃ n : Nat, 1 ≤ n ∧ n ≤ 4 ∧ v = .int .i64 (n : Int) ∧ Shh (refGo name (ksOf n) = V ∧ Below w.heap.size w wr)) (fun v _ => 4 - (intOf v).toNat)
  case atStart => exact ⟨1, by omega, by omega, rfl, ⟨HV.out, Below.refl _ _⟩⟩
  case round =>
    clear HV
    obtain ⟨n, hn1, hn4, rfl, HN⟩ := hrel
    by_cases hlt : n ≤ 3
    · have hstep := refGo_step name n hn1 hlt
      have HS : Shh ((if anyB (n : Int) (kN (n : Int)) name then cdV (n : Int) (kN (n : Int)) name else refGo name (ksOf (n + 1))) = V) := ⟨by rw [← hstep]; exact HN.out.1⟩
      clear hstep
      have hll := kN_len (n : Int)
      have HLT := Shh.mk (kN_lt (n : Int))
      have hcodes := refCodes_any n hn1 hlt
      obtain ⟨l, hl⟩ : ∃ l, kN (n : Int) = l := ⟨_, rfl⟩
      rw [hl] at hll HS HLT hcodes
      clear hl
      go_wp2_with (go_at_call 25; refine (hcodes _).mono ?_)
      unfold SeeIs
      rintro e w2 ⟨v, rfl, hs, b2⟩
      obtain ⟨A, cp, rfl⟩ := hs.form
      have F := Shh.mk (And.intro hs (Below.chain HN.out.2 b2))
      clear hs b2 HN hcodes
      go_wp2
      go_loopw [16] (fun v wr => ∃ i : Nat, i ≤ l.length ∧ v = .int .i64 (i : Int) ∧ Shh ((∀ j (h : j < l.length), j < i → nmOf (n : Int) l[j] ≠ name) ∧ Below w2.heap.size w2 wr)) (fun v _ => l.length - (intOf v).toNat)
      case atStart => exact ⟨0, Nat.zero_le _, rfl, ⟨fun j _ h => absurd h (Nat.not_lt_zero _), Below.refl _ _⟩⟩
      case round =>
        obtain ⟨i, hi, rfl, HI⟩ := hrel
        by_cases hlt2 : i < l.length
        · obtain ⟨g, rfl, hca, hca2, hg, hcell⟩ := (F.out.1.go HI.out.2).at_ (by omega)
          have hx := hcell i hlt2
          have hgw : g < wr.heap.size := hg
          clear hcell
          obtain ⟨x, hxe⟩ : ∃ x, l[i] = x := ⟨_, rfl⟩
          have hxl : x < 4294967296 := by rw [← hxe]; exact HLT.out _ (List.getElem_mem hlt2)
          rw [hxe] at hx
          have hnm := rname_any (n : Int) x hxl
          obtain ⟨N, hN⟩ : ∃ N, nmOf (n : Int) x = N := ⟨_, rfl⟩
          rw [hN] at hnm
          by_cases hk : N = name
          · have HF : Shh (V = .tuple #[.int .i64 (n : Int), .int .u32 (x : Int), .int .i64 0]) := ⟨by
              have ha : anyB (n : Int) l name = true := by
                unfold anyB
                exact List.any_eq_true.2 ⟨l[i], List.getElem_mem hlt2, by rw [hxe, hN, hk]; simp⟩
              have h := HS.out
              rw [if_pos ha, cdV_at hlt2 HI.out.1 (by rw [hxe, hN, hk]), hxe] at h
              exact h.symm⟩
            have ee : (N.toList == name.toList) = true := by rw [str_eq]; exact decide_eq_true hk
            have HB := Shh.mk (Below.chain F.out.2 HI.out.2)
            clear hxe hN hk HI HS hxl HLT
            go_wp2_with (go_at_call 31; refine (hnm _).mono ?_)
            unfold OldIs
            rintro e w3 ⟨rfl, b3⟩
            have hx3 := (b3.cell (p := ⟨g, i, none⟩) hgw).trans hx
            have HB3 := Shh.mk (Below.chain HB.out b3)
            clear b3 HB hnm hx
            go_wp2
            go_quiet (fail)
            go_wp2
            go_ret3
            exact ⟨by rw [HF.out]; rfl, below_drewN HB3.out _⟩
          · have HF : Shh (∀ j (h : j < l.length), j < i + 1 → nmOf (n : Int) l[j] ≠ name) := ⟨fun j hj hji => by
              by_cases e : j = i
              · subst e; rw [hxe, hN]; exact hk
              · exact HI.out.1 j hj (by omega)⟩
            have ee : (N.toList == name.toList) = false := by rw [str_eq]; exact decide_eq_false hk
            have HB := Shh.mk HI.out.2
            clear hxe hN hk HI hxl
            go_wp2_with (go_at_call 31; refine (hnm _).mono ?_)
            unfold OldIs
            rintro e w3 ⟨rfl, b3⟩
            have HB3 : Shh ((∀ j (h : j < l.length), j < i + 1 → nmOf (n : Int) l[j] ≠ name) ∧ Below w2.heap.size w2 w3) := ⟨HF.out, Below.chain HB.out b3⟩
            clear b3 HB hnm HF hx
            go_wp2
            go_roundw
            case rel => exact ⟨i + 1, by omega, by go_num, HB3⟩
            case measure => simp [intOf]; omega
        · have HF : Shh (refGo name (ksOf (n + 1)) = V ∧ Below w.heap.size w wr) := ⟨by
            have ha : anyB (n : Int) l name = false := by
              unfold anyB
              rw [List.any_eq_false]
              intro c hc
              obtain ⟨j, hj, rfl⟩ := List.getElem_of_mem hc
              simpa using HI.out.1 j hj (by omega)
            have h := HS.out
            rw [ha] at h
            exact h, Below.chain F.out.2 HI.out.2⟩
          clear HI HS HLT
          go_wp2
          go_roundw
          case rel => exact ⟨n + 1, by omega, by omega, by go_num, HF⟩
          case measure => simp [intOf]; omega
    · have hn : n = 4 := by omega
      have HF : Shh (V = .tuple #[.int .i64 0, .int .u32 0, .int .i64 60] ∧ Below w.heap.size w wr) := ⟨by rw [← HN.out.1, hn]; rfl, HN.out.2⟩
      clear HN hn
      go_wp2
      go_ret3
      exact ⟨by rw [HF.out.1]; rfl, HF.out.2⟩
theorem any_none {kind : Int} {l : List Nat} {name : ByteArray} (h : anyB kind l name = false) : cdV kind l name = .tuple #[.int .i64 0, .int .u32 0, .int .i64 60] := by
  unfold anyB at h
  rw [List.any_eq_false] at h
  have h1 : l.find? (fun c => decide (nmOf kind c = name)) = none := by
    rw [List.find?_eq_none]
    intro c hc
    simpa using h c hc
  unfold cdV
  rw [h1]
theorem head_1 : ∀ c ∈ kN 1, headB (nmOf 1 c) = (⟨#[76, 77, 79, 84, 83, 95]⟩ : ByteArray) := by decide +kernel
theorem head_2 : ∀ c ∈ kN 2, headB (nmOf 2 c) = (⟨#[76, 77, 83, 95]⟩ : ByteArray) := by decide +kernel
theorem head_3 : ∀ c ∈ kN 3, headB (nmOf 3 c) = (⟨#[88, 77, 83, 83, 45]⟩ : ByteArray) := by decide +kernel
theorem any_head {kind : Int} {hd name : ByteArray} (h : ∀ c ∈ kN kind, headB (nmOf kind c) = hd) (hn : headB name ≠ hd) : anyB kind (kN kind) name = false := by
  unfold anyB
  rw [List.any_eq_false]
  intro c hc
  simp only [decide_eq_true_eq]
  intro e
  exact hn (by rw [← e]; exact h c hc)
theorem codeV_ref (name : ByteArray) : codeV name = refV name := by
  have e : refV name = if anyB 1 (kN 1) name then cdV 1 (kN 1) name else if anyB 2 (kN 2) name then cdV 2 (kN 2) name else if anyB 3 (kN 3) name then cdV 3 (kN 3) name else .tuple #[.int .i64 0, .int .u32 0, .int .i64 60] := rfl
  have c : codeV name = if headB name = (⟨#[76, 77, 79, 84, 83, 95]⟩ : ByteArray) then cdV 1 (kN 1) name else if headB name = (⟨#[76, 77, 83, 95]⟩ : ByteArray) then cdV 2 (kN 2) name else if headB name = (⟨#[88, 77, 83, 83, 45]⟩ : ByteArray) then cdV 3 (kN 3) name else .tuple #[.int .i64 0, .int .u32 0, .int .i64 60] := rfl
  have d12 : (⟨#[76, 77, 79, 84, 83, 95]⟩ : ByteArray) ≠ (⟨#[76, 77, 83, 95]⟩ : ByteArray) := by decide
  have d13 : (⟨#[76, 77, 79, 84, 83, 95]⟩ : ByteArray) ≠ (⟨#[88, 77, 83, 83, 45]⟩ : ByteArray) := by decide
  have d23 : (⟨#[76, 77, 83, 95]⟩ : ByteArray) ≠ (⟨#[88, 77, 83, 83, 45]⟩ : ByteArray) := by decide
  rw [c, e]
  by_cases h1 : headB name = (⟨#[76, 77, 79, 84, 83, 95]⟩ : ByteArray)
  · rw [if_pos h1, any_head head_2 (by rw [h1]; exact d12), any_head head_3 (by rw [h1]; exact d13)]
    cases ha : anyB 1 (kN 1) name with
    | true => rfl
    | false => rw [any_none ha]; rfl
  rw [if_neg h1, any_head head_1 h1]
  by_cases h2 : headB name = (⟨#[76, 77, 83, 95]⟩ : ByteArray)
  · rw [if_pos h2, any_head head_3 (by rw [h2]; exact d23)]
    cases ha : anyB 2 (kN 2) name with
    | true => rfl
    | false => rw [any_none ha]; rfl
  rw [if_neg h2, any_head head_2 h2]
  by_cases h3 : headB name = (⟨#[88, 77, 83, 83, 45]⟩ : ByteArray)
  · rw [if_pos h3]
    cases ha : anyB 3 (kN 3) name with
    | true => rfl
    | false => rw [any_none ha]; rfl
  rw [if_neg h3, any_head head_3 h3]
  rfl
end Go.Proofs.YtanpplniedphkaaDoor
