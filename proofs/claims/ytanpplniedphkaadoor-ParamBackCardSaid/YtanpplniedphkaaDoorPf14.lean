/-
  WALK: ParamBack: at every kind and code.
-/
import Derived.Test.YtanpplniedphkaaDoorPf13
namespace Go.Proofs.YtanpplniedphkaaDoor
open Go.RowKit Go.Shelf
set_option maxRecDepth 100000
theorem find_1 : ∀ c ∈ rL okO, (rL okO).find? (fun d => decide (nmOf 1 d = nmOf 1 c)) = some c := by decide +kernel
theorem size_1 : ∀ c ∈ rL okO, (nmOf 1 c).size ≤ 1000 := by decide +kernel
theorem sort_1 : (rL okO).Pairwise (· ≤ ·) := by decide +kernel
theorem long_1 : 10 < (rL okO).length := by decide +kernel
theorem back_1 (c : Nat) (h : c ∈ rL okO) : codeV (nmOf 1 c) = .tuple #[.int .i64 1, .int .u32 (c : Int), .int .i64 0] := by
  have hd := head_1 c h
  have hf := find_1 c h
  unfold codeV
  rw [hd]
  have hc : cdV 1 (rL okO) (nmOf 1 c) = .tuple #[.int .i64 1, .int .u32 (c : Int), .int .i64 0] := by
    unfold cdV
    rw [hf]
  rw [if_pos rfl]; exact hc
theorem find_2 : ∀ c ∈ rL okL, (rL okL).find? (fun d => decide (nmOf 2 d = nmOf 2 c)) = some c := by decide +kernel
theorem size_2 : ∀ c ∈ rL okL, (nmOf 2 c).size ≤ 1000 := by decide +kernel
theorem sort_2 : (rL okL).Pairwise (· ≤ ·) := by decide +kernel
theorem long_2 : 10 < (rL okL).length := by decide +kernel
theorem back_2 (c : Nat) (h : c ∈ rL okL) : codeV (nmOf 2 c) = .tuple #[.int .i64 2, .int .u32 (c : Int), .int .i64 0] := by
  have hd := head_2 c h
  have hf := find_2 c h
  unfold codeV
  rw [hd]
  have hc : cdV 2 (rL okL) (nmOf 2 c) = .tuple #[.int .i64 2, .int .u32 (c : Int), .int .i64 0] := by
    unfold cdV
    rw [hf]
  rw [if_neg (by decide), if_pos rfl]; exact hc
theorem find_3 : ∀ c ∈ rL okX, (rL okX).find? (fun d => decide (nmOf 3 d = nmOf 3 c)) = some c := by decide +kernel
theorem size_3 : ∀ c ∈ rL okX, (nmOf 3 c).size ≤ 1000 := by decide +kernel
theorem sort_3 : (rL okX).Pairwise (· ≤ ·) := by decide +kernel
theorem long_3 : 10 < (rL okX).length := by decide +kernel
theorem back_3 (c : Nat) (h : c ∈ rL okX) : codeV (nmOf 3 c) = .tuple #[.int .i64 3, .int .u32 (c : Int), .int .i64 0] := by
  have hd := head_3 c h
  have hf := find_3 c h
  unfold codeV
  rw [hd]
  have hc : cdV 3 (rL okX) (nmOf 3 c) = .tuple #[.int .i64 3, .int .u32 (c : Int), .int .i64 0] := by
    unfold cdV
    rw [hf]
  rw [if_neg (by decide), if_neg (by decide), if_pos rfl]; exact hc
theorem nmB_size (a b c d e f : ByteArray) (h : 0 < a.size) : (nmB a b c d e f).toList ≠ [] := by
  unfold nmB
  intro hh
  rw [ByteArray.toList_eq] at hh
  have h2 := congrArg List.length hh
  have h3 : (((((a ++ b) ++ c) ++ d) ++ e) ++ f).size = 0 := h2
  rw [ByteArray.size_append, ByteArray.size_append, ByteArray.size_append, ByteArray.size_append, ByteArray.size_append] at h3
  omega
theorem nm1_yes {c : Nat} (h : okO c = true) : (nmOf 1 c).toList ≠ [] := by
  show (nm1 c).toList ≠ []
  unfold nm1
  rw [if_pos h]
  exact nmB_size _ _ _ _ _ _ (by decide)
theorem nm2_yes {c : Nat} (h : okL c = true) : (nmOf 2 c).toList ≠ [] := by
  show (nm2 c).toList ≠ []
  unfold nm2
  rw [if_pos h]
  exact nmB_size _ _ _ _ _ _ (by decide)
theorem nm3_yes {c : Nat} (h : okX c = true) : (nmOf 3 c).toList ≠ [] := by
  show (nm3 c).toList ≠ []
  unfold nm3
  rw [if_pos h]
  exact nmB_size _ _ _ _ _ _ (by decide)
theorem nm1_no {c : Nat} (h : okO c = false) : nmOf 1 c = ⟨#[]⟩ := by show nm1 c = _; unfold nm1; rw [h]; rfl
theorem nm2_no {c : Nat} (h : okL c = false) : nmOf 2 c = ⟨#[]⟩ := by show nm2 c = _; unfold nm2; rw [h]; rfl
theorem nm3_no {c : Nat} (h : okX c = false) : nmOf 3 c = ⟨#[]⟩ := by show nm3 c = _; unfold nm3; rw [h]; rfl
set_option maxHeartbeats 4000000 in
theorem back_of (kind : Int) (l : List Nat) (c : Nat) (N : ByteArray) (w : World) (hp : Pow w)
    (hcodes : ∀ W, Calls Tryd.prog 27 #[.int .i64 kind, .int .i64 1000] W (SeeIs W l)) (hll : l.length ≤ 152)
    (hback : ∀ x ∈ l, ∀ W, Pow W → ∃ nm, Calls Tryd.prog 30 #[.int .i64 kind, .int .u32 (x : Int)] W (OldIs (.string nm) W) ∧ ∀ W2, Pow W2 → Calls Tryd.prog 28 #[.string nm] W2 (OldIs (.tuple #[.int .i64 kind, .int .u32 (x : Int), .int .i64 0]) W2))
    (hN : ∀ W, Pow W → Calls Tryd.prog 30 #[.int .i64 kind, .int .u32 (c : Int)] W (OldIs (.string N) W))
    (hmem : if decide (c ∈ l) then N.toList ≠ [] else N = ⟨#[]⟩) (hsort : ∀ i (h : i < l.length), 0 < i → l[i - 1] ≤ l[i]) (hlong : (kind < 1 ∨ 3 < kind) ∨ 10 < l.length) :
    Calls Tryd.prog 7 #[.int .i64 kind, .int .u32 (c : Int)] w (TrueIs w) := by
  unfold TrueIs
  have HP := Shh.mk hp
  have HB := Shh.mk hback
  have HC := Shh.mk hcodes
  have HN := Shh.mk hN
  have HM := Shh.mk hmem
  have HS := Shh.mk hsort
  have HL := Shh.mk hlong
  clear hp hback hcodes hN hmem hsort hlong
  go_enter Tryd.func7, Tryd.ntmps7
  go_wp2_with (go_at_call 27; refine (HC.out _).mono ?_)
  unfold SeeIs
  rintro e w2 ⟨v, rfl, hs, b2⟩
  obtain ⟨A, cp, rfl⟩ := hs.form
  have F := Shh.mk (And.intro hs b2)
  clear hs b2 HC
  go_wp2
  go_loopw [15] (fun v wr => ∃ i : Nat, i ≤ l.length ∧ v = .int .i64 (i : Int) ∧ Shh (Below w2.heap.size w2 wr)) (fun v _ => l.length - (intOf v).toNat)
  case atStart => exact ⟨0, Nat.zero_le _, rfl, ⟨Below.refl _ _⟩⟩
  case round =>
    obtain ⟨i, hi, rfl, HI⟩ := hrel
    by_cases hlt2 : i < l.length
    · clear HM HS HL HN
      obtain ⟨g, rfl, hca, hca2, hg, hcell⟩ := (F.out.1.go HI.out).at_ (by omega)
      have hx := hcell i hlt2
      clear hcell
      obtain ⟨x, hxe⟩ : ∃ x, l[i] = x := ⟨_, rfl⟩
      have hxl : x ∈ l := by rw [← hxe]; exact List.getElem_mem hlt2
      rw [hxe] at hx
      obtain ⟨nm, hn1, hn2⟩ := HB.out x hxl wr (HP.out.go (Below.chain F.out.2 HI.out))
      have HX := Shh.mk hn2
      have ek : (kind != kind) = false := by simp
      have ex : ((x : Int) != (x : Int)) = false := by simp
      clear hxe hxl hn2
      go_wp2_with (go_at_call 30; refine hn1.mono ?_)
      unfold OldIs
      rintro e w3 ⟨rfl, b3⟩
      have F3 := Shh.mk (Below.chain HI.out b3)
      clear b3 HI hn1 hx
      go_wp2_with (go_at_call 28; refine (HX.out _ (HP.out.go (Below.chain F.out.2 F3.out))).mono ?_)
      unfold OldIs
      rintro e w4 ⟨rfl, b4⟩
      have F4 := Shh.mk (Below.chain F3.out b4)
      clear b4 F3 HX
      go_wp2
      go_roundw
      case rel => exact ⟨i + 1, by omega, by go_num, F4⟩
      case measure => simp [intOf]; omega
    · have HF := Shh.mk (Below.chain F.out.2 HI.out)
      have hsu := Shh.mk (F.out.1.go HI.out)
      clear HI HB F
      go_wp2_with (go_at_call 24; refine (live6 _).mono ?_)
      unfold TrueIs
      rintro e w3 ⟨rfl, b3⟩
      have HF3 := Shh.mk (Below.chain HF.out b3)
      have hsu3 := Shh.mk (hsu.out.go b3)
      clear HF hsu b3
      cases hd : decide (c ∈ l) with
      | true =>
        have hne : N.toList ≠ [] := by have h := HM.out; rw [hd] at h; exact h
        have hne2 : (N.toList == []) = false := by simpa using hne
        have hcont := contains_u32 _ l c w3 hsu3.out (by omega)
        rw [hd] at hcont
        clear HM hd hne
        go_wp2_with (go_at_call 44; refine hcont.mono ?_)
        unfold StayIs
        rintro e w4 ⟨rfl, rfl⟩
        clear hcont
        go_wp2_with (go_at_call 30; refine (HN.out _ (HP.out.go HF3.out)).mono ?_)
        unfold OldIs
        rintro e w4 ⟨rfl, b4⟩
        have HF4 := Shh.mk (Below.chain HF3.out b4)
        have hsu4 := Shh.mk (hsu3.out.go b4)
        clear b4 HF3 hsu3 HN HP
        go_wp2_with (go_at_call 45; refine (sorted_u32 _ l _ hsu4.out (by omega) HS.out).mono ?_)
        unfold OldIs
        rintro e w5 ⟨rfl, b5⟩
        have HF5 := Shh.mk (Below.chain HF4.out b5)
        clear b5 HF4 hsu4 HS
        by_cases k1 : kind < 1
        · clear HL
          go_wp2
          go_ret
          exact ⟨by simp, HF5.out⟩
        · by_cases k3 : 3 < kind
          · clear HL
            go_wp2
            go_ret
            exact ⟨by simp, HF5.out⟩
          · have h10 : 10 < l.length := by have := HL.out; omega
            clear HL
            go_wp2
            go_ret
            exact ⟨by simp; omega, HF5.out⟩
      | false =>
        have hne : N = ⟨#[]⟩ := by have h := HM.out; rw [hd] at h; exact h
        have hcont := contains_u32 _ l c w3 hsu3.out (by omega)
        rw [hd] at hcont
        rw [hne] at HN
        clear HM hd hne
        go_wp2_with (go_at_call 44; refine hcont.mono ?_)
        unfold StayIs
        rintro e w4 ⟨rfl, rfl⟩
        clear hcont
        go_wp2_with (go_at_call 30; refine (HN.out _ (HP.out.go HF3.out)).mono ?_)
        unfold OldIs
        rintro e w4 ⟨rfl, b4⟩
        have HF4 := Shh.mk (Below.chain HF3.out b4)
        have hsu4 := Shh.mk (hsu3.out.go b4)
        clear b4 HF3 hsu3 HN HP
        go_wp2_with (go_at_call 45; refine (sorted_u32 _ l _ hsu4.out (by omega) HS.out).mono ?_)
        unfold OldIs
        rintro e w5 ⟨rfl, b5⟩
        have HF5 := Shh.mk (Below.chain HF4.out b5)
        clear b5 HF4 hsu4 HS
        by_cases k1 : kind < 1
        · clear HL
          go_wp2
          go_ret
          exact ⟨by simp, HF5.out⟩
        · by_cases k3 : 3 < kind
          · clear HL
            go_wp2
            go_ret
            exact ⟨by simp, HF5.out⟩
          · have h10 : 10 < l.length := by have := HL.out; omega
            clear HL
            go_wp2
            go_ret
            exact ⟨by simp; omega, HF5.out⟩
theorem sorted_of {l : List Nat} (h : l.Pairwise (· ≤ ·)) : ∀ i (h : i < l.length), 0 < i → l[i - 1] ≤ l[i] := fun i hi h0 => List.pairwise_iff_getElem.1 h (i - 1) i (by omega) hi (by omega)
theorem back_any (kind : Int) (c : Nat) (hc : c < 4294967296) (w : World) (hp : Pow w) : Calls Tryd.prog 7 #[.int .i64 kind, .int .u32 (c : Int)] w (TrueIs w) := by
  by_cases h1 : kind = 1
  · subst h1
    refine back_of 1 (rL okO) c (nmOf 1 c) w hp (fun W => ?_) (rL_len _) (fun x hx W hW => ⟨nmOf 1 x, name_any 1 x (kN_lt 1 x hx) W hW, fun W2 hW2 => ?_⟩) (fun W hW => name_any 1 c hc W hW) ?_ (sorted_of sort_1) (.inr long_1)
    · have h := codes6_1 1000 W
      rw [List.take_of_length_le (Nat.le_trans (rL_len _) (by decide))] at h
      exact h
    · have h := code_any (nmOf 1 x) (size_1 x hx) W2 hW2
      rw [back_1 x hx] at h
      exact h
    · cases hk : okO c with
      | true => rw [if_pos (by simpa using mem_rO.2 hk)]; exact nm1_yes hk
      | false => rw [if_neg (by simp; intro h; rw [mem_rO.1 h] at hk; cases hk)]; exact nm1_no hk
  by_cases h2 : kind = 2
  · subst h2
    refine back_of 2 (rL okL) c (nmOf 2 c) w hp (fun W => ?_) (rL_len _) (fun x hx W hW => ⟨nmOf 2 x, name_any 2 x (kN_lt 2 x hx) W hW, fun W2 hW2 => ?_⟩) (fun W hW => name_any 2 c hc W hW) ?_ (sorted_of sort_2) (.inr long_2)
    · have h := codes6_2 1000 W
      rw [List.take_of_length_le (Nat.le_trans (rL_len _) (by decide))] at h
      exact h
    · have h := code_any (nmOf 2 x) (size_2 x hx) W2 hW2
      rw [back_2 x hx] at h
      exact h
    · cases hk : okL c with
      | true => rw [if_pos (by simpa using mem_rL.2 hk)]; exact nm2_yes hk
      | false => rw [if_neg (by simp; intro h; rw [mem_rL.1 h] at hk; cases hk)]; exact nm2_no hk
  by_cases h3 : kind = 3
  · subst h3
    refine back_of 3 (rL okX) c (nmOf 3 c) w hp (fun W => ?_) (rL_len _) (fun x hx W hW => ⟨nmOf 3 x, name_any 3 x (kN_lt 3 x hx) W hW, fun W2 hW2 => ?_⟩) (fun W hW => name_any 3 c hc W hW) ?_ (sorted_of sort_3) (.inr long_3)
    · have h := codes6_3 1000 W
      rw [List.take_of_length_le (Nat.le_trans (rL_len _) (by decide))] at h
      exact h
    · have h := code_any (nmOf 3 x) (size_3 x hx) W2 hW2
      rw [back_3 x hx] at h
      exact h
    · cases hk : okX c with
      | true => rw [if_pos (by simpa using mem_rX.2 hk)]; exact nm3_yes hk
      | false => rw [if_neg (by simp; intro h; rw [mem_rX.1 h] at hk; cases hk)]; exact nm3_no hk
  refine back_of kind [] c ⟨#[]⟩ w hp (fun W => codes6_no kind 1000 W h1 h2 h3) (Nat.zero_le _) (fun x hx => by cases hx) (fun W hW => name_other kind c h1 h2 h3 W) ?_ (fun i h => by cases h) (.inl (by omega))
  simp
end Go.Proofs.YtanpplniedphkaaDoor
