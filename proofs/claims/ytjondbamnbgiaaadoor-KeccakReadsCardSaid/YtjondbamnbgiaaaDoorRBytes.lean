/-
  WALK: the document's own bytes.
-/
import Derived.Test.YtjondbamnbgiaaaDoorRPerm
import Derived.Test.YtjondbamnbgiaaaDoorKMath2
import Derived.Test.YtjondbamnbgiaaaDoorSqueezed
import Derived.Test.YtjondbamnbgiaaaDoorJoinO
namespace Go.Proofs.YtjondbamnbgiaaaDoor
open Go.RowKit
set_option maxRecDepth 100000

theorem map_range_snoc (l : List UInt64) (k : Nat) : (List.range (k + 1)).map (byteL l) = (List.range k).map (byteL l) ++ [byteL l k] := by
  rw [List.range_succ, List.map_append]
  rfl
theorem own_mono {w : World} {base base' e n : Nat} {v : Value} {xs : List Value} (h : w.ownsRow base' e 1 v n xs) (hb : base ≤ base') : w.ownsRow base e 1 v n xs := by
  refine ⟨h.1, ?_⟩
  rcases h.2 with h0 | ⟨g, cap, cur, h1, h2, h3⟩
  · exact .inl h0
  · exact .inr ⟨g, cap, cur, h1, Nat.le_trans hb h2, h3⟩
theorem wrapu8_nat (n : Nat) : IntKind.u8.wrap (n : Int) = ((UInt8.ofNat n).toNat : Int) := by
  rw [IntKind.wrap_u8]
  simp

set_option maxHeartbeats 1000000 in
theorem refBytes_any (l : List UInt64) (hl : l.length = 25) (n : Nat) (hn : n ≤ 200) (w : World) :
    Calls Tryd.prog 46 #[.agg (laneCells l).toArray, .int .i64 (n : Int)] w (OwnIs w ((List.range n).map (byteL l))) := by
  unfold OwnIs
  obtain ⟨i0, hi, hz0, hz1, hz2⟩ := info_parts info_u8
  unfold Gives
  generalize hN : w.heap.size = N at *
  have hrA : ∀ o, Row ((w.alloc (.cells (laneCells l).toArray 23)).alloc o) N 23 (laneCells l) := fun o => (Row.new_ hN.symm rfl).alloc _
  have hbA : ∀ o p, Below N w ((w.alloc o).alloc p) := fun o p => ((Below.refl N w).alloc (by omega) _).alloc (by rw [asz]; omega) _
  have hz : (w.alloc (.cells (laneCells l).toArray 23)).heap.size = N + 1 := by rw [asz, hN]
  have ho : ((w.alloc (.cells (laneCells l).toArray 23)).alloc (.cells #[] 5)).ownsRow (N + 1) 5 1 (.slice (some ⟨N + 1, 0, none⟩) 0 0) 0 [] := by
    have := World.ownsRow_made (base := N + 1) (e := 5) (size := 1) (w.alloc (.cells (laneCells l).toArray 23)) #[] 0 (by omega) (Nat.zero_le _) rfl
    rw [hz] at this
    exact this
  go_enter Tryd.func46, Tryd.ntmps46
  go_wp2
  go_loopw [5, 6, 9] (fun o _ i wr => ∃ k : Nat, k ≤ n ∧ i = .int .i64 (k : Int) ∧ Row wr N 23 (laneCells l) ∧ wr.ownsRow (N + 1) 5 1 o k (Lib.byteCells ((List.range k).map (byteL l))) ∧ Below N w wr ∧ N + 1 ≤ wr.heap.size) (fun _ _ i _ => n - (intOf i).toNat)
  case atStart => exact ⟨0, Nat.zero_le _, rfl, hrA _, ho, hbA _ _, by simp [hz]⟩
  case round =>
    clear hrA hbA ho hz
    obtain ⟨k, hk, rfl, hr, hown, hbel, hsz⟩ := hrel
    obtain ⟨A1, c1, rfl⟩ := own_form hown
    by_cases hlt : k < n
    · obtain ⟨p, hp⟩ : ∃ p, p = k / 8 := ⟨_, rfl⟩
      obtain ⟨r, hr8⟩ : ∃ r, r = k % 8 := ⟨_, rfl⟩
      obtain ⟨r8, hrr⟩ : ∃ r', r' = 8 * r := ⟨_, rfl⟩
      have qp : (k : Int).tdiv 8 = (p : Int) := (show (k : Int).tdiv 8 = ((k / 8 : Nat) : Int) from rfl).trans (by rw [hp])
      have qp' : (k : Int) / 8 = (p : Int) := by omega
      have qr : (k : Int).tmod 8 = (r : Int) := (show (k : Int).tmod 8 = ((k % 8 : Nat) : Int) from rfl).trans (by rw [hr8])
      have qr' : (k : Int) % 8 = (r : Int) := by omega
      have qs : (8 : Int) * (r : Int) = (r8 : Int) := by omega
      have wp : IntKind.i64.wrap (p : Int) = (p : Int) := by rw [IntKind.wrap_i64]; omega
      have ws : IntKind.i64.wrap (r8 : Int) = (r8 : Int) := by rw [IntKind.wrap_i64]; omega
      have wu : IntKind.u64.wrap (r8 : Int) = (r8 : Int) := by rw [IntKind.wrap_u64]; omega
      have hp25 : p < 25 := by omega
      have hc := (hr.cell p).trans (laneCells_lane l p (by omega))
      have hb : byteL l k = UInt8.ofNat ((lane l p).toNat / 2 ^ r8) := by rw [hrr, hr8, hp]; rfl
      have hw8 := wrapu8_nat ((lane l p).toNat / 2 ^ r8)
      rw [← hb] at hw8
      have hdiv : ((lane l p).toNat : Int) / 2 ^ r8 = (((lane l p).toNat / 2 ^ r8 : Nat) : Int) := by simp
      have HM := Shh.mk (map_range_snoc l k)
      have hrb : r8 < 64 := by omega
      have hln : ((List.range k).map (byteL l)).length = k := by simp
      generalize byteL l k = b at *
      generalize lane l p = x at *
      generalize (List.range k).map (byteL l) = pre at *
      generalize hdd : x.toNat / 2 ^ r8 = xd at *
      have hrn : ((r8 : Int)).toNat = r8 := by omega
      clear hp hr8 hrr hb hdd
      go_wp2_with (at_builtin; refine wp_append1 _ 29 5 i0 (.int .u8 0) Tryd.underlying29 hi hz0 hz1 hz2 rfl rfl _ _ rfl hown rfl rfl rfl (by omega) hsz ?_)
      intro v' w2 o2 _ b2
      have HO : Shh (w2.ownsRow (N + 1) 5 1 v' (k + 1) (Lib.byteCells ((List.range (k + 1)).map (byteL l)))) := Shh.mk (by
        rw [HM.out]
        have e2 : Lib.byteCells (pre ++ [b]) = Lib.byteCells pre ++ [.int .u8 (b.toNat : Int)] := by simp [Lib.byteCells]
        rw [e2]
        exact o2)
      obtain ⟨A2, c2, rfl⟩ := own_form o2
      have hr2 := hr.below (b2 _ (Nat.le_refl _)) (Nat.lt_succ_self N)
      have hbel2 := hbel.trans (b2 _ (Nat.le_succ N))
      have hsz2 := (b2 _ (Nat.le_refl _)).size
      clear hown hc hw8 hdiv HM hr hbel b2 o2
      go_wp2
      go_roundw
      case rel => exact ⟨k + 1, by omega, by go_num, hr2, HO.out, hbel2, by omega⟩
      case measure => simp [intOf]; omega
    · obtain rfl : k = n := by omega
      have HO : Shh (wr.ownsRow N 5 1 (.slice A1 k c1) ((List.range k).map (byteL l)).length (Lib.byteCells ((List.range k).map (byteL l)))) := Shh.mk (by
        have := own_mono (base := N) hown (Nat.le_succ N)
        simpa using this)
      clear hown
      go_wp2
      go_ret
      exact ⟨_, rfl, HO.out, hbel⟩
end Go.Proofs.YtjondbamnbgiaaaDoor
