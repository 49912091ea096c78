/-
  WORDS FOR MEMORY, for the claims over package octet: a slice of bytes that reads as a list; a block that holds just a list of bytes; what the conversion of such a slice into a string gives.
-/
import Derived.Test.YtjondbamnbgiaaaDoorProg
import Derived.Test.YtjondbamnbgiaaaDoorMath
import Derived.WalkSpells
import Derived.WalkLawsBesides
import Derived.Lib.UnsafeStr
import Derived.Lib.Hide
import Derived.Laws.BytesArg
import Derived.Deep.Draws
namespace Go.Proofs.YtjondbamnbgiaaaDoor
open Go.RowKit
set_option maxRecDepth 100000

theorem cell_oneCell (bs : List UInt8) : ∀ u ∈ Lib.byteCells bs, u.oneCell' = true := by
  intro u hu
  simp only [Lib.byteCells, List.mem_map] at hu
  obtain ⟨b, _, rfl⟩ := hu
  rfl
theorem byteCells_get (bs : List UInt8) (k : Nat) (h : k < bs.length) : (Lib.byteCells bs)[k]? = some (.int .u8 bs[k].toNat) := by
  simp [Lib.byteCells, List.getElem?_eq_getElem h]
theorem addr_add (b off k : Nat) : (⟨b, off, none⟩ : Addr).add k = ⟨b, off + k, none⟩ := by
  unfold Addr.add; split <;> simp_all

/-- The slice value v reads as the bytes bs; what it reads lies below block B. -/
def Sl (w : World) (B : Nat) (v : Value) (bs : List UInt8) : Prop :=
  ∃ A c, v = .slice A bs.length c ∧ bs.length ≤ c ∧ c ≤ maxLen ∧ (0 < bs.length → ∃ b off, A = some ⟨b, off, none⟩ ∧ b < B ∧ ∀ k (h : k < bs.length), w.cell? ⟨b, off + k, none⟩ = some (.int .u8 bs[k].toNat))

section
variable {w w' : World} {B B' : Nat} {v : Value} {A : Option Addr} {n c : Nat} {bs : List UInt8}
theorem Sl.form (h : Sl w B v bs) : ∃ A c, v = .slice A bs.length c ∧ bs.length ≤ c ∧ c ≤ maxLen := by
  obtain ⟨A, c, h1, h2, h3, _⟩ := h
  exact ⟨A, c, h1, h2, h3⟩
theorem Sl.len (h : Sl w B (.slice A n c) bs) : n = bs.length := by
  obtain ⟨A', c', hv, _⟩ := h
  cases hv; rfl
theorem Sl.at_ (h : Sl w B (.slice A n c) bs) (hn : 0 < bs.length) : ∃ b off, A = some ⟨b, off, none⟩ ∧ b < B ∧ ∀ k (h : k < bs.length), w.cell? ⟨b, off + k, none⟩ = some (.int .u8 bs[k].toNat) := by
  obtain ⟨A', c', hv, _, _, hc⟩ := h
  cases hv
  exact hc hn
theorem Sl.keep (h : Sl w B v bs) (hk : ∀ p : Addr, p.block < B → w'.cell? p = w.cell? p) : Sl w' B v bs := by
  obtain ⟨A', c', hv, h1, h2, hc⟩ := h
  refine ⟨A', c', hv, h1, h2, fun hn => ?_⟩
  obtain ⟨b, off, hA, hb, hr⟩ := hc hn
  exact ⟨b, off, hA, hb, fun k hk' => (hk _ hb).trans (hr k hk')⟩
theorem Sl.more (h : Sl w B v bs) (hB : B ≤ B') : Sl w B' v bs := by
  obtain ⟨A', c', hv, h1, h2, hc⟩ := h
  refine ⟨A', c', hv, h1, h2, fun hn => ?_⟩
  obtain ⟨b, off, hA, hb, hr⟩ := hc hn
  exact ⟨b, off, hA, by omega, hr⟩
theorem Sl.below (h : Sl w B v bs) (hb : Below B w w') : Sl w' B v bs := h.keep fun _ hp => hb.cell hp
theorem Sl.drew (h : Sl w B v bs) : Sl w.drew B v bs := h
theorem Sl.drewN (h : Sl w B v bs) (k : Nat) : Sl (w.drewN k) B v bs := h
theorem Sl.nil_ : Sl w B (.slice none 0 0) [] := ⟨none, 0, rfl, Nat.le_refl _, by unfold maxLen; omega, fun h => absurd h (by simp)⟩
theorem Sl.of_own {base e : Nat} {n : Nat} (h : w.ownsRow base e 1 v n (Lib.byteCells bs)) : Sl w w.heap.size v bs := by
  have hl : bs.length = n := by have := h.1; rw [Lib.byteCells_length] at this; omega
  subst hl
  rcases h.2 with ⟨rfl, hn⟩ | ⟨g, cap, cur, rfl, hb, hg, hnc, hcm, hsz, hcur⟩
  · exact ⟨none, 0, by rw [hn], by omega, by unfold maxLen; omega, fun h => absurd h (by omega)⟩
  · refine ⟨some ⟨g, 0, none⟩, cap, rfl, hnc, hcm, fun hn => ⟨g, 0, rfl, (Array.getElem?_eq_some_iff.1 hg).1, fun k hk => ?_⟩⟩
    have := h.cellAt k (by omega)
    rw [byteCells_get bs k hk] at this
    simpa using this
theorem Sl.conv {P : Program} {src e dst : TypeId} (h : Sl w B v bs) (hs : P.underlying src = some (.slice e)) (he : P.underlying e = some (.int .u8)) (hd : P.underlying dst = some .string) :
    (convert src dst v).run P w = .ok (.string ⟨bs.toArray⟩) w := by
  obtain ⟨A, c, rfl, _, _, hc⟩ := h
  rcases Nat.eq_zero_or_pos bs.length with h0 | h0
  · have : bs = [] := List.eq_nil_of_length_eq_zero h0
    subst this
    rcases A with _ | ⟨b, off, sp⟩
    · exact run_convert_bytes_nil w src e hs he _ _ dst hd
    · rw [run_convert_bytes_string w src dst e _ _ _ hs he hd]
      have hl : (loadCells ⟨b, off, sp⟩ 0).run P w = .ok ((([] : List Int).map (Value.int .u8))).toArray w := run_loadCells_list (P := P) w ⟨b, off, sp⟩ [] (fun j v hj => by simp at hj)
      have := run_bytesToString w ⟨b, off, sp⟩ 0 c [] hl
      exact this.trans rfl
  · obtain ⟨b, off, rfl, _, hr⟩ := hc h0
    have := run_convert_bytes_arg (P := P) w src e hs he b off bs.length c (bs.map fun x => (x.toNat : Int)) (by simp) (fun i hi => by
      rw [hr i hi]; simp [List.getD, List.getElem?_eq_getElem hi]) dst hd
    rw [this]
    have hx : (bs.map fun x => (x.toNat : Int)).map (fun n => UInt8.ofNat n.toNat) = bs := by
      rw [List.map_map]
      conv => rhs; rw [← List.map_id bs]
      apply List.map_congr_left
      intro x _
      simp
    unfold strOfNums
    rw [hx]
end
end Go.Proofs.YtjondbamnbgiaaaDoor
