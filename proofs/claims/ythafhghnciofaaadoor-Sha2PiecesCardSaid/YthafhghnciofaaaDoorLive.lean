/-
  WALK: the law's own check 'live': the chapter's example.
-/
import Derived.Test.YthafhghnciofaaaDoorEq
import Derived.Test.YthafhghnciofaaaDoorRefHexB
import Derived.Deep.RegionHeld3
import Derived.Lib.SmallJoins
namespace Go.Proofs.YthafhghnciofaaaDoor
open Go.RowKit
set_option maxRecDepth 100000

theorem PartsO.solo {w : World} {B g q n : Nat} {T : TypeId} {u : Value} {bs : List UInt8} (hr : Row w q T [u]) (hq : q < B) (hg : q ≠ g) (hs : Sl w B u bs) (ho : Off g u) : PartsO w B g (.slice (some ⟨q, 0, none⟩) 1 n) [bs] :=
  ⟨_, n, rfl, fun _ => ⟨q, 0, rfl, hq, hg, fun i hi => by
    obtain rfl : i = 0 := by simp at hi; omega
    exact ⟨u, hr.cell 0, hs, ho⟩⟩⟩
/-- true is handed back; nothing that was there has turned -/
def TrueIs (w : World) (e : Ending) (w' : World) : Prop := e = .returned (.bool true) ∧ Below w.heap.size w w'

/-- a slice over a block whose cells are known, marked or not -/
theorem Sl.of_block {w : World} {B g n : Nat} {T : TypeId} {fr : Nat × Nat} {C : Array Value} {bs : List UInt8} (h : w.heap[g]? = some (.cells C T fr)) (hC : C = (Lib.byteCells bs).toArray) (hB : g < B) (hn : bs.length = n) (hm : n ≤ 1000000) : Sl w B (.slice (some ⟨g, 0, none⟩) n n) bs := by
  subst hn
  refine ⟨_, bs.length, rfl, Nat.le_refl _, by unfold maxLen; omega, fun _ => ⟨g, 0, rfl, hB, fun k hk => ?_⟩⟩
  rw [Go.Joins.cell_of_block h, Nat.zero_add, hC, List.getElem?_toArray]
  exact byteCells_get bs k hk
theorem heap_under {w : World} {g : Nat} {o o2 : Obj} (h : w.heap[g]? = some o) : (w.alloc o2).heap[g]? = some o := (Below.heap_alloc w o2 g (Array.getElem?_eq_some_iff.1 h).1).trans h
theorem heap_new {w : World} {g : Nat} {o : Obj} (h : g = w.heap.size) : (w.alloc o).heap[g]? = some o := by subst h; exact heap_alloc_last w o
theorem below3 (w : World) (a b c : Obj) : Below w.heap.size w (((w.alloc a).alloc b).alloc c) := (((Below.refl _ _).alloc (Nat.le_refl _) _).alloc (by rw [asz]; omega) _).alloc (by rw [asz, asz]; omega) _
theorem range_below {w w' : World} {B b o : Nat} {cs : List Value} (h : w.rangeAt b o cs) (hb : Below B w w') (hlt : b < B) : w'.rangeAt b o cs := fun j v hv => (hb.cell (p := ⟨b, o + j, none⟩) hlt).trans (h j v hv)
theorem abc_two : ([] : List UInt8) ++ [[(97 : UInt8)], [98, 99]].flatten = [97, 98, 99] := rfl
theorem abc_parts : [[(97 : UInt8), 98, 99]].flatten = [97, 98, 99] := rfl

set_option maxHeartbeats 1000000 in
theorem live_any (w : World) (hv : Vars w) : Calls Tryd.prog 11 #[] w (TrueIs w) := by
  unfold TrueIs
  generalize hn0 : w.heap.size = n0 at *
  have hpos := hv.pos
  have hv0 : ∀ o o2, Vars ((w.alloc o).alloc o2) := fun o o2 => hv.step ((Below.alloc (Below.refl _ _) (Nat.le_refl _) _).alloc (by rw [asz]; omega) _)
  go_enter Tryd.func11, Tryd.ntmps11
  have hcv := Go.Joins.run_convert_bytes_const_at (P := Tryd.prog) w 30 5 #[.int .u8 97, .int .u8 98, .int .u8 99] 3 3 n0 hn0.symm Tryd.underlying30 Tryd.underlying5
  go_wp2_with (go_at_call 17; refine (sum256_any [[97, 98, 99]] (n0 + 2) _ _ (PartsO.solo (Row.new_ (by rw [asz, hn0]) rfl) (Nat.lt_succ_self _) (by rw [asz, asz, hn0]; omega) (Sl.of_block (bs := [97, 98, 99]) (heap_under (heap_new hn0.symm)) rfl (by omega) rfl (by decide)) (Off.at_ (by rw [asz, asz]; omega))) (by rw [asz, asz, hn0]; exact Nat.le_refl _) (hv0 _ _) (by decide) (by decide)).mono ?_)
  rintro e w1 ⟨rfl, b1⟩
  rw [abc_parts, sha_abc]
  rw [asz, asz, hn0] at b1
  have hbel1 : Below n0 w w1 := (((Below.refl n0 w).alloc (by omega) _).alloc (by rw [asz]; omega) _).trans (b1.mono (by omega))
  have hs1 := b1.size
  rw [asz, asz, hn0] at hs1
  have hv1 := hv.step (by rw [hn0]; exact hbel1)
  clear b1 hv hv0
  have hlen : abcSum.length = 32 := rfl
  have hhex : hexL abcSum = [98, 97, 55, 56, 49, 54, 98, 102, 56, 102, 48, 49, 99, 102, 101, 97, 52, 49, 52, 49, 52, 48, 100, 101, 53, 100, 97, 101, 50, 50, 50, 51, 98, 48, 48, 51, 54, 49, 97, 51, 57, 54, 49, 55, 55, 97, 57, 99, 98, 52, 49, 48, 102, 102, 54, 49, 102, 50, 48, 48, 49, 53, 97, 100] := by decide
  have HA := Lib.hid sha_abc
  generalize abcSum = sm at *
  go_wp2_with (refine wpList_store_any rfl 33 (.tmp 1) (.tmp 6) rfl w1.heap.size rfl (Lib.byteCells sm) rfl 33 (Lib.byteCells (List.replicate 32 0)) (Row.new_ rfl zero32b) (info_b32.trans (size_bytes _ _ hlen)) (by rw [Lib.byteCells_length, Lib.byteCells_length, hlen]; rfl) (cell_oneCell _) ?_)
  intro w2 hr2 bt hs2
  try simp only [asz] at bt hs2
  have hbel2 : Below n0 w w2 := (hbel1.alloc (by omega) _).trans (bt.under (by omega) (by omega))
  have hv2 : Vars w2 := (hv1.step (Below.alloc (Below.refl _ _) (Nat.le_refl _) _)).but (by rw [asz]; exact bt) (by omega)
  generalize hn1 : w1.heap.size = n1 at *
  clear bt hbel1 hv1 hn1
  go_wp2_with (go_at_call 20; refine (new_any _ hv2).mono ?_)
  rintro e w3 ⟨g, rfl, hg, hh, b3⟩
  have hr3 := hr2.below b3 hr2.lt
  have hbel3 : Below n0 w w3 := hbel2.trans (b3.mono (by omega))
  have hv3 := hv2.step b3
  have hgw : n1 < g := by omega
  have hs3 := b3.size
  have hglt := hh.lt
  clear hr2 hbel2 hv2 b3 hg
  generalize hn3 : w3.heap.size = n3 at *
  have hcv2 : (convert 30 30 (.slice (some ⟨n3, 0, none⟩) 1 1)).run Tryd.prog (w3.alloc (.cells #[.int .u8 97] 5)) = .ok (.slice (some ⟨n3, 0, none⟩) 1 1) (w3.alloc (.cells #[.int .u8 97] 5 (1, 2))) := Go.Joins.run_convert_bytes_const_at w3 30 5 #[.int .u8 97] 1 1 n3 hn3.symm Tryd.underlying30 Tryd.underlying5
  have hcv3 : (convert 30 30 (.slice (some ⟨n3 + 1, 0, none⟩) 2 2)).run Tryd.prog ((w3.alloc (.cells #[.int .u8 97] 5 (1, 2))).alloc (.cells #[.int .u8 98, .int .u8 99] 5)) = .ok (.slice (some ⟨n3 + 1, 0, none⟩) 2 2) ((w3.alloc (.cells #[.int .u8 97] 5 (1, 2))).alloc (.cells #[.int .u8 98, .int .u8 99] 5 (2, 3))) := Go.Joins.run_convert_bytes_const_at (w3.alloc (.cells #[.int .u8 97] 5 (1, 2))) 30 5 #[.int .u8 98, .int .u8 99] 2 2 (n3 + 1) (by rw [asz, hn3]) Tryd.underlying30 Tryd.underlying5
  have hgn : ¬ n3 = g := by omega
  have hhs : ∀ a b c, HashAt (((w3.alloc a).alloc b).alloc c) g [] := fun a b c => hh.step (below3 w3 a b c)
  have hvs : ∀ a b c, Vars (((w3.alloc a).alloc b).alloc c) := fun a b c => hv3.step (below3 w3 a b c)
  go_wp2_with (go_at_call 21; refine (write_any g [] [[97], [98, 99]] (n3 + 3) _ _ (hhs _ _ _) (PartsO.two (u := .slice (some ⟨n3, 0, none⟩) 1 1) (u2 := .slice (some ⟨n3 + 1, 0, none⟩) 2 2) (Nat.lt_succ_self _) (by omega) (Row.new_ (by rw [asz, asz, hn3]) rfl) (Sl.of_block (heap_under (heap_under (heap_new hn3.symm))) rfl (by omega) rfl (by decide)) (Off.at_ (by omega)) (Sl.of_block (heap_under (heap_new (by rw [asz, hn3]))) rfl (by omega) rfl (by decide)) (Off.at_ (by omega))) (by rw [asz, asz, asz, hn3]; exact Nat.le_refl _) (hvs _ _ _) (by decide) (by decide)).mono ?_)
  rintro e w5 ⟨rfl, hh5, b5⟩
  rw [abc_two] at hh5
  rw [asz, asz, asz, hn3] at b5
  have hb35 : Below n0 w w5 := ((hbel3.trans ((below3 w3 _ _ _).mono (by omega))).trans (b5.under (by omega) (by omega)))
  have hr5 : Row w5 n1 33 (Lib.byteCells sm) := b5.row (((hr3.alloc _).alloc _).alloc _) (by omega) (by omega)
  have hv5 : Vars w5 := (hvs _ _ _).but (by rw [asz, asz, asz, hn3]; exact b5) hh.1
  have hs5 := b5.size
  rw [asz, asz, asz, hn3] at hs5
  clear hcv hcv2 hcv3 hhs hvs hbel3 hr3 hv3 b5 hh
  have hrg := hr5.drew.range
  have hn1lt : n1 < w5.drew.heap.size := by show n1 < w5.heap.size; omega
  have hsl : Sl w5.drew w5.drew.heap.size (.slice (some ⟨n1, 0, none⟩) 32 32) sm := Sl.of_bytes hr5.drew hn1lt hlen (by decide)
  have hstr : (⟨(hexL sm).toArray⟩ : ByteArray) = ⟨#[98, 97, 55, 56, 49, 54, 98, 102, 56, 102, 48, 49, 99, 102, 101, 97, 52, 49, 52, 49, 52, 48, 100, 101, 53, 100, 97, 101, 50, 50, 50, 51, 98, 48, 48, 51, 54, 49, 97, 51, 57, 54, 49, 55, 55, 97, 57, 99, 98, 52, 49, 48, 102, 102, 54, 49, 102, 50, 48, 48, 49, 53, 97, 100]⟩ := by rw [hhex]
  have hu33 := Tryd.underlying33
  have hi33 : (Tryd.prog.info? 33).map (·.size) = some (Lib.byteCells sm).length := info_b32.trans (size_bytes _ _ hlen)
  have heq := eq32 sm sm hlen hlen
  have hbb : (sm == sm) = true := by simp
  rw [hbb] at heq
  clear hhex hbb
  go_wp2
  go_region_held3 (fun w' => w'.rangeAt n1 0 (Lib.byteCells sm)) (first | exact hrg | exact hrg6 | exact hrg7 | exact hrg8) (first
    | (go_at_call 30; refine (refHex_any _ _ sm _ hsl (by omega)).mono ?_; rintro e w6 ⟨rfl, b6⟩; have hrg6 := range_below hrg b6 hn1lt; have hh6 := hh5.drew.step b6; have hv6 := hv5.drew.step b6; rw [hstr])
    | (go_at_call 23; refine (sum_any g _ _ hh6 hv6 (by decide)).mono ?_; rintro e w7 ⟨rfl, b7⟩; have hrg7 := range_below hrg6 b7 (Nat.lt_of_lt_of_le hn1lt b6.size); have hh7 := hh6.step b7; rw [HA.out])
    | (go_at_call 24; refine (len_any g _ _ hh7).mono ?_; rintro e w8 ⟨rfl, rfl⟩))
  go_wp2
  go_ret
  have z5 : n0 ≤ w5.drew.heap.size := by show n0 ≤ w5.heap.size; omega
  exact ⟨rfl, (hb35.drew.trans (b6.mono z5)).trans (b7.mono (Nat.le_trans z5 b6.size))⟩
end Go.Proofs.YthafhghnciofaaaDoor
