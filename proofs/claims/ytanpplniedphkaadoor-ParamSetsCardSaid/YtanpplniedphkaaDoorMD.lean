/-
  FOUNDATIONS, merged: see the heads of the parts.
-/
import Derived.Test.YtanpplniedphkaaDoorMC
/-
  WALKS: sha2.keyBlock, masked, Mac, Extract.
-/
namespace Go.Proofs.YtanpplniedphkaaDoor
open Go.RowKit
set_option maxRecDepth 100000

/-- copy into a block of 64 zeros -/
theorem wpList_copy_key {ops : Array Oper} {rest : List Oper} {o : Oper} {a : Act} {w : World} {Q : Exit → Act → World → Prop} (hgd : o.guard = none) (d s : Operand)
    (ho : o.op = .call { callee := .builtin .copy, args := #[d, s], argTypes := #[22, 22] })
    (g : Nat) (hd : a.eval d = .slice (some ⟨g, 0, none⟩) 64 64) (t : TypeId) (hr : Row w g t (Lib.byteCells (List.replicate 64 0))) (B : Nat) (v : Value) (hs : a.eval s = v) (l : List UInt8) (hsl : Sl w B v l) (hl : l.length ≤ 64)
    (h : ∀ w', Row w' g t (Lib.byteCells (l ++ List.replicate (64 - l.length) 0)) → Below g w w' → wpList Tryd.prog ops Q rest (a.put o.dst (goInt l.length)) w') : wpList Tryd.prog ops Q (o :: rest) a w := by
  obtain ⟨A, c, rfl, h1, h2⟩ := hsl.form
  have hcl : (Lib.byteCells l).length = l.length := Lib.byteCells_length l
  refine wpList_copy_splice hgd d s 22 22 ho 5 Tryd.underlying22 info_u8s (some ⟨g, 0, none⟩) A 64 64 l.length c hd hs g 0 (Lib.byteCells (List.replicate 64 0)) t hr (Lib.byteCells l) (by rw [hcl]; exact (Nat.min_eq_left hl).symm) (fun hp => ?_) (by rw [hcl, Lib.byteCells_length]; simp; omega) (cell_oneCell _) g w (Below.refl _ _) (Nat.le_refl _) (fun w' hw' hb => ?_)
  · rw [hcl] at hp
    obtain ⟨b, off, rfl, _, hc⟩ := hsl.at_ hp
    refine ⟨rfl, _, rfl, fun j u hu => ?_⟩
    have hj : j < l.length := by have := (List.getElem?_eq_some_iff.1 hu).1; rwa [hcl] at this
    rw [addr_add, hc j hj, ← hu, byteCells_get _ _ hj]
  · rw [hcl]
    refine h w' ?_ hb
    have e : splice (Lib.byteCells (List.replicate 64 0)) 0 (Lib.byteCells l) = Lib.byteCells (l ++ List.replicate (64 - l.length) 0) := by
      unfold splice
      rw [hcl, List.take_zero, List.nil_append, Nat.zero_add]
      simp only [Lib.byteCells, List.map_append, ← List.map_drop, List.drop_replicate]
    have := hw'.out
    rw [e] at this
    exact this
theorem keyB_long (k : List UInt8) (h : 64 < k.length) : keyB k = sha k ++ List.replicate (64 - (sha k).length) 0 := by unfold keyB; simp [h]
theorem keyB_short (k : List UInt8) (h : ¬ 64 < k.length) : keyB k = k ++ List.replicate (64 - k.length) 0 := by unfold keyB; simp [h]
theorem flat_one (k : List UInt8) : [k].flatten = k := by simp

set_option maxHeartbeats 1000000 in
theorem keyBlock_any (B : Nat) (v : Value) (k : List UInt8) (w : World) (hs : Sl w B v k) (hB : B ≤ w.heap.size) (hv : Vars w) (hl : k.length ≤ 1000000) :
    Calls Tryd.prog 113 #[v] w (SumIs w (keyB k)) := by
  unfold SumIs
  have hkl := keyB_length k
  obtain ⟨A, c, rfl, _, _⟩ := hs.form
  generalize hn0 : w.heap.size = n0 at *
  by_cases hlong : 64 < k.length
  · have ht : (64 : Int) < (k.length : Int) := by omega
    have hke := keyB_long k hlong
    rw [sha_length] at hke
    have HKE := Lib.hid hke
    clear hke
    have hshl := sha_length k
    go_enter Tryd.func113, Tryd.ntmps113
    go_wp2_with (go_at_call 121; (refine (sum256_any [k] (n0 + 3) _ _ (PartsO.solo (Row.new_ (by rw [asz, asz, hn0]) rfl) (Nat.lt_succ_self _) (by rw [asz, asz, asz, hn0]; omega) ((hs.below (below3 w _ _ _ |>.mono (by rw [hn0]; exact hB))).more (by omega)) ((hs.more (show B ≤ n0 from hB)).off (by rw [asz, asz, asz, hn0]; omega))) (by rw [asz, asz, asz, hn0]; exact Nat.le_refl _) (hv.step (below3 w _ _ _)) (by rw [flat_one]; omega) (by simp)).mono ?_))
    rintro e w1 ⟨rfl, b1⟩
    rw [flat_one]
    rw [asz, asz, asz, hn0] at b1
    have hr2 : Row w1 n0 139 (Lib.byteCells (List.replicate 64 0)) := (((Row.new_ hn0.symm zero64b).alloc _).alloc _).below b1 (by omega)
    have hr3 : Row w1 (n0 + 1) 139 (Lib.byteCells (List.replicate 64 0)) := ((Row.new_ (by rw [asz, hn0]) zero64b).alloc _).below b1 (by omega)
    have hbel1 : Below n0 w w1 := ((below3 w _ _ _).mono (by omega)).trans (b1.mono (by omega))
    have hs1 := b1.size
    rw [asz, asz, asz, hn0] at hs1
    clear b1 hs hv
    generalize sha k = sk at *
    go_wp2_with (refine wpList_store_any rfl 79 (.tmp 4) (.tmp 10) rfl w1.heap.size rfl (Lib.byteCells sk) rfl 79 (Lib.byteCells (List.replicate 32 0)) (Row.new_ rfl zero32b) (info_b32.trans (size_bytes _ _ hshl)) (by rw [Lib.byteCells_length, Lib.byteCells_length, hshl]; rfl) (cell_oneCell _) ?_)
    intro w2 hr4 bt hs2
    try simp only [asz] at bt hs2
    replace hr2 := bt.row (hr2.alloc _) (by omega) (by omega)
    replace hr3 := bt.row (hr3.alloc _) (by omega) (by omega)
    have hbel2 : Below n0 w w2 := (hbel1.alloc (by omega) _).trans (bt.under (by omega) (by omega))
    have hsl : Sl w2 (w1.heap.size + 1) (.slice (some ⟨w1.heap.size, 0, none⟩) 32 32) sk := Sl.of_bytes hr4 (by omega) hshl (by decide)
    go_wp2_with (refine wpList_copy_key rfl (.tmp 12) (.tmp 13) rfl (n0 + 1) rfl 139 hr3 (w1.heap.size + 1) _ rfl sk hsl (by omega) ?_)
    intro w3 hr5 b3
    replace hr5 : Row w3 (n0 + 1) 139 (Lib.byteCells (keyB k)) := by rw [HKE.out]; exact hr5
    replace hr2 := hr2.below b3 (by omega)
    have hbel3 := hbel2.trans (b3.mono (by omega))
    go_wp2_with (first | refine wpList_load_any rfl 139 (.tmp 3) rfl (n0 + 1) rfl 139 (Lib.byteCells (keyB k)) (.array 64 5) hr5 Tryd.underlying139 rfl (info_b64.trans (size_bytes _ _ hkl)) ?_ | refine wpList_store_any rfl 139 (.tmp 2) (.tmp 15) rfl n0 rfl (Lib.byteCells (keyB k)) rfl 139 _ hr2 (info_b64.trans (size_bytes _ _ hkl)) (by rw [Lib.byteCells_length, Lib.byteCells_length, hkl]; rfl) (cell_oneCell _) ?_)
    intro w4 hr6 b4 _
    have hbel4 : Below n0 w w4 := hbel3.trans (b4.under (Nat.le_of_lt hr2.lt) (Nat.le_refl _))
    go_wp2
    exact ret_row Tryd.results113 rfl rfl hr6 Tryd.underlying139 rfl (info_b64.trans (size_bytes _ _ hkl)) ⟨rfl, hbel4⟩
  · have ht : ¬ (64 : Int) < (k.length : Int) := by omega
    have HKE := Lib.hid (keyB_short k hlong)
    have hr2 : Row ((w.alloc (.cells (Lib.byteCells (List.replicate 64 0)).toArray 139)).alloc (.cells (Lib.byteCells (List.replicate 64 0)).toArray 139)) n0 139 (Lib.byteCells (List.replicate 64 0)) := (Row.new_ hn0.symm rfl).alloc _
    have hr3 : Row ((w.alloc (.cells (Lib.byteCells (List.replicate 64 0)).toArray 139)).alloc (.cells (Lib.byteCells (List.replicate 64 0)).toArray 139)) (n0 + 1) 139 (Lib.byteCells (List.replicate 64 0)) := Row.new_ (by rw [asz, hn0]) rfl
    have hb2 : Below n0 w ((w.alloc (.cells (Lib.byteCells (List.replicate 64 0)).toArray 139)).alloc (.cells (Lib.byteCells (List.replicate 64 0)).toArray 139)) := ((Below.refl n0 w).alloc (by omega) _).alloc (by rw [asz]; omega) _
    have hs2 := hs.below (hb2.mono hB)
    go_enter Tryd.func113, Tryd.ntmps113
    go_wp2_with (refine wpList_copy_key rfl (.tmp 12) (.tmp 13) rfl (n0 + 1) rfl 139 hr3 B _ rfl k hs2 (by omega) ?_)
    intro w3 hr5 b3
    replace hr5 : Row w3 (n0 + 1) 139 (Lib.byteCells (keyB k)) := by rw [HKE.out]; exact hr5
    replace hr2 := hr2.below b3 (by omega)
    have hbel3 := hb2.trans (b3.mono (by omega))
    go_wp2_with (first | refine wpList_load_any rfl 139 (.tmp 3) rfl (n0 + 1) rfl 139 (Lib.byteCells (keyB k)) (.array 64 5) hr5 Tryd.underlying139 rfl (info_b64.trans (size_bytes _ _ hkl)) ?_ | refine wpList_store_any rfl 139 (.tmp 2) (.tmp 15) rfl n0 rfl (Lib.byteCells (keyB k)) rfl 139 _ hr2 (info_b64.trans (size_bytes _ _ hkl)) (by rw [Lib.byteCells_length, Lib.byteCells_length, hkl]; rfl) (cell_oneCell _) ?_)
    intro w4 hr6 b4 _
    have hbel4 : Below n0 w w4 := hbel3.trans (b4.under (Nat.le_of_lt hr2.lt) (Nat.le_refl _))
    go_wp2
    exact ret_row Tryd.results113 rfl rfl hr6 Tryd.underlying139 rfl (info_b64.trans (size_bytes _ _ hkl)) ⟨rfl, hbel4⟩
end Go.Proofs.YtanpplniedphkaaDoor

/-
  WALK: sha2.masked.
-/
namespace Go.Proofs.YtanpplniedphkaaDoor
open Go.RowKit
set_option maxRecDepth 100000

theorem xorB_length (k : List UInt8) (c : UInt8) : (xorB k c).length = k.length := by simp [xorB]
/-- a new Hash to which m has been written -/
def MadeIs (w : World) (m : List UInt8) (e : Ending) (w' : World) : Prop := ∃ g, e = .returned (.pointer (some ⟨g, 0, none⟩)) ∧ w.heap.size ≤ g ∧ HashAt w' g m ∧ Below w.heap.size w w'

set_option maxHeartbeats 1000000 in
theorem masked_any (b : List UInt8) (c : UInt8) (w : World) (hb : b.length = 64) (hv : Vars w) :
    Calls Tryd.prog 114 #[.agg (Lib.byteCells b).toArray, .int .u8 (c.toNat : Int)] w (MadeIs w (xorB b c)) := by
  unfold MadeIs
  generalize hn0 : w.heap.size = n0 at *
  have hxl := xorB_length b c
  go_enter Tryd.func114, Tryd.ntmps114
  go_wp2
  go_loopw [5, 7] (fun _ i wr => ∃ k : Nat, k ≤ 64 ∧ i = .int .i64 k ∧ Row wr n0 139 (Lib.byteCells ((xorB b c).take k ++ b.drop k)) ∧ Below n0 w wr) (fun _ i _ => 64 - (intOf i).toNat)
  case atStart => exact ⟨0, by omega, rfl, by simpa using Row.new_ hn0.symm rfl, (Below.refl n0 w).alloc (by omega) _⟩
  case round =>
    obtain ⟨k, hk, rfl, hr, hbel⟩ := hrel
    by_cases hlt : k < 64
    · have hc := hr.cell k
      have hg : ((xorB b c).take k ++ b.drop k)[k]? = some (b[k]'(by omega)) := by
        rw [List.getElem?_append_right (by simp; omega)]
        simp [hxl, hb, Nat.min_eq_left (Nat.le_of_lt hlt)]
      have hll : k < ((xorB b c).take k ++ b.drop k).length := by simp; omega
      rw [byteCells_get _ _ hll, (List.getElem_eq_iff hll).2 hg] at hc
      have hf := hr.free k
      obtain ⟨x, hx⟩ : ∃ x, x = b[k]'(by omega) := ⟨_, rfl⟩
      have hset := hr.set_ k (.int .u8 ((x ^^^ c).toNat : Int))
      have he : (Lib.byteCells ((xorB b c).take k ++ b.drop k)).set k (.int .u8 ((x ^^^ c).toNat : Int)) = Lib.byteCells ((xorB b c).take (k + 1) ++ b.drop (k + 1)) := by
        have e1 : ((xorB b c).take k ++ b.drop k).set k (x ^^^ c) = (xorB b c).take (k + 1) ++ b.drop (k + 1) := by
          rw [List.set_append_right _ _ (by simp; omega), List.take_succ_eq_append_getElem (by omega), List.drop_eq_getElem_cons (show k < b.length by omega)]
          have : (xorB b c)[k]'(by omega) = x ^^^ c := by rw [hx]; simp [xorB]
          rw [this]
          have : k - (List.take k (xorB b c)).length = 0 := by simp; omega
          rw [this, List.set_cons_zero, List.append_assoc]
          rfl
        rw [← e1]
        simp [Lib.byteCells, List.map_set]
      rw [he] at hset
      rw [← hx] at hc
      have HX := Lib.hid (u8_xor x c)
      have HSET := Lib.hid hset
      clear hg hset he hx
      go_wp2
      go_roundw
      case rel =>
        refine ⟨k + 1, by omega, by go_num, ?_, hbel.setCell (p := ⟨n0, k, none⟩) (Nat.le_refl _) _⟩
        rw [HX.out]
        exact HSET.out
      case measure => simp [intOf]; omega
    · obtain rfl : k = 64 := by omega
      rw [List.take_of_length_le (by omega), List.drop_of_length_le (by omega), List.append_nil] at hr
      have hv2 := hv.step (by rw [hn0]; exact hbel)
      have hlt0 := hr.lt
      go_wp2_with (go_at_call 122; refine (new_any _ hv2).mono ?_)
      rintro e w1 ⟨g, rfl, hg, hh, b1⟩
      have hr1 := hr.below b1 hr.lt
      have hv3 := hv2.step b1
      have hs1 := b1.size
      have hgl := hh.lt
      have hbel1 := hbel.trans (b1.mono (by omega))
      have hgn : n0 < g := by omega
      clear hg hr hbel hv2 b1 hv
      have bA : Below w1.heap.size w1 (w1.alloc (.cells #[.slice (some ⟨n0, 0, none⟩) 64 64] 22)) := Below.alloc (Below.refl _ _) (Nat.le_refl _) _
      have hpA : PartsO (w1.alloc (.cells #[.slice (some ⟨n0, 0, none⟩) 64 64] 22)) (w1.heap.size + 1) g (.slice (some ⟨w1.heap.size, 0, none⟩) 1 1) [xorB b c] :=
        PartsO.solo (Row.new_ rfl rfl) (Nat.lt_succ_self _) (by omega) (Sl.of_bytes (hr1.alloc _) (by omega) (by omega) (by decide)) (Off.at_ (by omega))
      go_wp2_with (go_at_call 115; (refine (write_any g [] [xorB b c] (w1.heap.size + 1) _ _ (hh.step bA) hpA (by rw [asz]; exact Nat.le_refl _) (hv3.step bA) (by simp [hxl, hb]) (by simp)).mono ?_))
      rintro e w2 ⟨rfl, hh2, b2⟩
      have e2 : ([] : List UInt8) ++ [xorB b c].flatten = xorB b c := by simp
      rw [e2] at hh2
      have hbel2 : Below n0 w w2 := (hbel1.trans (bA.mono (by omega))).trans (b2.under (by rw [asz]; omega) (by omega))
      go_wp2
      go_ret
      exact ⟨g, rfl, by omega, hh2, hbel2⟩
end Go.Proofs.YtanpplniedphkaaDoor

/-
  WALKS: sha2.Mac, Extract.
-/
namespace Go.Proofs.YtanpplniedphkaaDoor
open Go.RowKit
set_option maxRecDepth 100000

set_option maxHeartbeats 2000000 in
theorem mac_any (B : Nat) (vk vp : Value) (k : List UInt8) (bss : List (List UInt8)) (w : World) (hs : Sl w B vk k) (hp : PartsO w B w.heap.size vp bss) (hB : B ≤ w.heap.size) (hv : Vars w) (hk : k.length ≤ 1000000) (hl : bss.flatten.length ≤ 1000000) (hn : bss.length ≤ 1000) :
    Calls Tryd.prog 104 #[vk, vp] w (SumIs w (macB k bss.flatten)) := by
  unfold SumIs
  generalize hn0 : w.heap.size = n0 at *
  have hkl := keyB_length k
  have HM : Hid (macB k bss.flatten = sha (xorB (keyB k) 0x5c ++ sha (xorB (keyB k) 0x36 ++ bss.flatten))) := Lib.hid rfl
  have hml := macB_length k bss.flatten
  have hx1 : (xorB (keyB k) 0x36).length = 64 := by rw [xorB_length, hkl]
  have hx2 : (xorB (keyB k) 0x5c).length = 64 := by rw [xorB_length, hkl]
  have hhl := sha_length (xorB (keyB k) 0x36 ++ bss.flatten)
  have b0 : Below n0 w (w.alloc (.cells (Lib.byteCells (List.replicate 32 0)).toArray 79)) := (Below.refl n0 w).alloc (by omega) _
  have hsA := hs.below (b0.mono hB)
  have hvA : Vars (w.alloc (.cells (Lib.byteCells (List.replicate 32 0)).toArray 79)) := hv.step (by rw [hn0]; exact b0)
  have hrA : Row (w.alloc (.cells (Lib.byteCells (List.replicate 32 0)).toArray 79)) n0 79 (Lib.byteCells (List.replicate 32 0)) := Row.new_ hn0.symm rfl
  go_enter Tryd.func104, Tryd.ntmps104
  go_wp2_with (go_at_call 113; refine (keyBlock_any B vk k _ hsA (by rw [asz]; omega) hvA hk).mono ?_)
  rintro e w1 ⟨rfl, b1⟩
  rw [asz, hn0] at b1
  have hr1 := hrA.below b1 (by omega)
  have hbel1 : Below n0 w w1 := b0.trans (b1.mono (by omega))
  have hv1 := hv.step (by rw [hn0]; exact hbel1)
  have hs1 := b1.size
  rw [asz, hn0] at hs1
  clear b0 b1 hrA hvA hsA
  obtain ⟨kb, hkb⟩ : ∃ kb, kb = keyB k := ⟨_, rfl⟩
  rw [← hkb] at HM hkl hx1 hx2 hhl
  rw [← hkb]
  clear hkb
  go_wp2_with (first | refine wpList_store_any rfl 139 (.tmp 5) (.tmp 10) rfl w1.heap.size rfl (Lib.byteCells kb) rfl 139 (Lib.byteCells (List.replicate 64 0)) (Row.new_ rfl zero64b) (info_b64.trans (size_bytes _ _ hkl)) (by rw [Lib.byteCells_length, Lib.byteCells_length, hkl]; rfl) (cell_oneCell _) ?_)
  intro w2 hr5 bt hs2
  try simp only [asz] at bt hs2
  have hr2 := bt.row (hr1.alloc _) (by omega) (by omega)
  have hbel2 : Below n0 w w2 := (hbel1.alloc (by omega) _).trans (bt.under (by omega) (by omega))
  have hv2 := hv.step (by rw [hn0]; exact hbel2)
  generalize hn5 : w1.heap.size = n5 at *
  clear bt hbel1 hv1 hr1 hn5
  go_wp2_with (first | refine wpList_load_any rfl 139 (.tmp 5) rfl n5 rfl 139 (Lib.byteCells kb) (.array 64 5) hr5 Tryd.underlying139 rfl (info_b64.trans (size_bytes _ _ hkl)) ?_ | (go_at_call 114; refine (masked_any kb 0x36 _ hkl hv2).mono ?_))
  rintro e w3 ⟨g, rfl, hg, hh3, b3⟩
  have hr3 := hr2.below b3 hr2.lt
  have hr53 := hr5.below b3 hr5.lt
  have hv3 := hv2.step b3
  have hs3 := b3.size
  have hbel3 := hbel2.trans (b3.mono (by omega))
  have hp3 : PartsO w3 B g vp bss := (hp.moved (by omega)).below (hbel3.mono hB)
  have hglt := hh3.lt
  clear b3 hr2 hr5 hv2 hbel2
  go_wp2_with (go_at_call 115; refine (write_any g _ bss B vp _ hh3 hp3 (by omega) hv3 (by rw [hx1]; omega) hn).mono ?_)
  rintro e w4 ⟨rfl, hh4, b4⟩
  have hr4 := b4.row hr3 (by omega) (by omega)
  have hr54 := b4.row hr53 (by omega) (by omega)
  have hv4 := hv3.but b4 hh3.1
  have hs4 := b4.size
  have hbel4 := hbel3.trans (b4.under (by omega) (by omega))
  clear b4 hr3 hr53 hv3 hbel3 hp3
  go_wp2_with (go_at_call 116; refine (sum_any g _ _ hh4 hv4 (by rw [List.length_append, hx1]; omega)).mono ?_)
  rintro e w5 ⟨rfl, b5⟩
  have hr6 := hr4.below b5 hr4.lt
  have hr56 := hr54.below b5 hr54.lt
  have hv5 := hv4.step b5
  have hs5 := b5.size
  have hbel5 := hbel4.trans (b5.mono (by omega))
  clear b5 hr4 hr54 hv4 hbel4 hh4 hh3
  generalize sha (xorB kb 0x36 ++ bss.flatten) = sm at *
  go_wp2_with (first | refine wpList_store_any rfl 79 (.tmp 7) (.tmp 17) rfl w5.heap.size rfl (Lib.byteCells sm) rfl 79 (Lib.byteCells (List.replicate 32 0)) (Row.new_ rfl zero32b) (info_b32.trans (size_bytes _ _ hhl)) (by rw [Lib.byteCells_length, Lib.byteCells_length, hhl]; rfl) (cell_oneCell _) ?_)
  intro w6 hr7 bt hs6
  try simp only [asz] at bt hs6
  have hr8 := bt.row (hr6.alloc _) (by omega) (by omega)
  have hr58 := bt.row (hr56.alloc _) (by omega) (by omega)
  have hbel6 : Below n0 w w6 := (hbel5.alloc (by omega) _).trans (bt.under (by omega) (by omega))
  have hv6 := hv.step (by rw [hn0]; exact hbel6)
  generalize hn7 : w5.heap.size = n7 at *
  clear bt hbel5 hv5 hr6 hr56 hn7
  go_wp2_with (first | refine wpList_load_any rfl 139 (.tmp 5) rfl n5 rfl 139 (Lib.byteCells kb) (.array 64 5) hr58 Tryd.underlying139 rfl (info_b64.trans (size_bytes _ _ hkl)) ?_ | (go_at_call 114; refine (masked_any kb 0x5c _ hkl hv6).mono ?_))
  rintro e w8 ⟨g2, rfl, hg2, hh8, b8⟩
  have hr9 := hr8.below b8 hr8.lt
  have hr79 := hr7.below b8 hr7.lt
  have hv8 := hv6.step b8
  have hs8 := b8.size
  have hbel8 := hbel6.trans (b8.mono (by omega))
  have hglt2 := hh8.lt
  have bA : Below w8.heap.size w8 (w8.alloc (.cells #[.slice (some ⟨n7, 0, none⟩) 32 32] 22)) := Below.alloc (Below.refl _ _) (Nat.le_refl _) _
  have hpA : PartsO (w8.alloc (.cells #[.slice (some ⟨n7, 0, none⟩) 32 32] 22)) (w8.heap.size + 1) g2 (.slice (some ⟨w8.heap.size, 0, none⟩) 1 1) [sm] :=
    PartsO.solo (Row.new_ rfl rfl) (Nat.lt_succ_self _) (by omega) (Sl.of_bytes (hr79.alloc _) (by omega) hhl (by decide)) (Off.at_ (by omega))
  clear b8 hr8 hr7 hr58 hv6 hbel6
  go_wp2_with (go_at_call 115; refine (write_any g2 _ [sm] (w8.heap.size + 1) _ _ (hh8.step bA) hpA (by rw [asz]; exact Nat.le_refl _) (hv8.step bA) (by rw [hx2, flat_one]; omega) (by simp)).mono ?_)
  rintro e w9 ⟨rfl, hh9, b9⟩
  rw [flat_one] at hh9
  have hr10 := b9.row (hr9.alloc _) (by rw [asz]; omega) (by omega)
  have hv9 : Vars w9 := (hv8.step bA).but b9 hh8.1
  have hs9 := b9.size
  rw [asz] at hs9
  have hbel9 : Below n0 w w9 := (hbel8.trans (bA.mono (by omega))).trans (b9.under (by rw [asz]; omega) (by omega))
  clear b9 hr9 hr79 bA hpA hv8 hbel8
  go_wp2_with (go_at_call 116; refine (sum_any g2 _ _ hh9 hv9 (by rw [List.length_append, hx2, hhl]; decide)).mono ?_)
  rintro e w10 ⟨rfl, b10⟩
  rw [← HM.out]
  have hr11 := hr10.below b10 hr10.lt
  have hs10 := b10.size
  have hbel10 := hbel9.trans (b10.mono (by omega))
  go_wp2_with (refine wpList_store_any rfl 79 (.tmp 4) (.tmp 25) rfl n0 rfl (Lib.byteCells (macB k bss.flatten)) rfl 79 _ hr11 (info_b32.trans (size_bytes _ _ hml)) (by rw [Lib.byteCells_length, Lib.byteCells_length, hml]; rfl) (cell_oneCell _) ?_)
  intro w11 hr12 b11 _
  have hbel11 : Below n0 w w11 := hbel10.trans (b11.under (Nat.le_of_lt hr11.lt) (Nat.le_refl _))
  go_wp2
  exact ret_row Tryd.results104 rfl rfl hr12 Tryd.underlying79 rfl (info_b32.trans (size_bytes _ _ hml)) ⟨rfl, hbel11⟩
end Go.Proofs.YtanpplniedphkaaDoor

/-
  WALKS: sha2.Expand; the law's 'few'.
-/
namespace Go.Proofs.YtanpplniedphkaaDoor
open Go.RowKit
set_option maxRecDepth 100000

theorem own_step {w w' : World} {base : Nat} {e : TypeId} {v : Value} {n : Nat} {xs : List Value} (h : w.ownsRow base e 1 v n xs) (hb : Below w.heap.size w w') : w'.ownsRow base e 1 v n xs := by
  refine ⟨h.1, ?_⟩
  rcases h.2 with h0 | ⟨g, cap, cur, hv, hg, hr, hrest⟩
  · exact .inl h0
  · exact .inr ⟨g, cap, cur, hv, hg, (hb.block g (Array.getElem?_eq_some_iff.1 hr).1).trans hr, hrest⟩
/-- at most 40 texts of at most 3000 bytes each -/
def fewB (bss : List (List UInt8)) : Bool := bss.all (fun b => decide (b.length ≤ 3000)) && decide (bss.length ≤ 40)
theorem few_no (bss : List (List UInt8)) (k : Nat) (h : k < bss.length) (hb : 3000 < bss[k].length) : fewB bss = false := by
  unfold fewB
  have : bss.all (fun b => decide (b.length ≤ 3000)) = false := by
    rw [List.all_eq_false]
    exact ⟨bss[k], List.getElem_mem h, by simp; omega⟩
  rw [this]; rfl
theorem few_yes {bss : List (List UInt8)} (h : fewB bss = true) : (∀ b ∈ bss, b.length ≤ 3000) ∧ bss.length ≤ 40 := by
  unfold fewB at h
  simp only [Bool.and_eq_true, List.all_eq_true, decide_eq_true_eq] at h
  exact h
end Go.Proofs.YtanpplniedphkaaDoor
