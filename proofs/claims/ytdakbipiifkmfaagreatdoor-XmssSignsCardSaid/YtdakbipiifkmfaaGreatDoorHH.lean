import Derived.Laws.Cover3
import Derived.StillTailTactics
import Derived.BigRegion
import Derived.Deep.RegionWith
import Derived.Deep.RegionHeld
import Derived.Deep.MidRow
import Derived.Deep.WholeRow
import Derived.BigQuiet
import Derived.Deep.RegionHeld3
import Derived.Deep.QuietTactic
import Derived.Test.YtdakbipiifkmfaaGreatDoorRows
import Derived.ProofKit
import Derived.OpenShut
import Derived.JoinedCond
import Derived.SizedLaws
import Derived.Carry
import Derived.Deep.Grids
import Derived.Lib.ConvBytes
import Derived.Lib.AtoiErrMem
import Derived.Laws.AppendOwn
import Derived.RegionTactic
import Derived.Deep.RegionLaw
import Derived.Laws.CopyOwn
import Derived.DeepKeys
import Derived.Lib.SmallJoins
import Derived.WalkKit
import Derived.Test.YtdakbipiifkmfaaGreatDoorProg
import Derived.WalkSpells
import Derived.WalkLawsBesides
import Derived.Lib.UnsafeStr
import Derived.Lib.Hide
import Derived.Laws.BytesArg
import Derived.Deep.Draws
import Derived.ChangeAlike
import Derived.Laws.AppendOwnNone
import Derived.Test.YtdakbipiifkmfaaGreatDoorHE
import Derived.Test.YtdakbipiifkmfaaGreatDoorHG
namespace Go.Proofs.YtdakbipiifkmfaaGreatDoor
open Go.RowKit
set_option maxRecDepth 100000
theorem below1 (w : World) (o : Obj) : Below w.heap.size w (w.alloc o) := Below.alloc (Below.refl _ _) (Nat.le_refl _) _
theorem u32_of {x : Int} (h : (Lit.int .u32 x).wf = true) : 0 <= x /\ x <= 4294967295 := by simpa [Lit.wf, IntKind.min, IntKind.max, IntKind.signed, IntKind.bits] using h
theorem hN_le (f : Nat) : 0 <= hN f /\ hN f <= 32 := by unfold hN; split <;> omega
theorem xms_wf (c : Nat) (hc : c < 4294967296) : (Lit.int .u32 (xC c)).wf = true /\ (Lit.int .i64 (xN c)).wf = true /\ (Lit.int .i64 (xH c : Int)).wf = true /\ (Lit.int .i64 (xL c)).wf = true := by
 have h1 := hN_le (xF c);have h2 := xH_le c;have hC : 0 <= xC c /\ xC c <= 4294967295 := by unfold xC; split <;> omega
 have hn : 0 <= xN c /\ xN c <= 32 := by unfold xN; split <;> omega
 have hl : 0 <= xL c /\ xL c <= 67 := by
  unfold xL
  split
  ·omega
  ·split <;> omega
 exact ⟨wf32 hC.1 hC.2, wf64 (by omega) (by omega), wf64 (by omega) (by omega), wf64 (by omega) (by omega)⟩
structure S5 where
 c : Int
 s : Bool
 n : Int
 h : Int
 l : Int
def S5.wf (x : S5) : Prop := (Lit.int .u32 x.c).wf = true /\ (Lit.int .i64 x.n).wf = true /\ (Lit.int .i64 x.h).wf = true /\ (Lit.int .i64 x.l).wf = true
def S5.cells (x : S5) : List Value := [.int .u32 x.c, .bool x.s, .int .i64 x.n, .int .i64 x.h, .int .i64 x.l]
def S5.v (x : S5) : Value := .agg #[.int .u32 x.c, .bool x.s, .int .i64 x.n, .int .i64 x.h, .int .i64 x.l]
def xS (c : Nat) : S5 := ⟨xC c, xSh c, xN c, (xH c : Int), xL c⟩
def S5.ok (x : S5) : Bool := decide (xE x.c.toNat = 0 /\ (x.c = xC x.c.toNat /\ x.s = xSh x.c.toNat /\ x.n = xN x.c.toNat /\ x.h = (xH x.c.toNat : Int) /\ x.l = xL x.c.toNat))
theorem S5.ok_is {x : S5} (h : x.ok = true) : (x.n = 24 /\ x.l = 51) ∨ (x.n = 32 /\ x.l = 67) := by
 obtain ⟨h0, h1, h2, h3, h4, h5⟩ := of_decide_eq_true h;have h6 : xH x.c.toNat ≠ 0 := by
  intro hh;unfold xE at h0;rw [if_pos hh] at h0;exact absurd h0 (by decide)
 unfold xN at h3;unfold xL at h5;rw [if_neg h6] at h3 h5;rw [h3, h5];unfold hN
 split
 ·exact .inl ⟨rfl, rfl⟩
 ·exact .inr ⟨rfl, rfl⟩
theorem c5_nat {x : S5} (h : x.wf) : ((x.c.toNat : Nat) : Int) = x.c /\ x.c.toNat < 4294967296 := by
 have := u32_of h.1;omega
theorem mayXmss_any (x : S5) (h : x.wf) (w : World) : Calls Tryz.prog 48 #[x.v] w (OldIs (.bool x.ok) w) := by
 obtain ⟨xc, xs, xn, xh, xl⟩ := x;have hn := c5_nat h;simp only at hn;have hw := xms_wf xc.toNat hn.2;exact MayXmss_of xc xs xn xh xl (xC xc.toNat) (xSh xc.toNat) (xN xc.toNat) (xH xc.toNat : Int) (xL xc.toNat) (xE xc.toNat) h.1 h.2.1 h.2.2.1 h.2.2.2 hw.1 hw.2.1 hw.2.2.1 hw.2.2.2 (fun W => by have := refXmss_any xc.toNat hn.2 W; rw [hn.1] at this; exact this) w
theorem own_of_blk64 {w w' : World} {bs : List UInt8} {k : Nat} (hk : bs.length = k) (hm : k <= 64) (h : Blk w' w.heap.size bs) (hb : Below w.heap.size w w') : Gives w bs (.slice (some ⟨w.heap.size, 0, none⟩) k k) w' := by
 subst hk;exact ⟨h.own (Nat.le_refl _) (by unfold maxLen; omega), hb⟩
set_option maxHeartbeats 400000 in
theorem refBig64_any (n k : Nat) (w : World) (hk : k <= 64) (hn : n < 18446744073709551616) :
  Calls Tryz.prog 56 #[.int .u64 n, .int .i64 k] w (OwnIs w (bigB n k)) := by
 unfold OwnIs;have hmk := make_run k (by omega);go_enter Tryz.func56, Tryz.ntmps56;go_wp2;go_loopw [0, 6] (fun m i wr => ∃ r : Nat, r <= k /\ i = .int .i64 ((k : Int) - 1 - r) /\ m = .int .u64 ((n / 256 ^ r : Nat) : Int) /\ Blk wr w.heap.size (List.replicate (k - r) 0 ++ ((litB n k).take r).reverse) /\ Below w.heap.size w wr) (fun _ i _ => ((intOf i) + 1).toNat)
 case atStart =>
  exact ⟨0, Nat.zero_le _, by simp, by simp, by simpa using Blk.new w _, (Below.refl _ _).alloc (Nat.le_refl _) _⟩
 case round =>
  obtain ⟨r, hr, rfl, rfl, hblk, hbel⟩ := hrel;have hq : n / 256 ^ r <= n := Nat.div_le_self _ _
  by_cases hlt : r < k
  ·have hc := hblk.cell (k - 1 - r) (by simp [litB_length]; omega);have hf := hblk.free (k - 1 - r);have hs := hblk.set_ (k - 1 - r) (UInt8.ofNat (n / 256 ^ r % 256));rw [set_back _ _ _ _ hlt, <- litB_take_rev _ _ _ hlt, <- byte_mod] at hs;have HS := Lib.hid hs;have HD := Lib.hid (div_step n r);clear hs;obtain ⟨q, hqq⟩ : ∃ q, q = n / 256 ^ r := ⟨_, rfl⟩;rw [<- hqq] at HS HD hq ⊢;clear hqq;go_wp2
   go_roundw
   case rel => exact ⟨r + 1, by omega, by go_num, by rw [<- HD.out], by exact HS.out, hbel.setCell (Nat.le_refl _) _⟩
   case measure => simp [intOf]; omega
  ·obtain rfl : r = k := by omega
   go_wp2;go_ret;refine ⟨_, rfl, own_of_blk64 (bigB_length _ _) hk ?_ hbel⟩;rw [List.take_of_length_le (by rw [litB_length]; omega), Nat.sub_self] at hblk;exact hblk
def adrB (a : List UInt32) : List UInt8 := a.flatMap fun x => bigB x.toNat 4
theorem adrB_length (a : List UInt32) : (adrB a).length = 4 * a.length := by
 unfold adrB
 induction a with
 | nil => rfl
 | cons x r ih => rw [List.flatMap_cons, List.length_append, ih, bigB_length, List.length_cons]; omega
theorem adrB_take (a : List UInt32) (k : Nat) (h : k < a.length) : adrB (a.take (k + 1)) = adrB (a.take k) ++ bigB (a[k]'h).toNat 4 := by
 unfold adrB;rw [take_snoc a k h, List.flatMap_append];simp
def adrV (a : List UInt32) : Value := .agg (wordCells a).toArray
theorem info_adr : (Tryz.prog.info? 64).map (·.size) = some 8 := by kernel_rfl
theorem refBytes10_any (a : List UInt32) (ha : a.length = 8) (w : World) : Calls Tryz.prog 87 #[adrV a] w (OwnIs w (adrB a)) := by
 unfold OwnIs adrV;obtain ⟨i0, hi, hz0, hz1, hz2⟩ := info_parts info_u8;have hal0 : (wordCells a).length = 8 := by rw [wordCells_length]; exact ha
 obtain ⟨W, hW⟩ : ∃ W, W = (w.alloc (.cells (wordCells a).toArray 64)).alloc (.cells #[] 5) := ⟨_, rfl⟩;have HW : Shh (Row W w.heap.size 64 (wordCells a) /\ W.ownsRow w.heap.size 5 1 (.slice (some ⟨w.heap.size + 1, 0, none⟩) 0 0) 0 [] /\ Below w.heap.size w W) := by
  rw [hW];refine ⟨(Row.new_ rfl rfl).alloc _, ?_, (Below.alloc (Below.refl _ _) (Nat.le_refl _) _).alloc (by rw [asz]; omega) _⟩;have : ((w.alloc (.cells (wordCells a).toArray 64)).alloc (.cells #[] 5)).ownsRow (w.alloc (.cells (wordCells a).toArray 64)).heap.size 5 1 (.slice (some ⟨(w.alloc (.cells (wordCells a).toArray 64)).heap.size, 0, none⟩) 0 0) 0 [] := World.ownsRow_made _ #[] 0 (Nat.le_refl _) (Nat.zero_le _) rfl;rw [asz] at this;exact own_mono this (by omega)
 have hbox : (Instr.box 64 (.agg (wordCells a).toArray)).run Tryz.prog w = .ok (.pointer (some ⟨w.heap.size, 0, none⟩)) (w.alloc (.cells (wordCells a).toArray 64)) := by
  go_simp
 go_enter Tryz.func87, Tryz.ntmps87;go_wp2;rw [<- hW];clear hW hbox;go_loopw [3, 6] (fun o i wr => ∃ (k : Nat) (Ao : Option Addr) (lo co : Nat), k <= 8 /\ lo <= 32 /\ o = .slice Ao lo co /\ i = .int .i64 (k : Int) /\ Shh (lo = 4 * k) /\ Shh (Row wr w.heap.size 64 (wordCells a) /\ wr.ownsRow w.heap.size 5 1 (.slice Ao lo co) lo (Lib.byteCells (adrB (a.take k))) /\ Below w.heap.size w wr)) (fun _ i _ => 8 - (intOf i).toNat)
 case atStart => exact ⟨0, _, 0, 0, Nat.zero_le _, by decide, rfl, rfl, ⟨rfl⟩, HW⟩
 case round =>
  clear HW;obtain ⟨k, Ao, lo, co, hk, hlo, rfl, rfl, HLO, HL⟩ := hrel
  by_cases hlk : k < 8
  ·have hka : k < a.length := by omega
   have hc := HL.out.1.cell k;rw [wordCells_get _ k hka] at hc;have HO : Shh (adrB (a.take (k + 1)) = adrB (a.take k) ++ bigB (a[k]'hka).toNat 4 /\ (adrB (a.take k)).length = lo) := ⟨adrB_take a k hka, by rw [adrB_length, List.length_take, HLO.out]; omega⟩;generalize a[k]'hka = x at hc HO;have hxl := x.toNat_lt;have hx2 : (x.toNat : Int) % 18446744073709551616 = (x.toNat : Int) := by omega
   generalize hob : adrB (a.take k) = ob at HO HL;clear hob
   go_wp2_with (go_at_call 56; refine (refBig64_any x.toNat 4 _ (by omega) (by omega)).mono ?_)
   rintro e w3 ⟨v3, rfl, g3⟩;obtain ⟨A3, c3, rfl, _, _⟩ := (gives_sl g3).form;have H3 : Shh (Row w3 w.heap.size 64 (wordCells a) /\ Sl w3 w3.heap.size (.slice Ao lo co) ob /\ Sl w3 w3.heap.size (.slice A3 (bigB x.toNat 4).length c3) (bigB x.toNat 4) /\ Below w.heap.size w w3) := by
    have s1 := Sl.of_own (show wr.ownsRow w.heap.size 5 1 (.slice Ao lo co) ob.length (Lib.byteCells ob) by rw [HO.out.2]; exact HL.out.2.1);exact ⟨HL.out.1.go g3.2, s1.go g3.2, gives_sl g3, Below.chain HL.out.2.2 g3.2⟩
   clear g3 HL hc;have HLO2 : Shh (lo + 4 = 4 * (k + 1) /\ lo + 4 <= 32) := ⟨by have := HLO.out; omega⟩
   go_wp2_with (go_at_call 55; refine (refJoin_any (w3.heap.size + 1) (w3.heap.size + 1) _ [ob, bigB x.toNat 4] _ (PartsO.two (Nat.lt_succ_self _) (by omega) (Row.new_ rfl rfl) ((H3.out.2.1.below (below1 _ _)).more (by omega)) (H3.out.2.1.off (by omega)) ((H3.out.2.2.1.below (below1 _ _)).more (by omega)) (H3.out.2.2.1.off (by omega))) (by rw [asz]; exact Nat.le_refl _) (by rw [two_flat, List.length_append, bigB_length, HO.out.2]; omega) (by simp)).mono ?_)
   rintro e w4 ⟨v4, rfl, g4⟩;rw [two_flat, <- HO.out.1] at g4;obtain ⟨A4, c4, rfl⟩ := own_form g4.1;have hl4 : (adrB (a.take (k + 1))).length = lo + 4 := by rw [HO.out.1, List.length_append, HO.out.2, bigB_length]
   have H4 : Shh (Row w4 w.heap.size 64 (wordCells a) /\ w4.ownsRow w.heap.size 5 1 (.slice A4 (lo + 4) c4) (lo + 4) (Lib.byteCells (adrB (a.take (k + 1)))) /\ Below w.heap.size w w4) := by
    have bb := Below.chain (below1 w3 _) g4.2;have o4 := own_mono (base := w.heap.size) g4.1 (by rw [asz]; have := H3.out.2.2.2.size; omega);rw [hl4] at o4;exact ⟨H3.out.1.go bb, o4, Below.chain H3.out.2.2.2 bb⟩
   rw [hl4];clear g4 H3 HO hl4 HLO;go_wp2
   go_roundw
   case rel => exact ⟨k + 1, A4, lo + 4, c4, by omega, HLO2.out.2, rfl, by go_num, ⟨HLO2.out.1⟩, H4⟩
   case measure => simp [intOf]; omega
  ·obtain rfl : k = 8 := by omega
   have HR : Shh (Gives w (adrB a) (.slice Ao lo co) wr) := by
    have h := HL.out.2.1;rw [List.take_of_length_le (by omega)] at h;have e : lo = (adrB a).length := by rw [adrB_length, ha, HLO.out]
    rw [e] at h ⊢;exact ⟨⟨h, HL.out.2.2⟩⟩
   clear HL;go_wp2;go_ret;exact ⟨_, rfl, HR.out⟩
def withA (a : List UInt32) (s t : Nat) : List UInt32 := (a.set 6 (UInt32.ofNat s)).set 7 (UInt32.ofNat t)
def atA (a : List UInt32) (i : Nat) : List UInt32 := a.set 5 (UInt32.ofNat i)
theorem withA_length (a : List UInt32) (s t : Nat) : (withA a s t).length = a.length := by simp [withA]
theorem atA_length (a : List UInt32) (i : Nat) : (atA a i).length = a.length := by simp [atA]
theorem ofNat_cell {s : Nat} (hs : s < 4294967296) : Value.int .u32 (s : Int) = .int .u32 ((UInt32.ofNat s).toNat : Int) := by
 have : (UInt32.ofNat s).toNat = s := by simp; omega
 rw [this]
theorem wordRow_set {w : World} {g : Nat} {T : TypeId} {a : List UInt32} (h : Row w g T (wordCells a)) (k s : Nat) (hs : s < 4294967296) : Row (w.setCell ⟨g, k, none⟩ (.int .u32 (s : Int))) g T (wordCells (a.set k (UInt32.ofNat s))) := by
 rw [<- wordCells_set, <- ofNat_cell hs];exact h.set_ k _
theorem wordRow_cell {w : World} {g : Nat} {T : TypeId} {a : List UInt32} (h : Row w g T (wordCells a)) (k : Nat) (hk : k < a.length) : w.cell? ⟨g, k, none⟩ = some (.int .u32 (a[k].toNat : Int)) := (h.cell k).trans (wordCells_get _ k hk)
theorem eight {a : List UInt32} (ha : a.length = 8) : ∃ a0 a1 a2 a3 a4 a5 a6 a7, a = [a0, a1, a2, a3, a4, a5, a6, a7] := by
 match a, ha with
 | [a0, a1, a2, a3, a4, a5, a6, a7], _ => exact ⟨a0, a1, a2, a3, a4, a5, a6, a7, rfl⟩
def hsh (s : Bool) (t : List UInt8) : List UInt8 := if s then spongeL 136 31 t 32 else sha t
def ktxt (n : Int) (kind : Nat) (key m : List UInt8) : List UInt8 := bigB kind (if n = 24 then 4 else 32) ++ (key ++ m)
def keyd (s : Bool) (n : Int) (kind : Nat) (key m : List UInt8) : List UInt8 := (hsh s (ktxt n kind key m)).take n.toNat
theorem hsh_length (s : Bool) (t : List UInt8) : (hsh s t).length = 32 := by
 unfold hsh
 split
 ·exact Sp.outs_length _ _ _
 ·exact sha_length _
theorem keyd_length (s : Bool) (n : Int) (kind : Nat) (key m : List UInt8) (h : n = 24 ∨ n = 32) : (keyd s n kind key m).length = n.toNat := by
 unfold keyd;rw [List.length_take, hsh_length]
 rcases h with rfl | rfl <;> rfl
theorem three_flat10 (a b c : List UInt8) : [a, b, c].flatten = a ++ (b ++ c) := by simp
def tagU (w : World) (g : Nat) : Prop := ∃ C fr, w.heap[g]? = some (.cells C 5 fr)
def SlF (w : World) (bs : List UInt8) (e : Ending) (w' : World) : Prop := ∃ v, e = .returned v /\ Sl w' w'.heap.size v bs /\ Below w.heap.size w w' /\ ∀ g, ¬ tagU w' g -> Off g v
theorem gives_tag {w w' : World} {v : Value} {bs : List UInt8} (h : Gives w bs v w') (g : Nat) (hg : ¬ tagU w' g) : Off g v := by
 intro x l c hv hl
 rcases h.1.2 with ⟨h0, _⟩ | ⟨gb, cap, cur, h0, hb, hc, _⟩
 ·rw [hv] at h0; cases h0
 ·rw [hv] at h0;injection h0 with h1 h2 h3;injection h1 with h1;rw [h1];show gb ≠ g;intro e;subst e;exact hg ⟨_, _, hc⟩
theorem slice_to10F {w : World} {B n c : Nat} {A : Option Addr} {bs : List UInt8} (h : Sl w B (.slice A n c) bs) (j : Nat) (hj : j <= n) (hn : n <= c) :
  ∃ A' c', (∀ u, (Instr.sliceAt 23 (.slice A n c) none (some (.int .i64 (j : Int))) none).run Tryz.prog u = .ok (.slice A' (bs.take j).length c') u) /\ Sl w B (.slice A' (bs.take j).length c') (bs.take j) /\ ∀ g, Off g (.slice A n c) -> Off g (.slice A' (bs.take j).length c') := by
 have hcut := h.cut 0 j (Nat.zero_le _) hj (by omega);rw [List.drop_zero] at hcut;obtain ⟨A', c', hv, _⟩ := hcut.form;refine ⟨A', c', fun u => ?_, by rw [<- hv]; exact hcut, fun g ho => by rw [<- hv]; exact ho.cut 0 j hj⟩;rw [run_sliceAt_slice _ _ _ _ _ _ slice30, run_slice_h u 23 A n c slice30 .i64 (j : Int) (by omega) (by omega), elem30, run_sizeOf_u8, Result.andThen_ok, Int.toNat_natCast, hv]
theorem refKeyedF_24_false (c h l : Int) (kind : Nat) (hk : kind <= 4) (vk vm : Value) (key m : List UInt8) (w : World) (hkey : Sl w w.heap.size vk key) (hm : Sl w w.heap.size vm m) (hl1 : key.length <= 100000) (hl2 : m.length <= 100000) :
  Calls Tryz.prog 63 #[.agg #[.int .u32 c, .bool false, .int .i64 24, .int .i64 h, .int .i64 l], .int .i64 (kind : Int), vk, vm] w (SlF w (keyd false 24 kind key m)) := by
 unfold SlF;obtain ⟨A1, c1, rfl, _, _⟩ := hkey.form;obtain ⟨A2, c2, rfl, _, _⟩ := hm.form;have q : (kind : Int) % 18446744073709551616 = (kind : Int) := by omega
 obtain ⟨hs, hhs⟩ : ∃ hs, hs = hsh false (ktxt 24 kind key m) := ⟨_, rfl⟩;have HHS : Shh (hs.length = 32 /\ keyd false 24 kind key m = hs.take 24) := ⟨by rw [hhs]; exact hsh_length _ _, by rw [hhs]; rfl⟩;obtain ⟨tx, htx⟩ : ∃ tx, tx = ktxt 24 kind key m := ⟨_, rfl⟩;have HTX : Shh (tx = [bigB kind 4, key, m].flatten /\ tx.length <= 1000000) := by
  have e : tx = [bigB kind 4, key, m].flatten := by rw [htx]; unfold ktxt; simp
  refine ⟨e, ?_⟩;rw [e, three_flat10, List.length_append, List.length_append, bigB_length]; omega
 rw [<- htx] at hhs;have HHT : Shh (hs = hsh false tx) := ⟨hhs⟩;clear htx hhs;obtain ⟨W, hW⟩ : ∃ W, W = w.alloc (.cells #[.int .u32 c, .bool false, .int .i64 24, .int .i64 h, .int .i64 l] 27) := ⟨_, rfl⟩;have HW : Shh (Row W w.heap.size 27 [.int .u32 c, .bool false, .int .i64 24, .int .i64 h, .int .i64 l] /\ Sl W W.heap.size (.slice A1 key.length c1) key /\ Sl W W.heap.size (.slice A2 m.length c2) m /\ Below w.heap.size w W) := by
  rw [hW];exact ⟨Row.new_ rfl rfl, hkey.go (below1 _ _), hm.go (below1 _ _), below1 _ _⟩
 clear hkey hm;rw [HHS.out.2];go_enter Tryz.func63, Tryz.ntmps63
 go_wp2_with (go_at_call 56; refine (refBig64_any kind 4 _ (by omega) (by omega)).mono ?_)
 rw [<- hW];clear hW;rintro e w2 ⟨v2, rfl, g2⟩;obtain ⟨A3, c3, rfl⟩ := own_form g2.1;have H2 : Shh (Row w2 w.heap.size 27 [.int .u32 c, .bool false, .int .i64 24, .int .i64 h, .int .i64 l] /\ Sl w2 w2.heap.size (.slice A1 key.length c1) key /\ Sl w2 w2.heap.size (.slice A2 m.length c2) m /\ Below w.heap.size w w2 /\ Sl w2 w2.heap.size (.slice A3 (bigB kind 4).length c3) (bigB kind 4)) := ⟨HW.out.1.go g2.2, HW.out.2.1.go g2.2, HW.out.2.2.1.go g2.2, Below.chain HW.out.2.2.2 g2.2, gives_sl g2⟩;clear g2 HW
 go_wp2_with (go_at_call 55; refine (refJoin_any (w2.heap.size + 1) (w2.heap.size + 1) _ [bigB kind 4, key, m] _ (PartsO.three (Nat.lt_succ_self _) (by omega) (Row.new_ rfl rfl) ((H2.out.2.2.2.2.below (below1 _ _)).more (by omega)) (H2.out.2.2.2.2.off (by omega)) ((H2.out.2.1.below (below1 _ _)).more (by omega)) (H2.out.2.1.off (by omega)) ((H2.out.2.2.1.below (below1 _ _)).more (by omega)) (H2.out.2.2.1.off (by omega))) (by rw [asz]; exact Nat.le_refl _) (by rw [<- HTX.out.1]; have := HTX.out.2; omega) (by simp)).mono ?_)
 rintro e w3 ⟨v3, rfl, g3⟩;rw [<- HTX.out.1] at g3;obtain ⟨At, ct, rfl⟩ := own_form g3.1;have H3 : Shh (Row w3 w.heap.size 27 [.int .u32 c, .bool false, .int .i64 24, .int .i64 h, .int .i64 l] /\ Sl w3 w3.heap.size (.slice At tx.length ct) tx /\ Below w.heap.size w w3) := ⟨H2.out.1.go (Below.chain (below1 _ _) g3.2), gives_sl g3, Below.chain H2.out.2.2.2.1 (Below.chain (below1 _ _) g3.2)⟩;clear g3 H2;have e1 := H3.out.1.cell 1;have e2 := H3.out.1.cell 2;simp only [List.getElem?_cons_succ, List.getElem?_cons_zero] at e1 e2;go_wp2;refine wp_region_held_drew (S := fun w' => w'.cell? ⟨w.heap.size, 2, none⟩ = some (.int .i64 24)) (by kernel_rfl) e2 (fun hS => ?_);obtain ⟨V, hV⟩ : ∃ V, V = World.drew w3 := ⟨_, rfl⟩;rw [<- hV] at hS ⊢;have sT : Sl V V.heap.size (.slice At tx.length ct) tx := by rw [hV]; exact H3.out.2.1.drew
 have rB : Row V w.heap.size 27 [.int .u32 c, .bool false, .int .i64 24, .int .i64 h, .int .i64 l] := by rw [hV]; exact H3.out.1.drew
 have HBV : Below w.heap.size w V := by rw [hV]; exact H3.out.2.2.drew
 clear H3 e1 e2 hV;refine hdv0 0 29 (.slice At tx.length ct) (by rfl) (hS) ?_;refine hdv0 2 31 (.pointer (some ⟨w.heap.size, 2, none⟩)) (by rfl) (hS) ?_;refine hdv 3 32 (.int .i64 24) (by rfl) (fun w hS => by have h2 := hS; go_simp) (hS) ?_;refine held_one 1 (by kernel_rfl) ?_;refine step_call 1 _ _ (some 30) 100 #[.slice At tx.length ct] (by rfl) (by kernel_rfl) (by first | kernel_rfl | go_simp) ?_;refine (refSum_any V.heap.size _ tx V sT (Nat.le_refl _) (by have := HTX.out.2; omega)).mono ?_;rintro e Y1 ⟨v, rfl, gv⟩;have bx : Below V.heap.size V Y1 := gv.2;rw [show sha tx = hs from HHT.out.symm] at gv;obtain ⟨Ah, ch, vEq⟩ := own_form gv.1;subst vEq;obtain ⟨Ap, cp, runP, sH, oP0⟩ := slice_to10F (gives_sl gv) 24 (by rw [HHS.out.1]; omega) (by obtain ⟨_, _, hq, hch, _⟩ := (gives_sl gv).form; cases hq; exact hch);have hS2 : Y1.cell? ⟨w.heap.size, 2, none⟩ = some (.int .i64 24) := (rB.go bx).cell 2;have oP : ∀ g, ¬ tagU Y1 g -> Off g (.slice Ap (hs.take 24).length cp) := fun g hg => oP0 g (gives_tag gv g hg)
 clear gv oP0;have b_V := bx;have m_Y1 : V.heap.size <= Y1.heap.size := bx.size;clear bx;refine ⟨_, rfl, hS2, ?_⟩;simp only [Act.put, arr9, hd9, tl9];refine hdv 4 33 (.slice Ap (hs.take 24).length cp) (by rfl) (fun w hS => run_slice_op ⟨rfl, rfl⟩ (runP w)) (hS2) ?_;refine hdv0 5 8 (.slice Ap (hs.take 24).length cp) (by rfl) (hS2) ?_;refine wpAnyH_done (by kernel_rfl) ?_ _;have HR : Shh (Sl Y1 Y1.heap.size (.slice Ap (hs.take 24).length cp) (hs.take 24) /\ Below w.heap.size w Y1 /\ ∀ g, ¬ tagU Y1 g -> Off g (.slice Ap (hs.take 24).length cp)) := ⟨sH, Below.chain HBV b_V, oP⟩;clear m_Y1 b_V oP hS2 sH runP hS HBV rB sT;go_wp2;go_ret;exact ⟨_, rfl, HR.out.1, HR.out.2.1, HR.out.2.2⟩
theorem refKeyedF_32_false (c h l : Int) (kind : Nat) (hk : kind <= 4) (vk vm : Value) (key m : List UInt8) (w : World) (hkey : Sl w w.heap.size vk key) (hm : Sl w w.heap.size vm m) (hl1 : key.length <= 100000) (hl2 : m.length <= 100000) :
  Calls Tryz.prog 63 #[.agg #[.int .u32 c, .bool false, .int .i64 32, .int .i64 h, .int .i64 l], .int .i64 (kind : Int), vk, vm] w (SlF w (keyd false 32 kind key m)) := by
 unfold SlF;obtain ⟨A1, c1, rfl, _, _⟩ := hkey.form;obtain ⟨A2, c2, rfl, _, _⟩ := hm.form;have q : (kind : Int) % 18446744073709551616 = (kind : Int) := by omega
 obtain ⟨hs, hhs⟩ : ∃ hs, hs = hsh false (ktxt 32 kind key m) := ⟨_, rfl⟩;have HHS : Shh (hs.length = 32 /\ keyd false 32 kind key m = hs.take 32) := ⟨by rw [hhs]; exact hsh_length _ _, by rw [hhs]; rfl⟩;obtain ⟨tx, htx⟩ : ∃ tx, tx = ktxt 32 kind key m := ⟨_, rfl⟩;have HTX : Shh (tx = [bigB kind 32, key, m].flatten /\ tx.length <= 1000000) := by
  have e : tx = [bigB kind 32, key, m].flatten := by rw [htx]; unfold ktxt; simp
  refine ⟨e, ?_⟩;rw [e, three_flat10, List.length_append, List.length_append, bigB_length]; omega
 rw [<- htx] at hhs;have HHT : Shh (hs = hsh false tx) := ⟨hhs⟩;clear htx hhs;obtain ⟨W, hW⟩ : ∃ W, W = w.alloc (.cells #[.int .u32 c, .bool false, .int .i64 32, .int .i64 h, .int .i64 l] 27) := ⟨_, rfl⟩;have HW : Shh (Row W w.heap.size 27 [.int .u32 c, .bool false, .int .i64 32, .int .i64 h, .int .i64 l] /\ Sl W W.heap.size (.slice A1 key.length c1) key /\ Sl W W.heap.size (.slice A2 m.length c2) m /\ Below w.heap.size w W) := by
  rw [hW];exact ⟨Row.new_ rfl rfl, hkey.go (below1 _ _), hm.go (below1 _ _), below1 _ _⟩
 clear hkey hm;rw [HHS.out.2];go_enter Tryz.func63, Tryz.ntmps63
 go_wp2_with (go_at_call 56; refine (refBig64_any kind 32 _ (by omega) (by omega)).mono ?_)
 rw [<- hW];clear hW;rintro e w2 ⟨v2, rfl, g2⟩;obtain ⟨A3, c3, rfl⟩ := own_form g2.1;have H2 : Shh (Row w2 w.heap.size 27 [.int .u32 c, .bool false, .int .i64 32, .int .i64 h, .int .i64 l] /\ Sl w2 w2.heap.size (.slice A1 key.length c1) key /\ Sl w2 w2.heap.size (.slice A2 m.length c2) m /\ Below w.heap.size w w2 /\ Sl w2 w2.heap.size (.slice A3 (bigB kind 32).length c3) (bigB kind 32)) := ⟨HW.out.1.go g2.2, HW.out.2.1.go g2.2, HW.out.2.2.1.go g2.2, Below.chain HW.out.2.2.2 g2.2, gives_sl g2⟩;clear g2 HW
 go_wp2_with (go_at_call 55; refine (refJoin_any (w2.heap.size + 1) (w2.heap.size + 1) _ [bigB kind 32, key, m] _ (PartsO.three (Nat.lt_succ_self _) (by omega) (Row.new_ rfl rfl) ((H2.out.2.2.2.2.below (below1 _ _)).more (by omega)) (H2.out.2.2.2.2.off (by omega)) ((H2.out.2.1.below (below1 _ _)).more (by omega)) (H2.out.2.1.off (by omega)) ((H2.out.2.2.1.below (below1 _ _)).more (by omega)) (H2.out.2.2.1.off (by omega))) (by rw [asz]; exact Nat.le_refl _) (by rw [<- HTX.out.1]; have := HTX.out.2; omega) (by simp)).mono ?_)
 rintro e w3 ⟨v3, rfl, g3⟩;rw [<- HTX.out.1] at g3;obtain ⟨At, ct, rfl⟩ := own_form g3.1;have H3 : Shh (Row w3 w.heap.size 27 [.int .u32 c, .bool false, .int .i64 32, .int .i64 h, .int .i64 l] /\ Sl w3 w3.heap.size (.slice At tx.length ct) tx /\ Below w.heap.size w w3) := ⟨H2.out.1.go (Below.chain (below1 _ _) g3.2), gives_sl g3, Below.chain H2.out.2.2.2.1 (Below.chain (below1 _ _) g3.2)⟩;clear g3 H2;have e1 := H3.out.1.cell 1;have e2 := H3.out.1.cell 2;simp only [List.getElem?_cons_succ, List.getElem?_cons_zero] at e1 e2;go_wp2;refine wp_region_held_drew (S := fun w' => w'.cell? ⟨w.heap.size, 2, none⟩ = some (.int .i64 32)) (by kernel_rfl) e2 (fun hS => ?_);obtain ⟨V, hV⟩ : ∃ V, V = World.drew w3 := ⟨_, rfl⟩;rw [<- hV] at hS ⊢;have sT : Sl V V.heap.size (.slice At tx.length ct) tx := by rw [hV]; exact H3.out.2.1.drew
 have rB : Row V w.heap.size 27 [.int .u32 c, .bool false, .int .i64 32, .int .i64 h, .int .i64 l] := by rw [hV]; exact H3.out.1.drew
 have HBV : Below w.heap.size w V := by rw [hV]; exact H3.out.2.2.drew
 clear H3 e1 e2 hV;refine hdv0 0 29 (.slice At tx.length ct) (by rfl) (hS) ?_;refine hdv0 2 31 (.pointer (some ⟨w.heap.size, 2, none⟩)) (by rfl) (hS) ?_;refine hdv 3 32 (.int .i64 32) (by rfl) (fun w hS => by have h2 := hS; go_simp) (hS) ?_;refine held_one 1 (by kernel_rfl) ?_;refine step_call 1 _ _ (some 30) 100 #[.slice At tx.length ct] (by rfl) (by kernel_rfl) (by first | kernel_rfl | go_simp) ?_;refine (refSum_any V.heap.size _ tx V sT (Nat.le_refl _) (by have := HTX.out.2; omega)).mono ?_;rintro e Y1 ⟨v, rfl, gv⟩;have bx : Below V.heap.size V Y1 := gv.2;rw [show sha tx = hs from HHT.out.symm] at gv;obtain ⟨Ah, ch, vEq⟩ := own_form gv.1;subst vEq;obtain ⟨Ap, cp, runP, sH, oP0⟩ := slice_to10F (gives_sl gv) 32 (by rw [HHS.out.1]; omega) (by obtain ⟨_, _, hq, hch, _⟩ := (gives_sl gv).form; cases hq; exact hch);have hS2 : Y1.cell? ⟨w.heap.size, 2, none⟩ = some (.int .i64 32) := (rB.go bx).cell 2;have oP : ∀ g, ¬ tagU Y1 g -> Off g (.slice Ap (hs.take 32).length cp) := fun g hg => oP0 g (gives_tag gv g hg)
 clear gv oP0;have b_V := bx;have m_Y1 : V.heap.size <= Y1.heap.size := bx.size;clear bx;refine ⟨_, rfl, hS2, ?_⟩;simp only [Act.put, arr9, hd9, tl9];refine hdv 4 33 (.slice Ap (hs.take 32).length cp) (by rfl) (fun w hS => run_slice_op ⟨rfl, rfl⟩ (runP w)) (hS2) ?_;refine hdv0 5 8 (.slice Ap (hs.take 32).length cp) (by rfl) (hS2) ?_;refine wpAnyH_done (by kernel_rfl) ?_ _;have HR : Shh (Sl Y1 Y1.heap.size (.slice Ap (hs.take 32).length cp) (hs.take 32) /\ Below w.heap.size w Y1 /\ ∀ g, ¬ tagU Y1 g -> Off g (.slice Ap (hs.take 32).length cp)) := ⟨sH, Below.chain HBV b_V, oP⟩;clear m_Y1 b_V oP hS2 sH runP hS HBV rB sT;go_wp2;go_ret;exact ⟨_, rfl, HR.out.1, HR.out.2.1, HR.out.2.2⟩
theorem refKeyedF_24_true (c h l : Int) (kind : Nat) (hk : kind <= 4) (vk vm : Value) (key m : List UInt8) (w : World) (hkey : Sl w w.heap.size vk key) (hm : Sl w w.heap.size vm m) (hl1 : key.length <= 100000) (hl2 : m.length <= 100000) :
  Calls Tryz.prog 63 #[.agg #[.int .u32 c, .bool true, .int .i64 24, .int .i64 h, .int .i64 l], .int .i64 (kind : Int), vk, vm] w (SlF w (keyd true 24 kind key m)) := by
 unfold SlF;obtain ⟨A1, c1, rfl, _, _⟩ := hkey.form;obtain ⟨A2, c2, rfl, _, _⟩ := hm.form;have q : (kind : Int) % 18446744073709551616 = (kind : Int) := by omega
 obtain ⟨hs, hhs⟩ : ∃ hs, hs = hsh true (ktxt 24 kind key m) := ⟨_, rfl⟩;have HHS : Shh (hs.length = 32 /\ keyd true 24 kind key m = hs.take 24) := ⟨by rw [hhs]; exact hsh_length _ _, by rw [hhs]; rfl⟩;obtain ⟨tx, htx⟩ : ∃ tx, tx = ktxt 24 kind key m := ⟨_, rfl⟩;have HTX : Shh (tx = [bigB kind 4, key, m].flatten /\ tx.length <= 1000000) := by
  have e : tx = [bigB kind 4, key, m].flatten := by rw [htx]; unfold ktxt; simp
  refine ⟨e, ?_⟩;rw [e, three_flat10, List.length_append, List.length_append, bigB_length]; omega
 rw [<- htx] at hhs;have HHT : Shh (hs = hsh true tx) := ⟨hhs⟩;clear htx hhs;obtain ⟨W, hW⟩ : ∃ W, W = w.alloc (.cells #[.int .u32 c, .bool true, .int .i64 24, .int .i64 h, .int .i64 l] 27) := ⟨_, rfl⟩;have HW : Shh (Row W w.heap.size 27 [.int .u32 c, .bool true, .int .i64 24, .int .i64 h, .int .i64 l] /\ Sl W W.heap.size (.slice A1 key.length c1) key /\ Sl W W.heap.size (.slice A2 m.length c2) m /\ Below w.heap.size w W) := by
  rw [hW];exact ⟨Row.new_ rfl rfl, hkey.go (below1 _ _), hm.go (below1 _ _), below1 _ _⟩
 clear hkey hm;rw [HHS.out.2];go_enter Tryz.func63, Tryz.ntmps63
 go_wp2_with (go_at_call 56; refine (refBig64_any kind 4 _ (by omega) (by omega)).mono ?_)
 rw [<- hW];clear hW;rintro e w2 ⟨v2, rfl, g2⟩;obtain ⟨A3, c3, rfl⟩ := own_form g2.1;have H2 : Shh (Row w2 w.heap.size 27 [.int .u32 c, .bool true, .int .i64 24, .int .i64 h, .int .i64 l] /\ Sl w2 w2.heap.size (.slice A1 key.length c1) key /\ Sl w2 w2.heap.size (.slice A2 m.length c2) m /\ Below w.heap.size w w2 /\ Sl w2 w2.heap.size (.slice A3 (bigB kind 4).length c3) (bigB kind 4)) := ⟨HW.out.1.go g2.2, HW.out.2.1.go g2.2, HW.out.2.2.1.go g2.2, Below.chain HW.out.2.2.2 g2.2, gives_sl g2⟩;clear g2 HW
 go_wp2_with (go_at_call 55; refine (refJoin_any (w2.heap.size + 1) (w2.heap.size + 1) _ [bigB kind 4, key, m] _ (PartsO.three (Nat.lt_succ_self _) (by omega) (Row.new_ rfl rfl) ((H2.out.2.2.2.2.below (below1 _ _)).more (by omega)) (H2.out.2.2.2.2.off (by omega)) ((H2.out.2.1.below (below1 _ _)).more (by omega)) (H2.out.2.1.off (by omega)) ((H2.out.2.2.1.below (below1 _ _)).more (by omega)) (H2.out.2.2.1.off (by omega))) (by rw [asz]; exact Nat.le_refl _) (by rw [<- HTX.out.1]; have := HTX.out.2; omega) (by simp)).mono ?_)
 rintro e w3 ⟨v3, rfl, g3⟩;rw [<- HTX.out.1] at g3;obtain ⟨At, ct, rfl⟩ := own_form g3.1;have H3 : Shh (Row w3 w.heap.size 27 [.int .u32 c, .bool true, .int .i64 24, .int .i64 h, .int .i64 l] /\ Sl w3 w3.heap.size (.slice At tx.length ct) tx /\ Below w.heap.size w w3) := ⟨H2.out.1.go (Below.chain (below1 _ _) g3.2), gives_sl g3, Below.chain H2.out.2.2.2.1 (Below.chain (below1 _ _) g3.2)⟩;clear g3 H2;have e1 := H3.out.1.cell 1;have e2 := H3.out.1.cell 2;simp only [List.getElem?_cons_succ, List.getElem?_cons_zero] at e1 e2;go_wp2;refine wp_region_held_drew (S := fun w' => w'.cell? ⟨w.heap.size, 2, none⟩ = some (.int .i64 24)) (by kernel_rfl) e2 (fun hS => ?_);obtain ⟨V, hV⟩ : ∃ V, V = World.drew w3 := ⟨_, rfl⟩;rw [<- hV] at hS ⊢;have sT : Sl V V.heap.size (.slice At tx.length ct) tx := by rw [hV]; exact H3.out.2.1.drew
 have rB : Row V w.heap.size 27 [.int .u32 c, .bool true, .int .i64 24, .int .i64 h, .int .i64 l] := by rw [hV]; exact H3.out.1.drew
 have HBV : Below w.heap.size w V := by rw [hV]; exact H3.out.2.2.drew
 clear H3 e1 e2 hV;refine hdv0 0 24 (.slice At tx.length ct) (by rfl) (hS) ?_;refine hdv0 2 26 (.pointer (some ⟨w.heap.size, 2, none⟩)) (by rfl) (hS) ?_;refine hdv 3 27 (.int .i64 24) (by rfl) (fun w hS => by have h2 := hS; go_simp) (hS) ?_;refine held_one 1 (by kernel_rfl) ?_;refine step_call 1 _ _ (some 25) 99 #[.int .i64 256, .int .i64 32, .slice At tx.length ct] (by rfl) (by kernel_rfl) (by first | kernel_rfl | go_simp) ?_;refine (refShake256_any 32 (by decide) V.heap.size _ tx V sT (Nat.le_refl _) HTX.out.2).mono ?_;rintro e Y1 ⟨v, rfl, gv⟩;have bx : Below V.heap.size V Y1 := gv.2;rw [show spongeL 136 31 tx 32 = hs from HHT.out.symm] at gv;obtain ⟨Ah, ch, vEq⟩ := own_form gv.1;subst vEq;obtain ⟨Ap, cp, runP, sH, oP0⟩ := slice_to10F (gives_sl gv) 24 (by rw [HHS.out.1]; omega) (by obtain ⟨_, _, hq, hch, _⟩ := (gives_sl gv).form; cases hq; exact hch);have hS2 : Y1.cell? ⟨w.heap.size, 2, none⟩ = some (.int .i64 24) := (rB.go bx).cell 2;have oP : ∀ g, ¬ tagU Y1 g -> Off g (.slice Ap (hs.take 24).length cp) := fun g hg => oP0 g (gives_tag gv g hg)
 clear gv oP0;have b_V := bx;have m_Y1 : V.heap.size <= Y1.heap.size := bx.size;clear bx;refine ⟨_, rfl, hS2, ?_⟩;simp only [Act.put, arr9, hd9, tl9];refine hdv 4 28 (.slice Ap (hs.take 24).length cp) (by rfl) (fun w hS => run_slice_op ⟨rfl, rfl⟩ (runP w)) (hS2) ?_;refine hdv0 5 8 (.slice Ap (hs.take 24).length cp) (by rfl) (hS2) ?_;refine wpAnyH_done (by kernel_rfl) ?_ _;have HR : Shh (Sl Y1 Y1.heap.size (.slice Ap (hs.take 24).length cp) (hs.take 24) /\ Below w.heap.size w Y1 /\ ∀ g, ¬ tagU Y1 g -> Off g (.slice Ap (hs.take 24).length cp)) := ⟨sH, Below.chain HBV b_V, oP⟩;clear m_Y1 b_V oP hS2 sH runP hS HBV rB sT;go_wp2;go_ret;exact ⟨_, rfl, HR.out.1, HR.out.2.1, HR.out.2.2⟩
theorem refKeyedF_32_true (c h l : Int) (kind : Nat) (hk : kind <= 4) (vk vm : Value) (key m : List UInt8) (w : World) (hkey : Sl w w.heap.size vk key) (hm : Sl w w.heap.size vm m) (hl1 : key.length <= 100000) (hl2 : m.length <= 100000) :
  Calls Tryz.prog 63 #[.agg #[.int .u32 c, .bool true, .int .i64 32, .int .i64 h, .int .i64 l], .int .i64 (kind : Int), vk, vm] w (SlF w (keyd true 32 kind key m)) := by
 unfold SlF;obtain ⟨A1, c1, rfl, _, _⟩ := hkey.form;obtain ⟨A2, c2, rfl, _, _⟩ := hm.form;have q : (kind : Int) % 18446744073709551616 = (kind : Int) := by omega
 obtain ⟨hs, hhs⟩ : ∃ hs, hs = hsh true (ktxt 32 kind key m) := ⟨_, rfl⟩;have HHS : Shh (hs.length = 32 /\ keyd true 32 kind key m = hs.take 32) := ⟨by rw [hhs]; exact hsh_length _ _, by rw [hhs]; rfl⟩;obtain ⟨tx, htx⟩ : ∃ tx, tx = ktxt 32 kind key m := ⟨_, rfl⟩;have HTX : Shh (tx = [bigB kind 32, key, m].flatten /\ tx.length <= 1000000) := by
  have e : tx = [bigB kind 32, key, m].flatten := by rw [htx]; unfold ktxt; simp
  refine ⟨e, ?_⟩;rw [e, three_flat10, List.length_append, List.length_append, bigB_length]; omega
 rw [<- htx] at hhs;have HHT : Shh (hs = hsh true tx) := ⟨hhs⟩;clear htx hhs;obtain ⟨W, hW⟩ : ∃ W, W = w.alloc (.cells #[.int .u32 c, .bool true, .int .i64 32, .int .i64 h, .int .i64 l] 27) := ⟨_, rfl⟩;have HW : Shh (Row W w.heap.size 27 [.int .u32 c, .bool true, .int .i64 32, .int .i64 h, .int .i64 l] /\ Sl W W.heap.size (.slice A1 key.length c1) key /\ Sl W W.heap.size (.slice A2 m.length c2) m /\ Below w.heap.size w W) := by
  rw [hW];exact ⟨Row.new_ rfl rfl, hkey.go (below1 _ _), hm.go (below1 _ _), below1 _ _⟩
 clear hkey hm;rw [HHS.out.2];go_enter Tryz.func63, Tryz.ntmps63
 go_wp2_with (go_at_call 56; refine (refBig64_any kind 32 _ (by omega) (by omega)).mono ?_)
 rw [<- hW];clear hW;rintro e w2 ⟨v2, rfl, g2⟩;obtain ⟨A3, c3, rfl⟩ := own_form g2.1;have H2 : Shh (Row w2 w.heap.size 27 [.int .u32 c, .bool true, .int .i64 32, .int .i64 h, .int .i64 l] /\ Sl w2 w2.heap.size (.slice A1 key.length c1) key /\ Sl w2 w2.heap.size (.slice A2 m.length c2) m /\ Below w.heap.size w w2 /\ Sl w2 w2.heap.size (.slice A3 (bigB kind 32).length c3) (bigB kind 32)) := ⟨HW.out.1.go g2.2, HW.out.2.1.go g2.2, HW.out.2.2.1.go g2.2, Below.chain HW.out.2.2.2 g2.2, gives_sl g2⟩;clear g2 HW
 go_wp2_with (go_at_call 55; refine (refJoin_any (w2.heap.size + 1) (w2.heap.size + 1) _ [bigB kind 32, key, m] _ (PartsO.three (Nat.lt_succ_self _) (by omega) (Row.new_ rfl rfl) ((H2.out.2.2.2.2.below (below1 _ _)).more (by omega)) (H2.out.2.2.2.2.off (by omega)) ((H2.out.2.1.below (below1 _ _)).more (by omega)) (H2.out.2.1.off (by omega)) ((H2.out.2.2.1.below (below1 _ _)).more (by omega)) (H2.out.2.2.1.off (by omega))) (by rw [asz]; exact Nat.le_refl _) (by rw [<- HTX.out.1]; have := HTX.out.2; omega) (by simp)).mono ?_)
 rintro e w3 ⟨v3, rfl, g3⟩;rw [<- HTX.out.1] at g3;obtain ⟨At, ct, rfl⟩ := own_form g3.1;have H3 : Shh (Row w3 w.heap.size 27 [.int .u32 c, .bool true, .int .i64 32, .int .i64 h, .int .i64 l] /\ Sl w3 w3.heap.size (.slice At tx.length ct) tx /\ Below w.heap.size w w3) := ⟨H2.out.1.go (Below.chain (below1 _ _) g3.2), gives_sl g3, Below.chain H2.out.2.2.2.1 (Below.chain (below1 _ _) g3.2)⟩;clear g3 H2;have e1 := H3.out.1.cell 1;have e2 := H3.out.1.cell 2;simp only [List.getElem?_cons_succ, List.getElem?_cons_zero] at e1 e2;go_wp2;refine wp_region_held_drew (S := fun w' => w'.cell? ⟨w.heap.size, 2, none⟩ = some (.int .i64 32)) (by kernel_rfl) e2 (fun hS => ?_);obtain ⟨V, hV⟩ : ∃ V, V = World.drew w3 := ⟨_, rfl⟩;rw [<- hV] at hS ⊢;have sT : Sl V V.heap.size (.slice At tx.length ct) tx := by rw [hV]; exact H3.out.2.1.drew
 have rB : Row V w.heap.size 27 [.int .u32 c, .bool true, .int .i64 32, .int .i64 h, .int .i64 l] := by rw [hV]; exact H3.out.1.drew
 have HBV : Below w.heap.size w V := by rw [hV]; exact H3.out.2.2.drew
 clear H3 e1 e2 hV;refine hdv0 0 24 (.slice At tx.length ct) (by rfl) (hS) ?_;refine hdv0 2 26 (.pointer (some ⟨w.heap.size, 2, none⟩)) (by rfl) (hS) ?_;refine hdv 3 27 (.int .i64 32) (by rfl) (fun w hS => by have h2 := hS; go_simp) (hS) ?_;refine held_one 1 (by kernel_rfl) ?_;refine step_call 1 _ _ (some 25) 99 #[.int .i64 256, .int .i64 32, .slice At tx.length ct] (by rfl) (by kernel_rfl) (by first | kernel_rfl | go_simp) ?_;refine (refShake256_any 32 (by decide) V.heap.size _ tx V sT (Nat.le_refl _) HTX.out.2).mono ?_;rintro e Y1 ⟨v, rfl, gv⟩;have bx : Below V.heap.size V Y1 := gv.2;rw [show spongeL 136 31 tx 32 = hs from HHT.out.symm] at gv;obtain ⟨Ah, ch, vEq⟩ := own_form gv.1;subst vEq;obtain ⟨Ap, cp, runP, sH, oP0⟩ := slice_to10F (gives_sl gv) 32 (by rw [HHS.out.1]; omega) (by obtain ⟨_, _, hq, hch, _⟩ := (gives_sl gv).form; cases hq; exact hch);have hS2 : Y1.cell? ⟨w.heap.size, 2, none⟩ = some (.int .i64 32) := (rB.go bx).cell 2;have oP : ∀ g, ¬ tagU Y1 g -> Off g (.slice Ap (hs.take 32).length cp) := fun g hg => oP0 g (gives_tag gv g hg)
 clear gv oP0;have b_V := bx;have m_Y1 : V.heap.size <= Y1.heap.size := bx.size;clear bx;refine ⟨_, rfl, hS2, ?_⟩;simp only [Act.put, arr9, hd9, tl9];refine hdv 4 28 (.slice Ap (hs.take 32).length cp) (by rfl) (fun w hS => run_slice_op ⟨rfl, rfl⟩ (runP w)) (hS2) ?_;refine hdv0 5 8 (.slice Ap (hs.take 32).length cp) (by rfl) (hS2) ?_;refine wpAnyH_done (by kernel_rfl) ?_ _;have HR : Shh (Sl Y1 Y1.heap.size (.slice Ap (hs.take 32).length cp) (hs.take 32) /\ Below w.heap.size w Y1 /\ ∀ g, ¬ tagU Y1 g -> Off g (.slice Ap (hs.take 32).length cp)) := ⟨sH, Below.chain HBV b_V, oP⟩;clear m_Y1 b_V oP hS2 sH runP hS HBV rB sT;go_wp2;go_ret;exact ⟨_, rfl, HR.out.1, HR.out.2.1, HR.out.2.2⟩
theorem refKeyedF_any (x : S5) (hx : x.ok = true) (kind : Nat) (hk : kind <= 4) (vk vm : Value) (key m : List UInt8) (w : World) (hkey : Sl w w.heap.size vk key) (hm : Sl w w.heap.size vm m) (hl1 : key.length <= 100000) (hl2 : m.length <= 100000) :
  Calls Tryz.prog 63 #[x.v, .int .i64 (kind : Int), vk, vm] w (SlF w (keyd x.s x.n kind key m)) := by
 have hn := S5.ok_is hx;obtain ⟨c, s, n, h, l⟩ := x;simp only at hn;clear hx
 rcases hn with ⟨rfl, rfl⟩ | ⟨rfl, rfl⟩ <;> cases s
 ·exact refKeyedF_24_false c h 51 kind hk vk vm key m w hkey hm hl1 hl2
 ·exact refKeyedF_24_true c h 51 kind hk vk vm key m w hkey hm hl1 hl2
 ·exact refKeyedF_32_false c h 67 kind hk vk vm key m w hkey hm hl1 hl2
 ·exact refKeyedF_32_true c h 67 kind hk vk vm key m w hkey hm hl1 hl2
theorem ok_n {x : S5} (hx : x.ok = true) : x.n = 24 ∨ x.n = 32 := by
 rcases S5.ok_is hx with h | h
 ·exact .inl h.1
 ·exact .inr h.1
theorem ok_len {x : S5} (hx : x.ok = true) (kind : Nat) (key m : List UInt8) : (keyd x.s x.n kind key m).length = x.n.toNat /\ x.n.toNat <= 32 := by
 refine ⟨keyd_length _ _ _ _ _ (ok_n hx), ?_⟩
 rcases ok_n hx with h | h <;> rw [h] <;> decide
def sumK (x : S5) (kind : Nat) (key m : List UInt8) : List UInt8 := if x.ok then keyd x.s x.n kind key m else []
def stepB (s : Bool) (n : Int) (seed : List UInt8) (a : List UInt32) (st : Nat) (b : List UInt8) : List UInt8 :=
 keyd s n 0 (keyd s n 3 seed (adrB (withA a st 0))) (List.zipWith (· ^^^ ·) b (keyd s n 3 seed (adrB (withA a st 1))))
def goB (s : Bool) (n : Int) (seed : List UInt8) (a : List UInt32) (b : List UInt8) (f : Nat) : Nat -> List UInt8
 | 0 => b
 | k + 1 => stepB s n seed a (f + k) (goB s n seed a b f k)
theorem goB_length {x : S5} (hx : x.ok = true) (seed : List UInt8) (a : List UInt32) (b : List UInt8) (f k : Nat) (hb : b.length = x.n.toNat) : (goB x.s x.n seed a b f k).length = x.n.toNat := by
 cases k with
 | zero => exact hb
 | succ k => exact (ok_len hx _ _ _).1
theorem info_adr10 {L : List Value} (h : L.length = 8) : (Tryz.prog.info? 64).map (·.size) = some L.length := by rw [h]; exact info_adr
theorem info_int : (Tryz.prog.info? 3).map (fun i => (i.zero, i.size, i.bytes)) = some (some (.int .i64 0), 1, 8) := by kernel_rfl
def intCells (l : List Nat) : List Value := l.map fun x : Nat => Value.int .i64 (x : Int)
theorem intCells_append (a b : List Nat) : intCells (a ++ b) = intCells a ++ intCells b := by simp [intCells]
theorem intCells_length (a : List Nat) : (intCells a).length = a.length := by simp [intCells]
def OwnI (w : World) (base : Nat) (v : Value) (l : List Nat) : Prop := w.ownsRow base 3 1 v l.length (intCells l)
theorem OwnI.go {w w' : World} {base : Nat} {v : Value} {l : List Nat} (h : OwnI w base v l) (b : Below w.heap.size w w') : OwnI w' base v l := own_step h b
theorem OwnI.join {w : World} {base : Nat} {v : Value} {l m : List Nat} (h : w.ownsRow base 3 1 v (l.length + m.length) (intCells l ++ intCells m)) : OwnI w base v (l ++ m) := by
 unfold OwnI;rw [intCells_append, List.length_append];exact h
theorem OwnI.nil (w : World) (base : Nat) : OwnI w base (.slice none 0 0) [] := World.ownsRow_nil _ _ _ _
theorem OwnI.made (w : World) : OwnI (w.alloc (.cells #[] 3)) w.heap.size (.slice (some ⟨w.heap.size, 0, none⟩) 0 0) [] := World.ownsRow_made w #[] 0 (Nat.le_refl _) (Nat.zero_le _) rfl
def SI (w : World) (B : Nat) (v : Value) (l : List Nat) : Prop := ∃ a cap, v = .slice a l.length cap /\ l.length <= cap /\ cap <= maxLen /\ ((a = none /\ l = []) ∨ ∃ g, a = some ⟨g, 0, none⟩ /\ g < B /\ g < w.heap.size /\ ∀ j (h : j < l.length), w.cell? ⟨g, j, none⟩ = some (.int .i64 ((l[j] : Nat) : Int)))
section
variable {w w' : World} {B : Nat} {v : Value} {l : List Nat}
theorem SI.form (h : SI w B v l) : ∃ a cap, v = .slice a l.length cap /\ l.length <= cap /\ cap <= maxLen := by
 obtain ⟨a, cap, e, h1, h2, _⟩ := h;exact ⟨a, cap, e, h1, h2⟩
theorem SI.at_ {a : Option Addr} {n cap : Nat} (h : SI w B (.slice a n cap) l) (hl : 0 < l.length) : ∃ g, a = some ⟨g, 0, none⟩ /\ g < B /\ g < w.heap.size /\ ∀ j (h : j < l.length), w.cell? ⟨g, j, none⟩ = some (.int .i64 ((l[j] : Nat) : Int)) := by
 obtain ⟨a', cap', e, _, _, h⟩ := h;cases e
 rcases h with ⟨_, rfl⟩ | h
 ·simp at hl
 ·exact h
theorem SI.below (h : SI w B v l) (b : Below B w w') : SI w' B v l := by
 obtain ⟨a, cap, e, h1, h2, h⟩ := h;refine ⟨a, cap, e, h1, h2, ?_⟩
 rcases h with h | ⟨g, rfl, hg, hg2, h⟩
 ·exact .inl h
 ·exact .inr ⟨g, rfl, hg, by have := b.size; omega, fun j hj => (b.cell (p := ⟨g, j, none⟩) hg).trans (h j hj)⟩
theorem SI.more {B' : Nat} (h : SI w B v l) (hB : B <= B') : SI w B' v l := by
 obtain ⟨a, cap, e, h1, h2, h⟩ := h;refine ⟨a, cap, e, h1, h2, ?_⟩
 rcases h with h | ⟨g, rfl, hg, hg2, h⟩
 ·exact .inl h
 ·exact .inr ⟨g, rfl, by omega, hg2, h⟩
theorem SI.go (h : SI w w.heap.size v l) (b : Below w.heap.size w w') : SI w' w'.heap.size v l := (h.below b).more b.size
theorem SI.of_own {base : Nat} (h : OwnI w base v l) : SI w w.heap.size v l := by
 rcases h with ⟨_, ⟨rfl, h0⟩ | ⟨g, cap, cur, rfl, _, hgb, hc, hc2, hs, ht⟩⟩
 ·obtain rfl : l = [] := List.eq_nil_of_length_eq_zero h0;exact ⟨none, 0, rfl, Nat.le_refl _, Nat.zero_le _, .inl ⟨rfl, rfl⟩⟩
 ·have hlt := Array.getElem?_eq_some_iff.1 hgb;refine ⟨some ⟨g, 0, none⟩, cap, rfl, hc, hc2, .inr ⟨g, rfl, hlt.1, hlt.1, fun j hj => ?_⟩⟩;have h2 : cur[j]? = some (.int .i64 ((l[j] : Nat) : Int)) := by
   have e : (cur.toList.take (l.length * 1))[j]? = (l.map fun x : Nat => Value.int .i64 (x : Int))[j]? := by rw [ht]; rfl
   rw [List.getElem?_take_of_lt (by omega), Array.getElem?_toList] at e;rw [e];simp [hj]
  simpa [World.cell?, hgb] using h2
theorem SI.take {g n cap : Nat} (h : SI w B (.slice (some ⟨g, 0, none⟩) n cap) l) (p : Nat) (hp : p <= l.length) : SI w B (.slice (some ⟨g, 0, none⟩) p cap) (l.take p) := by
 obtain ⟨a, c, e, h1, h2, h⟩ := h;cases e;have hl : (l.take p).length = p := by rw [List.length_take]; omega
 refine ⟨_, cap, by rw [hl], by omega, h2, ?_⟩
 rcases h with ⟨h, _⟩ | ⟨g', e, hg, hg2, h⟩
 ·cases h
 ·cases e;refine .inr ⟨g, rfl, hg, hg2, fun j hj => ?_⟩;rw [List.getElem_take];exact h j (by omega)
end
theorem wp_appendI {P : Program} {ops : Array Oper} {rest : List Oper} {o : Oper} {a : Act} {Q : Exit -> Act -> World -> Prop} (w : World) (t e : TypeId) (i0 : TypeInfo) (z : Value) (ht : P.underlying t = some (.slice e)) (hi : P.info? e = some i0) (hz : i0.zero = some z) (hsz : i0.size = 1) (hby : i0.bytes = 8) (hzc : z.cells.size = 1)
  (hgd : o.guard = none) (s x : Operand) (ho : o.op = .call { callee := .builtin .append, args := #[s, x], argTypes := #[t, t] })
  {base n : Nat} {v : Value} {xs : List Value} {g m c : Nat} {us : List Value} (hown : w.ownsRow base e 1 v n xs) (hs : a.eval s = v) (hx : a.eval x = .slice (some ⟨g, 0, none⟩) m c) (hus : us.length = m)
  (hc : ∀ j u, us[j]? = some u -> w.cell? ⟨g, j, none⟩ = some u) (hu : ∀ u ∈ us, u.oneCell' = true) (hlen : n + m <= 1099511627776) (hbase : base <= w.heap.size)
  (h : ∀ v' w', w'.ownsRow base e 1 v' (n + m) (xs ++ us) -> (∀ B, B <= base -> Below B w w') -> wpList P ops Q rest (a.put o.dst v') w') :
  wpList P ops Q (o :: rest) a w := by
 refine wpList_append_own w hgd s x t ho base e i0 z 1 8 ht hi hz hsz hby hzc (by decide) v n xs hs hown ⟨g, 0, none⟩ m c us hx (by omega) ?_ hu (by unfold maxLen; omega) (by omega) hbase ?_
 ·intro j y hj;rw [addr_add, Nat.zero_add];exact hc j y hj
 ·intro v' w' ho' hg _;refine h v' w' ho' fun B hB => ?_
  exact (Below.refl B w).grown hg (by omega) (fun k hk => by have := (hown.lt k hk).1; omega)
theorem intCells_one (l : List Nat) : ∀ u ∈ intCells l, u.oneCell' = true := by
 intro u hu;simp only [intCells, List.mem_map] at hu;obtain ⟨x, _, rfl⟩ := hu;rfl
theorem intCells_get (l : List Nat) (j : Nat) (u : Value) (h : (intCells l)[j]? = some u) : ∃ hj : j < l.length, u = .int .i64 ((l[j] : Nat) : Int) := by
 unfold intCells at h;rw [List.getElem?_map] at h;obtain ⟨y, hy, rfl⟩ := Option.map_eq_some_iff.1 h;obtain ⟨hj, rfl⟩ := List.getElem?_eq_some_iff.1 hy;exact ⟨hj, rfl⟩
theorem SI.cells {w : World} {B g n c : Nat} {l : List Nat} (h : SI w B (.slice (some ⟨g, 0, none⟩) n c) l) : ∀ j u, (intCells l)[j]? = some u -> w.cell? ⟨g, j, none⟩ = some u := by
 intro j u hj;obtain ⟨hl, rfl⟩ := intCells_get l j u hj;obtain ⟨g', e, _, _, hc⟩ := h.at_ (by omega);cases e;exact hc j hl
def hxL (bs : List UInt8) : List Nat := bs.flatMap fun x => [x.toNat / 16, x.toNat % 16]
def csL (bs : List UInt8) : Nat := (bs.map fun x => 30 - x.toNat / 16 - x.toNat % 16).sum
def dig10 (bs : List UInt8) : List Nat := hxL bs ++ [csL bs / 256, csL bs / 16 % 16, csL bs % 16]
theorem hxL_length (bs : List UInt8) : (hxL bs).length = 2 * bs.length := by
 unfold hxL
 induction bs with
 | nil => rfl
 | cons x r ih => rw [List.flatMap_cons, List.length_append, ih, List.length_cons]; simp; omega
theorem hxL_take (bs : List UInt8) (k : Nat) (h : k < bs.length) : hxL (bs.take (k + 1)) = hxL (bs.take k) ++ [bs[k].toNat / 16, bs[k].toNat % 16] := by
 unfold hxL;rw [take_snoc bs k h, List.flatMap_append];simp
theorem csL_take (bs : List UInt8) (k : Nat) (h : k < bs.length) : csL (bs.take (k + 1)) = csL (bs.take k) + (30 - bs[k].toNat / 16 - bs[k].toNat % 16) := by
 unfold csL;rw [take_snoc bs k h, List.map_append, List.sum_append];simp
theorem csL_le (bs : List UInt8) : csL bs <= 30 * bs.length := by
 unfold csL
 induction bs with
 | nil => simp
 | cons x r ih => simp only [List.map_cons, List.sum_cons, List.length_cons]; omega
theorem dig10_length (bs : List UInt8) : (dig10 bs).length = 2 * bs.length + 3 := by
 unfold dig10;rw [List.length_append, hxL_length];rfl
def IntsIs (w : World) (l : List Nat) (e : Ending) (w' : World) : Prop := ∃ v, e = .returned v /\ OwnI w' w.heap.size v l /\ Below w.heap.size w w'
def badE (x : S5) (bss : List (List UInt8)) : Int := if x.ok then (if bss.all (fun b => decide ((b.length : Int) = x.n)) then 0 else 1) else 60
def beginB (s : Bool) (n : Int) (sk seed : List UInt8) (a : List UInt32) (i : Nat) : List UInt8 := keyd s n 4 sk (seed ++ adrB (withA (atA a i) 0 0))
def dOf (dl : List Nat) (i : Nat) : Nat := if dl = [] then 15 else dl.getD i 0
theorem dOf_le {dl : List Nat} (h : ∀ d ∈ dl, d <= 15) (i : Nat) : dOf dl i <= 15 := by
 unfold dOf
 split
 ·exact Nat.le_refl _
 ·by_cases hi : i < dl.length
  ·rw [List.getD_eq_getElem?_getD, List.getElem?_eq_getElem hi];exact h _ (List.getElem_mem hi)
  ·rw [List.getD_eq_getElem?_getD, List.getElem?_eq_none (by omega)];exact Nat.zero_le _
theorem dOf_get {dl : List Nat} {i : Nat} (hi : i < dl.length) : dOf dl i = dl[i] := by
 unfold dOf;rw [if_neg (fun h => by rw [h] at hi; simp at hi), List.getD_eq_getElem?_getD, List.getElem?_eq_getElem hi];rfl
def endsB (s : Bool) (n : Int) (sk seed : List UInt8) (a : List UInt32) (d : Nat -> Nat) (k : Nat) : List UInt8 := (List.range k).flatMap fun i => goB s n seed (atA a i) (beginB s n sk seed a i) 0 (d i)
theorem endsB_step (s : Bool) (n : Int) (sk seed : List UInt8) (a : List UInt32) (d : Nat -> Nat) (k : Nat) : endsB s n sk seed a d (k + 1) = endsB s n sk seed a d k ++ goB s n seed (atA a k) (beginB s n sk seed a k) 0 (d k) := by
 unfold endsB;rw [List.range_succ, List.flatMap_append];simp
theorem endsB_len {x : S5} (hx : x.ok = true) (sk seed : List UInt8) (a : List UInt32) (d : Nat -> Nat) (k : Nat) : (endsB x.s x.n sk seed a d k).length = x.n.toNat * k := by
 induction k with
 | zero => rfl
 | succ k ih =>
  have e : (goB x.s x.n seed (atA a k) (beginB x.s x.n sk seed a k) 0 (d k)).length = x.n.toNat := goB_length hx seed (atA a k) (beginB x.s x.n sk seed a k) 0 (d k) (ok_len hx 4 sk _).1;rw [endsB_step, List.length_append, ih, e, Nat.mul_succ]
section
variable {P : Program} {w : World}
theorem run_slice_op_lh {t ty : TypeId} {x lo hi : Operand} {ρ : Operand -> Value} {u v h l : Value} {d : Option Tmp} (hx : ρ x = u /\ ρ lo = l /\ ρ hi = h) (hrun : (Instr.sliceAt t u (some l) (some h) none).run P w = .ok v w) :
  (execOp ρ ⟨d, .slice t x (some lo) (some hi) none, ty, "", #[], none⟩).run P w = .ok (.value v) w := by
 obtain ⟨rfl, rfl, rfl⟩ := hx;unfold execOp;simp only [Option.map_some, Option.map_none, Sem.run_bind, hrun, Result.andThen_ok];rfl
end
theorem slice_mid10 {w : World} {B n c : Nat} {A : Option Addr} {bs : List UInt8} (h : Sl w B (.slice A n c) bs) (i j : Nat) (hij : i <= j) (hj : j <= n) (hn : n <= c) :
  ∃ A' c', (∀ u, (Instr.sliceAt 23 (.slice A n c) (some (.int .i64 (i : Int))) (some (.int .i64 (j : Int))) none).run Tryz.prog u = .ok (.slice A' ((bs.take j).drop i).length c') u) /\ Sl w B (.slice A' ((bs.take j).drop i).length c') ((bs.take j).drop i) := by
 have hcut := h.cut i j hij hj (by omega);obtain ⟨A', c', hv, _⟩ := hcut.form;refine ⟨A', c', fun u => ?_, by rw [<- hv]; exact hcut⟩;rw [run_sliceAt_slice _ _ _ _ _ _ slice30, run_slice_lh u 23 A n c slice30 .i64 .i64 (i : Int) (j : Int) (by omega) (by omega) (by omega), elem30, run_sizeOf_u8, Result.andThen_ok, Int.toNat_natCast, Int.toNat_natCast, hv]
theorem hxL_lt (bs : List UInt8) : ∀ d ∈ hxL bs, d <= 15 := by
 intro d hd;obtain ⟨x, _, hx⟩ := List.mem_flatMap.1 hd;have := x.toNat_lt;simp only [List.mem_cons, List.not_mem_nil, or_false] at hx
 rcases hx with rfl | rfl <;> omega
theorem dig10_lt (bs : List UInt8) (h : bs.length <= 32) : ∀ d ∈ dig10 bs, d <= 15 := by
 intro d hd;have hc := csL_le bs
 rcases List.mem_append.1 hd with h1 | h1
 ·exact hxL_lt bs d h1
 ·simp only [List.mem_cons, List.not_mem_nil, or_false] at h1
  rcases h1 with rfl | rfl | rfl <;> omega
def pieceB (n : Nat) (sig : List UInt8) (i : Nat) : List UInt8 := (sig.take ((i + 1) * n)).drop (i * n)
theorem pieceB_length (n : Nat) (sig : List UInt8) (i L : Nat) (h : sig.length = L * n) (hi : i < L) : (pieceB n sig i).length = n := by
 unfold pieceB;have h1 : (i + 1) * n <= L * n := Nat.mul_le_mul_right _ (by omega);rw [List.length_drop, List.length_take, h, Nat.min_eq_left h1, Nat.succ_mul];omega
def onB (s : Bool) (n : Int) (seed : List UInt8) (a : List UInt32) (d : Nat -> Nat) (sig : List UInt8) (k : Nat) : List UInt8 := (List.range k).flatMap fun i => goB s n seed (atA a i) (pieceB n.toNat sig i) (d i) (15 - d i)
def DigC (w : World) (g k d : Nat) : Prop := g < w.heap.size /\ w.cell? ⟨g, k, none⟩ = some (.int .i64 (d : Int))
theorem DigC.go {w w' : World} {g k d : Nat} (h : DigC w g k d) (b : Below w.heap.size w w') : DigC w' g k d := ⟨Nat.lt_of_lt_of_le h.1 b.size, (b.cell (p := ⟨g, k, none⟩) h.1).trans h.2⟩
def ResIs (w : World) (er : Int) (bs : List UInt8) (e : Ending) (w' : World) : Prop := ∃ v, e = .returned (.tuple #[v, .int .i64 er]) /\ Sl w' w'.heap.size v bs /\ Below w.heap.size w w'
theorem SI.nil_ {w : World} {B : Nat} : SI w B (.slice none 0 0) [] := ⟨none, 0, rfl, Nat.le_refl _, by unfold maxLen; omega, .inl ⟨rfl, rfl⟩⟩
theorem badE_ok {x : S5} {bss : List (List UInt8)} (h : badE x bss = 0) : x.ok = true /\ ∀ b ∈ bss, (b.length : Int) = x.n := by
 unfold badE at h
 split at h
 ·rename_i hx
  refine ⟨hx, ?_⟩
  split at h
  ·rename_i hall
   intro b hb;exact of_decide_eq_true (List.all_eq_true.1 hall b hb)
  ·exact absurd h (by decide)
 ·exact absurd h (by decide)
def pubB (x : S5) (sk seed : List UInt8) (a : List UInt32) : List UInt8 := if badE x [sk, seed] = 0 then endsB x.s x.n sk seed a (dOf []) x.l.toNat else []
end Go.Proofs.YtdakbipiifkmfaaGreatDoor
