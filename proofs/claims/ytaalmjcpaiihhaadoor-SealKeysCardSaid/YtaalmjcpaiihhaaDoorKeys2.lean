/-
  THE WALK of seal.Keys.
-/
import Derived.Test.YtaalmjcpaiihhaaDoorRefKeys
import Derived.Test.YtaalmjcpaiihhaaDoorMD
import Derived.RegionTactic
import Derived.Great.Walk
namespace Go.Proofs.YtaalmjcpaiihhaaDoor
open Go.RowKit
set_option maxRecDepth 100000

/-- a copy of 32 bytes over a row of 32: only that row turns -/
theorem wpList_copy32 {ops : Array Oper} {rest : List Oper} {o : Oper} {a : Act} {w : World} {Q : Exit → Act → World → Prop} (hgd : o.guard = none) (d s : Operand)
    (ho : o.op = .call { callee := .builtin .copy, args := #[d, s], argTypes := #[24, 24] })
    (g : Nat) (hd : a.eval d = .slice (some ⟨g, 0, none⟩) 32 32) (t : TypeId) (z : List UInt8) (hz : z.length = 32) (hr : Row w g t (Lib.byteCells z)) (B : Nat) (v : Value) (hs : a.eval s = v) (l : List UInt8) (hsl : Sl w B v l) (hl : l.length = 32)
    (h : ∀ w', Row w' g t (Lib.byteCells l) → But w.heap.size g w w' → w'.heap.size = w.heap.size → wpList Tryd.prog ops Q rest (a.put o.dst (goInt 32)) w') : wpList Tryd.prog ops Q (o :: rest) a w := by
  have hcl : (Lib.byteCells l).length = 32 := by rw [Lib.byteCells_length, hl]
  have hcz : (Lib.byteCells z).length = 32 := by rw [Lib.byteCells_length, hz]
  obtain ⟨A, c, rfl, h1, h2⟩ := hsl.form
  obtain ⟨b, off, rfl, _, hc⟩ := hsl.at_ (by omega)
  have hrun := run_copy_row (P := Tryd.prog) w 24 24 o.type 5 g 0 32 32 ⟨b, off, none⟩ l.length c (Lib.byteCells z).toArray t (Lib.byteCells l) Tryd.underlying24 info_u8s hr (by rw [hcl, hl]; rfl)
    (fun j u hu => by
      have hj : j < l.length := by have := (List.getElem?_eq_some_iff.1 hu).1; rwa [Lib.byteCells_length] at this
      rw [addr_add, hc j hj, ← hu, byteCells_get _ _ hj]) (by simp [hcl, hcz]) (cell_oneCell _)
  have hdr : List.take 0 (Lib.byteCells z).toArray.toList ++ Lib.byteCells l ++ List.drop (0 + (Lib.byteCells l).length) (Lib.byteCells z).toArray.toList = Lib.byteCells l := by
    rw [List.take_zero, List.nil_append, List.drop_of_length_le (by simp [hcl, hcz]), List.append_nil]
  rw [hdr, hcl] at hrun
  refine Go.Great.wpList_runTo hgd o.dst rfl (goInt 32) (w.setRow g (Lib.byteCells l).toArray) ?_ (h _ (hr.setRow _) ⟨rfl, rfl, rfl, Nat.le_of_eq (by simp), fun k _ hk => Go.setRow_other w g k _ hk⟩ (by simp))
  simp [execOp, ho, resolve, invoke, builtin, hd, hs, hrun, Result.andThen]

set_option maxHeartbeats 1000000 in
theorem keys_any (key : List UInt8) (hk : key.length = 32) (w : World) (hv : Vars w) :
    Calls Tryd.prog 16 #[.agg (Lib.byteCells key).toArray] w (KeysIs w key) := by
  unfold KeysIs
  have hpos := hv.pos
  generalize hN : w.heap.size = N at *
  have hm1 : ∀ u, (Instr.makeSlice 24 (.int .i64 32) (.int .i64 32)).run Tryd.prog u = .ok (.slice (some ⟨u.heap.size, 0, none⟩) 32 32) (u.alloc (.cells (Lib.byteCells (List.replicate 32 0)).toArray 5)) := make_run 32 (by omega)
  go_enter Tryd.func16, Tryd.ntmps16
  go_wp2
  go_region_with (rw [hm1])
  · have hr0 : Row (((w.alloc (.cells (Lib.byteCells key).toArray 22)).alloc (.cells (Lib.byteCells [0, 0, 0, 0, 0, 0, 0, 0, 0, 0, 0, 0, 0, 0, 0, 0, 0, 0, 0, 0, 0, 0, 0, 0, 0, 0, 0, 0, 0, 0, 0, 0]).toArray 5)).alloc (.cells (Lib.byteCells [0, 0, 0, 0, 0, 0, 0, 0, 0, 0, 0, 0, 0, 0, 0, 0, 0, 0, 0, 0, 0, 0, 0, 0, 0, 0, 0, 0, 0, 0, 0, 0]).toArray 5)).drew N 22 (Lib.byteCells key) := (((Row.new_ hN.symm rfl).alloc _).alloc _).drew
    have hra : Row (((w.alloc (.cells (Lib.byteCells key).toArray 22)).alloc (.cells (Lib.byteCells [0, 0, 0, 0, 0, 0, 0, 0, 0, 0, 0, 0, 0, 0, 0, 0, 0, 0, 0, 0, 0, 0, 0, 0, 0, 0, 0, 0, 0, 0, 0, 0]).toArray 5)).alloc (.cells (Lib.byteCells [0, 0, 0, 0, 0, 0, 0, 0, 0, 0, 0, 0, 0, 0, 0, 0, 0, 0, 0, 0, 0, 0, 0, 0, 0, 0, 0, 0, 0, 0, 0, 0]).toArray 5)).drew (N + 1) 5 (Lib.byteCells [0, 0, 0, 0, 0, 0, 0, 0, 0, 0, 0, 0, 0, 0, 0, 0, 0, 0, 0, 0, 0, 0, 0, 0, 0, 0, 0, 0, 0, 0, 0, 0]) := ((Row.new_ (by rw [asz, hN]) rfl).alloc _).drew
    have hrb : Row (((w.alloc (.cells (Lib.byteCells key).toArray 22)).alloc (.cells (Lib.byteCells [0, 0, 0, 0, 0, 0, 0, 0, 0, 0, 0, 0, 0, 0, 0, 0, 0, 0, 0, 0, 0, 0, 0, 0, 0, 0, 0, 0, 0, 0, 0, 0]).toArray 5)).alloc (.cells (Lib.byteCells [0, 0, 0, 0, 0, 0, 0, 0, 0, 0, 0, 0, 0, 0, 0, 0, 0, 0, 0, 0, 0, 0, 0, 0, 0, 0, 0, 0, 0, 0, 0, 0]).toArray 5)).drew (N + 1 + 1) 5 (Lib.byteCells [0, 0, 0, 0, 0, 0, 0, 0, 0, 0, 0, 0, 0, 0, 0, 0, 0, 0, 0, 0, 0, 0, 0, 0, 0, 0, 0, 0, 0, 0, 0, 0]) := (Row.new_ (by rw [asz, asz, hN]) rfl).drew
    have hb : Below N w (((w.alloc (.cells (Lib.byteCells key).toArray 22)).alloc (.cells (Lib.byteCells [0, 0, 0, 0, 0, 0, 0, 0, 0, 0, 0, 0, 0, 0, 0, 0, 0, 0, 0, 0, 0, 0, 0, 0, 0, 0, 0, 0, 0, 0, 0, 0]).toArray 5)).alloc (.cells (Lib.byteCells [0, 0, 0, 0, 0, 0, 0, 0, 0, 0, 0, 0, 0, 0, 0, 0, 0, 0, 0, 0, 0, 0, 0, 0, 0, 0, 0, 0, 0, 0, 0, 0]).toArray 5)).drew := ((((Below.refl N w).alloc (by omega) _).alloc (by rw [asz]; omega) _).alloc (by rw [asz, asz]; omega) _).trans ⟨rfl, rfl, rfl, Nat.le_refl _, fun _ _ => rfl⟩
    have hsz : (((w.alloc (.cells (Lib.byteCells key).toArray 22)).alloc (.cells (Lib.byteCells [0, 0, 0, 0, 0, 0, 0, 0, 0, 0, 0, 0, 0, 0, 0, 0, 0, 0, 0, 0, 0, 0, 0, 0, 0, 0, 0, 0, 0, 0, 0, 0]).toArray 5)).alloc (.cells (Lib.byteCells [0, 0, 0, 0, 0, 0, 0, 0, 0, 0, 0, 0, 0, 0, 0, 0, 0, 0, 0, 0, 0, 0, 0, 0, 0, 0, 0, 0, 0, 0, 0, 0]).toArray 5)).drew.heap.size = N + 3 := by show ((((w.alloc (.cells (Lib.byteCells key).toArray 22)).alloc (.cells (Lib.byteCells [0, 0, 0, 0, 0, 0, 0, 0, 0, 0, 0, 0, 0, 0, 0, 0, 0, 0, 0, 0, 0, 0, 0, 0, 0, 0, 0, 0, 0, 0, 0, 0]).toArray 5)).alloc (.cells (Lib.byteCells [0, 0, 0, 0, 0, 0, 0, 0, 0, 0, 0, 0, 0, 0, 0, 0, 0, 0, 0, 0, 0, 0, 0, 0, 0, 0, 0, 0, 0, 0, 0, 0]).toArray 5))).heap.size = N + 3; rw [asz, asz, asz, hN]
    generalize (((w.alloc (.cells (Lib.byteCells key).toArray 22)).alloc (.cells (Lib.byteCells [0, 0, 0, 0, 0, 0, 0, 0, 0, 0, 0, 0, 0, 0, 0, 0, 0, 0, 0, 0, 0, 0, 0, 0, 0, 0, 0, 0, 0, 0, 0, 0]).toArray 5)).alloc (.cells (Lib.byteCells [0, 0, 0, 0, 0, 0, 0, 0, 0, 0, 0, 0, 0, 0, 0, 0, 0, 0, 0, 0, 0, 0, 0, 0, 0, 0, 0, 0, 0, 0, 0, 0]).toArray 5)).drew = W at *
    have hv0 : Vars W := hv.step (by rw [hN]; exact hb)
    clear hm1 hv
    go_wp2_with (first | refine wpList_load_any rfl 22 (.tmp 1) rfl N rfl 22 (Lib.byteCells key) (.array 32 5) hr0 Tryd.underlying22 rfl (info_b32.trans (size_bytes _ _ hk)) ?_ | (go_at_call 40; refine (derived_any key encI hk (by decide) W hv0).mono ?_))
    rintro e w1 ⟨v1, rfl, hs1, b1⟩
    rw [hsz] at b1
    have hn1 := b1.size
    rw [hsz] at hn1
    have hra1 := hra.below b1 (by omega)
    have hrb1 := hrb.below b1 (by omega)
    have hr01 := hr0.below b1 (by omega)
    have hb1 : Below N w w1 := hb.trans (b1.mono (by omega))
    have hv1 : Vars w1 := hv0.step (by rw [hsz]; exact b1)
    clear b1 hra hrb hr0 hb hv0
    go_wp2_with (refine wpList_copy32 rfl (.tmp 8) (.tmp 10) rfl (N + 1) rfl 5 [0, 0, 0, 0, 0, 0, 0, 0, 0, 0, 0, 0, 0, 0, 0, 0, 0, 0, 0, 0, 0, 0, 0, 0, 0, 0, 0, 0, 0, 0, 0, 0] rfl hra1 w1.heap.size _ rfl (expB key encI 32) hs1 (expB_length _ _ _) ?_)
    intro w2 hra2 c2 hn2
    have hrb2 := c2.row hrb1 (by omega) (by omega)
    have hr02 := c2.row hr01 (by omega) (by omega)
    have hb2 : Below N w w2 := hb1.trans (c2.under (by omega) (by omega))
    have hv2 : Vars w2 := hv1.but c2 (by omega)
    clear hra1 hrb1 hr01 c2 hb1 hv1 hs1
    go_wp2_with (first | refine wpList_load_any rfl 22 (.tmp 1) rfl N rfl 22 (Lib.byteCells key) (.array 32 5) hr02 Tryd.underlying22 rfl (info_b32.trans (size_bytes _ _ hk)) ?_ | (go_at_call 40; refine (derived_any key macI hk (by decide) w2 hv2).mono ?_))
    rintro e w3 ⟨v3, rfl, hs3, b3⟩
    have hn3 := b3.size
    have hra3 := hra2.below b3 (by omega)
    have hrb3 := hrb2.below b3 (by omega)
    have hb3 : Below N w w3 := hb2.trans (b3.mono (by omega))
    clear b3 hra2 hrb2 hr02 hb2 hv2
    go_wp2_with (refine wpList_copy32 rfl (.tmp 12) (.tmp 14) rfl (N + 1 + 1) rfl 5 [0, 0, 0, 0, 0, 0, 0, 0, 0, 0, 0, 0, 0, 0, 0, 0, 0, 0, 0, 0, 0, 0, 0, 0, 0, 0, 0, 0, 0, 0, 0, 0] rfl hrb3 w3.heap.size _ rfl (expB key macI 32) hs3 (expB_length _ _ _) ?_)
    intro w4 hrb4 c4 hn4
    have hra4 := c4.row hra3 (by omega) (by omega)
    have hb4 : Below N w w4 := hb3.trans (c4.under (by omega) (by omega))
    have G : Shh (Sl w4 w4.heap.size (.slice (some ⟨N + 1, 0, none⟩) 32 32) (expB key encI 32) ∧ Sl w4 w4.heap.size (.slice (some ⟨N + 1 + 1, 0, none⟩) 32 32) (expB key macI 32) ∧ Below N w w4) :=
      ⟨Sl.of_bytes hra4 (by omega) (expB_length _ _ _) (by omega), Sl.of_bytes hrb4 (by omega) (expB_length _ _ _) (by omega), hb4⟩
    clear hra4 hrb4 hb4 c4 hra3 hrb3 hb3 hs3
    go_wp2
    go_ret2
    exact ⟨_, _, rfl, G.out⟩
  · have hr0 : Row (((w.alloc (.cells (Lib.byteCells key).toArray 22)).alloc (.cells (Lib.byteCells [0, 0, 0, 0, 0, 0, 0, 0, 0, 0, 0, 0, 0, 0, 0, 0, 0, 0, 0, 0, 0, 0, 0, 0, 0, 0, 0, 0, 0, 0, 0, 0]).toArray 5)).alloc (.cells (Lib.byteCells [0, 0, 0, 0, 0, 0, 0, 0, 0, 0, 0, 0, 0, 0, 0, 0, 0, 0, 0, 0, 0, 0, 0, 0, 0, 0, 0, 0, 0, 0, 0, 0]).toArray 5)).drew N 22 (Lib.byteCells key) := (((Row.new_ hN.symm rfl).alloc _).alloc _).drew
    have hra : Row (((w.alloc (.cells (Lib.byteCells key).toArray 22)).alloc (.cells (Lib.byteCells [0, 0, 0, 0, 0, 0, 0, 0, 0, 0, 0, 0, 0, 0, 0, 0, 0, 0, 0, 0, 0, 0, 0, 0, 0, 0, 0, 0, 0, 0, 0, 0]).toArray 5)).alloc (.cells (Lib.byteCells [0, 0, 0, 0, 0, 0, 0, 0, 0, 0, 0, 0, 0, 0, 0, 0, 0, 0, 0, 0, 0, 0, 0, 0, 0, 0, 0, 0, 0, 0, 0, 0]).toArray 5)).drew (N + 1 + 1) 5 (Lib.byteCells [0, 0, 0, 0, 0, 0, 0, 0, 0, 0, 0, 0, 0, 0, 0, 0, 0, 0, 0, 0, 0, 0, 0, 0, 0, 0, 0, 0, 0, 0, 0, 0]) := (Row.new_ (by rw [asz, asz, hN]) rfl).drew
    have hrb : Row (((w.alloc (.cells (Lib.byteCells key).toArray 22)).alloc (.cells (Lib.byteCells [0, 0, 0, 0, 0, 0, 0, 0, 0, 0, 0, 0, 0, 0, 0, 0, 0, 0, 0, 0, 0, 0, 0, 0, 0, 0, 0, 0, 0, 0, 0, 0]).toArray 5)).alloc (.cells (Lib.byteCells [0, 0, 0, 0, 0, 0, 0, 0, 0, 0, 0, 0, 0, 0, 0, 0, 0, 0, 0, 0, 0, 0, 0, 0, 0, 0, 0, 0, 0, 0, 0, 0]).toArray 5)).drew (N + 1) 5 (Lib.byteCells [0, 0, 0, 0, 0, 0, 0, 0, 0, 0, 0, 0, 0, 0, 0, 0, 0, 0, 0, 0, 0, 0, 0, 0, 0, 0, 0, 0, 0, 0, 0, 0]) := ((Row.new_ (by rw [asz, hN]) rfl).alloc _).drew
    have hb : Below N w (((w.alloc (.cells (Lib.byteCells key).toArray 22)).alloc (.cells (Lib.byteCells [0, 0, 0, 0, 0, 0, 0, 0, 0, 0, 0, 0, 0, 0, 0, 0, 0, 0, 0, 0, 0, 0, 0, 0, 0, 0, 0, 0, 0, 0, 0, 0]).toArray 5)).alloc (.cells (Lib.byteCells [0, 0, 0, 0, 0, 0, 0, 0, 0, 0, 0, 0, 0, 0, 0, 0, 0, 0, 0, 0, 0, 0, 0, 0, 0, 0, 0, 0, 0, 0, 0, 0]).toArray 5)).drew := ((((Below.refl N w).alloc (by omega) _).alloc (by rw [asz]; omega) _).alloc (by rw [asz, asz]; omega) _).trans ⟨rfl, rfl, rfl, Nat.le_refl _, fun _ _ => rfl⟩
    have hsz : (((w.alloc (.cells (Lib.byteCells key).toArray 22)).alloc (.cells (Lib.byteCells [0, 0, 0, 0, 0, 0, 0, 0, 0, 0, 0, 0, 0, 0, 0, 0, 0, 0, 0, 0, 0, 0, 0, 0, 0, 0, 0, 0, 0, 0, 0, 0]).toArray 5)).alloc (.cells (Lib.byteCells [0, 0, 0, 0, 0, 0, 0, 0, 0, 0, 0, 0, 0, 0, 0, 0, 0, 0, 0, 0, 0, 0, 0, 0, 0, 0, 0, 0, 0, 0, 0, 0]).toArray 5)).drew.heap.size = N + 3 := by show ((((w.alloc (.cells (Lib.byteCells key).toArray 22)).alloc (.cells (Lib.byteCells [0, 0, 0, 0, 0, 0, 0, 0, 0, 0, 0, 0, 0, 0, 0, 0, 0, 0, 0, 0, 0, 0, 0, 0, 0, 0, 0, 0, 0, 0, 0, 0]).toArray 5)).alloc (.cells (Lib.byteCells [0, 0, 0, 0, 0, 0, 0, 0, 0, 0, 0, 0, 0, 0, 0, 0, 0, 0, 0, 0, 0, 0, 0, 0, 0, 0, 0, 0, 0, 0, 0, 0]).toArray 5))).heap.size = N + 3; rw [asz, asz, asz, hN]
    generalize (((w.alloc (.cells (Lib.byteCells key).toArray 22)).alloc (.cells (Lib.byteCells [0, 0, 0, 0, 0, 0, 0, 0, 0, 0, 0, 0, 0, 0, 0, 0, 0, 0, 0, 0, 0, 0, 0, 0, 0, 0, 0, 0, 0, 0, 0, 0]).toArray 5)).alloc (.cells (Lib.byteCells [0, 0, 0, 0, 0, 0, 0, 0, 0, 0, 0, 0, 0, 0, 0, 0, 0, 0, 0, 0, 0, 0, 0, 0, 0, 0, 0, 0, 0, 0, 0, 0]).toArray 5)).drew = W at *
    have hv0 : Vars W := hv.step (by rw [hN]; exact hb)
    clear hm1 hv
    go_wp2_with (first | refine wpList_load_any rfl 22 (.tmp 1) rfl N rfl 22 (Lib.byteCells key) (.array 32 5) hr0 Tryd.underlying22 rfl (info_b32.trans (size_bytes _ _ hk)) ?_ | (go_at_call 40; refine (derived_any key encI hk (by decide) W hv0).mono ?_))
    rintro e w1 ⟨v1, rfl, hs1, b1⟩
    rw [hsz] at b1
    have hn1 := b1.size
    rw [hsz] at hn1
    have hra1 := hra.below b1 (by omega)
    have hrb1 := hrb.below b1 (by omega)
    have hr01 := hr0.below b1 (by omega)
    have hb1 : Below N w w1 := hb.trans (b1.mono (by omega))
    have hv1 : Vars w1 := hv0.step (by rw [hsz]; exact b1)
    clear b1 hra hrb hr0 hb hv0
    go_wp2_with (refine wpList_copy32 rfl (.tmp 8) (.tmp 10) rfl (N + 1 + 1) rfl 5 [0, 0, 0, 0, 0, 0, 0, 0, 0, 0, 0, 0, 0, 0, 0, 0, 0, 0, 0, 0, 0, 0, 0, 0, 0, 0, 0, 0, 0, 0, 0, 0] rfl hra1 w1.heap.size _ rfl (expB key encI 32) hs1 (expB_length _ _ _) ?_)
    intro w2 hra2 c2 hn2
    have hrb2 := c2.row hrb1 (by omega) (by omega)
    have hr02 := c2.row hr01 (by omega) (by omega)
    have hb2 : Below N w w2 := hb1.trans (c2.under (by omega) (by omega))
    have hv2 : Vars w2 := hv1.but c2 (by omega)
    clear hra1 hrb1 hr01 c2 hb1 hv1 hs1
    go_wp2_with (first | refine wpList_load_any rfl 22 (.tmp 1) rfl N rfl 22 (Lib.byteCells key) (.array 32 5) hr02 Tryd.underlying22 rfl (info_b32.trans (size_bytes _ _ hk)) ?_ | (go_at_call 40; refine (derived_any key macI hk (by decide) w2 hv2).mono ?_))
    rintro e w3 ⟨v3, rfl, hs3, b3⟩
    have hn3 := b3.size
    have hra3 := hra2.below b3 (by omega)
    have hrb3 := hrb2.below b3 (by omega)
    have hb3 : Below N w w3 := hb2.trans (b3.mono (by omega))
    clear b3 hra2 hrb2 hr02 hb2 hv2
    go_wp2_with (refine wpList_copy32 rfl (.tmp 12) (.tmp 14) rfl (N + 1) rfl 5 [0, 0, 0, 0, 0, 0, 0, 0, 0, 0, 0, 0, 0, 0, 0, 0, 0, 0, 0, 0, 0, 0, 0, 0, 0, 0, 0, 0, 0, 0, 0, 0] rfl hrb3 w3.heap.size _ rfl (expB key macI 32) hs3 (expB_length _ _ _) ?_)
    intro w4 hrb4 c4 hn4
    have hra4 := c4.row hra3 (by omega) (by omega)
    have hb4 : Below N w w4 := hb3.trans (c4.under (by omega) (by omega))
    have G : Shh (Sl w4 w4.heap.size (.slice (some ⟨N + 1 + 1, 0, none⟩) 32 32) (expB key encI 32) ∧ Sl w4 w4.heap.size (.slice (some ⟨N + 1, 0, none⟩) 32 32) (expB key macI 32) ∧ Below N w w4) :=
      ⟨Sl.of_bytes hra4 (by omega) (expB_length _ _ _) (by omega), Sl.of_bytes hrb4 (by omega) (expB_length _ _ _) (by omega), hb4⟩
    clear hra4 hrb4 hb4 c4 hra3 hrb3 hb3 hs3
    go_wp2
    go_ret2
    exact ⟨_, _, rfl, G.out⟩
end Go.Proofs.YtaalmjcpaiihhaaDoor
