/-
  WALK: sha2.finish.
-/
import Derived.Test.YthafhghnciofaaaDoorWrite
namespace Go.Proofs.YthafhghnciofaaaDoor
open Go.RowKit
set_option maxRecDepth 100000

theorem off_own {w : World} {base e n g : Nat} {v : Value} {xs : List Value} (h : w.ownsRow base e 1 v n xs) (hg : g < base) : Off g v := by
  intro x l c hx hl
  rcases h.2 with ⟨rfl, hn⟩ | ⟨q, cap, cur, rfl, hb, _⟩
  · cases hx
  · cases hx
    show q ≠ g
    omega
theorem Below.chain {a b c : World} (h : Below a.heap.size a b) (k : Below b.heap.size b c) : Below a.heap.size a c := h.trans (k.mono h.size)
theorem gives_sl {w w' : World} {v : Value} {bs : List UInt8} (h : Gives w bs v w') : Sl w' w'.heap.size v bs := Sl.of_own h.1
theorem Sl.step {w w' : World} {v : Value} {bs : List UInt8} {B : Nat} (h : Sl w B v bs) (hB : B ≤ w.heap.size) (hb : Below w.heap.size w w') : Sl w' B v bs := h.below (hb.mono hB)

/-- the cells of a Hash to which m has been written -/
def HashVal (cs : List Value) (m : List UInt8) : Prop := ∃ blk : List UInt8, cs = hashCells (states m (m.length / 64)) blk m.length ∧ blk.length = 64 ∧ blk.take (m.length % 64) = m.drop (64 * (m.length / 64))
theorem HashVal.at_ {cs : List Value} {m : List UInt8} {w : World} {g : Nat} (h : HashVal cs m) (hg : 0 ≠ g) (hr : Row w g 59 cs) : HashAt w g m := by
  obtain ⟨blk, rfl, h1, h2⟩ := h
  exact ⟨hg, blk, hr, h1, h2⟩
theorem HashVal.of {m : List UInt8} {w : World} {g : Nat} (h : HashAt w g m) : ∃ cs, HashVal cs m ∧ Row w g 59 cs ∧ cs.length = 74 ∧ (∀ u ∈ cs, u.oneCell' = true) := by
  obtain ⟨hg, blk, hr, h1, h2⟩ := h
  exact ⟨_, ⟨blk, rfl, h1, h2⟩, hr, hashCells_length _ _ _ h1, hashCells_one _ _ _⟩
theorem HashAt.size {w : World} {g : Nat} {m : List UInt8} (h : HashAt w g m) : w.cell? ⟨g, 73, none⟩ = some (.int .i64 (m.length : Int)) := by
  obtain ⟨_, blk, hr, hbl, _⟩ := h
  rw [hr.cell]
  exact hashCells_size _ _ _ hbl
theorem HashAt.word {w : World} {g : Nat} {m : List UInt8} (h : HashAt w g m) (k : Nat) (hk : k < 8) : w.cell? ⟨g, 1 + k, none⟩ = some (.int .u32 (((states m (m.length / 64)).list[k]'hk).toNat : Int)) := by
  obtain ⟨_, blk, hr, hbl, _⟩ := h
  rw [hr.cell]
  exact hashCells_word _ _ _ _ hk
/-- an array of bytes is handed back -/
def SumIs (w : World) (bs : List UInt8) (e : Ending) (w' : World) : Prop := e = .returned (.agg (Lib.byteCells bs).toArray) ∧ Below w.heap.size w w'

theorem flat4_get (f : UInt32 → List UInt8) (hf : ∀ x, (f x).length = 4) (l : List UInt32) : ∀ i, (l.flatMap f)[i]? = (l[i / 4]?).bind fun x => (f x)[i % 4]? := by
  induction l with
  | nil => intro i; simp
  | cons x r ih =>
    intro i
    rw [List.flatMap_cons]
    by_cases h : i < 4
    · rw [List.getElem?_append_left (by rw [hf]; exact h), show i / 4 = 0 by omega, show i % 4 = i by omega]
      simp
    · rw [List.getElem?_append_right (by rw [hf]; omega), hf, ih (i - 4), show i / 4 = (i - 4) / 4 + 1 by omega, show i % 4 = (i - 4) % 4 by omega]
      simp
theorem outB_get (s : St) (i : Nat) (h : i < 32) : (outB s)[i]'(by rw [outB_length]; exact h) = UInt8.ofNat ((s.list[i / 4]'(by rw [St.list_length]; omega)).toNat / 256 ^ (3 - i % 4) % 256) := by
  have h1 := flat4_get (fun x => bigB x.toNat 4) (fun x => bigB_length _ _) s.list i
  rw [List.getElem?_eq_getElem (show i / 4 < s.list.length by rw [St.list_length]; omega), Option.bind_some] at h1
  have h2 : (outB s)[i]? = some ((outB s)[i]'(by rw [outB_length]; exact h)) := List.getElem?_eq_getElem (by rw [outB_length]; exact h)
  have h3 : (bigB (s.list[i / 4]'(by rw [St.list_length]; omega)).toNat 4)[i % 4]? = some _ := List.getElem?_eq_getElem (by rw [bigB_length]; omega)
  rw [h3] at h1
  have h4 := Option.some.inj (h2.symm.trans h1)
  rw [h4, bigB_getElem _ _ _ (by omega)]
theorem setk (l : List UInt8) (j k : Nat) (hl : l.length = k) (hj : j < k) (x : UInt8) (hx : x = l[j]'(by omega)) :
    (l.take j ++ List.replicate (k - j) 0).set j x = l.take (j + 1) ++ List.replicate (k - (j + 1)) 0 := by
  subst hx
  exact set_step l j k hl hj
theorem pad_split (m : List UInt8) : m ++ (128 :: List.replicate 63 0).take (zerosOf m.length + 1) ++ bigB (8 * m.length) 8 = padB m := by
  have h : (128 :: List.replicate 63 (0 : UInt8)).take (zerosOf m.length + 1) = 128 :: List.replicate (zerosOf m.length) 0 := by
    rw [List.take_succ_cons, List.take_replicate]
    congr 2
    have : zerosOf m.length ≤ 63 := by unfold zerosOf; omega
    omega
  rw [h, padB]

set_option maxHeartbeats 1000000 in
theorem finish_any (cs : List Value) (m : List UInt8) (w : World) (h : HashVal cs m) (hv : Vars w) (hl : m.length ≤ 1000000000) :
    Calls Tryd.prog 43 #[.agg cs.toArray] w (SumIs w (sha m)) := by
  unfold SumIs
  have hpos := hv.pos
  generalize hn0 : w.heap.size = n0 at *
  go_enter Tryd.func43, Tryd.ntmps43
  have hh : ∀ o, HashAt ((w.alloc (.cells cs.toArray 59)).alloc o) n0 m := fun o => h.at_ (by omega) ((Row.new_ hn0.symm rfl).alloc _)
  have h73 := fun o => (hh o).size
  have q8 : IntKind.u64.wrap (m.length : Int) = (m.length : Int) := by rw [IntKind.wrap_u64]; omega
  go_wp2_with (go_at_call 52; refine (u64_any (8 * m.length) _).mono ?_)
  rintro e w1 ⟨vc, rfl, gc⟩
  have hc1 := gives_sl gc
  have oc : Off n0 vc := off_own gc.1 (by rw [asz, asz]; omega)
  have b1 := gc.2
  rw [asz, asz, hn0] at b1
  have hh1 : HashAt w1 n0 m := (hh _).below b1 (by omega)
  have hr2 : Row w1 (n0 + 1) 33 (Lib.byteCells (List.replicate 32 0)) := (Row.new_ (by rw [asz, hn0]) zero32b).below b1 (by omega)
  have hbel1 : Below n0 w w1 := (((Below.refl n0 w).alloc (by omega) _).alloc (by rw [asz]; omega) _).trans (b1.mono (by omega))
  have hv1 : Vars w1 := hv.step (by rw [hn0]; exact hbel1)
  have hs1 : n0 + 2 ≤ w1.heap.size := by have := b1.size; rw [asz, asz] at this; omega
  clear gc b1 hh h73 hv h
  go_wp2_with (first | refine wpList_build_eq rfl 24 _ rfl (Lib.byteCells (128 :: List.replicate 63 0)).toArray (by kernel_rfl) ?_ | refine wpList_store_any rfl 24 (.tmp 4) (.tmp 13) rfl w1.heap.size rfl (Lib.byteCells (128 :: List.replicate 63 0)) rfl 24 (Lib.byteCells (List.replicate 64 0)) (Row.new_ rfl zero64b) (info_b64.trans rfl) (by simp [Lib.byteCells_length]) (cell_oneCell _) ?_)
  intro w2 hr4 bt hs2
  try simp only [asz] at bt hs2
  replace hh1 : HashAt w2 n0 m := HashAt.but (w := w1.alloc _) (hh1.step (Below.alloc (Below.refl _ _) (Nat.le_refl _) _)) (by rw [asz]; exact bt) (by omega)
  replace hr2 := bt.row (hr2.alloc _) (by omega) (by omega)
  have hc2 : Sl w2 w1.heap.size vc (bigB (8 * m.length) 8) := (hc1.below (Below.alloc (Below.refl _ _) (Nat.le_refl _) _)).below (bt.under (Nat.le_succ _) (Nat.le_refl _))
  have hbel2 : Below n0 w w2 := (hbel1.alloc (by omega) _).trans (bt.under (by omega) (by omega))
  have hv2 : Vars w2 := (hv1.step (Below.alloc (Below.refl _ _) (Nat.le_refl _) _)).but (by rw [asz]; exact bt) (by omega)
  generalize hn4 : w1.heap.size = n4 at *
  obtain ⟨T, hT⟩ : ∃ T, T = zerosOf m.length + 1 := ⟨_, rfl⟩
  have hT2 : T = 64 - (m.length + 8) % 64 := by rw [hT, zerosOf]; omega
  obtain ⟨R, hR⟩ : ∃ R, R = (m.length + 8) % 64 := ⟨_, rfl⟩
  have qa : ((m.length : Int) + 8).tmod 64 = (R : Int) := (show (((m.length + 8 : Nat)) : Int).tmod 64 = (((m.length + 8) % 64 : Nat) : Int) from rfl).trans (by omega)
  have qa2 : ((m.length : Int) + 8) % 64 = (R : Int) := by omega
  have qb : (64 : Int) - (R : Int) = (T : Int) := by omega
  have hTle : T ≤ 64 := by omega
  have hslc := slice24_to n4 0 T hTle
  have h73 := hh1.size
  have HT := Lib.hid hT
  have hpl : ((128 :: List.replicate 63 (0 : UInt8)).take T).length = T := by simp; omega
  have hsp : Sl w2 w2.heap.size (.slice (some ⟨n4, 0, none⟩) T 64) ((128 :: List.replicate 63 (0 : UInt8)).take T) := Sl.of_row hr4 (by omega) hpl hTle (by unfold maxLen; omega) (fun k hk => by
    rw [Nat.zero_add, byteCells_get _ k (by rw [hpl] at hk; simp; omega)]; simp)
  have hml := hl
  clear hT hT2 hR hc1 hv1 hbel1
  generalize hpad : (128 :: List.replicate 63 (0 : UInt8)).take T = pd at *
  go_wp2_with (go_at_call 42; refine (add_any n0 m pd w2.heap.size _ w2 hh1 hsp (Nat.le_refl _) (Off.at_ (by omega)) hv2 (by omega)).mono ?_)
  rintro e w3 ⟨rfl, hh3, b3⟩
  have hc3 : Sl w3 n4 vc (bigB (8 * m.length) 8) := hc2.but oc (b3.mono (by omega))
  have hr3 := b3.row hr2 (by omega) (by omega)
  have hv3 := hv2.but b3 (by omega)
  have hbel3 : Below n0 w w3 := hbel2.trans (b3.under (by omega) (Nat.le_refl _))
  have hs3 := b3.size
  go_wp2_with (go_at_call 42; refine (add_any n0 _ (bigB (8 * m.length) 8) n4 _ w3 hh3 hc3 (by omega) oc hv3 (by rw [List.length_append, bigB_length]; omega)).mono ?_)
  rintro e w4 ⟨rfl, hh4, b4⟩
  rw [← hpad, HT.out, pad_split] at hh4
  have hr5 := b4.row hr3 (by omega) (by omega)
  have hbel4 : Below n0 w w4 := hbel3.trans (b4.under (by omega) (Nat.le_refl _))
  have hs4 := b4.size
  have hs5 : n0 + 2 ≤ w4.heap.size := by omega
  clear hc3 hr3 hv3 hbel3 hs3 b4 b3 hh3 hc2 hr2 hv2 hbel2 hh1 hsp hr4 bt hslc h73 hs4 hs2 qa qa2 qb
  go_wp2
  have hword := fun k hk => hh4.word k hk
  have hw5 : ∀ k (hk : k < 8), (w4.alloc (.cells (Lib.byteCells (List.replicate 32 0)).toArray 33)).cell? ⟨n0, 1 + k, none⟩ = some (.int .u32 (((states (padB m) ((padB m).length / 64)).list[k]'hk).toNat : Int)) := fun k hk => (hh4.step (Below.alloc (Below.refl _ _) (Nat.le_refl _) _)).word k hk
  have HS : Hid (outB (states (padB m) ((padB m).length / 64)) = sha m) := Lib.hid rfl
  generalize states (padB m) ((padB m).length / 64) = st at *
  have hbel5 : Below n0 w (w4.alloc (.cells (Lib.byteCells (List.replicate 32 0)).toArray 33)) := hbel4.alloc (by omega) _
  have hr6 : Row (w4.alloc (.cells (Lib.byteCells (List.replicate 32 0)).toArray 33)) w4.heap.size 33 (Lib.byteCells (List.replicate 32 0)) := Row.new_ rfl rfl
  have hr7 : Row (w4.alloc (.cells (Lib.byteCells (List.replicate 32 0)).toArray 33)) (n0 + 1) 33 (Lib.byteCells (List.replicate 32 0)) := hr5.alloc _
  generalize hn6 : w4.heap.size = n6 at *
  clear hh4 hword hr5 hbel4
  go_loopw [24] (fun i wr => ∃ k : Nat, k ≤ 32 ∧ i = .int .i64 k ∧ Row wr n6 33 (Lib.byteCells ((outB st).take k ++ List.replicate (32 - k) 0)) ∧ Row wr (n0 + 1) 33 (Lib.byteCells (List.replicate 32 0)) ∧ Hid (∀ k (hk : k < 8), wr.cell? ⟨n0, 1 + k, none⟩ = some (.int .u32 ((st.list[k]'hk).toNat : Int))) ∧ Below n0 w wr) (fun i _ => 32 - (intOf i).toNat)
  case atStart => exact ⟨0, Nat.zero_le _, rfl, hr6, hr7, Lib.hid hw5, hbel5⟩
  case round =>
    clear hw5 hbel5 hr6 hr7
    obtain ⟨k, hk, rfl, hr6, hr7, HW, hbel⟩ := hrel
    by_cases hlt : k < 32
    · have hlt0 := hlt
      have hcx := hr6.cell k
      rw [byteCells_get _ _ (by simp [outB_length]; omega)] at hcx
      have hf := hr6.free k
      have hset := hr6.set_ k (.int .u8 (((outB st)[k]'(by rw [outB_length]; exact hlt)).toNat : Int))
      have hbs : (Lib.byteCells ((outB st).take k ++ List.replicate (32 - k) 0)).set k (.int .u8 (((outB st)[k]'(by rw [outB_length]; exact hlt)).toNat : Int)) = Lib.byteCells ((outB st).take (k + 1) ++ List.replicate (32 - (k + 1)) 0) := by
        rw [← setk (outB st) k 32 (outB_length st) hlt _ rfl]
        simp [Lib.byteCells, List.map_set]
      rw [hbs] at hset
      obtain ⟨j, hj⟩ : ∃ j, j = k / 4 := ⟨_, rfl⟩
      obtain ⟨r, hr⟩ : ∃ r, r = k % 4 := ⟨_, rfl⟩
      obtain ⟨s8, hs8⟩ : ∃ s8, s8 = 24 - 8 * r := ⟨_, rfl⟩
      have e1 : (k : Int).tdiv 4 = (j : Int) := (show (k : Int).tdiv 4 = ((k / 4 : Nat) : Int) from rfl).trans (by omega)
      have e2 : (k : Int) / 4 = (j : Int) := by omega
      have e3 : (k : Int).tmod 4 = (r : Int) := (show (k : Int).tmod 4 = ((k % 4 : Nat) : Int) from rfl).trans (by omega)
      have e4 : (k : Int) % 4 = (r : Int) := by omega
      have e5 : (24 : Int) - 8 * (r : Int) = (s8 : Int) := by omega
      have hj8 : j < 8 := by omega
      have hr4 : r < 4 := by omega
      have hc := HW.out j hj8
      obtain ⟨x, hx⟩ : ∃ x, x = st.list[j]'hj8 := ⟨_, rfl⟩
      rw [← hx] at hc
      have hout := outB_get st k hlt
      have HX : Hid (((x.toNat : Int) / 2 ^ s8) % 256 = (((outB st)[k]'(by rw [outB_length]; exact hlt)).toNat : Int)) := Lib.hid (by
        have e6 : s8 = 8 * (3 - k % 4) := by omega
        rw [hout, e6, byte_shr]
        subst hj
        rw [hx]
        rfl)
      have HSET := Lib.hid hset
      clear hout hset hbs hx hj hr hs8
      generalize ((outB st)[k]'(by rw [outB_length]; exact hlt)) = y at *
      go_wp2
      go_roundw
      case rel =>
        refine ⟨k + 1, by omega, by go_num, ?_, hr7.other ⟨n6, k, none⟩ _ (by show n0 + 1 ≠ n6; omega), Lib.hid (fun i hi => (World.cell?_setCell_other _ _ _ _ (by intro e; cases e; omega)).trans (HW.out i hi)), hbel.setCell (p := ⟨n6, k, none⟩) (by show n0 ≤ n6; omega) _⟩
        have := HSET.out
        rw [← HX.out] at this
        exact this
      case measure => simp [intOf]; omega
    · obtain rfl : k = 32 := by omega
      rw [List.take_of_length_le (by rw [outB_length]; omega), Nat.sub_self, List.replicate_zero, List.append_nil, HS.out] at hr6
      go_wp2_with (first | refine wpList_load_any rfl 33 (.tmp 6) rfl n6 rfl 33 (Lib.byteCells (sha m)) (.array 32 5) hr6 Tryd.underlying33 rfl (info_b32.trans (size_bytes _ _ (sha_length m))) ?_ | refine wpList_store_any rfl 33 (.tmp 2) (.tmp 41) rfl (n0 + 1) rfl (Lib.byteCells (sha m)) rfl 33 _ hr7 (info_b32.trans (size_bytes _ _ (sha_length m))) (by simp [Lib.byteCells_length, sha_length]) (cell_oneCell _) ?_)
      intro w9 hr9 b9 _
      have hb9 : Below n0 w w9 := hbel.trans (b9.under (Nat.le_trans (Nat.le_add_right n0 1) (Nat.le_of_lt hr7.lt)) (by omega))
      go_wp2
      exact ret_row Tryd.results43 rfl rfl hr9 Tryd.underlying33 rfl (info_b32.trans (size_bytes _ _ (sha_length m))) ⟨rfl, hb9⟩
end Go.Proofs.YthafhghnciofaaaDoor
