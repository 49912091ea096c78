/-
  LAW over contracts of the program's own functions: Counts.
-/
import Derived.Test.YtobbbljnkdfkeaaDoorWs14
namespace Go.Proofs.YtobbbljnkdfkeaaDoor
open Go.RowKit
set_option maxRecDepth 100000
/-- bytes and an error are handed back; the bytes lie off whatever both arguments lie off -/
def ResOff (u v : Value) (w : World) (er : Int) (bs : List UInt8) (e : Ending) (w' : World) : Prop := ∃ r, e = .returned (.tuple #[r, .int .i64 er]) ∧ Sl w' w'.heap.size r bs ∧ Below w.heap.size w w' ∧ ∀ g, g < w.heap.size → Off g u → Off g v → Off g r
theorem Tabs.but {w w' : World} {g : Nat} (h : Tabs w) (hb : But w.heap.size g w w') (h1 : 0 ≠ g) (h2 : 1 ≠ g) : Tabs w' := ⟨h.1.but hb h1, h.2.but hb h2⟩
/-- where a chain begins, if it may be asked -/
def scN (x : S5) (sk seed : List UInt8) (a : List UInt32) (i : Nat) : List UInt8 := if badE x [sk, seed] = 0 then beginB x.s x.n sk seed a i else []
set_option maxHeartbeats 2000000 in
theorem wotsCounts_of (x : S5) (_hw : x.wf) (vk : Value) (vs : Value) (sk seed : List UInt8) (a o : List UInt32) (ha : a.length = 8) (ho : o.length = 8) (w : World) (hk : Sl w w.heap.size vk sk) (hs : Sl w w.heap.size vs seed) (ht : Tabs w)
    (hlive : ∀ W, Tabs W → Calls Tryd.prog 9 #[] W (TrueIs W))
    (hCh : ∀ (a' : List UInt32) W, a'.length = 8 → Tabs W → Sl W W.heap.size vk sk → Sl W W.heap.size vs seed → Calls Tryd.prog 25 #[x.v, vk, .int .i64 2, .int .i64 1, vs, adrV a'] W (ResOff vk vs W (badE x [sk, seed]) (chN x sk seed a' 2 1)))
    (hSc : ∀ (a' : List UInt32) W, a'.length = 8 → Tabs W → Sl W W.heap.size vk sk → Sl W W.heap.size vs seed → Calls Tryd.prog 26 #[x.v, vk, vs, adrV a', .int .i64 1] W (ResIs W (badE x [sk, seed]) (scN x sk seed a' 1))) :
    Calls Tryd.prog 8 #[x.v, vk, vs, adrV a, adrV o] w (TrueIs w) := by
  unfold TrueIs
  obtain ⟨Ak, ck, rfl, _, _⟩ := hk.form
  obtain ⟨As, cs, rfl, _, _⟩ := hs.form
  obtain ⟨er, her⟩ : ∃ er, er = badE x [sk, seed] := ⟨_, rfl⟩
  obtain ⟨b1, hb1⟩ : ∃ b1, b1 = (a.set 6 (o.getD 6 0)).set 7 (o.getD 7 0) := ⟨_, rfl⟩
  obtain ⟨b2, hb2⟩ : ∃ b2, b2 = b1.set 5 (o.getD 5 0) := ⟨_, rfl⟩
  obtain ⟨p, hp⟩ : ∃ p, p = chN x sk seed a 2 1 := ⟨_, rfl⟩
  obtain ⟨q, hq⟩ : ∃ q, q = scN x sk seed a 1 := ⟨_, rfl⟩
  have hl1 : b1.length = 8 := by rw [hb1]; simpa using ha
  have hl2 : b2.length = 8 := by rw [hb2]; simpa using hl1
  have HP : Shh ((∀ W, Tabs W → Sl W W.heap.size (.slice Ak sk.length ck) sk → Sl W W.heap.size (.slice As seed.length cs) seed → Calls Tryd.prog 25 #[x.v, .slice Ak sk.length ck, .int .i64 2, .int .i64 1, .slice As seed.length cs, adrV a] W (ResOff (.slice Ak sk.length ck) (.slice As seed.length cs) W er p)) ∧ (∀ W, Tabs W → Sl W W.heap.size (.slice Ak sk.length ck) sk → Sl W W.heap.size (.slice As seed.length cs) seed → Calls Tryd.prog 25 #[x.v, .slice Ak sk.length ck, .int .i64 2, .int .i64 1, .slice As seed.length cs, adrV b1] W (ResOff (.slice Ak sk.length ck) (.slice As seed.length cs) W er p)) ∧ (∀ W, Tabs W → Sl W W.heap.size (.slice Ak sk.length ck) sk → Sl W W.heap.size (.slice As seed.length cs) seed → Calls Tryd.prog 26 #[x.v, .slice Ak sk.length ck, .slice As seed.length cs, adrV a, .int .i64 1] W (ResIs W er q)) ∧ (∀ W, Tabs W → Sl W W.heap.size (.slice Ak sk.length ck) sk → Sl W W.heap.size (.slice As seed.length cs) seed → Calls Tryd.prog 26 #[x.v, .slice Ak sk.length ck, .slice As seed.length cs, adrV b2, .int .i64 1] W (ResIs W er q))) := by
    have e1 : chN x sk seed b1 2 1 = p := by
      rw [hp]
      unfold chN
      rw [goB_agree x.s x.n seed (a := b1) (a' := a) (fun st t => by
        obtain ⟨a0, a1, a2, a3, a4, a5, a6, a7, rfl⟩ := eight ha
        rw [hb1]
        rfl)]
    have e2 : scN x sk seed b2 1 = q := by
      rw [hq]
      unfold scN beginB
      have e : withA (atA b2 1) 0 0 = withA (atA a 1) 0 0 := by
        obtain ⟨a0, a1, a2, a3, a4, a5, a6, a7, rfl⟩ := eight ha
        rw [hb2, hb1]
        rfl
      rw [e]
    rw [her]
    refine ⟨?_, ?_, ?_, ?_⟩
    · rw [hp]; exact fun W h1 h2 h3 => hCh a W ha h1 h2 h3
    · rw [← e1]; exact fun W h1 h2 h3 => hCh b1 W hl1 h1 h2 h3
    · rw [hq]; exact fun W h1 h2 h3 => hSc a W ha h1 h2 h3
    · rw [← e2]; exact fun W h1 h2 h3 => hSc b2 W hl2 h1 h2 h3
  have go : ∀ k, k < 8 → (wordCells o)[k]? = some (.int .u32 ((o.getD k 0).toNat : Int)) := fun k hk => by
    rw [wordCells_get o k (by omega), List.getD_eq_getElem?_getD, List.getElem?_eq_getElem (by omega)]
    rfl
  have HO : Shh ((wordCells o)[5]? = some (.int .u32 ((o.getD 5 0).toNat : Int)) ∧ (wordCells o)[6]? = some (.int .u32 ((o.getD 6 0).toNat : Int)) ∧ (wordCells o)[7]? = some (.int .u32 ((o.getD 7 0).toNat : Int)) ∧ (wordCells o).length = 8) := ⟨go 5 (by decide), go 6 (by decide), go 7 (by decide), by rw [wordCells_length]; exact ho⟩
  have HB : Shh (wordCells b1 = ((wordCells a).set 6 (.int .u32 ((o.getD 6 0).toNat : Int))).set 7 (.int .u32 ((o.getD 7 0).toNat : Int)) ∧ wordCells b2 = (wordCells b1).set 5 (.int .u32 ((o.getD 5 0).toNat : Int)) ∧ (wordCells b1).length = 8 ∧ (wordCells b2).length = 8 ∧ (∀ u ∈ wordCells a, u.oneCell' = true)) := ⟨by rw [wordCells_set, wordCells_set, hb1], by rw [wordCells_set, hb2], by rw [wordCells_length]; exact hl1, by rw [wordCells_length]; exact hl2, cell_oneWord a⟩
  clear hb1 hb2 hp hq her hl1 hl2 go
  have HT : Shh (∀ W, Tabs W → Calls Tryd.prog 9 #[] W (TrueIs W)) := ⟨hlive⟩
  obtain ⟨W, hW⟩ : ∃ W, W = ((w.alloc (.cells #[.int .u32 x.c, .bool x.s, .int .i64 x.n, .int .i64 x.h, .int .i64 x.l] 24)).alloc (.cells (wordCells a).toArray 27)).alloc (.cells (wordCells o).toArray 27) := ⟨_, rfl⟩
  have HW : Shh (Row W w.heap.size 24 [.int .u32 x.c, .bool x.s, .int .i64 x.n, .int .i64 x.h, .int .i64 x.l] ∧ Row W (w.heap.size + 1) 27 (wordCells a) ∧ Row W (w.heap.size + 2) 27 (wordCells o) ∧ Sl W W.heap.size (.slice Ak sk.length ck) sk ∧ Sl W W.heap.size (.slice As seed.length cs) seed ∧ Tabs W ∧ Below w.heap.size w W) := by
    rw [hW]
    exact ⟨((Row.new_ rfl rfl).alloc _).alloc _, (Row.new_ (by rw [asz]) rfl).alloc _, Row.new_ (by rw [asz, asz]) rfl, ((hk.go (below1 _ _)).go (below1 _ _)).go (below1 _ _), ((hs.go (below1 _ _)).go (below1 _ _)).go (below1 _ _), ((ht.go (below1 _ _)).go (below1 _ _)).go (below1 _ _), Below.chain (Below.chain (below1 _ _) (below1 _ _)) (below1 _ _)⟩
  clear hk hs ht hlive hCh hSc
  have HA : Shh ((wordCells a).length = 8) := ⟨by rw [wordCells_length]; exact ha⟩
  unfold S5.v adrV at HP
  unfold S5.v adrV
  have v5 := (o.getD 5 0).toNat_lt
  have v6 := (o.getD 6 0).toNat_lt
  have v7 := (o.getD 7 0).toNat_lt
  generalize (o.getD 5 0).toNat = o5 at HO HB v5
  generalize (o.getD 6 0).toNat = o6 at HO HB v6
  generalize (o.getD 7 0).toNat = o7 at HO HB v7
  generalize wordCells b1 = L1 at HP HB
  generalize wordCells b2 = L2 at HP HB
  generalize wordCells o = LO at HO HW hW ⊢
  generalize wordCells a = L at HP HB HA HW hW ⊢
  generalize x.c = xc at *
  generalize x.s = xs at *
  generalize x.n = xn at *
  generalize x.h = xh at *
  generalize x.l = xl at *
  go_enter Tryd.func8, Tryd.ntmps8
  go_wp2_with fail
  rw [← hW]
  clear hW
  go_at_call 9
  refine (HT.out _ HW.out.2.2.2.2.2.1).mono ?_
  unfold TrueIs
  rintro e w2 ⟨rfl, b2⟩
  have H2 : Shh (Row w2 w.heap.size 24 [.int .u32 xc, .bool xs, .int .i64 xn, .int .i64 xh, .int .i64 xl] ∧ Row w2 (w.heap.size + 1) 27 L ∧ Row w2 (w.heap.size + 2) 27 LO ∧ Sl w2 w2.heap.size (.slice Ak sk.length ck) sk ∧ Sl w2 w2.heap.size (.slice As seed.length cs) seed ∧ Tabs w2 ∧ Below w.heap.size w w2) := ⟨HW.out.1.go b2, HW.out.2.1.go b2, HW.out.2.2.1.go b2, HW.out.2.2.2.1.go b2, HW.out.2.2.2.2.1.go b2, HW.out.2.2.2.2.2.1.go b2, Below.chain HW.out.2.2.2.2.2.2 b2⟩
  clear b2 HW
  cases hf : few10B [sk, seed] with
  | false =>
    go_wp2_with (go_at_call 10; refine (few10_any (w2.heap.size + 1) (w2.heap.size + 1) _ [sk, seed] _ (PartsO.two (q := w2.heap.size) (n := 2) (Nat.lt_succ_self _) (by omega) (Row.new_ rfl rfl) ((H2.out.2.2.2.1.below (below1 _ _)).more (by omega)) (H2.out.2.2.2.1.off (by omega)) ((H2.out.2.2.2.2.1.below (below1 _ _)).more (by omega)) (H2.out.2.2.2.2.1.off (by omega))) (by simp)).mono ?_)
    rw [hf]
    rintro e w3 ⟨rfl, rfl⟩
    have H3 : Shh (Tabs (w2.alloc (.cells #[.slice Ak sk.length ck, .slice As seed.length cs] 25)) ∧ Below w.heap.size w (w2.alloc (.cells #[.slice Ak sk.length ck, .slice As seed.length cs] 25))) := ⟨H2.out.2.2.2.2.2.1.go (below1 _ _), Below.chain H2.out.2.2.2.2.2.2 (below1 _ _)⟩
    clear H2 hf
    go_wp2_with (go_at_call 9; refine (HT.out _ H3.out.1).mono ?_)
    unfold TrueIs
    rintro e w4 ⟨rfl, b4⟩
    have H4 : Shh (Below w.heap.size w w4) := ⟨Below.chain H3.out.2 b4⟩
    clear b4 H3
    go_wp2
    go_ret
    exact ⟨rfl, H4.out⟩
  | true =>
    go_wp2_with (go_at_call 10; refine (few10_any (w2.heap.size + 1) (w2.heap.size + 1) _ [sk, seed] _ (PartsO.two (q := w2.heap.size) (n := 2) (Nat.lt_succ_self _) (by omega) (Row.new_ rfl rfl) ((H2.out.2.2.2.1.below (below1 _ _)).more (by omega)) (H2.out.2.2.2.1.off (by omega)) ((H2.out.2.2.2.2.1.below (below1 _ _)).more (by omega)) (H2.out.2.2.2.2.1.off (by omega))) (by simp)).mono ?_)
    rw [hf]
    rintro e w3 ⟨rfl, rfl⟩
    have H3 : Shh (Row (w2.alloc (.cells #[.slice Ak sk.length ck, .slice As seed.length cs] 25)) w.heap.size 24 [.int .u32 xc, .bool xs, .int .i64 xn, .int .i64 xh, .int .i64 xl] ∧ Row (w2.alloc (.cells #[.slice Ak sk.length ck, .slice As seed.length cs] 25)) (w.heap.size + 1) 27 L ∧ Row (w2.alloc (.cells #[.slice Ak sk.length ck, .slice As seed.length cs] 25)) (w.heap.size + 2) 27 LO ∧ Sl (w2.alloc (.cells #[.slice Ak sk.length ck, .slice As seed.length cs] 25)) (w2.alloc (.cells #[.slice Ak sk.length ck, .slice As seed.length cs] 25)).heap.size (.slice Ak sk.length ck) sk ∧ Sl (w2.alloc (.cells #[.slice Ak sk.length ck, .slice As seed.length cs] 25)) (w2.alloc (.cells #[.slice Ak sk.length ck, .slice As seed.length cs] 25)).heap.size (.slice As seed.length cs) seed ∧ Tabs (w2.alloc (.cells #[.slice Ak sk.length ck, .slice As seed.length cs] 25)) ∧ Below w.heap.size w (w2.alloc (.cells #[.slice Ak sk.length ck, .slice As seed.length cs] 25))) := ⟨H2.out.1.go (below1 _ _), H2.out.2.1.go (below1 _ _), H2.out.2.2.1.go (below1 _ _), H2.out.2.2.2.1.go (below1 _ _), H2.out.2.2.2.2.1.go (below1 _ _), H2.out.2.2.2.2.2.1.go (below1 _ _), Below.chain H2.out.2.2.2.2.2.2 (below1 _ _)⟩
    clear H2 hf HT
    generalize hZ : w2.alloc _ = Z3 at H3 ⊢
    clear hZ
    have hL8 := HA.out
    go_wp2_with (first | refine wpList_load_any rfl 27 (.tmp 8) rfl (w.heap.size + 1) rfl 27 L _ H3.out.2.1 Tryd.underlying27 rfl (info_adr10 HA.out) ?_ | refine wpList_store_any rfl 27 (.tmp 11) (.tmp 30) rfl Z3.heap.size rfl L rfl 27 [.int .u32 0, .int .u32 0, .int .u32 0, .int .u32 0, .int .u32 0, .int .u32 0, .int .u32 0, .int .u32 0] (Row.new_ rfl rfl) (info_adr10 HA.out) (by rw [HA.out]; rfl) HB.out.2.2.2.2 ?_)
    intro Z hr bt _
    obtain ⟨nb, hnb⟩ : ∃ nb, nb = Z3.heap.size := ⟨_, rfl⟩
    have HN : Shh (w.heap.size + 2 < nb ∧ nb = Z3.heap.size) := ⟨by rw [hnb]; exact H3.out.2.2.1.lt, hnb⟩
    have H4 : Shh (Row Z nb 27 L ∧ Below nb Z3 Z) := ⟨by rw [hnb]; exact hr, by rw [hnb]; exact (below1 _ _).trans (bt.under (by first | omega | (rw [asz]; omega)) (Nat.le_refl _))⟩
    rw [← hnb]
    clear hr bt hnb hL8
    have o6c : Z.cell? ⟨w.heap.size + 2, 6, none⟩ = some (.int .u32 (o6 : Int)) := (H4.out.2.cell (p := ⟨w.heap.size + 2, 6, none⟩) HN.out.1).trans ((H3.out.2.2.1.cell 6).trans HO.out.2.1)
    have o7c : Z.cell? ⟨w.heap.size + 2, 7, none⟩ = some (.int .u32 (o7 : Int)) := (H4.out.2.cell (p := ⟨w.heap.size + 2, 7, none⟩) HN.out.1).trans ((H3.out.2.2.1.cell 7).trans HO.out.2.2.1)
    go_wp2_with fail
    refine wp_region_held_drew (S := fun w' => w'.cell? ⟨w.heap.size + 2, 6, none⟩ = some (.int .u32 (o6 : Int)) ∧ w'.cell? ⟨w.heap.size + 2, 7, none⟩ = some (.int .u32 (o7 : Int))) (by kernel_rfl) ⟨o6c, o7c⟩ (fun hS => ?_)
    obtain ⟨V, hV⟩ : ∃ V, V = World.drew Z := ⟨_, rfl⟩
    rw [← hV] at hS ⊢
    have rb : Row V nb 27 L := by rw [hV]; exact H4.out.1.drew
    have HBV : Below nb Z3 V := by rw [hV]; exact H4.out.2.drew
    clear hV H4 o6c o7c
    refine held_value 0 _ _ (some 31) (.pointer (some ⟨w.heap.size + 2, 6, none⟩)) (by kernel_rfl) (by rfl) (by kernel_rfl) (fun w hS => by first | kernel_rfl | go_simp) (fun _ _ _ _ h => h) (hS) ?_
    simp only [Act.put, List.setIfInBounds_toArray, List.set_cons_zero, List.set_cons_succ]
    refine held_value 1 _ _ (some 32) (.int .u32 (o6 : Int)) (by kernel_rfl) (by rfl) (by kernel_rfl) (fun w hS => by have h2 := hS.1; go_simp) (fun _ _ _ _ h => h) (hS) ?_
    simp only [Act.put, List.setIfInBounds_toArray, List.set_cons_zero, List.set_cons_succ]
    refine held_value 2 _ _ (some 33) (.pointer (some ⟨w.heap.size + 2, 7, none⟩)) (by kernel_rfl) (by rfl) (by kernel_rfl) (fun w hS => by first | kernel_rfl | go_simp) (fun _ _ _ _ h => h) (hS) ?_
    simp only [Act.put, List.setIfInBounds_toArray, List.set_cons_zero, List.set_cons_succ]
    refine held_value 3 _ _ (some 34) (.int .u32 (o7 : Int)) (by kernel_rfl) (by rfl) (by kernel_rfl) (fun w hS => by have h2 := hS.2; go_simp) (fun _ _ _ _ h => h) (hS) ?_
    simp only [Act.put, List.setIfInBounds_toArray, List.set_cons_zero, List.set_cons_succ]
    refine held_value 4 _ _ (some 35) (.pointer (some ⟨nb, 6, none⟩)) (by kernel_rfl) (by rfl) (by kernel_rfl) (fun w hS => by first | kernel_rfl | go_simp) (fun _ _ _ _ h => h) (hS) ?_
    simp only [Act.put, List.setIfInBounds_toArray, List.set_cons_zero, List.set_cons_succ]
    refine held_one 5 (by kernel_rfl) ?_
    have c5 : V.cell? ⟨nb, 6, none⟩ = some ((L)[6]'(by simp [HA.out])) := (rb.cell 6).trans (List.getElem?_eq_getElem _)
    have f5 := rb.free 6
    refine step_store1 5 (Op.store 22 (.tmp 35) (.tmp 32)) (by rfl) (by kernel_rfl) (V.setCell ⟨nb, 6, none⟩ (.int .u32 (o6 : Int))) (by go_simp) ?_
    have rb5 : Row (V.setCell ⟨nb, 6, none⟩ (.int .u32 (o6 : Int))) nb 27 ((L).set 6 (.int .u32 (o6 : Int))) := rb.set_ 6 _
    replace HBV : Below nb Z3 (V.setCell ⟨nb, 6, none⟩ (.int .u32 (o6 : Int))) := HBV.setCell (Nat.le_refl _) _
    clear c5 f5 rb
    generalize V.setCell ⟨nb, 6, none⟩ (.int .u32 (o6 : Int)) = Y1 at *
    replace hS : Y1.cell? ⟨w.heap.size + 2, 6, none⟩ = some (.int .u32 (o6 : Int)) ∧ Y1.cell? ⟨w.heap.size + 2, 7, none⟩ = some (.int .u32 (o7 : Int)) := ⟨(HBV.cell (p := ⟨w.heap.size + 2, 6, none⟩) HN.out.1).trans ((H3.out.2.2.1.cell 6).trans HO.out.2.1), (HBV.cell (p := ⟨w.heap.size + 2, 7, none⟩) HN.out.1).trans ((H3.out.2.2.1.cell 7).trans HO.out.2.2.1)⟩
    refine ⟨hS, ?_⟩
    refine held_value 6 _ _ (some 36) (.pointer (some ⟨nb, 7, none⟩)) (by kernel_rfl) (by rfl) (by kernel_rfl) (fun w hS => by first | kernel_rfl | go_simp) (fun _ _ _ _ h => h) (hS) ?_
    simp only [Act.put, List.setIfInBounds_toArray, List.set_cons_zero, List.set_cons_succ]
    refine held_one 7 (by kernel_rfl) ?_
    have c7 : Y1.cell? ⟨nb, 7, none⟩ = some ((L.set 6 (.int .u32 (o6 : Int)))[7]'(by simp [HA.out])) := (rb5.cell 7).trans (List.getElem?_eq_getElem _)
    have f7 := rb5.free 7
    refine step_store1 7 (Op.store 22 (.tmp 36) (.tmp 34)) (by rfl) (by kernel_rfl) (Y1.setCell ⟨nb, 7, none⟩ (.int .u32 (o7 : Int))) (by go_simp) ?_
    have rb57 : Row (Y1.setCell ⟨nb, 7, none⟩ (.int .u32 (o7 : Int))) nb 27 ((L.set 6 (.int .u32 (o6 : Int))).set 7 (.int .u32 (o7 : Int))) := rb5.set_ 7 _
    replace HBV : Below nb Z3 (Y1.setCell ⟨nb, 7, none⟩ (.int .u32 (o7 : Int))) := HBV.setCell (Nat.le_refl _) _
    clear c7 f7 rb5
    generalize Y1.setCell ⟨nb, 7, none⟩ (.int .u32 (o7 : Int)) = Y2 at *
    replace hS : Y2.cell? ⟨w.heap.size + 2, 6, none⟩ = some (.int .u32 (o6 : Int)) ∧ Y2.cell? ⟨w.heap.size + 2, 7, none⟩ = some (.int .u32 (o7 : Int)) := ⟨(HBV.cell (p := ⟨w.heap.size + 2, 6, none⟩) HN.out.1).trans ((H3.out.2.2.1.cell 6).trans HO.out.2.1), (HBV.cell (p := ⟨w.heap.size + 2, 7, none⟩) HN.out.1).trans ((H3.out.2.2.1.cell 7).trans HO.out.2.2.1)⟩
    refine ⟨hS, ?_⟩
    refine wpAnyH_done (by kernel_rfl) ?_ _
    have H5 : Shh (Row Y2 w.heap.size 24 [.int .u32 xc, .bool xs, .int .i64 xn, .int .i64 xh, .int .i64 xl] ∧ Row Y2 (w.heap.size + 1) 27 L ∧ Row Y2 (w.heap.size + 2) 27 LO ∧ Sl Y2 Y2.heap.size (.slice Ak sk.length ck) sk ∧ Sl Y2 Y2.heap.size (.slice As seed.length cs) seed ∧ Tabs Y2 ∧ Below w.heap.size w Y2 ∧ Row Y2 nb 27 L1) := by
      rw [HN.out.2] at HBV
      exact ⟨H3.out.1.go HBV, H3.out.2.1.go HBV, H3.out.2.2.1.go HBV, H3.out.2.2.2.1.go HBV, H3.out.2.2.2.2.1.go HBV, H3.out.2.2.2.2.2.1.go HBV, Below.chain H3.out.2.2.2.2.2.2 HBV, by rw [HB.out.1]; exact rb57⟩
    clear hS rb57 HBV
    generalize hZ5 : Y2 = Z5 at *
    clear hZ5
    have HOFF : Shh (Off nb (.slice Ak sk.length ck) ∧ Off nb (.slice As seed.length cs) ∧ 0 ≠ nb ∧ 1 ≠ nb) := ⟨H3.out.2.2.2.1.off (by rw [HN.out.2]; exact Nat.le_refl _), H3.out.2.2.2.2.1.off (by rw [HN.out.2]; exact Nat.le_refl _), by have := H3.out.2.2.2.2.2.1.1.pos; have := HN.out.2; omega, by have := H3.out.2.2.2.2.2.1.2.pos; have := HN.out.2; omega⟩
    have HX5 : Shh (Row Z5 w.heap.size 24 [.int .u32 xc, .bool xs, .int .i64 xn, .int .i64 xh, .int .i64 xl] ∧ Row Z5 (w.heap.size + 1) 27 L ∧ Row Z5 (w.heap.size + 2) 27 LO ∧ Sl Z5 Z5.heap.size (.slice Ak sk.length ck) sk ∧ Sl Z5 Z5.heap.size (.slice As seed.length cs) seed ∧ Tabs Z5 ∧ Below w.heap.size w Z5) := ⟨H5.out.1, H5.out.2.1, H5.out.2.2.1, H5.out.2.2.2.1, H5.out.2.2.2.2.1, H5.out.2.2.2.2.2.1, H5.out.2.2.2.2.2.2.1⟩
    have HB5 : Shh (Row Z5 nb 27 L1) := ⟨H5.out.2.2.2.2.2.2.2⟩
    clear H5 H3
    go_wp2_with (first | refine wpList_load_any rfl 24 (.tmp 5) rfl w.heap.size rfl 24 [.int .u32 xc, .bool xs, .int .i64 xn, .int .i64 xh, .int .i64 xl] _ HX5.out.1 Tryd.underlying24 rfl info_xms ?_ | refine wpList_load_any rfl 27 (.tmp 8) rfl (w.heap.size + 1) rfl 27 L _ HX5.out.2.1 Tryd.underlying27 rfl (info_adr10 HA.out) ?_ | (go_at_call 25; refine (HP.out.1 _ HX5.out.2.2.2.2.2.1 HX5.out.2.2.2.1 HX5.out.2.2.2.2.1).mono ?_))
    rintro e w6 ⟨v6', rfl, s6, b6, f6⟩
    obtain ⟨A6, c6, rfl, _, _⟩ := s6.form
    have HS6 : Shh (Sl w6 w6.heap.size (.slice A6 p.length c6) p ∧ Off nb (.slice A6 p.length c6)) := ⟨s6, f6 nb HB5.out.lt HOFF.out.1 HOFF.out.2.1⟩
    have H6 : Shh (Row w6 w.heap.size 24 [.int .u32 xc, .bool xs, .int .i64 xn, .int .i64 xh, .int .i64 xl] ∧ Row w6 (w.heap.size + 1) 27 L ∧ Row w6 (w.heap.size + 2) 27 LO ∧ Sl w6 w6.heap.size (.slice Ak sk.length ck) sk ∧ Sl w6 w6.heap.size (.slice As seed.length cs) seed ∧ Tabs w6 ∧ Below w.heap.size w w6) := ⟨HX5.out.1.go b6, HX5.out.2.1.go b6, HX5.out.2.2.1.go b6, HX5.out.2.2.2.1.go b6, HX5.out.2.2.2.2.1.go b6, HX5.out.2.2.2.2.2.1.go b6, Below.chain HX5.out.2.2.2.2.2.2 b6⟩
    have HB6 : Shh (Row w6 nb 27 L1) := ⟨HB5.out.go b6⟩
    clear s6 b6 f6 HX5 HB5
    go_wp2_with (first | refine wpList_load_any rfl 24 (.tmp 5) rfl w.heap.size rfl 24 [.int .u32 xc, .bool xs, .int .i64 xn, .int .i64 xh, .int .i64 xl] _ H6.out.1 Tryd.underlying24 rfl info_xms ?_ | refine wpList_load_any rfl 27 (.tmp 11) rfl nb rfl 27 L1 _ HB6.out Tryd.underlying27 rfl (info_adr10 HB.out.2.2.1) ?_ | (go_at_call 25; refine (HP.out.2.1 _ H6.out.2.2.2.2.2.1 H6.out.2.2.2.1 H6.out.2.2.2.2.1).mono ?_))
    rintro e w7 ⟨v7', rfl, s7, b7, f7⟩
    obtain ⟨A7, c7, rfl, _, _⟩ := s7.form
    have HS7 : Shh (Sl w7 w7.heap.size (.slice A6 p.length c6) p ∧ Sl w7 w7.heap.size (.slice A7 p.length c7) p ∧ Off nb (.slice A6 p.length c6) ∧ Off nb (.slice A7 p.length c7)) := ⟨HS6.out.1.go b7, s7, HS6.out.2, f7 nb HB6.out.lt HOFF.out.1 HOFF.out.2.1⟩
    have H7 : Shh (Row w7 w.heap.size 24 [.int .u32 xc, .bool xs, .int .i64 xn, .int .i64 xh, .int .i64 xl] ∧ Row w7 (w.heap.size + 1) 27 L ∧ Row w7 (w.heap.size + 2) 27 LO ∧ Sl w7 w7.heap.size (.slice Ak sk.length ck) sk ∧ Sl w7 w7.heap.size (.slice As seed.length cs) seed ∧ Tabs w7 ∧ Below w.heap.size w w7) := ⟨H6.out.1.go b7, H6.out.2.1.go b7, H6.out.2.2.1.go b7, H6.out.2.2.2.1.go b7, H6.out.2.2.2.2.1.go b7, H6.out.2.2.2.2.2.1.go b7, Below.chain H6.out.2.2.2.2.2.2 b7⟩
    have HB7 : Shh (Row w7 nb 27 L1) := ⟨HB6.out.go b7⟩
    clear s7 b7 f7 H6 HB6 HS6
    have o5c := (H7.out.2.2.1.cell 5).trans HO.out.1
    have b5c : w7.cell? ⟨nb, 5, none⟩ = some (L1[5]'(by rw [HB.out.2.2.1]; decide)) := (HB7.out.cell 5).trans (List.getElem?_eq_getElem _)
    have b5f := HB7.out.free 5
    have hbut : But w7.heap.size nb w7 (w7.setCell ⟨nb, 5, none⟩ (.int .u32 (o5 : Int))) := (But.refl _ _ _).setCell _ _
    have H8 : Shh (Row (w7.setCell ⟨nb, 5, none⟩ (.int .u32 (o5 : Int))) w.heap.size 24 [.int .u32 xc, .bool xs, .int .i64 xn, .int .i64 xh, .int .i64 xl] ∧ Row (w7.setCell ⟨nb, 5, none⟩ (.int .u32 (o5 : Int))) (w.heap.size + 1) 27 L ∧ Row (w7.setCell ⟨nb, 5, none⟩ (.int .u32 (o5 : Int))) (w.heap.size + 2) 27 LO ∧ Sl (w7.setCell ⟨nb, 5, none⟩ (.int .u32 (o5 : Int))) (w7.setCell ⟨nb, 5, none⟩ (.int .u32 (o5 : Int))).heap.size (.slice Ak sk.length ck) sk ∧ Sl (w7.setCell ⟨nb, 5, none⟩ (.int .u32 (o5 : Int))) (w7.setCell ⟨nb, 5, none⟩ (.int .u32 (o5 : Int))).heap.size (.slice As seed.length cs) seed ∧ Tabs (w7.setCell ⟨nb, 5, none⟩ (.int .u32 (o5 : Int))) ∧ Below w.heap.size w (w7.setCell ⟨nb, 5, none⟩ (.int .u32 (o5 : Int)))) := ⟨H7.out.1.other ⟨nb, 5, none⟩ _ (show w.heap.size ≠ nb by have := HN.out.1; omega), H7.out.2.1.other ⟨nb, 5, none⟩ _ (show w.heap.size + 1 ≠ nb by have := HN.out.1; omega), H7.out.2.2.1.other ⟨nb, 5, none⟩ _ (show w.heap.size + 2 ≠ nb by have := HN.out.1; omega), (H7.out.2.2.2.1.but HOFF.out.1 hbut).more hbut.size, (H7.out.2.2.2.2.1.but HOFF.out.2.1 hbut).more hbut.size, H7.out.2.2.2.2.2.1.but hbut HOFF.out.2.2.1 HOFF.out.2.2.2, H7.out.2.2.2.2.2.2.setCell (show w.heap.size ≤ nb by have := HN.out.1; omega) _⟩
    have HB8 : Shh (Row (w7.setCell ⟨nb, 5, none⟩ (.int .u32 (o5 : Int))) nb 27 L2 ∧ Sl (w7.setCell ⟨nb, 5, none⟩ (.int .u32 (o5 : Int))) (w7.setCell ⟨nb, 5, none⟩ (.int .u32 (o5 : Int))).heap.size (.slice A6 p.length c6) p ∧ Sl (w7.setCell ⟨nb, 5, none⟩ (.int .u32 (o5 : Int))) (w7.setCell ⟨nb, 5, none⟩ (.int .u32 (o5 : Int))).heap.size (.slice A7 p.length c7) p) := ⟨by rw [HB.out.2.1]; exact HB7.out.set_ 5 _, (HS7.out.1.but HS7.out.2.2.1 hbut).more hbut.size, (HS7.out.2.1.but HS7.out.2.2.2 hbut).more hbut.size⟩
    clear hbut H7 HB7 HS7
    go_wp2_with (first | refine wpList_load_any rfl 24 (.tmp 5) rfl w.heap.size rfl 24 [.int .u32 xc, .bool xs, .int .i64 xn, .int .i64 xh, .int .i64 xl] _ H8.out.1 Tryd.underlying24 rfl info_xms ?_ | refine wpList_load_any rfl 27 (.tmp 8) rfl (w.heap.size + 1) rfl 27 L _ H8.out.2.1 Tryd.underlying27 rfl (info_adr10 HA.out) ?_ | (go_at_call 26; refine (HP.out.2.2.1 _ H8.out.2.2.2.2.2.1 H8.out.2.2.2.1 H8.out.2.2.2.2.1).mono ?_))
    generalize hW8 : w7.setCell _ _ = W8 at H8 HB8 ⊢
    clear hW8 o5c b5c b5f
    rintro e w9 ⟨v9', rfl, s9, b9⟩
    obtain ⟨A9, c9, rfl, _, _⟩ := s9.form
    have H9 : Shh (Row w9 w.heap.size 24 [.int .u32 xc, .bool xs, .int .i64 xn, .int .i64 xh, .int .i64 xl] ∧ Row w9 (w.heap.size + 1) 27 L ∧ Row w9 (w.heap.size + 2) 27 LO ∧ Sl w9 w9.heap.size (.slice Ak sk.length ck) sk ∧ Sl w9 w9.heap.size (.slice As seed.length cs) seed ∧ Tabs w9 ∧ Below w.heap.size w w9) := ⟨H8.out.1.go b9, H8.out.2.1.go b9, H8.out.2.2.1.go b9, H8.out.2.2.2.1.go b9, H8.out.2.2.2.2.1.go b9, H8.out.2.2.2.2.2.1.go b9, Below.chain H8.out.2.2.2.2.2.2 b9⟩
    have HB9 : Shh (Row w9 nb 27 L2 ∧ Sl w9 w9.heap.size (.slice A6 p.length c6) p ∧ Sl w9 w9.heap.size (.slice A7 p.length c7) p ∧ Sl w9 w9.heap.size (.slice A9 q.length c9) q) := ⟨HB8.out.1.go b9, HB8.out.2.1.go b9, HB8.out.2.2.go b9, s9⟩
    clear s9 b9 H8 HB8
    go_wp2_with (first | refine wpList_load_any rfl 24 (.tmp 5) rfl w.heap.size rfl 24 [.int .u32 xc, .bool xs, .int .i64 xn, .int .i64 xh, .int .i64 xl] _ H9.out.1 Tryd.underlying24 rfl info_xms ?_ | refine wpList_load_any rfl 27 (.tmp 11) rfl nb rfl 27 L2 _ HB9.out.1 Tryd.underlying27 rfl (info_adr10 HB.out.2.2.2.1) ?_ | (go_at_call 26; refine (HP.out.2.2.2 _ H9.out.2.2.2.2.2.1 H9.out.2.2.2.1 H9.out.2.2.2.2.1).mono ?_))
    rintro e w10 ⟨v10', rfl, s10, b10⟩
    obtain ⟨A10, c10, rfl, _, _⟩ := s10.form
    have H10 : Shh (Sl w10 w10.heap.size (.slice A6 p.length c6) p ∧ Sl w10 w10.heap.size (.slice A7 p.length c7) p ∧ Sl w10 w10.heap.size (.slice A9 q.length c9) q ∧ Sl w10 w10.heap.size (.slice A10 q.length c10) q ∧ Below w.heap.size w w10) := ⟨HB9.out.2.1.go b10, HB9.out.2.2.1.go b10, HB9.out.2.2.2.go b10, s10, Below.chain H9.out.2.2.2.2.2.2 b10⟩
    have hpp : (p == p) = true := by simp
    have hqq : (q == q) = true := by simp
    have hee : ((er : Int) == er) = true := by simp
    clear s10 b10 H9 HB9 HP
    go_wp2_with (go_at_call 12; refine (refEqual_any w10.heap.size w10.heap.size _ _ p p _ H10.out.1 H10.out.2.1).mono ?_)
    rintro e w11 ⟨rfl, rfl⟩
    rw [hpp]
    go_wp2_with (go_at_call 12; refine (refEqual_any w10.heap.size w10.heap.size _ _ q q _ H10.out.2.2.1 H10.out.2.2.2.1).mono ?_)
    rintro e w12 ⟨rfl, rfl⟩
    rw [hqq]
    go_wp2
    go_ret
    exact ⟨rfl, H10.out.2.2.2.2⟩
end Go.Proofs.YtobbbljnkdfkeaaDoor
