/-
  WALK: the document's own Sum256.
-/
import Derived.Test.YthafhghnciofaaaDoorRefC
import Derived.Test.YthafhghnciofaaaDoorJoinO
namespace Go.Proofs.YthafhghnciofaaaDoor
open Go.RowKit
set_option maxRecDepth 100000

theorem start_any (w : World) : Calls Tryd.prog 40 #[] w (StIs w start) := by
  unfold StIs
  go_enter Tryd.func40, Tryd.ntmps40
  go_wp2_with (first | refine wpList_build_eq rfl 23 _ rfl (wordCells start.list).toArray (by kernel_rfl) ?_ | refine wpList_store_any rfl 23 (.tmp 0) (.tmp 1) rfl w.heap.size rfl (wordCells start.list) rfl 23 (wordCells (List.replicate 8 0)) (Row.new_ rfl zero8w) (info_w8.trans (size_words _ _ rfl)) rfl (cell_oneWord _) ?_)
  intro w2 hr2 bt _
  try simp only [asz] at bt
  go_wp2
  exact ret_row Tryd.results40 rfl rfl hr2 Tryd.underlying23 rfl (info_w8.trans (size_words _ _ rfl)) ⟨rfl, (Below.alloc (Below.refl _ _) (Nat.le_refl _) _).trans (bt.under (Nat.le_succ _) (Nat.le_refl _))⟩

theorem two_flat (a b : List UInt8) : [a, b].flatten = a ++ b := by simp
theorem zeros_lt (n k : Nat) (h : k < zerosOf n) : ¬ (n + 1 + k) % 64 = 56 := by unfold zerosOf at h; omega
theorem zeros_eq (n : Nat) : (n + 1 + zerosOf n) % 64 = 56 := by unfold zerosOf; omega
theorem zeros_le (n : Nat) : zerosOf n ≤ 63 := by unfold zerosOf; omega
theorem padB_eq (m : List UInt8) : m ++ [128] ++ List.replicate (zerosOf m.length) 0 ++ bigB (8 * m.length) 8 = padB m := by simp [padB]
theorem padB_len (m : List UInt8) : (padB m).length ≤ m.length + 72 := by
  have := zeros_le m.length
  simp only [padB, List.length_append, List.length_cons, List.length_replicate, bigB_length]
  omega
theorem outB_snoc (s : St) (k : Nat) (h : k < s.list.length) : (outB s).take (4 * (k + 1)) = (outB s).take (4 * k) ++ bigB ((s.list[k]'h).toNat) 4 := by
  have e : ∀ (l : List UInt32) k (h : k < l.length), (l.flatMap fun x => bigB x.toNat 4).take (4 * (k + 1)) = (l.flatMap fun x => bigB x.toNat 4).take (4 * k) ++ bigB (l[k]'h).toNat 4 := by
    intro l
    induction l with
    | nil => intro k h; simp at h
    | cons x r ih =>
      intro k h
      rw [List.flatMap_cons]
      cases k with
      | zero =>
        rw [Nat.mul_zero, List.take_zero, List.nil_append, List.take_append_of_le_length (by rw [bigB_length]; omega), List.take_of_length_le (by rw [bigB_length]; omega)]
        rfl
      | succ k =>
        rw [List.take_append, List.take_append, bigB_length, List.take_of_length_le (l := bigB x.toNat 4) (by rw [bigB_length]; omega), List.take_of_length_le (l := bigB x.toNat 4) (by rw [bigB_length]; omega), show 4 * (k + 1 + 1) - 4 = 4 * (k + 1) by omega, show 4 * (k + 1) - 4 = 4 * k by omega, ih k (by simpa using h), List.append_assoc]
        rfl
  exact e s.list k h

theorem own_mono {w : World} {base base' e n : Nat} {v : Value} {xs : List Value} (h : w.ownsRow base' e 1 v n xs) (hb : base ≤ base') : w.ownsRow base e 1 v n xs := by
  refine ⟨h.1, ?_⟩
  rcases h.2 with h0 | ⟨g, cap, cur, h1, h2, h3⟩
  · exact .inl h0
  · exact .inr ⟨g, cap, cur, h1, Nat.le_trans hb h2, h3⟩
theorem blockAt_length (m : List UInt8) (n : Nat) (h : 64 * n + 64 ≤ m.length) : (blockAt m n).length = 64 := by
  simp [blockAt]; omega
theorem blockAt_get (m : List UInt8) (n k : Nat) (h : 64 * n + 64 ≤ m.length) (hk : k < 64) : (blockAt m n)[k]'(by rw [blockAt_length m n h]; exact hk) = m[64 * n + k]'(by omega) := by
  simp [blockAt]

set_option maxHeartbeats 1000000 in
theorem refSum_any (B : Nat) (v : Value) (m : List UInt8) (w : World) (hs : Sl w B v m) (hB : B ≤ w.heap.size) (hl : m.length ≤ 1000000000) :
    Calls Tryd.prog 15 #[v] w (OwnIs w (sha m)) := by
  unfold OwnIs
  obtain ⟨A, c, rfl, _, _⟩ := hs.form
  obtain ⟨i0, hi, hz0, hz1, hz2⟩ := info_parts info_u8
  generalize hn0 : w.heap.size = n0 at *
  have hb2 : ∀ o o2, Below n0 w ((w.alloc o).alloc o2) := fun o o2 => ((Below.refl n0 w).alloc (by omega) _).alloc (by rw [asz]; omega) _
  go_enter Tryd.func15, Tryd.ntmps15
  go_wp2_with (go_at_call 16; refine (refJoin_any (n0 + 2) (n0 + 2) _ [m, [128]] _ (PartsO.two (Nat.lt_succ_self _) (by omega) (Row.new_ (by rw [asz, hn0]) rfl) ((hs.below ((hb2 _ _).mono hB)).more (by omega)) (hs.off (by omega)) (Sl.of_bytes (T := 5) ((Row.new_ hn0.symm rfl).alloc _) (by omega) rfl (by decide)) (Off.at_ (by omega))) (by rw [asz, asz, hn0]; exact Nat.le_refl _) (by rw [two_flat, List.length_append, List.length_singleton]; omega) (by simp)).mono ?_)
  rintro e w1 ⟨v1, rfl, g1⟩
  rw [two_flat] at g1
  have o1 := g1.1
  have b1 : Below n0 w w1 := (hb2 _ _).trans (g1.2.mono (by rw [asz, asz, hn0]; omega))
  have hs1 := g1.2.size
  rw [asz, asz, hn0] at o1 hs1
  clear g1
  go_wp2
  go_loopw [3] (fun o wr => ∃ k : Nat, k ≤ zerosOf m.length ∧ wr.ownsRow (n0 + 2) 5 1 o (m ++ [128] ++ List.replicate k 0).length (Lib.byteCells (m ++ [128] ++ List.replicate k 0)) ∧ Below n0 w wr ∧ n0 + 2 ≤ wr.heap.size) (fun o _ => zerosOf m.length + m.length + 1 - slLen o)
  case atStart => exact ⟨0, Nat.zero_le _, by simpa using o1, b1, hs1⟩
  case round =>
    clear o1 b1 hs1
    obtain ⟨k, hk, o1, b1, hs1⟩ := hrel
    obtain ⟨A1, c1, rfl⟩ := own_form o1
    have hzl := zeros_le m.length
    have hlen : (m ++ [128] ++ List.replicate k (0 : UInt8)).length = m.length + 1 + k := by simp; omega
    rw [hlen] at o1
    obtain ⟨R, hR⟩ : ∃ R, R = (m.length + 1 + k) % 64 := ⟨_, rfl⟩
    obtain ⟨L, hL⟩ : ∃ L, L = m.length + 1 + k := ⟨_, rfl⟩
    have qa : (L : Int).tmod 64 = (R : Int) := (show (L : Int).tmod 64 = ((L % 64 : Nat) : Int) from rfl).trans (by omega)
    have qa2 : (L : Int) % 64 = (R : Int) := by omega
    rw [hlen, ← hL]
    rw [← hL] at o1
    by_cases hlt : k < zerosOf m.length
    · have hne : ¬ R = 56 := by rw [hR]; exact zeros_lt _ _ hlt
      have HL := Lib.hid hL
      have hLb : L ≤ 1000000100 := by omega
      clear hR hL hlen
      go_wp2_with (at_builtin; refine wp_append1 _ 30 5 i0 (.int .u8 0) Tryd.underlying30 hi hz0 hz1 hz2 rfl rfl _ _ rfl o1 rfl rfl rfl (by omega) hs1 ?_)
      intro v' w2 o2 _ b2
      have HO : Hid (w2.ownsRow (n0 + 2) 5 1 v' (m ++ [128] ++ List.replicate (k + 1) 0).length (Lib.byteCells (m ++ [128] ++ List.replicate (k + 1) 0))) := Lib.hid (by
        have e1 : (m ++ [128] ++ List.replicate (k + 1) (0 : UInt8)).length = L + 1 := by have := HL.out; simp; omega
        have e2 : Lib.byteCells (m ++ [128] ++ List.replicate (k + 1) (0 : UInt8)) = Lib.byteCells (m ++ [128] ++ List.replicate k 0) ++ [.int .u8 0] := by
          rw [List.replicate_succ', ← List.append_assoc]
          simp [Lib.byteCells]
        rw [e1, e2]
        simpa using o2)
      have hs2 := (b2 _ (Nat.le_refl _)).size
      obtain ⟨A2, c2, rfl⟩ := own_form o2
      have HL2 := HL.out
      clear o2 o1
      go_wp2
      go_roundw
      case rel => exact ⟨k + 1, by omega, HO.out, b1.trans (b2 _ (by omega)), by omega⟩
      case measure => simp only [slLen]; omega
    · have hkz : k = zerosOf m.length := by omega
      have hne : R = 56 := by rw [hR, hkz]; exact zeros_eq _
      subst hkz
      have sb := Sl.of_own o1
      have ob : Off (wr.heap.size + 1) (.slice A1 L c1) := sb.off (by omega)
      have HL := Lib.hid (And.intro hL hlen)
      have hLb : L ≤ 1000000100 := by omega
      have hml := hl
      clear hR hL hlen o1
      subst hne
      generalize hp1 : m ++ [128] ++ List.replicate (zerosOf m.length) (0 : UInt8) = p1 at *
      have q8 : IntKind.u64.wrap (m.length : Int) = (m.length : Int) := by rw [IntKind.wrap_u64]; omega
      go_wp2_with (go_at_call 39; refine (refBig_any (8 * m.length) 8 _ (by omega) (by omega)).mono ?_)
      rintro e w3 ⟨v3, rfl, g3⟩
      have s3 := gives_sl g3
      obtain ⟨A3, c3, rfl, _, _⟩ := s3.form
      have b3 := g3.2
      have sb3 := sb.below b3
      have hs3 := b3.size
      have hbel3 := b1.trans (b3.mono (by omega))
      have hal : ∀ o, Below w3.heap.size w3 (w3.alloc o) := fun o => Below.alloc (Below.refl _ _) (Nat.le_refl _) o
      clear g3 qa qa2 b3
      go_wp2_with (go_at_call 16; refine (refJoin_any (w3.heap.size + 1) (w3.heap.size + 1) _ [p1, bigB (8 * m.length) 8] _ (PartsO.two (Nat.lt_succ_self _) (by omega) (Row.new_ rfl rfl) ((sb3.below ((hal _).mono hs3)).more (by omega)) (sb3.off (by omega)) ((s3.below (hal _)).more (by omega)) (s3.off (by omega))) (by rw [asz]; exact Nat.le_refl _) (by rw [two_flat, List.length_append, bigB_length]; have := HL.out; omega) (by simp)).mono ?_)
      rintro e w4 ⟨v4, rfl, g4⟩
      rw [two_flat, ← hp1, padB_eq] at g4
      have s4 := gives_sl g4
      have b4 := (hal _).trans (g4.2.mono (by rw [asz]; omega))
      have hbel4 := hbel3.trans (b4.mono (by omega))
      have hs4 := b4.size
      clear g4 b4 hal s3 sb3 sb ob hbel3
      have hpl := padB_length m
      have hpl2 := padB_len m
      obtain ⟨A4, c4, rfl, _, _⟩ := s4.form
      obtain ⟨pd, hpd⟩ : ∃ pd, pd = padB m := ⟨_, rfl⟩
      have HP := Lib.hid hpd
      rw [← hpd] at s4 hpl hpl2 ⊢
      clear hpd
      go_wp2_with (go_at_call 40; refine (start_any _).mono ?_)
      rintro e w5 ⟨rfl, b5⟩
      have s5 := s4.below b5
      have hbel5 := hbel4.trans (b5.mono (by omega))
      have hs5 := b5.size
      clear s4 b5 hbel4
      go_wp2_with (refine wpList_store_any rfl 23 (.tmp 4) (.tmp 29) rfl w5.heap.size rfl (wordCells start.list) rfl 23 (wordCells (List.replicate 8 0)) (Row.new_ rfl zero8w) (info_w8.trans (size_words _ _ rfl)) rfl (cell_oneWord _) ?_)
      intro w6 hr6 bt hs6
      try simp only [asz] at bt hs6
      have s6 : Sl w6 w4.heap.size (.slice A4 pd.length c4) pd := (s5.below ((Below.alloc (Below.refl _ _) (Nat.le_refl _) _).mono hs5)).below (bt.under (by omega) (by omega))
      have hbel6 : Below n0 w w6 := (hbel5.alloc (by omega) _).trans (bt.under (by omega) (by omega))
      generalize hn6 : w5.heap.size = n6 at *
      clear s5 bt hbel5 hn6
      go_wp2
      have h46 : w4.heap.size ≤ n6 := hs5
      have h04 : n0 ≤ w4.heap.size := by omega
      generalize w4.heap.size = n4 at *
      clear hs1 hs3 hs4 hs5 hs6 HL hb2 b1 hp1
      go_loopw [5, 6, 7] (fun i _ _ wr => ∃ n : Nat, 64 * n ≤ pd.length ∧ i = .int .i64 ((64 * n : Nat) : Int) ∧ Row wr n6 23 (wordCells (states pd n).list) ∧ Sl wr n4 (.slice A4 pd.length c4) pd ∧ Below n0 w wr) (fun i _ _ _ => pd.length - (intOf i).toNat)
      case atStart => exact ⟨0, Nat.zero_le _, rfl, hr6, s6, hbel6⟩
      case round =>
        clear hr6 s6 hbel6
        obtain ⟨n, hn, rfl, hr6, s6, hbel6⟩ := hrel
        obtain ⟨a, ha⟩ : ∃ a, a = 64 * n := ⟨_, rfl⟩
        have HA := Lib.hid ha
        rw [← ha] at hn ⊢
        by_cases hlt : a < pd.length
        · have hfull : 64 * n + 64 ≤ pd.length := by omega
          have hfa : a + 64 ≤ pd.length := by omega
          have hXl := blockAt_length pd n hfull
          have HX := Lib.hid (fun k hk => blockAt_get pd n k hfull hk)
          obtain ⟨X, hX⟩ : ∃ X, X = blockAt pd n := ⟨_, rfl⟩
          have HXE := Lib.hid hX
          obtain ⟨st, hst⟩ : ∃ st, st = states pd n := ⟨_, rfl⟩
          have HST := Lib.hid hst
          rw [← hst] at hr6
          rw [← hX] at hXl
          clear ha hX hst
          go_wp2
          have h67 : n6 < wr.heap.size := hr6.lt
          have hr7 : Row (wr.alloc (.cells (Lib.byteCells (List.replicate 64 0)).toArray 24)) wr.heap.size 24 (Lib.byteCells (List.replicate 64 0)) := Row.new_ rfl rfl
          replace hr6 := hr6.alloc (.cells (Lib.byteCells (List.replicate 64 0)).toArray 24)
          replace s6 := s6.below (Below.alloc (o := .cells (Lib.byteCells (List.replicate 64 0)).toArray 24) (Below.refl n4 wr) (by omega))
          replace hbel6 := hbel6.alloc (o := .cells (Lib.byteCells (List.replicate 64 0)).toArray 24) (by omega)
          generalize hn7 : wr.heap.size = n7 at *
          have hz7 : (wr.alloc (.cells (Lib.byteCells (List.replicate 64 0)).toArray 24)).heap.size = n7 + 1 := by rw [asz, hn7]
          go_loopw [7, 36] (fun _ i wr => ∃ k : Nat, k ≤ 64 ∧ i = .int .i64 k ∧ Row wr n7 24 (Lib.byteCells (X.take k ++ List.replicate (64 - k) 0)) ∧ Row wr n6 23 (wordCells st.list) ∧ Sl wr n4 (.slice A4 pd.length c4) pd ∧ Below n0 w wr) (fun _ i _ => 64 - (intOf i).toNat)
          case atStart => exact ⟨0, Nat.zero_le _, rfl, hr7, hr6, s6, hbel6⟩
          case round =>
            clear hr7 hr6 s6 hbel6
            obtain ⟨k, hk, rfl, hr7, hr6, s6, hbel6⟩ := hrel
            by_cases hlk : k < 64
            · obtain ⟨b, off, rfl, hbb, hcc⟩ := s6.at_ (by omega)
              obtain ⟨j, hj⟩ : ∃ j, j = a + k := ⟨_, rfl⟩
              have hjl : j < pd.length := by omega
              have hc := hcc j hjl
              have hjs : (a : Int) + (k : Int) = (j : Int) := by omega
              have hset := hr7.set_ k (.int .u8 ((X[k]'(by rw [hXl]; exact hlk)).toNat : Int))
              have hbs : (Lib.byteCells (X.take k ++ List.replicate (64 - k) 0)).set k (.int .u8 ((X[k]'(by rw [hXl]; exact hlk)).toNat : Int)) = Lib.byteCells (X.take (k + 1) ++ List.replicate (64 - (k + 1)) 0) := by
                rw [← setk X k 64 hXl hlk _ rfl]
                simp [Lib.byteCells, List.map_set]
              rw [hbs] at hset
              have hxe : X[k]'(by rw [hXl]; exact hlk) = pd[j] := by
                have h1 := HX.out k hlk
                have e1 := HXE.out
                subst e1
                rw [h1]
                have e2 := HA.out
                subst hj
                subst e2
                rfl
              rw [hxe] at hset
              have hcx := hr7.cell k
              rw [byteCells_get _ k (by simp; omega)] at hcx
              have hf := hr7.free k
              have HSET := Lib.hid hset
              have k6 := Lib.hid (hr6.other ⟨n7, k, none⟩ (.int .u8 (pd[j].toNat : Int)) (by show n6 ≠ n7; omega))
              have ks := Lib.hid (s6.below (Below.setCell (p := ⟨n7, k, none⟩) (Below.refl n4 wr) (by show n4 ≤ n7; omega) (.int .u8 (pd[j].toNat : Int))))
              have kb := Lib.hid (hbel6.setCell (p := ⟨n7, k, none⟩) (by show n0 ≤ n7; omega) (.int .u8 (pd[j].toNat : Int)))
              clear hcc hj hset hbs hxe hr7 hr6 s6 hbel6
              generalize pd[j] = y at *
              go_wp2
              go_roundw
              case rel => exact ⟨k + 1, by omega, by go_num, HSET.out, k6.out, ks.out, kb.out⟩
              case measure => simp [intOf]; omega
            · obtain rfl : k = 64 := by omega
              rw [List.take_of_length_le (by omega), Nat.sub_self, List.replicate_zero, List.append_nil] at hr7
              have hi24 : (Tryd.prog.info? 24).map (·.size) = some (Lib.byteCells X).length := info_b64.trans (size_bytes 64 X hXl)
              go_wp2_with (first
                | refine wpList_load_any rfl 23 (.tmp 4) rfl n6 rfl 23 (wordCells st.list) (.array 8 22) hr6 Tryd.underlying23 rfl (info_w8.trans (size_words _ _ rfl)) ?_
                | refine wpList_load_any rfl 24 (.tmp 6) rfl n7 rfl 24 (Lib.byteCells X) (.array 64 5) hr7 Tryd.underlying24 rfl hi24 ?_
                | (go_at_call 13; refine (refCompress_any st X hXl _).mono ?_))
              rintro e w9 ⟨rfl, b9⟩
              obtain ⟨cc, HC⟩ : ∃ cc, Hid (cc = comp st X) := ⟨_, Lib.hid rfl⟩
              rw [← HC.out]
              have hr69 := hr6.below b9 hr6.lt
              have s69 := s6.below (b9.mono (Nat.le_of_lt (Nat.lt_of_le_of_lt h46 hr6.lt)))
              have hbel9 := hbel6.trans (b9.mono (Nat.le_of_lt (Nat.lt_of_le_of_lt (Nat.le_trans h04 h46) hr6.lt)))
              clear hr6 s6 hbel6 b9 hr7
              go_wp2_with (refine wpList_store_any rfl 23 (.tmp 4) (.tmp 50) rfl n6 rfl (wordCells cc.list) rfl 23 _ hr69 (info_w8.trans (size_words _ _ rfl)) rfl (cell_oneWord _) ?_)
              intro w10 hr10 b10 _
              have s10 := s69.below (b10.under (Nat.le_trans h46 (Nat.le_of_lt hr69.lt)) h46)
              have hbel10 := hbel9.trans (b10.under (Nat.le_trans (Nat.le_trans h04 h46) (Nat.le_of_lt hr69.lt)) (Nat.le_trans h04 h46))
              have HR : Hid (Row w10 n6 23 (wordCells (states pd (n + 1)).list)) := Lib.hid (by
                have e : states pd (n + 1) = cc := by rw [HC.out, HST.out, HXE.out]; rfl
                rw [e]; exact hr10)
              have hA := HA.out
              clear hr10 b10 hr69 s69 hbel9
              go_wp2
              go_roundw
              case rel => exact ⟨n + 1, by omega, by rw [show 64 * (n + 1) = a + 64 by omega]; go_num, HR.out, s10, hbel10⟩
              case measure => simp [intOf]; omega
        · have hae : a = pd.length := by omega
          have HN : Hid (outB (states pd n) = sha m) := Lib.hid (by
            rw [sha, ← HP.out]
            congr 2
            have := HA.out
            omega)
          obtain ⟨st, hst⟩ : ∃ st, st = states pd n := ⟨_, rfl⟩
          rw [← hst] at HN hr6
          clear hst hpl hpl2 hn HA ha s6 hae
          have h6lt := hr6.lt
          have hown0 : (wr.alloc (.cells #[] 5)).ownsRow n0 5 1 (.slice (some ⟨wr.heap.size, 0, none⟩) 0 0) 0 [] := World.ownsRow_made wr #[] 0 (by omega) (Nat.zero_le _) rfl
          have h46 : n0 ≤ n6 := by omega
          replace hr6 := hr6.alloc (.cells #[] 5)
          replace hbel6 := hbel6.alloc (o := .cells #[] 5) (by omega)
          go_wp2
          go_loopw [8, 9, 52] (fun o _ i wr => ∃ k : Nat, k ≤ 8 ∧ i = .int .i64 k ∧ wr.ownsRow n0 5 1 o ((outB st).take (4 * k)).length (Lib.byteCells ((outB st).take (4 * k))) ∧ Row wr n6 23 (wordCells st.list) ∧ Below n0 w wr) (fun _ _ i _ => 8 - (intOf i).toNat)
          case atStart => exact ⟨0, Nat.zero_le _, rfl, hown0, hr6, hbel6⟩
          case round =>
            clear hr6 hbel6 hown0 h6lt
            obtain ⟨k, hk, rfl, hown0, hr6, hbel6⟩ := hrel
            by_cases hlk : k < 8
            · have hc := hr6.cell k
              rw [wordCells_get _ k (by rw [St.list_length]; exact hlk)] at hc
              have HO := Lib.hid (outB_snoc st k (by rw [St.list_length]; exact hlk))
              obtain ⟨x, hx⟩ : ∃ x, x = st.list[k]'(by rw [St.list_length]; exact hlk) := ⟨_, rfl⟩
              rw [← hx] at hc HO
              have hxl := x.toNat_lt
              have so := Sl.of_own hown0
              obtain ⟨Ao, co, rfl⟩ := own_form hown0
              have hol : ((outB st).take (4 * k)).length ≤ 32 := by rw [List.length_take, outB_length]; omega
              have h6 := hr6.lt
              clear hx hown0
              generalize (outB st).take (4 * k) = ob at *
              go_wp2_with (go_at_call 39; refine (refBig_any x.toNat 4 _ (by omega) (by omega)).mono ?_)
              rintro e w3 ⟨v3, rfl, g3⟩
              have s3 := gives_sl g3
              obtain ⟨A3, c3, rfl, _, _⟩ := s3.form
              have b3 := g3.2
              have so3 := so.below b3
              have hs3 := b3.size
              have hr63 := hr6.below b3 h6
              have hbel3 := hbel6.trans (b3.mono (by omega))
              have hal : ∀ o, Below w3.heap.size w3 (w3.alloc o) := fun o => Below.alloc (Below.refl _ _) (Nat.le_refl _) o
              clear g3 b3 hr6 hbel6 so
              go_wp2_with (go_at_call 16; refine (refJoin_any (w3.heap.size + 1) (w3.heap.size + 1) _ [ob, bigB x.toNat 4] _ (PartsO.two (Nat.lt_succ_self _) (by omega) (Row.new_ rfl rfl) ((so3.below ((hal _).mono hs3)).more (by omega)) (so3.off (by omega)) ((s3.below (hal _)).more (by omega)) (s3.off (by omega))) (by rw [asz]; exact Nat.le_refl _) (by rw [two_flat, List.length_append, bigB_length]; omega) (by simp)).mono ?_)
              rintro e w4 ⟨v4, rfl, g4⟩
              rw [two_flat, ← HO.out] at g4
              have o4 := Lib.hid (own_mono (base := n0) g4.1 (by rw [asz]; omega))
              have b4 := (hal _).trans (g4.2.mono (by rw [asz]; omega))
              have hr64 := hr63.below b4 (by omega)
              have hbel4 := hbel3.trans (b4.mono (by omega))
              clear g4 b4 hal s3 so3 hr63 hbel3 HO
              go_wp2
              go_roundw
              case rel => exact ⟨k + 1, by omega, by go_num, o4.out, hr64, hbel4⟩
              case measure => simp [intOf]; omega
            · obtain rfl : k = 8 := by omega
              rw [List.take_of_length_le (by rw [outB_length]; omega), HN.out] at hown0
              have HO := Lib.hid hown0
              clear hown0
              go_wp2
              go_ret
              rw [← hn0] at HO hbel6
              exact ⟨_, rfl, HO.out, hbel6⟩
end Go.Proofs.YthafhghnciofaaaDoor
