import Derived.Test.YtapjiknedghhfaaDoorSs7
/-
 A POLYNOMIAL OUT OF A ROW OF DRAWS: the first 256 numbers that are taken.
-/
namespace Go.Proofs.YtapjiknedghhfaaDoor
open Go.RowKit
set_option maxRecDepth 100000
/-- what one more draw leaves of those that were taken -/
def stepV (L : List Int) : Option Int → List Int
 | some v => if L.length < 256 then L ++ [v] else L
 | none => L
/-- what is taken of the first k draws -/
def accV (val : Nat → Option Int) : Nat → List Int
 | 0 => []
 | k + 1 => stepV (accV val k) (val k)
def lI (L : List Int) (i : Nat) : Int := L.getD i 0
theorem accV_len (val : Nat → Option Int) : ∀ k, (accV val k).length ≤ 256
 | 0 => by simp [accV]
 | k + 1 => by
  have h := accV_len val k
  show (stepV (accV val k) (val k)).length ≤ 256
  unfold stepV
  split
  ·split
   ·simp only [List.length_append, List.length_cons, List.length_nil]; omega
   ·exact h
  ·exact h
theorem accV_stay (val : Nat → Option Int) (k : Nat) (h : (accV val k).length = 256) : ∀ j, accV val (k + j) = accV val k
 | 0 => rfl
 | j + 1 => by
  show stepV (accV val (k + j)) (val (k + j)) = accV val k
  rw [accV_stay val k h j]
  unfold stepV
  split
  ·rw [if_neg (by omega)]
  ·rfl
theorem lI_push (L : List Int) (x : Int) : dup (lI L) L.length x = lI (L ++ [x]) := by
 funext i
 unfold dup lI
 simp only [List.getD_eq_getElem?_getD]
 by_cases h : i = L.length
 ·subst h; simp
 ·rw [if_neg h]
  by_cases h2 : i < L.length
  ·rw [List.getElem?_append_left h2]
  ·rw [List.getElem?_eq_none (by omega), List.getElem?_eq_none (by simp only [List.length_append, List.length_cons, List.length_nil]; omega)]
/-- n of the first k draws are taken; f holds them -/
def StV (val : Nat → Option Int) (k n : Nat) (f : Nat → Int) : Prop := (accV val k).length = n ∧ f = lI (accV val k)
section
variable {val : Nat → Option Int} {k n : Nat} {f : Nat → Int} {v : Int}
theorem StV.start (val : Nat → Option Int) : StV val 0 0 (fun _ => 0) := ⟨rfl, rfl⟩
theorem StV.skip (h : StV val k n f) (hx : val k = none) : StV val (k + 1) n f := by
 obtain ⟨h1, h2⟩ := h
 have hs : accV val (k + 1) = accV val k := by
  show stepV _ _ = _
  rw [hx]
  rfl
 exact ⟨by rw [hs]; exact h1, by rw [hs]; exact h2⟩
theorem StV.take (h : StV val k n f) (hx : val k = some v) (hn : n < 256) : StV val (k + 1) (n + 1) (dup f n v) := by
 obtain ⟨h1, h2⟩ := h
 have hs : accV val (k + 1) = accV val k ++ [v] := by
  show stepV _ _ = _
  rw [hx]
  exact if_pos (by omega)
 refine ⟨by rw [hs]; simp [h1], ?_⟩
 rw [hs, ← lI_push, h1, h2]
theorem StV.stay (h : StV val k 256 f) : StV val (k + 1) 256 f := by
 obtain ⟨h1, h2⟩ := h
 have hs := accV_stay val k h1 1
 exact ⟨by rw [hs]; exact h1, by rw [hs]; exact h2⟩
theorem StV.full (h : StV val k 256 f) {M : Nat} (hk : k ≤ M) : StV val M 256 f := by
 obtain ⟨h1, h2⟩ := h
 have hs := accV_stay val k h1 (M - k)
 rw [show k + (M - k) = M by omega] at hs
 exact ⟨by rw [hs]; exact h1, by rw [hs]; exact h2⟩
theorem StV.le (h : StV val k n f) : n ≤ 256 := by rw [← h.1]; exact accV_len val k
end
def svE (M : Nat) (val : Nat → Option Int) : Int := if (accV val M).length < 256 then 130 else 0
def svF (M : Nat) (val : Nat → Option Int) : Nat → Int := if (accV val M).length < 256 then fun _ => 0 else lI (accV val M)
section
variable {val : Nat → Option Int} {n M : Nat} {f : Nat → Int}
theorem StV.short (h : StV val M n f) (hn : n < 256) : svE M val = 130 ∧ svF M val = fun _ => 0 := by
 obtain ⟨h1, h2⟩ := h
 exact ⟨if_pos (by omega), if_pos (by omega)⟩
theorem StV.whole (h : StV val M 256 f) : svE M val = 0 ∧ svF M val = f := by
 obtain ⟨h1, h2⟩ := h
 exact ⟨if_neg (by omega), by rw [h2]; exact if_neg (by omega)⟩
end
def nb (l : List UInt8) (i : Nat) : Nat := (l.getD i 0).toNat
theorem nb_lt (l : List UInt8) (i : Nat) : nb l i < 256 := UInt8.toNat_lt _
theorem nb_get (l : List UInt8) {i : Nat} (h : i < l.length) : nb l i = l[i].toNat := by
 unfold nb
 rw [List.getD_eq_getElem?_getD, List.getElem?_eq_getElem h]
 rfl
theorem outs_take15 (rate : Nat) : ∀ (n N : Nat), n ≤ N → ∀ s : Sp, (s.outs rate N).take n = s.outs rate n
 | 0, _, _, _ => rfl
 | n + 1, 0, h, _ => absurd h (by omega)
 | n + 1, N + 1, h, s => congrArg (byteL (s.next rate).l ((s.next rate).at_ - 1) :: ·) (outs_take15 rate n N (by omega) (s.next rate))
theorem outs_add15 (rate : Nat) : ∀ (n m : Nat) (s : Sp), s.outs rate (n + m) = s.outs rate n ++ (s.behind rate n).outs rate m
 | 0, m, s => by rw [Nat.zero_add]; rfl
 | n + 1, m, s => by
  rw [show n + 1 + m = (n + m) + 1 by omega]
  exact congrArg (byteL (s.next rate).l ((s.next rate).at_ - 1) :: ·) (outs_add15 rate n m (s.next rate))
theorem outs_length15 (rate : Nat) : ∀ (n : Nat) (s : Sp), (s.outs rate n).length = n
 | 0, _ => rfl
 | n + 1, s => congrArg (· + 1) (outs_length15 rate n (s.next rate))
/-- the bytes of a piece are those of the whole stream -/
theorem piece_bytes (rate : Nat) (s : Sp) (N a m j : Nat) (ht : a + m ≤ N) (hj : j < m) : nb ((s.behind rate a).outs rate m) j = nb (s.outs rate N) (a + j) := by
 have h1 : s.outs rate N = s.outs rate a ++ ((s.behind rate a).outs rate m ++ ((s.behind rate a).behind rate m).outs rate (N - (a + m))) := by
  rw [← outs_add15, ← outs_add15]
  congr 1
  omega
 unfold nb
 rw [h1, List.getD_eq_getElem?_getD, List.getD_eq_getElem?_getD, List.getElem?_append_right (by rw [outs_length15]; omega), outs_length15, show a + j - a = j by omega, List.getElem?_append_left (by rw [outs_length15]; exact hj)]
theorem short_bytes (rate : Nat) (s : Sp) (n N i : Nat) (hn : n ≤ N) (hi : i < n) : nb (s.outs rate n) i = nb (s.outs rate N) i := by
 unfold nb
 rw [← outs_take15 rate n N hn s, List.getD_eq_getElem?_getD, List.getD_eq_getElem?_getD, List.getElem?_take_of_lt hi]
/-- a half byte, and the number that it makes -/
def halfB (b : Nat → Nat) (k : Nat) : Nat := if k % 2 = 0 then b (k / 2) % 16 else b (k / 2) / 16
def numB (e h : Nat) : Option Int := if e = 2 then (if h < 15 then some (qd (2 - ((h % 5 : Nat) : Int))) else none) else if h < 9 then some (qd (4 - (h : Int))) else none
def drwB (e : Nat) (b : Nat → Nat) (k : Nat) : Option Int := numB e (halfB b k)
/-- a group of three bytes, and the number that it makes -/
def grpU (b : Nat → Nat) (t : Nat) : Nat := b (3 * t) + 256 * b (3 * t + 1) + 65536 * (b (3 * t + 2) % 128)
def drwU (b : Nat → Nat) (t : Nat) : Option Int := if grpU b t < 8380417 then some (grpU b t : Int) else none
theorem half_even (b : Nat → Nat) (m : Nat) : halfB b (2 * m) = b m % 16 := by
 unfold halfB
 rw [if_pos (by omega), show 2 * m / 2 = m by omega]
theorem half_odd (b : Nat → Nat) (m : Nat) : halfB b (2 * m + 1) = b m / 16 := by
 unfold halfB
 rw [if_neg (by omega), show (2 * m + 1) / 2 = m by omega]
/-- the answer is that polynomial and that code; block g alone has turned -/
def CdG (w : World) (g : Nat) (p : Nat → Int) (c : Int) (e : Ending) (w' : World) : Prop := e = .returned (.tuple #[.agg (dc p).toArray, .int .i64 c]) ∧ But w.heap.size g w w'
end Go.Proofs.YtapjiknedghhfaaDoor

/-
 THE PROGRAM'S OWN bounded, to the number.
-/
namespace Go.Proofs.YtapjiknedghhfaaDoor
open Go.RowKit
set_option maxRecDepth 100000
set_option maxHeartbeats 8000000 in
theorem boundedX_2 (g : Nat) (S : Sp) (w : World) (hx : XofAt w g S 136 0) (hv : KVars w) (hg : 0 ≠ g) (ha : S.at_ ≤ 136) (hgl : g < w.heap.size) (val : Nat → Option Int) (hval : val = drwB 2 (nb (S.outs 136 1024))) : Calls Tryd.prog 21 #[.int .i32 2, .func (.func 19) #[.pointer (some ⟨g, 0, none⟩)] #[]] w (CdG w g (svF 2048 val) (svE 2048 val)) := by
 unfold CdG
 generalize hN : w.heap.size = N at *
 have HA : Shh (∀ t, (S.behind 136 (64 * t)).at_ ≤ 136 ∧ (S.behind 136 (64 * t)).behind 136 64 = S.behind 136 (64 * (t + 1)) ∧ ((S.behind 136 (64 * t)).outs 136 64).length = 64) := ⟨fun t => ⟨Sp.behind_at 136 (by decide) _ S ha, by rw [← behind_add15]; rfl, Sp.outs_length _ _ _⟩⟩
 have HG0 : Shh (0 ≠ g) := ⟨hg⟩
 have HX : Shh (∀ t k, t < 16 → k < 64 → nb ((S.behind 136 (64 * t)).outs 136 64) k < 256 ∧ val (128 * t + 2 * k) = numB 2 (nb ((S.behind 136 (64 * t)).outs 136 64) k % 16) ∧ val (128 * t + 2 * k + 1) = numB 2 (nb ((S.behind 136 (64 * t)).outs 136 64) k / 16)) := ⟨fun t k ht hk => by
  rw [piece_bytes 136 S 1024 (64 * t) 64 k (by omega) hk, hval, show 128 * t + 2 * k = 2 * (64 * t + k) by omega]
  exact ⟨nb_lt _ _, congrArg (numB 2) (half_even _ _), congrArg (numB 2) (half_odd _ _)⟩⟩
 obtain ⟨FF, hFF⟩ : ∃ F, F = svF 2048 val := ⟨_, rfl⟩
 obtain ⟨ee, hee⟩ : ∃ F, F = svE 2048 val := ⟨_, rfl⟩
 have HF : Shh ((∀ n f, StV val 2048 n f → n < 256 → ee = 130 ∧ FF = fun _ => 0) ∧ ∀ k f, k ≤ 2048 → StV val k 256 f → ee = 0 ∧ FF = f) := ⟨by
  rw [hFF, hee]
  exact ⟨fun n f h hn => h.short hn, fun k f hk h => (h.full hk).whole⟩⟩
 rw [← hFF, ← hee]
 clear hFF hee hval
 have HZ0 := Shh.mk (StV.start val)
 have HI0 : Shh (XofAt w g S 136 0 ∧ KVars w ∧ g < N ∧ w.heap.size = N) := ⟨hx, hv, hgl, hN⟩
 clear hx hv hg ha hgl hN
 go_enter Tryd.func21, Tryd.ntmps21
 go_wp2_with (refine wl_newzD 4 rfl rfl rfl ?_)
 intro N1 w2 hN1 r2 b2
 try simp only [Act.put, arr9, hd9, tl9]
 obtain rfl : N = N1 := HI0.out.2.2.2.symm.trans hN1.out.symm
 have HI1 : Shh (XofAt w2 g S 136 0 ∧ KVars w2 ∧ g < N ∧ Row w2 N 25 (dc fun _ => 0) ∧ Below N w w2) := by
  obtain ⟨h1, h2, h3, h5⟩ := HI0.out
  rw [h5] at b2
  exact ⟨⟨SpAt.below h1 (h5.symm ▸ b2), h2.step (h5.symm ▸ b2), h3, r2, b2⟩⟩
 clear r2 b2 hN1 HI0
 go_wp2
 try go_step3
 go_wp2_with (refine wl_newzD 8 rfl rfl rfl ?_)
 intro G w3 hG r3 b3
 try simp only [Act.put, arr9, hd9, tl9]
 have HJ : Shh (Row w3 N 25 (dc fun _ => 0) ∧ Row w3 G 25 (dc (fun _ => 0 : Nat → Int)) ∧ XofAt w3 g (S.behind 136 (64 * 0)) 136 (64 * 0) ∧ KVars w3 ∧ But N g w w3 ∧ g < N ∧ N < G ∧ StV val (128 * 0) (0) (fun _ => 0 : Nat → Int)) := by
  obtain ⟨h1, h2, h3, h5, h6⟩ := HI1.out
  exact ⟨⟨h5.go b3, r3, SpAt.below h1 b3, h2.step b3, But.of (h6.trans (b3.mono (Nat.le_of_lt h5.lt))) g, h3, by rw [hG.out]; exact h5.lt, HZ0.out⟩⟩
 clear r3 b3 HI1 hG
 go_wp2
 try go_step3
 try go_wp2
 go_loopg [9, 22] 16 (fun gk s9 s22 wr => ∃ (t n : Nat) (f : Nat → Int), t + gk = 16 ∧ s22 = .int .i64 (t : Int) ∧ s9 = .int .i64 (n : Int) ∧ n < 256 ∧ Shh (Row wr N 25 (dc fun _ => 0) ∧ Row wr G 25 (dc f) ∧ XofAt wr g (S.behind 136 (64 * t)) 136 (64 * t) ∧ KVars wr ∧ But N g w wr ∧ g < N ∧ N < G ∧ StV val (128 * t) (n) f))
 case atStart => exact ⟨0, 0, fun _ => 0, rfl, rfl, rfl, by decide, HJ⟩
 case round =>
  clear HJ
  obtain ⟨t, n, f, htk, rfl, rfl, hn, HI⟩ := hrel
  cases gk with
  | zero =>
   have ht : ¬ (t : Int) < 16 := by omega
   have hn2 : (n : Int) < 256 := by omega
   have hst := HI.out.2.2.2.2.2.2.2
   rw [show 128 * t = 2048 by omega] at hst
   obtain ⟨rfl, rfl⟩ := HF.out.1 n f hst hn
   clear hst HF HX
   have HO := HI
   go_wp2_with (first | refine wl_at 69 rfl (.agg (dc fun _ => 0).toArray) rfl (build_zero rfl) ?_ | refine wpList_store_any rfl 25 (.tmp 4) (.tmp 69) rfl N rfl (dc fun _ => 0) rfl 25 _ HO.out.1 (info_dD.trans (size_dc _)) (same_dc _ _) (dc_one _) ?_)
   intro w9 hr9 b9 _
   have hb9 : But N g w w9 := HO.out.2.2.2.2.1.trans (But.of (b9.under (Nat.le_of_lt HO.out.1.lt) (Nat.le_refl _)) g)
   go_wp2
   try rw [Exit.noGoto_ret]
   exact ret_row_slotS Tryd.results21 rfl rfl rfl hr9 Tryd.underlying25 rfl (info_dD.trans (size_dc _)) ⟨rfl, hb9⟩
  | succ g' =>
   have ht : (t : Int) < 16 := by omega
   have hax := HA.out t
   have CR : Shh (Calls Tryd.prog 19 #[.pointer (some ⟨g, 0, none⟩), .int .i64 64] wr (ReadIs wr g (S.behind 136 (64 * t)) 136 (64 * t) 64)) := ⟨read_any HI.out.2.2.1 HI.out.2.2.2.1 HG0.out hax.1 (by decide) (by decide) 64 (by decide) (by omega)⟩
   have HB := Shh.mk hax.2
   have hxx := fun k => HX.out t k (by omega)
   clear hax
   go_wp2_with (go_at_call 19; refine (CR.out).mono ?_)
   rintro e w4 ⟨rfl, r4, x4, b4⟩
   rw [HB.out.1] at x4
   generalize hL : (S.behind 136 (64 * t)).outs 136 64 = L at *
   have HXX := Shh.mk hxx
   clear hxx
   generalize hq : wr.heap.size = q at *
   have HJ : Shh (Row w4 N 25 (dc fun _ => 0) ∧ Row w4 G 25 (dc f) ∧ XofAt w4 g (S.behind 136 (64 * (t + 1))) 136 (64 * (t + 1)) ∧ KVars w4 ∧ But N g w w4 ∧ g < N ∧ N < G ∧ Row w4 q 5 (Lib.byteCells L) ∧ G < q ∧ StV val (128 * t + 2 * 0) (n) f) := by
    obtain ⟨h1, h2, h3, h4, h5, h6, h7, h8⟩ := HI.out
    rw [← hq] at b4
    exact ⟨⟨b4.row h1 h1.lt (by omega), b4.row h2 h2.lt (by omega), x4, h4.but b4 HG0.out, h5.trans (b4.mono (Nat.le_of_lt h1.lt)), h6, h7, r4, by rw [← hq]; exact h2.lt, h8⟩⟩
   have HLL := Shh.mk HB.out.2
   clear r4 x4 b4 HI CR HB hq hL
   go_wp2
   go_loopg [9, 35] 64 (fun gm s9 s35 wq => ∃ (k n2 : Nat) (f2 : Nat → Int), k + gm = 64 ∧ s35 = .int .i64 (k : Int) ∧ s9 = .int .i64 (n2 : Int) ∧ n2 < 256 ∧ Shh (Row wq N 25 (dc fun _ => 0) ∧ Row wq G 25 (dc f2) ∧ XofAt wq g (S.behind 136 (64 * (t + 1))) 136 (64 * (t + 1)) ∧ KVars wq ∧ But N g w wq ∧ g < N ∧ N < G ∧ Row wq q 5 (Lib.byteCells L) ∧ G < q ∧ StV val (128 * t + 2 * k) (n2) f2))
   case atStart => exact ⟨0, n, f, rfl, rfl, rfl, hn, HJ⟩
   case round =>
    clear HJ
    obtain ⟨k, n2, f2, hkm, rfl, rfl, hn2, HI⟩ := hrel
    cases gk with
    | zero =>
     have hk : ¬ (k : Int) < 64 := by omega
     have HI2 : Shh (Row wr N 25 (dc fun _ => 0) ∧ Row wr G 25 (dc f2) ∧ XofAt wr g (S.behind 136 (64 * (t + 1))) 136 (64 * (t + 1)) ∧ KVars wr ∧ But N g w wr ∧ g < N ∧ N < G ∧ StV val (128 * (t + 1)) (n2) f2) := by
      obtain ⟨h1, h2, h3, h4, h5, h6, h7, _, _, h8⟩ := HI.out
      rw [show 128 * t + 2 * k = 128 * (t + 1) by omega] at h8
      exact ⟨⟨h1, h2, h3, h4, h5, h6, h7, h8⟩⟩
     clear HI
     go_wp2
     go_roundg g'
     case measure => omega
     case rel => exact ⟨t + 1, n2, f2, by omega, by go_num, rfl, hn2, HI2⟩
    | succ h' =>
     have hk : (k : Int) < 64 := by omega
     have hk2 : k < 64 := by omega
     have hkl : k < L.length := by rw [HLL.out]; exact hk2
     have c0 := HI.out.2.2.2.2.2.2.2.1.cell k
     rw [byteCells_at L hkl] at c0
     have hb := UInt8.toNat_lt L[k]
     have hxx := HXX.out k hk2
     rw [nb_get L hkl] at hxx
     generalize L[k].toNat = bv at *
     have HV := Shh.mk hxx.2
     clear hxx
     have C0 := Shh.mk c0
     clear c0 hkl
     obtain ⟨m1, Hm1⟩ : ∃ b, Shh (b = bv % 16) := ⟨_, ⟨rfl⟩⟩
     obtain ⟨m2, Hm2⟩ : ∃ b, Shh (b = bv / 16) := ⟨_, ⟨rfl⟩⟩
     have hm1 : m1 < 16 := by have := Hm1.out; omega
     have hm2 : m2 < 16 := by have := Hm2.out; omega
     go_wp2_with (first | refine wl_at 37 rfl (.pointer (some ⟨q, k, none⟩)) rfl (at_u8z hk2 rfl rfl rfl) ?_ | refine wl_at 38 rfl (.int .u8 (bv : Int)) rfl (load_u8s rfl C0.out rfl) ?_ | refine wl_at 40 rfl (.int .u8 (m1 : Int)) rfl (rem_8 Hm1.out hb rfl rfl) ?_ | refine wl_at 41 rfl (.int .i32 (m1 : Int)) rfl (conv_8d (by omega) rfl rfl) ?_ | refine wl_at 43 rfl (.int .u8 (m2 : Int)) rfl (quo_8 Hm2.out hb rfl rfl) ?_ | refine wl_at 44 rfl (.int .i32 (m2 : Int)) rfl (conv_8d (by omega) rfl rfl) ?_)
     have HT : Shh (∀ j, j < 2 → ∃ x : Nat, [Value.int .i32 (m1 : Int), Value.int .i32 (m2 : Int)][j]? = some (.int .i32 (x : Int)) ∧ x < 16 ∧ val (128 * t + 2 * k + j) = numB 2 x) := ⟨fun j hj => by
      match j, hj with
      | 0, _ => exact ⟨m1, rfl, hm1, by rw [Hm1.out]; exact HV.out.1⟩
      | 1, _ => exact ⟨m2, rfl, hm2, by rw [Hm2.out]; exact HV.out.2⟩⟩
     clear Hm1 Hm2 hb C0 HV
     go_loopg [9, 46] 2 (fun gj s9 s46 wq => ∃ (j n3 : Nat) (f3 : Nat → Int), j + gj = 2 ∧ s46 = .int .i64 (j : Int) ∧ s9 = .int .i64 (n3 : Int) ∧ n3 < 256 ∧ Shh (Row wq N 25 (dc fun _ => 0) ∧ Row wq G 25 (dc f3) ∧ XofAt wq g (S.behind 136 (64 * (t + 1))) 136 (64 * (t + 1)) ∧ KVars wq ∧ But N g w wq ∧ g < N ∧ N < G ∧ Row wq q 5 (Lib.byteCells L) ∧ G < q ∧ StV val (128 * t + 2 * k + j) (n3) f3))
     case atStart => exact ⟨0, n2, f2, rfl, rfl, rfl, hn2, HI⟩
     case round =>
      clear HI
      obtain ⟨j, n3, f3, hjk, rfl, rfl, hn3, HK⟩ := hrel
      cases gk with
      | zero =>
       have hj : ¬ (j : Int) < 2 := by omega
       have HK2 : Shh (Row wr N 25 (dc fun _ => 0) ∧ Row wr G 25 (dc f3) ∧ XofAt wr g (S.behind 136 (64 * (t + 1))) 136 (64 * (t + 1)) ∧ KVars wr ∧ But N g w wr ∧ g < N ∧ N < G ∧ Row wr q 5 (Lib.byteCells L) ∧ G < q ∧ StV val (128 * t + 2 * (k + 1)) (n3) f3) := by
        have h := HK.out
        rw [show 128 * t + 2 * k + j = 128 * t + 2 * (k + 1) by omega] at h
        exact ⟨h⟩
       clear HT HK
       go_wp2
       go_roundg h'
       case measure => omega
       case rel => exact ⟨k + 1, n3, f3, by omega, by go_num, rfl, hn3, HK2⟩
      | succ i' =>
       have hj : (j : Int) < 2 := by omega
       have hj2 : j < 2 := by omega
       obtain ⟨x, hx1, hx2, hx3⟩ := HT.out j hj2
       have HZ := Shh.mk hx1
       clear hx1 HT
       by_cases hx : x < 15
       ·have hxl : ¬ (15 : Int) ≤ (x : Int) := by omega
        obtain ⟨r, Hr, hr⟩ : ∃ r : Int, Shh (r = (x : Int).tmod 5 ∧ -2147483648 ≤ r ∧ r ≤ 2147483647) ∧ 0 ≤ r ∧ r < 5 := ⟨(x : Int) % 5, ⟨by rw [Int.tmod_eq_emod_of_nonneg (by omega)], by omega, by omega⟩, by omega⟩
        obtain ⟨d, Hd⟩ : ∃ d : Int, Shh (d = 2 - r ∧ -2147483648 ≤ d ∧ d ≤ 2147483647) := ⟨_, ⟨rfl, by omega, by omega⟩⟩
        have HRS : Shh (∀ W, Calls Tryd.prog 37 #[.int .i32 d] W (I32Is W (qd d))) := ⟨fun W => residue_any d Hd.out.2 W⟩
        have hok : val (128 * t + 2 * k + j) = some (qd d) := by
         rw [hx3]
         unfold numB
         have h1 := Hd.out.1
         have h2 := Hr.out.1
         rw [Int.tmod_eq_emod_of_nonneg (by omega)] at h2
         rw [if_pos rfl, if_pos hx, show (2 : Int) - ((x % 5 : Nat) : Int) = d by omega]
        have HOK := Shh.mk (fun h : n3 < 256 => HK.out.2.2.2.2.2.2.2.2.2.take hok h)
        generalize qd d = y at *
        clear hr hx hx3 hok
        go_wp2_with (first | refine wl_at 48 rfl (.int .i32 (x : Int)) rfl (idx_two32 hj2 HZ.out rfl rfl rfl) ?_ | refine wl_at 56 rfl (.int .i32 (r : Int)) rfl (rem_d Hr.out (by decide) rfl rfl rfl) ?_ | refine wl_at 57 rfl (.int .i32 (d : Int)) rfl (sub_d Hd.out rfl rfl rfl) ?_ | (go_at_call 37; refine (HRS.out _).mono ?_))
        rintro e w5 ⟨rfl, rfl⟩
        by_cases hf : n3 = 255
        ·subst hf
         go_wp2_with (first | refine wl_at 59 rfl (.pointer (some ⟨G, 255, none⟩)) rfl (at_dD (by decide) rfl rfl rfl) ?_ | refine wl_storeD rfl (k := 255) (by decide) rfl rfl rfl HK.out.2.1 ?_)
         intro w5 r5 b5 z5
         have HO : Shh (Row w5 N 25 (dc fun _ => 0) ∧ Row w5 G 25 (dc (dup f3 255 y)) ∧ But N g w w5 ∧ StV val (128 * t + 2 * k + j + 1) 256 (dup f3 255 y)) := by
          obtain ⟨h1, h2, h3, h4, h5, h6, h7, _, _, h8⟩ := HK.out
          exact ⟨⟨b5.row h1 h1.lt (by omega), r5, h5.trans (But.of (b5.under (Nat.le_of_lt h1.lt) (Nat.le_of_lt h7)) g), HOK.out (by decide)⟩⟩
         clear r5 b5 z5 HK HOK
         obtain ⟨rfl, rfl⟩ := HF.out.2 _ _ (by omega) HO.out.2.2.2
         go_wp2_with (first
          | refine wpList_load_any rfl 25 (.tmp 8) rfl G rfl 25 (dc (dup f3 255 y)) (.array 256 21) HO.out.2.1 Tryd.underlying25 rfl (info_dD.trans (size_dc _)) ?_
          | refine wpList_store_any rfl 25 (.tmp 4) (.tmp 70) rfl N rfl (dc (dup f3 255 y)) rfl 25 _ HO.out.1 (info_dD.trans (size_dc _)) (same_dc _ _) (dc_one _) ?_)
         intro w9 hr9 b9 _
         have hb9 : But N g w w9 := HO.out.2.2.1.trans (But.of (b9.under (Nat.le_of_lt HO.out.1.lt) (Nat.le_refl _)) g)
         go_wp2
         try rw [Exit.noGoto_ret]
         exact ret_row_slotS Tryd.results21 rfl rfl rfl hr9 Tryd.underlying25 rfl (info_dD.trans (size_dc _)) ⟨rfl, hb9⟩
        ·have hn4 : n3 + 1 < 256 := by omega
         have hf2 : ¬ (n3 : Int) + 1 = 256 := by omega
         go_wp2_with (first | refine wl_at 59 rfl (.pointer (some ⟨G, n3, none⟩)) rfl (at_dD hn3 rfl rfl rfl) ?_ | refine wl_storeD rfl hn3 rfl rfl rfl HK.out.2.1 ?_)
         intro w5 r5 b5 z5
         have HO : Shh (Row w5 N 25 (dc fun _ => 0) ∧ Row w5 G 25 (dc (dup f3 n3 y)) ∧ XofAt w5 g (S.behind 136 (64 * (t + 1))) 136 (64 * (t + 1)) ∧ KVars w5 ∧ But N g w w5 ∧ g < N ∧ N < G ∧ Row w5 q 5 (Lib.byteCells L) ∧ G < q ∧ StV val (128 * t + 2 * k + j + 1) (n3 + 1) (dup f3 n3 y)) := by
          obtain ⟨h1, h2, h3, h4, h5, h6, h7, h9, h10, h8⟩ := HK.out
          have hB := b5.under (Nat.le_of_lt h1.lt) (Nat.le_of_lt h7)
          have hB2 : Below G wr w5 := b5.under (Nat.le_of_lt h2.lt) (Nat.le_refl _)
          exact ⟨⟨b5.row h1 h1.lt (by omega), r5, ⟨b5.row h3.row h3.lt (by omega), rfl, h3.len⟩, h4.under hB2 (by have := h4.pos; have := h3.lt; omega), h5.trans (But.of hB g), h6, h7, b5.row h9 h9.lt (by omega), h10, HOK.out hn3⟩⟩
         clear r5 b5 z5 HK HOK
         go_wp2
         go_roundg i'
         case measure => omega
         case rel => exact ⟨j + 1, n3 + 1, _, by omega, by go_num, by go_num, hn4, HO⟩
       ·have hxl : (15 : Int) ≤ (x : Int) := by omega
        have hno : val (128 * t + 2 * k + j) = none := by
         rw [hx3]
         unfold numB
         rw [if_pos rfl, if_neg hx]
        have HO : Shh (Row wr N 25 (dc fun _ => 0) ∧ Row wr G 25 (dc f3) ∧ XofAt wr g (S.behind 136 (64 * (t + 1))) 136 (64 * (t + 1)) ∧ KVars wr ∧ But N g w wr ∧ g < N ∧ N < G ∧ Row wr q 5 (Lib.byteCells L) ∧ G < q ∧ StV val (128 * t + 2 * k + j + 1) (n3) f3) := by
         obtain ⟨h1, h2, h3, h4, h5, h6, h7, h9, h10, h8⟩ := HK.out
         exact ⟨⟨h1, h2, h3, h4, h5, h6, h7, h9, h10, h8.skip hno⟩⟩
        clear hx hx2 hx3 hno HK
        go_wp2_with (refine wl_at 48 rfl (.int .i32 (x : Int)) rfl (idx_two32 hj2 HZ.out rfl rfl rfl) ?_)
        go_roundg i'
        case measure => omega
        case rel => exact ⟨j + 1, n3, f3, by omega, by go_num, rfl, hn3, HO⟩
set_option maxHeartbeats 8000000 in
theorem boundedX_4 (g : Nat) (S : Sp) (w : World) (hx : XofAt w g S 136 0) (hv : KVars w) (hg : 0 ≠ g) (ha : S.at_ ≤ 136) (hgl : g < w.heap.size) (val : Nat → Option Int) (hval : val = drwB 4 (nb (S.outs 136 1024))) : Calls Tryd.prog 21 #[.int .i32 4, .func (.func 19) #[.pointer (some ⟨g, 0, none⟩)] #[]] w (CdG w g (svF 2048 val) (svE 2048 val)) := by
 unfold CdG
 generalize hN : w.heap.size = N at *
 have HA : Shh (∀ t, (S.behind 136 (64 * t)).at_ ≤ 136 ∧ (S.behind 136 (64 * t)).behind 136 64 = S.behind 136 (64 * (t + 1)) ∧ ((S.behind 136 (64 * t)).outs 136 64).length = 64) := ⟨fun t => ⟨Sp.behind_at 136 (by decide) _ S ha, by rw [← behind_add15]; rfl, Sp.outs_length _ _ _⟩⟩
 have HG0 : Shh (0 ≠ g) := ⟨hg⟩
 have HX : Shh (∀ t k, t < 16 → k < 64 → nb ((S.behind 136 (64 * t)).outs 136 64) k < 256 ∧ val (128 * t + 2 * k) = numB 4 (nb ((S.behind 136 (64 * t)).outs 136 64) k % 16) ∧ val (128 * t + 2 * k + 1) = numB 4 (nb ((S.behind 136 (64 * t)).outs 136 64) k / 16)) := ⟨fun t k ht hk => by
  rw [piece_bytes 136 S 1024 (64 * t) 64 k (by omega) hk, hval, show 128 * t + 2 * k = 2 * (64 * t + k) by omega]
  exact ⟨nb_lt _ _, congrArg (numB 4) (half_even _ _), congrArg (numB 4) (half_odd _ _)⟩⟩
 obtain ⟨FF, hFF⟩ : ∃ F, F = svF 2048 val := ⟨_, rfl⟩
 obtain ⟨ee, hee⟩ : ∃ F, F = svE 2048 val := ⟨_, rfl⟩
 have HF : Shh ((∀ n f, StV val 2048 n f → n < 256 → ee = 130 ∧ FF = fun _ => 0) ∧ ∀ k f, k ≤ 2048 → StV val k 256 f → ee = 0 ∧ FF = f) := ⟨by
  rw [hFF, hee]
  exact ⟨fun n f h hn => h.short hn, fun k f hk h => (h.full hk).whole⟩⟩
 rw [← hFF, ← hee]
 clear hFF hee hval
 have HZ0 := Shh.mk (StV.start val)
 have HI0 : Shh (XofAt w g S 136 0 ∧ KVars w ∧ g < N ∧ w.heap.size = N) := ⟨hx, hv, hgl, hN⟩
 clear hx hv hg ha hgl hN
 go_enter Tryd.func21, Tryd.ntmps21
 go_wp2_with (refine wl_newzD 4 rfl rfl rfl ?_)
 intro N1 w2 hN1 r2 b2
 try simp only [Act.put, arr9, hd9, tl9]
 obtain rfl : N = N1 := HI0.out.2.2.2.symm.trans hN1.out.symm
 have HI1 : Shh (XofAt w2 g S 136 0 ∧ KVars w2 ∧ g < N ∧ Row w2 N 25 (dc fun _ => 0) ∧ Below N w w2) := by
  obtain ⟨h1, h2, h3, h5⟩ := HI0.out
  rw [h5] at b2
  exact ⟨⟨SpAt.below h1 (h5.symm ▸ b2), h2.step (h5.symm ▸ b2), h3, r2, b2⟩⟩
 clear r2 b2 hN1 HI0
 go_wp2
 try go_step3
 go_wp2_with (refine wl_newzD 8 rfl rfl rfl ?_)
 intro G w3 hG r3 b3
 try simp only [Act.put, arr9, hd9, tl9]
 have HJ : Shh (Row w3 N 25 (dc fun _ => 0) ∧ Row w3 G 25 (dc (fun _ => 0 : Nat → Int)) ∧ XofAt w3 g (S.behind 136 (64 * 0)) 136 (64 * 0) ∧ KVars w3 ∧ But N g w w3 ∧ g < N ∧ N < G ∧ StV val (128 * 0) (0) (fun _ => 0 : Nat → Int)) := by
  obtain ⟨h1, h2, h3, h5, h6⟩ := HI1.out
  exact ⟨⟨h5.go b3, r3, SpAt.below h1 b3, h2.step b3, But.of (h6.trans (b3.mono (Nat.le_of_lt h5.lt))) g, h3, by rw [hG.out]; exact h5.lt, HZ0.out⟩⟩
 clear r3 b3 HI1 hG
 go_wp2
 try go_step3
 try go_wp2
 go_loopg [9, 22] 16 (fun gk s9 s22 wr => ∃ (t n : Nat) (f : Nat → Int), t + gk = 16 ∧ s22 = .int .i64 (t : Int) ∧ s9 = .int .i64 (n : Int) ∧ n < 256 ∧ Shh (Row wr N 25 (dc fun _ => 0) ∧ Row wr G 25 (dc f) ∧ XofAt wr g (S.behind 136 (64 * t)) 136 (64 * t) ∧ KVars wr ∧ But N g w wr ∧ g < N ∧ N < G ∧ StV val (128 * t) (n) f))
 case atStart => exact ⟨0, 0, fun _ => 0, rfl, rfl, rfl, by decide, HJ⟩
 case round =>
  clear HJ
  obtain ⟨t, n, f, htk, rfl, rfl, hn, HI⟩ := hrel
  cases gk with
  | zero =>
   have ht : ¬ (t : Int) < 16 := by omega
   have hn2 : (n : Int) < 256 := by omega
   have hst := HI.out.2.2.2.2.2.2.2
   rw [show 128 * t = 2048 by omega] at hst
   obtain ⟨rfl, rfl⟩ := HF.out.1 n f hst hn
   clear hst HF HX
   have HO := HI
   go_wp2_with (first | refine wl_at 69 rfl (.agg (dc fun _ => 0).toArray) rfl (build_zero rfl) ?_ | refine wpList_store_any rfl 25 (.tmp 4) (.tmp 69) rfl N rfl (dc fun _ => 0) rfl 25 _ HO.out.1 (info_dD.trans (size_dc _)) (same_dc _ _) (dc_one _) ?_)
   intro w9 hr9 b9 _
   have hb9 : But N g w w9 := HO.out.2.2.2.2.1.trans (But.of (b9.under (Nat.le_of_lt HO.out.1.lt) (Nat.le_refl _)) g)
   go_wp2
   try rw [Exit.noGoto_ret]
   exact ret_row_slotS Tryd.results21 rfl rfl rfl hr9 Tryd.underlying25 rfl (info_dD.trans (size_dc _)) ⟨rfl, hb9⟩
  | succ g' =>
   have ht : (t : Int) < 16 := by omega
   have hax := HA.out t
   have CR : Shh (Calls Tryd.prog 19 #[.pointer (some ⟨g, 0, none⟩), .int .i64 64] wr (ReadIs wr g (S.behind 136 (64 * t)) 136 (64 * t) 64)) := ⟨read_any HI.out.2.2.1 HI.out.2.2.2.1 HG0.out hax.1 (by decide) (by decide) 64 (by decide) (by omega)⟩
   have HB := Shh.mk hax.2
   have hxx := fun k => HX.out t k (by omega)
   clear hax
   go_wp2_with (go_at_call 19; refine (CR.out).mono ?_)
   rintro e w4 ⟨rfl, r4, x4, b4⟩
   rw [HB.out.1] at x4
   generalize hL : (S.behind 136 (64 * t)).outs 136 64 = L at *
   have HXX := Shh.mk hxx
   clear hxx
   generalize hq : wr.heap.size = q at *
   have HJ : Shh (Row w4 N 25 (dc fun _ => 0) ∧ Row w4 G 25 (dc f) ∧ XofAt w4 g (S.behind 136 (64 * (t + 1))) 136 (64 * (t + 1)) ∧ KVars w4 ∧ But N g w w4 ∧ g < N ∧ N < G ∧ Row w4 q 5 (Lib.byteCells L) ∧ G < q ∧ StV val (128 * t + 2 * 0) (n) f) := by
    obtain ⟨h1, h2, h3, h4, h5, h6, h7, h8⟩ := HI.out
    rw [← hq] at b4
    exact ⟨⟨b4.row h1 h1.lt (by omega), b4.row h2 h2.lt (by omega), x4, h4.but b4 HG0.out, h5.trans (b4.mono (Nat.le_of_lt h1.lt)), h6, h7, r4, by rw [← hq]; exact h2.lt, h8⟩⟩
   have HLL := Shh.mk HB.out.2
   clear r4 x4 b4 HI CR HB hq hL
   go_wp2
   go_loopg [9, 35] 64 (fun gm s9 s35 wq => ∃ (k n2 : Nat) (f2 : Nat → Int), k + gm = 64 ∧ s35 = .int .i64 (k : Int) ∧ s9 = .int .i64 (n2 : Int) ∧ n2 < 256 ∧ Shh (Row wq N 25 (dc fun _ => 0) ∧ Row wq G 25 (dc f2) ∧ XofAt wq g (S.behind 136 (64 * (t + 1))) 136 (64 * (t + 1)) ∧ KVars wq ∧ But N g w wq ∧ g < N ∧ N < G ∧ Row wq q 5 (Lib.byteCells L) ∧ G < q ∧ StV val (128 * t + 2 * k) (n2) f2))
   case atStart => exact ⟨0, n, f, rfl, rfl, rfl, hn, HJ⟩
   case round =>
    clear HJ
    obtain ⟨k, n2, f2, hkm, rfl, rfl, hn2, HI⟩ := hrel
    cases gk with
    | zero =>
     have hk : ¬ (k : Int) < 64 := by omega
     have HI2 : Shh (Row wr N 25 (dc fun _ => 0) ∧ Row wr G 25 (dc f2) ∧ XofAt wr g (S.behind 136 (64 * (t + 1))) 136 (64 * (t + 1)) ∧ KVars wr ∧ But N g w wr ∧ g < N ∧ N < G ∧ StV val (128 * (t + 1)) (n2) f2) := by
      obtain ⟨h1, h2, h3, h4, h5, h6, h7, _, _, h8⟩ := HI.out
      rw [show 128 * t + 2 * k = 128 * (t + 1) by omega] at h8
      exact ⟨⟨h1, h2, h3, h4, h5, h6, h7, h8⟩⟩
     clear HI
     go_wp2
     go_roundg g'
     case measure => omega
     case rel => exact ⟨t + 1, n2, f2, by omega, by go_num, rfl, hn2, HI2⟩
    | succ h' =>
     have hk : (k : Int) < 64 := by omega
     have hk2 : k < 64 := by omega
     have hkl : k < L.length := by rw [HLL.out]; exact hk2
     have c0 := HI.out.2.2.2.2.2.2.2.1.cell k
     rw [byteCells_at L hkl] at c0
     have hb := UInt8.toNat_lt L[k]
     have hxx := HXX.out k hk2
     rw [nb_get L hkl] at hxx
     generalize L[k].toNat = bv at *
     have HV := Shh.mk hxx.2
     clear hxx
     have C0 := Shh.mk c0
     clear c0 hkl
     obtain ⟨m1, Hm1⟩ : ∃ b, Shh (b = bv % 16) := ⟨_, ⟨rfl⟩⟩
     obtain ⟨m2, Hm2⟩ : ∃ b, Shh (b = bv / 16) := ⟨_, ⟨rfl⟩⟩
     have hm1 : m1 < 16 := by have := Hm1.out; omega
     have hm2 : m2 < 16 := by have := Hm2.out; omega
     go_wp2_with (first | refine wl_at 37 rfl (.pointer (some ⟨q, k, none⟩)) rfl (at_u8z hk2 rfl rfl rfl) ?_ | refine wl_at 38 rfl (.int .u8 (bv : Int)) rfl (load_u8s rfl C0.out rfl) ?_ | refine wl_at 40 rfl (.int .u8 (m1 : Int)) rfl (rem_8 Hm1.out hb rfl rfl) ?_ | refine wl_at 41 rfl (.int .i32 (m1 : Int)) rfl (conv_8d (by omega) rfl rfl) ?_ | refine wl_at 43 rfl (.int .u8 (m2 : Int)) rfl (quo_8 Hm2.out hb rfl rfl) ?_ | refine wl_at 44 rfl (.int .i32 (m2 : Int)) rfl (conv_8d (by omega) rfl rfl) ?_)
     have HT : Shh (∀ j, j < 2 → ∃ x : Nat, [Value.int .i32 (m1 : Int), Value.int .i32 (m2 : Int)][j]? = some (.int .i32 (x : Int)) ∧ x < 16 ∧ val (128 * t + 2 * k + j) = numB 4 x) := ⟨fun j hj => by
      match j, hj with
      | 0, _ => exact ⟨m1, rfl, hm1, by rw [Hm1.out]; exact HV.out.1⟩
      | 1, _ => exact ⟨m2, rfl, hm2, by rw [Hm2.out]; exact HV.out.2⟩⟩
     clear Hm1 Hm2 hb C0 HV
     go_loopg [9, 46] 2 (fun gj s9 s46 wq => ∃ (j n3 : Nat) (f3 : Nat → Int), j + gj = 2 ∧ s46 = .int .i64 (j : Int) ∧ s9 = .int .i64 (n3 : Int) ∧ n3 < 256 ∧ Shh (Row wq N 25 (dc fun _ => 0) ∧ Row wq G 25 (dc f3) ∧ XofAt wq g (S.behind 136 (64 * (t + 1))) 136 (64 * (t + 1)) ∧ KVars wq ∧ But N g w wq ∧ g < N ∧ N < G ∧ Row wq q 5 (Lib.byteCells L) ∧ G < q ∧ StV val (128 * t + 2 * k + j) (n3) f3))
     case atStart => exact ⟨0, n2, f2, rfl, rfl, rfl, hn2, HI⟩
     case round =>
      clear HI
      obtain ⟨j, n3, f3, hjk, rfl, rfl, hn3, HK⟩ := hrel
      cases gk with
      | zero =>
       have hj : ¬ (j : Int) < 2 := by omega
       have HK2 : Shh (Row wr N 25 (dc fun _ => 0) ∧ Row wr G 25 (dc f3) ∧ XofAt wr g (S.behind 136 (64 * (t + 1))) 136 (64 * (t + 1)) ∧ KVars wr ∧ But N g w wr ∧ g < N ∧ N < G ∧ Row wr q 5 (Lib.byteCells L) ∧ G < q ∧ StV val (128 * t + 2 * (k + 1)) (n3) f3) := by
        have h := HK.out
        rw [show 128 * t + 2 * k + j = 128 * t + 2 * (k + 1) by omega] at h
        exact ⟨h⟩
       clear HT HK
       go_wp2
       go_roundg h'
       case measure => omega
       case rel => exact ⟨k + 1, n3, f3, by omega, by go_num, rfl, hn3, HK2⟩
      | succ i' =>
       have hj : (j : Int) < 2 := by omega
       have hj2 : j < 2 := by omega
       obtain ⟨x, hx1, hx2, hx3⟩ := HT.out j hj2
       have HZ := Shh.mk hx1
       clear hx1 HT
       by_cases hx : x < 9
       ·have hxl : ¬ (9 : Int) ≤ (x : Int) := by omega
        obtain ⟨r, Hr, hr⟩ : ∃ r : Int, Shh (r = (x : Int).tmod 9 ∧ -2147483648 ≤ r ∧ r ≤ 2147483647) ∧ 0 ≤ r ∧ r < 9 := ⟨(x : Int) % 9, ⟨by rw [Int.tmod_eq_emod_of_nonneg (by omega)], by omega, by omega⟩, by omega⟩
        obtain ⟨d, Hd⟩ : ∃ d : Int, Shh (d = 4 - r ∧ -2147483648 ≤ d ∧ d ≤ 2147483647) := ⟨_, ⟨rfl, by omega, by omega⟩⟩
        have HRS : Shh (∀ W, Calls Tryd.prog 37 #[.int .i32 d] W (I32Is W (qd d))) := ⟨fun W => residue_any d Hd.out.2 W⟩
        have hok : val (128 * t + 2 * k + j) = some (qd d) := by
         rw [hx3]
         unfold numB
         have h1 := Hd.out.1
         have h2 := Hr.out.1
         rw [Int.tmod_eq_emod_of_nonneg (by omega)] at h2
         rw [if_neg (by decide), if_pos hx, show (4 : Int) - (x : Int) = d by omega]
        have HOK := Shh.mk (fun h : n3 < 256 => HK.out.2.2.2.2.2.2.2.2.2.take hok h)
        generalize qd d = y at *
        clear hr hx hx3 hok
        go_wp2_with (first | refine wl_at 48 rfl (.int .i32 (x : Int)) rfl (idx_two32 hj2 HZ.out rfl rfl rfl) ?_ | refine wl_at 56 rfl (.int .i32 (r : Int)) rfl (rem_d Hr.out (by decide) rfl rfl rfl) ?_ | refine wl_at 57 rfl (.int .i32 (d : Int)) rfl (sub_d Hd.out rfl rfl rfl) ?_ | (go_at_call 37; refine (HRS.out _).mono ?_))
        rintro e w5 ⟨rfl, rfl⟩
        by_cases hf : n3 = 255
        ·subst hf
         go_wp2_with (first | refine wl_at 59 rfl (.pointer (some ⟨G, 255, none⟩)) rfl (at_dD (by decide) rfl rfl rfl) ?_ | refine wl_storeD rfl (k := 255) (by decide) rfl rfl rfl HK.out.2.1 ?_)
         intro w5 r5 b5 z5
         have HO : Shh (Row w5 N 25 (dc fun _ => 0) ∧ Row w5 G 25 (dc (dup f3 255 y)) ∧ But N g w w5 ∧ StV val (128 * t + 2 * k + j + 1) 256 (dup f3 255 y)) := by
          obtain ⟨h1, h2, h3, h4, h5, h6, h7, _, _, h8⟩ := HK.out
          exact ⟨⟨b5.row h1 h1.lt (by omega), r5, h5.trans (But.of (b5.under (Nat.le_of_lt h1.lt) (Nat.le_of_lt h7)) g), HOK.out (by decide)⟩⟩
         clear r5 b5 z5 HK HOK
         obtain ⟨rfl, rfl⟩ := HF.out.2 _ _ (by omega) HO.out.2.2.2
         go_wp2_with (first
          | refine wpList_load_any rfl 25 (.tmp 8) rfl G rfl 25 (dc (dup f3 255 y)) (.array 256 21) HO.out.2.1 Tryd.underlying25 rfl (info_dD.trans (size_dc _)) ?_
          | refine wpList_store_any rfl 25 (.tmp 4) (.tmp 70) rfl N rfl (dc (dup f3 255 y)) rfl 25 _ HO.out.1 (info_dD.trans (size_dc _)) (same_dc _ _) (dc_one _) ?_)
         intro w9 hr9 b9 _
         have hb9 : But N g w w9 := HO.out.2.2.1.trans (But.of (b9.under (Nat.le_of_lt HO.out.1.lt) (Nat.le_refl _)) g)
         go_wp2
         try rw [Exit.noGoto_ret]
         exact ret_row_slotS Tryd.results21 rfl rfl rfl hr9 Tryd.underlying25 rfl (info_dD.trans (size_dc _)) ⟨rfl, hb9⟩
        ·have hn4 : n3 + 1 < 256 := by omega
         have hf2 : ¬ (n3 : Int) + 1 = 256 := by omega
         go_wp2_with (first | refine wl_at 59 rfl (.pointer (some ⟨G, n3, none⟩)) rfl (at_dD hn3 rfl rfl rfl) ?_ | refine wl_storeD rfl hn3 rfl rfl rfl HK.out.2.1 ?_)
         intro w5 r5 b5 z5
         have HO : Shh (Row w5 N 25 (dc fun _ => 0) ∧ Row w5 G 25 (dc (dup f3 n3 y)) ∧ XofAt w5 g (S.behind 136 (64 * (t + 1))) 136 (64 * (t + 1)) ∧ KVars w5 ∧ But N g w w5 ∧ g < N ∧ N < G ∧ Row w5 q 5 (Lib.byteCells L) ∧ G < q ∧ StV val (128 * t + 2 * k + j + 1) (n3 + 1) (dup f3 n3 y)) := by
          obtain ⟨h1, h2, h3, h4, h5, h6, h7, h9, h10, h8⟩ := HK.out
          have hB := b5.under (Nat.le_of_lt h1.lt) (Nat.le_of_lt h7)
          have hB2 : Below G wr w5 := b5.under (Nat.le_of_lt h2.lt) (Nat.le_refl _)
          exact ⟨⟨b5.row h1 h1.lt (by omega), r5, ⟨b5.row h3.row h3.lt (by omega), rfl, h3.len⟩, h4.under hB2 (by have := h4.pos; have := h3.lt; omega), h5.trans (But.of hB g), h6, h7, b5.row h9 h9.lt (by omega), h10, HOK.out hn3⟩⟩
         clear r5 b5 z5 HK HOK
         go_wp2
         go_roundg i'
         case measure => omega
         case rel => exact ⟨j + 1, n3 + 1, _, by omega, by go_num, by go_num, hn4, HO⟩
       ·have hxl : (9 : Int) ≤ (x : Int) := by omega
        have hno : val (128 * t + 2 * k + j) = none := by
         rw [hx3]
         unfold numB
         rw [if_neg (by decide), if_neg hx]
        have HO : Shh (Row wr N 25 (dc fun _ => 0) ∧ Row wr G 25 (dc f3) ∧ XofAt wr g (S.behind 136 (64 * (t + 1))) 136 (64 * (t + 1)) ∧ KVars wr ∧ But N g w wr ∧ g < N ∧ N < G ∧ Row wr q 5 (Lib.byteCells L) ∧ G < q ∧ StV val (128 * t + 2 * k + j + 1) (n3) f3) := by
         obtain ⟨h1, h2, h3, h4, h5, h6, h7, h9, h10, h8⟩ := HK.out
         exact ⟨⟨h1, h2, h3, h4, h5, h6, h7, h9, h10, h8.skip hno⟩⟩
        clear hx hx2 hx3 hno HK
        go_wp2_with (refine wl_at 48 rfl (.int .i32 (x : Int)) rfl (idx_two32 hj2 HZ.out rfl rfl rfl) ?_)
        go_roundg i'
        case measure => omega
        case rel => exact ⟨j + 1, n3, f3, by omega, by go_num, rfl, hn3, HO⟩
end Go.Proofs.YtapjiknedghhfaaDoor

/-
 THE SIGNS: signed, exact; what the bytes make of a polynomial, one by one.
-/
namespace Go.Proofs.YtapjiknedghhfaaDoor
open Go.RowKit
set_option maxRecDepth 100000
section
variable {a : Act} {x y : Operand} {op : Oper} {w : World}
theorem wraps_u8x (m : Int) (h0 : 0 ≤ m) (h1 : m < 256) : IntKind.u8.wrap m = m := by rw [IntKind.wrap_u8]; omega
theorem shr_8 {n d k : Nat} (h : k = n / 2 ^ d) (hd : d ≤ 7) (hn : n < 256) (ho : op.op = .binOp .shr 5 x y 3) (hx : a.eval x = .int .u8 (n : Int)) (hy : a.eval y = .int .i64 (d : Int)) : (execOp a.eval op).run Tryd.prog w = .ok (.value (.int .u8 (k : Int))) w := by
 have h1 : ¬ (d : Int) < 0 := by omega
 have h2 : (d : Int).toNat = d := by omega
 have hk : k ≤ n := by rw [h]; exact Nat.div_le_self _ _
 have he : (n : Int) / 2 ^ d = (k : Int) := by rw [h, Int.natCast_ediv, Int.natCast_pow]; rfl
 have hw : IntKind.u8.wrap (k : Int) = (k : Int) := by rw [IntKind.wrap_u8]; omega
 have hm : (k : Int) % 256 = (k : Int) := by omega
 have h3 : d < 8 := by omega
 clear h
 unfold execOp
 simp only [ho, hx, hy]
 go_simp
theorem and_81 {n k : Nat} (h : k = n % 2) (hn : n < 256) (ho : op.op = .binOp .and 5 x (.const (.int .u8 1)) 5) (hx : a.eval x = .int .u8 (n : Int)) : (execOp a.eval op).run Tryd.prog w = .ok (.value (.int .u8 (k : Int))) w := by
 have h1 : n &&& 1 = k := by rw [Nat.and_one_is_mod, h]
 have h2 : bits .and .u8 (n : Int) 1 = (k : Int) := by
  have h3 := (bits_nat .u8 8 (by decide) wraps_u8x n 1 (by omega) (by decide)).1
  rw [h1] at h3
  exact h3
 have hc : a.eval (.const (.int .u8 1)) = .int .u8 1 := rfl
 clear h
 unfold execOp
 simp only [ho, hx, hc]
 go_simp
end
/-- the number of sign n of the bytes b -/
def sgnS (b : Nat → Nat) (n : Nat) : Int := if b (n / 8) / 2 ^ (n % 8) % 2 = 1 then 8380416 else 1
theorem sgnS_or (b : Nat → Nat) (n : Nat) : sgnS b n = 1 ∨ sgnS b n = 8380416 := by
 unfold sgnS
 split
 ·exact .inr rfl
 ·exact .inl rfl
set_option maxHeartbeats 2000000 in
theorem signedX_any (q n : Nat) (hn : n < 64) (SB : List UInt8) (hl : SB.length = 8) (w : World) (hr : Row w q 5 (Lib.byteCells SB)) : Calls Tryd.prog 40 #[.slice (some ⟨q, 0, none⟩) 8 8, .int .i64 (n : Int)] w (I32Is w (sgnS (nb SB) n)) := by
 unfold I32Is
 obtain ⟨m, Hm, hm, hm2⟩ : ∃ m : Nat, Shh ((m : Int) = (n : Int).tdiv 8 ∧ -9223372036854775808 ≤ (m : Int) ∧ (m : Int) ≤ 9223372036854775807) ∧ m < 8 ∧ m = n / 8 := ⟨n / 8, ⟨by rw [Int.tdiv_eq_ediv_of_nonneg (by omega)]; omega, by omega, by omega⟩, by omega, rfl⟩
 obtain ⟨r, Hr, hr8, hr9⟩ : ∃ r : Nat, Shh ((r : Int) = (n : Int).tmod 8 ∧ -9223372036854775808 ≤ (r : Int) ∧ (r : Int) ≤ 9223372036854775807) ∧ r < 8 ∧ r = n % 8 := ⟨n % 8, ⟨by rw [Int.tmod_eq_emod_of_nonneg (by omega)]; omega, by omega, by omega⟩, by omega, rfl⟩
 have c0 := hr.cell m
 rw [byteCells_at SB (by omega)] at c0
 have hs : sgnS (nb SB) n = if SB[m].toNat / 2 ^ r % 2 = 1 then 8380416 else 1 := by
  unfold sgnS
  rw [← hm2, ← hr9, nb_get SB (by omega)]
 rw [hs]
 have hb := UInt8.toNat_lt SB[m]
 generalize SB[m].toNat = b at *
 have C0 := Shh.mk c0
 obtain ⟨s, Hs⟩ : ∃ s, Shh (s = b / 2 ^ r) := ⟨_, ⟨rfl⟩⟩
 have hs2 : s < 256 := by rw [Hs.out]; exact Nat.lt_of_le_of_lt (Nat.div_le_self _ _) hb
 have HQ : Shh (b < 256 ∧ s < 256 ∧ r ≤ 7) := ⟨hb, hs2, by omega⟩
 rw [← Hs.out]
 obtain ⟨z, Hz⟩ : ∃ z, Shh (z = s % 2) := ⟨_, ⟨rfl⟩⟩
 rw [← Hz.out]
 have hz : z = 0 ∨ z = 1 := by have := Hz.out; omega
 clear c0 hr hn hl hs hb hs2 hr8 hm2 hr9
 rcases hz with hz | hz
 ·have hz2 : (z : Int) = 0 := by omega
  rw [if_neg (show ¬ z = 1 by omega)]
  go_enter Tryd.func40, Tryd.ntmps40
  go_wp2_with (first | refine wl_at 7 rfl (.int .i64 (m : Int)) rfl (quo_n Hm.out (by decide) rfl rfl rfl) ?_ | refine wl_at 8 rfl (.pointer (some ⟨q, m, none⟩)) rfl (at_u8z hm rfl rfl rfl) ?_ | refine wl_at 9 rfl (.int .u8 (b : Int)) rfl (load_u8s rfl C0.out rfl) ?_ | refine wl_at 11 rfl (.int .i64 (r : Int)) rfl (rem_n Hr.out (by decide) rfl rfl rfl) ?_ | refine wl_at 12 rfl (.int .u8 (s : Int)) rfl (shr_8 Hs.out HQ.out.2.2 HQ.out.1 rfl rfl rfl) ?_ | refine wl_at 13 rfl (.int .u8 (z : Int)) rfl (and_81 Hz.out HQ.out.2.1 rfl rfl) ?_)
  go_ret
  exact ⟨rfl, rfl⟩
 ·have hz2 : (z : Int) = 1 := by omega
  rw [if_pos hz]
  go_enter Tryd.func40, Tryd.ntmps40
  go_wp2_with (first | refine wl_at 7 rfl (.int .i64 (m : Int)) rfl (quo_n Hm.out (by decide) rfl rfl rfl) ?_ | refine wl_at 8 rfl (.pointer (some ⟨q, m, none⟩)) rfl (at_u8z hm rfl rfl rfl) ?_ | refine wl_at 9 rfl (.int .u8 (b : Int)) rfl (load_u8s rfl C0.out rfl) ?_ | refine wl_at 11 rfl (.int .i64 (r : Int)) rfl (rem_n Hr.out (by decide) rfl rfl rfl) ?_ | refine wl_at 12 rfl (.int .u8 (s : Int)) rfl (shr_8 Hs.out HQ.out.2.2 HQ.out.1 rfl rfl rfl) ?_ | refine wl_at 13 rfl (.int .u8 (z : Int)) rfl (and_81 Hz.out HQ.out.2.1 rfl rfl) ?_)
  go_ret
  exact ⟨rfl, rfl⟩
/-- what one more byte makes of the number of signs so far and of the polynomial -/
def stepB (tau : Nat) (s : Nat → Int) (st : Nat × (Nat → Int)) (x : Nat) : Nat × (Nat → Int) :=
 if st.1 < tau ∧ x ≤ 256 - tau + st.1 then (st.1 + 1, dup (dup st.2 (256 - tau + st.1) (st.2 x)) x (s st.1)) else st
def runB (tau : Nat) (s : Nat → Int) (b : Nat → Nat) : Nat → Nat × (Nat → Int)
 | 0 => (0, fun _ => 0)
 | k + 1 => stepB tau s (runB tau s b k) (b k)
/-- after k bytes n signs are in, and f is the polynomial -/
def StB (tau : Nat) (s : Nat → Int) (b : Nat → Nat) (k n : Nat) (f : Nat → Int) : Prop := runB tau s b k = (n, f)
section
variable {tau : Nat} {s : Nat → Int} {b : Nat → Nat} {k n : Nat} {f : Nat → Int}
theorem StB.start (tau : Nat) (s : Nat → Int) (b : Nat → Nat) : StB tau s b 0 0 (fun _ => 0) := rfl
theorem StB.skip (h : StB tau s b k n f) (hx : ¬ b k ≤ 256 - tau + n) : StB tau s b (k + 1) n f := by
 show stepB tau s (runB tau s b k) (b k) = _
 rw [show runB tau s b k = (n, f) from h]
 exact if_neg fun q => hx q.2
theorem StB.take (h : StB tau s b k n f) (hn : n < tau) (hx : b k ≤ 256 - tau + n) : StB tau s b (k + 1) (n + 1) (dup (dup f (256 - tau + n) (f (b k))) (b k) (s n)) := by
 show stepB tau s (runB tau s b k) (b k) = _
 rw [show runB tau s b k = (n, f) from h]
 exact if_pos ⟨hn, hx⟩
theorem StB.stay (h : StB tau s b k tau f) : ∀ j, StB tau s b (k + j) tau f
 | 0 => h
 | j + 1 => by
  show stepB tau s (runB tau s b (k + j)) (b (k + j)) = _
  rw [show runB tau s b (k + j) = (tau, f) from h.stay j]
  exact if_neg fun q => Nat.lt_irrefl _ q.1
end
def ballE (tau : Nat) (s : Nat → Int) (b : Nat → Nat) : Int := if (runB tau s b 1024).1 < tau then 130 else 0
def ballF (tau : Nat) (s : Nat → Int) (b : Nat → Nat) : Nat → Int := if (runB tau s b 1024).1 < tau then fun _ => 0 else (runB tau s b 1024).2
theorem StB.short {tau : Nat} {s : Nat → Int} {b : Nat → Nat} {n : Nat} {f : Nat → Int} (h : StB tau s b 1024 n f) (hn : n < tau) : ballE tau s b = 130 ∧ ballF tau s b = fun _ => 0 := by
 unfold ballE ballF
 rw [show runB tau s b 1024 = (n, f) from h]
 exact ⟨if_pos hn, if_pos hn⟩
theorem StB.whole {tau : Nat} {s : Nat → Int} {b : Nat → Nat} {k : Nat} {f : Nat → Int} (h : StB tau s b k tau f) (hk : k ≤ 1024) : ballE tau s b = 0 ∧ ballF tau s b = f := by
 have h2 := h.stay (1024 - k)
 rw [show k + (1024 - k) = 1024 by omega] at h2
 unfold ballE ballF
 rw [show runB tau s b 1024 = (tau, f) from h2]
 exact ⟨if_neg (Nat.lt_irrefl _), if_neg (Nat.lt_irrefl _)⟩
end Go.Proofs.YtapjiknedghhfaaDoor

/-
 THE PROGRAM'S OWN ball, to the number.
-/
namespace Go.Proofs.YtapjiknedghhfaaDoor
open Go.RowKit
set_option maxRecDepth 100000
set_option maxHeartbeats 8000000 in
theorem ballX_any (tau : Nat) (htau : 1 ≤ tau ∧ tau ≤ 64) (g : Nat) (S : Sp) (w : World) (hx : XofAt w g S 136 0) (hv : KVars w) (hg : 0 ≠ g) (ha : S.at_ ≤ 136) (hgl : g < w.heap.size) (sg : Nat → Int) (bb : Nat → Nat) (hsg : sg = sgnS (nb (S.outs 136 1032))) (hbb : bb = fun k => nb (S.outs 136 1032) (8 + k)) : Calls Tryd.prog 28 #[.int .i64 (tau : Int), .func (.func 19) #[.pointer (some ⟨g, 0, none⟩)] #[]] w (CdG w g (ballF tau sg bb) (ballE tau sg bb)) := by
 unfold CdG
 generalize hN : w.heap.size = N at *
 have HA : Shh (∀ t, (S.behind 136 (8 + 64 * t)).at_ ≤ 136 ∧ (S.behind 136 (8 + 64 * t)).behind 136 64 = S.behind 136 (8 + 64 * (t + 1)) ∧ ((S.behind 136 (8 + 64 * t)).outs 136 64).length = 64) := ⟨fun t => ⟨Sp.behind_at 136 (by decide) _ S ha, by rw [← behind_add15]; congr 1, Sp.outs_length _ _ _⟩⟩
 have HG0 : Shh (0 ≠ g) := ⟨hg⟩
 have HX : Shh (∀ t k, t < 16 → k < 64 → nb ((S.behind 136 (8 + 64 * t)).outs 136 64) k = bb (64 * t + k)) := ⟨fun t k ht hk => by
  rw [piece_bytes 136 S 1032 (8 + 64 * t) 64 k (by omega) hk, hbb]
  show nb _ (8 + 64 * t + k) = nb _ (8 + (64 * t + k))
  rw [Nat.add_assoc]⟩
 have HSG : Shh (∀ n, n < 64 → sgnS (nb (S.outs 136 8)) n = sg n) := ⟨fun n hn => by
  rw [hsg]
  unfold sgnS
  rw [short_bytes 136 S 8 1032 (n / 8) (by decide) (by omega)]⟩
 obtain ⟨FF, hFF⟩ : ∃ F, F = ballF tau sg bb := ⟨_, rfl⟩
 obtain ⟨ee, hee⟩ : ∃ F, F = ballE tau sg bb := ⟨_, rfl⟩
 have HF : Shh ((∀ n f, StB tau sg bb 1024 n f → n < tau → ee = 130 ∧ FF = fun _ => 0) ∧ ∀ k f, k ≤ 1024 → StB tau sg bb k tau f → ee = 0 ∧ FF = f) := ⟨by
  rw [hFF, hee]
  exact ⟨fun n f h hn => h.short hn, fun k f hk h => h.whole hk⟩⟩
 rw [← hFF, ← hee]
 clear hFF hee hsg hbb
 have HT0 := Shh.mk htau
 have HI0 : Shh (XofAt w g S 136 0 ∧ KVars w ∧ g < N ∧ w.heap.size = N ∧ S.at_ ≤ 136) := ⟨hx, hv, hgl, hN, ha⟩
 obtain ⟨c0, Hc0⟩ : ∃ c : Int, Shh (c = 256 - (tau : Int) ∧ -9223372036854775808 ≤ c ∧ c ≤ 9223372036854775807) := ⟨_, ⟨rfl, by omega, by omega⟩⟩
 clear hx hv hg ha hgl hN htau
 go_enter Tryd.func28, Tryd.ntmps28
 go_wp2_with (refine wl_newzD 4 rfl rfl rfl ?_)
 intro N1 w2 hN1 r2 b2
 try simp only [Act.put, arr9, hd9, tl9]
 obtain rfl : N = N1 := HI0.out.2.2.2.1.symm.trans hN1.out.symm
 have HI1 : Shh (XofAt w2 g S 136 0 ∧ KVars w2 ∧ g < N ∧ Row w2 N 25 (dc fun _ => 0) ∧ Below N w w2 ∧ S.at_ ≤ 136) := by
  obtain ⟨h1, h2, h3, h5, h6⟩ := HI0.out
  rw [h5] at b2
  exact ⟨⟨SpAt.below h1 (h5.symm ▸ b2), h2.step (h5.symm ▸ b2), h3, r2, b2, h6⟩⟩
 clear r2 b2 hN1 HI0
 have CS : Shh (Calls Tryd.prog 19 #[.pointer (some ⟨g, 0, none⟩), .int .i64 8] w2 (ReadIs w2 g S 136 0 8)) := ⟨read_any HI1.out.1 HI1.out.2.1 HG0.out HI1.out.2.2.2.2.2 (by decide) (by decide) 8 (by decide) (by decide)⟩
 have HSL : Shh ((S.outs 136 8).length = 8) := ⟨Sp.outs_length _ _ _⟩
 go_wp2
 try go_step3
 go_wp2_with (go_at_call 19; refine (CS.out).mono ?_)
 rintro e w3 ⟨rfl, r3, x3, b3⟩
 generalize S.outs 136 8 = SB at *
 generalize hqs : w2.heap.size = qs at *
 have HI2 : Shh (XofAt w3 g (S.behind 136 (8 + 64 * 0)) 136 (8 + 64 * 0) ∧ KVars w3 ∧ g < N ∧ Row w3 N 25 (dc fun _ => 0) ∧ But N g w w3 ∧ N < qs ∧ Row w3 qs 5 (Lib.byteCells SB)) := by
  obtain ⟨h1, h2, h3, h4, h5, h6⟩ := HI1.out
  have hlt := h4.lt
  rw [hqs] at hlt
  rw [← hqs] at b3
  exact ⟨⟨x3, h2.but b3 HG0.out, h3, b3.row h4 h4.lt (by omega), (But.of h5 g).trans (b3.mono (Nat.le_of_lt h4.lt)), hlt, r3⟩⟩
 clear r3 x3 b3 CS HI1 hqs
 go_wp2_with (refine wl_newzD 8 rfl rfl rfl ?_)
 intro G w4 hG r4 b4
 try simp only [Act.put, arr9, hd9, tl9]
 have HJ : Shh (Row w4 N 25 (dc fun _ => 0) ∧ Row w4 G 25 (dc (fun _ => 0 : Nat → Int)) ∧ XofAt w4 g (S.behind 136 (8 + 64 * 0)) 136 (8 + 64 * 0) ∧ KVars w4 ∧ But N g w w4 ∧ g < N ∧ N < qs ∧ qs < G ∧ Row w4 qs 5 (Lib.byteCells SB)) := by
  obtain ⟨h1, h2, h3, h4, h5, h6, h7⟩ := HI2.out
  exact ⟨⟨h4.go b4, r4, SpAt.below h1 b4, h2.step b4, h5.trans (But.of (b4.mono (Nat.le_of_lt h4.lt)) g), h3, h6, by rw [hG.out]; exact h7.lt, h7.go b4⟩⟩
 clear r4 b4 HI2 hG
 go_wp2
 try go_step3
 try go_wp2
 go_loopg [9, 24] 16 (fun gk s9 s24 wr => ∃ (t n : Nat) (f : Nat → Int), t + gk = 16 ∧ s24 = .int .i64 (t : Int) ∧ s9 = .int .i64 (n : Int) ∧ n < tau ∧ Shh (StB tau sg bb (64 * t) n f) ∧ Shh (Row wr N 25 (dc fun _ => 0) ∧ Row wr G 25 (dc f) ∧ XofAt wr g (S.behind 136 (8 + 64 * t)) 136 (8 + 64 * t) ∧ KVars wr ∧ But N g w wr ∧ g < N ∧ N < qs ∧ qs < G ∧ Row wr qs 5 (Lib.byteCells SB)))
 case atStart => exact ⟨0, 0, fun _ => 0, rfl, rfl, rfl, HT0.out.1, ⟨StB.start tau sg bb⟩, HJ⟩
 case round =>
  clear HJ
  obtain ⟨t, n, f, htk, rfl, rfl, hn, HKB, HI⟩ := hrel
  cases gk with
  | zero =>
   have ht : ¬ (t : Int) < 16 := by omega
   have hn2 : (n : Int) < (tau : Int) := by omega
   have hst := HKB.out
   rw [show 64 * t = 1024 by omega] at hst
   obtain ⟨rfl, rfl⟩ := HF.out.1 n f hst hn
   clear hst HF HX
   have HO := HI
   go_wp2_with (first | refine wl_at 69 rfl (.agg (dc fun _ => 0).toArray) rfl (build_zero rfl) ?_ | refine wpList_store_any rfl 25 (.tmp 4) (.tmp 69) rfl N rfl (dc fun _ => 0) rfl 25 _ HO.out.1 (info_dD.trans (size_dc _)) (same_dc _ _) (dc_one _) ?_)
   intro w9 hr9 b9 _
   have hb9 : But N g w w9 := HO.out.2.2.2.2.1.trans (But.of (b9.under (Nat.le_of_lt HO.out.1.lt) (Nat.le_refl _)) g)
   go_wp2
   try rw [Exit.noGoto_ret]
   exact ret_row_slotS Tryd.results28 rfl rfl rfl hr9 Tryd.underlying25 rfl (info_dD.trans (size_dc _)) ⟨rfl, hb9⟩
  | succ g' =>
   have ht : (t : Int) < 16 := by omega
   have hax := HA.out t
   have CR : Shh (Calls Tryd.prog 19 #[.pointer (some ⟨g, 0, none⟩), .int .i64 64] wr (ReadIs wr g (S.behind 136 (8 + 64 * t)) 136 (8 + 64 * t) 64)) := ⟨read_any HI.out.2.2.1 HI.out.2.2.2.1 HG0.out hax.1 (by decide) (by decide) 64 (by decide) (by omega)⟩
   have HB := Shh.mk hax.2
   have hxx := fun k => HX.out t k (by omega)
   clear hax
   go_wp2_with (go_at_call 19; refine (CR.out).mono ?_)
   rintro e w5 ⟨rfl, r4, x4, b4⟩
   rw [HB.out.1] at x4
   generalize hL : (S.behind 136 (8 + 64 * t)).outs 136 64 = L at *
   have HXX := Shh.mk hxx
   clear hxx
   generalize hq : wr.heap.size = q at *
   have HJ : Shh (Row w5 N 25 (dc fun _ => 0) ∧ Row w5 G 25 (dc f) ∧ XofAt w5 g (S.behind 136 (8 + 64 * (t + 1))) 136 (8 + 64 * (t + 1)) ∧ KVars w5 ∧ But N g w w5 ∧ g < N ∧ N < qs ∧ qs < G ∧ Row w5 qs 5 (Lib.byteCells SB) ∧ Row w5 q 5 (Lib.byteCells L) ∧ G < q) := by
    obtain ⟨h1, h2, h3, h4, h5, h6, h7, h8, h9⟩ := HI.out
    rw [← hq] at b4
    exact ⟨⟨b4.row h1 h1.lt (by omega), b4.row h2 h2.lt (by omega), x4, h4.but b4 HG0.out, h5.trans (b4.mono (Nat.le_of_lt h1.lt)), h6, h7, h8, b4.row h9 h9.lt (by omega), r4, by rw [← hq]; exact h2.lt⟩⟩
   have HLL := Shh.mk HB.out.2
   clear r4 x4 b4 HI CR HB hq hL
   go_wp2
   go_loopg [9, 37] 64 (fun gm s9 s37 wq => ∃ (k n2 : Nat) (f2 : Nat → Int), k + gm = 64 ∧ s37 = .int .i64 (k : Int) ∧ s9 = .int .i64 (n2 : Int) ∧ n2 < tau ∧ Shh (StB tau sg bb (64 * t + k) n2 f2) ∧ Shh (Row wq N 25 (dc fun _ => 0) ∧ Row wq G 25 (dc f2) ∧ XofAt wq g (S.behind 136 (8 + 64 * (t + 1))) 136 (8 + 64 * (t + 1)) ∧ KVars wq ∧ But N g w wq ∧ g < N ∧ N < qs ∧ qs < G ∧ Row wq qs 5 (Lib.byteCells SB) ∧ Row wq q 5 (Lib.byteCells L) ∧ G < q))
   case atStart => exact ⟨0, n, f, rfl, rfl, rfl, hn, HKB, HJ⟩
   case round =>
    clear HJ HKB
    obtain ⟨k, n2, f2, hkm, rfl, rfl, hn2, HKB, HI⟩ := hrel
    cases gk with
    | zero =>
     have hk : ¬ (k : Int) < 64 := by omega
     have HKB2 : Shh (StB tau sg bb (64 * (t + 1)) n2 f2) := by
      have h := HKB.out
      rw [show 64 * t + k = 64 * (t + 1) by omega] at h
      exact ⟨h⟩
     have HI2 : Shh (Row wr N 25 (dc fun _ => 0) ∧ Row wr G 25 (dc f2) ∧ XofAt wr g (S.behind 136 (8 + 64 * (t + 1))) 136 (8 + 64 * (t + 1)) ∧ KVars wr ∧ But N g w wr ∧ g < N ∧ N < qs ∧ qs < G ∧ Row wr qs 5 (Lib.byteCells SB)) := by
      obtain ⟨h1, h2, h3, h4, h5, h6, h7, h8, h9, _⟩ := HI.out
      exact ⟨⟨h1, h2, h3, h4, h5, h6, h7, h8, h9⟩⟩
     clear HI
     go_wp2
     go_roundg g'
     case measure => omega
     case rel => exact ⟨t + 1, n2, f2, by omega, by go_num, rfl, hn2, HKB2, HI2⟩
    | succ h' =>
     have hk : (k : Int) < 64 := by omega
     have hk2 : k < 64 := by omega
     have hkl : k < L.length := by rw [HLL.out]; exact hk2
     have c1 := HI.out.2.2.2.2.2.2.2.2.2.1.cell k
     rw [byteCells_at L hkl] at c1
     have hb := UInt8.toNat_lt L[k]
     have hxx := HXX.out k hk2
     rw [nb_get L hkl] at hxx
     generalize L[k].toNat = jb at *
     have HV := Shh.mk hxx
     clear hxx
     have hb2 : jb < 256 := hb
     have C1 := Shh.mk c1
     clear c1 hkl hb
     have htb := HT0.out
     obtain ⟨i, Hi, Hie, hi2⟩ : ∃ i : Nat, Shh ((i : Int) = c0 + (n2 : Int) ∧ -9223372036854775808 ≤ (i : Int) ∧ (i : Int) ≤ 9223372036854775807) ∧ Shh (i = 256 - tau + n2) ∧ i < 256 := ⟨256 - tau + n2, ⟨by have := Hc0.out.1; omega, by omega, by omega⟩, ⟨rfl⟩, by omega⟩
     by_cases hji : jb ≤ i
     ·have hji2 : ¬ (i : Int) < (jb : Int) := by omega
      have HST : Shh (StB tau sg bb (64 * t + k + 1) (n2 + 1) (dup (dup f2 i (f2 jb)) jb (sg n2))) := by
       have h := HKB.out.take hn2 (by rw [← HV.out, ← Hie.out]; exact hji)
       rw [← HV.out, ← Hie.out] at h
       exact ⟨h⟩
      have c2 := HI.out.2.1.cell jb
      rw [dc_get _ hb2] at c2
      have C2 := Shh.mk c2
      generalize f2 jb = fj at *
      have h64 : n2 < 64 := by omega
      clear c2 hji
      go_wp2_with (first | refine wl_at 39 rfl (.pointer (some ⟨q, k, none⟩)) rfl (at_u8z hk2 rfl rfl rfl) ?_ | refine wl_at 40 rfl (.int .u8 (jb : Int)) rfl (load_u8s rfl C1.out rfl) ?_ | refine wl_at 42 rfl (.int .i64 c0) rfl (sub_n Hc0.out rfl rfl rfl) ?_ | refine wl_at 44 rfl (.int .i64 (i : Int)) rfl (add_n Hi.out rfl rfl rfl) ?_ | refine wl_at 46 rfl (.int .i64 (jb : Int)) rfl (conv_8n hb2 rfl rfl) ?_ | refine wl_at 51 rfl (.pointer (some ⟨G, jb, none⟩)) rfl (at_dD8 hb2 rfl rfl rfl) ?_ | refine wl_at 52 rfl (.int .i32 fj) rfl (load_d rfl C2.out rfl) ?_ | refine wl_at 53 rfl (.pointer (some ⟨G, i, none⟩)) rfl (at_dD hi2 rfl rfl rfl) ?_ | refine wl_storeD rfl hi2 rfl rfl rfl HI.out.2.1 ?_)
      intro w6 r6 b6 z6
      have HM : Shh (Row w6 N 25 (dc fun _ => 0) ∧ Row w6 G 25 (dc (dup f2 i fj)) ∧ XofAt w6 g (S.behind 136 (8 + 64 * (t + 1))) 136 (8 + 64 * (t + 1)) ∧ KVars w6 ∧ But N g w w6 ∧ g < N ∧ N < qs ∧ qs < G ∧ Row w6 qs 5 (Lib.byteCells SB) ∧ Row w6 q 5 (Lib.byteCells L) ∧ G < q) := by
       obtain ⟨h1, h2, h3, h4, h5, h6, h7, h8, h9, h10, h11⟩ := HI.out
       have hB := b6.under (Nat.le_of_lt h1.lt) (show N ≤ G by omega)
       have hB2 : Below G wr w6 := b6.under (Nat.le_of_lt h2.lt) (Nat.le_refl _)
       exact ⟨⟨b6.row h1 h1.lt (by omega), r6, ⟨b6.row h3.row h3.lt (by omega), rfl, h3.len⟩, h4.under hB2 (by have := h4.pos; have := h3.lt; omega), h5.trans (But.of hB g), h6, h7, h8, b6.row h9 h9.lt (by omega), b6.row h10 h10.lt (by omega), h11⟩⟩
      clear r6 b6 z6 HI C1 C2
      go_wp2_with (go_at_call 40; refine (signedX_any qs n2 h64 SB HSL.out _ HM.out.2.2.2.2.2.2.2.2.1).mono ?_)
      rintro e w7 ⟨rfl, rfl⟩
      rw [HSG.out n2 h64]
      have HSS := HST
      generalize sg n2 = s at *
      clear HST
      by_cases hf : n2 + 1 = tau
      ·have hf2 : ((n2 : Int) + 1 == (tau : Int)) = true := by simp; omega
       go_wp2_with (first | refine wl_at 58 rfl (.pointer (some ⟨G, jb, none⟩)) rfl (at_dD8 hb2 rfl rfl rfl) ?_ | refine wl_storeD rfl hb2 rfl rfl rfl HM.out.2.1 ?_)
       intro w8 r8 b8 z8
       have HO : Shh (Row w8 N 25 (dc fun _ => 0) ∧ Row w8 G 25 (dc (dup (dup f2 i fj) jb s)) ∧ But N g w w8) := by
        obtain ⟨h1, h2, h3, h4, h5, h6, h7, h8, h9, h10, h11⟩ := HM.out
        exact ⟨⟨b8.row h1 h1.lt (by omega), r8, h5.trans (But.of (b8.under (Nat.le_of_lt h1.lt) (show N ≤ G by omega)) g)⟩⟩
       clear r8 b8 z8 HM
       have hss := HSS.out
       rw [hf] at hss
       obtain ⟨rfl, rfl⟩ := HF.out.2 _ _ (by omega) hss
       clear HSS hss HF
       obtain ⟨m1, Hm1⟩ : ∃ m : Nat, Shh (m = tau) := ⟨_, ⟨rfl⟩⟩
       go_wp2_with (first
        | refine wl_at 60 rfl (.int .i64 (tau : Int)) rfl (add_n (i := (n2 : Int)) (j := 1) ⟨by omega, by omega, by omega⟩ rfl rfl rfl) ?_
        | refine wl_at 63 rfl (.bool true) rfl (eql_n (i := (tau : Int)) (j := (tau : Int)) true (by simp) rfl rfl rfl) ?_
        | refine wpList_load_any rfl 25 (.tmp 8) rfl G rfl 25 (dc (dup (dup f2 i fj) jb s)) (.array 256 21) HO.out.2.1 Tryd.underlying25 rfl (info_dD.trans (size_dc _)) ?_
        | refine wpList_store_any rfl 25 (.tmp 4) (.tmp 70) rfl N rfl (dc (dup (dup f2 i fj) jb s)) rfl 25 _ HO.out.1 (info_dD.trans (size_dc _)) (same_dc _ _) (dc_one _) ?_)
       intro w9 hr9 b9 _
       have hb9 : But N g w w9 := HO.out.2.2.trans (But.of (b9.under (Nat.le_of_lt HO.out.1.lt) (Nat.le_refl _)) g)
       go_wp2
       try rw [Exit.noGoto_ret]
       exact ret_row_slotS Tryd.results28 rfl rfl rfl hr9 Tryd.underlying25 rfl (info_dD.trans (size_dc _)) ⟨rfl, hb9⟩
      ·have hn4 : n2 + 1 < tau := by omega
       obtain ⟨n4, Hn4⟩ : ∃ m : Nat, Shh ((m : Int) = (n2 : Int) + 1 ∧ -9223372036854775808 ≤ (m : Int) ∧ (m : Int) ≤ 9223372036854775807) := ⟨n2 + 1, ⟨by omega, by omega, by omega⟩⟩
       have HNE : Shh (((n4 : Int) == (tau : Int)) = false) := ⟨by have := Hn4.out.1; simp; omega⟩
       go_wp2_with (first | refine wl_at 58 rfl (.pointer (some ⟨G, jb, none⟩)) rfl (at_dD8 hb2 rfl rfl rfl) ?_ | refine wl_storeD rfl hb2 rfl rfl rfl HM.out.2.1 ?_)
       intro w8 r8 b8 z8
       have HO : Shh (Row w8 N 25 (dc fun _ => 0) ∧ Row w8 G 25 (dc (dup (dup f2 i fj) jb s)) ∧ XofAt w8 g (S.behind 136 (8 + 64 * (t + 1))) 136 (8 + 64 * (t + 1)) ∧ KVars w8 ∧ But N g w w8 ∧ g < N ∧ N < qs ∧ qs < G ∧ Row w8 qs 5 (Lib.byteCells SB) ∧ Row w8 q 5 (Lib.byteCells L) ∧ G < q) := by
        obtain ⟨h1, h2, h3, h4, h5, h6, h7, h8, h9, h10, h11⟩ := HM.out
        have hB := b8.under (Nat.le_of_lt h1.lt) (show N ≤ G by omega)
        have hB2 : Below G w6 w8 := b8.under (Nat.le_of_lt h2.lt) (Nat.le_refl _)
        exact ⟨⟨b8.row h1 h1.lt (by omega), r8, ⟨b8.row h3.row h3.lt (by omega), rfl, h3.len⟩, h4.under hB2 (by have := h4.pos; have := h3.lt; omega), h5.trans (But.of hB g), h6, h7, h8, b8.row h9 h9.lt (by omega), b8.row h10 h10.lt (by omega), h11⟩⟩
       clear r8 b8 z8 HM
       go_wp2_with (first | refine wl_at 60 rfl (.int .i64 (n4 : Int)) rfl (add_n Hn4.out rfl rfl rfl) ?_ | refine wl_at 63 rfl (.bool false) rfl (eql_n false HNE.out rfl rfl rfl) ?_)
       go_roundg h'
       case measure => omega
       case rel => exact ⟨k + 1, n2 + 1, _, by omega, by go_num, by rw [show n4 = n2 + 1 by have := Hn4.out.1; omega], hn4, HSS, HO⟩
     ·have hji2 : (i : Int) < (jb : Int) := by omega
      have HSS : Shh (StB tau sg bb (64 * t + k + 1) n2 f2) := ⟨HKB.out.skip (by rw [← HV.out, ← Hie.out]; exact hji)⟩
      clear hji
      go_wp2_with (first | refine wl_at 39 rfl (.pointer (some ⟨q, k, none⟩)) rfl (at_u8z hk2 rfl rfl rfl) ?_ | refine wl_at 40 rfl (.int .u8 (jb : Int)) rfl (load_u8s rfl C1.out rfl) ?_ | refine wl_at 42 rfl (.int .i64 c0) rfl (sub_n Hc0.out rfl rfl rfl) ?_ | refine wl_at 44 rfl (.int .i64 (i : Int)) rfl (add_n Hi.out rfl rfl rfl) ?_ | refine wl_at 46 rfl (.int .i64 (jb : Int)) rfl (conv_8n hb2 rfl rfl) ?_)
      go_roundg h'
      case measure => omega
      case rel => exact ⟨k + 1, n2, f2, by omega, by go_num, rfl, hn2, HSS, HI⟩
end Go.Proofs.YtapjiknedghhfaaDoor

/-
 THE PROGRAM'S OWN RejBounded, Ball, Mask: to the number.
-/
namespace Go.Proofs.YtapjiknedghhfaaDoor
open Go.RowKit
set_option maxRecDepth 100000
def nsB (rate : Nat) (m : List UInt8) (n : Nat) : Nat → Nat := nb (spongeL rate 31 m n)
def behB (m : List UInt8) (k : Nat) : Nat := nsB 136 m 1032 (8 + k)
set_option maxHeartbeats 2000000 in
theorem RejBoundedX_2 (B : Nat) (v : Value) (m : List UInt8) (hl : m.length = 66) (w : World) (hs : Sl w B v m) (hB : B ≤ w.heap.size) (hv : KVars w) : Calls Tryd.prog 8 #[.int .i64 2, v] w (CdIs w (svF 2048 (drwB 2 (nsB 136 m 1024))) (svE 2048 (drwB 2 (nsB 136 m 1024)))) := by
 unfold CdIs
 generalize hN : w.heap.size = N at *
 have hpos := hv.pos
 have i3 : (m.length : Int) ≤ 66 := by omega
 have i4 : (66 : Int) ≤ (m.length : Int) := by omega
 obtain ⟨FF, hFF⟩ : ∃ F, F = (svF 2048 (drwB 2 (nsB 136 m 1024))) := ⟨_, rfl⟩
 obtain ⟨ee, hee⟩ : ∃ F, F = (svE 2048 (drwB 2 (nsB 136 m 1024))) := ⟨_, rfl⟩
 have HC : Shh (∀ g W, XofAt W g (absorbL 136 31 [m].flatten) 136 0 → KVars W → 0 ≠ g → g < W.heap.size → Calls Tryd.prog 21 #[.int .i32 2, .func (.func 19) #[.pointer (some ⟨g, 0, none⟩)] #[]] W (CdG W g FF ee)) := ⟨fun g W hx hv hg hgl => by
  rw [hFF, hee]
  refine boundedX_2 g (absorbL 136 31 [m].flatten) W hx hv hg (Nat.le_refl _) hgl _ ?_
  rw [show [m].flatten = m by simp]
  rfl⟩
 rw [← hFF, ← hee]
 clear hFF hee
 obtain ⟨A, c, rfl, _, _⟩ := hs.form
 have HD : Shh (Sl w B (.slice A m.length c) m ∧ B ≤ N ∧ w.heap.size = N) := ⟨hs, hB, hN⟩
 have HV : Shh (KVars w ∧ 0 < N) := ⟨hv, by omega⟩
 clear hl hs hB hN hv hpos
 generalize m.length = ln at *
 go_enter Tryd.func8, Tryd.ntmps8
 go_wp2_with (refine wl_newzD 4 rfl rfl rfl ?_)
 intro N1 w2 hN1 r2 b2
 try simp only [Act.put, arr9, hd9, tl9]
 obtain rfl : N = N1 := HD.out.2.2.symm.trans hN1.out.symm
 have HI : Shh (Row w2 N 25 (dc fun _ => 0) ∧ Below N w w2 ∧ N < w2.heap.size) := by
  rw [HD.out.2.2] at b2
  exact ⟨r2, b2, r2.lt⟩
 clear r2 b2 hN1
 have HS : Shh (Sl w2 B (.slice A ln c) m ∧ KVars w2 ∧ B ≤ N) := ⟨HD.out.1.below (HI.out.2.1.mono HD.out.2.1), HV.out.1.step (HD.out.2.2.symm ▸ HI.out.2.1), HD.out.2.1⟩
 go_wp2_with (go_at_call 22; refine (shake256_any [m] (by simp) (w2.heap.size + 1) _ _ (PartsO.solo (Row.new_ rfl rfl) (Nat.lt_succ_self _) (by omega) ((HS.out.1.below ((bel1 _ _).mono (by have := HI.out; have := HS.out; omega))).more (by have := HI.out; have := HS.out; omega)) (HS.out.1.off (by have := HI.out; have := HS.out; omega))) (by rw [asz]; exact Nat.le_refl _) (HS.out.2.1.step (bel1 _ _))).mono ?_)
 rintro e w4 ⟨gx, rfl, hgx, hx4, b4⟩
 have HJ : Shh (Row w4 N 25 (dc fun _ => 0) ∧ Below N w w4 ∧ XofAt w4 gx (absorbL 136 31 [m].flatten) 136 0 ∧ KVars w4 ∧ 0 ≠ gx ∧ N < gx) := by
  have b5 := Below.chain (bel1 w2 _) b4
  rw [asz] at hgx
  exact ⟨⟨HI.out.1.go b5, HI.out.2.1.trans (b5.mono (Nat.le_of_lt HI.out.2.2)), hx4, HS.out.2.1.step b5, by have := HV.out.2; have := HI.out.2.2; omega, by have := HI.out.2.2; omega⟩⟩
 clear hgx hx4 b4 HI HS HV
 go_wp2_with (go_at_call 21; refine (HC.out gx w4 HJ.out.2.2.1 HJ.out.2.2.2.1 HJ.out.2.2.2.2.1 (SpAt.lt HJ.out.2.2.1)).mono ?_)
 rintro e w5 ⟨rfl, b5⟩
 have HK : Shh (Row w5 N 25 (dc fun _ => 0) ∧ Below N w w5) := by
  obtain ⟨h1, h2, h3, h4, h5, h6⟩ := HJ.out
  exact ⟨⟨b5.row h1 h1.lt (by omega), h2.trans (b5.under (Nat.le_of_lt h1.lt) (Nat.le_of_lt h6))⟩⟩
 clear b5 HJ HC
 go_wp2_with (refine wpList_store_any rfl 25 (.tmp 4) (.tmp 25) rfl N rfl (dc FF) rfl 25 _ HK.out.1 (info_dD.trans (size_dc _)) (same_dc _ _) (dc_one _) ?_)
 intro w9 hr9 b9 _
 have hb9 := HK.out.2.trans (b9.under (Nat.le_of_lt HK.out.1.lt) (Nat.le_refl _))
 go_wp2
 exact ret_row_slotS Tryd.results8 rfl rfl rfl hr9 Tryd.underlying25 rfl (info_dD.trans (size_dc _)) ⟨rfl, hb9⟩
set_option maxHeartbeats 2000000 in
theorem RejBoundedX_4 (B : Nat) (v : Value) (m : List UInt8) (hl : m.length = 66) (w : World) (hs : Sl w B v m) (hB : B ≤ w.heap.size) (hv : KVars w) : Calls Tryd.prog 8 #[.int .i64 4, v] w (CdIs w (svF 2048 (drwB 4 (nsB 136 m 1024))) (svE 2048 (drwB 4 (nsB 136 m 1024)))) := by
 unfold CdIs
 generalize hN : w.heap.size = N at *
 have hpos := hv.pos
 have i3 : (m.length : Int) ≤ 66 := by omega
 have i4 : (66 : Int) ≤ (m.length : Int) := by omega
 obtain ⟨FF, hFF⟩ : ∃ F, F = (svF 2048 (drwB 4 (nsB 136 m 1024))) := ⟨_, rfl⟩
 obtain ⟨ee, hee⟩ : ∃ F, F = (svE 2048 (drwB 4 (nsB 136 m 1024))) := ⟨_, rfl⟩
 have HC : Shh (∀ g W, XofAt W g (absorbL 136 31 [m].flatten) 136 0 → KVars W → 0 ≠ g → g < W.heap.size → Calls Tryd.prog 21 #[.int .i32 4, .func (.func 19) #[.pointer (some ⟨g, 0, none⟩)] #[]] W (CdG W g FF ee)) := ⟨fun g W hx hv hg hgl => by
  rw [hFF, hee]
  refine boundedX_4 g (absorbL 136 31 [m].flatten) W hx hv hg (Nat.le_refl _) hgl _ ?_
  rw [show [m].flatten = m by simp]
  rfl⟩
 rw [← hFF, ← hee]
 clear hFF hee
 obtain ⟨A, c, rfl, _, _⟩ := hs.form
 have HD : Shh (Sl w B (.slice A m.length c) m ∧ B ≤ N ∧ w.heap.size = N) := ⟨hs, hB, hN⟩
 have HV : Shh (KVars w ∧ 0 < N) := ⟨hv, by omega⟩
 clear hl hs hB hN hv hpos
 generalize m.length = ln at *
 go_enter Tryd.func8, Tryd.ntmps8
 go_wp2_with (refine wl_newzD 4 rfl rfl rfl ?_)
 intro N1 w2 hN1 r2 b2
 try simp only [Act.put, arr9, hd9, tl9]
 obtain rfl : N = N1 := HD.out.2.2.symm.trans hN1.out.symm
 have HI : Shh (Row w2 N 25 (dc fun _ => 0) ∧ Below N w w2 ∧ N < w2.heap.size) := by
  rw [HD.out.2.2] at b2
  exact ⟨r2, b2, r2.lt⟩
 clear r2 b2 hN1
 have HS : Shh (Sl w2 B (.slice A ln c) m ∧ KVars w2 ∧ B ≤ N) := ⟨HD.out.1.below (HI.out.2.1.mono HD.out.2.1), HV.out.1.step (HD.out.2.2.symm ▸ HI.out.2.1), HD.out.2.1⟩
 go_wp2_with (go_at_call 22; refine (shake256_any [m] (by simp) (w2.heap.size + 1) _ _ (PartsO.solo (Row.new_ rfl rfl) (Nat.lt_succ_self _) (by omega) ((HS.out.1.below ((bel1 _ _).mono (by have := HI.out; have := HS.out; omega))).more (by have := HI.out; have := HS.out; omega)) (HS.out.1.off (by have := HI.out; have := HS.out; omega))) (by rw [asz]; exact Nat.le_refl _) (HS.out.2.1.step (bel1 _ _))).mono ?_)
 rintro e w4 ⟨gx, rfl, hgx, hx4, b4⟩
 have HJ : Shh (Row w4 N 25 (dc fun _ => 0) ∧ Below N w w4 ∧ XofAt w4 gx (absorbL 136 31 [m].flatten) 136 0 ∧ KVars w4 ∧ 0 ≠ gx ∧ N < gx) := by
  have b5 := Below.chain (bel1 w2 _) b4
  rw [asz] at hgx
  exact ⟨⟨HI.out.1.go b5, HI.out.2.1.trans (b5.mono (Nat.le_of_lt HI.out.2.2)), hx4, HS.out.2.1.step b5, by have := HV.out.2; have := HI.out.2.2; omega, by have := HI.out.2.2; omega⟩⟩
 clear hgx hx4 b4 HI HS HV
 go_wp2_with (go_at_call 21; refine (HC.out gx w4 HJ.out.2.2.1 HJ.out.2.2.2.1 HJ.out.2.2.2.2.1 (SpAt.lt HJ.out.2.2.1)).mono ?_)
 rintro e w5 ⟨rfl, b5⟩
 have HK : Shh (Row w5 N 25 (dc fun _ => 0) ∧ Below N w w5) := by
  obtain ⟨h1, h2, h3, h4, h5, h6⟩ := HJ.out
  exact ⟨⟨b5.row h1 h1.lt (by omega), h2.trans (b5.under (Nat.le_of_lt h1.lt) (Nat.le_of_lt h6))⟩⟩
 clear b5 HJ HC
 go_wp2_with (refine wpList_store_any rfl 25 (.tmp 4) (.tmp 25) rfl N rfl (dc FF) rfl 25 _ HK.out.1 (info_dD.trans (size_dc _)) (same_dc _ _) (dc_one _) ?_)
 intro w9 hr9 b9 _
 have hb9 := HK.out.2.trans (b9.under (Nat.le_of_lt HK.out.1.lt) (Nat.le_refl _))
 go_wp2
 exact ret_row_slotS Tryd.results8 rfl rfl rfl hr9 Tryd.underlying25 rfl (info_dD.trans (size_dc _)) ⟨rfl, hb9⟩
set_option maxHeartbeats 2000000 in
theorem BallX_any (tau : Nat) (htau : 1 ≤ tau ∧ tau ≤ 64) (B : Nat) (v : Value) (m : List UInt8) (w : World) (hs : Sl w B v m) (hB : B ≤ w.heap.size) (hv : KVars w) : Calls Tryd.prog 12 #[.int .i64 (tau : Int), v] w (CdIs w (ballF tau (sgnS (nsB 136 m 1032)) (behB m)) (ballE tau (sgnS (nsB 136 m 1032)) (behB m))) := by
 unfold CdIs
 generalize hN : w.heap.size = N at *
 have hpos := hv.pos
 have t1 : ¬ (tau : Int) < 1 := by omega
 have t2 : ¬ (64 : Int) < (tau : Int) := by omega
 obtain ⟨FF, hFF⟩ : ∃ F, F = (ballF tau (sgnS (nsB 136 m 1032)) (behB m)) := ⟨_, rfl⟩
 obtain ⟨ee, hee⟩ : ∃ F, F = (ballE tau (sgnS (nsB 136 m 1032)) (behB m)) := ⟨_, rfl⟩
 have HC : Shh (∀ g W, XofAt W g (absorbL 136 31 [m].flatten) 136 0 → KVars W → 0 ≠ g → g < W.heap.size → Calls Tryd.prog 28 #[.int .i64 (tau : Int), .func (.func 19) #[.pointer (some ⟨g, 0, none⟩)] #[]] W (CdG W g FF ee)) := ⟨fun g W hx hv hg hgl => by
  rw [hFF, hee]
  refine ballX_any tau htau g (absorbL 136 31 [m].flatten) W hx hv hg (Nat.le_refl _) hgl _ _ ?_ ?_
  ·rw [show [m].flatten = m by simp]
   rfl
  ·rw [show [m].flatten = m by simp]
   rfl⟩
 rw [← hFF, ← hee]
 clear hFF hee htau
 obtain ⟨A, c, rfl, _, _⟩ := hs.form
 have HD : Shh (Sl w B (.slice A m.length c) m ∧ B ≤ N ∧ w.heap.size = N) := ⟨hs, hB, hN⟩
 have HV : Shh (KVars w ∧ 0 < N) := ⟨hv, by omega⟩
 clear hs hB hN hv hpos
 generalize m.length = ln at *
 go_enter Tryd.func12, Tryd.ntmps12
 go_wp2_with (refine wl_newzD 4 rfl rfl rfl ?_)
 intro N1 w2 hN1 r2 b2
 try simp only [Act.put, arr9, hd9, tl9]
 obtain rfl : N = N1 := HD.out.2.2.symm.trans hN1.out.symm
 have HI : Shh (Row w2 N 25 (dc fun _ => 0) ∧ Below N w w2 ∧ N < w2.heap.size) := by
  rw [HD.out.2.2] at b2
  exact ⟨r2, b2, r2.lt⟩
 clear r2 b2 hN1
 have HS : Shh (Sl w2 B (.slice A ln c) m ∧ KVars w2 ∧ B ≤ N) := ⟨HD.out.1.below (HI.out.2.1.mono HD.out.2.1), HV.out.1.step (HD.out.2.2.symm ▸ HI.out.2.1), HD.out.2.1⟩
 go_wp2_with (go_at_call 22; refine (shake256_any [m] (by simp) (w2.heap.size + 1) _ _ (PartsO.solo (Row.new_ rfl rfl) (Nat.lt_succ_self _) (by omega) ((HS.out.1.below ((bel1 _ _).mono (by have := HI.out; have := HS.out; omega))).more (by have := HI.out; have := HS.out; omega)) (HS.out.1.off (by have := HI.out; have := HS.out; omega))) (by rw [asz]; exact Nat.le_refl _) (HS.out.2.1.step (bel1 _ _))).mono ?_)
 rintro e w4 ⟨gx, rfl, hgx, hx4, b4⟩
 have HJ : Shh (Row w4 N 25 (dc fun _ => 0) ∧ Below N w w4 ∧ XofAt w4 gx (absorbL 136 31 [m].flatten) 136 0 ∧ KVars w4 ∧ 0 ≠ gx ∧ N < gx) := by
  have b5 := Below.chain (bel1 w2 _) b4
  rw [asz] at hgx
  exact ⟨⟨HI.out.1.go b5, HI.out.2.1.trans (b5.mono (Nat.le_of_lt HI.out.2.2)), hx4, HS.out.2.1.step b5, by have := HV.out.2; have := HI.out.2.2; omega, by have := HI.out.2.2; omega⟩⟩
 clear hgx hx4 b4 HI HS HV
 go_wp2_with (go_at_call 28; refine (HC.out gx w4 HJ.out.2.2.1 HJ.out.2.2.2.1 HJ.out.2.2.2.2.1 (SpAt.lt HJ.out.2.2.1)).mono ?_)
 rintro e w5 ⟨rfl, b5⟩
 have HK : Shh (Row w5 N 25 (dc fun _ => 0) ∧ Below N w w5) := by
  obtain ⟨h1, h2, h3, h4, h5, h6⟩ := HJ.out
  exact ⟨⟨b5.row h1 h1.lt (by omega), h2.trans (b5.under (Nat.le_of_lt h1.lt) (Nat.le_of_lt h6))⟩⟩
 clear b5 HJ HC
 go_wp2_with (refine wpList_store_any rfl 25 (.tmp 4) (.tmp 19) rfl N rfl (dc FF) rfl 25 _ HK.out.1 (info_dD.trans (size_dc _)) (same_dc _ _) (dc_one _) ?_)
 intro w9 hr9 b9 _
 have hb9 := HK.out.2.trans (b9.under (Nat.le_of_lt HK.out.1.lt) (Nat.le_refl _))
 go_wp2
 exact ret_row_slotS Tryd.results12 rfl rfl rfl hr9 Tryd.underlying25 rfl (info_dD.trans (size_dc _)) ⟨rfl, hb9⟩
set_option maxHeartbeats 1000000 in
theorem RejBounded_no (n : Int) (B : Nat) (v : Value) (m : List UInt8) (hn : (n ≠ 2 ∧ n ≠ 4) ∨ ¬ m.length = 66) (w : World) (hs : Sl w B v m) : Calls Tryd.prog 8 #[.int .i64 n, v] w (CdIs w (fun _ => 0) 1) := by
 unfold CdIs
 obtain ⟨A, c, rfl, _, _⟩ := hs.form
 generalize hN : w.heap.size = N at *
 have HD : Shh (True ∧ True ∧ w.heap.size = N) := ⟨trivial, trivial, hN⟩
 clear hs hN
 have hn2 : ((n ≠ 2 ∧ n ≠ 4) ∨ (n = 2 ∧ ¬ (m.length : Int) = 66)) ∨ (n = 4 ∧ ¬ (m.length : Int) = 66) := by omega
 clear hn
 generalize m.length = ln at *
 rcases hn2 with (⟨h1, h2⟩ | ⟨rfl, h3⟩) | ⟨rfl, h3⟩
 ·have h4 : (n == 2) = false := by simpa using h1
  have h5 : (n == 4) = false := by simpa using h2
  go_enter Tryd.func8, Tryd.ntmps8
  go_wp2_with (refine wl_newzD 4 rfl rfl rfl ?_)
  intro N1 w2 hN1 r2 b2
  try simp only [Act.put, arr9, hd9, tl9]
  obtain rfl : N = N1 := HD.out.2.2.symm.trans hN1.out.symm
  have HI : Shh (Row w2 N 25 (dc fun _ => 0) ∧ Below N w w2 ∧ N < w2.heap.size) := by
   rw [HD.out.2.2] at b2
   exact ⟨r2, b2, r2.lt⟩
  clear r2 b2 hN1
  go_wp2_with (first | refine wl_at 17 rfl (.agg (dc fun _ => 0).toArray) rfl (build_zero rfl) ?_ | refine wpList_store_any rfl 25 (.tmp 4) (.tmp 17) rfl N rfl (dc fun _ => 0) rfl 25 _ HI.out.1 (info_dD.trans (size_dc _)) (same_dc _ _) (dc_one _) ?_)
  intro w9 hr9 b9 _
  have hb9 := HI.out.2.1.trans (b9.under (Nat.le_of_lt HI.out.1.lt) (Nat.le_refl _))
  go_wp2
  exact ret_row_slotS Tryd.results8 rfl rfl rfl hr9 Tryd.underlying25 rfl (info_dD.trans (size_dc _)) ⟨rfl, hb9⟩
 ·go_enter Tryd.func8, Tryd.ntmps8
  go_wp2_with (refine wl_newzD 4 rfl rfl rfl ?_)
  intro N1 w2 hN1 r2 b2
  try simp only [Act.put, arr9, hd9, tl9]
  obtain rfl : N = N1 := HD.out.2.2.symm.trans hN1.out.symm
  have HI : Shh (Row w2 N 25 (dc fun _ => 0) ∧ Below N w w2 ∧ N < w2.heap.size) := by
   rw [HD.out.2.2] at b2
   exact ⟨r2, b2, r2.lt⟩
  clear r2 b2 hN1
  go_wp2_with (first | refine wl_at 17 rfl (.agg (dc fun _ => 0).toArray) rfl (build_zero rfl) ?_ | refine wpList_store_any rfl 25 (.tmp 4) (.tmp 17) rfl N rfl (dc fun _ => 0) rfl 25 _ HI.out.1 (info_dD.trans (size_dc _)) (same_dc _ _) (dc_one _) ?_)
  intro w9 hr9 b9 _
  have hb9 := HI.out.2.1.trans (b9.under (Nat.le_of_lt HI.out.1.lt) (Nat.le_refl _))
  go_wp2
  exact ret_row_slotS Tryd.results8 rfl rfl rfl hr9 Tryd.underlying25 rfl (info_dD.trans (size_dc _)) ⟨rfl, hb9⟩
 ·go_enter Tryd.func8, Tryd.ntmps8
  go_wp2_with (refine wl_newzD 4 rfl rfl rfl ?_)
  intro N1 w2 hN1 r2 b2
  try simp only [Act.put, arr9, hd9, tl9]
  obtain rfl : N = N1 := HD.out.2.2.symm.trans hN1.out.symm
  have HI : Shh (Row w2 N 25 (dc fun _ => 0) ∧ Below N w w2 ∧ N < w2.heap.size) := by
   rw [HD.out.2.2] at b2
   exact ⟨r2, b2, r2.lt⟩
  clear r2 b2 hN1
  go_wp2_with (first | refine wl_at 17 rfl (.agg (dc fun _ => 0).toArray) rfl (build_zero rfl) ?_ | refine wpList_store_any rfl 25 (.tmp 4) (.tmp 17) rfl N rfl (dc fun _ => 0) rfl 25 _ HI.out.1 (info_dD.trans (size_dc _)) (same_dc _ _) (dc_one _) ?_)
  intro w9 hr9 b9 _
  have hb9 := HI.out.2.1.trans (b9.under (Nat.le_of_lt HI.out.1.lt) (Nat.le_refl _))
  go_wp2
  exact ret_row_slotS Tryd.results8 rfl rfl rfl hr9 Tryd.underlying25 rfl (info_dD.trans (size_dc _)) ⟨rfl, hb9⟩
set_option maxHeartbeats 1000000 in
theorem Mask_no (n : Int) (B : Nat) (v : Value) (m : List UInt8) (hn : (n ≠ 18 ∧ n ≠ 20) ∨ ¬ m.length = 66) (w : World) (hs : Sl w B v m) : Calls Tryd.prog 10 #[.int .i64 n, v] w (CdIs w (fun _ => 0) 1) := by
 unfold CdIs
 obtain ⟨A, c, rfl, _, _⟩ := hs.form
 generalize hN : w.heap.size = N at *
 have HD : Shh (True ∧ True ∧ w.heap.size = N) := ⟨trivial, trivial, hN⟩
 clear hs hN
 have hn2 : ((n ≠ 18 ∧ n ≠ 20) ∨ (n = 18 ∧ ¬ (m.length : Int) = 66)) ∨ (n = 20 ∧ ¬ (m.length : Int) = 66) := by omega
 clear hn
 generalize m.length = ln at *
 rcases hn2 with (⟨h1, h2⟩ | ⟨rfl, h3⟩) | ⟨rfl, h3⟩
 ·have h4 : (n == 18) = false := by simpa using h1
  have h5 : (n == 20) = false := by simpa using h2
  go_enter Tryd.func10, Tryd.ntmps10
  go_wp2_with (refine wl_newzD 4 rfl rfl rfl ?_)
  intro N1 w2 hN1 r2 b2
  try simp only [Act.put, arr9, hd9, tl9]
  obtain rfl : N = N1 := HD.out.2.2.symm.trans hN1.out.symm
  have HI : Shh (Row w2 N 25 (dc fun _ => 0) ∧ Below N w w2 ∧ N < w2.heap.size) := by
   rw [HD.out.2.2] at b2
   exact ⟨r2, b2, r2.lt⟩
  clear r2 b2 hN1
  go_wp2_with (first | refine wl_at 19 rfl (.agg (dc fun _ => 0).toArray) rfl (build_zero rfl) ?_ | refine wpList_store_any rfl 25 (.tmp 4) (.tmp 19) rfl N rfl (dc fun _ => 0) rfl 25 _ HI.out.1 (info_dD.trans (size_dc _)) (same_dc _ _) (dc_one _) ?_)
  intro w9 hr9 b9 _
  have hb9 := HI.out.2.1.trans (b9.under (Nat.le_of_lt HI.out.1.lt) (Nat.le_refl _))
  go_wp2
  exact ret_row_slotS Tryd.results10 rfl rfl rfl hr9 Tryd.underlying25 rfl (info_dD.trans (size_dc _)) ⟨rfl, hb9⟩
 ·go_enter Tryd.func10, Tryd.ntmps10
  go_wp2_with (refine wl_newzD 4 rfl rfl rfl ?_)
  intro N1 w2 hN1 r2 b2
  try simp only [Act.put, arr9, hd9, tl9]
  obtain rfl : N = N1 := HD.out.2.2.symm.trans hN1.out.symm
  have HI : Shh (Row w2 N 25 (dc fun _ => 0) ∧ Below N w w2 ∧ N < w2.heap.size) := by
   rw [HD.out.2.2] at b2
   exact ⟨r2, b2, r2.lt⟩
  clear r2 b2 hN1
  go_wp2_with (first | refine wl_at 19 rfl (.agg (dc fun _ => 0).toArray) rfl (build_zero rfl) ?_ | refine wpList_store_any rfl 25 (.tmp 4) (.tmp 19) rfl N rfl (dc fun _ => 0) rfl 25 _ HI.out.1 (info_dD.trans (size_dc _)) (same_dc _ _) (dc_one _) ?_)
  intro w9 hr9 b9 _
  have hb9 := HI.out.2.1.trans (b9.under (Nat.le_of_lt HI.out.1.lt) (Nat.le_refl _))
  go_wp2
  exact ret_row_slotS Tryd.results10 rfl rfl rfl hr9 Tryd.underlying25 rfl (info_dD.trans (size_dc _)) ⟨rfl, hb9⟩
 ·go_enter Tryd.func10, Tryd.ntmps10
  go_wp2_with (refine wl_newzD 4 rfl rfl rfl ?_)
  intro N1 w2 hN1 r2 b2
  try simp only [Act.put, arr9, hd9, tl9]
  obtain rfl : N = N1 := HD.out.2.2.symm.trans hN1.out.symm
  have HI : Shh (Row w2 N 25 (dc fun _ => 0) ∧ Below N w w2 ∧ N < w2.heap.size) := by
   rw [HD.out.2.2] at b2
   exact ⟨r2, b2, r2.lt⟩
  clear r2 b2 hN1
  go_wp2_with (first | refine wl_at 19 rfl (.agg (dc fun _ => 0).toArray) rfl (build_zero rfl) ?_ | refine wpList_store_any rfl 25 (.tmp 4) (.tmp 19) rfl N rfl (dc fun _ => 0) rfl 25 _ HI.out.1 (info_dD.trans (size_dc _)) (same_dc _ _) (dc_one _) ?_)
  intro w9 hr9 b9 _
  have hb9 := HI.out.2.1.trans (b9.under (Nat.le_of_lt HI.out.1.lt) (Nat.le_refl _))
  go_wp2
  exact ret_row_slotS Tryd.results10 rfl rfl rfl hr9 Tryd.underlying25 rfl (info_dD.trans (size_dc _)) ⟨rfl, hb9⟩
set_option maxHeartbeats 1000000 in
theorem Ball_no (n : Int) (B : Nat) (v : Value) (m : List UInt8) (hn : n < 1 ∨ 64 < n) (w : World) (hs : Sl w B v m) : Calls Tryd.prog 12 #[.int .i64 n, v] w (CdIs w (fun _ => 0) 1) := by
 unfold CdIs
 obtain ⟨A, c, rfl, _, _⟩ := hs.form
 generalize hN : w.heap.size = N at *
 have HD : Shh (True ∧ True ∧ w.heap.size = N) := ⟨trivial, trivial, hN⟩
 clear hs hN
 generalize m.length = ln at *
 by_cases h1 : n < 1
 ·clear hn
  go_enter Tryd.func12, Tryd.ntmps12
  go_wp2_with (refine wl_newzD 4 rfl rfl rfl ?_)
  intro N1 w2 hN1 r2 b2
  try simp only [Act.put, arr9, hd9, tl9]
  obtain rfl : N = N1 := HD.out.2.2.symm.trans hN1.out.symm
  have HI : Shh (Row w2 N 25 (dc fun _ => 0) ∧ Below N w w2 ∧ N < w2.heap.size) := by
   rw [HD.out.2.2] at b2
   exact ⟨r2, b2, r2.lt⟩
  clear r2 b2 hN1
  go_wp2_with (first | refine wl_at 12 rfl (.agg (dc fun _ => 0).toArray) rfl (build_zero rfl) ?_ | refine wpList_store_any rfl 25 (.tmp 4) (.tmp 12) rfl N rfl (dc fun _ => 0) rfl 25 _ HI.out.1 (info_dD.trans (size_dc _)) (same_dc _ _) (dc_one _) ?_)
  intro w9 hr9 b9 _
  have hb9 := HI.out.2.1.trans (b9.under (Nat.le_of_lt HI.out.1.lt) (Nat.le_refl _))
  go_wp2
  exact ret_row_slotS Tryd.results12 rfl rfl rfl hr9 Tryd.underlying25 rfl (info_dD.trans (size_dc _)) ⟨rfl, hb9⟩
 ·have h2 : 64 < n := by omega
  clear hn
  go_enter Tryd.func12, Tryd.ntmps12
  go_wp2_with (refine wl_newzD 4 rfl rfl rfl ?_)
  intro N1 w2 hN1 r2 b2
  try simp only [Act.put, arr9, hd9, tl9]
  obtain rfl : N = N1 := HD.out.2.2.symm.trans hN1.out.symm
  have HI : Shh (Row w2 N 25 (dc fun _ => 0) ∧ Below N w w2 ∧ N < w2.heap.size) := by
   rw [HD.out.2.2] at b2
   exact ⟨r2, b2, r2.lt⟩
  clear r2 b2 hN1
  go_wp2_with (first | refine wl_at 12 rfl (.agg (dc fun _ => 0).toArray) rfl (build_zero rfl) ?_ | refine wpList_store_any rfl 25 (.tmp 4) (.tmp 12) rfl N rfl (dc fun _ => 0) rfl 25 _ HI.out.1 (info_dD.trans (size_dc _)) (same_dc _ _) (dc_one _) ?_)
  intro w9 hr9 b9 _
  have hb9 := HI.out.2.1.trans (b9.under (Nat.le_of_lt HI.out.1.lt) (Nat.le_refl _))
  go_wp2
  exact ret_row_slotS Tryd.results12 rfl rfl rfl hr9 Tryd.underlying25 rfl (info_dD.trans (size_dc _)) ⟨rfl, hb9⟩
end Go.Proofs.YtapjiknedghhfaaDoor

/-
 THE PROGRAM'S OWN RejNtt: to the number.
-/
namespace Go.Proofs.YtapjiknedghhfaaDoor
open Go.RowKit
set_option maxRecDepth 100000
section
variable {a : Act} {x y : Operand} {op : Oper} {w : World}
theorem slice_3 {q o n o2 n2 : Nat} (hn : n = n2 + 3) (ho2 : o2 = if n = 3 then o else o + 3) (ho : op.op = .slice 22 x (some (.const (.int .i64 3))) none none) (hx : a.eval x = .slice (some ⟨q, o, none⟩) n n) : (execOp a.eval op).run Tryd.prog w = .ok (.value (.slice (some ⟨q, o2, none⟩) n2 n2)) w := by
 have hc : a.eval (.const (.int .i64 3)) = .int .i64 3 := rfl
 have hrun : (Instr.sliceAt 22 (.slice (some ⟨q, o, none⟩) n n) (some (.int .i64 3)) none none).run Tryd.prog w = .ok (sliced (some ⟨q, o, none⟩) 3 n n 1) w := by
  rw [run_sliceAt_slice _ _ _ _ _ _ slice30, run_slice_l w 22 (some ⟨q, o, none⟩) n n slice30 .i64 3 (by omega) (by omega), elem30, run_sizeOf_u8, Result.andThen_ok]
  rfl
 have e : sliced (some ⟨q, o, none⟩) 3 n n 1 = .slice (some ⟨q, o2, none⟩) n2 n2 := by
  unfold sliced
  rw [show n - 3 = n2 by omega, ho2]
  split <;> rfl
 rw [e] at hrun
 unfold execOp
 simp only [ho, hx, hc, Option.map_some, Option.map_none, Sem.run_bind, hrun, Result.andThen_ok]
 rfl
theorem shl_8c {n k : Nat} (h : k = 256 * n) (hn : n < 256) (ho : op.op = .binOp .shl 21 x (.const (.int .u64 8)) 33) (hx : a.eval x = .int .i32 (n : Int)) : (execOp a.eval op).run Tryd.prog w = .ok (.value (.int .i32 (k : Int))) w := by
 have hc : a.eval (.const (.int .u64 8)) = .int .u64 8 := rfl
 have he : (n : Int) * 256 = (k : Int) := by omega
 have hw : IntKind.i32.wrap (k : Int) = (k : Int) := by rw [IntKind.wrap_i32]; omega
 clear h
 unfold execOp
 simp only [ho, hx, hc]
 go_simp
theorem shl_16c {n k : Nat} (h : k = 65536 * n) (hn : n < 128) (ho : op.op = .binOp .shl 21 x (.const (.int .u64 16)) 33) (hx : a.eval x = .int .i32 (n : Int)) : (execOp a.eval op).run Tryd.prog w = .ok (.value (.int .i32 (k : Int))) w := by
 have hc : a.eval (.const (.int .u64 16)) = .int .u64 16 := rfl
 have he : (n : Int) * 65536 = (k : Int) := by omega
 have hw : IntKind.i32.wrap (k : Int) = (k : Int) := by rw [IntKind.wrap_i32]; omega
 clear h
 unfold execOp
 simp only [ho, hx, hc]
 go_simp
theorem rem_128 {n r : Nat} (h : r = n % 128) (hn : n < 256) (ho : op.op = .binOp .rem 5 x (.const (.int .u8 128)) 5) (hx : a.eval x = .int .u8 (n : Int)) : (execOp a.eval op).run Tryd.prog w = .ok (.value (.int .u8 (r : Int))) w := by
 have hc : a.eval (.const (.int .u8 128)) = .int .u8 128 := rfl
 have e : (n : Int).tmod 128 = (r : Int) := by rw [Int.tmod_eq_emod_of_nonneg (by omega)]; omega
 have e2 : (n : Int) % 128 = (r : Int) := by omega
 have hw : IntKind.u8.wrap (r : Int) = (r : Int) := by rw [IntKind.wrap_u8]; omega
 have hm : (r : Int) % 256 = (r : Int) := by omega
 clear h
 unfold execOp
 simp only [ho, hx, hc]
 go_simp
end
set_option maxHeartbeats 8000000 in
theorem uniformX_any (g : Nat) (S : Sp) (w : World) (hx : XofAt w g S 168 0) (hv : KVars w) (hg : 0 ≠ g) (ha : S.at_ ≤ 168) (hgl : g < w.heap.size) (val : Nat → Option Int) (hval : val = drwU (nb (S.outs 168 3072))) : Calls Tryd.prog 17 #[.func (.func 19) #[.pointer (some ⟨g, 0, none⟩)] #[]] w (CdG w g (svF 1024 val) (svE 1024 val)) := by
 unfold CdG
 generalize hN : w.heap.size = N at *
 have HA : Shh (∀ t, (S.behind 168 (192 * t)).at_ ≤ 168 ∧ (S.behind 168 (192 * t)).behind 168 192 = S.behind 168 (192 * (t + 1)) ∧ ((S.behind 168 (192 * t)).outs 168 192).length = 192) := ⟨fun t => ⟨Sp.behind_at 168 (by decide) _ S ha, by rw [← behind_add15]; rfl, Sp.outs_length _ _ _⟩⟩
 have HG0 : Shh (0 ≠ g) := ⟨hg⟩
 have HX : Shh (∀ t k, t < 16 → k < 64 → val (64 * t + k) = drwU (nb ((S.behind 168 (192 * t)).outs 168 192)) k) := ⟨fun t k ht hk => by
  rw [hval]
  unfold drwU grpU
  rw [piece_bytes 168 S 3072 (192 * t) 192 (3 * k) (by omega) (by omega), piece_bytes 168 S 3072 (192 * t) 192 (3 * k + 1) (by omega) (by omega), piece_bytes 168 S 3072 (192 * t) 192 (3 * k + 2) (by omega) (by omega),
   show 192 * t + 3 * k = 3 * (64 * t + k) by omega, show 192 * t + (3 * k + 1) = 3 * (64 * t + k) + 1 by omega, show 192 * t + (3 * k + 2) = 3 * (64 * t + k) + 2 by omega]⟩
 obtain ⟨FF, hFF⟩ : ∃ F, F = svF 1024 val := ⟨_, rfl⟩
 obtain ⟨ee, hee⟩ : ∃ F, F = svE 1024 val := ⟨_, rfl⟩
 have HF : Shh ((∀ n f, StV val 1024 n f → n < 256 → ee = 130 ∧ FF = fun _ => 0) ∧ ∀ k f, k ≤ 1024 → StV val k 256 f → ee = 0 ∧ FF = f) := ⟨by
  rw [hFF, hee]
  exact ⟨fun n f h hn => h.short hn, fun k f hk h => (h.full hk).whole⟩⟩
 rw [← hFF, ← hee]
 clear hFF hee hval
 have HZ0 := Shh.mk (StV.start val)
 have HI0 : Shh (XofAt w g S 168 0 ∧ KVars w ∧ g < N ∧ w.heap.size = N) := ⟨hx, hv, hgl, hN⟩
 clear hx hv hg ha hgl hN
 go_enter Tryd.func17, Tryd.ntmps17
 go_wp2_with (refine wl_newzD 2 rfl rfl rfl ?_)
 intro N1 w2 hN1 r2 b2
 try simp only [Act.put, arr9, hd9, tl9]
 obtain rfl : N = N1 := HI0.out.2.2.2.symm.trans hN1.out.symm
 have HI1 : Shh (XofAt w2 g S 168 0 ∧ KVars w2 ∧ g < N ∧ Row w2 N 25 (dc fun _ => 0) ∧ Below N w w2) := by
  obtain ⟨h1, h2, h3, h5⟩ := HI0.out
  rw [h5] at b2
  exact ⟨⟨SpAt.below h1 (h5.symm ▸ b2), h2.step (h5.symm ▸ b2), h3, r2, b2⟩⟩
 clear r2 b2 hN1 HI0
 go_wp2
 try go_step3
 go_wp2_with (refine wl_newzD 4 rfl rfl rfl ?_)
 intro G w3 hG r3 b3
 try simp only [Act.put, arr9, hd9, tl9]
 have HJ : Shh (Row w3 N 25 (dc fun _ => 0) ∧ Row w3 G 25 (dc (fun _ => 0 : Nat → Int)) ∧ XofAt w3 g (S.behind 168 (192 * 0)) 168 (192 * 0) ∧ KVars w3 ∧ But N g w w3 ∧ g < N ∧ N < G ∧ StV val (64 * 0) (0) (fun _ => 0 : Nat → Int)) := by
  obtain ⟨h1, h2, h3, h5, h6⟩ := HI1.out
  exact ⟨⟨h5.go b3, r3, SpAt.below h1 b3, h2.step b3, But.of (h6.trans (b3.mono (Nat.le_of_lt h5.lt))) g, h3, by rw [hG.out]; exact h5.lt, HZ0.out⟩⟩
 clear r3 b3 HI1 hG
 go_wp2
 try go_step3
 try go_wp2
 go_loopg [5, 9] 16 (fun gk s5 s9 wr => ∃ (t n : Nat) (f : Nat → Int), t + gk = 16 ∧ s9 = .int .i64 (t : Int) ∧ s5 = .int .i64 (n : Int) ∧ n < 256 ∧ Shh (Row wr N 25 (dc fun _ => 0) ∧ Row wr G 25 (dc f) ∧ XofAt wr g (S.behind 168 (192 * t)) 168 (192 * t) ∧ KVars wr ∧ But N g w wr ∧ g < N ∧ N < G ∧ StV val (64 * t) (n) f))
 case atStart => exact ⟨0, 0, fun _ => 0, rfl, rfl, rfl, by decide, HJ⟩
 case round =>
  clear HJ
  obtain ⟨t, n, f, htk, rfl, rfl, hn, HI⟩ := hrel
  cases gk with
  | zero =>
   have ht : ¬ (t : Int) < 16 := by omega
   have hn2 : (n : Int) < 256 := by omega
   have hst := HI.out.2.2.2.2.2.2.2
   rw [show 64 * t = 1024 by omega] at hst
   obtain ⟨rfl, rfl⟩ := HF.out.1 n f hst hn
   clear hst HF HX
   have HO := HI
   go_wp2_with (first | refine wl_at 54 rfl (.agg (dc fun _ => 0).toArray) rfl (build_zero rfl) ?_ | refine wpList_store_any rfl 25 (.tmp 2) (.tmp 54) rfl N rfl (dc fun _ => 0) rfl 25 _ HO.out.1 (info_dD.trans (size_dc _)) (same_dc _ _) (dc_one _) ?_)
   intro w9 hr9 b9 _
   have hb9 : But N g w w9 := HO.out.2.2.2.2.1.trans (But.of (b9.under (Nat.le_of_lt HO.out.1.lt) (Nat.le_refl _)) g)
   go_wp2
   try rw [Exit.noGoto_ret]
   exact ret_row_slotS Tryd.results17 rfl rfl rfl hr9 Tryd.underlying25 rfl (info_dD.trans (size_dc _)) ⟨rfl, hb9⟩
  | succ g' =>
   have ht : (t : Int) < 16 := by omega
   have hax := HA.out t
   have CR : Shh (Calls Tryd.prog 19 #[.pointer (some ⟨g, 0, none⟩), .int .i64 192] wr (ReadIs wr g (S.behind 168 (192 * t)) 168 (192 * t) 192)) := ⟨read_any HI.out.2.2.1 HI.out.2.2.2.1 HG0.out hax.1 (by decide) (by decide) 192 (by decide) (by omega)⟩
   have HB := Shh.mk hax.2
   have hxx := fun k => HX.out t k (by omega)
   clear hax
   go_wp2_with (go_at_call 19; refine (CR.out).mono ?_)
   rintro e w4 ⟨rfl, r4, x4, b4⟩
   rw [HB.out.1] at x4
   generalize hL : (S.behind 168 (192 * t)).outs 168 192 = L at *
   have HXX := Shh.mk hxx
   clear hxx
   generalize hq : wr.heap.size = q at *
   have HJ : Shh (Row w4 N 25 (dc fun _ => 0) ∧ Row w4 G 25 (dc f) ∧ XofAt w4 g (S.behind 168 (192 * (t + 1))) 168 (192 * (t + 1)) ∧ KVars w4 ∧ But N g w w4 ∧ g < N ∧ N < G ∧ Row w4 q 5 (Lib.byteCells L) ∧ G < q ∧ StV val (64 * t + 0) (n) f) := by
    obtain ⟨h1, h2, h3, h4, h5, h6, h7, h8⟩ := HI.out
    rw [← hq] at b4
    exact ⟨⟨b4.row h1 h1.lt (by omega), b4.row h2 h2.lt (by omega), x4, h4.but b4 HG0.out, h5.trans (b4.mono (Nat.le_of_lt h1.lt)), h6, h7, r4, by rw [← hq]; exact h2.lt, h8⟩⟩
   have HLL := Shh.mk HB.out.2
   clear r4 x4 b4 HI CR HB hq hL
   go_wp2
   go_loopg [5, 6] 64 (fun gm s5 s6 wq => ∃ (k n2 o ln : Nat) (f2 : Nat → Int), k + gm = 64 ∧ s6 = .slice (some ⟨q, o, none⟩) ln ln ∧ s5 = .int .i64 (n2 : Int) ∧ n2 < 256 ∧ ln + 3 * k = 192 ∧ (k < 64 → o = 3 * k) ∧ Shh (Row wq N 25 (dc fun _ => 0) ∧ Row wq G 25 (dc f2) ∧ XofAt wq g (S.behind 168 (192 * (t + 1))) 168 (192 * (t + 1)) ∧ KVars wq ∧ But N g w wq ∧ g < N ∧ N < G ∧ Row wq q 5 (Lib.byteCells L) ∧ G < q ∧ StV val (64 * t + k) (n2) f2))
   case atStart => exact ⟨0, n, 0, 192, f, rfl, rfl, rfl, hn, rfl, fun _ => rfl, HJ⟩
   case round =>
    clear HJ
    obtain ⟨k, n2, o, ln, f2, hkm, rfl, rfl, hn2, hln, hok, HI⟩ := hrel
    cases gk with
    | zero =>
     have hl0 : ¬ (0 : Int) < (ln : Int) := by omega
     have HI2 : Shh (Row wr N 25 (dc fun _ => 0) ∧ Row wr G 25 (dc f2) ∧ XofAt wr g (S.behind 168 (192 * (t + 1))) 168 (192 * (t + 1)) ∧ KVars wr ∧ But N g w wr ∧ g < N ∧ N < G ∧ StV val (64 * (t + 1)) (n2) f2) := by
      obtain ⟨h1, h2, h3, h4, h5, h6, h7, _, _, h8⟩ := HI.out
      rw [show 64 * t + k = 64 * (t + 1) by omega] at h8
      exact ⟨⟨h1, h2, h3, h4, h5, h6, h7, h8⟩⟩
     clear HI
     go_wp2
     go_roundg g'
     case measure => omega
     case rel => exact ⟨t + 1, n2, f2, by omega, by go_num, rfl, hn2, HI2⟩
    | succ h' =>
     have hl0 : (0 : Int) < (ln : Int) := by omega
     obtain rfl := hok (by omega)
     have HLN : Shh (0 < ln ∧ 1 < ln ∧ 2 < ln) := ⟨by omega⟩
     obtain ⟨n9, Hn9⟩ : ∃ m, Shh (ln = m + 3) := ⟨ln - 3, ⟨by omega⟩⟩
     obtain ⟨o9, Ho9⟩ : ∃ m, Shh (m = if ln = 3 then 3 * k else 3 * k + 3) := ⟨_, ⟨rfl⟩⟩
     have HREL : Shh (n9 + 3 * (k + 1) = 192 ∧ (k + 1 < 64 → o9 = 3 * (k + 1))) := ⟨by
      have := Hn9.out
      refine ⟨by omega, fun h => ?_⟩
      rw [Ho9.out, if_neg (by omega)]
      omega⟩
     have hxx := HXX.out k (by omega)
     have hll := HLL.out
     have hrow := HI.out.2.2.2.2.2.2.2.1
     have c0 := hrow.cell (3 * k)
     have c1 := hrow.cell (3 * k + 1)
     have c2 := hrow.cell (3 * k + 2)
     rw [byteCells_at L (by omega), ← nb_get] at c0 c1 c2
     unfold drwU at hxx
     rw [show grpU (nb L) k = nb L (3 * k) + 256 * nb L (3 * k + 1) + 65536 * (nb L (3 * k + 2) % 128) from rfl] at hxx
     have l0 := nb_lt L (3 * k)
     have l1 := nb_lt L (3 * k + 1)
     have l2 := nb_lt L (3 * k + 2)
     generalize nb L (3 * k) = a0 at *
     generalize nb L (3 * k + 1) = a1 at *
     generalize nb L (3 * k + 2) = a2 at *
     obtain ⟨o, hoo⟩ : ∃ o, o = 3 * k := ⟨_, rfl⟩
     rw [← hoo] at Ho9 c0 c1 c2 ⊢
     have HC0 : Shh (wr.cell? ⟨q, o + 0, none⟩ = some (.int .u8 (a0 : Int)) ∧ wr.cell? ⟨q, o + 1, none⟩ = some (.int .u8 (a1 : Int)) ∧ wr.cell? ⟨q, o + 2, none⟩ = some (.int .u8 (a2 : Int))) := ⟨c0, c1, c2⟩
     have HA3 : Shh (a0 < 256 ∧ a1 < 256 ∧ a2 < 256) := ⟨l0, l1, l2⟩
     clear hoo c0 c1 c2 hrow l0 l1 l2 hll
     obtain ⟨m2, Hm2⟩ : ∃ b, Shh (b = a2 % 128) := ⟨_, ⟨rfl⟩⟩
     obtain ⟨b1, Hb1⟩ : ∃ b, Shh (b = 256 * a1) := ⟨_, ⟨rfl⟩⟩
     obtain ⟨b3, Hb3⟩ : ∃ b, Shh (b = 65536 * m2) := ⟨_, ⟨rfl⟩⟩
     have HM2 : Shh (m2 < 256 ∧ m2 < 128) := ⟨by have := Hm2.out; omega⟩
     obtain ⟨b2, Hb2⟩ : ∃ b : Nat, Shh ((b : Int) = (a0 : Int) + (b1 : Int) ∧ -2147483648 ≤ (b : Int) ∧ (b : Int) ≤ 2147483647) := ⟨a0 + b1, ⟨by have := HA3.out; have := Hb1.out; omega⟩⟩
     obtain ⟨x, Hx⟩ : ∃ b : Nat, Shh ((b : Int) = (b2 : Int) + (b3 : Int) ∧ -2147483648 ≤ (b : Int) ∧ (b : Int) ≤ 2147483647) := ⟨b2 + b3, ⟨by have := HA3.out; have := Hb1.out; have := Hb2.out; have := Hb3.out; have := HM2.out; omega⟩⟩
     rw [show a0 + 256 * a1 + 65536 * (a2 % 128) = x by have := Hb1.out; have := Hb2.out.1; have := Hb3.out; have := Hm2.out; have := Hx.out.1; omega] at hxx
     have HV := Shh.mk hxx
     clear hxx
     go_wp2
     have HK : Shh (Row wr.drew N 25 (dc fun _ => 0) ∧ Row wr.drew G 25 (dc f2) ∧ XofAt wr.drew g (S.behind 168 (192 * (t + 1))) 168 (192 * (t + 1)) ∧ KVars wr.drew ∧ But N g w wr.drew ∧ g < N ∧ N < G ∧ Row wr.drew q 5 (Lib.byteCells L) ∧ G < q ∧ StV val (64 * t + k) (n2) f2) := by
      obtain ⟨h1, h2, h3, h4, h5, h6, h7, h9, h10, h8⟩ := HI.out
      exact ⟨⟨h1.drew, h2.drew, SpAt.drew h3, h4.drew, h5.drew, h6, h7, h9.drew, h10, h8⟩⟩
     clear HI
     refine wp_region_held_drew (S := fun W => W.cell? ⟨q, o + 0, none⟩ = some (.int .u8 (a0 : Int)) ∧ W.cell? ⟨q, o + 1, none⟩ = some (.int .u8 (a1 : Int)) ∧ W.cell? ⟨q, o + 2, none⟩ = some (.int .u8 (a2 : Int))) (by kernel_rfl) HC0.out (fun hS => ?_)
     clear HC0
     obtain ⟨U, hU⟩ : ∃ V, V = World.drew wr := ⟨_, rfl⟩
     rw [← hU] at HK hS ⊢
     clear hU
     refine hdv0 0 25 (.slice (some ⟨q, o, none⟩) ln ln) (by rfl) (hS) ?_
     refine hdv 1 26 (.pointer (some ⟨q, o + 0, none⟩)) (by rfl) (fun w hS => at_u8s (k := 0) (n := ln) (c := ln) HLN.out.1 rfl (by kernel_rfl) (by kernel_rfl)) (hS) ?_
     refine hdv 2 27 (.int .u8 (a0 : Int)) (by rfl) (fun w hS => load_u8s (n := a0) rfl hS.1 (by kernel_rfl)) (hS) ?_
     refine hdv 3 28 (.int .i32 (a0 : Int)) (by rfl) (fun w hS => conv_8d (n := a0) HA3.out.1 rfl (by kernel_rfl)) (hS) ?_
     refine hdv0 4 29 (.slice (some ⟨q, o, none⟩) ln ln) (by rfl) (hS) ?_
     refine hdv 5 30 (.pointer (some ⟨q, o + 1, none⟩)) (by rfl) (fun w hS => at_u8s (k := 1) (n := ln) (c := ln) HLN.out.2.1 rfl (by kernel_rfl) (by kernel_rfl)) (hS) ?_
     refine hdv 6 31 (.int .u8 (a1 : Int)) (by rfl) (fun w hS => load_u8s (n := a1) rfl hS.2.1 (by kernel_rfl)) (hS) ?_
     refine hdv 7 32 (.int .i32 (a1 : Int)) (by rfl) (fun w hS => conv_8d (n := a1) HA3.out.2.1 rfl (by kernel_rfl)) (hS) ?_
     refine hdv 8 33 (.int .i32 (b1 : Int)) (by rfl) (fun w hS => shl_8c (n := a1) Hb1.out HA3.out.2.1 rfl (by kernel_rfl)) (hS) ?_
     refine hdv 9 34 (.int .i32 (b2 : Int)) (by rfl) (fun w hS => add_d (i := (a0 : Int)) (j := (b1 : Int)) Hb2.out rfl (by kernel_rfl) (by kernel_rfl)) (hS) ?_
     refine hdv0 10 35 (.slice (some ⟨q, o, none⟩) ln ln) (by rfl) (hS) ?_
     refine hdv 11 36 (.pointer (some ⟨q, o + 2, none⟩)) (by rfl) (fun w hS => at_u8s (k := 2) (n := ln) (c := ln) HLN.out.2.2 rfl (by kernel_rfl) (by kernel_rfl)) (hS) ?_
     refine hdv 12 37 (.int .u8 (a2 : Int)) (by rfl) (fun w hS => load_u8s (n := a2) rfl hS.2.2 (by kernel_rfl)) (hS) ?_
     refine hdv 13 38 (.int .u8 (m2 : Int)) (by rfl) (fun w hS => rem_128 (n := a2) Hm2.out HA3.out.2.2 rfl (by kernel_rfl)) (hS) ?_
     refine hdv 14 39 (.int .i32 (m2 : Int)) (by rfl) (fun w hS => conv_8d (n := m2) HM2.out.1 rfl (by kernel_rfl)) (hS) ?_
     refine hdv 15 40 (.int .i32 (b3 : Int)) (by rfl) (fun w hS => shl_16c (n := m2) Hb3.out HM2.out.2 rfl (by kernel_rfl)) (hS) ?_
     refine hdv 16 41 (.int .i32 (x : Int)) (by rfl) (fun w hS => add_d (i := (b2 : Int)) (j := (b3 : Int)) Hx.out rfl (by kernel_rfl) (by kernel_rfl)) (hS) ?_
     refine hdv0 17 8 (.int .i32 (x : Int)) (by rfl) (hS) ?_
     refine wpAnyH_done (by kernel_rfl) ?_ _
     clear hS Hm2 Hb1 Hb2 Hb3 Hx HM2 HA3
     by_cases hx : x < 8380417
     ·have HGE : Shh (decide ((8380417 : Int) ≤ (x : Int)) = false) := ⟨decide_eq_false (by omega)⟩
      have hok2 : val (64 * t + k) = some (x : Int) := by rw [HV.out, if_pos hx]
      have HOK := Shh.mk (fun h : n2 < 256 => HK.out.2.2.2.2.2.2.2.2.2.take hok2 h)
      clear hx hok2
      by_cases hf : n2 = 255
      ·subst hf
       go_wp2_with (first | refine wl_at 43 rfl (.bool false) rfl (geq_d false HGE.out rfl rfl rfl) ?_ | refine wl_at 46 rfl (.pointer (some ⟨G, 255, none⟩)) rfl (at_dD (by decide) rfl rfl rfl) ?_ | refine wl_storeD rfl (k := 255) (by decide) rfl rfl rfl HK.out.2.1 ?_)
       intro w5 r5 b5 z5
       have HO : Shh (Row w5 N 25 (dc fun _ => 0) ∧ Row w5 G 25 (dc (dup f2 255 x)) ∧ But N g w w5 ∧ StV val (64 * t + k + 1) 256 (dup f2 255 x)) := by
        obtain ⟨h1, h2, h3, h4, h5, h6, h7, _, _, h8⟩ := HK.out
        exact ⟨⟨b5.row h1 h1.lt (by omega), r5, h5.trans (But.of (b5.under (Nat.le_of_lt h1.lt) (Nat.le_of_lt h7)) g), HOK.out (by decide)⟩⟩
       clear r5 b5 z5 HK HOK
       obtain ⟨rfl, rfl⟩ := HF.out.2 _ _ (by omega) HO.out.2.2.2
       go_wp2_with (first
        | refine wpList_load_any rfl 25 (.tmp 4) rfl G rfl 25 (dc (dup f2 255 x)) (.array 256 21) HO.out.2.1 Tryd.underlying25 rfl (info_dD.trans (size_dc _)) ?_
        | refine wpList_store_any rfl 25 (.tmp 2) (.tmp 55) rfl N rfl (dc (dup f2 255 x)) rfl 25 _ HO.out.1 (info_dD.trans (size_dc _)) (same_dc _ _) (dc_one _) ?_)
       intro w9 hr9 b9 _
       have hb9 : But N g w w9 := HO.out.2.2.1.trans (But.of (b9.under (Nat.le_of_lt HO.out.1.lt) (Nat.le_refl _)) g)
       go_wp2
       try rw [Exit.noGoto_ret]
       exact ret_row_slotS Tryd.results17 rfl rfl rfl hr9 Tryd.underlying25 rfl (info_dD.trans (size_dc _)) ⟨rfl, hb9⟩
      ·have hn4 : n2 + 1 < 256 := by omega
       have hf2 : ¬ (n2 : Int) + 1 = 256 := by omega
       go_wp2_with (first | refine wl_at 43 rfl (.bool false) rfl (geq_d false HGE.out rfl rfl rfl) ?_ | refine wl_at 46 rfl (.pointer (some ⟨G, n2, none⟩)) rfl (at_dD hn2 rfl rfl rfl) ?_ | refine wl_storeD rfl hn2 rfl rfl rfl HK.out.2.1 ?_)
       intro w5 r5 b5 z5
       have HO : Shh (Row w5 N 25 (dc fun _ => 0) ∧ Row w5 G 25 (dc (dup f2 n2 x)) ∧ XofAt w5 g (S.behind 168 (192 * (t + 1))) 168 (192 * (t + 1)) ∧ KVars w5 ∧ But N g w w5 ∧ g < N ∧ N < G ∧ Row w5 q 5 (Lib.byteCells L) ∧ G < q ∧ StV val (64 * t + k + 1) (n2 + 1) (dup f2 n2 x)) := by
        obtain ⟨h1, h2, h3, h4, h5, h6, h7, h9, h10, h8⟩ := HK.out
        have hB := b5.under (Nat.le_of_lt h1.lt) (Nat.le_of_lt h7)
        have hB2 : Below G U w5 := b5.under (Nat.le_of_lt h2.lt) (Nat.le_refl _)
        exact ⟨⟨b5.row h1 h1.lt (by omega), r5, ⟨b5.row h3.row h3.lt (by omega), rfl, h3.len⟩, h4.under hB2 (by have := h4.pos; have := h3.lt; omega), h5.trans (But.of hB g), h6, h7, b5.row h9 h9.lt (by omega), h10, HOK.out hn2⟩⟩
       clear r5 b5 z5 HK HOK
       go_wp2_with (refine wl_at 24 rfl (.slice (some ⟨q, o9, none⟩) n9 n9) rfl (slice_3 Hn9.out Ho9.out rfl rfl) ?_)
       go_roundg h'
       case measure => omega
       case rel => exact ⟨k + 1, n2 + 1, o9, n9, _, by omega, rfl, by go_num, hn4, HREL.out.1, HREL.out.2, HO⟩
     ·have HGE : Shh (decide ((8380417 : Int) ≤ (x : Int)) = true) := ⟨decide_eq_true (by omega)⟩
      have hno : val (64 * t + k) = none := by rw [HV.out, if_neg hx]
      have HO : Shh (Row U N 25 (dc fun _ => 0) ∧ Row U G 25 (dc f2) ∧ XofAt U g (S.behind 168 (192 * (t + 1))) 168 (192 * (t + 1)) ∧ KVars U ∧ But N g w U ∧ g < N ∧ N < G ∧ Row U q 5 (Lib.byteCells L) ∧ G < q ∧ StV val (64 * t + k + 1) (n2) f2) := by
       obtain ⟨h1, h2, h3, h4, h5, h6, h7, h9, h10, h8⟩ := HK.out
       exact ⟨⟨h1, h2, h3, h4, h5, h6, h7, h9, h10, h8.skip hno⟩⟩
      clear hx hno HK
      go_wp2_with (first | refine wl_at 43 rfl (.bool true) rfl (geq_d true HGE.out rfl rfl rfl) ?_ | refine wl_at 24 rfl (.slice (some ⟨q, o9, none⟩) n9 n9) rfl (slice_3 Hn9.out Ho9.out rfl rfl) ?_)
      go_roundg h'
      case measure => omega
      case rel => exact ⟨k + 1, n2, o9, n9, f2, by omega, rfl, rfl, hn2, HREL.out.1, HREL.out.2, HO⟩
end Go.Proofs.YtapjiknedghhfaaDoor

/-
 THE PROGRAM'S OWN RejNtt: to the number.
-/
namespace Go.Proofs.YtapjiknedghhfaaDoor
open Go.RowKit
set_option maxRecDepth 100000
set_option maxHeartbeats 2000000 in
theorem RejNttX_any (B : Nat) (v : Value) (m : List UInt8) (hl : m.length = 34) (w : World) (hs : Sl w B v m) (hB : B ≤ w.heap.size) (hv : KVars w) : Calls Tryd.prog 6 #[v] w (CdIs w (svF 1024 (drwU (nsB 168 m 3072))) (svE 1024 (drwU (nsB 168 m 3072)))) := by
 unfold CdIs
 generalize hN : w.heap.size = N at *
 have hpos := hv.pos
 have i3 : (m.length : Int) ≤ 34 := by omega
 have i4 : (34 : Int) ≤ (m.length : Int) := by omega
 obtain ⟨FF, hFF⟩ : ∃ F, F = (svF 1024 (drwU (nsB 168 m 3072))) := ⟨_, rfl⟩
 obtain ⟨ee, hee⟩ : ∃ F, F = (svE 1024 (drwU (nsB 168 m 3072))) := ⟨_, rfl⟩
 have HC : Shh (∀ g W, XofAt W g (absorbL 168 31 [m].flatten) 168 0 → KVars W → 0 ≠ g → g < W.heap.size → Calls Tryd.prog 17 #[.func (.func 19) #[.pointer (some ⟨g, 0, none⟩)] #[]] W (CdG W g FF ee)) := ⟨fun g W hx hv hg hgl => by
  rw [hFF, hee]
  refine uniformX_any g (absorbL 168 31 [m].flatten) W hx hv hg (Nat.le_refl _) hgl _ ?_
  rw [show [m].flatten = m by simp]
  rfl⟩
 rw [← hFF, ← hee]
 clear hFF hee
 obtain ⟨A, c, rfl, _, _⟩ := hs.form
 have HD : Shh (Sl w B (.slice A m.length c) m ∧ B ≤ N ∧ w.heap.size = N) := ⟨hs, hB, hN⟩
 have HV : Shh (KVars w ∧ 0 < N) := ⟨hv, by omega⟩
 clear hl hs hB hN hv hpos
 generalize m.length = ln at *
 go_enter Tryd.func6, Tryd.ntmps6
 go_wp2_with (refine wl_newzD 2 rfl rfl rfl ?_)
 intro N1 w2 hN1 r2 b2
 try simp only [Act.put, arr9, hd9, tl9]
 obtain rfl : N = N1 := HD.out.2.2.symm.trans hN1.out.symm
 have HI : Shh (Row w2 N 25 (dc fun _ => 0) ∧ Below N w w2 ∧ N < w2.heap.size) := by
  rw [HD.out.2.2] at b2
  exact ⟨r2, b2, r2.lt⟩
 clear r2 b2 hN1
 have HS : Shh (Sl w2 B (.slice A ln c) m ∧ KVars w2 ∧ B ≤ N) := ⟨HD.out.1.below (HI.out.2.1.mono HD.out.2.1), HV.out.1.step (HD.out.2.2.symm ▸ HI.out.2.1), HD.out.2.1⟩
 go_wp2_with (go_at_call 18; refine (shake128_any [m] (by simp) (w2.heap.size + 1) _ _ (PartsO.solo (Row.new_ rfl rfl) (Nat.lt_succ_self _) (by omega) ((HS.out.1.below ((bel1 _ _).mono (by have := HI.out; have := HS.out; omega))).more (by have := HI.out; have := HS.out; omega)) (HS.out.1.off (by have := HI.out; have := HS.out; omega))) (by rw [asz]; exact Nat.le_refl _) (HS.out.2.1.step (bel1 _ _))).mono ?_)
 rintro e w4 ⟨gx, rfl, hgx, hx4, b4⟩
 have HJ : Shh (Row w4 N 25 (dc fun _ => 0) ∧ Below N w w4 ∧ XofAt w4 gx (absorbL 168 31 [m].flatten) 168 0 ∧ KVars w4 ∧ 0 ≠ gx ∧ N < gx) := by
  have b5 := Below.chain (bel1 w2 _) b4
  rw [asz] at hgx
  exact ⟨⟨HI.out.1.go b5, HI.out.2.1.trans (b5.mono (Nat.le_of_lt HI.out.2.2)), hx4, HS.out.2.1.step b5, by have := HV.out.2; have := HI.out.2.2; omega, by have := HI.out.2.2; omega⟩⟩
 clear hgx hx4 b4 HI HS HV
 go_wp2_with (go_at_call 17; refine (HC.out gx w4 HJ.out.2.2.1 HJ.out.2.2.2.1 HJ.out.2.2.2.2.1 (SpAt.lt HJ.out.2.2.1)).mono ?_)
 rintro e w5 ⟨rfl, b5⟩
 have HK : Shh (Row w5 N 25 (dc fun _ => 0) ∧ Below N w w5) := by
  obtain ⟨h1, h2, h3, h4, h5, h6⟩ := HJ.out
  exact ⟨⟨b5.row h1 h1.lt (by omega), h2.trans (b5.under (Nat.le_of_lt h1.lt) (Nat.le_of_lt h6))⟩⟩
 clear b5 HJ HC
 go_wp2_with (refine wpList_store_any rfl 25 (.tmp 2) (.tmp 13) rfl N rfl (dc FF) rfl 25 _ HK.out.1 (info_dD.trans (size_dc _)) (same_dc _ _) (dc_one _) ?_)
 intro w9 hr9 b9 _
 have hb9 := HK.out.2.trans (b9.under (Nat.le_of_lt HK.out.1.lt) (Nat.le_refl _))
 go_wp2
 exact ret_row_slotS Tryd.results6 rfl rfl rfl hr9 Tryd.underlying25 rfl (info_dD.trans (size_dc _)) ⟨rfl, hb9⟩
theorem RejNtt_no (B : Nat) (v : Value) (m : List UInt8) (hl : ¬ m.length = 34) (w : World) (hs : Sl w B v m) : Calls Tryd.prog 6 #[v] w (CdIs w (fun _ => 0) 1) := by
 unfold CdIs
 obtain ⟨A, c, rfl, _, _⟩ := hs.form
 have h3 : ¬ (m.length : Int) = 34 := by omega
 generalize hN : w.heap.size = N at *
 have HD : Shh (True ∧ True ∧ w.heap.size = N) := ⟨trivial, trivial, hN⟩
 clear hs hl hN
 generalize m.length = ln at *
 go_enter Tryd.func6, Tryd.ntmps6
 go_wp2_with (refine wl_newzD 2 rfl rfl rfl ?_)
 intro N1 w2 hN1 r2 b2
 try simp only [Act.put, arr9, hd9, tl9]
 obtain rfl : N = N1 := HD.out.2.2.symm.trans hN1.out.symm
 have HI : Shh (Row w2 N 25 (dc fun _ => 0) ∧ Below N w w2 ∧ N < w2.heap.size) := by
  rw [HD.out.2.2] at b2
  exact ⟨r2, b2, r2.lt⟩
 clear r2 b2 hN1
 go_wp2_with (first | refine wl_at 7 rfl (.agg (dc fun _ => 0).toArray) rfl (build_zero rfl) ?_ | refine wpList_store_any rfl 25 (.tmp 2) (.tmp 7) rfl N rfl (dc fun _ => 0) rfl 25 _ HI.out.1 (info_dD.trans (size_dc _)) (same_dc _ _) (dc_one _) ?_)
 intro w9 hr9 b9 _
 have hb9 := HI.out.2.1.trans (b9.under (Nat.le_of_lt HI.out.1.lt) (Nat.le_refl _))
 go_wp2
 exact ret_row_slotS Tryd.results6 rfl rfl rfl hr9 Tryd.underlying25 rfl (info_dD.trans (size_dc _)) ⟨rfl, hb9⟩
end Go.Proofs.YtapjiknedghhfaaDoor
