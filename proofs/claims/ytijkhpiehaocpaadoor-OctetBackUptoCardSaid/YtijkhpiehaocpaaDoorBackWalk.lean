/-
  THE WALK of liverylaw01.OctetBack.
-/
import Derived.Test.YtijkhpiehaocpaaDoorUnq
import Derived.Test.YtijkhpiehaocpaaDoorRefNum
import Derived.Test.YtijkhpiehaocpaaDoorXor
import Derived.Deep.DeepCutAuto
namespace Go.Proofs.YtijkhpiehaocpaaDoor
open Go.RowKit
set_option maxRecDepth 100000

theorem put_back (n : Nat) (size : Int) (h : putErr n size = 0) : ofN (putB n size) = n ∧ ofE (putB n size) = 0 ∧ ((putB n size).length : Int) = size := by
  unfold putB
  rw [if_pos h]
  unfold putErr at h
  by_cases h1 : size < 1 ∨ 8 < size
  · rw [if_pos h1] at h; cases h
  · rw [if_neg h1] at h
    obtain ⟨k, rfl⟩ := Int.eq_ofNat_of_zero_le (show 0 ≤ size by omega)
    rw [Int.toNat_natCast] at h ⊢
    by_cases h2 : 256 ^ k ≤ n
    · rw [if_pos h2] at h; cases h
    · have hl : (bigB n k).length = k := bigB_length n k
      refine ⟨?_, ?_, by rw [hl]⟩
      · unfold ofN
        rw [if_pos ⟨by omega, by omega⟩]
        unfold bigB
        rw [bigN_reverse, litN_litB, Nat.mod_eq_of_lt (by omega)]
      · unfold ofE
        rw [if_pos ⟨by omega, by omega⟩]
theorem unhexU_any (s : ByteArray) (w : World) (hl : s.size ≤ 1099511627776) : Calls Tryd.prog 14 #[.string s] w (UnIs w (hexN s.data.toList) (unE s.data.toList) (unB s.data.toList)) := unhex_any s w hl

theorem qAt_le (s : ByteArray) (pos : Nat) : (qAt s pos).length ≤ 5 := by
  have he := encode_le ((Utf8.decode s pos).1 : Int)
  unfold qAt
  split
  · rw [List.length_cons]; omega
  · split
    · simp [hexL_length]
    · omega
theorem qFrom_le (s : ByteArray) : ∀ (f pos : Nat), (qFrom s f pos).length ≤ 5 * (s.size - pos) := by
  intro f
  induction f with
  | zero => intro pos; simp [qFrom]
  | succ f ih =>
    intro pos
    by_cases hp : pos < s.size
    · have hw := width_pos s pos hp
      have h1 := ih (pos + (Utf8.decode s pos).2)
      have h2 := qAt_le s pos
      simp only [qFrom, if_pos hp, List.length_append]
      omega
    · rw [qFrom_end s _ pos hp]
      exact Nat.zero_le _
theorem quoteL_le (s : ByteArray) : (quoteL s).length ≤ 5 * s.size + 2 := by
  have h := qFrom_le s s.size 0
  unfold quoteL
  simp only [List.length_cons, List.length_append, List.length_nil]
  omega
def UqS (w : World) (s : ByteArray) (er : Int) (e : Ending) (w' : World) : Prop := e = .returned (.tuple #[.string s, .int .i64 er]) ∧ Below w.heap.size w w'
theorem unquote_quote (s : ByteArray) (hl : s.size ≤ 1048576) (w : World) : Calls Tryd.prog 16 #[.string ⟨(quoteL s).toArray⟩] w (UqS w s 0) := by
  have hq := quoteL_le s
  have hsz : (⟨(quoteL s).toArray⟩ : ByteArray).size = (quoteL s).length := by simp [ByteArray.size]
  have hu : unqL (⟨(quoteL s).toArray⟩ : ByteArray).data.toList = s.data.toList := unq_quote s
  have he : (⟨s.data.toList.toArray⟩ : ByteArray) = s := rfl
  refine (unquote_any ⟨(quoteL s).toArray⟩ w (by omega) s.data.toList 0 (.inl ⟨?_, hu.symm, rfl⟩)).mono fun e w' h => h
  rw [hu, he]
theorem unquote_ex (s : ByteArray) (hl : s.size ≤ 1048576) : (∃ t : ByteArray, quoteL t = s.data.toList ∧ t.size ≤ 4194304 ∧ ∀ w, Calls Tryd.prog 16 #[.string s] w (UqS w t 0)) ∨ ∀ w, Calls Tryd.prog 16 #[.string s] w (UqS w .empty 11) := by
  by_cases h : quoteL ⟨(unqL s.data.toList).toArray⟩ = s.data.toList
  · refine .inl ⟨⟨(unqL s.data.toList).toArray⟩, h, ?_, fun w => ?_⟩
    · have h1 := unL_le (bodyL s.data.toList).length 0 (bodyL s.data.toList)
      have h2 := body_le s.data.toList
      have h3 : s.data.toList.length = s.size := by simp
      have h4 : (⟨(unqL s.data.toList).toArray⟩ : ByteArray).size = (unqL s.data.toList).length := by simp [ByteArray.size]
      unfold unqL at h4 ⊢
      omega
    · exact (unquote_any s w (by omega) _ 0 (.inl ⟨h, rfl, rfl⟩)).mono fun e w' h => h
  · exact .inr fun w => (unquote_any s w (by omega) [] 11 (.inr ⟨h, rfl, rfl⟩)).mono fun e w' h => h
theorem unhex_hex (bs : List UInt8) (hl : bs.length ≤ 1048576) (w : World) : Calls Tryd.prog 14 #[.string ⟨(hexL bs).toArray⟩] w (UnIs w (2 * bs.length) 0 bs) := by
  have h1 : hexN (⟨(hexL bs).toArray⟩ : ByteArray).data.toList = 2 * bs.length := hexN_hexL bs
  have h2 : unE (⟨(hexL bs).toArray⟩ : ByteArray).data.toList = 0 := unE_hexL bs
  have h3 : unB (⟨(hexL bs).toArray⟩ : ByteArray).data.toList = bs := unB_hexL bs
  have hsz : (⟨(hexL bs).toArray⟩ : ByteArray).size = (hexL bs).length := by simp [ByteArray.size]
  have h := unhexU_any ⟨(hexL bs).toArray⟩ w (by rw [hsz, hexL_length]; omega)
  rwa [h1, h2, h3] at h
theorem fromBits_bits (B : Nat) (v : Value) (bs : List UInt8) (w : World) (hs : Slb w B v (bitsL bs)) (hB : B ≤ w.heap.size) (hl : bs.length ≤ 1048576) :
    Calls Tryd.prog 19 #[v] w (OwnIs w bs) := by
  have h := fromBits_any B v (bitsL bs) w hs hB (by rw [bitsL_length]; omega)
  rwa [fromBits_bitsL] at h

def StrS (w : World) (s : ByteArray) (e : Ending) (w' : World) : Prop := e = .returned (.string s) ∧ Below w.heap.size w w'
theorem strS_of (s : ByteArray) (l : List UInt8) (h : l = s.data.toList) : (⟨l.toArray⟩ : ByteArray) = s := by rw [h]
theorem hex_back (B : Nat) (v : Value) (s : ByteArray) (w : World) (ho : unOk s.data.toList) (hs : Sl w B v (unB s.data.toList)) (hB : B ≤ w.heap.size) (hl : s.size ≤ 1048576) :
    Calls Tryd.prog 15 #[v] w (StrS w s) := by
  have h1 := hexL_unB _ ho
  have h2 : (unB s.data.toList).length ≤ 1099511627776 := by
    have h3 := congrArg List.length h1
    rw [hexL_length] at h3
    have h4 : s.data.toList.length = s.size := by simp
    omega
  have h := hex_any B v (unB s.data.toList) w hs hB h2
  rw [h1] at h
  exact h
theorem quote_back (t s : ByteArray) (h : quoteL t = s.data.toList) (hl : t.size ≤ 4194304) (w : World) : Calls Tryd.prog 17 #[.string t] w (StrS w s) := by
  have hq := quote_any t w (by omega)
  rw [h] at hq
  exact hq
theorem decimal_back (s : ByteArray) (x : Nat) (hx : x < 18446744073709551616) (h : s.data.toList = Lib.decDigits x) (w : World) (hv : Vars w) : Calls Tryd.prog 8 #[.int .u64 x] w (StrS w s) := by
  have hd := decimal_any x hx w hv.1
  rw [← h] at hd
  exact hd

set_option maxHeartbeats 4000000 in
theorem back_walk (n : Nat) (hn : n < 18446744073709551616) (size : Int) (vb : Value) (bs : List UInt8) (s : ByteArray) (w : World) (hs : Sl w w.heap.size vb bs) (hl : bs.length ≤ 1048576) (hl2 : s.size ≤ 1048576) (hv : Vars w) :
    Calls Tryd.prog 4 #[.int .u64 n, .int .i64 size, vb, .string s] w (TrueIs w) := by
  go_enter Tryd.func4, Tryd.ntmps4
  go_wp2_with (go_at_call 7; refine (live_any _).mono ?_)
  rintro e w1 ⟨rfl, b1⟩
  go_upto_if 39 with (go_at_call 10; refine (big_any n size _).mono ?_)
  rintro e w2 ⟨v2, rfl, g2⟩
  have b2 := Below.chain b1 g2.2
  have x2 := gives_sl g2
  have hpl := putB_length n size
  clear g2 b1
  go_upto_if 39 with fail
  go_cut [9, 10, 11, 12, 13, 14, 15, 16] (fun _ _ _ _ _ _ _ _ wc => Below w.heap.size w wc)
  case first =>
    by_cases hpe : putErr n size = 0
    · obtain ⟨f1, f2, f3⟩ := put_back n size hpe
      have hlit := little_any n size
      rw [hpe] at hlit ⊢
      generalize putB n size = pb at *
      have f4 : ofN pb.reverse.reverse = n := by rw [List.reverse_reverse]; exact f1
      have f5 : ofE pb.reverse = 0 := by rw [ofE_reverse]; exact f2
      have hbo : ∀ v w', Sl w' w'.heap.size v pb → Calls Tryd.prog 11 #[v] w' fun e w'' => e = .returned (.tuple #[.int .u64 n, .int .i64 0]) ∧ w' = w'' := fun v w' hs => by
        have := bigOf_any _ v pb w' hs (by omega)
        rwa [f1, f2] at this
      have hlo : ∀ v w', Sl w' w'.heap.size v pb.reverse → Calls Tryd.prog 13 #[v] w' fun e w'' => e = .returned (.tuple #[.int .u64 n, .int .i64 0]) ∧ w' = w'' := fun v w' hs => by
        have := littleOf_any _ v pb.reverse w' hs (by rw [List.length_reverse]; omega)
        rwa [f4, f5] at this
      clear f1 f2 f4 f5 hpe
      obtain ⟨A, c, rfl, _, _⟩ := x2.form
      have f6 : ((pb.length : Int) != size) = false := by simp [f3]
      go_wp2_with (first | (go_at_call 11; refine (hbo _ _ x2).mono ?_; rintro e w' ⟨rfl, rfl⟩) | (go_at_call 12; refine (hlit _).mono ?_))
      rintro e w3 ⟨v3, rfl, g3⟩
      have b3 := Below.chain b2 g3.2
      have x3 := gives_sl g3
      clear g3 b2 x2
      go_wp2_with (go_at_call 13; refine (hlo _ _ x3).mono ?_; rintro e w' ⟨rfl, rfl⟩)
      go_meet
      case rel => exact b3
    · have f0 : ((putErr n size == 0) : Bool) = false := by rw [beq_eq_false_iff_ne]; exact hpe
      go_wp2
      go_meet
      case rel => exact b2
  case rest =>
    have b3 : Below w.heap.size w wc := hcut
    have hs3 := hs.step b3
    clear b2 x2 hpl hs hcut
    go_wp2_with (go_at_call 15; refine (hex_any _ _ bs _ hs3 (Nat.le_refl _) (by omega)).mono ?_)
    rintro e w4 ⟨rfl, b4⟩
    have b14 := Below.chain b3 b4
    have hs4 := hs3.step b4
    clear b3 b4 hs3
    go_wp2_with (go_at_call 14; refine (unhex_hex bs hl _).mono ?_)
    rintro e w5 ⟨v5, rfl, g5⟩
    have b15 := Below.chain b14 g5.2
    have hs5 := hs4.step g5.2
    have x5 := gives_sl g5
    clear b14 hs4 g5
    go_wp2_with (go_at_call 17; refine (quote_any s _ (by omega)).mono ?_)
    rintro e w6 ⟨rfl, b6⟩
    have b16 := Below.chain b15 b6
    have hs6 := hs5.step b6
    have x6 := x5.step b6
    clear b15 hs5 x5 b6
    go_wp2_with (go_at_call 16; refine (unquote_quote s hl2 _).mono ?_)
    rintro e w7 ⟨rfl, b7⟩
    have b17 := Below.chain b16 b7
    have hs7 := hs6.step b7
    have x7 := x6.step b7
    have hv7 := hv.step b17
    clear b16 hs6 x6 b7
    go_wp2_with (go_at_call 8; refine (decimal_any n hn _ hv7.1).mono ?_)
    rintro e w8 ⟨rfl, b8⟩
    have b18 := Below.chain b17 b8
    have hs8 := hs7.step b8
    have x8 := x7.step b8
    have hv8 := hv7.step b8
    clear b17 hs7 x7 b8 hv7
    go_wp2_with (go_at_call 5; refine (number_yes n hn _ hv8).mono ?_)
    rintro e w9 ⟨rfl, b9⟩
    have b19 := Below.chain b18 b9
    have hs9 := hs8.step b9
    have x9 := x8.step b9
    clear b18 hs8 x8 b9 hv8
    go_wp2_with (go_at_call 20; refine (bits_any _ _ bs _ hs9 (Nat.le_refl _) (by omega)).mono ?_)
    rintro e w10 ⟨v10, rfl, o10, b10⟩
    have b20 := Below.chain b19 b10
    have hs10 := hs9.step b10
    have x10 := x9.step b10
    have y10 := Slb.of_own o10
    clear b19 hs9 x9 b10 o10
    go_wp2_with (go_at_call 19; refine (fromBits_bits _ _ bs _ y10 (Nat.le_refl _) hl).mono ?_)
    rintro e w11 ⟨v11, rfl, g11⟩
    have b21 := Below.chain b20 g11.2
    have hs11 := hs10.step g11.2
    have x11 := x10.step g11.2
    have z11 := gives_sl g11
    have hv11 := hv.step b21
    clear b20 hs10 x10 y10 g11
    obtain ⟨A, c, rfl, _, _⟩ := hs11.form
    have fk : (((2 * bs.length : Nat) : Int) != 2 * (bs.length : Int)) = false := by simp
    go_wp2_with (go_at_call 18; refine (refEqual_any _ _ _ _ bs bs _ z11 hs11).mono ?_; rintro e w' ⟨rfl, rfl⟩)
    go_wp2_with (go_at_call 18; refine (refEqual_any _ _ _ _ bs bs _ x11 hs11).mono ?_; rintro e w' ⟨rfl, rfl⟩)
    go_wp2_with (go_at_call 14; refine (unhexU_any s _ (by omega)).mono ?_)
    rintro e w12 ⟨v12, rfl, g12⟩
    have b22 := Below.chain b21 g12.2
    have x12 := gives_sl g12
    have hv12 := hv.step b22
    have hqs := unquote_ex s hl2
    obtain ⟨x, er, hno⟩ := numOf_ex s.data.toList
    have hnum := number_any s (by omega) x er hno
    clear b21 hs11 x11 z11 hv11 g12 fk
    by_cases ho : unOk s.data.toList
    · have he : unE s.data.toList = 0 := if_pos ho
      rw [he]
      have hxb := hex_back _ v12 s w12 ho x12 (Nat.le_refl _) hl2
      clear x12 ho he
      generalize hexN s.data.toList = un at *
      go_wp2_with (go_at_call 15; refine hxb.mono ?_)
      rintro e w13 ⟨rfl, b13⟩
      have b23 := Below.chain b22 b13
      clear b22 b13 hxb
      rcases hqs with ⟨t, ht1, ht2, ht⟩ | ht
      · go_wp2_with (go_at_call 16; refine (ht _).mono ?_)
        rintro e w14 ⟨rfl, d1⟩
        have d2 := Below.chain b23 d1
        clear d1 ht
        go_wp2_with (go_at_call 17; refine (quote_back t s ht1 ht2 _).mono ?_)
        rintro e w15 ⟨rfl, d3⟩
        have d4 := Below.chain d2 d3
        have hvq := hv.step d4
        clear d2 d3 ht1
        go_wp2_with (go_at_call 5; refine (hnum _ hvq).mono ?_)
        rintro e w16 ⟨rfl, c1⟩
        have c2 := Below.chain d4 c1
        have hvn := hvq.step c1
        clear c1 hnum
        rcases hno with ⟨hx1, hx2, rfl⟩ | ⟨_, rfl, rfl⟩
        · go_wp2_with (go_at_call 8; refine (decimal_back s x hx1 hx2 _ hvn).mono ?_)
          rintro e w17 ⟨rfl, c3⟩
          have c4 := Below.chain c2 c3
          clear c2 c3 hx2
          go_wp2
          go_ret
          exact ⟨rfl, c4⟩
        · go_wp2
          go_ret
          exact ⟨rfl, c2⟩
      · go_wp2_with (go_at_call 16; refine (ht _).mono ?_)
        rintro e w14 ⟨rfl, d1⟩
        have d4 := Below.chain b23 d1
        have hvq := hv.step d4
        clear d1 ht
        go_wp2_with (go_at_call 5; refine (hnum _ hvq).mono ?_)
        rintro e w16 ⟨rfl, c1⟩
        have c2 := Below.chain d4 c1
        have hvn := hvq.step c1
        clear c1 hnum
        rcases hno with ⟨hx1, hx2, rfl⟩ | ⟨_, rfl, rfl⟩
        · go_wp2_with (go_at_call 8; refine (decimal_back s x hx1 hx2 _ hvn).mono ?_)
          rintro e w17 ⟨rfl, c3⟩
          have c4 := Below.chain c2 c3
          clear c2 c3 hx2
          go_wp2
          go_ret
          exact ⟨rfl, c4⟩
        · go_wp2
          go_ret
          exact ⟨rfl, c2⟩
    · have he : unE s.data.toList = 10 := if_neg ho
      rw [he]
      clear x12 ho he
      generalize hexN s.data.toList = un at *
      rcases hqs with ⟨t, ht1, ht2, ht⟩ | ht
      · go_wp2_with (go_at_call 16; refine (ht _).mono ?_)
        rintro e w14 ⟨rfl, d1⟩
        have d2 := Below.chain b22 d1
        clear d1 ht
        go_wp2_with (go_at_call 17; refine (quote_back t s ht1 ht2 _).mono ?_)
        rintro e w15 ⟨rfl, d3⟩
        have d4 := Below.chain d2 d3
        have hvq := hv.step d4
        clear d2 d3 ht1
        go_wp2_with (go_at_call 5; refine (hnum _ hvq).mono ?_)
        rintro e w16 ⟨rfl, c1⟩
        have c2 := Below.chain d4 c1
        have hvn := hvq.step c1
        clear c1 hnum
        rcases hno with ⟨hx1, hx2, rfl⟩ | ⟨_, rfl, rfl⟩
        · go_wp2_with (go_at_call 8; refine (decimal_back s x hx1 hx2 _ hvn).mono ?_)
          rintro e w17 ⟨rfl, c3⟩
          have c4 := Below.chain c2 c3
          clear c2 c3 hx2
          go_wp2
          go_ret
          exact ⟨rfl, c4⟩
        · go_wp2
          go_ret
          exact ⟨rfl, c2⟩
      · go_wp2_with (go_at_call 16; refine (ht _).mono ?_)
        rintro e w14 ⟨rfl, d1⟩
        have d4 := Below.chain b22 d1
        have hvq := hv.step d4
        clear d1 ht
        go_wp2_with (go_at_call 5; refine (hnum _ hvq).mono ?_)
        rintro e w16 ⟨rfl, c1⟩
        have c2 := Below.chain d4 c1
        have hvn := hvq.step c1
        clear c1 hnum
        rcases hno with ⟨hx1, hx2, rfl⟩ | ⟨_, rfl, rfl⟩
        · go_wp2_with (go_at_call 8; refine (decimal_back s x hx1 hx2 _ hvn).mono ?_)
          rintro e w17 ⟨rfl, c3⟩
          have c4 := Below.chain c2 c3
          clear c2 c3 hx2
          go_wp2
          go_ret
          exact ⟨rfl, c4⟩
        · go_wp2
          go_ret
          exact ⟨rfl, c2⟩
end Go.Proofs.YtijkhpiehaocpaaDoor
