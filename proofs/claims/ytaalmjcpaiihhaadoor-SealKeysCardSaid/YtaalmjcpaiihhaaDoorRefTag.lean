/-
  THE WALK of the document's own Tag.
-/
import Derived.Test.YtaalmjcpaiihhaaDoorFew4
import Derived.Test.YtaalmjcpaiihhaaDoorKeys1
import Derived.Test.YtaalmjcpaiihhaaDoorME
namespace Go.Proofs.YtaalmjcpaiihhaaDoor
open Go.RowKit
set_option maxRecDepth 100000

/-- what the tag is made of -/
def tagParts (nonce ad text : List UInt8) : List (List UInt8) := [nonce, bigB ad.length 8, ad, bigB text.length 8, text]
def tagB (mac nonce ad text : List UInt8) : List UInt8 := macB mac (tagParts nonce ad text).flatten
theorem tagParts_length (nonce ad text : List UInt8) : (tagParts nonce ad text).flatten.length = nonce.length + ad.length + text.length + 16 := by
  simp [tagParts, bigB_length]; omega

set_option maxHeartbeats 1000000 in
theorem refTag_any (B : Nat) (vm vn va vt : Value) (mac nonce ad text : List UInt8) (w : World) (hm : Sl w B vm mac) (hn : Sl w B vn nonce) (ha : Sl w B va ad) (ht : Sl w B vt text) (hB : B ≤ w.heap.size)
    (hml : mac.length ≤ 1000000) (hnl : nonce.length ≤ 100) (hal : ad.length ≤ 400000) (htl : text.length ≤ 400000) :
    Calls Tryd.prog 22 #[vm, vn, va, vt] w (SlIs w (tagB mac nonce ad text)) := by
  unfold SlIs
  obtain ⟨Am, cm, rfl, _, _⟩ := hm.form
  obtain ⟨An, cn, rfl, _, _⟩ := hn.form
  obtain ⟨Aa, ca, rfl, _, _⟩ := ha.form
  obtain ⟨At, ct, rfl, _, _⟩ := ht.form
  have hp0 := tagParts_length nonce ad text
  have HP : Shh ((tagParts nonce ad text).flatten.length ≤ 1000000) := ⟨by omega⟩
  clear hp0
  generalize hn0 : w.heap.size = n0 at *
  have w1a : (ad.length : Int) % 18446744073709551616 = (ad.length : Int) := by omega
  have w1t : (text.length : Int) % 18446744073709551616 = (text.length : Int) := by omega
  have HS : Shh (Sl w B (.slice Am mac.length cm) mac ∧ Sl w B (.slice An nonce.length cn) nonce ∧ Sl w B (.slice Aa ad.length ca) ad ∧ Sl w B (.slice At text.length ct) text) := ⟨hm, hn, ha, ht⟩
  clear hm hn ha ht
  go_enter Tryd.func22, Tryd.ntmps22
  go_wp2_with (go_at_call 47; refine (refBig_any ad.length 8 _ (by omega) (by omega)).mono ?_)
  rintro e w1 ⟨v1, rfl, g1⟩
  obtain ⟨A1, c1, rfl, _, _⟩ := (gives_sl g1).form
  rw [bigB_length] at g1 ⊢
  have G1 : Shh (Sl w1 w1.heap.size (.slice A1 8 c1) (bigB ad.length 8)) := ⟨gives_sl g1⟩
  have b1 : Below n0 w w1 := by rw [← hn0]; exact g1.2
  have hz1 := b1.size
  rw [hn0] at hz1
  clear g1
  generalize hn1 : w1.heap.size = n1 at *
  go_wp2_with (go_at_call 47; refine (refBig_any text.length 8 _ (by omega) (by omega)).mono ?_)
  rintro e w2 ⟨v2, rfl, g2⟩
  have b2 : Below n1 w1 w2 := by rw [← hn1]; exact g2.2
  have hz2 := b2.size
  rw [hn1] at hz2
  obtain ⟨A2, c2, rfl, _, _⟩ := (gives_sl g2).form
  rw [bigB_length] at g2 ⊢
  have G2 : Shh (Sl w2 w2.heap.size (.slice A2 8 c2) (bigB text.length 8) ∧ Sl w2 w2.heap.size (.slice A1 8 c1) (bigB ad.length 8)) := ⟨gives_sl g2, (G1.out.below b2).more hz2⟩
  have b02 : Below n0 w w2 := b1.trans (b2.mono hz1)
  clear g2 b2 b1 G1
  generalize hn2 : w2.heap.size = n2 at *
  have hR : ∀ o, Below n2 w2 (w2.alloc o) := fun o => (Below.refl n2 w2).alloc (by omega) o
  have hA : Shh (∀ o, Below n0 w (w2.alloc o)) := ⟨fun o => b02.trans ((hR o).mono (by omega))⟩
  have hPt : Shh (PartsO (w2.alloc (.cells #[.slice An nonce.length cn, .slice A1 8 c1, .slice Aa ad.length ca, .slice A2 8 c2, .slice At text.length ct] 24)) (n2 + 1) (n2 + 1) (.slice (some ⟨n2, 0, none⟩) 5 5) (tagParts nonce ad text)) := by
    have k (v : Value) (bs : List UInt8) (h : Sl w B v bs) (o : Obj) : Sl (w2.alloc o) (n2 + 1) v bs := (h.below ((hA.out o).mono hB)).more (by omega)
    have k2 (v : Value) (bs : List UInt8) (h : Sl w2 n2 v bs) (o : Obj) : Sl (w2.alloc o) (n2 + 1) v bs := (h.below (hR o)).more (by omega)
    exact ⟨PartsO.five (Nat.lt_succ_self _) (by omega) (Row.new_ hn2.symm rfl) (k _ _ HS.out.2.1 _) ((k _ _ HS.out.2.1 (.cells #[] 0)).off (Nat.le_refl _)) (k2 _ _ G2.out.2 _) ((k2 _ _ G2.out.2 (.cells #[] 0)).off (Nat.le_refl _)) (k _ _ HS.out.2.2.1 _) ((k _ _ HS.out.2.2.1 (.cells #[] 0)).off (Nat.le_refl _)) (k2 _ _ G2.out.1 _) ((k2 _ _ G2.out.1 (.cells #[] 0)).off (Nat.le_refl _)) (k _ _ HS.out.2.2.2 _) ((k _ _ HS.out.2.2.2 (.cells #[] 0)).off (Nat.le_refl _))⟩
  clear G2 b02 hR
  go_wp2_with (go_at_call 23; refine (refJoin_any (n2 + 1) (n2 + 1) _ _ _ hPt.out (by rw [asz, hn2]; exact Nat.le_refl _) (by have := HP.out; omega) (by simp [tagParts])).mono ?_)
  rintro e w3 ⟨v3, rfl, g3⟩
  have b3 := g3.2
  rw [asz, hn2] at b3
  have hz3 := b3.size
  rw [asz, hn2] at hz3
  have b03 : Below n0 w w3 := (hA.out _).trans (b3.mono (by omega))
  have G3 : Shh (Sl w3 w3.heap.size v3 (tagParts nonce ad text).flatten ∧ Sl w3 w3.heap.size (.slice Am mac.length cm) mac) := ⟨gives_sl g3, (HS.out.1.below (b03.mono hB)).more (by omega)⟩
  clear g3 b3 hPt hA HS
  go_wp2_with (go_at_call 46; refine (refMac_any w3.heap.size _ _ mac _ w3 G3.out.2 G3.out.1 (Nat.le_refl _) hml HP.out).mono ?_)
  rintro e w4 ⟨v4, rfl, g4⟩
  have H : Shh (Sl w4 w4.heap.size v4 (tagB mac nonce ad text) ∧ Below n0 w w4) := ⟨gives_sl g4, b03.trans (g4.2.mono (by omega))⟩
  clear g4 G3 b03
  go_wp2
  go_ret
  exact ⟨_, rfl, H.out⟩
end Go.Proofs.YtaalmjcpaiihhaaDoor
