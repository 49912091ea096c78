/-
  WINTERNITZ: of two unlike hashes each has a digit that is less than the other's.
-/
import Derived.Test.YtcbcgegppnojmaaLm8
namespace Go.Proofs.Ytcbcgegppnojmaa
open Go.RowKit
set_option maxRecDepth 100000
/-- the number that digits to the base M write, the highest first -/
def val (M : Nat) : List Nat → Nat
  | [] => 0
  | d :: r => d * M ^ r.length + val M r
theorem val_append (M : Nat) (l m : List Nat) : val M (l ++ m) = val M l * M ^ m.length + val M m := by
  induction l with
  | nil => simp [val]
  | cons d r ih =>
    show d * M ^ (r ++ m).length + val M (r ++ m) = (d * M ^ r.length + val M r) * M ^ m.length + val M m
    rw [ih, List.length_append, Nat.pow_add, Nat.add_mul, Nat.mul_assoc, Nat.add_assoc]
theorem val_lt (M : Nat) (l : List Nat) (h : ∀ d ∈ l, d < M) : val M l < M ^ l.length := by
  induction l with
  | nil => simp [val]
  | cons d r ih =>
    have h1 := h d (List.mem_cons_self)
    have h2 := ih fun e he => h e (List.mem_cons_of_mem _ he)
    show d * M ^ r.length + val M r < M ^ (r.length + 1)
    have h3 : (d + 1) * M ^ r.length ≤ M * M ^ r.length := Nat.mul_le_mul_right _ h1
    rw [Nat.pow_succ, Nat.mul_comm (M ^ r.length) M]
    rw [Nat.add_mul, Nat.one_mul] at h3
    omega
/-- each digit of the one is at least the other's -/
def geL : List Nat → List Nat → Prop
  | [], [] => True
  | d :: r, e :: s => e ≤ d ∧ geL r s
  | _, _ => False
theorem geL_of : ∀ (l m : List Nat), l.length = m.length → (∀ i, i < l.length → m.getD i 0 ≤ l.getD i 0) → geL l m
  | [], [], _, _ => trivial
  | [], _ :: _, h, _ => by simp at h
  | _ :: _, [], h, _ => by simp at h
  | d :: r, e :: s, h, hi => by
    refine ⟨by simpa using hi 0 (by simp), geL_of r s (by simpa using h) fun i hl => ?_⟩
    have := hi (i + 1) (by simpa using hl)
    simpa using this
theorem geL_append : ∀ (a c b d : List Nat), a.length = c.length → geL (a ++ b) (c ++ d) → geL a c ∧ geL b d
  | [], [], _, _, _, h => ⟨trivial, h⟩
  | [], _ :: _, _, _, h, _ => by simp at h
  | _ :: _, [], _, _, h, _ => by simp at h
  | x :: a, y :: c, b, d, hl, h => by
    have h' : y ≤ x ∧ geL (a ++ b) (c ++ d) := h
    have h2 := geL_append a c b d (by simpa using hl) h'.2
    exact ⟨⟨h'.1, h2.1⟩, h2.2⟩
theorem geL_len : ∀ (l m : List Nat), geL l m → l.length = m.length
  | [], [], _ => rfl
  | [], _ :: _, h => h.elim
  | _ :: _, [], h => h.elim
  | _ :: r, _ :: s, h => by
    have h' : _ ∧ geL r s := h
    simp [geL_len r s h'.2]
theorem val_ge (M : Nat) : ∀ (l m : List Nat), geL l m → val M m ≤ val M l
  | [], [], _ => Nat.le_refl _
  | [], _ :: _, h => h.elim
  | _ :: _, [], h => h.elim
  | d :: r, e :: s, h => by
    have h' : e ≤ d ∧ geL r s := h
    have h1 := val_ge M r s h'.2
    have h2 := geL_len r s h'.2
    show e * M ^ s.length + val M s ≤ d * M ^ r.length + val M r
    rw [h2]
    exact Nat.add_le_add (Nat.mul_le_mul_right _ h'.1) h1
theorem chk_cons (w d : Nat) (r : List Nat) : chk w (d :: r) = (2 ^ w - 1 - d) + chk w r := by simp [chk]
theorem chk_ge (w : Nat) : ∀ (l m : List Nat), geL l m → (∀ d ∈ l, d < 2 ^ w) → chk w l ≤ chk w m ∧ (chk w l = chk w m → l = m)
  | [], [], _, _ => ⟨Nat.le_refl _, fun _ => rfl⟩
  | [], _ :: _, h, _ => h.elim
  | _ :: _, [], h, _ => h.elim
  | d :: r, e :: s, h, hd => by
    have h' : e ≤ d ∧ geL r s := h
    have hd1 := hd d (List.mem_cons_self)
    obtain ⟨h1, h2⟩ := chk_ge w r s h'.2 fun x hx => hd x (List.mem_cons_of_mem _ hx)
    rw [chk_cons, chk_cons]
    generalize 2 ^ w = M at hd1 ⊢
    refine ⟨by omega, fun he => ?_⟩
    have e1 : chk w r = chk w s := by omega
    have e2 : d = e := by omega
    rw [e2, h2 e1]
theorem val_dg (w : Nat) (hw : wOk w) (x : UInt8) : val (2 ^ w) (dg w x) = x.toNat := by
  have key : ∀ w ∈ [1, 2, 4, 8], ∀ n : Fin 256, val (2 ^ w) ((List.range (8 / w)).map fun j => n.val / 2 ^ (8 - w * (j + 1)) % 2 ^ w) = n.val := by decide +kernel
  have hm : w ∈ [1, 2, 4, 8] := by unfold wOk at hw; simpa using hw
  exact key w hm ⟨x.toNat, x.toNat_lt⟩
theorem pcs_inj (w : Nat) (hw : wOk w) : ∀ (bs cs : List UInt8), bs.length = cs.length → pcs w bs = pcs w cs → bs = cs
  | [], [], _, _ => rfl
  | [], _ :: _, h, _ => by simp at h
  | _ :: _, [], h, _ => by simp at h
  | x :: bs, y :: cs, hl, h => by
    have h' : dg w x ++ pcs w bs = dg w y ++ pcs w cs := h
    obtain ⟨h1, h2⟩ := List.append_inj h' (by rw [dg_length, dg_length])
    have e1 : x = y := UInt8.toNat_inj.1 (by rw [← val_dg w hw x, ← val_dg w hw y, h1])
    rw [e1, pcs_inj w hw bs cs (by simpa using hl) h2]
theorem bigB_two (n : Nat) (h : n < 65536) : ∃ x y : UInt8, bigB n 2 = [x, y] ∧ x.toNat * 256 + y.toNat = n := by
  refine ⟨UInt8.ofNat (n / 256 % 256), UInt8.ofNat (n % 256), ?_, ?_⟩
  · simp [bigB, litB]
  · have h1 : (UInt8.ofNat (n / 256 % 256)).toNat = n / 256 := by simp; omega
    have h2 : (UInt8.ofNat (n % 256)).toNat = n % 256 := by simp
    rw [h1, h2]
    omega
theorem val_two (w : Nat) (hw : wOk w) (n : Nat) (h : n < 65536) : val (2 ^ w) (pcs w (bigB n 2)) = n := by
  obtain ⟨x, y, e, hn⟩ := bigB_two n h
  have e2 : pcs w [x, y] = dg w x ++ dg w y := by simp [pcs]
  rw [e, e2, val_append, val_dg w hw, val_dg w hw, dg_length]
  have e3 : (2 ^ w) ^ (8 / w) = 256 := by rcases hw with rfl | rfl | rfl | rfl <;> rfl
  rw [e3]
  exact hn
theorem chk_le (w : Nat) (l : List Nat) : chk w l ≤ l.length * (2 ^ w - 1) := by
  induction l with
  | nil => simp [chk]
  | cons d r ih =>
    rw [chk_cons, List.length_cons, Nat.add_mul, Nat.one_mul]
    omega
/-- the first digits of the checksum write the checksum -/
theorem val_check (w v L C : Nat) (hw : wOk w) (hv : w * v + L = 16) (hC : C * 2 ^ L < 65536) : val (2 ^ w) ((pcs w (bigB (C * 2 ^ L) 2)).take v) = C := by
  have h := val_two w hw (C * 2 ^ L) hC
  have hlen : (pcs w (bigB (C * 2 ^ L) 2)).length = 8 / w * 2 := by rw [pcs_length, bigB_length]
  have hlt := pcs_lt w (bigB (C * 2 ^ L) 2)
  generalize pcs w (bigB (C * 2 ^ L) 2) = D at h hlen hlt ⊢
  rw [← List.take_append_drop v D, val_append] at h
  have hr : (D.drop v).length = 8 / w * 2 - v := by rw [List.length_drop, hlen]
  have hp : (2 ^ w) ^ (D.drop v).length = 2 ^ L := by
    rw [hr, ← Nat.pow_mul]
    congr 1
    rcases hw with rfl | rfl | rfl | rfl <;> omega
  have hR := val_lt (2 ^ w) (D.drop v) fun d hd => hlt d (List.mem_of_mem_drop hd)
  rw [hp] at h hR
  generalize val (2 ^ w) (D.take v) = t at h ⊢
  generalize val (2 ^ w) (D.drop v) = r at h hR
  have hpos : 0 < 2 ^ L := Nat.two_pow_pos L
  generalize 2 ^ L = M at h hR hpos
  have h1 : t * M ≤ C * M := by omega
  have h2 : C * M < (t + 1) * M := by rw [Nat.add_mul, Nat.one_mul]; omega
  have h3 := Nat.le_of_mul_le_mul_right h1 hpos
  have h4 := Nat.lt_of_mul_lt_mul_right h2
  omega
theorem shape_facts {N W P L : Nat} (h : Shape N W P L) : wOk W ∧ 8 / W * N ≤ P ∧ W * (P - 8 / W * N) + L = 16 ∧ 8 / W * N * (2 ^ W - 1) * 2 ^ L < 65536 := by
  rcases h with ⟨rfl, rfl, rfl, rfl⟩ | ⟨rfl, rfl, rfl, rfl⟩ | ⟨rfl, rfl, rfl, rfl⟩ | ⟨rfl, rfl, rfl, rfl⟩ | ⟨rfl, rfl, rfl, rfl⟩ | ⟨rfl, rfl, rfl, rfl⟩ | ⟨rfl, rfl, rfl, rfl⟩ | ⟨rfl, rfl, rfl, rfl⟩ <;> exact ⟨by unfold wOk; omega, by decide, by decide, by decide⟩
theorem dgs_split {N W P L : Nat} (h : Shape N W P L) (bs : List UInt8) (hb : bs.length = N) : dgs W P L bs = pcs W bs ++ (pcs W (bigB (chk W (pcs W bs) * 2 ^ L) 2)).take (P - 8 / W * N) := by
  have e1 : (pcs W bs).length = 8 / W * N := by rw [pcs_length, hb]
  unfold dgs ckB
  rw [List.take_append, e1, List.take_of_length_le (by rw [e1]; exact (shape_facts h).2.1)]
theorem dgs_lt (W P L : Nat) (bs : List UInt8) : ∀ d ∈ dgs W P L bs, d < 2 ^ W := by
  intro d hd
  have h1 := List.mem_of_mem_take hd
  rcases List.mem_append.1 h1 with h2 | h2
  · exact pcs_lt W _ d h2
  · exact pcs_lt W _ d h2
/-- no digit of the one is less than the other's: then the hashes are equal -/
theorem same_of_ge {N W P L : Nat} (h : Shape N W P L) (a b : List UInt8) (ha : a.length = N) (hb : b.length = N) (hge : ∀ i, i < P → (dgs W P L b).getD i 0 ≤ (dgs W P L a).getD i 0) : a = b := by
  obtain ⟨hw, hP, hv, hC⟩ := shape_facts h
  have hla := dgs_len h a ha
  have hlb := dgs_len h b hb
  have hg := geL_of (dgs W P L a) (dgs W P L b) (by rw [hla.1, hlb.1]) (fun i hi => hge i (by rw [hla.1] at hi; exact hi))
  rw [dgs_split h a ha, dgs_split h b hb] at hg
  have ea : (pcs W a).length = 8 / W * N := by rw [pcs_length, ha]
  have eb : (pcs W b).length = 8 / W * N := by rw [pcs_length, hb]
  obtain ⟨h1, h2⟩ := geL_append _ _ _ _ (by rw [ea, eb]) hg
  have ca := chk_le W (pcs W a)
  have cb := chk_le W (pcs W b)
  rw [ea] at ca
  rw [eb] at cb
  have hCa : chk W (pcs W a) * 2 ^ L < 65536 := Nat.lt_of_le_of_lt (Nat.mul_le_mul_right _ ca) hC
  have hCb : chk W (pcs W b) * 2 ^ L < 65536 := Nat.lt_of_le_of_lt (Nat.mul_le_mul_right _ cb) hC
  have h3 := val_ge (2 ^ W) _ _ h2
  rw [val_check W _ L _ hw hv hCa, val_check W _ L _ hw hv hCb] at h3
  obtain ⟨h4, h5⟩ := chk_ge W _ _ h1 (pcs_lt W a)
  exact pcs_inj W hw a b (by rw [ha, hb]) (h5 (by omega))
/-- is there a digit, among the first k, that is less? -/
def lessU (X Y : List Nat) (k : Nat) : Bool := (List.range k).any fun i => decide (X.getD i 0 < Y.getD i 0)
theorem lessU_succ (X Y : List Nat) (k : Nat) (hx : k < X.length) (hy : k < Y.length) : lessU X Y (k + 1) = (lessU X Y k || decide (X[k] < Y[k])) := by
  unfold lessU
  rw [List.range_succ, List.any_append]
  simp [List.getD, List.getElem?_eq_getElem hx, List.getElem?_eq_getElem hy]
theorem lessU_self (X : List Nat) (k : Nat) : lessU X X k = false := by simp [lessU]
theorem lessU_all {N W P L : Nat} (h : Shape N W P L) (a b : List UInt8) (ha : a.length = N) (hb : b.length = N) : lessU (dgs W P L a) (dgs W P L b) P = !(a == b) := by
  by_cases e : a = b
  · subst e
    rw [lessU_self]
    simp
  · have h1 : (a == b) = false := by simpa using e
    rw [h1]
    cases h2 : lessU (dgs W P L a) (dgs W P L b) P with
    | true => rfl
    | false =>
      refine absurd (same_of_ge h a b ha hb fun i hi => ?_) e
      unfold lessU at h2
      rw [List.any_eq_false] at h2
      have := h2 i (List.mem_range.2 hi)
      simpa using this
end Go.Proofs.Ytcbcgegppnojmaa
