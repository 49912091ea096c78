/-
  append of zeros ('append(x, make([]byte, n)...)') onto a slice of bytes that the call itself made.
-/
import Derived.Test.YtjondbamnbgiaaaDoorApp
import Derived.Test.YtjondbamnbgiaaaDoorRow
namespace Go.Proofs.YtjondbamnbgiaaaDoor
open Go.RowKit
set_option maxRecDepth 100000

theorem zeroCells_u8 (n : Nat) : Builtin.zeroCells #[.int .u8 0] n = (Lib.byteCells (List.replicate n 0)).toArray := by
  apply Array.ext'
  apply List.ext_getElem
  · simp [Builtin.zeroCells, Lib.byteCells]
  · intro i h1 h2
    simp [Builtin.zeroCells, Lib.byteCells, Nat.mod_one]
section
variable {P : Program} (w : World)
theorem grownCap_def (w : World) (need old : Nat) (e : TypeId) : (Question.appendCap need old e).cut (w.tape w.drawn (.appendCap need old e)) = grownCap w need old e := rfl
theorem run_appendZ_room (t ti ty e : TypeId) (i : TypeInfo) (ht : P.underlying t = some (.slice e)) (hti : P.underlying ti = some (.int .i64)) (hi : P.info? e = some i) (hz : i.zero = some (.int .u8 0)) (hsz : i.size = 1) (hby : i.bytes = 1)
    (g sLen sCap n : Nat) (cur : Array Value) (hg : w.heap[g]? = some (.cells cur e (0, 0))) (hn0 : 0 < n) (hn : n ≤ 1000000) (hroom : sLen + n ≤ sCap) (hfit : sLen + n ≤ cur.size) :
    (Builtin.append_ #[t, ti] ty #[.slice (some ⟨g, 0, none⟩) sLen sCap, .int .i64 (n : Int)]).run P w =
      .ok (.slice (some ⟨g, 0, none⟩) (sLen + n) sCap) (w.setRow g (cur.toList.take sLen ++ Lib.byteCells (List.replicate n 0) ++ cur.toList.drop (sLen + n)).toArray) := by
  have hl : (Lib.byteCells (List.replicate n (0 : UInt8))).length = n := by simp [Lib.byteCells]
  have hst := run_storeCells_at P g sLen e (Lib.byteCells (List.replicate n 0)) 0 cur w hg (by rw [hl]; omega) (cell_oneCell _)
  simp only [Nat.add_zero, hl] at hst
  have hw : IntKind.i64.wrap (n : Int) = (n : Int) := by rw [IntKind.wrap_i64]; omega
  have h1 : ¬ (281474976710656 : Int) < (n : Int) := by omega
  have hzc := zeroCells_u8 n
  have hn1 : ¬ n = 0 := by omega
  have hn2 : ((n : Int) < 0) = False := by simp
  generalize hB : Lib.byteCells (List.replicate n (0 : UInt8)) = bz at *
  simp [Builtin.append_, run_underlying ht, run_underlying hti, sizeOf, typeInfo, zeroValue, hi, hz, hsz, hby, hw, h1, hn1, hn2, hroom, asInt, asIntOf, Value.cells, hzc, Addr.add_lit, hst]
theorem run_appendZ_grow (t ti ty e : TypeId) (i : TypeInfo) (ht : P.underlying t = some (.slice e)) (hti : P.underlying ti = some (.int .i64)) (hi : P.info? e = some i) (hz : i.zero = some (.int .u8 0)) (hsz : i.size = 1) (hby : i.bytes = 1)
    (g sLen sCap n : Nat) (olds : List Value) (hlo : olds.length = sLen) (holds : ∀ j v, olds[j]? = some v → w.cell? ((⟨g, 0, none⟩ : Addr).add j) = some v) (hn0 : 0 < n) (hn : n ≤ 1000000) (hs : sLen ≤ 1000000) (hg : sCap < sLen + n) :
    (Builtin.append_ #[t, ti] ty #[.slice (some ⟨g, 0, none⟩) sLen sCap, .int .i64 (n : Int)]).run P w =
      .ok (.slice (some ⟨w.heap.size, 0, none⟩) (sLen + n) (grownCap w (sLen + n) sCap e))
        (w.drew.alloc (.cells (olds ++ Lib.byteCells (List.replicate n 0) ++ Lib.byteCells (List.replicate (grownCap w (sLen + n) sCap e - (sLen + n)) 0)).toArray e)) := by
  have hzc2 := zeroCells_u8 (grownCap w (sLen + n) sCap e - (sLen + n))
  have hzc3 : Builtin.zeroCells #[.int .u8 0] ((Question.appendCap (sLen + n) sCap e).cut (w.tape w.drawn (.appendCap (sLen + n) sCap e)) - (sLen + n)) = (Lib.byteCells (List.replicate (grownCap w (sLen + n) sCap e - (sLen + n)) 0)).toArray := hzc2
  clear hzc2
  have hn' : ¬ (sLen + n ≤ sCap) := by omega
  have hw : IntKind.i64.wrap (n : Int) = (n : Int) := by rw [IntKind.wrap_i64]; omega
  have h1 : ¬ (281474976710656 : Int) < (n : Int) := by omega
  have h63' : ¬ (9223372036854775807 < ((sLen : Int) + (n : Int))) := by omega
  have h48 : Builtin.nextslicecap (sLen + n) sCap * i.bytes ≤ 281474976710656 := growslice_fits (by omega) (by rw [hby]; omega)
  have h48' : ¬ (281474976710656 < Builtin.nextslicecap (sLen + n) sCap) := by rw [hby] at h48; omega
  have hfo := run_firstCells_some (P := P) w.drew 1 sLen ⟨g, 0, none⟩ sLen sCap olds (by rw [hlo, Nat.mul_one]) (by simpa using holds)
  have hzc := zeroCells_u8 n
  have hn1 : ¬ n = 0 := by omega
  have hn2 : ((n : Int) < 0) = False := by simp
  generalize hB : Lib.byteCells (List.replicate n (0 : UInt8)) = bz at *
  simp [Builtin.append_, run_underlying ht, run_underlying hti, sizeOf, typeInfo, zeroValue, hi, hz, hsz, hby, hw, h1, hn1, hn2, hn', h63', h48', asInt, asIntOf, Value.cells, hzc, hzc3, Question.forced, hfo, newRow, grownCap]
end
section
variable {P : Program} {ops : Array Oper} {rest : List Oper} {o : Oper} {a : Act} {Q : Exit → Act → World → Prop}
/-- n zeros onto a slice of bytes that the call itself made -/
theorem wp_appendZ (w : World) (t ti e : TypeId) (i0 : TypeInfo) (ht : P.underlying t = some (.slice e)) (hti : P.underlying ti = some (.int .i64)) (hi : P.info? e = some i0) (hz : i0.zero = some (.int .u8 0)) (hsz : i0.size = 1) (hby : i0.bytes = 1)
    (hgd : o.guard = none) (s x : Operand) (ho : o.op = .call { callee := .builtin .append, args := #[s, x], argTypes := #[t, ti] })
    {base : Nat} {v : Value} {bs : List UInt8} {n : Nat} (hown : w.ownsRow base e 1 v bs.length (Lib.byteCells bs)) (hs : a.eval s = v) (hx : a.eval x = .int .i64 (n : Int)) (hb0 : 0 < bs.length) (hb1 : bs.length ≤ 1000000) (hn0 : 0 < n) (hn : n ≤ 1000000) (hbase : base ≤ w.heap.size)
    (h : ∀ g cap cur w', Row w' g e cur → base ≤ g → bs.length + n ≤ cap → cap ≤ maxLen → cur.length = cap → cur.take (bs.length + n) = Lib.byteCells (bs ++ List.replicate n 0) → (∀ B, B ≤ base → Below B w w') → wpList P ops Q rest (a.put o.dst (.slice (some ⟨g, 0, none⟩) (bs.length + n) cap)) w') :
    wpList P ops Q (o :: rest) a w := by
  rcases hown.2 with ⟨_, hn'⟩ | ⟨g, cap, cur, rfl, hbg, hg, hnc, hcm, hcs, htake⟩
  · omega
  have happ : Lib.byteCells (bs ++ List.replicate n (0 : UInt8)) = Lib.byteCells bs ++ Lib.byteCells (List.replicate n 0) := by simp [Lib.byteCells]
  have hzl : (Lib.byteCells (List.replicate n (0 : UInt8))).length = n := by simp [Lib.byteCells]
  have hbl : (Lib.byteCells bs).length = bs.length := Lib.byteCells_length bs
  rw [Nat.mul_one] at hcs htake
  refine wpList_plain hgd fun K hK => ?_
  unfold Oper.wp
  by_cases hroom : bs.length + n ≤ cap
  · have hr := run_appendZ_room (P := P) w t ti o.type e i0 ht hti hi hz hsz hby g bs.length cap n cur hg hn0 hn hroom (by omega)
    simp [execOp, ho, resolve, invoke, builtin, hs, hx, hr, Result.andThen]
    refine hK _ _ (h g cap _ _ (show _ = _ by simpa using setRow_heap w g cur _ e _ hg) hbg hroom hcm ?_ ?_ (fun B hB => ⟨rfl, rfl, rfl, by simp, fun k hk => Go.setRow_other w g k _ (by omega)⟩))
    · simp only [List.length_append, List.length_take, List.length_drop, Array.length_toList, hzl]
      omega
    · have h3 := List.take_left' (l₁ := Lib.byteCells bs ++ Lib.byteCells (List.replicate n (0 : UInt8))) (l₂ := cur.toList.drop (bs.length + n)) (i := bs.length + n) (by rw [List.length_append, hbl, hzl])
      rw [htake, happ]
      first | exact h3 | simpa [List.append_assoc] using h3
  · have hr := run_appendZ_grow (P := P) w t ti o.type e i0 ht hti hi hz hsz hby g bs.length cap n (Lib.byteCells bs) hbl (hown.cells (g := g) rfl) hn0 hn hb1 (by omega)
    have hge := grownCap_ge w (bs.length + n) cap e
    have hcm2 : grownCap w (bs.length + n) cap e ≤ maxLen := grownCap_le_maxLen w (bs.length + n) cap e (by unfold maxLen; omega)
    simp [execOp, ho, resolve, invoke, builtin, hs, hx, hr, Result.andThen]
    refine hK _ _ (h w.heap.size (grownCap w (bs.length + n) cap e) _ _ (show _ = _ by simpa using heap_alloc_new w.drew _) (by omega) hge hcm2 ?_ ?_ (fun B hB => ((Below.refl B w).drew).alloc (by show B ≤ w.heap.size; omega) _))
    · simp only [List.length_append, hbl, hzl, Lib.byteCells_length, List.length_replicate]
      omega
    · have h3 := List.take_left' (l₁ := Lib.byteCells bs ++ Lib.byteCells (List.replicate n (0 : UInt8))) (l₂ := Lib.byteCells (List.replicate (grownCap w (bs.length + n) cap e - (bs.length + n)) 0)) (i := bs.length + n) (by rw [List.length_append, hbl, hzl])
      rw [happ]
      first | exact h3 | simpa [List.append_assoc] using h3
end
end Go.Proofs.YtjondbamnbgiaaaDoor
