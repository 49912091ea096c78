/-
  WALK: ParamLens: at every three sets: the contracts put together.
-/
import Derived.Test.YtanpplniedphkaaDoorPb7
import Derived.Test.YtanpplniedphkaaDoorPa8
namespace Go.Proofs.YtanpplniedphkaaDoor
open Go.RowKit
set_option maxRecDepth 100000
theorem u32_of {x : Int} (h : (Lit.int .u32 x).wf = true) : 0 ≤ x ∧ x ≤ 4294967295 := by simpa [Lit.wf, IntKind.min, IntKind.max, IntKind.signed, IntKind.bits] using h
theorem hN_le (f : Nat) : 0 ≤ hN f ∧ hN f ≤ 32 := by unfold hN; split <;> omega
theorem oR_wf (c : Nat) : (0 ≤ (oR c).2.1 ∧ (oR c).2.1 ≤ 1000) ∧ (0 ≤ (oR c).2.2.1 ∧ (oR c).2.2.1 ≤ 1000) ∧ (0 ≤ (oR c).2.2.2.1 ∧ (oR c).2.2.2.1 ≤ 1000) ∧ (0 ≤ (oR c).2.2.2.2 ∧ (oR c).2.2.2.2 ≤ 1000) := by
  by_cases h : c < 1 ∨ 16 < c
  · rw [(oR_none h).1]; decide
  · have key : ∀ j : Fin 17, (0 ≤ (oR j.val).2.1 ∧ (oR j.val).2.1 ≤ 1000) ∧ (0 ≤ (oR j.val).2.2.1 ∧ (oR j.val).2.2.1 ≤ 1000) ∧ (0 ≤ (oR j.val).2.2.2.1 ∧ (oR j.val).2.2.2.1 ≤ 1000) ∧ (0 ≤ (oR j.val).2.2.2.2 ∧ (oR j.val).2.2.2.2 ≤ 1000) := by decide +kernel
    exact key ⟨c, by omega⟩
theorem ots_wf (c : Nat) (hc : c < 4294967296) : (Lit.int .u32 (oC c)).wf = true ∧ (Lit.int .i64 (oR c).2.1).wf = true ∧ (Lit.int .i64 (oR c).2.2.1).wf = true ∧ (Lit.int .i64 (oR c).2.2.2.1).wf = true ∧ (Lit.int .i64 (oR c).2.2.2.2).wf = true := by
  have h := oR_wf c
  have hC : 0 ≤ oC c ∧ oC c ≤ 4294967295 := by unfold oC; split <;> omega
  exact ⟨wf32 hC.1 hC.2, wf64 (by omega) (by omega), wf64 (by omega) (by omega), wf64 (by omega) (by omega), wf64 (by omega) (by omega)⟩
theorem lms_wf (c : Nat) (hc : c < 4294967296) : (Lit.int .u32 (lC c)).wf = true ∧ (Lit.int .i64 (lN c)).wf = true ∧ (Lit.int .i64 (lH c : Int)).wf = true := by
  have h1 := hN_le (lF c)
  have h2 := lH_le c
  have hC : 0 ≤ lC c ∧ lC c ≤ 4294967295 := by unfold lC; split <;> omega
  have hn : 0 ≤ lN c ∧ lN c ≤ 32 := by unfold lN; split <;> omega
  exact ⟨wf32 hC.1 hC.2, wf64 (by omega) (by omega), wf64 (by omega) (by omega)⟩
theorem xms_wf (c : Nat) (hc : c < 4294967296) : (Lit.int .u32 (xC c)).wf = true ∧ (Lit.int .i64 (xN c)).wf = true ∧ (Lit.int .i64 (xH c : Int)).wf = true ∧ (Lit.int .i64 (xL c)).wf = true := by
  have h1 := hN_le (xF c)
  have h2 := xH_le c
  have hC : 0 ≤ xC c ∧ xC c ≤ 4294967295 := by unfold xC; split <;> omega
  have hn : 0 ≤ xN c ∧ xN c ≤ 32 := by unfold xN; split <;> omega
  have hl : 0 ≤ xL c ∧ xL c ≤ 67 := by
    unfold xL
    split
    · omega
    · split <;> omega
  exact ⟨wf32 hC.1 hC.2, wf64 (by omega) (by omega), wf64 (by omega) (by omega), wf64 (by omega) (by omega)⟩
theorem lens_any (yc : Int) (ys : Bool) (yn ywd yp yl : Int) (xc : Int) (xs : Bool) (xn xh : Int) (zc : Int) (zs : Bool) (zn zh zl : Int) (w : World)
    (hyc : (Lit.int .u32 yc).wf = true) (hyn : (Lit.int .i64 yn).wf = true) (hywd : (Lit.int .i64 ywd).wf = true) (hyp : (Lit.int .i64 yp).wf = true) (hyl : (Lit.int .i64 yl).wf = true)
    (hxc : (Lit.int .u32 xc).wf = true) (hxn : (Lit.int .i64 xn).wf = true) (hxh : (Lit.int .i64 xh).wf = true)
    (hzc : (Lit.int .u32 zc).wf = true) (hzn : (Lit.int .i64 zn).wf = true) (hzh : (Lit.int .i64 zh).wf = true) (hzl : (Lit.int .i64 zl).wf = true) :
    Calls Tryd.prog 6 #[.agg #[.int .u32 yc, .bool ys, .int .i64 yn, .int .i64 ywd, .int .i64 yp, .int .i64 yl], .agg #[.int .u32 xc, .bool xs, .int .i64 xn, .int .i64 xh], .agg #[.int .u32 zc, .bool zs, .int .i64 zn, .int .i64 zh, .int .i64 zl]] w (TrueIs w) := by
  have ky := u32_of hyc
  have kx := u32_of hxc
  have kz := u32_of hzc
  obtain ⟨cy, rfl⟩ := Int.eq_ofNat_of_zero_le ky.1
  obtain ⟨cx, rfl⟩ := Int.eq_ofNat_of_zero_le kx.1
  obtain ⟨cz, rfl⟩ := Int.eq_ofNat_of_zero_le kz.1
  obtain ⟨a1, a2, a3, a4, a5⟩ := ots_wf cy (by omega)
  obtain ⟨b1, b2, b3⟩ := lms_wf cx (by omega)
  obtain ⟨d1, d2, d3, d4⟩ := xms_wf cz (by omega)
  have iO1 := isOts_of (cy : Int) ys yn ywd yp yl (oC cy) (oR cy).1 (oR cy).2.1 (oR cy).2.2.1 (oR cy).2.2.2.1 (oR cy).2.2.2.2 (oE cy) hyc hyn hywd hyp hyl a1 a2 a3 a4 a5 (fun W => ots_any cy W)
  have iO2 := MayOts_of (cy : Int) ys yn ywd yp yl (oC cy) (oR cy).1 (oR cy).2.1 (oR cy).2.2.1 (oR cy).2.2.2.1 (oR cy).2.2.2.2 (oE cy) hyc hyn hywd hyp hyl a1 a2 a3 a4 a5 (fun W => refOts_any cy W)
  have iL1 := isLms_of (cx : Int) xs xn xh (lC cx) (lSh cx) (lN cx) (lH cx : Int) (lE cx) hxc hxn hxh b1 b2 b3 (fun W => lms_any cx (by omega) W)
  have iL2 := MayLms_of (cx : Int) xs xn xh (lC cx) (lSh cx) (lN cx) (lH cx : Int) (lE cx) hxc hxn hxh b1 b2 b3 (fun W => refLms_any cx (by omega) W)
  have iX1 := isXmss_of (cz : Int) zs zn zh zl (xC cz) (xSh cz) (xN cz) (xH cz : Int) (xL cz) (xE cz) hzc hzn hzh hzl d1 d2 d3 d4 (fun W => xmss_any cz (by omega) W)
  have iX2 := MayXmss_of (cz : Int) zs zn zh zl (xC cz) (xSh cz) (xN cz) (xH cz : Int) (xL cz) (xE cz) hzc hzn hzh hzl d1 d2 d3 d4 (fun W => refXmss_any cz (by omega) W)
  exact lens_of _ _ _ _ _ _ _ _ _ _ _ _ _ _ _ _ _ _ _ _ _
    (fun W => pFit_of _ _ _ _ _ _ _ _ _ _ _ _ iL1 iO1 W) (fun W => rFit_of _ _ _ _ _ _ _ _ _ _ _ _ iL2 iO2 W)
    (fun W => pOtsLen_of _ _ _ _ _ _ _ iO1 W) (fun W => rOtsLen_of _ _ _ _ _ _ _ iO2 W)
    (fun W => pLmsLen_of _ _ _ _ _ _ _ _ _ _ _ _ (fun W => pFit_of _ _ _ _ _ _ _ _ _ _ _ _ iL1 iO1 W) (fun W => pOtsLen_of _ _ _ _ _ _ _ iO1 W) W)
    (fun W => rLmsLen_of _ _ _ _ _ _ _ _ _ _ _ _ (fun W => rFit_of _ _ _ _ _ _ _ _ _ _ _ _ iL2 iO2 W) (fun W => rOtsLen_of _ _ _ _ _ _ _ iO2 W) W)
    (fun W => pXmssLen_of _ _ _ _ _ _ iX1 W) (fun W => rXmssLen_of _ _ _ _ _ _ iX2 W)
    (fun W => pLmsPub_of _ _ _ _ _ iL1 W) (fun W => rLmsPub_of _ _ _ _ _ iL2 W)
    (fun W => pXmssPub_of _ _ _ _ _ _ iX1 W) (fun W => rXmssPub_of _ _ _ _ _ _ iX2 W) w
end Go.Proofs.YtanpplniedphkaaDoor
