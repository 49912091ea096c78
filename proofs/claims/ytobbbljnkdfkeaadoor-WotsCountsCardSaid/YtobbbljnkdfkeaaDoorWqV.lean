/-
  THE LAWS' live.
-/
import Derived.Test.YtobbbljnkdfkeaaDoorWq8
import Derived.Test.YtobbbljnkdfkeaaDoorWs18
namespace Go.Proofs.YtobbbljnkdfkeaaDoor
open Go.RowKit
set_option maxRecDepth 100000
theorem u8_of_int {n : Int} (h : 0 ≤ n ∧ n ≤ 255) : ∃ k : UInt8, n = (k.toNat : Int) := ⟨UInt8.ofNat n.toNat, by simp; omega⟩
theorem x0_wf : x0.wf := ⟨by decide, by decide, by decide, by decide⟩
theorem live10_any (W : World) (h : Tabs W) : Calls Tryd.prog 9 #[] W (TrueIs W) :=
  live10_of (fun vy y W _ hs => Digits_any x0 x0_wf vy y W hs) (fun vb vs b seed a f n W ha hfn ht hb hs => (Chain_any x0 x0_wf vb vs b seed a ha f n hfn W hb hs ht).mono fun _ _ h => h.res) W h
end Go.Proofs.YtobbbljnkdfkeaaDoor
