/-
  THE LAW Keyed, walked.
-/
import Derived.Test.YtobbbljnkdfkeaaDoorWqV
import Derived.Test.YtobbbljnkdfkeaaDoorWs17
namespace Go.Proofs.YtobbbljnkdfkeaaDoor
open Go.RowKit
set_option maxRecDepth 100000
theorem keyed_law (x : S5) (hw : x.wf) (vk vm : Value) (key m : List UInt8) (a : List UInt32) (ha : a.length = 8) (w : World) (hk : Sl w w.heap.size vk key) (hm : Sl w w.heap.size vm m) (ht : Tabs w) :
    Calls Tryd.prog 3 #[x.v, vk, vm, adrV a] w (TrueIs w) := by
  have hl : few10B [key, m] = true → key.length ≤ 100000 ∧ m.length ≤ 100000 := fun hf => ⟨by have := few10_yes hf key (by simp); omega, by have := few10_yes hf m (by simp); omega⟩
  exact wotsKeyed_of x hw vk vm key m a ha w hk hm ht live10_any
    (fun hf W t h1 h2 => F_any x hw vk vm key m W h1 h2 t (hl hf).1 (hl hf).2)
    (fun hf W t h1 h2 => H_any x hw vk vm key m W h1 h2 t (hl hf).1 (hl hf).2)
    (fun hf W t h1 h2 => HMsg_any x hw vk vm key m W h1 h2 t (hl hf).1 (hl hf).2)
    (fun hf W t h1 h2 => Prf_any x hw vk vm key m W h1 h2 t (hl hf).1 (hl hf).2)
    (fun hf W t h1 h2 => PrfKeygen_any x hw vk vm key m W h1 h2 t (hl hf).1 (hl hf).2)
    (fun W => bytes_any a ha W)
end Go.Proofs.YtobbbljnkdfkeaaDoor
