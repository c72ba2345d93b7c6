/- Contract of layer 1's big: whether rows have more values and bytes than 20000, whatever rows lie in memory. Conditions: no list, row or text longer than 2 to the 47. -/
import Derived.Test.YtkmnlfbllfaieaaDoorFew
namespace Go.Proofs.YtkmnlfbllfaieaaDoor
open Go.RowKit
set_option maxHeartbeats 400000 in
theorem big_any (rs : List R) (A : Option Addr) (c : Nat) (w : World) (hr : RowsAt w w.heap.size A rs) (hm : rs.length ≤ 140737488355328) (hs : Small rs) :
    Calls Tryd.prog 6 #[.slice A rs.length c] w fun e w' => e = .returned (.bool (!few rs 20000)) ∧ Below w.heap.size w w' := by
  have h := few_any rs A c 20000 w hr hm hs (by decide) (by decide)
  generalize few rs 20000 = f at *
  clear hr hs hm
  go_enter Tryd.func6, Tryd.ntmps6
  go_wp2_with (go_at_call 22; refine h.mono ?_; rintro e w1 ⟨rfl, hb1⟩)
  go_ret
  exact ⟨rfl, hb1⟩
end Go.Proofs.YtkmnlfbllfaieaaDoor
