/- Contract of the reference's Check of one value. No condition. -/
import Derived.Test.YtnpemegklndegaaDoorVal0
namespace Go.Proofs.YtnpemegklndegaaDoor
open Go.RowKit
set_option maxHeartbeats 400000 in
theorem rcheck_any (k i : Int) (s : ByteArray) (w : World) :
    Calls Tryd.prog 40 #[.agg #[.int .i64 k, .int .i64 i, .string s]] w fun e w' => e = .returned (.int .i64 (chkI k i s)) ∧ Below w.heap.size w w' := by
  go_enter Tryd.func40, Tryd.ntmps40
  go_wp2
  all_goals go_ret
  all_goals refine ⟨?_, (Below.refl _ _).alloc (Nat.le_refl _) _⟩
  all_goals (go_light; simp_all [chkI, mayB, emp])
end Go.Proofs.YtnpemegklndegaaDoor
