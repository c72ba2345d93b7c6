/- Contract of token's Reserved: whether a text is one of the words. No condition. -/
import Derived.Test.YtjnecobamobieaaDoorTokKit
namespace Go.Proofs.YtjnecobamobieaaDoor
open Go.RowKit
theorem res_yes {s : ByteArray} (l : List UInt8) (hl : resB l = true) (h : (s.toList == l) = true) : resB s.data.toList = true := by
  rw [beq_iff_eq, Lib.toList_data] at h
  rw [h]
  exact hl
set_option maxRecDepth 100000 in
set_option maxHeartbeats 8000000 in
theorem reserved_any (s : ByteArray) (w : World) : Calls Tryd.prog 15 #[.string s] w fun e w' => e = .returned (.bool (resB s.data.toList)) ∧ w' = w := by
  go_enter Tryd.func15, Tryd.ntmps15
  go_wp2_with fail
  all_goals first
    | (rename_i h h'; exact absurd (h.symm.trans h') (by decide))
    | (go_ret; refine ⟨ret_bool (res_yes _ ?_ (by assumption)).symm, rfl⟩; rfl)
    | (go_ret; refine ⟨ret_bool ?_, rfl⟩; rw [← Lib.toList_data]; simp only [resB, resL, List.contains_cons, List.contains_nil, *, Bool.or_false])
end Go.Proofs.YtjnecobamobieaaDoor
