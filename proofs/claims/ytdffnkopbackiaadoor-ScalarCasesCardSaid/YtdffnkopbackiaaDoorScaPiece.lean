/- Contracts of scalar's piece and of the functions of one or two texts: length, substr, instr. Conditions: no text longer than 2 to the 47. -/
import Derived.Test.YtdffnkopbackiaaDoorScaCall
import Derived.Test.YtdffnkopbackiaaDoorScaBox
import Derived.Test.YtdffnkopbackiaaDoorShelf
namespace Go.Proofs.YtdffnkopbackiaaDoor
open Go.RowKit
/-- The bytes of a text at so many places, the first of them being from (counted from 1). -/
def pcA (n : Nat) (m : Int) : Nat := (min (max m 1) ((n : Int) + 1)).toNat - 1
def pcB (n : Nat) (m k : Int) : Nat := if m < 1 ∨ k < (n : Int) + 1 - m then (min (max (m + k) (min (max m 1) ((n : Int) + 1))) ((n : Int) + 1)).toNat - 1 else n
def pc (s : ByteArray) (m k : Int) : ByteArray := s.extract (pcA s.size m) (pcB s.size m k)
theorem ret_str {a b : ByteArray} (h : a = b) : Ending.returned (.string a) = .returned (.string b) := by rw [h]
set_option maxHeartbeats 1000000 in
theorem piece_any (s : ByteArray) (m k : Int) (w : World) (hs : s.size ≤ 140737488355328) (hm : In64 m) (hk : 0 ≤ k) (hk' : k ≤ 9223372036854775807) :
    Calls Tryd.prog 60 #[.string s, .int .i64 m, .int .i64 k] w fun e w' => e = .returned (.string (pc s m k)) ∧ w = w' := by
  unfold In64 at hm
  go_enter Tryd.func60, Tryd.ntmps60
  go_wp2_with fail
  all_goals go_ret
  all_goals
    refine ⟨ret_str ?_, rfl⟩
    unfold pc pcA pcB
    first
    | rw [if_pos (by omega)]
    | rw [if_neg (by omega)]
end Go.Proofs.YtdffnkopbackiaaDoor
