/- Contracts of scalar's sums of two numbers of 64 bits: each answers the number, if it fits, and else the error. Conditions: both numbers have 64 bits. -/
import Derived.Test.YtdffnkopbackiaaDoorScaNum
import Derived.Deep.QuietTactic
import Derived.BigQuiet
namespace Go.Proofs.YtdffnkopbackiaaDoor
open Go.RowKit
theorem within_any (n : Int) (b : Bool) (w : World) : Calls Tryd.prog 40 #[.int .i64 n, .bool b] w fun e w' => e = .returned (.tuple #[.int .i64 (fitR n b), .int .i64 (fitE b)]) ∧ w = w' := by
  cases b
  all_goals
    go_enter Tryd.func40, Tryd.ntmps40
    go_wp2
    go_ret2
    exact ⟨rfl, rfl⟩
theorem atEnd_any (a b : Int) (w : World) : Calls Tryd.prog 41 #[.int .i64 a, .int .i64 b] w fun e w' => e = .returned (.bool (atEnd a b)) ∧ w = w' := by
  unfold atEnd
  cases h1 : (a == -9223372036854775808)
  · go_enter Tryd.func41, Tryd.ntmps41
    go_wp2
    go_ret
    exact ⟨rfl, rfl⟩
  · go_enter Tryd.func41, Tryd.ntmps41
    go_wp2
    go_ret
    exact ⟨rfl, rfl⟩
set_option maxHeartbeats 400000 in
theorem add_any (a b : Int) (w : World) (ha : In64 a) (hb : In64 b) : Calls Tryd.prog 30 #[.int .i64 a, .int .i64 b] w fun e w' => e = .returned (.tuple #[.int .i64 (numR 1 a b), .int .i64 (numE 1 a b)]) ∧ w = w' := by
  obtain ⟨e1, e2⟩ := num_lo (p := 1) (a := a) (b := b) (n := wrap64 (a + b)) (by omega) (fun h => wrap_id h)
  have e3 := (add_tell ha hb).1
  rw [e1, e2, show numX 1 a b = a + b from rfl, ← e3]
  clear e1 e2 e3 ha hb
  go_enter Tryd.func30, Tryd.ntmps30
  go_wp2_with (go_at_call 40; refine (within_any _ _ _).mono ?_; rintro e w' ⟨rfl, rfl⟩)
  go_ret2
  exact ⟨rfl, rfl⟩
set_option maxHeartbeats 400000 in
theorem subtract_any (a b : Int) (w : World) (ha : In64 a) (hb : In64 b) : Calls Tryd.prog 31 #[.int .i64 a, .int .i64 b] w fun e w' => e = .returned (.tuple #[.int .i64 (numR 2 a b), .int .i64 (numE 2 a b)]) ∧ w = w' := by
  obtain ⟨e1, e2⟩ := num_lo (p := 2) (a := a) (b := b) (n := wrap64 (a - b)) (by omega) (fun h => wrap_id h)
  have e3 := (sub_tell ha hb).1
  rw [e1, e2, show numX 2 a b = a - b from rfl, ← e3]
  clear e1 e2 e3 ha hb
  go_enter Tryd.func31, Tryd.ntmps31
  go_wp2_with (go_at_call 40; refine (within_any _ _ _).mono ?_; rintro e w' ⟨rfl, rfl⟩)
  go_ret2
  exact ⟨rfl, rfl⟩
end Go.Proofs.YtdffnkopbackiaaDoor
