/- Contracts of the reference's times and arith, of two numbers of 64 bits. Conditions: both numbers have 64 bits, and the word is one of the five. -/
import Derived.Test.YtdffnkopbackiaaDoorScaOps2
namespace Go.Proofs.YtdffnkopbackiaaDoor
open Go.RowKit
def Drawn (w w' : World) : Prop := ∃ n, w' = w.drewN n
theorem wrap64_0 : wrap64 0 = 0 := by unfold wrap64; decide
theorem ok0 : okN 0 = true := by decide
theorem ret_ib {a b : Int} {c d : Bool} (h : a = b) (h' : c = d) : Ending.returned (.tuple #[.int .i64 a, .bool c]) = .returned (.tuple #[.int .i64 b, .bool d]) := by rw [h, h']
set_option maxHeartbeats 400000 in
theorem times_any (a b : Int) (w : World) (ha : In64 a) (hb : In64 b) : Calls Tryd.prog 38 #[.int .i64 a, .int .i64 b] w fun e w' => e = .returned (.tuple #[.int .i64 (wrap64 (a * b)), .bool (okN (a * b))]) ∧ Drawn w w' := by
  by_cases ha0 : a = 0
  · subst ha0
    rw [Int.zero_mul, wrap64_0, ok0]
    clear ha hb
    go_enter Tryd.func38, Tryd.ntmps38
    go_wp2
    go_ret2
    exact ⟨rfl, 0, rfl⟩
  have za : (a == 0) = false := by simpa using ha0
  by_cases hb0 : b = 0
  · subst hb0
    rw [Int.mul_zero, wrap64_0, ok0]
    clear ha hb ha0
    go_enter Tryd.func38, Tryd.ntmps38
    go_wp2
    go_ret2
    exact ⟨rfl, 0, rfl⟩
  have zb : (b == 0) = false := by simpa using hb0
  by_cases ha1 : a = -1
  · subst ha1
    rw [(neg_tell hb).1, show (-1 : Int) * b = -b by omega]
    clear ha hb ha0 hb0 za
    go_enter Tryd.func38, Tryd.ntmps38
    go_wp2
    go_ret2
    exact ⟨rfl, 0, rfl⟩
  have za1 : (a == -1) = false := by simpa using ha1
  by_cases hb1 : b = -1
  · subst hb1
    rw [(neg_tell ha).2, show a * (-1 : Int) = -a by omega]
    clear ha hb ha0 hb0 zb ha1
    go_enter Tryd.func38, Tryd.ntmps38
    go_wp2
    go_ret2
    exact ⟨rfl, 0, rfl⟩
  have zb1 : (b == -1) = false := by simpa using hb1
  have e3 := mul_tell ha hb hb0
  rw [show atEnd a b = false by unfold atEnd; rw [zb1, Bool.and_false]] at e3
  simp only [Bool.not_false, Bool.and_true] at e3
  rw [← e3]
  clear e3 ha hb ha0 ha1 hb1
  have hw := IntWalk.i64_left ((wrap64 (a * b)).tdiv b)
  go_enter Tryd.func38, Tryd.ntmps38
  go_wp2_with fail
  go_quiet (fail)
  go_wp2
  go_ret2
  exact ⟨rfl, _, rfl⟩
end Go.Proofs.YtdffnkopbackiaaDoor
