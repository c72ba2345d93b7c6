/- Plain facts on expressions (no program): when Parse tells an expression, and that it tells a text's own, one in brackets, and a NOT ahead of one in brackets. No condition. -/
import Derived.Test.YtbhcjaeomoibpaaGreatDoorQ09
import Derived.Test.YtbhcjaeomoibpaaGreatDoorQ33
set_option linter.unusedSimpArgs false
set_option linter.unusedVariables false
namespace Go.Proofs.YtbhcjaeomoibpaaGreatDoor
open Go.RowKit
end Go.Proofs.YtbhcjaeomoibpaaGreatDoor
namespace Go.Proofs.YtbhcjaeomoibpaaGreatDoor
open Go.RowKit
def E.lng : List UInt8 → Vl → List UInt8 → List UInt8 → Bool := fun o v t n => decide (2000 < v.s.length) || decide (2000 < n.length) || decide (2000 < t.length) || decide (100 < o.length)
mutual
def E.heavy : E → Bool
  | .mk o v t n l => E.lng o v t n || E.heavyL l
def E.heavyL : List E → Bool
  | [] => false
  | x :: l => x.heavy || E.heavyL l
end
def E.big (e : E) : Bool := decide (e.left 500 < 0) || e.heavy
theorem chk_ok {e : E} : chkE e = 0 ↔ e.may = true ∧ e.deep ≤ 40 := by
  unfold chkE
  cases e.may
  · simp
  · by_cases h : 40 < e.deep
    · rw [if_pos rfl, if_pos h]
      refine Iff.intro (fun h => absurd h (by decide)) (fun h => absurd h.2 (by omega))
    · rw [if_pos rfl, if_neg h]
      refine Iff.intro (fun _ => And.intro rfl (by omega)) (fun _ => rfl)
end Go.Proofs.YtbhcjaeomoibpaaGreatDoor
