/- The law's own function big, of whatever values lie in memory. Conditions: no list longer than 2 to the 47, no text either. -/
import Derived.Test.YtfccongmfoolpaaLogHeld
import Derived.Test.YtfccongmfoolpaaFew
namespace Go.Proofs.Ytfccongmfoolpaa
open Go.RowKit
def bigL (r : R) : Bool := decide (1000 < r.xs.length) || !few [r] 100000
set_option maxHeartbeats 1000000 in
theorem big_any (r : R) (w : World) (hr : RowAt w w.heap.size r.A r.xs) (sr : RowSmall r.xs) :
    Calls Try.prog 10 #[r.val] w fun e w' => e = .returned (.bool (bigL r)) ∧ Below w.heap.size w w' := by
  have hfew := few_any [r] _ 1 100000 (w.alloc (.cells #[r.val] 58)) (rows_made w [r] (all1 (P := fun r => RowAt w w.heap.size r.A r.xs) hr) _ rfl 58) (by simp) (all1 (P := fun r => RowSmall r.xs) sr) (by decide) (by decide)
  unfold bigL
  unfold R.val at *
  by_cases h : 1000 < r.xs.length
  · rw [decide_eq_true h, Bool.true_or]
    generalize few [r] 100000 = f at *
    generalize r.xs.length = n at *
    clear hr sr hfew
    go_enter Try.func10, Try.ntmps10
    go_wp2_with fail
    go_ret
    exact ⟨rfl, Below.refl _ _⟩
  · rw [decide_eq_false h, Bool.false_or]
    generalize few [r] 100000 = f at *
    generalize r.xs.length = n at *
    have hn : n ≤ 1000 := by omega
    have hd : decide ((1000 : Int) < (n : Int)) = false := decide_eq_false (by omega)
    clear hr sr h
    go_enter Try.func10, Try.ntmps10
    go_wp2_with (go_at_call 29; refine hfew.mono ?_; rintro e w1 ⟨rfl, hb1⟩)
    go_ret
    exact ⟨rfl, ((Below.refl _ w).alloc (Nat.le_refl _) _).trans (hb1.mono (by simp))⟩
end Go.Proofs.Ytfccongmfoolpaa
