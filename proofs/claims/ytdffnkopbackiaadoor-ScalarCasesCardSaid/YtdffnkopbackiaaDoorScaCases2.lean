/- The walk of the law ScalarCases: it answers true, whatever two texts. Condition: the library's one variable is there. -/
import Derived.Test.YtdffnkopbackiaaDoorScaCases
namespace Go.Proofs.YtdffnkopbackiaaDoor
open Go.RowKit
set_option maxRecDepth 100000 in
set_option maxHeartbeats 4000000 in
theorem cases_out (s t : ByteArray) (w : World) (hE : Env w) (hs : s.size ≤ 9223372036854775807) (ht : t.size ≤ 9223372036854775807) (h : 500 < s.size ∨ 100 < t.size) : Calls Tryd.prog 7 #[.string s, .string t] w fun e w' => e = .returned (.bool true) ∧ Below w.heap.size w w' := by
  have HE := Lib.hid hE
  have hx : 500 < s.size ∨ (s.size ≤ 500 ∧ 100 < t.size) := by omega
  clear h hE
  rcases hx with h | ⟨h1, h2⟩
  · have d1 : decide ((500 : Int) < (s.size : Int)) = true := decide_eq_true (by omega)
    go_enter Tryd.func7, Tryd.ntmps7
    go_wp2_with fail
    refine (live_any w HE.out).mono ?_
    rintro e w1 ⟨rfl, b1⟩
    go_wp2_with fail
    go_ret
    exact ⟨rfl, b1⟩
  · have d1 : decide ((500 : Int) < (s.size : Int)) = false := decide_eq_false (by omega)
    have d2 : decide ((100 : Int) < (t.size : Int)) = true := decide_eq_true (by omega)
    go_enter Tryd.func7, Tryd.ntmps7
    go_wp2_with fail
    refine (live_any w HE.out).mono ?_
    rintro e w1 ⟨rfl, b1⟩
    go_wp2_with fail
    go_ret
    exact ⟨rfl, b1⟩
theorem cases_core (s t : ByteArray) (w : World) (hE : Env w) (hs : s.size ≤ 9223372036854775807) (ht : t.size ≤ 9223372036854775807) : Calls Tryd.prog 7 #[.string s, .string t] w fun e w' => e = .returned (.bool true) ∧ Below w.heap.size w w' := by
  by_cases h : 500 < s.size ∨ 100 < t.size
  · exact cases_out s t w hE hs ht h
  · refine cases_in s t _ _ _ w hE (by omega) (by omega) rfl rfl (up_low s) (low_up s) rfl (trim_idem s) (tb_size 97 s) (tb_size 65 s) (trim_size s) ?_
    by_cases h0 : (trimS s).size = 0
    · exact Or.inl (empty_of h0)
    · refine Or.inr ⟨fun hn => ?_, by omega, trim_ends s (by omega)⟩
      rw [Lib.toList_data] at hn
      have := congrArg List.length hn
      rw [size_list] at this
      exact h0 this
end Go.Proofs.YtdffnkopbackiaaDoor
