/- The walk of the law ScalarParts: it answers true, whatever text and number. Condition: the library's one variable is there. -/
import Derived.Test.YtdffnkopbackiaaDoorScaParts
namespace Go.Proofs.YtdffnkopbackiaaDoor
open Go.RowKit
set_option maxRecDepth 100000 in
set_option maxHeartbeats 4000000 in
theorem parts_out (s : ByteArray) (n : Int) (w : World) (hE : Env w) (hs : s.size ≤ 9223372036854775807) (h : 3000 < s.size ∨ n < 0 ∨ 4000 < n) : Calls Tryd.prog 5 #[.string s, .int .i64 n] w fun e w' => e = .returned (.bool true) ∧ Below w.heap.size w w' := by
  have HE := Lib.hid hE
  have hx : 3000 < s.size ∨ (s.size ≤ 3000 ∧ n < 0) ∨ (s.size ≤ 3000 ∧ ¬ n < 0 ∧ 4000 < n) := by omega
  clear h hE
  rcases hx with h | ⟨h1, h2⟩ | ⟨h1, h2, h3⟩
  · have d1 : decide ((3000 : Int) < (s.size : Int)) = true := decide_eq_true (by omega)
    go_enter Tryd.func5, Tryd.ntmps5
    go_wp2_with fail
    refine (live_any w HE.out).mono ?_
    rintro e w1 ⟨rfl, b1⟩
    go_wp2_with fail
    go_ret
    exact ⟨rfl, b1⟩
  · have d1 : decide ((3000 : Int) < (s.size : Int)) = false := decide_eq_false (by omega)
    have d2 : decide (n < 0) = true := decide_eq_true h2
    go_enter Tryd.func5, Tryd.ntmps5
    go_wp2_with fail
    refine (live_any w HE.out).mono ?_
    rintro e w1 ⟨rfl, b1⟩
    go_wp2_with fail
    go_ret
    exact ⟨rfl, b1⟩
  · have d1 : decide ((3000 : Int) < (s.size : Int)) = false := decide_eq_false (by omega)
    have d2 : decide (n < 0) = false := decide_eq_false h2
    have d3 : decide (4000 < n) = true := decide_eq_true h3
    go_enter Tryd.func5, Tryd.ntmps5
    go_wp2_with fail
    refine (live_any w HE.out).mono ?_
    rintro e w1 ⟨rfl, b1⟩
    go_wp2_with fail
    go_ret
    exact ⟨rfl, b1⟩
theorem parts_core (s : ByteArray) (n : Int) (w : World) (hE : Env w) (hs : s.size ≤ 9223372036854775807) : Calls Tryd.prog 5 #[.string s, .int .i64 n] w fun e w' => e = .returned (.bool true) ∧ Below w.heap.size w w' := by
  by_cases h : 3000 < s.size ∨ n < 0 ∨ 4000 < n
  · exact parts_out s n w hE hs h
  · have h0 : 0 ≤ n := by omega
    have h1 : s.size ≤ 3000 := by omega
    obtain ⟨m, hm, hmn, ha, hb⟩ := parts s n h0 h1
    obtain ⟨hj, hl⟩ := parts_join s m hm
    obtain ⟨i, hi, him, hp⟩ := parts_found s m hm
    exact parts_in s _ _ n i w hE h0 (by omega) h1 ha hb hj hl hi (by omega) hp
end Go.Proofs.YtdffnkopbackiaaDoor
