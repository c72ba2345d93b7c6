/- Contracts of scalar's product, quotient and rest of two numbers of 64 bits: each answers the number, if it fits, and else the error. Conditions: both numbers have 64 bits. -/
import Derived.Test.YtdffnkopbackiaaDoorScaOps
namespace Go.Proofs.YtdffnkopbackiaaDoor
open Go.RowKit
theorem same_turn {P : Program} {f : FuncId} {args : Array Value} {w : World} {E : Ending} (h : Calls P f args w fun e w' => e = E ∧ w = w') : Calls P f args w fun e w' => e = E ∧ w' = w :=
  h.mono fun _ _ ⟨a, b⟩ => ⟨a, b.symm⟩
set_option maxHeartbeats 400000 in
theorem multiply_any (a b : Int) (w : World) (ha : In64 a) (hb : In64 b) : Calls Tryd.prog 32 #[.int .i64 a, .int .i64 b] w fun e w' => e = .returned (.tuple #[.int .i64 (numR 3 a b), .int .i64 (numE 3 a b)]) ∧ w = w' := by
  by_cases h0 : b = 0
  · subst h0
    obtain ⟨e1, e2⟩ := num_lo (p := 3) (a := a) (b := 0) (n := 0) (by omega) (fun h => by simp [numX])
    rw [e1, e2, show numX 3 a 0 = 0 by simp [numX]]
    clear e1 e2 ha hb
    go_enter Tryd.func32, Tryd.ntmps32
    go_wp2
    go_ret2
    exact ⟨rfl, rfl⟩
  · obtain ⟨e1, e2⟩ := num_lo (p := 3) (a := a) (b := b) (n := wrap64 (a * b)) (by omega) (fun h => wrap_id h)
    have e3 := mul_tell ha hb h0
    have hz : (b == 0) = false := by simpa using h0
    rw [e1, e2, show numX 3 a b = a * b from rfl, ← e3]
    clear e1 e2 e3
    have h1 := (wrap_cases (a * b)).choose_spec.2.1
    unfold In64 at *
    cases h : (wrap64 ((wrap64 (a * b)).tdiv b) == a)
    all_goals
      go_enter Tryd.func32, Tryd.ntmps32
      go_wp2_with (first | (go_at_call 41; refine (atEnd_any _ _ _).mono ?_; rintro e w' ⟨rfl, rfl⟩) | (go_at_call 40; refine (within_any _ _ _).mono ?_; rintro e w' ⟨rfl, rfl⟩))
      go_ret2
      exact ⟨rfl, rfl⟩
set_option maxHeartbeats 400000 in
theorem remain_any (a b : Int) (w : World) (_ha : In64 a) (hb : In64 b) : Calls Tryd.prog 34 #[.int .i64 a, .int .i64 b] w fun e w' => e = .returned (.tuple #[.int .i64 (numR 5 a b), .int .i64 (numE 5 a b)]) ∧ w = w' := by
  by_cases h0 : b = 0
  · subst h0
    obtain ⟨e1, e2⟩ := num_zero (p := 5) (a := a) (by omega)
    rw [e1, e2]
    clear e1 e2 hb
    go_enter Tryd.func34, Tryd.ntmps34
    go_wp2
    go_ret2
    exact ⟨rfl, rfl⟩
  · obtain ⟨e1, e2⟩ := num_hi (p := 5) (a := a) (b := b) (n := a.tmod b) h0 (fun h => rfl)
    rw [e1, e2, show numX 5 a b = a.tmod b from rfl, tmod_ok hb h0]
    clear e1 e2
    have hz : (b == 0) = false := by simpa using h0
    have hz' : ¬ b = 0 := h0
    go_enter Tryd.func34, Tryd.ntmps34
    go_wp2
    go_ret2
    exact ⟨rfl, rfl⟩
set_option maxHeartbeats 400000 in
theorem divide_any (a b : Int) (w : World) (ha : In64 a) (hb : In64 b) : Calls Tryd.prog 33 #[.int .i64 a, .int .i64 b] w fun e w' => e = .returned (.tuple #[.int .i64 (numR 4 a b), .int .i64 (numE 4 a b)]) ∧ ∃ n, w' = w.drewN n := by
  by_cases h0 : b = 0
  · subst h0
    obtain ⟨e1, e2⟩ := num_zero (p := 4) (a := a) (by omega)
    rw [e1, e2]
    clear e1 e2 hb
    go_enter Tryd.func33, Tryd.ntmps33
    go_wp2
    go_ret2
    exact ⟨rfl, 0, rfl⟩
  · obtain ⟨e1, e2⟩ := num_hi (p := 4) (a := a) (b := b) (n := wrap64 (a.tdiv b)) h0 (fun h => wrap_id h)
    rw [e1, e2, show numX 4 a b = a.tdiv b from rfl, tdiv_tell ha h0]
    clear e1 e2
    have hz : (b == 0) = false := by simpa using h0
    have hw := IntWalk.i64_left (a.tdiv b)
    go_enter Tryd.func33, Tryd.ntmps33
    go_wp2_with fail
    go_quiet (first | (go_at_call 41; exact Calls.quiet_of_same (same_turn (atEnd_any _ _ _))) | (go_at_call 40; exact Calls.quiet_of_same (same_turn (within_any _ _ _))))
    go_wp2
    go_ret2
    exact ⟨rfl, _, rfl⟩
end Go.Proofs.YtdffnkopbackiaaDoor
