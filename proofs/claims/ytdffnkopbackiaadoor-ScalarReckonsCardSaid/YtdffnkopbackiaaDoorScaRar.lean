/- Contract of the reference's arith: the number that each of the five words asks for, if it fits, and else the error. Conditions: both numbers have 64 bits. -/
import Derived.Test.YtdffnkopbackiaaDoorScaOps3
namespace Go.Proofs.YtdffnkopbackiaaDoor
open Go.RowKit
set_option maxHeartbeats 400000 in
theorem rar1 (a b : Int) (w : World) (ha : In64 a) (hb : In64 b) : Calls Tryd.prog 27 #[.string ⟨#[43]⟩, .int .i64 a, .int .i64 b] w fun e w' => e = .returned (.tuple #[.int .i64 (numR 1 a b), .int .i64 (numE 1 a b)]) ∧ Drawn w w' := by
  obtain ⟨e1, e2⟩ := num_lo (p := 1) (a := a) (b := b) (n := wrap64 (a + b)) (by omega) (fun h => wrap_id h)
  have e3 := (add_tell ha hb).2
  rw [e1, e2, show numX 1 a b = a + b from rfl]
  clear e1 e2 ha hb
  cases hk : okN (a + b)
  all_goals
    rw [hk] at e3
    clear hk
    go_enter Tryd.func27, Tryd.ntmps27
    go_wp2_with fail
    go_ret2
    exact ⟨rfl, 0, rfl⟩
set_option maxHeartbeats 400000 in
theorem rar2 (a b : Int) (w : World) (ha : In64 a) (hb : In64 b) : Calls Tryd.prog 27 #[.string ⟨#[45]⟩, .int .i64 a, .int .i64 b] w fun e w' => e = .returned (.tuple #[.int .i64 (numR 2 a b), .int .i64 (numE 2 a b)]) ∧ Drawn w w' := by
  obtain ⟨e1, e2⟩ := num_lo (p := 2) (a := a) (b := b) (n := wrap64 (a - b)) (by omega) (fun h => wrap_id h)
  have e3 := (sub_tell ha hb).2
  rw [e1, e2, show numX 2 a b = a - b from rfl]
  clear e1 e2 ha hb
  cases hk : okN (a - b)
  all_goals
    rw [hk] at e3
    clear hk
    go_enter Tryd.func27, Tryd.ntmps27
    go_wp2_with fail
    go_ret2
    exact ⟨rfl, 0, rfl⟩
set_option maxHeartbeats 400000 in
theorem rar3 (a b : Int) (w : World) (ha : In64 a) (hb : In64 b) : Calls Tryd.prog 27 #[.string ⟨#[42]⟩, .int .i64 a, .int .i64 b] w fun e w' => e = .returned (.tuple #[.int .i64 (numR 3 a b), .int .i64 (numE 3 a b)]) ∧ Drawn w w' := by
  obtain ⟨e1, e2⟩ := num_lo (p := 3) (a := a) (b := b) (n := wrap64 (a * b)) (by omega) (fun h => wrap_id h)
  have ht := times_any a b w ha hb
  rw [e1, e2, show numX 3 a b = a * b from rfl]
  clear e1 e2 ha hb
  generalize wrap64 (a * b) = n at *
  cases hk : okN (a * b)
  all_goals
    rw [hk] at ht
    clear hk
    go_enter Tryd.func27, Tryd.ntmps27
    go_wp2_with (go_at_call 38; refine ht.mono ?_; rintro e w' ⟨rfl, hd⟩)
    go_ret2
    exact ⟨rfl, hd⟩
set_option maxHeartbeats 400000 in
theorem rar5 (a b : Int) (w : World) (_ha : In64 a) (hb : In64 b) : Calls Tryd.prog 27 #[.string ⟨#[37]⟩, .int .i64 a, .int .i64 b] w fun e w' => e = .returned (.tuple #[.int .i64 (numR 5 a b), .int .i64 (numE 5 a b)]) ∧ Drawn w w' := by
  by_cases h0 : b = 0
  · subst h0
    obtain ⟨e1, e2⟩ := num_zero (p := 5) (a := a) (by omega)
    rw [e1, e2]
    clear e1 e2 hb
    go_enter Tryd.func27, Tryd.ntmps27
    go_wp2_with fail
    go_ret2
    exact ⟨rfl, 0, rfl⟩
  · obtain ⟨e1, e2⟩ := num_hi (p := 5) (a := a) (b := b) (n := a.tmod b) h0 (fun h => rfl)
    rw [e1, e2, show numX 5 a b = a.tmod b from rfl, tmod_ok hb h0]
    clear e1 e2
    have hz : (b == 0) = false := by simpa using h0
    by_cases h1 : b = -1
    · subst h1
      rw [show a.tmod (-1) = 0 by rw [Int.tmod_neg, Int.tmod_one]]
      clear hz h0 hb
      go_enter Tryd.func27, Tryd.ntmps27
      go_wp2_with fail
      go_ret2
      exact ⟨rfl, 0, rfl⟩
    · have hz1 : (b == -1) = false := by simpa using h1
      go_enter Tryd.func27, Tryd.ntmps27
      go_wp2_with fail
      go_ret2
      exact ⟨rfl, 0, rfl⟩
set_option maxHeartbeats 400000 in
theorem rar4 (a b : Int) (w : World) (ha : In64 a) (hb : In64 b) : Calls Tryd.prog 27 #[.string ⟨#[47]⟩, .int .i64 a, .int .i64 b] w fun e w' => e = .returned (.tuple #[.int .i64 (numR 4 a b), .int .i64 (numE 4 a b)]) ∧ Drawn w w' := by
  by_cases h0 : b = 0
  · subst h0
    obtain ⟨e1, e2⟩ := num_zero (p := 4) (a := a) (by omega)
    rw [e1, e2]
    clear e1 e2 hb
    go_enter Tryd.func27, Tryd.ntmps27
    go_wp2_with fail
    go_ret2
    exact ⟨rfl, 0, rfl⟩
  · have hz : (b == 0) = false := by simpa using h0
    by_cases h1 : b = -1
    · subst h1
      have hn := rar2 0 a w (by unfold In64; omega) ha
      have ex : numX 4 a (-1) = numX 2 0 a := by
        show a.tdiv (-1) = 0 - a
        rw [Int.tdiv_neg, Int.tdiv_one]; omega
      have e2 : numE 4 a (-1) = numE 2 0 a := by rw [numE_at (by omega), numE_at (by omega), ex]
      have e1 : numR 4 a (-1) = numR 2 0 a := by unfold numR; rw [e2, ex]
      rw [e1, e2]
      generalize numR 2 0 a = x at *
      generalize numE 2 0 a = y at *
      clear hz h0 hb e1 e2 ex ha
      go_enter Tryd.func27, Tryd.ntmps27
      go_wp2_with (go_at_call 27; refine hn.mono ?_; rintro e w' ⟨rfl, hd⟩)
      go_ret2
      exact ⟨rfl, hd⟩
    · obtain ⟨e1, e2⟩ := num_hi (p := 4) (a := a) (b := b) (n := wrap64 (a.tdiv b)) h0 (fun h => wrap_id h)
      have hz1 : (b == -1) = false := by simpa using h1
      have hok : okN (a.tdiv b) = true := by rw [tdiv_tell ha h0]; unfold atEnd; rw [hz1, Bool.and_false]; rfl
      rw [e1, e2, show numX 4 a b = a.tdiv b from rfl, hok]
      clear e1 e2 ha hok h1
      go_enter Tryd.func27, Tryd.ntmps27
      go_wp2_with fail
      go_ret2
      exact ⟨rfl, 0, rfl⟩
end Go.Proofs.YtdffnkopbackiaaDoor
