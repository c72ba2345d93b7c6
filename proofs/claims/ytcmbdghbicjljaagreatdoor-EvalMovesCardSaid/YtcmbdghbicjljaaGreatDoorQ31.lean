/- Eval of a value's expression, of a place, of coalesce of both, of isnull of a place: what they are. Conditions: the row's values are integers of 64 bits and texts of no more than 100000 bytes; the library's one variable is there. -/
import Derived.Test.YtcmbdghbicjljaaGreatDoorQ29
import Derived.Test.YtcmbdghbicjljaaGreatDoorQ01
set_option linter.unusedSimpArgs false
set_option linter.unusedVariables false
namespace Go.Proofs.YtcmbdghbicjljaaGreatDoor
open Go.RowKit
end Go.Proofs.YtcmbdghbicjljaaGreatDoor
namespace Go.Proofs.YtcmbdghbicjljaaGreatDoor
open Go.RowKit
set_option maxRecDepth 100000 in
set_option maxHeartbeats 4000000 in
theorem bigN_any (xs : List BV.V) (A : Option Addr) (c : Nat) (w : World) (hr : BV.RowAt w w.heap.size A xs) (hl : xs.length ≤ 140737488355328) (ht : ∀ v ∈ xs, v.s.size ≤ 140737488355328) :
    Calls Tryz.prog 8 #[.slice A xs.length c, .slice none 0 0] w fun e w' => e = .returned (.bool (!(BV.few [⟨A, c, xs⟩] 600))) ∧ Below w.heap.size w w' := by
  have hs : BV.Small [⟨A, c, xs⟩] := by
    intro r h
    simp at h
    subst h
    exact ⟨hl, ht⟩
  obtain ⟨W1, hW1⟩ : ∃ W1 : World, W1 = w.alloc (.cells #[.slice A xs.length c] 28) := ⟨_, rfl⟩
  have hra := BV.rows_made w [⟨A, c, xs⟩] (by intro r h; simp at h; subst h; exact hr) #[.slice A xs.length c] (by simp [BV.R.val]) 28
  have hb := bel_allocE (Below.refl w.heap.size w) (.cells #[.slice A xs.length c] 28)
  rw [← hW1] at hb
  have HC := Lib.hid (BV.few_any [⟨A, c, xs⟩] (some ⟨w.heap.size, 0, none⟩) 1 600 W1 (by rw [hW1]; exact hra) (by simp) hs (by omega) (by omega))
  have HB := Lib.hid hb
  have HW := Lib.hid hW1
  clear hr hs hra hb hW1 hl ht
  generalize BV.few [⟨A, c, xs⟩] 600 = b at *
  simp only [List.length_cons, List.length_nil, Nat.zero_add] at HC
  generalize xs.length = n at *
  go_enter Tryz.func8, Tryz.ntmps8
  go_wp2_with fail
  go_loopw [9] (fun i wr => i = .int .i64 0 ∧ wr = w) (fun _ _ => 0)
  case atStart => exact ⟨rfl, rfl⟩
  case round =>
    obtain ⟨rfl, rfl⟩ := hrel
    go_wp2_with (rw [← HW.out])
    refine (HC.out).mono ?_
    rintro e w2 ⟨rfl, b2⟩
    go_wp2_with fail
    exact bodyPost_ret (v := .bool (!b)) (by simp [results, Tryz.results8, go_sem]) rfl ⟨rfl, bthen HB.out b2⟩
end Go.Proofs.YtcmbdghbicjljaaGreatDoor
