/- The walk of the law CodeWrites: it answers true, whatever row lies in memory, of no more than 2 to the 47 values and texts no longer, and where the library's one variable that is read is there. -/
import Derived.Test.YtnpemegklndegaaDoorCodLive
import Derived.Test.YtnpemegklndegaaDoorCodRKey
namespace Go.Proofs.YtnpemegklndegaaDoor
open Go.RowKit
/-- A call that gives bytes and an error. -/
def Gives (f : Nat) (a : Value) (l : List UInt8) (n : Int) (w : World) : Prop :=
  Calls Tryd.prog f #[a] w fun e w' => ∃ A c, e = .returned (.tuple #[.slice A l.length c, .int .i64 n]) ∧ BytesAt w' w'.heap.size A l ∧ Below w.heap.size w w' ∧ l.length ≤ c ∧ c ≤ maxLen
theorem Gives.of {f : Nat} {a : Value} {l : List UInt8} {n : Int} {w : World} (h : Calls Tryd.prog f #[a] w (Gave w l n)) : Gives f a l n w := h.mono fun _ _ g => g.take
theorem big1_at (r : R) (w : World) (hr : RowAt w w.heap.size r.A r.xs) (hs : RowSmall r.xs) :
    Calls Tryd.prog 10 #[.slice (some ⟨w.heap.size, 0, none⟩) 1 1] (w.alloc (.cells #[r.val] 23)) fun e w' => e = .returned (.bool (!few [r] 20000)) ∧ Below w.heap.size w w' :=
  (big_any [r] _ 1 _ (rows_made w [r] (all1 (P := fun r => RowAt w w.heap.size r.A r.xs) hr) _ rfl 23) (by simp) (all1 (P := fun r => RowSmall r.xs) hs)).mono fun _ _ ⟨h, hb⟩ => ⟨h, ((Below.refl _ w).alloc (Nat.le_refl _) _).trans (hb.mono (by simp))⟩
theorem big2_at (r s : R) (w : World) (hr : RowAt w w.heap.size r.A r.xs) (hs : RowSmall r.xs) (hr' : RowAt w w.heap.size s.A s.xs) (hs' : RowSmall s.xs) :
    Calls Tryd.prog 10 #[.slice (some ⟨w.heap.size, 0, none⟩) 2 2] (w.alloc (.cells #[r.val, s.val] 23)) fun e w' => e = .returned (.bool (!few [r, s] 20000)) ∧ Below w.heap.size w w' :=
  (big_any [r, s] _ 2 _ (rows_made w [r, s] (all2 (P := fun r => RowAt w w.heap.size r.A r.xs) hr hr') _ rfl 23) (by simp) (all2 (P := fun r => RowSmall r.xs) hs hs')).mono fun _ _ ⟨h, hb⟩ => ⟨h, ((Below.refl _ w).alloc (Nat.le_refl _) _).trans (hb.mono (by simp))⟩
theorem few1 {r : R} (h : few [r] 20000 = true) : rowW r.xs ≤ 1000000 ∧ r.xs.length ≤ 20000 := by
  unfold few rowsN at h
  have h := of_decide_eq_true h
  simp only [List.map_cons, List.map_nil, List.sum_cons, List.sum_nil] at h
  exact few_rowW (by omega)
theorem few2 {r s : R} (h : few [r, s] 20000 = true) : (rowW r.xs ≤ 1000000 ∧ r.xs.length ≤ 20000) ∧ rowW s.xs ≤ 1000000 ∧ s.xs.length ≤ 20000 ∧ rowN r.xs + rowN s.xs ≤ 20000 := by
  unfold few rowsN at h
  have h := of_decide_eq_true h
  simp only [List.map_cons, List.map_nil, List.sum_cons, List.sum_nil] at h
  have h1 := few_rowW (xs := r.xs) (by omega)
  have h2 := few_rowW (xs := s.xs) (by omega)
  exact ⟨h1, h2.1, h2.2, by omega⟩
set_option maxRecDepth 100000 in
set_option maxHeartbeats 1000000 in
theorem writes_core (r : R) (w : World) (hE : Env w) (hr : RowAt w w.heap.size r.A r.xs) (hs : RowSmall r.xs) (hf : ∀ v ∈ r.xs, v.fits) :
    Calls Tryd.prog 3 #[r.val] w fun e w' => e = .returned (.bool true) ∧ Below w.heap.size w w' := by
  have hsz := hE.size
  have HL := Lib.hid (live_any w hE)
  have HB : Hid (∀ w', Below w.heap.size w w' → Calls Tryd.prog 10 #[.slice (some ⟨w'.heap.size, 0, none⟩) 1 1] (w'.alloc (.cells #[r.val] 23)) fun e w2 => e = .returned (.bool (!few [r] 20000)) ∧ Below w'.heap.size w' w2) := fun w' h => big1_at r w' (hr.later h) hs
  have HF : Hid (few [r] 20000 = true → ∀ w', Below w.heap.size w w' → Gives 11 r.val (encL false r.xs) (chkR r.xs) w' ∧ Gives 12 r.val (encL false r.xs) (chkR r.xs) w' ∧ Gives 13 r.val (encL true r.xs) (chkR r.xs) w' ∧ Gives 14 r.val (encL true r.xs) (chkR r.xs) w') := fun h0 w' h => by
    obtain ⟨h1, h2⟩ := few1 h0
    exact ⟨.of (encode_any _ _ _ _ (hr.later h) hf h1 (by omega) (hE.below h hsz)), .of (rencode_any _ _ _ _ (hr.later h) hf h1 (by omega)), .of (key_any _ _ _ _ (hr.later h) hf h1 (by omega) (hE.below h hsz)), .of (rkey_any _ _ _ _ (hr.later h) hf h1 (by omega))⟩
  generalize few [r] 20000 = f at *
  generalize encL false r.xs = l at *
  generalize encL true r.xs = m at *
  generalize chkR r.xs = n at *
  clear hr hs hf hE
  unfold Gives R.val at *
  generalize r.xs.length = len at *
  generalize r.A = ra at *
  generalize r.c = rc at *
  go_enter Tryd.func3, Tryd.ntmps3
  go_wp2_with fail
  refine HL.out.mono ?_
  rintro e w1 ⟨rfl, b1⟩
  go_wp2_with fail
  refine (HB.out w1 b1).mono ?_
  rintro e w2 ⟨rfl, b2⟩
  have B2 := bthen b1 b2
  cases f
  · go_wp2_with fail
    go_ret
    exact ⟨rfl, B2⟩
  · go_wp2_with fail
    refine ((HF.out (by trivial) w2 B2).1).mono ?_
    rintro e w3 ⟨A3, c3, rfl, y3, b3, -, -⟩
    have B3 := bthen B2 b3
    go_wp2_with fail
    refine ((HF.out (by trivial) w3 B3).2.1).mono ?_
    rintro e w4 ⟨A4, c4, rfl, y4, b4, -, -⟩
    have B4 := bthen B3 b4
    go_wp2_with fail
    refine ((HF.out (by trivial) w4 B4).2.2.1).mono ?_
    rintro e w5 ⟨A5, c5, rfl, y5, b5, -, -⟩
    have B5 := bthen B4 b5
    go_wp2_with fail
    refine ((HF.out (by trivial) w5 B5).2.2.2).mono ?_
    rintro e w6 ⟨A6, c6, rfl, y6, b6, -, -⟩
    have B6 := bthen B5 b6
    have k3 := conv_at (c := c3) (((y3.later b4).later b5).later b6)
    have k4 := conv_at (c := c4) ((y4.later b5).later b6)
    have k5 := conv_at (c := c5) (y5.later b6)
    have k6 := conv_at (c := c6) y6
    clear y3 y4 y5 y6
    go_wp2_with fail
    go_ret
    exact ⟨rfl, B6⟩
end Go.Proofs.YtnpemegklndegaaDoor
