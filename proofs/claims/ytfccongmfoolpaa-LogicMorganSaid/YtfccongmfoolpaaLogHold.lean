/- Contracts of Holds of logic and of the reference: whether a value is TRUE. No condition. -/
import Derived.Test.YtfccongmfoolpaaLog1
import Derived.Deep.RegionHeld3
namespace Go.Proofs.Ytfccongmfoolpaa
open Go.RowKit
/-- A value in a block of its own, and all that was there before. -/
def One (w : World) (g : Nat) (v : V) (w' : World) : Prop := w'.cell? ⟨g, 0, none⟩ = some (.int .i64 v.k) ∧ w'.cell? ⟨g, 1, none⟩ = some (.int .i64 v.i) ∧ w'.cell? ⟨g, 2, none⟩ = some (.string v.s) ∧ w.heap.size ≤ g ∧ g < w'.heap.size ∧ Below w.heap.size w w'
theorem One.of {w : World} {g : Nat} {v : V} {w' : World} (h : Box w' g v) (hg : w.heap.size ≤ g) (hb : Below w.heap.size w w') : One w g v w' :=
  ⟨h.1.1, h.1.2.1, h.1.2.2, hg, h.2, hb⟩
theorem One.drew {w : World} {g : Nat} {v : V} {w' : World} (h : One w g v w') : One w g v w'.drew :=
  ⟨h.1, h.2.1, h.2.2.1, h.2.2.2.1, h.2.2.2.2.1, h.2.2.2.2.2.drew⟩
theorem One.later {w : World} {g : Nat} {v : V} {w' w2 : World} (h : One w g v w') (hb : Below w'.heap.size w' w2) : One w g v w2 := by
  obtain ⟨h0, h1, h2, h3, h4, h5⟩ := h
  exact ⟨(hb.cell (p := ⟨g, 0, none⟩) h4).trans h0, (hb.cell (p := ⟨g, 1, none⟩) h4).trans h1, (hb.cell (p := ⟨g, 2, none⟩) h4).trans h2, h3, Nat.lt_of_lt_of_le h4 hb.size, h5.trans (hb.mono (by omega))⟩
/-- Whether a value is the Bool b. -/
def isV (v : V) (b : Bool) : Bool := sameB v.k v.i v.s 1 (bi b) ⟨#[]⟩
theorem isV_iff {v : V} {b : Bool} : isV v b = true ↔ v = tV b := by
  unfold isV sameB
  simp only [Bool.and_eq_true, beq_iff_eq]
  constructor
  · rintro ⟨h1, h2, h3⟩
    exact V.ext h1 h2 (emp_iff.1 (by unfold emp; rw [h3, Lib.toList_data]; rfl))
  · rintro rfl; exact ⟨rfl, rfl, rfl⟩
set_option maxHeartbeats 1000000 in
theorem holds_any (v : V) (w : World) : Calls Try.prog 17 #[.agg #[.int .i64 v.k, .int .i64 v.i, .string v.s]] w fun e w' => e = .returned (.bool (isV v true)) ∧ Below w.heap.size w w' := by
  have HB := Lib.hid (One.of (Box.made w v) (Nat.le_refl _) ((Below.refl _ w).alloc (Nat.le_refl _) (.cells #[.int .i64 v.k, .int .i64 v.i, .string v.s] 24))).drew
  have HT := Lib.hid (truth_any true)
  have HS := same_any v.k v.i 1 (bi true) v.s ⟨#[]⟩
  rw [show sameB v.k v.i v.s 1 (bi true) ⟨#[]⟩ = isV v true from rfl] at HS
  have HS := Lib.hid HS
  generalize isV v true = q at *
  have hb4 := Below.refl (w.alloc (.cells #[.int .i64 v.k, .int .i64 v.i, .string v.s] 24)).drew.heap.size (w.alloc (.cells #[.int .i64 v.k, .int .i64 v.i, .string v.s] 24)).drew
  go_enter Try.func17, Try.ntmps17
  go_wp2_with fail
  go_region_held3 (fun w' => w'.cell? ⟨w.heap.size, 0, none⟩ = some (.int .i64 v.k) ∧ w'.cell? ⟨w.heap.size, 1, none⟩ = some (.int .i64 v.i) ∧ w'.cell? ⟨w.heap.size, 2, none⟩ = some (.string v.s) ∧ w.heap.size ≤ w.heap.size ∧ w.heap.size < w'.heap.size ∧ Below w.heap.size w w') (first | exact HB.out | exact One.later (by assumption) hb4) (first | (go_at_call 33; go_must (refine (HT.out _).mono ?_); rintro e w4 ⟨rfl, hb4⟩) | (go_at_call 34; go_must (refine (HS.out _).mono ?_); rintro e w4 ⟨rfl, hb4⟩))
  go_wp2_with fail
  go_ret
  go_light
  refine ⟨rfl, ?_⟩
  have hs : One w w.heap.size v w4 := by assumption
  exact hs.2.2.2.2.2
set_option maxHeartbeats 1000000 in
theorem rholds_any (v : V) (w : World) : Calls Try.prog 18 #[.agg #[.int .i64 v.k, .int .i64 v.i, .string v.s]] w fun e w' => e = .returned (.bool (isV v true)) ∧ Below w.heap.size w w' := by
  have HB := Lib.hid (One.of (Box.made w v) (Nat.le_refl _) ((Below.refl _ w).alloc (Nat.le_refl _) (.cells #[.int .i64 v.k, .int .i64 v.i, .string v.s] 24))).drew
  have HT := Lib.hid (bool1_any true)
  have HS := rsame_any v.k v.i 1 (bi true) v.s ⟨#[]⟩
  rw [show sameB v.k v.i v.s 1 (bi true) ⟨#[]⟩ = isV v true from rfl] at HS
  have HS := Lib.hid HS
  generalize isV v true = q at *
  have hb4 := Below.refl (w.alloc (.cells #[.int .i64 v.k, .int .i64 v.i, .string v.s] 24)).drew.heap.size (w.alloc (.cells #[.int .i64 v.k, .int .i64 v.i, .string v.s] 24)).drew
  go_enter Try.func18, Try.ntmps18
  go_wp2_with fail
  go_region_held3 (fun w' => w'.cell? ⟨w.heap.size, 0, none⟩ = some (.int .i64 v.k) ∧ w'.cell? ⟨w.heap.size, 1, none⟩ = some (.int .i64 v.i) ∧ w'.cell? ⟨w.heap.size, 2, none⟩ = some (.string v.s) ∧ w.heap.size ≤ w.heap.size ∧ w.heap.size < w'.heap.size ∧ Below w.heap.size w w') (first | exact HB.out | exact One.later (by assumption) hb4) (first | (go_at_call 26; go_must (refine (HT.out _).mono ?_); rintro e w4 ⟨rfl, hb4⟩) | (go_at_call 35; go_must (refine (HS.out _).mono ?_); rintro e w4 ⟨rfl, hb4⟩))
  go_wp2_with fail
  go_ret
  go_light
  refine ⟨rfl, ?_⟩
  have hs : One w w.heap.size v w4 := by assumption
  exact hs.2.2.2.2.2
end Go.Proofs.Ytfccongmfoolpaa
