/- Contracts of Neg, scalar's and the reference's, of any value. Conditions: the value's number has 64 bits. -/
import Derived.Test.YtdffnkopbackiaaDoorScaRArith
import Derived.Deep.RegionWith
namespace Go.Proofs.YtdffnkopbackiaaDoor
open Go.RowKit
theorem neg_boxes (w : World) (v : V) : HV w [(w.heap.size + 1, zV), (w.heap.size, v)] ((w.alloc (.cells #[.int .i64 v.k, .int .i64 v.i, .string v.s] 23)).alloc (.cells #[.int .i64 0, .int .i64 0, .string ⟨#[]⟩] 23)) :=
  ((HV.nil w).push v).pushAt (by simp) zV
set_option maxRecDepth 100000 in
set_option maxHeartbeats 4000000 in
theorem neg_any (v : V) (w : World) (hv : In64 v.i) : Calls Tryd.prog 12 #[.agg #[.int .i64 v.k, .int .i64 v.i, .string v.s]] w fun e w' => e = .returned (.tuple #[.agg #[.int .i64 (arV ⟨#[45]⟩ (nV 0) v).k, .int .i64 (arV ⟨#[45]⟩ (nV 0) v).i, .string (arV ⟨#[45]⟩ (nV 0) v).s], .int .i64 (arE ⟨#[45]⟩ (nV 0) v)]) ∧ Below w.heap.size w w' := by
  have H0 := Lib.hid (neg_boxes w v)
  have HA : Hid (∀ w, Calls Tryd.prog 10 #[.string ⟨#[45]⟩, .agg #[.int .i64 2, .int .i64 0, .string ⟨#[]⟩], .agg #[.int .i64 v.k, .int .i64 v.i, .string v.s]] w fun e w' => e = .returned (.tuple #[.agg #[.int .i64 (arV ⟨#[45]⟩ (nV 0) v).k, .int .i64 (arV ⟨#[45]⟩ (nV 0) v).i, .string (arV ⟨#[45]⟩ (nV 0) v).s], .int .i64 (arE ⟨#[45]⟩ (nV 0) v)]) ∧ Below w.heap.size w w') := fun w => arith_any ⟨#[45]⟩ (nV 0) v w (show In64 0 by unfold In64; omega) hv
  generalize arV ⟨#[45]⟩ (nV 0) v = R at *
  generalize arE ⟨#[45]⟩ (nV 0) v = E at *
  clear hv
  go_enter Tryd.func12, Tryd.ntmps12
  go_wp2_with fail
  generalize (w.alloc (.cells #[.int .i64 v.k, .int .i64 v.i, .string v.s] 23)).alloc (.cells #[.int .i64 0, .int .i64 0, .string ⟨#[]⟩] 23) = W0 at *
  have H1 := Lib.hid H0.out.drew
  obtain ⟨c0, c1, c2⟩ := H1.out.tail.box.cells
  go_region_with (first | (go_at_call 25; refine (number_any _ _).mono ?_; rintro e w5 ⟨rfl, hb5⟩; have H5 := Lib.hid (H1.out.call hb5); obtain ⟨d0, d1, d2⟩ := H5.out.tail.box.cells) | (go_at_call 10; refine (HA.out _).mono ?_; rintro e w6 ⟨rfl, hb6⟩; have H6 := Lib.hid (H5.out.call hb6); obtain ⟨g0, g1, g2⟩ := H6.out.box.cells; obtain ⟨f0, f1, f2⟩ := H6.out.box.free; simp only [zV] at g0 g1 g2))
  all_goals go_wp2_with fail
  all_goals exact bodyPost_ret (v := .tuple #[.agg #[.int .i64 R.k, .int .i64 R.i, .string R.s], .int .i64 E]) (by simp [results, Tryd.results12, go_sem, g0, g1, g2]) rfl ⟨rfl, Below.set3 H6.out.below (by omega) _ _ _⟩
set_option maxRecDepth 100000 in
set_option maxHeartbeats 4000000 in
theorem rneg_any (v : V) (w : World) (hv : In64 v.i) : Calls Tryd.prog 13 #[.agg #[.int .i64 v.k, .int .i64 v.i, .string v.s]] w fun e w' => e = .returned (.tuple #[.agg #[.int .i64 (arV ⟨#[45]⟩ (nV 0) v).k, .int .i64 (arV ⟨#[45]⟩ (nV 0) v).i, .string (arV ⟨#[45]⟩ (nV 0) v).s], .int .i64 (arE ⟨#[45]⟩ (nV 0) v)]) ∧ Below w.heap.size w w' := by
  have H0 := Lib.hid (neg_boxes w v)
  have HA : Hid (∀ w, Calls Tryd.prog 11 #[.string ⟨#[45]⟩, .agg #[.int .i64 2, .int .i64 0, .string ⟨#[]⟩], .agg #[.int .i64 v.k, .int .i64 v.i, .string v.s]] w fun e w' => e = .returned (.tuple #[.agg #[.int .i64 (arV ⟨#[45]⟩ (nV 0) v).k, .int .i64 (arV ⟨#[45]⟩ (nV 0) v).i, .string (arV ⟨#[45]⟩ (nV 0) v).s], .int .i64 (arE ⟨#[45]⟩ (nV 0) v)]) ∧ Below w.heap.size w w') := fun w => rarith_any ⟨#[45]⟩ (nV 0) v w (show In64 0 by unfold In64; omega) hv
  generalize arV ⟨#[45]⟩ (nV 0) v = R at *
  generalize arE ⟨#[45]⟩ (nV 0) v = E at *
  clear hv
  go_enter Tryd.func13, Tryd.ntmps13
  go_wp2_with fail
  generalize (w.alloc (.cells #[.int .i64 v.k, .int .i64 v.i, .string v.s] 23)).alloc (.cells #[.int .i64 0, .int .i64 0, .string ⟨#[]⟩] 23) = W0 at *
  have H1 := Lib.hid H0.out.drew
  obtain ⟨c0, c1, c2⟩ := H1.out.tail.box.cells
  go_region_with (first | (go_at_call 16; refine (rint1_any _ _).mono ?_; rintro e w5 ⟨rfl, hb5⟩; have H5 := Lib.hid (H1.out.call hb5); obtain ⟨d0, d1, d2⟩ := H5.out.tail.box.cells) | (go_at_call 11; refine (HA.out _).mono ?_; rintro e w6 ⟨rfl, hb6⟩; have H6 := Lib.hid (H5.out.call hb6); obtain ⟨g0, g1, g2⟩ := H6.out.box.cells; obtain ⟨f0, f1, f2⟩ := H6.out.box.free; simp only [zV] at g0 g1 g2))
  all_goals go_wp2_with fail
  all_goals exact bodyPost_ret (v := .tuple #[.agg #[.int .i64 R.k, .int .i64 R.i, .string R.s], .int .i64 E]) (by simp [results, Tryd.results13, go_sem, g0, g1, g2]) rfl ⟨rfl, Below.set3 H6.out.below (by omega) _ _ _⟩
end Go.Proofs.YtdffnkopbackiaaDoor
