/- The walk of the law ValueApart: it answers true, whatever two values. Conditions: texts shorter than 2 to the 47, numbers of 64 bits, and the library's two variables hold what they hold at the start. -/
import Derived.Test.YtpmigbhfhccegaaDoorOrders
import Derived.Test.YtpmigbhfhccegaaDoorTxtInj
import Derived.Test.YtpmigbhfhccegaaDoorOpen
import Derived.Deep.RegionHeld3
namespace Go.Proofs.YtpmigbhfhccegaaDoor
open Go.RowKit
def txtB (v : V) : ByteArray := if mayB v.k v.i v.s then ⟨v.txt.toArray⟩ else ⟨#[]⟩
theorem text_any (v : V) (w : World) (hE : Env w) (hs : v.s.size ≤ 1000000) (hf : v.fits) :
    Calls Tryd.prog 27 #[.agg #[.int .i64 v.k, .int .i64 v.i, .string v.s]] w fun e w' => e = .returned (.tuple #[.string (txtB v), .int .i64 v.chk]) ∧ Below w.heap.size w w' := by
  unfold txtB V.chk chkI
  cases hm : mayB v.k v.i v.s
  · exact text_bad _ _ _ w hm
  · exact text_ok _ _ _ w hm hs hf.2.2.1 hf.2.2.2 hE
/-- Two values of their own blocks, as two boxes. -/
def Box (w : World) (g : Nat) (v : V) : Prop := CellsAt w g 0 v ∧ g < w.heap.size
theorem Box.below {w w' : World} {g : Nat} {v : V} (h : Box w g v) (hb : Below w.heap.size w w') : Box w' g v :=
  ⟨⟨(hb.cell (p := ⟨g, 0, none⟩) h.2).trans h.1.1, (hb.cell (p := ⟨g, 0 + 1, none⟩) h.2).trans h.1.2.1, (hb.cell (p := ⟨g, 0 + 2, none⟩) h.2).trans h.1.2.2⟩, Nat.lt_of_lt_of_le h.2 hb.size⟩
theorem Box.made (w : World) (v : V) : Box (w.alloc (.cells #[.int .i64 v.k, .int .i64 v.i, .string v.s] 29)) w.heap.size v := by
  have hn : (w.alloc (.cells #[.int .i64 v.k, .int .i64 v.i, .string v.s] 29)).heap[w.heap.size]? = some (.cells _ 29 (0, 0)) := heap_alloc_new w _
  exact ⟨⟨by rw [Lib.cell_of_heap hn]; rfl, by rw [Lib.cell_of_heap hn]; rfl, by rw [Lib.cell_of_heap hn]; rfl⟩, by simp⟩
theorem apart_same {x y : V} (hx : mayB x.k x.i x.s = true) (hy : mayB y.k y.i y.s = true) : ((txtB x).toList == (txtB y).toList) = sameB x.k x.i x.s y.k y.i y.s ∧ (cmpVV x y == 0) = sameB x.k x.i x.s y.k y.i y.s := by
  have hs : sameB x.k x.i x.s y.k y.i y.s = true ↔ x = y := by
    unfold sameB
    simp only [Bool.and_eq_true, beq_iff_eq, Lib.toList_data]
    exact ⟨fun h => V.ext h.1 h.2.1 (bytes_ext h.2.2), fun h => by rw [h]; simp⟩
  constructor
  · rw [Bool.eq_iff_iff, hs, beq_iff_eq, Lib.toList_data, Lib.toList_data]
    unfold txtB
    rw [if_pos hx, if_pos hy]
    constructor
    · intro h
      obtain ⟨h1, h2, h3⟩ := txt_inj hx hy (by simpa [V.txt] using h)
      exact V.ext h1 h2 h3
    · intro h; rw [h]
  · rw [Bool.eq_iff_iff, hs, beq_iff_eq]
    exact cmpVV_ok.zero x y
set_option maxRecDepth 100000 in
set_option maxHeartbeats 4000000 in
theorem apart_big (x y : V) (w : World) (hE : Env w) (hb : 10000 < x.s.size ∨ 10000 < y.s.size) (sx : x.s.size ≤ 140737488355328) (sy : y.s.size ≤ 140737488355328) :
    Calls Tryd.prog 6 #[.agg #[.int .i64 x.k, .int .i64 x.i, .string x.s], .agg #[.int .i64 y.k, .int .i64 y.i, .string y.s]] w fun e w' => e = .returned (.bool true) ∧ Below w.heap.size w w' := by
  have hB := (Box.made w x).below (Below.alloc (Below.refl _ _) (Nat.le_refl _) (.cells #[.int .i64 y.k, .int .i64 y.i, .string y.s] 29))
  have hB2 := Box.made (w.alloc (.cells #[.int .i64 x.k, .int .i64 x.i, .string x.s] 29)) y
  have HB := Lib.hid hB
  have HB2 := Lib.hid hB2
  have HE := Lib.hid (hE.below (((Below.refl _ w).alloc (Nat.le_refl _) (.cells #[.int .i64 x.k, .int .i64 x.i, .string x.s] 29)).alloc (by simp) (.cells #[.int .i64 y.k, .int .i64 y.i, .string y.s] 29)) hE.size)
  clear hE hB hB2
  by_cases h1 : 10000 < x.s.size
  · go_enter Tryd.func6, Tryd.ntmps6
    go_wp2_with fail
    refine (live_any _ HE.out).mono ?_
    rintro e w1 ⟨rfl, b1⟩
    obtain ⟨⟨e0, e1, e2⟩, -⟩ := HB.out.below b1
    simp only [Nat.zero_add] at e1 e2
    go_wp2_with fail
    go_ret
    exact ⟨rfl, (((Below.refl _ w).alloc (Nat.le_refl _) _).alloc (by simp) _).trans (b1.mono (by simp; omega))⟩
  · have h2 : 10000 < y.s.size := by omega
    go_enter Tryd.func6, Tryd.ntmps6
    go_wp2_with fail
    refine (live_any _ HE.out).mono ?_
    rintro e w1 ⟨rfl, b1⟩
    obtain ⟨⟨e0, e1, e2⟩, -⟩ := HB.out.below b1
    obtain ⟨⟨d0, d1, d2⟩, -⟩ := HB2.out.below b1
    simp only [Nat.zero_add, World.size_alloc] at e1 e2 d0 d1 d2
    go_wp2_with fail
    go_ret
    exact ⟨rfl, (((Below.refl _ w).alloc (Nat.le_refl _) _).alloc (by simp) _).trans (b1.mono (by simp; omega))⟩
/-- Two boxes, one behind the other, and all that was there before. -/
def Six (w : World) (x y : V) (w' : World) : Prop := w'.cell? ⟨w.heap.size, 0, none⟩ = some (.int .i64 x.k) ∧ w'.cell? ⟨w.heap.size, 1, none⟩ = some (.int .i64 x.i) ∧ w'.cell? ⟨w.heap.size, 2, none⟩ = some (.string x.s) ∧ w'.cell? ⟨w.heap.size + 1, 0, none⟩ = some (.int .i64 y.k) ∧ w'.cell? ⟨w.heap.size + 1, 1, none⟩ = some (.int .i64 y.i) ∧ w'.cell? ⟨w.heap.size + 1, 2, none⟩ = some (.string y.s) ∧ w.heap.size + 1 < w'.heap.size ∧ Below w.heap.size w w'
theorem Six.of {w : World} {x y : V} {w' : World} (h : Box w' w.heap.size x) (h' : Box w' (w.heap.size + 1) y) (hb : Below w.heap.size w w') : Six w x y w' :=
  ⟨h.1.1, h.1.2.1, h.1.2.2, h'.1.1, h'.1.2.1, h'.1.2.2, h'.2, hb⟩
theorem Six.drew {w : World} {x y : V} {w' : World} (h : Six w x y w') : Six w x y w'.drew :=
  ⟨h.1, h.2.1, h.2.2.1, h.2.2.2.1, h.2.2.2.2.1, h.2.2.2.2.2.1, h.2.2.2.2.2.2.1, h.2.2.2.2.2.2.2.drew⟩
theorem Six.later {w : World} {x y : V} {w' w2 : World} (h : Six w x y w') (hb : Below w'.heap.size w' w2) : Six w x y w2 := by
  obtain ⟨h0, h1, h2, h3, h4, h5, h6, h7⟩ := h
  exact ⟨(hb.cell (p := ⟨w.heap.size, 0, none⟩) (by show w.heap.size < _; omega)).trans h0, (hb.cell (p := ⟨w.heap.size, 1, none⟩) (by show w.heap.size < _; omega)).trans h1, (hb.cell (p := ⟨w.heap.size, 2, none⟩) (by show w.heap.size < _; omega)).trans h2,
    (hb.cell (p := ⟨w.heap.size + 1, 0, none⟩) h6).trans h3, (hb.cell (p := ⟨w.heap.size + 1, 1, none⟩) h6).trans h4, (hb.cell (p := ⟨w.heap.size + 1, 2, none⟩) h6).trans h5, Nat.lt_of_lt_of_le h6 hb.size, h7.trans (hb.mono (by omega))⟩
set_option maxRecDepth 100000 in
set_option maxHeartbeats 4000000 in
theorem apart_small (x y : V) (w : World) (hE : Env w) (sx : x.s.size ≤ 10000) (sy : y.s.size ≤ 10000) (fx : x.fits) (fy : y.fits) :
    Calls Tryd.prog 6 #[.agg #[.int .i64 x.k, .int .i64 x.i, .string x.s], .agg #[.int .i64 y.k, .int .i64 y.i, .string y.s]] w fun e w' => e = .returned (.bool true) ∧ Below w.heap.size w w' := by
  have hB := (Box.made w x).below (Below.alloc (Below.refl _ _) (Nat.le_refl _) (.cells #[.int .i64 y.k, .int .i64 y.i, .string y.s] 29))
  have hB2 := Box.made (w.alloc (.cells #[.int .i64 x.k, .int .i64 x.i, .string x.s] 29)) y
  have htx := fun w hE => text_any x w hE (by omega) fx
  have hty := fun w hE => text_any y w hE (by omega) fy
  have hsm := same_any x.k x.i y.k y.i x.s y.s
  have hcm := cmpV_any x.k x.i y.k y.i x.s y.s
  have hap := @apart_same x y
  have ex : x.chk = if mayB x.k x.i x.s then 0 else 1 := rfl
  have ey : y.chk = if mayB y.k y.i y.s then 0 else 1 := rfl
  have tx : mayB x.k x.i x.s = false → txtB x = ⟨#[]⟩ := fun h => by unfold txtB; rw [h]; rfl
  have ty : mayB y.k y.i y.s = false → txtB y = ⟨#[]⟩ := fun h => by unfold txtB; rw [h]; rfl
  have HB := Lib.hid hB
  have HB2 := Lib.hid hB2
  have HE := Lib.hid (hE.below (((Below.refl _ w).alloc (Nat.le_refl _) (.cells #[.int .i64 x.k, .int .i64 x.i, .string x.s] 29)).alloc (by simp) (.cells #[.int .i64 y.k, .int .i64 y.i, .string y.s] 29)) hE.size)
  have hsz := hE.size
  clear hE hB hB2 fx fy
  cases mx : mayB x.k x.i x.s <;> cases my : mayB y.k y.i y.s
  · rw [mx] at ex; rw [my] at ey
    simp at ex ey
    rw [ex, tx mx] at htx
    rw [ey, ty my] at hty
    clear hap tx ty ex ey mx my hsm hcm
    have HTX := Lib.hid htx
    have HTY := Lib.hid hty
    clear htx hty
    go_enter Tryd.func6, Tryd.ntmps6
    go_wp2_with fail
    refine (live_any _ HE.out).mono ?_
    rintro e w1 ⟨rfl, b1⟩
    have HB1 := Lib.hid (HB.out.below b1)
    have HB21 := Lib.hid (HB2.out.below b1)
    obtain ⟨⟨e0, e1, e2⟩, -⟩ := HB1.out
    obtain ⟨⟨d0, d1, d2⟩, -⟩ := HB21.out
    simp only [Nat.zero_add, World.size_alloc] at e1 e2 d0 d1 d2
    go_wp2_with fail
    have HE1 := HE.out.below b1 (by simp <;> omega)
    refine (HTX.out _ HE1).mono ?_
    rintro e w2 ⟨rfl, b2⟩
    have HB12 := Lib.hid (HB1.out.below b2)
    have HB22 := Lib.hid (HB21.out.below b2)
    obtain ⟨⟨e0, e1, e2⟩, -⟩ := HB12.out
    obtain ⟨⟨d0, d1, d2⟩, -⟩ := HB22.out
    simp only [Nat.zero_add, World.size_alloc] at e1 e2 d0 d1 d2
    go_wp2_with fail
    refine (HTY.out _ (HE1.below b2 (by have := b1.size; simp at this; omega))).mono ?_
    rintro e w3 ⟨rfl, b3⟩
    have c3 : Below w.heap.size w w3 := bthen (bthen ((((Below.refl _ w).alloc (Nat.le_refl _) _).alloc (by simp) _).trans (b1.mono (by simp; omega))) b2) b3
    go_wp2_with fail
    go_ret
    exact ⟨rfl, c3⟩
  · rw [mx] at ex; rw [my] at ey
    simp at ex ey
    rw [ex, tx mx] at htx
    rw [ey] at hty
    generalize txtB y = T2 at *
    clear hap tx ty ex ey mx my hsm hcm
    have HTX := Lib.hid htx
    have HTY := Lib.hid hty
    clear htx hty
    go_enter Tryd.func6, Tryd.ntmps6
    go_wp2_with fail
    refine (live_any _ HE.out).mono ?_
    rintro e w1 ⟨rfl, b1⟩
    have HB1 := Lib.hid (HB.out.below b1)
    have HB21 := Lib.hid (HB2.out.below b1)
    obtain ⟨⟨e0, e1, e2⟩, -⟩ := HB1.out
    obtain ⟨⟨d0, d1, d2⟩, -⟩ := HB21.out
    simp only [Nat.zero_add, World.size_alloc] at e1 e2 d0 d1 d2
    go_wp2_with fail
    have HE1 := HE.out.below b1 (by simp <;> omega)
    refine (HTX.out _ HE1).mono ?_
    rintro e w2 ⟨rfl, b2⟩
    have HB12 := Lib.hid (HB1.out.below b2)
    have HB22 := Lib.hid (HB21.out.below b2)
    obtain ⟨⟨e0, e1, e2⟩, -⟩ := HB12.out
    obtain ⟨⟨d0, d1, d2⟩, -⟩ := HB22.out
    simp only [Nat.zero_add, World.size_alloc] at e1 e2 d0 d1 d2
    go_wp2_with fail
    refine (HTY.out _ (HE1.below b2 (by have := b1.size; simp at this; omega))).mono ?_
    rintro e w3 ⟨rfl, b3⟩
    have c3 : Below w.heap.size w w3 := bthen (bthen ((((Below.refl _ w).alloc (Nat.le_refl _) _).alloc (by simp) _).trans (b1.mono (by simp; omega))) b2) b3
    go_wp2_with fail
    go_ret
    exact ⟨rfl, c3⟩
  · rw [mx] at ex; rw [my] at ey
    simp at ex ey
    rw [ex] at htx
    rw [ey, ty my] at hty
    generalize txtB x = T1 at *
    clear hap tx ty ex ey mx my hsm hcm
    have HTX := Lib.hid htx
    have HTY := Lib.hid hty
    clear htx hty
    go_enter Tryd.func6, Tryd.ntmps6
    go_wp2_with fail
    refine (live_any _ HE.out).mono ?_
    rintro e w1 ⟨rfl, b1⟩
    have HB1 := Lib.hid (HB.out.below b1)
    have HB21 := Lib.hid (HB2.out.below b1)
    obtain ⟨⟨e0, e1, e2⟩, -⟩ := HB1.out
    obtain ⟨⟨d0, d1, d2⟩, -⟩ := HB21.out
    simp only [Nat.zero_add, World.size_alloc] at e1 e2 d0 d1 d2
    go_wp2_with fail
    have HE1 := HE.out.below b1 (by simp <;> omega)
    refine (HTX.out _ HE1).mono ?_
    rintro e w2 ⟨rfl, b2⟩
    have HB12 := Lib.hid (HB1.out.below b2)
    have HB22 := Lib.hid (HB21.out.below b2)
    obtain ⟨⟨e0, e1, e2⟩, -⟩ := HB12.out
    obtain ⟨⟨d0, d1, d2⟩, -⟩ := HB22.out
    simp only [Nat.zero_add, World.size_alloc] at e1 e2 d0 d1 d2
    go_wp2_with fail
    refine (HTY.out _ (HE1.below b2 (by have := b1.size; simp at this; omega))).mono ?_
    rintro e w3 ⟨rfl, b3⟩
    have c3 : Below w.heap.size w w3 := bthen (bthen ((((Below.refl _ w).alloc (Nat.le_refl _) _).alloc (by simp) _).trans (b1.mono (by simp; omega))) b2) b3
    go_wp2_with fail
    go_ret
    exact ⟨rfl, c3⟩
  · rw [mx] at ex; rw [my] at ey
    simp at ex ey
    rw [ex] at htx
    rw [ey] at hty
    obtain ⟨hq1, hq2⟩ := hap mx my
    rw [show cmpVV x y = cmpV x.k x.i x.s y.k y.i y.s from rfl] at hq2
    clear hap tx ty ex ey mx my
    generalize txtB x = T1 at *
    generalize txtB y = T2 at *
    generalize sameB x.k x.i x.s y.k y.i y.s = q at *
    generalize cmpV x.k x.i x.s y.k y.i y.s = c at *
    have HQ1 := Lib.hid hq1
    have HQ2 := Lib.hid hq2
    have HSM := Lib.hid hsm
    have HCM := Lib.hid hcm
    clear hq1 hq2 hsm hcm
    have HTX := Lib.hid htx
    have HTY := Lib.hid hty
    clear htx hty
    go_enter Tryd.func6, Tryd.ntmps6
    go_wp2_with fail
    refine (live_any _ HE.out).mono ?_
    rintro e w1 ⟨rfl, b1⟩
    have HB1 := Lib.hid (HB.out.below b1)
    have HB21 := Lib.hid (HB2.out.below b1)
    obtain ⟨⟨e0, e1, e2⟩, -⟩ := HB1.out
    obtain ⟨⟨d0, d1, d2⟩, -⟩ := HB21.out
    simp only [Nat.zero_add, World.size_alloc] at e1 e2 d0 d1 d2
    go_wp2_with fail
    have HE1 := HE.out.below b1 (by simp <;> omega)
    refine (HTX.out _ HE1).mono ?_
    rintro e w2 ⟨rfl, b2⟩
    have HB12 := Lib.hid (HB1.out.below b2)
    have HB22 := Lib.hid (HB21.out.below b2)
    obtain ⟨⟨e0, e1, e2⟩, -⟩ := HB12.out
    obtain ⟨⟨d0, d1, d2⟩, -⟩ := HB22.out
    simp only [Nat.zero_add, World.size_alloc] at e1 e2 d0 d1 d2
    go_wp2_with fail
    refine (HTY.out _ (HE1.below b2 (by have := b1.size; simp at this; omega))).mono ?_
    rintro e w3 ⟨rfl, b3⟩
    have c3 : Below w.heap.size w w3 := bthen (bthen ((((Below.refl _ w).alloc (Nat.le_refl _) _).alloc (by simp) _).trans (b1.mono (by simp; omega))) b2) b3
    have HS3 := Lib.hid (Six.of (HB12.out.below b3) (by have h := HB22.out.below b3; simp only [World.size_alloc] at h; exact h) c3)
    have HS4 := Lib.hid (Six.drew HS3.out)
    have hb4 := Below.refl w3.drew.heap.size w3.drew
    have hq1 := HQ1.out
    have hq2 := HQ2.out
    clear HB HB2 HB1 HB21 HB12 HB22 e0 e1 e2 d0 d1 d2 HTX HTY HE HE1 c3
    cases q
    all_goals
      go_wp2_with fail
      go_region_held3 (fun w' => w'.cell? ⟨w.heap.size, 0, none⟩ = some (.int .i64 x.k) ∧ w'.cell? ⟨w.heap.size, 1, none⟩ = some (.int .i64 x.i) ∧ w'.cell? ⟨w.heap.size, 2, none⟩ = some (.string x.s) ∧ w'.cell? ⟨w.heap.size + 1, 0, none⟩ = some (.int .i64 y.k) ∧ w'.cell? ⟨w.heap.size + 1, 1, none⟩ = some (.int .i64 y.i) ∧ w'.cell? ⟨w.heap.size + 1, 2, none⟩ = some (.string y.s) ∧ w.heap.size + 1 < w'.heap.size ∧ Below w.heap.size w w') (first | exact HS4.out | exact Six.later (by assumption) hb4) (first | (go_at_call 14; go_must (refine (HSM.out _).mono ?_); rintro e w4 ⟨rfl, hb4⟩) | (go_at_call 16; go_must (refine (HCM.out _).mono ?_); rintro e w4 ⟨rfl, hb4⟩))
      go_wp2_with fail
      go_ret
      go_light
      refine ⟨rfl, ?_⟩
      have hs : Six w x y w4 := by assumption
      exact hs.2.2.2.2.2.2.2
/-- The law's walk, whatever two values. -/
theorem apart_core (x y : V) (w : World) (hE : Env w) (sx : x.s.size ≤ 140737488355328) (sy : y.s.size ≤ 140737488355328) (fx : x.fits) (fy : y.fits) :
    Calls Tryd.prog 6 #[.agg #[.int .i64 x.k, .int .i64 x.i, .string x.s], .agg #[.int .i64 y.k, .int .i64 y.i, .string y.s]] w fun e w' => e = .returned (.bool true) ∧ Below w.heap.size w w' := by
  by_cases h : 10000 < x.s.size ∨ 10000 < y.s.size
  · exact apart_big x y w hE h sx sy
  · exact apart_small x y w hE (by omega) (by omega) fx fy
end Go.Proofs.YtpmigbhfhccegaaDoor
