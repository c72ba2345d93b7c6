/- Contract of scalar's Join, of any two values. Conditions: both texts are no longer than 2 to the 47. -/
import Derived.Test.YtdffnkopbackiaaDoorScaBox
namespace Go.Proofs.YtdffnkopbackiaaDoor
open Go.RowKit
def joE (a b : V) : Int := if allOk [a, b] = false then 1 else if okK [24, 24, 0] [a, b] = false then 20 else if nulB [a, b] = true ∨ a.k = b.k then 0 else 20
def joV (a b : V) : V := if joE a b = 0 ∧ nulB [a, b] = false then ⟨a.k, 0, a.s ++ b.s⟩ else zV
theorem jo_bad {a b : V} (h : allOk [a, b] = false) : joE a b = 1 ∧ joV a b = zV := by
  have h1 : joE a b = 1 := by unfold joE; rw [if_pos h]
  exact ⟨h1, by unfold joV; rw [h1]; rfl⟩
theorem jo_kind {a b : V} (h : allOk [a, b] = true) (hs : okK [24, 24, 0] [a, b] = false) : joE a b = 20 ∧ joV a b = zV := by
  have h1 : joE a b = 20 := by unfold joE; rw [if_neg (by simp [h]), if_pos hs]
  exact ⟨h1, by unfold joV; rw [h1]; rfl⟩
theorem jo_null {a b : V} (h : allOk [a, b] = true) (hs : okK [24, 24, 0] [a, b] = true) (hn : nulB [a, b] = true) : joE a b = 0 ∧ joV a b = zV := by
  have h1 : joE a b = 0 := by unfold joE; rw [if_neg (by simp [h]), if_neg (by simp [hs]), if_pos (Or.inl hn)]
  exact ⟨h1, by unfold joV; rw [hn]; simp⟩
theorem jo_two {a b : V} (h : allOk [a, b] = true) (hs : okK [24, 24, 0] [a, b] = true) (hn : nulB [a, b] = false) (hk : ¬ a.k = b.k) : joE a b = 20 ∧ joV a b = zV := by
  have h1 : joE a b = 20 := by unfold joE; rw [if_neg (by simp [h]), if_neg (by simp [hs]), if_neg (by simp [hn, hk])]
  exact ⟨h1, by unfold joV; rw [h1]; rfl⟩
theorem jo_one {a b : V} (h : allOk [a, b] = true) (hs : okK [24, 24, 0] [a, b] = true) (hn : nulB [a, b] = false) (hk : a.k = b.k) : joE a b = 0 ∧ joV a b = ⟨a.k, 0, a.s ++ b.s⟩ := by
  have h1 : joE a b = 0 := by unfold joE; rw [if_neg (by simp [h]), if_neg (by simp [hs]), if_pos (Or.inr hk)]
  exact ⟨h1, by unfold joV; rw [h1, hn]; simp⟩
theorem two_boxes (w : World) (a b : V) : HV w [(w.heap.size + 2, zV), (w.heap.size + 1, b), (w.heap.size, a)] (((w.alloc (.cells #[.int .i64 a.k, .int .i64 a.i, .string a.s] 23)).alloc (.cells #[.int .i64 b.k, .int .i64 b.i, .string b.s] 23)).alloc (.cells #[.int .i64 0, .int .i64 0, .string ⟨#[]⟩] 23)) :=
  (((HV.nil w).push a).pushAt (by simp) b).pushAt (by simp) zV
set_option maxRecDepth 100000 in
set_option maxHeartbeats 4000000 in
theorem join_any (a b : V) (w : World) (ha : a.s.size ≤ 140737488355328) (hb : b.s.size ≤ 140737488355328) :
    Calls Tryd.prog 14 #[.agg #[.int .i64 a.k, .int .i64 a.i, .string a.s], .agg #[.int .i64 b.k, .int .i64 b.i, .string b.s]] w fun e w' => e = .returned (.tuple #[.agg #[.int .i64 (joV a b).k, .int .i64 (joV a b).i, .string (joV a b).s], .int .i64 (joE a b)]) ∧ Below w.heap.size w w' := by
  have HB := Lib.hid (two_boxes w a b)
  have HW := Lib.hid (fun W H hH => wrong2_any a b W H hH)
  cases hok : allOk [a, b]
  · rw [(jo_bad hok).1, (jo_bad hok).2]
    rw [hok] at HW
    clear hok ha hb
    go_enter Tryd.func14, Tryd.ntmps14
    go_wp2_with fail
    refine (HW.out _ _ (by simp)).mono ?_
    rintro e w1 ⟨rfl, hb1, hs1⟩
    have H1 := Lib.hid (HB.out.call (bele hb1 (by simp)))
    obtain ⟨g0, g1, g2⟩ := H1.out.box.cells
    obtain ⟨f0, f1, f2⟩ := H1.out.box.free
    simp only [zV] at g0 g1 g2
    go_wp2_with fail
    exact bodyPost_ret (v := .tuple #[.agg #[.int .i64 0, .int .i64 0, .string ⟨#[]⟩], .int .i64 1]) (by simp [results, Tryd.results14, go_sem, g0, g1, g2]) rfl ⟨rfl, Below.set3 H1.out.below (by omega) _ _ _⟩
  · rw [hok] at HW
    have HS := Lib.hid (fun W H hH => strict2_any 24 24 0 a b W H hH (Or.inr (Or.inr rfl)) (Or.inr (Or.inr rfl)) hok)
    cases hk : okK [24, 24, 0] [a, b]
    · rw [(jo_kind hok hk).1, (jo_kind hok hk).2]
      unfold stN stE at HS
      rw [hk] at HS
      clear hok hk ha hb
      go_enter Tryd.func14, Tryd.ntmps14
      go_wp2_with fail
      refine (HW.out _ _ (by simp)).mono ?_
      rintro e w1 ⟨rfl, hb1, hs1⟩
      have H1 := Lib.hid (HB.out.call (bele hb1 (by simp)))
      obtain ⟨c0, c1, c2⟩ := H1.out.tail.box.cells
      obtain ⟨d0, d1, d2⟩ := H1.out.tail.tail.box.cells
      go_wp2_with fail
      refine (HS.out _ _ rfl).mono ?_
      rintro e w2 ⟨rfl, hb2, hs2⟩
      have H2 := Lib.hid (H1.out.call hb2)
      obtain ⟨g0, g1, g2⟩ := H2.out.box.cells
      obtain ⟨f0, f1, f2⟩ := H2.out.box.free
      simp only [zV] at g0 g1 g2
      go_wp2_with fail
      exact bodyPost_ret (v := .tuple #[.agg #[.int .i64 0, .int .i64 0, .string ⟨#[]⟩], .int .i64 20]) (by simp [results, Tryd.results14, go_sem, g0, g1, g2]) rfl ⟨rfl, Below.set3 H2.out.below (by omega) _ _ _⟩
    · unfold stN stE at HS
      rw [hk] at HS
      cases hn : nulB [a, b]
      · rw [hn] at HS
        by_cases hkk : a.k = b.k
        · rw [(jo_one hok hk hn hkk).1, (jo_one hok hk hn hkk).2]
          have hkk' : (b.k != b.k) = false := by simp
          obtain ⟨ak, ai, sa⟩ := a
          simp only at *
          subst hkk
          clear hok hk hn
          go_enter Tryd.func14, Tryd.ntmps14
          go_wp2_with fail
          refine (HW.out _ _ (by simp)).mono ?_
          rintro e w1 ⟨rfl, hb1, hs1⟩
          have H1 := Lib.hid (HB.out.call (bele hb1 (by simp)))
          obtain ⟨c0, c1, c2⟩ := H1.out.tail.box.cells
          obtain ⟨d0, d1, d2⟩ := H1.out.tail.tail.box.cells
          go_wp2_with fail
          refine (HS.out _ _ rfl).mono ?_
          rintro e w2 ⟨rfl, hb2, hs2⟩
          have H2 := Lib.hid (H1.out.call hb2)
          clear c0 c1 c2 d0 d1 d2
          obtain ⟨c0, c1, c2⟩ := H2.out.tail.box.cells
          obtain ⟨d0, d1, d2⟩ := H2.out.tail.tail.box.cells
          obtain ⟨g0, g1, g2⟩ := H2.out.box.cells
          obtain ⟨f0, f1, f2⟩ := H2.out.box.free
          simp only [zV] at g0 g1 g2
          go_wp2_with fail
          exact bodyPost_ret (v := .tuple #[.agg #[.int .i64 b.k, .int .i64 0, .string (sa ++ b.s)], .int .i64 0]) (by simp [results, Tryd.results14, go_sem, g0, g1, g2]) rfl ⟨rfl, Below.set3 H2.out.below (by omega) _ _ _⟩
        · rw [(jo_two hok hk hn hkk).1, (jo_two hok hk hn hkk).2]
          have hkk' : (a.k != b.k) = true := by simpa using hkk
          clear hok hk hn hkk ha hb
          go_enter Tryd.func14, Tryd.ntmps14
          go_wp2_with fail
          refine (HW.out _ _ (by simp)).mono ?_
          rintro e w1 ⟨rfl, hb1, hs1⟩
          have H1 := Lib.hid (HB.out.call (bele hb1 (by simp)))
          obtain ⟨c0, c1, c2⟩ := H1.out.tail.box.cells
          obtain ⟨d0, d1, d2⟩ := H1.out.tail.tail.box.cells
          go_wp2_with fail
          refine (HS.out _ _ rfl).mono ?_
          rintro e w2 ⟨rfl, hb2, hs2⟩
          have H2 := Lib.hid (H1.out.call hb2)
          clear c0 c1 c2 d0 d1 d2
          obtain ⟨c0, c1, c2⟩ := H2.out.tail.box.cells
          obtain ⟨d0, d1, d2⟩ := H2.out.tail.tail.box.cells
          obtain ⟨g0, g1, g2⟩ := H2.out.box.cells
          obtain ⟨f0, f1, f2⟩ := H2.out.box.free
          simp only [zV] at g0 g1 g2
          go_wp2_with fail
          exact bodyPost_ret (v := .tuple #[.agg #[.int .i64 0, .int .i64 0, .string ⟨#[]⟩], .int .i64 20]) (by simp [results, Tryd.results14, go_sem, g0, g1, g2]) rfl ⟨rfl, Below.set3 H2.out.below (by omega) _ _ _⟩
      · rw [(jo_null hok hk hn).1, (jo_null hok hk hn).2]
        rw [hn] at HS
        clear hok hk hn ha hb
        go_enter Tryd.func14, Tryd.ntmps14
        go_wp2_with fail
        refine (HW.out _ _ (by simp)).mono ?_
        rintro e w1 ⟨rfl, hb1, hs1⟩
        have H1 := Lib.hid (HB.out.call (bele hb1 (by simp)))
        obtain ⟨c0, c1, c2⟩ := H1.out.tail.box.cells
        obtain ⟨d0, d1, d2⟩ := H1.out.tail.tail.box.cells
        go_wp2_with fail
        refine (HS.out _ _ rfl).mono ?_
        rintro e w2 ⟨rfl, hb2, hs2⟩
        have H2 := Lib.hid (H1.out.call hb2)
        obtain ⟨g0, g1, g2⟩ := H2.out.box.cells
        obtain ⟨f0, f1, f2⟩ := H2.out.box.free
        simp only [zV] at g0 g1 g2
        clear c0 c1 c2 d0 d1 d2
        go_wp2_with fail
        exact bodyPost_ret (v := .tuple #[.agg #[.int .i64 0, .int .i64 0, .string ⟨#[]⟩], .int .i64 0]) (by simp [results, Tryd.results14, go_sem, g0, g1, g2]) rfl ⟨rfl, Below.set3 H2.out.below (by omega) _ _ _⟩
end Go.Proofs.YtdffnkopbackiaaDoor
