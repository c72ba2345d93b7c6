/- Contract of the reference's Join, of any two values. Conditions: both texts are no longer than 2 to the 47. -/
import Derived.Test.YtdffnkopbackiaaDoorScaRArith
import Derived.Test.YtdffnkopbackiaaDoorScaJoin
namespace Go.Proofs.YtdffnkopbackiaaDoor
open Go.RowKit
def noBI (v : V) : Prop := ¬ v.k = 1 ∧ ¬ v.k = 2
theorem okJ {a b : V} (h : allOk [a, b] = true) : okK [24, 24, 0] [a, b] = true ↔ noBI a ∧ noBI b := by
  have ha : a.chk = 0 := by unfold allOk at h; simp at h; exact h.1
  have hb : b.chk = 0 := by unfold allOk at h; simp at h; exact h.2
  have ka := kinds_of ha
  have kb := kinds_of hb
  unfold okK noBI fitsK
  simp
  omega
set_option maxRecDepth 100000 in
set_option maxHeartbeats 4000000 in
theorem rjoin_bad (a b : V) (w : World) (hok : allOk [a, b] = false) :
    Calls Tryd.prog 15 #[.agg #[.int .i64 a.k, .int .i64 a.i, .string a.s], .agg #[.int .i64 b.k, .int .i64 b.i, .string b.s]] w fun e w' => e = .returned (.tuple #[.agg #[.int .i64 (joV a b).k, .int .i64 (joV a b).i, .string (joV a b).s], .int .i64 (joE a b)]) ∧ Below w.heap.size w w' := by
  rw [(jo_bad hok).1, (jo_bad hok).2]
  have HB := Lib.hid (two_boxes w a b)
  have HM := Lib.hid (fun W H hH => rmay2_any a b W H hH)
  rw [hok] at HM
  clear hok
  go_enter Tryd.func15, Tryd.ntmps15
  go_wp2_with fail
  refine (HM.out _ _ (by simp)).mono ?_
  rintro e w1 ⟨rfl, b1, s1⟩
  have P1 := Lib.hid (HB.out.call (bele b1 (by simp)))
  clear b1
  obtain ⟨g0, g1, g2⟩ := P1.out.box.cells
  obtain ⟨f0, f1, f2⟩ := P1.out.box.free
  simp only [zV] at g0 g1 g2
  go_wp2_with fail
  exact bodyPost_ret (v := .tuple #[.agg #[.int .i64 0, .int .i64 0, .string ⟨#[]⟩], .int .i64 1]) (by simp [results, Tryd.results15, go_sem, g0, g1, g2]) rfl ⟨rfl, Below.set3 P1.out.below (by omega) _ _ _⟩
set_option maxRecDepth 100000 in
set_option maxHeartbeats 8000000 in
theorem rjoin_good (a b : V) (w : World) (ha : a.s.size ≤ 140737488355328) (hb : b.s.size ≤ 140737488355328) (hok : allOk [a, b] = true) :
    Calls Tryd.prog 15 #[.agg #[.int .i64 a.k, .int .i64 a.i, .string a.s], .agg #[.int .i64 b.k, .int .i64 b.i, .string b.s]] w fun e w' => e = .returned (.tuple #[.agg #[.int .i64 (joV a b).k, .int .i64 (joV a b).i, .string (joV a b).s], .int .i64 (joE a b)]) ∧ Below w.heap.size w w' := by
  have HB := Lib.hid (two_boxes w a b)
  have HM := Lib.hid (fun W H hH => rmay2_any a b W H hH)
  rw [hok] at HM
  have HBAD : Hid (¬ (noBI a ∧ noBI b) → 20 = joE a b ∧ zV = joV a b) := fun h => by
    have h' : okK [24, 24, 0] [a, b] = false := by
      cases hq : okK [24, 24, 0] [a, b]
      · rfl
      · exact absurd ((okJ hok).1 hq) h
    exact ⟨(jo_kind hok h').1.symm, (jo_kind hok h').2.symm⟩
  have HNUL : Hid (noBI a ∧ noBI b → nulB [a, b] = true → 0 = joE a b ∧ zV = joV a b) := fun h hn => ⟨(jo_null hok ((okJ hok).2 h) hn).1.symm, (jo_null hok ((okJ hok).2 h) hn).2.symm⟩
  have HTWO : Hid (noBI a ∧ noBI b → nulB [a, b] = false → ¬ a.k = b.k → 20 = joE a b ∧ zV = joV a b) := fun h hn hk => ⟨(jo_two hok ((okJ hok).2 h) hn hk).1.symm, (jo_two hok ((okJ hok).2 h) hn hk).2.symm⟩
  have HONE : Hid (noBI a ∧ noBI b → nulB [a, b] = false → a.k = b.k → 0 = joE a b ∧ (⟨a.k, 0, a.s ++ b.s⟩ : V) = joV a b) := fun h hn hk => ⟨(jo_one hok ((okJ hok).2 h) hn hk).1.symm, (jo_one hok ((okJ hok).2 h) hn hk).2.symm⟩
  generalize joE a b = E at *
  generalize joV a b = R at *
  clear hok
  have HL := Lib.hid (fun (W : World) (H : Nat) (hH : W.heap.size = H) => args_row2 hH a b)
  go_enter Tryd.func15, Tryd.ntmps15
  go_wp2_with fail
  refine (HM.out _ _ (by simp)).mono ?_
  rintro e w1 ⟨rfl, b1, s1⟩
  have P1 := Lib.hid (HB.out.call (bele b1 (by simp)))
  clear b1
  obtain ⟨c0, c1, c2⟩ := P1.out.tail.box.cells
  obtain ⟨d0, d1, d2⟩ := P1.out.tail.tail.box.cells
  go_wp2_with fail
  clear c0 c1 c2 d0 d1 d2
  go_loopw [18] (fun i wr => (i = .int .i64 0 ∨ (i = .int .i64 1 ∧ noBI a) ∨ (i = .int .i64 2 ∧ noBI a ∧ noBI b)) ∧ Hid (HV w [(w.heap.size + 2, zV), (w.heap.size + 1, b), (w.heap.size, a)] wr) ∧ Hid (Args wr w1.heap.size [a, b])) (fun i _ => (2 - intOf i).toNat)
  case atStart => exact ⟨Or.inl rfl, P1.out.alloc _, HL.out w1 _ rfl⟩
  case round =>
    obtain ⟨hi, HR, HA⟩ := hrel
    have k0 : wr.cell? ⟨w1.heap.size, 0, none⟩ = some (.int .i64 a.k) := HA.out.cell 0
    have k1 : wr.cell? ⟨w1.heap.size, 1, none⟩ = some (.int .i64 a.i) := HA.out.cell 1
    have k2 : wr.cell? ⟨w1.heap.size, 2, none⟩ = some (.string a.s) := HA.out.cell 2
    have k3 : wr.cell? ⟨w1.heap.size, 3, none⟩ = some (.int .i64 b.k) := HA.out.cell 3
    have k4 : wr.cell? ⟨w1.heap.size, 4, none⟩ = some (.int .i64 b.i) := HA.out.cell 4
    have k5 : wr.cell? ⟨w1.heap.size, 5, none⟩ = some (.string b.s) := HA.out.cell 5
    rcases hi with rfl | ⟨rfl, hfa⟩ | ⟨rfl, hfa, hfb⟩
    · skip
      skip
      by_cases hz : a.k = 1
      · have hz' : (a.k == 1) = true := by simpa using hz
        have HF := Lib.hid (show ¬ noBI a from fun h => h.1 hz)
        clear hz
        have H2 := Lib.hid (HR.out.alloc (.cells #[.int .i64 a.k, .int .i64 a.i, .string a.s] 23))
        obtain ⟨g0, g1, g2⟩ := H2.out.box.cells
        obtain ⟨f0, f1, f2⟩ := H2.out.box.free
        simp only [zV] at g0 g1 g2
        go_wp2_with fail
        obtain ⟨q1, q2⟩ := HBAD.out (fun h => HF.out h.1)
        exact bodyPost_ret (v := .tuple #[.agg #[.int .i64 0, .int .i64 0, .string ⟨#[]⟩], .int .i64 20]) (by simp [results, Tryd.results15, go_sem, g0, g1, g2]) rfl ⟨ret_vx q2 q1, Below.set3 H2.out.below (by omega) _ _ _⟩
      · have hz' : (a.k == 1) = false := by simpa using hz
        by_cases ht : a.k = 2
        · have ht' : (a.k == 2) = true := by simpa using ht
          have HF := Lib.hid (show ¬ noBI a from fun h => h.2 ht)
          clear hz ht
          have H2 := Lib.hid (HR.out.alloc (.cells #[.int .i64 a.k, .int .i64 a.i, .string a.s] 23))
          obtain ⟨g0, g1, g2⟩ := H2.out.box.cells
          obtain ⟨f0, f1, f2⟩ := H2.out.box.free
          simp only [zV] at g0 g1 g2
          go_wp2_with fail
          obtain ⟨q1, q2⟩ := HBAD.out (fun h => HF.out h.1)
          exact bodyPost_ret (v := .tuple #[.agg #[.int .i64 0, .int .i64 0, .string ⟨#[]⟩], .int .i64 20]) (by simp [results, Tryd.results15, go_sem, g0, g1, g2]) rfl ⟨ret_vx q2 q1, Below.set3 H2.out.below (by omega) _ _ _⟩
        · have ht' : (a.k == 2) = false := by simpa using ht
          have HF := Lib.hid (show noBI a from ⟨hz, ht⟩)
          clear hz ht
          go_wp2_with fail
          go_roundw
          case rel => exact ⟨Or.inr (Or.inl ⟨rfl, HF.out⟩), HR.out.alloc _, HA.out.later ((Below.refl _ wr).alloc (Nat.le_refl _) _)⟩
          case measure => simp [intOf]
    · have HFA := Lib.hid hfa
      clear hfa
      by_cases hz : b.k = 1
      · have hz' : (b.k == 1) = true := by simpa using hz
        have HF := Lib.hid (show ¬ noBI b from fun h => h.1 hz)
        clear hz
        have H2 := Lib.hid (HR.out.alloc (.cells #[.int .i64 b.k, .int .i64 b.i, .string b.s] 23))
        obtain ⟨g0, g1, g2⟩ := H2.out.box.cells
        obtain ⟨f0, f1, f2⟩ := H2.out.box.free
        simp only [zV] at g0 g1 g2
        go_wp2_with fail
        obtain ⟨q1, q2⟩ := HBAD.out (fun h => HF.out h.2)
        exact bodyPost_ret (v := .tuple #[.agg #[.int .i64 0, .int .i64 0, .string ⟨#[]⟩], .int .i64 20]) (by simp [results, Tryd.results15, go_sem, g0, g1, g2]) rfl ⟨ret_vx q2 q1, Below.set3 H2.out.below (by omega) _ _ _⟩
      · have hz' : (b.k == 1) = false := by simpa using hz
        by_cases ht : b.k = 2
        · have ht' : (b.k == 2) = true := by simpa using ht
          have HF := Lib.hid (show ¬ noBI b from fun h => h.2 ht)
          clear hz ht
          have H2 := Lib.hid (HR.out.alloc (.cells #[.int .i64 b.k, .int .i64 b.i, .string b.s] 23))
          obtain ⟨g0, g1, g2⟩ := H2.out.box.cells
          obtain ⟨f0, f1, f2⟩ := H2.out.box.free
          simp only [zV] at g0 g1 g2
          go_wp2_with fail
          obtain ⟨q1, q2⟩ := HBAD.out (fun h => HF.out h.2)
          exact bodyPost_ret (v := .tuple #[.agg #[.int .i64 0, .int .i64 0, .string ⟨#[]⟩], .int .i64 20]) (by simp [results, Tryd.results15, go_sem, g0, g1, g2]) rfl ⟨ret_vx q2 q1, Below.set3 H2.out.below (by omega) _ _ _⟩
        · have ht' : (b.k == 2) = false := by simpa using ht
          have HF := Lib.hid (show noBI b from ⟨hz, ht⟩)
          clear hz ht
          go_wp2_with fail
          go_roundw
          case rel => exact ⟨Or.inr (Or.inr ⟨rfl, HFA.out, HF.out⟩), HR.out.alloc _, HA.out.later ((Below.refl _ wr).alloc (Nat.le_refl _) _)⟩
          case measure => simp [intOf]
    · have HFF := Lib.hid (And.intro hfa hfb)
      clear hfa hfb k0 k1 k2 k3 k4 k5
      obtain ⟨d0, d1, d2⟩ := HR.out.tail.tail.box.cells
      obtain ⟨c0, c1, c2⟩ := HR.out.tail.box.cells
      obtain ⟨g0, g1, g2⟩ := HR.out.box.cells
      obtain ⟨f0, f1, f2⟩ := HR.out.box.free
      simp only [zV] at g0 g1 g2
      cases hza : (a.k == 0)
      · cases hzb : (b.k == 0)
        · by_cases hkk : a.k = b.k
          · have HN := Lib.hid (HONE.out HFF.out (by simp [nulB, hza, hzb]) hkk)
            have hkk' : (a.k != b.k) = false := by simpa using hkk
            clear hkk
            go_wp2_with fail
            exact bodyPost_ret (v := .tuple #[.agg #[.int .i64 a.k, .int .i64 0, .string (a.s ++ b.s)], .int .i64 0]) (by simp [results, Tryd.results15, go_sem, g0, g1, g2]) rfl ⟨ret_vx (u := ⟨a.k, 0, a.s ++ b.s⟩) HN.out.2 HN.out.1, Below.set3 HR.out.below (by omega) _ _ _⟩
          · have HN := Lib.hid (HTWO.out HFF.out (by simp [nulB, hza, hzb]) hkk)
            have hkk' : (a.k != b.k) = true := by simpa using hkk
            clear hkk
            go_wp2_with fail
            exact bodyPost_ret (v := .tuple #[.agg #[.int .i64 0, .int .i64 0, .string ⟨#[]⟩], .int .i64 20]) (by simp [results, Tryd.results15, go_sem, g0, g1, g2]) rfl ⟨ret_vx HN.out.2 HN.out.1, Below.set3 HR.out.below (by omega) _ _ _⟩
        · have HN := Lib.hid (HNUL.out HFF.out (by simp [nulB, hza, hzb]))
          go_wp2_with fail
          exact bodyPost_ret (v := .tuple #[.agg #[.int .i64 0, .int .i64 0, .string ⟨#[]⟩], .int .i64 0]) (by simp [results, Tryd.results15, go_sem, g0, g1, g2]) rfl ⟨ret_vx HN.out.2 HN.out.1, Below.set3 HR.out.below (by omega) _ _ _⟩
      · have HN := Lib.hid (HNUL.out HFF.out (by simp [nulB, hza]))
        go_wp2_with fail
        exact bodyPost_ret (v := .tuple #[.agg #[.int .i64 0, .int .i64 0, .string ⟨#[]⟩], .int .i64 0]) (by simp [results, Tryd.results15, go_sem, g0, g1, g2]) rfl ⟨ret_vx HN.out.2 HN.out.1, Below.set3 HR.out.below (by omega) _ _ _⟩
theorem rjoin_any (a b : V) (w : World) (ha : a.s.size ≤ 140737488355328) (hb : b.s.size ≤ 140737488355328) :
    Calls Tryd.prog 15 #[.agg #[.int .i64 a.k, .int .i64 a.i, .string a.s], .agg #[.int .i64 b.k, .int .i64 b.i, .string b.s]] w fun e w' => e = .returned (.tuple #[.agg #[.int .i64 (joV a b).k, .int .i64 (joV a b).i, .string (joV a b).s], .int .i64 (joE a b)]) ∧ Below w.heap.size w w' := by
  cases hok : allOk [a, b]
  · exact rjoin_bad a b w hok
  · exact rjoin_good a b w ha hb hok
end Go.Proofs.YtdffnkopbackiaaDoor
