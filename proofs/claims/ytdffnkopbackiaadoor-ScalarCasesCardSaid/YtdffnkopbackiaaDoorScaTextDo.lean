/- Contracts of scalar's lower, upper, trim and replace, of texts. Conditions: the text is no longer than 3000; what is put is what is replaced. -/
import Derived.Test.YtdffnkopbackiaaDoorScaTurned
import Derived.Test.YtdffnkopbackiaaDoorScaCallB
import Derived.Test.YtdffnkopbackiaaDoorScaCallC
import Derived.Test.YtdffnkopbackiaaDoorScaLive0
import Derived.Lib.ReplaceLaws
namespace Go.Proofs.YtdffnkopbackiaaDoor
open Go.RowKit
def trimS (s : ByteArray) : ByteArray := ⟨(Lib.trimB s.data.toList 32).toArray⟩
theorem trim_lib (s : ByteArray) (w : World) (hs : s.size ≤ 3000) : Calls Tryd.prog 59 #[.string s, .string ⟨#[32]⟩] w fun e w' => e = .returned (.string (trimS s)) ∧ Below w.heap.size w w' := by
  refine (Tryd.strings_Trim_one s 32 (by decide) w (by omega)).mono ?_
  rintro e w' ⟨he, hw⟩
  refine ⟨he, ?_⟩
  rcases hw with rfl | rfl
  · exact Below.refl _ _
  · exact (Below.refl _ _).drew
set_option maxRecDepth 100000 in
set_option maxHeartbeats 2000000 in
theorem lower_do (s : ByteArray) (H : Nat) (w : World) (h : Args w H [sV s]) (hs : s.size ≤ 3000) : Calls Tryd.prog 49 #[.slice (some ⟨H, 0, none⟩) 1 1] w fun e w' => e = .returned (.tuple #[.agg #[.int .i64 3, .int .i64 0, .string (turnedB 65 s)], .int .i64 0]) ∧ Below w.heap.size w w' := by
  have hl := h.lt
  have HZ := Lib.hid (zero_box w)
  have c2 : w.cell? ⟨H, 2, none⟩ = some (.string s) := h.cell 2
  have HT := Lib.hid (fun w => turned65 s w hs)
  clear h hs
  generalize (turnedB 65 s) = r at *
  go_enter Tryd.func49, Tryd.ntmps49
  go_wp2_with fail
  refine (HT.out _).mono ?_
  rintro e w1 ⟨rfl, b1⟩
  have P1 := Lib.hid (HZ.out.call b1)
  clear c2
  go_wp2_with fail
  refine (text_any _ _).mono ?_
  rintro e w2 ⟨rfl, b2⟩
  have P2 := Lib.hid (P1.out.call b2)
  obtain ⟨g0, g1, g2⟩ := P2.out.box.cells
  obtain ⟨f0, f1, f2⟩ := P2.out.box.free
  simp only [zV] at g0 g1 g2
  go_wp2_with fail
  exact bodyPost_ret (v := .tuple #[.agg #[.int .i64 3, .int .i64 0, .string r], .int .i64 0]) (by simp [results, Tryd.results49, go_sem, g0, g1, g2]) rfl ⟨rfl, Below.set3 P2.out.below (Nat.le_refl _) _ _ _⟩
set_option maxRecDepth 100000 in
set_option maxHeartbeats 2000000 in
theorem upper_do (s : ByteArray) (H : Nat) (w : World) (h : Args w H [sV s]) (hs : s.size ≤ 3000) : Calls Tryd.prog 50 #[.slice (some ⟨H, 0, none⟩) 1 1] w fun e w' => e = .returned (.tuple #[.agg #[.int .i64 3, .int .i64 0, .string (turnedB 97 s)], .int .i64 0]) ∧ Below w.heap.size w w' := by
  have hl := h.lt
  have HZ := Lib.hid (zero_box w)
  have c2 : w.cell? ⟨H, 2, none⟩ = some (.string s) := h.cell 2
  have HT := Lib.hid (fun w => turned97 s w hs)
  clear h hs
  generalize (turnedB 97 s) = r at *
  go_enter Tryd.func50, Tryd.ntmps50
  go_wp2_with fail
  refine (HT.out _).mono ?_
  rintro e w1 ⟨rfl, b1⟩
  have P1 := Lib.hid (HZ.out.call b1)
  clear c2
  go_wp2_with fail
  refine (text_any _ _).mono ?_
  rintro e w2 ⟨rfl, b2⟩
  have P2 := Lib.hid (P1.out.call b2)
  obtain ⟨g0, g1, g2⟩ := P2.out.box.cells
  obtain ⟨f0, f1, f2⟩ := P2.out.box.free
  simp only [zV] at g0 g1 g2
  go_wp2_with fail
  exact bodyPost_ret (v := .tuple #[.agg #[.int .i64 3, .int .i64 0, .string r], .int .i64 0]) (by simp [results, Tryd.results50, go_sem, g0, g1, g2]) rfl ⟨rfl, Below.set3 P2.out.below (Nat.le_refl _) _ _ _⟩
set_option maxRecDepth 100000 in
set_option maxHeartbeats 2000000 in
theorem trim_do (s : ByteArray) (H : Nat) (w : World) (h : Args w H [sV s]) (hs : s.size ≤ 3000) : Calls Tryd.prog 51 #[.slice (some ⟨H, 0, none⟩) 1 1] w fun e w' => e = .returned (.tuple #[.agg #[.int .i64 3, .int .i64 0, .string (trimS s)], .int .i64 0]) ∧ Below w.heap.size w w' := by
  have hl := h.lt
  have HZ := Lib.hid (zero_box w)
  have c2 : w.cell? ⟨H, 2, none⟩ = some (.string s) := h.cell 2
  have HT := Lib.hid (fun w => trim_lib s w hs)
  clear h hs
  generalize (trimS s) = r at *
  go_enter Tryd.func51, Tryd.ntmps51
  go_wp2_with fail
  refine (HT.out _).mono ?_
  rintro e w1 ⟨rfl, b1⟩
  have P1 := Lib.hid (HZ.out.call b1)
  clear c2
  go_wp2_with fail
  refine (text_any _ _).mono ?_
  rintro e w2 ⟨rfl, b2⟩
  have P2 := Lib.hid (P1.out.call b2)
  obtain ⟨g0, g1, g2⟩ := P2.out.box.cells
  obtain ⟨f0, f1, f2⟩ := P2.out.box.free
  simp only [zV] at g0 g1 g2
  go_wp2_with fail
  exact bodyPost_ret (v := .tuple #[.agg #[.int .i64 3, .int .i64 0, .string r], .int .i64 0]) (by simp [results, Tryd.results51, go_sem, g0, g1, g2]) rfl ⟨rfl, Below.set3 P2.out.below (Nat.le_refl _) _ _ _⟩
theorem empty_of {t : ByteArray} (h : t.size = 0) : t = ⟨#[]⟩ := by
  cases t
  simp only [ByteArray.mk.injEq]
  exact Array.eq_empty_of_size_eq_zero h
theorem repl_self (s t : ByteArray) : (⟨(Lib.replaceAll s.data.toList t.data.toList t.data.toList).toArray⟩ : ByteArray) = s := by
  unfold Lib.replaceAll Lib.replace
  rw [if_pos (by simp)]
set_option maxRecDepth 100000 in
set_option maxHeartbeats 4000000 in
theorem replace_do (s t : ByteArray) (H : Nat) (w : World) (h : Args w H [sV s, sV t, sV t]) (hE : Env w) (hs : s.size ≤ 3000) (ht : t.size ≤ 3000) : Calls Tryd.prog 54 #[.slice (some ⟨H, 0, none⟩) 3 3] w fun e w' => e = .returned (.tuple #[.agg #[.int .i64 3, .int .i64 0, .string s], .int .i64 0]) ∧ Below w.heap.size w w' := by
  have hl := h.lt
  have HZ := Lib.hid (zero_box w)
  have h1 := h.later ((Below.refl _ w).alloc (Nat.le_refl _) (.cells #[.int .i64 0, .int .i64 0, .string ⟨#[]⟩] 23))
  have HA := Lib.hid h1
  have HE := Lib.hid (hE.later HZ.out.below)
  clear h h1 hE
  by_cases h0 : t.size = 0
  · obtain rfl := empty_of h0
    go_enter Tryd.func54, Tryd.ntmps54
    go_wp2_with fail
    generalize w.alloc (.cells #[.int .i64 0, .int .i64 0, .string ⟨#[]⟩] 23) = W1 at *
    have c0 : W1.cell? ⟨H, 0, none⟩ = some (.int .i64 3) := HA.out.cell 0
    have c1 : W1.cell? ⟨H, 1, none⟩ = some (.int .i64 0) := HA.out.cell 1
    have c2 : W1.cell? ⟨H, 2, none⟩ = some (.string s) := HA.out.cell 2
    have c5 : W1.cell? ⟨H, 5, none⟩ = some (.string ⟨#[]⟩) := HA.out.cell 5
    have c8 : W1.cell? ⟨H, 8, none⟩ = some (.string ⟨#[]⟩) := HA.out.cell 8
    obtain ⟨g0, g1, g2⟩ := HZ.out.box.cells
    obtain ⟨f0, f1, f2⟩ := HZ.out.box.free
    simp only [zV] at g0 g1 g2
    go_quiet (fail)
    go_wp2_with fail
    exact bodyPost_ret (v := .tuple #[.agg #[.int .i64 3, .int .i64 0, .string s], .int .i64 0]) (by simp [results, Tryd.results54, go_sem, g0, g1, g2]) rfl ⟨rfl, Below.set3 (below_drewN HZ.out.below _) (Nat.le_refl _) _ _ _⟩
  · have hE1 : t.toList = [] → False := by
      intro h
      rw [Lib.toList_data] at h
      have := congrArg List.length h
      simp at this
      exact h0 (by simp [this])
    have m1 : (t.toList == []) = false := by simpa using hE1
    have m2 : t.toList.isEmpty = false := by
      cases hq : t.toList
      · exact absurd hq hE1
      · rfl
    have HC : Hid (∀ w m, w.cell? ⟨0, 0, none⟩ = some (.int .i64 m) → Calls Tryd.prog 62 #[.string s, .string t] w fun e w' => e = .returned (.int .i64 (Lib.countB s t)) ∧ w' = w) := fun w m hm => Tryd.strings_Count_any s t m w (by omega) hm (by omega)
    have hcm := Lib.countB_mul_le t (by omega) s.size s (Nat.le_refl _)
    have hcb : Lib.countB s t ≤ 3000 := by
      have : Lib.countB s t * 1 ≤ Lib.countB s t * t.size := Nat.mul_le_mul_left _ (by omega)
      omega
    have HR : Hid (∀ w m, w.cell? ⟨0, 0, none⟩ = some (.int .i64 m) → Calls Tryd.prog 63 #[.string s, .string t, .string t] w fun e w' => e = .returned (.string s) ∧ Below w.heap.size w w') := by
      intro w m hm
      have h := Tryd.strings_ReplaceAll s t t m w (by omega) hm (by omega) (by omega)
      rw [repl_self] at h
      exact h
    clear hcm hE1
    generalize Lib.countB s t = cnt at *
    go_enter Tryd.func54, Tryd.ntmps54
    go_wp2_with fail
    generalize w.alloc (.cells #[.int .i64 0, .int .i64 0, .string ⟨#[]⟩] 23) = W1 at *
    have c2 : W1.cell? ⟨H, 2, none⟩ = some (.string s) := HA.out.cell 2
    have c5 : W1.cell? ⟨H, 5, none⟩ = some (.string t) := HA.out.cell 5
    have c8 : W1.cell? ⟨H, 8, none⟩ = some (.string t) := HA.out.cell 8
    obtain ⟨m, hm⟩ := HE.out.max
    have HM := Lib.hid hm
    clear hm
    go_quiet (fail)
    go_wp2_with fail
    refine (HC.out (W1.drewN _) m HM.out).mono ?_
    rintro e w4 ⟨rfl, rfl⟩
    clear c2 c5 c8
    go_wp2_with fail
    refine (HR.out (W1.drewN _) m HM.out).mono ?_
    rintro e w5 ⟨rfl, b5⟩
    have P5 := Lib.hid ((HZ.out.drewN _).call b5)
    go_wp2_with fail
    refine (text_any _ _).mono ?_
    rintro e w6 ⟨rfl, b6⟩
    have P6 := Lib.hid (P5.out.call b6)
    obtain ⟨g0, g1, g2⟩ := P6.out.box.cells
    obtain ⟨f0, f1, f2⟩ := P6.out.box.free
    simp only [zV] at g0 g1 g2
    go_wp2_with fail
    exact bodyPost_ret (v := .tuple #[.agg #[.int .i64 3, .int .i64 0, .string s], .int .i64 0]) (by simp [results, Tryd.results54, go_sem, g0, g1, g2]) rfl ⟨rfl, Below.set3 P6.out.below (Nat.le_refl _) _ _ _⟩
end Go.Proofs.YtdffnkopbackiaaDoor
