/- Contracts of Is of logic and of the reference, of any two values. No condition. -/
import Derived.Test.YtfccongmfoolpaaLogNot
namespace Go.Proofs.Ytfccongmfoolpaa
open Go.RowKit
def w4of (w : World) (a b : V) : World := (w3of w a b).alloc (.cells #[.int .i64 a.k, .int .i64 a.i, .string a.s, .int .i64 b.k, .int .i64 b.i, .string b.s] 24)
theorem w4of_at (w : World) (a b : V) : RowAt (w4of w a b) (w4of w a b).heap.size (some ⟨w.heap.size + 3, 0, none⟩) [a, b] := by
  have h := w4of_row (w3of w a b) a b
  rw [(w3of_box w a b).2.2.2.2] at h
  exact h
theorem w4of_box (w : World) (a b : V) : VBox (w4of w a b) w.heap.size a ∧ VBox (w4of w a b) (w.heap.size + 1) b ∧ VBox (w4of w a b) (w.heap.size + 2) zV ∧ Below w.heap.size w (w4of w a b) ∧ (w4of w a b).heap.size = w.heap.size + 4 := by
  obtain ⟨h0, h1, h2, h3, h4⟩ := w3of_box w a b
  have hb := Below.alloc (Below.refl (w.heap.size + 3) (w3of w a b)) (by omega) (.cells #[.int .i64 a.k, .int .i64 a.i, .string a.s, .int .i64 b.k, .int .i64 b.i, .string b.s] 24)
  exact ⟨h0.below hb (by omega), h1.below hb (by omega), h2.below hb (by omega), h3.trans (hb.mono (by omega)), by unfold w4of; simp; omega⟩
theorem chkA_or (xs : List V) : chkA xs = if allOk xs then 0 else 1 := rfl
theorem isE_bad {a b : V} (h : allOk [a, b] = false) : isE a b = 1 ∧ isR a b = zV := by
  have : isE a b = 1 := by unfold isE chkA; rw [h]; rfl
  exact ⟨this, by unfold isR; rw [this]; rfl⟩
theorem isE_kind {a b : V} (h : allOk [a, b] = true) (h1 : ¬ a.k = 0) (h2 : ¬ b.k = 0) (h3 : ¬ a.k = b.k) : isE a b = 20 ∧ isR a b = zV := by
  have : isE a b = 20 := by unfold isE chkA; rw [h]; simp [h1, h2, h3]
  exact ⟨this, by unfold isR; rw [this]; rfl⟩
theorem isE_good {a b : V} (h : allOk [a, b] = true) (h1 : a.k = 0 ∨ b.k = 0 ∨ a.k = b.k) : isE a b = 0 ∧ isR a b = tV (sameB a.k a.i a.s b.k b.i b.s) := by
  have : isE a b = 0 := by
    unfold isE chkA
    rw [h, if_pos (by rfl), if_neg (by omega)]
  exact ⟨this, by unfold isR; rw [this]; rfl⟩
set_option maxHeartbeats 2000000 in
theorem is_any (a b : V) (w : World) :
    Calls Try.prog 21 #[.agg #[.int .i64 a.k, .int .i64 a.i, .string a.s], .agg #[.int .i64 b.k, .int .i64 b.i, .string b.s]] w fun e w' => e = .returned (.tuple #[.agg #[.int .i64 (isR a b).k, .int .i64 (isR a b).i, .string (isR a b).s], .int .i64 (isE a b)]) ∧ Below w.heap.size w w' := by
  have hcall := lcheck_any [a, b] _ 2 _ (w4of_at w a b) (by simp)
  rw [chkA_or] at hcall
  obtain ⟨h0, h1, h2, hb, hsz⟩ := w4of_box w a b
  have HB0 := Lib.hid (@isE_bad a b)
  have HB1 := Lib.hid (@isE_kind a b)
  have HB2 := Lib.hid (@isE_good a b)
  have HT := Lib.hid (fun b => truth_any b)
  have HS := Lib.hid (fun w => same_any a.k a.i b.k b.i a.s b.s w)
  generalize isE a b = q at *
  generalize isR a b = r at *
  generalize sameB a.k a.i a.s b.k b.i b.s = p at *
  generalize allOk [a, b] = g at *
  have H0 := Lib.hid h0
  have H1 := Lib.hid h1
  have H2 := Lib.hid h2
  have HZ := Lib.hid hsz
  have HB := Lib.hid hb
  have HC := Lib.hid hcall
  clear h0 h1 h2 hb hsz hcall
  have HC : Hid (Calls Try.prog 38 #[.slice (some ⟨w.heap.size + 3, 0, none⟩) 2 2] ((((w.alloc (.cells #[.int .i64 a.k, .int .i64 a.i, .string a.s] 24)).alloc (.cells #[.int .i64 b.k, .int .i64 b.i, .string b.s] 24)).alloc (.cells #[.int .i64 0, .int .i64 0, .string ⟨#[]⟩] 24)).alloc (.cells #[.int .i64 a.k, .int .i64 a.i, .string a.s, .int .i64 b.k, .int .i64 b.i, .string b.s] 24)) fun e w' => e = .returned (.int .i64 (if g then 0 else 1)) ∧ Below (w4of w a b).heap.size (w4of w a b) w') := HC.out
  cases g
  · have HE := Lib.hid (HB0.out rfl)
    have HC : Hid (Calls Try.prog 38 #[.slice (some ⟨w.heap.size + 3, 0, none⟩) 2 2] ((((w.alloc (.cells #[.int .i64 a.k, .int .i64 a.i, .string a.s] 24)).alloc (.cells #[.int .i64 b.k, .int .i64 b.i, .string b.s] 24)).alloc (.cells #[.int .i64 0, .int .i64 0, .string ⟨#[]⟩] 24)).alloc (.cells #[.int .i64 a.k, .int .i64 a.i, .string a.s, .int .i64 b.k, .int .i64 b.i, .string b.s] 24)) fun e w' => e = .returned (.int .i64 1) ∧ Below (w4of w a b).heap.size (w4of w a b) w') := HC.out
    go_enter Try.func21, Try.ntmps21
    go_wp2_with (go_at_call 38; refine HC.out.mono ?_; rintro e w1 ⟨rfl, hb1⟩; obtain ⟨g0, g1, g2⟩ := (H2.out.below hb1 (by rw [HZ.out]; omega)).cells; obtain ⟨f0, f1, f2⟩ := (H2.out.below hb1 (by rw [HZ.out]; omega)).free; simp only [zV] at g0 g1 g2)
    exact bodyPost_ret (v := .tuple #[.agg #[.int .i64 0, .int .i64 0, .string ⟨#[]⟩], .int .i64 1]) (by simp [results, Try.results21, go_sem, g0, g1, g2]) rfl ⟨ret_vx (u := zV) HE.out.2 HE.out.1, Below.set3 (HB.out.trans (hb1.mono (by rw [HZ.out]; omega))) (by omega) _ _ _⟩
  · by_cases hk : ¬ a.k = 0 ∧ ¬ b.k = 0 ∧ ¬ a.k = b.k
    · have HE := Lib.hid (HB1.out rfl hk.1 hk.2.1 hk.2.2)
      have k1 : (a.k != 0) = true := by simpa using hk.1
      have k2 : (b.k != 0) = true := by simpa using hk.2.1
      have k3 : (a.k != b.k) = true := by simpa using hk.2.2
      have HC : Hid (Calls Try.prog 38 #[.slice (some ⟨w.heap.size + 3, 0, none⟩) 2 2] ((((w.alloc (.cells #[.int .i64 a.k, .int .i64 a.i, .string a.s] 24)).alloc (.cells #[.int .i64 b.k, .int .i64 b.i, .string b.s] 24)).alloc (.cells #[.int .i64 0, .int .i64 0, .string ⟨#[]⟩] 24)).alloc (.cells #[.int .i64 a.k, .int .i64 a.i, .string a.s, .int .i64 b.k, .int .i64 b.i, .string b.s] 24)) fun e w' => e = .returned (.int .i64 0) ∧ Below (w4of w a b).heap.size (w4of w a b) w') := HC.out
      clear hk
      go_enter Try.func21, Try.ntmps21
      go_wp2_with (go_at_call 38; refine HC.out.mono ?_; rintro e w1 ⟨rfl, hb1⟩; obtain ⟨d0, d1, d2⟩ := (H0.out.below hb1 (by rw [HZ.out]; omega)).cells; obtain ⟨e0, e1, e2⟩ := (H1.out.below hb1 (by rw [HZ.out]; omega)).cells; obtain ⟨g0, g1, g2⟩ := (H2.out.below hb1 (by rw [HZ.out]; omega)).cells; obtain ⟨f0, f1, f2⟩ := (H2.out.below hb1 (by rw [HZ.out]; omega)).free; simp only [zV] at g0 g1 g2)
      exact bodyPost_ret (v := .tuple #[.agg #[.int .i64 0, .int .i64 0, .string ⟨#[]⟩], .int .i64 20]) (by simp [results, Try.results21, go_sem, g0, g1, g2]) rfl ⟨ret_vx (u := zV) HE.out.2 HE.out.1, Below.set3 (HB.out.trans (hb1.mono (by rw [HZ.out]; omega))) (by omega) _ _ _⟩
    · have HE := Lib.hid (HB2.out rfl (by omega))
      have hk' : (a.k != 0) = false ∨ ((a.k != 0) = true ∧ (b.k != 0) = false) ∨ ((a.k != 0) = true ∧ (b.k != 0) = true ∧ (a.k != b.k) = false) := by
        simp only [bne_iff_ne, bne_eq_false_iff_eq, ne_eq]
        omega
      have HC : Hid (Calls Try.prog 38 #[.slice (some ⟨w.heap.size + 3, 0, none⟩) 2 2] ((((w.alloc (.cells #[.int .i64 a.k, .int .i64 a.i, .string a.s] 24)).alloc (.cells #[.int .i64 b.k, .int .i64 b.i, .string b.s] 24)).alloc (.cells #[.int .i64 0, .int .i64 0, .string ⟨#[]⟩] 24)).alloc (.cells #[.int .i64 a.k, .int .i64 a.i, .string a.s, .int .i64 b.k, .int .i64 b.i, .string b.s] 24)) fun e w' => e = .returned (.int .i64 0) ∧ Below (w4of w a b).heap.size (w4of w a b) w') := HC.out
      clear hk
      rcases hk' with k1 | ⟨k1, k2⟩ | ⟨k1, k2, k3⟩
      all_goals
        go_enter Try.func21, Try.ntmps21
        go_wp2_with (first | (go_at_call 38; refine HC.out.mono ?_; rintro e w1 ⟨rfl, hb1⟩; obtain ⟨d0, d1, d2⟩ := (H0.out.below hb1 (by rw [HZ.out]; omega)).cells; obtain ⟨e0, e1, e2⟩ := (H1.out.below hb1 (by rw [HZ.out]; omega)).cells) | (go_at_call 34; refine (HS.out _).mono ?_; rintro e w2 ⟨rfl, hb2⟩) | (go_at_call 33; refine (HT.out _ _).mono ?_; rintro e w3 ⟨rfl, hb3⟩; have HB3 := Lib.hid (bthen (bthen hb1 hb2) hb3); obtain ⟨g0, g1, g2⟩ := (H2.out.below HB3.out (by rw [HZ.out]; omega)).cells; obtain ⟨f0, f1, f2⟩ := (H2.out.below HB3.out (by rw [HZ.out]; omega)).free; simp only [zV] at g0 g1 g2))
        exact bodyPost_ret (v := .tuple #[.agg #[.int .i64 1, .int .i64 (bi p), .string ⟨#[]⟩], .int .i64 0]) (by simp [results, Try.results21, go_sem, g0, g1, g2]) rfl ⟨ret_vx (u := tV p) HE.out.2 HE.out.1, Below.set3 (HB.out.trans (HB3.out.mono (by rw [HZ.out]; omega))) (by omega) _ _ _⟩
set_option maxHeartbeats 2000000 in
theorem ris_any (a b : V) (w : World) :
    Calls Try.prog 22 #[.agg #[.int .i64 a.k, .int .i64 a.i, .string a.s], .agg #[.int .i64 b.k, .int .i64 b.i, .string b.s]] w fun e w' => e = .returned (.tuple #[.agg #[.int .i64 (isR a b).k, .int .i64 (isR a b).i, .string (isR a b).s], .int .i64 (isE a b)]) ∧ Below w.heap.size w w' := by
  have hcall := may_any [a, b] _ 2 _ (w4of_at w a b) (by simp)
  obtain ⟨h0, h1, h2, hb, hsz⟩ := w4of_box w a b
  have HB0 := Lib.hid (@isE_bad a b)
  have HB1 := Lib.hid (@isE_kind a b)
  have HB2 := Lib.hid (@isE_good a b)
  have HT := Lib.hid (fun b => bool1_any b)
  have HS := Lib.hid (fun w => rsame_any a.k a.i b.k b.i a.s b.s w)
  generalize isE a b = q at *
  generalize isR a b = r at *
  generalize sameB a.k a.i a.s b.k b.i b.s = p at *
  generalize allOk [a, b] = g at *
  have H0 := Lib.hid h0
  have H1 := Lib.hid h1
  have H2 := Lib.hid h2
  have HZ := Lib.hid hsz
  have HB := Lib.hid hb
  have HC := Lib.hid hcall
  clear h0 h1 h2 hb hsz hcall
  have HC : Hid (Calls Try.prog 39 #[.slice (some ⟨w.heap.size + 3, 0, none⟩) 2 2] ((((w.alloc (.cells #[.int .i64 a.k, .int .i64 a.i, .string a.s] 24)).alloc (.cells #[.int .i64 b.k, .int .i64 b.i, .string b.s] 24)).alloc (.cells #[.int .i64 0, .int .i64 0, .string ⟨#[]⟩] 24)).alloc (.cells #[.int .i64 a.k, .int .i64 a.i, .string a.s, .int .i64 b.k, .int .i64 b.i, .string b.s] 24)) fun e w' => e = .returned (.bool g) ∧ Below (w4of w a b).heap.size (w4of w a b) w') := HC.out
  cases g
  · have HE := Lib.hid (HB0.out rfl)
    go_enter Try.func22, Try.ntmps22
    go_wp2_with (go_at_call 39; refine HC.out.mono ?_; rintro e w1 ⟨rfl, hb1⟩; obtain ⟨g0, g1, g2⟩ := (H2.out.below hb1 (by rw [HZ.out]; omega)).cells; obtain ⟨f0, f1, f2⟩ := (H2.out.below hb1 (by rw [HZ.out]; omega)).free; simp only [zV] at g0 g1 g2)
    exact bodyPost_ret (v := .tuple #[.agg #[.int .i64 0, .int .i64 0, .string ⟨#[]⟩], .int .i64 1]) (by simp [results, Try.results22, go_sem, g0, g1, g2]) rfl ⟨ret_vx (u := zV) HE.out.2 HE.out.1, Below.set3 (HB.out.trans (hb1.mono (by rw [HZ.out]; omega))) (by omega) _ _ _⟩
  · by_cases hk : ¬ a.k = 0 ∧ ¬ b.k = 0 ∧ ¬ a.k = b.k
    · have HE := Lib.hid (HB1.out rfl hk.1 hk.2.1 hk.2.2)
      have k1 : (a.k != 0) = true := by simpa using hk.1
      have k2 : (b.k != 0) = true := by simpa using hk.2.1
      have k3 : (a.k != b.k) = true := by simpa using hk.2.2
      clear hk
      go_enter Try.func22, Try.ntmps22
      go_wp2_with (go_at_call 39; refine HC.out.mono ?_; rintro e w1 ⟨rfl, hb1⟩; obtain ⟨d0, d1, d2⟩ := (H0.out.below hb1 (by rw [HZ.out]; omega)).cells; obtain ⟨e0, e1, e2⟩ := (H1.out.below hb1 (by rw [HZ.out]; omega)).cells; obtain ⟨g0, g1, g2⟩ := (H2.out.below hb1 (by rw [HZ.out]; omega)).cells; obtain ⟨f0, f1, f2⟩ := (H2.out.below hb1 (by rw [HZ.out]; omega)).free; simp only [zV] at g0 g1 g2)
      exact bodyPost_ret (v := .tuple #[.agg #[.int .i64 0, .int .i64 0, .string ⟨#[]⟩], .int .i64 20]) (by simp [results, Try.results22, go_sem, g0, g1, g2]) rfl ⟨ret_vx (u := zV) HE.out.2 HE.out.1, Below.set3 (HB.out.trans (hb1.mono (by rw [HZ.out]; omega))) (by omega) _ _ _⟩
    · have HE := Lib.hid (HB2.out rfl (by omega))
      have hk' : (a.k != 0) = false ∨ ((a.k != 0) = true ∧ (b.k != 0) = false) ∨ ((a.k != 0) = true ∧ (b.k != 0) = true ∧ (a.k != b.k) = false) := by
        simp only [bne_iff_ne, bne_eq_false_iff_eq, ne_eq]
        omega
      clear hk
      rcases hk' with k1 | ⟨k1, k2⟩ | ⟨k1, k2, k3⟩
      all_goals
        go_enter Try.func22, Try.ntmps22
        go_wp2_with (first | (go_at_call 39; refine HC.out.mono ?_; rintro e w1 ⟨rfl, hb1⟩; obtain ⟨d0, d1, d2⟩ := (H0.out.below hb1 (by rw [HZ.out]; omega)).cells; obtain ⟨e0, e1, e2⟩ := (H1.out.below hb1 (by rw [HZ.out]; omega)).cells) | (go_at_call 35; refine (HS.out _).mono ?_; rintro e w2 ⟨rfl, hb2⟩) | (go_at_call 26; refine (HT.out _ _).mono ?_; rintro e w3 ⟨rfl, hb3⟩; have HB3 := Lib.hid (bthen (bthen hb1 hb2) hb3); obtain ⟨g0, g1, g2⟩ := (H2.out.below HB3.out (by rw [HZ.out]; omega)).cells; obtain ⟨f0, f1, f2⟩ := (H2.out.below HB3.out (by rw [HZ.out]; omega)).free; simp only [zV] at g0 g1 g2))
        exact bodyPost_ret (v := .tuple #[.agg #[.int .i64 1, .int .i64 (bi p), .string ⟨#[]⟩], .int .i64 0]) (by simp [results, Try.results22, go_sem, g0, g1, g2]) rfl ⟨ret_vx (u := tV p) HE.out.2 HE.out.1, Below.set3 (HB.out.trans (HB3.out.mono (by rw [HZ.out]; omega))) (by omega) _ _ _⟩
end Go.Proofs.Ytfccongmfoolpaa
