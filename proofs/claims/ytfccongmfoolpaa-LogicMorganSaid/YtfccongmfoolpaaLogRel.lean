/- Contracts of logic's related and Rel, of any word and any two values. No condition. -/
import Derived.Test.YtfccongmfoolpaaLogIs
namespace Go.Proofs.Ytfccongmfoolpaa
open Go.RowKit
/-- The words that compare. -/
def knB (op : ByteArray) : Bool := op.toList == [61] || op.toList == [60, 62] || op.toList == [60] || op.toList == [60, 61] || op.toList == [62] || op.toList == [62, 61]
def soB (op : ByteArray) (n : Int) : Bool :=
  if op.toList == [61] then n == 0 else if op.toList == [60, 62] then n != 0 else if op.toList == [60] then decide (n < 0) else if op.toList == [60, 61] then decide (n ≤ 0) else if op.toList == [62] then decide (0 < n) else if op.toList == [62, 61] then decide (0 ≤ n) else false
theorem op_cases (op : ByteArray) : op = ⟨#[61]⟩ ∨ op = ⟨#[60, 62]⟩ ∨ op = ⟨#[60]⟩ ∨ op = ⟨#[60, 61]⟩ ∨ op = ⟨#[62]⟩ ∨ op = ⟨#[62, 61]⟩ ∨ ((op.toList == [61]) = false ∧ (op.toList == [60, 62]) = false ∧ (op.toList == [60]) = false ∧ (op.toList == [60, 61]) = false ∧ (op.toList == [62]) = false ∧ (op.toList == [62, 61]) = false) := by
  have key : ∀ l : List UInt8, (op.toList == l) = true → op = ⟨l.toArray⟩ := by
    intro l h
    rw [Lib.toList_data, beq_iff_eq] at h
    cases op
    simp only [ByteArray.mk.injEq]
    rw [← h]
  by_cases h1 : (op.toList == [61]) = true
  · exact Or.inl (key _ h1)
  by_cases h2 : (op.toList == [60, 62]) = true
  · exact Or.inr (Or.inl (key _ h2))
  by_cases h3 : (op.toList == [60]) = true
  · exact Or.inr (Or.inr (Or.inl (key _ h3)))
  by_cases h4 : (op.toList == [60, 61]) = true
  · exact Or.inr (Or.inr (Or.inr (Or.inl (key _ h4))))
  by_cases h5 : (op.toList == [62]) = true
  · exact Or.inr (Or.inr (Or.inr (Or.inr (Or.inl (key _ h5)))))
  by_cases h6 : (op.toList == [62, 61]) = true
  · exact Or.inr (Or.inr (Or.inr (Or.inr (Or.inr (Or.inl (key _ h6))))))
  · exact Or.inr (Or.inr (Or.inr (Or.inr (Or.inr (Or.inr ⟨by simpa using h1, by simpa using h2, by simpa using h3, by simpa using h4, by simpa using h5, by simpa using h6⟩)))))
theorem so_eq (n : Int) : soB ⟨#[61]⟩ n = (n == 0) ∧ soB ⟨#[60, 62]⟩ n = (n != 0) ∧ soB ⟨#[60]⟩ n = decide (n < 0) ∧ soB ⟨#[60, 61]⟩ n = decide (n ≤ 0) ∧ soB ⟨#[62]⟩ n = decide (0 < n) ∧ soB ⟨#[62, 61]⟩ n = decide (0 ≤ n) := by
  unfold soB
  simp only [Lib.toList_data]
  refine ⟨rfl, rfl, rfl, rfl, rfl, rfl⟩
theorem kn_eq : knB ⟨#[61]⟩ = true ∧ knB ⟨#[60, 62]⟩ = true ∧ knB ⟨#[60]⟩ = true ∧ knB ⟨#[60, 61]⟩ = true ∧ knB ⟨#[62]⟩ = true ∧ knB ⟨#[62, 61]⟩ = true := by
  unfold knB
  simp only [Lib.toList_data]
  refine ⟨rfl, rfl, rfl, rfl, rfl, rfl⟩
theorem ret_bb {a b c d : Bool} (h : a = c) (h' : b = d) : Ending.returned (.tuple #[.bool a, .bool b]) = .returned (.tuple #[.bool c, .bool d]) := by rw [h, h']
set_option maxHeartbeats 1000000 in
theorem related_any (op : ByteArray) (n : Int) (w : World) :
    Calls Try.prog 36 #[.string op, .int .i64 n] w fun e w' => e = .returned (.tuple #[.bool (soB op n), .bool (knB op)]) ∧ w = w' := by
  obtain ⟨a1, a2, a3, a4, a5, a6⟩ := so_eq n
  obtain ⟨b1, b2, b3, b4, b5, b6⟩ := kn_eq
  rcases op_cases op with rfl | rfl | rfl | rfl | rfl | rfl | ⟨h1, h2, h3, h4, h5, h6⟩
  · rw [a1, b1]; clear a1 a2 a3 a4 a5 a6 b1 b2 b3 b4 b5 b6
    go_enter Try.func36, Try.ntmps36
    go_wp2
    exact bodyPost_ret (v := .tuple #[.bool (n == 0), .bool true]) (by simp [results, Try.results36, go_sem]) rfl ⟨rfl, rfl⟩
  · rw [a2, b2]; clear a1 a2 a3 a4 a5 a6 b1 b2 b3 b4 b5 b6
    go_enter Try.func36, Try.ntmps36
    go_wp2
    exact bodyPost_ret (v := .tuple #[.bool (n != 0), .bool true]) (by simp [results, Try.results36, go_sem]) rfl ⟨rfl, rfl⟩
  · rw [a3, b3]; clear a1 a2 a3 a4 a5 a6 b1 b2 b3 b4 b5 b6
    go_enter Try.func36, Try.ntmps36
    go_wp2
    exact bodyPost_ret (v := .tuple #[.bool (decide (n < 0)), .bool true]) (by simp [results, Try.results36, go_sem]) rfl ⟨rfl, rfl⟩
  · rw [a4, b4]; clear a1 a2 a3 a4 a5 a6 b1 b2 b3 b4 b5 b6
    go_enter Try.func36, Try.ntmps36
    go_wp2
    exact bodyPost_ret (v := .tuple #[.bool (decide (n ≤ 0)), .bool true]) (by simp [results, Try.results36, go_sem]) rfl ⟨rfl, rfl⟩
  · rw [a5, b5]; clear a1 a2 a3 a4 a5 a6 b1 b2 b3 b4 b5 b6
    go_enter Try.func36, Try.ntmps36
    go_wp2
    exact bodyPost_ret (v := .tuple #[.bool (decide (0 < n)), .bool true]) (by simp [results, Try.results36, go_sem]) rfl ⟨rfl, rfl⟩
  · rw [a6, b6]; clear a1 a2 a3 a4 a5 a6 b1 b2 b3 b4 b5 b6
    go_enter Try.func36, Try.ntmps36
    go_wp2
    exact bodyPost_ret (v := .tuple #[.bool (decide (0 ≤ n)), .bool true]) (by simp [results, Try.results36, go_sem]) rfl ⟨rfl, rfl⟩
  · rw [show soB op n = false by unfold soB; simp [h1, h2, h3, h4, h5, h6], show knB op = false by unfold knB; simp [h1, h2, h3, h4, h5, h6]]; clear a1 a2 a3 a4 a5 a6 b1 b2 b3 b4 b5 b6
    go_enter Try.func36, Try.ntmps36
    go_wp2
    exact bodyPost_ret (v := .tuple #[.bool false, .bool false]) (by simp [results, Try.results36, go_sem]) rfl ⟨rfl, rfl⟩
def relE (op : ByteArray) (a b : V) : Int := if (allOk [a, b] && knB op) = true then (if a.k = 0 ∨ b.k = 0 ∨ a.k = b.k then 0 else 20) else 1
def relR (op : ByteArray) (a b : V) : V := if relE op a b = 0 ∧ ¬ a.k = 0 ∧ ¬ b.k = 0 then tV (soB op (cmpV a.k a.i a.s b.k b.i b.s)) else zV
theorem relR_zero {op : ByteArray} {a b : V} (h : ¬ relE op a b = 0) : relR op a b = zV := by unfold relR; rw [if_neg (fun h' => h h'.1)]
theorem rel_bad {op : ByteArray} {a b : V} (h : (allOk [a, b] && knB op) = false) : relE op a b = 1 ∧ relR op a b = zV := by
  have : relE op a b = 1 := by unfold relE; rw [h]; rfl
  exact ⟨this, relR_zero (by rw [this]; decide)⟩
theorem rel_kind {op : ByteArray} {a b : V} (h : (allOk [a, b] && knB op) = true) (h1 : ¬ a.k = 0) (h2 : ¬ b.k = 0) (h3 : ¬ a.k = b.k) : relE op a b = 20 ∧ relR op a b = zV := by
  have : relE op a b = 20 := by unfold relE; rw [h, if_pos rfl, if_neg (by omega)]
  exact ⟨this, relR_zero (by rw [this]; decide)⟩
theorem rel_null {op : ByteArray} {a b : V} (h : (allOk [a, b] && knB op) = true) (h1 : a.k = 0 ∨ b.k = 0) : relE op a b = 0 ∧ relR op a b = zV := by
  have : relE op a b = 0 := by unfold relE; rw [h, if_pos rfl, if_pos (by omega)]
  exact ⟨this, by unfold relR; rw [if_neg (by omega)]⟩
theorem rel_good {op : ByteArray} {a b : V} (h : (allOk [a, b] && knB op) = true) (h1 : ¬ a.k = 0) (h2 : ¬ b.k = 0) (h3 : a.k = b.k) : relE op a b = 0 ∧ relR op a b = tV (soB op (cmpV a.k a.i a.s b.k b.i b.s)) := by
  have : relE op a b = 0 := by unfold relE; rw [h, if_pos rfl, if_pos (by omega)]
  exact ⟨this, by unfold relR; rw [if_pos ⟨this, h1, h2⟩]⟩
theorem kinds (a b : V) : (((a.k == 0) = true ∨ ((a.k == 0) = false ∧ (b.k == 0) = true)) ∧ (a.k = 0 ∨ b.k = 0)) ∨ ((a.k == 0) = false ∧ (b.k == 0) = false ∧ (a.k != b.k) = true ∧ ¬ a.k = 0 ∧ ¬ b.k = 0 ∧ ¬ a.k = b.k) ∨ ((a.k == 0) = false ∧ (b.k == 0) = false ∧ (a.k != b.k) = false ∧ ¬ a.k = 0 ∧ ¬ b.k = 0 ∧ a.k = b.k) := by
  simp only [beq_iff_eq, beq_eq_false_iff_ne, bne_iff_ne, bne_eq_false_iff_eq, ne_eq]
  omega
/-- What a check of two values laid side by side makes, at any later time. -/
theorem two_check (w : World) (a b : V) : Calls Try.prog 38 #[.slice (some ⟨w.heap.size, 0, none⟩) 2 2] (w.alloc (.cells #[.int .i64 a.k, .int .i64 a.i, .string a.s, .int .i64 b.k, .int .i64 b.i, .string b.s] 24)) fun e w' => e = .returned (.int .i64 (chkA [a, b])) ∧ Below w.heap.size w w' := by
  refine (lcheck_any [a, b] _ 2 _ (w4of_row w a b) (by simp)).mono ?_
  rintro e w' ⟨rfl, hb⟩
  exact ⟨rfl, ((Below.refl _ w).alloc (Nat.le_refl _) _).trans (hb.mono (by simp))⟩
set_option maxHeartbeats 4000000 in
theorem rel_any (op : ByteArray) (a b : V) (w : World) :
    Calls Try.prog 19 #[.string op, .agg #[.int .i64 a.k, .int .i64 a.i, .string a.s], .agg #[.int .i64 b.k, .int .i64 b.i, .string b.s]] w fun e w' => e = .returned (.tuple #[.agg #[.int .i64 (relR op a b).k, .int .i64 (relR op a b).i, .string (relR op a b).s], .int .i64 (relE op a b)]) ∧ Below w.heap.size w w' := by
  obtain ⟨h0, h1, h2, hb, hsz⟩ := w3of_box w a b
  have HB0 := Lib.hid (@rel_bad op a b)
  have HB1 := Lib.hid (@rel_kind op a b)
  have HB2 := Lib.hid (@rel_null op a b)
  have HB3 := Lib.hid (@rel_good op a b)
  have HT := Lib.hid (fun b => truth_any b)
  have HM := Lib.hid (fun w => cmpV_any a.k a.i b.k b.i a.s b.s w)
  have HR := Lib.hid (fun w => related_any op (cmpV a.k a.i a.s b.k b.i b.s) w)
  have HC := Lib.hid (fun w => two_check w a b)
  simp only [chkA_or] at HC
  generalize relE op a b = q at *
  generalize relR op a b = r at *
  generalize cmpV a.k a.i a.s b.k b.i b.s = n at *
  generalize soB op n = p at *
  generalize knB op = kn at *
  generalize allOk [a, b] = g at *
  have H0 := Lib.hid h0
  have H1 := Lib.hid h1
  have H2 := Lib.hid h2
  have HZ := Lib.hid hsz
  have HB := Lib.hid hb
  clear h0 h1 h2 hb hsz
  have HM : Hid (Calls Try.prog 37 #[.agg #[.int .i64 a.k, .int .i64 a.i, .string a.s], .agg #[.int .i64 b.k, .int .i64 b.i, .string b.s]] (((w.alloc (.cells #[.int .i64 a.k, .int .i64 a.i, .string a.s] 24)).alloc (.cells #[.int .i64 b.k, .int .i64 b.i, .string b.s] 24)).alloc (.cells #[.int .i64 0, .int .i64 0, .string ⟨#[]⟩] 24)) fun e w' => e = .returned (.int .i64 n) ∧ Below (w3of w a b).heap.size (w3of w a b) w') := HM.out _
  cases kn
  · have HE := Lib.hid (HB0.out (by simp))
    go_enter Try.func19, Try.ntmps19
    go_wp2_with (first | (go_at_call 37; refine HM.out.mono ?_; rintro e w1 ⟨rfl, hb1⟩; obtain ⟨d0, d1, d2⟩ := (H0.out.below hb1 (by rw [HZ.out]; omega)).cells; obtain ⟨e0, e1, e2⟩ := (H1.out.below hb1 (by rw [HZ.out]; omega)).cells; obtain ⟨g0, g1, g2⟩ := (H2.out.below hb1 (by rw [HZ.out]; omega)).cells; obtain ⟨f0, f1, f2⟩ := (H2.out.below hb1 (by rw [HZ.out]; omega)).free; simp only [zV] at g0 g1 g2) | (go_at_call 36; refine (HR.out _).mono ?_; rintro e w2 ⟨rfl, rfl⟩))
    exact bodyPost_ret (v := .tuple #[.agg #[.int .i64 0, .int .i64 0, .string ⟨#[]⟩], .int .i64 1]) (by simp [results, Try.results19, go_sem, g0, g1, g2]) rfl ⟨ret_vx (u := zV) HE.out.2 HE.out.1, Below.set3 (HB.out.trans (hb1.mono (by rw [HZ.out]; omega))) (by omega) _ _ _⟩
  · cases g
    · have HE := Lib.hid (HB0.out (by simp))
      simp only [Bool.false_eq_true, if_false] at HC
      go_enter Try.func19, Try.ntmps19
      go_wp2_with (first | (go_at_call 37; refine HM.out.mono ?_; rintro e w1 ⟨rfl, hb1⟩; obtain ⟨d0, d1, d2⟩ := (H0.out.below hb1 (by rw [HZ.out]; omega)).cells; obtain ⟨e0, e1, e2⟩ := (H1.out.below hb1 (by rw [HZ.out]; omega)).cells; obtain ⟨g0, g1, g2⟩ := (H2.out.below hb1 (by rw [HZ.out]; omega)).cells; obtain ⟨f0, f1, f2⟩ := (H2.out.below hb1 (by rw [HZ.out]; omega)).free; simp only [zV] at g0 g1 g2) | (go_at_call 36; refine (HR.out _).mono ?_; rintro e w2 ⟨rfl, rfl⟩) | (go_at_call 38; refine (HC.out _).mono ?_; rintro e w3 ⟨rfl, hb3⟩; have HB3' := Lib.hid (bthen hb1 hb3); clear d0 d1 d2 e0 e1 e2 f0 f1 f2 g0 g1 g2; obtain ⟨d0, d1, d2⟩ := (H0.out.below HB3'.out (by rw [HZ.out]; omega)).cells; obtain ⟨e0, e1, e2⟩ := (H1.out.below HB3'.out (by rw [HZ.out]; omega)).cells; obtain ⟨g0, g1, g2⟩ := (H2.out.below HB3'.out (by rw [HZ.out]; omega)).cells; obtain ⟨f0, f1, f2⟩ := (H2.out.below HB3'.out (by rw [HZ.out]; omega)).free; simp only [zV] at g0 g1 g2))
      exact bodyPost_ret (v := .tuple #[.agg #[.int .i64 0, .int .i64 0, .string ⟨#[]⟩], .int .i64 1]) (by simp [results, Try.results19, go_sem, g0, g1, g2]) rfl ⟨ret_vx (u := zV) HE.out.2 HE.out.1, Below.set3 (HB.out.trans (HB3'.out.mono (by rw [HZ.out]; omega))) (by omega) _ _ _⟩
    · simp only [if_true] at HC
      rcases kinds a b with ⟨k1 | ⟨k1, k2⟩, hk⟩ | ⟨k1, k2, k3, hk1, hk2, hk3⟩ | ⟨k1, k2, k3, hk1, hk2, hk3⟩
      · have HE := Lib.hid (HB2.out (by simp) hk)
        clear hk
        go_enter Try.func19, Try.ntmps19
        go_wp2_with (first | (go_at_call 37; refine HM.out.mono ?_; rintro e w1 ⟨rfl, hb1⟩; obtain ⟨d0, d1, d2⟩ := (H0.out.below hb1 (by rw [HZ.out]; omega)).cells; obtain ⟨e0, e1, e2⟩ := (H1.out.below hb1 (by rw [HZ.out]; omega)).cells; obtain ⟨g0, g1, g2⟩ := (H2.out.below hb1 (by rw [HZ.out]; omega)).cells; obtain ⟨f0, f1, f2⟩ := (H2.out.below hb1 (by rw [HZ.out]; omega)).free; simp only [zV] at g0 g1 g2) | (go_at_call 36; refine (HR.out _).mono ?_; rintro e w2 ⟨rfl, rfl⟩) | (go_at_call 38; refine (HC.out _).mono ?_; rintro e w3 ⟨rfl, hb3⟩; have HB3' := Lib.hid (bthen hb1 hb3); clear d0 d1 d2 e0 e1 e2 f0 f1 f2 g0 g1 g2; obtain ⟨d0, d1, d2⟩ := (H0.out.below HB3'.out (by rw [HZ.out]; omega)).cells; obtain ⟨e0, e1, e2⟩ := (H1.out.below HB3'.out (by rw [HZ.out]; omega)).cells; obtain ⟨g0, g1, g2⟩ := (H2.out.below HB3'.out (by rw [HZ.out]; omega)).cells; obtain ⟨f0, f1, f2⟩ := (H2.out.below HB3'.out (by rw [HZ.out]; omega)).free; simp only [zV] at g0 g1 g2))
        exact bodyPost_ret (v := .tuple #[.agg #[.int .i64 0, .int .i64 0, .string ⟨#[]⟩], .int .i64 0]) (by simp [results, Try.results19, go_sem, g0, g1, g2]) rfl ⟨ret_vx (u := zV) HE.out.2 HE.out.1, Below.set3 (HB.out.trans (HB3'.out.mono (by rw [HZ.out]; omega))) (by omega) _ _ _⟩
      · have HE := Lib.hid (HB2.out (by simp) hk)
        clear hk
        go_enter Try.func19, Try.ntmps19
        go_wp2_with (first | (go_at_call 37; refine HM.out.mono ?_; rintro e w1 ⟨rfl, hb1⟩; obtain ⟨d0, d1, d2⟩ := (H0.out.below hb1 (by rw [HZ.out]; omega)).cells; obtain ⟨e0, e1, e2⟩ := (H1.out.below hb1 (by rw [HZ.out]; omega)).cells; obtain ⟨g0, g1, g2⟩ := (H2.out.below hb1 (by rw [HZ.out]; omega)).cells; obtain ⟨f0, f1, f2⟩ := (H2.out.below hb1 (by rw [HZ.out]; omega)).free; simp only [zV] at g0 g1 g2) | (go_at_call 36; refine (HR.out _).mono ?_; rintro e w2 ⟨rfl, rfl⟩) | (go_at_call 38; refine (HC.out _).mono ?_; rintro e w3 ⟨rfl, hb3⟩; have HB3' := Lib.hid (bthen hb1 hb3); clear d0 d1 d2 e0 e1 e2 f0 f1 f2 g0 g1 g2; obtain ⟨d0, d1, d2⟩ := (H0.out.below HB3'.out (by rw [HZ.out]; omega)).cells; obtain ⟨e0, e1, e2⟩ := (H1.out.below HB3'.out (by rw [HZ.out]; omega)).cells; obtain ⟨g0, g1, g2⟩ := (H2.out.below HB3'.out (by rw [HZ.out]; omega)).cells; obtain ⟨f0, f1, f2⟩ := (H2.out.below HB3'.out (by rw [HZ.out]; omega)).free; simp only [zV] at g0 g1 g2))
        exact bodyPost_ret (v := .tuple #[.agg #[.int .i64 0, .int .i64 0, .string ⟨#[]⟩], .int .i64 0]) (by simp [results, Try.results19, go_sem, g0, g1, g2]) rfl ⟨ret_vx (u := zV) HE.out.2 HE.out.1, Below.set3 (HB.out.trans (HB3'.out.mono (by rw [HZ.out]; omega))) (by omega) _ _ _⟩
      · have HE := Lib.hid (HB1.out (by simp) hk1 hk2 hk3)
        clear hk1 hk2 hk3
        go_enter Try.func19, Try.ntmps19
        go_wp2_with (first | (go_at_call 37; refine HM.out.mono ?_; rintro e w1 ⟨rfl, hb1⟩; obtain ⟨d0, d1, d2⟩ := (H0.out.below hb1 (by rw [HZ.out]; omega)).cells; obtain ⟨e0, e1, e2⟩ := (H1.out.below hb1 (by rw [HZ.out]; omega)).cells; obtain ⟨g0, g1, g2⟩ := (H2.out.below hb1 (by rw [HZ.out]; omega)).cells; obtain ⟨f0, f1, f2⟩ := (H2.out.below hb1 (by rw [HZ.out]; omega)).free; simp only [zV] at g0 g1 g2) | (go_at_call 36; refine (HR.out _).mono ?_; rintro e w2 ⟨rfl, rfl⟩) | (go_at_call 38; refine (HC.out _).mono ?_; rintro e w3 ⟨rfl, hb3⟩; have HB3' := Lib.hid (bthen hb1 hb3); clear d0 d1 d2 e0 e1 e2 f0 f1 f2 g0 g1 g2; obtain ⟨d0, d1, d2⟩ := (H0.out.below HB3'.out (by rw [HZ.out]; omega)).cells; obtain ⟨e0, e1, e2⟩ := (H1.out.below HB3'.out (by rw [HZ.out]; omega)).cells; obtain ⟨g0, g1, g2⟩ := (H2.out.below HB3'.out (by rw [HZ.out]; omega)).cells; obtain ⟨f0, f1, f2⟩ := (H2.out.below HB3'.out (by rw [HZ.out]; omega)).free; simp only [zV] at g0 g1 g2))
        exact bodyPost_ret (v := .tuple #[.agg #[.int .i64 0, .int .i64 0, .string ⟨#[]⟩], .int .i64 20]) (by simp [results, Try.results19, go_sem, g0, g1, g2]) rfl ⟨ret_vx (u := zV) HE.out.2 HE.out.1, Below.set3 (HB.out.trans (HB3'.out.mono (by rw [HZ.out]; omega))) (by omega) _ _ _⟩
      · have HE := Lib.hid (HB3.out (by simp) hk1 hk2 hk3)
        clear hk1 hk2 hk3
        go_enter Try.func19, Try.ntmps19
        go_wp2_with (first | (go_at_call 37; refine HM.out.mono ?_; rintro e w1 ⟨rfl, hb1⟩; obtain ⟨d0, d1, d2⟩ := (H0.out.below hb1 (by rw [HZ.out]; omega)).cells; obtain ⟨e0, e1, e2⟩ := (H1.out.below hb1 (by rw [HZ.out]; omega)).cells; obtain ⟨g0, g1, g2⟩ := (H2.out.below hb1 (by rw [HZ.out]; omega)).cells; obtain ⟨f0, f1, f2⟩ := (H2.out.below hb1 (by rw [HZ.out]; omega)).free; simp only [zV] at g0 g1 g2) | (go_at_call 36; refine (HR.out _).mono ?_; rintro e w2 ⟨rfl, rfl⟩) | (go_at_call 38; refine (HC.out _).mono ?_; rintro e w3 ⟨rfl, hb3⟩; have HB3' := Lib.hid (bthen hb1 hb3); clear d0 d1 d2 e0 e1 e2 f0 f1 f2 g0 g1 g2; obtain ⟨d0, d1, d2⟩ := (H0.out.below HB3'.out (by rw [HZ.out]; omega)).cells; obtain ⟨e0, e1, e2⟩ := (H1.out.below HB3'.out (by rw [HZ.out]; omega)).cells; obtain ⟨g0, g1, g2⟩ := (H2.out.below HB3'.out (by rw [HZ.out]; omega)).cells; obtain ⟨f0, f1, f2⟩ := (H2.out.below HB3'.out (by rw [HZ.out]; omega)).free; simp only [zV] at g0 g1 g2) | (go_at_call 33; refine (HT.out _ _).mono ?_; rintro e w4 ⟨rfl, hb4⟩; have HB4 := Lib.hid (bthen HB3'.out hb4); clear d0 d1 d2 e0 e1 e2 f0 f1 f2 g0 g1 g2; obtain ⟨d0, d1, d2⟩ := (H0.out.below HB4.out (by rw [HZ.out]; omega)).cells; obtain ⟨e0, e1, e2⟩ := (H1.out.below HB4.out (by rw [HZ.out]; omega)).cells; obtain ⟨g0, g1, g2⟩ := (H2.out.below HB4.out (by rw [HZ.out]; omega)).cells; obtain ⟨f0, f1, f2⟩ := (H2.out.below HB4.out (by rw [HZ.out]; omega)).free; simp only [zV] at g0 g1 g2))
        exact bodyPost_ret (v := .tuple #[.agg #[.int .i64 1, .int .i64 (bi p), .string ⟨#[]⟩], .int .i64 0]) (by simp [results, Try.results19, go_sem, g0, g1, g2]) rfl ⟨ret_vx (u := tV p) HE.out.2 HE.out.1, Below.set3 (HB.out.trans (HB4.out.mono (by rw [HZ.out]; omega))) (by omega) _ _ _⟩
end Go.Proofs.Ytfccongmfoolpaa
