/- Contracts of And, Or, Not of logic and of the reference, whatever values lie in memory. Condition: no list is longer than the greatest int. -/
import Derived.Test.YtfccongmfoolpaaLogRef
import Derived.Test.YtfccongmfoolpaaFlat
namespace Go.Proofs.Ytfccongmfoolpaa
open Go.RowKit
theorem Below.set3 {B : Nat} {a w : World} (h : Below B a w) {b : Nat} (hb : B ≤ b) (x y z : Value) : Below B a (((w.setCell ⟨b, 0, none⟩ x).setCell ⟨b, 1, none⟩ y).setCell ⟨b, 2, none⟩ z) := ((h.setCell hb _).setCell hb _).setCell hb _
/-- A row that lies alone in a block. -/
theorem RowAt.of_heap {w : World} {b : Nat} {cs : Array Value} {T : TypeId} {fr : Nat × Nat} {xs : List V} (h : w.heap[b]? = some (.cells cs T fr)) (hcs : cs = (Go.Proofs.Ytfccongmfoolpaa.flat xs).toArray) : RowAt w w.heap.size (some ⟨b, 0, none⟩) xs :=
  RowAt.of_flat (fun j u hu => by
    rw [WideShapes.add_plain, Nat.zero_add, Lib.cell_of_heap h, hcs]
    simpa using hu) (Array.getElem?_eq_some_iff.1 h).1
theorem and_any (xs : List V) (A : Option Addr) (c : Nat) (w : World) (hr : RowAt w w.heap.size A xs) (hm : xs.length ≤ 9223372036854775807) :
    Calls Try.prog 11 #[.slice A xs.length c] w fun e w' => e = .returned (.tuple #[.agg #[.int .i64 (decV false xs).k, .int .i64 (decV false xs).i, .string (decV false xs).s], .int .i64 (ctL xs)]) ∧ Below w.heap.size w w' := by
  have b0 := (Below.refl w.heap.size w).alloc (Nat.le_refl _) (.cells #[.int .i64 0, .int .i64 0, .string ⟨#[]⟩] 24)
  have hcall := decide_any false xs A c _ (hr.later b0) hm
  have HV := Lib.hid (VBox.made w zV)
  generalize decV false xs = r at *
  generalize ctL xs = q at *
  generalize xs.length = n at *
  clear hr
  go_enter Try.func11, Try.ntmps11
  go_wp2_with (go_at_call 30; refine hcall.mono ?_; rintro e w1 ⟨rfl, hb1⟩; obtain ⟨e0, e1, e2⟩ := (HV.out.below hb1 (by simp)).cells; obtain ⟨f0, f1, f2⟩ := (HV.out.below hb1 (by simp)).free; simp only [zV] at e0 e1 e2)
  exact bodyPost_ret (v := .tuple #[.agg #[.int .i64 r.k, .int .i64 r.i, .string r.s], .int .i64 q]) (by simp [results, Try.results11, go_sem, e0, e1, e2]) rfl ⟨rfl, Below.set3 (b0.trans (hb1.mono (by simp))) (Nat.le_refl _) _ _ _⟩
theorem or_any (xs : List V) (A : Option Addr) (c : Nat) (w : World) (hr : RowAt w w.heap.size A xs) (hm : xs.length ≤ 9223372036854775807) :
    Calls Try.prog 13 #[.slice A xs.length c] w fun e w' => e = .returned (.tuple #[.agg #[.int .i64 (decV true xs).k, .int .i64 (decV true xs).i, .string (decV true xs).s], .int .i64 (ctL xs)]) ∧ Below w.heap.size w w' := by
  have b0 := (Below.refl w.heap.size w).alloc (Nat.le_refl _) (.cells #[.int .i64 0, .int .i64 0, .string ⟨#[]⟩] 24)
  have hcall := decide_any true xs A c _ (hr.later b0) hm
  have HV := Lib.hid (VBox.made w zV)
  generalize decV true xs = r at *
  generalize ctL xs = q at *
  generalize xs.length = n at *
  clear hr
  go_enter Try.func13, Try.ntmps13
  go_wp2_with (go_at_call 30; refine hcall.mono ?_; rintro e w1 ⟨rfl, hb1⟩; obtain ⟨e0, e1, e2⟩ := (HV.out.below hb1 (by simp)).cells; obtain ⟨f0, f1, f2⟩ := (HV.out.below hb1 (by simp)).free; simp only [zV] at e0 e1 e2)
  exact bodyPost_ret (v := .tuple #[.agg #[.int .i64 r.k, .int .i64 r.i, .string r.s], .int .i64 q]) (by simp [results, Try.results13, go_sem, e0, e1, e2]) rfl ⟨rfl, Below.set3 (b0.trans (hb1.mono (by simp))) (Nat.le_refl _) _ _ _⟩
theorem rand_eq {xs : List V} : (ctL xs = 0 → (trN xs && !trB false xs) = true → decV false xs = zV) ∧ (ctL xs = 0 → (trN xs && !trB false xs) = false → decV false xs = tV (!trB false xs)) := by
  unfold trN trB decV
  constructor
  · intro h h'
    rw [h] at h' ⊢
    simp at h'
    simp [h']
  · intro h h'
    rw [h] at h' ⊢
    simp at h' ⊢
    cases h1 : anyB false xs <;> cases h2 : anyN xs <;> simp_all
theorem ror_eq {xs : List V} : (ctL xs = 0 → (trN xs && !trB true xs) = true → decV true xs = zV) ∧ (ctL xs = 0 → (trN xs && !trB true xs) = false → decV true xs = tV (trB true xs)) := by
  unfold trN trB decV
  constructor
  · intro h h'
    rw [h] at h' ⊢
    simp at h'
    simp [h']
  · intro h h'
    rw [h] at h' ⊢
    simp at h' ⊢
    cases h1 : anyB true xs <;> cases h2 : anyN xs <;> simp_all
theorem ret_vx {r u : V} {x y : Int} (h : r = u) (h' : x = y) : Ending.returned (.tuple #[.agg #[.int .i64 u.k, .int .i64 u.i, .string u.s], .int .i64 y]) = .returned (.tuple #[.agg #[.int .i64 r.k, .int .i64 r.i, .string r.s], .int .i64 x]) := by rw [h, h']
set_option maxHeartbeats 1000000 in
theorem rand_any (xs : List V) (A : Option Addr) (c : Nat) (w : World) (hr : RowAt w w.heap.size A xs) (hm : xs.length ≤ 9223372036854775807) :
    Calls Try.prog 12 #[.slice A xs.length c] w fun e w' => e = .returned (.tuple #[.agg #[.int .i64 (decV false xs).k, .int .i64 (decV false xs).i, .string (decV false xs).s], .int .i64 (ctL xs)]) ∧ Below w.heap.size w w' := by
  have b0 := (Below.refl w.heap.size w).alloc (Nat.le_refl _) (.cells #[.int .i64 0, .int .i64 0, .string ⟨#[]⟩] 24)
  have hcall := truths_any xs A c _ (hr.later b0) hm
  have HV := Lib.hid (VBox.made w zV)
  have HT := Lib.hid (fun b => bool1_any b)
  have H1 := Lib.hid (fun (h : ¬ ctL xs = 0) => ctL_z h false)
  have H2 := Lib.hid (@rand_eq xs)
  generalize decV false xs = r at *
  generalize trN xs = x at *
  generalize trB false xs = y at *
  generalize trB true xs = z at *
  generalize ctL xs = q at *
  generalize xs.length = n at *
  clear hr
  by_cases hq : q = 0
  · subst hq
    cases x <;> cases y
    all_goals
      go_enter Try.func12, Try.ntmps12
      go_wp2_with (first | (go_at_call 31; refine hcall.mono ?_; rintro e w1 ⟨rfl, hb1⟩; obtain ⟨e0, e1, e2⟩ := (HV.out.below hb1 (by simp)).cells; obtain ⟨f0, f1, f2⟩ := (HV.out.below hb1 (by simp)).free; simp only [zV] at e0 e1 e2) | (go_at_call 26; refine (HT.out _ _).mono ?_; rintro e w2 ⟨rfl, hb2⟩; obtain ⟨g0, g1, g2⟩ := ((HV.out.below hb1 (by simp)).below hb2 (by have := hb1.size; simp at this; omega)).cells; obtain ⟨i0, i1, i2⟩ := ((HV.out.below hb1 (by simp)).below hb2 (by have := hb1.size; simp at this; omega)).free; simp only [zV] at g0 g1 g2))
    · exact bodyPost_ret (v := .tuple #[.agg #[.int .i64 1, .int .i64 (bi true), .string ⟨#[]⟩], .int .i64 0]) (by simp [results, Try.results12, go_sem, g0, g1, g2]) rfl ⟨ret_vx (u := tV true) (H2.out.2 (by simp) (by simp)) rfl, Below.set3 ((b0.trans (hb1.mono (by simp))).trans (hb2.mono (by have := hb1.size; simp at this; omega))) (Nat.le_refl _) _ _ _⟩
    · exact bodyPost_ret (v := .tuple #[.agg #[.int .i64 1, .int .i64 (bi false), .string ⟨#[]⟩], .int .i64 0]) (by simp [results, Try.results12, go_sem, g0, g1, g2]) rfl ⟨ret_vx (u := tV false) (H2.out.2 (by simp) (by simp)) rfl, Below.set3 ((b0.trans (hb1.mono (by simp))).trans (hb2.mono (by have := hb1.size; simp at this; omega))) (Nat.le_refl _) _ _ _⟩
    · exact bodyPost_ret (v := .tuple #[.agg #[.int .i64 0, .int .i64 0, .string ⟨#[]⟩], .int .i64 0]) (by simp [results, Try.results12, go_sem, e0, e1, e2]) rfl ⟨ret_vx (u := zV) (H2.out.1 (by simp) (by simp)) rfl, Below.set3 (b0.trans (hb1.mono (by simp))) (Nat.le_refl _) _ _ _⟩
    · exact bodyPost_ret (v := .tuple #[.agg #[.int .i64 1, .int .i64 (bi false), .string ⟨#[]⟩], .int .i64 0]) (by simp [results, Try.results12, go_sem, g0, g1, g2]) rfl ⟨ret_vx (u := tV false) (H2.out.2 (by simp) (by simp)) rfl, Below.set3 ((b0.trans (hb1.mono (by simp))).trans (hb2.mono (by have := hb1.size; simp at this; omega))) (Nat.le_refl _) _ _ _⟩
  · have h1 : (q != 0) = true := by simpa using hq
    have HZ := Lib.hid (H1.out hq)
    clear hq
    go_enter Try.func12, Try.ntmps12
    go_wp2_with (go_at_call 31; refine hcall.mono ?_; rintro e w1 ⟨rfl, hb1⟩; obtain ⟨e0, e1, e2⟩ := (HV.out.below hb1 (by simp)).cells; obtain ⟨f0, f1, f2⟩ := (HV.out.below hb1 (by simp)).free; simp only [zV] at e0 e1 e2)
    exact bodyPost_ret (v := .tuple #[.agg #[.int .i64 0, .int .i64 0, .string ⟨#[]⟩], .int .i64 q]) (by simp [results, Try.results12, go_sem, e0, e1, e2]) rfl ⟨ret_vx (u := zV) HZ.out rfl, Below.set3 (b0.trans (hb1.mono (by simp))) (Nat.le_refl _) _ _ _⟩
set_option maxHeartbeats 1000000 in
theorem ror_any (xs : List V) (A : Option Addr) (c : Nat) (w : World) (hr : RowAt w w.heap.size A xs) (hm : xs.length ≤ 9223372036854775807) :
    Calls Try.prog 14 #[.slice A xs.length c] w fun e w' => e = .returned (.tuple #[.agg #[.int .i64 (decV true xs).k, .int .i64 (decV true xs).i, .string (decV true xs).s], .int .i64 (ctL xs)]) ∧ Below w.heap.size w w' := by
  have b0 := (Below.refl w.heap.size w).alloc (Nat.le_refl _) (.cells #[.int .i64 0, .int .i64 0, .string ⟨#[]⟩] 24)
  have hcall := truths_any xs A c _ (hr.later b0) hm
  have HV := Lib.hid (VBox.made w zV)
  have HT := Lib.hid (fun b => bool1_any b)
  have H1 := Lib.hid (fun (h : ¬ ctL xs = 0) => ctL_z h true)
  have H2 := Lib.hid (@ror_eq xs)
  generalize decV true xs = r at *
  generalize trN xs = x at *
  generalize trB true xs = y at *
  generalize trB false xs = z at *
  generalize ctL xs = q at *
  generalize xs.length = n at *
  clear hr
  by_cases hq : q = 0
  · subst hq
    cases x <;> cases y
    all_goals
      go_enter Try.func14, Try.ntmps14
      go_wp2_with (first | (go_at_call 31; refine hcall.mono ?_; rintro e w1 ⟨rfl, hb1⟩; obtain ⟨e0, e1, e2⟩ := (HV.out.below hb1 (by simp)).cells; obtain ⟨f0, f1, f2⟩ := (HV.out.below hb1 (by simp)).free; simp only [zV] at e0 e1 e2) | (go_at_call 26; refine (HT.out _ _).mono ?_; rintro e w2 ⟨rfl, hb2⟩; obtain ⟨g0, g1, g2⟩ := ((HV.out.below hb1 (by simp)).below hb2 (by have := hb1.size; simp at this; omega)).cells; obtain ⟨i0, i1, i2⟩ := ((HV.out.below hb1 (by simp)).below hb2 (by have := hb1.size; simp at this; omega)).free; simp only [zV] at g0 g1 g2))
    · exact bodyPost_ret (v := .tuple #[.agg #[.int .i64 1, .int .i64 (bi false), .string ⟨#[]⟩], .int .i64 0]) (by simp [results, Try.results14, go_sem, g0, g1, g2]) rfl ⟨ret_vx (u := tV false) (H2.out.2 (by simp) (by simp)) rfl, Below.set3 ((b0.trans (hb1.mono (by simp))).trans (hb2.mono (by have := hb1.size; simp at this; omega))) (Nat.le_refl _) _ _ _⟩
    · exact bodyPost_ret (v := .tuple #[.agg #[.int .i64 1, .int .i64 (bi true), .string ⟨#[]⟩], .int .i64 0]) (by simp [results, Try.results14, go_sem, g0, g1, g2]) rfl ⟨ret_vx (u := tV true) (H2.out.2 (by simp) (by simp)) rfl, Below.set3 ((b0.trans (hb1.mono (by simp))).trans (hb2.mono (by have := hb1.size; simp at this; omega))) (Nat.le_refl _) _ _ _⟩
    · exact bodyPost_ret (v := .tuple #[.agg #[.int .i64 0, .int .i64 0, .string ⟨#[]⟩], .int .i64 0]) (by simp [results, Try.results14, go_sem, e0, e1, e2]) rfl ⟨ret_vx (u := zV) (H2.out.1 (by simp) (by simp)) rfl, Below.set3 (b0.trans (hb1.mono (by simp))) (Nat.le_refl _) _ _ _⟩
    · exact bodyPost_ret (v := .tuple #[.agg #[.int .i64 1, .int .i64 (bi true), .string ⟨#[]⟩], .int .i64 0]) (by simp [results, Try.results14, go_sem, g0, g1, g2]) rfl ⟨ret_vx (u := tV true) (H2.out.2 (by simp) (by simp)) rfl, Below.set3 ((b0.trans (hb1.mono (by simp))).trans (hb2.mono (by have := hb1.size; simp at this; omega))) (Nat.le_refl _) _ _ _⟩
  · have h1 : (q != 0) = true := by simpa using hq
    have HZ := Lib.hid (H1.out hq)
    clear hq
    go_enter Try.func14, Try.ntmps14
    go_wp2_with (go_at_call 31; refine hcall.mono ?_; rintro e w1 ⟨rfl, hb1⟩; obtain ⟨e0, e1, e2⟩ := (HV.out.below hb1 (by simp)).cells; obtain ⟨f0, f1, f2⟩ := (HV.out.below hb1 (by simp)).free; simp only [zV] at e0 e1 e2)
    exact bodyPost_ret (v := .tuple #[.agg #[.int .i64 0, .int .i64 0, .string ⟨#[]⟩], .int .i64 q]) (by simp [results, Try.results14, go_sem, e0, e1, e2]) rfl ⟨ret_vx (u := zV) HZ.out rfl, Below.set3 (b0.trans (hb1.mono (by simp))) (Nat.le_refl _) _ _ _⟩
end Go.Proofs.Ytfccongmfoolpaa
