/- Contracts of scalar's Call of NULLs alone, of coalesce of a NULL and a value, of nullif of a value and itself. Conditions: the value may be. -/
import Derived.Test.YtdffnkopbackiaaDoorScaCallD
namespace Go.Proofs.YtdffnkopbackiaaDoor
open Go.RowKit
theorem same_self (a : V) (w : World) : Calls Tryd.prog 55 #[.agg #[.int .i64 a.k, .int .i64 a.i, .string a.s], .agg #[.int .i64 a.k, .int .i64 a.i, .string a.s]] w fun e w' => e = .returned (.bool true) ∧ Below w.heap.size w w' := by
  go_enter Tryd.func55, Tryd.ntmps55
  go_wp2
  all_goals go_ret
  all_goals refine ⟨?_, ((Below.refl _ _).alloc (Nat.le_refl _) _).alloc (by simp) _⟩
  all_goals (go_light; simp [*])
theorem emp_iff {s : ByteArray} : emp s = true ↔ s = ⟨#[]⟩ := by
  unfold emp
  rw [Lib.toList_data]
  constructor
  · intro h
    cases s
    simp at h
    simp [h]
  · rintro rfl
    rfl
theorem null_iff {v : V} (h : v.chk = 0) (h0 : v.k = 0) : v = zV := by
  unfold V.chk chkI at h
  have hm : mayB v.k v.i v.s = true := by
    cases hq : mayB v.k v.i v.s
    · rw [hq] at h; simp at h
    · rfl
  unfold mayB at hm
  rw [h0] at hm
  simp at hm
  exact V.ext h0 hm.1 (emp_iff.1 hm.2)
set_option maxRecDepth 100000 in
set_option maxHeartbeats 2000000 in
theorem nullif_do (a : V) (H : Nat) (w : World) (h : Args w H [a, a]) : Calls Tryd.prog 45 #[.slice (some ⟨H, 0, none⟩) 2 2] w fun e w' => e = .returned (.tuple #[.agg #[.int .i64 0, .int .i64 0, .string ⟨#[]⟩], .int .i64 0]) ∧ Below w.heap.size w w' := by
  have hl := h.lt
  have HZ := Lib.hid (zero_box w)
  have HS := Lib.hid (fun w => same_self a w)
  have h1 := h.later ((Below.refl _ w).alloc (Nat.le_refl _) (.cells #[.int .i64 0, .int .i64 0, .string ⟨#[]⟩] 23))
  have HA := Lib.hid h1
  clear h h1
  go_enter Tryd.func45, Tryd.ntmps45
  go_wp2_with fail
  generalize w.alloc (.cells #[.int .i64 0, .int .i64 0, .string ⟨#[]⟩] 23) = W1 at *
  have c0 : W1.cell? ⟨H, 0, none⟩ = some (.int .i64 a.k) := HA.out.cell 0
  have c1 : W1.cell? ⟨H, 1, none⟩ = some (.int .i64 a.i) := HA.out.cell 1
  have c2 : W1.cell? ⟨H, 2, none⟩ = some (.string a.s) := HA.out.cell 2
  have c3 : W1.cell? ⟨H, 3, none⟩ = some (.int .i64 a.k) := HA.out.cell 3
  have c4 : W1.cell? ⟨H, 4, none⟩ = some (.int .i64 a.i) := HA.out.cell 4
  have c5 : W1.cell? ⟨H, 5, none⟩ = some (.string a.s) := HA.out.cell 5
  go_still_tail 6, (by kernel_rfl)
  change wpList _ _ _ _ _ W1.drew
  go_wp2_with fail
  refine (HS.out _).mono ?_
  rintro e w1 ⟨rfl, hb⟩
  have H1 := Lib.hid (HZ.out.drew.call hb)
  obtain ⟨g0, g1, g2⟩ := H1.out.box.cells
  obtain ⟨f0, f1, f2⟩ := H1.out.box.free
  simp only [zV] at g0 g1 g2
  clear c0 c1 c2 c3 c4 c5
  go_wp2_with fail
  exact bodyPost_ret (v := .tuple #[.agg #[.int .i64 0, .int .i64 0, .string ⟨#[]⟩], .int .i64 0]) (by simp [results, Tryd.results45, go_sem, g0, g1, g2]) rfl ⟨rfl, Below.set3 H1.out.below (Nat.le_refl _) _ _ _⟩
set_option maxRecDepth 100000 in
set_option maxHeartbeats 2000000 in
theorem coalesce_do (a : V) (H : Nat) (w : World) (h : Args w H [zV, a]) (hc : a.chk = 0) : Calls Tryd.prog 44 #[.slice (some ⟨H, 0, none⟩) 2 2] w fun e w' => e = .returned (.tuple #[.agg #[.int .i64 a.k, .int .i64 a.i, .string a.s], .int .i64 0]) ∧ Below w.heap.size w w' := by
  have hl := h.lt
  have HZ := Lib.hid (zero_box w)
  have h1 := h.later ((Below.refl _ w).alloc (Nat.le_refl _) (.cells #[.int .i64 0, .int .i64 0, .string ⟨#[]⟩] 23))
  have HA := Lib.hid h1
  have HC := Lib.hid (fun h0 => null_iff hc h0)
  have c0 : w.cell? ⟨H, 0, none⟩ = some (.int .i64 0) := h.cell 0
  clear h h1 hc
  go_enter Tryd.func44, Tryd.ntmps44
  go_wp2_with fail
  generalize w.alloc (.cells #[.int .i64 0, .int .i64 0, .string ⟨#[]⟩] 23) = W1 at *
  clear c0
  go_loopw [8] (fun i wr => (i = .int .i64 0 ∨ i = .int .i64 1 ∨ (i = .int .i64 2 ∧ a.k = 0)) ∧ Hid (HV w [(w.heap.size, zV)] wr) ∧ Hid (Args wr H [zV, a])) (fun i _ => (2 - intOf i).toNat)
  case atStart => exact ⟨Or.inl rfl, HZ.out, HA.out⟩
  case round =>
    obtain ⟨hi, HR, HG⟩ := hrel
    have c0 : wr.cell? ⟨H, 0, none⟩ = some (.int .i64 0) := HG.out.cell 0
    have c1 : wr.cell? ⟨H, 1, none⟩ = some (.int .i64 0) := HG.out.cell 1
    have c2 : wr.cell? ⟨H, 2, none⟩ = some (.string ⟨#[]⟩) := HG.out.cell 2
    have c3 : wr.cell? ⟨H, 3, none⟩ = some (.int .i64 a.k) := HG.out.cell 3
    have c4 : wr.cell? ⟨H, 4, none⟩ = some (.int .i64 a.i) := HG.out.cell 4
    have c5 : wr.cell? ⟨H, 5, none⟩ = some (.string a.s) := HG.out.cell 5
    rcases hi with rfl | rfl | ⟨rfl, hk⟩
    · go_wp2_with fail
      go_roundw
      case rel => exact ⟨Or.inr (Or.inl rfl), HR.out.alloc _, HG.out.later ((Below.refl _ wr).alloc (Nat.le_refl _) _)⟩
      case measure => simp [intOf]
    · by_cases hk : a.k = 0
      · have hk' : (a.k != 0) = false := by simpa using hk
        have HK := Lib.hid hk
        clear hk
        go_wp2_with fail
        go_roundw
        case rel => exact ⟨Or.inr (Or.inr ⟨rfl, HK.out⟩), HR.out.alloc _, HG.out.later ((Below.refl _ wr).alloc (Nat.le_refl _) _)⟩
        case measure => simp [intOf]
      · have hk' : (a.k != 0) = true := by simpa using hk
        clear hk
        have H1 := Lib.hid (HR.out.alloc (.cells #[.int .i64 a.k, .int .i64 a.i, .string a.s] 23))
        obtain ⟨g0, g1, g2⟩ := H1.out.box.cells
        obtain ⟨f0, f1, f2⟩ := H1.out.box.free
        simp only [zV] at g0 g1 g2
        go_wp2_with fail
        exact bodyPost_ret (v := .tuple #[.agg #[.int .i64 a.k, .int .i64 a.i, .string a.s], .int .i64 0]) (by simp [results, Tryd.results44, go_sem, g0, g1, g2]) rfl ⟨rfl, Below.set3 H1.out.below (Nat.le_refl _) _ _ _⟩
    · have ha := HC.out hk
      subst ha
      obtain ⟨g0, g1, g2⟩ := HR.out.box.cells
      obtain ⟨f0, f1, f2⟩ := HR.out.box.free
      simp only [zV] at g0 g1 g2
      clear hk
      go_wp2_with fail
      exact bodyPost_ret (v := .tuple #[.agg #[.int .i64 0, .int .i64 0, .string ⟨#[]⟩], .int .i64 0]) (by simp [results, Tryd.results44, go_sem, g0, g1, g2]) rfl ⟨rfl, Below.set3 HR.out.below (Nat.le_refl _) _ _ _⟩
set_option maxRecDepth 100000 in
set_option maxHeartbeats 4000000 in
theorem null_call1 (nm : ByteArray) (x : Fn) (hx : look nm = some x) (h1 : x.lo = 1) (h2 : x.hi = 1) (hk : ∀ j (h : j < 1), KindOk ([x.k0, x.k1, x.k2][j]'(by simp; omega))) (hneq : ∀ w, (binOp .neq 53 (.agg #[.int .u64 x.k0, .int .u64 x.k1, .int .u64 x.k2]) (.agg #[.int .u64 0, .int .u64 0, .int .u64 0])).run Tryd.prog w = .ok (.bool true) w) (H : Nat) (w : World) (hA : Args w H [zV]) :
    Calls Tryd.prog 18 #[.string nm, .slice (some ⟨H, 0, none⟩) 1 1] w fun e w' => e = .returned (.tuple #[.agg #[.int .i64 0, .int .i64 0, .string ⟨#[]⟩], .int .i64 0]) ∧ Below w.heap.size w w' := by
  have HZ := Lib.hid (zero_box w)
  have HF : Hid (∀ w, Calls Tryd.prog 28 #[.string nm] w fun e w' => e = .returned (.tuple #[.agg #[.string x.nm, .int .i64 x.lo, .int .i64 x.hi, .int .u64 x.k0, .int .u64 x.k1, .int .u64 x.k2, .func (.func x.f) #[] #[]], .bool true]) ∧ Below w.heap.size w w') := by
    intro w
    have h := find_any nm w
    rw [hx] at h
    exact h
  have HT : Hid (∀ w, Calls Tryd.prog 29 #[.agg #[.string x.nm, .int .i64 x.lo, .int .i64 x.hi, .int .u64 x.k0, .int .u64 x.k1, .int .u64 x.k2, .func (.func x.f) #[] #[]], .int .i64 1] w fun e w' => e = .returned (.bool true) ∧ Below w.heap.size w w') := by
    intro w
    have h := takes_any x 1 w
    rw [show takesB x.lo x.hi 1 = true by rw [h1, h2]; rfl] at h
    exact h
  have hok : allOk [zV] = true := by simp [allOk, V.chk, chkI, mayB, zV, emp_iff.2]
  have HW : Hid (∀ W, Below w.heap.size w W → Calls Tryd.prog 23 #[.slice (some ⟨H, 0, none⟩) 1 1] W fun e w' => e = .returned (.bool false) ∧ Below W.heap.size W w') := by
    intro W hW
    have h := wrong_any [zV] _ 1 W (hA.later hW).row (by simp)
    rw [hok] at h
    exact h
  have HS : Hid (∀ W, Below w.heap.size w W → Calls Tryd.prog 24 #[.agg #[.int .u64 x.k0, .int .u64 x.k1, .int .u64 x.k2], .slice (some ⟨H, 0, none⟩) 1 1] W fun e w' => e = .returned (.tuple #[.bool true, .int .i64 0]) ∧ Below W.heap.size W w') := by
    intro W hW
    have h := strict_any x.k0 x.k1 x.k2 [zV] _ 1 W (hA.later hW).row (by simp) (fun j hj => hk j hj) hok
    unfold stN stE at h
    rw [show okK [x.k0, x.k1, x.k2] [zV] = true by simp [okK, zV], show nulB [zV] = true by simp [nulB, zV]] at h
    exact h
  clear hA hok hk h1 h2
  go_enter Tryd.func18, Tryd.ntmps18
  go_wp2_with fail
  refine (HF.out _).mono ?_
  rintro e w1 ⟨rfl, b1⟩
  have P1 := Lib.hid ((HZ.out.call b1).alloc (.cells #[.string x.nm, .int .i64 x.lo, .int .i64 x.hi, .int .u64 x.k0, .int .u64 x.k1, .int .u64 x.k2, .func (.func x.f) #[] #[]] 58))
  have B1 := Lib.hid (FnBox.made w1 x)
  clear b1
  go_wp2_with fail
  refine (HT.out _).mono ?_
  rintro e w2 ⟨rfl, b2⟩
  have P2 := Lib.hid (P1.out.call b2)
  have B2 := Lib.hid (B1.out.later b2)
  clear b2
  go_wp2_with fail
  refine (HW.out _ P2.out.below).mono ?_
  rintro e w3 ⟨rfl, b3⟩
  have P3 := Lib.hid (P2.out.call b3)
  have B3 := Lib.hid (B2.out.later b3)
  clear b3
  obtain ⟨d0, d1, d2, d3, d4, d5, d6⟩ := B3.out.cells
  go_wp2_with fail
  refine (HS.out _ P3.out.below).mono ?_
  rintro e w4 ⟨rfl, b4⟩
  have P4 := Lib.hid (P3.out.call b4)
  clear b4 d0 d1 d2 d3 d4 d5 d6
  obtain ⟨g0, g1, g2⟩ := P4.out.box.cells
  obtain ⟨f0, f1, f2⟩ := P4.out.box.free
  simp only [zV] at g0 g1 g2
  go_wp2_with fail
  exact bodyPost_ret (v := .tuple #[.agg #[.int .i64 0, .int .i64 0, .string ⟨#[]⟩], .int .i64 0]) (by simp [results, Tryd.results18, go_sem, g0, g1, g2]) rfl ⟨rfl, Below.set3 P4.out.below (Nat.le_refl _) _ _ _⟩
set_option maxRecDepth 100000 in
set_option maxHeartbeats 4000000 in
theorem null_call2 (nm : ByteArray) (x : Fn) (hx : look nm = some x) (h1 : x.lo = 2) (h2 : x.hi = 2) (hk : ∀ j (h : j < 2), KindOk ([x.k0, x.k1, x.k2][j]'(by simp; omega))) (hneq : ∀ w, (binOp .neq 53 (.agg #[.int .u64 x.k0, .int .u64 x.k1, .int .u64 x.k2]) (.agg #[.int .u64 0, .int .u64 0, .int .u64 0])).run Tryd.prog w = .ok (.bool true) w) (H : Nat) (w : World) (hA : Args w H [zV, zV]) :
    Calls Tryd.prog 18 #[.string nm, .slice (some ⟨H, 0, none⟩) 2 2] w fun e w' => e = .returned (.tuple #[.agg #[.int .i64 0, .int .i64 0, .string ⟨#[]⟩], .int .i64 0]) ∧ Below w.heap.size w w' := by
  have HZ := Lib.hid (zero_box w)
  have HF : Hid (∀ w, Calls Tryd.prog 28 #[.string nm] w fun e w' => e = .returned (.tuple #[.agg #[.string x.nm, .int .i64 x.lo, .int .i64 x.hi, .int .u64 x.k0, .int .u64 x.k1, .int .u64 x.k2, .func (.func x.f) #[] #[]], .bool true]) ∧ Below w.heap.size w w') := by
    intro w
    have h := find_any nm w
    rw [hx] at h
    exact h
  have HT : Hid (∀ w, Calls Tryd.prog 29 #[.agg #[.string x.nm, .int .i64 x.lo, .int .i64 x.hi, .int .u64 x.k0, .int .u64 x.k1, .int .u64 x.k2, .func (.func x.f) #[] #[]], .int .i64 2] w fun e w' => e = .returned (.bool true) ∧ Below w.heap.size w w') := by
    intro w
    have h := takes_any x 2 w
    rw [show takesB x.lo x.hi 2 = true by rw [h1, h2]; rfl] at h
    exact h
  have hok : allOk [zV, zV] = true := by simp [allOk, V.chk, chkI, mayB, zV, emp_iff.2]
  have HW : Hid (∀ W, Below w.heap.size w W → Calls Tryd.prog 23 #[.slice (some ⟨H, 0, none⟩) 2 2] W fun e w' => e = .returned (.bool false) ∧ Below W.heap.size W w') := by
    intro W hW
    have h := wrong_any [zV, zV] _ 2 W (hA.later hW).row (by simp)
    rw [hok] at h
    exact h
  have HS : Hid (∀ W, Below w.heap.size w W → Calls Tryd.prog 24 #[.agg #[.int .u64 x.k0, .int .u64 x.k1, .int .u64 x.k2], .slice (some ⟨H, 0, none⟩) 2 2] W fun e w' => e = .returned (.tuple #[.bool true, .int .i64 0]) ∧ Below W.heap.size W w') := by
    intro W hW
    have h := strict_any x.k0 x.k1 x.k2 [zV, zV] _ 2 W (hA.later hW).row (by simp) (fun j hj => hk j hj) hok
    unfold stN stE at h
    rw [show okK [x.k0, x.k1, x.k2] [zV, zV] = true by simp [okK, zV], show nulB [zV, zV] = true by simp [nulB, zV]] at h
    exact h
  clear hA hok hk h1 h2
  go_enter Tryd.func18, Tryd.ntmps18
  go_wp2_with fail
  refine (HF.out _).mono ?_
  rintro e w1 ⟨rfl, b1⟩
  have P1 := Lib.hid ((HZ.out.call b1).alloc (.cells #[.string x.nm, .int .i64 x.lo, .int .i64 x.hi, .int .u64 x.k0, .int .u64 x.k1, .int .u64 x.k2, .func (.func x.f) #[] #[]] 58))
  have B1 := Lib.hid (FnBox.made w1 x)
  clear b1
  go_wp2_with fail
  refine (HT.out _).mono ?_
  rintro e w2 ⟨rfl, b2⟩
  have P2 := Lib.hid (P1.out.call b2)
  have B2 := Lib.hid (B1.out.later b2)
  clear b2
  go_wp2_with fail
  refine (HW.out _ P2.out.below).mono ?_
  rintro e w3 ⟨rfl, b3⟩
  have P3 := Lib.hid (P2.out.call b3)
  have B3 := Lib.hid (B2.out.later b3)
  clear b3
  obtain ⟨d0, d1, d2, d3, d4, d5, d6⟩ := B3.out.cells
  go_wp2_with fail
  refine (HS.out _ P3.out.below).mono ?_
  rintro e w4 ⟨rfl, b4⟩
  have P4 := Lib.hid (P3.out.call b4)
  clear b4 d0 d1 d2 d3 d4 d5 d6
  obtain ⟨g0, g1, g2⟩ := P4.out.box.cells
  obtain ⟨f0, f1, f2⟩ := P4.out.box.free
  simp only [zV] at g0 g1 g2
  go_wp2_with fail
  exact bodyPost_ret (v := .tuple #[.agg #[.int .i64 0, .int .i64 0, .string ⟨#[]⟩], .int .i64 0]) (by simp [results, Tryd.results18, go_sem, g0, g1, g2]) rfl ⟨rfl, Below.set3 P4.out.below (Nat.le_refl _) _ _ _⟩
set_option maxRecDepth 100000 in
set_option maxHeartbeats 4000000 in
theorem null_call3 (nm : ByteArray) (x : Fn) (hx : look nm = some x) (h1 : x.lo = 3) (h2 : x.hi = 3) (hk : ∀ j (h : j < 3), KindOk ([x.k0, x.k1, x.k2][j]'(by simp; omega))) (hneq : ∀ w, (binOp .neq 53 (.agg #[.int .u64 x.k0, .int .u64 x.k1, .int .u64 x.k2]) (.agg #[.int .u64 0, .int .u64 0, .int .u64 0])).run Tryd.prog w = .ok (.bool true) w) (H : Nat) (w : World) (hA : Args w H [zV, zV, zV]) :
    Calls Tryd.prog 18 #[.string nm, .slice (some ⟨H, 0, none⟩) 3 3] w fun e w' => e = .returned (.tuple #[.agg #[.int .i64 0, .int .i64 0, .string ⟨#[]⟩], .int .i64 0]) ∧ Below w.heap.size w w' := by
  have HZ := Lib.hid (zero_box w)
  have HF : Hid (∀ w, Calls Tryd.prog 28 #[.string nm] w fun e w' => e = .returned (.tuple #[.agg #[.string x.nm, .int .i64 x.lo, .int .i64 x.hi, .int .u64 x.k0, .int .u64 x.k1, .int .u64 x.k2, .func (.func x.f) #[] #[]], .bool true]) ∧ Below w.heap.size w w') := by
    intro w
    have h := find_any nm w
    rw [hx] at h
    exact h
  have HT : Hid (∀ w, Calls Tryd.prog 29 #[.agg #[.string x.nm, .int .i64 x.lo, .int .i64 x.hi, .int .u64 x.k0, .int .u64 x.k1, .int .u64 x.k2, .func (.func x.f) #[] #[]], .int .i64 3] w fun e w' => e = .returned (.bool true) ∧ Below w.heap.size w w') := by
    intro w
    have h := takes_any x 3 w
    rw [show takesB x.lo x.hi 3 = true by rw [h1, h2]; rfl] at h
    exact h
  have hok : allOk [zV, zV, zV] = true := by simp [allOk, V.chk, chkI, mayB, zV, emp_iff.2]
  have HW : Hid (∀ W, Below w.heap.size w W → Calls Tryd.prog 23 #[.slice (some ⟨H, 0, none⟩) 3 3] W fun e w' => e = .returned (.bool false) ∧ Below W.heap.size W w') := by
    intro W hW
    have h := wrong_any [zV, zV, zV] _ 3 W (hA.later hW).row (by simp)
    rw [hok] at h
    exact h
  have HS : Hid (∀ W, Below w.heap.size w W → Calls Tryd.prog 24 #[.agg #[.int .u64 x.k0, .int .u64 x.k1, .int .u64 x.k2], .slice (some ⟨H, 0, none⟩) 3 3] W fun e w' => e = .returned (.tuple #[.bool true, .int .i64 0]) ∧ Below W.heap.size W w') := by
    intro W hW
    have h := strict_any x.k0 x.k1 x.k2 [zV, zV, zV] _ 3 W (hA.later hW).row (by simp) (fun j hj => hk j hj) hok
    unfold stN stE at h
    rw [show okK [x.k0, x.k1, x.k2] [zV, zV, zV] = true by simp [okK, zV], show nulB [zV, zV, zV] = true by simp [nulB, zV]] at h
    exact h
  clear hA hok hk h1 h2
  go_enter Tryd.func18, Tryd.ntmps18
  go_wp2_with fail
  refine (HF.out _).mono ?_
  rintro e w1 ⟨rfl, b1⟩
  have P1 := Lib.hid ((HZ.out.call b1).alloc (.cells #[.string x.nm, .int .i64 x.lo, .int .i64 x.hi, .int .u64 x.k0, .int .u64 x.k1, .int .u64 x.k2, .func (.func x.f) #[] #[]] 58))
  have B1 := Lib.hid (FnBox.made w1 x)
  clear b1
  go_wp2_with fail
  refine (HT.out _).mono ?_
  rintro e w2 ⟨rfl, b2⟩
  have P2 := Lib.hid (P1.out.call b2)
  have B2 := Lib.hid (B1.out.later b2)
  clear b2
  go_wp2_with fail
  refine (HW.out _ P2.out.below).mono ?_
  rintro e w3 ⟨rfl, b3⟩
  have P3 := Lib.hid (P2.out.call b3)
  have B3 := Lib.hid (B2.out.later b3)
  clear b3
  obtain ⟨d0, d1, d2, d3, d4, d5, d6⟩ := B3.out.cells
  go_wp2_with fail
  refine (HS.out _ P3.out.below).mono ?_
  rintro e w4 ⟨rfl, b4⟩
  have P4 := Lib.hid (P3.out.call b4)
  clear b4 d0 d1 d2 d3 d4 d5 d6
  obtain ⟨g0, g1, g2⟩ := P4.out.box.cells
  obtain ⟨f0, f1, f2⟩ := P4.out.box.free
  simp only [zV] at g0 g1 g2
  go_wp2_with fail
  exact bodyPost_ret (v := .tuple #[.agg #[.int .i64 0, .int .i64 0, .string ⟨#[]⟩], .int .i64 0]) (by simp [results, Tryd.results18, go_sem, g0, g1, g2]) rfl ⟨rfl, Below.set3 P4.out.below (Nat.le_refl _) _ _ _⟩
end Go.Proofs.YtdffnkopbackiaaDoor
