/- Contract of scalar's Call, of the functions substr, instr, of values that are as the function wants them. No condition. -/
import Derived.Test.YtdffnkopbackiaaDoorScaCall0
namespace Go.Proofs.YtdffnkopbackiaaDoor
open Go.RowKit
theorem look_substr : look ⟨#[115, 117, 98, 115, 116, 114]⟩ = some ⟨⟨#[115, 117, 98, 115, 116, 114]⟩, 3, 3, 24, 4, 4, 52⟩ := by
  unfold look fns
  simp only [Lib.toList_data]
  rfl
set_option maxRecDepth 100000 in
set_option maxHeartbeats 4000000 in
theorem call_substr (a b c r : V) (er : Int) (H : Nat) (w : World) (hA : Args w H [a, b, c]) (hok : allOk [a, b, c] = true) (hk : okK [24, 4, 4] [a, b, c] = true) (hn : nulB [a, b, c] = false)
    (hdo : ∀ W, Below w.heap.size w W → Calls Tryd.prog 52 #[.slice (some ⟨H, 0, none⟩) 3 3] W fun e w' => e = .returned (.tuple #[.agg #[.int .i64 r.k, .int .i64 r.i, .string r.s], .int .i64 er]) ∧ Below W.heap.size W w') :
    Calls Tryd.prog 18 #[.string ⟨#[115, 117, 98, 115, 116, 114]⟩, .slice (some ⟨H, 0, none⟩) 3 3] w fun e w' => e = .returned (.tuple #[.agg #[.int .i64 r.k, .int .i64 r.i, .string r.s], .int .i64 er]) ∧ Below w.heap.size w w' := by
  have HZ := Lib.hid (zero_box w)
  have HF : Hid (∀ w, Calls Tryd.prog 28 #[.string ⟨#[115, 117, 98, 115, 116, 114]⟩] w fun e w' => e = .returned (.tuple #[.agg #[.string ⟨#[115, 117, 98, 115, 116, 114]⟩, .int .i64 3, .int .i64 3, .int .u64 24, .int .u64 4, .int .u64 4, .func (.func 52) #[] #[]], .bool true]) ∧ Below w.heap.size w w') := by
    intro w
    have h := find_any ⟨#[115, 117, 98, 115, 116, 114]⟩ w
    rw [look_substr] at h
    exact h
  have HT : Hid (∀ w, Calls Tryd.prog 29 #[.agg #[.string ⟨#[115, 117, 98, 115, 116, 114]⟩, .int .i64 3, .int .i64 3, .int .u64 24, .int .u64 4, .int .u64 4, .func (.func 52) #[] #[]], .int .i64 3] w fun e w' => e = .returned (.bool true) ∧ Below w.heap.size w w') := fun w => takes_any ⟨⟨#[115, 117, 98, 115, 116, 114]⟩, 3, 3, 24, 4, 4, 52⟩ 3 w
  have HW : Hid (∀ W, Below w.heap.size w W → Calls Tryd.prog 23 #[.slice (some ⟨H, 0, none⟩) 3 3] W fun e w' => e = .returned (.bool false) ∧ Below W.heap.size W w') := by
    intro W hW
    have h := wrong_any [a, b, c] _ 3 W (hA.later hW).row (by simp)
    rw [hok] at h
    exact h
  have HS : Hid (∀ W, Below w.heap.size w W → Calls Tryd.prog 24 #[.agg #[.int .u64 24, .int .u64 4, .int .u64 4], .slice (some ⟨H, 0, none⟩) 3 3] W fun e w' => e = .returned (.tuple #[.bool false, .int .i64 0]) ∧ Below W.heap.size W w') := by
    intro W hW
    have h := strict_any 24 4 4 [a, b, c] _ 3 W (hA.later hW).row (by simp) (fun j hj => by
      match j, hj with
      | 0, _ => exact Or.inr (Or.inr rfl)
      | 1, _ => exact Or.inl rfl
      | 2, _ => exact Or.inl rfl) hok
    unfold stN stE at h
    rw [hk, hn] at h
    exact h
  have HDO := Lib.hid hdo
  clear hA hok hk hn hdo
  have hneq : ∀ w, (binOp .neq 53 (.agg #[.int .u64 24, .int .u64 4, .int .u64 4]) (.agg #[.int .u64 0, .int .u64 0, .int .u64 0])).run Tryd.prog w = .ok (.bool true) w := fun _ => by kernel_rfl
  go_enter Tryd.func18, Tryd.ntmps18
  go_wp2_with fail
  refine (HF.out _).mono ?_
  rintro e w1 ⟨rfl, b1⟩
  have P1 := Lib.hid ((HZ.out.call b1).alloc (.cells #[.string ⟨#[115, 117, 98, 115, 116, 114]⟩, .int .i64 3, .int .i64 3, .int .u64 24, .int .u64 4, .int .u64 4, .func (.func 52) #[] #[]] 58))
  have B1 := Lib.hid (FnBox.made w1 ⟨⟨#[115, 117, 98, 115, 116, 114]⟩, 3, 3, 24, 4, 4, 52⟩)
  clear b1
  go_wp2_with fail
  refine (HT.out _).mono ?_
  rintro e w2 ⟨rfl, b2⟩
  have P2 := Lib.hid (P1.out.call b2)
  have B2 := Lib.hid (B1.out.later b2)
  clear b2
  go_wp2_with fail
  refine (HW.out _ P2.out.below).mono ?_
  rintro e w3 ⟨rfl, b3⟩
  have P3 := Lib.hid (P2.out.call b3)
  have B3 := Lib.hid (B2.out.later b3)
  clear b3
  obtain ⟨d0, d1, d2, d3, d4, d5, d6⟩ := B3.out.cells
  go_wp2_with fail
  refine (HS.out _ P3.out.below).mono ?_
  rintro e w4 ⟨rfl, b4⟩
  have P4 := Lib.hid (P3.out.call b4)
  have B4 := Lib.hid (B3.out.later b4)
  clear b4 d0 d1 d2 d3 d4 d5 d6
  obtain ⟨d0, d1, d2, d3, d4, d5, d6⟩ := B4.out.cells
  go_wp2_with fail
  refine (HDO.out _ P4.out.below).mono ?_
  rintro e w5 ⟨rfl, b5⟩
  have P5 := Lib.hid (P4.out.call b5)
  clear d0 d1 d2 d3 d4 d5 d6
  obtain ⟨g0, g1, g2⟩ := P5.out.box.cells
  obtain ⟨f0, f1, f2⟩ := P5.out.box.free
  simp only [zV] at g0 g1 g2
  go_wp2_with fail
  exact bodyPost_ret (v := .tuple #[.agg #[.int .i64 r.k, .int .i64 r.i, .string r.s], .int .i64 er]) (by simp [results, Tryd.results18, go_sem, g0, g1, g2]) rfl ⟨rfl, Below.set3 P5.out.below (Nat.le_refl _) _ _ _⟩
theorem look_instr : look ⟨#[105, 110, 115, 116, 114]⟩ = some ⟨⟨#[105, 110, 115, 116, 114]⟩, 2, 2, 8, 8, 0, 53⟩ := by
  unfold look fns
  simp only [Lib.toList_data]
  rfl
set_option maxRecDepth 100000 in
set_option maxHeartbeats 4000000 in
theorem call_instr (a b r : V) (er : Int) (H : Nat) (w : World) (hA : Args w H [a, b]) (hok : allOk [a, b] = true) (hk : okK [8, 8, 0] [a, b] = true) (hn : nulB [a, b] = false)
    (hdo : ∀ W, Below w.heap.size w W → Calls Tryd.prog 53 #[.slice (some ⟨H, 0, none⟩) 2 2] W fun e w' => e = .returned (.tuple #[.agg #[.int .i64 r.k, .int .i64 r.i, .string r.s], .int .i64 er]) ∧ Below W.heap.size W w') :
    Calls Tryd.prog 18 #[.string ⟨#[105, 110, 115, 116, 114]⟩, .slice (some ⟨H, 0, none⟩) 2 2] w fun e w' => e = .returned (.tuple #[.agg #[.int .i64 r.k, .int .i64 r.i, .string r.s], .int .i64 er]) ∧ Below w.heap.size w w' := by
  have HZ := Lib.hid (zero_box w)
  have HF : Hid (∀ w, Calls Tryd.prog 28 #[.string ⟨#[105, 110, 115, 116, 114]⟩] w fun e w' => e = .returned (.tuple #[.agg #[.string ⟨#[105, 110, 115, 116, 114]⟩, .int .i64 2, .int .i64 2, .int .u64 8, .int .u64 8, .int .u64 0, .func (.func 53) #[] #[]], .bool true]) ∧ Below w.heap.size w w') := by
    intro w
    have h := find_any ⟨#[105, 110, 115, 116, 114]⟩ w
    rw [look_instr] at h
    exact h
  have HT : Hid (∀ w, Calls Tryd.prog 29 #[.agg #[.string ⟨#[105, 110, 115, 116, 114]⟩, .int .i64 2, .int .i64 2, .int .u64 8, .int .u64 8, .int .u64 0, .func (.func 53) #[] #[]], .int .i64 2] w fun e w' => e = .returned (.bool true) ∧ Below w.heap.size w w') := fun w => takes_any ⟨⟨#[105, 110, 115, 116, 114]⟩, 2, 2, 8, 8, 0, 53⟩ 2 w
  have HW : Hid (∀ W, Below w.heap.size w W → Calls Tryd.prog 23 #[.slice (some ⟨H, 0, none⟩) 2 2] W fun e w' => e = .returned (.bool false) ∧ Below W.heap.size W w') := by
    intro W hW
    have h := wrong_any [a, b] _ 2 W (hA.later hW).row (by simp)
    rw [hok] at h
    exact h
  have HS : Hid (∀ W, Below w.heap.size w W → Calls Tryd.prog 24 #[.agg #[.int .u64 8, .int .u64 8, .int .u64 0], .slice (some ⟨H, 0, none⟩) 2 2] W fun e w' => e = .returned (.tuple #[.bool false, .int .i64 0]) ∧ Below W.heap.size W w') := by
    intro W hW
    have h := strict_any 8 8 0 [a, b] _ 2 W (hA.later hW).row (by simp) (fun j hj => by
      match j, hj with
      | 0, _ => exact Or.inr (Or.inl rfl)
      | 1, _ => exact Or.inr (Or.inl rfl)) hok
    unfold stN stE at h
    rw [hk, hn] at h
    exact h
  have HDO := Lib.hid hdo
  clear hA hok hk hn hdo
  have hneq : ∀ w, (binOp .neq 53 (.agg #[.int .u64 8, .int .u64 8, .int .u64 0]) (.agg #[.int .u64 0, .int .u64 0, .int .u64 0])).run Tryd.prog w = .ok (.bool true) w := fun _ => by kernel_rfl
  go_enter Tryd.func18, Tryd.ntmps18
  go_wp2_with fail
  refine (HF.out _).mono ?_
  rintro e w1 ⟨rfl, b1⟩
  have P1 := Lib.hid ((HZ.out.call b1).alloc (.cells #[.string ⟨#[105, 110, 115, 116, 114]⟩, .int .i64 2, .int .i64 2, .int .u64 8, .int .u64 8, .int .u64 0, .func (.func 53) #[] #[]] 58))
  have B1 := Lib.hid (FnBox.made w1 ⟨⟨#[105, 110, 115, 116, 114]⟩, 2, 2, 8, 8, 0, 53⟩)
  clear b1
  go_wp2_with fail
  refine (HT.out _).mono ?_
  rintro e w2 ⟨rfl, b2⟩
  have P2 := Lib.hid (P1.out.call b2)
  have B2 := Lib.hid (B1.out.later b2)
  clear b2
  go_wp2_with fail
  refine (HW.out _ P2.out.below).mono ?_
  rintro e w3 ⟨rfl, b3⟩
  have P3 := Lib.hid (P2.out.call b3)
  have B3 := Lib.hid (B2.out.later b3)
  clear b3
  obtain ⟨d0, d1, d2, d3, d4, d5, d6⟩ := B3.out.cells
  go_wp2_with fail
  refine (HS.out _ P3.out.below).mono ?_
  rintro e w4 ⟨rfl, b4⟩
  have P4 := Lib.hid (P3.out.call b4)
  have B4 := Lib.hid (B3.out.later b4)
  clear b4 d0 d1 d2 d3 d4 d5 d6
  obtain ⟨d0, d1, d2, d3, d4, d5, d6⟩ := B4.out.cells
  go_wp2_with fail
  refine (HDO.out _ P4.out.below).mono ?_
  rintro e w5 ⟨rfl, b5⟩
  have P5 := Lib.hid (P4.out.call b5)
  clear d0 d1 d2 d3 d4 d5 d6
  obtain ⟨g0, g1, g2⟩ := P5.out.box.cells
  obtain ⟨f0, f1, f2⟩ := P5.out.box.free
  simp only [zV] at g0 g1 g2
  go_wp2_with fail
  exact bodyPost_ret (v := .tuple #[.agg #[.int .i64 r.k, .int .i64 r.i, .string r.s], .int .i64 er]) (by simp [results, Tryd.results18, go_sem, g0, g1, g2]) rfl ⟨rfl, Below.set3 P5.out.below (Nat.le_refl _) _ _ _⟩
end Go.Proofs.YtdffnkopbackiaaDoor
