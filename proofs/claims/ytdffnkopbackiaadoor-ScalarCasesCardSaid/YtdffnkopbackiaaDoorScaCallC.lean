/- Contract of scalar's Call, of the functions trim, replace, of values that are as the function wants them. No condition. -/
import Derived.Test.YtdffnkopbackiaaDoorScaCall0
namespace Go.Proofs.YtdffnkopbackiaaDoor
open Go.RowKit
theorem look_trim : look ⟨#[116, 114, 105, 109]⟩ = some ⟨⟨#[116, 114, 105, 109]⟩, 1, 1, 8, 0, 0, 51⟩ := by
  unfold look fns
  simp only [Lib.toList_data]
  rfl
set_option maxRecDepth 100000 in
set_option maxHeartbeats 4000000 in
theorem call_trim (a r : V) (er : Int) (H : Nat) (w : World) (hA : Args w H [a]) (hok : allOk [a] = true) (hk : okK [8, 0, 0] [a] = true) (hn : nulB [a] = false)
    (hdo : ∀ W, Below w.heap.size w W → Calls Tryd.prog 51 #[.slice (some ⟨H, 0, none⟩) 1 1] W fun e w' => e = .returned (.tuple #[.agg #[.int .i64 r.k, .int .i64 r.i, .string r.s], .int .i64 er]) ∧ Below W.heap.size W w') :
    Calls Tryd.prog 18 #[.string ⟨#[116, 114, 105, 109]⟩, .slice (some ⟨H, 0, none⟩) 1 1] w fun e w' => e = .returned (.tuple #[.agg #[.int .i64 r.k, .int .i64 r.i, .string r.s], .int .i64 er]) ∧ Below w.heap.size w w' := by
  have HZ := Lib.hid (zero_box w)
  have HF : Hid (∀ w, Calls Tryd.prog 28 #[.string ⟨#[116, 114, 105, 109]⟩] w fun e w' => e = .returned (.tuple #[.agg #[.string ⟨#[116, 114, 105, 109]⟩, .int .i64 1, .int .i64 1, .int .u64 8, .int .u64 0, .int .u64 0, .func (.func 51) #[] #[]], .bool true]) ∧ Below w.heap.size w w') := by
    intro w
    have h := find_any ⟨#[116, 114, 105, 109]⟩ w
    rw [look_trim] at h
    exact h
  have HT : Hid (∀ w, Calls Tryd.prog 29 #[.agg #[.string ⟨#[116, 114, 105, 109]⟩, .int .i64 1, .int .i64 1, .int .u64 8, .int .u64 0, .int .u64 0, .func (.func 51) #[] #[]], .int .i64 1] w fun e w' => e = .returned (.bool true) ∧ Below w.heap.size w w') := fun w => takes_any ⟨⟨#[116, 114, 105, 109]⟩, 1, 1, 8, 0, 0, 51⟩ 1 w
  have HW : Hid (∀ W, Below w.heap.size w W → Calls Tryd.prog 23 #[.slice (some ⟨H, 0, none⟩) 1 1] W fun e w' => e = .returned (.bool false) ∧ Below W.heap.size W w') := by
    intro W hW
    have h := wrong_any [a] _ 1 W (hA.later hW).row (by simp)
    rw [hok] at h
    exact h
  have HS : Hid (∀ W, Below w.heap.size w W → Calls Tryd.prog 24 #[.agg #[.int .u64 8, .int .u64 0, .int .u64 0], .slice (some ⟨H, 0, none⟩) 1 1] W fun e w' => e = .returned (.tuple #[.bool false, .int .i64 0]) ∧ Below W.heap.size W w') := by
    intro W hW
    have h := strict_any 8 0 0 [a] _ 1 W (hA.later hW).row (by simp) (fun j hj => by
      match j, hj with
      | 0, _ => exact Or.inr (Or.inl rfl)) hok
    unfold stN stE at h
    rw [hk, hn] at h
    exact h
  have HDO := Lib.hid hdo
  clear hA hok hk hn hdo
  have hneq : ∀ w, (binOp .neq 53 (.agg #[.int .u64 8, .int .u64 0, .int .u64 0]) (.agg #[.int .u64 0, .int .u64 0, .int .u64 0])).run Tryd.prog w = .ok (.bool true) w := fun _ => by kernel_rfl
  go_enter Tryd.func18, Tryd.ntmps18
  go_wp2_with fail
  refine (HF.out _).mono ?_
  rintro e w1 ⟨rfl, b1⟩
  have P1 := Lib.hid ((HZ.out.call b1).alloc (.cells #[.string ⟨#[116, 114, 105, 109]⟩, .int .i64 1, .int .i64 1, .int .u64 8, .int .u64 0, .int .u64 0, .func (.func 51) #[] #[]] 58))
  have B1 := Lib.hid (FnBox.made w1 ⟨⟨#[116, 114, 105, 109]⟩, 1, 1, 8, 0, 0, 51⟩)
  clear b1
  go_wp2_with fail
  refine (HT.out _).mono ?_
  rintro e w2 ⟨rfl, b2⟩
  have P2 := Lib.hid (P1.out.call b2)
  have B2 := Lib.hid (B1.out.later b2)
  clear b2
  go_wp2_with fail
  refine (HW.out _ P2.out.below).mono ?_
  rintro e w3 ⟨rfl, b3⟩
  have P3 := Lib.hid (P2.out.call b3)
  have B3 := Lib.hid (B2.out.later b3)
  clear b3
  obtain ⟨d0, d1, d2, d3, d4, d5, d6⟩ := B3.out.cells
  go_wp2_with fail
  refine (HS.out _ P3.out.below).mono ?_
  rintro e w4 ⟨rfl, b4⟩
  have P4 := Lib.hid (P3.out.call b4)
  have B4 := Lib.hid (B3.out.later b4)
  clear b4 d0 d1 d2 d3 d4 d5 d6
  obtain ⟨d0, d1, d2, d3, d4, d5, d6⟩ := B4.out.cells
  go_wp2_with fail
  refine (HDO.out _ P4.out.below).mono ?_
  rintro e w5 ⟨rfl, b5⟩
  have P5 := Lib.hid (P4.out.call b5)
  clear d0 d1 d2 d3 d4 d5 d6
  obtain ⟨g0, g1, g2⟩ := P5.out.box.cells
  obtain ⟨f0, f1, f2⟩ := P5.out.box.free
  simp only [zV] at g0 g1 g2
  go_wp2_with fail
  exact bodyPost_ret (v := .tuple #[.agg #[.int .i64 r.k, .int .i64 r.i, .string r.s], .int .i64 er]) (by simp [results, Tryd.results18, go_sem, g0, g1, g2]) rfl ⟨rfl, Below.set3 P5.out.below (Nat.le_refl _) _ _ _⟩
theorem look_replace : look ⟨#[114, 101, 112, 108, 97, 99, 101]⟩ = some ⟨⟨#[114, 101, 112, 108, 97, 99, 101]⟩, 3, 3, 8, 8, 8, 54⟩ := by
  unfold look fns
  simp only [Lib.toList_data]
  rfl
set_option maxRecDepth 100000 in
set_option maxHeartbeats 4000000 in
theorem call_replace (a b c r : V) (er : Int) (H : Nat) (w : World) (hA : Args w H [a, b, c]) (hok : allOk [a, b, c] = true) (hk : okK [8, 8, 8] [a, b, c] = true) (hn : nulB [a, b, c] = false)
    (hdo : ∀ W, Below w.heap.size w W → Calls Tryd.prog 54 #[.slice (some ⟨H, 0, none⟩) 3 3] W fun e w' => e = .returned (.tuple #[.agg #[.int .i64 r.k, .int .i64 r.i, .string r.s], .int .i64 er]) ∧ Below W.heap.size W w') :
    Calls Tryd.prog 18 #[.string ⟨#[114, 101, 112, 108, 97, 99, 101]⟩, .slice (some ⟨H, 0, none⟩) 3 3] w fun e w' => e = .returned (.tuple #[.agg #[.int .i64 r.k, .int .i64 r.i, .string r.s], .int .i64 er]) ∧ Below w.heap.size w w' := by
  have HZ := Lib.hid (zero_box w)
  have HF : Hid (∀ w, Calls Tryd.prog 28 #[.string ⟨#[114, 101, 112, 108, 97, 99, 101]⟩] w fun e w' => e = .returned (.tuple #[.agg #[.string ⟨#[114, 101, 112, 108, 97, 99, 101]⟩, .int .i64 3, .int .i64 3, .int .u64 8, .int .u64 8, .int .u64 8, .func (.func 54) #[] #[]], .bool true]) ∧ Below w.heap.size w w') := by
    intro w
    have h := find_any ⟨#[114, 101, 112, 108, 97, 99, 101]⟩ w
    rw [look_replace] at h
    exact h
  have HT : Hid (∀ w, Calls Tryd.prog 29 #[.agg #[.string ⟨#[114, 101, 112, 108, 97, 99, 101]⟩, .int .i64 3, .int .i64 3, .int .u64 8, .int .u64 8, .int .u64 8, .func (.func 54) #[] #[]], .int .i64 3] w fun e w' => e = .returned (.bool true) ∧ Below w.heap.size w w') := fun w => takes_any ⟨⟨#[114, 101, 112, 108, 97, 99, 101]⟩, 3, 3, 8, 8, 8, 54⟩ 3 w
  have HW : Hid (∀ W, Below w.heap.size w W → Calls Tryd.prog 23 #[.slice (some ⟨H, 0, none⟩) 3 3] W fun e w' => e = .returned (.bool false) ∧ Below W.heap.size W w') := by
    intro W hW
    have h := wrong_any [a, b, c] _ 3 W (hA.later hW).row (by simp)
    rw [hok] at h
    exact h
  have HS : Hid (∀ W, Below w.heap.size w W → Calls Tryd.prog 24 #[.agg #[.int .u64 8, .int .u64 8, .int .u64 8], .slice (some ⟨H, 0, none⟩) 3 3] W fun e w' => e = .returned (.tuple #[.bool false, .int .i64 0]) ∧ Below W.heap.size W w') := by
    intro W hW
    have h := strict_any 8 8 8 [a, b, c] _ 3 W (hA.later hW).row (by simp) (fun j hj => by
      match j, hj with
      | 0, _ => exact Or.inr (Or.inl rfl)
      | 1, _ => exact Or.inr (Or.inl rfl)
      | 2, _ => exact Or.inr (Or.inl rfl)) hok
    unfold stN stE at h
    rw [hk, hn] at h
    exact h
  have HDO := Lib.hid hdo
  clear hA hok hk hn hdo
  have hneq : ∀ w, (binOp .neq 53 (.agg #[.int .u64 8, .int .u64 8, .int .u64 8]) (.agg #[.int .u64 0, .int .u64 0, .int .u64 0])).run Tryd.prog w = .ok (.bool true) w := fun _ => by kernel_rfl
  go_enter Tryd.func18, Tryd.ntmps18
  go_wp2_with fail
  refine (HF.out _).mono ?_
  rintro e w1 ⟨rfl, b1⟩
  have P1 := Lib.hid ((HZ.out.call b1).alloc (.cells #[.string ⟨#[114, 101, 112, 108, 97, 99, 101]⟩, .int .i64 3, .int .i64 3, .int .u64 8, .int .u64 8, .int .u64 8, .func (.func 54) #[] #[]] 58))
  have B1 := Lib.hid (FnBox.made w1 ⟨⟨#[114, 101, 112, 108, 97, 99, 101]⟩, 3, 3, 8, 8, 8, 54⟩)
  clear b1
  go_wp2_with fail
  refine (HT.out _).mono ?_
  rintro e w2 ⟨rfl, b2⟩
  have P2 := Lib.hid (P1.out.call b2)
  have B2 := Lib.hid (B1.out.later b2)
  clear b2
  go_wp2_with fail
  refine (HW.out _ P2.out.below).mono ?_
  rintro e w3 ⟨rfl, b3⟩
  have P3 := Lib.hid (P2.out.call b3)
  have B3 := Lib.hid (B2.out.later b3)
  clear b3
  obtain ⟨d0, d1, d2, d3, d4, d5, d6⟩ := B3.out.cells
  go_wp2_with fail
  refine (HS.out _ P3.out.below).mono ?_
  rintro e w4 ⟨rfl, b4⟩
  have P4 := Lib.hid (P3.out.call b4)
  have B4 := Lib.hid (B3.out.later b4)
  clear b4 d0 d1 d2 d3 d4 d5 d6
  obtain ⟨d0, d1, d2, d3, d4, d5, d6⟩ := B4.out.cells
  go_wp2_with fail
  refine (HDO.out _ P4.out.below).mono ?_
  rintro e w5 ⟨rfl, b5⟩
  have P5 := Lib.hid (P4.out.call b5)
  clear d0 d1 d2 d3 d4 d5 d6
  obtain ⟨g0, g1, g2⟩ := P5.out.box.cells
  obtain ⟨f0, f1, f2⟩ := P5.out.box.free
  simp only [zV] at g0 g1 g2
  go_wp2_with fail
  exact bodyPost_ret (v := .tuple #[.agg #[.int .i64 r.k, .int .i64 r.i, .string r.s], .int .i64 er]) (by simp [results, Tryd.results18, go_sem, g0, g1, g2]) rfl ⟨rfl, Below.set3 P5.out.below (Nat.le_refl _) _ _ _⟩
end Go.Proofs.YtdffnkopbackiaaDoor
