/- Contract of scalar's Call, of the functions coalesce, nullif, of values that are as the function wants them. No condition. -/
import Derived.Test.YtbhcjaeomoibpaaGreatDoorQ03
namespace Go.Proofs.YtbhcjaeomoibpaaGreatDoor.BV
end Go.Proofs.YtbhcjaeomoibpaaGreatDoor.BV
namespace Go.Proofs.YtbhcjaeomoibpaaGreatDoor.SC
open Go.Proofs.YtbhcjaeomoibpaaGreatDoor.BV
open Go.RowKit
theorem look_coalesce : look ⟨#[99, 111, 97, 108, 101, 115, 99, 101]⟩ = some ⟨⟨#[99, 111, 97, 108, 101, 115, 99, 101]⟩, 1, (-1), 0, 0, 0, 147⟩ := by
  unfold look fns
  simp only [Lib.toList_data]
  rfl
set_option maxRecDepth 100000 in
set_option maxHeartbeats 4000000 in
theorem call_coalesce (a b r : V) (er : Int) (H : Nat) (w : World) (hA : Args w H [a, b]) (hok : allOk [a, b] = true)
    (hdo : ∀ W, Below w.heap.size w W → Calls Tryz.prog 147 #[.slice (some ⟨H, 0, none⟩) 2 2] W fun e w' => e = .returned (.tuple #[.agg #[.int .i64 r.k, .int .i64 r.i, .string r.s], .int .i64 er]) ∧ Below W.heap.size W w') :
    Calls Tryz.prog 53 #[.string ⟨#[99, 111, 97, 108, 101, 115, 99, 101]⟩, .slice (some ⟨H, 0, none⟩) 2 2] w fun e w' => e = .returned (.tuple #[.agg #[.int .i64 r.k, .int .i64 r.i, .string r.s], .int .i64 er]) ∧ Below w.heap.size w w' := by
  have HZ := Lib.hid (zero_box w)
  have HF : Hid (∀ w, Calls Tryz.prog 87 #[.string ⟨#[99, 111, 97, 108, 101, 115, 99, 101]⟩] w fun e w' => e = .returned (.tuple #[.agg #[.string ⟨#[99, 111, 97, 108, 101, 115, 99, 101]⟩, .int .i64 1, .int .i64 (-1), .int .u64 0, .int .u64 0, .int .u64 0, .func (.func 147) #[] #[]], .bool true]) ∧ Below w.heap.size w w') := by
    intro w
    have h := find_any ⟨#[99, 111, 97, 108, 101, 115, 99, 101]⟩ w
    rw [look_coalesce] at h
    exact h
  have HT : Hid (∀ w, Calls Tryz.prog 88 #[.agg #[.string ⟨#[99, 111, 97, 108, 101, 115, 99, 101]⟩, .int .i64 1, .int .i64 (-1), .int .u64 0, .int .u64 0, .int .u64 0, .func (.func 147) #[] #[]], .int .i64 2] w fun e w' => e = .returned (.bool true) ∧ Below w.heap.size w w') := fun w => takes_any ⟨⟨#[99, 111, 97, 108, 101, 115, 99, 101]⟩, 1, (-1), 0, 0, 0, 147⟩ 2 w
  have HW : Hid (∀ W, Below w.heap.size w W → Calls Tryz.prog 85 #[.slice (some ⟨H, 0, none⟩) 2 2] W fun e w' => e = .returned (.bool false) ∧ Below W.heap.size W w') := by
    intro W hW
    have h := wrong_any [a, b] _ 2 W (hA.later hW).row (by simp)
    rw [hok] at h
    exact h
  have HDO := Lib.hid hdo
  clear hA hok hdo
  have hneq : ∀ w, (binOp .neq 94 (.agg #[.int .u64 0, .int .u64 0, .int .u64 0]) (.agg #[.int .u64 0, .int .u64 0, .int .u64 0])).run Tryz.prog w = .ok (.bool false) w := fun _ => by kernel_rfl
  go_enter Tryz.func53, Tryz.ntmps53
  go_wp2_with fail
  refine (HF.out _).mono ?_
  rintro e w1 ⟨rfl, b1⟩
  have P1 := Lib.hid ((HZ.out.call b1).alloc (.cells #[.string ⟨#[99, 111, 97, 108, 101, 115, 99, 101]⟩, .int .i64 1, .int .i64 (-1), .int .u64 0, .int .u64 0, .int .u64 0, .func (.func 147) #[] #[]] 97))
  have B1 := Lib.hid (FnBox.made w1 ⟨⟨#[99, 111, 97, 108, 101, 115, 99, 101]⟩, 1, (-1), 0, 0, 0, 147⟩)
  clear b1
  go_wp2_with fail
  refine (HT.out _).mono ?_
  rintro e w2 ⟨rfl, b2⟩
  have P2 := Lib.hid (P1.out.call b2)
  have B2 := Lib.hid (B1.out.later b2)
  clear b2
  go_wp2_with fail
  refine (HW.out _ P2.out.below).mono ?_
  rintro e w3 ⟨rfl, b3⟩
  have P3 := Lib.hid (P2.out.call b3)
  have B3 := Lib.hid (B2.out.later b3)
  clear b3
  obtain ⟨d0, d1, d2, d3, d4, d5, d6⟩ := B3.out.cells
  go_wp2_with fail
  refine (HDO.out _ P3.out.below).mono ?_
  rintro e w5 ⟨rfl, b5⟩
  have P5 := Lib.hid (P3.out.call b5)
  clear d0 d1 d2 d3 d4 d5 d6
  obtain ⟨g0, g1, g2⟩ := P5.out.box.cells
  obtain ⟨f0, f1, f2⟩ := P5.out.box.free
  simp only [zV] at g0 g1 g2
  go_wp2_with fail
  exact bodyPost_ret (v := .tuple #[.agg #[.int .i64 r.k, .int .i64 r.i, .string r.s], .int .i64 er]) (by simp [results, Tryz.results53, go_sem, g0, g1, g2]) rfl ⟨rfl, Below.set3 P5.out.below (Nat.le_refl _) _ _ _⟩
end Go.Proofs.YtbhcjaeomoibpaaGreatDoor.SC
