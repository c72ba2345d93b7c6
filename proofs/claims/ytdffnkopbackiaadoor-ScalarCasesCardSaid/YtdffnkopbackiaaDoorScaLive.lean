/- The law's own function live answers true. Condition: the library's one variable is there. -/
import Derived.Test.YtdffnkopbackiaaDoorScaLive0
namespace Go.Proofs.YtdffnkopbackiaaDoor
open Go.RowKit
set_option maxRecDepth 100000 in
set_option maxHeartbeats 8000000 in
theorem live_any (w : World) (hE : Env w) : Calls Tryd.prog 8 #[] w fun e w' => e = .returned (.bool true) ∧ Below w.heap.size w w' := by
  have HE := Lib.hid hE
  have H0 := Lib.hid (HV.nil w)
  have HI := Lib.hid int1_any
  have HT := Lib.hid text1_any
  clear hE
  go_enter Tryd.func8, Tryd.ntmps8
  go_wp2_with fail
  refine (HI.out _ _).mono ?_
  rintro e w1 ⟨rfl, b1⟩
  go_wp2_with fail
  refine (HI.out _ _).mono ?_
  rintro e w2 ⟨rfl, b2⟩
  go_wp2_with fail
  refine (live_arith _).mono ?_
  rintro e w3 ⟨rfl, b3⟩
  have P1 : Hid (HV w [(w3.heap.size, nV (-3))] (w3.alloc (.cells #[.int .i64 2, .int .i64 (-3), .string ⟨#[]⟩] 23))) := (((H0.out.call b1).call b2).call b3).push (nV (-3))
  clear b1 b2 b3
  go_wp2_with fail
  refine (HT.out _ _).mono ?_
  rintro e w4 ⟨rfl, b4⟩
  go_wp2_with fail
  refine (HI.out _ _).mono ?_
  rintro e w5 ⟨rfl, b5⟩
  go_wp2_with fail
  refine (HI.out _ _).mono ?_
  rintro e w6 ⟨rfl, b6⟩
  have P2 := Lib.hid (((P1.out.call b4).call b5).call b6)
  clear b4 b5 b6
  go_wp2_with fail
  refine (live_substr _ _ (args3 (a := sV ⟨#[97, 98, 99, 100]⟩) (b := nV 0) (c := nV 2) rfl)).mono ?_
  rintro e w7 ⟨rfl, b7⟩
  have P3 : Hid (HV w [(w7.heap.size, sV ⟨#[97]⟩), (w3.heap.size, nV (-3))] (w7.alloc (.cells #[.int .i64 3, .int .i64 0, .string ⟨#[97]⟩] 23))) := ((P2.out.alloc _).call b7).push (sV ⟨#[97]⟩)
  clear b7
  go_wp2_with fail
  refine (HT.out _ _).mono ?_
  rintro e w8 ⟨rfl, b8⟩
  go_wp2_with fail
  refine (HT.out _ _).mono ?_
  rintro e w9 ⟨rfl, b9⟩
  have P4 := Lib.hid ((P3.out.call b8).call b9)
  have E4 := Lib.hid (HE.out.later (P4.out.alloc (.cells #[.int .i64 3, .int .i64 0, .string ⟨#[97, 98, 99]⟩, .int .i64 3, .int .i64 0, .string ⟨#[99]⟩] 23)).below)
  clear b8 b9
  go_wp2_with fail
  refine (live_instr _ _ E4.out (args2 (a := sV ⟨#[97, 98, 99]⟩) (b := sV ⟨#[99]⟩) rfl)).mono ?_
  rintro e w10 ⟨rfl, b10⟩
  have P5 : Hid (HV w [(w10.heap.size, nV 3), (w7.heap.size, sV ⟨#[97]⟩), (w3.heap.size, nV (-3))] (w10.alloc (.cells #[.int .i64 2, .int .i64 3, .string ⟨#[]⟩] 23))) := ((P4.out.alloc _).call b10).push (nV 3)
  clear b10 E4
  go_wp2_with fail
  refine (HT.out _ _).mono ?_
  rintro e w11 ⟨rfl, b11⟩
  go_wp2_with fail
  refine (HT.out _ _).mono ?_
  rintro e w12 ⟨rfl, b12⟩
  go_wp2_with fail
  refine (live_join _).mono ?_
  rintro e w13 ⟨rfl, b13⟩
  have P6 : Hid (HV w [(w13.heap.size, sV ⟨#[97, 98]⟩), (w10.heap.size, nV 3), (w7.heap.size, sV ⟨#[97]⟩), (w3.heap.size, nV (-3))] (w13.alloc (.cells #[.int .i64 3, .int .i64 0, .string ⟨#[97, 98]⟩] 23))) := (((P5.out.call b11).call b12).call b13).push (sV ⟨#[97, 98]⟩)
  clear b11 b12 b13
  go_wp2_with fail
  refine (live_arity _).mono ?_
  rintro e w14 ⟨rfl, b14⟩
  have P7 := Lib.hid (P6.out.call b14)
  clear b14
  go_wp2_with fail
  have HNE : Nonempty (HVT w [(w13.heap.size, sV ⟨#[97, 98]⟩), (w10.heap.size, nV 3), (w7.heap.size, sV ⟨#[97]⟩), (w3.heap.size, nV (-3))]) := ⟨⟨_, P7.out.drew⟩⟩
  have f00 : ∀ x : HVT w [(w13.heap.size, sV ⟨#[97, 98]⟩), (w10.heap.size, nV 3), (w7.heap.size, sV ⟨#[97]⟩), (w3.heap.size, nV (-3))], x.1.cell? ⟨w13.heap.size, 0, none⟩ = some (.int .i64 3) := fun x => x.2.boxes.1.cells.1
  have f01 : ∀ x : HVT w [(w13.heap.size, sV ⟨#[97, 98]⟩), (w10.heap.size, nV 3), (w7.heap.size, sV ⟨#[97]⟩), (w3.heap.size, nV (-3))], x.1.cell? ⟨w13.heap.size, 1, none⟩ = some (.int .i64 0) := fun x => x.2.boxes.1.cells.2.1
  have f02 : ∀ x : HVT w [(w13.heap.size, sV ⟨#[97, 98]⟩), (w10.heap.size, nV 3), (w7.heap.size, sV ⟨#[97]⟩), (w3.heap.size, nV (-3))], x.1.cell? ⟨w13.heap.size, 2, none⟩ = some (.string ⟨#[97, 98]⟩) := fun x => x.2.boxes.1.cells.2.2
  have f10 : ∀ x : HVT w [(w13.heap.size, sV ⟨#[97, 98]⟩), (w10.heap.size, nV 3), (w7.heap.size, sV ⟨#[97]⟩), (w3.heap.size, nV (-3))], x.1.cell? ⟨w10.heap.size, 0, none⟩ = some (.int .i64 2) := fun x => x.2.boxes.2.1.cells.1
  have f11 : ∀ x : HVT w [(w13.heap.size, sV ⟨#[97, 98]⟩), (w10.heap.size, nV 3), (w7.heap.size, sV ⟨#[97]⟩), (w3.heap.size, nV (-3))], x.1.cell? ⟨w10.heap.size, 1, none⟩ = some (.int .i64 3) := fun x => x.2.boxes.2.1.cells.2.1
  have f12 : ∀ x : HVT w [(w13.heap.size, sV ⟨#[97, 98]⟩), (w10.heap.size, nV 3), (w7.heap.size, sV ⟨#[97]⟩), (w3.heap.size, nV (-3))], x.1.cell? ⟨w10.heap.size, 2, none⟩ = some (.string ⟨#[]⟩) := fun x => x.2.boxes.2.1.cells.2.2
  have f20 : ∀ x : HVT w [(w13.heap.size, sV ⟨#[97, 98]⟩), (w10.heap.size, nV 3), (w7.heap.size, sV ⟨#[97]⟩), (w3.heap.size, nV (-3))], x.1.cell? ⟨w7.heap.size, 0, none⟩ = some (.int .i64 3) := fun x => x.2.boxes.2.2.1.cells.1
  have f21 : ∀ x : HVT w [(w13.heap.size, sV ⟨#[97, 98]⟩), (w10.heap.size, nV 3), (w7.heap.size, sV ⟨#[97]⟩), (w3.heap.size, nV (-3))], x.1.cell? ⟨w7.heap.size, 1, none⟩ = some (.int .i64 0) := fun x => x.2.boxes.2.2.1.cells.2.1
  have f22 : ∀ x : HVT w [(w13.heap.size, sV ⟨#[97, 98]⟩), (w10.heap.size, nV 3), (w7.heap.size, sV ⟨#[97]⟩), (w3.heap.size, nV (-3))], x.1.cell? ⟨w7.heap.size, 2, none⟩ = some (.string ⟨#[97]⟩) := fun x => x.2.boxes.2.2.1.cells.2.2
  have f30 : ∀ x : HVT w [(w13.heap.size, sV ⟨#[97, 98]⟩), (w10.heap.size, nV 3), (w7.heap.size, sV ⟨#[97]⟩), (w3.heap.size, nV (-3))], x.1.cell? ⟨w3.heap.size, 0, none⟩ = some (.int .i64 2) := fun x => x.2.boxes.2.2.2.1.cells.1
  have f31 : ∀ x : HVT w [(w13.heap.size, sV ⟨#[97, 98]⟩), (w10.heap.size, nV 3), (w7.heap.size, sV ⟨#[97]⟩), (w3.heap.size, nV (-3))], x.1.cell? ⟨w3.heap.size, 1, none⟩ = some (.int .i64 (-3)) := fun x => x.2.boxes.2.2.2.1.cells.2.1
  have f32 : ∀ x : HVT w [(w13.heap.size, sV ⟨#[97, 98]⟩), (w10.heap.size, nV 3), (w7.heap.size, sV ⟨#[97]⟩), (w3.heap.size, nV (-3))], x.1.cell? ⟨w3.heap.size, 2, none⟩ = some (.string ⟨#[]⟩) := fun x => x.2.boxes.2.2.2.1.cells.2.2
  refine wp_region_class (fun w' => ∃ x : HVT w [(w13.heap.size, sV ⟨#[97, 98]⟩), (w10.heap.size, nV 3), (w7.heap.size, sV ⟨#[97]⟩), (w3.heap.size, nV (-3))], w' = x.1) (by kernel_rfl) (by kernel_rfl) ⟨⟨_, P7.out.drew⟩, rfl⟩ ?_
  repeat (go_big_quiet_step ((rename_i x; first | (go_at_call 16; refine (HI.out _ _).mono ?_; rintro e w2 ⟨rfl, hb⟩; exact ⟨rfl, ⟨_, x.2.call hb⟩, rfl⟩) | (go_at_call 17; refine (HT.out _ _).mono ?_; rintro e w2 ⟨rfl, hb⟩; exact ⟨rfl, ⟨_, x.2.call hb⟩, rfl⟩))))
  refine wpQuiet_nil ?_
  rintro _ ⟨x9, rfl⟩
  go_wp2_with fail
  go_ret
  exact ⟨rfl, x9.2.below⟩
end Go.Proofs.YtdffnkopbackiaaDoor
