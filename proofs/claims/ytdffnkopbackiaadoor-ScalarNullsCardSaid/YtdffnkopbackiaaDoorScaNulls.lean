/- The walk of the law ScalarNulls: it answers true, whatever value and name. Conditions: the text is shorter than 2 to the 47, the library's one variable is there. -/
import Derived.Test.YtdffnkopbackiaaDoorScaClass
import Derived.Test.YtdffnkopbackiaaDoorScaLive
namespace Go.Proofs.YtdffnkopbackiaaDoor
open Go.RowKit
theorem make1 (w : World) : (Instr.makeSlice 41 (.int .i64 1) (.int .i64 1)).run Tryd.prog w = .ok (.slice (some ⟨w.heap.size, 0, none⟩) 1 1) (w.alloc (.cells #[.int .i64 0, .int .i64 0, .string ⟨#[]⟩] 23)) := by kernel_rfl
theorem make2 (w : World) : (Instr.makeSlice 41 (.int .i64 2) (.int .i64 2)).run Tryd.prog w = .ok (.slice (some ⟨w.heap.size, 0, none⟩) 2 2) (w.alloc (.cells #[.int .i64 0, .int .i64 0, .string ⟨#[]⟩, .int .i64 0, .int .i64 0, .string ⟨#[]⟩] 23)) := by kernel_rfl
theorem make3 (w : World) : (Instr.makeSlice 41 (.int .i64 3) (.int .i64 3)).run Tryd.prog w = .ok (.slice (some ⟨w.heap.size, 0, none⟩) 3 3) (w.alloc (.cells #[.int .i64 0, .int .i64 0, .string ⟨#[]⟩, .int .i64 0, .int .i64 0, .string ⟨#[]⟩, .int .i64 0, .int .i64 0, .string ⟨#[]⟩] 23)) := by kernel_rfl
theorem coal_any (v : V) (hc : v.chk = 0) (W : World) (H : Nat) (h : Args W H [zV, v]) : Calls Tryd.prog 18 #[.string ⟨#[99, 111, 97, 108, 101, 115, 99, 101]⟩, .slice (some ⟨H, 0, none⟩) 2 2] W fun e w' => e = .returned (.tuple #[.agg #[.int .i64 v.k, .int .i64 v.i, .string v.s], .int .i64 0]) ∧ Below W.heap.size W w' :=
  call_coalesce zV v v 0 H W h (by simp [allOk, chk_z, hc]) (fun W' hW => coalesce_do v H W' (h.later hW) hc)
theorem nulf_any (v : V) (hc : v.chk = 0) (W : World) (H : Nat) (h : Args W H [v, v]) : Calls Tryd.prog 18 #[.string ⟨#[110, 117, 108, 108, 105, 102]⟩, .slice (some ⟨H, 0, none⟩) 2 2] W fun e w' => e = .returned (.tuple #[.agg #[.int .i64 0, .int .i64 0, .string ⟨#[]⟩], .int .i64 0]) ∧ Below W.heap.size W w' :=
  call_nullif v v zV 0 H W h (by simp [allOk, hc]) (fun W' hW => nullif_do v H W' (h.later hW))
theorem row1_made (w : World) (a : V) : RowAt (w.alloc (.cells #[.int .i64 a.k, .int .i64 a.i, .string a.s] 23)) (w.alloc (.cells #[.int .i64 a.k, .int .i64 a.i, .string a.s] 23)).heap.size (some ⟨w.heap.size, 0, none⟩) [a] := (args1 (w := w) (a := a) rfl).row
set_option maxRecDepth 100000 in
set_option maxHeartbeats 8000000 in
theorem nulls_core (v : V) (nm : ByteArray) (w : World) (hE : Env w) (hs : v.s.size ≤ 140737488355328) : Calls Tryd.prog 6 #[.agg #[.int .i64 v.k, .int .i64 v.i, .string v.s], .string nm] w fun e w' => e = .returned (.bool true) ∧ Below w.heap.size w w' := by
  have HB0 := Lib.hid ((HV.nil w).push v)
  have HE := Lib.hid (hE.later HB0.out.below)
  have HBIG := Lib.hid (fun W => big_any ⟨some ⟨World.heap W |>.size, 0, none⟩, 1, [v]⟩ (W.alloc (.cells #[.int .i64 v.k, .int .i64 v.i, .string v.s] 23)) (row1_made W v) ⟨by simp, by intro u hu; simp at hu; subst hu; exact hs⟩)
  have hbd : ∀ A, bigS ⟨A, 1, [v]⟩ = bigS ⟨none, 1, [v]⟩ := fun _ => rfl
  simp only [hbd] at HBIG
  unfold R.val at HBIG
  simp only [List.length_cons, List.length_nil, Nat.zero_add] at HBIG
  have HCK := Lib.hid (fun W => rcheck_any v.k v.i v.s W)
  have HAR := Lib.hid (fun W => arity_any nm W)
  have HCO := Lib.hid (fun (hc : v.chk = 0) W H h => coal_any v hc W H h)
  have HNU := Lib.hid (fun (hc : v.chk = 0) W H h => nulf_any v hc W H h)
  have hck : v.chk = chkI v.k v.i v.s := rfl
  rw [hck] at HCO HNU
  clear hck hbd hE hs
  cases hbg : bigS ⟨none, 1, [v]⟩
  · rw [hbg] at HBIG
    clear hbg
    generalize chkI v.k v.i v.s = c at *
    by_cases hc : c = 0
    · subst hc
      have HC1 := Lib.hid (HCO.out rfl)
      have HN1 := Lib.hid (HNU.out rfl)
      clear HCO HNU
      rcases look_class nm with hl | rfl | rfl | ⟨x, hl, n1, n2, hw, hq⟩
      · rw [hl] at HAR
        clear hl
        have HAR : Hid (∀ W, Calls Tryd.prog 20 #[.string nm] W fun e w' => e = .returned (.tuple #[.int .i64 0, .int .i64 0, .bool false]) ∧ Below W.heap.size W w') := HAR.out
        go_enter Tryd.func6, Tryd.ntmps6
        go_wp2_with fail
        refine (live_any _ HE.out).mono ?_
        rintro e w1 ⟨rfl, b1⟩
        have P1 := Lib.hid (HB0.out.call b1)
        clear b1
        obtain ⟨v0, v1, v2⟩ := P1.out.box.cells
        go_wp2_with fail
        refine (HBIG.out _).mono ?_
        rintro e w2 ⟨rfl, b2⟩
        have P2 := Lib.hid ((P1.out.alloc _).call b2)
        clear b2 v0 v1 v2
        obtain ⟨v0, v1, v2⟩ := P2.out.box.cells
        go_wp2_with fail
        refine (HCK.out _).mono ?_
        rintro e w3 ⟨rfl, b3⟩
        have P3 := Lib.hid (P2.out.call b3)
        clear b3 v0 v1 v2
        go_wp2_with fail
        refine (HAR.out _).mono ?_
        rintro e w4 ⟨rfl, b4⟩
        have P4 := Lib.hid (P3.out.call b4)
        clear b4
        obtain ⟨v0, v1, v2⟩ := P4.out.box.cells
        go_wp2_with fail
        refine (HC1.out _ _ (args2 (a := zV) (b := v) (by simp))).mono ?_
        rintro e w8 ⟨rfl, b8⟩
        have P8 := Lib.hid (((P4.out.alloc _).call b8).push v)
        clear b8 v0 v1 v2
        obtain ⟨v0, v1, v2⟩ := P8.out.tail.box.cells
        go_wp2_with fail
        refine (HN1.out _ _ (args2 (a := v) (b := v) (by simp))).mono ?_
        rintro e w9 ⟨rfl, b9⟩
        have P9 := Lib.hid (((P8.out.alloc _).call b9).push zV)
        clear b9 v0 v1 v2
        obtain ⟨v0, v1, v2⟩ := P9.out.tail.tail.box.cells
        obtain ⟨x0, x1, x2⟩ := P9.out.tail.box.cells
        obtain ⟨y0, y1, y2⟩ := P9.out.box.cells
        simp only [zV] at v0 v1 v2 x0 x1 x2 y0 y1 y2
        go_wp2_with fail
        go_ret
        exact ⟨rfl, P9.out.below⟩
      · have HAR : Hid (∀ W, Calls Tryd.prog 20 #[.string ⟨#[99, 111, 97, 108, 101, 115, 99, 101]⟩] W fun e w' => e = .returned (.tuple #[.int .i64 1, .int .i64 (-1), .bool true]) ∧ Below W.heap.size W w') := fun W => live_arity W
        unfold coalesceB
        go_enter Tryd.func6, Tryd.ntmps6
        go_wp2_with fail
        refine (live_any _ HE.out).mono ?_
        rintro e w1 ⟨rfl, b1⟩
        have P1 := Lib.hid (HB0.out.call b1)
        clear b1
        obtain ⟨v0, v1, v2⟩ := P1.out.box.cells
        go_wp2_with fail
        refine (HBIG.out _).mono ?_
        rintro e w2 ⟨rfl, b2⟩
        have P2 := Lib.hid ((P1.out.alloc _).call b2)
        clear b2 v0 v1 v2
        obtain ⟨v0, v1, v2⟩ := P2.out.box.cells
        go_wp2_with fail
        refine (HCK.out _).mono ?_
        rintro e w3 ⟨rfl, b3⟩
        have P3 := Lib.hid (P2.out.call b3)
        clear b3 v0 v1 v2
        go_wp2_with fail
        refine (HAR.out _).mono ?_
        rintro e w4 ⟨rfl, b4⟩
        have P4 := Lib.hid (P3.out.call b4)
        clear b4
        obtain ⟨v0, v1, v2⟩ := P4.out.box.cells
        go_wp2_with fail
        refine (HC1.out _ _ (args2 (a := zV) (b := v) (by simp))).mono ?_
        rintro e w8 ⟨rfl, b8⟩
        have P8 := Lib.hid (((P4.out.alloc _).call b8).push v)
        clear b8 v0 v1 v2
        obtain ⟨v0, v1, v2⟩ := P8.out.tail.box.cells
        go_wp2_with fail
        refine (HN1.out _ _ (args2 (a := v) (b := v) (by simp))).mono ?_
        rintro e w9 ⟨rfl, b9⟩
        have P9 := Lib.hid (((P8.out.alloc _).call b9).push zV)
        clear b9 v0 v1 v2
        obtain ⟨v0, v1, v2⟩ := P9.out.tail.tail.box.cells
        obtain ⟨x0, x1, x2⟩ := P9.out.tail.box.cells
        obtain ⟨y0, y1, y2⟩ := P9.out.box.cells
        simp only [zV] at v0 v1 v2 x0 x1 x2 y0 y1 y2
        go_wp2_with fail
        go_ret
        exact ⟨rfl, P9.out.below⟩
      · have HAR : Hid (∀ W, Calls Tryd.prog 20 #[.string ⟨#[110, 117, 108, 108, 105, 102]⟩] W fun e w' => e = .returned (.tuple #[.int .i64 2, .int .i64 2, .bool true]) ∧ Below W.heap.size W w') := by
          intro W
          have h := arity_any ⟨#[110, 117, 108, 108, 105, 102]⟩ W
          rw [look_nullif] at h
          exact h
        unfold nullifB
        go_enter Tryd.func6, Tryd.ntmps6
        go_wp2_with fail
        refine (live_any _ HE.out).mono ?_
        rintro e w1 ⟨rfl, b1⟩
        have P1 := Lib.hid (HB0.out.call b1)
        clear b1
        obtain ⟨v0, v1, v2⟩ := P1.out.box.cells
        go_wp2_with fail
        refine (HBIG.out _).mono ?_
        rintro e w2 ⟨rfl, b2⟩
        have P2 := Lib.hid ((P1.out.alloc _).call b2)
        clear b2 v0 v1 v2
        obtain ⟨v0, v1, v2⟩ := P2.out.box.cells
        go_wp2_with fail
        refine (HCK.out _).mono ?_
        rintro e w3 ⟨rfl, b3⟩
        have P3 := Lib.hid (P2.out.call b3)
        clear b3 v0 v1 v2
        go_wp2_with fail
        refine (HAR.out _).mono ?_
        rintro e w4 ⟨rfl, b4⟩
        have P4 := Lib.hid (P3.out.call b4)
        clear b4
        obtain ⟨v0, v1, v2⟩ := P4.out.box.cells
        go_wp2_with fail
        refine (HC1.out _ _ (args2 (a := zV) (b := v) (by simp))).mono ?_
        rintro e w8 ⟨rfl, b8⟩
        have P8 := Lib.hid (((P4.out.alloc _).call b8).push v)
        clear b8 v0 v1 v2
        obtain ⟨v0, v1, v2⟩ := P8.out.tail.box.cells
        go_wp2_with fail
        refine (HN1.out _ _ (args2 (a := v) (b := v) (by simp))).mono ?_
        rintro e w9 ⟨rfl, b9⟩
        have P9 := Lib.hid (((P8.out.alloc _).call b9).push zV)
        clear b9 v0 v1 v2
        obtain ⟨v0, v1, v2⟩ := P9.out.tail.tail.box.cells
        obtain ⟨x0, x1, x2⟩ := P9.out.tail.box.cells
        obtain ⟨y0, y1, y2⟩ := P9.out.box.cells
        simp only [zV] at v0 v1 v2 x0 x1 x2 y0 y1 y2
        go_wp2_with fail
        go_ret
        exact ⟨rfl, P9.out.below⟩
      · have HN := Lib.hid hl
        have HQ := Lib.hid hq
        unfold coalesceB at n1
        unfold nullifB at n2
        simp only [Lib.toList_data] at n1 n2
        rw [hl] at HAR
        have m1 : (nm.toList != [99, 111, 97, 108, 101, 115, 99, 101]) = true := by rw [Lib.toList_data]; simpa using n1
        have m2 : (nm.toList != [110, 117, 108, 108, 105, 102]) = true := by rw [Lib.toList_data]; simpa using n2
        have m3 : (nm.toList == [99, 111, 97, 108, 101, 115, 99, 101]) = false := by rw [Lib.toList_data]; simpa using n1
        have m4 : (nm.toList == [110, 117, 108, 108, 105, 102]) = false := by rw [Lib.toList_data]; simpa using n2
        clear hl hq n1 n2
        rcases hw with ⟨h1, h2, k0⟩ | ⟨h1, h2, k0, k1⟩ | ⟨h1, h2, k0, k1, k2⟩
        · have HNC : Hid (∀ W H, Args W H [zV] → Calls Tryd.prog 18 #[.string nm, .slice (some ⟨H, 0, none⟩) 1 1] W fun e w' => e = .returned (.tuple #[.agg #[.int .i64 0, .int .i64 0, .string ⟨#[]⟩], .int .i64 0]) ∧ Below W.heap.size W w') := fun W H h => null_call1 nm x HN.out h1 h2 (fun j hj => by
            match j, hj with
            | 0, _ => exact k0) HQ.out H W h
          have HAR : Hid (∀ W, Calls Tryd.prog 20 #[.string nm] W fun e w' => e = .returned (.tuple #[.int .i64 1, .int .i64 1, .bool true]) ∧ Below W.heap.size W w') := by
            intro W
            have h := HAR.out W
            unfold arLo arHi at h
            simp only [h1, h2] at h
            exact h
          have hmk := make1
          clear h1 h2 k0 HN HQ
          go_enter Tryd.func6, Tryd.ntmps6
          go_wp2_with fail
          refine (live_any _ HE.out).mono ?_
          rintro e w1 ⟨rfl, b1⟩
          have P1 := Lib.hid (HB0.out.call b1)
          clear b1
          obtain ⟨v0, v1, v2⟩ := P1.out.box.cells
          go_wp2_with fail
          refine (HBIG.out _).mono ?_
          rintro e w2 ⟨rfl, b2⟩
          have P2 := Lib.hid ((P1.out.alloc _).call b2)
          clear b2 v0 v1 v2
          obtain ⟨v0, v1, v2⟩ := P2.out.box.cells
          go_wp2_with fail
          refine (HCK.out _).mono ?_
          rintro e w3 ⟨rfl, b3⟩
          have P3 := Lib.hid (P2.out.call b3)
          clear b3 v0 v1 v2
          go_wp2_with fail
          refine (HAR.out _).mono ?_
          rintro e w4 ⟨rfl, b4⟩
          have P4 := Lib.hid (P3.out.call b4)
          clear b4
          obtain ⟨v0, v1, v2⟩ := P4.out.box.cells
          go_wp2_with fail
          refine (HNC.out _ _ (args1 (a := zV) rfl)).mono ?_
          rintro e w5 ⟨rfl, b5⟩
          have P5 := Lib.hid (((P4.out.alloc _).call b5).push zV)
          clear b5 v0 v1 v2
          obtain ⟨v0, v1, v2⟩ := P5.out.tail.box.cells
          obtain ⟨z0, z1, z2⟩ := P5.out.box.cells
          simp only [zV] at v0 v1 v2 z0 z1 z2
          go_wp2_with fail
          refine (HC1.out _ _ (args2 (a := zV) (b := v) (by simp))).mono ?_
          rintro e w8 ⟨rfl, b8⟩
          have P8 := Lib.hid (((P5.out.alloc _).call b8).push v)
          clear b8 v0 v1 v2 z0 z1 z2
          obtain ⟨v0, v1, v2⟩ := P8.out.tail.tail.box.cells
          go_wp2_with fail
          refine (HN1.out _ _ (args2 (a := v) (b := v) (by simp))).mono ?_
          rintro e w9 ⟨rfl, b9⟩
          have P9 := Lib.hid (((P8.out.alloc _).call b9).push zV)
          clear b9 v0 v1 v2
          obtain ⟨v0, v1, v2⟩ := P9.out.tail.tail.tail.box.cells
          obtain ⟨x0, x1, x2⟩ := P9.out.tail.box.cells
          obtain ⟨y0, y1, y2⟩ := P9.out.box.cells
          simp only [zV] at v0 v1 v2 x0 x1 x2 y0 y1 y2
          go_wp2_with fail
          go_ret
          exact ⟨rfl, P9.out.below⟩
        · have HNC : Hid (∀ W H, Args W H [zV, zV] → Calls Tryd.prog 18 #[.string nm, .slice (some ⟨H, 0, none⟩) 2 2] W fun e w' => e = .returned (.tuple #[.agg #[.int .i64 0, .int .i64 0, .string ⟨#[]⟩], .int .i64 0]) ∧ Below W.heap.size W w') := fun W H h => null_call2 nm x HN.out h1 h2 (fun j hj => by
            match j, hj with
            | 0, _ => exact k0
            | 1, _ => exact k1) HQ.out H W h
          have HAR : Hid (∀ W, Calls Tryd.prog 20 #[.string nm] W fun e w' => e = .returned (.tuple #[.int .i64 2, .int .i64 2, .bool true]) ∧ Below W.heap.size W w') := by
            intro W
            have h := HAR.out W
            unfold arLo arHi at h
            simp only [h1, h2] at h
            exact h
          have hmk := make2
          clear h1 h2 k0 k1 HN HQ
          go_enter Tryd.func6, Tryd.ntmps6
          go_wp2_with fail
          refine (live_any _ HE.out).mono ?_
          rintro e w1 ⟨rfl, b1⟩
          have P1 := Lib.hid (HB0.out.call b1)
          clear b1
          obtain ⟨v0, v1, v2⟩ := P1.out.box.cells
          go_wp2_with fail
          refine (HBIG.out _).mono ?_
          rintro e w2 ⟨rfl, b2⟩
          have P2 := Lib.hid ((P1.out.alloc _).call b2)
          clear b2 v0 v1 v2
          obtain ⟨v0, v1, v2⟩ := P2.out.box.cells
          go_wp2_with fail
          refine (HCK.out _).mono ?_
          rintro e w3 ⟨rfl, b3⟩
          have P3 := Lib.hid (P2.out.call b3)
          clear b3 v0 v1 v2
          go_wp2_with fail
          refine (HAR.out _).mono ?_
          rintro e w4 ⟨rfl, b4⟩
          have P4 := Lib.hid (P3.out.call b4)
          clear b4
          obtain ⟨v0, v1, v2⟩ := P4.out.box.cells
          go_wp2_with fail
          refine (HNC.out _ _ (args2 (a := zV) (b := zV) rfl)).mono ?_
          rintro e w5 ⟨rfl, b5⟩
          have P5 := Lib.hid (((P4.out.alloc _).call b5).push zV)
          clear b5 v0 v1 v2
          obtain ⟨v0, v1, v2⟩ := P5.out.tail.box.cells
          obtain ⟨z0, z1, z2⟩ := P5.out.box.cells
          simp only [zV] at v0 v1 v2 z0 z1 z2
          go_wp2_with fail
          refine (HC1.out _ _ (args2 (a := zV) (b := v) (by simp))).mono ?_
          rintro e w8 ⟨rfl, b8⟩
          have P8 := Lib.hid (((P5.out.alloc _).call b8).push v)
          clear b8 v0 v1 v2 z0 z1 z2
          obtain ⟨v0, v1, v2⟩ := P8.out.tail.tail.box.cells
          go_wp2_with fail
          refine (HN1.out _ _ (args2 (a := v) (b := v) (by simp))).mono ?_
          rintro e w9 ⟨rfl, b9⟩
          have P9 := Lib.hid (((P8.out.alloc _).call b9).push zV)
          clear b9 v0 v1 v2
          obtain ⟨v0, v1, v2⟩ := P9.out.tail.tail.tail.box.cells
          obtain ⟨x0, x1, x2⟩ := P9.out.tail.box.cells
          obtain ⟨y0, y1, y2⟩ := P9.out.box.cells
          simp only [zV] at v0 v1 v2 x0 x1 x2 y0 y1 y2
          go_wp2_with fail
          go_ret
          exact ⟨rfl, P9.out.below⟩
        · have HNC : Hid (∀ W H, Args W H [zV, zV, zV] → Calls Tryd.prog 18 #[.string nm, .slice (some ⟨H, 0, none⟩) 3 3] W fun e w' => e = .returned (.tuple #[.agg #[.int .i64 0, .int .i64 0, .string ⟨#[]⟩], .int .i64 0]) ∧ Below W.heap.size W w') := fun W H h => null_call3 nm x HN.out h1 h2 (fun j hj => by
            match j, hj with
            | 0, _ => exact k0
            | 1, _ => exact k1
            | 2, _ => exact k2) HQ.out H W h
          have HAR : Hid (∀ W, Calls Tryd.prog 20 #[.string nm] W fun e w' => e = .returned (.tuple #[.int .i64 3, .int .i64 3, .bool true]) ∧ Below W.heap.size W w') := by
            intro W
            have h := HAR.out W
            unfold arLo arHi at h
            simp only [h1, h2] at h
            exact h
          have hmk := make3
          clear h1 h2 k0 k1 k2 HN HQ
          go_enter Tryd.func6, Tryd.ntmps6
          go_wp2_with fail
          refine (live_any _ HE.out).mono ?_
          rintro e w1 ⟨rfl, b1⟩
          have P1 := Lib.hid (HB0.out.call b1)
          clear b1
          obtain ⟨v0, v1, v2⟩ := P1.out.box.cells
          go_wp2_with fail
          refine (HBIG.out _).mono ?_
          rintro e w2 ⟨rfl, b2⟩
          have P2 := Lib.hid ((P1.out.alloc _).call b2)
          clear b2 v0 v1 v2
          obtain ⟨v0, v1, v2⟩ := P2.out.box.cells
          go_wp2_with fail
          refine (HCK.out _).mono ?_
          rintro e w3 ⟨rfl, b3⟩
          have P3 := Lib.hid (P2.out.call b3)
          clear b3 v0 v1 v2
          go_wp2_with fail
          refine (HAR.out _).mono ?_
          rintro e w4 ⟨rfl, b4⟩
          have P4 := Lib.hid (P3.out.call b4)
          clear b4
          obtain ⟨v0, v1, v2⟩ := P4.out.box.cells
          go_wp2_with fail
          refine (HNC.out _ _ (args3 (a := zV) (b := zV) (c := zV) rfl)).mono ?_
          rintro e w5 ⟨rfl, b5⟩
          have P5 := Lib.hid (((P4.out.alloc _).call b5).push zV)
          clear b5 v0 v1 v2
          obtain ⟨v0, v1, v2⟩ := P5.out.tail.box.cells
          obtain ⟨z0, z1, z2⟩ := P5.out.box.cells
          simp only [zV] at v0 v1 v2 z0 z1 z2
          go_wp2_with fail
          refine (HC1.out _ _ (args2 (a := zV) (b := v) (by simp))).mono ?_
          rintro e w8 ⟨rfl, b8⟩
          have P8 := Lib.hid (((P5.out.alloc _).call b8).push v)
          clear b8 v0 v1 v2 z0 z1 z2
          obtain ⟨v0, v1, v2⟩ := P8.out.tail.tail.box.cells
          go_wp2_with fail
          refine (HN1.out _ _ (args2 (a := v) (b := v) (by simp))).mono ?_
          rintro e w9 ⟨rfl, b9⟩
          have P9 := Lib.hid (((P8.out.alloc _).call b9).push zV)
          clear b9 v0 v1 v2
          obtain ⟨v0, v1, v2⟩ := P9.out.tail.tail.tail.box.cells
          obtain ⟨x0, x1, x2⟩ := P9.out.tail.box.cells
          obtain ⟨y0, y1, y2⟩ := P9.out.box.cells
          simp only [zV] at v0 v1 v2 x0 x1 x2 y0 y1 y2
          go_wp2_with fail
          go_ret
          exact ⟨rfl, P9.out.below⟩
    · have hc' : (c != 0) = true := by simpa using hc
      clear hc HCO HNU HAR
      go_enter Tryd.func6, Tryd.ntmps6
      go_wp2_with fail
      refine (live_any _ HE.out).mono ?_
      rintro e w1 ⟨rfl, b1⟩
      have P1 := Lib.hid (HB0.out.call b1)
      clear b1
      obtain ⟨v0, v1, v2⟩ := P1.out.box.cells
      go_wp2_with fail
      refine (HBIG.out _).mono ?_
      rintro e w2 ⟨rfl, b2⟩
      have P2 := Lib.hid ((P1.out.alloc _).call b2)
      clear b2 v0 v1 v2
      obtain ⟨v0, v1, v2⟩ := P2.out.box.cells
      go_wp2_with fail
      refine (HCK.out _).mono ?_
      rintro e w3 ⟨rfl, b3⟩
      have P3 := Lib.hid (P2.out.call b3)
      clear b3 v0 v1 v2
      go_wp2_with fail
      go_ret
      exact ⟨rfl, P3.out.below⟩
  · rw [hbg] at HBIG
    clear hbg HCO HNU HAR HCK
    go_enter Tryd.func6, Tryd.ntmps6
    go_wp2_with fail
    refine (live_any _ HE.out).mono ?_
    rintro e w1 ⟨rfl, b1⟩
    have P1 := Lib.hid (HB0.out.call b1)
    clear b1
    obtain ⟨v0, v1, v2⟩ := P1.out.box.cells
    go_wp2_with fail
    refine (HBIG.out _).mono ?_
    rintro e w2 ⟨rfl, b2⟩
    have P2 := Lib.hid ((P1.out.alloc _).call b2)
    clear b2 v0 v1 v2
    go_wp2_with fail
    go_ret
    exact ⟨rfl, P2.out.below⟩
end Go.Proofs.YtdffnkopbackiaaDoor
