/- The walk of the law ScalarReckons: it answers true, whatever word and two values. Conditions: both texts are no longer than 2 to the 47, both numbers have 64 bits, the library's one variable is there. -/
import Derived.Test.YtdffnkopbackiaaDoorScaNeg
import Derived.Test.YtdffnkopbackiaaDoorScaRJoin
import Derived.Test.YtdffnkopbackiaaDoorScaClass
import Derived.Test.YtdffnkopbackiaaDoorScaLive
namespace Go.Proofs.YtdffnkopbackiaaDoor
open Go.RowKit
set_option maxRecDepth 100000 in
set_option maxHeartbeats 8000000 in
theorem reckons_core (op : ByteArray) (a b : V) (w : World) (hE : Env w) (ha : a.s.size ≤ 140737488355328) (hb : b.s.size ≤ 140737488355328) (fa : In64 a.i) (fb : In64 b.i) : Calls Tryd.prog 3 #[.string op, .agg #[.int .i64 a.k, .int .i64 a.i, .string a.s], .agg #[.int .i64 b.k, .int .i64 b.i, .string b.s]] w fun e w' => e = .returned (.bool true) ∧ Below w.heap.size w w' := by
  have HB0 := Lib.hid (((HV.nil w).push a).pushAt (H := w.heap.size + 1) (by simp) b)
  have HE := Lib.hid (hE.later HB0.out.below)
  have HBIG := Lib.hid (fun (W : World) (H : Nat) (hH : W.heap.size = H) => big_any ⟨some ⟨H, 0, none⟩, 2, [a, b]⟩ (W.alloc (.cells #[.int .i64 a.k, .int .i64 a.i, .string a.s, .int .i64 b.k, .int .i64 b.i, .string b.s] 23)) (args2 hH).row ⟨by simp, by intro u hu; simp at hu; rcases hu with rfl | rfl <;> assumption⟩)
  have hbd : ∀ A, bigS ⟨A, 2, [a, b]⟩ = bigS ⟨none, 2, [a, b]⟩ := fun _ => rfl
  simp only [hbd] at HBIG
  unfold R.val at HBIG
  simp only [List.length_cons, List.length_nil, Nat.zero_add, Nat.reduceAdd] at HBIG
  have HA := Lib.hid (fun w => arith_any op a b w fa fb)
  have HRA := Lib.hid (fun w => rarith_any op a b w fa fb)
  have HN := Lib.hid (fun w => neg_any a w fa)
  have HRN := Lib.hid (fun w => rneg_any a w fa)
  have HJ := Lib.hid (fun w => join_any a b w ha hb)
  have HRJ := Lib.hid (fun w => rjoin_any a b w ha hb)
  clear hbd hE ha hb fa fb
  generalize arV op a b = va at *
  generalize arE op a b = ea at *
  generalize arV ⟨#[45]⟩ (nV 0) a = vn at *
  generalize arE ⟨#[45]⟩ (nV 0) a = en at *
  generalize joV a b = vj at *
  generalize joE a b = ej at *
  cases hbg : bigS ⟨none, 2, [a, b]⟩
  · rw [hbg] at HBIG
    clear hbg
    go_enter Tryd.func3, Tryd.ntmps3
    go_wp2_with fail
    refine (live_any _ HE.out).mono ?_
    rintro e w1 ⟨rfl, b1⟩
    have P1 := Lib.hid (HB0.out.call b1)
    clear b1
    obtain ⟨d0, d1, d2⟩ := P1.out.tail.box.cells
    obtain ⟨c0, c1, c2⟩ := P1.out.box.cells
    go_wp2_with fail
    refine (HBIG.out _ _ rfl).mono ?_
    rintro e w2 ⟨rfl, b2⟩
    have P2 := Lib.hid ((P1.out.alloc _).call b2)
    clear b2 d0 d1 d2 c0 c1 c2
    obtain ⟨d0, d1, d2⟩ := P2.out.tail.box.cells
    obtain ⟨c0, c1, c2⟩ := P2.out.box.cells
    go_wp2_with fail
    refine (HA.out _).mono ?_
    rintro e w3 ⟨rfl, b9⟩
    have P3 := Lib.hid ((P2.out.call b9).push va)
    clear b9 d0 d1 d2 c0 c1 c2
    obtain ⟨d0, d1, d2⟩ := P3.out.tail.tail.box.cells
    obtain ⟨c0, c1, c2⟩ := P3.out.tail.box.cells
    go_wp2_with fail
    refine (HRA.out _).mono ?_
    rintro e w4 ⟨rfl, b9⟩
    have P4 := Lib.hid ((P3.out.call b9).push va)
    clear b9 d0 d1 d2 c0 c1 c2
    obtain ⟨d0, d1, d2⟩ := P4.out.tail.tail.tail.box.cells
    go_wp2_with fail
    refine (HN.out _).mono ?_
    rintro e w5 ⟨rfl, b9⟩
    have P5 := Lib.hid ((P4.out.call b9).push vn)
    clear b9 d0 d1 d2
    obtain ⟨d0, d1, d2⟩ := P5.out.tail.tail.tail.tail.box.cells
    go_wp2_with fail
    refine (HRN.out _).mono ?_
    rintro e w6 ⟨rfl, b9⟩
    have P6 := Lib.hid ((P5.out.call b9).push vn)
    clear b9 d0 d1 d2
    obtain ⟨d0, d1, d2⟩ := P6.out.tail.tail.tail.tail.tail.box.cells
    obtain ⟨c0, c1, c2⟩ := P6.out.tail.tail.tail.tail.box.cells
    go_wp2_with fail
    refine (HJ.out _).mono ?_
    rintro e w7 ⟨rfl, b9⟩
    have P7 := Lib.hid ((P6.out.call b9).push vj)
    clear b9 d0 d1 d2 c0 c1 c2
    obtain ⟨d0, d1, d2⟩ := P7.out.tail.tail.tail.tail.tail.tail.box.cells
    obtain ⟨c0, c1, c2⟩ := P7.out.tail.tail.tail.tail.tail.box.cells
    go_wp2_with fail
    refine (HRJ.out _).mono ?_
    rintro e w8 ⟨rfl, b9⟩
    have P8 := Lib.hid ((P7.out.call b9).push vj)
    clear b9 d0 d1 d2 c0 c1 c2
    obtain ⟨r0, r1, r2⟩ := P8.out.box.cells
    obtain ⟨q0, q1, q2⟩ := P8.out.tail.box.cells
    obtain ⟨p0, p1, p2⟩ := P8.out.tail.tail.box.cells
    obtain ⟨o0, o1, o2⟩ := P8.out.tail.tail.tail.box.cells
    obtain ⟨n0, n1, n2⟩ := P8.out.tail.tail.tail.tail.box.cells
    obtain ⟨m0, m1, m2⟩ := P8.out.tail.tail.tail.tail.tail.box.cells
    go_wp2_with fail
    go_ret
    exact ⟨rfl, P8.out.below⟩
  · rw [hbg] at HBIG
    clear hbg HA HRA HN HRN HJ HRJ
    go_enter Tryd.func3, Tryd.ntmps3
    go_wp2_with fail
    refine (live_any _ HE.out).mono ?_
    rintro e w1 ⟨rfl, b1⟩
    have P1 := Lib.hid (HB0.out.call b1)
    clear b1
    obtain ⟨d0, d1, d2⟩ := P1.out.tail.box.cells
    obtain ⟨c0, c1, c2⟩ := P1.out.box.cells
    go_wp2_with fail
    refine (HBIG.out _ _ rfl).mono ?_
    rintro e w2 ⟨rfl, b2⟩
    have P2 := Lib.hid ((P1.out.alloc _).call b2)
    clear b2 d0 d1 d2 c0 c1 c2
    go_wp2_with fail
    go_ret
    exact ⟨rfl, P2.out.below⟩
end Go.Proofs.YtdffnkopbackiaaDoor
