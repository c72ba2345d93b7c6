/- The walk of the law LogicFolds: it answers true, whatever list of values and value. Conditions: the list and each text shorter than 2 to the 47. -/
import Derived.Test.YtgemopcnfklndaaLogRels
namespace Go.Proofs.Ytgemopcnfklndaa
open Go.RowKit
theorem HB.keepCall {w W W2 : World} {l : List (Nat × V)} {top : Nat} (hl : AllLt top l) (hw : w.heap.size ≤ top) (h : Held w top l W) (hb : Below W.heap.size W W2) : Held w top l W2 := h.later hl hw hb
set_option maxRecDepth 100000 in
set_option maxHeartbeats 8000000 in
theorem folds_core (r : R) (v : V) (w : World) (hr : RowAt w w.heap.size r.A r.xs) (sr : RowSmall r.xs) :
    Calls Try.prog 3 #[r.val, .agg #[.int .i64 v.k, .int .i64 v.i, .string v.s]] w fun e w' => e = .returned (.bool true) ∧ Below w.heap.size w w' := by
  have HBIG := Lib.hid (fun w' (h : Below w.heap.size w w') => big_any r w' (hr.later h) sr)
  have HLEN := Lib.hid (@big_len r)
  have hm : r.xs.length ≤ 9223372036854775807 := by have := sr.1; omega
  have HA := Lib.hid (fun w' (h : Below w.heap.size w w') => and_any r.xs r.A r.c w' (hr.later h) hm)
  have HRA := Lib.hid (fun w' (h : Below w.heap.size w w') => rand_any r.xs r.A r.c w' (hr.later h) hm)
  have HO := Lib.hid (fun w' (h : Below w.heap.size w w') => or_any r.xs r.A r.c w' (hr.later h) hm)
  have HRO := Lib.hid (fun w' (h : Below w.heap.size w w') => ror_any r.xs r.A r.c w' (hr.later h) hm)
  have HN := Lib.hid (fun w' => not_any v w')
  have HRN := Lib.hid (fun w' => rnot_any v w')
  have HH := Lib.hid (fun w' => holds_any v w')
  have HRH := Lib.hid (fun w' => rholds_any v w')
  have HB0 := Lib.hid ((HB.nil w).push v)
  unfold R.val at *
  generalize r.xs.length = n at *
  generalize r.A = rA at *
  generalize r.c = rc at *
  clear hr sr hm
  cases hbg : bigL r
  · rw [hbg] at HBIG
    clear hbg HLEN
    generalize decV false r.xs = va at *
    generalize decV true r.xs = vo at *
    generalize ctL r.xs = ce at *
    generalize ctL [v] = ne at *
    generalize notV v = vn at *
    generalize isV v true = hq at *
    go_enter Try.func3, Try.ntmps3
    go_wp2_with fail
    refine (live_any _).mono ?_
    rintro e w1 ⟨rfl, b1⟩
    have H1 := Lib.hid (HB0.out.call b1)
    go_wp2_with fail
    refine (HBIG.out w1 H1.out.below).mono ?_
    rintro e w2 ⟨rfl, b2⟩
    have P2 := Lib.hid (H1.out.call b2)
    go_wp2_with fail
    refine (HA.out _ P2.out.below).mono ?_
    rintro e w3 ⟨rfl, b3⟩
    have H3 := Lib.hid (P2.out.call b3)
    have P3 := Lib.hid (H3.out.push va)
    go_wp2_with fail
    refine (HRA.out _ P3.out.below).mono ?_
    rintro e w4 ⟨rfl, b4⟩
    have H4 := Lib.hid (P3.out.call b4)
    have P4 := Lib.hid (H4.out.push va)
    go_wp2_with fail
    refine (HO.out _ P4.out.below).mono ?_
    rintro e w5 ⟨rfl, b5⟩
    have H5 := Lib.hid (P4.out.call b5)
    have P5 := Lib.hid (H5.out.push vo)
    go_wp2_with fail
    refine (HRO.out _ P5.out.below).mono ?_
    rintro e w6 ⟨rfl, b6⟩
    have H6 := Lib.hid (P5.out.call b6)
    have P6 := Lib.hid (H6.out.push vo)
    obtain ⟨-, -, -, -, -, -, -, -, -, -, -, -, e0, e1, e2, -⟩ := P6.out.boxes
    go_wp2_with fail
    refine (HN.out _).mono ?_
    rintro e w7 ⟨rfl, b7⟩
    have H7 := Lib.hid (P6.out.call b7)
    have P7 := Lib.hid (H7.out.push vn)
    clear e0 e1 e2
    obtain ⟨-, -, -, -, -, -, -, -, -, -, -, -, -, -, -, e0, e1, e2, -⟩ := P7.out.boxes
    go_wp2_with fail
    refine (HRN.out _).mono ?_
    rintro e w8 ⟨rfl, b8⟩
    have H8 := Lib.hid (P7.out.call b8)
    have P8 := Lib.hid (H8.out.push vn)
    clear e0 e1 e2
    have HD := Lib.hid P8.out.held.drew
    have HL := Lib.hid P8.out.lt
    have hw8 := P8.out.below.size
    cases hq
    all_goals
      go_wp2_with fail
      go_region_held3 (fun w' => (w8.alloc (.cells #[.int .i64 vn.k, .int .i64 vn.i, .string vn.s] 24)).heap.size ≤ w'.heap.size ∧ Below w.heap.size w w' ∧ w'.cell? ⟨w8.heap.size, 0, none⟩ = some (.int .i64 vn.k) ∧ w'.cell? ⟨w8.heap.size, 1, none⟩ = some (.int .i64 vn.i) ∧ w'.cell? ⟨w8.heap.size, 2, none⟩ = some (.string vn.s) ∧ w'.cell? ⟨w7.heap.size, 0, none⟩ = some (.int .i64 vn.k) ∧ w'.cell? ⟨w7.heap.size, 1, none⟩ = some (.int .i64 vn.i) ∧ w'.cell? ⟨w7.heap.size, 2, none⟩ = some (.string vn.s) ∧ w'.cell? ⟨w6.heap.size, 0, none⟩ = some (.int .i64 vo.k) ∧ w'.cell? ⟨w6.heap.size, 1, none⟩ = some (.int .i64 vo.i) ∧ w'.cell? ⟨w6.heap.size, 2, none⟩ = some (.string vo.s) ∧ w'.cell? ⟨w5.heap.size, 0, none⟩ = some (.int .i64 vo.k) ∧ w'.cell? ⟨w5.heap.size, 1, none⟩ = some (.int .i64 vo.i) ∧ w'.cell? ⟨w5.heap.size, 2, none⟩ = some (.string vo.s) ∧ w'.cell? ⟨w4.heap.size, 0, none⟩ = some (.int .i64 va.k) ∧ w'.cell? ⟨w4.heap.size, 1, none⟩ = some (.int .i64 va.i) ∧ w'.cell? ⟨w4.heap.size, 2, none⟩ = some (.string va.s) ∧ w'.cell? ⟨w3.heap.size, 0, none⟩ = some (.int .i64 va.k) ∧ w'.cell? ⟨w3.heap.size, 1, none⟩ = some (.int .i64 va.i) ∧ w'.cell? ⟨w3.heap.size, 2, none⟩ = some (.string va.s) ∧ w'.cell? ⟨w.heap.size, 0, none⟩ = some (.int .i64 v.k) ∧ w'.cell? ⟨w.heap.size, 1, none⟩ = some (.int .i64 v.i) ∧ w'.cell? ⟨w.heap.size, 2, none⟩ = some (.string v.s) ∧ True) (first | exact HD.out | (refine Held.later HL.out hw8 ?_ hb9; assumption)) (first | (go_at_call 17; go_must (refine (HH.out _).mono ?_); rintro e w9 ⟨rfl, hb9⟩) | (go_at_call 18; go_must (refine (HRH.out _).mono ?_); rintro e w9 ⟨rfl, hb9⟩))
      all_goals
        go_wp2_with fail
        go_ret
        have hs : Held w (w8.alloc (.cells #[.int .i64 vn.k, .int .i64 vn.i, .string vn.s] 24)).heap.size [(w8.heap.size, vn), (w7.heap.size, vn), (w6.heap.size, vo), (w5.heap.size, vo), (w4.heap.size, va), (w3.heap.size, va), (w.heap.size, v)] w9 := by assumption
        exact ⟨rfl, hs.2.1⟩
  · rw [hbg] at HBIG
    clear hbg HLEN HA HRA HO HRO HN HRN HH HRH
    go_enter Try.func3, Try.ntmps3
    go_wp2_with fail
    refine (live_any _).mono ?_
    rintro e w1 ⟨rfl, b1⟩
    have H1 := Lib.hid (HB0.out.call b1)
    go_wp2_with fail
    refine (HBIG.out w1 H1.out.below).mono ?_
    rintro e w2 ⟨rfl, b2⟩
    go_wp2_with fail
    go_ret
    exact ⟨rfl, (H1.out.call b2).below⟩
end Go.Proofs.Ytgemopcnfklndaa
