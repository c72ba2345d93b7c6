/- The walk of the law LogicRels: it answers true, whatever word, two values and list of values lie in memory. Conditions: the list and each text shorter than 2 to the 47. -/
import Derived.Test.YtfccongmfoolpaaLogLive
import Derived.Test.YtfccongmfoolpaaLogBig
import Derived.Test.YtfccongmfoolpaaLogBoxes
namespace Go.Proofs.Ytfccongmfoolpaa
open Go.RowKit
theorem big_len {r : R} (h : bigL r = false) : r.xs.length ≤ 1000 := by
  unfold bigL at h
  simp at h
  omega
set_option maxRecDepth 100000 in
set_option maxHeartbeats 4000000 in
theorem rels_core (op : ByteArray) (a b : V) (r : R) (w : World) (hr : RowAt w w.heap.size r.A r.xs) (sr : RowSmall r.xs) (sa : a.s.size ≤ 140737488355328) (sb : b.s.size ≤ 140737488355328) :
    Calls Try.prog 4 #[.string op, .agg #[.int .i64 a.k, .int .i64 a.i, .string a.s], .agg #[.int .i64 b.k, .int .i64 b.i, .string b.s], r.val] w fun e w' => e = .returned (.bool true) ∧ Below w.heap.size w w' := by
  have HBIG := Lib.hid (fun w' (h : Below w.heap.size w w') => big_any r w' (hr.later h) sr)
  have HLEN := Lib.hid (@big_len r)
  have HIN := Lib.hid (fun w' (h : Below w.heap.size w w') hl => in_any a r.xs r.A r.c w' (hr.later h) hl)
  have HRIN := Lib.hid (fun w' (h : Below w.heap.size w w') hl => rin_any a r.xs r.A r.c w' (hr.later h) hl)
  have HREL := Lib.hid (fun w' => rel_any op a b w')
  have HRREL := Lib.hid (fun w' => rrel_any op a b w')
  have HIS := Lib.hid (fun w' => is_any a b w')
  have HRIS := Lib.hid (fun w' => ris_any a b w')
  have HB0 := Lib.hid (((HB.nil w).pushAt (H := w.heap.size) rfl a).pushAt (H := w.heap.size + 1) (by simp) b)
  unfold R.val at *
  generalize r.xs.length = n at *
  generalize r.A = rA at *
  generalize r.c = rc at *
  clear hr sr
  cases hbg : bigL r
  · rw [hbg] at HBIG
    have hn := HLEN.out hbg
    have HIN : Hid (∀ w', Below w.heap.size w w' → _) := fun w' h => HIN.out w' h (by omega)
    have HRIN : Hid (∀ w', Below w.heap.size w w' → _) := fun w' h => HRIN.out w' h (by omega)
    clear hbg HLEN
    generalize inR a r.xs = inr at *
    generalize inE a r.xs = ine at *
    generalize relR op a b = relr at *
    generalize relE op a b = rele at *
    generalize isR a b = isr at *
    generalize isE a b = ise at *
    by_cases h1 : 10000 < a.s.size
    · have d1 : decide ((10000 : Int) < (a.s.size : Int)) = true := decide_eq_true (by omega)
      clear h1
      go_enter Try.func4, Try.ntmps4
      go_wp2_with fail
      refine (live_any _).mono ?_
      rintro e w1 ⟨rfl, b1⟩
      have H1 := Lib.hid (HB0.out.call b1)
      go_wp2_with fail
      refine (HBIG.out w1 H1.out.below).mono ?_
      rintro e w2 ⟨rfl, b2⟩
      have H2 := Lib.hid (H1.out.call b2)
      obtain ⟨e0, e1, e2, d0, d1', d2, -⟩ := H2.out.boxes
      go_wp2_with fail
      go_ret
      exact ⟨rfl, H2.out.below⟩
    · have d1 : decide ((10000 : Int) < (a.s.size : Int)) = false := decide_eq_false (by omega)
      clear h1
      by_cases h2 : 10000 < b.s.size
      · have d2 : decide ((10000 : Int) < (b.s.size : Int)) = true := decide_eq_true (by omega)
        clear h2
        go_enter Try.func4, Try.ntmps4
        go_wp2_with fail
        refine (live_any _).mono ?_
        rintro e w1 ⟨rfl, b1⟩
        have H1 := Lib.hid (HB0.out.call b1)
        go_wp2_with fail
        refine (HBIG.out w1 H1.out.below).mono ?_
        rintro e w2 ⟨rfl, b2⟩
        have H2 := Lib.hid (H1.out.call b2)
        obtain ⟨e0, e1, e2, d0, d1', d2', -⟩ := H2.out.boxes
        go_wp2_with fail
        go_ret
        exact ⟨rfl, H2.out.below⟩
      · have d2 : decide ((10000 : Int) < (b.s.size : Int)) = false := decide_eq_false (by omega)
        clear h2
        go_enter Try.func4, Try.ntmps4
        go_wp2_with fail
        refine (live_any _).mono ?_
        rintro e w1 ⟨rfl, b1⟩
        have H1 := Lib.hid (HB0.out.call b1)
        go_wp2_with fail
        refine (HBIG.out w1 H1.out.below).mono ?_
        rintro e w2 ⟨rfl, b2⟩
        have H2 := Lib.hid (H1.out.call b2)
        obtain ⟨e0, e1, e2, c0, c1, c2, -⟩ := H2.out.boxes
        go_wp2_with fail
        refine (HREL.out _).mono ?_
        rintro e w3 ⟨rfl, b3⟩
        have H3 := Lib.hid (H2.out.call b3)
        have P3 := Lib.hid (H3.out.push relr)
        clear e0 e1 e2 c0 c1 c2
        obtain ⟨-, -, -, e0, e1, e2, c0, c1, c2, -⟩ := P3.out.boxes
        go_wp2_with fail
        refine (HRREL.out _).mono ?_
        rintro e w4 ⟨rfl, b4⟩
        have H4 := Lib.hid (P3.out.call b4)
        have P4 := Lib.hid (H4.out.push relr)
        clear e0 e1 e2 c0 c1 c2
        obtain ⟨-, -, -, -, -, -, e0, e1, e2, c0, c1, c2, -⟩ := P4.out.boxes
        go_wp2_with fail
        refine (HIS.out _).mono ?_
        rintro e w5 ⟨rfl, b5⟩
        have H5 := Lib.hid (P4.out.call b5)
        have P5 := Lib.hid (H5.out.push isr)
        clear e0 e1 e2 c0 c1 c2
        obtain ⟨-, -, -, -, -, -, -, -, -, e0, e1, e2, c0, c1, c2, -⟩ := P5.out.boxes
        go_wp2_with fail
        refine (HRIS.out _).mono ?_
        rintro e w6 ⟨rfl, b6⟩
        have H6 := Lib.hid (P5.out.call b6)
        have P6 := Lib.hid (H6.out.push isr)
        clear e0 e1 e2 c0 c1 c2
        obtain ⟨-, -, -, -, -, -, -, -, -, -, -, -, e0, e1, e2, c0, c1, c2, -⟩ := P6.out.boxes
        go_wp2_with fail
        refine (HIN.out _ P6.out.below).mono ?_
        rintro e w7 ⟨rfl, b7⟩
        have H7 := Lib.hid (P6.out.call b7)
        have P7 := Lib.hid (H7.out.push inr)
        clear e0 e1 e2 c0 c1 c2
        obtain ⟨-, -, -, -, -, -, -, -, -, -, -, -, -, -, -, e0, e1, e2, c0, c1, c2, -⟩ := P7.out.boxes
        go_wp2_with fail
        refine (HRIN.out _ P7.out.below).mono ?_
        rintro e w8 ⟨rfl, b8⟩
        have H8 := Lib.hid (P7.out.call b8)
        have P8 := Lib.hid (H8.out.push inr)
        clear e0 e1 e2 c0 c1 c2
        obtain ⟨x00, x01, x02, x10, x11, x12, x20, x21, x22, x30, x31, x32, x40, x41, x42, x50, x51, x52, -⟩ := P8.out.boxes
        go_wp2_with fail
        go_ret
        exact ⟨rfl, P8.out.below⟩
  · rw [hbg] at HBIG
    clear hbg HLEN HIN HRIN HREL HRREL HIS HRIS
    go_enter Try.func4, Try.ntmps4
    go_wp2_with fail
    refine (live_any _).mono ?_
    rintro e w1 ⟨rfl, b1⟩
    have H1 := Lib.hid (HB0.out.call b1)
    go_wp2_with fail
    refine (HBIG.out w1 H1.out.below).mono ?_
    rintro e w2 ⟨rfl, b2⟩
    go_wp2_with fail
    go_ret
    exact ⟨rfl, (H1.out.call b2).below⟩
end Go.Proofs.Ytfccongmfoolpaa
