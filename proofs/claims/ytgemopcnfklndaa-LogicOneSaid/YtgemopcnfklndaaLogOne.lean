/- The walk of the law LogicOne, where both values may be. Conditions: each text shorter than 2 to the 47. -/
import Derived.Test.YtgemopcnfklndaaLogOne0
namespace Go.Proofs.Ytgemopcnfklndaa
open Go.RowKit
set_option maxRecDepth 100000 in
set_option maxHeartbeats 16000000 in
theorem one_in (a b : V) (w : World) (h1 : a.chk = 0) (h2 : b.chk = 0) (h3 : ¬ 10000 < a.s.size) (h4 : ¬ 10000 < b.s.size) :
    Calls Try.prog 6 #[.agg #[.int .i64 a.k, .int .i64 a.i, .string a.s], .agg #[.int .i64 b.k, .int .i64 b.i, .string b.s]] w fun e w' => e = .returned (.bool true) ∧ Below w.heap.size w w' := by
  have HCA := Lib.hid (fun w' => rcheck_any a.k a.i a.s w')
  have HCB := Lib.hid (fun w' => rcheck_any b.k b.i b.s w')
  rw [show chkI a.k a.i a.s = 0 from h1] at HCA
  rw [show chkI b.k b.i b.s = 0 from h2] at HCB
  have HB0 := Lib.hid (((HB.nil w).pushAt (H := w.heap.size) rfl a).pushAt (H := w.heap.size + 1) (by simp) b)
  have HREL := Lib.hid (fun op w' => rel_any op a b w')
  have HNOT := Lib.hid (fun v w' => not_any v w')
  have HH := Lib.hid (fun v w' => holds_any v w')
  obtain ⟨E, N, h, hk, hN, hcase⟩ := one_key h1 h2
  have d1 : decide ((10000 : Int) < (a.s.size : Int)) = false := decide_eq_false (by omega)
  have d2 : decide ((10000 : Int) < (b.s.size : Int)) = false := decide_eq_false (by omega)
  have HK := Lib.hid hk
  have HN := Lib.hid hN
  clear h1 h2 h3 h4 hk hN
  rcases hcase with ⟨rfl, rfl, k1, k2, k3, k4⟩ | ⟨rfl, rfl, k1, k2, k4⟩ | ⟨rfl, rfl, k1, k2, k4⟩ | ⟨rfl, rfl, k1, k2, k3, k4⟩ | ⟨rfl, rfl, k1, k4⟩
  all_goals
    go_enter Try.func6, Try.ntmps6
    go_wp2_with fail
    refine (live_any _).mono ?_
    rintro e w1 ⟨rfl, b1⟩
    have H1 := Lib.hid (HB0.out.call b1)
    obtain ⟨e0, e1, e2, c0, c1, c2, -⟩ := H1.out.boxes
    go_wp2_with fail
    refine (HCA.out _).mono ?_
    rintro e w2 ⟨rfl, b2⟩
    have H2 := Lib.hid (H1.out.call b2)
    clear e0 e1 e2 c0 c1 c2
    obtain ⟨e0, e1, e2, c0, c1, c2, -⟩ := H2.out.boxes
    go_wp2_with fail
    refine (HCB.out _).mono ?_
    rintro e w3 ⟨rfl, b3⟩
    have H3 := Lib.hid (H2.out.call b3)
    clear e0 e1 e2 c0 c1 c2
    obtain ⟨e0, e1, e2, c0, c1, c2, -⟩ := H3.out.boxes
    go_wp2_with fail
    clear e0 e1 e2 c0 c1 c2
    go_loopw [43, 6] (fun i n wr => ∃ k : Nat, k ≤ 3 ∧ i = .int .i64 k ∧ n = .int .i64 (cnt h k) ∧ Hid (HB w [(w.heap.size + 1, b), (w.heap.size, a)] wr) ∧ Hid (SA wr w3.heap.size)) (fun i _ _ => 3 - (intOf i).toNat)
    case atStart => exact ⟨0, by omega, rfl, rfl, H3.out.alloc _, heap_alloc_new w3 _⟩
    case round =>
      obtain ⟨k, hk, rfl, rfl, hhb, hsa⟩ := hrel
      by_cases hlt : k < 3
      · have HK1 := Lib.hid (HK.out k hlt).1
        have HK2 := Lib.hid (HK.out k hlt).2.1
        have hcell := hsa.out.at k hlt
        have hcn := cnt_le h k
        have HC : Hid (cnt h (k + 1) = cnt h k + bi (h k)) := rfl
        obtain ⟨e0, e1, e2, c0, c1, c2, -⟩ := hhb.out.boxes
        have HRk := Lib.hid (HREL.out (opsA k))
        rw [HK1.out] at HRk
        generalize relR (opsA k) a b = rr at *
        have HHk := Lib.hid (HH.out rr)
        rw [HK2.out] at HHk
        generalize opsA k = op at *
        generalize cnt h k = cn at *
        go_wp2_with fail
        refine (HRk.out _).mono ?_
        rintro e w4 ⟨rfl, b4⟩
        have H4 := Lib.hid ((hhb.out.call b4).push rr)
        have hsa4 := Lib.hid ((hsa.out.later b4).later (Below.alloc (Below.refl _ _) (Nat.le_refl _) (.cells #[.int .i64 rr.k, .int .i64 rr.i, .string rr.s] 24)))
        clear e0 e1 e2 c0 c1 c2 hcell
        obtain ⟨x0, x1, x2, e0, e1, e2, c0, c1, c2, -⟩ := H4.out.boxes
        cases hhk : h k
        all_goals
          rw [hhk] at HHk
          have HC2 : Hid (cnt h (k + 1) = cn + bi (h k)) := HC.out
          rw [hhk] at HC2
          have HC3 := Lib.hid HC2.out
          clear hhk HK2 HC2 HC
          go_wp2_with fail
          refine (HHk.out _).mono ?_
          rintro e w5 ⟨rfl, b5⟩
          go_wp2_with fail
          go_roundw
          case rel => exact ⟨k + 1, by omega, by go_num, by rw [HC3.out]; first | rfl | simp [bi], (H4.out.call b5).tail, hsa4.out.later b5⟩
          case measure => simp [intOf]; omega
      · obtain rfl : k = 3 := by omega
        clear hlt
        generalize cnt h 3 = cn at *
        obtain rfl := HN.out
        obtain ⟨wo, rfl⟩ : ∃ wo : World, wo = wr := ⟨_, rfl⟩
        go_wp2_with fail
        go_loopw [82] (fun i wr => ∃ k : Nat, k ≤ 3 ∧ i = .int .i64 k ∧ Hid (HB w [(w.heap.size + 1, b), (w.heap.size, a)] wr) ∧ Hid (SB wr wo.heap.size)) (fun i _ => 3 - (intOf i).toNat)
        case atStart => exact ⟨0, by omega, rfl, hhb.out.alloc _, heap_alloc_new wo _⟩
        case round =>
          obtain ⟨k, hk, rfl, hhb2, hsb⟩ := hrel
          by_cases hlt : k < 3
          · have HK1 := Lib.hid (HK.out k hlt).2.2.1
            have HK2 := Lib.hid (HK.out k hlt).2.2.2.1
            have HK3 := Lib.hid (HK.out k hlt).2.2.2.2
            obtain ⟨hcell, hcell'⟩ := hsb.out.at k hlt
            have HRk := Lib.hid (HREL.out (opsB k))
            rw [HK1.out] at HRk
            have HRc := Lib.hid (HREL.out (opsC k))
            rw [HK2.out] at HRc
            have HNk := Lib.hid (HNOT.out (relR (opsC k) a b))
            rw [HK3.out] at HNk
            generalize ctL [relR (opsC k) a b] = ct at *
            generalize relR (opsB k) a b = rb at *
            generalize relR (opsC k) a b = rc at *
            generalize opsB k = op at *
            generalize opsC k = op' at *
            have HBa := Lib.hid (hhb2.out.alloc (.cells #[.string op, .string op'] 40))
            have HSC := Lib.hid (SC.made wr op op')
            obtain ⟨e0, e1, e2, c0, c1, c2, -⟩ := HBa.out.boxes
            go_wp2_with fail
            refine (HRk.out _).mono ?_
            rintro e w4 ⟨rfl, b4⟩
            have H4 := Lib.hid ((HBa.out.call b4).push rb)
            have HSC4 := Lib.hid ((HSC.out.later b4).later (Below.alloc (Below.refl _ _) (Nat.le_refl _) (.cells #[.int .i64 rb.k, .int .i64 rb.i, .string rb.s] 24)))
            clear e0 e1 e2 c0 c1 c2 hcell hcell'
            obtain ⟨-, -, -, e0, e1, e2, c0, c1, c2, -⟩ := H4.out.boxes
            obtain ⟨s0, s1⟩ := HSC4.out.at
            go_wp2_with fail
            refine (HRc.out _).mono ?_
            rintro e w5 ⟨rfl, b5⟩
            have H5 := Lib.hid ((H4.out.call b5).push rc)
            clear e0 e1 e2 c0 c1 c2 s0 s1
            obtain ⟨e0, e1, e2, -⟩ := H5.out.boxes
            go_wp2_with fail
            refine (HNk.out _).mono ?_
            rintro e w6 ⟨rfl, b6⟩
            have H6 := Lib.hid ((H5.out.call b6).push rb)
            clear e0 e1 e2
            obtain ⟨e0, e1, e2, -, -, -, c0, c1, c2, -⟩ := H6.out.boxes
            go_wp2_with fail
            go_roundw
            case rel => exact ⟨k + 1, by omega, by go_num, H6.out.tail.tail.tail, (((((hsb.out.later (Below.alloc (Below.refl _ _) (Nat.le_refl _) _)).later b4).later (Below.alloc (Below.refl _ _) (Nat.le_refl _) _)).later b5).later (Below.alloc (Below.refl _ _) (Nat.le_refl _) _)).later b6 |>.later (Below.alloc (Below.refl _ _) (Nat.le_refl _) _)⟩
            case measure => simp [intOf]; omega
          · obtain rfl : k = 3 := by omega
            clear hlt
            obtain ⟨e0, e1, e2, c0, c1, c2, -⟩ := hhb2.out.boxes
            go_wp2_with fail
            go_ret
            exact ⟨rfl, hhb2.out.below⟩
theorem one_core (a b : V) (w : World) : Calls Try.prog 6 #[.agg #[.int .i64 a.k, .int .i64 a.i, .string a.s], .agg #[.int .i64 b.k, .int .i64 b.i, .string b.s]] w fun e w' => e = .returned (.bool true) ∧ Below w.heap.size w w' := by
  by_cases h : ¬ a.chk = 0 ∨ ¬ b.chk = 0 ∨ 10000 < a.s.size ∨ 10000 < b.s.size
  · exact one_out a b w h
  · exact one_in a b w (by omega) (by omega) (by omega) (by omega)
end Go.Proofs.Ytgemopcnfklndaa
