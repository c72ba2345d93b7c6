/- Contract of slices.pdqsortCmpFunc at a bound method. Conditions: the comparison is an order, the range is in the row, and nothing in it is ahead of what stands before it. Written by gen/genpdq.py. -/
import Derived.Test.YtkmnlfbllfaieaaDoorSoPdqP
import Derived.Deep.CutBlock
namespace Go.Proofs.YtkmnlfbllfaieaaDoor
open Go.RowKit Go.Sort
theorem hint_dec (h : Sort.Hint) : (hintInt h == 2) = decide (h = .decreasing) := by cases h <;> rfl
theorem hint_inc (h : Sort.Hint) : (hintInt h == 1) = decide (h = .increasing) := by cases h <;> rfl
/-- What pdqsort does, of whatever range of at most len. -/
def PdqOk (w : World) (b c n : Nat) (P : Int → Prop) (cf : Int → Int → Int) (rv : Value) (len : Nat) : Prop :=
  ∀ (lo hi lim : Nat) (d : Array Int) (W : World), hi - lo ≤ len → d.size = n → SW w b d W → (∀ j, j < n → P d[j]!) → lo ≤ hi → hi ≤ n → lim ≤ 64 → Sort.Below (ltOf cf) lo hi d →
    Calls Tryd.prog 48 #[.slice (some ⟨b, 0, none⟩) n c, .int .i64 lo, .int .i64 hi, .int .i64 lim, .func (.func 37) #[rv] #[]] W fun e w' => e = .returned (.tuple #[]) ∧ SW w b (Sort.pdq (ltOf cf) d lo hi lim true true) w' ∧ Kept P n (Sort.pdq (ltOf cf) d lo hi lim true true)
set_option maxRecDepth 100000 in
set_option maxHeartbeats 32000000 in
theorem pdq_step (w : World) (b c n : Nat) (P : Int → Prop) (cf : Int → Int → Int) (rv : Value) (hc : CmpOf w b P cf rv) (hS : SWO (ltOf cf)) (hbw : b < w.heap.size) (hm : n ≤ 140737488355328) (len : Nat) (ih : ∀ l, l < len → PdqOk w b c n P cf rv l) : PdqOk w b c n P cf rv len := by
  intro lo hi lim d W hlen hn h hP hlo hhi hlim hB
  have S := Lib.hid h
  have HC := Lib.hid hc
  have HP := Lib.hid hP
  have HS := Lib.hid hS
  have HB := Lib.hid hB
  have IH := Lib.hid ih
  have C55 := Lib.hid (fun d hn W h hP l h' h1 h2 => insertion_any w b c n P cf rv hc d W hn hm h hP l h' h1 h2)
  have C56 := Lib.hid (fun d hn W h hP l h' h1 h2 => heap_any w b c n P cf rv hc d W hn hm h hP l h' h1 h2)
  have C57 := Lib.hid (fun d hn W h hP l L h1 hz hz2 => break_any w b c n P (.func (.func 37) #[rv] #[]) d W hn hm h hP hbw l L h1 hz hz2)
  have C58 := Lib.hid (fun d hn W h hP l h' h1 h2 => pivot_any w b c n P cf rv hc hbw d W hn hm h hP l h' h1 h2)
  have C59 := Lib.hid (fun d hn W h hP l h' h1 h2 => reverse_any w b c n P (.func (.func 37) #[rv] #[]) d W hn hm h hP l h' h1 h2)
  have C60 := Lib.hid (fun d hn W h hP l h' h1 h2 => partialIns_any w b c n P cf rv hc d W hn hm h hP l h' h1 h2)
  have C61 := Lib.hid (fun d hn W h hP l h' p h1 h2 h3 => partitionEqual_any w b c n P cf rv hc d W hn hm h hP l h' p h1 h2 h3)
  have C62 := Lib.hid (fun d hn W h hP l h' p h1 h2 h3 => partition_any w b c n P cf rv hc d W hn hm h hP l h' p h1 h2 h3)
  clear h hc hP hS hB ih
  go_enter Tryd.func48, Tryd.ntmps48
  go_wp2_with fail
  go_loopg [1, 2, 3, 10, 11] (hi - lo) (fun kg s1 s2 s3 s10 s11 wr => ∃ (a z lm : Nat) (wb wp : Bool) (dk : Array Int), s1 = .int .i64 a ∧ s2 = .int .i64 z ∧ s3 = .int .i64 lm ∧ s10 = .bool wb ∧ s11 = .bool wp ∧ a ≤ z ∧ z ≤ n ∧ z - a ≤ kg ∧ z - a ≤ len ∧ lm ≤ 64 ∧ dk.size = n ∧ Hid (∀ j, j < n → P dk[j]!) ∧ Hid (SW w b dk wr) ∧ Hid (Sort.Below (ltOf cf) a z dk) ∧ Hid (Sort.pdq (ltOf cf) dk a z lm wb wp = Sort.pdq (ltOf cf) d lo hi lim true true))
  case atStart => exact ⟨lo, hi, lim, true, true, d, rfl, rfl, rfl, rfl, rfl, hlo, hhi, Nat.le_refl _, hlen, hlim, hn, HP, S, HB, rfl⟩
  case round =>
    clear S HP HB hlim hlo hhi hlen
    obtain ⟨a, z, lm, wb, wp, dk, rfl, rfl, rfl, rfl, rfl, haz, hzn, hkg, hzl, hlm, hds, HP, S, HB, HE⟩ := hrel
    by_cases h12 : z - a ≤ 12
    · have h12z : (z : Int) - (a : Int) ≤ 12 := by omega
      have HX := Lib.hid (C55.out dk hds wr S.out HP.out a z haz hzn)
      have HQ := Lib.hid (pdq_small (lt := ltOf cf) (d := dk) (limit := lm) (wb := wb) (wp := wp) h12)
      go_wp2_with fail
      refine HX.out.mono ?_
      rintro e w1 ⟨rfl, S1, K1⟩
      have S1 := Lib.hid S1
      have K1 := Lib.hid K1
      go_wp2_with fail
      (try simp only [Exit.inBlock, Exit.then]); refine bodyPost_ret (results_none rfl _ _ _) rfl ?_
      rw [← HE.out, HQ.out]
      exact ⟨rfl, S1.out, K1.out⟩
    · have h12z : ¬ ((z : Int) - (a : Int) ≤ 12) := by omega
      by_cases hl0 : lm = 0
      · subst hl0
        have HX := Lib.hid (C56.out dk hds wr S.out HP.out a z haz hzn)
        have HQ := Lib.hid (pdq_heap (lt := ltOf cf) (d := dk) (limit := 0) (wb := wb) (wp := wp) h12 rfl)
        go_wp2_with fail
        refine HX.out.mono ?_
        rintro e w1 ⟨rfl, S1, K1⟩
        have S1 := Lib.hid S1
        have K1 := Lib.hid K1
        go_wp2_with fail
        (try simp only [Exit.inBlock, Exit.then]); refine bodyPost_ret (results_none rfl _ _ _) rfl ?_
        rw [← HE.out, HQ.out]
        exact ⟨rfl, S1.out, K1.out⟩
      · have hl0z : ((lm : Int) == 0) = false := by rw [beq_eq_false_iff_ne]; omega
        obtain ⟨R, hR⟩ : ∃ R, R = rd (ltOf cf) dk a z lm wb wp := ⟨_, rfl⟩
        have HR := Lib.hid hR
        have K := Lib.hid (rd_ok HS.out hR (by omega) (by omega) HB.out)
        have hll : R.lim ≤ 64 := by have := rd_lim_le (lt := ltOf cf) (d := dk) (a := a) (b := z) (limit := lm) (wb := wb) (wp := wp); rw [← hR] at this; omega
        have hp1 := K.out.p.1
        have hp2 := K.out.p.2
        have HL0 := Lib.hid hl0
        clear hR hl0
        go_upto_if 39 with fail
        go_cut [3] from 21 to 147 (fun s3 wx => s3 = .int .i64 ((R.lim : Nat) : Int) ∧ Hid (SW w b R.d1 wx) ∧ Hid (∀ j, j < n → P R.d1[j]!))
        case first =>
          cases wb
          · have g1 : Hid (R.d1 = Sort.breakPatterns dk a z) := by rw [HR.out]; exact rd_false.1
            have g2 : Hid (R.lim = lm - 1) := by rw [HR.out]; exact rd_false.2
            have HX := C57.out dk hds wr S.out HP.out a (z - a) (by omega) (z : Int) (by omega)
            rw [show a + (z - a) = z by omega, ← g1.out] at HX
            have HX := Lib.hid HX
            have hlm1 : 1 ≤ lm := by have := HL0.out; omega
            go_wp2_with fail
            refine HX.out.mono ?_
            rintro e w1 ⟨rfl, S1, K1⟩
            have S1 := Lib.hid S1
            have K1 := Lib.hid K1
            go_wp2_with fail
            go_meet
            exact ⟨by rw [g2.out, show ((lm - 1 : Nat) : Int) = (lm : Int) - 1 by omega], S1, K1.out.2⟩
          · have g1 : Hid (R.d1 = dk) := by rw [HR.out]; exact rd_true.1
            have g2 : Hid (R.lim = lm) := by rw [HR.out]; exact rd_true.2
            go_wp2_with fail
            go_meet
            exact ⟨by rw [g2.out], by rw [g1.out]; exact S, by rw [g1.out]; exact HP⟩
        case rest =>
          clear S HP
          obtain ⟨rfl, S, HP⟩ := hcut
          have HX := C58.out R.d1 (K.out.s1.trans hds) wc S.out HP.out a z (by omega) hzn
          rw [show Sort.choosePivot (ltOf cf) R.d1 a z = R.c by rw [HR.out]; rfl] at HX
          have HX := Lib.hid HX
          have hc1 := K.out.c.1
          have hc2 := K.out.c.2
          clear S
          go_upto_if 56 with (go_at_call 58; refine HX.out.mono ?_; rintro e w2 ⟨rfl, S2⟩)
          have S := Lib.hid S2
          clear S2 HX
          go_cut [13, 14] from 21 to 147 (fun s13 s14 wx => s13 = .int .i64 ((R.pivot : Nat) : Int) ∧ s14 = .int .i64 (hintInt R.hint) ∧ Hid (SW w b R.d2 wx) ∧ Hid (∀ j, j < n → P R.d2[j]!))
          case first =>
            by_cases hd : R.c.2 = .decreasing
            · have hz : (hintInt R.c.2 == 2) = true := by rw [hint_dec]; exact decide_eq_true hd
              have g : Hid (R.d2 = Sort.reverseRange R.d1 a z ∧ R.pivot = (z - 1) - (R.c.1 - a) ∧ R.hint = .increasing) := by
                have := HR.out
                subst this
                exact rd_dec hd
              have HX := C59.out R.d1 (K.out.s1.trans hds) w2 S.out HP.out a z haz hzn
              rw [← g.out.1] at HX
              have HX := Lib.hid HX
              clear hd
              go_wp2_with fail
              refine HX.out.mono ?_
              rintro e w3 ⟨rfl, S1, K1⟩
              have S1 := Lib.hid S1
              have K1 := Lib.hid K1
              go_wp2_with fail
              go_meet
              exact ⟨by rw [g.out.2.1, show (((z - 1) - (R.c.1 - a) : Nat) : Int) = (z : Int) - 1 - ((R.c.1 : Int) - (a : Int)) by omega], by rw [g.out.2.2]; rfl, S1, K1.out.2⟩
            · have hz : (hintInt R.c.2 == 2) = false := by rw [hint_dec]; exact decide_eq_false hd
              have g : Hid (R.d2 = R.d1 ∧ R.pivot = R.c.1 ∧ R.hint = R.c.2) := by
                have := HR.out
                subst this
                exact rd_not hd
              clear hd
              go_wp2_with fail
              go_meet
              exact ⟨by rw [g.out.2.1], by rw [g.out.2.2], by rw [g.out.1]; exact S, by rw [g.out.1]; exact HP⟩
          case rest =>
            clear S HP
            obtain ⟨rfl, rfl, S, HP⟩ := hcut
            go_upto_region 15 with fail
            go_cut [75] from 21 to 147 (fun s75 wx => s75 = .bool (wb && wp && decide (R.hint = .increasing)) ∧ Hid (SW w b R.d2 wx))
            case first =>
              have hz := hint_inc R.hint
              clear HR HE K
              by_cases hh : R.hint = .increasing
              · rw [decide_eq_true hh] at hz
                have HH := Lib.hid hh
                clear hh
                cases wb
                all_goals cases wp
                all_goals
                  go_wp2_with fail
                  go_meet
                  exact ⟨by rw [decide_eq_true HH.out]; rfl, S⟩
              · rw [decide_eq_false hh] at hz
                have HH := Lib.hid hh
                clear hh
                cases wb
                all_goals cases wp
                all_goals
                  go_wp2_with fail
                  go_meet
                  exact ⟨by rw [decide_eq_false HH.out]; rfl, S⟩
            case rest =>
              clear S
              obtain ⟨rfl, S⟩ := hcut
              go_upto_if 75 with fail
              go_cut [] from 21 to 147 (fun wx => R.pi.2 = false ∧ Hid (SW w b R.pi.1 wx) ∧ Hid (∀ j, j < n → P R.pi.1[j]!))
              case first =>
                cases hcd : (wb && wp && decide (R.hint = .increasing))
                · have g : Hid (R.pi = (R.d2, false)) := by
                    have := HR.out
                    subst this
                    exact rd_pi_no hcd
                  clear hcd
                  go_wp2_with fail
                  go_meet
                  exact ⟨by rw [g.out], by rw [g.out]; exact S, by rw [g.out]; exact HP⟩
                · have g : Hid (R.pi = Sort.partialInsertionSort (ltOf cf) R.d2 a z) := by
                    have := HR.out
                    subst this
                    exact rd_pi_yes hcd
                  have HX := C60.out R.d2 (K.out.s2.trans hds) wc S.out HP.out a z (by omega) hzn
                  rw [← g.out] at HX
                  clear hcd g
                  cases hpi : R.pi.2
                  · rw [hpi] at HX
                    have HPI := Lib.hid hpi
                    have HX := Lib.hid HX
                    clear hpi
                    go_wp2_with fail
                    refine HX.out.mono ?_
                    rintro e w3 ⟨rfl, S1, K1⟩
                    have S1 := Lib.hid S1
                    have K1 := Lib.hid K1
                    go_wp2_with fail
                    go_meet
                    exact ⟨HPI.out, S1, K1.out.2⟩
                  · rw [hpi] at HX
                    have HQ := Lib.hid (rd_done HR.out h12 HL0.out hpi)
                    have HX := Lib.hid HX
                    clear hpi
                    go_wp2_with fail
                    refine HX.out.mono ?_
                    rintro e w3 ⟨rfl, S1, K1⟩
                    have S1 := Lib.hid S1
                    have K1 := Lib.hid K1
                    go_wp2_with fail
                    (try simp only [Exit.inBlock, Exit.then]); refine bodyPost_ret (results_none rfl _ _ _) rfl ?_
                    rw [← HE.out, HQ.out]
                    exact ⟨rfl, S1.out, K1.out⟩
              case rest =>
                clear S HP
                obtain ⟨hpi, S, HP⟩ := hcut
                have HPI := Lib.hid hpi
                have hd3 : R.pi.1.size = n := K.out.s3.trans hds
                clear hpi
                obtain ⟨d3, he3⟩ : ∃ d3, d3 = R.pi.1 := ⟨_, rfl⟩
                rw [← he3] at S HP hd3
                have HD3 := Lib.hid he3
                clear he3
                go_upto_region 17 with fail
                go_cut [97] from 21 to 147 (fun s97 wx => s97 = .bool (decide (0 < a) && !ltOf cf d3[a - 1]! d3[R.pivot]!) ∧ Hid (SW w b d3 wx))
                case first =>
                  by_cases ha : 0 < a
                  · have haz0 : (0 : Int) < (a : Int) := by omega
                    cases hL : ltOf cf d3[a - 1]! d3[R.pivot]! with
                    | true =>
                      obtain ⟨i1, hi1⟩ : ∃ q, q = a - 1 := ⟨_, rfl⟩
                      have ei1 : ((a : Int) - 1).toNat = i1 := by omega
                      have pi1 : (0 : Int) ≤ (a : Int) - 1 := by omega
                      have bi1 : (a : Int) - 1 < (n : Int) := by omega
                      have ri1 : IntKind.i64.wrap ((a : Int) - 1) = (a : Int) - 1 := by rw [IntKind.wrap_i64]; omega
                      obtain ⟨j1, hj1⟩ : ∃ q, q = R.pivot := ⟨_, rfl⟩
                      have ej1 : ((R.pivot : Int)).toNat = j1 := by omega
                      have pj1 : (0 : Int) ≤ (R.pivot : Int) := by omega
                      have bj1 : (R.pivot : Int) < (n : Int) := by omega
                      have rj1 : IntKind.i64.wrap ((R.pivot : Int)) = (R.pivot : Int) := by rw [IntKind.wrap_i64]; omega
                      have l1a := Lib.hid (fun (x : SWT w b d3) => x.2.cell (a - 1) (by omega))
                      have l1b := Lib.hid (fun (x : SWT w b d3) => x.2.cell (R.pivot) (by omega))
                      have Q1 := Lib.hid (fun X (hX : SW w b d3 X) => HC.out d3 X hX d3[a - 1]! d3[R.pivot]! (HP.out _ (by omega)) (HP.out _ (by omega)))
                      have v1 : decide (cf d3[a - 1]! d3[R.pivot]! < 0) = true := hL
                      obtain ⟨x1, hx1⟩ : ∃ x, x = d3[a - 1]! := ⟨_, rfl⟩
                      obtain ⟨y1, hy1⟩ : ∃ x, x = d3[R.pivot]! := ⟨_, rfl⟩
                      rw [← hx1, ← hi1] at l1a
                      rw [← hy1, ← hj1] at l1b
                      rw [← hx1, ← hy1] at Q1 v1
                      clear hx1 hy1 hi1 hj1
                      generalize cf x1 y1 = r1 at Q1 v1
                      have n1 : r1 < 0 := of_decide_eq_true v1
                      go_wp2_with fail
                      have m1 : Nonempty (SWT w b d3) := ⟨⟨_, S.out⟩⟩
                      have g1a := l1a.out
                      have g1b := l1b.out
                      refine wp_region_class (fun w' => ∃ x : SWT w b d3, w' = x.1) (by kernel_rfl) (by kernel_rfl) ⟨⟨_, S.out.drew⟩, rfl⟩ ?_
                      repeat (go_big_quiet_step ((rename_i x; (go_at_call 37; refine (Q1.out _ x.2).mono ?_; rintro e w2 ⟨rfl, hb⟩; exact ⟨rfl, ⟨_, x.2.call hb⟩, rfl⟩))))
                      refine wpQuiet_nil ?_
                      rintro W1 ⟨⟨X1, h1⟩, rfl⟩
                      clear S
                      have S := Lib.hid h1
                      clear g1a g1b l1a l1b Q1 m1 h1 ei1 ej1 v1 n1
                      go_wp2
                      go_meet
                      exact ⟨by rw [decide_eq_true ha, hL]; rfl, S⟩
                    | false =>
                      obtain ⟨i2, hi2⟩ : ∃ q, q = a - 1 := ⟨_, rfl⟩
                      have ei2 : ((a : Int) - 1).toNat = i2 := by omega
                      have pi2 : (0 : Int) ≤ (a : Int) - 1 := by omega
                      have bi2 : (a : Int) - 1 < (n : Int) := by omega
                      have ri2 : IntKind.i64.wrap ((a : Int) - 1) = (a : Int) - 1 := by rw [IntKind.wrap_i64]; omega
                      obtain ⟨j2, hj2⟩ : ∃ q, q = R.pivot := ⟨_, rfl⟩
                      have ej2 : ((R.pivot : Int)).toNat = j2 := by omega
                      have pj2 : (0 : Int) ≤ (R.pivot : Int) := by omega
                      have bj2 : (R.pivot : Int) < (n : Int) := by omega
                      have rj2 : IntKind.i64.wrap ((R.pivot : Int)) = (R.pivot : Int) := by rw [IntKind.wrap_i64]; omega
                      have l2a := Lib.hid (fun (x : SWT w b d3) => x.2.cell (a - 1) (by omega))
                      have l2b := Lib.hid (fun (x : SWT w b d3) => x.2.cell (R.pivot) (by omega))
                      have Q2 := Lib.hid (fun X (hX : SW w b d3 X) => HC.out d3 X hX d3[a - 1]! d3[R.pivot]! (HP.out _ (by omega)) (HP.out _ (by omega)))
                      have v2 : decide (cf d3[a - 1]! d3[R.pivot]! < 0) = false := hL
                      obtain ⟨x2, hx2⟩ : ∃ x, x = d3[a - 1]! := ⟨_, rfl⟩
                      obtain ⟨y2, hy2⟩ : ∃ x, x = d3[R.pivot]! := ⟨_, rfl⟩
                      rw [← hx2, ← hi2] at l2a
                      rw [← hy2, ← hj2] at l2b
                      rw [← hx2, ← hy2] at Q2 v2
                      clear hx2 hy2 hi2 hj2
                      generalize cf x2 y2 = r2 at Q2 v2
                      have n2 : ¬ r2 < 0 := of_decide_eq_false v2
                      go_wp2_with fail
                      have m2 : Nonempty (SWT w b d3) := ⟨⟨_, S.out⟩⟩
                      have g2a := l2a.out
                      have g2b := l2b.out
                      refine wp_region_class (fun w' => ∃ x : SWT w b d3, w' = x.1) (by kernel_rfl) (by kernel_rfl) ⟨⟨_, S.out.drew⟩, rfl⟩ ?_
                      repeat (go_big_quiet_step ((rename_i x; (go_at_call 37; refine (Q2.out _ x.2).mono ?_; rintro e w2 ⟨rfl, hb⟩; exact ⟨rfl, ⟨_, x.2.call hb⟩, rfl⟩))))
                      refine wpQuiet_nil ?_
                      rintro W2 ⟨⟨X2, h2⟩, rfl⟩
                      clear S
                      have S := Lib.hid h2
                      clear g2a g2b l2a l2b Q2 m2 h2 ei2 ej2 v2 n2
                      go_wp2
                      go_meet
                      exact ⟨by rw [decide_eq_true ha, hL]; rfl, S⟩
                  · have haz0 : ¬ ((0 : Int) < (a : Int)) := by omega
                    have haz1 : decide ((0 : Int) < (a : Int)) = false := decide_eq_false haz0
                    go_wp2_with fail
                    go_big_region
                    all_goals go_wp2
                    go_meet
                    exact ⟨by rw [decide_eq_false ha]; rfl, S.out.drew⟩
                case rest =>
                  clear S
                  obtain ⟨rfl, S⟩ := hcut
                  have hb3 : z ≤ dk.size := by omega
                  cases hq : (decide (0 < a) && !ltOf cf d3[a - 1]! d3[R.pivot]!)
                  · have h2 : a = 0 ∨ ltOf cf R.pi.1[a - 1]! R.pi.1[R.pivot]! = true := by
                      rw [← HD3.out]
                      rw [Bool.and_eq_false_iff] at hq
                      rcases hq with hq | hq
                      · exact .inl (by have := of_decide_eq_false hq; omega)
                      · exact .inr (by simpa using hq)
                    have PT := rd_part HS.out HR.out h12 HL0.out hb3 HB.out HPI.out h2
                    have HX := C62.out d3 hd3 wc S.out HP.out a z R.pivot hp1 hp2 hzn
                    rw [← HD3.out] at PT
                    clear hq h2
                    obtain ⟨mid, ap, d4, hpt⟩ : ∃ mid ap d4, Sort.partition (ltOf cf) d3 a z R.pivot = (mid, ap, d4) := ⟨_, _, _, rfl⟩
                    rw [hpt] at PT HX
                    clear hpt
                    have HX := Lib.hid HX
                    have hm1 := PT.m1
                    have hm2 := PT.m2
                    have PT := Lib.hid PT
                    have e8 : ((z : Int) - (a : Int)).tdiv 8 = (((z - a) / 8 : Nat) : Int) := by
                      rw [show (z : Int) - (a : Int) = ((z - a : Nat) : Int) by omega, Int.tdiv_eq_ediv_of_nonneg (by omega)]; omega
                    have e9 : ((z : Int) - (a : Int)) / 8 = (((z - a) / 8 : Nat) : Int) := by omega
                    clear S HP hd3
                    by_cases hlr : mid - a < z - mid
                    · have hlrz : (mid : Int) - (a : Int) < (z : Int) - (mid : Int) := by omega
                      have LF := Lib.hid (PT.out.left hlr)
                      go_wp2_with fail
                      refine HX.out.mono ?_
                      rintro e w5 ⟨rfl, S1, K1⟩
                      have hd4 := K1.1
                      have HP4 := Lib.hid K1.2
                      have S1 := Lib.hid S1
                      have HY := Lib.hid (IH.out (mid - a) (by omega) a mid R.lim d4 w5 (Nat.le_refl _) hd4 S1.out HP4.out hm1 (by omega) hll PT.out.bl)
                      clear K1
                      go_wp2_with fail
                      refine HY.out.mono ?_
                      rintro e w6 ⟨rfl, S2, K2⟩
                      have hd5 := K2.1
                      have HP5 := Lib.hid K2.2
                      have S2 := Lib.hid S2
                      clear K2 S1 HY
                      go_wp2_with fail
                      go_roundg (z - (mid + 1))
                      case measure => omega
                      case rel => exact ⟨mid + 1, z, R.lim, decide (mid - a ≥ (z - a) / 8), ap, _, by go_num, rfl, rfl, (by congr 1; rw [decide_eq_decide]; omega), rfl, by omega, hzn, Nat.le_refl _, by omega, hll, hd5, HP5, S2, LF.out.1, (show Hid _ from (by show _ = _; rw [← LF.out.2]; exact HE.out))⟩
                    · have hlrz : ¬ ((mid : Int) - (a : Int) < (z : Int) - (mid : Int)) := by omega
                      have RT := Lib.hid (PT.out.right hlr)
                      go_wp2_with fail
                      refine HX.out.mono ?_
                      rintro e w5 ⟨rfl, S1, K1⟩
                      have hd4 := K1.1
                      have HP4 := Lib.hid K1.2
                      have S1 := Lib.hid S1
                      have HY := Lib.hid (IH.out (z - (mid + 1)) (by omega) (mid + 1) z R.lim d4 w5 (Nat.le_refl _) hd4 S1.out HP4.out (by omega) hzn hll PT.out.br)
                      clear K1
                      go_wp2_with fail
                      refine HY.out.mono ?_
                      rintro e w6 ⟨rfl, S2, K2⟩
                      have hd5 := K2.1
                      have HP5 := Lib.hid K2.2
                      have S2 := Lib.hid S2
                      clear K2 S1 HY
                      go_wp2_with fail
                      go_roundg (mid - a)
                      case measure => omega
                      case rel => exact ⟨a, mid, R.lim, decide (z - mid ≥ (z - a) / 8), ap, _, rfl, rfl, rfl, (by congr 1; rw [decide_eq_decide]; omega), rfl, hm1, by omega, Nat.le_refl _, by omega, hll, hd5, HP5, S2, RT.out.1, (show Hid _ from (by show _ = _; rw [← RT.out.2]; exact HE.out))⟩
                  · have h2 : 0 < a ∧ ltOf cf d3[a - 1]! d3[R.pivot]! = false := by
                      rw [Bool.and_eq_true] at hq
                      exact ⟨of_decide_eq_true hq.1, by simpa using hq.2⟩
                    have PE := rd_eq HS.out HR.out h12 HL0.out hb3 HB.out HPI.out h2.1 (by rw [← HD3.out]; exact h2.2)
                    have HX := C61.out d3 hd3 wc S.out HP.out a z R.pivot hp1 hp2 hzn
                    rw [← HD3.out] at PE
                    clear hq h2
                    obtain ⟨mid, d4, hpt⟩ : ∃ mid d4, Sort.partitionEqual (ltOf cf) d3 a z R.pivot = (mid, d4) := ⟨_, _, rfl⟩
                    rw [hpt] at PE HX
                    clear hpt
                    have HX := Lib.hid HX
                    have hm1 := PE.1
                    have hm2 := PE.2.1
                    have PE := Lib.hid PE
                    clear S HP hd3
                    go_wp2_with fail
                    refine HX.out.mono ?_
                    rintro e w5 ⟨rfl, S1, K1⟩
                    have hd4 := K1.1
                    have HP4 := Lib.hid K1.2
                    have S1 := Lib.hid S1
                    clear K1
                    go_wp2_with fail
                    go_roundg (z - mid)
                    case measure => omega
                    case rel => exact ⟨mid, z, R.lim, wb, wp, _, rfl, rfl, rfl, rfl, rfl, hm2, hzn, Nat.le_refl _, by omega, hll, hd4, HP4, S1, PE.out.2.2.1, (show Hid _ from (by show _ = _; rw [← PE.out.2.2.2]; exact HE.out))⟩
end Go.Proofs.YtkmnlfbllfaieaaDoor
