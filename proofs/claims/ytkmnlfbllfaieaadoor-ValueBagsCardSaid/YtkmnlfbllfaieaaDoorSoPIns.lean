/- Contract of slices.partialInsertionSortCmpFunc at a bound method. Condition: the range is in the row and not empty. Written by gen/genpins.py. -/
import Derived.Test.YtkmnlfbllfaieaaDoorSoIns
import Derived.Sort.WalkA6
import Derived.Deep.CutBlock
namespace Go.Proofs.YtkmnlfbllfaieaaDoor
open Go.RowKit Go.Sort
set_option maxRecDepth 100000 in
set_option maxHeartbeats 16000000 in
theorem partialIns_any (w : World) (b c n : Nat) (P : Int → Prop) (cf : Int → Int → Int) (rv : Value) (hc : CmpOf w b P cf rv) (d : Array Int) (W : World) (hn : d.size = n) (hm : n ≤ 140737488355328) (h : SW w b d W) (hP : ∀ j, j < n → P d[j]!) (lo hi : Nat) (hlo : lo < hi) (hhi : hi ≤ n) :
    Calls Tryd.prog 60 #[.slice (some ⟨b, 0, none⟩) n c, .int .i64 lo, .int .i64 hi, .func (.func 37) #[rv] #[]] W fun e w' => e = .returned (.bool (Sort.partialInsertionSort (ltOf cf) d lo hi).2) ∧ SW w b (Sort.partialInsertionSort (ltOf cf) d lo hi).1 w' ∧ Kept P n (Sort.partialInsertionSort (ltOf cf) d lo hi).1 := by
  have S := Lib.hid h
  have HC := Lib.hid hc
  have HP := Lib.hid hP
  have HG : Hid (Sort.partialInsertionSort (ltOf cf) d lo hi = Sort.partialIns (ltOf cf) lo hi 5 (lo + 1) d) := rfl
  clear h hc hP
  go_enter Tryd.func60, Tryd.ntmps60
  go_wp2_with fail
  go_loopg [9, 10] 5 (fun kg s9 s10 wr => ∃ (i s : Nat) (dk : Array Int), s9 = .int .i64 i ∧ s10 = .int .i64 s ∧ s + kg = 5 ∧ lo < i ∧ i ≤ hi ∧ dk.size = n ∧ Hid (∀ j, j < n → P dk[j]!) ∧ Hid (SW w b dk wr) ∧ Hid (Sort.partialIns (ltOf cf) lo hi (5 - s) i dk = Sort.partialIns (ltOf cf) lo hi 5 (lo + 1) d))
  case atStart => exact ⟨lo + 1, 0, d, by go_num, rfl, rfl, by omega, by omega, hn, HP, S, rfl⟩
  case round =>
    clear S HP
    obtain ⟨i, s, dk, rfl, rfl, hsk, hil, hih, hds, HP, S, HE⟩ := hrel
    cases gk with
    | zero =>
      obtain rfl : s = 5 := by omega
      go_wp2_with fail
      go_ret
      rw [HG.out, ← HE.out]
      exact ⟨rfl, S.out, hds, HP.out⟩
    | succ g =>
      have hs5 : s < 5 := by omega
      have hs5z : (s : Int) < 5 := by omega
      go_upto_block 2 with fail
      go_cut [9] from 15 to 140 (fun s9 wx => ∃ i2 : Nat, s9 = .int .i64 i2 ∧ i ≤ i2 ∧ i2 ≤ hi ∧ Hid (Sort.scanSorted (ltOf cf) dk hi i = i2) ∧ Hid (SW w b dk wx))
      case first =>
        go_wp2_with fail
        go_loopg [9] (hi - i) (fun kg s9 wr => ∃ ik : Nat, s9 = .int .i64 ik ∧ i ≤ ik ∧ ik ≤ hi ∧ hi - ik ≤ kg ∧ Hid (Sort.scanSorted (ltOf cf) dk hi i = Sort.scanSorted (ltOf cf) dk hi ik) ∧ Hid (SW w b dk wr))
        case atStart => exact ⟨i, rfl, Nat.le_refl _, by omega, Nat.le_refl _, rfl, S⟩
        case round =>
          clear S
          obtain ⟨ik, rfl, h1, h2, h3, HU, S⟩ := hrel
          by_cases hle : ik < hi
          · have hlez : (ik : Int) < (hi : Int) := by omega
            cases hL : ltOf cf dk[ik]! dk[ik - 1]! with
            | true =>
              obtain ⟨i1, hi1⟩ : ∃ q, q = ik := ⟨_, rfl⟩
              have ei1 : ((ik : Int)).toNat = i1 := by omega
              have pi1 : (0 : Int) ≤ (ik : Int) := by omega
              have bi1 : (ik : Int) < (n : Int) := by omega
              have ri1 : IntKind.i64.wrap ((ik : Int)) = (ik : Int) := by rw [IntKind.wrap_i64]; omega
              obtain ⟨j1, hj1⟩ : ∃ q, q = ik - 1 := ⟨_, rfl⟩
              have ej1 : ((ik : Int) - 1).toNat = j1 := by omega
              have pj1 : (0 : Int) ≤ (ik : Int) - 1 := by omega
              have bj1 : (ik : Int) - 1 < (n : Int) := by omega
              have rj1 : IntKind.i64.wrap ((ik : Int) - 1) = (ik : Int) - 1 := by rw [IntKind.wrap_i64]; omega
              have l1a := Lib.hid (fun (x : SWT w b dk) => x.2.cell (ik) (by omega))
              have l1b := Lib.hid (fun (x : SWT w b dk) => x.2.cell (ik - 1) (by omega))
              have Q1 := Lib.hid (fun X (hX : SW w b dk X) => HC.out dk X hX dk[ik]! dk[ik - 1]! (HP.out _ (by omega)) (HP.out _ (by omega)))
              have v1 : decide (cf dk[ik]! dk[ik - 1]! < 0) = true := hL
              obtain ⟨x1, hx1⟩ : ∃ x, x = dk[ik]! := ⟨_, rfl⟩
              obtain ⟨y1, hy1⟩ : ∃ x, x = dk[ik - 1]! := ⟨_, rfl⟩
              rw [← hx1, ← hi1] at l1a
              rw [← hy1, ← hj1] at l1b
              rw [← hx1, ← hy1] at Q1 v1
              clear hx1 hy1 hi1 hj1
              generalize cf x1 y1 = r1 at Q1 v1
              have n1 : r1 < 0 := of_decide_eq_true v1
              go_wp2_with fail
              have m1 : Nonempty (SWT w b dk) := ⟨⟨_, S.out⟩⟩
              have g1a := l1a.out
              have g1b := l1b.out
              refine wp_region_class (fun w' => ∃ x : SWT w b dk, w' = x.1) (by kernel_rfl) (by kernel_rfl) ⟨⟨_, S.out.drew⟩, rfl⟩ ?_
              repeat (go_big_quiet_step ((rename_i x; (go_at_call 37; refine (Q1.out _ x.2).mono ?_; rintro e w2 ⟨rfl, hb⟩; exact ⟨rfl, ⟨_, x.2.call hb⟩, rfl⟩))))
              refine wpQuiet_nil ?_
              rintro W1 ⟨⟨X1, h1⟩, rfl⟩
              clear S
              have S := Lib.hid h1
              clear g1a g1b l1a l1b Q1 m1 h1 ei1 ej1 v1 n1
              go_wp2
              go_meet
              exact ⟨ik, rfl, h1, h2, (show Hid _ from (by show _ = _; rw [HU.out]; exact scanSorted_stop (ltOf cf) dk hi ik (.inr hL))), S⟩
            | false =>
              obtain ⟨i2, hi2⟩ : ∃ q, q = ik := ⟨_, rfl⟩
              have ei2 : ((ik : Int)).toNat = i2 := by omega
              have pi2 : (0 : Int) ≤ (ik : Int) := by omega
              have bi2 : (ik : Int) < (n : Int) := by omega
              have ri2 : IntKind.i64.wrap ((ik : Int)) = (ik : Int) := by rw [IntKind.wrap_i64]; omega
              obtain ⟨j2, hj2⟩ : ∃ q, q = ik - 1 := ⟨_, rfl⟩
              have ej2 : ((ik : Int) - 1).toNat = j2 := by omega
              have pj2 : (0 : Int) ≤ (ik : Int) - 1 := by omega
              have bj2 : (ik : Int) - 1 < (n : Int) := by omega
              have rj2 : IntKind.i64.wrap ((ik : Int) - 1) = (ik : Int) - 1 := by rw [IntKind.wrap_i64]; omega
              have l2a := Lib.hid (fun (x : SWT w b dk) => x.2.cell (ik) (by omega))
              have l2b := Lib.hid (fun (x : SWT w b dk) => x.2.cell (ik - 1) (by omega))
              have Q2 := Lib.hid (fun X (hX : SW w b dk X) => HC.out dk X hX dk[ik]! dk[ik - 1]! (HP.out _ (by omega)) (HP.out _ (by omega)))
              have v2 : decide (cf dk[ik]! dk[ik - 1]! < 0) = false := hL
              obtain ⟨x2, hx2⟩ : ∃ x, x = dk[ik]! := ⟨_, rfl⟩
              obtain ⟨y2, hy2⟩ : ∃ x, x = dk[ik - 1]! := ⟨_, rfl⟩
              rw [← hx2, ← hi2] at l2a
              rw [← hy2, ← hj2] at l2b
              rw [← hx2, ← hy2] at Q2 v2
              clear hx2 hy2 hi2 hj2
              generalize cf x2 y2 = r2 at Q2 v2
              have n2 : ¬ r2 < 0 := of_decide_eq_false v2
              go_wp2_with fail
              have m2 : Nonempty (SWT w b dk) := ⟨⟨_, S.out⟩⟩
              have g2a := l2a.out
              have g2b := l2b.out
              refine wp_region_class (fun w' => ∃ x : SWT w b dk, w' = x.1) (by kernel_rfl) (by kernel_rfl) ⟨⟨_, S.out.drew⟩, rfl⟩ ?_
              repeat (go_big_quiet_step ((rename_i x; (go_at_call 37; refine (Q2.out _ x.2).mono ?_; rintro e w2 ⟨rfl, hb⟩; exact ⟨rfl, ⟨_, x.2.call hb⟩, rfl⟩))))
              refine wpQuiet_nil ?_
              rintro W2 ⟨⟨X2, h2⟩, rfl⟩
              clear S
              have S := Lib.hid h2
              clear g2a g2b l2a l2b Q2 m2 h2 ei2 ej2 v2 n2
              go_wp2
              go_roundg (hi - (ik + 1))
              case measure => omega
              case rel => exact ⟨ik + 1, by go_num, by omega, by omega, Nat.le_refl _, (show Hid _ from (by show _ = _; rw [HU.out]; exact scanSorted_go (ltOf cf) dk hi ik hle hL)), S⟩
          · have hlez : ¬ ((ik : Int) < (hi : Int)) := by omega
            have hled : decide ((ik : Int) < (hi : Int)) = false := decide_eq_false hlez
            go_wp2_with fail
            go_big_region
            all_goals go_wp2
            go_meet
            exact ⟨ik, rfl, h1, h2, (show Hid _ from (by show _ = _; rw [HU.out]; exact scanSorted_stop (ltOf cf) dk hi ik (.inl hle))), S.out.drew⟩
      case rest =>
        clear S
        obtain ⟨i2, rfl, hi21, hi22, HU, S⟩ := hcut
        by_cases heq : i2 = hi
        · have heqz : ((i2 : Int) == (hi : Int)) = true := by rw [beq_iff_eq]; omega
          have HT := Lib.hid (pi_true (ltOf cf) lo hi s i dk hs5 (HU.out.trans heq))
          clear heq
          go_wp2_with fail
          go_ret
          rw [HG.out, ← HE.out, HT.out]
          exact ⟨rfl, S.out, hds, HP.out⟩
        · have heqz : ((i2 : Int) == (hi : Int)) = false := by rw [beq_eq_false_iff_ne]; omega
          have hlt : i2 < hi := by omega
          by_cases h50 : hi - lo < 50
          · have h50z : (hi : Int) - (lo : Int) < 50 := by omega
            have HT := Lib.hid (pi_short (ltOf cf) lo hi s i dk hs5 (by rw [HU.out]; exact heq) h50)
            clear heq
            go_wp2_with fail
            go_ret
            rw [HG.out, ← HE.out, HT.out]
            exact ⟨rfl, S.out, hds, HP.out⟩
          · have h50z : ¬ ((hi : Int) - (lo : Int) < 50) := by omega
            have HT := Lib.hid ((pi_go (ltOf cf) lo hi s i i2 dk hs5 HU.out heq h50).symm.trans HE.out)
            clear heq HE HU
            obtain ⟨i3, hi3⟩ : ∃ q, q = i2 := ⟨_, rfl⟩
            have ei3 : ((i2 : Int)).toNat = i3 := by omega
            have pi3 : (0 : Int) ≤ (i2 : Int) := by omega
            have bi3 : (i2 : Int) < (n : Int) := by omega
            have ri3 : IntKind.i64.wrap ((i2 : Int)) = (i2 : Int) := by rw [IntKind.wrap_i64]; omega
            obtain ⟨j3, hj3⟩ : ∃ q, q = i2 - 1 := ⟨_, rfl⟩
            have ej3 : ((i2 : Int) - 1).toNat = j3 := by omega
            have pj3 : (0 : Int) ≤ (i2 : Int) - 1 := by omega
            have bj3 : (i2 : Int) - 1 < (n : Int) := by omega
            have rj3 : IntKind.i64.wrap ((i2 : Int) - 1) = (i2 : Int) - 1 := by rw [IntKind.wrap_i64]; omega
            obtain ⟨x3, hx3⟩ : ∃ x, x = dk[i2]! := ⟨_, rfl⟩
            obtain ⟨y3, hy3⟩ : ∃ x, x = dk[i2 - 1]! := ⟨_, rfl⟩
            have T3 : Hid (SW w b (Sort.swp dk (i2) (i2 - 1)) (World.setCell (World.setCell wc ⟨b, i3, none⟩ (.int .i64 y3)) ⟨b, j3, none⟩ (.int .i64 x3)).drew) := by rw [hi3, hj3, hx3, hy3]; exact (S.out.swp (i2) (i2 - 1)).drew
            have c3a := S.out.cell (i2) (by omega)
            have c3b := S.out.cell (i2 - 1) (by omega)
            have f3a := S.out.free (i2)
            have f3b := S.out.free (i2 - 1)
            obtain ⟨u3, c3c⟩ := S.out.cell2 (i2) (i2 - 1) (by omega) y3
            rw [← hj3, ← hi3] at c3c
            rw [← hx3, ← hi3] at c3a
            rw [← hy3, ← hj3] at c3b
            rw [← hi3] at f3a
            rw [← hj3] at f3b
            clear S hx3 hy3 hi3 hj3
            go_wp2_with fail
            go_big_region
            clear c3a c3b c3c f3a f3b
            generalize (World.setCell (World.setCell wc ⟨b, i3, none⟩ (.int .i64 y3)) ⟨b, j3, none⟩ (.int .i64 x3)).drew = V3 at T3 ⊢
            clear ei3 ej3
            have S := T3
            clear T3
            have hds2 : (Sort.swp dk i2 (i2 - 1)).size = n := by rw [size_swp]; exact hds
            have HP2 := Lib.hid (swpIn hds HP.out (i := i2) (k := i2 - 1) (by omega) (by omega))
            clear HP hds
            obtain ⟨dl, hdl⟩ : ∃ dl, dl = Sort.swp dk i2 (i2 - 1) := ⟨_, rfl⟩
            rw [← hdl] at S HT hds2 HP2
            clear hdl
            have HP := HP2
            clear HP2

            go_upto_if 65 with fail
            go_cut [] from 15 to 140 (fun wx => ∃ d1 : Array Int, Hid (d1 = fixDown (ltOf cf) lo i2 dl) ∧ d1.size = n ∧ Hid (∀ j, j < n → P d1[j]!) ∧ Hid (SW w b d1 wx))
            case first =>
              by_cases h2 : 2 ≤ i2 - lo
              · have h2z : (2 : Int) ≤ (i2 : Int) - (lo : Int) := by omega
                have HF : Hid (fixDown (ltOf cf) lo i2 dl = Sort.shiftDown (ltOf cf) (i2 - 1) dl) := if_pos h2
                clear h2
                go_wp2_with fail
                go_loopg [11] i2 (fun kg s11 wr => ∃ (jk : Nat) (dj : Array Int), s11 = .int .i64 jk ∧ jk < i2 ∧ jk ≤ kg ∧ dj.size = n ∧ Hid (∀ j, j < n → P dj[j]!) ∧ Hid (SW w b dj wr) ∧ Hid (Sort.shiftDown (ltOf cf) jk dj = Sort.shiftDown (ltOf cf) (i2 - 1) dl))
                case atStart => exact ⟨i2 - 1, dl, (by rw [show ((i2 - 1 : Nat) : Int) = (i2 : Int) - 1 by omega]), by omega, by omega, hds2, HP, S, rfl⟩
                case round =>
                  clear S HP
                  obtain ⟨jk, dj, rfl, h3, h4, hdj, HP, S, HU⟩ := hrel
                  by_cases h5 : 1 ≤ jk
                  · have h5z : (1 : Int) ≤ (jk : Int) := by omega
                    cases hL : ltOf cf dj[jk]! dj[jk - 1]! with
                    | true =>
                      obtain ⟨i4, hi4⟩ : ∃ q, q = jk := ⟨_, rfl⟩
                      have ei4 : ((jk : Int)).toNat = i4 := by omega
                      have pi4 : (0 : Int) ≤ (jk : Int) := by omega
                      have bi4 : (jk : Int) < (n : Int) := by omega
                      have ri4 : IntKind.i64.wrap ((jk : Int)) = (jk : Int) := by rw [IntKind.wrap_i64]; omega
                      obtain ⟨j4, hj4⟩ : ∃ q, q = jk - 1 := ⟨_, rfl⟩
                      have ej4 : ((jk : Int) - 1).toNat = j4 := by omega
                      have pj4 : (0 : Int) ≤ (jk : Int) - 1 := by omega
                      have bj4 : (jk : Int) - 1 < (n : Int) := by omega
                      have rj4 : IntKind.i64.wrap ((jk : Int) - 1) = (jk : Int) - 1 := by rw [IntKind.wrap_i64]; omega
                      have l4a := Lib.hid (fun (x : SWT w b dj) => x.2.cell (jk) (by omega))
                      have l4b := Lib.hid (fun (x : SWT w b dj) => x.2.cell (jk - 1) (by omega))
                      have Q4 := Lib.hid (fun X (hX : SW w b dj X) => HC.out dj X hX dj[jk]! dj[jk - 1]! (HP.out _ (by omega)) (HP.out _ (by omega)))
                      have v4 : decide (cf dj[jk]! dj[jk - 1]! < 0) = true := hL
                      obtain ⟨x4, hx4⟩ : ∃ x, x = dj[jk]! := ⟨_, rfl⟩
                      obtain ⟨y4, hy4⟩ : ∃ x, x = dj[jk - 1]! := ⟨_, rfl⟩
                      rw [← hx4, ← hi4] at l4a
                      rw [← hy4, ← hj4] at l4b
                      rw [← hx4, ← hy4] at Q4 v4
                      clear hx4 hy4 hi4 hj4
                      generalize cf x4 y4 = r4 at Q4 v4
                      have n4 : r4 < 0 := of_decide_eq_true v4
                      go_wp2_with fail
                      have m4 : Nonempty (SWT w b dj) := ⟨⟨_, S.out⟩⟩
                      have g4a := l4a.out
                      have g4b := l4b.out
                      refine wp_region_class (fun w' => ∃ x : SWT w b dj, w' = x.1) (by kernel_rfl) (by kernel_rfl) ⟨⟨_, S.out.drew⟩, rfl⟩ ?_
                      repeat (go_big_quiet_step ((rename_i x; (go_at_call 37; refine (Q4.out _ x.2).mono ?_; rintro e w2 ⟨rfl, hb⟩; exact ⟨rfl, ⟨_, x.2.call hb⟩, rfl⟩))))
                      refine wpQuiet_nil ?_
                      rintro W4 ⟨⟨X4, h4⟩, rfl⟩
                      clear S
                      have S := Lib.hid h4
                      clear g4a g4b l4a l4b Q4 m4 h4 ei4 ej4 v4 n4
                      go_wp2_with fail
                      obtain ⟨i5, hi5⟩ : ∃ q, q = jk := ⟨_, rfl⟩
                      have ei5 : ((jk : Int)).toNat = i5 := by omega
                      have pi5 : (0 : Int) ≤ (jk : Int) := by omega
                      have bi5 : (jk : Int) < (n : Int) := by omega
                      have ri5 : IntKind.i64.wrap ((jk : Int)) = (jk : Int) := by rw [IntKind.wrap_i64]; omega
                      obtain ⟨j5, hj5⟩ : ∃ q, q = jk - 1 := ⟨_, rfl⟩
                      have ej5 : ((jk : Int) - 1).toNat = j5 := by omega
                      have pj5 : (0 : Int) ≤ (jk : Int) - 1 := by omega
                      have bj5 : (jk : Int) - 1 < (n : Int) := by omega
                      have rj5 : IntKind.i64.wrap ((jk : Int) - 1) = (jk : Int) - 1 := by rw [IntKind.wrap_i64]; omega
                      obtain ⟨x5, hx5⟩ : ∃ x, x = dj[jk]! := ⟨_, rfl⟩
                      obtain ⟨y5, hy5⟩ : ∃ x, x = dj[jk - 1]! := ⟨_, rfl⟩
                      have T5 : Hid (SW w b (Sort.swp dj (jk) (jk - 1)) (World.setCell (World.setCell W4 ⟨b, i5, none⟩ (.int .i64 y5)) ⟨b, j5, none⟩ (.int .i64 x5)).drew) := by rw [hi5, hj5, hx5, hy5]; exact (S.out.swp (jk) (jk - 1)).drew
                      have c5a := S.out.cell (jk) (by omega)
                      have c5b := S.out.cell (jk - 1) (by omega)
                      have f5a := S.out.free (jk)
                      have f5b := S.out.free (jk - 1)
                      obtain ⟨u5, c5c⟩ := S.out.cell2 (jk) (jk - 1) (by omega) y5
                      rw [← hj5, ← hi5] at c5c
                      rw [← hx5, ← hi5] at c5a
                      rw [← hy5, ← hj5] at c5b
                      rw [← hi5] at f5a
                      rw [← hj5] at f5b
                      clear S hx5 hy5 hi5 hj5
                      go_wp2_with fail
                      go_big_region
                      clear c5a c5b c5c f5a f5b
                      generalize (World.setCell (World.setCell W4 ⟨b, i5, none⟩ (.int .i64 y5)) ⟨b, j5, none⟩ (.int .i64 x5)).drew = V5 at T5 ⊢
                      clear ei5 ej5
                      have S := T5
                      clear T5
                      go_wp2
                      go_roundg (jk - 1)
                      case measure => omega
                      case rel => exact ⟨jk - 1, Sort.swp dj jk (jk - 1), (by rw [show ((jk - 1 : Nat) : Int) = (jk : Int) - 1 by omega]), by omega, Nat.le_refl _, by rw [size_swp]; exact hdj, swpIn hdj HP.out (by omega) (by omega), S, (show Hid _ from (by show _ = _; rw [← HU.out]; exact (shiftDown_go (ltOf cf) jk dj h5 hL).symm))⟩
                    | false =>
                      obtain ⟨i6, hi6⟩ : ∃ q, q = jk := ⟨_, rfl⟩
                      have ei6 : ((jk : Int)).toNat = i6 := by omega
                      have pi6 : (0 : Int) ≤ (jk : Int) := by omega
                      have bi6 : (jk : Int) < (n : Int) := by omega
                      have ri6 : IntKind.i64.wrap ((jk : Int)) = (jk : Int) := by rw [IntKind.wrap_i64]; omega
                      obtain ⟨j6, hj6⟩ : ∃ q, q = jk - 1 := ⟨_, rfl⟩
                      have ej6 : ((jk : Int) - 1).toNat = j6 := by omega
                      have pj6 : (0 : Int) ≤ (jk : Int) - 1 := by omega
                      have bj6 : (jk : Int) - 1 < (n : Int) := by omega
                      have rj6 : IntKind.i64.wrap ((jk : Int) - 1) = (jk : Int) - 1 := by rw [IntKind.wrap_i64]; omega
                      have l6a := Lib.hid (fun (x : SWT w b dj) => x.2.cell (jk) (by omega))
                      have l6b := Lib.hid (fun (x : SWT w b dj) => x.2.cell (jk - 1) (by omega))
                      have Q6 := Lib.hid (fun X (hX : SW w b dj X) => HC.out dj X hX dj[jk]! dj[jk - 1]! (HP.out _ (by omega)) (HP.out _ (by omega)))
                      have v6 : decide (cf dj[jk]! dj[jk - 1]! < 0) = false := hL
                      obtain ⟨x6, hx6⟩ : ∃ x, x = dj[jk]! := ⟨_, rfl⟩
                      obtain ⟨y6, hy6⟩ : ∃ x, x = dj[jk - 1]! := ⟨_, rfl⟩
                      rw [← hx6, ← hi6] at l6a
                      rw [← hy6, ← hj6] at l6b
                      rw [← hx6, ← hy6] at Q6 v6
                      clear hx6 hy6 hi6 hj6
                      generalize cf x6 y6 = r6 at Q6 v6
                      have n6 : ¬ r6 < 0 := of_decide_eq_false v6
                      go_wp2_with fail
                      have m6 : Nonempty (SWT w b dj) := ⟨⟨_, S.out⟩⟩
                      have g6a := l6a.out
                      have g6b := l6b.out
                      refine wp_region_class (fun w' => ∃ x : SWT w b dj, w' = x.1) (by kernel_rfl) (by kernel_rfl) ⟨⟨_, S.out.drew⟩, rfl⟩ ?_
                      repeat (go_big_quiet_step ((rename_i x; (go_at_call 37; refine (Q6.out _ x.2).mono ?_; rintro e w2 ⟨rfl, hb⟩; exact ⟨rfl, ⟨_, x.2.call hb⟩, rfl⟩))))
                      refine wpQuiet_nil ?_
                      rintro W6 ⟨⟨X6, h6⟩, rfl⟩
                      clear S
                      have S := Lib.hid h6
                      clear g6a g6b l6a l6b Q6 m6 h6 ei6 ej6 v6 n6
                      go_wp2
                      go_meet
                      exact ⟨dj, (show Hid _ from (by show _ = _; rw [HF.out, ← HU.out]; exact (shiftDown_stop (ltOf cf) jk dj (.inr hL)).symm)), hdj, HP, S⟩
                  · have h5z : ¬ ((1 : Int) ≤ (jk : Int)) := by omega
                    go_wp2
                    go_meet
                    exact ⟨dj, (show Hid _ from (by show _ = _; rw [HF.out, ← HU.out]; exact (shiftDown_stop (ltOf cf) jk dj (.inl (by omega))).symm)), hdj, HP, S⟩
              · have h2z : ¬ ((2 : Int) ≤ (i2 : Int) - (lo : Int)) := by omega
                have HF : Hid (fixDown (ltOf cf) lo i2 dl = dl) := if_neg h2
                clear h2
                go_wp2_with fail
                go_meet
                exact ⟨dl, (show Hid _ from HF.out.symm), hds2, HP, S⟩
            case rest =>
              clear S HP hds2
              obtain ⟨d1, Hd1, hds2, HP, S⟩ := hcut
              rw [← Hd1.out] at HT
              clear Hd1
              by_cases h2 : 2 ≤ hi - i2
              · have h2z : (2 : Int) ≤ (hi : Int) - (i2 : Int) := by omega
                have HF : Hid (fixUp (ltOf cf) hi i2 d1 = Sort.shiftUp (ltOf cf) hi (i2 + 1) d1) := if_pos h2
                clear h2
                go_wp2_with fail
                go_loopg [12] (hi - i2) (fun kg s11 wr => ∃ (jk : Nat) (dj : Array Int), s11 = .int .i64 jk ∧ i2 < jk ∧ jk ≤ hi ∧ hi - jk ≤ kg ∧ dj.size = n ∧ Hid (∀ j, j < n → P dj[j]!) ∧ Hid (SW w b dj wr) ∧ Hid (Sort.shiftUp (ltOf cf) hi jk dj = Sort.shiftUp (ltOf cf) hi (i2 + 1) d1))
                case atStart => exact ⟨i2 + 1, d1, by go_num, by omega, by omega, by omega, hds2, HP, S, rfl⟩
                case round =>
                  clear S HP
                  obtain ⟨jk, dj, rfl, h3, h3b, h4, hdj, HP, S, HU⟩ := hrel
                  by_cases h5 : jk < hi
                  · have h5z : (jk : Int) < (hi : Int) := by omega
                    cases hL : ltOf cf dj[jk]! dj[jk - 1]! with
                    | true =>
                      obtain ⟨i7, hi7⟩ : ∃ q, q = jk := ⟨_, rfl⟩
                      have ei7 : ((jk : Int)).toNat = i7 := by omega
                      have pi7 : (0 : Int) ≤ (jk : Int) := by omega
                      have bi7 : (jk : Int) < (n : Int) := by omega
                      have ri7 : IntKind.i64.wrap ((jk : Int)) = (jk : Int) := by rw [IntKind.wrap_i64]; omega
                      obtain ⟨j7, hj7⟩ : ∃ q, q = jk - 1 := ⟨_, rfl⟩
                      have ej7 : ((jk : Int) - 1).toNat = j7 := by omega
                      have pj7 : (0 : Int) ≤ (jk : Int) - 1 := by omega
                      have bj7 : (jk : Int) - 1 < (n : Int) := by omega
                      have rj7 : IntKind.i64.wrap ((jk : Int) - 1) = (jk : Int) - 1 := by rw [IntKind.wrap_i64]; omega
                      have l7a := Lib.hid (fun (x : SWT w b dj) => x.2.cell (jk) (by omega))
                      have l7b := Lib.hid (fun (x : SWT w b dj) => x.2.cell (jk - 1) (by omega))
                      have Q7 := Lib.hid (fun X (hX : SW w b dj X) => HC.out dj X hX dj[jk]! dj[jk - 1]! (HP.out _ (by omega)) (HP.out _ (by omega)))
                      have v7 : decide (cf dj[jk]! dj[jk - 1]! < 0) = true := hL
                      obtain ⟨x7, hx7⟩ : ∃ x, x = dj[jk]! := ⟨_, rfl⟩
                      obtain ⟨y7, hy7⟩ : ∃ x, x = dj[jk - 1]! := ⟨_, rfl⟩
                      rw [← hx7, ← hi7] at l7a
                      rw [← hy7, ← hj7] at l7b
                      rw [← hx7, ← hy7] at Q7 v7
                      clear hx7 hy7 hi7 hj7
                      generalize cf x7 y7 = r7 at Q7 v7
                      have n7 : r7 < 0 := of_decide_eq_true v7
                      go_wp2_with fail
                      have m7 : Nonempty (SWT w b dj) := ⟨⟨_, S.out⟩⟩
                      have g7a := l7a.out
                      have g7b := l7b.out
                      refine wp_region_class (fun w' => ∃ x : SWT w b dj, w' = x.1) (by kernel_rfl) (by kernel_rfl) ⟨⟨_, S.out.drew⟩, rfl⟩ ?_
                      repeat (go_big_quiet_step ((rename_i x; (go_at_call 37; refine (Q7.out _ x.2).mono ?_; rintro e w2 ⟨rfl, hb⟩; exact ⟨rfl, ⟨_, x.2.call hb⟩, rfl⟩))))
                      refine wpQuiet_nil ?_
                      rintro W7 ⟨⟨X7, h7⟩, rfl⟩
                      clear S
                      have S := Lib.hid h7
                      clear g7a g7b l7a l7b Q7 m7 h7 ei7 ej7 v7 n7
                      go_wp2_with fail
                      obtain ⟨i8, hi8⟩ : ∃ q, q = jk := ⟨_, rfl⟩
                      have ei8 : ((jk : Int)).toNat = i8 := by omega
                      have pi8 : (0 : Int) ≤ (jk : Int) := by omega
                      have bi8 : (jk : Int) < (n : Int) := by omega
                      have ri8 : IntKind.i64.wrap ((jk : Int)) = (jk : Int) := by rw [IntKind.wrap_i64]; omega
                      obtain ⟨j8, hj8⟩ : ∃ q, q = jk - 1 := ⟨_, rfl⟩
                      have ej8 : ((jk : Int) - 1).toNat = j8 := by omega
                      have pj8 : (0 : Int) ≤ (jk : Int) - 1 := by omega
                      have bj8 : (jk : Int) - 1 < (n : Int) := by omega
                      have rj8 : IntKind.i64.wrap ((jk : Int) - 1) = (jk : Int) - 1 := by rw [IntKind.wrap_i64]; omega
                      obtain ⟨x8, hx8⟩ : ∃ x, x = dj[jk]! := ⟨_, rfl⟩
                      obtain ⟨y8, hy8⟩ : ∃ x, x = dj[jk - 1]! := ⟨_, rfl⟩
                      have T8 : Hid (SW w b (Sort.swp dj (jk) (jk - 1)) (World.setCell (World.setCell W7 ⟨b, i8, none⟩ (.int .i64 y8)) ⟨b, j8, none⟩ (.int .i64 x8)).drew) := by rw [hi8, hj8, hx8, hy8]; exact (S.out.swp (jk) (jk - 1)).drew
                      have c8a := S.out.cell (jk) (by omega)
                      have c8b := S.out.cell (jk - 1) (by omega)
                      have f8a := S.out.free (jk)
                      have f8b := S.out.free (jk - 1)
                      obtain ⟨u8, c8c⟩ := S.out.cell2 (jk) (jk - 1) (by omega) y8
                      rw [← hj8, ← hi8] at c8c
                      rw [← hx8, ← hi8] at c8a
                      rw [← hy8, ← hj8] at c8b
                      rw [← hi8] at f8a
                      rw [← hj8] at f8b
                      clear S hx8 hy8 hi8 hj8
                      go_wp2_with fail
                      go_big_region
                      clear c8a c8b c8c f8a f8b
                      generalize (World.setCell (World.setCell W7 ⟨b, i8, none⟩ (.int .i64 y8)) ⟨b, j8, none⟩ (.int .i64 x8)).drew = V8 at T8 ⊢
                      clear ei8 ej8
                      have S := T8
                      clear T8
                      go_wp2
                      go_roundg (hi - (jk + 1))
                      case measure => omega
                      case rel => exact ⟨jk + 1, Sort.swp dj jk (jk - 1), by go_num, by omega, by omega, Nat.le_refl _, by rw [size_swp]; exact hdj, swpIn hdj HP.out (by omega) (by omega), S, (show Hid _ from (by show _ = _; rw [← HU.out]; exact (shiftUp_go (ltOf cf) hi jk dj h5 hL).symm))⟩
                    | false =>
                      obtain ⟨i9, hi9⟩ : ∃ q, q = jk := ⟨_, rfl⟩
                      have ei9 : ((jk : Int)).toNat = i9 := by omega
                      have pi9 : (0 : Int) ≤ (jk : Int) := by omega
                      have bi9 : (jk : Int) < (n : Int) := by omega
                      have ri9 : IntKind.i64.wrap ((jk : Int)) = (jk : Int) := by rw [IntKind.wrap_i64]; omega
                      obtain ⟨j9, hj9⟩ : ∃ q, q = jk - 1 := ⟨_, rfl⟩
                      have ej9 : ((jk : Int) - 1).toNat = j9 := by omega
                      have pj9 : (0 : Int) ≤ (jk : Int) - 1 := by omega
                      have bj9 : (jk : Int) - 1 < (n : Int) := by omega
                      have rj9 : IntKind.i64.wrap ((jk : Int) - 1) = (jk : Int) - 1 := by rw [IntKind.wrap_i64]; omega
                      have l9a := Lib.hid (fun (x : SWT w b dj) => x.2.cell (jk) (by omega))
                      have l9b := Lib.hid (fun (x : SWT w b dj) => x.2.cell (jk - 1) (by omega))
                      have Q9 := Lib.hid (fun X (hX : SW w b dj X) => HC.out dj X hX dj[jk]! dj[jk - 1]! (HP.out _ (by omega)) (HP.out _ (by omega)))
                      have v9 : decide (cf dj[jk]! dj[jk - 1]! < 0) = false := hL
                      obtain ⟨x9, hx9⟩ : ∃ x, x = dj[jk]! := ⟨_, rfl⟩
                      obtain ⟨y9, hy9⟩ : ∃ x, x = dj[jk - 1]! := ⟨_, rfl⟩
                      rw [← hx9, ← hi9] at l9a
                      rw [← hy9, ← hj9] at l9b
                      rw [← hx9, ← hy9] at Q9 v9
                      clear hx9 hy9 hi9 hj9
                      generalize cf x9 y9 = r9 at Q9 v9
                      have n9 : ¬ r9 < 0 := of_decide_eq_false v9
                      go_wp2_with fail
                      have m9 : Nonempty (SWT w b dj) := ⟨⟨_, S.out⟩⟩
                      have g9a := l9a.out
                      have g9b := l9b.out
                      refine wp_region_class (fun w' => ∃ x : SWT w b dj, w' = x.1) (by kernel_rfl) (by kernel_rfl) ⟨⟨_, S.out.drew⟩, rfl⟩ ?_
                      repeat (go_big_quiet_step ((rename_i x; (go_at_call 37; refine (Q9.out _ x.2).mono ?_; rintro e w2 ⟨rfl, hb⟩; exact ⟨rfl, ⟨_, x.2.call hb⟩, rfl⟩))))
                      refine wpQuiet_nil ?_
                      rintro W9 ⟨⟨X9, h9⟩, rfl⟩
                      clear S
                      have S := Lib.hid h9
                      clear g9a g9b l9a l9b Q9 m9 h9 ei9 ej9 v9 n9
                      go_wp2
                      go_roundg g
                      case measure => omega
                      case rel => exact ⟨i2, s + 1, dj, rfl, by go_num, by omega, by omega, by omega, hdj, HP, S, (show Hid _ from (by have e := (show Hid (dj = fixUp (ltOf cf) hi i2 d1) from (show Hid _ from (by show _ = _; rw [HF.out, ← HU.out]; exact (shiftUp_stop (ltOf cf) hi jk dj (.inr hL)).symm))).out; show _ = _; rw [e]; exact HT.out))⟩
                  · have h5z : ¬ ((jk : Int) < (hi : Int)) := by omega
                    go_wp2
                    go_roundg g
                    case measure => omega
                    case rel => exact ⟨i2, s + 1, dj, rfl, by go_num, by omega, by omega, by omega, hdj, HP, S, (show Hid _ from (by have e := (show Hid (dj = fixUp (ltOf cf) hi i2 d1) from (show Hid _ from (by show _ = _; rw [HF.out, ← HU.out]; exact (shiftUp_stop (ltOf cf) hi jk dj (.inl (by omega))).symm))).out; show _ = _; rw [e]; exact HT.out))⟩
              · have h2z : ¬ ((2 : Int) ≤ (hi : Int) - (i2 : Int)) := by omega
                have HF : Hid (fixUp (ltOf cf) hi i2 d1 = d1) := if_neg h2
                clear h2
                go_wp2_with fail
                go_roundg g
                case measure => omega
                case rel => exact ⟨i2, s + 1, d1, rfl, by go_num, by omega, by omega, by omega, hds2, HP, S, (show Hid _ from (by have e := (show Hid (d1 = fixUp (ltOf cf) hi i2 d1) from (show Hid _ from HF.out.symm)).out; show _ = _; rw [e]; exact HT.out))⟩
end Go.Proofs.YtkmnlfbllfaieaaDoor
