/- Contract of slices.partitionEqualCmpFunc at a bound method. Condition: the range is in the row, the pivot in the range. Written by gen/genpart.py. -/
import Derived.Test.YtkmnlfbllfaieaaDoorSoIns
import Derived.Sort.WalkC4
import Derived.Deep.CutBlock
namespace Go.Proofs.YtkmnlfbllfaieaaDoor
open Go.RowKit Go.Sort
set_option maxRecDepth 100000 in
set_option maxHeartbeats 16000000 in
theorem partitionEqual_any (w : World) (b c n : Nat) (P : Int → Prop) (cf : Int → Int → Int) (rv : Value) (hc : CmpOf w b P cf rv) (d : Array Int) (W : World) (hn : d.size = n) (hm : n ≤ 140737488355328) (h : SW w b d W) (hP : ∀ j, j < n → P d[j]!) (lo hi pv : Nat) (hlp : lo ≤ pv) (hph : pv < hi) (hhi : hi ≤ n) :
    Calls Tryd.prog 61 #[.slice (some ⟨b, 0, none⟩) n c, .int .i64 lo, .int .i64 hi, .int .i64 pv, .func (.func 37) #[rv] #[]] W fun e w' => e = .returned (.int .i64 (Sort.partitionEqual (ltOf cf) d lo hi pv).1) ∧ SW w b (Sort.partitionEqual (ltOf cf) d lo hi pv).2 w' ∧ Kept P n (Sort.partitionEqual (ltOf cf) d lo hi pv).2 := by
  have S := Lib.hid h
  have HC := Lib.hid hc
  have HP := Lib.hid hP
  clear h hc hP
  go_enter Tryd.func61, Tryd.ntmps61
  obtain ⟨i1, hi1⟩ : ∃ q, q = lo := ⟨_, rfl⟩
  have ei1 : ((lo : Int)).toNat = i1 := by omega
  have pi1 : (0 : Int) ≤ (lo : Int) := by omega
  have bi1 : (lo : Int) < (n : Int) := by omega
  have ri1 : IntKind.i64.wrap ((lo : Int)) = (lo : Int) := by rw [IntKind.wrap_i64]; omega
  obtain ⟨j1, hj1⟩ : ∃ q, q = pv := ⟨_, rfl⟩
  have ej1 : ((pv : Int)).toNat = j1 := by omega
  have pj1 : (0 : Int) ≤ (pv : Int) := by omega
  have bj1 : (pv : Int) < (n : Int) := by omega
  have rj1 : IntKind.i64.wrap ((pv : Int)) = (pv : Int) := by rw [IntKind.wrap_i64]; omega
  obtain ⟨x1, hx1⟩ : ∃ x, x = d[lo]! := ⟨_, rfl⟩
  obtain ⟨y1, hy1⟩ : ∃ x, x = d[pv]! := ⟨_, rfl⟩
  have T1 : Hid (SW w b (Sort.swp d (lo) (pv)) (World.setCell (World.setCell W ⟨b, i1, none⟩ (.int .i64 y1)) ⟨b, j1, none⟩ (.int .i64 x1)).drew) := by rw [hi1, hj1, hx1, hy1]; exact (S.out.swp (lo) (pv)).drew
  have c1a := S.out.cell (lo) (by omega)
  have c1b := S.out.cell (pv) (by omega)
  have f1a := S.out.free (lo)
  have f1b := S.out.free (pv)
  obtain ⟨u1, c1c⟩ := S.out.cell2 (lo) (pv) (by omega) y1
  rw [← hj1, ← hi1] at c1c
  rw [← hx1, ← hi1] at c1a
  rw [← hy1, ← hj1] at c1b
  rw [← hi1] at f1a
  rw [← hj1] at f1b
  clear S hx1 hy1 hi1 hj1
  go_wp2_with fail
  go_big_region
  clear c1a c1b c1c f1a f1b
  generalize (World.setCell (World.setCell W ⟨b, i1, none⟩ (.int .i64 y1)) ⟨b, j1, none⟩ (.int .i64 x1)).drew = V1 at T1 ⊢
  clear ei1 ej1
  have S := T1
  clear T1
  obtain ⟨dl, hdl⟩ : ∃ dl, dl = Sort.swp d lo pv := ⟨_, rfl⟩
  have hds2 : dl.size = n := by rw [hdl, size_swp]; exact hn
  have HP2 : Hid (∀ j, j < n → P dl[j]!) := by rw [hdl]; exact swpIn hn HP.out (by omega) (by omega)
  have HG : Hid (Sort.partitionEqual (ltOf cf) d lo hi pv = Sort.partEqLoop (ltOf cf) lo (lo + 1) (hi - 1) dl) := by rw [hdl]; rfl
  rw [← hdl] at S
  clear HP hdl
  have e2 : ((hi : Int) - 1) = ((hi - 1 : Nat) : Int) := by omega
  go_wp2_with fail
  go_loopg [11, 12] (hi - 1) (fun kg s12 s13 wr => ∃ (p q : Nat) (dm : Array Int), s12 = .int .i64 p ∧ s13 = .int .i64 q ∧ lo < p ∧ p ≤ q + 1 ∧ q < n ∧ q + 1 - p ≤ kg ∧ dm.size = n ∧ Hid (∀ j, j < n → P dm[j]!) ∧ Hid (SW w b dm wr) ∧ Hid (Sort.partEqLoop (ltOf cf) lo p q dm = Sort.partEqLoop (ltOf cf) lo (lo + 1) (hi - 1) dl))
  case atStart => exact ⟨lo + 1, hi - 1, dl, by go_num, by first | rfl | rw [e2], by omega, by omega, by omega, by omega, hds2, HP2, S, rfl⟩
  case round =>
    clear S HP2 hds2 e2
    obtain ⟨p, q, dm, rfl, rfl, hlp1, hpq, hqn, hkg, hds2, HP, S, HE⟩ := hrel
    go_upto_block 2 with fail
    go_cut [11] from 31 to 88 (fun s wx => ∃ p2 : Nat, s = .int .i64 p2 ∧ p ≤ p2 ∧ p2 ≤ q + 1 ∧ Hid (p2 = Sort.scanUp (fun x => !ltOf cf dm[lo]! x) dm q p) ∧ Hid (SW w b dm wx))
    case first =>
      go_wp2_with fail
      go_loopg [11] (q + 1 - p) (fun kg s wr => ∃ ik : Nat, s = .int .i64 ik ∧ p ≤ ik ∧ ik ≤ q + 1 ∧ q + 1 - ik ≤ kg ∧ Hid (Sort.scanUp (fun x => !ltOf cf dm[lo]! x) dm q ik = Sort.scanUp (fun x => !ltOf cf dm[lo]! x) dm q p) ∧ Hid (SW w b dm wr))
      case atStart => exact ⟨p, rfl, Nat.le_refl _, by omega, Nat.le_refl _, rfl, S⟩
      case round =>
        clear S
        obtain ⟨ik, rfl, h1, h2, h3, HU, S⟩ := hrel
        by_cases hle : ik ≤ q
        · have hlez : (ik : Int) ≤ (q : Int) := by omega
          cases hL : ltOf cf dm[lo]! dm[ik]! with
          | true =>
            obtain ⟨i2, hi2⟩ : ∃ q, q = lo := ⟨_, rfl⟩
            have ei2 : ((lo : Int)).toNat = i2 := by omega
            have pi2 : (0 : Int) ≤ (lo : Int) := by omega
            have bi2 : (lo : Int) < (n : Int) := by omega
            have ri2 : IntKind.i64.wrap ((lo : Int)) = (lo : Int) := by rw [IntKind.wrap_i64]; omega
            obtain ⟨j2, hj2⟩ : ∃ q, q = ik := ⟨_, rfl⟩
            have ej2 : ((ik : Int)).toNat = j2 := by omega
            have pj2 : (0 : Int) ≤ (ik : Int) := by omega
            have bj2 : (ik : Int) < (n : Int) := by omega
            have rj2 : IntKind.i64.wrap ((ik : Int)) = (ik : Int) := by rw [IntKind.wrap_i64]; omega
            have l2a := Lib.hid (fun (x : SWT w b dm) => x.2.cell (lo) (by omega))
            have l2b := Lib.hid (fun (x : SWT w b dm) => x.2.cell (ik) (by omega))
            have Q2 := Lib.hid (fun X (hX : SW w b dm X) => HC.out dm X hX dm[lo]! dm[ik]! (HP.out _ (by omega)) (HP.out _ (by omega)))
            have v2 : decide (cf dm[lo]! dm[ik]! < 0) = true := hL
            obtain ⟨x2, hx2⟩ : ∃ x, x = dm[lo]! := ⟨_, rfl⟩
            obtain ⟨y2, hy2⟩ : ∃ x, x = dm[ik]! := ⟨_, rfl⟩
            rw [← hx2, ← hi2] at l2a
            rw [← hy2, ← hj2] at l2b
            rw [← hx2, ← hy2] at Q2 v2
            clear hx2 hy2 hi2 hj2
            generalize cf x2 y2 = r2 at Q2 v2
            have n2 : r2 < 0 := of_decide_eq_true v2
            go_wp2_with fail
            have m2 : Nonempty (SWT w b dm) := ⟨⟨_, S.out⟩⟩
            have g2a := l2a.out
            have g2b := l2b.out
            refine wp_region_class (fun w' => ∃ x : SWT w b dm, w' = x.1) (by kernel_rfl) (by kernel_rfl) ⟨⟨_, S.out.drew⟩, rfl⟩ ?_
            repeat (go_big_quiet_step ((rename_i x; (go_at_call 37; refine (Q2.out _ x.2).mono ?_; rintro e w2 ⟨rfl, hb⟩; exact ⟨rfl, ⟨_, x.2.call hb⟩, rfl⟩))))
            refine wpQuiet_nil ?_
            rintro W2 ⟨⟨X2, h2⟩, rfl⟩
            clear S
            have S := Lib.hid h2
            clear g2a g2b l2a l2b Q2 m2 h2 ei2 ej2 v2 n2
            go_wp2
            go_meet
            exact ⟨ik, rfl, h1, h2, (show Hid _ from (by show _ = _; rw [← HU.out]; exact (scanUp_end (fun x => !ltOf cf dm[lo]! x) dm q ik (.inr (by simp [hL]))).symm)), S⟩
          | false =>
            obtain ⟨i3, hi3⟩ : ∃ q, q = lo := ⟨_, rfl⟩
            have ei3 : ((lo : Int)).toNat = i3 := by omega
            have pi3 : (0 : Int) ≤ (lo : Int) := by omega
            have bi3 : (lo : Int) < (n : Int) := by omega
            have ri3 : IntKind.i64.wrap ((lo : Int)) = (lo : Int) := by rw [IntKind.wrap_i64]; omega
            obtain ⟨j3, hj3⟩ : ∃ q, q = ik := ⟨_, rfl⟩
            have ej3 : ((ik : Int)).toNat = j3 := by omega
            have pj3 : (0 : Int) ≤ (ik : Int) := by omega
            have bj3 : (ik : Int) < (n : Int) := by omega
            have rj3 : IntKind.i64.wrap ((ik : Int)) = (ik : Int) := by rw [IntKind.wrap_i64]; omega
            have l3a := Lib.hid (fun (x : SWT w b dm) => x.2.cell (lo) (by omega))
            have l3b := Lib.hid (fun (x : SWT w b dm) => x.2.cell (ik) (by omega))
            have Q3 := Lib.hid (fun X (hX : SW w b dm X) => HC.out dm X hX dm[lo]! dm[ik]! (HP.out _ (by omega)) (HP.out _ (by omega)))
            have v3 : decide (cf dm[lo]! dm[ik]! < 0) = false := hL
            obtain ⟨x3, hx3⟩ : ∃ x, x = dm[lo]! := ⟨_, rfl⟩
            obtain ⟨y3, hy3⟩ : ∃ x, x = dm[ik]! := ⟨_, rfl⟩
            rw [← hx3, ← hi3] at l3a
            rw [← hy3, ← hj3] at l3b
            rw [← hx3, ← hy3] at Q3 v3
            clear hx3 hy3 hi3 hj3
            generalize cf x3 y3 = r3 at Q3 v3
            have n3 : ¬ r3 < 0 := of_decide_eq_false v3
            go_wp2_with fail
            have m3 : Nonempty (SWT w b dm) := ⟨⟨_, S.out⟩⟩
            have g3a := l3a.out
            have g3b := l3b.out
            refine wp_region_class (fun w' => ∃ x : SWT w b dm, w' = x.1) (by kernel_rfl) (by kernel_rfl) ⟨⟨_, S.out.drew⟩, rfl⟩ ?_
            repeat (go_big_quiet_step ((rename_i x; (go_at_call 37; refine (Q3.out _ x.2).mono ?_; rintro e w2 ⟨rfl, hb⟩; exact ⟨rfl, ⟨_, x.2.call hb⟩, rfl⟩))))
            refine wpQuiet_nil ?_
            rintro W3 ⟨⟨X3, h3⟩, rfl⟩
            clear S
            have S := Lib.hid h3
            clear g3a g3b l3a l3b Q3 m3 h3 ei3 ej3 v3 n3
            go_wp2
            go_roundg (q + 1 - (ik + 1))
            case measure => omega
            case rel => exact ⟨ik + 1, by go_num, by omega, by omega, Nat.le_refl _, (show Hid _ from (by show _ = _; rw [← HU.out]; exact (scanUp_go (fun x => !ltOf cf dm[lo]! x) dm q ik hle (by simp [hL])).symm)), S⟩
        · have hlez : ¬ ((ik : Int) ≤ (q : Int)) := by omega
          have hled : decide ((ik : Int) ≤ (q : Int)) = false := decide_eq_false hlez
          go_wp2_with fail
          go_big_region
          all_goals go_wp2
          go_meet
          exact ⟨ik, rfl, h1, h2, (show Hid _ from (by show _ = _; rw [← HU.out]; exact (scanUp_end (fun x => !ltOf cf dm[lo]! x) dm q ik (.inl hle)).symm)), S.out.drew⟩
    case rest =>
      clear S
      obtain ⟨p2, rfl, hp21, hp22, Hp2, S⟩ := hcut
      go_upto_block 4 with fail
      go_cut [12] from 31 to 88 (fun s wx => ∃ q2 : Nat, s = .int .i64 q2 ∧ q2 ≤ q ∧ p2 ≤ q2 + 1 ∧ Hid (q2 = Sort.scanDown (fun x => ltOf cf dm[lo]! x) dm p2 q) ∧ Hid (SW w b dm wx))
      case first =>
        go_wp2_with fail
        go_loopg [12] q (fun kg s wr => ∃ jk : Nat, s = .int .i64 jk ∧ jk ≤ q ∧ p2 ≤ jk + 1 ∧ jk ≤ kg ∧ Hid (Sort.scanDown (fun x => ltOf cf dm[lo]! x) dm p2 jk = Sort.scanDown (fun x => ltOf cf dm[lo]! x) dm p2 q) ∧ Hid (SW w b dm wr))
        case atStart => exact ⟨q, rfl, Nat.le_refl _, by omega, Nat.le_refl _, rfl, S⟩
        case round =>
          clear S
          obtain ⟨jk, rfl, h1, h2, h3, HU, S⟩ := hrel
          by_cases hle : p2 ≤ jk
          · have hlez : (p2 : Int) ≤ (jk : Int) := by omega
            cases hL : ltOf cf dm[lo]! dm[jk]! with
            | true =>
              obtain ⟨i4, hi4⟩ : ∃ q, q = lo := ⟨_, rfl⟩
              have ei4 : ((lo : Int)).toNat = i4 := by omega
              have pi4 : (0 : Int) ≤ (lo : Int) := by omega
              have bi4 : (lo : Int) < (n : Int) := by omega
              have ri4 : IntKind.i64.wrap ((lo : Int)) = (lo : Int) := by rw [IntKind.wrap_i64]; omega
              obtain ⟨j4, hj4⟩ : ∃ q, q = jk := ⟨_, rfl⟩
              have ej4 : ((jk : Int)).toNat = j4 := by omega
              have pj4 : (0 : Int) ≤ (jk : Int) := by omega
              have bj4 : (jk : Int) < (n : Int) := by omega
              have rj4 : IntKind.i64.wrap ((jk : Int)) = (jk : Int) := by rw [IntKind.wrap_i64]; omega
              have l4a := Lib.hid (fun (x : SWT w b dm) => x.2.cell (lo) (by omega))
              have l4b := Lib.hid (fun (x : SWT w b dm) => x.2.cell (jk) (by omega))
              have Q4 := Lib.hid (fun X (hX : SW w b dm X) => HC.out dm X hX dm[lo]! dm[jk]! (HP.out _ (by omega)) (HP.out _ (by omega)))
              have v4 : decide (cf dm[lo]! dm[jk]! < 0) = true := hL
              obtain ⟨x4, hx4⟩ : ∃ x, x = dm[lo]! := ⟨_, rfl⟩
              obtain ⟨y4, hy4⟩ : ∃ x, x = dm[jk]! := ⟨_, rfl⟩
              rw [← hx4, ← hi4] at l4a
              rw [← hy4, ← hj4] at l4b
              rw [← hx4, ← hy4] at Q4 v4
              clear hx4 hy4 hi4 hj4
              generalize cf x4 y4 = r4 at Q4 v4
              have n4 : r4 < 0 := of_decide_eq_true v4
              go_wp2_with fail
              have m4 : Nonempty (SWT w b dm) := ⟨⟨_, S.out⟩⟩
              have g4a := l4a.out
              have g4b := l4b.out
              refine wp_region_class (fun w' => ∃ x : SWT w b dm, w' = x.1) (by kernel_rfl) (by kernel_rfl) ⟨⟨_, S.out.drew⟩, rfl⟩ ?_
              repeat (go_big_quiet_step ((rename_i x; (go_at_call 37; refine (Q4.out _ x.2).mono ?_; rintro e w2 ⟨rfl, hb⟩; exact ⟨rfl, ⟨_, x.2.call hb⟩, rfl⟩))))
              refine wpQuiet_nil ?_
              rintro W4 ⟨⟨X4, h4⟩, rfl⟩
              clear S
              have S := Lib.hid h4
              clear g4a g4b l4a l4b Q4 m4 h4 ei4 ej4 v4 n4
              go_wp2
              go_roundg (jk - 1)
              case measure => omega
              case rel => exact ⟨jk - 1, (by rw [show ((jk - 1 : Nat) : Int) = (jk : Int) - 1 by omega]), by omega, by omega, Nat.le_refl _, (show Hid _ from (by show _ = _; rw [← HU.out]; exact (scanDown_go (fun x => ltOf cf dm[lo]! x) dm p2 jk hle (by omega) (by simp [hL])).symm)), S⟩
            | false =>
              obtain ⟨i5, hi5⟩ : ∃ q, q = lo := ⟨_, rfl⟩
              have ei5 : ((lo : Int)).toNat = i5 := by omega
              have pi5 : (0 : Int) ≤ (lo : Int) := by omega
              have bi5 : (lo : Int) < (n : Int) := by omega
              have ri5 : IntKind.i64.wrap ((lo : Int)) = (lo : Int) := by rw [IntKind.wrap_i64]; omega
              obtain ⟨j5, hj5⟩ : ∃ q, q = jk := ⟨_, rfl⟩
              have ej5 : ((jk : Int)).toNat = j5 := by omega
              have pj5 : (0 : Int) ≤ (jk : Int) := by omega
              have bj5 : (jk : Int) < (n : Int) := by omega
              have rj5 : IntKind.i64.wrap ((jk : Int)) = (jk : Int) := by rw [IntKind.wrap_i64]; omega
              have l5a := Lib.hid (fun (x : SWT w b dm) => x.2.cell (lo) (by omega))
              have l5b := Lib.hid (fun (x : SWT w b dm) => x.2.cell (jk) (by omega))
              have Q5 := Lib.hid (fun X (hX : SW w b dm X) => HC.out dm X hX dm[lo]! dm[jk]! (HP.out _ (by omega)) (HP.out _ (by omega)))
              have v5 : decide (cf dm[lo]! dm[jk]! < 0) = false := hL
              obtain ⟨x5, hx5⟩ : ∃ x, x = dm[lo]! := ⟨_, rfl⟩
              obtain ⟨y5, hy5⟩ : ∃ x, x = dm[jk]! := ⟨_, rfl⟩
              rw [← hx5, ← hi5] at l5a
              rw [← hy5, ← hj5] at l5b
              rw [← hx5, ← hy5] at Q5 v5
              clear hx5 hy5 hi5 hj5
              generalize cf x5 y5 = r5 at Q5 v5
              have n5 : ¬ r5 < 0 := of_decide_eq_false v5
              go_wp2_with fail
              have m5 : Nonempty (SWT w b dm) := ⟨⟨_, S.out⟩⟩
              have g5a := l5a.out
              have g5b := l5b.out
              refine wp_region_class (fun w' => ∃ x : SWT w b dm, w' = x.1) (by kernel_rfl) (by kernel_rfl) ⟨⟨_, S.out.drew⟩, rfl⟩ ?_
              repeat (go_big_quiet_step ((rename_i x; (go_at_call 37; refine (Q5.out _ x.2).mono ?_; rintro e w2 ⟨rfl, hb⟩; exact ⟨rfl, ⟨_, x.2.call hb⟩, rfl⟩))))
              refine wpQuiet_nil ?_
              rintro W5 ⟨⟨X5, h5⟩, rfl⟩
              clear S
              have S := Lib.hid h5
              clear g5a g5b l5a l5b Q5 m5 h5 ei5 ej5 v5 n5
              go_wp2
              go_meet
              exact ⟨jk, rfl, h1, h2, (show Hid _ from (by show _ = _; rw [← HU.out]; exact (scanDown_end (fun x => ltOf cf dm[lo]! x) dm p2 jk (.inr (by simp [hL]))).symm)), S⟩
          · have hlez : ¬ ((p2 : Int) ≤ (jk : Int)) := by omega
            have hled : decide ((p2 : Int) ≤ (jk : Int)) = false := decide_eq_false hlez
            go_wp2_with fail
            go_big_region
            all_goals go_wp2
            go_meet
            exact ⟨jk, rfl, h1, h2, (show Hid _ from (by show _ = _; rw [← HU.out]; exact (scanDown_end (fun x => ltOf cf dm[lo]! x) dm p2 jk (.inl hle)).symm)), S.out.drew⟩
      case rest =>
        clear S
        obtain ⟨q2, rfl, hq21, hq22, Hq2, S⟩ := hcut
        by_cases hbr2 : q2 < p2
        · have hbrz3 : (q2 : Int) < (p2 : Int) := by omega
          have hbrz4 : ¬ ((p2 : Int) ≤ (q2 : Int)) := by omega
          go_wp2_with fail
          go_ret
          rw [HG.out, ← HE.out, partEq_break (ltOf cf) lo p q dm Hp2.out Hq2.out hbr2]
          exact ⟨rfl, S.out, hds2, HP.out⟩
        · have hbrz3 : ¬ ((q2 : Int) < (p2 : Int)) := by omega
          have hbrz4 : (p2 : Int) ≤ (q2 : Int) := by omega
          have hlt3 : p2 < q2 := scans_lt (ltOf cf) lo p q dm (by omega) Hp2.out Hq2.out (by omega)
          have HE2 := Lib.hid ((partEq_go (ltOf cf) lo p q dm Hp2.out Hq2.out hbr2).symm.trans HE.out)
          obtain ⟨i6, hi6⟩ : ∃ q, q = p2 := ⟨_, rfl⟩
          have ei6 : ((p2 : Int)).toNat = i6 := by omega
          have pi6 : (0 : Int) ≤ (p2 : Int) := by omega
          have bi6 : (p2 : Int) < (n : Int) := by omega
          have ri6 : IntKind.i64.wrap ((p2 : Int)) = (p2 : Int) := by rw [IntKind.wrap_i64]; omega
          obtain ⟨j6, hj6⟩ : ∃ q, q = q2 := ⟨_, rfl⟩
          have ej6 : ((q2 : Int)).toNat = j6 := by omega
          have pj6 : (0 : Int) ≤ (q2 : Int) := by omega
          have bj6 : (q2 : Int) < (n : Int) := by omega
          have rj6 : IntKind.i64.wrap ((q2 : Int)) = (q2 : Int) := by rw [IntKind.wrap_i64]; omega
          obtain ⟨x6, hx6⟩ : ∃ x, x = dm[p2]! := ⟨_, rfl⟩
          obtain ⟨y6, hy6⟩ : ∃ x, x = dm[q2]! := ⟨_, rfl⟩
          have T6 : Hid (SW w b (Sort.swp dm (p2) (q2)) (World.setCell (World.setCell wc ⟨b, i6, none⟩ (.int .i64 y6)) ⟨b, j6, none⟩ (.int .i64 x6)).drew) := by rw [hi6, hj6, hx6, hy6]; exact (S.out.swp (p2) (q2)).drew
          have c6a := S.out.cell (p2) (by omega)
          have c6b := S.out.cell (q2) (by omega)
          have f6a := S.out.free (p2)
          have f6b := S.out.free (q2)
          obtain ⟨u6, c6c⟩ := S.out.cell2 (p2) (q2) (by omega) y6
          rw [← hj6, ← hi6] at c6c
          rw [← hx6, ← hi6] at c6a
          rw [← hy6, ← hj6] at c6b
          rw [← hi6] at f6a
          rw [← hj6] at f6b
          clear S hx6 hy6 hi6 hj6
          go_wp2_with fail
          go_big_region
          clear c6a c6b c6c f6a f6b
          generalize (World.setCell (World.setCell wc ⟨b, i6, none⟩ (.int .i64 y6)) ⟨b, j6, none⟩ (.int .i64 x6)).drew = V6 at T6 ⊢
          clear ei6 ej6
          have S := T6
          clear T6
          go_wp2_with fail
          go_roundg (q2 - 1 + 1 - (p2 + 1))
          case measure => omega
          case rel => exact ⟨p2 + 1, q2 - 1, Sort.swp dm p2 q2, by go_num, (by rw [show ((q2 - 1 : Nat) : Int) = (q2 : Int) - 1 by omega]), by omega, by omega, by omega, Nat.le_refl _, by rw [size_swp]; exact hds2, swpIn hds2 HP.out (by omega) (by omega), S, HE2⟩
end Go.Proofs.YtkmnlfbllfaieaaDoor
