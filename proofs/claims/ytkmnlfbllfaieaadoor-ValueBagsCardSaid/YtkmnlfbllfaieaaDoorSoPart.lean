/- Contract of slices.partitionCmpFunc at a bound method. Condition: the range is in the row, the pivot in the range. Written by gen/genpart.py. -/
import Derived.Test.YtkmnlfbllfaieaaDoorSoIns
import Derived.Sort.WalkC4
import Derived.Deep.CutBlock
namespace Go.Proofs.YtkmnlfbllfaieaaDoor
open Go.RowKit Go.Sort
set_option maxRecDepth 100000 in
set_option maxHeartbeats 16000000 in
theorem partition_any (w : World) (b c n : Nat) (P : Int → Prop) (cf : Int → Int → Int) (rv : Value) (hc : CmpOf w b P cf rv) (d : Array Int) (W : World) (hn : d.size = n) (hm : n ≤ 140737488355328) (h : SW w b d W) (hP : ∀ j, j < n → P d[j]!) (lo hi pv : Nat) (hlp : lo ≤ pv) (hph : pv < hi) (hhi : hi ≤ n) :
    Calls Tryd.prog 62 #[.slice (some ⟨b, 0, none⟩) n c, .int .i64 lo, .int .i64 hi, .int .i64 pv, .func (.func 37) #[rv] #[]] W fun e w' => e = .returned (.tuple #[.int .i64 (Sort.partition (ltOf cf) d lo hi pv).1, .bool (Sort.partition (ltOf cf) d lo hi pv).2.1]) ∧ SW w b (Sort.partition (ltOf cf) d lo hi pv).2.2 w' ∧ Kept P n (Sort.partition (ltOf cf) d lo hi pv).2.2 := by
  have S := Lib.hid h
  have HC := Lib.hid hc
  have HP := Lib.hid hP
  clear h hc hP
  go_enter Tryd.func62, Tryd.ntmps62
  obtain ⟨i1, hi1⟩ : ∃ q, q = lo := ⟨_, rfl⟩
  have ei1 : ((lo : Int)).toNat = i1 := by omega
  have pi1 : (0 : Int) ≤ (lo : Int) := by omega
  have bi1 : (lo : Int) < (n : Int) := by omega
  have ri1 : IntKind.i64.wrap ((lo : Int)) = (lo : Int) := by rw [IntKind.wrap_i64]; omega
  obtain ⟨j1, hj1⟩ : ∃ q, q = pv := ⟨_, rfl⟩
  have ej1 : ((pv : Int)).toNat = j1 := by omega
  have pj1 : (0 : Int) ≤ (pv : Int) := by omega
  have bj1 : (pv : Int) < (n : Int) := by omega
  have rj1 : IntKind.i64.wrap ((pv : Int)) = (pv : Int) := by rw [IntKind.wrap_i64]; omega
  obtain ⟨x1, hx1⟩ : ∃ x, x = d[lo]! := ⟨_, rfl⟩
  obtain ⟨y1, hy1⟩ : ∃ x, x = d[pv]! := ⟨_, rfl⟩
  have T1 : Hid (SW w b (Sort.swp d (lo) (pv)) (World.setCell (World.setCell W ⟨b, i1, none⟩ (.int .i64 y1)) ⟨b, j1, none⟩ (.int .i64 x1)).drew) := by rw [hi1, hj1, hx1, hy1]; exact (S.out.swp (lo) (pv)).drew
  have c1a := S.out.cell (lo) (by omega)
  have c1b := S.out.cell (pv) (by omega)
  have f1a := S.out.free (lo)
  have f1b := S.out.free (pv)
  obtain ⟨u1, c1c⟩ := S.out.cell2 (lo) (pv) (by omega) y1
  rw [← hj1, ← hi1] at c1c
  rw [← hx1, ← hi1] at c1a
  rw [← hy1, ← hj1] at c1b
  rw [← hi1] at f1a
  rw [← hj1] at f1b
  clear S hx1 hy1 hi1 hj1
  go_wp2_with fail
  go_big_region
  clear c1a c1b c1c f1a f1b
  generalize (World.setCell (World.setCell W ⟨b, i1, none⟩ (.int .i64 y1)) ⟨b, j1, none⟩ (.int .i64 x1)).drew = V1 at T1 ⊢
  clear ei1 ej1
  have S := T1
  clear T1
  obtain ⟨dk, hdk⟩ : ∃ dk, dk = Sort.swp d lo pv := ⟨_, rfl⟩
  have hds : dk.size = n := by rw [hdk, size_swp]; exact hn
  have HPk : Hid (∀ j, j < n → P dk[j]!) := by rw [hdk]; exact swpIn hn HP.out (by omega) (by omega)
  rw [← hdk] at S
  have HDK := Lib.hid hdk
  clear HP hdk
  have HP := HPk
  clear HPk
  obtain ⟨i, hi0⟩ : ∃ i, i = lo + 1 := ⟨_, rfl⟩
  obtain ⟨j, hj0⟩ : ∃ j, j = hi - 1 := ⟨_, rfl⟩
  have e1 : ((lo : Int) + 1) = (i : Int) := by omega
  have e2 : ((hi : Int) - 1) = (j : Int) := by omega
  have hloi : lo < i := by omega
  have hij : i ≤ j + 1 := by omega
  have hjn : j < n := by omega
  have HI := Lib.hid hi0
  have HJ := Lib.hid hj0
  clear hi0 hj0
  go_upto_block 0 with fail
  go_cut [12] from 32 to 49 (fun s wx => ∃ i2 : Nat, s = .int .i64 i2 ∧ i ≤ i2 ∧ i2 ≤ j + 1 ∧ Hid (i2 = Sort.scanUp (fun x => ltOf cf x dk[lo]!) dk j i) ∧ Hid (SW w b dk wx))
  case first =>
    go_wp2_with fail
    go_loopg [12] (j + 1 - i) (fun kg s wr => ∃ ik : Nat, s = .int .i64 ik ∧ i ≤ ik ∧ ik ≤ j + 1 ∧ j + 1 - ik ≤ kg ∧ Hid (Sort.scanUp (fun x => ltOf cf x dk[lo]!) dk j ik = Sort.scanUp (fun x => ltOf cf x dk[lo]!) dk j i) ∧ Hid (SW w b dk wr))
    case atStart => exact ⟨i, rfl, Nat.le_refl _, by omega, Nat.le_refl _, rfl, S⟩
    case round =>
      clear S
      obtain ⟨ik, rfl, h1, h2, h3, HU, S⟩ := hrel
      by_cases hle : ik ≤ j
      · have hlez : (ik : Int) ≤ (j : Int) := by omega
        cases hL : ltOf cf dk[ik]! dk[lo]! with
        | true =>
          obtain ⟨i2, hi2⟩ : ∃ q, q = ik := ⟨_, rfl⟩
          have ei2 : ((ik : Int)).toNat = i2 := by omega
          have pi2 : (0 : Int) ≤ (ik : Int) := by omega
          have bi2 : (ik : Int) < (n : Int) := by omega
          have ri2 : IntKind.i64.wrap ((ik : Int)) = (ik : Int) := by rw [IntKind.wrap_i64]; omega
          obtain ⟨j2, hj2⟩ : ∃ q, q = lo := ⟨_, rfl⟩
          have ej2 : ((lo : Int)).toNat = j2 := by omega
          have pj2 : (0 : Int) ≤ (lo : Int) := by omega
          have bj2 : (lo : Int) < (n : Int) := by omega
          have rj2 : IntKind.i64.wrap ((lo : Int)) = (lo : Int) := by rw [IntKind.wrap_i64]; omega
          have l2a := Lib.hid (fun (x : SWT w b dk) => x.2.cell (ik) (by omega))
          have l2b := Lib.hid (fun (x : SWT w b dk) => x.2.cell (lo) (by omega))
          have Q2 := Lib.hid (fun X (hX : SW w b dk X) => HC.out dk X hX dk[ik]! dk[lo]! (HP.out _ (by omega)) (HP.out _ (by omega)))
          have v2 : decide (cf dk[ik]! dk[lo]! < 0) = true := hL
          obtain ⟨x2, hx2⟩ : ∃ x, x = dk[ik]! := ⟨_, rfl⟩
          obtain ⟨y2, hy2⟩ : ∃ x, x = dk[lo]! := ⟨_, rfl⟩
          rw [← hx2, ← hi2] at l2a
          rw [← hy2, ← hj2] at l2b
          rw [← hx2, ← hy2] at Q2 v2
          clear hx2 hy2 hi2 hj2
          generalize cf x2 y2 = r2 at Q2 v2
          have n2 : r2 < 0 := of_decide_eq_true v2
          go_wp2_with fail
          have m2 : Nonempty (SWT w b dk) := ⟨⟨_, S.out⟩⟩
          have g2a := l2a.out
          have g2b := l2b.out
          refine wp_region_class (fun w' => ∃ x : SWT w b dk, w' = x.1) (by kernel_rfl) (by kernel_rfl) ⟨⟨_, S.out.drew⟩, rfl⟩ ?_
          repeat (go_big_quiet_step ((rename_i x; (go_at_call 37; refine (Q2.out _ x.2).mono ?_; rintro e w2 ⟨rfl, hb⟩; exact ⟨rfl, ⟨_, x.2.call hb⟩, rfl⟩))))
          refine wpQuiet_nil ?_
          rintro W2 ⟨⟨X2, h2⟩, rfl⟩
          clear S
          have S := Lib.hid h2
          clear g2a g2b l2a l2b Q2 m2 h2 ei2 ej2 v2 n2
          go_wp2
          go_roundg (j + 1 - (ik + 1))
          case measure => omega
          case rel => exact ⟨ik + 1, by go_num, by omega, by omega, Nat.le_refl _, (show Hid _ from (by show _ = _; rw [← HU.out]; exact (scanUp_go (fun x => ltOf cf x dk[lo]!) dk j ik hle (by simp [hL])).symm)), S⟩
        | false =>
          obtain ⟨i3, hi3⟩ : ∃ q, q = ik := ⟨_, rfl⟩
          have ei3 : ((ik : Int)).toNat = i3 := by omega
          have pi3 : (0 : Int) ≤ (ik : Int) := by omega
          have bi3 : (ik : Int) < (n : Int) := by omega
          have ri3 : IntKind.i64.wrap ((ik : Int)) = (ik : Int) := by rw [IntKind.wrap_i64]; omega
          obtain ⟨j3, hj3⟩ : ∃ q, q = lo := ⟨_, rfl⟩
          have ej3 : ((lo : Int)).toNat = j3 := by omega
          have pj3 : (0 : Int) ≤ (lo : Int) := by omega
          have bj3 : (lo : Int) < (n : Int) := by omega
          have rj3 : IntKind.i64.wrap ((lo : Int)) = (lo : Int) := by rw [IntKind.wrap_i64]; omega
          have l3a := Lib.hid (fun (x : SWT w b dk) => x.2.cell (ik) (by omega))
          have l3b := Lib.hid (fun (x : SWT w b dk) => x.2.cell (lo) (by omega))
          have Q3 := Lib.hid (fun X (hX : SW w b dk X) => HC.out dk X hX dk[ik]! dk[lo]! (HP.out _ (by omega)) (HP.out _ (by omega)))
          have v3 : decide (cf dk[ik]! dk[lo]! < 0) = false := hL
          obtain ⟨x3, hx3⟩ : ∃ x, x = dk[ik]! := ⟨_, rfl⟩
          obtain ⟨y3, hy3⟩ : ∃ x, x = dk[lo]! := ⟨_, rfl⟩
          rw [← hx3, ← hi3] at l3a
          rw [← hy3, ← hj3] at l3b
          rw [← hx3, ← hy3] at Q3 v3
          clear hx3 hy3 hi3 hj3
          generalize cf x3 y3 = r3 at Q3 v3
          have n3 : ¬ r3 < 0 := of_decide_eq_false v3
          go_wp2_with fail
          have m3 : Nonempty (SWT w b dk) := ⟨⟨_, S.out⟩⟩
          have g3a := l3a.out
          have g3b := l3b.out
          refine wp_region_class (fun w' => ∃ x : SWT w b dk, w' = x.1) (by kernel_rfl) (by kernel_rfl) ⟨⟨_, S.out.drew⟩, rfl⟩ ?_
          repeat (go_big_quiet_step ((rename_i x; (go_at_call 37; refine (Q3.out _ x.2).mono ?_; rintro e w2 ⟨rfl, hb⟩; exact ⟨rfl, ⟨_, x.2.call hb⟩, rfl⟩))))
          refine wpQuiet_nil ?_
          rintro W3 ⟨⟨X3, h3⟩, rfl⟩
          clear S
          have S := Lib.hid h3
          clear g3a g3b l3a l3b Q3 m3 h3 ei3 ej3 v3 n3
          go_wp2
          go_meet
          exact ⟨ik, rfl, h1, h2, (show Hid _ from (by show _ = _; rw [← HU.out]; exact (scanUp_end (fun x => ltOf cf x dk[lo]!) dk j ik (.inr (by simp [hL]))).symm)), S⟩
      · have hlez : ¬ ((ik : Int) ≤ (j : Int)) := by omega
        have hled : decide ((ik : Int) ≤ (j : Int)) = false := decide_eq_false hlez
        go_wp2_with fail
        go_big_region
        all_goals go_wp2
        go_meet
        exact ⟨ik, rfl, h1, h2, (show Hid _ from (by show _ = _; rw [← HU.out]; exact (scanUp_end (fun x => ltOf cf x dk[lo]!) dk j ik (.inl hle)).symm)), S.out.drew⟩
  case rest =>
    clear S
    obtain ⟨i2, rfl, hi21, hi22, Hi2, S⟩ := hcut
    go_upto_block 2 with fail
    go_cut [13] from 50 to 68 (fun s wx => ∃ j2 : Nat, s = .int .i64 j2 ∧ j2 ≤ j ∧ i2 ≤ j2 + 1 ∧ Hid (j2 = Sort.scanDown (fun x => !ltOf cf x dk[lo]!) dk i2 j) ∧ Hid (SW w b dk wx))
    case first =>
      go_wp2_with fail
      go_loopg [13] j (fun kg s wr => ∃ jk : Nat, s = .int .i64 jk ∧ jk ≤ j ∧ i2 ≤ jk + 1 ∧ jk ≤ kg ∧ Hid (Sort.scanDown (fun x => !ltOf cf x dk[lo]!) dk i2 jk = Sort.scanDown (fun x => !ltOf cf x dk[lo]!) dk i2 j) ∧ Hid (SW w b dk wr))
      case atStart => exact ⟨j, rfl, Nat.le_refl _, by omega, Nat.le_refl _, rfl, S⟩
      case round =>
        clear S
        obtain ⟨jk, rfl, h1, h2, h3, HU, S⟩ := hrel
        by_cases hle : i2 ≤ jk
        · have hlez : (i2 : Int) ≤ (jk : Int) := by omega
          cases hL : ltOf cf dk[jk]! dk[lo]! with
          | true =>
            obtain ⟨i4, hi4⟩ : ∃ q, q = jk := ⟨_, rfl⟩
            have ei4 : ((jk : Int)).toNat = i4 := by omega
            have pi4 : (0 : Int) ≤ (jk : Int) := by omega
            have bi4 : (jk : Int) < (n : Int) := by omega
            have ri4 : IntKind.i64.wrap ((jk : Int)) = (jk : Int) := by rw [IntKind.wrap_i64]; omega
            obtain ⟨j4, hj4⟩ : ∃ q, q = lo := ⟨_, rfl⟩
            have ej4 : ((lo : Int)).toNat = j4 := by omega
            have pj4 : (0 : Int) ≤ (lo : Int) := by omega
            have bj4 : (lo : Int) < (n : Int) := by omega
            have rj4 : IntKind.i64.wrap ((lo : Int)) = (lo : Int) := by rw [IntKind.wrap_i64]; omega
            have l4a := Lib.hid (fun (x : SWT w b dk) => x.2.cell (jk) (by omega))
            have l4b := Lib.hid (fun (x : SWT w b dk) => x.2.cell (lo) (by omega))
            have Q4 := Lib.hid (fun X (hX : SW w b dk X) => HC.out dk X hX dk[jk]! dk[lo]! (HP.out _ (by omega)) (HP.out _ (by omega)))
            have v4 : decide (cf dk[jk]! dk[lo]! < 0) = true := hL
            obtain ⟨x4, hx4⟩ : ∃ x, x = dk[jk]! := ⟨_, rfl⟩
            obtain ⟨y4, hy4⟩ : ∃ x, x = dk[lo]! := ⟨_, rfl⟩
            rw [← hx4, ← hi4] at l4a
            rw [← hy4, ← hj4] at l4b
            rw [← hx4, ← hy4] at Q4 v4
            clear hx4 hy4 hi4 hj4
            generalize cf x4 y4 = r4 at Q4 v4
            have n4 : r4 < 0 := of_decide_eq_true v4
            go_wp2_with fail
            have m4 : Nonempty (SWT w b dk) := ⟨⟨_, S.out⟩⟩
            have g4a := l4a.out
            have g4b := l4b.out
            refine wp_region_class (fun w' => ∃ x : SWT w b dk, w' = x.1) (by kernel_rfl) (by kernel_rfl) ⟨⟨_, S.out.drew⟩, rfl⟩ ?_
            repeat (go_big_quiet_step ((rename_i x; (go_at_call 37; refine (Q4.out _ x.2).mono ?_; rintro e w2 ⟨rfl, hb⟩; exact ⟨rfl, ⟨_, x.2.call hb⟩, rfl⟩))))
            refine wpQuiet_nil ?_
            rintro W4 ⟨⟨X4, h4⟩, rfl⟩
            clear S
            have S := Lib.hid h4
            clear g4a g4b l4a l4b Q4 m4 h4 ei4 ej4 v4 n4
            go_wp2
            go_meet
            exact ⟨jk, rfl, h1, h2, (show Hid _ from (by show _ = _; rw [← HU.out]; exact (scanDown_end (fun x => !ltOf cf x dk[lo]!) dk i2 jk (.inr (by simp [hL]))).symm)), S⟩
          | false =>
            obtain ⟨i5, hi5⟩ : ∃ q, q = jk := ⟨_, rfl⟩
            have ei5 : ((jk : Int)).toNat = i5 := by omega
            have pi5 : (0 : Int) ≤ (jk : Int) := by omega
            have bi5 : (jk : Int) < (n : Int) := by omega
            have ri5 : IntKind.i64.wrap ((jk : Int)) = (jk : Int) := by rw [IntKind.wrap_i64]; omega
            obtain ⟨j5, hj5⟩ : ∃ q, q = lo := ⟨_, rfl⟩
            have ej5 : ((lo : Int)).toNat = j5 := by omega
            have pj5 : (0 : Int) ≤ (lo : Int) := by omega
            have bj5 : (lo : Int) < (n : Int) := by omega
            have rj5 : IntKind.i64.wrap ((lo : Int)) = (lo : Int) := by rw [IntKind.wrap_i64]; omega
            have l5a := Lib.hid (fun (x : SWT w b dk) => x.2.cell (jk) (by omega))
            have l5b := Lib.hid (fun (x : SWT w b dk) => x.2.cell (lo) (by omega))
            have Q5 := Lib.hid (fun X (hX : SW w b dk X) => HC.out dk X hX dk[jk]! dk[lo]! (HP.out _ (by omega)) (HP.out _ (by omega)))
            have v5 : decide (cf dk[jk]! dk[lo]! < 0) = false := hL
            obtain ⟨x5, hx5⟩ : ∃ x, x = dk[jk]! := ⟨_, rfl⟩
            obtain ⟨y5, hy5⟩ : ∃ x, x = dk[lo]! := ⟨_, rfl⟩
            rw [← hx5, ← hi5] at l5a
            rw [← hy5, ← hj5] at l5b
            rw [← hx5, ← hy5] at Q5 v5
            clear hx5 hy5 hi5 hj5
            generalize cf x5 y5 = r5 at Q5 v5
            have n5 : ¬ r5 < 0 := of_decide_eq_false v5
            go_wp2_with fail
            have m5 : Nonempty (SWT w b dk) := ⟨⟨_, S.out⟩⟩
            have g5a := l5a.out
            have g5b := l5b.out
            refine wp_region_class (fun w' => ∃ x : SWT w b dk, w' = x.1) (by kernel_rfl) (by kernel_rfl) ⟨⟨_, S.out.drew⟩, rfl⟩ ?_
            repeat (go_big_quiet_step ((rename_i x; (go_at_call 37; refine (Q5.out _ x.2).mono ?_; rintro e w2 ⟨rfl, hb⟩; exact ⟨rfl, ⟨_, x.2.call hb⟩, rfl⟩))))
            refine wpQuiet_nil ?_
            rintro W5 ⟨⟨X5, h5⟩, rfl⟩
            clear S
            have S := Lib.hid h5
            clear g5a g5b l5a l5b Q5 m5 h5 ei5 ej5 v5 n5
            go_wp2
            go_roundg (jk - 1)
            case measure => omega
            case rel => exact ⟨jk - 1, (by rw [show ((jk - 1 : Nat) : Int) = (jk : Int) - 1 by omega]), by omega, by omega, Nat.le_refl _, (show Hid _ from (by show _ = _; rw [← HU.out]; exact (scanDown_go (fun x => !ltOf cf x dk[lo]!) dk i2 jk hle (by omega) (by simp [hL])).symm)), S⟩
        · have hlez : ¬ ((i2 : Int) ≤ (jk : Int)) := by omega
          have hled : decide ((i2 : Int) ≤ (jk : Int)) = false := decide_eq_false hlez
          go_wp2_with fail
          go_big_region
          all_goals go_wp2
          go_meet
          exact ⟨jk, rfl, h1, h2, (show Hid _ from (by show _ = _; rw [← HU.out]; exact (scanDown_end (fun x => !ltOf cf x dk[lo]!) dk i2 jk (.inl hle)).symm)), S.out.drew⟩
    case rest =>
      clear S
      obtain ⟨j2, rfl, hj21, hj22, Hj2, S⟩ := hcut
      by_cases hbr : j2 < i2
      · have hbrz : (j2 : Int) < (i2 : Int) := by omega
        have hbrz2 : ¬ ((i2 : Int) ≤ (j2 : Int)) := by omega
        obtain ⟨i6, hi6⟩ : ∃ q, q = j2 := ⟨_, rfl⟩
        have ei6 : ((j2 : Int)).toNat = i6 := by omega
        have pi6 : (0 : Int) ≤ (j2 : Int) := by omega
        have bi6 : (j2 : Int) < (n : Int) := by omega
        have ri6 : IntKind.i64.wrap ((j2 : Int)) = (j2 : Int) := by rw [IntKind.wrap_i64]; omega
        obtain ⟨j6, hj6⟩ : ∃ q, q = lo := ⟨_, rfl⟩
        have ej6 : ((lo : Int)).toNat = j6 := by omega
        have pj6 : (0 : Int) ≤ (lo : Int) := by omega
        have bj6 : (lo : Int) < (n : Int) := by omega
        have rj6 : IntKind.i64.wrap ((lo : Int)) = (lo : Int) := by rw [IntKind.wrap_i64]; omega
        obtain ⟨x6, hx6⟩ : ∃ x, x = dk[j2]! := ⟨_, rfl⟩
        obtain ⟨y6, hy6⟩ : ∃ x, x = dk[lo]! := ⟨_, rfl⟩
        have T6 : Hid (SW w b (Sort.swp dk (j2) (lo)) (World.setCell (World.setCell wc ⟨b, i6, none⟩ (.int .i64 y6)) ⟨b, j6, none⟩ (.int .i64 x6)).drew) := by rw [hi6, hj6, hx6, hy6]; exact (S.out.swp (j2) (lo)).drew
        have c6a := S.out.cell (j2) (by omega)
        have c6b := S.out.cell (lo) (by omega)
        have f6a := S.out.free (j2)
        have f6b := S.out.free (lo)
        obtain ⟨u6, c6c⟩ := S.out.cell2 (j2) (lo) (by omega) y6
        rw [← hj6, ← hi6] at c6c
        rw [← hx6, ← hi6] at c6a
        rw [← hy6, ← hj6] at c6b
        rw [← hi6] at f6a
        rw [← hj6] at f6b
        clear S hx6 hy6 hi6 hj6
        go_wp2_with fail
        go_big_region
        clear c6a c6b c6c f6a f6b
        generalize (World.setCell (World.setCell wc ⟨b, i6, none⟩ (.int .i64 y6)) ⟨b, j6, none⟩ (.int .i64 x6)).drew = V6 at T6 ⊢
        clear ei6 ej6
        have S := T6
        clear T6
        go_wp2_with fail
        go_ret2
        rw [part_first_break (ltOf cf) d lo hi pv HI.out HJ.out HDK.out Hi2.out Hj2.out hbr]
        exact ⟨rfl, S.out, by rw [size_swp]; exact hds, swpIn hds HP.out (by omega) (by omega)⟩
      · have hbrz : ¬ ((j2 : Int) < (i2 : Int)) := by omega
        have hbrz2 : (i2 : Int) ≤ (j2 : Int) := by omega
        have hlt2 : i2 < j2 := part_scans_lt (ltOf cf) lo i j dk (by omega) Hi2.out Hj2.out (by omega)
        have HG := Lib.hid (part_first_go (ltOf cf) d lo hi pv HI.out HJ.out HDK.out Hi2.out Hj2.out hbr)
        obtain ⟨i7, hi7⟩ : ∃ q, q = i2 := ⟨_, rfl⟩
        have ei7 : ((i2 : Int)).toNat = i7 := by omega
        have pi7 : (0 : Int) ≤ (i2 : Int) := by omega
        have bi7 : (i2 : Int) < (n : Int) := by omega
        have ri7 : IntKind.i64.wrap ((i2 : Int)) = (i2 : Int) := by rw [IntKind.wrap_i64]; omega
        obtain ⟨j7, hj7⟩ : ∃ q, q = j2 := ⟨_, rfl⟩
        have ej7 : ((j2 : Int)).toNat = j7 := by omega
        have pj7 : (0 : Int) ≤ (j2 : Int) := by omega
        have bj7 : (j2 : Int) < (n : Int) := by omega
        have rj7 : IntKind.i64.wrap ((j2 : Int)) = (j2 : Int) := by rw [IntKind.wrap_i64]; omega
        obtain ⟨x7, hx7⟩ : ∃ x, x = dk[i2]! := ⟨_, rfl⟩
        obtain ⟨y7, hy7⟩ : ∃ x, x = dk[j2]! := ⟨_, rfl⟩
        have T7 : Hid (SW w b (Sort.swp dk (i2) (j2)) (World.setCell (World.setCell wc ⟨b, i7, none⟩ (.int .i64 y7)) ⟨b, j7, none⟩ (.int .i64 x7)).drew) := by rw [hi7, hj7, hx7, hy7]; exact (S.out.swp (i2) (j2)).drew
        have c7a := S.out.cell (i2) (by omega)
        have c7b := S.out.cell (j2) (by omega)
        have f7a := S.out.free (i2)
        have f7b := S.out.free (j2)
        obtain ⟨u7, c7c⟩ := S.out.cell2 (i2) (j2) (by omega) y7
        rw [← hj7, ← hi7] at c7c
        rw [← hx7, ← hi7] at c7a
        rw [← hy7, ← hj7] at c7b
        rw [← hi7] at f7a
        rw [← hj7] at f7b
        clear S hx7 hy7 hi7 hj7
        go_wp2_with fail
        go_big_region
        clear c7a c7b c7c f7a f7b
        generalize (World.setCell (World.setCell wc ⟨b, i7, none⟩ (.int .i64 y7)) ⟨b, j7, none⟩ (.int .i64 x7)).drew = V7 at T7 ⊢
        clear ei7 ej7
        have S := T7
        clear T7
        have hds2 : (Sort.swp dk i2 j2).size = n := by rw [size_swp]; exact hds
        have HP2 := Lib.hid (swpIn hds HP.out (i := i2) (k := j2) (by omega) (by omega))
        clear HP HI HJ HDK Hi2 Hj2
        obtain ⟨dl, hdl⟩ : ∃ dl, dl = Sort.swp dk i2 j2 := ⟨_, rfl⟩
        rw [← hdl] at S HG hds2 HP2
        clear hdl
        go_wp2_with fail
        go_loopg [12, 13] j2 (fun kg s12 s13 wr => ∃ (p q : Nat) (dm : Array Int), s12 = .int .i64 p ∧ s13 = .int .i64 q ∧ lo < p ∧ p ≤ q + 1 ∧ q < n ∧ q + 1 - p ≤ kg ∧ dm.size = n ∧ Hid (∀ j, j < n → P dm[j]!) ∧ Hid (SW w b dm wr) ∧ Hid (Sort.partLoop (ltOf cf) lo p q dm = Sort.partLoop (ltOf cf) lo (i2 + 1) (j2 - 1) dl))
        case atStart => exact ⟨i2 + 1, j2 - 1, dl, by go_num, (by rw [show ((j2 - 1 : Nat) : Int) = (j2 : Int) - 1 by omega]), by omega, by omega, by omega, by omega, hds2, HP2, S, rfl⟩
        case round =>
          clear S HP2 hds2
          obtain ⟨p, q, dm, rfl, rfl, hlp1, hpq, hqn, hkg, hds2, HP, S, HE⟩ := hrel
          go_upto_block 6 with fail
          go_cut [12] from 105 to 162 (fun s wx => ∃ p2 : Nat, s = .int .i64 p2 ∧ p ≤ p2 ∧ p2 ≤ q + 1 ∧ Hid (p2 = Sort.scanUp (fun x => ltOf cf x dm[lo]!) dm q p) ∧ Hid (SW w b dm wx))
          case first =>
            go_wp2_with fail
            go_loopg [12] (q + 1 - p) (fun kg s wr => ∃ ik : Nat, s = .int .i64 ik ∧ p ≤ ik ∧ ik ≤ q + 1 ∧ q + 1 - ik ≤ kg ∧ Hid (Sort.scanUp (fun x => ltOf cf x dm[lo]!) dm q ik = Sort.scanUp (fun x => ltOf cf x dm[lo]!) dm q p) ∧ Hid (SW w b dm wr))
            case atStart => exact ⟨p, rfl, Nat.le_refl _, by omega, Nat.le_refl _, rfl, S⟩
            case round =>
              clear S
              obtain ⟨ik, rfl, h1, h2, h3, HU, S⟩ := hrel
              by_cases hle : ik ≤ q
              · have hlez : (ik : Int) ≤ (q : Int) := by omega
                cases hL : ltOf cf dm[ik]! dm[lo]! with
                | true =>
                  obtain ⟨i8, hi8⟩ : ∃ q, q = ik := ⟨_, rfl⟩
                  have ei8 : ((ik : Int)).toNat = i8 := by omega
                  have pi8 : (0 : Int) ≤ (ik : Int) := by omega
                  have bi8 : (ik : Int) < (n : Int) := by omega
                  have ri8 : IntKind.i64.wrap ((ik : Int)) = (ik : Int) := by rw [IntKind.wrap_i64]; omega
                  obtain ⟨j8, hj8⟩ : ∃ q, q = lo := ⟨_, rfl⟩
                  have ej8 : ((lo : Int)).toNat = j8 := by omega
                  have pj8 : (0 : Int) ≤ (lo : Int) := by omega
                  have bj8 : (lo : Int) < (n : Int) := by omega
                  have rj8 : IntKind.i64.wrap ((lo : Int)) = (lo : Int) := by rw [IntKind.wrap_i64]; omega
                  have l8a := Lib.hid (fun (x : SWT w b dm) => x.2.cell (ik) (by omega))
                  have l8b := Lib.hid (fun (x : SWT w b dm) => x.2.cell (lo) (by omega))
                  have Q8 := Lib.hid (fun X (hX : SW w b dm X) => HC.out dm X hX dm[ik]! dm[lo]! (HP.out _ (by omega)) (HP.out _ (by omega)))
                  have v8 : decide (cf dm[ik]! dm[lo]! < 0) = true := hL
                  obtain ⟨x8, hx8⟩ : ∃ x, x = dm[ik]! := ⟨_, rfl⟩
                  obtain ⟨y8, hy8⟩ : ∃ x, x = dm[lo]! := ⟨_, rfl⟩
                  rw [← hx8, ← hi8] at l8a
                  rw [← hy8, ← hj8] at l8b
                  rw [← hx8, ← hy8] at Q8 v8
                  clear hx8 hy8 hi8 hj8
                  generalize cf x8 y8 = r8 at Q8 v8
                  have n8 : r8 < 0 := of_decide_eq_true v8
                  go_wp2_with fail
                  have m8 : Nonempty (SWT w b dm) := ⟨⟨_, S.out⟩⟩
                  have g8a := l8a.out
                  have g8b := l8b.out
                  refine wp_region_class (fun w' => ∃ x : SWT w b dm, w' = x.1) (by kernel_rfl) (by kernel_rfl) ⟨⟨_, S.out.drew⟩, rfl⟩ ?_
                  repeat (go_big_quiet_step ((rename_i x; (go_at_call 37; refine (Q8.out _ x.2).mono ?_; rintro e w2 ⟨rfl, hb⟩; exact ⟨rfl, ⟨_, x.2.call hb⟩, rfl⟩))))
                  refine wpQuiet_nil ?_
                  rintro W8 ⟨⟨X8, h8⟩, rfl⟩
                  clear S
                  have S := Lib.hid h8
                  clear g8a g8b l8a l8b Q8 m8 h8 ei8 ej8 v8 n8
                  go_wp2
                  go_roundg (q + 1 - (ik + 1))
                  case measure => omega
                  case rel => exact ⟨ik + 1, by go_num, by omega, by omega, Nat.le_refl _, (show Hid _ from (by show _ = _; rw [← HU.out]; exact (scanUp_go (fun x => ltOf cf x dm[lo]!) dm q ik hle (by simp [hL])).symm)), S⟩
                | false =>
                  obtain ⟨i9, hi9⟩ : ∃ q, q = ik := ⟨_, rfl⟩
                  have ei9 : ((ik : Int)).toNat = i9 := by omega
                  have pi9 : (0 : Int) ≤ (ik : Int) := by omega
                  have bi9 : (ik : Int) < (n : Int) := by omega
                  have ri9 : IntKind.i64.wrap ((ik : Int)) = (ik : Int) := by rw [IntKind.wrap_i64]; omega
                  obtain ⟨j9, hj9⟩ : ∃ q, q = lo := ⟨_, rfl⟩
                  have ej9 : ((lo : Int)).toNat = j9 := by omega
                  have pj9 : (0 : Int) ≤ (lo : Int) := by omega
                  have bj9 : (lo : Int) < (n : Int) := by omega
                  have rj9 : IntKind.i64.wrap ((lo : Int)) = (lo : Int) := by rw [IntKind.wrap_i64]; omega
                  have l9a := Lib.hid (fun (x : SWT w b dm) => x.2.cell (ik) (by omega))
                  have l9b := Lib.hid (fun (x : SWT w b dm) => x.2.cell (lo) (by omega))
                  have Q9 := Lib.hid (fun X (hX : SW w b dm X) => HC.out dm X hX dm[ik]! dm[lo]! (HP.out _ (by omega)) (HP.out _ (by omega)))
                  have v9 : decide (cf dm[ik]! dm[lo]! < 0) = false := hL
                  obtain ⟨x9, hx9⟩ : ∃ x, x = dm[ik]! := ⟨_, rfl⟩
                  obtain ⟨y9, hy9⟩ : ∃ x, x = dm[lo]! := ⟨_, rfl⟩
                  rw [← hx9, ← hi9] at l9a
                  rw [← hy9, ← hj9] at l9b
                  rw [← hx9, ← hy9] at Q9 v9
                  clear hx9 hy9 hi9 hj9
                  generalize cf x9 y9 = r9 at Q9 v9
                  have n9 : ¬ r9 < 0 := of_decide_eq_false v9
                  go_wp2_with fail
                  have m9 : Nonempty (SWT w b dm) := ⟨⟨_, S.out⟩⟩
                  have g9a := l9a.out
                  have g9b := l9b.out
                  refine wp_region_class (fun w' => ∃ x : SWT w b dm, w' = x.1) (by kernel_rfl) (by kernel_rfl) ⟨⟨_, S.out.drew⟩, rfl⟩ ?_
                  repeat (go_big_quiet_step ((rename_i x; (go_at_call 37; refine (Q9.out _ x.2).mono ?_; rintro e w2 ⟨rfl, hb⟩; exact ⟨rfl, ⟨_, x.2.call hb⟩, rfl⟩))))
                  refine wpQuiet_nil ?_
                  rintro W9 ⟨⟨X9, h9⟩, rfl⟩
                  clear S
                  have S := Lib.hid h9
                  clear g9a g9b l9a l9b Q9 m9 h9 ei9 ej9 v9 n9
                  go_wp2
                  go_meet
                  exact ⟨ik, rfl, h1, h2, (show Hid _ from (by show _ = _; rw [← HU.out]; exact (scanUp_end (fun x => ltOf cf x dm[lo]!) dm q ik (.inr (by simp [hL]))).symm)), S⟩
              · have hlez : ¬ ((ik : Int) ≤ (q : Int)) := by omega
                have hled : decide ((ik : Int) ≤ (q : Int)) = false := decide_eq_false hlez
                go_wp2_with fail
                go_big_region
                all_goals go_wp2
                go_meet
                exact ⟨ik, rfl, h1, h2, (show Hid _ from (by show _ = _; rw [← HU.out]; exact (scanUp_end (fun x => ltOf cf x dm[lo]!) dm q ik (.inl hle)).symm)), S.out.drew⟩
          case rest =>
            clear S
            obtain ⟨p2, rfl, hp21, hp22, Hp2, S⟩ := hcut
            go_upto_block 8 with fail
            go_cut [13] from 105 to 162 (fun s wx => ∃ q2 : Nat, s = .int .i64 q2 ∧ q2 ≤ q ∧ p2 ≤ q2 + 1 ∧ Hid (q2 = Sort.scanDown (fun x => !ltOf cf x dm[lo]!) dm p2 q) ∧ Hid (SW w b dm wx))
            case first =>
              go_wp2_with fail
              go_loopg [13] q (fun kg s wr => ∃ jk : Nat, s = .int .i64 jk ∧ jk ≤ q ∧ p2 ≤ jk + 1 ∧ jk ≤ kg ∧ Hid (Sort.scanDown (fun x => !ltOf cf x dm[lo]!) dm p2 jk = Sort.scanDown (fun x => !ltOf cf x dm[lo]!) dm p2 q) ∧ Hid (SW w b dm wr))
              case atStart => exact ⟨q, rfl, Nat.le_refl _, by omega, Nat.le_refl _, rfl, S⟩
              case round =>
                clear S
                obtain ⟨jk, rfl, h1, h2, h3, HU, S⟩ := hrel
                by_cases hle : p2 ≤ jk
                · have hlez : (p2 : Int) ≤ (jk : Int) := by omega
                  cases hL : ltOf cf dm[jk]! dm[lo]! with
                  | true =>
                    obtain ⟨i10, hi10⟩ : ∃ q, q = jk := ⟨_, rfl⟩
                    have ei10 : ((jk : Int)).toNat = i10 := by omega
                    have pi10 : (0 : Int) ≤ (jk : Int) := by omega
                    have bi10 : (jk : Int) < (n : Int) := by omega
                    have ri10 : IntKind.i64.wrap ((jk : Int)) = (jk : Int) := by rw [IntKind.wrap_i64]; omega
                    obtain ⟨j10, hj10⟩ : ∃ q, q = lo := ⟨_, rfl⟩
                    have ej10 : ((lo : Int)).toNat = j10 := by omega
                    have pj10 : (0 : Int) ≤ (lo : Int) := by omega
                    have bj10 : (lo : Int) < (n : Int) := by omega
                    have rj10 : IntKind.i64.wrap ((lo : Int)) = (lo : Int) := by rw [IntKind.wrap_i64]; omega
                    have l10a := Lib.hid (fun (x : SWT w b dm) => x.2.cell (jk) (by omega))
                    have l10b := Lib.hid (fun (x : SWT w b dm) => x.2.cell (lo) (by omega))
                    have Q10 := Lib.hid (fun X (hX : SW w b dm X) => HC.out dm X hX dm[jk]! dm[lo]! (HP.out _ (by omega)) (HP.out _ (by omega)))
                    have v10 : decide (cf dm[jk]! dm[lo]! < 0) = true := hL
                    obtain ⟨x10, hx10⟩ : ∃ x, x = dm[jk]! := ⟨_, rfl⟩
                    obtain ⟨y10, hy10⟩ : ∃ x, x = dm[lo]! := ⟨_, rfl⟩
                    rw [← hx10, ← hi10] at l10a
                    rw [← hy10, ← hj10] at l10b
                    rw [← hx10, ← hy10] at Q10 v10
                    clear hx10 hy10 hi10 hj10
                    generalize cf x10 y10 = r10 at Q10 v10
                    have n10 : r10 < 0 := of_decide_eq_true v10
                    go_wp2_with fail
                    have m10 : Nonempty (SWT w b dm) := ⟨⟨_, S.out⟩⟩
                    have g10a := l10a.out
                    have g10b := l10b.out
                    refine wp_region_class (fun w' => ∃ x : SWT w b dm, w' = x.1) (by kernel_rfl) (by kernel_rfl) ⟨⟨_, S.out.drew⟩, rfl⟩ ?_
                    repeat (go_big_quiet_step ((rename_i x; (go_at_call 37; refine (Q10.out _ x.2).mono ?_; rintro e w2 ⟨rfl, hb⟩; exact ⟨rfl, ⟨_, x.2.call hb⟩, rfl⟩))))
                    refine wpQuiet_nil ?_
                    rintro W10 ⟨⟨X10, h10⟩, rfl⟩
                    clear S
                    have S := Lib.hid h10
                    clear g10a g10b l10a l10b Q10 m10 h10 ei10 ej10 v10 n10
                    go_wp2
                    go_meet
                    exact ⟨jk, rfl, h1, h2, (show Hid _ from (by show _ = _; rw [← HU.out]; exact (scanDown_end (fun x => !ltOf cf x dm[lo]!) dm p2 jk (.inr (by simp [hL]))).symm)), S⟩
                  | false =>
                    obtain ⟨i11, hi11⟩ : ∃ q, q = jk := ⟨_, rfl⟩
                    have ei11 : ((jk : Int)).toNat = i11 := by omega
                    have pi11 : (0 : Int) ≤ (jk : Int) := by omega
                    have bi11 : (jk : Int) < (n : Int) := by omega
                    have ri11 : IntKind.i64.wrap ((jk : Int)) = (jk : Int) := by rw [IntKind.wrap_i64]; omega
                    obtain ⟨j11, hj11⟩ : ∃ q, q = lo := ⟨_, rfl⟩
                    have ej11 : ((lo : Int)).toNat = j11 := by omega
                    have pj11 : (0 : Int) ≤ (lo : Int) := by omega
                    have bj11 : (lo : Int) < (n : Int) := by omega
                    have rj11 : IntKind.i64.wrap ((lo : Int)) = (lo : Int) := by rw [IntKind.wrap_i64]; omega
                    have l11a := Lib.hid (fun (x : SWT w b dm) => x.2.cell (jk) (by omega))
                    have l11b := Lib.hid (fun (x : SWT w b dm) => x.2.cell (lo) (by omega))
                    have Q11 := Lib.hid (fun X (hX : SW w b dm X) => HC.out dm X hX dm[jk]! dm[lo]! (HP.out _ (by omega)) (HP.out _ (by omega)))
                    have v11 : decide (cf dm[jk]! dm[lo]! < 0) = false := hL
                    obtain ⟨x11, hx11⟩ : ∃ x, x = dm[jk]! := ⟨_, rfl⟩
                    obtain ⟨y11, hy11⟩ : ∃ x, x = dm[lo]! := ⟨_, rfl⟩
                    rw [← hx11, ← hi11] at l11a
                    rw [← hy11, ← hj11] at l11b
                    rw [← hx11, ← hy11] at Q11 v11
                    clear hx11 hy11 hi11 hj11
                    generalize cf x11 y11 = r11 at Q11 v11
                    have n11 : ¬ r11 < 0 := of_decide_eq_false v11
                    go_wp2_with fail
                    have m11 : Nonempty (SWT w b dm) := ⟨⟨_, S.out⟩⟩
                    have g11a := l11a.out
                    have g11b := l11b.out
                    refine wp_region_class (fun w' => ∃ x : SWT w b dm, w' = x.1) (by kernel_rfl) (by kernel_rfl) ⟨⟨_, S.out.drew⟩, rfl⟩ ?_
                    repeat (go_big_quiet_step ((rename_i x; (go_at_call 37; refine (Q11.out _ x.2).mono ?_; rintro e w2 ⟨rfl, hb⟩; exact ⟨rfl, ⟨_, x.2.call hb⟩, rfl⟩))))
                    refine wpQuiet_nil ?_
                    rintro W11 ⟨⟨X11, h11⟩, rfl⟩
                    clear S
                    have S := Lib.hid h11
                    clear g11a g11b l11a l11b Q11 m11 h11 ei11 ej11 v11 n11
                    go_wp2
                    go_roundg (jk - 1)
                    case measure => omega
                    case rel => exact ⟨jk - 1, (by rw [show ((jk - 1 : Nat) : Int) = (jk : Int) - 1 by omega]), by omega, by omega, Nat.le_refl _, (show Hid _ from (by show _ = _; rw [← HU.out]; exact (scanDown_go (fun x => !ltOf cf x dm[lo]!) dm p2 jk hle (by omega) (by simp [hL])).symm)), S⟩
                · have hlez : ¬ ((p2 : Int) ≤ (jk : Int)) := by omega
                  have hled : decide ((p2 : Int) ≤ (jk : Int)) = false := decide_eq_false hlez
                  go_wp2_with fail
                  go_big_region
                  all_goals go_wp2
                  go_meet
                  exact ⟨jk, rfl, h1, h2, (show Hid _ from (by show _ = _; rw [← HU.out]; exact (scanDown_end (fun x => !ltOf cf x dm[lo]!) dm p2 jk (.inl hle)).symm)), S.out.drew⟩
            case rest =>
              clear S
              obtain ⟨q2, rfl, hq21, hq22, Hq2, S⟩ := hcut
              by_cases hbr2 : q2 < p2
              · have hbrz3 : (q2 : Int) < (p2 : Int) := by omega
                have hbrz4 : ¬ ((p2 : Int) ≤ (q2 : Int)) := by omega
                obtain ⟨i12, hi12⟩ : ∃ q, q = q2 := ⟨_, rfl⟩
                have ei12 : ((q2 : Int)).toNat = i12 := by omega
                have pi12 : (0 : Int) ≤ (q2 : Int) := by omega
                have bi12 : (q2 : Int) < (n : Int) := by omega
                have ri12 : IntKind.i64.wrap ((q2 : Int)) = (q2 : Int) := by rw [IntKind.wrap_i64]; omega
                obtain ⟨j12, hj12⟩ : ∃ q, q = lo := ⟨_, rfl⟩
                have ej12 : ((lo : Int)).toNat = j12 := by omega
                have pj12 : (0 : Int) ≤ (lo : Int) := by omega
                have bj12 : (lo : Int) < (n : Int) := by omega
                have rj12 : IntKind.i64.wrap ((lo : Int)) = (lo : Int) := by rw [IntKind.wrap_i64]; omega
                obtain ⟨x12, hx12⟩ : ∃ x, x = dm[q2]! := ⟨_, rfl⟩
                obtain ⟨y12, hy12⟩ : ∃ x, x = dm[lo]! := ⟨_, rfl⟩
                have T12 : Hid (SW w b (Sort.swp dm (q2) (lo)) (World.setCell (World.setCell wc ⟨b, i12, none⟩ (.int .i64 y12)) ⟨b, j12, none⟩ (.int .i64 x12)).drew) := by rw [hi12, hj12, hx12, hy12]; exact (S.out.swp (q2) (lo)).drew
                have c12a := S.out.cell (q2) (by omega)
                have c12b := S.out.cell (lo) (by omega)
                have f12a := S.out.free (q2)
                have f12b := S.out.free (lo)
                obtain ⟨u12, c12c⟩ := S.out.cell2 (q2) (lo) (by omega) y12
                rw [← hj12, ← hi12] at c12c
                rw [← hx12, ← hi12] at c12a
                rw [← hy12, ← hj12] at c12b
                rw [← hi12] at f12a
                rw [← hj12] at f12b
                clear S hx12 hy12 hi12 hj12
                go_wp2_with fail
                go_big_region
                clear c12a c12b c12c f12a f12b
                generalize (World.setCell (World.setCell wc ⟨b, i12, none⟩ (.int .i64 y12)) ⟨b, j12, none⟩ (.int .i64 x12)).drew = V12 at T12 ⊢
                clear ei12 ej12
                have S := T12
                clear T12
                go_wp2_with fail
                go_ret2
                rw [HG.out, ← HE.out, part_break (ltOf cf) lo p q dm Hp2.out Hq2.out hbr2]
                exact ⟨rfl, S.out, by rw [size_swp]; exact hds2, swpIn hds2 HP.out (by omega) (by omega)⟩
              · have hbrz3 : ¬ ((q2 : Int) < (p2 : Int)) := by omega
                have hbrz4 : (p2 : Int) ≤ (q2 : Int) := by omega
                have hlt3 : p2 < q2 := part_scans_lt (ltOf cf) lo p q dm (by omega) Hp2.out Hq2.out (by omega)
                have HE2 := Lib.hid ((part_go (ltOf cf) lo p q dm Hp2.out Hq2.out hbr2).symm.trans HE.out)
                obtain ⟨i13, hi13⟩ : ∃ q, q = p2 := ⟨_, rfl⟩
                have ei13 : ((p2 : Int)).toNat = i13 := by omega
                have pi13 : (0 : Int) ≤ (p2 : Int) := by omega
                have bi13 : (p2 : Int) < (n : Int) := by omega
                have ri13 : IntKind.i64.wrap ((p2 : Int)) = (p2 : Int) := by rw [IntKind.wrap_i64]; omega
                obtain ⟨j13, hj13⟩ : ∃ q, q = q2 := ⟨_, rfl⟩
                have ej13 : ((q2 : Int)).toNat = j13 := by omega
                have pj13 : (0 : Int) ≤ (q2 : Int) := by omega
                have bj13 : (q2 : Int) < (n : Int) := by omega
                have rj13 : IntKind.i64.wrap ((q2 : Int)) = (q2 : Int) := by rw [IntKind.wrap_i64]; omega
                obtain ⟨x13, hx13⟩ : ∃ x, x = dm[p2]! := ⟨_, rfl⟩
                obtain ⟨y13, hy13⟩ : ∃ x, x = dm[q2]! := ⟨_, rfl⟩
                have T13 : Hid (SW w b (Sort.swp dm (p2) (q2)) (World.setCell (World.setCell wc ⟨b, i13, none⟩ (.int .i64 y13)) ⟨b, j13, none⟩ (.int .i64 x13)).drew) := by rw [hi13, hj13, hx13, hy13]; exact (S.out.swp (p2) (q2)).drew
                have c13a := S.out.cell (p2) (by omega)
                have c13b := S.out.cell (q2) (by omega)
                have f13a := S.out.free (p2)
                have f13b := S.out.free (q2)
                obtain ⟨u13, c13c⟩ := S.out.cell2 (p2) (q2) (by omega) y13
                rw [← hj13, ← hi13] at c13c
                rw [← hx13, ← hi13] at c13a
                rw [← hy13, ← hj13] at c13b
                rw [← hi13] at f13a
                rw [← hj13] at f13b
                clear S hx13 hy13 hi13 hj13
                go_wp2_with fail
                go_big_region
                clear c13a c13b c13c f13a f13b
                generalize (World.setCell (World.setCell wc ⟨b, i13, none⟩ (.int .i64 y13)) ⟨b, j13, none⟩ (.int .i64 x13)).drew = V13 at T13 ⊢
                clear ei13 ej13
                have S := T13
                clear T13
                go_wp2_with fail
                go_roundg (q2 - 1 + 1 - (p2 + 1))
                case measure => omega
                case rel => exact ⟨p2 + 1, q2 - 1, Sort.swp dm p2 q2, by go_num, (by rw [show ((q2 - 1 : Nat) : Int) = (q2 : Int) - 1 by omega]), by omega, by omega, by omega, Nat.le_refl _, by rw [size_swp]; exact hds2, swpIn hds2 HP.out (by omega) (by omega), S, HE2⟩
end Go.Proofs.YtkmnlfbllfaieaaDoor
