/- Contract of slices.siftDownCmpFunc at a bound method. Condition: the heap lies in the row. Written by gen/gensift.py. -/
import Derived.Test.YtkmnlfbllfaieaaDoorSoIns
import Derived.Sort.WalkB2
namespace Go.Proofs.YtkmnlfbllfaieaaDoor
open Go.RowKit Go.Sort
set_option maxRecDepth 100000 in
set_option maxHeartbeats 8000000 in
theorem sift_any (w : World) (b c n : Nat) (P : Int → Prop) (cf : Int → Int → Int) (rv : Value) (hc : CmpOf w b P cf rv) (d : Array Int) (W : World) (hn : d.size = n) (hm : n ≤ 140737488355328) (h : SW w b d W) (hP : ∀ j, j < n → P d[j]!) (lo hi first : Nat) (hlo : lo ≤ hi) (hhi : first + hi ≤ n) :
    Calls Tryd.prog 71 #[.slice (some ⟨b, 0, none⟩) n c, .int .i64 lo, .int .i64 hi, .int .i64 first, .func (.func 37) #[rv] #[]] W fun e w' => e = .returned (.tuple #[]) ∧ SW w b (Sort.siftDown (ltOf cf) hi first lo d) w' ∧ Kept P n (Sort.siftDown (ltOf cf) hi first lo d) := by
  have S := Lib.hid h
  have HC := Lib.hid hc
  have HP := Lib.hid hP
  clear h hc hP
  go_enter Tryd.func71, Tryd.ntmps71
  go_wp2_with fail
  go_loopg [10] (hi - lo) (fun kx s10 wr => ∃ (root : Nat) (dk : Array Int), s10 = .int .i64 root ∧ root ≤ hi ∧ hi - root ≤ kx ∧ dk.size = n ∧ Hid (∀ j, j < n → P dk[j]!) ∧ Hid (SW w b dk wr) ∧ Hid (siftDown (ltOf cf) hi first root dk = siftDown (ltOf cf) hi first lo d))
  case atStart => exact ⟨lo, d, rfl, hlo, Nat.le_refl _, hn, HP, S, rfl⟩
  case round =>
    clear S HP
    obtain ⟨root, dk, rfl, hr, hkx, hds, HP, S, HE⟩ := hrel
    by_cases h0 : hi ≤ 2 * root + 1
    · have h0z : (hi : Int) ≤ 2 * (root : Int) + 1 := by omega
      go_wp2
      go_end0
      refine ⟨rfl, ?_⟩
      rw [← HE.out, sd_end (ltOf cf) dk h0]
      exact ⟨S.out, hds, HP.out⟩
    · have h0z : ¬ ((hi : Int) ≤ 2 * (root : Int) + 1) := by omega
      have rch : IntKind.i64.wrap (2 * (root : Int) + 1 + 1) = 2 * (root : Int) + 1 + 1 := by rw [IntKind.wrap_i64]; omega
      by_cases h1 : 2 * root + 2 < hi
      · have h1z : 2 * (root : Int) + 1 + 1 < (hi : Int) := by omega
        cases hL : ltOf cf dk[first + (2 * root + 1)]! dk[first + (2 * root + 2)]! with
        | true =>
          obtain ⟨i1, hi1⟩ : ∃ q, q = first + (2 * root + 1) := ⟨_, rfl⟩
          have ei1 : ((first : Int) + (2 * (root : Int) + 1)).toNat = i1 := by omega
          have pi1 : (0 : Int) ≤ (first : Int) + (2 * (root : Int) + 1) := by omega
          have bi1 : (first : Int) + (2 * (root : Int) + 1) < (n : Int) := by omega
          have ri1 : IntKind.i64.wrap ((first : Int) + (2 * (root : Int) + 1)) = (first : Int) + (2 * (root : Int) + 1) := by rw [IntKind.wrap_i64]; omega
          obtain ⟨j1, hj1⟩ : ∃ q, q = first + (2 * root + 2) := ⟨_, rfl⟩
          have ej1 : ((first : Int) + (2 * (root : Int) + 1) + 1).toNat = j1 := by omega
          have pj1 : (0 : Int) ≤ (first : Int) + (2 * (root : Int) + 1) + 1 := by omega
          have bj1 : (first : Int) + (2 * (root : Int) + 1) + 1 < (n : Int) := by omega
          have rj1 : IntKind.i64.wrap ((first : Int) + (2 * (root : Int) + 1) + 1) = (first : Int) + (2 * (root : Int) + 1) + 1 := by rw [IntKind.wrap_i64]; omega
          have l1a := Lib.hid (fun (x : SWT w b dk) => x.2.cell (first + (2 * root + 1)) (by omega))
          have l1b := Lib.hid (fun (x : SWT w b dk) => x.2.cell (first + (2 * root + 2)) (by omega))
          have Q1 := Lib.hid (fun X (hX : SW w b dk X) => HC.out dk X hX dk[first + (2 * root + 1)]! dk[first + (2 * root + 2)]! (HP.out _ (by omega)) (HP.out _ (by omega)))
          have v1 : decide (cf dk[first + (2 * root + 1)]! dk[first + (2 * root + 2)]! < 0) = true := hL
          obtain ⟨x1, hx1⟩ : ∃ x, x = dk[first + (2 * root + 1)]! := ⟨_, rfl⟩
          obtain ⟨y1, hy1⟩ : ∃ x, x = dk[first + (2 * root + 2)]! := ⟨_, rfl⟩
          rw [← hx1, ← hi1] at l1a
          rw [← hy1, ← hj1] at l1b
          rw [← hx1, ← hy1] at Q1 v1
          clear hx1 hy1 hi1 hj1
          generalize cf x1 y1 = r1 at Q1 v1
          have n1 : r1 < 0 := of_decide_eq_true v1
          go_wp2_with fail
          have m1 : Nonempty (SWT w b dk) := ⟨⟨_, S.out⟩⟩
          have g1a := l1a.out
          have g1b := l1b.out
          refine wp_region_class (fun w' => ∃ x : SWT w b dk, w' = x.1) (by kernel_rfl) (by kernel_rfl) ⟨⟨_, S.out.drew⟩, rfl⟩ ?_
          repeat (go_big_quiet_step ((rename_i x; (go_at_call 37; refine (Q1.out _ x.2).mono ?_; rintro e w2 ⟨rfl, hb⟩; exact ⟨rfl, ⟨_, x.2.call hb⟩, rfl⟩))))
          refine wpQuiet_nil ?_
          rintro W1 ⟨⟨X1, h1⟩, rfl⟩
          clear S
          have S := Lib.hid h1
          clear g1a g1b l1a l1b Q1 m1 h1 ei1 ej1 v1 n1
          go_wp2_with fail
          cases hG : ltOf cf dk[first + root]! dk[first + (2 * root + 2)]! with
          | true =>
            obtain ⟨i2, hi2⟩ : ∃ q, q = first + root := ⟨_, rfl⟩
            have ei2 : ((first : Int) + (root : Int)).toNat = i2 := by omega
            have pi2 : (0 : Int) ≤ (first : Int) + (root : Int) := by omega
            have bi2 : (first : Int) + (root : Int) < (n : Int) := by omega
            have ri2 : IntKind.i64.wrap ((first : Int) + (root : Int)) = (first : Int) + (root : Int) := by rw [IntKind.wrap_i64]; omega
            obtain ⟨j2, hj2⟩ : ∃ q, q = first + (2 * root + 2) := ⟨_, rfl⟩
            have ej2 : ((first : Int) + (2 * (root : Int) + 1 + 1)).toNat = j2 := by omega
            have pj2 : (0 : Int) ≤ (first : Int) + (2 * (root : Int) + 1 + 1) := by omega
            have bj2 : (first : Int) + (2 * (root : Int) + 1 + 1) < (n : Int) := by omega
            have rj2 : IntKind.i64.wrap ((first : Int) + (2 * (root : Int) + 1 + 1)) = (first : Int) + (2 * (root : Int) + 1 + 1) := by rw [IntKind.wrap_i64]; omega
            have l2a := Lib.hid (fun (x : SWT w b dk) => x.2.cell (first + root) (by omega))
            have l2b := Lib.hid (fun (x : SWT w b dk) => x.2.cell (first + (2 * root + 2)) (by omega))
            have Q2 := Lib.hid (fun X (hX : SW w b dk X) => HC.out dk X hX dk[first + root]! dk[first + (2 * root + 2)]! (HP.out _ (by omega)) (HP.out _ (by omega)))
            have v2 : decide (cf dk[first + root]! dk[first + (2 * root + 2)]! < 0) = true := hG
            obtain ⟨x2, hx2⟩ : ∃ x, x = dk[first + root]! := ⟨_, rfl⟩
            obtain ⟨y2, hy2⟩ : ∃ x, x = dk[first + (2 * root + 2)]! := ⟨_, rfl⟩
            rw [← hx2, ← hi2] at l2a
            rw [← hy2, ← hj2] at l2b
            rw [← hx2, ← hy2] at Q2 v2
            clear hx2 hy2 hi2 hj2
            generalize cf x2 y2 = r2 at Q2 v2
            have n2 : r2 < 0 := of_decide_eq_true v2
            go_wp2_with fail
            have m2 : Nonempty (SWT w b dk) := ⟨⟨_, S.out⟩⟩
            have g2a := l2a.out
            have g2b := l2b.out
            refine wp_region_class (fun w' => ∃ x : SWT w b dk, w' = x.1) (by kernel_rfl) (by kernel_rfl) ⟨⟨_, S.out.drew⟩, rfl⟩ ?_
            repeat (go_big_quiet_step ((rename_i x; (go_at_call 37; refine (Q2.out _ x.2).mono ?_; rintro e w2 ⟨rfl, hb⟩; exact ⟨rfl, ⟨_, x.2.call hb⟩, rfl⟩))))
            refine wpQuiet_nil ?_
            rintro W2 ⟨⟨X2, h2⟩, rfl⟩
            clear S
            have S := Lib.hid h2
            clear g2a g2b l2a l2b Q2 m2 h2 ei2 ej2 v2 n2
            obtain ⟨i3, hi3⟩ : ∃ q, q = first + root := ⟨_, rfl⟩
            have ei3 : ((first : Int) + (root : Int)).toNat = i3 := by omega
            have pi3 : (0 : Int) ≤ (first : Int) + (root : Int) := by omega
            have bi3 : (first : Int) + (root : Int) < (n : Int) := by omega
            have ri3 : IntKind.i64.wrap ((first : Int) + (root : Int)) = (first : Int) + (root : Int) := by rw [IntKind.wrap_i64]; omega
            obtain ⟨j3, hj3⟩ : ∃ q, q = first + (2 * root + 2) := ⟨_, rfl⟩
            have ej3 : ((first : Int) + (2 * (root : Int) + 1 + 1)).toNat = j3 := by omega
            have pj3 : (0 : Int) ≤ (first : Int) + (2 * (root : Int) + 1 + 1) := by omega
            have bj3 : (first : Int) + (2 * (root : Int) + 1 + 1) < (n : Int) := by omega
            have rj3 : IntKind.i64.wrap ((first : Int) + (2 * (root : Int) + 1 + 1)) = (first : Int) + (2 * (root : Int) + 1 + 1) := by rw [IntKind.wrap_i64]; omega
            obtain ⟨x3, hx3⟩ : ∃ x, x = dk[first + root]! := ⟨_, rfl⟩
            obtain ⟨y3, hy3⟩ : ∃ x, x = dk[first + (2 * root + 2)]! := ⟨_, rfl⟩
            have T3 : Hid (SW w b (Sort.swp dk (first + root) (first + (2 * root + 2))) (World.setCell (World.setCell W2 ⟨b, i3, none⟩ (.int .i64 y3)) ⟨b, j3, none⟩ (.int .i64 x3)).drew) := by rw [hi3, hj3, hx3, hy3]; exact (S.out.swp (first + root) (first + (2 * root + 2))).drew
            have c3a := S.out.cell (first + root) (by omega)
            have c3b := S.out.cell (first + (2 * root + 2)) (by omega)
            have f3a := S.out.free (first + root)
            have f3b := S.out.free (first + (2 * root + 2))
            obtain ⟨u3, c3c⟩ := S.out.cell2 (first + root) (first + (2 * root + 2)) (by omega) y3
            rw [← hj3, ← hi3] at c3c
            rw [← hx3, ← hi3] at c3a
            rw [← hy3, ← hj3] at c3b
            rw [← hi3] at f3a
            rw [← hj3] at f3b
            clear S hx3 hy3 hi3 hj3
            go_wp2_with fail
            go_big_region
            clear c3a c3b c3c f3a f3b
            generalize (World.setCell (World.setCell W2 ⟨b, i3, none⟩ (.int .i64 y3)) ⟨b, j3, none⟩ (.int .i64 x3)).drew = V3 at T3 ⊢
            clear ei3 ej3
            have S := T3
            clear T3
            go_wp2
            go_roundg (hi - (2 * root + 2))
            case measure => omega
            case rel => exact ⟨2 * root + 2, Sort.swp dk (first + root) (first + (2 * root + 2)), by go_num, by omega, Nat.le_refl _, by rw [size_swp]; exact hds, swpIn hds HP.out (by omega) (by omega), S, (show Hid _ from by rw [← HE.out, sd_right_go (ltOf cf) dk h1 hL hG]; exact rfl)⟩
          | false =>
            obtain ⟨i4, hi4⟩ : ∃ q, q = first + root := ⟨_, rfl⟩
            have ei4 : ((first : Int) + (root : Int)).toNat = i4 := by omega
            have pi4 : (0 : Int) ≤ (first : Int) + (root : Int) := by omega
            have bi4 : (first : Int) + (root : Int) < (n : Int) := by omega
            have ri4 : IntKind.i64.wrap ((first : Int) + (root : Int)) = (first : Int) + (root : Int) := by rw [IntKind.wrap_i64]; omega
            obtain ⟨j4, hj4⟩ : ∃ q, q = first + (2 * root + 2) := ⟨_, rfl⟩
            have ej4 : ((first : Int) + (2 * (root : Int) + 1 + 1)).toNat = j4 := by omega
            have pj4 : (0 : Int) ≤ (first : Int) + (2 * (root : Int) + 1 + 1) := by omega
            have bj4 : (first : Int) + (2 * (root : Int) + 1 + 1) < (n : Int) := by omega
            have rj4 : IntKind.i64.wrap ((first : Int) + (2 * (root : Int) + 1 + 1)) = (first : Int) + (2 * (root : Int) + 1 + 1) := by rw [IntKind.wrap_i64]; omega
            have l4a := Lib.hid (fun (x : SWT w b dk) => x.2.cell (first + root) (by omega))
            have l4b := Lib.hid (fun (x : SWT w b dk) => x.2.cell (first + (2 * root + 2)) (by omega))
            have Q4 := Lib.hid (fun X (hX : SW w b dk X) => HC.out dk X hX dk[first + root]! dk[first + (2 * root + 2)]! (HP.out _ (by omega)) (HP.out _ (by omega)))
            have v4 : decide (cf dk[first + root]! dk[first + (2 * root + 2)]! < 0) = false := hG
            obtain ⟨x4, hx4⟩ : ∃ x, x = dk[first + root]! := ⟨_, rfl⟩
            obtain ⟨y4, hy4⟩ : ∃ x, x = dk[first + (2 * root + 2)]! := ⟨_, rfl⟩
            rw [← hx4, ← hi4] at l4a
            rw [← hy4, ← hj4] at l4b
            rw [← hx4, ← hy4] at Q4 v4
            clear hx4 hy4 hi4 hj4
            generalize cf x4 y4 = r4 at Q4 v4
            have n4 : ¬ r4 < 0 := of_decide_eq_false v4
            go_wp2_with fail
            have m4 : Nonempty (SWT w b dk) := ⟨⟨_, S.out⟩⟩
            have g4a := l4a.out
            have g4b := l4b.out
            refine wp_region_class (fun w' => ∃ x : SWT w b dk, w' = x.1) (by kernel_rfl) (by kernel_rfl) ⟨⟨_, S.out.drew⟩, rfl⟩ ?_
            repeat (go_big_quiet_step ((rename_i x; (go_at_call 37; refine (Q4.out _ x.2).mono ?_; rintro e w2 ⟨rfl, hb⟩; exact ⟨rfl, ⟨_, x.2.call hb⟩, rfl⟩))))
            refine wpQuiet_nil ?_
            rintro W4 ⟨⟨X4, h4⟩, rfl⟩
            clear S
            have S := Lib.hid h4
            clear g4a g4b l4a l4b Q4 m4 h4 ei4 ej4 v4 n4
            go_wp2
            (try simp only [Exit.inBlock, Exit.then]); refine bodyPost_ret (results_none rfl _ _ _) rfl ?_
            refine ⟨rfl, ?_⟩
            rw [← HE.out, sd_right_stop (ltOf cf) dk h1 hL hG]
            exact ⟨S.out, hds, HP.out⟩
        | false =>
          obtain ⟨i5, hi5⟩ : ∃ q, q = first + (2 * root + 1) := ⟨_, rfl⟩
          have ei5 : ((first : Int) + (2 * (root : Int) + 1)).toNat = i5 := by omega
          have pi5 : (0 : Int) ≤ (first : Int) + (2 * (root : Int) + 1) := by omega
          have bi5 : (first : Int) + (2 * (root : Int) + 1) < (n : Int) := by omega
          have ri5 : IntKind.i64.wrap ((first : Int) + (2 * (root : Int) + 1)) = (first : Int) + (2 * (root : Int) + 1) := by rw [IntKind.wrap_i64]; omega
          obtain ⟨j5, hj5⟩ : ∃ q, q = first + (2 * root + 2) := ⟨_, rfl⟩
          have ej5 : ((first : Int) + (2 * (root : Int) + 1) + 1).toNat = j5 := by omega
          have pj5 : (0 : Int) ≤ (first : Int) + (2 * (root : Int) + 1) + 1 := by omega
          have bj5 : (first : Int) + (2 * (root : Int) + 1) + 1 < (n : Int) := by omega
          have rj5 : IntKind.i64.wrap ((first : Int) + (2 * (root : Int) + 1) + 1) = (first : Int) + (2 * (root : Int) + 1) + 1 := by rw [IntKind.wrap_i64]; omega
          have l5a := Lib.hid (fun (x : SWT w b dk) => x.2.cell (first + (2 * root + 1)) (by omega))
          have l5b := Lib.hid (fun (x : SWT w b dk) => x.2.cell (first + (2 * root + 2)) (by omega))
          have Q5 := Lib.hid (fun X (hX : SW w b dk X) => HC.out dk X hX dk[first + (2 * root + 1)]! dk[first + (2 * root + 2)]! (HP.out _ (by omega)) (HP.out _ (by omega)))
          have v5 : decide (cf dk[first + (2 * root + 1)]! dk[first + (2 * root + 2)]! < 0) = false := hL
          obtain ⟨x5, hx5⟩ : ∃ x, x = dk[first + (2 * root + 1)]! := ⟨_, rfl⟩
          obtain ⟨y5, hy5⟩ : ∃ x, x = dk[first + (2 * root + 2)]! := ⟨_, rfl⟩
          rw [← hx5, ← hi5] at l5a
          rw [← hy5, ← hj5] at l5b
          rw [← hx5, ← hy5] at Q5 v5
          clear hx5 hy5 hi5 hj5
          generalize cf x5 y5 = r5 at Q5 v5
          have n5 : ¬ r5 < 0 := of_decide_eq_false v5
          go_wp2_with fail
          have m5 : Nonempty (SWT w b dk) := ⟨⟨_, S.out⟩⟩
          have g5a := l5a.out
          have g5b := l5b.out
          refine wp_region_class (fun w' => ∃ x : SWT w b dk, w' = x.1) (by kernel_rfl) (by kernel_rfl) ⟨⟨_, S.out.drew⟩, rfl⟩ ?_
          repeat (go_big_quiet_step ((rename_i x; (go_at_call 37; refine (Q5.out _ x.2).mono ?_; rintro e w2 ⟨rfl, hb⟩; exact ⟨rfl, ⟨_, x.2.call hb⟩, rfl⟩))))
          refine wpQuiet_nil ?_
          rintro W5 ⟨⟨X5, h5⟩, rfl⟩
          clear S
          have S := Lib.hid h5
          clear g5a g5b l5a l5b Q5 m5 h5 ei5 ej5 v5 n5
          go_wp2_with fail
          cases hG : ltOf cf dk[first + root]! dk[first + (2 * root + 1)]! with
          | true =>
            obtain ⟨i6, hi6⟩ : ∃ q, q = first + root := ⟨_, rfl⟩
            have ei6 : ((first : Int) + (root : Int)).toNat = i6 := by omega
            have pi6 : (0 : Int) ≤ (first : Int) + (root : Int) := by omega
            have bi6 : (first : Int) + (root : Int) < (n : Int) := by omega
            have ri6 : IntKind.i64.wrap ((first : Int) + (root : Int)) = (first : Int) + (root : Int) := by rw [IntKind.wrap_i64]; omega
            obtain ⟨j6, hj6⟩ : ∃ q, q = first + (2 * root + 1) := ⟨_, rfl⟩
            have ej6 : ((first : Int) + (2 * (root : Int) + 1)).toNat = j6 := by omega
            have pj6 : (0 : Int) ≤ (first : Int) + (2 * (root : Int) + 1) := by omega
            have bj6 : (first : Int) + (2 * (root : Int) + 1) < (n : Int) := by omega
            have rj6 : IntKind.i64.wrap ((first : Int) + (2 * (root : Int) + 1)) = (first : Int) + (2 * (root : Int) + 1) := by rw [IntKind.wrap_i64]; omega
            have l6a := Lib.hid (fun (x : SWT w b dk) => x.2.cell (first + root) (by omega))
            have l6b := Lib.hid (fun (x : SWT w b dk) => x.2.cell (first + (2 * root + 1)) (by omega))
            have Q6 := Lib.hid (fun X (hX : SW w b dk X) => HC.out dk X hX dk[first + root]! dk[first + (2 * root + 1)]! (HP.out _ (by omega)) (HP.out _ (by omega)))
            have v6 : decide (cf dk[first + root]! dk[first + (2 * root + 1)]! < 0) = true := hG
            obtain ⟨x6, hx6⟩ : ∃ x, x = dk[first + root]! := ⟨_, rfl⟩
            obtain ⟨y6, hy6⟩ : ∃ x, x = dk[first + (2 * root + 1)]! := ⟨_, rfl⟩
            rw [← hx6, ← hi6] at l6a
            rw [← hy6, ← hj6] at l6b
            rw [← hx6, ← hy6] at Q6 v6
            clear hx6 hy6 hi6 hj6
            generalize cf x6 y6 = r6 at Q6 v6
            have n6 : r6 < 0 := of_decide_eq_true v6
            go_wp2_with fail
            have m6 : Nonempty (SWT w b dk) := ⟨⟨_, S.out⟩⟩
            have g6a := l6a.out
            have g6b := l6b.out
            refine wp_region_class (fun w' => ∃ x : SWT w b dk, w' = x.1) (by kernel_rfl) (by kernel_rfl) ⟨⟨_, S.out.drew⟩, rfl⟩ ?_
            repeat (go_big_quiet_step ((rename_i x; (go_at_call 37; refine (Q6.out _ x.2).mono ?_; rintro e w2 ⟨rfl, hb⟩; exact ⟨rfl, ⟨_, x.2.call hb⟩, rfl⟩))))
            refine wpQuiet_nil ?_
            rintro W6 ⟨⟨X6, h6⟩, rfl⟩
            clear S
            have S := Lib.hid h6
            clear g6a g6b l6a l6b Q6 m6 h6 ei6 ej6 v6 n6
            obtain ⟨i7, hi7⟩ : ∃ q, q = first + root := ⟨_, rfl⟩
            have ei7 : ((first : Int) + (root : Int)).toNat = i7 := by omega
            have pi7 : (0 : Int) ≤ (first : Int) + (root : Int) := by omega
            have bi7 : (first : Int) + (root : Int) < (n : Int) := by omega
            have ri7 : IntKind.i64.wrap ((first : Int) + (root : Int)) = (first : Int) + (root : Int) := by rw [IntKind.wrap_i64]; omega
            obtain ⟨j7, hj7⟩ : ∃ q, q = first + (2 * root + 1) := ⟨_, rfl⟩
            have ej7 : ((first : Int) + (2 * (root : Int) + 1)).toNat = j7 := by omega
            have pj7 : (0 : Int) ≤ (first : Int) + (2 * (root : Int) + 1) := by omega
            have bj7 : (first : Int) + (2 * (root : Int) + 1) < (n : Int) := by omega
            have rj7 : IntKind.i64.wrap ((first : Int) + (2 * (root : Int) + 1)) = (first : Int) + (2 * (root : Int) + 1) := by rw [IntKind.wrap_i64]; omega
            obtain ⟨x7, hx7⟩ : ∃ x, x = dk[first + root]! := ⟨_, rfl⟩
            obtain ⟨y7, hy7⟩ : ∃ x, x = dk[first + (2 * root + 1)]! := ⟨_, rfl⟩
            have T7 : Hid (SW w b (Sort.swp dk (first + root) (first + (2 * root + 1))) (World.setCell (World.setCell W6 ⟨b, i7, none⟩ (.int .i64 y7)) ⟨b, j7, none⟩ (.int .i64 x7)).drew) := by rw [hi7, hj7, hx7, hy7]; exact (S.out.swp (first + root) (first + (2 * root + 1))).drew
            have c7a := S.out.cell (first + root) (by omega)
            have c7b := S.out.cell (first + (2 * root + 1)) (by omega)
            have f7a := S.out.free (first + root)
            have f7b := S.out.free (first + (2 * root + 1))
            obtain ⟨u7, c7c⟩ := S.out.cell2 (first + root) (first + (2 * root + 1)) (by omega) y7
            rw [← hj7, ← hi7] at c7c
            rw [← hx7, ← hi7] at c7a
            rw [← hy7, ← hj7] at c7b
            rw [← hi7] at f7a
            rw [← hj7] at f7b
            clear S hx7 hy7 hi7 hj7
            go_wp2_with fail
            go_big_region
            clear c7a c7b c7c f7a f7b
            generalize (World.setCell (World.setCell W6 ⟨b, i7, none⟩ (.int .i64 y7)) ⟨b, j7, none⟩ (.int .i64 x7)).drew = V7 at T7 ⊢
            clear ei7 ej7
            have S := T7
            clear T7
            go_wp2
            go_roundg (hi - (2 * root + 1))
            case measure => omega
            case rel => exact ⟨2 * root + 1, Sort.swp dk (first + root) (first + (2 * root + 1)), by go_num, by omega, Nat.le_refl _, by rw [size_swp]; exact hds, swpIn hds HP.out (by omega) (by omega), S, (show Hid _ from by rw [← HE.out, sd_left_go (ltOf cf) dk (by omega) (fun _ => hL) hG]; exact rfl)⟩
          | false =>
            obtain ⟨i8, hi8⟩ : ∃ q, q = first + root := ⟨_, rfl⟩
            have ei8 : ((first : Int) + (root : Int)).toNat = i8 := by omega
            have pi8 : (0 : Int) ≤ (first : Int) + (root : Int) := by omega
            have bi8 : (first : Int) + (root : Int) < (n : Int) := by omega
            have ri8 : IntKind.i64.wrap ((first : Int) + (root : Int)) = (first : Int) + (root : Int) := by rw [IntKind.wrap_i64]; omega
            obtain ⟨j8, hj8⟩ : ∃ q, q = first + (2 * root + 1) := ⟨_, rfl⟩
            have ej8 : ((first : Int) + (2 * (root : Int) + 1)).toNat = j8 := by omega
            have pj8 : (0 : Int) ≤ (first : Int) + (2 * (root : Int) + 1) := by omega
            have bj8 : (first : Int) + (2 * (root : Int) + 1) < (n : Int) := by omega
            have rj8 : IntKind.i64.wrap ((first : Int) + (2 * (root : Int) + 1)) = (first : Int) + (2 * (root : Int) + 1) := by rw [IntKind.wrap_i64]; omega
            have l8a := Lib.hid (fun (x : SWT w b dk) => x.2.cell (first + root) (by omega))
            have l8b := Lib.hid (fun (x : SWT w b dk) => x.2.cell (first + (2 * root + 1)) (by omega))
            have Q8 := Lib.hid (fun X (hX : SW w b dk X) => HC.out dk X hX dk[first + root]! dk[first + (2 * root + 1)]! (HP.out _ (by omega)) (HP.out _ (by omega)))
            have v8 : decide (cf dk[first + root]! dk[first + (2 * root + 1)]! < 0) = false := hG
            obtain ⟨x8, hx8⟩ : ∃ x, x = dk[first + root]! := ⟨_, rfl⟩
            obtain ⟨y8, hy8⟩ : ∃ x, x = dk[first + (2 * root + 1)]! := ⟨_, rfl⟩
            rw [← hx8, ← hi8] at l8a
            rw [← hy8, ← hj8] at l8b
            rw [← hx8, ← hy8] at Q8 v8
            clear hx8 hy8 hi8 hj8
            generalize cf x8 y8 = r8 at Q8 v8
            have n8 : ¬ r8 < 0 := of_decide_eq_false v8
            go_wp2_with fail
            have m8 : Nonempty (SWT w b dk) := ⟨⟨_, S.out⟩⟩
            have g8a := l8a.out
            have g8b := l8b.out
            refine wp_region_class (fun w' => ∃ x : SWT w b dk, w' = x.1) (by kernel_rfl) (by kernel_rfl) ⟨⟨_, S.out.drew⟩, rfl⟩ ?_
            repeat (go_big_quiet_step ((rename_i x; (go_at_call 37; refine (Q8.out _ x.2).mono ?_; rintro e w2 ⟨rfl, hb⟩; exact ⟨rfl, ⟨_, x.2.call hb⟩, rfl⟩))))
            refine wpQuiet_nil ?_
            rintro W8 ⟨⟨X8, h8⟩, rfl⟩
            clear S
            have S := Lib.hid h8
            clear g8a g8b l8a l8b Q8 m8 h8 ei8 ej8 v8 n8
            go_wp2
            (try simp only [Exit.inBlock, Exit.then]); refine bodyPost_ret (results_none rfl _ _ _) rfl ?_
            refine ⟨rfl, ?_⟩
            rw [← HE.out, sd_left_stop (ltOf cf) dk (by omega) (fun _ => hL) hG]
            exact ⟨S.out, hds, HP.out⟩
      · have h1z : ¬ (2 * (root : Int) + 1 + 1 < (hi : Int)) := by omega
        have h1d : decide (2 * (root : Int) + 1 + 1 < (hi : Int)) = false := decide_eq_false h1z
        go_wp2_with fail
        go_big_region
        have S2 := Lib.hid S.out.drew
        clear S
        have S := S2
        clear S2
        generalize wr.drew = wd at S ⊢
        go_wp2_with fail
        cases hG : ltOf cf dk[first + root]! dk[first + (2 * root + 1)]! with
        | true =>
          obtain ⟨i9, hi9⟩ : ∃ q, q = first + root := ⟨_, rfl⟩
          have ei9 : ((first : Int) + (root : Int)).toNat = i9 := by omega
          have pi9 : (0 : Int) ≤ (first : Int) + (root : Int) := by omega
          have bi9 : (first : Int) + (root : Int) < (n : Int) := by omega
          have ri9 : IntKind.i64.wrap ((first : Int) + (root : Int)) = (first : Int) + (root : Int) := by rw [IntKind.wrap_i64]; omega
          obtain ⟨j9, hj9⟩ : ∃ q, q = first + (2 * root + 1) := ⟨_, rfl⟩
          have ej9 : ((first : Int) + (2 * (root : Int) + 1)).toNat = j9 := by omega
          have pj9 : (0 : Int) ≤ (first : Int) + (2 * (root : Int) + 1) := by omega
          have bj9 : (first : Int) + (2 * (root : Int) + 1) < (n : Int) := by omega
          have rj9 : IntKind.i64.wrap ((first : Int) + (2 * (root : Int) + 1)) = (first : Int) + (2 * (root : Int) + 1) := by rw [IntKind.wrap_i64]; omega
          have l9a := Lib.hid (fun (x : SWT w b dk) => x.2.cell (first + root) (by omega))
          have l9b := Lib.hid (fun (x : SWT w b dk) => x.2.cell (first + (2 * root + 1)) (by omega))
          have Q9 := Lib.hid (fun X (hX : SW w b dk X) => HC.out dk X hX dk[first + root]! dk[first + (2 * root + 1)]! (HP.out _ (by omega)) (HP.out _ (by omega)))
          have v9 : decide (cf dk[first + root]! dk[first + (2 * root + 1)]! < 0) = true := hG
          obtain ⟨x9, hx9⟩ : ∃ x, x = dk[first + root]! := ⟨_, rfl⟩
          obtain ⟨y9, hy9⟩ : ∃ x, x = dk[first + (2 * root + 1)]! := ⟨_, rfl⟩
          rw [← hx9, ← hi9] at l9a
          rw [← hy9, ← hj9] at l9b
          rw [← hx9, ← hy9] at Q9 v9
          clear hx9 hy9 hi9 hj9
          generalize cf x9 y9 = r9 at Q9 v9
          have n9 : r9 < 0 := of_decide_eq_true v9
          go_wp2_with fail
          have m9 : Nonempty (SWT w b dk) := ⟨⟨_, S.out⟩⟩
          have g9a := l9a.out
          have g9b := l9b.out
          refine wp_region_class (fun w' => ∃ x : SWT w b dk, w' = x.1) (by kernel_rfl) (by kernel_rfl) ⟨⟨_, S.out.drew⟩, rfl⟩ ?_
          repeat (go_big_quiet_step ((rename_i x; (go_at_call 37; refine (Q9.out _ x.2).mono ?_; rintro e w2 ⟨rfl, hb⟩; exact ⟨rfl, ⟨_, x.2.call hb⟩, rfl⟩))))
          refine wpQuiet_nil ?_
          rintro W9 ⟨⟨X9, h9⟩, rfl⟩
          clear S
          have S := Lib.hid h9
          clear g9a g9b l9a l9b Q9 m9 h9 ei9 ej9 v9 n9
          obtain ⟨i10, hi10⟩ : ∃ q, q = first + root := ⟨_, rfl⟩
          have ei10 : ((first : Int) + (root : Int)).toNat = i10 := by omega
          have pi10 : (0 : Int) ≤ (first : Int) + (root : Int) := by omega
          have bi10 : (first : Int) + (root : Int) < (n : Int) := by omega
          have ri10 : IntKind.i64.wrap ((first : Int) + (root : Int)) = (first : Int) + (root : Int) := by rw [IntKind.wrap_i64]; omega
          obtain ⟨j10, hj10⟩ : ∃ q, q = first + (2 * root + 1) := ⟨_, rfl⟩
          have ej10 : ((first : Int) + (2 * (root : Int) + 1)).toNat = j10 := by omega
          have pj10 : (0 : Int) ≤ (first : Int) + (2 * (root : Int) + 1) := by omega
          have bj10 : (first : Int) + (2 * (root : Int) + 1) < (n : Int) := by omega
          have rj10 : IntKind.i64.wrap ((first : Int) + (2 * (root : Int) + 1)) = (first : Int) + (2 * (root : Int) + 1) := by rw [IntKind.wrap_i64]; omega
          obtain ⟨x10, hx10⟩ : ∃ x, x = dk[first + root]! := ⟨_, rfl⟩
          obtain ⟨y10, hy10⟩ : ∃ x, x = dk[first + (2 * root + 1)]! := ⟨_, rfl⟩
          have T10 : Hid (SW w b (Sort.swp dk (first + root) (first + (2 * root + 1))) (World.setCell (World.setCell W9 ⟨b, i10, none⟩ (.int .i64 y10)) ⟨b, j10, none⟩ (.int .i64 x10)).drew) := by rw [hi10, hj10, hx10, hy10]; exact (S.out.swp (first + root) (first + (2 * root + 1))).drew
          have c10a := S.out.cell (first + root) (by omega)
          have c10b := S.out.cell (first + (2 * root + 1)) (by omega)
          have f10a := S.out.free (first + root)
          have f10b := S.out.free (first + (2 * root + 1))
          obtain ⟨u10, c10c⟩ := S.out.cell2 (first + root) (first + (2 * root + 1)) (by omega) y10
          rw [← hj10, ← hi10] at c10c
          rw [← hx10, ← hi10] at c10a
          rw [← hy10, ← hj10] at c10b
          rw [← hi10] at f10a
          rw [← hj10] at f10b
          clear S hx10 hy10 hi10 hj10
          go_wp2_with fail
          go_big_region
          clear c10a c10b c10c f10a f10b
          generalize (World.setCell (World.setCell W9 ⟨b, i10, none⟩ (.int .i64 y10)) ⟨b, j10, none⟩ (.int .i64 x10)).drew = V10 at T10 ⊢
          clear ei10 ej10
          have S := T10
          clear T10
          go_wp2
          go_roundg (hi - (2 * root + 1))
          case measure => omega
          case rel => exact ⟨2 * root + 1, Sort.swp dk (first + root) (first + (2 * root + 1)), by go_num, by omega, Nat.le_refl _, by rw [size_swp]; exact hds, swpIn hds HP.out (by omega) (by omega), S, (show Hid _ from by rw [← HE.out, sd_left_go (ltOf cf) dk (by omega) (fun h => absurd h h1) hG]; exact rfl)⟩
        | false =>
          obtain ⟨i11, hi11⟩ : ∃ q, q = first + root := ⟨_, rfl⟩
          have ei11 : ((first : Int) + (root : Int)).toNat = i11 := by omega
          have pi11 : (0 : Int) ≤ (first : Int) + (root : Int) := by omega
          have bi11 : (first : Int) + (root : Int) < (n : Int) := by omega
          have ri11 : IntKind.i64.wrap ((first : Int) + (root : Int)) = (first : Int) + (root : Int) := by rw [IntKind.wrap_i64]; omega
          obtain ⟨j11, hj11⟩ : ∃ q, q = first + (2 * root + 1) := ⟨_, rfl⟩
          have ej11 : ((first : Int) + (2 * (root : Int) + 1)).toNat = j11 := by omega
          have pj11 : (0 : Int) ≤ (first : Int) + (2 * (root : Int) + 1) := by omega
          have bj11 : (first : Int) + (2 * (root : Int) + 1) < (n : Int) := by omega
          have rj11 : IntKind.i64.wrap ((first : Int) + (2 * (root : Int) + 1)) = (first : Int) + (2 * (root : Int) + 1) := by rw [IntKind.wrap_i64]; omega
          have l11a := Lib.hid (fun (x : SWT w b dk) => x.2.cell (first + root) (by omega))
          have l11b := Lib.hid (fun (x : SWT w b dk) => x.2.cell (first + (2 * root + 1)) (by omega))
          have Q11 := Lib.hid (fun X (hX : SW w b dk X) => HC.out dk X hX dk[first + root]! dk[first + (2 * root + 1)]! (HP.out _ (by omega)) (HP.out _ (by omega)))
          have v11 : decide (cf dk[first + root]! dk[first + (2 * root + 1)]! < 0) = false := hG
          obtain ⟨x11, hx11⟩ : ∃ x, x = dk[first + root]! := ⟨_, rfl⟩
          obtain ⟨y11, hy11⟩ : ∃ x, x = dk[first + (2 * root + 1)]! := ⟨_, rfl⟩
          rw [← hx11, ← hi11] at l11a
          rw [← hy11, ← hj11] at l11b
          rw [← hx11, ← hy11] at Q11 v11
          clear hx11 hy11 hi11 hj11
          generalize cf x11 y11 = r11 at Q11 v11
          have n11 : ¬ r11 < 0 := of_decide_eq_false v11
          go_wp2_with fail
          have m11 : Nonempty (SWT w b dk) := ⟨⟨_, S.out⟩⟩
          have g11a := l11a.out
          have g11b := l11b.out
          refine wp_region_class (fun w' => ∃ x : SWT w b dk, w' = x.1) (by kernel_rfl) (by kernel_rfl) ⟨⟨_, S.out.drew⟩, rfl⟩ ?_
          repeat (go_big_quiet_step ((rename_i x; (go_at_call 37; refine (Q11.out _ x.2).mono ?_; rintro e w2 ⟨rfl, hb⟩; exact ⟨rfl, ⟨_, x.2.call hb⟩, rfl⟩))))
          refine wpQuiet_nil ?_
          rintro W11 ⟨⟨X11, h11⟩, rfl⟩
          clear S
          have S := Lib.hid h11
          clear g11a g11b l11a l11b Q11 m11 h11 ei11 ej11 v11 n11
          go_wp2
          (try simp only [Exit.inBlock, Exit.then]); refine bodyPost_ret (results_none rfl _ _ _) rfl ?_
          refine ⟨rfl, ?_⟩
          rw [← HE.out, sd_left_stop (ltOf cf) dk (by omega) (fun h => absurd h h1) hG]
          exact ⟨S.out, hds, HP.out⟩
end Go.Proofs.YtkmnlfbllfaieaaDoor
