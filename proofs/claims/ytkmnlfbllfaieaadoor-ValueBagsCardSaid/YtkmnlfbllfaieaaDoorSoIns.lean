/- Contract of slices.insertionSortCmpFunc at a bound method. Condition: the range is in the row. -/
import Derived.Test.YtkmnlfbllfaieaaDoorSoRev
namespace Go.Proofs.YtkmnlfbllfaieaaDoor
open Go.RowKit Go.Sort
theorem insOuterGo (lt : Int → Int → Bool) (a b i : Nat) (d : Array Int) (h : i < b) : insOuter lt a b i d = insOuter lt a b (i + 1) (insInner lt a i d) := by
  rw [insOuter, if_pos h]
theorem insOuterStop (lt : Int → Int → Bool) (a b i : Nat) (d : Array Int) (h : ¬ i < b) : insOuter lt a b i d = d := by
  rw [insOuter, if_neg h]
theorem insInnerGo (lt : Int → Int → Bool) (a j : Nat) (d : Array Int) (h : a < j + 1) (hl : lt d[j + 1]! d[j]! = true) : insInner lt a (j + 1) d = insInner lt a j (Sort.swp d (j + 1) j) := by
  rw [insInner, if_pos (by simp [hl]; omega)]
theorem insInnerStop (lt : Int → Int → Bool) (a j : Nat) (d : Array Int) (h : j ≤ a ∨ lt d[j]! d[j - 1]! = false) : insInner lt a j d = d := by
  cases j with
  | zero => rfl
  | succ j =>
    rw [insInner, if_neg]
    rcases h with h | h
    · simp; omega
    · simp only [Nat.add_sub_cancel] at h; simp [h]
set_option maxRecDepth 100000 in
set_option maxHeartbeats 4000000 in
theorem insertion_any (w : World) (b c n : Nat) (P : Int → Prop) (cf : Int → Int → Int) (rv : Value) (hc : CmpOf w b P cf rv) (d : Array Int) (W : World) (hn : d.size = n) (hm : n ≤ 140737488355328) (h : SW w b d W) (hP : ∀ j, j < n → P d[j]!) (lo hi : Nat) (hlo : lo ≤ hi) (hhi : hi ≤ n) :
    Calls Tryd.prog 55 #[.slice (some ⟨b, 0, none⟩) n c, .int .i64 lo, .int .i64 hi, .func (.func 37) #[rv] #[]] W fun e w' => e = .returned (.tuple #[]) ∧ SW w b (Sort.insertionSort (ltOf cf) d lo hi) w' ∧ Kept P n (Sort.insertionSort (ltOf cf) d lo hi) := by
  have S0 := Lib.hid h
  have HC := Lib.hid hc
  have HP := Lib.hid hP
  clear h hc hP
  go_enter Tryd.func55, Tryd.ntmps55
  go_wp2_with fail
  go_loopg [8] (hi - lo) (fun g1 vi wr => ∃ (i : Nat) (dk : Array Int), vi = .int .i64 i ∧ lo < i ∧ i ≤ hi + 1 ∧ hi + 1 - i ≤ g1 + 1 ∧ dk.size = n ∧ Hid (∀ j, j < n → P dk[j]!) ∧ Hid (SW w b dk wr) ∧ Hid (insOuter (ltOf cf) lo hi i dk = insOuter (ltOf cf) lo hi (lo + 1) d))
  case atStart => exact ⟨lo + 1, d, by go_num, by omega, by omega, by omega, hn, HP, S0, rfl⟩
  case round =>
    clear S0 HP
    obtain ⟨i, dk, rfl, hai, hib, hg1, hsk, HP, S1, HO⟩ := hrel
    by_cases hlt : i < hi
    · have hltz : (i : Int) < (hi : Int) := by omega
      go_wp2
      go_loopg [9] i (fun g2 vj wr2 => ∃ (j : Nat) (dj : Array Int), vj = .int .i64 j ∧ lo ≤ j ∧ j ≤ i ∧ j ≤ g2 ∧ dj.size = n ∧ Hid (∀ j, j < n → P dj[j]!) ∧ Hid (SW w b dj wr2) ∧ Hid (insInner (ltOf cf) lo j dj = insInner (ltOf cf) lo i dk))
      case atStart => exact ⟨i, dk, rfl, by omega, Nat.le_refl _, Nat.le_refl _, hsk, HP, S1, rfl⟩
      case round =>
        clear S1 HP
        obtain ⟨j, dj, rfl, haj, hji, hg2, hsj, HP, S1, HI⟩ := hrel
        have OUT := Lib.hid (fun (hs : j ≤ lo ∨ ltOf cf dj[j]! dj[j - 1]! = false) => (show insOuter (ltOf cf) lo hi (i + 1) dj = insOuter (ltOf cf) lo hi (lo + 1) d by
          rw [← HO.out, insOuterGo _ _ _ _ _ hlt, ← HI.out, insInnerStop _ _ _ _ hs]))
        by_cases hja : lo < j
        · obtain ⟨jp, rfl⟩ : ∃ jp, j = jp + 1 := ⟨j - 1, by omega⟩
          have hjaz : (lo : Int) < (jp : Int) + 1 := by omega
          have jz : (jp : Int) + 1 < (n : Int) := by omega
          have jz1 : (jp : Int) < (n : Int) := by omega
          have p0 : (0 : Int) ≤ (jp : Int) + 1 := by omega
          have e0 : ((jp : Int) + 1).toNat = jp + 1 := by omega
          have hwp : IntKind.i64.wrap (jp : Int) = (jp : Int) := by rw [IntKind.wrap_i64]; omega
          have H1 := Lib.hid (fun (x : SWT w b dj) => x.2.cell (jp + 1) (by omega))
          have H2 := Lib.hid (fun (x : SWT w b dj) => x.2.cell jp (by omega))
          have HQ := Lib.hid (fun X (hX : SW w b dj X) => HC.out dj X hX dj[jp + 1]! dj[jp]! (HP.out _ (by omega)) (HP.out _ (by omega)))
          have HL := Lib.hid (insInnerGo (ltOf cf) lo jp dj hja)
          have HS := Lib.hid (fun (W' : World) (h' : SW w b dj W') => h'.swp (jp + 1) jp)
          generalize hxj : dj[jp + 1]! = xj at *
          generalize hxp : dj[jp]! = xp at *
          generalize hr : cf xj xp = r at *
          by_cases hlv : r < 0
          · go_wp2_with fail
            have HNE : Nonempty (SWT w b dj) := ⟨⟨_, S1.out⟩⟩
            have f1 := H1.out
            have f2 := H2.out
            refine wp_region_class (fun w' => ∃ x : SWT w b dj, w' = x.1) (by kernel_rfl) (by kernel_rfl) ⟨⟨_, S1.out.drew⟩, rfl⟩ ?_
            repeat (go_big_quiet_step ((rename_i x; (go_at_call 37; refine (HQ.out _ x.2).mono ?_; rintro e w2 ⟨rfl, hb⟩; exact ⟨rfl, ⟨_, x.2.call hb⟩, rfl⟩))))
            refine wpQuiet_nil ?_
            rintro Wc ⟨⟨W1, h1⟩, rfl⟩
            have c1 := h1.cell (jp + 1) (by omega)
            have c2 := h1.cell jp (by omega)
            have q1 := h1.free (jp + 1)
            have q2 := h1.free jp
            obtain ⟨u, c3⟩ := h1.cell2 (jp + 1) jp (by omega) xp
            rw [hxj] at c1
            rw [hxp] at c2
            have S2 := Lib.hid (HS.out _ h1).drew
            have HX := Lib.hid hxj
            have HY := Lib.hid hxp
            have HR := Lib.hid hr
            obtain ⟨j1, hj1⟩ : ∃ j1, j1 = jp + 1 := ⟨_, rfl⟩
            have J1 := Lib.hid hj1
            rw [← hj1] at c1 q1 e0 c3
            clear f1 f2 S1 h1 hxj hxp hr hj1 HNE
            go_wp2_with fail
            go_big_region
            clear c1 c2 c3 q1 q2
            rw [J1.out]
            generalize (World.setCell (Wc.setCell ⟨b, jp + 1, none⟩ (.int .i64 xp)) ⟨b, jp, none⟩ (.int .i64 xj)).drew = w2 at *
            go_wp2
            go_roundg jp
            case measure => omega
            case rel =>
              refine ⟨jp, Sort.swp dj (jp + 1) jp, by first | rfl | go_num | (congr 1; omega), by omega, by omega, Nat.le_refl _, by rw [size_swp]; exact hsj, swpIn hsj HP.out (by omega) (by omega), S2, ?_⟩
              show _ = _
              rw [← HI.out, HL.out]
              unfold ltOf
              rw [HR.out]
              simpa using hlv
          · go_wp2_with fail
            have HNE : Nonempty (SWT w b dj) := ⟨⟨_, S1.out⟩⟩
            have f1 := H1.out
            have f2 := H2.out
            refine wp_region_class (fun w' => ∃ x : SWT w b dj, w' = x.1) (by kernel_rfl) (by kernel_rfl) ⟨⟨_, S1.out.drew⟩, rfl⟩ ?_
            repeat (go_big_quiet_step ((rename_i x; (go_at_call 37; refine (HQ.out _ x.2).mono ?_; rintro e w2 ⟨rfl, hb⟩; exact ⟨rfl, ⟨_, x.2.call hb⟩, rfl⟩))))
            refine wpQuiet_nil ?_
            rintro Wc ⟨⟨W1, h1⟩, rfl⟩
            have S2 := Lib.hid h1
            clear f1 f2 S1 h1 HNE
            go_wp2
            go_roundg (hi - (i + 1))
            case measure => omega
            case rel =>
              refine ⟨i + 1, dj, by go_num, by omega, by omega, by omega, hsj, HP, S2, OUT.out (.inr ?_)⟩
              simp only [Nat.add_sub_cancel]
              unfold ltOf
              exact decide_eq_false (by first | omega | (rw [hr]; omega) | (rw [hxp, hr]; omega) | (rw [hxj, hxp, hr]; omega))
        · have hjaz' : ¬ (lo : Int) < (j : Int) := by omega
          go_wp2_with fail
          go_big_region
          all_goals go_wp2
          go_roundg (hi - (i + 1))
          case measure => omega
          case rel => exact ⟨i + 1, dj, by go_num, by omega, by omega, by omega, hsj, HP, S1.out.drew, OUT.out (.inl (by omega))⟩
    · have hltz : ¬ (i : Int) < (hi : Int) := by omega
      go_wp2
      go_end0
      refine ⟨rfl, ?_⟩
      unfold Sort.insertionSort
      rw [← HO.out, insOuterStop _ _ _ _ _ hlt]
      exact ⟨S1.out, hsk, HP.out⟩
end Go.Proofs.YtkmnlfbllfaieaaDoor
