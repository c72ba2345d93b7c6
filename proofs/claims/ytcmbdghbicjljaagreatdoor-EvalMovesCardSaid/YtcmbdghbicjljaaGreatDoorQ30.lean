/- Contract of the reference's Same. Condition: no list longer than a slice may be. -/
import Derived.Test.YtcmbdghbicjljaaGreatDoorQ08
import Derived.StillTailTactics
namespace Go.Proofs.YtcmbdghbicjljaaGreatDoor
open Go.RowKit
theorem str_bne (a b : List UInt8) : ((str a).toList != (str b).toList) = !(a == b) := by rw [bne, str_beq]
set_option maxRecDepth 100000 in
set_option maxHeartbeats 16000000 in
theorem rSame_any (e : E) : ∀ (f : E) (x y : Value) (S S' : Nat → Prop) (w : World), EAt S w e x → EAt S' w f y → Calls Tryz.prog 13 #[x, y] w fun r w' => r = .returned (.bool (e.same f)) ∧ Below w.heap.size w w' := by
  induction e using E.ind with
  | h o v t n l ih =>
    rintro ⟨o', v', t', n', l'⟩ x y S S' w ⟨A, c, rfl, hs⟩ ⟨A', c', rfl, hs'⟩
    simp only [E.op, E.v, E.tb, E.nm, E.l, eVal]
    obtain ⟨W1, hW1, q1, z1, r1⟩ := box7 w (.string (str o)) (.int .i64 v.k) (.int .i64 v.i) (.string (str v.s)) (.string (str t)) (.string (str n)) (.slice A l.length c)
    obtain ⟨W2, hW2, q2, z2, r2⟩ := box7 W1 (.string (str o')) (.int .i64 v'.k) (.int .i64 v'.i) (.string (str v'.s)) (.string (str t')) (.string (str n')) (.slice A' l'.length c')
    rw [z1] at q2
    have HQ1 := Lib.hid (q1.later r2)
    have HQ2 := Lib.hid q2
    obtain ⟨a0, a1, a2, a3, a4, a5, a6⟩ := (q1.later r2).cells
    obtain ⟨b0, b1, b2, b3, b4, b5, b6⟩ := q2.cells
    have HB := Lib.hid (bthen r1 r2)
    have e1 := str_bne o o'
    have e3 := str_bne t t'
    have e4 := str_bne n n'
    have e1' := str_beq o o'
    have e3' := str_beq t t'
    have e4' := str_beq n n'
    have HV := Lib.hid (fun w => BV.rsame_any v.k v.i v'.k v'.i (str v.s) (str v'.s) w)
    rw [sameB_v] at HV
    have hs1 := sub_later (sub_later hs r1) r2
    have hs2 := sub_later (sub_later hs' r1) r2
    simp only [Sub] at hs1 hs2
    have hlm : l.length ≤ 9223372036854775807 := Nat.le_trans hs1.1 hs1.2.1
    have hmm : l'.length ≤ 9223372036854775807 := Nat.le_trans hs2.1 hs2.2.1
    have HL := Lib.hid hs1.2.2
    have HM := Lib.hid hs2.2.2
    have HI := Lib.hid (fun (j : Nat) (hj : j < l.length) (f : E) (x y : Value) (W : World) (hx : EAt S W l[j] x) (hy : EAt S' W f y) => ih l[j] (List.getElem_mem hj) f x y S S' W hx hy)
    have hes : E.same (.mk o v t n l) (.mk o' v' t' n' l') = (o == o' && (v == v') && (t == t') && (n == n') && E.sameL l l') := by simp only [E.same]
    rw [hes]
    have HW1 := Lib.hid hW1
    have HW2 := Lib.hid hW2
    have HZ2 := Lib.hid (show W2.heap.size = w.heap.size + 2 by omega)
    generalize hq1 : (o == o') = p1 at *
    generalize hq2 : (v == v') = p2 at *
    generalize hq3 : (t == t') = p3 at *
    generalize hq4 : (n == n') = p4 at *
    clear hq1 hq2 hq3 hq4 hes ih hs hs' hs1 hs2 hW1 hW2 q1 q2 r1 r2
    generalize str o = bo at *
    generalize str o' = bo' at *
    generalize str t = bt at *
    generalize str t' = bt' at *
    generalize str n = bn at *
    generalize str n' = bn' at *
    generalize str v.s = bs at *
    generalize str v'.s = bs' at *
    generalize v.k = vk at *
    generalize v.i = vi at *
    generalize v'.k = vk' at *
    generalize v'.i = vi' at *
    cases p1
    · clear HV HL HM HI
      simp only [Bool.false_and, Bool.not_false] at *
      generalize l.length = ln at *
      generalize l'.length = ln' at *
      go_enter Tryz.func13, Tryz.ntmps13
      go_wp2_with (first | (rw [← HW2.out]) | (rw [← HW1.out]))
      go_ret
      exact ⟨rfl, HB.out⟩
    · simp only [Bool.true_and, Bool.not_true] at *
      cases p2
      · simp only [Bool.false_and]
        clear HL HM HI
        generalize l.length = ln at *
        generalize l'.length = ln' at *
        go_enter Tryz.func13, Tryz.ntmps13
        go_wp2_with (first | (rw [← HW2.out]) | (rw [← HW1.out]))
        refine (HV.out _).mono ?_
        rintro e w3 ⟨rfl, b3⟩
        go_wp2_with fail
        go_ret
        exact ⟨rfl, bthen HB.out b3⟩
      · simp only [Bool.true_and]
        cases p3
        · simp only [Bool.false_and, Bool.not_false] at *
          clear HL HM HI
          generalize l.length = ln at *
          generalize l'.length = ln' at *
          go_enter Tryz.func13, Tryz.ntmps13
          go_wp2_with (first | (rw [← HW2.out]) | (rw [← HW1.out]))
          refine (HV.out _).mono ?_
          rintro e w3 ⟨rfl, b3'⟩
          obtain ⟨c0, c1, c2, c3, c4, c5, c6⟩ := (HQ1.out.later b3').cells
          obtain ⟨d0, d1, d2, d3, d4, d5, d6⟩ := (HQ2.out.later b3').cells
          have HB3 := Lib.hid (bthen HB.out b3')
          clear b3'
          go_wp2_with fail
          go_ret
          exact ⟨rfl, HB3.out⟩
        · simp only [Bool.true_and, Bool.not_true] at *
          cases p4
          · simp only [Bool.false_and, Bool.not_false] at *
            clear HL HM HI
            generalize l.length = ln at *
            generalize l'.length = ln' at *
            go_enter Tryz.func13, Tryz.ntmps13
            go_wp2_with (first | (rw [← HW2.out]) | (rw [← HW1.out]))
            refine (HV.out _).mono ?_
            rintro e w3 ⟨rfl, b3'⟩
            obtain ⟨c0, c1, c2, c3, c4, c5, c6⟩ := (HQ1.out.later b3').cells
            obtain ⟨d0, d1, d2, d3, d4, d5, d6⟩ := (HQ2.out.later b3').cells
            have HB3 := Lib.hid (bthen HB.out b3')
            clear b3'
            go_wp2_with fail
            go_ret
            exact ⟨rfl, HB3.out⟩
          · simp only [Bool.true_and, Bool.not_true] at *
            by_cases hne : l.length = l'.length
            · have hnz : ((l.length : Int) != (l'.length : Int)) = false := by simp [hne]
              obtain ⟨ln, hln⟩ : ∃ ln, ln = l.length := ⟨_, rfl⟩
              obtain ⟨mn, hmn⟩ : ∃ mn, mn = l'.length := ⟨_, rfl⟩
              rw [← hln] at hnz hlm a6 HQ1 HW1 ⊢
              rw [← hmn] at hnz hmm b6 HQ2 HW2 ⊢
              have HLN := Lib.hid hln
              have HMN := Lib.hid hmn
              have HNE := Lib.hid hne
              clear hln hmn hne
              generalize hsl0 : E.sameL l l' = sl
              have HS0 := Lib.hid hsl0
              clear hsl0
              go_enter Tryz.func13, Tryz.ntmps13
              go_wp2_with (first | (rw [← HW2.out]) | (rw [← HW1.out]))
              refine (HV.out _).mono ?_
              rintro e w3 ⟨rfl, b3'⟩
              obtain ⟨c0, c1, c2, c3, c4, c5, c6⟩ := (HQ1.out.later b3').cells
              obtain ⟨d0, d1, d2, d3, d4, d5, d6⟩ := (HQ2.out.later b3').cells
              have HB3 := Lib.hid b3'
              clear b3' HV
              go_wp2_with fail
              go_loopw [45] (fun iv wr => ∃ k : Nat, k ≤ ln ∧ iv = .int .i64 k ∧ Hid (Below W2.heap.size W2 wr) ∧ Hid (sl = E.sameL (l.drop k) (l'.drop k))) (fun iv _ => ln - (intOf iv).toNat)
              case atStart => exact ⟨0, Nat.zero_le _, rfl, HB3.out, by rw [List.drop_zero, List.drop_zero]; exact HS0.out.symm⟩
              case round =>
                obtain ⟨k, hk, rfl, HBr, HS⟩ := hrel
                by_cases hlt : k < ln
                · have hkl : k < l.length := by have := HLN.out; omega
                  have hkm : k < l'.length := by have := HNE.out; have := HLN.out; omega
                  obtain ⟨g, off, rfl, hS, hg, hcl⟩ := HL.out (by omega)
                  obtain ⟨g', off', rfl, hS', hg', hcm⟩ := HM.out (by omega)
                  obtain ⟨A1, c1', h1, hs3⟩ := hcl.get k hkl
                  obtain ⟨A2, c2', h2, hs4⟩ := hcm.get k hkm
                  obtain ⟨i0, i1, i2, i3, i4, i5, i6⟩ := h1.same (HBr.out.block g hg)
                  obtain ⟨j0, j1, j2, j3, j4, j5, j6⟩ := h2.same (HBr.out.block g' hg')
                  obtain ⟨x0, x1, x2, x3, x4, x5, x6⟩ := (HQ1.out.later HBr.out).cells
                  obtain ⟨y0, y1, y2, y3, y4, y5, y6⟩ := (HQ2.out.later HBr.out).cells
                  have hkz : (k : Int) < (ln : Int) := by omega
                  have hkz2 : (k : Int) < (mn : Int) := by have := HMN.out; omega
                  have hE : EAt S W2 l[k] (eVal l[k].op l[k].v l[k].tb l[k].nm (.slice A1 l[k].l.length c1')) := ⟨A1, c1', rfl, hs3⟩
                  have hF : EAt S' W2 l'[k] (eVal l'[k].op l'[k].v l'[k].tb l'[k].nm (.slice A2 l'[k].l.length c2')) := ⟨A2, c2', rfl, hs4⟩
                  have hbd : Below W2.heap.size W2 wr.drew := HBr.out.drew
                  have HC := Lib.hid (HI.out k hkl l'[k] _ _ wr.drew (hE.later hbd) (hF.later hbd))
                  have HBV := Lib.hid hbd
                  have hsl : E.sameL (l.drop k) (l'.drop k) = (l[k].same l'[k] && E.sameL (l.drop (k + 1)) (l'.drop (k + 1))) := by
                    rw [List.drop_eq_getElem_cons hkl, List.drop_eq_getElem_cons hkm]; rfl
                  have HSL := Lib.hid (HS.out.trans hsl)
                  unfold eVal at HC
                  generalize hsm : l[k].same l'[k] = sm at *
                  generalize str l[k].op = co at *
                  generalize str l[k].tb = ct at *
                  generalize str l[k].nm = cn at *
                  generalize str l[k].v.s = cs at *
                  generalize l[k].v.k = ck at *
                  generalize l[k].v.i = ci at *
                  generalize l[k].l.length = cl at *
                  generalize str l'[k].op = co' at *
                  generalize str l'[k].tb = ct' at *
                  generalize str l'[k].nm = cn' at *
                  generalize str l'[k].v.s = cs' at *
                  generalize l'[k].v.k = ck' at *
                  generalize l'[k].v.i = ci' at *
                  generalize l'[k].l.length = cl' at *
                  clear hs3 hs4 hcl hcm hE hF h1 h2 HBr HI HL HM hbd hsl hsm HS
                  cases sm
                  · have hsf := HSL.out
                    simp only [Bool.false_and] at hsf
                    subst hsf
                    clear HSL HS0
                    go_wp2_with fail
                    go_still_tail 10, (by kernel_rfl)
                    change wpList _ _ _ _ _ wr.drew
                    go_wp2_with (go_at_call 13; refine (HC.out).mono ?_; rintro e w4 ⟨rfl, b4'⟩)
                    go_ret
                    exact ⟨rfl, bthen HB.out (bthen HBV.out b4')⟩
                  · have HSL2 : Hid (sl = E.sameL (l.drop (k + 1)) (l'.drop (k + 1))) := by have := HSL.out; rwa [Bool.true_and] at this
                    go_wp2_with fail
                    go_still_tail 10, (by kernel_rfl)
                    change wpList _ _ _ _ _ wr.drew
                    go_wp2_with (go_at_call 13; refine (HC.out).mono ?_; rintro e w4 ⟨rfl, b4'⟩)
                    go_roundw
                    case measure => simp [intOf]; omega
                    case rel => exact ⟨k + 1, by omega, by go_num, bthen HBV.out b4', HSL2.out⟩
                · have hke : k = ln := by omega
                  have hkz : ¬ (k : Int) < (ln : Int) := by omega
                  subst hke
                  have hs := HS.out
                  rw [List.drop_of_length_le (by have := HLN.out; omega), List.drop_of_length_le (by have := HLN.out; have := HNE.out; omega)] at hs
                  have hst : sl = true := hs
                  clear hs
                  subst hst
                  clear HM HI HL HS HS0
                  go_wp2_with fail
                  go_ret
                  exact ⟨rfl, bthen HB.out HBr.out⟩
            · have hnz : ((l.length : Int) != (l'.length : Int)) = true := by simp; omega
              rw [sameL_len hne]
              clear HL HM HI hne
              generalize l.length = ln at *
              generalize l'.length = ln' at *
              go_enter Tryz.func13, Tryz.ntmps13
              go_wp2_with (first | (rw [← HW2.out]) | (rw [← HW1.out]))
              refine (HV.out _).mono ?_
              rintro e w3 ⟨rfl, b3'⟩
              obtain ⟨c0, c1, c2, c3, c4, c5, c6⟩ := (HQ1.out.later b3').cells
              obtain ⟨d0, d1, d2, d3, d4, d5, d6⟩ := (HQ2.out.later b3').cells
              have HB3 := Lib.hid (bthen HB.out b3')
              clear b3'
              go_wp2_with fail
              go_ret
              exact ⟨rfl, HB3.out⟩
end Go.Proofs.YtcmbdghbicjljaaGreatDoor
