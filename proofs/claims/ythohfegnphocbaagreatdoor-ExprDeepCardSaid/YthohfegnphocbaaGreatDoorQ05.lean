/- Contract of token's Cut: a statement's tokens, or the place where there is none. Conditions: the text is no longer than 4096; the listed variables hold what they hold. -/
import Derived.Test.YthohfegnphocbaaGreatDoorQ04
import Derived.WalkMore
namespace Go.Proofs.YthohfegnphocbaaGreatDoor
open Go.RowKit
theorem stored4 {w : World} {b : Nat} {x0 x1 x2 x3 : Value} (c0 : w.cell? ⟨b, 0, none⟩ = some x0) (c1 : w.cell? ⟨b, 1, none⟩ = some x1) (c2 : w.cell? ⟨b, 2, none⟩ = some x2) (c3 : w.cell? ⟨b, 3, none⟩ = some x3) (y0 y1 y2 y3 y4 : Value) :
    (((((w.setCell ⟨b, 0, none⟩ y0).setCell ⟨b, 1, none⟩ y1).setCell ⟨b, 2, none⟩ y2).setCell ⟨b, 3, none⟩ y3).setCell ⟨b, 3, none⟩ y4).cell? ⟨b, 0, none⟩ = some y0 ∧
    (((((w.setCell ⟨b, 0, none⟩ y0).setCell ⟨b, 1, none⟩ y1).setCell ⟨b, 2, none⟩ y2).setCell ⟨b, 3, none⟩ y3).setCell ⟨b, 3, none⟩ y4).cell? ⟨b, 1, none⟩ = some y1 ∧
    (((((w.setCell ⟨b, 0, none⟩ y0).setCell ⟨b, 1, none⟩ y1).setCell ⟨b, 2, none⟩ y2).setCell ⟨b, 3, none⟩ y3).setCell ⟨b, 3, none⟩ y4).cell? ⟨b, 2, none⟩ = some y2 ∧
    (((((w.setCell ⟨b, 0, none⟩ y0).setCell ⟨b, 1, none⟩ y1).setCell ⟨b, 2, none⟩ y2).setCell ⟨b, 3, none⟩ y3).setCell ⟨b, 3, none⟩ y4).cell? ⟨b, 3, none⟩ = some y4 := by
  have o := fun (W : World) (i j : Nat) (h : i ≠ j) (y : Value) => World.cell?_setCell_other W ⟨b, j, none⟩ ⟨b, i, none⟩ y (by simp <;> omega)
  refine ⟨?_, ?_, ?_, ?_⟩
  · rw [o _ 0 3 (by omega), o _ 0 3 (by omega), o _ 0 2 (by omega), o _ 0 1 (by omega)]
    exact World.cell?_setCell_same _ _ _ c0
  · rw [o _ 1 3 (by omega), o _ 1 3 (by omega), o _ 1 2 (by omega)]
    exact World.cell?_setCell_same _ _ _ (by rw [o _ 1 0 (by omega)]; exact c1)
  · rw [o _ 2 3 (by omega), o _ 2 3 (by omega)]
    exact World.cell?_setCell_same _ _ _ (by rw [o _ 2 1 (by omega), o _ 2 0 (by omega)]; exact c2)
  · exact World.cell?_setCell_same _ _ _ (World.cell?_setCell_same _ _ _ (by rw [o _ 3 2 (by omega), o _ 3 1 (by omega), o _ 3 0 (by omega)]; exact c3))
set_option maxRecDepth 100000 in
set_option maxHeartbeats 8000000 in
theorem cut_any (s : ByteArray) (w : World) (hE : Env w) (hs : s.size ≤ 4096) : Calls Tryz.prog 29 #[.string s] w (Gives w s.data.toList) := by
  have HE := Lib.hid hE
  have H0 := Lib.hid (OwnT.nil w w.heap.size)
  have hs2 : ¬ ((4096 : Int) < (s.size : Int)) := by omega
  clear hE
  go_enter Tryz.func29, Tryz.ntmps29
  go_wp2_with fail
  go_step3
  go_wp2_with fail
  go_step3
  go_wp2_with fail
  go_loopw [6, 5] (fun iv bv wr => ∃ (k : Nat) (ts : List T), k ≤ s.size ∧ ts.length ≤ k ∧ iv = .int .i64 k ∧ Hid (CutAt s.data.toList ts k) ∧ Hid (OwnT wr w.heap.size bv ts) ∧ Hid (Below w.heap.size w wr)) (fun iv _ _ => s.size - (intOf iv).toNat)
  case atStart => exact ⟨0, [], Nat.zero_le _, Nat.le_refl _, rfl, CutAt.start _, H0.out, Below.refl _ _⟩
  case round =>
    obtain ⟨k, ts, hk, htk, rfl, HC, HO, HB⟩ := hrel
    have hwz := HB.out.size
    by_cases hlt : k < s.size
    · have hkl : k < s.data.toList.length := by rw [size_list]; exact hlt
      have hkz : (k : Int) < (s.size : Int) := by omega
      obtain ⟨q, hq⟩ : ∃ q, q = s.extract k s.size := ⟨_, rfl⟩
      have hql : q.data.toList = s.data.toList.drop k := by rw [hq, ext_end]
      have hqs : q.size = s.size - k := by rw [hq, ByteArray.size_extract]; omega
      have hq0 : 0 < q.size := by omega
      have hqc : q[0] = s.data.toList[k] := by
        rw [← list_get hq0]
        simp only [hql]
        rw [List.getElem_drop]
        rfl
      have hcons : q.data.toList = q[0] :: s.data.toList.drop (k + 1) := by rw [hql, hqc]; exact List.drop_eq_getElem_cons hkl
      have HP : Hid (∀ w, Calls Tryz.prog 46 #[.string q, .string ⟨#[45, 45]⟩] w fun e w' => e = .returned (.bool ([45, 45].isPrefixOf q.data.toList)) ∧ w' = w) := fun w => Tryz.strings_HasPrefix q ⟨#[45, 45]⟩ w
      have bz := zbox wr
      have hb0 := (Below.refl wr.heap.size wr).alloc (Nat.le_refl _) (.cells #[.int .i64 0, .string ⟨#[]⟩, .int .i64 0, .int .i64 0] 51)
      have hz0 : (wr.alloc (.cells #[.int .i64 0, .string ⟨#[]⟩, .int .i64 0, .int .i64 0] 51)).heap.size = wr.heap.size + 1 := by simp
      cases hd : [45, 45].isPrefixOf q.data.toList
      · rw [hd] at HP
        have HW : Hid (∀ w, Calls Tryz.prog 48 #[.int .u8 q[0].toNat] w fun e w' => e = .returned (.bool (isWs q[0])) ∧ w' = w) := fun w => isBlank_any q[0] w
        cases hw : isWs q[0]
        · rw [hw] at HW
          have hbl := Lib.hid (no_blank hkl (by rw [← hqc]; exact hw) (by rw [← hql]; exact hd))
          have HG : Hid (∀ w, Calls Tryz.prog 49 #[.string q] w fun e w' => e = .returned (.bool (bgB q.data.toList)) ∧ w' = w) := fun w => beginsBlob_any q w
          cases hg : bgB q.data.toList
          · rw [hg] at HG
            have HL : Hid (∀ w, Calls Tryz.prog 51 #[.int .u8 q[0].toNat] w fun e w' => e = .returned (.bool (isLet q[0])) ∧ w' = w) := fun w => isLetter_any q[0] w
            cases hl : isLet q[0]
            · rw [hl] at HL
              have HD : Hid (∀ w, Calls Tryz.prog 53 #[.int .u8 q[0].toNat] w fun e w' => e = .returned (.bool (isDig q[0])) ∧ w' = w) := fun w => isDigit_any q[0] w
              cases hn : isDig q[0]
              · rw [hn] at HD
                by_cases h39 : q[0] = 39
                · have e39 : (((q[0].toNat : Nat) : Int) == 39) = true := by rw [h39]; rfl
                  have HR : Hid (∀ w, Env w → Calls Tryz.prog 55 #[.string q] w fun e w' => e = .returned (tup (oneT q.data.toList)) ∧ Below w.heap.size w w') := fun w hE => by
                    have h := (text_any q w (by omega)).mono fun e w' h => h
                    rw [show oneT q.data.toList = textO q.data.toList by rw [hcons]; exact oneT_text h39]
                    exact h
                  have hEr := HE.out.later HB.out
                  have HT1 := Lib.hid (fun t h => HC.out.tok (t := t) hkl hbl.out h)
                  have HT2 := Lib.hid (HC.out.bad hkl hbl.out)
                  rw [← hql] at HT1 HT2
                  have HO2 := Lib.hid HO.out
                  have HB2 := Lib.hid HB.out
                  have HE2 := Lib.hid (hEr.later hb0)
                  clear hql hqs hqc hd hw hg HC HO HB hbl hEr hl hn h39
                  generalize q.data.toList = Q at *
                  clear hcons
                  subst hq
                  go_wp2_with fail
                  refine (HP.out _).mono ?_
                  rintro e w2 ⟨rfl, rfl⟩
                  generalize wr.alloc (.cells #[.int .i64 0, .string ⟨#[]⟩, .int .i64 0, .int .i64 0] 51) = W2 at *
                  go_wp2_with fail
                  refine (HW.out _).mono ?_
                  rintro e w3 ⟨rfl, rfl⟩
                  go_wp2_with fail
                  refine (HG.out _).mono ?_
                  rintro e w3 ⟨rfl, rfl⟩
                  go_wp2_with fail
                  refine (HL.out _).mono ?_
                  rintro e w3 ⟨rfl, rfl⟩
                  go_wp2_with fail
                  refine (HD.out _).mono ?_
                  rintro e w3 ⟨rfl, rfl⟩
                  go_wp2_with fail
                  refine (HR.out _ HE2.out).mono ?_
                  rintro e w3 ⟨rfl, b3⟩
                  have bz3 := bz.later b3
                  have B3 := Lib.hid (bthen hb0 b3)
                  have hz3 : wr.heap.size < w3.heap.size := by have := b3.size; omega
                  obtain ⟨c0, c1, c2, c3⟩ := bz3.zcells
                  obtain ⟨f0, f1, f2, f3⟩ := bz3.free
                  clear bz bz3 hb0 b3
                  cases ho : oneT Q with
                  | none =>
                    have HD := Lib.hid (HT2.out ho)
                    have B4 := Lib.hid (fun x y z u => Below.set4 B3.out (Nat.le_refl _) x y z u)
                    have HB3 := Lib.hid (fun x y z u => bthen HB2.out (B4.out x y z u))
                    unfold tup got zT T.val
                    simp only [show str [] = ⟨#[]⟩ from rfl]
                    clear ho
                    go_wp2_with fail
                    go_ret3
                    exact Gives.bad HD.out rfl (HB3.out _ _ _ _)
                  | some t =>
                    obtain ⟨hc4, hn4, hp4⟩ := HT1.out t ho
                    rw [size_list] at hn4
                    obtain ⟨tk, tl, ti, tn⟩ := t
                    have HC4 : Hid (CutAt s.data.toList (ts ++ [⟨tk, tl, ti, k⟩]) (k + tn)) := hc4
                    simp only at hn4 hp4
                    have hnz : (((tn : Nat) : Int) == 0) = false := by
                      rw [beq_eq_false_iff_ne]
                      omega
                    have B4 := (Below.set4 B3.out (Nat.le_refl _) (.int .i64 tk) (.string (str tl)) (.int .i64 ti) (.int .i64 0)).setCell (Nat.le_refl _) (p := ⟨wr.heap.size, 3, none⟩) (.int .i64 k)
                    have HO5 := Lib.hid (HO2.out.later B4)
                    have HB5 := Lib.hid (bthen HB2.out B4)
                    have hz5 := B4.size
                    have hw5 : ∃ W5, W5 = (((((w3.setCell ⟨wr.heap.size, 0, none⟩ (.int .i64 tk)).setCell ⟨wr.heap.size, 1, none⟩ (.string (str tl))).setCell ⟨wr.heap.size, 2, none⟩ (.int .i64 ti)).setCell ⟨wr.heap.size, 3, none⟩ (.int .i64 0)).setCell ⟨wr.heap.size, 3, none⟩ (.int .i64 k)) := ⟨_, rfl⟩
                    obtain ⟨W5, hW5⟩ := hw5
                    rw [← hW5] at HO5 HB5 hz5
                    obtain ⟨d0, d1, d2, d3⟩ := stored4 c0 c1 c2 c3 (.int .i64 tk) (.string (str tl)) (.int .i64 ti) (.int .i64 0) (.int .i64 k)
                    rw [← hW5] at d0 d1 d2 d3
                    have HW5 := Lib.hid hW5
                    obtain ⟨v6, w6, r6, ho6, hb6⟩ := ownT_app HO5.out ⟨tk, tl, ti, k⟩ (by omega) (by omega) HB5.out W5.heap.size rfl
                    have H6 := Lib.hid ho6
                    have H7 := Lib.hid hb6
                    unfold tup got T.val
                    simp only at r6 ⊢
                    clear ho hc4 HT1 HT2 ho6 hb6 B4 hW5
                    go_wp2_with (first | (rw [← HW5.out]) | (at_builtin; refine Lib.wpList_append_run_sl _ rfl _ _ 33 rfl _ _ rfl rfl r6 ?_))
                    go_roundw
                    case measure => simp [intOf]; omega
                    case rel => exact ⟨k + tn, ts ++ [⟨tk, tl, ti, k⟩], by omega, by rw [List.length_append]; simp; omega, by go_num, HC4, H6, H7⟩
                · have e39 : (((q[0].toNat : Nat) : Int) == 39) = false := by
                    rw [beq_eq_false_iff_ne]
                    intro h
                    exact h39 (UInt8.toNat_inj.1 (by show q[0].toNat = 39; omega))
                  have HR : Hid (∀ w, Env w → Calls Tryz.prog 56 #[.string q] w fun e w' => e = .returned (tup (oneT q.data.toList)) ∧ Below w.heap.size w w') := fun w hE => by
                    have h := sign_any q w hE
                    rw [show oneT q.data.toList = signO q.data.toList by rw [hcons]; exact oneT_sign (by rw [← hcons]; exact hg) hl hn h39]
                    exact h
                  have hEr := HE.out.later HB.out
                  have HT1 := Lib.hid (fun t h => HC.out.tok (t := t) hkl hbl.out h)
                  have HT2 := Lib.hid (HC.out.bad hkl hbl.out)
                  rw [← hql] at HT1 HT2
                  have HO2 := Lib.hid HO.out
                  have HB2 := Lib.hid HB.out
                  have HE2 := Lib.hid (hEr.later hb0)
                  clear hql hqs hqc hd hw hg HC HO HB hbl hEr hl hn h39
                  generalize q.data.toList = Q at *
                  clear hcons
                  subst hq
                  go_wp2_with fail
                  refine (HP.out _).mono ?_
                  rintro e w2 ⟨rfl, rfl⟩
                  generalize wr.alloc (.cells #[.int .i64 0, .string ⟨#[]⟩, .int .i64 0, .int .i64 0] 51) = W2 at *
                  go_wp2_with fail
                  refine (HW.out _).mono ?_
                  rintro e w3 ⟨rfl, rfl⟩
                  go_wp2_with fail
                  refine (HG.out _).mono ?_
                  rintro e w3 ⟨rfl, rfl⟩
                  go_wp2_with fail
                  refine (HL.out _).mono ?_
                  rintro e w3 ⟨rfl, rfl⟩
                  go_wp2_with fail
                  refine (HD.out _).mono ?_
                  rintro e w3 ⟨rfl, rfl⟩
                  go_wp2_with fail
                  refine (HR.out _ HE2.out).mono ?_
                  rintro e w3 ⟨rfl, b3⟩
                  have bz3 := bz.later b3
                  have B3 := Lib.hid (bthen hb0 b3)
                  have hz3 : wr.heap.size < w3.heap.size := by have := b3.size; omega
                  obtain ⟨c0, c1, c2, c3⟩ := bz3.zcells
                  obtain ⟨f0, f1, f2, f3⟩ := bz3.free
                  clear bz bz3 hb0 b3
                  cases ho : oneT Q with
                  | none =>
                    have HD := Lib.hid (HT2.out ho)
                    have B4 := Lib.hid (fun x y z u => Below.set4 B3.out (Nat.le_refl _) x y z u)
                    have HB3 := Lib.hid (fun x y z u => bthen HB2.out (B4.out x y z u))
                    unfold tup got zT T.val
                    simp only [show str [] = ⟨#[]⟩ from rfl]
                    clear ho
                    go_wp2_with fail
                    go_ret3
                    exact Gives.bad HD.out rfl (HB3.out _ _ _ _)
                  | some t =>
                    obtain ⟨hc4, hn4, hp4⟩ := HT1.out t ho
                    rw [size_list] at hn4
                    obtain ⟨tk, tl, ti, tn⟩ := t
                    have HC4 : Hid (CutAt s.data.toList (ts ++ [⟨tk, tl, ti, k⟩]) (k + tn)) := hc4
                    simp only at hn4 hp4
                    have hnz : (((tn : Nat) : Int) == 0) = false := by
                      rw [beq_eq_false_iff_ne]
                      omega
                    have B4 := (Below.set4 B3.out (Nat.le_refl _) (.int .i64 tk) (.string (str tl)) (.int .i64 ti) (.int .i64 0)).setCell (Nat.le_refl _) (p := ⟨wr.heap.size, 3, none⟩) (.int .i64 k)
                    have HO5 := Lib.hid (HO2.out.later B4)
                    have HB5 := Lib.hid (bthen HB2.out B4)
                    have hz5 := B4.size
                    have hw5 : ∃ W5, W5 = (((((w3.setCell ⟨wr.heap.size, 0, none⟩ (.int .i64 tk)).setCell ⟨wr.heap.size, 1, none⟩ (.string (str tl))).setCell ⟨wr.heap.size, 2, none⟩ (.int .i64 ti)).setCell ⟨wr.heap.size, 3, none⟩ (.int .i64 0)).setCell ⟨wr.heap.size, 3, none⟩ (.int .i64 k)) := ⟨_, rfl⟩
                    obtain ⟨W5, hW5⟩ := hw5
                    rw [← hW5] at HO5 HB5 hz5
                    obtain ⟨d0, d1, d2, d3⟩ := stored4 c0 c1 c2 c3 (.int .i64 tk) (.string (str tl)) (.int .i64 ti) (.int .i64 0) (.int .i64 k)
                    rw [← hW5] at d0 d1 d2 d3
                    have HW5 := Lib.hid hW5
                    obtain ⟨v6, w6, r6, ho6, hb6⟩ := ownT_app HO5.out ⟨tk, tl, ti, k⟩ (by omega) (by omega) HB5.out W5.heap.size rfl
                    have H6 := Lib.hid ho6
                    have H7 := Lib.hid hb6
                    unfold tup got T.val
                    simp only at r6 ⊢
                    clear ho hc4 HT1 HT2 ho6 hb6 B4 hW5
                    go_wp2_with (first | (rw [← HW5.out]) | (at_builtin; refine Lib.wpList_append_run_sl _ rfl _ _ 33 rfl _ _ rfl rfl r6 ?_))
                    go_roundw
                    case measure => simp [intOf]; omega
                    case rel => exact ⟨k + tn, ts ++ [⟨tk, tl, ti, k⟩], by omega, by rw [List.length_append]; simp; omega, by go_num, HC4, H6, H7⟩
              · rw [hn] at HD
                have HR : Hid (∀ w, Env w → Calls Tryz.prog 54 #[.string q] w fun e w' => e = .returned (tup (oneT q.data.toList)) ∧ Below w.heap.size w w') := fun w hE => by
                  have h := number_any q w hE (by omega) (by rw [hcons]; exact dgs_pos hn)
                  rw [show oneT q.data.toList = numO q.data.toList by rw [hcons]; exact oneT_numO hn]
                  exact h
                have hEr := HE.out.later HB.out
                have HT1 := Lib.hid (fun t h => HC.out.tok (t := t) hkl hbl.out h)
                have HT2 := Lib.hid (HC.out.bad hkl hbl.out)
                rw [← hql] at HT1 HT2
                have HO2 := Lib.hid HO.out
                have HB2 := Lib.hid HB.out
                have HE2 := Lib.hid (hEr.later hb0)
                clear hql hqs hqc hd hw hg HC HO HB hbl hEr hl hn
                generalize q.data.toList = Q at *
                clear hcons
                subst hq
                go_wp2_with fail
                refine (HP.out _).mono ?_
                rintro e w2 ⟨rfl, rfl⟩
                generalize wr.alloc (.cells #[.int .i64 0, .string ⟨#[]⟩, .int .i64 0, .int .i64 0] 51) = W2 at *
                go_wp2_with fail
                refine (HW.out _).mono ?_
                rintro e w3 ⟨rfl, rfl⟩
                go_wp2_with fail
                refine (HG.out _).mono ?_
                rintro e w3 ⟨rfl, rfl⟩
                go_wp2_with fail
                refine (HL.out _).mono ?_
                rintro e w3 ⟨rfl, rfl⟩
                go_wp2_with fail
                refine (HD.out _).mono ?_
                rintro e w3 ⟨rfl, rfl⟩
                go_wp2_with fail
                refine (HR.out _ HE2.out).mono ?_
                rintro e w3 ⟨rfl, b3⟩
                have bz3 := bz.later b3
                have B3 := Lib.hid (bthen hb0 b3)
                have hz3 : wr.heap.size < w3.heap.size := by have := b3.size; omega
                obtain ⟨c0, c1, c2, c3⟩ := bz3.zcells
                obtain ⟨f0, f1, f2, f3⟩ := bz3.free
                clear bz bz3 hb0 b3
                cases ho : oneT Q with
                | none =>
                  have HD := Lib.hid (HT2.out ho)
                  have B4 := Lib.hid (fun x y z u => Below.set4 B3.out (Nat.le_refl _) x y z u)
                  have HB3 := Lib.hid (fun x y z u => bthen HB2.out (B4.out x y z u))
                  unfold tup got zT T.val
                  simp only [show str [] = ⟨#[]⟩ from rfl]
                  clear ho
                  go_wp2_with fail
                  go_ret3
                  exact Gives.bad HD.out rfl (HB3.out _ _ _ _)
                | some t =>
                  obtain ⟨hc4, hn4, hp4⟩ := HT1.out t ho
                  rw [size_list] at hn4
                  obtain ⟨tk, tl, ti, tn⟩ := t
                  have HC4 : Hid (CutAt s.data.toList (ts ++ [⟨tk, tl, ti, k⟩]) (k + tn)) := hc4
                  simp only at hn4 hp4
                  have hnz : (((tn : Nat) : Int) == 0) = false := by
                    rw [beq_eq_false_iff_ne]
                    omega
                  have B4 := (Below.set4 B3.out (Nat.le_refl _) (.int .i64 tk) (.string (str tl)) (.int .i64 ti) (.int .i64 0)).setCell (Nat.le_refl _) (p := ⟨wr.heap.size, 3, none⟩) (.int .i64 k)
                  have HO5 := Lib.hid (HO2.out.later B4)
                  have HB5 := Lib.hid (bthen HB2.out B4)
                  have hz5 := B4.size
                  have hw5 : ∃ W5, W5 = (((((w3.setCell ⟨wr.heap.size, 0, none⟩ (.int .i64 tk)).setCell ⟨wr.heap.size, 1, none⟩ (.string (str tl))).setCell ⟨wr.heap.size, 2, none⟩ (.int .i64 ti)).setCell ⟨wr.heap.size, 3, none⟩ (.int .i64 0)).setCell ⟨wr.heap.size, 3, none⟩ (.int .i64 k)) := ⟨_, rfl⟩
                  obtain ⟨W5, hW5⟩ := hw5
                  rw [← hW5] at HO5 HB5 hz5
                  obtain ⟨d0, d1, d2, d3⟩ := stored4 c0 c1 c2 c3 (.int .i64 tk) (.string (str tl)) (.int .i64 ti) (.int .i64 0) (.int .i64 k)
                  rw [← hW5] at d0 d1 d2 d3
                  have HW5 := Lib.hid hW5
                  obtain ⟨v6, w6, r6, ho6, hb6⟩ := ownT_app HO5.out ⟨tk, tl, ti, k⟩ (by omega) (by omega) HB5.out W5.heap.size rfl
                  have H6 := Lib.hid ho6
                  have H7 := Lib.hid hb6
                  unfold tup got T.val
                  simp only at r6 ⊢
                  clear ho hc4 HT1 HT2 ho6 hb6 B4 hW5
                  go_wp2_with (first | (rw [← HW5.out]) | (at_builtin; refine Lib.wpList_append_run_sl _ rfl _ _ 33 rfl _ _ rfl rfl r6 ?_))
                  go_roundw
                  case measure => simp [intOf]; omega
                  case rel => exact ⟨k + tn, ts ++ [⟨tk, tl, ti, k⟩], by omega, by rw [List.length_append]; simp; omega, by go_num, HC4, H6, H7⟩
            · rw [hl] at HL
              have HR : Hid (∀ w, Env w → Calls Tryz.prog 52 #[.string q] w fun e w' => e = .returned (tup (oneT q.data.toList)) ∧ Below w.heap.size w w') := fun w hE => by
                have h := word_any q w (by omega) (by rw [hcons]; exact wLen_pos hl)
                rw [show oneT q.data.toList = wordO q.data.toList by rw [hcons]; exact oneT_word (by rw [← hcons]; exact hg) hl]
                exact h
              have hEr := HE.out.later HB.out
              have HT1 := Lib.hid (fun t h => HC.out.tok (t := t) hkl hbl.out h)
              have HT2 := Lib.hid (HC.out.bad hkl hbl.out)
              rw [← hql] at HT1 HT2
              have HO2 := Lib.hid HO.out
              have HB2 := Lib.hid HB.out
              have HE2 := Lib.hid (hEr.later hb0)
              clear hql hqs hqc hd hw hg HC HO HB hbl hEr hl
              generalize q.data.toList = Q at *
              clear hcons
              subst hq
              go_wp2_with fail
              refine (HP.out _).mono ?_
              rintro e w2 ⟨rfl, rfl⟩
              generalize wr.alloc (.cells #[.int .i64 0, .string ⟨#[]⟩, .int .i64 0, .int .i64 0] 51) = W2 at *
              go_wp2_with fail
              refine (HW.out _).mono ?_
              rintro e w3 ⟨rfl, rfl⟩
              go_wp2_with fail
              refine (HG.out _).mono ?_
              rintro e w3 ⟨rfl, rfl⟩
              go_wp2_with fail
              refine (HL.out _).mono ?_
              rintro e w3 ⟨rfl, rfl⟩
              go_wp2_with fail
              refine (HR.out _ HE2.out).mono ?_
              rintro e w3 ⟨rfl, b3⟩
              have bz3 := bz.later b3
              have B3 := Lib.hid (bthen hb0 b3)
              have hz3 : wr.heap.size < w3.heap.size := by have := b3.size; omega
              obtain ⟨c0, c1, c2, c3⟩ := bz3.zcells
              obtain ⟨f0, f1, f2, f3⟩ := bz3.free
              clear bz bz3 hb0 b3
              cases ho : oneT Q with
              | none =>
                have HD := Lib.hid (HT2.out ho)
                have B4 := Lib.hid (fun x y z u => Below.set4 B3.out (Nat.le_refl _) x y z u)
                have HB3 := Lib.hid (fun x y z u => bthen HB2.out (B4.out x y z u))
                unfold tup got zT T.val
                simp only [show str [] = ⟨#[]⟩ from rfl]
                clear ho
                go_wp2_with fail
                go_ret3
                exact Gives.bad HD.out rfl (HB3.out _ _ _ _)
              | some t =>
                obtain ⟨hc4, hn4, hp4⟩ := HT1.out t ho
                rw [size_list] at hn4
                obtain ⟨tk, tl, ti, tn⟩ := t
                have HC4 : Hid (CutAt s.data.toList (ts ++ [⟨tk, tl, ti, k⟩]) (k + tn)) := hc4
                simp only at hn4 hp4
                have hnz : (((tn : Nat) : Int) == 0) = false := by
                  rw [beq_eq_false_iff_ne]
                  omega
                have B4 := (Below.set4 B3.out (Nat.le_refl _) (.int .i64 tk) (.string (str tl)) (.int .i64 ti) (.int .i64 0)).setCell (Nat.le_refl _) (p := ⟨wr.heap.size, 3, none⟩) (.int .i64 k)
                have HO5 := Lib.hid (HO2.out.later B4)
                have HB5 := Lib.hid (bthen HB2.out B4)
                have hz5 := B4.size
                have hw5 : ∃ W5, W5 = (((((w3.setCell ⟨wr.heap.size, 0, none⟩ (.int .i64 tk)).setCell ⟨wr.heap.size, 1, none⟩ (.string (str tl))).setCell ⟨wr.heap.size, 2, none⟩ (.int .i64 ti)).setCell ⟨wr.heap.size, 3, none⟩ (.int .i64 0)).setCell ⟨wr.heap.size, 3, none⟩ (.int .i64 k)) := ⟨_, rfl⟩
                obtain ⟨W5, hW5⟩ := hw5
                rw [← hW5] at HO5 HB5 hz5
                obtain ⟨d0, d1, d2, d3⟩ := stored4 c0 c1 c2 c3 (.int .i64 tk) (.string (str tl)) (.int .i64 ti) (.int .i64 0) (.int .i64 k)
                rw [← hW5] at d0 d1 d2 d3
                have HW5 := Lib.hid hW5
                obtain ⟨v6, w6, r6, ho6, hb6⟩ := ownT_app HO5.out ⟨tk, tl, ti, k⟩ (by omega) (by omega) HB5.out W5.heap.size rfl
                have H6 := Lib.hid ho6
                have H7 := Lib.hid hb6
                unfold tup got T.val
                simp only at r6 ⊢
                clear ho hc4 HT1 HT2 ho6 hb6 B4 hW5
                go_wp2_with (first | (rw [← HW5.out]) | (at_builtin; refine Lib.wpList_append_run_sl _ rfl _ _ 33 rfl _ _ rfl rfl r6 ?_))
                go_roundw
                case measure => simp [intOf]; omega
                case rel => exact ⟨k + tn, ts ++ [⟨tk, tl, ti, k⟩], by omega, by rw [List.length_append]; simp; omega, by go_num, HC4, H6, H7⟩
          · rw [hg] at HG
            have HR : Hid (∀ w, Env w → Calls Tryz.prog 50 #[.string q] w fun e w' => e = .returned (tup (oneT q.data.toList)) ∧ Below w.heap.size w w') := fun w hE => by
              have h := blob_any q w hE (by omega) (by rw [← size_list]; exact bgB_len hg)
              rw [show oneT q.data.toList = blobO q.data.toList by rw [hcons]; exact oneT_blob (by rw [← hcons]; exact hg)]
              exact h
            have hEr := HE.out.later HB.out
            have HT1 := Lib.hid (fun t h => HC.out.tok (t := t) hkl hbl.out h)
            have HT2 := Lib.hid (HC.out.bad hkl hbl.out)
            rw [← hql] at HT1 HT2
            have HO2 := Lib.hid HO.out
            have HB2 := Lib.hid HB.out
            have HE2 := Lib.hid (hEr.later hb0)
            clear hql hqs hqc hd hw hg HC HO HB hbl hEr 
            generalize q.data.toList = Q at *
            clear hcons
            subst hq
            go_wp2_with fail
            refine (HP.out _).mono ?_
            rintro e w2 ⟨rfl, rfl⟩
            generalize wr.alloc (.cells #[.int .i64 0, .string ⟨#[]⟩, .int .i64 0, .int .i64 0] 51) = W2 at *
            go_wp2_with fail
            refine (HW.out _).mono ?_
            rintro e w3 ⟨rfl, rfl⟩
            go_wp2_with fail
            refine (HG.out _).mono ?_
            rintro e w3 ⟨rfl, rfl⟩
            go_wp2_with fail
            refine (HR.out _ HE2.out).mono ?_
            rintro e w3 ⟨rfl, b3⟩
            have bz3 := bz.later b3
            have B3 := Lib.hid (bthen hb0 b3)
            have hz3 : wr.heap.size < w3.heap.size := by have := b3.size; omega
            obtain ⟨c0, c1, c2, c3⟩ := bz3.zcells
            obtain ⟨f0, f1, f2, f3⟩ := bz3.free
            clear bz bz3 hb0 b3
            cases ho : oneT Q with
            | none =>
              have HD := Lib.hid (HT2.out ho)
              have B4 := Lib.hid (fun x y z u => Below.set4 B3.out (Nat.le_refl _) x y z u)
              have HB3 := Lib.hid (fun x y z u => bthen HB2.out (B4.out x y z u))
              unfold tup got zT T.val
              simp only [show str [] = ⟨#[]⟩ from rfl]
              clear ho
              go_wp2_with fail
              go_ret3
              exact Gives.bad HD.out rfl (HB3.out _ _ _ _)
            | some t =>
              obtain ⟨hc4, hn4, hp4⟩ := HT1.out t ho
              rw [size_list] at hn4
              obtain ⟨tk, tl, ti, tn⟩ := t
              have HC4 : Hid (CutAt s.data.toList (ts ++ [⟨tk, tl, ti, k⟩]) (k + tn)) := hc4
              simp only at hn4 hp4
              have hnz : (((tn : Nat) : Int) == 0) = false := by
                rw [beq_eq_false_iff_ne]
                omega
              have B4 := (Below.set4 B3.out (Nat.le_refl _) (.int .i64 tk) (.string (str tl)) (.int .i64 ti) (.int .i64 0)).setCell (Nat.le_refl _) (p := ⟨wr.heap.size, 3, none⟩) (.int .i64 k)
              have HO5 := Lib.hid (HO2.out.later B4)
              have HB5 := Lib.hid (bthen HB2.out B4)
              have hz5 := B4.size
              have hw5 : ∃ W5, W5 = (((((w3.setCell ⟨wr.heap.size, 0, none⟩ (.int .i64 tk)).setCell ⟨wr.heap.size, 1, none⟩ (.string (str tl))).setCell ⟨wr.heap.size, 2, none⟩ (.int .i64 ti)).setCell ⟨wr.heap.size, 3, none⟩ (.int .i64 0)).setCell ⟨wr.heap.size, 3, none⟩ (.int .i64 k)) := ⟨_, rfl⟩
              obtain ⟨W5, hW5⟩ := hw5
              rw [← hW5] at HO5 HB5 hz5
              obtain ⟨d0, d1, d2, d3⟩ := stored4 c0 c1 c2 c3 (.int .i64 tk) (.string (str tl)) (.int .i64 ti) (.int .i64 0) (.int .i64 k)
              rw [← hW5] at d0 d1 d2 d3
              have HW5 := Lib.hid hW5
              obtain ⟨v6, w6, r6, ho6, hb6⟩ := ownT_app HO5.out ⟨tk, tl, ti, k⟩ (by omega) (by omega) HB5.out W5.heap.size rfl
              have H6 := Lib.hid ho6
              have H7 := Lib.hid hb6
              unfold tup got T.val
              simp only at r6 ⊢
              clear ho hc4 HT1 HT2 ho6 hb6 B4 hW5
              go_wp2_with (first | (rw [← HW5.out]) | (at_builtin; refine Lib.wpList_append_run_sl _ rfl _ _ 33 rfl _ _ rfl rfl r6 ?_))
              go_roundw
              case measure => simp [intOf]; omega
              case rel => exact ⟨k + tn, ts ++ [⟨tk, tl, ti, k⟩], by omega, by rw [List.length_append]; simp; omega, by go_num, HC4, H6, H7⟩
        · rw [hw] at HW
          have HC2 := Lib.hid (HC.out.ws hkl (by rw [← hqc]; exact hw))
          have HO2 := Lib.hid (HO.out.later hb0)
          have HB2 := Lib.hid (bthen HB.out hb0)
          clear hql hqs hqc hcons hd hw HC HO HB bz hb0
          subst hq
          go_wp2_with fail
          refine (HP.out _).mono ?_
          rintro e w2 ⟨rfl, rfl⟩
          generalize wr.alloc (.cells #[.int .i64 0, .string ⟨#[]⟩, .int .i64 0, .int .i64 0] 51) = W2 at *
          go_wp2_with fail
          refine (HW.out _).mono ?_
          rintro e w3 ⟨rfl, rfl⟩
          go_wp2_with fail
          go_roundw
          case measure => simp [intOf]; omega
          case rel => exact ⟨k + 1, ts, by omega, by omega, by go_num, HC2.out, HO2.out, HB2.out⟩
      · rw [hd] at HP
        have HI : Hid (∀ w, Calls Tryz.prog 47 #[.string q, .int .u8 10] w fun e w' => e = .returned (.int .i64 (Lib.indexByte q.data.toList 10)) ∧ w' = w) := fun w => Tryz.strings_IndexByte q 10 w
        have HO2 := Lib.hid (HO.out.later hb0)
        have HB2 := Lib.hid (bthen HB.out hb0)
        by_cases hz : Lib.indexByte q.data.toList 10 = -1
        · have HD := Lib.hid (HC.out.remEnd (Nat.le_of_lt hkl) (by rw [← hql]; exact hd) (by rw [← hql]; exact Lib.indexByte_none hz))
          rw [hz] at HI
          clear hql hqs hqc hcons hd hz HC HO HB bz hb0
          subst hq
          go_wp2_with fail
          refine (HP.out _).mono ?_
          rintro e w2 ⟨rfl, rfl⟩
          generalize wr.alloc (.cells #[.int .i64 0, .string ⟨#[]⟩, .int .i64 0, .int .i64 0] 51) = W2 at *
          go_wp2_with fail
          refine (HI.out _).mono ?_
          rintro e w3 ⟨rfl, rfl⟩
          obtain ⟨v3, w3, r3, ho3, hb3⟩ := ownT_app HO2.out ⟨6, [], 0, s.size⟩ (by omega) (by omega) HB2.out (wr.heap.size + 1) hz0
          have H3 := Lib.hid ho3
          have H4 := Lib.hid hb3
          clear ho3 hb3
          simp only [show str [] = ⟨#[]⟩ from rfl] at r3
          go_wp2_with (at_builtin; refine Lib.wpList_append_run_sl _ rfl _ _ 33 rfl _ _ rfl rfl r3 ?_)
          go_ret3
          exact Gives.good HD.out rfl (by rw [size_list]; exact H3.out) H4.out
        · obtain ⟨o, ho⟩ : ∃ o : Nat, Lib.indexByte q.data.toList 10 = o := ⟨(Lib.indexByte q.data.toList 10).toNat, by have := Lib.indexByte_ge q.data.toList 10; omega⟩
          obtain ⟨h1, h2⟩ := Lib.indexByte_some ho
          have hol : o < q.size := by rw [← size_list]; exact (List.getElem?_eq_some_iff.1 h1).1
          rw [ho] at HI
          rw [hql] at h1 h2
          have HD := Lib.hid (HC.out.rem (by rw [← hql]; exact hd) h2 h1)
          clear hql hqc hcons hd hz HC HO HB bz hb0 h1 h2 ho
          subst hq
          go_wp2_with fail
          refine (HP.out _).mono ?_
          rintro e w2 ⟨rfl, rfl⟩
          generalize wr.alloc (.cells #[.int .i64 0, .string ⟨#[]⟩, .int .i64 0, .int .i64 0] 51) = W2 at *
          go_wp2_with fail
          refine (HI.out _).mono ?_
          rintro e w3 ⟨rfl, rfl⟩
          go_wp2_with fail
          go_roundw
          case measure => simp [intOf]; omega
          case rel => exact ⟨k + o + 1, ts, by omega, by omega, by go_num, HD.out, HO2.out, HB2.out⟩
    · have HD := Lib.hid (HC.out.stop (by rw [size_list]; omega))
      have hkz : ¬ ((k : Int) < (s.size : Int)) := by omega
      obtain ⟨v3, w3, r3, ho3, hb3⟩ := ownT_app HO.out ⟨6, [], 0, s.size⟩ (by omega) (by omega) HB.out wr.heap.size rfl
      have H3 := Lib.hid ho3
      have H4 := Lib.hid hb3
      clear ho3 hb3
      simp only [show str [] = ⟨#[]⟩ from rfl] at r3
      go_wp2_with (at_builtin; refine Lib.wpList_append_run_sl _ rfl _ _ 33 rfl _ _ rfl rfl r3 ?_)
      go_ret3
      exact Gives.good HD.out rfl (by rw [size_list]; exact H3.out) H4.out
end Go.Proofs.YthohfegnphocbaaGreatDoor
