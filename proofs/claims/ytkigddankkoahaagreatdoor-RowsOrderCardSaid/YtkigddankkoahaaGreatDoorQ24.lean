import Derived.Test.YtkigddankkoahaaGreatDoorQ10
import Derived.Test.YtkigddankkoahaaGreatDoorQ09
set_option maxRecDepth 100000
set_option maxHeartbeats 2000000
namespace Go.Proofs.YtkigddankkoahaaGreatDoor
open Go.RowKit
theorem left_any (e : E) : ∀ (x : Value) (S : Nat → Prop) (w : World) (m : Int), EAt S w e x → 0 ≤ m → m ≤ 1000 → Calls Tryz.prog 52 #[x, .int .i64 m] w fun r w' => r = .returned (.int .i64 (e.left m)) ∧ Below w.heap.size w w' := by
 induction e using E.ind with
 | h o v t n l ih =>
  rintro x S w m ⟨A, c, rfl, hsub⟩ hm0 hm1
  obtain ⟨hlc, hcm, hmem⟩ := hsub
  have hm : l.length ≤ 9223372036854775807 := Nat.le_trans hlc hcm
  have HI := Lib.hid (fun (k : Nat) (hk : k < l.length) (x : Value) (S : Nat → Prop) (w : World) (m : Int) (hx : EAt S w l[k] x) h0 h1 => ih l[k] (List.getElem_mem hk) x S w m hx h0 h1)
  simp only [E.op, E.v, E.tb, E.nm, E.l, eVal, E.left]
  have HL : Hid (∀ k (hk : k < l.length) (M : Int), E.leftL (l.drop k) M = if M < 0 then M else E.leftL (l.drop (k + 1)) (l[k].left M)) := fun k hk M => by rw [List.drop_eq_getElem_cons hk]; simp only [E.leftL]
  have HLe : Hid (∀ k (hk : k < l.length) (M : Int), 0 ≤ M → -1 ≤ l[k].left M ∧ l[k].left M ≤ M) := fun k hk M h0 => ⟨(left_le _ M).2.1 h0, by have := (left_le l[k] M).1; omega⟩
  generalize hR : E.leftL l (m - 1) = R at *
  have HR : Hid (E.leftL (l.drop 0) (m - 1) = R) := by rw [List.drop_zero]; exact hR
  clear hR
  generalize str o = bo at *
  generalize str t = bt at *
  generalize str n = bn at *
  generalize str v.s = bs at *
  generalize v.k = vk at *
  generalize v.i = vi at *
  have hb0 := (Below.refl w.heap.size w).alloc (Nat.le_refl _) (.cells #[.string bo, .int .i64 vk, .int .i64 vi, .string bs, .string bt, .string bn, .slice A l.length c] 29)
  have hbx := (B7.made w (.string bo) (.int .i64 vk) (.int .i64 vi) (.string bs) (.string bt) (.string bn) (.slice A l.length c)).cells
  obtain ⟨x0, x1, x2, x3, x4, x5, x6⟩ := hbx
  have HM := Lib.hid hmem
  have HB0 := Lib.hid hb0
  clear ih hmem hlc hcm hb0
  go_enter Tryz.func52, Tryz.ntmps52
  go_wp2_with fail
  clear x0 x1 x2 x3 x4 x5 x6
  go_loopw [12, 1] (fun iv mv wr => ∃ (k : Nat) (M : Int), k ≤ l.length ∧ iv = .int .i64 k ∧ mv = .int .i64 M ∧ -1 ≤ M ∧ M ≤ 1000 ∧ Hid (E.leftL (l.drop k) M = R) ∧ Hid (Below w.heap.size w wr)) (fun iv _ _ => l.length - (intOf iv).toNat)
  case atStart => exact ⟨0, m - 1, Nat.zero_le _, rfl, by go_num, by omega, by omega, HR.out, HB0.out⟩
  case round =>
   obtain ⟨k, M, hk, rfl, rfl, hM0, hM1, HK, HB⟩ := hrel
   by_cases hlt : k < l.length
   ·obtain ⟨g, off, rfl, hS, hg, hl⟩ := HM.out (by omega)
    obtain ⟨A', c', ⟨g0, g1, g2, g3, g4, g5, g6⟩, hs⟩ := hl.get k hlt
    have hkz : (k : Int) < (l.length : Int) := by omega
    have z := HB.out.size
    have i0 := (HB.out.cell (p := ⟨g, off + k * 7, none⟩) hg).trans g0
    have i1 := (HB.out.cell (p := ⟨g, off + k * 7 + 1, none⟩) hg).trans g1
    have i2 := (HB.out.cell (p := ⟨g, off + k * 7 + 2, none⟩) hg).trans g2
    have i3 := (HB.out.cell (p := ⟨g, off + k * 7 + 3, none⟩) hg).trans g3
    have i4 := (HB.out.cell (p := ⟨g, off + k * 7 + 4, none⟩) hg).trans g4
    have i5 := (HB.out.cell (p := ⟨g, off + k * 7 + 5, none⟩) hg).trans g5
    have i6 := (HB.out.cell (p := ⟨g, off + k * 7 + 6, none⟩) hg).trans g6
    obtain ⟨W1, W, hW1, hW, b1, b2, hz, hb1, hb2⟩ := made7 wr (.string (str l[k].op)) (.int .i64 l[k].v.k) (.int .i64 l[k].v.i) (.string (str l[k].v.s)) (.string (str l[k].tb)) (.string (str l[k].nm)) (.slice A' l[k].l.length c')
    have f1 := b1.free
    have y1 := b2.cells
    obtain ⟨p10, p11, p12, p13, p14, p15, p16⟩ := b1.cells
    have hE : EAt S W l[k] (eVal l[k].op l[k].v l[k].tb l[k].nm (.slice A' l[k].l.length c')) := by
     have h0 : EAt S w l[k] (eVal l[k].op l[k].v l[k].tb l[k].nm (.slice A' l[k].l.length c')) := ⟨A', c', rfl, hs⟩
     exact (h0.later HB.out).later hb2
    have HC := Lib.hid (fun h0 h1 => HI.out k hlt _ S W M hE h0 h1)
    have hKK := HL.out k hlt M
    rw [HK.out] at hKK
    have HLK := Lib.hid (HLe.out k hlt M)
    have HB2 := Lib.hid (bthen HB.out hb2)
    have HW1 := Lib.hid hW1
    have HW := Lib.hid hW
    obtain ⟨f10, f11, f12, f13, f14, f15, f16⟩ := f1
    obtain ⟨y10, y11, y12, y13, y14, y15, y16⟩ := y1
    unfold eVal at HC
    generalize str l[k].op = bo' at *
    generalize str l[k].tb = bt' at *
    generalize str l[k].nm = bn' at *
    generalize str l[k].v.s = bs' at *
    generalize l[k].v.k = vk' at *
    generalize l[k].v.i = vi' at *
    generalize l[k].l.length = ln' at *
    generalize hdp : l[k].left M = Q at *
    clear hW1 hW hs hl hE g0 g1 g2 g3 g4 g5 g6 b1 b2 hb1 hb2 HB HI HM HB0 hdp HK HR HL HLe
    by_cases hneg : M < 0
    ·rw [if_pos hneg] at hKK
     have HKK := Lib.hid hKK
     clear hKK
     go_wp2_with (first | (rw [← HW.out]) | (rw [← HW1.out]))
     go_ret
     rw [HKK.out]
     exact ⟨rfl, HB2.out⟩
    ·rw [if_neg hneg] at hKK
     have HKK := Lib.hid hKK
     clear hKK
     go_wp2_with (first | (rw [← HW.out]) | (rw [← HW1.out]))
     refine (HC.out (by omega) (by omega)).mono ?_
     rintro e w3 ⟨rfl, b3⟩
     obtain ⟨hq0, hq1⟩ := HLK.out (by omega)
     go_wp2_with fail
     go_roundw
     case measure => simp [intOf]; omega
     case rel => exact ⟨k + 1, Q, by omega, by go_num, rfl, by omega, by omega, HKK.out.symm, bthen HB2.out b3⟩
   ·have hke : k = l.length := by omega
    have hkz : ¬ (k : Int) < (l.length : Int) := by omega
    subst hke
    have hKK := HK.out
    rw [List.drop_length] at hKK
    simp only [E.leftL] at hKK
    subst hKK
    clear HM HI HB0 HL HLe HR HK
    go_wp2_with fail
    go_ret
    exact ⟨by go_num, HB.out⟩
theorem few_e (e : E) (x : Value) (S : Nat → Prop) (w : World) (m : Int) (hx : EAt S w e x) (h0 : 0 ≤ m) (h1 : m ≤ 1000) : Calls Tryz.prog 27 #[x, .int .i64 m] w fun r w' => r = .returned (.bool (decide (0 ≤ e.left m))) ∧ Below w.heap.size w w' := by
 obtain ⟨s0, i1, i2, s3, s4, s5, A, n, c, rfl⟩ := hx.agg
 obtain ⟨W1, hW1, q1, z1, r1⟩ := box7 w (.string s0) (.int .i64 i1) (.int .i64 i2) (.string s3) (.string s4) (.string s5) (.slice A n c)
 have HC := Lib.hid (left_any e _ _ W1 m (hx.later r1) h0 h1)
 obtain ⟨a0, a1, a2, a3, a4, a5, a6⟩ := q1.cells
 have HB := Lib.hid r1
 have HW1 := Lib.hid hW1
 generalize e.left m = R at *
 clear hW1 hx q1 r1
 go_enter Tryz.func27, Tryz.ntmps27
 go_wp2_with (rw [← HW1.out])
 refine (HC.out).mono ?_
 rintro e w3 ⟨rfl, b3⟩
 go_wp2_with fail
 go_ret
 exact ⟨rfl, bthen HB.out b3⟩
end Go.Proofs.YtkigddankkoahaaGreatDoor
