/- Contracts of countsRows, and of allMayBe where each part's mayBe is known. Condition: lists no longer than a slice may be. -/
import Derived.Test.YtcmbdghbicjljaaGreatDoorQ08
namespace Go.Proofs.YtcmbdghbicjljaaGreatDoor
open Go.RowKit
theorem star_at (S : Nat → Prop) (w : World) : EAt S w star (.agg #[.string ⟨#[115, 116, 97, 114]⟩, .int .i64 0, .int .i64 0, .string ⟨#[]⟩, .string ⟨#[]⟩, .string ⟨#[]⟩, .slice none 0 0]) := lit_at S w wStar v0 [] []
set_option maxRecDepth 100000 in
set_option maxHeartbeats 8000000 in
theorem counts_any (o : List UInt8) (v : Vl) (t n : List UInt8) (l : List E) (x : Value) (S : Nat → Prop) (w : World) (hx : EAt S w (.mk o v t n l) x) : Calls Tryz.prog 101 #[x] w fun r w' => r = .returned (.bool (countsL n l)) ∧ Below w.heap.size w w' := by
  obtain ⟨A, c, rfl, hs⟩ := hx
  simp only [E.op, E.v, E.tb, E.nm, E.l, eVal] at *
  obtain ⟨W1, hW1, q1, z1, r1⟩ := box7 w (.string (str o)) (.int .i64 v.k) (.int .i64 v.i) (.string (str v.s)) (.string (str t)) (.string (str n)) (.slice A l.length c)
  obtain ⟨a0, a1, a2, a3, a4, a5, a6⟩ := q1.cells
  have hs1 := sub_later hs r1
  simp only [Sub] at hs1
  obtain ⟨l1, l2, l3⟩ := hs1
  have hlm : l.length ≤ 9223372036854775807 := Nat.le_trans l1 l2
  have hne : ((str n).toList == [99, 111, 117, 110, 116]) = (n == wCount) := by rw [Lib.toList_data, str_list]; rfl
  unfold countsL
  have HB := Lib.hid r1
  have HW1 := Lib.hid hW1
  generalize hq : (n == wCount) = p1 at *
  cases p1
  · simp only [Bool.false_and]
    clear hs l1 l2 l3 hW1 q1 hq r1
    generalize str o = bo at *
    generalize str n = bn at *
    generalize str t = bt at *
    generalize str v.s = bs at *
    generalize v.k = vk at *
    generalize v.i = vi at *
    generalize l.length = ln at *
    go_enter Tryz.func101, Tryz.ntmps101
    go_wp2_with (rw [← HW1.out])
    go_ret
    exact ⟨rfl, HB.out⟩
  · simp only [Bool.true_and]
    by_cases h1 : l.length = 1
    · obtain ⟨e, rfl⟩ : ∃ e, l = [e] := List.length_eq_one_iff.1 h1
      simp only [oneStar]
      obtain ⟨g, off, rfl, -, hg, hcl⟩ := l3 (by simp)
      obtain ⟨A2, c2, ⟨b0, b1, b2, b3, b4, b5, b6⟩, hs2⟩ := hcl.1
      have hE : EAt S W1 e (eVal e.op e.v e.tb e.nm (.slice A2 e.l.length c2)) := ⟨A2, c2, rfl, hs2⟩
      have HC := Lib.hid (eSame_any e star _ _ S (fun _ => False) W1 hE (star_at (fun _ => False) W1))
      unfold eVal at HC
      generalize hsm : e.same star = p2 at *
      clear hs l1 l2 l3 hW1 q1 hq r1 hcl hs2 hE hsm h1
      generalize str o = bo at *
      generalize str n = bn at *
      generalize str t = bt at *
      generalize str v.s = bs at *
      generalize v.k = vk at *
      generalize v.i = vi at *
      generalize str e.op = eo at *
      generalize str e.nm = en at *
      generalize str e.tb = et at *
      generalize str e.v.s = es at *
      generalize e.v.k = ek at *
      generalize e.v.i = ei at *
      generalize e.l.length = el at *
      simp only [List.length_singleton] at a6 HW1 ⊢
      go_enter Tryz.func101, Tryz.ntmps101
      go_wp2_with (rw [← HW1.out])
      refine (HC.out).mono ?_
      rintro r w3 ⟨rfl, b3'⟩
      go_wp2_with fail
      go_ret
      exact ⟨rfl, bthen HB.out b3'⟩
    · rw [oneStar_no h1]
      have hl1 : ((l.length : Int) == 1) = false := by simp; omega
      clear hs l1 l2 l3 hW1 q1 hq r1 h1
      generalize str o = bo at *
      generalize str n = bn at *
      generalize str t = bt at *
      generalize str v.s = bs at *
      generalize v.k = vk at *
      generalize v.i = vi at *
      generalize l.length = ln at *
      go_enter Tryz.func101, Tryz.ntmps101
      go_wp2_with (rw [← HW1.out])
      go_ret
      exact ⟨rfl, HB.out⟩
set_option maxRecDepth 100000 in
set_option maxHeartbeats 4000000 in
theorem allMay_any (l : List E) (S : Nat → Prop) (w : World) (A : Option Addr) (c : Nat) (hl : Sub S w (op1 [] l) A c)
    (ih : ∀ j (hj : j < l.length) (x : Value) (w : World), EAt S w l[j] x → Calls Tryz.prog 68 #[x] w fun r w' => r = .returned (.bool l[j].may) ∧ Below w.heap.size w w') :
    Calls Tryz.prog 102 #[.slice A l.length c] w fun r w' => r = .returned (.bool (E.mayL l)) ∧ Below w.heap.size w w' := by
  obtain ⟨l1, l2, l3⟩ := hl
  have hlm : l.length ≤ 9223372036854775807 := Nat.le_trans l1 l2
  have HI := Lib.hid ih
  have HL := Lib.hid l3
  clear l1 l2 l3 ih
  obtain ⟨ln, hln⟩ : ∃ ln, ln = l.length := ⟨_, rfl⟩
  rw [← hln] at hlm ⊢
  have HLN := Lib.hid hln
  clear hln
  generalize hsl0 : E.mayL l = sl
  have HS0 := Lib.hid hsl0
  clear hsl0
  go_enter Tryz.func102, Tryz.ntmps102
  go_wp2_with fail
  go_loopw [7] (fun iv wr => ∃ k : Nat, k ≤ ln ∧ iv = .int .i64 k ∧ Hid (Below w.heap.size w wr) ∧ Hid (sl = E.mayL (l.drop k))) (fun iv _ => ln - (intOf iv).toNat)
  case atStart => exact ⟨0, Nat.zero_le _, rfl, Below.refl _ _, by rw [List.drop_zero]; exact HS0.out.symm⟩
  case round =>
    obtain ⟨k, hk, rfl, HB, HS⟩ := hrel
    by_cases hlt : k < ln
    · have hkl : k < l.length := by have := HLN.out; omega
      obtain ⟨g, off, rfl, hS, hg, hcl⟩ := HL.out (by omega)
      obtain ⟨A1, c1, ⟨a0, a1, a2, a3, a4, a5, a6⟩, hs⟩ := hcl.get k hkl
      have hkz : (k : Int) < (ln : Int) := by omega
      have i0 := (HB.out.cell (p := ⟨g, off + k * 7, none⟩) hg).trans a0
      have i1 := (HB.out.cell (p := ⟨g, off + k * 7 + 1, none⟩) hg).trans a1
      have i2 := (HB.out.cell (p := ⟨g, off + k * 7 + 2, none⟩) hg).trans a2
      have i3 := (HB.out.cell (p := ⟨g, off + k * 7 + 3, none⟩) hg).trans a3
      have i4 := (HB.out.cell (p := ⟨g, off + k * 7 + 4, none⟩) hg).trans a4
      have i5 := (HB.out.cell (p := ⟨g, off + k * 7 + 5, none⟩) hg).trans a5
      have i6 := (HB.out.cell (p := ⟨g, off + k * 7 + 6, none⟩) hg).trans a6
      obtain ⟨W1, W, hW1, hW, p1, p2, hz, hb1, hb2⟩ := made7 wr (.string (str l[k].op)) (.int .i64 l[k].v.k) (.int .i64 l[k].v.i) (.string (str l[k].v.s)) (.string (str l[k].tb)) (.string (str l[k].nm)) (.slice A1 l[k].l.length c1)
      have HB2 := bthen HB.out hb2
      obtain ⟨p10, p11, p12, p13, p14, p15, p16⟩ := p1.cells
      obtain ⟨x10, x11, x12, x13, x14, x15, x16⟩ := p2.cells
      obtain ⟨f10, f11, f12, f13, f14, f15, f16⟩ := p1.free
      have hE : EAt S w l[k] (eVal l[k].op l[k].v l[k].tb l[k].nm (.slice A1 l[k].l.length c1)) := ⟨A1, c1, rfl, hs⟩
      have HC := Lib.hid (HI.out k hkl _ W (hE.later HB2))
      have HBV := Lib.hid HB2
      have hsl : E.mayL (l.drop k) = (l[k].may && E.mayL (l.drop (k + 1))) := by rw [List.drop_eq_getElem_cons hkl]; rfl
      have HSL := Lib.hid (HS.out.trans hsl)
      have HW1 := Lib.hid hW1
      have HW := Lib.hid hW
      unfold eVal at HC
      generalize hsm : l[k].may = sm at *
      generalize str l[k].op = bo at *
      generalize str l[k].tb = bt at *
      generalize str l[k].nm = bn at *
      generalize str l[k].v.s = bs at *
      generalize l[k].v.k = vk at *
      generalize l[k].v.i = vi at *
      generalize l[k].l.length = l7 at *
      clear hW1 hW hs hcl hE a0 a1 a2 a3 a4 a5 a6 p1 p2 hb1 hb2 HB HI HL HB2 hsl hsm HS
      cases sm
      · have hsf := HSL.out
        simp only [Bool.false_and] at hsf
        subst hsf
        clear HSL HS0
        go_wp2_with (first | (rw [← HW.out]) | (rw [← HW1.out]))
        refine (HC.out).mono ?_
        rintro e w3 ⟨rfl, b3⟩
        go_wp2_with fail
        go_ret
        exact ⟨rfl, bthen HBV.out b3⟩
      · have HSL2 : Hid (sl = E.mayL (l.drop (k + 1))) := by have := HSL.out; rwa [Bool.true_and] at this
        go_wp2_with (first | (rw [← HW.out]) | (rw [← HW1.out]))
        refine (HC.out).mono ?_
        rintro e w3 ⟨rfl, b3⟩
        go_wp2_with fail
        go_roundw
        case measure => simp [intOf]; omega
        case rel => exact ⟨k + 1, by omega, by go_num, bthen HBV.out b3, HSL2.out⟩
    · have hke : k = ln := by omega
      have hkz : ¬ (k : Int) < (ln : Int) := by omega
      subst hke
      have hs := HS.out
      rw [List.drop_of_length_le (by have := HLN.out; omega)] at hs
      have hst : sl = true := hs
      clear hs
      subst hst
      clear HI HL HS HS0
      go_wp2_with fail
      go_ret
      exact ⟨rfl, HB.out⟩
end Go.Proofs.YtcmbdghbicjljaaGreatDoor
namespace Go.Proofs.YtcmbdghbicjljaaGreatDoor
open Go.RowKit
set_option maxRecDepth 100000 in
set_option maxHeartbeats 16000000 in
theorem may_call (v : Vl) (t n : List UInt8) (l : List E) (x : Value) (S : Nat → Prop) (w : World) (hx : EAt S w (.mk wCall v t n l) x) (hn : n.length ≤ 1000000)
    (ih : ∀ j (hj : j < l.length) (x : Value) (w : World), EAt S w l[j] x → Calls Tryz.prog 68 #[x] w fun r w' => r = .returned (.bool l[j].may) ∧ Below w.heap.size w w') :
    Calls Tryz.prog 68 #[x] w fun r w' => r = .returned (.bool ((E.mk wCall v t n l).may)) ∧ Below w.heap.size w w' := by
  obtain ⟨A, c, rfl, hs⟩ := hx
  simp only [E.op, E.v, E.tb, E.nm, E.l, eVal] at *
  obtain ⟨W1, V6, V7, W4, hW1, hV6, hV7, hW4, z1, q1, t6, t7, q4, u4, b4, y4⟩ := own7 w (.string (str wCall)) (.int .i64 v.k) (.int .i64 v.i) (.string (str v.s)) (.string (str t)) (.string (str n)) (.slice A l.length c)
  have hE4 : EAt S W4 (.mk wCall v t n l) (.agg #[.string (str wCall), .int .i64 v.k, .int .i64 v.i, .string (str v.s), .string (str t), .string (str n), .slice A l.length c]) := ⟨A, c, rfl, sub_later hs b4⟩
  have HC := Lib.hid (eSame_any _ _ _ _ (fun _ => False) (fun _ => False) W4 (lit_at (fun _ => False) W4 wCall v t n) (lit_at (fun _ => False) W4 wCall v0 [] n))
  rw [same_call] at HC
  have HN := Lib.hid (fun W => isName_any (str n) W (by rw [str_size]; omega))
  have HCt := Lib.hid (fun W (hb : Below W4.heap.size W4 W) => counts_any wCall v t n l _ S W (hE4.later hb))
  have HAl := Lib.hid (fun W (hb : Below W4.heap.size W4 W) => allMay_any l S W A c (sub_later (by simp only [op1, Sub] at *; exact sub_later (e := .mk wCall v t n l) hs b4) hb) ih)
  have hmay : (E.mk wCall v t n l).may = ((v == v0 && (t == [])) && nameB n && (countsL n l || E.mayL l)) := by simp only [E.may]; rw [if_neg (by decide), if_neg (by decide), if_pos trivial]
  rw [hmay]
  simp only [str_list] at HN
  obtain ⟨a0, a1, a2, a3, a4, a5, a6⟩ := q1.cells
  obtain ⟨b0, b1, b2, b3, b4', b5, b6⟩ := t6.cells
  obtain ⟨f0, f1, f2, f3, f4, f5, f6⟩ := t6.free
  obtain ⟨g0, g1, g2, g3, g4, g5, g6⟩ := t7.free
  obtain ⟨c0, c1, c2, c3, c4, c5, c6⟩ := t7.cells
  obtain ⟨d0, d1, d2, d3, d4, d5, d6⟩ := q4.cells
  obtain ⟨k0, k1, k2, k3, k4, k5, k6⟩ := u4.cells
  have HB := Lib.hid b4
  have HW1 := Lib.hid hW1
  have HV6 := Lib.hid hV6
  have HV7 := Lib.hid hV7
  have HW4 := Lib.hid hW4
  have HZ := Lib.hid y4
  generalize (v == v0 && (t == [])) = p1 at *
  have hso : str wCall = ⟨#[99, 97, 108, 108]⟩ := rfl
  have hv0 : v0.k = 0 ∧ v0.i = 0 ∧ str v0.s = ⟨#[]⟩ := ⟨rfl, rfl, rfl⟩
  simp only [hso, str_nil0, hv0.1, hv0.2.1, hv0.2.2] at *
  generalize nameB n = p2 at *
  generalize countsL n l = p3 at *
  generalize E.mayL l = p4 at *
  clear hW1 hV6 hV7 hW4 q1 t6 t7 q4 u4 b4 hE4 hs hmay hn hv0 ih
  generalize str v.s = bs at *
  generalize v.k = vk at *
  generalize v.i = vi at *
  generalize str t = bt at *
  generalize str n = bn at *
  generalize l.length = ln at *
  cases p1
  · simp only [Bool.false_and]
    clear HN HCt HAl
    go_enter Tryz.func68, Tryz.ntmps68
    go_wp2_with (first | (rw [← HW4.out]) | (rw [← HV7.out]) | (rw [← HV6.out]) | (rw [← HW1.out]))
    refine (HC.out).mono ?_
    rintro e w3 ⟨rfl, b3⟩
    have HB3 := Lib.hid (bthen HB.out b3)
    have hz := HZ.out
    have hz3 := b3.size
    clear b3 hz hz3
    go_wp2_with fail
    go_ret
    exact ⟨rfl, HB3.out⟩
  · simp only [Bool.true_and]
    cases p2
    · simp only [Bool.false_and]
      clear HCt HAl
      go_enter Tryz.func68, Tryz.ntmps68
      go_wp2_with (first | (rw [← HW4.out]) | (rw [← HV7.out]) | (rw [← HV6.out]) | (rw [← HW1.out]))
      refine (HC.out).mono ?_
      rintro e w3 ⟨rfl, b3⟩
      have HB3 := Lib.hid (bthen HB.out b3)
      have hz := HZ.out
      have hz3 := b3.size
      replace d5 := (b3.cell (p := ⟨w.heap.size, 5, none⟩) (by show w.heap.size < _; omega)).trans d5
      clear b3 hz hz3
      go_wp2_with fail
      refine (HN.out _).mono ?_
      rintro e w5 ⟨rfl, b5⟩
      have HB5 := Lib.hid (bthen HB3.out b5)
      clear b5 HN
      go_wp2_with fail
      go_ret
      exact ⟨rfl, HB5.out⟩
    · simp only [Bool.true_and]
      cases p3
      · simp only [Bool.false_or]
        go_enter Tryz.func68, Tryz.ntmps68
        go_wp2_with (first | (rw [← HW4.out]) | (rw [← HV7.out]) | (rw [← HV6.out]) | (rw [← HW1.out]))
        refine (HC.out).mono ?_
        rintro e w3 ⟨rfl, b3⟩
        have HB3 := Lib.hid (bthen HB.out b3)
        have hz := HZ.out
        have hz3 := b3.size
        replace d0 := (b3.cell (p := ⟨w.heap.size, 0, none⟩) (by show w.heap.size < _; omega)).trans d0
        replace d1 := (b3.cell (p := ⟨w.heap.size, 1, none⟩) (by show w.heap.size < _; omega)).trans d1
        replace d2 := (b3.cell (p := ⟨w.heap.size, 2, none⟩) (by show w.heap.size < _; omega)).trans d2
        replace d3 := (b3.cell (p := ⟨w.heap.size, 3, none⟩) (by show w.heap.size < _; omega)).trans d3
        replace d4 := (b3.cell (p := ⟨w.heap.size, 4, none⟩) (by show w.heap.size < _; omega)).trans d4
        replace d5 := (b3.cell (p := ⟨w.heap.size, 5, none⟩) (by show w.heap.size < _; omega)).trans d5
        replace d6 := (b3.cell (p := ⟨w.heap.size, 6, none⟩) (by show w.heap.size < _; omega)).trans d6
        have HL3 := Lib.hid b3
        clear b3
        go_wp2_with fail
        refine (HN.out _).mono ?_
        rintro e w5 ⟨rfl, b5⟩
        have hz5 := b5.size
        have HB5 := Lib.hid (bthen HB3.out b5)
        have HL5 := Lib.hid (bthen HL3.out b5)
        replace d0 := (b5.cell (p := ⟨w.heap.size, 0, none⟩) (by show w.heap.size < _; omega)).trans d0
        replace d1 := (b5.cell (p := ⟨w.heap.size, 1, none⟩) (by show w.heap.size < _; omega)).trans d1
        replace d2 := (b5.cell (p := ⟨w.heap.size, 2, none⟩) (by show w.heap.size < _; omega)).trans d2
        replace d3 := (b5.cell (p := ⟨w.heap.size, 3, none⟩) (by show w.heap.size < _; omega)).trans d3
        replace d4 := (b5.cell (p := ⟨w.heap.size, 4, none⟩) (by show w.heap.size < _; omega)).trans d4
        replace d5 := (b5.cell (p := ⟨w.heap.size, 5, none⟩) (by show w.heap.size < _; omega)).trans d5
        replace d6 := (b5.cell (p := ⟨w.heap.size, 6, none⟩) (by show w.heap.size < _; omega)).trans d6
        have HC5 := Lib.hid (HCt.out w5 HL5.out)
        clear b5 HN HCt HL3
        go_wp2_with fail
        refine (HC5.out).mono ?_
        rintro e w6 ⟨rfl, b6'⟩
        have HB6 := Lib.hid (bthen HB5.out b6')
        have HL6 := Lib.hid (bthen HL5.out b6')
        replace d6 := (b6'.cell (p := ⟨w.heap.size, 6, none⟩) (by show w.heap.size < _; omega)).trans d6
        have HA6 := Lib.hid (HAl.out w6 HL6.out)
        clear b6' hz hz3 hz5 HAl HL6 HL5
        go_wp2_with fail
        refine (HA6.out).mono ?_
        rintro e w7 ⟨rfl, b7⟩
        have HB7 := Lib.hid (bthen HB6.out b7)
        clear b7
        go_wp2_with fail
        go_ret
        exact ⟨rfl, HB7.out⟩
      · simp only [Bool.true_or]
        clear HAl
        go_enter Tryz.func68, Tryz.ntmps68
        go_wp2_with (first | (rw [← HW4.out]) | (rw [← HV7.out]) | (rw [← HV6.out]) | (rw [← HW1.out]))
        refine (HC.out).mono ?_
        rintro e w3 ⟨rfl, b3⟩
        have HB3 := Lib.hid (bthen HB.out b3)
        have hz := HZ.out
        have hz3 := b3.size
        replace d0 := (b3.cell (p := ⟨w.heap.size, 0, none⟩) (by show w.heap.size < _; omega)).trans d0
        replace d1 := (b3.cell (p := ⟨w.heap.size, 1, none⟩) (by show w.heap.size < _; omega)).trans d1
        replace d2 := (b3.cell (p := ⟨w.heap.size, 2, none⟩) (by show w.heap.size < _; omega)).trans d2
        replace d3 := (b3.cell (p := ⟨w.heap.size, 3, none⟩) (by show w.heap.size < _; omega)).trans d3
        replace d4 := (b3.cell (p := ⟨w.heap.size, 4, none⟩) (by show w.heap.size < _; omega)).trans d4
        replace d5 := (b3.cell (p := ⟨w.heap.size, 5, none⟩) (by show w.heap.size < _; omega)).trans d5
        replace d6 := (b3.cell (p := ⟨w.heap.size, 6, none⟩) (by show w.heap.size < _; omega)).trans d6
        have HL3 := Lib.hid b3
        clear b3
        go_wp2_with fail
        refine (HN.out _).mono ?_
        rintro e w5 ⟨rfl, b5⟩
        have hz5 := b5.size
        have HB5 := Lib.hid (bthen HB3.out b5)
        have HL5 := Lib.hid (bthen HL3.out b5)
        replace d0 := (b5.cell (p := ⟨w.heap.size, 0, none⟩) (by show w.heap.size < _; omega)).trans d0
        replace d1 := (b5.cell (p := ⟨w.heap.size, 1, none⟩) (by show w.heap.size < _; omega)).trans d1
        replace d2 := (b5.cell (p := ⟨w.heap.size, 2, none⟩) (by show w.heap.size < _; omega)).trans d2
        replace d3 := (b5.cell (p := ⟨w.heap.size, 3, none⟩) (by show w.heap.size < _; omega)).trans d3
        replace d4 := (b5.cell (p := ⟨w.heap.size, 4, none⟩) (by show w.heap.size < _; omega)).trans d4
        replace d5 := (b5.cell (p := ⟨w.heap.size, 5, none⟩) (by show w.heap.size < _; omega)).trans d5
        replace d6 := (b5.cell (p := ⟨w.heap.size, 6, none⟩) (by show w.heap.size < _; omega)).trans d6
        have HC5 := Lib.hid (HCt.out w5 HL5.out)
        clear b5 HN HCt HL3
        go_wp2_with fail
        refine (HC5.out).mono ?_
        rintro e w6 ⟨rfl, b6'⟩
        have HB6 := Lib.hid (bthen HB5.out b6')
        clear b6' hz hz3 hz5 HL5
        go_wp2_with fail
        go_ret
        exact ⟨rfl, HB6.out⟩
set_option maxRecDepth 100000 in
set_option maxHeartbeats 16000000 in
theorem may_other (o : List UInt8) (v : Vl) (t n : List UInt8) (l : List E) (x : Value) (S : Nat → Prop) (w : World) (hx : EAt S w (.mk o v t n l) x) (h1 : o ≠ wLit) (h2 : o ≠ wCol) (h3 : o ≠ wCall)
    (ih : ∀ j (hj : j < l.length) (x : Value) (w : World), EAt S w l[j] x → Calls Tryz.prog 68 #[x] w fun r w' => r = .returned (.bool l[j].may) ∧ Below w.heap.size w w') :
    Calls Tryz.prog 68 #[x] w fun r w' => r = .returned (.bool ((E.mk o v t n l).may)) ∧ Below w.heap.size w w' := by
  obtain ⟨A, c, rfl, hs⟩ := hx
  simp only [E.op, E.v, E.tb, E.nm, E.l, eVal] at *
  obtain ⟨W1, V6, V7, W4, hW1, hV6, hV7, hW4, z1, q1, t6, t7, q4, u4, b4, y4⟩ := own7 w (.string (str o)) (.int .i64 v.k) (.int .i64 v.i) (.string (str v.s)) (.string (str t)) (.string (str n)) (.slice A l.length c)
  have hE4 : EAt S W4 (.mk o v t n l) (.agg #[.string (str o), .int .i64 v.k, .int .i64 v.i, .string (str v.s), .string (str t), .string (str n), .slice A l.length c]) := ⟨A, c, rfl, sub_later hs b4⟩
  have HC := Lib.hid (eSame_any _ _ _ _ (fun _ => False) (fun _ => False) W4 (lit_at (fun _ => False) W4 o v t n) (lit_at (fun _ => False) W4 o v0 [] []))
  rw [same_op] at HC
  have HMy := Lib.hid (fun W => many_any o W)
  have HAl := Lib.hid (fun W (hb : Below W4.heap.size W4 W) => allMay_any l S W A c (sub_later (by simp only [op1, Sub] at *; exact sub_later (e := .mk o v t n l) hs b4) hb) ih)
  have hmay : (E.mk o v t n l).may = ((v == v0 && (t == []) && (n == [])) && decide (least o ≤ l.length) && decide (l.length ≤ most o) && E.mayL l) := by simp only [E.may]; rw [if_neg h1, if_neg h2, if_neg h3]
  rw [hmay]
  have e1 : ((str o).toList == [108, 105, 116]) = false := by rw [Lib.toList_data, str_list]; simpa [wLit] using h1
  have e2 : ((str o).toList == [99, 111, 108]) = false := by rw [Lib.toList_data, str_list]; simpa [wCol] using h2
  have e3 : ((str o).toList == [99, 97, 108, 108]) = false := by rw [Lib.toList_data, str_list]; simpa [wCall] using h3
  have hlm : l.length ≤ 9223372036854775807 := by
    simp only [Sub] at hs
    exact Nat.le_trans hs.1 hs.2.1
  obtain ⟨a0, a1, a2, a3, a4, a5, a6⟩ := q1.cells
  obtain ⟨b0, b1, b2, b3, b4', b5, b6⟩ := t6.cells
  obtain ⟨f0, f1, f2, f3, f4, f5, f6⟩ := t6.free
  obtain ⟨g0, g1, g2, g3, g4, g5, g6⟩ := t7.free
  obtain ⟨c0, c1, c2, c3, c4, c5, c6⟩ := t7.cells
  obtain ⟨d0, d1, d2, d3, d4, d5, d6⟩ := q4.cells
  obtain ⟨k0, k1, k2, k3, k4, k5, k6⟩ := u4.cells
  have HB := Lib.hid b4
  have HW1 := Lib.hid hW1
  have HV6 := Lib.hid hV6
  have HV7 := Lib.hid hV7
  have HW4 := Lib.hid hW4
  have HZ := Lib.hid y4
  generalize (v == v0 && (t == []) && (n == [])) = p1 at *
  have hv0 : v0.k = 0 ∧ v0.i = 0 ∧ str v0.s = ⟨#[]⟩ := ⟨rfl, rfl, rfl⟩
  simp only [str_nil0, hv0.1, hv0.2.1, hv0.2.2] at *
  generalize E.mayL l = p4 at *
  generalize least o = lo at *
  generalize most o = hi at *
  clear hW1 hV6 hV7 hW4 q1 t6 t7 q4 u4 b4 hE4 hs hmay hv0 ih h1 h2 h3
  generalize str o = bo at *
  generalize str v.s = bs at *
  generalize v.k = vk at *
  generalize v.i = vi at *
  generalize str t = bt at *
  generalize str n = bn at *
  generalize l.length = ln at *
  have HMy2 := Lib.hid (HMy.out W4)
  cases p1
  · simp only [Bool.false_and]
    clear HAl
    go_enter Tryz.func68, Tryz.ntmps68
    go_wp2_with (first | (rw [← HW4.out]) | (rw [← HV7.out]) | (rw [← HV6.out]) | (rw [← HW1.out]))
    refine (HMy2.out).mono ?_
    rintro e w2 ⟨rfl, hw2⟩
    cases hw2
    go_wp2_with fail
    refine (HC.out).mono ?_
    rintro e w3 ⟨rfl, b3⟩
    have HB3 := Lib.hid (bthen HB.out b3)
    clear b3
    go_wp2_with fail
    go_ret
    exact ⟨rfl, HB3.out⟩
  · simp only [Bool.true_and]
    by_cases hlo : lo ≤ ln
    · have hloz : (lo : Int) ≤ (ln : Int) := by omega
      by_cases hhi : ln ≤ hi
      · have hhiz : (ln : Int) ≤ (hi : Int) := by omega
        rw [decide_eq_true hlo, decide_eq_true hhi]
        simp only [Bool.true_and]
        go_enter Tryz.func68, Tryz.ntmps68
        go_wp2_with (first | (rw [← HW4.out]) | (rw [← HV7.out]) | (rw [← HV6.out]) | (rw [← HW1.out]))
        refine (HMy2.out).mono ?_
        rintro e w2 ⟨rfl, hw2⟩
        cases hw2
        go_wp2_with fail
        refine (HC.out).mono ?_
        rintro e w3 ⟨rfl, b3⟩
        have HB3 := Lib.hid (bthen HB.out b3)
        have hz := HZ.out
        replace d6 := (b3.cell (p := ⟨w.heap.size, 6, none⟩) (by show w.heap.size < _; omega)).trans d6
        have HA3 := Lib.hid (HAl.out w3 b3)
        clear b3 hz HAl
        go_wp2_with fail
        refine (HA3.out).mono ?_
        rintro e w5 ⟨rfl, b5⟩
        have HB5 := Lib.hid (bthen HB3.out b5)
        clear b5
        go_wp2_with fail
        go_ret
        exact ⟨rfl, HB5.out⟩
      · have hhiz : ¬ (ln : Int) ≤ (hi : Int) := by omega
        rw [decide_eq_true hlo, decide_eq_false hhi]
        simp only [Bool.true_and, Bool.false_and]
        clear HAl
        go_enter Tryz.func68, Tryz.ntmps68
        go_wp2_with (first | (rw [← HW4.out]) | (rw [← HV7.out]) | (rw [← HV6.out]) | (rw [← HW1.out]))
        refine (HMy2.out).mono ?_
        rintro e w2 ⟨rfl, hw2⟩
        cases hw2
        go_wp2_with fail
        refine (HC.out).mono ?_
        rintro e w3 ⟨rfl, b3⟩
        have HB3 := Lib.hid (bthen HB.out b3)
        have hz := HZ.out
        replace d6 := (b3.cell (p := ⟨w.heap.size, 6, none⟩) (by show w.heap.size < _; omega)).trans d6
        clear b3 hz
        go_wp2_with fail
        go_ret
        exact ⟨rfl, HB3.out⟩
    · have hloz : ¬ (lo : Int) ≤ (ln : Int) := by omega
      rw [decide_eq_false hlo]
      simp only [Bool.false_and]
      clear HAl
      go_enter Tryz.func68, Tryz.ntmps68
      go_wp2_with (first | (rw [← HW4.out]) | (rw [← HV7.out]) | (rw [← HV6.out]) | (rw [← HW1.out]))
      refine (HMy2.out).mono ?_
      rintro e w2 ⟨rfl, hw2⟩
      cases hw2
      go_wp2_with fail
      refine (HC.out).mono ?_
      rintro e w3 ⟨rfl, b3⟩
      have HB3 := Lib.hid (bthen HB.out b3)
      have hz := HZ.out
      replace d6 := (b3.cell (p := ⟨w.heap.size, 6, none⟩) (by show w.heap.size < _; omega)).trans d6
      clear b3 hz
      go_wp2_with fail
      go_ret
      exact ⟨rfl, HB3.out⟩
theorem mayBe_any (e : E) : ∀ (x : Value) (S : Nat → Prop) (w : World), EAt S w e x → e.sn = true → Calls Tryz.prog 68 #[x] w fun r w' => r = .returned (.bool e.may) ∧ Below w.heap.size w w' := by
  induction e using E.ind with
  | h o v t n l ih =>
    intro x S w hx hsh
    simp only [E.sn, Bool.and_eq_true, decide_eq_true_eq] at hsh
    obtain ⟨⟨ht, hn⟩, hl⟩ := hsh
    have ih' : ∀ j (hj : j < l.length) (x : Value) (w : World), EAt S w l[j] x → Calls Tryz.prog 68 #[x] w fun r w' => r = .returned (.bool l[j].may) ∧ Below w.heap.size w w' := fun j hj x w hx => ih l[j] (List.getElem_mem hj) x S w hx (snL_get hl j hj)
    by_cases h1 : o = wLit
    · subst h1; exact may_lit v t n l x S w hx
    by_cases h2 : o = wCol
    · subst h2; exact may_col v t n l x S w hx (ht rfl) hn
    by_cases h3 : o = wCall
    · subst h3; exact may_call v t n l x S w hx hn ih'
    exact may_other o v t n l x S w hx h1 h2 h3 ih'
def chkE (e : E) : Int := if e.may then (if 40 < e.deep then 3 else 0) else 1
end Go.Proofs.YtcmbdghbicjljaaGreatDoor
namespace Go.Proofs.YtcmbdghbicjljaaGreatDoor
open Go.RowKit
set_option maxRecDepth 100000 in
set_option maxHeartbeats 4000000 in
theorem eCheck_any (e : E) (x : Value) (S : Nat → Prop) (w : World) (hx : EAt S w e x) (hsh : e.sn = true) (hd : e.deep ≤ 1000000) : Calls Tryz.prog 31 #[x] w fun r w' => r = .returned (.int .i64 (chkE e)) ∧ Below w.heap.size w w' := by
  obtain ⟨s0, i1, i2, s3, s4, s5, A, n, c, rfl⟩ := hx.agg
  obtain ⟨W1, hW1, q1, z1, r1⟩ := box7 w (.string s0) (.int .i64 i1) (.int .i64 i2) (.string s3) (.string s4) (.string s5) (.slice A n c)
  have hx1 := hx.later r1
  have HM := Lib.hid (mayBe_any e _ S W1 hx1 hsh)
  have HD := Lib.hid (fun W (hb : Below W1.heap.size W1 W) => deep_any e _ S W (hx1.later hb) hd)
  obtain ⟨a0, a1, a2, a3, a4, a5, a6⟩ := q1.cells
  have HB := Lib.hid r1
  have HW1 := Lib.hid hW1
  have hz := q1.lt
  unfold chkE
  generalize e.may = m at *
  generalize hdp : e.deep = dp at *
  clear hW1 hx hx1 hsh r1 q1 hdp
  cases m
  · simp only [Bool.false_eq_true, if_false]
    go_enter Tryz.func31, Tryz.ntmps31
    go_wp2_with (rw [← HW1.out])
    refine (HM.out).mono ?_
    rintro r w3 ⟨rfl, b3⟩
    go_wp2_with fail
    go_ret
    exact ⟨rfl, bthen HB.out b3⟩
  · simp only [if_true]
    by_cases h40 : 40 < dp
    all_goals
      simp only [h40, if_true, if_false]
      have h4z : (40 : Int) < (dp : Int) ∨ ¬ (40 : Int) < (dp : Int) := by omega
      go_enter Tryz.func31, Tryz.ntmps31
      go_wp2_with (rw [← HW1.out])
      refine (HM.out).mono ?_
      rintro r w3 ⟨rfl, b3⟩
      replace a0 := (b3.cell (p := ⟨w.heap.size, 0, none⟩) (by show w.heap.size < _; omega)).trans a0
      replace a1 := (b3.cell (p := ⟨w.heap.size, 1, none⟩) (by show w.heap.size < _; omega)).trans a1
      replace a2 := (b3.cell (p := ⟨w.heap.size, 2, none⟩) (by show w.heap.size < _; omega)).trans a2
      replace a3 := (b3.cell (p := ⟨w.heap.size, 3, none⟩) (by show w.heap.size < _; omega)).trans a3
      replace a4 := (b3.cell (p := ⟨w.heap.size, 4, none⟩) (by show w.heap.size < _; omega)).trans a4
      replace a5 := (b3.cell (p := ⟨w.heap.size, 5, none⟩) (by show w.heap.size < _; omega)).trans a5
      replace a6 := (b3.cell (p := ⟨w.heap.size, 6, none⟩) (by show w.heap.size < _; omega)).trans a6
      have HD3 := Lib.hid (HD.out w3 b3)
      have HB3 := Lib.hid (bthen HB.out b3)
      clear b3 HD h4z
      go_wp2_with fail
      refine (HD3.out).mono ?_
      rintro r w5 ⟨rfl, b5⟩
      have HB5 := Lib.hid (bthen HB3.out b5)
      clear b5
      first
      | (have h4 : (40 : Int) < (dp : Int) := by omega
         go_wp2_with fail
         go_ret
         exact ⟨rfl, HB5.out⟩)
      | (have h4 : ¬ (40 : Int) < (dp : Int) := by omega
         go_wp2_with fail
         go_ret
         exact ⟨rfl, HB5.out⟩)
end Go.Proofs.YtcmbdghbicjljaaGreatDoor
namespace Go.Proofs.YtcmbdghbicjljaaGreatDoor
open Go.RowKit
set_option maxRecDepth 100000 in
set_option maxHeartbeats 2000000 in
theorem rOp1 (so : ByteArray) (A : Option Addr) (n c : Nat) (w : World) : Calls Tryz.prog 21 #[.string so, .slice A n c] w fun r w' => r = .returned (.agg #[.string so, .int .i64 0, .int .i64 0, .string ⟨#[]⟩, .string ⟨#[]⟩, .string ⟨#[]⟩, .slice A n c]) ∧ Below w.heap.size w w' := by
  obtain ⟨W1, W, hW1, hW, p1, p2, hz, hb1, hb2⟩ := made7 w (.string so) (.int .i64 0) (.int .i64 0) (.string ⟨#[]⟩) (.string ⟨#[]⟩) (.string ⟨#[]⟩) (.slice A n c)
  obtain ⟨a0, a1, a2, a3, a4, a5, a6⟩ := p1.cells
  obtain ⟨f0, f1, f2, f3, f4, f5, f6⟩ := p1.free
  obtain ⟨l0, l1, l2, l3, l4, l5, l6⟩ := p2.cells
  have HW1 := Lib.hid hW1
  have HW := Lib.hid hW
  have HB := Lib.hid hb2
  clear hW1 hW p1 p2 hb1 hb2
  go_enter Tryz.func21, Tryz.ntmps21
  go_wp2_with (first | (rw [← HW.out]) | (rw [← HW1.out]))
  exact bodyPost_ret (v := .agg #[.string so, .int .i64 0, .int .i64 0, .string ⟨#[]⟩, .string ⟨#[]⟩, .string ⟨#[]⟩, .slice A n c]) (by simp [results, Tryz.results21, go_sem, l0, l1, l2, l3, l4, l5, l6]) rfl ⟨rfl, HB.out⟩
set_option maxRecDepth 100000 in
set_option maxHeartbeats 2000000 in
theorem rCol (t n : ByteArray) (w : World) : Calls Tryz.prog 78 #[.string t, .string n] w fun r w' => r = .returned (.agg #[.string ⟨#[99, 111, 108]⟩, .int .i64 0, .int .i64 0, .string ⟨#[]⟩, .string t, .string n, .slice none 0 0]) ∧ Below w.heap.size w w' := by
  obtain ⟨W1, W, hW1, hW, p1, p2, hz, hb1, hb2⟩ := made7 w (.string ⟨#[99, 111, 108]⟩) (.int .i64 0) (.int .i64 0) (.string ⟨#[]⟩) (.string t) (.string n) (.slice none 0 0)
  obtain ⟨a0, a1, a2, a3, a4, a5, a6⟩ := p1.cells
  obtain ⟨f0, f1, f2, f3, f4, f5, f6⟩ := p1.free
  obtain ⟨l0, l1, l2, l3, l4, l5, l6⟩ := p2.cells
  have HW1 := Lib.hid hW1
  have HW := Lib.hid hW
  have HB := Lib.hid hb2
  clear hW1 hW p1 p2 hb1 hb2
  go_enter Tryz.func78, Tryz.ntmps78
  go_wp2_with (first | (rw [← HW.out]) | (rw [← HW1.out]))
  exact bodyPost_ret (v := .agg #[.string ⟨#[99, 111, 108]⟩, .int .i64 0, .int .i64 0, .string ⟨#[]⟩, .string t, .string n, .slice none 0 0]) (by simp [results, Tryz.results78, go_sem, l0, l1, l2, l3, l4, l5, l6]) rfl ⟨rfl, HB.out⟩
theorem heap3 (w : World) (c0 c1 c2 : Value) : (w.alloc (.cells #[c0, c1, c2] 23)).heap[w.heap.size]? = some (.cells #[c0, c1, c2] 23 (0, 0)) := heap_alloc_new w _
set_option maxRecDepth 100000 in
set_option maxHeartbeats 2000000 in
theorem rLit (k i : Int) (s : ByteArray) (w : World) : Calls Tryz.prog 18 #[.agg #[.int .i64 k, .int .i64 i, .string s]] w fun r w' => r = .returned (.agg #[.string ⟨#[108, 105, 116]⟩, .int .i64 k, .int .i64 i, .string s, .string ⟨#[]⟩, .string ⟨#[]⟩, .slice none 0 0]) ∧ Below w.heap.size w w' := by
  obtain ⟨W0, hW0⟩ : ∃ W0, W0 = w.alloc (.cells #[.int .i64 k, .int .i64 i, .string s] 23) := ⟨_, rfl⟩
  have h0 : W0.heap[w.heap.size]? = some (.cells #[.int .i64 k, .int .i64 i, .string s] 23 (0, 0)) := by rw [hW0]; exact heap3 w _ _ _
  have z0 : W0.heap.size = w.heap.size + 1 := by rw [hW0]; simp
  have r0 : Below w.heap.size w W0 := by rw [hW0]; exact (Below.refl w.heap.size w).alloc (Nat.le_refl _) _
  obtain ⟨W1, W, hW1, hW, p1, p2, hz, hb1, hb2⟩ := made7 W0 (.string ⟨#[108, 105, 116]⟩) (.int .i64 k) (.int .i64 i) (.string s) (.string ⟨#[]⟩) (.string ⟨#[]⟩) (.slice none 0 0)
  rw [z0] at p1 p2 hW
  have h1 := (hb1.block w.heap.size (by omega)).trans h0
  have k0 : W1.cell? ⟨w.heap.size, 0, none⟩ = some (.int .i64 k) := by rw [Lib.cell_of_heap h1]; rfl
  have k1 : W1.cell? ⟨w.heap.size, 1, none⟩ = some (.int .i64 i) := by rw [Lib.cell_of_heap h1]; rfl
  have k2 : W1.cell? ⟨w.heap.size, 2, none⟩ = some (.string s) := by rw [Lib.cell_of_heap h1]; rfl
  obtain ⟨a0, a1, a2, a3, a4, a5, a6⟩ := p1.cells
  obtain ⟨f0, f1, f2, f3, f4, f5, f6⟩ := p1.free
  obtain ⟨l0, l1, l2, l3, l4, l5, l6⟩ := p2.cells
  have HW0 := Lib.hid hW0
  have HW1 := Lib.hid hW1
  have HW := Lib.hid hW
  have HB := Lib.hid (bthen r0 hb2)
  clear hW0 hW1 hW p1 p2 hb1 hb2 h0 h1 r0
  go_enter Tryz.func18, Tryz.ntmps18
  go_wp2_with (first | (rw [← HW.out]) | (rw [← HW1.out]) | (rw [← HW0.out]))
  exact bodyPost_ret (v := .agg #[.string ⟨#[108, 105, 116]⟩, .int .i64 k, .int .i64 i, .string s, .string ⟨#[]⟩, .string ⟨#[]⟩, .slice none 0 0]) (by simp [results, Tryz.results18, go_sem, l0, l1, l2, l3, l4, l5, l6]) rfl ⟨rfl, HB.out⟩
set_option maxRecDepth 100000 in
set_option maxHeartbeats 2000000 in
theorem rInt1 (i : Int) (w : World) : Calls Tryz.prog 23 #[.int .i64 i] w fun r w' => r = .returned (.agg #[.int .i64 2, .int .i64 i, .string ⟨#[]⟩]) ∧ Below w.heap.size w w' := by
  obtain ⟨W0, hW0⟩ : ∃ W0, W0 = w.alloc (.cells #[.int .i64 0, .int .i64 0, .string ⟨#[]⟩] 23) := ⟨_, rfl⟩
  have h0 : W0.heap[w.heap.size]? = some (.cells #[.int .i64 0, .int .i64 0, .string ⟨#[]⟩] 23 (0, 0)) := by rw [hW0]; exact heap3 w _ _ _
  have r0 : Below w.heap.size w W0 := by rw [hW0]; exact (Below.refl w.heap.size w).alloc (Nat.le_refl _) _
  have s0 := heap_set_same (.int .i64 2) (o := 0) h0
  have s1 := heap_set_same (.int .i64 i) (o := 1) s0
  have s2 := heap_set_same (.string ⟨#[]⟩) (o := 2) s1
  obtain ⟨W, hW⟩ : ∃ W, W = (((W0.setCell ⟨w.heap.size, 0, none⟩ (.int .i64 2)).setCell ⟨w.heap.size, 1, none⟩ (.int .i64 i)).setCell ⟨w.heap.size, 2, none⟩ (.string ⟨#[]⟩)) := ⟨_, rfl⟩
  rw [← hW] at s2
  have hb : Below w.heap.size w W := by
    rw [hW]
    exact ((r0.setCell (p := ⟨w.heap.size, 0, none⟩) (Nat.le_refl _) _).setCell (p := ⟨w.heap.size, 1, none⟩) (Nat.le_refl _) _).setCell (p := ⟨w.heap.size, 2, none⟩) (Nat.le_refl _) _
  simp only [List.setIfInBounds_toArray, List.set_cons_zero, List.set_cons_succ] at s2
  have a0 : W0.cell? ⟨w.heap.size, 0, none⟩ = some (.int .i64 0) := by rw [Lib.cell_of_heap h0]; rfl
  have a1 : W0.cell? ⟨w.heap.size, 1, none⟩ = some (.int .i64 0) := by rw [Lib.cell_of_heap h0]; rfl
  have a2 : W0.cell? ⟨w.heap.size, 2, none⟩ = some (.string ⟨#[]⟩) := by rw [Lib.cell_of_heap h0]; rfl
  have f0 := Lib.frozen_of_heap h0 0
  have f1 := Lib.frozen_of_heap h0 1
  have f2 := Lib.frozen_of_heap h0 2
  have l0 : W.cell? ⟨w.heap.size, 0, none⟩ = some (.int .i64 2) := by rw [Lib.cell_of_heap s2]; rfl
  have l1 : W.cell? ⟨w.heap.size, 1, none⟩ = some (.int .i64 i) := by rw [Lib.cell_of_heap s2]; rfl
  have l2 : W.cell? ⟨w.heap.size, 2, none⟩ = some (.string ⟨#[]⟩) := by rw [Lib.cell_of_heap s2]; rfl
  have HW0 := Lib.hid hW0
  have HW := Lib.hid hW
  have HB := Lib.hid hb
  clear hW0 hW hb h0 r0 s0 s1 s2
  go_enter Tryz.func23, Tryz.ntmps23
  go_wp2_with (first | (rw [← HW.out]) | (rw [← HW0.out]))
  exact bodyPost_ret (v := .agg #[.int .i64 2, .int .i64 i, .string ⟨#[]⟩]) (by simp [results, Tryz.results23, go_sem, l0, l1, l2]) rfl ⟨rfl, HB.out⟩
end Go.Proofs.YtcmbdghbicjljaaGreatDoor
