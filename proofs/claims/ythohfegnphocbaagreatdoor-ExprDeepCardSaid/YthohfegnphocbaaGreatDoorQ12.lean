/- Contract of mayBe at a value's expression, and at a column. Condition: names and values no longer than a million. -/
import Derived.Test.YthohfegnphocbaaGreatDoorQ10
import Derived.Test.YthohfegnphocbaaGreatDoorQ11
namespace Go.Proofs.YthohfegnphocbaaGreatDoor
open Go.RowKit
theorem setL {w : World} {b : Nat} {c0 c1 c2 c3 c4 c5 c6 : Value} (h : B7 w b c0 c1 c2 c3 c4 c5 c6) (u : Value) : B7 (w.setCell ⟨b, 6, none⟩ u) b c0 c1 c2 c3 c4 c5 u := by
  have := heap_set_same u (o := 6) h
  unfold B7
  simpa only [List.setIfInBounds_toArray, List.set_cons_zero, List.set_cons_succ] using this
theorem own7 (w : World) (c0 c1 c2 c3 c4 c5 c6 : Value) : ∃ W1 V6 V7 W4 : World, W1 = w.alloc (.cells #[c0, c1, c2, c3, c4, c5, c6] 27) ∧
    V6 = W1.alloc (.cells #[.string ⟨#[]⟩, .int .i64 0, .int .i64 0, .string ⟨#[]⟩, .string ⟨#[]⟩, .string ⟨#[]⟩, .slice none 0 0] 27) ∧
    V7 = (((((((V6.setCell ⟨w.heap.size + 1, 0, none⟩ c0).setCell ⟨w.heap.size + 1, 1, none⟩ c1).setCell ⟨w.heap.size + 1, 2, none⟩ c2).setCell ⟨w.heap.size + 1, 3, none⟩ c3).setCell ⟨w.heap.size + 1, 4, none⟩ c4).setCell ⟨w.heap.size + 1, 5, none⟩ c5).setCell ⟨w.heap.size + 1, 6, none⟩ c6) ∧
    W4 = V7.setCell ⟨w.heap.size + 1, 6, none⟩ (.slice none 0 0) ∧ W1.heap.size = w.heap.size + 1 ∧ B7 W1 w.heap.size c0 c1 c2 c3 c4 c5 c6 ∧
    B7 V6 (w.heap.size + 1) (.string ⟨#[]⟩) (.int .i64 0) (.int .i64 0) (.string ⟨#[]⟩) (.string ⟨#[]⟩) (.string ⟨#[]⟩) (.slice none 0 0) ∧ B7 V7 (w.heap.size + 1) c0 c1 c2 c3 c4 c5 c6 ∧
    B7 W4 w.heap.size c0 c1 c2 c3 c4 c5 c6 ∧ B7 W4 (w.heap.size + 1) c0 c1 c2 c3 c4 c5 (.slice none 0 0) ∧ Below w.heap.size w W4 ∧ W4.heap.size = w.heap.size + 2 := by
  obtain ⟨W1, hW1, q1, z1, r1⟩ := box7 w c0 c1 c2 c3 c4 c5 c6
  obtain ⟨V6, V7, hV6, hV7, t6, t7, y7, k6, k7⟩ := made7 W1 c0 c1 c2 c3 c4 c5 c6
  rw [z1] at hV7 t6 t7
  have q4 := setL t7 (.slice none 0 0)
  have b4 : Below W1.heap.size W1 (V7.setCell ⟨w.heap.size + 1, 6, none⟩ (.slice none 0 0)) := k7.setCell (p := ⟨w.heap.size + 1, 6, none⟩) (by show _ ≤ w.heap.size + 1; omega) _
  exact ⟨W1, V6, V7, _, hW1, hV6, hV7, rfl, z1, q1, t6, t7, q1.later b4, q4, bthen r1 b4, by rw [size_setCell, y7, z1]⟩
theorem lit_at (S : Nat → Prop) (w : World) (o : List UInt8) (v : Vl) (t n : List UInt8) : EAt S w (.mk o v t n []) (.agg #[.string (str o), .int .i64 v.k, .int .i64 v.i, .string (str v.s), .string (str t), .string (str n), .slice none 0 0]) := ⟨none, 0, rfl, by simp [Sub]⟩
theorem str_nil0 : str [] = ⟨#[]⟩ := rfl
theorem sameL_nil (l : List E) : E.sameL l [] = l.isEmpty := by cases l <;> rfl
theorem same_lit (v : Vl) (t n : List UInt8) (l : List E) : (E.mk wLit v t n l).same (.mk wLit v [] [] []) = (t == [] && (n == []) && l.isEmpty) := by simp only [E.same, sameL_nil, beq_self_eq_true, Bool.true_and]
theorem same_col (v : Vl) (t n : List UInt8) (l : List E) : (E.mk wCol v t n l).same (.mk wCol v0 t n []) = (v == v0 && l.isEmpty) := by simp only [E.same, sameL_nil, beq_self_eq_true, Bool.true_and, Bool.and_true]
theorem same_call (v : Vl) (t n : List UInt8) : (E.mk wCall v t n []).same (.mk wCall v0 [] n []) = (v == v0 && (t == [])) := by simp [E.same, E.sameL]
theorem same_op (o : List UInt8) (v : Vl) (t n : List UInt8) : (E.mk o v t n []).same (.mk o v0 [] [] []) = (v == v0 && (t == []) && (n == [])) := by simp [E.same, E.sameL]
set_option maxRecDepth 100000 in
set_option maxHeartbeats 8000000 in
theorem may_lit (v : Vl) (t n : List UInt8) (l : List E) (x : Value) (S : Nat → Prop) (w : World) (hx : EAt S w (.mk wLit v t n l) x) : Calls Tryz.prog 42 #[x] w fun r w' => r = .returned (.bool ((E.mk wLit v t n l).may)) ∧ Below w.heap.size w w' := by
  obtain ⟨A, c, rfl, hs⟩ := hx
  simp only [E.op, E.v, E.tb, E.nm, E.l, eVal] at *
  obtain ⟨W1, V6, V7, W4, hW1, hV6, hV7, hW4, z1, q1, t6, t7, q4, u4, b4, y4⟩ := own7 w (.string (str wLit)) (.int .i64 v.k) (.int .i64 v.i) (.string (str v.s)) (.string (str t)) (.string (str n)) (.slice A l.length c)
  have hE4 : EAt S W4 (.mk wLit v t n l) (.agg #[.string (str wLit), .int .i64 v.k, .int .i64 v.i, .string (str v.s), .string (str t), .string (str n), .slice A l.length c]) := ⟨A, c, rfl, sub_later hs b4⟩
  have HC := Lib.hid (eSame_any _ _ _ _ S (fun _ => False) W4 hE4 (lit_at (fun _ => False) W4 wLit v [] []))
  rw [same_lit] at HC
  have HV := Lib.hid (fun W => BV.check_any v.k v.i (str v.s) W)
  have hmay : (E.mk wLit v t n l).may = ((t == [] && (n == []) && l.isEmpty) && v.may) := by simp only [E.may, if_true]
  rw [hmay]
  obtain ⟨a0, a1, a2, a3, a4, a5, a6⟩ := q1.cells
  obtain ⟨b0, b1, b2, b3, b4', b5, b6⟩ := t6.cells
  obtain ⟨f0, f1, f2, f3, f4, f5, f6⟩ := t6.free
  obtain ⟨g0, g1, g2, g3, g4, g5, g6⟩ := t7.free
  obtain ⟨c0, c1, c2, c3, c4, c5, c6⟩ := t7.cells
  obtain ⟨d0, d1, d2, d3, d4, d5, d6⟩ := q4.cells
  have HB := Lib.hid b4
  have HW1 := Lib.hid hW1
  have HV6 := Lib.hid hV6
  have HV7 := Lib.hid hV7
  have HW4 := Lib.hid hW4
  have HZ := Lib.hid y4
  have HM : Hid (v.may = BV.mayB v.k v.i (str v.s)) := rfl
  generalize (t == [] && (n == []) && l.isEmpty) = p1 at *
  have hso : str wLit = ⟨#[108, 105, 116]⟩ := rfl
  simp only [hso, str_nil0] at *
  generalize v.may = p2 at *
  clear hW1 hV6 hV7 hW4 q1 t6 t7 q4 u4 b4 hE4 hs hmay
  generalize str v.s = bs at *
  generalize v.k = vk at *
  generalize v.i = vi at *
  generalize str t = bt at *
  generalize str n = bn at *
  generalize l.length = ln at *
  cases p1
  · simp only [Bool.false_and]
    clear HV HM
    go_enter Tryz.func42, Tryz.ntmps42
    go_wp2_with (first | (rw [← HW4.out]) | (rw [← HV7.out]) | (rw [← HV6.out]) | (rw [← HW1.out]))
    refine (HC.out).mono ?_
    rintro e w3 ⟨rfl, b3⟩
    have HB3 := Lib.hid (bthen HB.out b3)
    clear b3
    go_wp2_with fail
    go_ret
    exact ⟨rfl, HB3.out⟩
  · simp only [Bool.true_and]
    go_enter Tryz.func42, Tryz.ntmps42
    go_wp2_with (first | (rw [← HW4.out]) | (rw [← HV7.out]) | (rw [← HV6.out]) | (rw [← HW1.out]))
    refine (HC.out).mono ?_
    rintro e w3 ⟨rfl, b3⟩
    have HB3 := Lib.hid (bthen HB.out b3)
    have hz := HZ.out
    replace d1 := (b3.cell (p := ⟨w.heap.size, 1, none⟩) (by show w.heap.size < _; omega)).trans d1
    replace d2 := (b3.cell (p := ⟨w.heap.size, 2, none⟩) (by show w.heap.size < _; omega)).trans d2
    replace d3 := (b3.cell (p := ⟨w.heap.size, 3, none⟩) (by show w.heap.size < _; omega)).trans d3
    clear b3 hz
    go_wp2_with fail
    refine (HV.out _).mono ?_
    rintro e w5 ⟨rfl, b5⟩
    have HB5 := Lib.hid (bthen HB3.out b5)
    have hm := HM.out
    unfold BV.chkI
    rw [← hm]
    clear b5 hm HM HV
    cases p2
    · simp only [Bool.false_eq_true, if_false]
      go_wp2_with fail
      go_ret
      exact ⟨rfl, HB5.out⟩
    · simp only [if_true]
      go_wp2_with fail
      go_ret
      exact ⟨rfl, HB5.out⟩
end Go.Proofs.YthohfegnphocbaaGreatDoor
namespace Go.Proofs.YthohfegnphocbaaGreatDoor
open Go.RowKit
set_option maxRecDepth 100000 in
set_option maxHeartbeats 8000000 in
theorem may_col (v : Vl) (t n : List UInt8) (l : List E) (x : Value) (S : Nat → Prop) (w : World) (hx : EAt S w (.mk wCol v t n l) x) (ht : t.length ≤ 1000000) (hn : n.length ≤ 1000000) : Calls Tryz.prog 42 #[x] w fun r w' => r = .returned (.bool ((E.mk wCol v t n l).may)) ∧ Below w.heap.size w w' := by
  obtain ⟨A, c, rfl, hs⟩ := hx
  simp only [E.op, E.v, E.tb, E.nm, E.l, eVal] at *
  obtain ⟨W1, V6, V7, W4, hW1, hV6, hV7, hW4, z1, q1, t6, t7, q4, u4, b4, y4⟩ := own7 w (.string (str wCol)) (.int .i64 v.k) (.int .i64 v.i) (.string (str v.s)) (.string (str t)) (.string (str n)) (.slice A l.length c)
  have hE4 : EAt S W4 (.mk wCol v t n l) (.agg #[.string (str wCol), .int .i64 v.k, .int .i64 v.i, .string (str v.s), .string (str t), .string (str n), .slice A l.length c]) := ⟨A, c, rfl, sub_later hs b4⟩
  have HC := Lib.hid (eSame_any _ _ _ _ S (fun _ => False) W4 hE4 (lit_at (fun _ => False) W4 wCol v0 t n))
  rw [same_col] at HC
  have HN := Lib.hid (fun W => isName_any (str n) W (by rw [str_size]; omega))
  have HT := Lib.hid (fun W => isName_any (str t) W (by rw [str_size]; omega))
  have hmay : (E.mk wCol v t n l).may = ((v == v0 && l.isEmpty) && nameB n && (t == [] || nameB t)) := by simp only [E.may]; rw [if_neg (by decide), if_pos trivial]
  rw [hmay]
  have hte : ((str t).toList == []) = (t == []) := by rw [Lib.toList_data, str_list]
  simp only [str_list] at HN HT
  obtain ⟨a0, a1, a2, a3, a4, a5, a6⟩ := q1.cells
  obtain ⟨b0, b1, b2, b3, b4', b5, b6⟩ := t6.cells
  obtain ⟨f0, f1, f2, f3, f4, f5, f6⟩ := t6.free
  obtain ⟨g0, g1, g2, g3, g4, g5, g6⟩ := t7.free
  obtain ⟨c0, c1, c2, c3, c4, c5, c6⟩ := t7.cells
  obtain ⟨d0, d1, d2, d3, d4, d5, d6⟩ := q4.cells
  have HB := Lib.hid b4
  have HW1 := Lib.hid hW1
  have HV6 := Lib.hid hV6
  have HV7 := Lib.hid hV7
  have HW4 := Lib.hid hW4
  have HZ := Lib.hid y4
  generalize (v == v0 && l.isEmpty) = p1 at *
  have hso : str wCol = ⟨#[99, 111, 108]⟩ := rfl
  have hv0 : v0.k = 0 ∧ v0.i = 0 ∧ str v0.s = ⟨#[]⟩ := ⟨rfl, rfl, rfl⟩
  simp only [hso, hv0.1, hv0.2.1, hv0.2.2] at *
  generalize nameB n = p2 at *
  generalize nameB t = p3 at *
  generalize (t == []) = p4 at *
  clear hW1 hV6 hV7 hW4 q1 t6 t7 q4 u4 b4 hE4 hs hmay ht hn hv0
  generalize str v.s = bs at *
  generalize v.k = vk at *
  generalize v.i = vi at *
  generalize str t = bt at *
  generalize str n = bn at *
  generalize l.length = ln at *
  cases p1
  · simp only [Bool.false_and]
    clear HN HT
    go_enter Tryz.func42, Tryz.ntmps42
    go_wp2_with (first | (rw [← HW4.out]) | (rw [← HV7.out]) | (rw [← HV6.out]) | (rw [← HW1.out]))
    refine (HC.out).mono ?_
    rintro e w3 ⟨rfl, b3⟩
    have HB3 := Lib.hid (bthen HB.out b3)
    clear b3
    go_wp2_with fail
    go_ret
    exact ⟨rfl, HB3.out⟩
  · simp only [Bool.true_and]
    cases p2
    · simp only [Bool.false_and]
      go_enter Tryz.func42, Tryz.ntmps42
      go_wp2_with (first | (rw [← HW4.out]) | (rw [← HV7.out]) | (rw [← HV6.out]) | (rw [← HW1.out]))
      refine (HC.out).mono ?_
      rintro e w3 ⟨rfl, b3⟩
      have HB3 := Lib.hid (bthen HB.out b3)
      have hz := HZ.out
      replace d5 := (b3.cell (p := ⟨w.heap.size, 5, none⟩) (by show w.heap.size < _; omega)).trans d5
      clear b3 hz
      go_wp2_with fail
      refine (HN.out _).mono ?_
      rintro e w5 ⟨rfl, b5⟩
      have HB5 := Lib.hid (bthen HB3.out b5)
      clear b5 HN HT
      go_wp2_with fail
      go_ret
      exact ⟨rfl, HB5.out⟩
    · simp only [Bool.true_and]
      cases p4
      · simp only [Bool.false_or]
        go_enter Tryz.func42, Tryz.ntmps42
        go_wp2_with (first | (rw [← HW4.out]) | (rw [← HV7.out]) | (rw [← HV6.out]) | (rw [← HW1.out]))
        refine (HC.out).mono ?_
        rintro e w3 ⟨rfl, b3⟩
        have HB3 := Lib.hid (bthen HB.out b3)
        have hz := HZ.out
        have hz3 := b3.size
        replace d5 := (b3.cell (p := ⟨w.heap.size, 5, none⟩) (by show w.heap.size < _; omega)).trans d5
        replace d4 := (b3.cell (p := ⟨w.heap.size, 4, none⟩) (by show w.heap.size < _; omega)).trans d4
        clear b3
        go_wp2_with fail
        refine (HN.out _).mono ?_
        rintro e w5 ⟨rfl, b5⟩
        have HB5 := Lib.hid (bthen HB3.out b5)
        replace d4 := (b5.cell (p := ⟨w.heap.size, 4, none⟩) (by show w.heap.size < _; omega)).trans d4
        clear b5 HN hz hz3
        go_wp2_with fail
        refine (HT.out _).mono ?_
        rintro e w7 ⟨rfl, b7⟩
        have HB7 := Lib.hid (bthen HB5.out b7)
        clear b7 HT
        go_wp2_with fail
        go_ret
        exact ⟨rfl, HB7.out⟩
      · simp only [Bool.true_or]
        go_enter Tryz.func42, Tryz.ntmps42
        go_wp2_with (first | (rw [← HW4.out]) | (rw [← HV7.out]) | (rw [← HV6.out]) | (rw [← HW1.out]))
        refine (HC.out).mono ?_
        rintro e w3 ⟨rfl, b3⟩
        have HB3 := Lib.hid (bthen HB.out b3)
        have hz := HZ.out
        have hz3 := b3.size
        replace d5 := (b3.cell (p := ⟨w.heap.size, 5, none⟩) (by show w.heap.size < _; omega)).trans d5
        replace d4 := (b3.cell (p := ⟨w.heap.size, 4, none⟩) (by show w.heap.size < _; omega)).trans d4
        clear b3
        go_wp2_with fail
        refine (HN.out _).mono ?_
        rintro e w5 ⟨rfl, b5⟩
        have HB5 := Lib.hid (bthen HB3.out b5)
        replace d4 := (b5.cell (p := ⟨w.heap.size, 4, none⟩) (by show w.heap.size < _; omega)).trans d4
        clear b5 HN hz hz3 HT
        go_wp2_with fail
        go_ret
        exact ⟨rfl, HB5.out⟩
end Go.Proofs.YthohfegnphocbaaGreatDoor
namespace Go.Proofs.YthohfegnphocbaaGreatDoor
open Go.RowKit
theorem star_at (S : Nat → Prop) (w : World) : EAt S w star (.agg #[.string ⟨#[115, 116, 97, 114]⟩, .int .i64 0, .int .i64 0, .string ⟨#[]⟩, .string ⟨#[]⟩, .string ⟨#[]⟩, .slice none 0 0]) := lit_at S w wStar v0 [] []
set_option maxRecDepth 100000 in
set_option maxHeartbeats 8000000 in
theorem counts_any (o : List UInt8) (v : Vl) (t n : List UInt8) (l : List E) (x : Value) (S : Nat → Prop) (w : World) (hx : EAt S w (.mk o v t n l) x) : Calls Tryz.prog 90 #[x] w fun r w' => r = .returned (.bool (countsL n l)) ∧ Below w.heap.size w w' := by
  obtain ⟨A, c, rfl, hs⟩ := hx
  simp only [E.op, E.v, E.tb, E.nm, E.l, eVal] at *
  obtain ⟨W1, hW1, q1, z1, r1⟩ := box7 w (.string (str o)) (.int .i64 v.k) (.int .i64 v.i) (.string (str v.s)) (.string (str t)) (.string (str n)) (.slice A l.length c)
  obtain ⟨a0, a1, a2, a3, a4, a5, a6⟩ := q1.cells
  have hs1 := sub_later hs r1
  simp only [Sub] at hs1
  obtain ⟨l1, l2, l3⟩ := hs1
  have hlm : l.length ≤ 9223372036854775807 := Nat.le_trans l1 l2
  have hne : ((str n).toList == [99, 111, 117, 110, 116]) = (n == wCount) := by rw [Lib.toList_data, str_list]; rfl
  unfold countsL
  have HB := Lib.hid r1
  have HW1 := Lib.hid hW1
  generalize hq : (n == wCount) = p1 at *
  cases p1
  · simp only [Bool.false_and]
    clear hs l1 l2 l3 hW1 q1 hq r1
    generalize str o = bo at *
    generalize str n = bn at *
    generalize str t = bt at *
    generalize str v.s = bs at *
    generalize v.k = vk at *
    generalize v.i = vi at *
    generalize l.length = ln at *
    go_enter Tryz.func90, Tryz.ntmps90
    go_wp2_with (rw [← HW1.out])
    go_ret
    exact ⟨rfl, HB.out⟩
  · simp only [Bool.true_and]
    by_cases h1 : l.length = 1
    · obtain ⟨e, rfl⟩ : ∃ e, l = [e] := List.length_eq_one_iff.1 h1
      simp only [oneStar]
      obtain ⟨g, off, rfl, -, hg, hcl⟩ := l3 (by simp)
      obtain ⟨A2, c2, ⟨b0, b1, b2, b3, b4, b5, b6⟩, hs2⟩ := hcl.1
      have hE : EAt S W1 e (eVal e.op e.v e.tb e.nm (.slice A2 e.l.length c2)) := ⟨A2, c2, rfl, hs2⟩
      have HC := Lib.hid (eSame_any e star _ _ S (fun _ => False) W1 hE (star_at (fun _ => False) W1))
      unfold eVal at HC
      generalize hsm : e.same star = p2 at *
      clear hs l1 l2 l3 hW1 q1 hq r1 hcl hs2 hE hsm h1
      generalize str o = bo at *
      generalize str n = bn at *
      generalize str t = bt at *
      generalize str v.s = bs at *
      generalize v.k = vk at *
      generalize v.i = vi at *
      generalize str e.op = eo at *
      generalize str e.nm = en at *
      generalize str e.tb = et at *
      generalize str e.v.s = es at *
      generalize e.v.k = ek at *
      generalize e.v.i = ei at *
      generalize e.l.length = el at *
      simp only [List.length_singleton] at a6 HW1 ⊢
      go_enter Tryz.func90, Tryz.ntmps90
      go_wp2_with (rw [← HW1.out])
      refine (HC.out).mono ?_
      rintro r w3 ⟨rfl, b3'⟩
      go_wp2_with fail
      go_ret
      exact ⟨rfl, bthen HB.out b3'⟩
    · rw [oneStar_no h1]
      have hl1 : ((l.length : Int) == 1) = false := by simp; omega
      clear hs l1 l2 l3 hW1 q1 hq r1 h1
      generalize str o = bo at *
      generalize str n = bn at *
      generalize str t = bt at *
      generalize str v.s = bs at *
      generalize v.k = vk at *
      generalize v.i = vi at *
      generalize l.length = ln at *
      go_enter Tryz.func90, Tryz.ntmps90
      go_wp2_with (rw [← HW1.out])
      go_ret
      exact ⟨rfl, HB.out⟩
set_option maxRecDepth 100000 in
set_option maxHeartbeats 4000000 in
theorem allMay_any (l : List E) (S : Nat → Prop) (w : World) (A : Option Addr) (c : Nat) (hl : Sub S w (op1 [] l) A c)
    (ih : ∀ j (hj : j < l.length) (x : Value) (w : World), EAt S w l[j] x → Calls Tryz.prog 42 #[x] w fun r w' => r = .returned (.bool l[j].may) ∧ Below w.heap.size w w') :
    Calls Tryz.prog 91 #[.slice A l.length c] w fun r w' => r = .returned (.bool (E.mayL l)) ∧ Below w.heap.size w w' := by
  obtain ⟨l1, l2, l3⟩ := hl
  have hlm : l.length ≤ 9223372036854775807 := Nat.le_trans l1 l2
  have HI := Lib.hid ih
  have HL := Lib.hid l3
  clear l1 l2 l3 ih
  obtain ⟨ln, hln⟩ : ∃ ln, ln = l.length := ⟨_, rfl⟩
  rw [← hln] at hlm ⊢
  have HLN := Lib.hid hln
  clear hln
  generalize hsl0 : E.mayL l = sl
  have HS0 := Lib.hid hsl0
  clear hsl0
  go_enter Tryz.func91, Tryz.ntmps91
  go_wp2_with fail
  go_loopw [7] (fun iv wr => ∃ k : Nat, k ≤ ln ∧ iv = .int .i64 k ∧ Hid (Below w.heap.size w wr) ∧ Hid (sl = E.mayL (l.drop k))) (fun iv _ => ln - (intOf iv).toNat)
  case atStart => exact ⟨0, Nat.zero_le _, rfl, Below.refl _ _, by rw [List.drop_zero]; exact HS0.out.symm⟩
  case round =>
    obtain ⟨k, hk, rfl, HB, HS⟩ := hrel
    by_cases hlt : k < ln
    · have hkl : k < l.length := by have := HLN.out; omega
      obtain ⟨g, off, rfl, hS, hg, hcl⟩ := HL.out (by omega)
      obtain ⟨A1, c1, ⟨a0, a1, a2, a3, a4, a5, a6⟩, hs⟩ := hcl.get k hkl
      have hkz : (k : Int) < (ln : Int) := by omega
      have i0 := (HB.out.cell (p := ⟨g, off + k * 7, none⟩) hg).trans a0
      have i1 := (HB.out.cell (p := ⟨g, off + k * 7 + 1, none⟩) hg).trans a1
      have i2 := (HB.out.cell (p := ⟨g, off + k * 7 + 2, none⟩) hg).trans a2
      have i3 := (HB.out.cell (p := ⟨g, off + k * 7 + 3, none⟩) hg).trans a3
      have i4 := (HB.out.cell (p := ⟨g, off + k * 7 + 4, none⟩) hg).trans a4
      have i5 := (HB.out.cell (p := ⟨g, off + k * 7 + 5, none⟩) hg).trans a5
      have i6 := (HB.out.cell (p := ⟨g, off + k * 7 + 6, none⟩) hg).trans a6
      obtain ⟨W1, W, hW1, hW, p1, p2, hz, hb1, hb2⟩ := made7 wr (.string (str l[k].op)) (.int .i64 l[k].v.k) (.int .i64 l[k].v.i) (.string (str l[k].v.s)) (.string (str l[k].tb)) (.string (str l[k].nm)) (.slice A1 l[k].l.length c1)
      have HB2 := bthen HB.out hb2
      obtain ⟨p10, p11, p12, p13, p14, p15, p16⟩ := p1.cells
      obtain ⟨x10, x11, x12, x13, x14, x15, x16⟩ := p2.cells
      obtain ⟨f10, f11, f12, f13, f14, f15, f16⟩ := p1.free
      have hE : EAt S w l[k] (eVal l[k].op l[k].v l[k].tb l[k].nm (.slice A1 l[k].l.length c1)) := ⟨A1, c1, rfl, hs⟩
      have HC := Lib.hid (HI.out k hkl _ W (hE.later HB2))
      have HBV := Lib.hid HB2
      have hsl : E.mayL (l.drop k) = (l[k].may && E.mayL (l.drop (k + 1))) := by rw [List.drop_eq_getElem_cons hkl]; rfl
      have HSL := Lib.hid (HS.out.trans hsl)
      have HW1 := Lib.hid hW1
      have HW := Lib.hid hW
      unfold eVal at HC
      generalize hsm : l[k].may = sm at *
      generalize str l[k].op = bo at *
      generalize str l[k].tb = bt at *
      generalize str l[k].nm = bn at *
      generalize str l[k].v.s = bs at *
      generalize l[k].v.k = vk at *
      generalize l[k].v.i = vi at *
      generalize l[k].l.length = l7 at *
      clear hW1 hW hs hcl hE a0 a1 a2 a3 a4 a5 a6 p1 p2 hb1 hb2 HB HI HL HB2 hsl hsm HS
      cases sm
      · have hsf := HSL.out
        simp only [Bool.false_and] at hsf
        subst hsf
        clear HSL HS0
        go_wp2_with (first | (rw [← HW.out]) | (rw [← HW1.out]))
        refine (HC.out).mono ?_
        rintro e w3 ⟨rfl, b3⟩
        go_wp2_with fail
        go_ret
        exact ⟨rfl, bthen HBV.out b3⟩
      · have HSL2 : Hid (sl = E.mayL (l.drop (k + 1))) := by have := HSL.out; rwa [Bool.true_and] at this
        go_wp2_with (first | (rw [← HW.out]) | (rw [← HW1.out]))
        refine (HC.out).mono ?_
        rintro e w3 ⟨rfl, b3⟩
        go_wp2_with fail
        go_roundw
        case measure => simp [intOf]; omega
        case rel => exact ⟨k + 1, by omega, by go_num, bthen HBV.out b3, HSL2.out⟩
    · have hke : k = ln := by omega
      have hkz : ¬ (k : Int) < (ln : Int) := by omega
      subst hke
      have hs := HS.out
      rw [List.drop_of_length_le (by have := HLN.out; omega)] at hs
      have hst : sl = true := hs
      clear hs
      subst hst
      clear HI HL HS HS0
      go_wp2_with fail
      go_ret
      exact ⟨rfl, HB.out⟩
end Go.Proofs.YthohfegnphocbaaGreatDoor
