/- Contract of slices.breakPatternsCmpFunc. Condition: the range is in the row. Written by gen/genbreak.py. -/
import Derived.Test.YtkmnlfbllfaieaaDoorSoXor
namespace Go.Proofs.YtkmnlfbllfaieaaDoor
open Go.RowKit Go.Sort
/-- A cell of the call's own that holds the generator's number. -/
def RBox (w : World) (p : Nat) (x : Nat) (W : World) : Prop := w.heap.size ≤ p ∧ W.heap[p]? = some (.cells #[.int .u64 x] 101 (0, 0))
theorem RBox.cell {w W : World} {p x : Nat} (h : RBox w p x W) : W.cell? ⟨p, 0, none⟩ = some (.int .u64 x) ∧ W.frozen? ⟨p, 0, none⟩ = false := ⟨by rw [Lib.cell_of_heap h.2]; rfl, Lib.frozen_of_heap h.2 0⟩
theorem RBox.set {w W : World} {p x y : Nat} (h : RBox w p x W) : RBox w p y (W.setCell ⟨p, 0, none⟩ (.int .u64 y)) := by
  refine ⟨h.1, ?_⟩
  rw [Lib.heap_setCell_same h.2 _]
  rfl
theorem RBox.other {w W : World} {p x k j : Nat} {v : Value} (h : RBox w p x W) (hk : p ≠ k) : RBox w p x (W.setCell ⟨k, j, none⟩ v) := ⟨h.1, (Below.heap_setCell W _ _ p (by show p ≠ k; exact hk)).trans h.2⟩
/-- Which place a number leads to. -/
def off8 (L M x : Nat) : Nat := if x &&& (M - 1) ≥ L then (x &&& (M - 1)) - L else x &&& (M - 1)
theorem off8_lt {L x : Nat} (h : 0 < L) : off8 L (1 <<< bitsLen L) x < L := by
  unfold off8
  have h1 : 1 <<< bitsLen L ≤ 2 * L := by rw [Nat.one_shiftLeft]; exact two_pow_bitsLen_le h
  have h2 : x &&& (1 <<< bitsLen L - 1) ≤ 1 <<< bitsLen L - 1 := Nat.and_le_right
  split <;> omega
set_option maxRecDepth 100000 in
set_option maxHeartbeats 8000000 in
theorem break_any (w : World) (b c n : Nat) (P : Int → Prop) (cbv : Value) (d : Array Int) (W : World) (hn : d.size = n) (hm : n ≤ 140737488355328) (h : SW w b d W) (hP : ∀ j, j < n → P d[j]!) (hb : b < w.heap.size) (lo L : Nat) (hhi : lo + L ≤ n) (hi : Int) (hhi2 : hi = (lo : Int) + (L : Int)) :
    Calls Tryd.prog 57 #[.slice (some ⟨b, 0, none⟩) n c, .int .i64 lo, .int .i64 hi, cbv] W fun e w' => e = .returned (.tuple #[]) ∧ SW w b (Sort.breakPatterns d lo (lo + L)) w' ∧ Kept P n (Sort.breakPatterns d lo (lo + L)) := by
  have S := Lib.hid h
  have HP := Lib.hid hP
  have eL : hi - (lo : Int) = (L : Int) := by omega
  clear h hP hhi2
  by_cases h8 : 8 ≤ L
  · have h8z : (8 : Int) ≤ (L : Int) := by omega
    have HB := Lib.hid (breakPatterns_eq d lo L h8)
    have HN := Lib.hid (fun w => npow_any L (by omega) w)
    have hM1 : 1 <<< bitsLen L ≤ 2 * L := by rw [Nat.one_shiftLeft]; exact two_pow_bitsLen_le (by omega)
    have hM0 : 0 < 1 <<< bitsLen L := by rw [Nat.one_shiftLeft]; exact Nat.two_pow_pos _
    have HO := Lib.hid (fun x => off8_lt (L := L) (x := x) (by omega))
    obtain ⟨i0, hi0⟩ : ∃ i0, i0 = lo + L / 4 * 2 - 1 := ⟨_, rfl⟩
    have e0 : (lo : Int) + (L : Int) / 4 * 2 - 1 = (i0 : Int) := by omega
    have hr0 : (UInt64.ofNat L).toNat = L := by rw [UInt64.toNat_ofNat']; omega
    have hwr : IntKind.u64.wrap (L : Int) = (L : Int) := by rw [IntKind.wrap_u64]; omega
    have ha1 : lo ≤ i0 := by omega
    have ha2 : i0 + 2 < lo + L := by omega
    have hL2 : (lo : Int) + (L : Int) / 4 * 2 + 1 = (i0 : Int) + 2 := by omega
    rw [← hi0] at HB
    clear hi0
    generalize 1 <<< bitsLen L = M at *
    have R0 : Hid (RBox w W.heap.size L (W.alloc (.cells #[.int .u64 L] 101))) := ⟨S.out.size, heap_alloc_new W _⟩
    have S0 : Hid (SW w b d (W.alloc (.cells #[.int .u64 L] 101))) := S.out.alloc _
    obtain ⟨p, hp⟩ : ∃ p, p = W.heap.size := ⟨_, rfl⟩
    rw [← hp] at R0
    clear S
    go_enter Tryd.func57, Tryd.ntmps57
    go_wp2_with fail
    refine (HN.out _).mono ?_
    rintro e w1 ⟨rfl, rfl⟩
    rw [← hp]
    clear hp
    generalize W.alloc (.cells #[.int .u64 L] 101) = W1 at *
    go_wp2_with fail
    go_loopg [11] 3 (fun kg s11 wr => ∃ (t ix : Nat) (r : UInt64) (dk : Array Int), s11 = .int .i64 ix ∧ t + kg = 3 ∧ Hid (ix = i0 + t) ∧ dk.size = n ∧ Hid (∀ j, j < n → P dk[j]!) ∧ Hid (SW w b dk wr) ∧ Hid (RBox w p r.toNat wr) ∧ Hid (bpRest lo L M i0 (3 - t) t (r, dk) = Sort.breakPatterns d lo (lo + L)))
    case atStart => exact ⟨0, i0, UInt64.ofNat L, d, rfl, rfl, rfl, hn, HP, S0, by rw [hr0]; exact R0, HB.out.symm⟩
    case round =>
      clear S0 R0 HB hr0 HP e0 hwr
      obtain ⟨t, ix, r, dk, rfl, htk, HX, hds, HP, S, R, HE⟩ := hrel
      have hx1 : i0 ≤ ix := by rw [HX.out]; omega
      cases gk with
      | zero =>
        have hx2 : ¬ ((ix : Int) ≤ (i0 : Int) + 2) := by have := HX.out; omega
        go_wp2_with fail
        go_end0
        obtain rfl : t = 3 := by omega
        rw [← HE.out]
        exact ⟨rfl, S.out, hds, HP.out⟩
      | succ gg =>
        have ht3 : t < 3 := by omega
        have hx3 : ix ≤ i0 + 2 := by have := HX.out; omega
        have hx2 : (ix : Int) ≤ (i0 : Int) + 2 := by omega
        obtain ⟨rc, rf⟩ := R.out.cell
        have HNX := Lib.hid (next_any p r.toNat (UInt64.toNat_lt r) wr rc rf)
        rw [← xorNext_toNat] at HNX
        have HST := Lib.hid (fun o ho => bp_step lo L M i0 t r dk o ht3 ho)
        obtain ⟨qa, hq⟩ : ∃ qa, qa = (xorNext r).toNat &&& (M - 1) := ⟨_, rfl⟩
        have hqM : qa ≤ M - 1 := by rw [hq]; exact Nat.and_le_right
        have eAnd : bits .and .u64 ((xorNext r).toNat : Int) ((M : Int) - 1) = (qa : Int) := by
          rw [show (M : Int) - 1 = ((M - 1 : Nat) : Int) by omega, bits_and_u64_nat _ _ (UInt64.toNat_lt _) (by omega), hq]
        have eM : IntKind.u64.wrap ((M : Int) - 1) = (M : Int) - 1 := by rw [IntKind.wrap_u64]; omega
        have eq1 : IntKind.i64.wrap (qa : Int) = (qa : Int) := by rw [IntKind.wrap_i64]; omega
        rw [← hq] at HST
        have hol := HO.out (xorNext r).toNat
        unfold off8 at hol
        rw [← hq] at hol
        have hpb : p ≠ b := by have := R.out.1; omega
        clear hq rc rf
        obtain ⟨xq, hxq⟩ : ∃ xq, xq = xorNext r := ⟨_, rfl⟩
        rw [← hxq] at HNX HST eAnd
        clear hxq
        by_cases hqL : qa ≥ L
        · obtain ⟨o, ho⟩ : ∃ o, o = qa - L := ⟨_, rfl⟩
          have hqz : (L : Int) ≤ (qa : Int) := by omega
          have eo : (qa : Int) - (L : Int) = (o : Int) := by omega
          rw [if_pos hqL, ← ho] at hol
          have HS2 := Lib.hid (HST.out o (by rw [if_pos hqL, ho]))
          clear ho
          clear HST hqL
          go_wp2_with fail
          refine HNX.out.mono ?_
          rintro e w2 ⟨rfl, hw⟩
          have S2 : Hid (SW w b dk w2) := by rw [hw]; exact (S.out.setOut hb (by have := R.out.1; omega) _).drew.drew.drew
          have R2 : Hid (RBox w p xq.toNat w2) := by rw [hw]; exact R.out.set
          clear hw S R HNX
          have S := S2
          clear S2
          obtain ⟨i1, hi1⟩ : ∃ q, q = ix := ⟨_, rfl⟩
          have ei1 : ((ix : Int)).toNat = i1 := by omega
          have pi1 : (0 : Int) ≤ (ix : Int) := by omega
          have bi1 : (ix : Int) < (n : Int) := by omega
          have ri1 : IntKind.i64.wrap ((ix : Int)) = (ix : Int) := by rw [IntKind.wrap_i64]; omega
          obtain ⟨j1, hj1⟩ : ∃ q, q = lo + o := ⟨_, rfl⟩
          have ej1 : ((lo : Int) + (o : Int)).toNat = j1 := by omega
          have pj1 : (0 : Int) ≤ (lo : Int) + (o : Int) := by omega
          have bj1 : (lo : Int) + (o : Int) < (n : Int) := by omega
          have rj1 : IntKind.i64.wrap ((lo : Int) + (o : Int)) = (lo : Int) + (o : Int) := by rw [IntKind.wrap_i64]; omega
          obtain ⟨x1, hx1⟩ : ∃ x, x = dk[ix]! := ⟨_, rfl⟩
          obtain ⟨y1, hy1⟩ : ∃ x, x = dk[lo + o]! := ⟨_, rfl⟩
          have T1 : Hid (SW w b (Sort.swp dk (ix) (lo + o)) (World.setCell (World.setCell w2 ⟨b, i1, none⟩ (.int .i64 y1)) ⟨b, j1, none⟩ (.int .i64 x1)).drew) := by rw [hi1, hj1, hx1, hy1]; exact (S.out.swp (ix) (lo + o)).drew
          have RT : Hid (RBox w p xq.toNat (World.setCell (World.setCell w2 ⟨b, i1, none⟩ (.int .i64 y1)) ⟨b, j1, none⟩ (.int .i64 x1)).drew) := ((R2.out.other hpb).other hpb)
          have c1a := S.out.cell (ix) (by omega)
          have c1b := S.out.cell (lo + o) (by omega)
          have f1a := S.out.free (ix)
          have f1b := S.out.free (lo + o)
          obtain ⟨u1, c1c⟩ := S.out.cell2 (ix) (lo + o) (by omega) y1
          rw [← hj1, ← hi1] at c1c
          rw [← hx1, ← hi1] at c1a
          rw [← hy1, ← hj1] at c1b
          rw [← hi1] at f1a
          rw [← hj1] at f1b
          clear S hx1 hy1 hi1 hj1
          go_wp2_with fail
          go_big_region
          clear c1a c1b c1c f1a f1b
          generalize (World.setCell (World.setCell w2 ⟨b, i1, none⟩ (.int .i64 y1)) ⟨b, j1, none⟩ (.int .i64 x1)).drew = V1 at T1 RT ⊢
          clear ei1 ej1
          have S := T1
          clear T1
          go_wp2_with fail
          go_roundg gg
          case measure => omega
          case rel => exact ⟨t + 1, ix + 1, xq, Sort.swp dk ix (lo + o), by go_num, by omega, (show Hid _ from (by have e := HX.out; show _ = _; omega)), by rw [size_swp]; exact hds, swpIn hds HP.out (by omega) (by omega), S, RT, (show Hid _ from (by have e1 := HE.out; have e2 := HS2.out; show _ = _; rw [← e1, e2, ← HX.out]))⟩
        · obtain ⟨o, ho⟩ : ∃ o, o = qa := ⟨_, rfl⟩
          have hqz : ¬ ((L : Int) ≤ (qa : Int)) := by omega
          rw [if_neg hqL] at hol
          have HS2 := Lib.hid (HST.out o (by rw [if_neg hqL, ho]))
          subst ho
          clear HST hqL
          go_wp2_with fail
          refine HNX.out.mono ?_
          rintro e w2 ⟨rfl, hw⟩
          have S2 : Hid (SW w b dk w2) := by rw [hw]; exact (S.out.setOut hb (by have := R.out.1; omega) _).drew.drew.drew
          have R2 : Hid (RBox w p xq.toNat w2) := by rw [hw]; exact R.out.set
          clear hw S R HNX
          have S := S2
          clear S2
          obtain ⟨i2, hi2⟩ : ∃ q, q = ix := ⟨_, rfl⟩
          have ei2 : ((ix : Int)).toNat = i2 := by omega
          have pi2 : (0 : Int) ≤ (ix : Int) := by omega
          have bi2 : (ix : Int) < (n : Int) := by omega
          have ri2 : IntKind.i64.wrap ((ix : Int)) = (ix : Int) := by rw [IntKind.wrap_i64]; omega
          obtain ⟨j2, hj2⟩ : ∃ q, q = lo + o := ⟨_, rfl⟩
          have ej2 : ((lo : Int) + (o : Int)).toNat = j2 := by omega
          have pj2 : (0 : Int) ≤ (lo : Int) + (o : Int) := by omega
          have bj2 : (lo : Int) + (o : Int) < (n : Int) := by omega
          have rj2 : IntKind.i64.wrap ((lo : Int) + (o : Int)) = (lo : Int) + (o : Int) := by rw [IntKind.wrap_i64]; omega
          obtain ⟨x2, hx2⟩ : ∃ x, x = dk[ix]! := ⟨_, rfl⟩
          obtain ⟨y2, hy2⟩ : ∃ x, x = dk[lo + o]! := ⟨_, rfl⟩
          have T2 : Hid (SW w b (Sort.swp dk (ix) (lo + o)) (World.setCell (World.setCell w2 ⟨b, i2, none⟩ (.int .i64 y2)) ⟨b, j2, none⟩ (.int .i64 x2)).drew) := by rw [hi2, hj2, hx2, hy2]; exact (S.out.swp (ix) (lo + o)).drew
          have RT : Hid (RBox w p xq.toNat (World.setCell (World.setCell w2 ⟨b, i2, none⟩ (.int .i64 y2)) ⟨b, j2, none⟩ (.int .i64 x2)).drew) := ((R2.out.other hpb).other hpb)
          have c2a := S.out.cell (ix) (by omega)
          have c2b := S.out.cell (lo + o) (by omega)
          have f2a := S.out.free (ix)
          have f2b := S.out.free (lo + o)
          obtain ⟨u2, c2c⟩ := S.out.cell2 (ix) (lo + o) (by omega) y2
          rw [← hj2, ← hi2] at c2c
          rw [← hx2, ← hi2] at c2a
          rw [← hy2, ← hj2] at c2b
          rw [← hi2] at f2a
          rw [← hj2] at f2b
          clear S hx2 hy2 hi2 hj2
          go_wp2_with fail
          go_big_region
          clear c2a c2b c2c f2a f2b
          generalize (World.setCell (World.setCell w2 ⟨b, i2, none⟩ (.int .i64 y2)) ⟨b, j2, none⟩ (.int .i64 x2)).drew = V2 at T2 RT ⊢
          clear ei2 ej2
          have S := T2
          clear T2
          go_wp2_with fail
          go_roundg gg
          case measure => omega
          case rel => exact ⟨t + 1, ix + 1, xq, Sort.swp dk ix (lo + o), by go_num, by omega, (show Hid _ from (by have e := HX.out; show _ = _; omega)), by rw [size_swp]; exact hds, swpIn hds HP.out (by omega) (by omega), S, RT, (show Hid _ from (by have e1 := HE.out; have e2 := HS2.out; show _ = _; rw [← e1, e2, ← HX.out]))⟩
  · have h8z : ¬ ((8 : Int) ≤ (L : Int)) := by omega
    have HB : Hid (Sort.breakPatterns d lo (lo + L) = d) := by
      show _ = _
      unfold Sort.breakPatterns
      simp only [Nat.add_sub_cancel_left]
      rw [if_neg (by omega)]
    go_enter Tryd.func57, Tryd.ntmps57
    go_wp2_with fail
    go_end0
    rw [HB.out]
    exact ⟨rfl, S.out, hn, HP.out⟩
end Go.Proofs.YtkmnlfbllfaieaaDoor
