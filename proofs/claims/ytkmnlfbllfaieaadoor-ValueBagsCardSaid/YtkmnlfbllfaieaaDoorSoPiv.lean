/- Contract of slices.choosePivotCmpFunc at a bound method. Condition: the range is in the row. Written by gen/genpiv.py. -/
import Derived.Test.YtkmnlfbllfaieaaDoorSoMed
namespace Go.Proofs.YtkmnlfbllfaieaaDoor
open Go.RowKit Go.Sort
def hintInt : Sort.Hint → Int
  | .unknown => 0
  | .increasing => 1
  | .decreasing => 2
theorem medianAdj_in {n : Nat} (lt : Int → Int → Bool) (d : Array Int) {i s : Nat} (h1 : 1 ≤ i) (hi : i + 1 < n) : (Sort.medianAdjacent lt d i s).1 < n ∧ (Sort.medianAdjacent lt d i s).2 ≤ s + 3 :=
  median_in lt d (by omega) (by omega) (by omega)
def hintOf (s : Nat) : Sort.Hint := if s = 0 then .increasing else if s = 12 then .decreasing else .unknown
theorem hint_one : hintInt (hintOf 0) = 1 := rfl
theorem hint_two : hintInt (hintOf 12) = 2 := rfl
theorem hint_none {s : Nat} (h0 : s ≠ 0) (h1 : s ≠ 12) : hintInt (hintOf s) = 0 := by
  unfold hintOf
  rw [if_neg h0, if_neg h1]
  rfl
theorem pivot_long (lt : Int → Int → Bool) (d : Array Int) {lo hi l4 : Nat} (hl : (hi - lo) / 4 = l4) (h : 50 ≤ hi - lo) : Sort.choosePivot lt d lo hi = ((Sort.median lt d (Sort.medianAdjacent lt d (lo + l4) 0).1 (Sort.medianAdjacent lt d (lo + l4 * 2) (Sort.medianAdjacent lt d (lo + l4) 0).2).1 (Sort.medianAdjacent lt d (lo + l4 * 3) (Sort.medianAdjacent lt d (lo + l4 * 2) (Sort.medianAdjacent lt d (lo + l4) 0).2).2).1 (Sort.medianAdjacent lt d (lo + l4 * 3) (Sort.medianAdjacent lt d (lo + l4 * 2) (Sort.medianAdjacent lt d (lo + l4) 0).2).2).2).1, hintOf (Sort.median lt d (Sort.medianAdjacent lt d (lo + l4) 0).1 (Sort.medianAdjacent lt d (lo + l4 * 2) (Sort.medianAdjacent lt d (lo + l4) 0).2).1 (Sort.medianAdjacent lt d (lo + l4 * 3) (Sort.medianAdjacent lt d (lo + l4 * 2) (Sort.medianAdjacent lt d (lo + l4) 0).2).2).1 (Sort.medianAdjacent lt d (lo + l4 * 3) (Sort.medianAdjacent lt d (lo + l4 * 2) (Sort.medianAdjacent lt d (lo + l4) 0).2).2).2).2) := by
  unfold Sort.choosePivot hintOf
  simp only [hl, Nat.mul_one]
  rw [if_pos (show hi - lo ≥ 8 by omega), if_pos (show hi - lo ≥ 50 by omega)]
theorem pivot_mid (lt : Int → Int → Bool) (d : Array Int) {lo hi l4 : Nat} (hl : (hi - lo) / 4 = l4) (h : 8 ≤ hi - lo) (h' : ¬ 50 ≤ hi - lo) : Sort.choosePivot lt d lo hi = ((Sort.median lt d (lo + l4) (lo + l4 * 2) (lo + l4 * 3) 0).1, hintOf (Sort.median lt d (lo + l4) (lo + l4 * 2) (lo + l4 * 3) 0).2) := by
  unfold Sort.choosePivot hintOf
  simp only [hl, Nat.mul_one]
  rw [if_pos (show hi - lo ≥ 8 by omega), if_neg (show ¬ hi - lo ≥ 50 by omega)]
theorem pivot_short (lt : Int → Int → Bool) (d : Array Int) {lo hi l4 : Nat} (hl : (hi - lo) / 4 = l4) (h : ¬ 8 ≤ hi - lo) : Sort.choosePivot lt d lo hi = (lo + l4 * 2, hintOf 0) := by
  unfold Sort.choosePivot hintOf
  simp only [hl, Nat.mul_one]
  rw [if_neg (show ¬ hi - lo ≥ 8 by omega)]
  simp
set_option maxRecDepth 100000 in
set_option maxHeartbeats 8000000 in
theorem pivot_any (w : World) (b c n : Nat) (P : Int → Prop) (cf : Int → Int → Int) (rv : Value) (hc : CmpOf w b P cf rv) (hbw : b < w.heap.size) (d : Array Int) (W : World) (hn : d.size = n) (hm : n ≤ 140737488355328) (h : SW w b d W) (hP : ∀ j, j < n → P d[j]!) (lo hi : Nat) (hlo : lo < hi) (hhi : hi ≤ n) :
    Calls Tryd.prog 58 #[.slice (some ⟨b, 0, none⟩) n c, .int .i64 lo, .int .i64 hi, .func (.func 37) #[rv] #[]] W fun e w' => e = .returned (.tuple #[.int .i64 (Sort.choosePivot (ltOf cf) d lo hi).1, .int .i64 (hintInt (Sort.choosePivot (ltOf cf) d lo hi).2)]) ∧ SW w b d w' := by
  have HM := Lib.hid (fun W h i j k hi hj hk p s hp hs => median_any w b c n P cf rv hc hbw d W hn hm h hP i j k hi hj hk p s hp hs)
  have HA := Lib.hid (fun W h i h1 hi p s hp hs => medianAdj_any w b c n P cf rv hc hbw d W hn hm h hP i h1 hi p s hp hs)
  have S := Lib.hid h
  have e4 : ((hi : Int) - (lo : Int)).tdiv 4 = (((hi - lo) / 4 : Nat) : Int) := by
    rw [show (hi : Int) - (lo : Int) = ((hi - lo : Nat) : Int) by omega, Int.tdiv_eq_ediv_of_nonneg (by omega)]; omega
  have hl4 : 4 * ((hi - lo) / 4) ≤ hi - lo := by omega
  have hl5 : 8 ≤ hi - lo → 2 ≤ (hi - lo) / 4 := by omega
  have S1 := Lib.hid (S.out.alloc (.cells #[.int .i64 0] 3 (0, 0)))
  have B1 := Lib.hid (show PBox w W.heap.size 0 (W.alloc (.cells #[.int .i64 0] 3 (0, 0))) from ⟨S.out.size, Array.getElem?_push_size⟩)
  have L1 := Lib.hid (pivot_long (ltOf cf) d (lo := lo) (hi := hi) rfl)
  have L2 := Lib.hid (pivot_mid (ltOf cf) d (lo := lo) (hi := hi) rfl)
  have L3 := Lib.hid (pivot_short (ltOf cf) d (lo := lo) (hi := hi) rfl)
  clear h hc hP S
  generalize (hi - lo) / 4 = l4 at *
  have z1 : IntKind.i64.wrap ((lo : Int) + (l4 : Int)) = (lo : Int) + (l4 : Int) := by rw [IntKind.wrap_i64]; omega
  have z2 : IntKind.i64.wrap ((lo : Int) + (l4 : Int) * 2) = (lo : Int) + (l4 : Int) * 2 := by rw [IntKind.wrap_i64]; omega
  have z3 : IntKind.i64.wrap ((lo : Int) + (l4 : Int) * 3) = (lo : Int) + (l4 : Int) * 3 := by rw [IntKind.wrap_i64]; omega
  by_cases h8 : 8 ≤ hi - lo
  · have h8z : (8 : Int) ≤ (hi : Int) - (lo : Int) := by omega
    have hl6 := hl5 h8
    by_cases h50 : 50 ≤ hi - lo
    · have h50z : (50 : Int) ≤ (hi : Int) - (lo : Int) := by omega
      rw [L1.out h50]
      have p1 := medianAdj_in (ltOf cf) d (i := lo + l4) (s := 0) (n := n) (by omega) (by omega)
      have p2 := medianAdj_in (ltOf cf) d (i := lo + l4 * 2) (s := (Sort.medianAdjacent (ltOf cf) d (lo + l4) 0).2) (n := n) (by omega) (by omega)
      have p3 := medianAdj_in (ltOf cf) d (i := lo + l4 * 3) (s := (Sort.medianAdjacent (ltOf cf) d (lo + l4 * 2) (Sort.medianAdjacent (ltOf cf) d (lo + l4) 0).2).2) (n := n) (by omega) (by omega)
      have C1 := Lib.hid (fun W h p hp => HA.out W h (lo + l4) (by omega) (by omega) p 0 hp (by omega))
      have C2 := Lib.hid (fun W h p hp => HA.out W h (lo + l4 * 2) (by omega) (by omega) p (Sort.medianAdjacent (ltOf cf) d (lo + l4) 0).2 hp (by omega))
      have C3 := Lib.hid (fun W h p hp => HA.out W h (lo + l4 * 3) (by omega) (by omega) p (Sort.medianAdjacent (ltOf cf) d (lo + l4 * 2) (Sort.medianAdjacent (ltOf cf) d (lo + l4) 0).2).2 hp (by omega))
      generalize Sort.medianAdjacent (ltOf cf) d (lo + l4) 0 = r1 at *
      generalize Sort.medianAdjacent (ltOf cf) d (lo + l4 * 2) r1.2 = r2 at *
      generalize Sort.medianAdjacent (ltOf cf) d (lo + l4 * 3) r2.2 = r3 at *
      have C4 := Lib.hid (fun W h p hp => HM.out W h r1.1 r2.1 r3.1 p1.1 p2.1 p3.1 p r3.2 hp (by omega))
      generalize Sort.median (ltOf cf) d r1.1 r2.1 r3.1 r3.2 = r4 at *
      clear L1 L2 L3 HM HA p1 p2 p3
      push_cast at C1 C2 C3
      generalize hz : hintInt (hintOf r4.2) = z at *
      have HZ := Lib.hid hz
      clear hz
      go_enter Tryd.func58, Tryd.ntmps58
      go_wp2_with fail
      refine (C1.out _ S1.out _ B1.out).mono ?_
      rintro e w1 ⟨rfl, h1, p1⟩
      clear S1 B1 C1
      have S1 := Lib.hid h1
      have B1 := Lib.hid p1
      clear h1 p1
      go_wp2_with fail
      refine (C2.out _ S1.out _ B1.out).mono ?_
      rintro e w2 ⟨rfl, h1, p1⟩
      clear S1 B1 C2
      have S1 := Lib.hid h1
      have B1 := Lib.hid p1
      clear h1 p1
      go_wp2_with fail
      refine (C3.out _ S1.out _ B1.out).mono ?_
      rintro e w3 ⟨rfl, h1, p1⟩
      clear S1 B1 C3
      have S1 := Lib.hid h1
      have B1 := Lib.hid p1
      clear h1 p1
      go_wp2_with fail
      refine (C4.out _ S1.out _ B1.out).mono ?_
      rintro e w4 ⟨rfl, h1, p1⟩
      clear S1 B1 C4
      have S1 := Lib.hid h1
      have B1 := Lib.hid p1
      clear h1 p1
      obtain ⟨q0, q1⟩ := B1.out.cell
      by_cases c0 : r4.2 = 0
      · skip
        rw [show ((r4.2 : Nat) : Int) = 0 by omega] at q0
        go_wp2_with fail
        go_ret2
        exact ⟨by rw [← HZ.out, c0, hint_one]; rfl, S1.out⟩
      · by_cases c1 : r4.2 = 12
        · skip
          rw [show ((r4.2 : Nat) : Int) = 12 by omega] at q0
          go_wp2_with fail
          go_ret2
          exact ⟨by rw [← HZ.out, c1, hint_two]; rfl, S1.out⟩
        · have y0 : ¬ ((r4.2 : Nat) : Int) = 0 := by omega
          have y1 : ¬ ((r4.2 : Nat) : Int) = 12 := by omega
          go_wp2_with fail
          go_ret2
          exact ⟨by rw [← HZ.out, hint_none c0 c1]; rfl, S1.out⟩
    · have h50z : ¬ (50 : Int) ≤ (hi : Int) - (lo : Int) := by omega
      rw [L2.out h8 h50]
      have C1 := Lib.hid (fun W h p hp => HM.out W h (lo + l4) (lo + l4 * 2) (lo + l4 * 3) (by omega) (by omega) (by omega) p 0 hp (by omega))
      generalize Sort.median (ltOf cf) d (lo + l4) (lo + l4 * 2) (lo + l4 * 3) 0 = r4 at *
      clear L1 L2 L3 HM HA
      push_cast at C1
      generalize hz : hintInt (hintOf r4.2) = z at *
      have HZ := Lib.hid hz
      clear hz
      go_enter Tryd.func58, Tryd.ntmps58
      go_wp2_with fail
      refine (C1.out _ S1.out _ B1.out).mono ?_
      rintro e w1 ⟨rfl, h1, p1⟩
      clear S1 B1 C1
      have S1 := Lib.hid h1
      have B1 := Lib.hid p1
      clear h1 p1
      obtain ⟨q0, q1⟩ := B1.out.cell
      by_cases c0 : r4.2 = 0
      · skip
        rw [show ((r4.2 : Nat) : Int) = 0 by omega] at q0
        go_wp2_with fail
        go_ret2
        exact ⟨by rw [← HZ.out, c0, hint_one]; rfl, S1.out⟩
      · by_cases c1 : r4.2 = 12
        · skip
          rw [show ((r4.2 : Nat) : Int) = 12 by omega] at q0
          go_wp2_with fail
          go_ret2
          exact ⟨by rw [← HZ.out, c1, hint_two]; rfl, S1.out⟩
        · have y0 : ¬ ((r4.2 : Nat) : Int) = 0 := by omega
          have y1 : ¬ ((r4.2 : Nat) : Int) = 12 := by omega
          go_wp2_with fail
          go_ret2
          exact ⟨by rw [← HZ.out, hint_none c0 c1]; rfl, S1.out⟩
  · have h8z : ¬ (8 : Int) ≤ (hi : Int) - (lo : Int) := by omega
    rw [L3.out h8, hint_one]
    obtain ⟨q0, q1⟩ := B1.out.cell
    clear L1 L2 L3 HM HA
    go_enter Tryd.func58, Tryd.ntmps58
    go_wp2_with fail
    go_ret2
    exact ⟨by simp, S1.out⟩
end Go.Proofs.YtkmnlfbllfaieaaDoor
