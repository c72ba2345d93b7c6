/- Contracts of slices.medianCmpFunc and medianAdjacentCmpFunc at a bound method. Condition: the places are in the row. -/
import Derived.Test.YtkmnlfbllfaieaaDoorSoOrd
namespace Go.Proofs.YtkmnlfbllfaieaaDoor
open Go.RowKit
theorem order2_in {n : Nat} (lt : Int → Int → Bool) (d : Array Int) {i j s : Nat} (hi : i < n) (hj : j < n) : (Sort.order2 lt d i j s).1 < n ∧ (Sort.order2 lt d i j s).2.1 < n ∧ (Sort.order2 lt d i j s).2.2 ≤ s + 1 := by
  unfold Sort.order2
  split
  · exact ⟨hj, hi, Nat.le_refl _⟩
  · exact ⟨hi, hj, Nat.le_succ _⟩
def MedPost (w : World) (b : Nat) (d : Array Int) (p : Nat) (r : Nat × Nat) (e : Ending) (w' : World) : Prop := e = .returned (.int .i64 r.1) ∧ SW w b d w' ∧ PBox w p r.2 w'
theorem median_eq (lt : Int → Int → Bool) (d : Array Int) (a b c s : Nat) : Sort.median lt d a b c s = ((Sort.order2 lt d (Sort.order2 lt d a b s).1 (Sort.order2 lt d (Sort.order2 lt d a b s).2.1 c (Sort.order2 lt d a b s).2.2).1 (Sort.order2 lt d (Sort.order2 lt d a b s).2.1 c (Sort.order2 lt d a b s).2.2).2.2).2.1, (Sort.order2 lt d (Sort.order2 lt d a b s).1 (Sort.order2 lt d (Sort.order2 lt d a b s).2.1 c (Sort.order2 lt d a b s).2.2).1 (Sort.order2 lt d (Sort.order2 lt d a b s).2.1 c (Sort.order2 lt d a b s).2.2).2.2).2.2) := rfl
theorem median_in {n : Nat} (lt : Int → Int → Bool) (d : Array Int) {i j k s : Nat} (hi : i < n) (hj : j < n) (hk : k < n) : (Sort.median lt d i j k s).1 < n ∧ (Sort.median lt d i j k s).2 ≤ s + 3 := by
  rw [median_eq]
  have h1 := order2_in lt d (s := s) hi hj
  have h2 := order2_in lt d (s := (Sort.order2 lt d i j s).2.2) h1.2.1 hk
  have h3 := order2_in lt d (s := (Sort.order2 lt d (Sort.order2 lt d i j s).2.1 k (Sort.order2 lt d i j s).2.2).2.2) h1.1 h2.1
  exact ⟨h3.2.1, by show _ ≤ _; omega⟩
set_option maxRecDepth 100000 in
set_option maxHeartbeats 2000000 in
theorem median_any (w : World) (b c n : Nat) (P : Int → Prop) (cf : Int → Int → Int) (rv : Value) (hc : CmpOf w b P cf rv) (hbw : b < w.heap.size) (d : Array Int) (W : World) (hn : d.size = n) (hm : n ≤ 140737488355328) (h : SW w b d W) (hP : ∀ j, j < n → P d[j]!) (i j k : Nat) (hi : i < n) (hj : j < n) (hk : k < n) (p s : Nat) (hp : PBox w p s W) (hs : s ≤ 90) :
    Calls Tryd.prog 75 #[.slice (some ⟨b, 0, none⟩) n c, .int .i64 i, .int .i64 j, .int .i64 k, .pointer (some ⟨p, 0, none⟩), .func (.func 37) #[rv] #[]] W (MedPost w b d p (Sort.median (ltOf cf) d i j k s)) := by
  have HO := Lib.hid (fun W h i j hi hj s hp hs => order2_any w b c n P cf rv hc hbw d W hn hm h hP i j hi hj p s hp hs)
  have e := median_eq (ltOf cf) d i j k s
  obtain ⟨a1, a2, a3⟩ := order2_in (ltOf cf) d (s := s) hi hj
  obtain ⟨c1, c2, c3⟩ := order2_in (ltOf cf) d (s := (Sort.order2 (ltOf cf) d i j s).2.2) a2 hk
  have H1 := Lib.hid (HO.out W h i j hi hj s hp (by omega))
  have H2 := Lib.hid (fun W h hp => HO.out W h (Sort.order2 (ltOf cf) d i j s).2.1 k a2 hk (Sort.order2 (ltOf cf) d i j s).2.2 hp (by omega))
  have H3 := Lib.hid (fun W h hp => HO.out W h (Sort.order2 (ltOf cf) d i j s).1 (Sort.order2 (ltOf cf) d (Sort.order2 (ltOf cf) d i j s).2.1 k (Sort.order2 (ltOf cf) d i j s).2.2).1 a1 c1 (Sort.order2 (ltOf cf) d (Sort.order2 (ltOf cf) d i j s).2.1 k (Sort.order2 (ltOf cf) d i j s).2.2).2.2 hp (by omega))
  rw [e]
  clear e a1 a2 a3 c1 c2 c3 HO hc h hP hp
  generalize Sort.order2 (ltOf cf) d i j s = r1 at *
  generalize Sort.order2 (ltOf cf) d r1.2.1 k r1.2.2 = r2 at *
  generalize Sort.order2 (ltOf cf) d r1.1 r2.1 r2.2.2 = r3 at *
  go_enter Tryd.func75, Tryd.ntmps75
  go_wp2_with fail
  refine H1.out.mono ?_
  rintro e w1 ⟨rfl, h1, p1⟩
  have HA := Lib.hid h1
  have HB := Lib.hid p1
  clear h1 p1
  go_wp2_with fail
  refine (H2.out _ HA.out HB.out).mono ?_
  rintro e w2 ⟨rfl, h1, p1⟩
  have HA := Lib.hid h1
  have HB := Lib.hid p1
  clear h1 p1
  go_wp2_with fail
  refine (H3.out _ HA.out HB.out).mono ?_
  rintro e w3 ⟨rfl, h1, p1⟩
  have HA := Lib.hid h1
  have HB := Lib.hid p1
  clear h1 p1
  go_wp2_with fail
  go_ret
  exact ⟨rfl, HA.out, HB.out⟩
set_option maxRecDepth 100000 in
set_option maxHeartbeats 2000000 in
theorem medianAdj_any (w : World) (b c n : Nat) (P : Int → Prop) (cf : Int → Int → Int) (rv : Value) (hc : CmpOf w b P cf rv) (hbw : b < w.heap.size) (d : Array Int) (W : World) (hn : d.size = n) (hm : n ≤ 140737488355328) (h : SW w b d W) (hP : ∀ j, j < n → P d[j]!) (i : Nat) (h1 : 1 ≤ i) (hi : i + 1 < n) (p s : Nat) (hp : PBox w p s W) (hs : s ≤ 90) :
    Calls Tryd.prog 74 #[.slice (some ⟨b, 0, none⟩) n c, .int .i64 i, .pointer (some ⟨p, 0, none⟩), .func (.func 37) #[rv] #[]] W (MedPost w b d p (Sort.medianAdjacent (ltOf cf) d i s)) := by
  have HM := Lib.hid (median_any w b c n P cf rv hc hbw d W hn hm h hP (i - 1) i (i + 1) (by omega) (by omega) (by omega) p s hp hs)
  have e1 : ((i - 1 : Nat) : Int) = (i : Int) - 1 := by omega
  have e2 : ((i + 1 : Nat) : Int) = (i : Int) + 1 := by omega
  rw [e1, e2] at HM
  unfold Sort.medianAdjacent
  generalize Sort.median (ltOf cf) d (i - 1) i (i + 1) s = r at *
  clear e1 e2 hc h hP hp
  go_enter Tryd.func74, Tryd.ntmps74
  go_wp2_with fail
  refine HM.out.mono ?_
  rintro e w1 ⟨rfl, h1, p1⟩
  have HA := Lib.hid h1
  have HB := Lib.hid p1
  clear h1 p1
  go_wp2_with fail
  go_ret
  exact ⟨rfl, HA.out, HB.out⟩
end Go.Proofs.YtkmnlfbllfaieaaDoor
