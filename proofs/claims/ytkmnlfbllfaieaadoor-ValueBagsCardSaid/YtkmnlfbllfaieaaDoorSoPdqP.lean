/- Plain facts on one round of the sort: what it leaves, of whatever order. No condition but that the order is one, and the sort's own invariant. -/
import Derived.Test.YtkmnlfbllfaieaaDoorSoPart
import Derived.Test.YtkmnlfbllfaieaaDoorSoPartEq
import Derived.Test.YtkmnlfbllfaieaaDoorSoPIns
import Derived.Test.YtkmnlfbllfaieaaDoorSoBreak
import Derived.Test.YtkmnlfbllfaieaaDoorSoHeap
import Derived.Test.YtkmnlfbllfaieaaDoorSoPiv
import Derived.Sort.Walk13a
import Derived.Sort.AssemblyPlain
namespace Go.Proofs.YtkmnlfbllfaieaaDoor
open Go.Sort
variable {lt : Int → Int → Bool} {d : Array Int} {a b lim : Nat} {wb wp : Bool} {R : Rd Int}
/-- What a round has ahead of its parting. -/
structure RdOk (lt : Int → Int → Bool) (d : Array Int) (a b : Nat) (R : Rd Int) : Prop where
  s1 : R.d1.size = d.size
  c : a ≤ R.c.1 ∧ R.c.1 < b
  s2 : R.d2.size = d.size
  p : a ≤ R.pivot ∧ R.pivot < b
  s3 : R.pi.1.size = d.size
  below : Sort.Below lt a b R.pi.1
theorem rd_ok (hS : SWO lt) (hR : R = rd lt d a b lim wb wp) (hab : a < b) (hb : b ≤ d.size) (hB : Sort.Below lt a b d) : RdOk lt d a b R := by
  subst hR
  obtain ⟨h1, _, h3, h4, _, h6, h7, h8⟩ := rd_facts (limit := lim) (wb := wb) (wp := wp) hS partialInsertionSort_holds reverseRange_holds hab hb hB
  exact ⟨h1, h3, h4, h6, h7, h8⟩
theorem rd_done (hR : R = rd lt d a b lim wb wp) (h : ¬ b - a ≤ 12) (h0 : ¬ lim = 0) (h1 : R.pi.2 = true) : pdq lt d a b lim wb wp = R.pi.1 := by
  subst hR; exact pdq_done h h0 h1
/-- Behind a parting into what is the same as the pivot and what is greater. -/
theorem rd_eq (hS : SWO lt) (hR : R = rd lt d a b lim wb wp) (h : ¬ b - a ≤ 12) (h0 : ¬ lim = 0) (hb : b ≤ d.size) (hB : Sort.Below lt a b d) (h1 : R.pi.2 = false) (ha : 0 < a) (h2 : lt R.pi.1[a - 1]! R.pi.1[R.pivot]! = false) :
    a < (partitionEqual lt R.pi.1 a b R.pivot).1 ∧ (partitionEqual lt R.pi.1 a b R.pivot).1 ≤ b ∧ Sort.Below lt (partitionEqual lt R.pi.1 a b R.pivot).1 b (partitionEqual lt R.pi.1 a b R.pivot).2 ∧ pdq lt d a b lim wb wp = pdq lt (partitionEqual lt R.pi.1 a b R.pivot).2 (partitionEqual lt R.pi.1 a b R.pivot).1 b R.lim wb wp := by
  have k := rd_ok hS hR (by omega) hb hB
  obtain ⟨g1, g2, _, g4, _⟩ := round_eq hS (partitionEqual_holds lt) ha k.p.1 k.p.2 (by rw [k.s3]; exact hb) k.below h2 (mid := (partitionEqual lt R.pi.1 a b R.pivot).1) (d4 := (partitionEqual lt R.pi.1 a b R.pivot).2) rfl
  refine ⟨g1, g2, g4, ?_⟩
  subst hR
  exact pdq_eq h h0 h1 (by rw [h2]; simp; omega) ⟨g1, g2⟩
/-- Behind a parting into what is less than the pivot and what is not. -/
structure Parted (lt : Int → Int → Bool) (d : Array Int) (a b lim : Nat) (wb wp : Bool) (R : Rd Int) (mid : Nat) (d4 : Array Int) (ap : Bool) : Prop where
  m1 : a ≤ mid
  m2 : mid < b
  bl : Sort.Below lt a mid d4
  br : Sort.Below lt (mid + 1) b d4
  left : mid - a < b - mid → Sort.Below lt (mid + 1) b (pdq lt d4 a mid R.lim true true) ∧ pdq lt d a b lim wb wp = pdq lt (pdq lt d4 a mid R.lim true true) (mid + 1) b R.lim (decide (mid - a ≥ (b - a) / 8)) ap
  right : ¬ mid - a < b - mid → Sort.Below lt a mid (pdq lt d4 (mid + 1) b R.lim true true) ∧ pdq lt d a b lim wb wp = pdq lt (pdq lt d4 (mid + 1) b R.lim true true) a mid R.lim (decide (b - mid ≥ (b - a) / 8)) ap
theorem rd_part (hS : SWO lt) (hR : R = rd lt d a b lim wb wp) (h : ¬ b - a ≤ 12) (h0 : ¬ lim = 0) (hb : b ≤ d.size) (hB : Sort.Below lt a b d) (h1 : R.pi.2 = false) (h2 : a = 0 ∨ lt R.pi.1[a - 1]! R.pi.1[R.pivot]! = true) :
    Parted lt d a b lim wb wp R (partition lt R.pi.1 a b R.pivot).1 (partition lt R.pi.1 a b R.pivot).2.2 (partition lt R.pi.1 a b R.pivot).2.1 := by
  have k := rd_ok hS hR (by omega) hb hB
  obtain ⟨g1, g2, g3, g4, g5, g6, g7⟩ := round_part hS (partition_holds lt) k.p.1 k.p.2 (by rw [k.s3]; exact hb) k.below (mid := (partition lt R.pi.1 a b R.pivot).1) (ap := (partition lt R.pi.1 a b R.pivot).2.1) (d4 := (partition lt R.pi.1 a b R.pivot).2.2) rfl
  have hd4 : b ≤ (partition lt R.pi.1 a b R.pivot).2.2.size := by rw [g3, k.s3]; exact hb
  have hg : (decide (a > 0) && !lt R.pi.1[a - 1]! R.pi.1[R.pivot]!) = false := by
    rcases h2 with h2 | h2
    · simp [h2]
    · simp [h2]
  have hl := pdq_sorts lt hS (partition lt R.pi.1 a b R.pivot).2.2 a (partition lt R.pi.1 a b R.pivot).1 R.lim true true g1 (by omega) g4
  have hr := pdq_sorts lt hS (partition lt R.pi.1 a b R.pivot).2.2 ((partition lt R.pi.1 a b R.pivot).1 + 1) b R.lim true true (by omega) hd4 g5
  refine ⟨g1, g2, g4, g5, fun h4 => ⟨(g6 _ hl.1 hl.2).1, ?_⟩, fun h4 => ⟨(g7 _ hr.1 hr.2).1, ?_⟩⟩
  · subst hR
    exact pdq_left h h0 h1 hg ⟨g1, g2⟩ h4
  · subst hR
    exact pdq_right h h0 h1 hg ⟨g1, g2⟩ h4
end Go.Proofs.YtkmnlfbllfaieaaDoor
