/- The exchange of two places of the row; contract of slices.reverseRangeCmpFunc at a bound method. Condition: the range is in the row. -/
import Derived.Test.YtkmnlfbllfaieaaDoorSoKit
import Derived.Sort.Lot0
import Derived.Deep.LoopGhost
import Derived.BigRegion
namespace Go.Proofs.YtkmnlfbllfaieaaDoor
open Go.RowKit Go.Sort
theorem SW.set {w W : World} {b : Nat} {d : Array Int} (h : SW w b d W) (j : Nat) (x : Int) : SW w b (d.setIfInBounds j x) (W.setCell ⟨b, j, none⟩ (.int .i64 x)) := by
  refine ⟨h.os, h.tape, h.output, by simpa using h.size, fun k hk hne => ?_, ?_⟩
  · rw [Below.heap_setCell _ _ _ _ (by show k ≠ b; omega)]; exact h.other k hk hne
  · rw [Lib.heap_setCell_same h.row _]
    simp
theorem SW.swp {w W : World} {b : Nat} {d : Array Int} (h : SW w b d W) (i j : Nat) : SW w b (Sort.swp d i j) ((W.setCell ⟨b, i, none⟩ (.int .i64 d[j]!)).setCell ⟨b, j, none⟩ (.int .i64 d[i]!)) := (h.set i _).set j _
theorem SW.cell2 {w W : World} {b : Nat} {d : Array Int} (h : SW w b d W) (i j : Nat) (hj : j < d.size) (x : Int) : ∃ u, (W.setCell ⟨b, i, none⟩ (.int .i64 x)).cell? ⟨b, j, none⟩ = some u := ⟨_, (h.set i x).cell j (by simpa using hj)⟩
/-- The row is as long as it was, and only what may stand in it stands in it. -/
def Kept (P : Int → Prop) (n : Nat) (d : Array Int) : Prop := d.size = n ∧ ∀ j, j < n → P d[j]!
/-- What may stand in the row stands in it still behind an exchange. -/
theorem swpIn {P : Int → Prop} {n : Nat} {d : Array Int} (hn : d.size = n) (hP : ∀ j, j < n → P d[j]!) {i k : Nat} (hi : i < n) (hk : k < n) : ∀ j, j < n → P (Sort.swp d i k)[j]! := by
  intro j hj
  have e : (Sort.swp d i k)[j]! = d[j]! ∨ (Sort.swp d i k)[j]! = d[i]! ∨ (Sort.swp d i k)[j]! = d[k]! := by
    unfold Sort.swp
    rw [getElem!_pos _ j (by simp; omega), getElem!_pos d j (by omega), Array.getElem_setIfInBounds, Array.getElem_setIfInBounds]
    split
    · exact .inr (.inl rfl)
    · split
      · exact .inr (.inr rfl)
      · exact .inl rfl
    all_goals first | omega | (simp; omega)
  rcases e with e | e | e
  · rw [e]; exact hP j hj
  · rw [e]; exact hP i hi
  · rw [e]; exact hP k hk
set_option maxRecDepth 100000 in
set_option maxHeartbeats 4000000 in
theorem reverse_any (w : World) (b c n : Nat) (P : Int → Prop) (cbv : Value) (d : Array Int) (W : World) (hn : d.size = n) (hm : n ≤ 140737488355328) (h : SW w b d W) (hP : ∀ j, j < n → P d[j]!) (lo hi : Nat) (hlo : lo ≤ hi) (hhi : hi ≤ n) :
    Calls Tryd.prog 59 #[.slice (some ⟨b, 0, none⟩) n c, .int .i64 lo, .int .i64 hi, cbv] W fun e w' => e = .returned (.tuple #[]) ∧ SW w b (Sort.reverseRange d lo hi) w' ∧ Kept P n (Sort.reverseRange d lo hi) := by
  have S0 := Lib.hid h
  have HP := Lib.hid hP
  clear h hP
  go_enter Tryd.func59, Tryd.ntmps59
  go_wp2_with fail
  go_loopg [8, 9] (hi - lo) (fun kx s8 s9 wr => ∃ (i jn : Nat) (jz : Int) (dk : Array Int), s8 = .int .i64 i ∧ s9 = .int .i64 jz ∧ ((i : Int) < jz → jz = jn ∧ jn < n) ∧ (¬ (i : Int) < jz → ¬ i < jn) ∧ jn - i ≤ kx ∧ dk.size = n ∧ Hid (∀ j, j < n → P dk[j]!) ∧ Hid (SW w b dk wr) ∧ Hid (reverseLoop i jn dk = reverseLoop lo (hi - 1) d))
  case atStart => exact ⟨lo, hi - 1, (hi : Int) - 1, d, rfl, rfl, fun h => ⟨by omega, by omega⟩, fun h => by omega, by omega, hn, HP, S0, rfl⟩
  case round =>
    clear S0 HP
    obtain ⟨i, jn, jz, dk, rfl, rfl, h1, h2, hkx, hds, HP, S1, heq⟩ := hrel
    by_cases hlt : (i : Int) < jz
    · obtain ⟨rfl, hjn⟩ := h1 hlt
      have hij : i < jn := by omega
      clear h1 h2
      go_wp2_with fail
      have b1 : (i : Int) < (n : Int) := by omega
      have b2 : (jn : Int) < (n : Int) := by omega
      have c1 := S1.out.cell i (by omega)
      have c2 := S1.out.cell jn (by omega)
      have f1 := S1.out.free i
      have f2 := S1.out.free jn
      obtain ⟨u, c3⟩ := S1.out.cell2 i jn (by omega) dk[jn]!
      have S2 := Lib.hid (S1.out.swp i jn).drew
      clear S1
      generalize dk[i]! = xi at *
      generalize dk[jn]! = xj at *
      go_wp2_with fail
      go_big_region
      clear c1 c2 c3 f1 f2
      generalize (World.setCell (wr.setCell ⟨b, i, none⟩ (.int .i64 xj)) ⟨b, jn, none⟩ (.int .i64 xi)).drew = w2 at *
      go_wp2
      go_roundg (jn - 1 - (i + 1))
      case measure => omega
      case rel =>
        have heq := heq.out
        rw [reverseLoop, if_pos hij] at heq
        exact ⟨i + 1, jn - 1, (jn : Int) - 1, Sort.swp dk i jn, by simp, rfl, fun h => ⟨by omega, by omega⟩, fun h => by omega, Nat.le_refl _, by rw [size_swp]; exact hds, swpIn hds HP.out (by omega) (by omega), S2, heq⟩
    · have hnot := h2 hlt
      have heq := heq.out
      rw [reverseLoop, if_neg hnot] at heq
      have S2 : Hid (SW w b (Sort.reverseRange d lo hi) wr ∧ Kept P n (Sort.reverseRange d lo hi)) := by rw [reverseRange, ← heq]; exact ⟨S1.out, hds, HP.out⟩
      clear S1 heq
      go_wp2
      go_end0
      exact ⟨rfl, S2.out⟩
end Go.Proofs.YtkmnlfbllfaieaaDoor
