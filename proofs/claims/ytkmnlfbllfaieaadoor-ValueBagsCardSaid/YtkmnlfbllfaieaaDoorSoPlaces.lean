/- Contract of value.bag's places: the places of a bag's rows, in order. Conditions: lists and rows no longer than 2 to the 47. -/
import Derived.Test.YtkmnlfbllfaieaaDoorSoCmp
namespace Go.Proofs.YtkmnlfbllfaieaaDoor
open Go.RowKit Go.Sort
theorem info3 : (Tryd.prog.info? 3).map (fun i => (i.zero, i.size, i.bytes)) = some (some (.int .i64 0), 1, 8) := by kernel_rfl
/-- The places, the first k of them written. -/
def dF (n k : Nat) : Array Int := ((List.range n).map fun j => if j < k then (j : Int) else 0).toArray
theorem dF_size (n k : Nat) : (dF n k).size = n := by simp [dF]
theorem dF_get (n k j : Nat) (h : j < n) : (dF n k)[j]! = if j < k then (j : Int) else 0 := by
  rw [getElem!_pos (dF n k) j (by rw [dF_size]; exact h)]
  simp [dF]
theorem dF_set (n k : Nat) : (dF n k).setIfInBounds k (k : Int) = dF n (k + 1) := by
  apply Array.ext
  · simp [dF]
  · intro j h1 h2
    rw [Array.getElem_setIfInBounds (by simpa using h1)]
    simp only [dF, List.getElem_toArray, List.getElem_map, List.getElem_range]
    by_cases e : k = j
    · subst e; rw [if_pos rfl, if_pos (by omega)]
    · rw [if_neg e]
      by_cases e2 : j < k
      · rw [if_pos e2, if_pos (by omega)]
      · rw [if_neg e2, if_neg (by omega)]
/-- A block that make has just made. -/
theorem sw_made {w W : World} {B n : Nat} (hb : Below w.heap.size w W) (h : W.ownsRow B 3 1 (.slice (some ⟨w.heap.size, 0, none⟩) n n) n (madeCells #[Value.int .i64 0] n).toList) : SW w w.heap.size (dF n 0) W := by
  rcases h.2 with ⟨hv, _⟩ | ⟨g', cap, cur, hv, _, hg, hn, _, hs, ht⟩
  · cases hv
  · injection hv with e1 e2 e3
    simp at e1
    subst e1 e3
    refine ⟨hb.os, hb.tape, hb.output, hb.size, fun k hk _ => hb.block k hk, ?_⟩
    rw [hg]
    have hc : cur = (dF n 0).map (Value.int .i64) := by
      apply Array.toList_inj.1
      rw [List.take_of_length_le (by simp; omega)] at ht
      rw [ht]
      apply List.ext_getElem
      · simp [dF, size_madeCells]
      · intro i h1 h2
        simp [madeCells, dF, Nat.mod_one]
    rw [hc]
def InBag (n : Nat) (x : Int) : Prop := ∃ k : Nat, x = k ∧ k < n
/-- The places in order. -/
def plc (rs : List R) : Array Int := Sort.sort (ltOf (cfR rs)) (dF rs.length rs.length)
/-- What places leaves. -/
def Placed (rs : List R) (w w' : World) : Prop := Below w.heap.size w w' ∧ w'.heap[w.heap.size]? = some (.cells ((plc rs).map (Value.int .i64)) 3 (0, 0)) ∧ Kept (InBag rs.length) rs.length (plc rs)
theorem RowsAt.later {w w' : World} {A : Option Addr} {rs : List R} (h : RowsAt w w.heap.size A rs) (hb : Below w.heap.size w w') : RowsAt w' w'.heap.size A rs := by
  have h2 := h.below hb
  refine ⟨fun h0 => ?_, fun r hr => (h2.2 r hr).mono hb.size⟩
  obtain ⟨b, off, hA, hlt, hc⟩ := h2.1 h0
  exact ⟨b, off, hA, Nat.lt_of_lt_of_le hlt hb.size, hc⟩
set_option maxRecDepth 100000 in
set_option maxHeartbeats 4000000 in
theorem places_any (rs : List R) (A : Option Addr) (c : Nat) (w : World) (hr : RowsAt w w.heap.size A rs) (hs : RowsOk rs) (hm : rs.length ≤ 1000000) :
    Calls Tryd.prog 23 #[.slice A rs.length c] w fun e w' => e = .returned (.slice (some ⟨w.heap.size, 0, none⟩) rs.length rs.length) ∧ Placed rs w w' := by
  obtain ⟨i0, hi, hz0, hz1, hz2⟩ := info_parts info3
  obtain ⟨n, hn⟩ : ∃ n, n = rs.length := ⟨_, rfl⟩
  have HN := Lib.hid hn
  have HSort : Hid (∀ (W : World), Below w.heap.size w W → SW w w.heap.size (dF n n) W → Calls Tryd.prog 36 #[.slice (some ⟨w.heap.size, 0, none⟩) n n, .func (.func 37) #[.slice A n c] #[]] W fun e w' => e = .returned (.tuple #[]) ∧ Placed rs w w') := by
    intro W hW hSW
    have hg : w.heap.size < W.heap.size := (Array.getElem?_eq_some_iff.1 hSW.row).1
    have hb2 : ∀ (d : Array Int) (V : World), SW W w.heap.size d V → Below w.heap.size w V := fun d V hV => ⟨hV.os.trans hW.os, hV.tape.trans hW.tape, hV.output.trans hW.output, Nat.le_trans hW.size hV.size, fun k hk => (hV.other k (by omega) (by omega)).trans (hW.block k hk)⟩
    have hc : CmpOf W w.heap.size (InBag n) (cfR rs) (.slice A n c) := by
      rintro d V hV x y ⟨kx, rfl, hkx⟩ ⟨ky, rfl, hky⟩
      rw [hn] at hkx hky ⊢
      exact compare_any rs A c V (hr.later (hb2 d V hV)) hs (by omega) kx ky hkx hky
    have h := sortFunc_any W w.heap.size n n (InBag n) (cfR rs) (.slice A n c) hc (swo_of (cfR_ok rs)) hg (by omega) (dF n n) (dF_size n n) ⟨rfl, rfl, rfl, Nat.le_refl _, fun _ _ _ => rfl, hSW.row⟩ (fun j hj => by rw [dF_get n n j hj, if_pos hj]; exact ⟨j, rfl, hj⟩)
    refine h.mono fun e w' ⟨h1, h2, h3⟩ => ⟨h1, hb2 _ _ h2, ?_, ?_⟩
    · unfold plc; rw [← hn]; exact h2.row
    · unfold plc; rw [← hn]; exact h3
  rw [← hn] at hm ⊢
  clear hr hs hn
  go_enter Tryd.func23, Tryd.ntmps23
  go_wp2_with (at_make; refine wpList_make_full _ rfl _ _ 44 rfl w.heap.size 3 i0 (.int .i64 0) 1 Tryd.underlying44 hi hz0 hz1 _ _ _ _ n rfl rfl rfl rfl (by rw [hz2]; omega) (by unfold maxLen; omega) (Nat.le_refl _) ?_)
  intro w2 hown2 hgrow2
  have hb2 := (Below.refl w.heap.size w).grown hgrow2 (Nat.le_refl _) (by simp)
  have S := Lib.hid (sw_made hb2 hown2)
  have HB := Lib.hid hb2
  clear hown2 hgrow2 hb2
  go_wp2_with fail
  go_loopg [10] n (fun kg s10 wr => ∃ k : Nat, k + kg = n ∧ s10 = .int .i64 k ∧ Hid (SW w w.heap.size (dF n k) wr) ∧ Hid (Below w.heap.size w wr))
  case atStart => exact ⟨0, by omega, rfl, S, HB⟩
  case round =>
    clear S HB
    obtain ⟨k, hkg, rfl, S, HB⟩ := hrel
    cases gk with
    | zero =>
      have hkz : ¬ ((k : Int) < (n : Int)) := by omega
      obtain rfl : k = n := by omega
      have HX := Lib.hid (HSort.out wr HB.out S.out)
      go_wp2_with fail
      refine HX.out.mono ?_
      rintro e w3 ⟨rfl, h3⟩
      have H3 := Lib.hid h3
      clear h3
      go_wp2_with fail
      go_ret
      exact ⟨rfl, H3.out⟩
    | succ g =>
      have hkz : (k : Int) < (n : Int) := by omega
      have c1 := S.out.cell k (by rw [dF_size]; omega)
      have f1 := S.out.free k
      generalize (dF n k)[k]! = old at c1
      have S2 : Hid (SW w w.heap.size (dF n (k + 1)) (wr.setCell ⟨w.heap.size, k, none⟩ (.int .i64 k))) := by
        have := S.out.set k (k : Int)
        rw [dF_set] at this
        exact this
      have HB2 := Lib.hid (HB.out.setCell (p := ⟨w.heap.size, k, none⟩) (Nat.le_refl _) (.int .i64 k))
      go_wp2_with fail
      go_roundg g
      case measure => omega
      case rel => exact ⟨k + 1, by omega, by go_num, S2, HB2⟩
end Go.Proofs.YtkmnlfbllfaieaaDoor
