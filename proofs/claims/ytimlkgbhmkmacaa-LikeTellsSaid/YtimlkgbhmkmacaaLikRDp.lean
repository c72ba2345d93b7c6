/- Truths in a block of the call's own, one behind the other; which places a text's beginnings lead to. No condition. -/
import Derived.Test.YtimlkgbhmkmacaaLikRPre
import Derived.Lib.BufferMore
namespace Go.Proofs.Ytimlkgbhmkmacaa
open Go.RowKit
theorem info4 : (Try.prog.info? 4).map (fun i => (i.zero, i.size, i.bytes)) = some (some (.bool false), 1, 1) := by kernel_rfl
def bl (bs : List Bool) : List Value := bs.map Value.bool
def BB (w : World) (g : Nat) (bs : List Bool) : Prop := w.heap[g]? = some (.cells (bl bs).toArray 4 (0, 0))
theorem BB.cell {w : World} {g : Nat} {bs : List Bool} (h : BB w g bs) (k : Nat) (hk : k < bs.length) : w.cell? ⟨g, k, none⟩ = some (.bool bs[k]) := by
  rw [Lib.cell_of_heap h]; simp [bl, hk]
theorem BB.free {w : World} {g : Nat} {bs : List Bool} (h : BB w g bs) (k : Nat) : w.frozen? ⟨g, k, none⟩ = false := Lib.frozen_of_heap h k
theorem BB.lt {w : World} {g : Nat} {bs : List Bool} (h : BB w g bs) : g < w.heap.size := (Array.getElem?_eq_some_iff.1 h).1
theorem BB.set {w : World} {g : Nat} {bs : List Bool} (h : BB w g bs) (k : Nat) (b : Bool) : BB (w.setCell ⟨g, k, none⟩ (.bool b)) g (bs.set k b) := by
  unfold BB
  rw [Lib.heap_setCell_same h _]
  simp [bl, List.map_set]
theorem heap_other {w : World} {g g' k : Nat} {v : Value} (hg : g ≠ g') : (w.setCell ⟨g', k, none⟩ v).heap[g]? = w.heap[g]? := Below.heap_setCell w _ _ g hg
theorem BB.other {w : World} {g g' k : Nat} {v : Value} {bs : List Bool} (h : BB w g bs) (hg : g ≠ g') : BB (w.setCell ⟨g', k, none⟩ v) g bs := (heap_other hg).trans h
theorem BB.below {w w' : World} {B g : Nat} {bs : List Bool} (h : BB w g bs) (hb : Below B w w') (hg : g < B) : BB w' g bs := (hb.block g hg).trans h
/-- A block that make has just made. -/
theorem bb_made {w : World} {B g n : Nat} (h : w.ownsRow B 4 1 (.slice (some ⟨g, 0, none⟩) n n) n (madeCells #[Value.bool false] n).toList) : BB w g (List.replicate n false) := by
  rcases h.2 with ⟨hv, _⟩ | ⟨g', cap, cur, hv, _, hg, hn, _, hs, ht⟩
  · cases hv
  · injection hv with e1 e2 e3
    simp at e1
    subst e1 e3
    unfold BB
    rw [hg]
    have hc : cur = (bl (List.replicate n false)).toArray := by
      apply Array.toList_inj.1
      rw [List.take_of_length_le (by simp; omega)] at ht
      rw [ht]
      apply List.ext_getElem
      · simp [bl, size_madeCells]
      · intro i h1 h2
        simp [madeCells, bl, Nat.mod_one]
    rw [hc]
/-- A piece's box. -/
def XB (w : World) (g : Nat) (e1 e2 : Bool) (v : Int) : Prop := w.heap[g]? = some (.cells #[.bool e1, .bool e2, .int .u8 v] 42 (0, 0))
theorem XB.cells {w : World} {g : Nat} {e1 e2 : Bool} {v : Int} (h : XB w g e1 e2 v) : w.cell? ⟨g, 0, none⟩ = some (.bool e1) ∧ w.cell? ⟨g, 1, none⟩ = some (.bool e2) ∧ w.cell? ⟨g, 2, none⟩ = some (.int .u8 v) :=
  ⟨by rw [Lib.cell_of_heap h]; rfl, by rw [Lib.cell_of_heap h]; rfl, by rw [Lib.cell_of_heap h]; rfl⟩
theorem XB.other {w : World} {g g' k : Nat} {v : Value} {e1 e2 : Bool} {n : Int} (h : XB w g e1 e2 n) (hg : g ≠ g') : XB (w.setCell ⟨g', k, none⟩ v) g e1 e2 n := (heap_other hg).trans h
theorem XB.made (w : World) (e1 e2 : Bool) (v : Int) : XB (w.alloc (.cells #[.bool e1, .bool e2, .int .u8 v] 42)) w.heap.size e1 e2 v := heap_alloc_new w _
/-- Behind k units: which beginnings go. -/
def dpL (us : List Int) (l : List UInt8) (k : Nat) : List Bool := (List.range (l.length + 1)).map fun i => M (us.take k) (l.take i)
/-- The same for one unit more, as far as i places. -/
def nxL (us : List Int) (l : List UInt8) (k i : Nat) : List Bool := (List.range (l.length + 1)).map fun j => if j < i then M (us.take (k + 1)) (l.take j) else false
theorem dpL_len (us : List Int) (l : List UInt8) (k : Nat) : (dpL us l k).length = l.length + 1 := by simp [dpL]
theorem nxL_len (us : List Int) (l : List UInt8) (k i : Nat) : (nxL us l k i).length = l.length + 1 := by simp [nxL]
theorem dpL_get (us : List Int) (l : List UInt8) (k i : Nat) (h : i < (dpL us l k).length) : (dpL us l k)[i] = M (us.take k) (l.take i) := by simp [dpL]
theorem nxL_get (us : List Int) (l : List UInt8) (k i j : Nat) (h : j < (nxL us l k i).length) (hj : j < i) : (nxL us l k i)[j] = M (us.take (k + 1)) (l.take j) := by simp [nxL, hj]
theorem dpL_zero (us : List Int) (l : List UInt8) : dpL us l 0 = (List.replicate (l.length + 1) false).set 0 true := by
  apply List.ext_getElem
  · simp [dpL]
  · intro i h1 h2
    rw [dpL_get, List.getElem_set]
    apply bool_iff
    rw [List.take_zero, M_nil]
    by_cases e : 0 = i
    · subst e; simp
    · rw [if_neg e, List.getElem_replicate, List.take_eq_nil_iff]
      constructor
      · rintro (h | h)
        · omega
        · subst h; simp at h1 h2; omega
      · intro h; cases h
theorem nxL_zero (us : List Int) (l : List UInt8) (k : Nat) : nxL us l k 0 = List.replicate (l.length + 1) false := by
  apply List.ext_getElem
  · simp [nxL]
  · intro i h1 h2; simp [nxL]
theorem nxL_step (us : List Int) (l : List UInt8) (k i : Nat) {b : Bool} (hb : b = M (us.take (k + 1)) (l.take i)) : (nxL us l k i).set i b = nxL us l k (i + 1) := by
  apply List.ext_getElem
  · simp [nxL]
  · intro j h1 h2
    rw [List.getElem_set]
    by_cases e : i = j
    · subst e
      rw [if_pos rfl, nxL_get us l k (i + 1) i h2 (by omega), hb]
    · rw [if_neg e]
      simp only [nxL, List.getElem_map, List.getElem_range]
      by_cases e2 : j < i
      · rw [if_pos e2, if_pos (by omega)]
      · rw [if_neg e2, if_neg (by omega)]
theorem nxL_skip (us : List Int) (l : List UInt8) (k i : Nat) (hb : M (us.take (k + 1)) (l.take i) = false) : nxL us l k i = nxL us l k (i + 1) := by
  apply List.ext_getElem
  · simp [nxL]
  · intro j h1 h2
    simp only [nxL, List.getElem_map, List.getElem_range]
    by_cases e : j = i
    · subst e
      rw [if_neg (by omega), if_pos (by omega), hb]
    · by_cases e2 : j < i
      · rw [if_pos e2, if_pos (by omega)]
      · rw [if_neg e2, if_neg (by omega)]
theorem nxL_all (us : List Int) (l : List UInt8) (k : Nat) : nxL us l k (l.length + 1) = dpL us l (k + 1) := by
  apply List.ext_getElem
  · simp [nxL, dpL]
  · intro j h1 h2
    rw [dpL_get, nxL_get us l k (l.length + 1) j h1 (by rw [nxL_len] at h1; omega)]
/-- One unit more at one place. -/
theorem take_one {us : List Int} {k : Nat} (hk : k < us.length) : us.take (k + 1) = us.take k ++ [us[k]] := List.take_succ_eq_append_getElem hk
theorem st_many0 {us : List Int} {k : Nat} (hk : k < us.length) (hu : us[k] = -2) (l : List UInt8) : M (us.take (k + 1)) (l.take 0) = M (us.take k) (l.take 0) := by
  rw [take_one hk, hu]; exact dp_many0 _ _
theorem st_many {us : List Int} {k : Nat} (hk : k < us.length) (hu : us[k] = -2) {l : List UInt8} {i : Nat} (hi : i < l.length) : M (us.take (k + 1)) (l.take (i + 1)) = (M (us.take k) (l.take (i + 1)) || M (us.take (k + 1)) (l.take i)) := by
  rw [take_one hk, hu]; exact dp_many _ _ _ hi
theorem st_byte0 {us : List Int} {k : Nat} (hk : k < us.length) (hu : us[k] ≠ -2) (l : List UInt8) : M (us.take (k + 1)) (l.take 0) = false := by
  rw [take_one hk]; exact dp_byte0 hu _ _
theorem st_byte {us : List Int} {k : Nat} (hk : k < us.length) (hu : us[k] ≠ -2) {l : List UInt8} {i : Nat} (hi : i < l.length) : M (us.take (k + 1)) (l.take (i + 1)) = (M (us.take k) (l.take i) && okU us[k] l[i]) := by
  rw [take_one hk]; exact dp_byte hu _ _ _ hi
end Go.Proofs.Ytimlkgbhmkmacaa
