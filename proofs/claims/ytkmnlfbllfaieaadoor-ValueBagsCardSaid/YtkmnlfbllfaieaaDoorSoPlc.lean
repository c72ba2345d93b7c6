/- Plain facts on a bag's places in order: the rows at them are the bag's rows, in order, and no other list is. No condition. -/
import Derived.Test.YtkmnlfbllfaieaaDoorSoPlaces
namespace Go.Proofs.YtkmnlfbllfaieaaDoor
open Go.Sort
/-- A bag's rows, in order. -/
def srt (rs : List R) : List (List V) := (plc rs).toList.map (keyOf rs)
theorem dF_list (n : Nat) : (dF n n).toList = (List.range n).map fun (j : Nat) => (j : Int) := by
  simp only [dF]
  apply List.map_congr_left
  intro j hj
  rw [List.mem_range] at hj
  rw [if_pos hj]
theorem plc_perm (rs : List R) : (plc rs).toList.Perm ((List.range rs.length).map fun (j : Nat) => (j : Int)) := by
  have h := (sort_sorts (ltOf (cfR rs)) (swo_of (cfR_ok rs)) (dF rs.length rs.length)).1
  obtain ⟨h1, _, h3⟩ := h
  have e : (Sort.sort (ltOf (cfR rs)) (dF rs.length rs.length)).extract 0 (dF rs.length rs.length).size = Sort.sort (ltOf (cfR rs)) (dF rs.length rs.length) := by rw [← h1]; exact Array.extract_size
  rw [e, Array.extract_size, dF_list] at h3
  exact h3
theorem keys_list (rs : List R) : ((List.range rs.length).map fun (j : Nat) => (j : Int)).map (keyOf rs) = rs.map R.xs := by
  apply List.ext_getElem
  · simp
  · intro j h1 h2
    simp only [List.getElem_map, List.getElem_range]
    exact keyOf_at (by simpa using h1)
theorem srt_perm (rs : List R) : (srt rs).Perm (rs.map R.xs) := by
  have h := (plc_perm rs).map (keyOf rs)
  rwa [keys_list] at h
theorem plc_size (rs : List R) : (plc rs).size = rs.length := by
  have := (plc_perm rs).length_eq
  simpa using this
theorem srt_len (rs : List R) : (srt rs).length = rs.length := by
  unfold srt
  rw [List.length_map, Array.length_toList, plc_size]
theorem srt_sorted (rs : List R) : (srt rs).Pairwise fun a b => cmpR a b ≤ 0 := by
  have h := (sort_sorts (ltOf (cfR rs)) (swo_of (cfR_ok rs)) (dF rs.length rs.length)).2
  rw [List.pairwise_iff_getElem]
  intro i j hi hj hij
  have hi' : i < rs.length := by rw [srt_len] at hi; exact hi
  have hj' : j < rs.length := by rw [srt_len] at hj; exact hj
  have h2 := h i j (Nat.zero_le _) hij (by rw [dF_size]; exact hj')
  have e1 : (plc rs)[i]! = (plc rs)[i]'(by rw [plc_size]; exact hi') := getElem!_pos _ _ _
  have e2 : (plc rs)[j]! = (plc rs)[j]'(by rw [plc_size]; exact hj') := getElem!_pos _ _ _
  change ltOf (cfR rs) (plc rs)[j]! (plc rs)[i]! = false at h2
  rw [e1, e2] at h2
  have g1 : (srt rs)[i] = keyOf rs ((plc rs)[i]'(by rw [plc_size]; exact hi')) := by simp [srt]
  have g2 : (srt rs)[j] = keyOf rs ((plc rs)[j]'(by rw [plc_size]; exact hj')) := by simp [srt]
  rw [g1, g2]
  generalize (plc rs)[i]'(by rw [plc_size]; exact hi') = x at *
  generalize (plc rs)[j]'(by rw [plc_size]; exact hj') = y at *
  have h3 : ¬ cfR rs y x < 0 := of_decide_eq_false h2
  have f := cmpR_ok.flip (keyOf rs x) (keyOf rs y)
  unfold cfR at h3
  split at h3
  · omega
  · omega
theorem srt_uniq {rs : List R} {l : List (List V)} (h1 : l.Perm (rs.map R.xs)) (h2 : l.Pairwise fun a b => cmpR a b ≤ 0) : l = srt rs := by
  refine List.Perm.eq_of_pairwise (le := fun a b => cmpR a b ≤ 0) ?_ h2 (srt_sorted rs) (h1.trans (srt_perm rs).symm)
  intro a b _ _ h3 h4
  have f := cmpR_ok.flip a b
  exact (cmpR_ok.zero a b).1 (by omega)
theorem plc_get {rs : List R} {j : Nat} (hk : Kept (InBag rs.length) rs.length (plc rs)) (hj : j < rs.length) : ∃ k : Nat, (plc rs)[j]! = (k : Int) ∧ ∃ h : k < rs.length, (srt rs)[j]'(by rw [srt_len]; exact hj) = rs[k].xs := by
  obtain ⟨k, e, hkn⟩ := hk.2 j hj
  refine ⟨k, e, hkn, ?_⟩
  have e1 : (plc rs)[j]! = (plc rs)[j]'(by rw [plc_size]; exact hj) := getElem!_pos _ _ _
  have g1 : (srt rs)[j]'(by rw [srt_len]; exact hj) = keyOf rs ((plc rs)[j]'(by rw [plc_size]; exact hj)) := by simp [srt]
  rw [g1, ← e1, e, keyOf_at hkn]
end Go.Proofs.YtkmnlfbllfaieaaDoor
