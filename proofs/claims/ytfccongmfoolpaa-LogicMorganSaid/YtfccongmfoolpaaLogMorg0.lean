/- Plain facts on De Morgan's laws: AND and OR do not hang on the order; AND is NOT of OR of NOTs. No condition. -/
import Derived.Test.YtfccongmfoolpaaLogTwice0
namespace Go.Proofs.Ytfccongmfoolpaa
theorem any_turn {α : Type} (p : α → Bool) (xs : List α) (k : Nat) : (xs.drop k ++ xs.take k).any p = xs.any p := by
  conv => rhs; rw [← List.take_append_drop k xs]
  rw [List.any_append, List.any_append, Bool.or_comm]
theorem all_turn {α : Type} (p : α → Bool) (xs : List α) (k : Nat) : (xs.drop k ++ xs.take k).all p = xs.all p := by
  conv => rhs; rw [← List.take_append_drop k xs]
  rw [List.all_append, List.all_append, Bool.and_comm]
theorem ct_turn (xs : List V) (k : Nat) : ctL (xs.drop k ++ xs.take k) = ctL xs := by
  unfold ctL allOk allT
  rw [all_turn, all_turn]
theorem dec_turn (b : Bool) (xs : List V) (k : Nat) : decV b (xs.drop k ++ xs.take k) = decV b xs := by
  unfold decV anyB anyN
  rw [ct_turn, any_turn, any_turn]
theorem ct_of_each {xs : List V} (h : ∀ v ∈ xs, ctL [v] = 0) : ctL xs = 0 := by
  have h1 : allOk xs = true := by
    unfold allOk
    rw [List.all_eq_true]
    intro v hv
    have := (ok_of_ct (h v hv)).1
    rw [allOk1] at this
    exact this
  have h2 : allT xs = true := by
    unfold allT
    rw [List.all_eq_true]
    exact fun v hv => (ct1 (h v hv)).2
  unfold ctL
  rw [h1, h2]
  rfl
theorem ct_not {v : V} (h : ctL [v] = 0) : ctL [notV v] = 0 := (twice_not h).1
theorem ct_nots {xs : List V} (h : ∀ v ∈ xs, ctL [v] = 0) : ctL (xs.map notV) = 0 := ct_of_each fun u hu => by
  obtain ⟨v, hv, rfl⟩ := List.mem_map.1 hu
  exact ct_not (h v hv)
theorem isB_not {v : V} (h : ctL [v] = 0) (b : Bool) : (notV v).isB (!b) = v.isB b := by
  rcases truth_cases h with rfl | ⟨c, rfl⟩
  · rw [not_z]; cases b <;> rfl
  · rw [not_t]; cases b <;> cases c <;> rfl
theorem null_not {v : V} (h : ctL [v] = 0) : ((notV v).k == 0) = (v.k == 0) := by
  rcases truth_cases h with rfl | ⟨c, rfl⟩
  · rw [not_z]
  · rw [not_t]; rfl
theorem any_map_eq {α : Type} {p q : α → Bool} {f : α → α} {xs : List α} (h : ∀ v ∈ xs, p (f v) = q v) : (xs.map f).any p = xs.any q := by
  induction xs with
  | nil => rfl
  | cons a l ih =>
    simp only [List.map_cons, List.any_cons]
    rw [h a (by simp), ih (fun v hv => h v (by simp [hv]))]
/-- De Morgan. -/
theorem morgan {xs : List V} (h : ∀ v ∈ xs, ctL [v] = 0) : notV (decV true (xs.map notV)) = decV false xs ∧ ctL [decV true (xs.map notV)] = 0 := by
  have hb : anyB true (xs.map notV) = anyB false xs := any_map_eq (p := V.isB true) (q := V.isB false) fun v hv => isB_not (h v hv) false
  have hn : anyN (xs.map notV) = anyN xs := by
    unfold anyN
    exact any_map_eq (p := fun v => v.k == 0) (q := fun v => v.k == 0) fun v hv => null_not (h v hv)
  have e1 : decV true (xs.map notV) = if anyB false xs then tV true else if anyN xs then zV else tV false := by
    unfold decV; rw [if_pos (ct_nots h), hb, hn]; rfl
  have e2 : decV false xs = if anyB false xs then tV false else if anyN xs then zV else tV true := by
    unfold decV; rw [if_pos (ct_of_each h)]; rfl
  rw [e1, e2]
  cases anyB false xs <;> cases anyN xs <;> simp only [if_true, Bool.false_eq_true, if_false]
  · exact ⟨not_t _, ct_zt.2 _⟩
  · exact ⟨not_z, ct_zt.1⟩
  · exact ⟨not_t _, ct_zt.2 _⟩
  · exact ⟨not_t _, ct_zt.2 _⟩
end Go.Proofs.Ytfccongmfoolpaa
