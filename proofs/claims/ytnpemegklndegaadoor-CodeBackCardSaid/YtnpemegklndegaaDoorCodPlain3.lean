/- Plain facts (no program): rows written are read as what they were, rows read are written so again; the same of keys. No condition. -/
import Derived.Test.YtnpemegklndegaaDoorCodPlain2
namespace Go.Proofs.YtnpemegklndegaaDoor
theorem rVals_wRow (f : Bool) (xs : List V) (rest : List UInt8) (h : ∀ v ∈ xs, v.okv ∧ v.s.size ≤ 2147483647) : rVals f xs.length (wRow f xs ++ rest) = some (xs, (wRow f xs).length) := by
  induction xs with
  | nil => simp [rVals, wRow]
  | cons v xs ih =>
    have h1 := h v (by simp)
    have e : wRow f (v :: xs) = wVal f v ++ wRow f xs := rfl
    simp only [List.length_cons, rVals]
    rw [e, List.append_assoc, rVal_wVal f v _ h1.1 h1.2]
    simp only [Option.bind_some]
    rw [List.drop_append_of_le_length (Nat.le_refl _), List.drop_of_length_le (Nat.le_refl _), List.nil_append, ih (fun x hx => h x (by simp [hx]))]
    simp
theorem dec_enc (xs : List V) (rest : List UInt8) (hn : xs.length ≤ 64) (h : ∀ v ∈ xs, v.okv ∧ v.s.size ≤ 2147483647) : dec (UInt8.ofNat xs.length :: wRow false xs ++ rest) = some (xs, (UInt8.ofNat xs.length :: wRow false xs).length) := by
  have e : (UInt8.ofNat xs.length).toNat = xs.length := by simp; omega
  simp only [List.cons_append, dec]
  rw [e, if_neg (by omega), rVals_wRow false xs rest h]
  simp
  omega
theorem rAll_wRow (n : Nat) (xs : List V) (hn : xs.length ≤ n) (h : ∀ v ∈ xs, v.okv ∧ v.s.size ≤ 2147483647) : rAll n (wRow true xs) = some xs := by
  induction xs generalizing n with
  | nil => cases n <;> rfl
  | cons v xs ih =>
    have h1 := h v (by simp)
    obtain ⟨n, rfl⟩ : ∃ m, n = m + 1 := ⟨n - 1, by simp at hn; omega⟩
    have e : wRow true (v :: xs) = wVal true v ++ wRow true xs := rfl
    have e2 := rVal_wVal true v (wRow true xs) h1.1 h1.2
    rw [← e] at e2
    have hne : wRow true (v :: xs) ≠ [] := by rw [e]; simp [wVal]
    cases hw : wRow true (v :: xs) with
    | nil => exact absurd hw hne
    | cons c l =>
      simp only [rAll]
      rw [← hw, e2]
      simp only [Option.bind_some]
      rw [e, List.drop_append_of_le_length (Nat.le_refl _), List.drop_of_length_le (Nat.le_refl _), List.nil_append, ih n (by simp at hn; omega) (fun x hx => h x (by simp [hx]))]
      rfl
theorem wRow_rVals (f : Bool) (n : Nat) (l : List UInt8) (xs : List V) (m : Nat) (h : rVals f n l = some (xs, m)) : xs.length = n ∧ m ≤ l.length ∧ wRow f xs = l.take m ∧ ∀ v ∈ xs, v.okv ∧ v.s.size ≤ l.length := by
  induction n generalizing l xs m with
  | zero =>
    simp only [rVals, Option.some.injEq, Prod.mk.injEq] at h
    obtain ⟨rfl, rfl⟩ := h
    simp [wRow]
  | succ n ih =>
    simp only [rVals, Option.bind_eq_some_iff, Option.map_eq_some_iff] at h
    obtain ⟨⟨v, k⟩, h1, ⟨ys, j⟩, h2, h⟩ := h
    simp only [Prod.mk.injEq] at h
    obtain ⟨rfl, rfl⟩ := h
    obtain ⟨a1, a2, a3, a4, a5⟩ := wVal_rVal f l v k h1
    obtain ⟨b1, b2, b3, b4⟩ := ih _ _ _ h2
    rw [List.length_drop] at b2
    refine ⟨by simp [b1], by omega, ?_, ?_⟩
    · show wVal f v ++ wRow f ys = _
      rw [a3, b3, List.take_add]
    · intro x hx
      rcases List.mem_cons.1 hx with rfl | hx
      · exact ⟨a4, a5⟩
      · have := b4 x hx
        rw [List.length_drop] at this
        exact ⟨this.1, by omega⟩
theorem wRow_rAll (n : Nat) (l : List UInt8) (xs : List V) (h : rAll n l = some xs) : xs.length ≤ n ∧ wRow true xs = l ∧ ∀ v ∈ xs, v.okv ∧ v.s.size ≤ l.length := by
  induction n generalizing l xs with
  | zero =>
    cases l with
    | nil => simp only [rAll, Option.some.injEq] at h; subst h; simp [wRow]
    | cons c l => simp [rAll] at h
  | succ n ih =>
    cases l with
    | nil => simp only [rAll, Option.some.injEq] at h; subst h; simp [wRow]
    | cons c l =>
      simp only [rAll, Option.bind_eq_some_iff, Option.map_eq_some_iff] at h
      obtain ⟨⟨v, k⟩, h1, ys, h2, rfl⟩ := h
      obtain ⟨a1, a2, a3, a4, a5⟩ := wVal_rVal true (c :: l) v k h1
      obtain ⟨b1, b2, b3⟩ := ih _ _ h2
      refine ⟨by simp; omega, ?_, ?_⟩
      · show wVal true v ++ wRow true ys = _
        rw [a3, b2, List.take_append_drop]
      · intro x hx
        rcases List.mem_cons.1 hx with rfl | hx
        · exact ⟨a4, a5⟩
        · have := b3 x hx
          rw [List.length_drop] at this
          exact ⟨this.1, by omega⟩
/-- What is read of bytes is a row that may be. -/
theorem dec_back (l : List UInt8) (xs : List V) (m : Nat) (h : dec l = some (xs, m)) : 0 < m ∧ m ≤ l.length ∧ xs.length ≤ 64 ∧ UInt8.ofNat xs.length :: wRow false xs = l.take m ∧ ∀ v ∈ xs, v.okv ∧ v.s.size ≤ l.length := by
  cases l with
  | nil => simp [dec] at h
  | cons c l =>
    simp only [dec] at h
    split at h
    · cases h
    · rename_i hc
      simp only [Option.map_eq_some_iff] at h
      obtain ⟨⟨ys, j⟩, h1, h⟩ := h
      simp only [Prod.mk.injEq] at h
      obtain ⟨rfl, rfl⟩ := h
      obtain ⟨b1, b2, b3, b4⟩ := wRow_rVals _ _ _ _ _ h1
      refine ⟨by omega, by simp; omega, by omega, ?_, fun v hv => ?_⟩
      · rw [Nat.add_comm 1 j, List.take_succ_cons, b3, b1]
        simp
      · have := b4 v hv
        exact ⟨this.1, by simp; omega⟩
end Go.Proofs.YtnpemegklndegaaDoor
