/- Plain facts on tokens (no program): blanks ahead move places alone; two statements with a line's end between are cut as both; a text and a blob that are written are read. No condition. -/
import Derived.Test.YtjnecobamobieaaDoorTokPlain
namespace Go.Proofs.YtjnecobamobieaaDoor
/-- Blanks that end outside a remark. -/
def Blank (a : List UInt8) : Prop := ∀ l, bl false (a ++ l) = a.length + bl false l
theorem blank_space : Blank [32] := fun l => by simp [bl, isWs]
theorem blank_lines : Blank [10, 9, 13] := fun l => by simp [bl, isWs]; omega
theorem blank_rem : Blank [45, 45, 32, 39, 32, 120, 10] := fun l => by simp [bl, isWs]; omega
theorem blank_rems : Blank [45, 45, 10, 45, 45, 10] := fun l => by simp [bl, isWs]; omega
theorem cut_blank {a : List UInt8} (ha : Blank a) (p : Nat) (l : List UInt8) : cutP p (a ++ l) = cutP (p + a.length) l := by
  have h := ha l
  have e1 : (a ++ l).drop (bl false (a ++ l)) = l.drop (bl false l) := by rw [h, ← List.drop_drop]; simp
  have e2 : ∀ n, (a ++ l).drop (bl false (a ++ l) + n) = l.drop (bl false l + n) := fun n => by
    rw [h, Nat.add_assoc, ← List.drop_drop]
    simp
  rw [cutP_eq p (a ++ l), cutP_eq (p + a.length) l, e1]
  simp only [e2]
  simp only [h, Nat.add_assoc]
/-- Blanks up to a line's end, and what is behind it. -/
theorem bl_join (b : Bool) (l m : List UInt8) : bl b (l ++ 10 :: m) = if bl b l = l.length then l.length + 1 + bl false m else bl b l := by
  induction l generalizing b with
  | nil =>
    cases b
    · simp [bl, isWs]
    · simp [bl]
  | cons c r ih =>
    have key : ∀ (x y z : Nat), (y = if x = r.length then r.length + 1 + z else x) → 1 + y = if 1 + x = r.length + 1 then r.length + 1 + 1 + z else 1 + x := fun x y z h => by
      by_cases hx : x = r.length
      · rw [if_pos hx] at h
        rw [if_pos (by omega)]
        omega
      · rw [if_neg hx] at h
        rw [if_neg (by omega)]
        omega
    cases b
    · by_cases hw : isWs c = true
      · have e1 : bl false (c :: r) = 1 + bl false r := by simp [bl, hw]
        have e2 : bl false (c :: (r ++ 10 :: m)) = 1 + bl false (r ++ 10 :: m) := by simp [bl, hw]
        rw [List.cons_append, e1, e2, List.length_cons]
        exact key _ _ _ (ih false)
      · by_cases hc : c = 45 ∧ r.head? = some 45
        · have hc' : c = 45 ∧ (r ++ 10 :: m).head? = some 45 := ⟨hc.1, by cases r with | nil => simp at hc | cons d r => simpa using hc.2⟩
          have e1 : bl false (c :: r) = 1 + bl true r := by simp only [bl]; rw [if_neg hw, if_pos hc]
          have e2 : bl false (c :: (r ++ 10 :: m)) = 1 + bl true (r ++ 10 :: m) := by simp only [bl]; rw [if_neg hw, if_pos hc']
          rw [List.cons_append, e1, e2, List.length_cons]
          exact key _ _ _ (ih true)
        · have hc' : ¬ (c = 45 ∧ (r ++ 10 :: m).head? = some 45) := fun h => hc ⟨h.1, by cases r with | nil => simp at h | cons d r => simpa using h.2⟩
          have e1 : bl false (c :: r) = 0 := by simp only [bl]; rw [if_neg hw, if_neg hc]
          have e2 : bl false (c :: (r ++ 10 :: m)) = 0 := by simp only [bl]; rw [if_neg hw, if_neg hc']
          rw [List.cons_append, e1, e2, List.length_cons, if_neg (by omega)]
    · by_cases hw : c = 10
      · have e1 : bl true (c :: r) = 1 + bl false r := by simp [bl, hw]
        have e2 : bl true (c :: (r ++ 10 :: m)) = 1 + bl false (r ++ 10 :: m) := by simp [bl, hw]
        rw [List.cons_append, e1, e2, List.length_cons]
        exact key _ _ _ (ih false)
      · have e1 : bl true (c :: r) = 1 + bl true r := by simp [bl, hw]
        have e2 : bl true (c :: (r ++ 10 :: m)) = 1 + bl true (r ++ 10 :: m) := by simp [bl, hw]
        rw [List.cons_append, e1, e2, List.length_cons]
        exact key _ _ _ (ih true)
theorem txtR_join (l m : List UInt8) (p : List UInt8 × Nat) (h : txtR l = some p) : txtR (l ++ 10 :: m) = some p := by
  match l with
  | [] => simp [txtR] at h
  | [c] =>
    by_cases hc : c = 39
    · simp [txtR, hc] at h ⊢
      exact h
    · simp [txtR, hc] at h
  | c :: d :: r' =>
    simp only [List.cons_append]
    unfold txtR at h ⊢
    by_cases hc : c = 39
    · rw [if_pos hc] at h ⊢
      simp only at h ⊢
      by_cases hd : d = 39
      · rw [if_pos hd, Option.map_eq_some_iff] at h
        obtain ⟨q, hq, rfl⟩ := h
        rw [if_pos hd, txtR_join r' m q hq]
        rfl
      · rw [if_neg hd] at h ⊢
        exact h
    · rw [if_neg hc, Option.map_eq_some_iff] at h
      obtain ⟨q, hq, rfl⟩ := h
      have := txtR_join (d :: r') m q hq
      rw [List.cons_append] at this
      rw [if_neg hc, this]
      rfl
theorem blbR_join (l m : List UInt8) (p : List UInt8 × Nat) (h : blbR l = some p) : blbR (l ++ m) = some p := by
  match l with
  | [] => simp [blbR] at h
  | [c] =>
    by_cases hc : c = 39
    · subst hc
      simp [blbR] at h
      subst h
      cases m <;> simp [blbR]
    · simp [blbR, hc] at h
  | c :: d :: r' =>
    simp only [List.cons_append]
    unfold blbR at h ⊢
    by_cases hc : c = 39
    · rw [if_pos hc] at h ⊢
      exact h
    · rw [if_neg hc] at h ⊢
      simp only [Option.bind_eq_some_iff, Option.map_eq_some_iff] at h ⊢
      obtain ⟨x, hx, y, hy, q, hq, rfl⟩ := h
      exact ⟨x, hx, y, hy, q, blbR_join r' m q hq, rfl⟩
theorem numV_join (n : Nat) (l m : List UInt8) : numV n (l ++ 10 :: m) = numV n l := by
  induction l generalizing n with
  | nil => simp [numV, isDig]
  | cons c r ih =>
    simp only [List.cons_append, numV]
    by_cases hc : isDig c = true
    · rw [if_pos hc, if_pos hc, ih]
    · rw [if_neg hc, if_neg hc]
theorem wLen_join (l m : List UInt8) : wLen (l ++ 10 :: m) = wLen l := by
  unfold wLen
  induction l with
  | nil => simp [isWch, isLet, isDig]
  | cons c r ih =>
    rw [List.cons_append]
    by_cases hc : isWch c = true
    · rw [List.takeWhile_cons_of_pos hc, List.takeWhile_cons_of_pos hc, List.length_cons, List.length_cons, ih]
    · rw [List.takeWhile_cons_of_neg hc, List.takeWhile_cons_of_neg hc]
theorem sgn_join (l m : List UInt8) (hl : l ≠ []) : sgn (l ++ 10 :: m) = sgn l := by
  match l with
  | [] => exact absurd rfl hl
  | [c] => simp [sgn, signs, List.isPrefixOf, List.find?]
  | c :: d :: r => simp [sgn, signs, List.isPrefixOf, List.find?]
theorem headIs_join {l m : List UInt8} (f : UInt8 → Bool) (hf : f 10 = false) : headIs (l ++ 10 :: m) f = headIs l f := by
  cases l with
  | nil => simpa [headIs] using hf
  | cons c r => rfl
theorem oneT_join {l : List UInt8} {t : Tk} (m : List UInt8) (h : oneT l = some t) : oneT (l ++ 10 :: m) = some t := by
  cases l with
  | nil => simp [oneT] at h
  | cons c r =>
    have hlen := oneT_len h
    have ew := wLen_join (c :: r) m
    have es := sgn_join (c :: r) m (by simp)
    have en := numV_join 0 (c :: r) m
    simp only [List.cons_append] at ew es en ⊢
    simp only [oneT] at h ⊢
    by_cases h1 : (c = 120 ∨ c = 88) ∧ r.head? = some 39
    · have h1' : (c = 120 ∨ c = 88) ∧ (r ++ 10 :: m).head? = some 39 := ⟨h1.1, by cases r with | nil => simp at h1 | cons d r => simpa using h1.2⟩
      rw [if_pos h1, Option.map_eq_some_iff] at h
      obtain ⟨p, hp, rfl⟩ := h
      have e : (r ++ 10 :: m).tail = r.tail ++ 10 :: m := by cases r with | nil => simp at h1 | cons d r => rfl
      rw [if_pos h1', e, blbR_join _ _ p hp]
      rfl
    · have h1' : ¬ ((c = 120 ∨ c = 88) ∧ (r ++ 10 :: m).head? = some 39) := fun h => h1 ⟨h.1, by cases r with | nil => simp at h | cons d r => simpa using h.2⟩
      rw [if_neg h1] at h
      rw [if_neg h1']
      by_cases h2 : isLet c = true
      · rw [if_pos h2] at h ⊢
        rw [ew]
        split at h
        · rename_i h3
          rw [if_pos h3, ← h]
          have hw : wLen (c :: r) ≤ (c :: r).length := (List.takeWhile_sublist (p := isWch)).length_le
          have := List.take_append_of_le_length (l₂ := 10 :: m) hw
          rw [List.cons_append] at this
          rw [this]
        · cases h
      · rw [if_neg h2] at h ⊢
        by_cases h3 : isDig c = true
        · rw [if_pos h3] at h ⊢
          rw [en]
          rw [Option.bind_eq_some_iff] at h ⊢
          obtain ⟨p, hp, h⟩ := h
          refine ⟨p, hp, ?_⟩
          have hl := (numV_len 0 _ p hp).2
          have := List.drop_append_of_le_length (l₂ := 10 :: m) hl
          rw [List.cons_append] at this
          rw [this, headIs_join isLet (by decide)]
          exact h
        · rw [if_neg h3] at h ⊢
          by_cases h4 : c = 39
          · rw [if_pos h4, Option.map_eq_some_iff] at h
            obtain ⟨p, hp, rfl⟩ := h
            rw [if_pos h4, txtR_join r m p hp]
            rfl
          · rw [if_neg h4] at h ⊢
            rw [es]
            exact h
/-- Two statements with a line's end between. -/
theorem cut_join (m : List UInt8) (l : List UInt8) : ∀ p us, cutP p l = .ok (us ++ [⟨6, [], 0, p + l.length⟩]) → ∀ ts, cutP (p + l.length + 1) m = .ok ts → cutP p (l ++ 10 :: m) = .ok (us ++ ts) := by
  refine cut_ind (P := fun l => ∀ p us, cutP p l = .ok (us ++ [⟨6, [], 0, p + l.length⟩]) → ∀ ts, cutP (p + l.length + 1) m = .ok ts → cutP p (l ++ 10 :: m) = .ok (us ++ ts)) (fun l ih p us h ts hm => ?_) l
  have hb := bl_le false l
  have hj := bl_join false l m
  rw [cutP_eq p l] at h
  by_cases hl : l.drop (bl false l) = []
  · rw [if_pos hl] at h
    rw [if_pos (drop_end hl)] at hj
    injection h with h
    have hu : us = [] := by
      have := congrArg List.length h
      simp at this
      exact this
    subst hu
    have hs := cutP_skip (p + l.length + 1) m
    have e : (l ++ 10 :: m).drop (bl false (l ++ 10 :: m)) = m.drop (bl false m) := by
      rw [hj, Nat.add_assoc, ← List.drop_drop, List.drop_append_of_le_length (Nat.le_refl _)]
      simp [Nat.add_comm 1]
    rw [← cutP_skip p (l ++ 10 :: m), e, hj, List.nil_append, ← hm, ← hs]
    congr 1
    omega
  · rw [if_neg hl] at h
    rw [if_neg (fun he => hl (by rw [he]; exact List.drop_of_length_le (Nat.le_refl _)))] at hj
    cases ho : oneT (l.drop (bl false l)) with
    | none => rw [ho] at h; cases h
    | some t =>
      rw [ho] at h
      simp only at h
      have hn := oneT_len ho
      rw [List.length_drop] at hn
      cases hc : cutP (p + bl false l + t.n) (l.drop (bl false l + t.n)) with
      | error q => rw [hc] at h; cases h
      | ok vs =>
        rw [hc] at h
        simp only at h
        injection h with h
        have hdl : (l.drop (bl false l + t.n)).length = l.length - (bl false l + t.n) := List.length_drop
        have hpl : p + bl false l + t.n + (l.drop (bl false l + t.n)).length = p + l.length := by rw [hdl]; omega
        cases us with
        | nil =>
          simp at h
          obtain ⟨⟨ws, h1⟩, -⟩ := cut_parts _ _ _ hc
          rw [h.2] at h1
          have := congrArg List.length h1
          simp at this
        | cons u us =>
          simp only [List.cons_append, List.cons.injEq] at h
          obtain ⟨rfl, rfl⟩ := h
          have e1 : (l ++ 10 :: m).drop (bl false l) = l.drop (bl false l) ++ 10 :: m := List.drop_append_of_le_length hb
          have e2 : (l ++ 10 :: m).drop (bl false l + t.n) = l.drop (bl false l + t.n) ++ 10 :: m := List.drop_append_of_le_length (by omega)
          have h5 := ih t hl ho _ us (by rw [hc, hpl]) ts (by rw [hpl]; exact hm)
          rw [cutP_eq p (l ++ 10 :: m), hj, e1, if_neg (by simp), oneT_join m ho]
          simp only
          rw [e2, h5]
          rfl
/-- Bytes as a text, each quote twice; as a blob, two digits each. -/
def quo (l : List UInt8) : List UInt8 := l.flatMap fun c => if c = 39 then [39, 39] else [c]
def digB (a : Nat) : UInt8 := if a < 10 then UInt8.ofNat (48 + a) else UInt8.ofNat (55 + a)
def digS (a : Nat) : UInt8 := if a < 10 then UInt8.ofNat (48 + a) else UInt8.ofNat (87 + a)
def hexL (l : List UInt8) : List UInt8 := l.flatMap fun c => [digB (c.toNat / 16), digS (c.toNat % 16)]
theorem txtR_quo (l r : List UInt8) (hr : r.head? ≠ some 39) : txtR (quo l ++ 39 :: r) = some (l, (quo l).length + 1) := by
  induction l with
  | nil =>
    cases r with
    | nil => simp [quo, txtR]
    | cons d r =>
      have hd : d ≠ 39 := fun h => hr (by simp [h])
      simp [quo, txtR, hd]
  | cons c l ih =>
    have e : quo (c :: l) = (if c = 39 then [39, 39] else [c]) ++ quo l := rfl
    rw [e]
    by_cases hc : c = 39
    · subst hc
      simp only [if_true, List.cons_append, List.nil_append, txtR, ih]
      simp
    · simp only [if_neg hc, List.cons_append, List.nil_append]
      conv => lhs; unfold txtR
      rw [if_neg hc, ih]
      simp
theorem hexV_B {a : Nat} (h : a < 16) : hexV (digB a) = some a ∧ digB a ≠ 39 := by
  have : a = 0 ∨ a = 1 ∨ a = 2 ∨ a = 3 ∨ a = 4 ∨ a = 5 ∨ a = 6 ∨ a = 7 ∨ a = 8 ∨ a = 9 ∨ a = 10 ∨ a = 11 ∨ a = 12 ∨ a = 13 ∨ a = 14 ∨ a = 15 := by omega
  rcases this with rfl | rfl | rfl | rfl | rfl | rfl | rfl | rfl | rfl | rfl | rfl | rfl | rfl | rfl | rfl | rfl <;> decide
theorem hexV_S {a : Nat} (h : a < 16) : hexV (digS a) = some a := by
  have : a = 0 ∨ a = 1 ∨ a = 2 ∨ a = 3 ∨ a = 4 ∨ a = 5 ∨ a = 6 ∨ a = 7 ∨ a = 8 ∨ a = 9 ∨ a = 10 ∨ a = 11 ∨ a = 12 ∨ a = 13 ∨ a = 14 ∨ a = 15 := by omega
  rcases this with rfl | rfl | rfl | rfl | rfl | rfl | rfl | rfl | rfl | rfl | rfl | rfl | rfl | rfl | rfl | rfl <;> decide
theorem blbR_hex (l r : List UInt8) : blbR (hexL l ++ 39 :: r) = some (l, (hexL l).length + 1) := by
  induction l with
  | nil => cases r <;> simp [hexL, blbR]
  | cons c l ih =>
    have hc := c.toNat_lt
    have e : hexL (c :: l) = [digB (c.toNat / 16), digS (c.toNat % 16)] ++ hexL l := rfl
    obtain ⟨h1, h2⟩ := hexV_B (a := c.toNat / 16) (by omega)
    have h3 := hexV_S (a := c.toNat % 16) (by omega)
    rw [e]
    simp only [List.cons_append, List.nil_append]
    conv => lhs; unfold blbR
    rw [if_neg h2, h1]
    simp only [Option.bind_some, h3, ih, Option.map_some, List.length_cons]
    have : UInt8.ofNat (16 * (c.toNat / 16) + c.toNat % 16) = c := by
      rw [Nat.div_add_mod]
      simp
    rw [this]
theorem quo_len (l : List UInt8) : (quo l).length ≤ 2 * l.length := by
  induction l with
  | nil => simp [quo]
  | cons c l ih =>
    have e : quo (c :: l) = (if c = 39 then [39, 39] else [c]) ++ quo l := rfl
    rw [e]
    split <;> simp <;> omega
theorem hexL_len (l : List UInt8) : (hexL l).length = 2 * l.length := by
  induction l with
  | nil => rfl
  | cons c l ih =>
    have e : hexL (c :: l) = [digB (c.toNat / 16), digS (c.toNat % 16)] ++ hexL l := rfl
    rw [e]
    simp [ih]
    omega
/-- A text's bytes and a blob's, one behind the other, cut again. -/
theorem cut_texts (l : List UInt8) : cutP 0 (39 :: (quo l ++ 39 :: 88 :: 39 :: (hexL l ++ [39]))) = .ok [⟨3, l, 0, 0⟩, ⟨4, l, 0, (quo l).length + 2⟩, ⟨6, [], 0, (quo l).length + 2 + (hexL l).length + 3⟩] := by
  have hz : ∀ x : List UInt8, bl false (39 :: x) = 0 := fun x => by simp [bl, isWs]
  have hz2 : ∀ x : List UInt8, bl false (88 :: x) = 0 := fun x => by simp [bl, isWs]
  have o1 : oneT (39 :: (quo l ++ 39 :: 88 :: 39 :: (hexL l ++ [39]))) = some ⟨3, l, 0, (quo l).length + 2⟩ := by
    simp only [oneT]
    rw [if_neg (show ¬ (((39 : UInt8) = 120 ∨ (39 : UInt8) = 88) ∧ _) from fun h => absurd h.1 (by decide)), if_neg (show ¬ (isLet 39 = true) by decide), if_neg (show ¬ (isDig 39 = true) by decide), if_pos trivial, txtR_quo l _ (by simp)]
    rfl
  have o2 : oneT (88 :: 39 :: (hexL l ++ [39])) = some ⟨4, l, 0, (hexL l).length + 3⟩ := by
    simp only [oneT]
    rw [if_pos (show (((88 : UInt8) = 120 ∨ True) ∧ (39 :: (hexL l ++ [39])).head? = some 39) from ⟨Or.inr trivial, rfl⟩), List.tail_cons, blbR_hex]
    rfl
  have d1 : (39 :: (quo l ++ 39 :: 88 :: 39 :: (hexL l ++ [39]))).drop ((quo l).length + 2) = 88 :: 39 :: (hexL l ++ [39]) := by
    rw [show (quo l).length + 2 = ((quo l).length + 1) + 1 by omega, List.drop_succ_cons, ← List.drop_drop, List.drop_append_of_le_length (Nat.le_refl _)]
    simp
  have d2 : (88 :: 39 :: (hexL l ++ [39])).drop ((hexL l).length + 3) = [] := by
    rw [show (hexL l).length + 3 = ((hexL l).length + 1) + 1 + 1 by omega, List.drop_succ_cons, List.drop_succ_cons, ← List.drop_drop, List.drop_append_of_le_length (Nat.le_refl _)]
    simp
  rw [cutP_eq, hz, List.drop_zero, if_neg (by simp), o1]
  simp only [Nat.zero_add]
  rw [d1, cutP_eq, hz2, List.drop_zero, if_neg (by simp), o2]
  simp only [Nat.zero_add, Nat.add_zero]
  rw [d2, cutP_eq]
  simp [bl]
  omega
end Go.Proofs.YtjnecobamobieaaDoor
