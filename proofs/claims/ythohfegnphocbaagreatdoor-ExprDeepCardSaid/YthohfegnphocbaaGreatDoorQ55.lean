/- Plain: what is read has no more parts than there are tokens that were read. No condition. -/
import Derived.Test.YthohfegnphocbaaGreatDoorQ08
import Derived.Test.YthohfegnphocbaaGreatDoorQ07
namespace Go.Proofs.YthohfegnphocbaaGreatDoor
def Dq {α : Type} (g : α → Nat) (D : Nat) (r : R α) : Prop := ∀ a m, r = okR a m → g a ≤ D + m
section
variable {α β : Type} {g : α → Nat} {h : β → Nat} {D : Nat}
theorem dq_ok {a : α} {m : Nat} (hd : g a ≤ D + m) : Dq g D (okR a m) := by
  intro a' m' e
  simp only [okR, Option.some.injEq, Except.ok.injEq, Prod.mk.injEq] at e
  obtain ⟨rfl, rfl⟩ := e
  exact hd
theorem dq_bad (p : Nat) : Dq g D (badR p) := by
  intro a m e
  simp [okR, badR] at e
theorem dq_none : Dq g D none := by
  intro a m e
  simp [okR] at e
theorem dq_seq {r : R α} {k : α → Nat → R β} (hk : ∀ a m, r = okR a m → Dq h (D + m) (k a m)) : Dq h D (seqR r k) := by
  intro b q e
  rcases r with - | (p | ⟨a, m⟩)
  · simp [seqR, okR] at e
  · simp [seqR, okR] at e
  · have h1 := hk a m rfl
    simp only [seqR] at e
    rcases hka : k a m with - | (p | ⟨b', q'⟩)
    · rw [hka] at e; simp [okR] at e
    · rw [hka] at e; simp [okR] at e
    · rw [hka] at e
      simp only [okR, Option.some.injEq, Except.ok.injEq, Prod.mk.injEq] at e
      obtain ⟨rfl, rfl⟩ := e
      have := h1 b' q' hka
      omega
theorem dq_one {k : Unit → Nat → R β} (hk : Dq h (D + 1) (k () 1)) : Dq h D (seqR (okR () 1) k) := by
  refine dq_seq fun a m e => ?_
  simp only [okR, Option.some.injEq, Except.ok.injEq, Prod.mk.injEq] at e
  obtain ⟨-, rfl⟩ := e
  exact hk
theorem dq_if {c : Prop} [Decidable c] {r r' : R α} (h1 : Dq g D r) (h2 : Dq g D r') : Dq g D (if c then r else r') := by
  by_cases hc : c
  · rw [if_pos hc]; exact h1
  · rw [if_neg hc]; exact h2
theorem need_one {s : List UInt8} {l : List T} {a : Unit} {m : Nat} (e : needR s l = okR a m) : m = 1 := by
  unfold needR at e
  split at e
  · simp only [okR, Option.some.injEq, Except.ok.injEq, Prod.mk.injEq] at e; exact e.2.symm
  · simp [badR, okR] at e
theorem name_one {res : List UInt8 → Bool} {l : List T} {a : List UInt8} {m : Nat} (e : nameR res l = okR a m) : m = 1 := by
  unfold nameR at e
  split at e
  · simp only [okR, Option.some.injEq, Except.ok.injEq, Prod.mk.injEq] at e; exact e.2.symm
  · simp [badR, okR] at e
end
theorem size_op1 (o : List UInt8) (l : List E) : (op1 o l).size = E.sizeL l + 1 := rfl
theorem size_call1 (o : List UInt8) (l : List E) : (call1 o l).size = E.sizeL l + 1 := rfl
theorem size_lit (v : Vl) : (lit v).size = 1 := rfl
theorem size_col (t n : List UInt8) : (col t n).size = 1 := rfl
theorem dqs (res : List UInt8 → Bool) (f : Nat) :
    (∀ n l, Dq E.size 0 (pLine res f n l)) ∧ (∀ n a l D, a.size ≤ D → Dq E.size D (pMore res f n a l)) ∧
    (∀ a l D, a.size ≤ D → Dq E.size D (pRel res f a l)) ∧ (∀ a l r D, a.size ≤ D → pThree res f a l = some r → Dq E.size D r) ∧
    (∀ l, Dq E.sizeL 0 (pList res f l)) ∧ (∀ l, Dq E.size 0 (pPrim res f l)) := by
  induction f with
  | zero =>
    refine ⟨fun n l => ?_, fun n a l D _ => ?_, fun a l D _ => ?_, fun a l r D _ h => ?_, fun l => ?_, fun l => ?_⟩
    · simp only [pLine]; exact dq_none
    · simp only [pMore]; exact dq_none
    · simp only [pRel]; exact dq_none
    · simp only [pThree, Option.some.injEq] at h; subst h; exact dq_none
    · simp only [pList]; exact dq_none
    · simp only [pPrim]; exact dq_none
  | succ f ih =>
    obtain ⟨hl, hm, hr, ht, hs, hp⟩ := ih
    refine ⟨fun n l => ?_, fun n a l D ha => ?_, fun a l D ha => ?_, fun a l r D ha h => ?_, fun l => ?_, fun l => ?_⟩
    · by_cases h3 : n = 3
      · subst h3; rw [pLine]
        refine dq_if (dq_one (dq_seq fun x m e => dq_ok ?_)) (hl _ _)
        have := hl _ _ x m e
        rw [size_op1]; simp only [E.sizeL]; omega
      by_cases h4 : n = 4
      · subst h4; rw [pLine]
        exact dq_seq fun a m e => hr _ _ _ (hl _ _ a m e)
      by_cases h8 : n = 8
      · subst h8; rw [pLine]
        refine dq_if (dq_one (dq_if (dq_ok (by rw [size_lit]; omega)) (dq_seq fun x m e => dq_ok ?_))) (hl _ _)
        have := hl _ _ x m e
        rw [size_op1]; simp only [E.sizeL]; omega
      by_cases h9 : n = 9
      · subst h9; rw [pLine]
        exact hp _
      rw [pLine.eq_6 res n l f h3 h4 h8 h9]
      exact dq_seq fun a m e => hm _ _ _ _ (hl _ _ a m e)
    · rw [pMore]
      cases ho : opAt n l with
      | none => exact dq_ok (by omega)
      | some w =>
        refine dq_one (dq_seq fun b m e => hm _ _ _ _ ?_)
        have := hl _ _ b m e
        rw [size_op1]; simp only [E.sizeL]; omega
    · rw [pRel]
      cases ho : relAt l with
      | some w =>
        refine dq_one (dq_seq fun b m e => dq_ok ?_)
        have := hl _ _ b m e
        rw [size_op1]; simp only [E.sizeL]; omega
      | none =>
        refine dq_if (dq_one (dq_if (dq_one (dq_seq fun u m e => dq_ok ?_)) (dq_seq fun u m e => dq_ok ?_))) (dq_if (dq_one ?_) ?_)
        · have := need_one e
          rw [size_op1]; simp only [E.sizeL]; omega
        · have := need_one e
          rw [size_op1]; simp only [E.sizeL]; omega
        · cases h3 : pThree res f a (l.drop 1) with
          | none => exact dq_bad _
          | some r =>
            refine dq_seq fun x m e => dq_ok ?_
            have := ht _ _ _ _ ha h3 x m e
            rw [size_op1]; simp only [E.sizeL]; omega
        · cases h3 : pThree res f a l with
          | none => exact dq_ok (by omega)
          | some r => exact ht _ _ _ _ ha h3
    · rw [pThree] at h
      by_cases c1 : isS wLike l = true
      · simp only [if_pos c1, Option.some.injEq] at h; subst h
        refine dq_one (dq_seq fun b m e => dq_ok ?_)
        have := hl _ _ b m e
        rw [size_op1]; simp only [E.sizeL]; omega
      by_cases c2 : isS wIn l = true
      · simp only [if_neg c1, if_pos c2, Option.some.injEq] at h; subst h
        refine dq_one (dq_seq fun _ m1 _ => dq_seq fun xs m e => dq_seq fun _ m2 _ => dq_ok ?_)
        have := hs _ xs m e
        rw [size_op1]; simp only [E.sizeL]; omega
      by_cases c3 : isS wBetween l = true
      · simp only [if_neg c1, if_neg c2, if_pos c3, Option.some.injEq] at h; subst h
        refine dq_one (dq_seq fun b m e => dq_seq fun _ m1 _ => dq_seq fun c m2 e2 => dq_ok ?_)
        have := hl _ _ b m e
        have := hl _ _ c m2 e2
        rw [size_op1]; simp only [E.sizeL]; omega
      simp only [if_neg c1, if_neg c2, if_neg c3] at h; cases h
    · rw [pList]
      refine dq_seq fun x m e => dq_if (dq_one (dq_seq fun xs m2 e2 => dq_ok ?_)) (dq_ok ?_)
      · have := hl _ _ x m e
        have := hs _ xs m2 e2
        simp only [E.sizeL]; omega
      · have := hl _ _ x m e
        simp only [E.sizeL]; omega
    · rw [pPrim]
      refine dq_if (dq_ok (by rw [size_lit]; omega)) (dq_if (dq_ok (by rw [size_lit]; omega)) (dq_if (dq_ok (by rw [size_lit]; omega)) (dq_if (dq_ok (by rw [size_lit]; omega)) (dq_if (dq_ok (by rw [size_lit]; omega)) (dq_if (dq_ok (by rw [size_lit]; omega)) (dq_if ?_ ?_))))))
      · refine dq_one (dq_seq fun x m e => dq_seq fun _ m2 _ => dq_ok ?_)
        have := hl _ _ x m e
        omega
      · refine dq_seq fun n m e => dq_if (dq_one (dq_seq fun c m2 _ => dq_ok ?_)) (dq_if (dq_one (dq_if (dq_ok ?_) (dq_if (dq_one (dq_seq fun _ m2 _ => dq_ok ?_)) (dq_seq fun xs m2 e2 => dq_seq fun _ m3 _ => dq_ok ?_)))) (dq_ok ?_))
        · have := name_one e
          rw [size_col]; omega
        · have := name_one e
          rw [size_call1]; simp only [E.sizeL]; omega
        · have := name_one e
          rw [size_call1]; simp only [E.sizeL, star, size_op1]; omega
        · have := name_one e
          have := hs _ xs m2 e2
          rw [size_call1]; omega
        · have := name_one e
          rw [size_col]; omega
theorem ln_size {res : List UInt8 → Bool} {n : Nat} {l : List T} {a : E} {m : Nat} (h1 : 1 ≤ n) (h9 : n ≤ 9) (h : ln res n l = .ok (a, m)) : a.size ≤ l.length := by
  obtain ⟨f, hf⟩ := lm_line res l h1 h9
  have := hf f (Nat.le_refl _)
  rw [h] at this
  have h2 := (dqs res f).1 n l a m this
  have h3 := (fit_line res this).2
  have h4 := ahd_le l
  omega
theorem ln_deep {res : List UInt8 → Bool} {n : Nat} {l : List T} {a : E} {m : Nat} (h1 : 1 ≤ n) (h9 : n ≤ 9) (h : ln res n l = .ok (a, m)) : a.deep ≤ l.length :=
  Nat.le_trans (deep_size a) (ln_size h1 h9 h)
end Go.Proofs.YthohfegnphocbaaGreatDoor
