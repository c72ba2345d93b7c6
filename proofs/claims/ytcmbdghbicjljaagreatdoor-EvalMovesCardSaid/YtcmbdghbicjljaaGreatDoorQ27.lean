/- Plain facts on expressions (no program): what is read of some tokens is read of them too where others stand behind that go on with nothing. No condition. -/
import Derived.Test.YtcmbdghbicjljaaGreatDoorQ06
import Derived.Test.YtcmbdghbicjljaaGreatDoorQ07
namespace Go.Proofs.YtcmbdghbicjljaaGreatDoor
def Halt (r : List T) : Prop := lineOf (here r) < 1 ∧ isS [44] r = false
theorem here_app {l : List T} (h : l ≠ []) (r : List T) : here (l ++ r) = here l := by
  cases l with
  | nil => exact absurd rfl h
  | cons t l => rfl
theorem isS_app {l : List T} (h : l ≠ []) (s : List UInt8) (r : List T) : isS s (l ++ r) = isS s l := by unfold isS; rw [here_app h]
theorem isNm_app {l : List T} (h : l ≠ []) (res : List UInt8 → Bool) (r : List T) : isNm res (l ++ r) = isNm res l := by unfold isNm; rw [here_app h]
theorem drop_in {l r : List T} {m : Nat} (h : m ≤ l.length) : (l ++ r).drop m = l.drop m ++ r := List.drop_append_of_le_length h
theorem seq_inv {α β : Type} {r : R α} {k : α → Nat → R β} {b : β} {q : Nat} (h : seqR r k = okR b q) : ∃ a m j, r = okR a m ∧ k a m = okR b j ∧ q = m + j := by
  rcases r with - | (p | ⟨a, m⟩)
  · cases h
  · cases h
  · simp only [seqR] at h
    cases hk : k a m with
    | none => rw [hk] at h; cases h
    | some x =>
      rcases x with p | ⟨c, j⟩
      · rw [hk] at h; cases h
      · rw [hk] at h; cases h; exact ⟨a, m, j, rfl, hk, rfl⟩
section
variable {res : List UInt8 → Bool}
structure Local (f : Nat) (r r' : List T) : Prop where
  line : ∀ n l a m, 1 ≤ n → pLine res f n (l ++ r) = okR a m → m ≤ l.length → pLine res f n (l ++ r') = okR a m
  more : ∀ n x l a m, 1 ≤ n → pMore res f n x (l ++ r) = okR a m → m ≤ l.length → pMore res f n x (l ++ r') = okR a m
  rel : ∀ x l a m, pRel res f x (l ++ r) = okR a m → m ≤ l.length → pRel res f x (l ++ r') = okR a m
  three : ∀ x l y a m, pThree res f x (l ++ r) = some y → y = okR a m → m ≤ l.length → pThree res f x (l ++ r') = some (okR a m)
  three0 : ∀ x l, pThree res f x (l ++ r) = none → pThree res f x (l ++ r') = none
  list : ∀ l a m, pList res f (l ++ r) = okR a m → m ≤ l.length → pList res f (l ++ r') = okR a m
  prim : ∀ l a m, pPrim res f (l ++ r) = okR a m → m ≤ l.length → pPrim res f (l ++ r') = okR a m
theorem no_look {l r r' : List T} {s : List UInt8} (h : isS s (l ++ r) = false) (hs : isS s r' = false) : isS s (l ++ r') = false := by
  by_cases hl : l = []
  · subst hl; exact hs
  · rw [isS_app hl] at h ⊢; exact h
theorem look {l r r' : List T} {s : List UInt8} (h : isS s (l ++ r) = true) (hl : 1 ≤ l.length) : isS s (l ++ r') = true := by
  have hl : l ≠ [] := by rintro rfl; simp at hl
  rw [isS_app hl] at h ⊢; exact h
theorem need_inv {s : List UInt8} {l : List T} {u : Unit} {m : Nat} (h : needR s l = okR u m) : isS s l = true ∧ m = 1 := by
  unfold needR at h; split at h
  · rename_i h'; cases h; exact ⟨h', rfl⟩
  · cases h
theorem name_inv {l : List T} {n : List UInt8} {m : Nat} (h : nameR res l = okR n m) : isNm res l = true ∧ m = 1 ∧ n = (here l).s := by
  unfold nameR at h; split at h
  · rename_i h'; cases h; exact ⟨h', rfl, rfl⟩
  · cases h
theorem ok_inj {α : Type} {a b : α} {m j : Nat} (h : okR a m = okR b j) : a = b ∧ m = j := by cases h; exact ⟨rfl, rfl⟩
theorem one_inv {β : Type} {k : Unit → Nat → R β} {b : β} {q : Nat} (h : seqR (okR () 1) k = okR b q) : ∃ j, k () 1 = okR b j ∧ q = 1 + j := by
  obtain ⟨a, m, j, h1, h2, h3⟩ := seq_inv h
  cases h1; exact ⟨j, h2, h3⟩
theorem fit_ln {f n : Nat} {l : List T} {a : E} {m : Nat} (h : pLine res f n l = okR a m) : 1 ≤ m := (fit_line res h).1
theorem fit_ls {f : Nat} {l : List T} {a : List E} {m : Nat} (h : pList res f l = okR a m) : 1 ≤ m := (fit_list res h).1
theorem halt_op {n : Nat} {l r r' : List T} (hr : Halt r') (hn : 1 ≤ n) (h : opAt n (l ++ r) = none) : opAt n (l ++ r') = none := by
  by_cases hl : l = []
  · subst hl; exact opAt_none (by have := hr.1; show lineOf (here r') < n; omega)
  · unfold opAt at h ⊢; simp only [isS_app hl] at h ⊢; exact h
theorem halt_op' {n : Nat} {l r r' : List T} {w : List UInt8} (hl : 1 ≤ l.length) (h : opAt n (l ++ r) = some w) : opAt n (l ++ r') = some w := by
  have hl : l ≠ [] := by rintro rfl; simp at hl
  unfold opAt at h ⊢; simp only [isS_app hl] at h ⊢; exact h
theorem halt_rel {l r r' : List T} (hr : Halt r') (h : relAt (l ++ r) = none) : relAt (l ++ r') = none := by
  by_cases hl : l = []
  · subst hl; exact relAt_none (by have := hr.1; show lineOf (here r') < 4; omega)
  · unfold relAt at h ⊢; simp only [isS_app hl] at h ⊢; exact h
theorem halt_rel' {l r r' : List T} {w : List UInt8} (hl : 1 ≤ l.length) (h : relAt (l ++ r) = some w) : relAt (l ++ r') = some w := by
  have hl : l ≠ [] := by rintro rfl; simp at hl
  unfold relAt at h ⊢; simp only [isS_app hl] at h ⊢; exact h
theorem local_line {f : Nat} {r r' : List T} (ih : Local (res := res) f r r') (n : Nat) (l : List T) (a : E) (m : Nat) (hn : 1 ≤ n) (e : pLine res (f + 1) n (l ++ r) = okR a m) (hm : m ≤ l.length) : pLine res (f + 1) n (l ++ r') = okR a m := by
  have hl1 : 1 ≤ l.length := by have := fit_ln e; omega
  have hlne : l ≠ [] := by rintro rfl; simp at hl1
  by_cases h3 : n = 3
  · subst h3; rw [pLine] at e ⊢
    rw [isS_app hlne] at e ⊢
    split at e
    · rename_i h
      rw [if_pos h]
      obtain ⟨j, e1, rfl⟩ := one_inv e
      obtain ⟨x, m1, j1, e2, e3, rfl⟩ := seq_inv e1
      obtain ⟨rfl, rfl⟩ := ok_inj e3
      rw [drop_in hl1] at e2 ⊢
      rw [ih.line 3 _ _ _ (by omega) e2 (by rw [List.length_drop]; omega)]
      exact seq_ok (seq_ok rfl)
    · rename_i h
      rw [if_neg h]; exact ih.line 4 _ _ _ (by omega) e hm
  by_cases h4 : n = 4
  · subst h4; rw [pLine] at e ⊢
    obtain ⟨x, m1, j1, e2, e3, rfl⟩ := seq_inv e
    rw [ih.line 5 _ _ _ (by omega) e2 (by omega)]
    rw [drop_in (by omega)] at e3
    refine seq_ok ?_
    rw [drop_in (by omega)]
    exact ih.rel _ _ _ _ e3 (by rw [List.length_drop]; omega)
  by_cases h8 : n = 8
  · subst h8; rw [pLine] at e ⊢
    rw [isS_app hlne] at e ⊢
    split at e
    · rename_i h
      rw [if_pos h]
      obtain ⟨j, e1, rfl⟩ := one_inv e
      rw [drop_in hl1] at e1 ⊢
      have hd : l.drop 1 ≠ [] := by
        intro hd
        split at e1
        · obtain ⟨_, rfl⟩ := ok_inj e1
          have := congrArg List.length hd
          rw [List.length_drop] at this
          simp at this; omega
        · obtain ⟨x, m1, j1, e2, e3, rfl⟩ := seq_inv e1
          have := fit_ln e2
          have h' := congrArg List.length hd
          rw [List.length_drop] at h'
          simp at h'; omega
      rw [here_app hd] at e1 ⊢
      refine seq_ok ?_
      split at e1
      · rename_i h'; rw [if_pos h']; exact e1
      · rename_i h'; rw [if_neg h']
        obtain ⟨x, m1, j1, e2, e3, rfl⟩ := seq_inv e1
        rw [ih.line 8 _ _ _ (by omega) e2 (by rw [List.length_drop]; omega)]
        exact seq_ok e3
    · rename_i h
      rw [if_neg h]; exact ih.line 9 _ _ _ (by omega) e hm
  by_cases h9 : n = 9
  · subst h9; rw [pLine] at e ⊢
    exact ih.prim _ _ _ e hm
  rw [pLine.eq_6 res n _ f h3 h4 h8 h9] at e ⊢
  obtain ⟨x, m1, j1, e2, e3, rfl⟩ := seq_inv e
  rw [ih.line (n + 1) _ _ _ (by omega) e2 (by omega)]
  rw [drop_in (by omega)] at e3
  refine seq_ok ?_
  rw [drop_in (by omega)]
  exact ih.more _ _ _ _ _ hn e3 (by rw [List.length_drop]; omega)
theorem local_more {f : Nat} {r r' : List T} (hr : Halt r') (ih : Local (res := res) f r r') (n : Nat) (x : E) (l : List T) (a : E) (m : Nat) (hn : 1 ≤ n) (e : pMore res (f + 1) n x (l ++ r) = okR a m) (hm : m ≤ l.length) : pMore res (f + 1) n x (l ++ r') = okR a m := by
  rw [pMore] at e ⊢
  cases ho : opAt n (l ++ r) with
  | none => rw [ho] at e; rw [halt_op hr hn ho]; exact e
  | some w =>
    rw [ho] at e
    obtain ⟨j, e1, rfl⟩ := one_inv e
    obtain ⟨y, m1, j1, e2, e3, rfl⟩ := seq_inv e1
    rw [halt_op' (r' := r') (by omega) ho]
    rw [drop_in (by omega)] at e2 e3
    refine seq_ok ?_
    rw [drop_in (by omega), ih.line _ _ _ _ (by omega) e2 (by rw [List.length_drop]; omega)]
    refine seq_ok ?_
    rw [drop_in (by omega)]
    exact ih.more _ _ _ _ _ hn e3 (by rw [List.length_drop]; omega)
theorem local_list {f : Nat} {r r' : List T} (hr : Halt r') (ih : Local (res := res) f r r') (l : List T) (a : List E) (m : Nat) (e : pList res (f + 1) (l ++ r) = okR a m) (hm : m ≤ l.length) : pList res (f + 1) (l ++ r') = okR a m := by
  rw [pList] at e ⊢
  obtain ⟨x, m1, j1, e2, e3, rfl⟩ := seq_inv e
  rw [ih.line _ _ _ _ (by omega) e2 (by omega)]
  refine seq_ok ?_
  split at e3
  · rename_i h
    obtain ⟨j, e4, rfl⟩ := one_inv e3
    rw [drop_in (by omega)] at h ⊢
    rw [if_pos (look h (by rw [List.length_drop]; omega))]
    refine seq_ok ?_
    obtain ⟨ys, m2, j2, e5, e6, rfl⟩ := seq_inv e4
    rw [drop_in (by omega)] at e5 ⊢
    rw [ih.list _ _ _ e5 (by rw [List.length_drop]; omega)]
    exact seq_ok e6
  · rename_i h
    rw [Bool.not_eq_true, drop_in (by omega)] at h
    rw [drop_in (by omega), if_neg (by rw [no_look h hr.2]; decide)]
    exact e3
theorem halt4 {l r r' : List T} {s : List UInt8} (hr : Halt r') (hs : s ∈ rels ∨ s = wIs ∨ s = wNot ∨ s = wLike ∨ s = wIn ∨ s = wBetween) (h : isS s (l ++ r) = false) : isS s (l ++ r') = false :=
  no_look h (no4 (by have := hr.1; omega) s hs)
theorem local_three0 {f : Nat} {r r' : List T} (hr : Halt r') (x : E) (l : List T) (h : pThree res (f + 1) x (l ++ r) = none) : pThree res (f + 1) x (l ++ r') = none := by
  rw [pThree] at h ⊢
  by_cases c1 : isS wLike (l ++ r) = true
  · rw [if_pos c1] at h; cases h
  by_cases c2 : isS wIn (l ++ r) = true
  · rw [if_neg c1, if_pos c2] at h; cases h
  by_cases c3 : isS wBetween (l ++ r) = true
  · rw [if_neg c1, if_neg c2, if_pos c3] at h; cases h
  rw [Bool.not_eq_true] at c1 c2 c3
  rw [if_neg (by rw [halt4 hr (by decide) c1]; decide), if_neg (by rw [halt4 hr (by decide) c2]; decide), if_neg (by rw [halt4 hr (by decide) c3]; decide)]
theorem local_three {f : Nat} {r r' : List T} (hr : Halt r') (ih : Local (res := res) f r r') (x : E) (l : List T) (y : R E) (a : E) (m : Nat) (h : pThree res (f + 1) x (l ++ r) = some y) (e : y = okR a m) (hm : m ≤ l.length) : pThree res (f + 1) x (l ++ r') = some (okR a m) := by
  subst e
  rw [pThree] at h ⊢
  by_cases c1 : isS wLike (l ++ r) = true
  · rw [if_pos c1, Option.some.injEq] at h
    obtain ⟨j, e1, rfl⟩ := one_inv h
    rw [if_pos (look c1 (by omega))]
    obtain ⟨b, m1, j1, e2, e3, rfl⟩ := seq_inv e1
    obtain ⟨rfl, rfl⟩ := ok_inj e3
    rw [drop_in (by omega)] at e2
    rw [drop_in (by omega), ih.line _ _ _ _ (by omega) e2 (by rw [List.length_drop]; omega)]
    exact congrArg some (seq_ok (seq_ok rfl))
  by_cases c2 : isS wIn (l ++ r) = true
  · rw [if_neg c1, if_pos c2, Option.some.injEq] at h
    obtain ⟨j, e1, rfl⟩ := one_inv h
    rw [Bool.not_eq_true] at c1
    rw [if_neg (by rw [halt4 hr (by decide) c1]; decide), if_pos (look c2 (by omega))]
    obtain ⟨u, m1, j1, e2, e3, rfl⟩ := seq_inv e1
    obtain ⟨h2, rfl⟩ := need_inv e2
    obtain ⟨xs, m3, j3, e4, e5, rfl⟩ := seq_inv e3
    have := fit_ls e4
    obtain ⟨u', m5, j5, e6, e7, rfl⟩ := seq_inv e5
    obtain ⟨h6, rfl⟩ := need_inv e6
    obtain ⟨rfl, rfl⟩ := ok_inj e7
    rw [drop_in (by omega)] at h2 e4 h6
    refine congrArg some (seq_ok ?_)
    have n1 : needR [40] ((l ++ r').drop 1) = okR () 1 := by
      unfold needR; rw [drop_in (by omega), if_pos (look h2 (by rw [List.length_drop]; omega))]
    have n2 : needR [41] ((l ++ r').drop (2 + m3)) = okR () 1 := by
      unfold needR; rw [drop_in (by omega), if_pos (look h6 (by rw [List.length_drop]; omega))]
    rw [n1]
    refine seq_ok ?_
    rw [drop_in (by omega), ih.list _ _ _ e4 (by rw [List.length_drop]; omega)]
    refine seq_ok ?_
    rw [n2]
    exact seq_ok rfl
  by_cases c3 : isS wBetween (l ++ r) = true
  · rw [if_neg c1, if_neg c2, if_pos c3, Option.some.injEq] at h
    obtain ⟨j, e1, rfl⟩ := one_inv h
    rw [Bool.not_eq_true] at c1 c2
    rw [if_neg (by rw [halt4 hr (by decide) c1]; decide), if_neg (by rw [halt4 hr (by decide) c2]; decide), if_pos (look c3 (by omega))]
    obtain ⟨b, m1, j1, e2, e3, rfl⟩ := seq_inv e1
    obtain ⟨u, m3, j3, e4, e5, rfl⟩ := seq_inv e3
    obtain ⟨h4, rfl⟩ := need_inv e4
    obtain ⟨c, m5, j5, e6, e7, rfl⟩ := seq_inv e5
    obtain ⟨rfl, rfl⟩ := ok_inj e7
    have := fit_ln e6
    rw [drop_in (by omega)] at e2 h4 e6
    refine congrArg some (seq_ok ?_)
    have n1 : needR wAnd ((l ++ r').drop (1 + m1)) = okR () 1 := by
      unfold needR; rw [drop_in (by omega), if_pos (look h4 (by rw [List.length_drop]; omega))]
    have q1 := ih.line _ _ _ _ (by omega) e2 (by rw [List.length_drop]; omega)
    have q2 := ih.line _ _ _ _ (by omega) e6 (by rw [List.length_drop]; omega)
    rw [← drop_in (by omega)] at q1 q2
    rw [q1]
    refine seq_ok ?_
    rw [n1]
    refine seq_ok ?_
    rw [q2]
    exact seq_ok rfl
  rw [if_neg c1, if_neg c2, if_neg c3] at h; cases h
theorem local_rel {f : Nat} {r r' : List T} (hr : Halt r') (ih : Local (res := res) f r r') (x : E) (l : List T) (a : E) (m : Nat) (e : pRel res (f + 1) x (l ++ r) = okR a m) (hm : m ≤ l.length) : pRel res (f + 1) x (l ++ r') = okR a m := by
  rw [pRel] at e ⊢
  cases ho : relAt (l ++ r) with
  | some w =>
    rw [ho] at e
    obtain ⟨j, e1, rfl⟩ := one_inv e
    rw [halt_rel' (r' := r') (by omega) ho]
    obtain ⟨b, m1, j1, e2, e3, rfl⟩ := seq_inv e1
    obtain ⟨rfl, rfl⟩ := ok_inj e3
    rw [drop_in (by omega)] at e2
    have q := ih.line _ _ _ _ (by omega) e2 (by rw [List.length_drop]; omega)
    rw [← drop_in (by omega)] at q
    refine seq_ok ?_
    rw [q]
    exact seq_ok rfl
  | none =>
    rw [ho] at e
    rw [halt_rel hr ho]
    dsimp only at e ⊢
    by_cases c1 : isS wIs (l ++ r) = true
    · rw [if_pos c1] at e
      obtain ⟨j, e1, rfl⟩ := one_inv e
      rw [if_pos (look c1 (by omega))]
      refine seq_ok ?_
      by_cases c2 : isS wNot ((l ++ r).drop 1) = true
      · rw [if_pos c2] at e1
        obtain ⟨j1, e2, rfl⟩ := one_inv e1
        obtain ⟨u, m3, j3, e4, e5, rfl⟩ := seq_inv e2
        obtain ⟨h4, rfl⟩ := need_inv e4
        obtain ⟨rfl, rfl⟩ := ok_inj e5
        rw [drop_in (by omega)] at c2 h4
        have q1 : isS wNot ((l ++ r').drop 1) = true := by rw [drop_in (by omega)]; exact look c2 (by rw [List.length_drop]; omega)
        have q2 : needR wNull ((l ++ r').drop 2) = okR () 1 := by
          unfold needR; rw [drop_in (by omega), if_pos (look h4 (by rw [List.length_drop]; omega))]
        rw [if_pos q1, q2]
        exact seq_ok (seq_ok rfl)
      · rw [if_neg c2] at e1
        obtain ⟨u, m3, j3, e4, e5, rfl⟩ := seq_inv e1
        obtain ⟨h4, rfl⟩ := need_inv e4
        obtain ⟨rfl, rfl⟩ := ok_inj e5
        rw [Bool.not_eq_true, drop_in (by omega)] at c2
        rw [drop_in (by omega)] at h4
        have q1 : isS wNot ((l ++ r').drop 1) = false := by rw [drop_in (by omega)]; exact halt4 hr (by decide) c2
        have q2 : needR wNull ((l ++ r').drop 1) = okR () 1 := by
          unfold needR; rw [drop_in (by omega), if_pos (look h4 (by rw [List.length_drop]; omega))]
        rw [if_neg (by rw [q1]; decide), q2]
        exact seq_ok rfl
    · rw [if_neg c1] at e
      rw [Bool.not_eq_true] at c1
      rw [if_neg (by rw [halt4 hr (by decide) c1]; decide)]
      by_cases c2 : isS wNot (l ++ r) = true
      · rw [if_pos c2] at e
        obtain ⟨j, e1, rfl⟩ := one_inv e
        rw [if_pos (look c2 (by omega))]
        refine seq_ok ?_
        rw [drop_in (by omega)] at e1 ⊢
        cases h3 : pThree res f x (l.drop 1 ++ r) with
        | none => rw [h3] at e1; cases e1
        | some y =>
          rw [h3] at e1
          obtain ⟨b, m1, j1, e2, e3, rfl⟩ := seq_inv e1
          obtain ⟨rfl, rfl⟩ := ok_inj e3
          rw [ih.three _ _ _ _ _ h3 e2 (by rw [List.length_drop]; omega)]
          exact seq_ok rfl
      · rw [if_neg c2] at e
        rw [Bool.not_eq_true] at c2
        rw [if_neg (by rw [halt4 hr (by decide) c2]; decide)]
        cases h3 : pThree res f x (l ++ r) with
        | none => rw [h3] at e; rw [ih.three0 _ _ h3]; exact e
        | some y => rw [h3] at e; rw [ih.three _ _ _ _ _ h3 e hm]
theorem halt9 {l r r' : List T} {s : List UInt8} (hr : Halt r') (hs : s = [46] ∨ s = [40]) (h : isS s (l ++ r) = false) : isS s (l ++ r') = false := by
  refine no_look h (isS_ne (n := 9) (by have := hr.1; omega) fun t hk e => ?_)
  rcases hs with rfl | rfl <;> simp only [lineOf, hk, e] <;> decide
theorem prim_pos {f : Nat} {l : List T} {a : E} {m : Nat} (h : pPrim res f l = okR a m) : 1 ≤ m := by have := (fits res f).2.2.2.2.2 l; rw [h] at this; exact this.1
theorem local_prim {f : Nat} {r r' : List T} (hr : Halt r') (ih : Local (res := res) f r r') (l : List T) (a : E) (m : Nat) (e : pPrim res (f + 1) (l ++ r) = okR a m) (hm : m ≤ l.length) : pPrim res (f + 1) (l ++ r') = okR a m := by
  have hl1 : 1 ≤ l.length := by have := prim_pos e; omega
  have hlne : l ≠ [] := by rintro rfl; simp at hl1
  rw [pPrim] at e ⊢
  rw [here_app hlne, isS_app hlne wNull, isS_app hlne wTrue, isS_app hlne wFalse, isS_app hlne [40]] at e ⊢
  refine (fun h => ?_) e
  by_cases c0 : ((here l).k == 2 && decide (0 ≤ (here l).i)) = true
  · rw [if_pos c0] at h ⊢; exact h
  rw [if_neg c0] at h ⊢
  by_cases c1 : ((here l).k == 3) = true
  · rw [if_pos c1] at h ⊢; exact h
  rw [if_neg c1] at h ⊢
  by_cases c2 : ((here l).k == 4) = true
  · rw [if_pos c2] at h ⊢; exact h
  rw [if_neg c2] at h ⊢
  by_cases c3 : isS wNull l = true
  · rw [if_pos c3] at h ⊢; exact h
  rw [if_neg c3] at h ⊢
  by_cases c4 : isS wTrue l = true
  · rw [if_pos c4] at h ⊢; exact h
  rw [if_neg c4] at h ⊢
  by_cases c5 : isS wFalse l = true
  · rw [if_pos c5] at h ⊢; exact h
  rw [if_neg c5] at h ⊢
  by_cases c6 : isS [40] l = true
  · rw [if_pos c6] at h ⊢
    obtain ⟨j, e1, rfl⟩ := one_inv h
    obtain ⟨b, m1, j1, e2, e3, rfl⟩ := seq_inv e1
    obtain ⟨u, m3, j3, e4, e5, rfl⟩ := seq_inv e3
    obtain ⟨h4, rfl⟩ := need_inv e4
    obtain ⟨rfl, rfl⟩ := ok_inj e5
    rw [drop_in (by omega)] at e2 h4
    have q1 := ih.line _ _ _ _ (by omega) e2 (by rw [List.length_drop]; omega)
    rw [← drop_in (by omega)] at q1
    have q2 : needR [41] ((l ++ r').drop (1 + m1)) = okR () 1 := by
      unfold needR; rw [drop_in (by omega), if_pos (look h4 (by rw [List.length_drop]; omega))]
    rw [q1]
    refine seq_ok (seq_ok ?_)
    rw [q2]
    exact seq_ok rfl
  rw [if_neg c6] at h ⊢
  obtain ⟨n, m0, j0, e0, e1, rfl⟩ := seq_inv h
  obtain ⟨hn, rfl, rfl⟩ := name_inv e0
  have q0 : nameR res (l ++ r') = okR (here l).s 1 := by
    unfold nameR; rw [isNm_app hlne] at hn ⊢; rw [if_pos hn, here_app hlne]
  rw [q0]
  refine seq_ok ?_
  rw [here_app hlne] at e1
  by_cases d1 : isS [46] ((l ++ r).drop 1) = true
  · rw [if_pos d1] at e1
    obtain ⟨j, e2, rfl⟩ := one_inv e1
    obtain ⟨n, m1, j1, e3, e4, rfl⟩ := seq_inv e2
    obtain ⟨h5, rfl, rfl⟩ := name_inv e3
    obtain ⟨rfl, rfl⟩ := ok_inj e4
    rw [drop_in (by omega)] at d1 h5
    have hd : l.drop 2 ≠ [] := by intro hd; have := congrArg List.length hd; rw [List.length_drop] at this; simp at this; omega
    have q1 : isS [46] ((l ++ r').drop 1) = true := by rw [drop_in (by omega)]; exact look d1 (by rw [List.length_drop]; omega)
    have q2 : nameR res ((l ++ r').drop 2) = okR (here ((l ++ r).drop 2)).s 1 := by
      unfold nameR; rw [isNm_app hd] at h5
      rw [drop_in (by omega), isNm_app hd, if_pos h5, here_app hd, drop_in (by omega), here_app hd]
    rw [if_pos q1, q2]
    exact seq_ok (seq_ok rfl)
  rw [if_neg d1] at e1
  rw [Bool.not_eq_true, drop_in (by omega)] at d1
  have q1 : isS [46] ((l ++ r').drop 1) = false := by rw [drop_in (by omega)]; exact halt9 hr (.inl rfl) d1
  rw [if_neg (by rw [q1]; decide)]
  by_cases d2 : isS [40] ((l ++ r).drop 1) = true
  · rw [if_pos d2] at e1
    obtain ⟨j, e2, rfl⟩ := one_inv e1
    rw [drop_in (by omega)] at d2
    have q2 : isS [40] ((l ++ r').drop 1) = true := by rw [drop_in (by omega)]; exact look d2 (by
      rw [List.length_drop]
      split at e2
      · obtain ⟨_, rfl⟩ := ok_inj e2; omega
      · split at e2
        · obtain ⟨j, e3, rfl⟩ := one_inv e2; omega
        · obtain ⟨xs, m1, j1, e3, e4, rfl⟩ := seq_inv e2
          have := fit_ls e3; omega)
    rw [if_pos q2]
    refine seq_ok ?_
    have hd : l.drop 2 ≠ [] := by
      intro hd
      have hd' := congrArg List.length hd
      rw [List.length_drop] at hd'
      simp only [List.length_nil] at hd'
      split at e2
      · obtain ⟨_, rfl⟩ := ok_inj e2; omega
      · split at e2
        · obtain ⟨j, e3, rfl⟩ := one_inv e2; omega
        · obtain ⟨xs, m1, j1, e3, e4, rfl⟩ := seq_inv e2
          have := fit_ls e3; omega
    have hd2 : 2 ≤ l.length := by
      cases l with
      | nil => exact absurd rfl hlne
      | cons t l => cases l with
        | nil => exact absurd rfl hd
        | cons u l => simp
    have qa : ∀ s, isS s ((l ++ r').drop 2) = isS s ((l ++ r).drop 2) := fun s => by rw [drop_in hd2, drop_in hd2, isS_app hd, isS_app hd]
    rw [qa, qa]
    by_cases d3 : isS [41] ((l ++ r).drop 2) = true
    · rw [if_pos d3] at e2 ⊢; exact e2
    rw [if_neg d3] at e2 ⊢
    by_cases d4 : ((here l).s == wCount && isS [42] ((l ++ r).drop 2)) = true
    · rw [if_pos d4] at e2 ⊢
      obtain ⟨j, e3, rfl⟩ := one_inv e2
      obtain ⟨u, m3, j3, e4, e5, rfl⟩ := seq_inv e3
      obtain ⟨h4, rfl⟩ := need_inv e4
      obtain ⟨rfl, rfl⟩ := ok_inj e5
      rw [drop_in (by omega)] at h4
      have q3 : needR [41] ((l ++ r').drop 3) = okR () 1 := by
        unfold needR; rw [drop_in (by omega), if_pos (look h4 (by rw [List.length_drop]; omega))]
      rw [q3]
      exact seq_ok (seq_ok rfl)
    · rw [if_neg d4] at e2 ⊢
      obtain ⟨xs, m1, j1, e3, e4, rfl⟩ := seq_inv e2
      obtain ⟨u, m3, j3, e5, e6, rfl⟩ := seq_inv e4
      obtain ⟨h4, rfl⟩ := need_inv e5
      obtain ⟨rfl, rfl⟩ := ok_inj e6
      have := fit_ls e3
      rw [drop_in (by omega)] at e3 h4
      have q3 := ih.list _ _ _ e3 (by rw [List.length_drop]; omega)
      rw [← drop_in (by omega)] at q3
      have q4 : needR [41] ((l ++ r').drop (2 + m1)) = okR () 1 := by
        unfold needR; rw [drop_in (by omega), if_pos (look h4 (by rw [List.length_drop]; omega))]
      rw [q3]
      refine seq_ok ?_
      rw [q4]
      exact seq_ok rfl
  · rw [if_neg d2] at e1
    rw [Bool.not_eq_true, drop_in (by omega)] at d2
    have q2 : isS [40] ((l ++ r').drop 1) = false := by rw [drop_in (by omega)]; exact halt9 hr (.inr rfl) d2
    rw [if_neg (by rw [q2]; decide)]
    exact e1
theorem locals (f : Nat) {r r' : List T} (hr : Halt r') : Local (res := res) f r r' := by
  induction f with
  | zero =>
    refine ⟨fun n l a m _ h => ?_, fun n x l a m _ h => ?_, fun x l a m h => ?_, fun x l y a m h e => ?_, fun x l h => ?_, fun l a m h => ?_, fun l a m h => ?_⟩
    · simp only [pLine] at h; cases h
    · simp only [pMore] at h; cases h
    · simp only [pRel] at h; cases h
    · simp only [pThree, Option.some.injEq] at h; subst h; cases e
    · simp only [pThree] at h; cases h
    · simp only [pList] at h; cases h
    · simp only [pPrim] at h; cases h
  | succ f ih => exact ⟨local_line ih, local_more hr ih, local_rel hr ih, local_three hr ih, local_three0 hr, local_list hr ih, local_prim hr ih⟩
theorem line_local {f : Nat} {l r r' : List T} {a : E} (hr : Halt r') (h : pLine res f 1 (l ++ r) = okR a l.length) : pLine res f 1 (l ++ r') = okR a l.length :=
  (locals f hr).line 1 l a _ (Nat.le_refl _) h (Nat.le_refl _)
theorem brackets {f : Nat} {l r : List T} {x : E} (h : pLine res f 1 (l ++ r) = okR x l.length) : PartOk res (brk l) x :=
  brk_part res fun rest => ⟨f, line_local (r' := sg [41] :: rest) ⟨show lineOf (sg [41]) < 1 by decide, rfl⟩ h⟩
end
end Go.Proofs.YtcmbdghbicjljaaGreatDoor
namespace Go.Proofs.YtcmbdghbicjljaaGreatDoor
section
variable {res : List UInt8 → Bool}
end
end Go.Proofs.YtcmbdghbicjljaaGreatDoor
