/- Plain facts on expressions (no program): what one is, its tokens, and the reading of tokens, line by line. No condition. -/
import Derived.Test.YtcmbdghbicjljaaGreatDoorQ05
namespace Go.Proofs.YtcmbdghbicjljaaGreatDoor
structure Vl where
  k : Int
  i : Int
  s : List UInt8
deriving DecidableEq
inductive E where
  | mk : List UInt8 → Vl → List UInt8 → List UInt8 → List E → E
def v0 : Vl := ⟨0, 0, []⟩
def E.op : E → List UInt8 | .mk o _ _ _ _ => o
def E.v : E → Vl | .mk _ v _ _ _ => v
def E.tb : E → List UInt8 | .mk _ _ t _ _ => t
def E.nm : E → List UInt8 | .mk _ _ _ n _ => n
def E.l : E → List E | .mk _ _ _ _ l => l
def wLit : List UInt8 := [108, 105, 116]
def wCol : List UInt8 := [99, 111, 108]
def wStar : List UInt8 := [115, 116, 97, 114]
def wCall : List UInt8 := [99, 97, 108, 108]
def wCount : List UInt8 := [99, 111, 117, 110, 116]
def wNeg : List UInt8 := [110, 101, 103]
def wNot : List UInt8 := [110, 111, 116]
def wNull : List UInt8 := [110, 117, 108, 108]
def wTrue : List UInt8 := [116, 114, 117, 101]
def wFalse : List UInt8 := [102, 97, 108, 115, 101]
def wIs : List UInt8 := [105, 115]
def wIsnull : List UInt8 := [105, 115, 110, 117, 108, 108]
def wNotnull : List UInt8 := [110, 111, 116, 110, 117, 108, 108]
def wAnd : List UInt8 := [97, 110, 100]
def wOr : List UInt8 := [111, 114]
def wLike : List UInt8 := [108, 105, 107, 101]
def wIn : List UInt8 := [105, 110]
def wBetween : List UInt8 := [98, 101, 116, 119, 101, 101, 110]
def op1 (o : List UInt8) (l : List E) : E := .mk o v0 [] [] l
def lit (v : Vl) : E := .mk wLit v [] [] []
def col (t n : List UInt8) : E := .mk wCol v0 t n []
def call1 (n : List UInt8) (l : List E) : E := .mk wCall v0 [] n l
def star : E := op1 wStar []
def e0 : E := .mk [] v0 [] [] []
def endT : T := ⟨6, [], 0, 0⟩
def here (l : List T) : T := l.headD endT
def isS (s : List UInt8) (l : List T) : Bool := ((here l).k == 1 || (here l).k == 5) && (here l).s == s
def isNm (res : List UInt8 → Bool) (l : List T) : Bool := (here l).k == 1 && !res (here l).s
abbrev R (α : Type) := Option (Except Nat (α × Nat))
def okR {α : Type} (a : α) (m : Nat) : R α := some (.ok (a, m))
def badR {α : Type} (p : Nat) : R α := some (.error p)
def seqR {α β : Type} (r : R α) (k : α → Nat → R β) : R β := match r with
  | none => none
  | some (.error p) => some (.error p)
  | some (.ok (a, m)) => match k a m with
    | none => none
    | some (.error p) => some (.error (m + p))
    | some (.ok (b, q)) => some (.ok (b, m + q))
def needR (s : List UInt8) (l : List T) : R Unit := if isS s l then okR () 1 else badR 0
def nameR (res : List UInt8 → Bool) (l : List T) : R (List UInt8) := if isNm res l then okR (here l).s 1 else badR 0
def wordsOf : Nat → List (List UInt8)
  | 1 => [wOr]
  | 2 => [wAnd]
  | 5 => [[124, 124]]
  | 6 => [[43], [45]]
  | 7 => [[42], [47], [37]]
  | _ => []
def opAt (n : Nat) (l : List T) : Option (List UInt8) := (wordsOf n).find? fun w => isS w l
def rels : List (List UInt8) := [[61], [60, 62], [60, 61], [62, 61], [60], [62]]
def relAt (l : List T) : Option (List UInt8) := rels.find? fun w => isS w l
def negI (i : Int) : Int := if i = -9223372036854775808 then i else -i
section
variable (res : List UInt8 → Bool)
mutual
def pLine : Nat → Nat → List T → R E
  | 0, _, _ => none
  | f + 1, 3, l => if isS wNot l then seqR (okR () 1) fun _ _ => seqR (pLine f 3 (l.drop 1)) fun x _ => okR (op1 wNot [x]) 0 else pLine f 4 l
  | f + 1, 4, l => seqR (pLine f 5 l) fun a m => pRel f a (l.drop m)
  | f + 1, 8, l => if isS [45] l then seqR (okR () 1) fun _ _ => (if (here (l.drop 1)).k == 2 then okR (lit ⟨2, negI (here (l.drop 1)).i, []⟩) 1 else seqR (pLine f 8 (l.drop 1)) fun x _ => okR (op1 wNeg [x]) 0) else pLine f 9 l
  | f + 1, 9, l => pPrim f l
  | f + 1, n, l => seqR (pLine f (n + 1) l) fun a m => pMore f n a (l.drop m)
def pMore : Nat → Nat → E → List T → R E
  | 0, _, _, _ => none
  | f + 1, n, a, l => match opAt n l with
    | none => okR a 0
    | some w => seqR (okR () 1) fun _ _ => seqR (pLine f (n + 1) (l.drop 1)) fun b m => pMore f n (op1 w [a, b]) (l.drop (1 + m))
def pRel : Nat → E → List T → R E
  | 0, _, _ => none
  | f + 1, a, l => match relAt l with
    | some w => seqR (okR () 1) fun _ _ => seqR (pLine f 5 (l.drop 1)) fun b _ => okR (op1 w [a, b]) 0
    | none =>
      if isS wIs l then seqR (okR () 1) fun _ _ =>
        if isS wNot (l.drop 1) then seqR (okR () 1) fun _ _ => seqR (needR wNull (l.drop 2)) fun _ _ => okR (op1 wNotnull [a]) 0
        else seqR (needR wNull (l.drop 1)) fun _ _ => okR (op1 wIsnull [a]) 0
      else if isS wNot l then seqR (okR () 1) fun _ _ =>
        match pThree f a (l.drop 1) with
        | none => badR 0
        | some r => seqR r fun x _ => okR (op1 wNot [x]) 0
      else match pThree f a l with
        | none => okR a 0
        | some r => r
def pThree : Nat → E → List T → Option (R E)
  | 0, _, _ => some none
  | f + 1, a, l =>
    if isS wLike l then some (seqR (okR () 1) fun _ _ => seqR (pLine f 5 (l.drop 1)) fun b _ => okR (op1 wLike [a, b]) 0)
    else if isS wIn l then some (seqR (okR () 1) fun _ _ => seqR (needR [40] (l.drop 1)) fun _ _ => seqR (pList f (l.drop 2)) fun xs m => seqR (needR [41] (l.drop (2 + m))) fun _ _ => okR (op1 wIn (a :: xs)) 0)
    else if isS wBetween l then some (seqR (okR () 1) fun _ _ => seqR (pLine f 5 (l.drop 1)) fun b m => seqR (needR wAnd (l.drop (1 + m))) fun _ _ => seqR (pLine f 5 (l.drop (2 + m))) fun c _ => okR (op1 wBetween [a, b, c]) 0)
    else none
def pList : Nat → List T → R (List E)
  | 0, _ => none
  | f + 1, l => seqR (pLine f 1 l) fun x m => if isS [44] (l.drop m) then seqR (okR () 1) fun _ _ => seqR (pList f (l.drop (m + 1))) fun xs _ => okR (x :: xs) 0 else okR [x] 0
def pPrim : Nat → List T → R E
  | 0, _ => none
  | f + 1, l =>
    if (here l).k == 2 && decide (0 ≤ (here l).i) then okR (lit ⟨2, (here l).i, []⟩) 1
    else if (here l).k == 3 then okR (lit ⟨3, 0, (here l).s⟩) 1
    else if (here l).k == 4 then okR (lit ⟨4, 0, (here l).s⟩) 1
    else if isS wNull l then okR (lit v0) 1
    else if isS wTrue l then okR (lit ⟨1, 1, []⟩) 1
    else if isS wFalse l then okR (lit ⟨1, 0, []⟩) 1
    else if isS [40] l then seqR (okR () 1) fun _ _ => seqR (pLine f 1 (l.drop 1)) fun x m => seqR (needR [41] (l.drop (1 + m))) fun _ _ => okR x 0
    else seqR (nameR res l) fun n _ =>
      if isS [46] (l.drop 1) then seqR (okR () 1) fun _ _ => seqR (nameR res (l.drop 2)) fun c _ => okR (col n c) 0
      else if isS [40] (l.drop 1) then seqR (okR () 1) fun _ _ =>
        if isS [41] (l.drop 2) then okR (call1 n []) 1
        else if n == wCount && isS [42] (l.drop 2) then seqR (okR () 1) fun _ _ => seqR (needR [41] (l.drop 3)) fun _ _ => okR (call1 n [star]) 0
        else seqR (pList f (l.drop 2)) fun xs m => seqR (needR [41] (l.drop (2 + m))) fun _ _ => okR (call1 n xs) 0
      else okR (col [] n) 0
end
end
end Go.Proofs.YtcmbdghbicjljaaGreatDoor
namespace Go.Proofs.YtcmbdghbicjljaaGreatDoor
def Le {α : Type} (r s : R α) : Prop := r = none ∨ r = s
theorem Le.same {α : Type} (r : R α) : Le r r := .inr rfl
theorem Le.of {α : Type} {r s : R α} (h : Le r s) (x) (e : r = some x) : s = some x := by
  rcases h with h | h
  · rw [h] at e; cases e
  · rw [← h]; exact e
theorem le_seq {α β : Type} {r s : R α} {k j : α → Nat → R β} (h : Le r s) (hk : ∀ a m, Le (k a m) (j a m)) : Le (seqR r k) (seqR s j) := by
  rcases h with h | h
  · exact .inl (by rw [h]; rfl)
  · subst h
    rcases r with - | (p | ⟨a, m⟩)
    · exact .inl rfl
    · exact .inr rfl
    · rcases hk a m with hh | hh
      · exact .inl (by simp only [seqR, hh])
      · exact .inr (by simp only [seqR, hh])
def Le3 (x y : Option (R E)) : Prop := x = some none ∨ x = y ∨ ∃ r s, x = some r ∧ y = some s ∧ Le r s
theorem le_iff {α : Type} {c : Prop} [Decidable c] {r s r' s' : R α} (h : Le r s) (h' : Le r' s') : Le (if c then r else r') (if c then s else s') := by
  by_cases hc : c
  · simp only [if_pos hc]; exact h
  · simp only [if_neg hc]; exact h'
theorem mono (res : List UInt8 → Bool) (f : Nat) :
    (∀ n l, Le (pLine res f n l) (pLine res (f + 1) n l)) ∧ (∀ n a l, Le (pMore res f n a l) (pMore res (f + 1) n a l)) ∧
    (∀ a l, Le (pRel res f a l) (pRel res (f + 1) a l)) ∧ (∀ a l, Le3 (pThree res f a l) (pThree res (f + 1) a l)) ∧
    (∀ l, Le (pList res f l) (pList res (f + 1) l)) ∧ (∀ l, Le (pPrim res f l) (pPrim res (f + 1) l)) := by
  induction f with
  | zero =>
    refine ⟨fun n l => .inl ?_, fun n a l => .inl ?_, fun a l => .inl ?_, fun a l => .inl ?_, fun l => .inl ?_, fun l => .inl ?_⟩ <;> simp only [pLine, pMore, pRel, pThree, pList, pPrim]
  | succ f ih =>
    obtain ⟨hl, hm, hr, ht, hs, hp⟩ := ih
    refine ⟨fun n l => ?_, fun n a l => ?_, fun a l => ?_, fun a l => ?_, fun l => ?_, fun l => ?_⟩
    · by_cases h3 : n = 3
      · subst h3; rw [pLine, pLine]
        exact le_iff (le_seq (.same _) fun _ _ => le_seq (hl _ _) fun _ _ => .same _) (hl _ _)
      by_cases h4 : n = 4
      · subst h4; rw [pLine, pLine]
        exact le_seq (hl _ _) fun _ _ => hr _ _
      by_cases h8 : n = 8
      · subst h8; rw [pLine, pLine]
        exact le_iff (le_seq (.same _) fun _ _ => le_iff (.same _) (le_seq (hl _ _) fun _ _ => .same _)) (hl _ _)
      by_cases h9 : n = 9
      · subst h9; rw [pLine, pLine]
        exact hp _
      rw [pLine.eq_6 res n l f h3 h4 h8 h9, pLine.eq_6 res n l (f + 1) h3 h4 h8 h9]
      exact le_seq (hl _ _) fun _ _ => hm _ _ _
    · rw [pMore, pMore]
      cases opAt n l with
      | none => exact .same _
      | some w => exact le_seq (.same _) fun _ _ => le_seq (hl _ _) fun _ _ => hm _ _ _
    · rw [pRel, pRel]
      cases relAt l with
      | some w => exact le_seq (.same _) fun _ _ => le_seq (hl _ _) fun _ _ => .same _
      | none =>
        refine le_iff (.same _) (le_iff (le_seq (.same _) fun _ _ => ?_) ?_)
        · rcases ht a (l.drop 1) with h | h | ⟨r, s, h, h', hh⟩
          · simp only [h]; exact .inl rfl
          · rw [h]; exact .same _
          · simp only [h, h']; exact le_seq hh fun _ _ => .same _
        · rcases ht a l with h | h | ⟨r, s, h, h', hh⟩
          · simp only [h]; exact .inl rfl
          · rw [h]; exact .same _
          · simp only [h, h']; exact hh
    · rw [pThree, pThree]
      by_cases c1 : isS wLike l = true
      · simp only [if_pos c1]; exact .inr (.inr ⟨_, _, rfl, rfl, le_seq (.same _) fun _ _ => le_seq (hl _ _) fun _ _ => .same _⟩)
      by_cases c2 : isS wIn l = true
      · simp only [if_neg c1, if_pos c2]
        exact .inr (.inr ⟨_, _, rfl, rfl, le_seq (.same _) fun _ _ => le_seq (.same _) fun _ _ => le_seq (hs _) fun _ _ => .same _⟩)
      by_cases c3 : isS wBetween l = true
      · simp only [if_neg c1, if_neg c2, if_pos c3]
        exact .inr (.inr ⟨_, _, rfl, rfl, le_seq (.same _) fun _ _ => le_seq (hl _ _) fun _ _ => le_seq (.same _) fun _ _ => le_seq (hl _ _) fun _ _ => .same _⟩)
      simp only [if_neg c1, if_neg c2, if_neg c3]; exact .inr (.inl rfl)
    · rw [pList, pList]
      exact le_seq (hl _ _) fun x m => le_iff (le_seq (.same _) fun _ _ => le_seq (hs _) fun _ _ => .same _) (.same _)
    · rw [pPrim, pPrim]
      refine le_iff (.same _) (le_iff (.same _) (le_iff (.same _) (le_iff (.same _) (le_iff (.same _) (le_iff (.same _) (le_iff ?_ ?_))))))
      · exact le_seq (.same _) fun _ _ => le_seq (hl _ _) fun _ _ => .same _
      · refine le_seq (.same _) fun n _ => le_iff (.same _) (le_iff (le_seq (.same _) fun _ _ => le_iff (.same _) (le_iff (.same _) (le_seq (hs _) fun _ _ => .same _))) (.same _))
end Go.Proofs.YtcmbdghbicjljaaGreatDoor
namespace Go.Proofs.YtcmbdghbicjljaaGreatDoor
def ahd : List T → Nat
  | [] => 0
  | t :: l => if t.k = 6 then 0 else ahd l + 1
theorem ahd_drop {l : List T} {m : Nat} (h : m ≤ ahd l) : ahd (l.drop m) = ahd l - m := by
  induction m generalizing l with
  | zero => simp
  | succ m ih =>
    cases l with
    | nil => simp [ahd] at h
    | cons t l =>
      by_cases hk : t.k = 6
      · simp only [ahd, if_pos hk] at h; omega
      · simp only [ahd, if_neg hk] at h ⊢; simp only [List.drop_succ_cons]; rw [ih (by omega)]; omega
theorem ahd_here {l : List T} (h : (here l).k ≠ 6) : 1 ≤ ahd l := by
  cases l with
  | nil => exact absurd rfl h
  | cons t l => unfold ahd; rw [if_neg (by simpa [here] using h)]; omega
theorem ahd_isS {s : List UInt8} {l : List T} (h : isS s l = true) : 1 ≤ ahd l := by
  refine ahd_here fun hk => ?_
  unfold isS at h; rw [hk] at h; simp at h
theorem ahd_isNm {res : List UInt8 → Bool} {l : List T} (h : isNm res l = true) : 1 ≤ ahd l := by
  refine ahd_here fun hk => ?_
  unfold isNm at h; rw [hk] at h; simp at h
def Fit {α : Type} (lo v : Nat) (r : R α) : Prop := match r with
  | none => True
  | some (.error p) => p ≤ v
  | some (.ok (_, m)) => lo ≤ m ∧ m ≤ v
theorem Fit.lo {α : Type} {lo lo' v : Nat} {r : R α} (h : Fit lo v r) (hl : lo' ≤ lo) : Fit lo' v r := by
  unfold Fit at h ⊢; split
  · trivial
  · exact h
  · exact ⟨by have := h.1; omega, h.2⟩
theorem fit_ok {α : Type} {a : α} {m lo v : Nat} (h : lo ≤ m) (h' : m ≤ v) : Fit lo v (okR a m) := ⟨h, h'⟩
theorem fit_bad {α : Type} {p lo v : Nat} (h : p ≤ v) : Fit lo v (badR p : R α) := h
theorem fit_seq {α β : Type} {lo lo' v : Nat} {r : R α} {k : α → Nat → R β} (h : Fit lo v r) (hk : ∀ a m, lo ≤ m → m ≤ v → Fit lo' (v - m) (k a m)) : Fit (lo + lo') v (seqR r k) := by
  rcases r with - | (p | ⟨a, m⟩)
  · trivial
  · exact h
  · obtain ⟨h1, h2⟩ : lo ≤ m ∧ m ≤ v := h
    have hh := hk a m h1 h2
    show Fit _ _ (match k a m with | none => none | some (.error p) => some (.error (m + p)) | some (.ok (b, q)) => some (.ok (b, m + q)))
    revert hh
    rcases k a m with - | (p | ⟨b, q⟩)
    · exact fun _ => trivial
    · intro hh; have : p ≤ v - m := hh; show m + p ≤ v; omega
    · rintro ⟨h3, h4⟩; exact ⟨by omega, by omega⟩
theorem fit_need (s : List UInt8) (l : List T) : Fit 1 (ahd l) (needR s l) := by
  unfold needR; split
  · rename_i h; exact fit_ok (Nat.le_refl _) (ahd_isS h)
  · exact fit_bad (Nat.zero_le _)
theorem fit_name (res : List UInt8 → Bool) (l : List T) : Fit 1 (ahd l) (nameR res l) := by
  unfold nameR; split
  · rename_i h; exact fit_ok (Nat.le_refl _) (ahd_isNm h)
  · exact fit_bad (Nat.zero_le _)
theorem fit_if {α : Type} {c : Prop} [Decidable c] {lo v : Nat} {r r' : R α} (h : c → Fit lo v r) (h' : ¬ c → Fit lo v r') : Fit lo v (if c then r else r') := by
  by_cases hc : c
  · rw [if_pos hc]; exact h hc
  · rw [if_neg hc]; exact h' hc
theorem fit_at {α β : Type} {lo lo' hi : Nat} {l : List T} {r : R α} {k : α → Nat → R β} (h : Fit lo (ahd l) r) (hh : hi ≤ lo + lo') (hk : ∀ a m, lo ≤ m → m ≤ ahd l → Fit lo' (ahd (l.drop m)) (k a m)) : Fit hi (ahd l) (seqR r k) :=
  (fit_seq h fun a m h1 h2 => by have := hk a m h1 h2; rwa [ahd_drop h2] at this).lo hh
theorem opAt_isS {n : Nat} {l : List T} {w : List UInt8} (h : opAt n l = some w) : isS w l = true := by have := List.find?_some h; simpa using this
theorem relAt_isS {l : List T} {w : List UInt8} (h : relAt l = some w) : isS w l = true := by have := List.find?_some h; simpa using this
theorem fit_one {β : Type} {lo' hi : Nat} {s : List UInt8} {l : List T} {k : Unit → Nat → R β} (h : isS s l = true) (hh : hi ≤ 1 + lo') (hk : Fit lo' (ahd (l.drop 1)) (k () 1)) : Fit hi (ahd l) (seqR (okR () 1) k) := by
  have h1 := ahd_isS h
  rw [ahd_drop h1] at hk
  show Fit hi _ (match k () 1 with | none => none | some (.error p) => some (.error (1 + p)) | some (.ok (b, q)) => some (.ok (b, 1 + q)))
  revert hk
  rcases k () 1 with - | (p | ⟨b, q⟩)
  · exact fun _ => trivial
  · intro hk; have : p ≤ ahd l - 1 := hk; show 1 + p ≤ ahd l; omega
  · rintro ⟨h3, h4⟩; exact ⟨by omega, by omega⟩
theorem fit_step {α β : Type} {lo' hi : Nat} {a : α} {l : List T} {k : α → Nat → R β} (h1 : 1 ≤ ahd l) (hh : hi ≤ 1 + lo') (hk : Fit lo' (ahd (l.drop 1)) (k a 1)) : Fit hi (ahd l) (seqR (okR a 1) k) := by
  rw [ahd_drop h1] at hk
  show Fit hi _ (match k a 1 with | none => none | some (.error p) => some (.error (1 + p)) | some (.ok (b, q)) => some (.ok (b, 1 + q)))
  revert hk
  rcases k a 1 with - | (p | ⟨b, q⟩)
  · exact fun _ => trivial
  · intro hk; have : p ≤ ahd l - 1 := hk; show 1 + p ≤ ahd l; omega
  · rintro ⟨h3, h4⟩; exact ⟨by omega, by omega⟩
theorem fit_nd {β : Type} {lo' hi : Nat} {s : List UInt8} {l : List T} {k : Unit → Nat → R β} (hh : hi ≤ 1 + lo') (hk : isS s l = true → Fit lo' (ahd (l.drop 1)) (k () 1)) : Fit hi (ahd l) (seqR (needR s l) k) := by
  unfold needR
  by_cases h : isS s l = true
  · rw [if_pos h]; exact fit_step (ahd_isS h) hh (hk h)
  · rw [if_neg h]; exact fit_bad (Nat.zero_le _)
theorem fit_nm {β : Type} {res : List UInt8 → Bool} {lo' hi : Nat} {l : List T} {k : List UInt8 → Nat → R β} (hh : hi ≤ 1 + lo') (hk : isNm res l = true → Fit lo' (ahd (l.drop 1)) (k (here l).s 1)) : Fit hi (ahd l) (seqR (nameR res l) k) := by
  unfold nameR
  by_cases h : isNm res l = true
  · rw [if_pos h]; exact fit_step (ahd_isNm h) hh (hk h)
  · rw [if_neg h]; exact fit_bad (Nat.zero_le _)
theorem drop_drop' {l : List T} {a b : Nat} : (l.drop a).drop b = l.drop (a + b) := by rw [List.drop_drop]
theorem fits (res : List UInt8 → Bool) (f : Nat) :
    (∀ n l, Fit 1 (ahd l) (pLine res f n l)) ∧ (∀ n a l, Fit 0 (ahd l) (pMore res f n a l)) ∧
    (∀ a l, Fit 0 (ahd l) (pRel res f a l)) ∧ (∀ a l r, pThree res f a l = some r → Fit 1 (ahd l) r) ∧
    (∀ l, Fit 1 (ahd l) (pList res f l)) ∧ (∀ l, Fit 1 (ahd l) (pPrim res f l)) := by
  induction f with
  | zero =>
    refine ⟨fun n l => ?_, fun n a l => ?_, fun a l => ?_, fun a l r h => ?_, fun l => ?_, fun l => ?_⟩
    · simp only [pLine]; trivial
    · simp only [pMore]; trivial
    · simp only [pRel]; trivial
    · simp only [pThree, Option.some.injEq] at h; subst h; trivial
    · simp only [pList]; trivial
    · simp only [pPrim]; trivial
  | succ f ih =>
    obtain ⟨hl, hm, hr, ht, hs, hp⟩ := ih
    refine ⟨fun n l => ?_, fun n a l => ?_, fun a l => ?_, fun a l r h => ?_, fun l => ?_, fun l => ?_⟩
    · by_cases h3 : n = 3
      · subst h3; rw [pLine]
        exact fit_if (fun h => fit_one h (Nat.le_refl _) ((fit_at (lo' := 0) (hl _ _) (Nat.le_refl _) fun _ _ _ _ => fit_ok (Nat.le_refl _) (Nat.zero_le _)).lo (Nat.zero_le _))) fun _ => hl _ _
      by_cases h4 : n = 4
      · subst h4; rw [pLine]
        exact fit_at (hl _ _) (Nat.le_refl _) fun _ _ _ _ => hr _ _
      by_cases h8 : n = 8
      · subst h8; rw [pLine]
        refine fit_if (fun h => fit_one (lo' := 1) h (by omega) (fit_if (fun h' => ?_) fun _ => ?_)) fun _ => hl _ _
        · exact fit_ok (Nat.le_refl _) (ahd_here (by intro hk; rw [hk] at h'; simp at h'))
        · exact fit_at (lo' := 0) (hl _ _) (Nat.le_refl _) fun _ _ _ _ => fit_ok (Nat.le_refl _) (Nat.zero_le _)
      by_cases h9 : n = 9
      · subst h9; rw [pLine]
        exact hp _
      rw [pLine.eq_6 res n l f h3 h4 h8 h9]
      exact fit_at (hl _ _) (Nat.le_refl _) fun _ _ _ _ => hm _ _ _
    · rw [pMore]
      cases ho : opAt n l with
      | none => exact fit_ok (Nat.le_refl _) (Nat.zero_le _)
      | some w =>
        refine fit_one (lo' := 0) (opAt_isS ho) (by omega) ((fit_at (lo' := 0) (hl _ _) (by omega) fun b m _ _ => ?_).lo (by omega : 0 ≤ 0))
        rw [drop_drop']; exact hm _ _ _
    · rw [pRel]
      cases ho : relAt l with
      | some w => exact fit_one (lo' := 0) (relAt_isS ho) (by omega) (fit_at (lo' := 0) (hl _ _) (by omega) fun b m _ _ => fit_ok (Nat.le_refl _) (Nat.zero_le _))
      | none =>
        refine fit_if (fun h => fit_one (lo' := 0) h (by omega) (fit_if (fun h' => ?_) fun _ => ?_)) fun _ => fit_if (fun h => fit_one (lo' := 0) h (by omega) ?_) fun _ => ?_
        · refine fit_one (lo' := 0) h' (by omega) ?_
          rw [drop_drop']
          exact fit_at (lo' := 0) (fit_need _ _) (by omega) fun _ _ _ _ => fit_ok (Nat.le_refl _) (Nat.zero_le _)
        · exact fit_at (lo' := 0) (fit_need _ _) (by omega) fun _ _ _ _ => fit_ok (Nat.le_refl _) (Nat.zero_le _)
        · cases h3 : pThree res f a (l.drop 1) with
          | none => exact fit_bad (Nat.zero_le _)
          | some r => exact fit_at (lo' := 0) (ht _ _ _ h3) (by omega) fun _ _ _ _ => fit_ok (Nat.le_refl _) (Nat.zero_le _)
        · cases h3 : pThree res f a l with
          | none => exact fit_ok (Nat.le_refl _) (Nat.zero_le _)
          | some r => exact (ht _ _ _ h3).lo (by omega)
    · rw [pThree] at h
      by_cases c1 : isS wLike l = true
      · simp only [if_pos c1, Option.some.injEq] at h; subst h
        exact fit_one (lo' := 0) c1 (by omega) (fit_at (lo' := 0) (hl _ _) (by omega) fun _ _ _ _ => fit_ok (Nat.le_refl _) (Nat.zero_le _))
      by_cases c2 : isS wIn l = true
      · simp only [if_neg c1, if_pos c2, Option.some.injEq] at h; subst h
        refine fit_one (lo' := 0) c2 (by omega) (fit_nd (lo' := 0) (by omega) fun _ => ?_)
        rw [drop_drop']
        refine fit_at (lo' := 0) (hs _) (by omega) fun _ _ _ _ => ?_
        rw [drop_drop']
        exact fit_at (lo' := 0) (fit_need _ _) (by omega) fun _ _ _ _ => fit_ok (Nat.le_refl _) (Nat.zero_le _)
      by_cases c3 : isS wBetween l = true
      · simp only [if_neg c1, if_neg c2, if_pos c3, Option.some.injEq] at h; subst h
        refine fit_one (lo' := 0) c3 (by omega) (fit_at (lo' := 0) (hl _ _) (by omega) fun b m _ _ => ?_)
        rw [drop_drop']
        refine fit_nd (lo' := 0) (by omega) fun _ => ?_
        rw [drop_drop', Nat.add_right_comm 1 m 1]
        exact fit_at (lo' := 0) (hl _ _) (by omega) fun _ _ _ _ => fit_ok (Nat.le_refl _) (Nat.zero_le _)
      simp only [if_neg c1, if_neg c2, if_neg c3] at h; cases h
    · rw [pList]
      refine fit_at (lo' := 0) (hl _ _) (by omega) fun x m _ _ => fit_if (fun h => fit_one (lo' := 0) h (by omega) ?_) fun _ => fit_ok (Nat.le_refl _) (Nat.zero_le _)
      rw [drop_drop']
      exact fit_at (lo' := 0) (hs _) (by omega) fun _ _ _ _ => fit_ok (Nat.le_refl _) (Nat.zero_le _)
    · rw [pPrim]
      refine fit_if (fun h => fit_ok (Nat.le_refl _) (ahd_here ?_)) fun _ => fit_if (fun h => fit_ok (Nat.le_refl _) (ahd_here ?_)) fun _ => fit_if (fun h => fit_ok (Nat.le_refl _) (ahd_here ?_)) fun _ => fit_if (fun h => fit_ok (Nat.le_refl _) (ahd_isS h)) fun _ => fit_if (fun h => fit_ok (Nat.le_refl _) (ahd_isS h)) fun _ => fit_if (fun h => fit_ok (Nat.le_refl _) (ahd_isS h)) fun _ => fit_if (fun h => ?_) fun _ => ?_
      · intro hk; rw [hk] at h; simp at h
      · intro hk; rw [hk] at h; simp at h
      · intro hk; rw [hk] at h; simp at h
      · refine fit_one (lo' := 0) h (by omega) (fit_at (lo' := 0) (hl _ _) (by omega) fun x m _ _ => ?_)
        rw [drop_drop']
        exact fit_at (lo' := 0) (fit_need _ _) (by omega) fun _ _ _ _ => fit_ok (Nat.le_refl _) (Nat.zero_le _)
      · refine fit_nm (lo' := 0) (by omega) fun _ => fit_if (fun h => fit_one (lo' := 0) h (by omega) ?_) fun _ => fit_if (fun h => fit_one (lo' := 0) h (by omega) (fit_if (fun h' => ?_) fun _ => fit_if (fun h' => ?_) fun _ => ?_)) fun _ => fit_ok (Nat.le_refl _) (Nat.zero_le _)
        · rw [drop_drop']
          exact fit_at (lo' := 0) (fit_name _ _) (by omega) fun _ _ _ _ => fit_ok (Nat.le_refl _) (Nat.zero_le _)
        · rw [drop_drop']
          exact fit_ok (Nat.zero_le _) (ahd_isS h')
        · rw [drop_drop']
          rw [Bool.and_eq_true] at h'
          refine fit_one (lo' := 0) h'.2 (by omega) ?_
          rw [drop_drop']
          exact fit_at (lo' := 0) (fit_need _ _) (by omega) fun _ _ _ _ => fit_ok (Nat.le_refl _) (Nat.zero_le _)
        · rw [drop_drop']
          refine fit_at (lo' := 0) (hs _) (by omega) fun _ _ _ _ => ?_
          rw [drop_drop']
          exact fit_at (lo' := 0) (fit_need _ _) (by omega) fun _ _ _ _ => fit_ok (Nat.le_refl _) (Nat.zero_le _)
end Go.Proofs.YtcmbdghbicjljaaGreatDoor
namespace Go.Proofs.YtcmbdghbicjljaaGreatDoor
def Up {α : Type} (r : Nat → R α) : Prop := ∀ f, Le (r f) (r (f + 1))
def Tot {α : Type} (r : Nat → R α) : Prop := ∃ f x, r f = some x
theorem Up.at {α : Type} {r : Nat → R α} (h : Up r) {f g : Nat} {x} (e : r f = some x) (hg : f ≤ g) : r g = some x := by
  induction hg with
  | refl => exact e
  | step _ ih => exact (h _).of _ ih
section
variable (res : List UInt8 → Bool)
theorem up_line (n : Nat) (l : List T) : Up fun f => pLine res f n l := fun f => (mono res f).1 n l
theorem up_list (l : List T) : Up fun f => pList res f l := fun f => (mono res f).2.2.2.2.1 l
theorem fit_line {f n : Nat} {l : List T} {a : E} {m : Nat} (h : pLine res f n l = okR a m) : 1 ≤ m ∧ m ≤ ahd l := by have := (fits res f).1 n l; rw [h] at this; exact this
theorem fit_list {f : Nat} {l : List T} {a : List E} {m : Nat} (h : pList res f l = okR a m) : 1 ≤ m ∧ m ≤ ahd l := by have := (fits res f).2.2.2.2.1 l; rw [h] at this; exact this
end
end Go.Proofs.YtcmbdghbicjljaaGreatDoor
namespace Go.Proofs.YtcmbdghbicjljaaGreatDoor
def wd (s : List UInt8) : T := ⟨1, s, 0, 0⟩
def sg (s : List UInt8) : T := ⟨5, s, 0, 0⟩
theorem E.ind {P : E → Prop} (h : ∀ o v t n l, (∀ x ∈ l, P x) → P (.mk o v t n l)) (e : E) : P e :=
  E.rec (motive_1 := P) (motive_2 := fun l => ∀ x ∈ l, P x) (fun o v t n l ih => h o v t n l ih) (fun _ hx => by cases hx) (fun x l hx hl y hy => by
    rcases List.mem_cons.mp hy with rfl | hy
    · exact hx
    · exact hl y hy) e
def vToks (v : Vl) : List T :=
  if v.k = 0 then [wd wNull] else if v.k = 1 then [wd (if v.i = 0 then wFalse else wTrue)]
  else if v.k = 2 then (if v.i < 0 then [sg [45], ⟨2, [], negI v.i, 0⟩] else [⟨2, [], v.i, 0⟩])
  else if v.k = 3 then [⟨3, v.s, 0, 0⟩] else [⟨4, v.s, 0, 0⟩]
def E.plain (e : E) : Bool := e.op == wCol || e.op == wCall || (e.op == wLit && !(e.v.k == 2 && decide (e.v.i < 0)))
def brk (l : List T) : List T := sg [40] :: (l ++ [sg [41]])
def join (s : List T) : List (List T) → List T
  | [] => []
  | [x] => x
  | x :: y :: l => x ++ s ++ join s (y :: l)
def partT (e : E) (t : List T) : List T := if e.plain then t else brk t
def tokOf (o : List UInt8) (v : Vl) (t n : List UInt8) (l : List E) (ts : List (List T)) : List T :=
  let p := List.zipWith partT l ts
  if o = wLit then vToks v
  else if o = wCol then (if t = [] then [wd n] else [wd t, sg [46], wd n])
  else if o = wCall then wd n :: brk (join [sg [44]] ts)
  else if o = wStar then [sg [42]]
  else if o = wNeg then sg [45] :: brk (ts.headD [])
  else if o = wNot then wd wNot :: p.headD []
  else if o = wIsnull then p.headD [] ++ [wd wIs, wd wNull]
  else if o = wNotnull then p.headD [] ++ [wd wIs, wd wNot, wd wNull]
  else if o = wBetween then p.headD [] ++ wd wBetween :: ((p.drop 1).headD [] ++ wd wAnd :: (p.drop 2).headD [])
  else if o = wIn then p.headD [] ++ wd wIn :: brk (join [sg [44]] (ts.drop 1))
  else p.headD [] ++ (if headIs o isLet then wd o else sg o) :: (p.drop 1).headD []
mutual
def E.toks : E → List T
  | .mk o v t n l => tokOf o v t n l (toksL l)
def toksL : List E → List (List T)
  | [] => []
  | e :: l => e.toks :: toksL l
end
def E.part (e : E) : List T := partT e e.toks
def lineOf (t : T) : Nat :=
  if (t.k == 1 || t.k == 5) = false then 0
  else if t.s = wOr then 1 else if t.s = wAnd then 2
  else if t.s ∈ rels ∨ t.s = wIs ∨ t.s = wNot ∨ t.s = wLike ∨ t.s = wIn ∨ t.s = wBetween then 4
  else if t.s = [124, 124] then 5 else if t.s = [43] ∨ t.s = [45] then 6 else if t.s = [42] ∨ t.s = [47] ∨ t.s = [37] then 7
  else if t.s = [46] ∨ t.s = [40] then 9 else 0
theorem isS_ne {s : List UInt8} {l : List T} {n : Nat} (h : lineOf (here l) < n) (hs : ∀ t : T, (t.k == 1 || t.k == 5) = true → t.s = s → n ≤ lineOf t) : isS s l = false := by
  unfold isS
  cases hk : ((here l).k == 1 || (here l).k == 5) with
  | false => rfl
  | true =>
    rw [Bool.true_and, beq_eq_false_iff_ne]
    intro e
    have := hs _ hk e
    omega
end Go.Proofs.YtcmbdghbicjljaaGreatDoor
namespace Go.Proofs.YtcmbdghbicjljaaGreatDoor
section
variable (res : List UInt8 → Bool)
def Rd (n : Nat) (P rest : List T) (x : E) : Prop := ∃ f, pLine res f n (P ++ rest) = okR x P.length
theorem seq_ok {α β : Type} {a : α} {m q : Nat} {b : β} {k : α → Nat → R β} (h : k a m = okR b q) : seqR (okR a m) k = okR b (m + q) := by
  have h' : k a m = some (Except.ok (b, q)) := h
  simp only [okR, seqR, h']
theorem opAt_none {n : Nat} {l : List T} (h : lineOf (here l) < n) : opAt n l = none := by
  unfold opAt
  rw [List.find?_eq_none]
  intro w hw
  rw [Bool.not_eq_true]
  refine isS_ne h fun t hk e => ?_
  unfold wordsOf at hw
  split at hw
  · simp only [List.mem_singleton] at hw; simp [lineOf, hk, e, hw]
  · simp only [List.mem_singleton] at hw; subst hw; simp only [lineOf, hk, e]; decide
  · simp only [List.mem_singleton] at hw; subst hw; simp only [lineOf, hk, e]; decide
  · simp only [List.mem_cons, List.not_mem_nil, or_false] at hw; rcases hw with hw | hw <;> subst hw <;> simp only [lineOf, hk, e] <;> decide
  · simp only [List.mem_cons, List.not_mem_nil, or_false] at hw; rcases hw with hw | hw | hw <;> subst hw <;> simp only [lineOf, hk, e] <;> decide
  · cases hw
theorem no4 {l : List T} (h : lineOf (here l) < 4) (s : List UInt8) (hs : s ∈ rels ∨ s = wIs ∨ s = wNot ∨ s = wLike ∨ s = wIn ∨ s = wBetween) : isS s l = false := by
  refine isS_ne h fun t hk e => ?_
  have h1 : t.s ≠ wOr := by
    rw [e]; rintro rfl; revert hs; decide
  have h2 : t.s ≠ wAnd := by
    rw [e]; rintro rfl; revert hs; decide
  rw [← e] at hs
  simp only [lineOf, hk, if_neg h1, if_neg h2, if_pos hs]
  decide
theorem relAt_none {l : List T} (h : lineOf (here l) < 4) : relAt l = none := by
  unfold relAt
  rw [List.find?_eq_none]
  intro w hw
  rw [Bool.not_eq_true]
  exact no4 h w (.inl hw)
theorem pRel_none {l : List T} (h : lineOf (here l) < 4) (f : Nat) (a : E) : pRel res (f + 2) a l = okR a 0 := by
  have h1 := no4 h wIs (by decide)
  have h2 := no4 h wNot (by decide)
  have h3 := no4 h wLike (by decide)
  have h4 := no4 h wIn (by decide)
  have h5 := no4 h wBetween (by decide)
  rw [pRel, relAt_none h]
  simp only [h1, h2, pThree, h3, h4, h5, Bool.false_eq_true, if_false]
theorem drop_app {P rest : List T} : (P ++ rest).drop P.length = rest := List.drop_left
theorem rd_down {k : Nat} {P rest : List T} {x : E} (h : Rd res k P rest x) (hk : k ≤ 9) (h3 : 3 < k → isS wNot (P ++ rest) = false) (h8 : 8 < k → isS [45] (P ++ rest) = false) (d : Nat) : ∀ n, n + d = k → 1 ≤ n → lineOf (here rest) < n → Rd res n P rest x := by
  induction d with
  | zero => rintro n rfl _ _; exact h
  | succ d ih =>
    intro n hn h1 hr
    obtain ⟨f, e⟩ := ih (n + 1) (by omega) (by omega) (by omega)
    by_cases n3 : n = 3
    · subst n3
      exact ⟨f + 1, by rw [pLine, if_neg (by rw [h3 (by omega)]; decide)]; exact e⟩
    by_cases n4 : n = 4
    · subst n4
      refine ⟨f + 3, ?_⟩
      rw [pLine, (up_line res _ _).at e (by omega : f ≤ f + 2)]
      exact seq_ok (q := 0) (by rw [drop_app]; exact pRel_none res hr _ _)
    by_cases n8 : n = 8
    · subst n8
      exact ⟨f + 1, by rw [pLine, if_neg (by rw [h8 (by omega)]; decide)]; exact e⟩
    refine ⟨f + 2, ?_⟩
    rw [pLine.eq_6 res n _ _ n3 n4 n8 (by omega), (up_line res _ _).at e (by omega : f ≤ f + 1)]
    exact seq_ok (q := 0) (by rw [drop_app, pMore, opAt_none hr])
def PartOk (P : List T) (x : E) : Prop := ∀ n, 1 ≤ n → n ≤ 9 → ∀ rest, lineOf (here rest) < n → Rd res n P rest x
def TextOk (P : List T) (x : E) : Prop := ∀ rest, lineOf (here rest) < 1 → Rd res 1 P rest x
theorem part_of_prim {P : List T} {x : E} (h : ∀ rest, lineOf (here rest) < 9 → ∃ f, pPrim res f (P ++ rest) = okR x P.length) (h3 : ∀ rest, isS wNot (P ++ rest) = false) (h8 : ∀ rest, isS [45] (P ++ rest) = false) : PartOk res P x := by
  intro n h1 h9 rest hr
  have hd : Rd res 9 P rest x := by
    obtain ⟨f, e⟩ := h rest (by omega)
    exact ⟨f + 1, by rw [pLine]; exact e⟩
  exact rd_down res hd (Nat.le_refl _) (fun _ => h3 rest) (fun _ => h8 rest) (9 - n) n (by omega) h1 hr
theorem PartOk.text {P : List T} {x : E} (h : PartOk res P x) : TextOk res P x := fun rest hr => h 1 (by omega) (by omega) rest hr
theorem brk_part {P : List T} {x : E} (h : ∀ rest, Rd res 1 P (sg [41] :: rest) x) : PartOk res (brk P) x := by
  refine part_of_prim res (fun rest hr => ?_) (fun rest => rfl) (fun rest => rfl)
  obtain ⟨f, e⟩ := h rest
  refine ⟨f + 1, ?_⟩
  have e1 : brk P ++ rest = sg [40] :: (P ++ sg [41] :: rest) := by simp [brk]
  rw [e1, pPrim]
  have q1 : ((here (sg [40] :: (P ++ sg [41] :: rest))).k == 2) = false := rfl
  have q2 : ((here (sg [40] :: (P ++ sg [41] :: rest))).k == 3) = false := rfl
  have q3 : ((here (sg [40] :: (P ++ sg [41] :: rest))).k == 4) = false := rfl
  have q4 : isS wNull (sg [40] :: (P ++ sg [41] :: rest)) = false := rfl
  have q5 : isS wTrue (sg [40] :: (P ++ sg [41] :: rest)) = false := rfl
  have q6 : isS wFalse (sg [40] :: (P ++ sg [41] :: rest)) = false := rfl
  have q7 : isS [40] (sg [40] :: (P ++ sg [41] :: rest)) = true := rfl
  simp only [q1, q2, q3, q4, q5, q6, q7, Bool.false_and, Bool.false_eq_true, if_false, if_true, List.drop_succ_cons, List.drop_zero]
  rw [e]
  have e2 : (sg [40] :: (P ++ sg [41] :: rest)).drop (1 + P.length) = sg [41] :: rest := by rw [Nat.add_comm, List.drop_succ_cons, drop_app]
  have e3 : needR [41] (sg [41] :: rest) = okR () 1 := rfl
  rw [seq_ok (b := x) (q := P.length + 1) (seq_ok (by rw [e2, e3]; exact seq_ok (q := 0) rfl))]
  have e4 : (brk P).length = 1 + (P.length + 1) := by simp [brk]; omega
  rw [e4]
theorem TextOk.inBrk {P : List T} {x : E} (h : TextOk res P x) : PartOk res (brk P) x := brk_part res fun rest => h (sg [41] :: rest) (show lineOf (sg [41]) < 1 by decide)
end
end Go.Proofs.YtcmbdghbicjljaaGreatDoor
namespace Go.Proofs.YtcmbdghbicjljaaGreatDoor
abbrev X (α : Type) := Except Nat (α × Nat)
def okX {α : Type} (a : α) (m : Nat) : X α := .ok (a, m)
def badX {α : Type} (p : Nat) : X α := .error p
def seqX {α β : Type} (r : X α) (k : α → Nat → X β) : X β := match r with
  | .error p => .error p
  | .ok (a, m) => match k a m with
    | .error p => .error (m + p)
    | .ok (b, q) => .ok (b, m + q)
@[simp] theorem seqX_bad {α β : Type} (p : Nat) (k : α → Nat → X β) : seqX (badX p) k = badX p := rfl
def Lm {α : Type} (r : Nat → R α) (x : X α) : Prop := ∃ f₀, ∀ f, f₀ ≤ f → r f = some x
theorem Lm.uniq {α : Type} {r : Nat → R α} {x y : X α} (h : Lm r x) (h' : Lm r y) : x = y := by
  obtain ⟨f, hf⟩ := h
  obtain ⟨g, hg⟩ := h'
  have h1 := hf _ (Nat.le_max_left f g)
  rw [hg _ (Nat.le_max_right f g)] at h1
  exact (Option.some.inj h1).symm
theorem Lm.const {α : Type} (x : X α) : Lm (fun _ => some x) x := ⟨0, fun _ _ => rfl⟩
theorem Lm.ok {α : Type} (a : α) (m : Nat) : Lm (fun _ => okR a m) (okX a m) := Lm.const _
theorem Lm.of {α : Type} {r : Nat → R α} (h : Up r) {f : Nat} {x : X α} (e : r f = some x) : Lm r x := ⟨f, fun _ hg => h.at e hg⟩
theorem Lm.succ {α : Type} {r : Nat → R α} {x : X α} (h : Lm (fun f => r (f + 1)) x) : Lm r x := by
  obtain ⟨f, hf⟩ := h
  refine ⟨f + 1, fun g hg => ?_⟩
  obtain ⟨g, rfl⟩ : ∃ g', g = g' + 1 := ⟨g - 1, by omega⟩
  exact hf g (by omega)
open Classical in
noncomputable def lim {α : Type} (r : Nat → R α) : X α := if h : Tot r then h.choose_spec.choose else badX 0
theorem Lm.lim {α : Type} {r : Nat → R α} (h : Up r) (ht : Tot r) : Lm r (lim r) := by
  have : ∃ f, r f = some (Go.Proofs.YtcmbdghbicjljaaGreatDoor.lim r) := by
    unfold Go.Proofs.YtcmbdghbicjljaaGreatDoor.lim
    rw [dif_pos ht]
    exact ⟨_, ht.choose_spec.choose_spec⟩
  obtain ⟨f, hf⟩ := this
  exact .of h hf
theorem Lm.eq {α : Type} {r : Nat → R α} {x : X α} (hu : Up r) (h : Lm r x) : Go.Proofs.YtcmbdghbicjljaaGreatDoor.lim r = x := by
  obtain ⟨f, hf⟩ := h
  exact (Lm.lim hu ⟨f, x, hf f (Nat.le_refl _)⟩).uniq ⟨f, hf⟩
end Go.Proofs.YtcmbdghbicjljaaGreatDoor
namespace Go.Proofs.YtcmbdghbicjljaaGreatDoor
section
variable (res : List UInt8 → Bool)
noncomputable def ln (n : Nat) (l : List T) : X E := lim fun f => pLine res f n l
noncomputable def mr (n : Nat) (a : E) (l : List T) : X E := lim fun f => pMore res f n a l
noncomputable def rl (a : E) (l : List T) : X E := lim fun f => pRel res f a l
noncomputable def pr (l : List T) : X E := lim fun f => pPrim res f l
end
end Go.Proofs.YtcmbdghbicjljaaGreatDoor
namespace Go.Proofs.YtcmbdghbicjljaaGreatDoor
section
variable (res : List UInt8 → Bool)
noncomputable def st (k : Nat) (a : E) (l : List T) : X E := if k = 3 then okX a 0 else if k = 4 then rl res a l else mr res k a l
noncomputable def ct (n : Nat) : Nat → E → List T → X E
  | 0, a, _ => okX a 0
  | k + 1, a, l => if k + 1 < n then okX a 0 else seqX (st res (k + 1) a l) fun b m => ct n k b (l.drop m)
end
end Go.Proofs.YtcmbdghbicjljaaGreatDoor
