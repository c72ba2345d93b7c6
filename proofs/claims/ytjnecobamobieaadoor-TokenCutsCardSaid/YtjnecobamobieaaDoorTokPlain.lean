/- Plain facts on tokens (no program): blanks, words, numbers, texts, blobs and signs in a list of bytes; a statement's tokens. No condition. -/
import Derived.Lib.Hide
namespace Go.Proofs.YtjnecobamobieaaDoor
def isLet (c : UInt8) : Bool := (97 ≤ c && c ≤ 122) || (65 ≤ c && c ≤ 90) || c == 95
def isDig (c : UInt8) : Bool := 48 ≤ c && c ≤ 57
def isWs (c : UInt8) : Bool := c == 32 || c == 9 || c == 10 || c == 13
def isWch (c : UInt8) : Bool := isLet c || isDig c
def hexV (c : UInt8) : Option Nat := if isDig c then some (c.toNat - 48) else if 97 ≤ c && c ≤ 102 then some (c.toNat - 87) else if 65 ≤ c && c ≤ 70 then some (c.toNat - 55) else none
def low (c : UInt8) : UInt8 := if 65 ≤ c && c ≤ 90 then c + 32 else c
def i64Of (n : Nat) : Int := if n < 9223372036854775808 then n else (n : Int) - 18446744073709551616
/-- How many blank bytes stand first: behind a remark's two signs ('true') all up to the line's end. -/
def bl : Bool → List UInt8 → Nat
  | _, [] => 0
  | false, c :: r => if isWs c then 1 + bl false r else if c = 45 ∧ r.head? = some 45 then 1 + bl true r else 0
  | true, c :: r => if c = 10 then 1 + bl false r else 1 + bl true r
def wLen (l : List UInt8) : Nat := (l.takeWhile isWch).length
/-- A text's bytes behind its first quote, and how many they take with the last one. -/
def txtR : List UInt8 → Option (List UInt8 × Nat)
  | [] => none
  | c :: r => if c = 39 then
      match r with
      | [] => some ([], 1)
      | d :: r' => if d = 39 then (txtR r').map (fun p => (39 :: p.1, p.2 + 2)) else some ([], 1)
    else (txtR r).map fun p => (c :: p.1, p.2 + 1)
def blbR : List UInt8 → Option (List UInt8 × Nat)
  | [] => none
  | c :: r => if c = 39 then some ([], 1) else
      match r with
      | [] => none
      | d :: r' => (hexV c).bind fun h => (hexV d).bind fun g => (blbR r').map fun p => (UInt8.ofNat (16 * h + g) :: p.1, p.2 + 2)
/-- A number's value and how many digits it has; none, if it is beyond 2 to the 63. -/
def numV : Nat → List UInt8 → Option (Nat × Nat)
  | n, [] => some (n, 0)
  | n, c :: r => if isDig c then (if 9223372036854775808 < 10 * n + (c.toNat - 48) then none else (numV (10 * n + (c.toNat - 48)) r).map fun p => (p.1, p.2 + 1)) else some (n, 0)
def signs : List (List UInt8) := [[60, 62], [60, 61], [62, 61], [33, 61], [124, 124], [61], [60], [62], [43], [45], [42], [47], [37], [40], [41], [44], [46], [59]]
def sgn (l : List UInt8) : Option (List UInt8) := signs.find? fun w => w.isPrefixOf l
def headIs (l : List UInt8) (f : UInt8 → Bool) : Bool := match l with | [] => false | c :: _ => f c
/-- A token: its kind, S, I, and how many bytes it takes. -/
structure Tk where
  k : Int
  s : List UInt8
  i : Int
  n : Nat
def oneT (l : List UInt8) : Option Tk :=
  match l with
  | [] => none
  | c :: r =>
    if (c = 120 ∨ c = 88) ∧ r.head? = some 39 then (blbR r.tail).map fun p => ⟨4, p.1, 0, p.2 + 2⟩
    else if isLet c then (if wLen l ≤ 32 then some ⟨1, (l.take (wLen l)).map low, 0, wLen l⟩ else none)
    else if isDig c then (numV 0 l).bind fun p => if headIs (l.drop p.2) isLet then none else some ⟨2, [], i64Of p.1, p.2⟩
    else if c = 39 then (txtR r).map fun p => ⟨3, p.1, 0, p.2 + 1⟩
    else (sgn l).map fun w => ⟨5, if w = [33, 61] then [60, 62] else w, 0, w.length⟩
/-- A token where it stands. -/
structure T where
  k : Int
  s : List UInt8
  i : Int
  p : Nat
deriving DecidableEq
def T.up (d : Nat) (t : T) : T := ⟨t.k, t.s, t.i, t.p + d⟩
/-- A statement's tokens, or the place where there is none. -/
def cutF : Nat → Nat → List UInt8 → Except Nat (List T)
  | 0, p, _ => .error p
  | f + 1, p, l =>
    if l.drop (bl false l) = [] then .ok [⟨6, [], 0, p + bl false l⟩] else
    match oneT (l.drop (bl false l)) with
    | none => .error (p + bl false l)
    | some t => match cutF f (p + bl false l + t.n) (l.drop (bl false l + t.n)) with
      | .error q => .error q
      | .ok ts => .ok (⟨t.k, t.s, t.i, p + bl false l⟩ :: ts)
def cutP (p : Nat) (l : List UInt8) : Except Nat (List T) := cutF (l.length + 1) p l
theorem bl_le (b : Bool) (l : List UInt8) : bl b l ≤ l.length := by
  induction l generalizing b with
  | nil => cases b <;> simp [bl]
  | cons c r ih =>
    have h1 := ih true
    have h2 := ih false
    cases b
    · simp only [bl, List.length_cons]
      split
      · omega
      · split <;> omega
    · simp only [bl, List.length_cons]
      split <;> omega
theorem bl_stop (b : Bool) (l : List UInt8) : bl false (l.drop (bl b l)) = 0 := by
  induction l generalizing b with
  | nil => cases b <;> simp [bl]
  | cons c r ih =>
    cases b
    · simp only [bl]
      split
      · rw [Nat.add_comm, List.drop_succ_cons]; exact ih false
      · split
        · rw [Nat.add_comm, List.drop_succ_cons]; exact ih true
        · rename_i h1 h2
          rw [List.drop_zero]
          simp only [bl]
          rw [if_neg h1, if_neg h2]
    · simp only [bl]
      split
      · rw [Nat.add_comm, List.drop_succ_cons]; exact ih false
      · rw [Nat.add_comm, List.drop_succ_cons]; exact ih true
theorem txtR_len (l : List UInt8) (p : List UInt8 × Nat) (h : txtR l = some p) : 0 < p.2 ∧ p.2 ≤ l.length := by
  match l with
  | [] => simp [txtR] at h
  | [c] =>
    by_cases hc : c = 39
    · simp [txtR, hc] at h
      subst h
      simp
    · simp [txtR, hc] at h
  | c :: d :: r' =>
    unfold txtR at h
    by_cases hc : c = 39
    · rw [if_pos hc] at h
      simp only at h
      by_cases hd : d = 39
      · rw [if_pos hd, Option.map_eq_some_iff] at h
        obtain ⟨q, hq, rfl⟩ := h
        have := txtR_len r' q hq
        simp
        omega
      · rw [if_neg hd] at h
        simp at h
        subst h
        simp
    · rw [if_neg hc, Option.map_eq_some_iff] at h
      obtain ⟨q, hq, rfl⟩ := h
      have := txtR_len (d :: r') q hq
      simp at this ⊢
      omega
theorem blbR_len (l : List UInt8) (p : List UInt8 × Nat) (h : blbR l = some p) : 0 < p.2 ∧ p.2 ≤ l.length := by
  match l with
  | [] => simp [blbR] at h
  | [c] =>
    by_cases hc : c = 39
    · simp [blbR, hc] at h
      subst h
      simp
    · simp [blbR, hc] at h
  | c :: d :: r' =>
    unfold blbR at h
    by_cases hc : c = 39
    · rw [if_pos hc] at h
      simp at h
      subst h
      simp
    · rw [if_neg hc] at h
      simp only [Option.bind_eq_some_iff, Option.map_eq_some_iff] at h
      obtain ⟨-, -, -, -, q, hq, rfl⟩ := h
      have := blbR_len r' q hq
      simp
      omega
theorem numV_len (n : Nat) (l : List UInt8) (p : Nat × Nat) (h : numV n l = some p) : p.2 = (l.takeWhile isDig).length ∧ p.2 ≤ l.length := by
  induction l generalizing n p with
  | nil => simp [numV] at h; subst h; simp
  | cons c r ih =>
    unfold numV at h
    by_cases hc : isDig c = true
    · rw [if_pos hc] at h
      split at h
      · cases h
      · rw [Option.map_eq_some_iff] at h
        obtain ⟨q, hq, rfl⟩ := h
        have := ih _ q hq
        rw [List.takeWhile_cons_of_pos hc]
        simp
        omega
    · rw [if_neg hc] at h
      simp at h
      subst h
      simp [hc]
theorem sgn_mem {l w : List UInt8} (h : sgn l = some w) : w ∈ signs ∧ w.isPrefixOf l = true := by
  unfold sgn at h
  exact ⟨List.mem_of_find?_eq_some h, by simpa using List.find?_some h⟩
theorem signs_len {w : List UInt8} (h : w ∈ signs) : w.length = 1 ∨ w.length = 2 := by
  simp [signs] at h
  rcases h with rfl | rfl | rfl | rfl | rfl | rfl | rfl | rfl | rfl | rfl | rfl | rfl | rfl | rfl | rfl | rfl | rfl | rfl <;> simp
theorem oneT_len {l : List UInt8} {t : Tk} (h : oneT l = some t) : 0 < t.n ∧ t.n ≤ l.length := by
  cases l with
  | nil => simp [oneT] at h
  | cons c r =>
    simp only [oneT] at h
    split at h
    · rename_i hx
      rw [Option.map_eq_some_iff] at h
      obtain ⟨p, hp, rfl⟩ := h
      have h1 := blbR_len _ p hp
      have h2 : 0 < r.length := by cases r with | nil => simp at hx | cons d r => simp
      rw [List.length_tail] at h1
      simp
      omega
    · split at h
      · rename_i hl
        split at h
        · simp at h
          subst h
          have h1 : (c :: r).takeWhile isWch = c :: r.takeWhile isWch := List.takeWhile_cons_of_pos (by simp [isWch, hl])
          have h2 := (List.takeWhile_sublist (p := isWch) (l := c :: r)).length_le
          simp only [wLen]
          refine ⟨by rw [h1]; simp, h2⟩
        · cases h
      · split at h
        · rename_i hd
          rw [Option.bind_eq_some_iff] at h
          obtain ⟨p, hp, h⟩ := h
          split at h
          · cases h
          · simp at h
            subst h
            obtain ⟨h1, h2⟩ := numV_len 0 _ p hp
            rw [List.takeWhile_cons_of_pos hd] at h1
            simp at h1
            exact ⟨by simp; omega, h2⟩
        · split at h
          · rw [Option.map_eq_some_iff] at h
            obtain ⟨p, hp, rfl⟩ := h
            have := txtR_len _ p hp
            simp
            omega
          · rw [Option.map_eq_some_iff] at h
            obtain ⟨w, hw, rfl⟩ := h
            obtain ⟨h1, h2⟩ := sgn_mem hw
            have h3 := signs_len h1
            have h4 := (List.isPrefixOf_iff_prefix.1 h2).length_le
            simp at h4 ⊢
            omega
theorem cutF_fuel (f g p : Nat) (l : List UInt8) (hf : l.length < f) (hg : l.length < g) : cutF f p l = cutF g p l := by
  induction f generalizing g p l with
  | zero => omega
  | succ f ih =>
    cases g with
    | zero => omega
    | succ g =>
      simp only [cutF]
      by_cases hl : l.drop (bl false l) = []
      · rw [if_pos hl, if_pos hl]
      · rw [if_neg hl, if_neg hl]
        cases ho : oneT (l.drop (bl false l)) with
        | none => rfl
        | some t =>
          have hn := oneT_len ho
          have hb := bl_le false l
          rw [List.length_drop] at hn
          simp only
          rw [ih g _ (l.drop (bl false l + t.n)) (by rw [List.length_drop]; omega) (by rw [List.length_drop]; omega)]
/-- A cut, one token on. -/
theorem cutP_eq (p : Nat) (l : List UInt8) : cutP p l = if l.drop (bl false l) = [] then .ok [⟨6, [], 0, p + bl false l⟩] else
    match oneT (l.drop (bl false l)) with
    | none => .error (p + bl false l)
    | some t => match cutP (p + bl false l + t.n) (l.drop (bl false l + t.n)) with
      | .error q => .error q
      | .ok ts => .ok (⟨t.k, t.s, t.i, p + bl false l⟩ :: ts) := by
  unfold cutP
  conv => lhs; unfold cutF
  by_cases hl : l.drop (bl false l) = []
  · rw [if_pos hl, if_pos hl]
  · rw [if_neg hl, if_neg hl]
    cases ho : oneT (l.drop (bl false l)) with
    | none => rfl
    | some t =>
      have hn := oneT_len ho
      have hb := bl_le false l
      rw [List.length_drop] at hn
      simp only
      rw [cutF_fuel l.length ((l.drop (bl false l + t.n)).length + 1) _ _ (by rw [List.length_drop]; omega) (by omega)]
theorem drop_end {l : List UInt8} (h : l.drop (bl false l) = []) : bl false l = l.length := by
  have h1 := bl_le false l
  have h2 := congrArg List.length h
  rw [List.length_drop, List.length_nil] at h2
  omega
/-- What is behind a cut token is shorter. -/
theorem cut_ind {P : List UInt8 → Prop} (h : ∀ l, (∀ t, l.drop (bl false l) ≠ [] → oneT (l.drop (bl false l)) = some t → P (l.drop (bl false l + t.n))) → P l) : ∀ l, P l := by
  intro l
  induction hn : l.length using Nat.strongRecOn generalizing l with
  | ind n ih =>
    refine h l fun t hne ho => ih _ ?_ _ rfl
    have h1 := oneT_len ho
    rw [List.length_drop] at h1 ⊢
    omega
def upE (d : Nat) : Except Nat (List T) → Except Nat (List T)
  | .error q => .error (q + d)
  | .ok ts => .ok (ts.map (T.up d))
theorem cutP_up (l : List UInt8) : ∀ p d, cutP (p + d) l = upE d (cutP p l) := by
  refine cut_ind (P := fun l => ∀ p d, cutP (p + d) l = upE d (cutP p l)) (fun l ih p d => ?_) l
  rw [cutP_eq (p + d) l, cutP_eq p l]
  by_cases hl : l.drop (bl false l) = []
  · rw [if_pos hl, if_pos hl]
    simp [upE, T.up]
    omega
  · rw [if_neg hl, if_neg hl]
    cases ho : oneT (l.drop (bl false l)) with
    | none => simp only [upE]; congr 1; omega
    | some t =>
      simp only
      rw [show p + d + bl false l + t.n = p + bl false l + t.n + d by omega, ih t hl ho]
      cases cutP (p + bl false l + t.n) (l.drop (bl false l + t.n)) with
      | error q => rfl
      | ok ts => simp [upE, T.up]; omega
theorem cutP_at (p : Nat) (l : List UInt8) : cutP p l = upE p (cutP 0 l) := by
  have := cutP_up l 0 p
  rwa [Nat.zero_add] at this
/-- Cut again from a token on: no blanks stand first there. -/
theorem cutP_skip (p : Nat) (l : List UInt8) : cutP (p + bl false l) (l.drop (bl false l)) = cutP p l := by
  rw [cutP_eq p l, cutP_eq (p + bl false l) (l.drop (bl false l)), bl_stop, List.drop_zero, Nat.add_zero]
  simp only [Nat.zero_add, List.drop_drop]
/-- The tokens of a statement that is good: each one's place, and what a cut from it tells. -/
theorem cut_parts (l : List UInt8) : ∀ p ts, cutP p l = .ok ts →
    (∃ us, ts = us ++ [⟨6, [], 0, p + l.length⟩]) ∧ (∀ t ∈ ts, p ≤ t.p ∧ t.p ≤ p + l.length) ∧ (∀ i (h : i + 1 < ts.length), (ts[i]'(by omega)).p < ts[i + 1].p) ∧
    ∀ i (h : i < ts.length), cutP ts[i].p (l.drop (ts[i].p - p)) = .ok (ts.drop i) := by
  refine cut_ind (P := fun l => ∀ p ts, cutP p l = .ok ts → (∃ us, ts = us ++ [⟨6, [], 0, p + l.length⟩]) ∧ (∀ t ∈ ts, p ≤ t.p ∧ t.p ≤ p + l.length) ∧ (∀ i (h : i + 1 < ts.length), (ts[i]'(by omega)).p < ts[i + 1].p) ∧ ∀ i (h : i < ts.length), cutP ts[i].p (l.drop (ts[i].p - p)) = .ok (ts.drop i)) (fun l ih p ts h => ?_) l
  have hsk := cutP_skip p l
  have hb := bl_le false l
  rw [h] at hsk
  rw [cutP_eq p l] at h
  by_cases hl : l.drop (bl false l) = []
  · rw [if_pos hl] at h
    have he := drop_end hl
    injection h with h
    subst h
    refine ⟨⟨[], by rw [he]; rfl⟩, fun t ht => ?_, fun i hi => by simp at hi, fun i hi => ?_⟩
    · simp at ht
      subst ht
      simp
      omega
    · have : i = 0 := by simpa using hi
      subst this
      simp only [List.getElem_cons_zero, List.drop_zero]
      rw [Nat.add_sub_cancel_left]
      exact hsk
  · rw [if_neg hl] at h
    cases ho : oneT (l.drop (bl false l)) with
    | none => rw [ho] at h; cases h
    | some t =>
      rw [ho] at h
      simp only at h
      have hn := oneT_len ho
      rw [List.length_drop] at hn
      cases hc : cutP (p + bl false l + t.n) (l.drop (bl false l + t.n)) with
      | error q => rw [hc] at h; cases h
      | ok us =>
        rw [hc] at h
        simp only at h
        injection h with h
        subst h
        obtain ⟨⟨vs, h1⟩, h2, h3, h4⟩ := ih t hl ho _ _ hc
        rw [List.length_drop] at h1 h2
        refine ⟨⟨⟨t.k, t.s, t.i, p + bl false l⟩ :: vs, ?_⟩, fun u hu => ?_, fun i hi => ?_, fun i hi => ?_⟩
        · rw [h1]
          simp
          omega
        · rcases List.mem_cons.1 hu with rfl | hu
          · simp
            omega
          · have := h2 u hu
            omega
        · cases i with
          | zero =>
            simp only [List.getElem_cons_zero, Nat.zero_add, List.getElem_cons_succ]
            have hu : 0 < us.length := by simp at hi; omega
            have := h2 us[0] (List.getElem_mem _)
            omega
          | succ i =>
            simp only [List.getElem_cons_succ]
            exact h3 i (by simpa using hi)
        · cases i with
          | zero =>
            simp only [List.getElem_cons_zero, List.drop_zero]
            rw [Nat.add_sub_cancel_left]
            exact hsk
          | succ i =>
            simp only [List.getElem_cons_succ, List.drop_succ_cons]
            have hi' : i < us.length := by simpa using hi
            have h5 := h4 i hi'
            have h6 := h2 us[i] (List.getElem_mem _)
            rw [List.drop_drop] at h5
            rw [show us[i].p - p = bl false l + t.n + (us[i].p - (p + bl false l + t.n)) by omega]
            exact h5
end Go.Proofs.YtjnecobamobieaaDoor
