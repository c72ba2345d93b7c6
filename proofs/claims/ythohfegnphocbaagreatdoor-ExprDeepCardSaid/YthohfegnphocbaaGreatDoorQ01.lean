/- Plain facts on tokens (no program): blanks, words, numbers, texts, blobs and signs in a list of bytes; a statement's tokens. No condition. -/
import Derived.Lib.Hide
import Derived.Lib.ParseIntB
import Derived.Test.YthohfegnphocbaaGreatDoorProg
import Derived.WalkKit
import Derived.WalkSpells
import Derived.WalkLawsBesides
import Derived.Lib.Walk
import Derived.Deep.Light
import Derived.IntWalk
import Derived.StillTailTactics
import Derived.Lib.Bytealg
import Derived.Lib.SplitLaws
import Derived.Deep.AppendLies
import Derived.Lib.AppendStr
import Derived.Deep.Upon
import Derived.Lib.SlFresh
import Derived.Laws.BytesString
import Derived.Laws.Cells
namespace Go.Proofs.YthohfegnphocbaaGreatDoor
def isLet (c : UInt8) : Bool := (97 ≤ c && c ≤ 122) || (65 ≤ c && c ≤ 90) || c == 95
def isDig (c : UInt8) : Bool := 48 ≤ c && c ≤ 57
def isWs (c : UInt8) : Bool := c == 32 || c == 9 || c == 10 || c == 13
def isWch (c : UInt8) : Bool := isLet c || isDig c
def hexV (c : UInt8) : Option Nat := if isDig c then some (c.toNat - 48) else if 97 ≤ c && c ≤ 102 then some (c.toNat - 87) else if 65 ≤ c && c ≤ 70 then some (c.toNat - 55) else none
def low (c : UInt8) : UInt8 := if 65 ≤ c && c ≤ 90 then c + 32 else c
def i64Of (n : Nat) : Int := if n < 9223372036854775808 then n else (n : Int) - 18446744073709551616
def bl : Bool → List UInt8 → Nat
  | _, [] => 0
  | false, c :: r => if isWs c then 1 + bl false r else if c = 45 ∧ r.head? = some 45 then 1 + bl true r else 0
  | true, c :: r => if c = 10 then 1 + bl false r else 1 + bl true r
def wLen (l : List UInt8) : Nat := (l.takeWhile isWch).length
def txtR : List UInt8 → Option (List UInt8 × Nat)
  | [] => none
  | c :: r => if c = 39 then
      match r with
      | [] => some ([], 1)
      | d :: r' => if d = 39 then (txtR r').map (fun p => (39 :: p.1, p.2 + 2)) else some ([], 1)
    else (txtR r).map fun p => (c :: p.1, p.2 + 1)
def blbR : List UInt8 → Option (List UInt8 × Nat)
  | [] => none
  | c :: r => if c = 39 then some ([], 1) else
      match r with
      | [] => none
      | d :: r' => (hexV c).bind fun h => (hexV d).bind fun g => (blbR r').map fun p => (UInt8.ofNat (16 * h + g) :: p.1, p.2 + 2)
def numV : Nat → List UInt8 → Option (Nat × Nat)
  | n, [] => some (n, 0)
  | n, c :: r => if isDig c then (if 9223372036854775808 < 10 * n + (c.toNat - 48) then none else (numV (10 * n + (c.toNat - 48)) r).map fun p => (p.1, p.2 + 1)) else some (n, 0)
def signs : List (List UInt8) := [[60, 62], [60, 61], [62, 61], [33, 61], [124, 124], [61], [60], [62], [43], [45], [42], [47], [37], [40], [41], [44], [46], [59]]
def sgn (l : List UInt8) : Option (List UInt8) := signs.find? fun w => w.isPrefixOf l
def headIs (l : List UInt8) (f : UInt8 → Bool) : Bool := match l with | [] => false | c :: _ => f c
structure Tk where
  k : Int
  s : List UInt8
  i : Int
  n : Nat
def oneT (l : List UInt8) : Option Tk :=
  match l with
  | [] => none
  | c :: r =>
    if (c = 120 ∨ c = 88) ∧ r.head? = some 39 then (blbR r.tail).map fun p => ⟨4, p.1, 0, p.2 + 2⟩
    else if isLet c then (if wLen l ≤ 32 then some ⟨1, (l.take (wLen l)).map low, 0, wLen l⟩ else none)
    else if isDig c then (numV 0 l).bind fun p => if headIs (l.drop p.2) isLet then none else some ⟨2, [], i64Of p.1, p.2⟩
    else if c = 39 then (txtR r).map fun p => ⟨3, p.1, 0, p.2 + 1⟩
    else (sgn l).map fun w => ⟨5, if w = [33, 61] then [60, 62] else w, 0, w.length⟩
structure T where
  k : Int
  s : List UInt8
  i : Int
  p : Nat
deriving DecidableEq
def T.up (d : Nat) (t : T) : T := ⟨t.k, t.s, t.i, t.p + d⟩
def cutF : Nat → Nat → List UInt8 → Except Nat (List T)
  | 0, p, _ => .error p
  | f + 1, p, l =>
    if l.drop (bl false l) = [] then .ok [⟨6, [], 0, p + bl false l⟩] else
    match oneT (l.drop (bl false l)) with
    | none => .error (p + bl false l)
    | some t => match cutF f (p + bl false l + t.n) (l.drop (bl false l + t.n)) with
      | .error q => .error q
      | .ok ts => .ok (⟨t.k, t.s, t.i, p + bl false l⟩ :: ts)
def cutP (p : Nat) (l : List UInt8) : Except Nat (List T) := cutF (l.length + 1) p l
theorem bl_le (b : Bool) (l : List UInt8) : bl b l ≤ l.length := by
  induction l generalizing b with
  | nil => cases b <;> simp [bl]
  | cons c r ih =>
    have h1 := ih true
    have h2 := ih false
    cases b
    · simp only [bl, List.length_cons]
      split
      · omega
      · split <;> omega
    · simp only [bl, List.length_cons]
      split <;> omega
theorem bl_stop (b : Bool) (l : List UInt8) : bl false (l.drop (bl b l)) = 0 := by
  induction l generalizing b with
  | nil => cases b <;> simp [bl]
  | cons c r ih =>
    cases b
    · simp only [bl]
      split
      · rw [Nat.add_comm, List.drop_succ_cons]; exact ih false
      · split
        · rw [Nat.add_comm, List.drop_succ_cons]; exact ih true
        · rename_i h1 h2
          rw [List.drop_zero]
          simp only [bl]
          rw [if_neg h1, if_neg h2]
    · simp only [bl]
      split
      · rw [Nat.add_comm, List.drop_succ_cons]; exact ih false
      · rw [Nat.add_comm, List.drop_succ_cons]; exact ih true
theorem txtR_len (l : List UInt8) (p : List UInt8 × Nat) (h : txtR l = some p) : 0 < p.2 ∧ p.2 ≤ l.length := by
  match l with
  | [] => simp [txtR] at h
  | [c] =>
    by_cases hc : c = 39
    · simp [txtR, hc] at h
      subst h
      simp
    · simp [txtR, hc] at h
  | c :: d :: r' =>
    unfold txtR at h
    by_cases hc : c = 39
    · rw [if_pos hc] at h
      simp only at h
      by_cases hd : d = 39
      · rw [if_pos hd, Option.map_eq_some_iff] at h
        obtain ⟨q, hq, rfl⟩ := h
        have := txtR_len r' q hq
        simp
        omega
      · rw [if_neg hd] at h
        simp at h
        subst h
        simp
    · rw [if_neg hc, Option.map_eq_some_iff] at h
      obtain ⟨q, hq, rfl⟩ := h
      have := txtR_len (d :: r') q hq
      simp at this ⊢
      omega
theorem blbR_len (l : List UInt8) (p : List UInt8 × Nat) (h : blbR l = some p) : 0 < p.2 ∧ p.2 ≤ l.length := by
  match l with
  | [] => simp [blbR] at h
  | [c] =>
    by_cases hc : c = 39
    · simp [blbR, hc] at h
      subst h
      simp
    · simp [blbR, hc] at h
  | c :: d :: r' =>
    unfold blbR at h
    by_cases hc : c = 39
    · rw [if_pos hc] at h
      simp at h
      subst h
      simp
    · rw [if_neg hc] at h
      simp only [Option.bind_eq_some_iff, Option.map_eq_some_iff] at h
      obtain ⟨-, -, -, -, q, hq, rfl⟩ := h
      have := blbR_len r' q hq
      simp
      omega
theorem numV_len (n : Nat) (l : List UInt8) (p : Nat × Nat) (h : numV n l = some p) : p.2 = (l.takeWhile isDig).length ∧ p.2 ≤ l.length := by
  induction l generalizing n p with
  | nil => simp [numV] at h; subst h; simp
  | cons c r ih =>
    unfold numV at h
    by_cases hc : isDig c = true
    · rw [if_pos hc] at h
      split at h
      · cases h
      · rw [Option.map_eq_some_iff] at h
        obtain ⟨q, hq, rfl⟩ := h
        have := ih _ q hq
        rw [List.takeWhile_cons_of_pos hc]
        simp
        omega
    · rw [if_neg hc] at h
      simp at h
      subst h
      simp [hc]
theorem sgn_mem {l w : List UInt8} (h : sgn l = some w) : w ∈ signs ∧ w.isPrefixOf l = true := by
  unfold sgn at h
  exact ⟨List.mem_of_find?_eq_some h, by simpa using List.find?_some h⟩
theorem signs_len {w : List UInt8} (h : w ∈ signs) : w.length = 1 ∨ w.length = 2 := by
  simp [signs] at h
  rcases h with rfl | rfl | rfl | rfl | rfl | rfl | rfl | rfl | rfl | rfl | rfl | rfl | rfl | rfl | rfl | rfl | rfl | rfl <;> simp
theorem oneT_len {l : List UInt8} {t : Tk} (h : oneT l = some t) : 0 < t.n ∧ t.n ≤ l.length := by
  cases l with
  | nil => simp [oneT] at h
  | cons c r =>
    simp only [oneT] at h
    split at h
    · rename_i hx
      rw [Option.map_eq_some_iff] at h
      obtain ⟨p, hp, rfl⟩ := h
      have h1 := blbR_len _ p hp
      have h2 : 0 < r.length := by cases r with | nil => simp at hx | cons d r => simp
      rw [List.length_tail] at h1
      simp
      omega
    · split at h
      · rename_i hl
        split at h
        · simp at h
          subst h
          have h1 : (c :: r).takeWhile isWch = c :: r.takeWhile isWch := List.takeWhile_cons_of_pos (by simp [isWch, hl])
          have h2 := (List.takeWhile_sublist (p := isWch) (l := c :: r)).length_le
          simp only [wLen]
          refine ⟨by rw [h1]; simp, h2⟩
        · cases h
      · split at h
        · rename_i hd
          rw [Option.bind_eq_some_iff] at h
          obtain ⟨p, hp, h⟩ := h
          split at h
          · cases h
          · simp at h
            subst h
            obtain ⟨h1, h2⟩ := numV_len 0 _ p hp
            rw [List.takeWhile_cons_of_pos hd] at h1
            simp at h1
            exact ⟨by simp; omega, h2⟩
        · split at h
          · rw [Option.map_eq_some_iff] at h
            obtain ⟨p, hp, rfl⟩ := h
            have := txtR_len _ p hp
            simp
            omega
          · rw [Option.map_eq_some_iff] at h
            obtain ⟨w, hw, rfl⟩ := h
            obtain ⟨h1, h2⟩ := sgn_mem hw
            have h3 := signs_len h1
            have h4 := (List.isPrefixOf_iff_prefix.1 h2).length_le
            simp at h4 ⊢
            omega
theorem cutF_fuel (f g p : Nat) (l : List UInt8) (hf : l.length < f) (hg : l.length < g) : cutF f p l = cutF g p l := by
  induction f generalizing g p l with
  | zero => omega
  | succ f ih =>
    cases g with
    | zero => omega
    | succ g =>
      simp only [cutF]
      by_cases hl : l.drop (bl false l) = []
      · rw [if_pos hl, if_pos hl]
      · rw [if_neg hl, if_neg hl]
        cases ho : oneT (l.drop (bl false l)) with
        | none => rfl
        | some t =>
          have hn := oneT_len ho
          have hb := bl_le false l
          rw [List.length_drop] at hn
          simp only
          rw [ih g _ (l.drop (bl false l + t.n)) (by rw [List.length_drop]; omega) (by rw [List.length_drop]; omega)]
theorem cutP_eq (p : Nat) (l : List UInt8) : cutP p l = if l.drop (bl false l) = [] then .ok [⟨6, [], 0, p + bl false l⟩] else
    match oneT (l.drop (bl false l)) with
    | none => .error (p + bl false l)
    | some t => match cutP (p + bl false l + t.n) (l.drop (bl false l + t.n)) with
      | .error q => .error q
      | .ok ts => .ok (⟨t.k, t.s, t.i, p + bl false l⟩ :: ts) := by
  unfold cutP
  conv => lhs; unfold cutF
  by_cases hl : l.drop (bl false l) = []
  · rw [if_pos hl, if_pos hl]
  · rw [if_neg hl, if_neg hl]
    cases ho : oneT (l.drop (bl false l)) with
    | none => rfl
    | some t =>
      have hn := oneT_len ho
      have hb := bl_le false l
      rw [List.length_drop] at hn
      simp only
      rw [cutF_fuel l.length ((l.drop (bl false l + t.n)).length + 1) _ _ (by rw [List.length_drop]; omega) (by omega)]
theorem drop_end {l : List UInt8} (h : l.drop (bl false l) = []) : bl false l = l.length := by
  have h1 := bl_le false l
  have h2 := congrArg List.length h
  rw [List.length_drop, List.length_nil] at h2
  omega
theorem cut_ind {P : List UInt8 → Prop} (h : ∀ l, (∀ t, l.drop (bl false l) ≠ [] → oneT (l.drop (bl false l)) = some t → P (l.drop (bl false l + t.n))) → P l) : ∀ l, P l := by
  intro l
  induction hn : l.length using Nat.strongRecOn generalizing l with
  | ind n ih =>
    refine h l fun t hne ho => ih _ ?_ _ rfl
    have h1 := oneT_len ho
    rw [List.length_drop] at h1 ⊢
    omega
def upE (d : Nat) : Except Nat (List T) → Except Nat (List T)
  | .error q => .error (q + d)
  | .ok ts => .ok (ts.map (T.up d))
theorem cutP_up (l : List UInt8) : ∀ p d, cutP (p + d) l = upE d (cutP p l) := by
  refine cut_ind (P := fun l => ∀ p d, cutP (p + d) l = upE d (cutP p l)) (fun l ih p d => ?_) l
  rw [cutP_eq (p + d) l, cutP_eq p l]
  by_cases hl : l.drop (bl false l) = []
  · rw [if_pos hl, if_pos hl]
    simp [upE, T.up]
    omega
  · rw [if_neg hl, if_neg hl]
    cases ho : oneT (l.drop (bl false l)) with
    | none => simp only [upE]; congr 1; omega
    | some t =>
      simp only
      rw [show p + d + bl false l + t.n = p + bl false l + t.n + d by omega, ih t hl ho]
      cases cutP (p + bl false l + t.n) (l.drop (bl false l + t.n)) with
      | error q => rfl
      | ok ts => simp [upE, T.up]; omega
theorem cutP_at (p : Nat) (l : List UInt8) : cutP p l = upE p (cutP 0 l) := by
  have := cutP_up l 0 p
  rwa [Nat.zero_add] at this
theorem cutP_skip (p : Nat) (l : List UInt8) : cutP (p + bl false l) (l.drop (bl false l)) = cutP p l := by
  rw [cutP_eq p l, cutP_eq (p + bl false l) (l.drop (bl false l)), bl_stop, List.drop_zero, Nat.add_zero]
  simp only [Nat.zero_add, List.drop_drop]
theorem cut_parts (l : List UInt8) : ∀ p ts, cutP p l = .ok ts →
    (∃ us, ts = us ++ [⟨6, [], 0, p + l.length⟩]) ∧ (∀ t ∈ ts, p ≤ t.p ∧ t.p ≤ p + l.length) ∧ (∀ i (h : i + 1 < ts.length), (ts[i]'(by omega)).p < ts[i + 1].p) ∧
    ∀ i (h : i < ts.length), cutP ts[i].p (l.drop (ts[i].p - p)) = .ok (ts.drop i) := by
  refine cut_ind (P := fun l => ∀ p ts, cutP p l = .ok ts → (∃ us, ts = us ++ [⟨6, [], 0, p + l.length⟩]) ∧ (∀ t ∈ ts, p ≤ t.p ∧ t.p ≤ p + l.length) ∧ (∀ i (h : i + 1 < ts.length), (ts[i]'(by omega)).p < ts[i + 1].p) ∧ ∀ i (h : i < ts.length), cutP ts[i].p (l.drop (ts[i].p - p)) = .ok (ts.drop i)) (fun l ih p ts h => ?_) l
  have hsk := cutP_skip p l
  have hb := bl_le false l
  rw [h] at hsk
  rw [cutP_eq p l] at h
  by_cases hl : l.drop (bl false l) = []
  · rw [if_pos hl] at h
    have he := drop_end hl
    injection h with h
    subst h
    refine ⟨⟨[], by rw [he]; rfl⟩, fun t ht => ?_, fun i hi => by simp at hi, fun i hi => ?_⟩
    · simp at ht
      subst ht
      simp
      omega
    · have : i = 0 := by simpa using hi
      subst this
      simp only [List.getElem_cons_zero, List.drop_zero]
      rw [Nat.add_sub_cancel_left]
      exact hsk
  · rw [if_neg hl] at h
    cases ho : oneT (l.drop (bl false l)) with
    | none => rw [ho] at h; cases h
    | some t =>
      rw [ho] at h
      simp only at h
      have hn := oneT_len ho
      rw [List.length_drop] at hn
      cases hc : cutP (p + bl false l + t.n) (l.drop (bl false l + t.n)) with
      | error q => rw [hc] at h; cases h
      | ok us =>
        rw [hc] at h
        simp only at h
        injection h with h
        subst h
        obtain ⟨⟨vs, h1⟩, h2, h3, h4⟩ := ih t hl ho _ _ hc
        rw [List.length_drop] at h1 h2
        refine ⟨⟨⟨t.k, t.s, t.i, p + bl false l⟩ :: vs, ?_⟩, fun u hu => ?_, fun i hi => ?_, fun i hi => ?_⟩
        · rw [h1]
          simp
          omega
        · rcases List.mem_cons.1 hu with rfl | hu
          · simp
            omega
          · have := h2 u hu
            omega
        · cases i with
          | zero =>
            simp only [List.getElem_cons_zero, Nat.zero_add, List.getElem_cons_succ]
            have hu : 0 < us.length := by simp at hi; omega
            have := h2 us[0] (List.getElem_mem _)
            omega
          | succ i =>
            simp only [List.getElem_cons_succ]
            exact h3 i (by simpa using hi)
        · cases i with
          | zero =>
            simp only [List.getElem_cons_zero, List.drop_zero]
            rw [Nat.add_sub_cancel_left]
            exact hsk
          | succ i =>
            simp only [List.getElem_cons_succ, List.drop_succ_cons]
            have hi' : i < us.length := by simpa using hi
            have h5 := h4 i hi'
            have h6 := h2 us[i] (List.getElem_mem _)
            rw [List.drop_drop] at h5
            rw [show us[i].p - p = bl false l + t.n + (us[i].p - (p + bl false l + t.n)) by omega]
            exact h5
end Go.Proofs.YthohfegnphocbaaGreatDoor
namespace Go.Proofs.YthohfegnphocbaaGreatDoor
def Blank (a : List UInt8) : Prop := ∀ l, bl false (a ++ l) = a.length + bl false l
theorem blank_space : Blank [32] := fun l => by simp [bl, isWs]
theorem cut_blank {a : List UInt8} (ha : Blank a) (p : Nat) (l : List UInt8) : cutP p (a ++ l) = cutP (p + a.length) l := by
  have h := ha l
  have e1 : (a ++ l).drop (bl false (a ++ l)) = l.drop (bl false l) := by rw [h, ← List.drop_drop]; simp
  have e2 : ∀ n, (a ++ l).drop (bl false (a ++ l) + n) = l.drop (bl false l + n) := fun n => by
    rw [h, Nat.add_assoc, ← List.drop_drop]
    simp
  rw [cutP_eq p (a ++ l), cutP_eq (p + a.length) l, e1]
  simp only [e2]
  simp only [h, Nat.add_assoc]
def quo (l : List UInt8) : List UInt8 := l.flatMap fun c => if c = 39 then [39, 39] else [c]
def digS (a : Nat) : UInt8 := if a < 10 then UInt8.ofNat (48 + a) else UInt8.ofNat (87 + a)
theorem txtR_quo (l r : List UInt8) (hr : r.head? ≠ some 39) : txtR (quo l ++ 39 :: r) = some (l, (quo l).length + 1) := by
  induction l with
  | nil =>
    cases r with
    | nil => simp [quo, txtR]
    | cons d r =>
      have hd : d ≠ 39 := fun h => hr (by simp [h])
      simp [quo, txtR, hd]
  | cons c l ih =>
    have e : quo (c :: l) = (if c = 39 then [39, 39] else [c]) ++ quo l := rfl
    rw [e]
    by_cases hc : c = 39
    · subst hc
      simp only [if_true, List.cons_append, List.nil_append, txtR, ih]
      simp
    · simp only [if_neg hc, List.cons_append, List.nil_append]
      conv => lhs; unfold txtR
      rw [if_neg hc, ih]
      simp
theorem hexV_S {a : Nat} (h : a < 16) : hexV (digS a) = some a := by
  have : a = 0 ∨ a = 1 ∨ a = 2 ∨ a = 3 ∨ a = 4 ∨ a = 5 ∨ a = 6 ∨ a = 7 ∨ a = 8 ∨ a = 9 ∨ a = 10 ∨ a = 11 ∨ a = 12 ∨ a = 13 ∨ a = 14 ∨ a = 15 := by omega
  rcases this with rfl | rfl | rfl | rfl | rfl | rfl | rfl | rfl | rfl | rfl | rfl | rfl | rfl | rfl | rfl | rfl <;> decide
end Go.Proofs.YthohfegnphocbaaGreatDoor
namespace Go.Proofs.YthohfegnphocbaaGreatDoor
def decV (acc : Nat) (l : List UInt8) : Nat := l.foldl (fun a c => 10 * a + (c.toNat - 48)) acc
def dgs (l : List UInt8) : List UInt8 := l.takeWhile isDig
theorem decV_le (acc : Nat) (l : List UInt8) : acc ≤ decV acc l := by
  induction l generalizing acc with
  | nil => exact Nat.le_refl _
  | cons c r ih => exact Nat.le_trans (by omega) (ih (10 * acc + (c.toNat - 48)))
theorem numV_eq (l : List UInt8) : ∀ acc, acc ≤ 9223372036854775808 → numV acc l = if decV acc (dgs l) ≤ 9223372036854775808 then some (decV acc (dgs l), (dgs l).length) else none := by
  induction l with
  | nil => intro acc h; simp [numV, dgs, decV, h]
  | cons c r ih =>
    intro acc h
    unfold numV
    by_cases hc : isDig c = true
    · rw [if_pos hc]
      have e1 : dgs (c :: r) = c :: dgs r := List.takeWhile_cons_of_pos hc
      have e2 : decV acc (c :: dgs r) = decV (10 * acc + (c.toNat - 48)) (dgs r) := rfl
      rw [e1, e2]
      by_cases ho : 9223372036854775808 < 10 * acc + (c.toNat - 48)
      · have := decV_le (10 * acc + (c.toNat - 48)) (dgs r)
        rw [if_pos ho, if_neg (by omega)]
      · rw [if_neg ho, ih _ (by omega)]
        by_cases h2 : decV (10 * acc + (c.toNat - 48)) (dgs r) ≤ 9223372036854775808
        · rw [if_pos h2, if_pos h2]
          rfl
        · rw [if_neg h2, if_neg h2]
          rfl
    · rw [if_neg hc]
      have e1 : dgs (c :: r) = [] := List.takeWhile_cons_of_neg hc
      rw [e1]
      simp [decV, h]
theorem isDig_iff (c : UInt8) : isDig c = true ↔ 48 ≤ c.toNat ∧ c.toNat ≤ 57 := by
  simp [isDig, UInt8.le_iff_toNat_le]
theorem parseM (l : List UInt8) (hd : ∀ c ∈ l, isDig c = true) : ∀ acc, acc ≤ 18446744073709551615 → Lib.parseUintM 18446744073709551615 acc l = if decV acc l ≤ 18446744073709551615 then .ok (decV acc l) else .range := by
  induction l with
  | nil => intro acc h; simp [Lib.parseUintM, decV, h]
  | cons c r ih =>
    intro acc h
    have hc := (isDig_iff c).1 (hd c (by simp))
    have e2 : decV acc (c :: r) = decV (10 * acc + (c.toNat - 48)) r := rfl
    have hle := decV_le (10 * acc + (c.toNat - 48)) r
    unfold Lib.parseUintM
    rw [if_pos hc, e2]
    by_cases h1 : 1844674407370955162 ≤ acc
    · rw [if_pos h1, if_neg (by omega)]
    · rw [if_neg h1]
      by_cases h2 : 18446744073709551615 < acc * 10 + (c.toNat - 48)
      · rw [if_pos h2, if_neg (by omega)]
      · rw [if_neg h2, Nat.mul_comm acc 10, ih (fun c hc => hd c (List.mem_cons_of_mem _ hc)) _ (by omega)]
theorem mem_dgs {l : List UInt8} {c : UInt8} (h : c ∈ dgs l) : isDig c = true := by
  have := List.all_takeWhile (p := isDig) (l := l)
  rw [List.all_eq_true] at this
  exact this c h
theorem parse_dgs (l : List UInt8) (hn : dgs l ≠ []) : Lib.parseUintB 64 (dgs l) = if decV 0 (dgs l) ≤ 18446744073709551615 then .ok (decV 0 (dgs l)) else .range := by
  unfold Lib.parseUintB
  rw [if_neg hn]
  exact parseM (dgs l) (fun c hc => mem_dgs hc) 0 (by omega)
theorem oneT_num (c : UInt8) (r : List UInt8) (hc : isDig c = true) : oneT (c :: r) = if headIs ((c :: r).drop (dgs (c :: r)).length) isLet = true then none else
    if decV 0 (dgs (c :: r)) ≤ 9223372036854775808 then some ⟨2, [], i64Of (decV 0 (dgs (c :: r))), (dgs (c :: r)).length⟩ else none := by
  have hx := (isDig_iff c).1 hc
  have h1 : ¬ ((c = 120 ∨ c = 88) ∧ r.head? = some 39) := fun h => by rcases h.1 with h | h <;> (subst h; exact absurd hx.2 (by decide))
  have h2 : isLet c = false := by
    simp only [isLet, Bool.or_eq_false_iff, Bool.and_eq_false_iff, decide_eq_false_iff_not, UInt8.le_iff_toNat_le, beq_eq_false_iff_ne, ne_eq]
    refine ⟨⟨Or.inl ?_, Or.inl ?_⟩, fun h => ?_⟩
    · change ¬ 97 ≤ c.toNat; omega
    · change ¬ 65 ≤ c.toNat; omega
    · subst h; exact absurd hx.2 (by decide)
  simp only [oneT]
  rw [if_neg h1, if_neg (by simp [h2]), if_pos hc, numV_eq _ 0 (by omega)]
  by_cases hv : decV 0 (dgs (c :: r)) ≤ 9223372036854775808
  · rw [if_pos hv, if_pos hv]
    rfl
  · rw [if_neg hv, if_neg hv]
    split <;> rfl
def hexP : List UInt8 → Option (List UInt8)
  | [] => some []
  | [_] => none
  | c :: d :: r => (hexV c).bind fun h => (hexV d).bind fun g => (hexP r).map fun p => UInt8.ofNat (16 * h + g) :: p
def toQ (l : List UInt8) : List UInt8 := l.takeWhile fun c => c != 39
theorem blbR_eq (l : List UInt8) : blbR l = if 39 ∈ l ∧ (toQ l).length % 2 = 0 then (hexP (toQ l)).map (fun p => (p, (toQ l).length + 1)) else none := by
  match l with
  | [] => simp [blbR]
  | [c] =>
    by_cases hc : c = 39
    · subst hc; simp [blbR, toQ, hexP]
    · simp [blbR, hc, Ne.symm hc]
  | c :: d :: r =>
    unfold blbR
    by_cases hc : c = 39
    · subst hc; simp [toQ, hexP]
    · rw [if_neg hc]
      simp only
      by_cases hd : d = 39
      · subst hd
        have e1 : toQ (c :: 39 :: r) = [c] := by simp [toQ, hc]
        rw [e1, if_neg (by simp)]
        cases hexV c <;> rfl
      · have e1 : toQ (c :: d :: r) = c :: d :: toQ r := by simp [toQ, hc, hd]
        rw [e1, blbR_eq r]
        have e2 : (39 ∈ c :: d :: r ∧ (c :: d :: toQ r).length % 2 = 0) ↔ (39 ∈ r ∧ (toQ r).length % 2 = 0) := by
          simp [Ne.symm hc, Ne.symm hd]
          omega
        by_cases h : 39 ∈ r ∧ (toQ r).length % 2 = 0
        · rw [if_pos h, if_pos (e2.2 h)]
          simp only [hexP]
          cases hexV c with
          | none => rfl
          | some x => cases hexV d with
            | none => rfl
            | some y => cases hexP (toQ r) <;> rfl
        · rw [if_neg h, if_neg (fun hh => h (e2.1 hh))]
          cases hexV c with
          | none => rfl
          | some x => cases hexV d <;> rfl
theorem cut_past {l : List UInt8} {m : Nat} (h : bl false l = m + bl false (l.drop m)) (p : Nat) : cutP p l = cutP (p + m) (l.drop m) := by
  rw [cutP_eq p l, cutP_eq (p + m) (l.drop m), h]
  simp only [List.drop_drop, Nat.add_assoc]
theorem bl_ws {c : UInt8} {r : List UInt8} (h : isWs c = true) : bl false (c :: r) = 1 + bl false r := by
  simp only [bl]
  rw [if_pos h]
theorem bl_line (l : List UInt8) (m : Nat) (h : ∀ i, i < m → l[i]? ≠ some 10) (hm : l[m]? = some 10) : bl true l = m + 1 + bl false (l.drop (m + 1)) := by
  induction l generalizing m with
  | nil => simp at hm
  | cons c r ih =>
    cases m with
    | zero =>
      simp at hm
      subst hm
      simp only [bl, if_true, Nat.zero_add, List.drop_succ_cons, List.drop_zero]
    | succ m =>
      have hc : c ≠ 10 := fun hc => h 0 (by omega) (by simp [hc])
      simp only [bl]
      rw [if_neg hc, ih m (fun i hi => by have := h (i + 1) (by omega); simpa using this) (by simpa using hm)]
      simp only [List.drop_succ_cons]
      omega
theorem bl_noline (l : List UInt8) (h : ∀ i : Nat, l[i]? ≠ some 10) : bl true l = l.length := by
  induction l with
  | nil => simp [bl]
  | cons c r ih =>
    have hc : c ≠ 10 := fun hc => h 0 (by simp [hc])
    simp only [bl]
    rw [if_neg hc, ih (fun i => by have := h (i + 1); simpa using this), List.length_cons]
    omega
theorem bl_dash (r : List UInt8) : bl false (45 :: 45 :: r) = bl true (45 :: 45 :: r) := by
  simp [bl, isWs]
theorem bl_none {c : UInt8} {r : List UInt8} (h : isWs c = false) (h2 : ¬ (c = 45 ∧ r.head? = some 45)) : bl false (c :: r) = 0 := by
  simp only [bl]
  rw [if_neg (by simp [h]), if_neg h2]
def preE (us : List T) : Except Nat (List T) → Except Nat (List T)
  | .error q => .error q
  | .ok ts => .ok (us ++ ts)
theorem cut_one {l : List UInt8} {t : Tk} (hl : l ≠ []) (hb : bl false l = 0) (ho : oneT l = some t) (p : Nat) : cutP p l = preE [⟨t.k, t.s, t.i, p⟩] (cutP (p + t.n) (l.drop t.n)) := by
  rw [cutP_eq p l, hb]
  simp only [List.drop_zero, Nat.add_zero, Nat.zero_add]
  rw [if_neg hl, ho]
  dsimp only
  cases cutP (p + t.n) (l.drop t.n) <;> rfl
theorem cut_bad {l : List UInt8} (hl : l ≠ []) (hb : bl false l = 0) (ho : oneT l = none) (p : Nat) : cutP p l = .error p := by
  rw [cutP_eq p l, hb]
  simp only [List.drop_zero, Nat.add_zero]
  rw [if_neg hl, ho]
theorem cut_none (p : Nat) {l : List UInt8} (h : bl false l = l.length) : cutP p l = .ok [⟨6, [], 0, p + l.length⟩] := by
  rw [cutP_eq p l, h, if_pos (by simp)]
theorem preE_pre (us vs : List T) (e : Except Nat (List T)) : preE us (preE vs e) = preE (us ++ vs) e := by
  cases e <;> simp [preE]
theorem preE_nil (e : Except Nat (List T)) : preE [] e = e := by cases e <;> rfl
end Go.Proofs.YthohfegnphocbaaGreatDoor
namespace Go.Proofs.YthohfegnphocbaaGreatDoor
def resL : List (List UInt8) := [[97, 108, 108], [97, 110, 100], [97, 115], [97, 115, 99], [98, 101, 103, 105, 110], [98, 101, 116, 119, 101, 101, 110], [98, 108, 111, 98], [98, 111, 111, 108], [98, 121], [99, 97, 115, 101], [99, 111, 109, 109, 105, 116], [99, 114, 101, 97, 116, 101], [99, 114, 111, 115, 115], [100, 101, 108, 101, 116, 101], [100, 101, 115, 99], [100, 105, 115, 116, 105, 110, 99, 116], [100, 114, 111, 112], [101, 120, 99, 101, 112, 116], [101, 120, 105, 115, 116, 115], [102, 97, 108, 115, 101], [102, 114, 111, 109], [102, 117, 108, 108], [103, 114, 111, 117, 112], [104, 97, 118, 105, 110, 103], [105, 110], [105, 110, 100, 101, 120], [105, 110, 110, 101, 114], [105, 110, 115, 101, 114, 116], [105, 110, 116], [105, 110, 116, 101, 114, 115, 101, 99, 116], [105, 110, 116, 111], [105, 115], [106, 111, 105, 110], [107, 101, 121], [108, 101, 102, 116], [108, 105, 107, 101], [108, 105, 109, 105, 116], [110, 111, 116], [110, 117, 108, 108], [111, 102, 102, 115, 101, 116], [111, 110], [111, 114], [111, 114, 100, 101, 114], [111, 117, 116, 101, 114], [112, 114, 105, 109, 97, 114, 121], [114, 105, 103, 104, 116], [114, 111, 108, 108, 98, 97, 99, 107], [115, 101, 108, 101, 99, 116], [115, 101, 116], [116, 97, 98, 108, 101], [116, 101, 120, 116], [116, 114, 117, 101], [117, 110, 105, 111, 110], [117, 110, 105, 113, 117, 101], [117, 112, 100, 97, 116, 101], [117, 115, 105, 110, 103], [118, 97, 108, 117, 101, 115], [119, 104, 101, 114, 101]]
def resB (l : List UInt8) : Bool := resL.contains l
def isCap (c : UInt8) : Bool := 65 ≤ c && c ≤ 90
def nameB (l : List UInt8) : Bool := !l.isEmpty && decide (l.length ≤ 32) && !headIs l isDig && !resB l && l.all fun c => isWch c && !isCap c
theorem low_same (c : UInt8) : low c = c ↔ isCap c = false := by
  unfold low isCap
  by_cases h : (decide (65 ≤ c) && decide (c ≤ 90)) = true
  · rw [if_pos h, h]
    refine ⟨fun h2 => ?_, fun h2 => by cases h2⟩
    have h3 := congrArg UInt8.toNat h2
    rw [UInt8.toNat_add] at h3
    have h4 := c.toNat_lt
    change (c.toNat + 32) % 256 = c.toNat at h3
    omega
  · rw [if_neg h]
    simp only [true_iff]
    simpa using h
end Go.Proofs.YthohfegnphocbaaGreatDoor
namespace Go.Proofs.YthohfegnphocbaaGreatDoor
open Go.RowKit
theorem ret_int {k : IntKind} {a b : Int} (h : a = b) : Ending.returned (.int k a) = .returned (.int k b) := by rw [h]
theorem ret_bool {a b : Bool} (h : a = b) : Ending.returned (.bool a) = .returned (.bool b) := by rw [h]
theorem size_list (s : ByteArray) : s.data.toList.length = s.size := by simp
theorem ext_list (s : ByteArray) (i j : Nat) : (s.extract i j).data.toList = (s.data.toList.drop i).take (j - i) := Lib.extract_data s i j
theorem ext_end (s : ByteArray) (i : Nat) : (s.extract i s.size).data.toList = s.data.toList.drop i := by
  rw [ext_list, List.take_of_length_le (by rw [List.length_drop, size_list]; exact Nat.le_refl _)]
theorem ext_begin (s : ByteArray) (i : Nat) : (s.extract 0 i).data.toList = s.data.toList.take i := by rw [ext_list, List.drop_zero, Nat.sub_zero]
theorem app_list (a b : ByteArray) : (a ++ b).data.toList = a.data.toList ++ b.data.toList := by simp
theorem size_app (a b : ByteArray) : (a ++ b).size = a.size + b.size := by simp
theorem bool_iff {a b : Bool} (h : a = true ↔ b = true) : a = b := by cases a <;> cases b <;> simp_all
theorem bthen {w w1 w2 : World} (h : Below w.heap.size w w1) (h' : Below w1.heap.size w1 w2) : Below w.heap.size w w2 := h.trans (h'.mono h.size)
def str (l : List UInt8) : ByteArray := ⟨l.toArray⟩
theorem str_list (l : List UInt8) : (str l).data.toList = l := by simp [str]
theorem list_str (s : ByteArray) : str s.data.toList = s := by simp [str]
theorem str_size (l : List UInt8) : (str l).size = l.length := by rw [← size_list, str_list]
def T.val (t : T) : Value := .agg #[.int .i64 t.k, .string (str t.s), .int .i64 t.i, .int .i64 t.p]
def zT : T := ⟨0, [], 0, 0⟩
def got : Option Tk → T × Nat
  | none => (zT, 0)
  | some t => (⟨t.k, t.s, t.i, 0⟩, t.n)
def tup (o : Option Tk) : Value := .tuple #[(got o).1.val, .int .i64 (got o).2]
def Told (o : Option Tk) (i : Nat) (v : Value) : Prop := match o with
  | some t => v = .tuple #[(⟨t.k, t.s, t.i, i⟩ : T).val, .int .i64 (i + t.n : Nat), .bool true]
  | none => ∃ (u : T) (y : Int), v = .tuple #[u.val, .int .i64 y, .bool false]
def TBox (w : World) (b : Nat) (t : T) : Prop := w.heap[b]? = some (.cells #[.int .i64 t.k, .string (str t.s), .int .i64 t.i, .int .i64 t.p] 51 (0, 0))
theorem TBox.lt {w : World} {b : Nat} {t : T} (h : TBox w b t) : b < w.heap.size := (Array.getElem?_eq_some_iff.1 h).1
theorem TBox.cells {w : World} {b : Nat} {t : T} (h : TBox w b t) : w.cell? ⟨b, 0, none⟩ = some (.int .i64 t.k) ∧ w.cell? ⟨b, 1, none⟩ = some (.string (str t.s)) ∧ w.cell? ⟨b, 2, none⟩ = some (.int .i64 t.i) ∧ w.cell? ⟨b, 3, none⟩ = some (.int .i64 t.p) :=
  ⟨by rw [Lib.cell_of_heap h]; rfl, by rw [Lib.cell_of_heap h]; rfl, by rw [Lib.cell_of_heap h]; rfl, by rw [Lib.cell_of_heap h]; rfl⟩
theorem TBox.free {w : World} {b : Nat} {t : T} (h : TBox w b t) : w.frozen? ⟨b, 0, none⟩ = false ∧ w.frozen? ⟨b, 1, none⟩ = false ∧ w.frozen? ⟨b, 2, none⟩ = false ∧ w.frozen? ⟨b, 3, none⟩ = false :=
  ⟨Lib.frozen_of_heap h 0, Lib.frozen_of_heap h 1, Lib.frozen_of_heap h 2, Lib.frozen_of_heap h 3⟩
theorem TBox.later {w w' : World} {b : Nat} {t : T} (h : TBox w b t) (hb : Below w.heap.size w w') : TBox w' b t := (hb.block b h.lt).trans h
theorem TBox.made (w : World) (t : T) : TBox (w.alloc (.cells #[.int .i64 t.k, .string (str t.s), .int .i64 t.i, .int .i64 t.p] 51)) w.heap.size t := heap_alloc_new w _
theorem zbox (w : World) : TBox (w.alloc (.cells #[.int .i64 0, .string ⟨#[]⟩, .int .i64 0, .int .i64 0] 51)) w.heap.size zT := TBox.made w zT
theorem TBox.zcells {w : World} {b : Nat} (h : TBox w b zT) : w.cell? ⟨b, 0, none⟩ = some (.int .i64 0) ∧ w.cell? ⟨b, 1, none⟩ = some (.string ⟨#[]⟩) ∧ w.cell? ⟨b, 2, none⟩ = some (.int .i64 0) ∧ w.cell? ⟨b, 3, none⟩ = some (.int .i64 0) := h.cells
theorem Below.set4 {B : Nat} {a w : World} (h : Below B a w) {b : Nat} (hb : B ≤ b) (x y z u : Value) : Below B a ((((w.setCell ⟨b, 0, none⟩ x).setCell ⟨b, 1, none⟩ y).setCell ⟨b, 2, none⟩ z).setCell ⟨b, 3, none⟩ u) := (((h.setCell hb _).setCell hb _).setCell hb _).setCell hb _
theorem u8_lt (c : UInt8) : (c.toNat : Int) < 256 := by have := c.toNat_lt; omega
theorem isLet_eq (c : UInt8) : isLet c = decide ((97 ≤ c.toNat ∧ c.toNat ≤ 122) ∨ (65 ≤ c.toNat ∧ c.toNat ≤ 90) ∨ c.toNat = 95) := by
  apply bool_iff
  simp only [isLet, Bool.or_eq_true, Bool.and_eq_true, decide_eq_true_iff, UInt8.le_iff_toNat_le, beq_iff_eq, ← UInt8.toNat_inj]
  change ((97 ≤ c.toNat ∧ c.toNat ≤ 122) ∨ (65 ≤ c.toNat ∧ c.toNat ≤ 90)) ∨ c.toNat = 95 ↔ _
  omega
theorem isDig_eq (c : UInt8) : isDig c = decide (48 ≤ c.toNat ∧ c.toNat ≤ 57) := bool_iff (by rw [isDig_iff, decide_eq_true_iff])
theorem isWs_eq (c : UInt8) : isWs c = decide (c.toNat = 32 ∨ c.toNat = 9 ∨ c.toNat = 10 ∨ c.toNat = 13) := by
  apply bool_iff
  simp only [isWs, Bool.or_eq_true, decide_eq_true_iff, beq_iff_eq, ← UInt8.toNat_inj]
  change ((c.toNat = 32 ∨ c.toNat = 9) ∨ c.toNat = 10) ∨ c.toNat = 13 ↔ _
  omega
theorem isCap_eq (c : UInt8) : isCap c = decide (65 ≤ c.toNat ∧ c.toNat ≤ 90) := by
  apply bool_iff
  simp only [isCap, Bool.and_eq_true, decide_eq_true_iff, UInt8.le_iff_toNat_le]
  exact Iff.rfl
end Go.Proofs.YthohfegnphocbaaGreatDoor
namespace Go.Proofs.YthohfegnphocbaaGreatDoor
open Go.RowKit
set_option maxRecDepth 100000 in
set_option maxHeartbeats 1000000 in
theorem isBlank_any (c : UInt8) (w : World) : Calls Tryz.prog 48 #[.int .u8 c.toNat] w fun e w' => e = .returned (.bool (isWs c)) ∧ w' = w := by
  rw [isWs_eq]
  have h := u8_lt c
  generalize c.toNat = n at *
  have hn : (n : Int) = 32 ∨ ((n : Int) ≠ 32 ∧ (n : Int) = 9) ∨ ((n : Int) ≠ 32 ∧ (n : Int) ≠ 9 ∧ (n : Int) = 10) ∨ ((n : Int) ≠ 32 ∧ (n : Int) ≠ 9 ∧ (n : Int) ≠ 10 ∧ (n : Int) = 13) ∨ ((n : Int) ≠ 32 ∧ (n : Int) ≠ 9 ∧ (n : Int) ≠ 10 ∧ (n : Int) ≠ 13) := by omega
  rcases hn with h1 | ⟨h0, h1⟩ | ⟨h0, h1, h2⟩ | ⟨h0, h1, h2, h3⟩ | ⟨h0, h1, h2, h3⟩
  all_goals
    go_enter Tryz.func48, Tryz.ntmps48
    go_wp2_with fail
    go_ret
    refine ⟨ret_bool ?_, rfl⟩
    first | (exact (decide_eq_true (by omega)).symm) | (exact (decide_eq_false (by omega)).symm) | (refine bool_iff ?_; simp; omega)
set_option maxRecDepth 100000 in
set_option maxHeartbeats 1000000 in
theorem isDigit_any (c : UInt8) (w : World) : Calls Tryz.prog 53 #[.int .u8 c.toNat] w fun e w' => e = .returned (.bool (isDig c)) ∧ w' = w := by
  rw [isDig_eq]
  have h := u8_lt c
  generalize c.toNat = n at *
  have hn : (n : Int) < 48 ∨ ((48 : Int) ≤ n ∧ (n : Int) ≤ 57) ∨ ((48 : Int) ≤ n ∧ (57 : Int) < n) := by omega
  rcases hn with h1 | ⟨h0, h1⟩ | ⟨h0, h1⟩
  all_goals
    go_enter Tryz.func53, Tryz.ntmps53
    go_wp2_with fail
    go_ret
    refine ⟨ret_bool ?_, rfl⟩
    first | (exact (decide_eq_true (by omega)).symm) | (exact (decide_eq_false (by omega)).symm) | (refine bool_iff ?_; simp; omega)
set_option maxRecDepth 100000 in
set_option maxHeartbeats 1000000 in
theorem isLetter_any (c : UInt8) (w : World) : Calls Tryz.prog 51 #[.int .u8 c.toNat] w fun e w' => e = .returned (.bool (isLet c)) ∧ w' = w := by
  rw [isLet_eq]
  have h := u8_lt c
  generalize c.toNat = n at *
  have hn : (n : Int) < 65 ∨ ((65 : Int) ≤ n ∧ (n : Int) ≤ 90) ∨ ((90 : Int) < n ∧ (n : Int) < 97 ∧ (n : Int) ≠ 95) ∨ (n : Int) = 95 ∨ ((97 : Int) ≤ n ∧ (n : Int) ≤ 122) ∨ ((122 : Int) < n) := by omega
  rcases hn with h1 | ⟨h0, h1⟩ | ⟨h0, h1, h2⟩ | h1 | ⟨h0, h1⟩ | h1
  all_goals
    go_enter Tryz.func51, Tryz.ntmps51
    go_wp2_with fail
    go_ret
    refine ⟨ret_bool ?_, rfl⟩
    first | (exact (decide_eq_true (by omega)).symm) | (exact (decide_eq_false (by omega)).symm) | (refine bool_iff ?_; simp; omega)
set_option maxRecDepth 100000 in
set_option maxHeartbeats 1000000 in
theorem isWordByte_any (c : UInt8) (w : World) : Calls Tryz.prog 100 #[.int .u8 c.toNat] w fun e w' => e = .returned (.bool (isWch c)) ∧ w' = w := by
  have h1 := isLetter_any c w
  have h2 := isDigit_any c w
  unfold isWch
  generalize isLet c = a at *
  generalize isDig c = b at *
  go_enter Tryz.func100, Tryz.ntmps100
  go_wp2_with (first | (go_at_call 51; refine h1.mono ?_; rintro e w' ⟨rfl, rfl⟩) | (go_at_call 53; refine h2.mono ?_; rintro e w' ⟨rfl, rfl⟩))
  all_goals go_ret
  all_goals exact ⟨by simp [*], rfl⟩
set_option maxRecDepth 100000 in
set_option maxHeartbeats 1000000 in
theorem digit_any (c : UInt8) (w : World) : Calls Tryz.prog 61 #[.int .u8 c.toNat] w fun e w' => e = .returned (.bool (isDig c)) ∧ w' = w := by
  rw [isDig_eq]
  have h := u8_lt c
  generalize c.toNat = n at *
  have hn : (n : Int) < 48 ∨ ((48 : Int) ≤ n ∧ (n : Int) ≤ 57) ∨ ((48 : Int) ≤ n ∧ (57 : Int) < n) := by omega
  rcases hn with h1 | ⟨h0, h1⟩ | ⟨h0, h1⟩
  all_goals
    go_enter Tryz.func61, Tryz.ntmps61
    go_wp2_with fail
    go_ret
    refine ⟨ret_bool ?_, rfl⟩
    first | (exact (decide_eq_true (by omega)).symm) | (exact (decide_eq_false (by omega)).symm) | (refine bool_iff ?_; simp; omega)
set_option maxRecDepth 100000 in
set_option maxHeartbeats 1000000 in
theorem letter_any (c : UInt8) (w : World) : Calls Tryz.prog 59 #[.int .u8 c.toNat] w fun e w' => e = .returned (.bool (isLet c)) ∧ w' = w := by
  rw [isLet_eq]
  have h := u8_lt c
  generalize c.toNat = n at *
  have hn : (n : Int) < 65 ∨ ((65 : Int) ≤ n ∧ (n : Int) ≤ 90) ∨ ((90 : Int) < n ∧ (n : Int) < 97 ∧ (n : Int) ≠ 95) ∨ (n : Int) = 95 ∨ ((97 : Int) ≤ n ∧ (n : Int) ≤ 122) ∨ ((122 : Int) < n) := by omega
  rcases hn with h1 | ⟨h0, h1⟩ | ⟨h0, h1, h2⟩ | h1 | ⟨h0, h1⟩ | h1
  all_goals
    go_enter Tryz.func59, Tryz.ntmps59
    go_wp2_with fail
    go_ret
    refine ⟨ret_bool ?_, rfl⟩
    first | (exact (decide_eq_true (by omega)).symm) | (exact (decide_eq_false (by omega)).symm) | (refine bool_iff ?_; simp; omega)
def hexI (c : UInt8) : Int := match hexV c with | none => -1 | some h => h
theorem hexV_eq (c : UInt8) : hexV c = if 48 ≤ c.toNat ∧ c.toNat ≤ 57 then some (c.toNat - 48) else if 97 ≤ c.toNat ∧ c.toNat ≤ 102 then some (c.toNat - 87) else if 65 ≤ c.toNat ∧ c.toNat ≤ 70 then some (c.toNat - 55) else none := by
  unfold hexV
  simp only [isDig_iff, Bool.and_eq_true, decide_eq_true_iff, UInt8.le_iff_toNat_le]
  rfl
theorem hexV_lt {c : UInt8} {h : Nat} (e : hexV c = some h) : h < 16 := by
  rw [hexV_eq] at e
  split at e
  · injection e; omega
  · split at e
    · injection e; omega
    · split at e
      · injection e; omega
      · cases e
set_option maxRecDepth 100000 in
set_option maxHeartbeats 1000000 in
theorem hex_any (c : UInt8) (w : World) : Calls Tryz.prog 102 #[.int .u8 c.toNat] w fun e w' => e = .returned (.int .i64 (hexI c)) ∧ w' = w := by
  have h1 := digit_any c w
  rw [isDig_eq] at h1
  unfold hexI
  rw [hexV_eq]
  have h := u8_lt c
  generalize c.toNat = n at *
  have hn : (n : Int) < 48 ∨ ((48 : Int) ≤ n ∧ (n : Int) ≤ 57) ∨ ((57 : Int) < n ∧ (n : Int) < 65) ∨ ((65 : Int) ≤ n ∧ (n : Int) ≤ 70) ∨ ((70 : Int) < n ∧ (n : Int) < 97) ∨ ((97 : Int) ≤ n ∧ (n : Int) ≤ 102) ∨ (102 : Int) < n := by omega
  rcases hn with h2 | ⟨h2, h3⟩ | ⟨h2, h3⟩ | ⟨h2, h3⟩ | ⟨h2, h3⟩ | ⟨h2, h3⟩ | h2
  all_goals
    first
    | rw [decide_eq_true (show 48 ≤ n ∧ n ≤ 57 by omega)] at h1
    | rw [decide_eq_false (show ¬ (48 ≤ n ∧ n ≤ 57) by omega)] at h1
    go_enter Tryz.func102, Tryz.ntmps102
    go_wp2_with (go_at_call 61; refine h1.mono ?_; rintro e w' ⟨rfl, rfl⟩)
    go_ret
    refine ⟨ret_int ?_, rfl⟩
    first
    | rfl
    | omega
    | (rw [if_pos (by omega)]; simp only; omega)
    | (rw [if_neg (by omega), if_pos (by omega)]; simp only; omega)
    | (rw [if_neg (by omega), if_neg (by omega), if_pos (by omega)]; simp only; omega)
    | (rw [if_neg (by omega), if_neg (by omega), if_neg (by omega)])
def byteAt (l : List UInt8) (i : Nat) : UInt8 := l.getD i 0
set_option maxRecDepth 100000 in
set_option maxHeartbeats 1000000 in
theorem at_any (s : ByteArray) (i : Nat) (w : World) : Calls Tryz.prog 57 #[.string s, .int .i64 i] w fun e w' => e = .returned (.int .u8 (byteAt s.data.toList i).toNat) ∧ w' = w := by
  by_cases hi : i < s.size
  · have hb : byteAt s.data.toList i = s[i] := by
      have hl : i < s.data.toList.length := by rw [size_list]; exact hi
      unfold byteAt
      rw [List.getD_eq_getElem?_getD, List.getElem?_eq_getElem hl]
      simp
      rfl
    rw [hb]
    go_enter Tryz.func57, Tryz.ntmps57
    go_wp2_with fail
    all_goals go_ret
    all_goals first | exact ⟨rfl, rfl⟩ | (exfalso; omega)
  · have hb : byteAt s.data.toList i = 0 := by
      unfold byteAt
      rw [List.getD_eq_getElem?_getD, List.getElem?_eq_none (by rw [size_list]; omega)]
      rfl
    rw [hb]
    go_enter Tryz.func57, Tryz.ntmps57
    go_wp2_with fail
    all_goals go_ret
    all_goals first | exact ⟨rfl, rfl⟩ | (exfalso; omega)
end Go.Proofs.YthohfegnphocbaaGreatDoor
namespace Go.Proofs.YthohfegnphocbaaGreatDoor
open Go.RowKit
theorem tw_get {p : UInt8 → Bool} {l : List UInt8} {k : Nat} (hk : k ≤ (l.takeWhile p).length) (hl : k < l.length) : p l[k] = decide (k < (l.takeWhile p).length) := by
  induction l generalizing k with
  | nil => simp at hl
  | cons c r ih =>
    by_cases hc : p c = true
    · rw [List.takeWhile_cons_of_pos hc] at hk ⊢
      cases k with
      | zero => simp [hc]
      | succ k =>
        simp only [List.length_cons, List.getElem_cons_succ] at hk ⊢
        rw [ih (by omega) (by simpa using hl)]
        apply bool_iff
        simp
    · rw [List.takeWhile_cons_of_neg hc] at hk ⊢
      have : k = 0 := by simpa using hk
      subst this
      simpa using hc
theorem tw_le (p : UInt8 → Bool) (l : List UInt8) : (l.takeWhile p).length ≤ l.length := (List.takeWhile_sublist (p := p) (l := l)).length_le
theorem list_get {s : ByteArray} {k : Nat} (hk : k < s.size) : s.data.toList[k]'(by rw [size_list]; exact hk) = s[k] := by simp; rfl
set_option maxRecDepth 100000 in
set_option maxHeartbeats 1000000 in
theorem spanW (s : ByteArray) (w : World) (hs : s.size ≤ 140737488355328) : Calls Tryz.prog 99 #[.string s, .func (.func 100) #[] #[]] w fun e w' => e = .returned (.int .i64 ((s.data.toList.takeWhile isWch).length : Nat)) ∧ w' = w := by
  have HB := Lib.hid isWordByte_any
  obtain ⟨m, hm⟩ : ∃ m, m = (s.data.toList.takeWhile isWch).length := ⟨_, rfl⟩
  have hmn : m ≤ s.size := by rw [hm, ← size_list]; exact tw_le _ _
  have HG : Hid (∀ k (h : k < s.size), k ≤ m → isWch s[k] = decide (k < m)) := fun k h hk => by
    rw [← list_get h, hm]
    exact tw_get (by omega) (by rw [size_list]; exact h)
  rw [← hm]
  clear hm
  go_enter Tryz.func99, Tryz.ntmps99
  go_wp2_with fail
  go_loopw [5] (fun i wr => ∃ k : Nat, k ≤ m ∧ i = .int .i64 k ∧ wr = w) (fun i _ => m - (intOf i).toNat)
  case atStart => exact ⟨0, Nat.zero_le _, rfl, rfl⟩
  case round =>
    obtain ⟨k, hk, rfl, rfl⟩ := hrel
    by_cases hlt : k < s.size
    · have hg := HG.out k hlt hk
      have hc := fun w => HB.out s[k] w
      simp only [hg] at hc
      clear hg
      by_cases hkm : k < m
      · simp only [decide_eq_true hkm] at hc
        go_wp2_with (go_at_call 100; refine (hc _).mono ?_; rintro e w' ⟨rfl, rfl⟩)
        go_roundw
        case measure => simp [intOf]; omega
        case rel => exact ⟨k + 1, by omega, by go_num, trivial⟩
      · simp only [decide_eq_false hkm] at hc
        have : k = m := by omega
        subst this
        go_wp2_with (go_at_call 100; refine (hc _).mono ?_; rintro e w' ⟨rfl, rfl⟩)
        go_ret
        exact ⟨rfl, rfl⟩
    · have : k = m := by omega
      subst this
      go_wp2_with fail
      go_ret
      exact ⟨rfl, rfl⟩
set_option maxRecDepth 100000 in
set_option maxHeartbeats 1000000 in
theorem spanD (s : ByteArray) (w : World) (hs : s.size ≤ 140737488355328) : Calls Tryz.prog 99 #[.string s, .func (.func 53) #[] #[]] w fun e w' => e = .returned (.int .i64 ((s.data.toList.takeWhile isDig).length : Nat)) ∧ w' = w := by
  have HB := Lib.hid isDigit_any
  obtain ⟨m, hm⟩ : ∃ m, m = (s.data.toList.takeWhile isDig).length := ⟨_, rfl⟩
  have hmn : m ≤ s.size := by rw [hm, ← size_list]; exact tw_le _ _
  have HG : Hid (∀ k (h : k < s.size), k ≤ m → isDig s[k] = decide (k < m)) := fun k h hk => by
    rw [← list_get h, hm]
    exact tw_get (by omega) (by rw [size_list]; exact h)
  rw [← hm]
  clear hm
  go_enter Tryz.func99, Tryz.ntmps99
  go_wp2_with fail
  go_loopw [5] (fun i wr => ∃ k : Nat, k ≤ m ∧ i = .int .i64 k ∧ wr = w) (fun i _ => m - (intOf i).toNat)
  case atStart => exact ⟨0, Nat.zero_le _, rfl, rfl⟩
  case round =>
    obtain ⟨k, hk, rfl, rfl⟩ := hrel
    by_cases hlt : k < s.size
    · have hg := HG.out k hlt hk
      have hc := fun w => HB.out s[k] w
      simp only [hg] at hc
      clear hg
      by_cases hkm : k < m
      · simp only [decide_eq_true hkm] at hc
        go_wp2_with (go_at_call 53; refine (hc _).mono ?_; rintro e w' ⟨rfl, rfl⟩)
        go_roundw
        case measure => simp [intOf]; omega
        case rel => exact ⟨k + 1, by omega, by go_num, trivial⟩
      · simp only [decide_eq_false hkm] at hc
        have : k = m := by omega
        subst this
        go_wp2_with (go_at_call 53; refine (hc _).mono ?_; rintro e w' ⟨rfl, rfl⟩)
        go_ret
        exact ⟨rfl, rfl⟩
    · have : k = m := by omega
      subst this
      go_wp2_with fail
      go_ret
      exact ⟨rfl, rfl⟩

end Go.Proofs.YthohfegnphocbaaGreatDoor
namespace Go.Proofs.YthohfegnphocbaaGreatDoor
open Go.RowKit
def BytesAt (w : World) (B : Nat) (A : Option Addr) (l : List UInt8) : Prop := 0 < l.length → ∃ b off, A = some ⟨b, off, none⟩ ∧ b < B ∧ ∀ j (h : j < l.length), w.cell? ⟨b, off + j, none⟩ = some (.int .u8 l[j].toNat)
theorem BytesAt.below {w w' : World} {B : Nat} {A : Option Addr} {l : List UInt8} (h : BytesAt w B A l) (hb : Below B w w') : BytesAt w' B A l := fun h0 => by
  obtain ⟨b, off, hA, hlt, hc⟩ := h h0
  exact ⟨b, off, hA, hlt, fun j hj => (hb.cell (p := ⟨b, _, none⟩) hlt).trans (hc j hj)⟩
theorem BytesAt.mono {w : World} {B B' : Nat} {A : Option Addr} {l : List UInt8} (h : BytesAt w B A l) (hB : B ≤ B') : BytesAt w B' A l := fun h0 => by
  obtain ⟨b, off, hA, hlt, hc⟩ := h h0
  exact ⟨b, off, hA, by omega, hc⟩
theorem BytesAt.later {w w' : World} {A : Option Addr} {l : List UInt8} (h : BytesAt w w.heap.size A l) (hb : Below w.heap.size w w') : BytesAt w' w'.heap.size A l := (h.below hb).mono hb.size
theorem BytesAt.nil (w : World) (B : Nat) (A : Option Addr) : BytesAt w B A [] := fun h => by simp at h
theorem BytesAt.drop {w : World} {B b off : Nat} {l : List UInt8} (h : BytesAt w B (some ⟨b, off, none⟩) l) (k : Nat) : BytesAt w B (some ⟨b, off + k, none⟩) (l.drop k) := fun h0 => by
  obtain ⟨b', off', hA, hlt, hc⟩ := h (by rw [List.length_drop] at h0; omega)
  simp at hA
  obtain ⟨rfl, rfl⟩ := hA
  refine ⟨b, off + k, rfl, hlt, fun j hj => ?_⟩
  have := hc (k + j) (by rw [List.length_drop] at hj; omega)
  rw [Nat.add_assoc]
  simpa using this
theorem BytesAt.take {w : World} {B : Nat} {A : Option Addr} {l : List UInt8} (h : BytesAt w B A l) (k : Nat) : BytesAt w B A (l.take k) := fun h0 => by
  obtain ⟨b, off, hA, hlt, hc⟩ := h (by rw [List.length_take] at h0; omega)
  refine ⟨b, off, hA, hlt, fun j hj => ?_⟩
  have := hc j (by rw [List.length_take] at hj; omega)
  simpa using this
def u8s (l : List UInt8) : List Value := l.map fun x => .int .u8 x.toNat
theorem u8s_len (l : List UInt8) : (u8s l).length = l.length := by simp [u8s]
theorem u8s_append (l m : List UInt8) : u8s (l ++ m) = u8s l ++ u8s m := by simp [u8s]
theorem u8s_one (l : List UInt8) : ∀ u ∈ u8s l, u.oneCell' = true := by
  intro u hu
  obtain ⟨r, _, rfl⟩ := List.mem_map.1 hu
  rfl
theorem u8s_str (s : ByteArray) : Lib.strCells s = u8s s.data.toList := rfl
theorem info5 : (Tryz.prog.info? 5).map (fun i => (i.zero, i.size, i.bytes)) = some (some (.int .u8 0), 1, 1) := by kernel_rfl
theorem BytesAt.cells {w : World} {B b off : Nat} {l : List UInt8} (h : BytesAt w B (some ⟨b, off, none⟩) l) : ∀ j u, (u8s l)[j]? = some u → w.cell? ((⟨b, off, none⟩ : Addr).add j) = some u := by
  intro j u hu
  have hj : j < l.length := by
    have := (List.getElem?_eq_some_iff.1 hu).1
    rwa [u8s_len] at this
  obtain ⟨b', off', hA, -, hc⟩ := h (by omega)
  simp at hA
  obtain ⟨rfl, rfl⟩ := hA
  have := hc j hj
  rw [WideShapes.add_plain]
  simp [u8s, hj] at hu
  rw [← hu]
  exact this
def Own (w : World) (B : Nat) (v : Value) (l : List UInt8) : Prop := w.ownsRow B 5 1 v l.length (u8s l)
theorem Own.nil (w : World) (B : Nat) : Own w B (.slice none 0 0) [] := World.ownsRow_nil w B 5 1
theorem Own.shape {w : World} {B : Nat} {v : Value} {l : List UInt8} (h : Own w B v l) : ∃ A c, v = .slice A l.length c ∧ l.length ≤ c := by
  rcases h.2 with ⟨hv, h0⟩ | ⟨g, cap, cur, hv, _, hg, hn, _⟩
  · exact ⟨none, 0, by rw [hv, h0], by omega⟩
  · exact ⟨_, cap, hv, by assumption⟩
theorem Own.bytes {w : World} {B : Nat} {v : Value} {l : List UInt8} (h : Own w B v l) : ∃ A c, v = .slice A l.length c ∧ l.length ≤ c ∧ c ≤ maxLen ∧ BytesAt w w.heap.size A l := by
  rcases h.2 with ⟨hv, h0⟩ | ⟨g, cap, cur, hv, _, hg, hn, hm, _⟩
  · exact ⟨none, 0, by rw [hv, h0], by omega, by decide, fun h => by omega⟩
  · refine ⟨_, cap, hv, hn, hm, fun _ => ⟨g, 0, rfl, (Array.getElem?_eq_some_iff.1 hg).1, fun j hj => ?_⟩⟩
    have := h.cells (g := g) (by rw [hv]; rfl) j (.int .u8 l[j].toNat) (by simp [u8s, hj])
    rwa [WideShapes.add_plain] at this
def Off (v : Value) (b : Nat) : Prop := v.ownBlock ≠ some b
theorem Off.nil (b : Nat) : Off (.slice none 0 0) b := by simp [Off, Value.ownBlock]
theorem own_below {w w' : World} {B : Nat} {v : Value} {l : List UInt8} (h : Own w B v l) (hb : Below w.heap.size w w') : Own w' B v l :=
  h.kept (row := none) ⟨hb.os, hb.tape, hb.output, hb.size, fun k hk _ => hb.block k hk⟩ (by cases v.ownBlock <;> simp)
theorem own_app {w : World} {B : Nat} {v : Value} {l : List UInt8} (hown : Own w B v l) (m : List UInt8) (A : Option Addr) (c : Nat) (hr : BytesAt w w.heap.size A m) (hm : l.length + m.length ≤ 100000000) (hB : B ≤ w.heap.size) :
    ∃ v' w', (Builtin.append_ #[67, 67] 67 #[v, .slice A m.length c]).run Tryz.prog w = .ok v' w' ∧ Own w' B v' (l ++ m) ∧ w.grownBy w' v.ownBlock ∧ (v'.ownBlock = v.ownBlock ∨ v'.ownBlock = some w.heap.size) := by
  obtain ⟨i0, hi, hz0, hz1, hz2⟩ := info_parts info5
  rcases Nat.eq_zero_or_pos m.length with h0 | h0
  · have hx := List.eq_nil_of_length_eq_zero h0
    subst hx
    obtain ⟨A', c', rfl, hn⟩ := hown.shape
    refine ⟨.slice A' l.length c', w, run_append_nothing (P := Tryz.prog) w 67 67 67 5 i0 Tryz.underlying67 hi A' l.length c' hn _ ?_, by simpa using hown, ?_, Or.inl rfl⟩
    · cases A with
      | none => exact Src.ofNil w Tryz.underlying67 c
      | some a => exact Src.ofSlice w Tryz.underlying67 a 0 c [] (by simp) (by intro j u h; simp at h) (by simp)
    · exact ⟨rfl, rfl, rfl, Nat.le_refl _, fun _ _ _ => rfl⟩
  · obtain ⟨b, off, rfl, -, -⟩ := hr h0
    obtain ⟨v', w', h1, h2, h3, -, h5⟩ := run_append_own_at (P := Tryz.prog) w B 67 67 5 i0 (.int .u8 0) 1 1 Tryz.underlying67 hi hz0 hz1 hz2 rfl (by decide) v l.length (u8s l) hown ⟨b, off, none⟩ m.length c (u8s m) (by rw [u8s_len]; omega) hr.cells (u8s_one m) (by unfold maxLen; omega) (by omega) hB
    refine ⟨v', w', h1, ?_, h3, h5⟩
    unfold Own
    rw [List.length_append, u8s_append]
    exact h2
theorem own_str {w : World} {B : Nat} {v : Value} {l : List UInt8} (hown : Own w B v l) (s : ByteArray) (hm : l.length + s.size ≤ 100000000) (hB : B ≤ w.heap.size) :
    ∃ v' w', (Builtin.append_ #[67, 9] 67 #[v, .string s]).run Tryz.prog w = .ok v' w' ∧ Own w' B v' (l ++ s.data.toList) ∧ w.grownBy w' v.ownBlock ∧ (v'.ownBlock = v.ownBlock ∨ v'.ownBlock = some w.heap.size) := by
  obtain ⟨i0, hi, hz0, hz1, hz2⟩ := info_parts info5
  obtain ⟨v', w', h1, h2, h3, h4⟩ := Lib.run_append_own_string (P := Tryz.prog) w B 67 9 67 5 i0 Tryz.underlying67 Tryz.underlying9 hi hz0 hz1 hz2 v l.length (u8s l) hown s (by unfold maxLen; omega) (by omega) hB
  refine ⟨v', w', h1, ?_, h3, ?_⟩
  · unfold Own
    rw [List.length_append, u8s_append, ← u8s_str]
    have e : s.data.toList.length = s.size := by simp
    rw [e]
    exact h2
  · rcases hown.2 with ⟨hv, h0⟩ | ⟨g, cap, cur, hv, _, hg, hn, hm2, hcs, htk⟩
    · subst hv
      rcases Nat.eq_zero_or_pos s.size with hs | hs
      · rw [h4.2 ⟨rfl, hs⟩]; exact Or.inl rfl
      · rw [run_append_nil_string (P := Tryz.prog) w 67 9 67 5 i0 _ Tryz.underlying67 Tryz.underlying9 hi hz0 s hs (by omega) (by rw [hz2]; omega)] at h1
        simp only [Result.ok.injEq] at h1
        rw [← h1.1]
        exact Or.inr rfl
    · subst hv
      by_cases hroom : l.length + s.size ≤ cap
      · rw [Lib.run_append_room_string (P := Tryz.prog) w 67 9 67 5 i0 Tryz.underlying67 Tryz.underlying9 hi hz1 g l.length cap cur hg s hroom (by omega)] at h1
        simp only [Result.ok.injEq] at h1
        rw [← h1.1]
        exact Or.inl rfl
      · rw [Lib.run_append_grow_string (P := Tryz.prog) w 67 9 67 5 i0 _ Tryz.underlying67 Tryz.underlying9 hi hz0 ⟨g, 0, none⟩ l.length cap (u8s l) (by rw [u8s_len, hz1]; omega) (hown.cells rfl) s (by omega) (by omega) (growslice_fits (by omega) (by rw [hz2]; omega))] at h1
        simp only [Result.ok.injEq] at h1
        rw [← h1.1]
        exact Or.inr rfl
theorem cell_in {w : World} {b o : Nat} {v : Value} (h : w.cell? ⟨b, o, none⟩ = some v) : b < w.heap.size := by
  rcases Nat.lt_or_ge b w.heap.size with h' | h'
  · exact h'
  · simp [World.cell?, Array.getElem?_eq_none h'] at h
theorem conv_at {w : World} {B : Nat} {A : Option Addr} {c : Nat} {l : List UInt8} (hr : BytesAt w B A l) : (convert 67 9 (.slice A l.length c)).run Tryz.prog w = .ok (.string (str l)) w := by
  rcases Nat.eq_zero_or_pos l.length with h0 | h0
  · have := List.eq_nil_of_length_eq_zero h0
    subst this
    cases A with
    | none =>
      rw [run_convert_bytes_string w 67 9 5 _ _ _ Tryz.underlying67 Tryz.underlying5 Tryz.underlying9]
      simp [Conv.bytesToString]
      rfl
    | some a => exact run_convert_bytes_back w 67 9 5 a c [] Tryz.underlying67 Tryz.underlying5 Tryz.underlying9 (fun j hj => by simp at hj)
  · obtain ⟨b, off, rfl, -, hc⟩ := hr h0
    exact run_convert_bytes_back w 67 9 5 ⟨b, off, none⟩ c l Tryz.underlying67 Tryz.underlying5 Tryz.underlying9 (fun j hj => by rw [WideShapes.add_plain]; exact hc j hj)
theorem fresh_at {B : Nat} {w : World} {v : Value} {l : List UInt8} (h : Lib.FreshBytes B w v l) (h0 : 0 < l.length) : ∃ g c, v = .slice (some ⟨g, 0, none⟩) l.length c ∧ BytesAt w w.heap.size (some ⟨g, 0, none⟩) l := by
  obtain ⟨g, cap, zs, rfl, -, hlc, -, hz, hzs, hb, hc, -⟩ := h
  refine ⟨g, cap, rfl, fun _ => ⟨g, 0, rfl, cell_in (hc 0 (by omega)), fun j hj => ?_⟩⟩
  rw [Nat.zero_add, hc j (by omega)]
  have hj2 : j < zs.length := by omega
  have e : l[j] = UInt8.ofNat (Int.toNat zs[j]) := by
    have := congrArg (fun m => m[j]?) hb
    simp only [Lib.bytesOf] at this
    rw [List.getElem?_map, List.getElem?_take_of_lt hj, List.getElem?_eq_getElem hj2, List.getElem?_eq_getElem hj] at this
    simp at this
    rw [← this]
  have hr := hzs zs[j] (List.getElem_mem hj2)
  rw [e]
  have : zs.getD j 0 = zs[j] := by simp [hj2]
  rw [this]
  congr 2
  simp
  omega
end Go.Proofs.YthohfegnphocbaaGreatDoor
