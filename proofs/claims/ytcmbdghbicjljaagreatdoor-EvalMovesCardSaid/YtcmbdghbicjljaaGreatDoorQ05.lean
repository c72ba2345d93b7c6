/- Plain facts on tokens (no program): blanks, words, numbers, texts, blobs and signs in a list of bytes; a statement's tokens. No condition. -/
import Derived.Lib.Hide
import Derived.Lib.ParseIntB
import Derived.Test.YtcmbdghbicjljaaGreatDoorProg
import Derived.WalkKit
import Derived.WalkSpells
import Derived.WalkLawsBesides
import Derived.Lib.Walk
import Derived.Deep.Light
import Derived.IntWalk
import Derived.StillTailTactics
import Derived.Lib.Bytealg
import Derived.Lib.SplitLaws
import Derived.Deep.AppendLies
import Derived.Lib.AppendStr
import Derived.Deep.Upon
import Derived.Lib.SlFresh
import Derived.Laws.BytesString
import Derived.Laws.Cells
import Derived.Test.YtcmbdghbicjljaaGreatDoorShelf
import Derived.Lib.ConvBytes
import Derived.Laws.Strings3
import Derived.Laws.Closers25
import Derived.Laws.Closers25b
import Derived.BigCall
import Derived.BigGuard
import Derived.Lib.IndexLaws
import Derived.BigRegion
import Derived.Deep.Quiet
import Derived.Deep.QuietTactic
namespace Go.Proofs.YtcmbdghbicjljaaGreatDoor
def isLet (c : UInt8) : Bool := (97 ≤ c && c ≤ 122) || (65 ≤ c && c ≤ 90) || c == 95
def isDig (c : UInt8) : Bool := 48 ≤ c && c ≤ 57
def isWs (c : UInt8) : Bool := c == 32 || c == 9 || c == 10 || c == 13
def isWch (c : UInt8) : Bool := isLet c || isDig c
def hexV (c : UInt8) : Option Nat := if isDig c then some (c.toNat - 48) else if 97 ≤ c && c ≤ 102 then some (c.toNat - 87) else if 65 ≤ c && c ≤ 70 then some (c.toNat - 55) else none
def low (c : UInt8) : UInt8 := if 65 ≤ c && c ≤ 90 then c + 32 else c
def i64Of (n : Nat) : Int := if n < 9223372036854775808 then n else (n : Int) - 18446744073709551616
def bl : Bool → List UInt8 → Nat
  | _, [] => 0
  | false, c :: r => if isWs c then 1 + bl false r else if c = 45 ∧ r.head? = some 45 then 1 + bl true r else 0
  | true, c :: r => if c = 10 then 1 + bl false r else 1 + bl true r
def wLen (l : List UInt8) : Nat := (l.takeWhile isWch).length
def txtR : List UInt8 → Option (List UInt8 × Nat)
  | [] => none
  | c :: r => if c = 39 then
      match r with
      | [] => some ([], 1)
      | d :: r' => if d = 39 then (txtR r').map (fun p => (39 :: p.1, p.2 + 2)) else some ([], 1)
    else (txtR r).map fun p => (c :: p.1, p.2 + 1)
def blbR : List UInt8 → Option (List UInt8 × Nat)
  | [] => none
  | c :: r => if c = 39 then some ([], 1) else
      match r with
      | [] => none
      | d :: r' => (hexV c).bind fun h => (hexV d).bind fun g => (blbR r').map fun p => (UInt8.ofNat (16 * h + g) :: p.1, p.2 + 2)
def numV : Nat → List UInt8 → Option (Nat × Nat)
  | n, [] => some (n, 0)
  | n, c :: r => if isDig c then (if 9223372036854775808 < 10 * n + (c.toNat - 48) then none else (numV (10 * n + (c.toNat - 48)) r).map fun p => (p.1, p.2 + 1)) else some (n, 0)
def signs : List (List UInt8) := [[60, 62], [60, 61], [62, 61], [33, 61], [124, 124], [61], [60], [62], [43], [45], [42], [47], [37], [40], [41], [44], [46], [59]]
def sgn (l : List UInt8) : Option (List UInt8) := signs.find? fun w => w.isPrefixOf l
def headIs (l : List UInt8) (f : UInt8 → Bool) : Bool := match l with | [] => false | c :: _ => f c
structure Tk where
  k : Int
  s : List UInt8
  i : Int
  n : Nat
def oneT (l : List UInt8) : Option Tk :=
  match l with
  | [] => none
  | c :: r =>
    if (c = 120 ∨ c = 88) ∧ r.head? = some 39 then (blbR r.tail).map fun p => ⟨4, p.1, 0, p.2 + 2⟩
    else if isLet c then (if wLen l ≤ 32 then some ⟨1, (l.take (wLen l)).map low, 0, wLen l⟩ else none)
    else if isDig c then (numV 0 l).bind fun p => if headIs (l.drop p.2) isLet then none else some ⟨2, [], i64Of p.1, p.2⟩
    else if c = 39 then (txtR r).map fun p => ⟨3, p.1, 0, p.2 + 1⟩
    else (sgn l).map fun w => ⟨5, if w = [33, 61] then [60, 62] else w, 0, w.length⟩
structure T where
  k : Int
  s : List UInt8
  i : Int
  p : Nat
deriving DecidableEq
def cutF : Nat → Nat → List UInt8 → Except Nat (List T)
  | 0, p, _ => .error p
  | f + 1, p, l =>
    if l.drop (bl false l) = [] then .ok [⟨6, [], 0, p + bl false l⟩] else
    match oneT (l.drop (bl false l)) with
    | none => .error (p + bl false l)
    | some t => match cutF f (p + bl false l + t.n) (l.drop (bl false l + t.n)) with
      | .error q => .error q
      | .ok ts => .ok (⟨t.k, t.s, t.i, p + bl false l⟩ :: ts)
def cutP (p : Nat) (l : List UInt8) : Except Nat (List T) := cutF (l.length + 1) p l
theorem bl_le (b : Bool) (l : List UInt8) : bl b l ≤ l.length := by
  induction l generalizing b with
  | nil => cases b <;> simp [bl]
  | cons c r ih =>
    have h1 := ih true
    have h2 := ih false
    cases b
    · simp only [bl, List.length_cons]
      split
      · omega
      · split <;> omega
    · simp only [bl, List.length_cons]
      split <;> omega
theorem bl_stop (b : Bool) (l : List UInt8) : bl false (l.drop (bl b l)) = 0 := by
  induction l generalizing b with
  | nil => cases b <;> simp [bl]
  | cons c r ih =>
    cases b
    · simp only [bl]
      split
      · rw [Nat.add_comm, List.drop_succ_cons]; exact ih false
      · split
        · rw [Nat.add_comm, List.drop_succ_cons]; exact ih true
        · rename_i h1 h2
          rw [List.drop_zero]
          simp only [bl]
          rw [if_neg h1, if_neg h2]
    · simp only [bl]
      split
      · rw [Nat.add_comm, List.drop_succ_cons]; exact ih false
      · rw [Nat.add_comm, List.drop_succ_cons]; exact ih true
theorem txtR_len (l : List UInt8) (p : List UInt8 × Nat) (h : txtR l = some p) : 0 < p.2 ∧ p.2 ≤ l.length := by
  match l with
  | [] => simp [txtR] at h
  | [c] =>
    by_cases hc : c = 39
    · simp [txtR, hc] at h
      subst h
      simp
    · simp [txtR, hc] at h
  | c :: d :: r' =>
    unfold txtR at h
    by_cases hc : c = 39
    · rw [if_pos hc] at h
      simp only at h
      by_cases hd : d = 39
      · rw [if_pos hd, Option.map_eq_some_iff] at h
        obtain ⟨q, hq, rfl⟩ := h
        have := txtR_len r' q hq
        simp
        omega
      · rw [if_neg hd] at h
        simp at h
        subst h
        simp
    · rw [if_neg hc, Option.map_eq_some_iff] at h
      obtain ⟨q, hq, rfl⟩ := h
      have := txtR_len (d :: r') q hq
      simp at this ⊢
      omega
theorem blbR_len (l : List UInt8) (p : List UInt8 × Nat) (h : blbR l = some p) : 0 < p.2 ∧ p.2 ≤ l.length := by
  match l with
  | [] => simp [blbR] at h
  | [c] =>
    by_cases hc : c = 39
    · simp [blbR, hc] at h
      subst h
      simp
    · simp [blbR, hc] at h
  | c :: d :: r' =>
    unfold blbR at h
    by_cases hc : c = 39
    · rw [if_pos hc] at h
      simp at h
      subst h
      simp
    · rw [if_neg hc] at h
      simp only [Option.bind_eq_some_iff, Option.map_eq_some_iff] at h
      obtain ⟨-, -, -, -, q, hq, rfl⟩ := h
      have := blbR_len r' q hq
      simp
      omega
theorem numV_len (n : Nat) (l : List UInt8) (p : Nat × Nat) (h : numV n l = some p) : p.2 = (l.takeWhile isDig).length ∧ p.2 ≤ l.length := by
  induction l generalizing n p with
  | nil => simp [numV] at h; subst h; simp
  | cons c r ih =>
    unfold numV at h
    by_cases hc : isDig c = true
    · rw [if_pos hc] at h
      split at h
      · cases h
      · rw [Option.map_eq_some_iff] at h
        obtain ⟨q, hq, rfl⟩ := h
        have := ih _ q hq
        rw [List.takeWhile_cons_of_pos hc]
        simp
        omega
    · rw [if_neg hc] at h
      simp at h
      subst h
      simp [hc]
theorem sgn_mem {l w : List UInt8} (h : sgn l = some w) : w ∈ signs ∧ w.isPrefixOf l = true := by
  unfold sgn at h
  exact ⟨List.mem_of_find?_eq_some h, by simpa using List.find?_some h⟩
theorem signs_len {w : List UInt8} (h : w ∈ signs) : w.length = 1 ∨ w.length = 2 := by
  simp [signs] at h
  rcases h with rfl | rfl | rfl | rfl | rfl | rfl | rfl | rfl | rfl | rfl | rfl | rfl | rfl | rfl | rfl | rfl | rfl | rfl <;> simp
theorem oneT_len {l : List UInt8} {t : Tk} (h : oneT l = some t) : 0 < t.n ∧ t.n ≤ l.length := by
  cases l with
  | nil => simp [oneT] at h
  | cons c r =>
    simp only [oneT] at h
    split at h
    · rename_i hx
      rw [Option.map_eq_some_iff] at h
      obtain ⟨p, hp, rfl⟩ := h
      have h1 := blbR_len _ p hp
      have h2 : 0 < r.length := by cases r with | nil => simp at hx | cons d r => simp
      rw [List.length_tail] at h1
      simp
      omega
    · split at h
      · rename_i hl
        split at h
        · simp at h
          subst h
          have h1 : (c :: r).takeWhile isWch = c :: r.takeWhile isWch := List.takeWhile_cons_of_pos (by simp [isWch, hl])
          have h2 := (List.takeWhile_sublist (p := isWch) (l := c :: r)).length_le
          simp only [wLen]
          refine ⟨by rw [h1]; simp, h2⟩
        · cases h
      · split at h
        · rename_i hd
          rw [Option.bind_eq_some_iff] at h
          obtain ⟨p, hp, h⟩ := h
          split at h
          · cases h
          · simp at h
            subst h
            obtain ⟨h1, h2⟩ := numV_len 0 _ p hp
            rw [List.takeWhile_cons_of_pos hd] at h1
            simp at h1
            exact ⟨by simp; omega, h2⟩
        · split at h
          · rw [Option.map_eq_some_iff] at h
            obtain ⟨p, hp, rfl⟩ := h
            have := txtR_len _ p hp
            simp
            omega
          · rw [Option.map_eq_some_iff] at h
            obtain ⟨w, hw, rfl⟩ := h
            obtain ⟨h1, h2⟩ := sgn_mem hw
            have h3 := signs_len h1
            have h4 := (List.isPrefixOf_iff_prefix.1 h2).length_le
            simp at h4 ⊢
            omega
theorem cutF_fuel (f g p : Nat) (l : List UInt8) (hf : l.length < f) (hg : l.length < g) : cutF f p l = cutF g p l := by
  induction f generalizing g p l with
  | zero => omega
  | succ f ih =>
    cases g with
    | zero => omega
    | succ g =>
      simp only [cutF]
      by_cases hl : l.drop (bl false l) = []
      · rw [if_pos hl, if_pos hl]
      · rw [if_neg hl, if_neg hl]
        cases ho : oneT (l.drop (bl false l)) with
        | none => rfl
        | some t =>
          have hn := oneT_len ho
          have hb := bl_le false l
          rw [List.length_drop] at hn
          simp only
          rw [ih g _ (l.drop (bl false l + t.n)) (by rw [List.length_drop]; omega) (by rw [List.length_drop]; omega)]
theorem cutP_eq (p : Nat) (l : List UInt8) : cutP p l = if l.drop (bl false l) = [] then .ok [⟨6, [], 0, p + bl false l⟩] else
    match oneT (l.drop (bl false l)) with
    | none => .error (p + bl false l)
    | some t => match cutP (p + bl false l + t.n) (l.drop (bl false l + t.n)) with
      | .error q => .error q
      | .ok ts => .ok (⟨t.k, t.s, t.i, p + bl false l⟩ :: ts) := by
  unfold cutP
  conv => lhs; unfold cutF
  by_cases hl : l.drop (bl false l) = []
  · rw [if_pos hl, if_pos hl]
  · rw [if_neg hl, if_neg hl]
    cases ho : oneT (l.drop (bl false l)) with
    | none => rfl
    | some t =>
      have hn := oneT_len ho
      have hb := bl_le false l
      rw [List.length_drop] at hn
      simp only
      rw [cutF_fuel l.length ((l.drop (bl false l + t.n)).length + 1) _ _ (by rw [List.length_drop]; omega) (by omega)]
theorem drop_end {l : List UInt8} (h : l.drop (bl false l) = []) : bl false l = l.length := by
  have h1 := bl_le false l
  have h2 := congrArg List.length h
  rw [List.length_drop, List.length_nil] at h2
  omega
theorem cut_ind {P : List UInt8 → Prop} (h : ∀ l, (∀ t, l.drop (bl false l) ≠ [] → oneT (l.drop (bl false l)) = some t → P (l.drop (bl false l + t.n))) → P l) : ∀ l, P l := by
  intro l
  induction hn : l.length using Nat.strongRecOn generalizing l with
  | ind n ih =>
    refine h l fun t hne ho => ih _ ?_ _ rfl
    have h1 := oneT_len ho
    rw [List.length_drop] at h1 ⊢
    omega
theorem cutP_skip (p : Nat) (l : List UInt8) : cutP (p + bl false l) (l.drop (bl false l)) = cutP p l := by
  rw [cutP_eq p l, cutP_eq (p + bl false l) (l.drop (bl false l)), bl_stop, List.drop_zero, Nat.add_zero]
  simp only [Nat.zero_add, List.drop_drop]
theorem cut_parts (l : List UInt8) : ∀ p ts, cutP p l = .ok ts →
    (∃ us, ts = us ++ [⟨6, [], 0, p + l.length⟩]) ∧ (∀ t ∈ ts, p ≤ t.p ∧ t.p ≤ p + l.length) ∧ (∀ i (h : i + 1 < ts.length), (ts[i]'(by omega)).p < ts[i + 1].p) ∧
    ∀ i (h : i < ts.length), cutP ts[i].p (l.drop (ts[i].p - p)) = .ok (ts.drop i) := by
  refine cut_ind (P := fun l => ∀ p ts, cutP p l = .ok ts → (∃ us, ts = us ++ [⟨6, [], 0, p + l.length⟩]) ∧ (∀ t ∈ ts, p ≤ t.p ∧ t.p ≤ p + l.length) ∧ (∀ i (h : i + 1 < ts.length), (ts[i]'(by omega)).p < ts[i + 1].p) ∧ ∀ i (h : i < ts.length), cutP ts[i].p (l.drop (ts[i].p - p)) = .ok (ts.drop i)) (fun l ih p ts h => ?_) l
  have hsk := cutP_skip p l
  have hb := bl_le false l
  rw [h] at hsk
  rw [cutP_eq p l] at h
  by_cases hl : l.drop (bl false l) = []
  · rw [if_pos hl] at h
    have he := drop_end hl
    injection h with h
    subst h
    refine ⟨⟨[], by rw [he]; rfl⟩, fun t ht => ?_, fun i hi => by simp at hi, fun i hi => ?_⟩
    · simp at ht
      subst ht
      simp
      omega
    · have : i = 0 := by simpa using hi
      subst this
      simp only [List.getElem_cons_zero, List.drop_zero]
      rw [Nat.add_sub_cancel_left]
      exact hsk
  · rw [if_neg hl] at h
    cases ho : oneT (l.drop (bl false l)) with
    | none => rw [ho] at h; cases h
    | some t =>
      rw [ho] at h
      simp only at h
      have hn := oneT_len ho
      rw [List.length_drop] at hn
      cases hc : cutP (p + bl false l + t.n) (l.drop (bl false l + t.n)) with
      | error q => rw [hc] at h; cases h
      | ok us =>
        rw [hc] at h
        simp only at h
        injection h with h
        subst h
        obtain ⟨⟨vs, h1⟩, h2, h3, h4⟩ := ih t hl ho _ _ hc
        rw [List.length_drop] at h1 h2
        refine ⟨⟨⟨t.k, t.s, t.i, p + bl false l⟩ :: vs, ?_⟩, fun u hu => ?_, fun i hi => ?_, fun i hi => ?_⟩
        · rw [h1]
          simp
          omega
        · rcases List.mem_cons.1 hu with rfl | hu
          · simp
            omega
          · have := h2 u hu
            omega
        · cases i with
          | zero =>
            simp only [List.getElem_cons_zero, Nat.zero_add, List.getElem_cons_succ]
            have hu : 0 < us.length := by simp at hi; omega
            have := h2 us[0] (List.getElem_mem _)
            omega
          | succ i =>
            simp only [List.getElem_cons_succ]
            exact h3 i (by simpa using hi)
        · cases i with
          | zero =>
            simp only [List.getElem_cons_zero, List.drop_zero]
            rw [Nat.add_sub_cancel_left]
            exact hsk
          | succ i =>
            simp only [List.getElem_cons_succ, List.drop_succ_cons]
            have hi' : i < us.length := by simpa using hi
            have h5 := h4 i hi'
            have h6 := h2 us[i] (List.getElem_mem _)
            rw [List.drop_drop] at h5
            rw [show us[i].p - p = bl false l + t.n + (us[i].p - (p + bl false l + t.n)) by omega]
            exact h5
end Go.Proofs.YtcmbdghbicjljaaGreatDoor
namespace Go.Proofs.YtcmbdghbicjljaaGreatDoor
end Go.Proofs.YtcmbdghbicjljaaGreatDoor
namespace Go.Proofs.YtcmbdghbicjljaaGreatDoor
theorem isDig_iff (c : UInt8) : isDig c = true ↔ 48 ≤ c.toNat ∧ c.toNat ≤ 57 := by
  simp [isDig, UInt8.le_iff_toNat_le]
def hexP : List UInt8 → Option (List UInt8)
  | [] => some []
  | [_] => none
  | c :: d :: r => (hexV c).bind fun h => (hexV d).bind fun g => (hexP r).map fun p => UInt8.ofNat (16 * h + g) :: p
end Go.Proofs.YtcmbdghbicjljaaGreatDoor
namespace Go.Proofs.YtcmbdghbicjljaaGreatDoor
def resL : List (List UInt8) := [[97, 108, 108], [97, 110, 100], [97, 115], [97, 115, 99], [98, 101, 103, 105, 110], [98, 101, 116, 119, 101, 101, 110], [98, 108, 111, 98], [98, 111, 111, 108], [98, 121], [99, 97, 115, 101], [99, 111, 109, 109, 105, 116], [99, 114, 101, 97, 116, 101], [99, 114, 111, 115, 115], [100, 101, 108, 101, 116, 101], [100, 101, 115, 99], [100, 105, 115, 116, 105, 110, 99, 116], [100, 114, 111, 112], [101, 120, 99, 101, 112, 116], [101, 120, 105, 115, 116, 115], [102, 97, 108, 115, 101], [102, 114, 111, 109], [102, 117, 108, 108], [103, 114, 111, 117, 112], [104, 97, 118, 105, 110, 103], [105, 110], [105, 110, 100, 101, 120], [105, 110, 110, 101, 114], [105, 110, 115, 101, 114, 116], [105, 110, 116], [105, 110, 116, 101, 114, 115, 101, 99, 116], [105, 110, 116, 111], [105, 115], [106, 111, 105, 110], [107, 101, 121], [108, 101, 102, 116], [108, 105, 107, 101], [108, 105, 109, 105, 116], [110, 111, 116], [110, 117, 108, 108], [111, 102, 102, 115, 101, 116], [111, 110], [111, 114], [111, 114, 100, 101, 114], [111, 117, 116, 101, 114], [112, 114, 105, 109, 97, 114, 121], [114, 105, 103, 104, 116], [114, 111, 108, 108, 98, 97, 99, 107], [115, 101, 108, 101, 99, 116], [115, 101, 116], [116, 97, 98, 108, 101], [116, 101, 120, 116], [116, 114, 117, 101], [117, 110, 105, 111, 110], [117, 110, 105, 113, 117, 101], [117, 112, 100, 97, 116, 101], [117, 115, 105, 110, 103], [118, 97, 108, 117, 101, 115], [119, 104, 101, 114, 101]]
def resB (l : List UInt8) : Bool := resL.contains l
def isCap (c : UInt8) : Bool := 65 ≤ c && c ≤ 90
def nameB (l : List UInt8) : Bool := !l.isEmpty && decide (l.length ≤ 32) && !headIs l isDig && !resB l && l.all fun c => isWch c && !isCap c
theorem low_same (c : UInt8) : low c = c ↔ isCap c = false := by
  unfold low isCap
  by_cases h : (decide (65 ≤ c) && decide (c ≤ 90)) = true
  · rw [if_pos h, h]
    refine ⟨fun h2 => ?_, fun h2 => by cases h2⟩
    have h3 := congrArg UInt8.toNat h2
    rw [UInt8.toNat_add] at h3
    have h4 := c.toNat_lt
    change (c.toNat + 32) % 256 = c.toNat at h3
    omega
  · rw [if_neg h]
    simp only [true_iff]
    simpa using h
end Go.Proofs.YtcmbdghbicjljaaGreatDoor
namespace Go.Proofs.YtcmbdghbicjljaaGreatDoor
open Go.RowKit
theorem ret_bool {a b : Bool} (h : a = b) : Ending.returned (.bool a) = .returned (.bool b) := by rw [h]
theorem size_list (s : ByteArray) : s.data.toList.length = s.size := by simp
theorem ext_list (s : ByteArray) (i j : Nat) : (s.extract i j).data.toList = (s.data.toList.drop i).take (j - i) := Lib.extract_data s i j
theorem ext_begin (s : ByteArray) (i : Nat) : (s.extract 0 i).data.toList = s.data.toList.take i := by rw [ext_list, List.drop_zero, Nat.sub_zero]
theorem bool_iff {a b : Bool} (h : a = true ↔ b = true) : a = b := by cases a <;> cases b <;> simp_all
theorem bthen {w w1 w2 : World} (h : Below w.heap.size w w1) (h' : Below w1.heap.size w1 w2) : Below w.heap.size w w2 := h.trans (h'.mono h.size)
def str (l : List UInt8) : ByteArray := ⟨l.toArray⟩
theorem str_list (l : List UInt8) : (str l).data.toList = l := by simp [str]
theorem list_str (s : ByteArray) : str s.data.toList = s := by simp [str]
theorem str_size (l : List UInt8) : (str l).size = l.length := by rw [← size_list, str_list]
def T.val (t : T) : Value := .agg #[.int .i64 t.k, .string (str t.s), .int .i64 t.i, .int .i64 t.p]
def zT : T := ⟨0, [], 0, 0⟩
def got : Option Tk → T × Nat
  | none => (zT, 0)
  | some t => (⟨t.k, t.s, t.i, 0⟩, t.n)
def tup (o : Option Tk) : Value := .tuple #[(got o).1.val, .int .i64 (got o).2]
def TBox (w : World) (b : Nat) (t : T) : Prop := w.heap[b]? = some (.cells #[.int .i64 t.k, .string (str t.s), .int .i64 t.i, .int .i64 t.p] 128 (0, 0))
theorem TBox.lt {w : World} {b : Nat} {t : T} (h : TBox w b t) : b < w.heap.size := (Array.getElem?_eq_some_iff.1 h).1
theorem TBox.cells {w : World} {b : Nat} {t : T} (h : TBox w b t) : w.cell? ⟨b, 0, none⟩ = some (.int .i64 t.k) ∧ w.cell? ⟨b, 1, none⟩ = some (.string (str t.s)) ∧ w.cell? ⟨b, 2, none⟩ = some (.int .i64 t.i) ∧ w.cell? ⟨b, 3, none⟩ = some (.int .i64 t.p) :=
  ⟨by rw [Lib.cell_of_heap h]; rfl, by rw [Lib.cell_of_heap h]; rfl, by rw [Lib.cell_of_heap h]; rfl, by rw [Lib.cell_of_heap h]; rfl⟩
theorem TBox.free {w : World} {b : Nat} {t : T} (h : TBox w b t) : w.frozen? ⟨b, 0, none⟩ = false ∧ w.frozen? ⟨b, 1, none⟩ = false ∧ w.frozen? ⟨b, 2, none⟩ = false ∧ w.frozen? ⟨b, 3, none⟩ = false :=
  ⟨Lib.frozen_of_heap h 0, Lib.frozen_of_heap h 1, Lib.frozen_of_heap h 2, Lib.frozen_of_heap h 3⟩
theorem TBox.later {w w' : World} {b : Nat} {t : T} (h : TBox w b t) (hb : Below w.heap.size w w') : TBox w' b t := (hb.block b h.lt).trans h
theorem TBox.made (w : World) (t : T) : TBox (w.alloc (.cells #[.int .i64 t.k, .string (str t.s), .int .i64 t.i, .int .i64 t.p] 128)) w.heap.size t := heap_alloc_new w _
theorem zbox (w : World) : TBox (w.alloc (.cells #[.int .i64 0, .string ⟨#[]⟩, .int .i64 0, .int .i64 0] 128)) w.heap.size zT := TBox.made w zT
theorem TBox.zcells {w : World} {b : Nat} (h : TBox w b zT) : w.cell? ⟨b, 0, none⟩ = some (.int .i64 0) ∧ w.cell? ⟨b, 1, none⟩ = some (.string ⟨#[]⟩) ∧ w.cell? ⟨b, 2, none⟩ = some (.int .i64 0) ∧ w.cell? ⟨b, 3, none⟩ = some (.int .i64 0) := h.cells
theorem Below.set4 {B : Nat} {a w : World} (h : Below B a w) {b : Nat} (hb : B ≤ b) (x y z u : Value) : Below B a ((((w.setCell ⟨b, 0, none⟩ x).setCell ⟨b, 1, none⟩ y).setCell ⟨b, 2, none⟩ z).setCell ⟨b, 3, none⟩ u) := (((h.setCell hb _).setCell hb _).setCell hb _).setCell hb _
theorem u8_lt (c : UInt8) : (c.toNat : Int) < 256 := by have := c.toNat_lt; omega
theorem isLet_eq (c : UInt8) : isLet c = decide ((97 ≤ c.toNat ∧ c.toNat ≤ 122) ∨ (65 ≤ c.toNat ∧ c.toNat ≤ 90) ∨ c.toNat = 95) := by
  apply bool_iff
  simp only [isLet, Bool.or_eq_true, Bool.and_eq_true, decide_eq_true_iff, UInt8.le_iff_toNat_le, beq_iff_eq, ← UInt8.toNat_inj]
  change ((97 ≤ c.toNat ∧ c.toNat ≤ 122) ∨ (65 ≤ c.toNat ∧ c.toNat ≤ 90)) ∨ c.toNat = 95 ↔ _
  omega
theorem isDig_eq (c : UInt8) : isDig c = decide (48 ≤ c.toNat ∧ c.toNat ≤ 57) := bool_iff (by rw [isDig_iff, decide_eq_true_iff])
theorem isCap_eq (c : UInt8) : isCap c = decide (65 ≤ c.toNat ∧ c.toNat ≤ 90) := by
  apply bool_iff
  simp only [isCap, Bool.and_eq_true, decide_eq_true_iff, UInt8.le_iff_toNat_le]
  exact Iff.rfl
end Go.Proofs.YtcmbdghbicjljaaGreatDoor
namespace Go.Proofs.YtcmbdghbicjljaaGreatDoor
open Go.RowKit
set_option maxRecDepth 100000 in
set_option maxHeartbeats 1000000 in
theorem isDigit_any (c : UInt8) (w : World) : Calls Tryz.prog 181 #[.int .u8 c.toNat] w fun e w' => e = .returned (.bool (isDig c)) ∧ w' = w := by
  rw [isDig_eq]
  have h := u8_lt c
  generalize c.toNat = n at *
  have hn : (n : Int) < 48 ∨ ((48 : Int) ≤ n ∧ (n : Int) ≤ 57) ∨ ((48 : Int) ≤ n ∧ (57 : Int) < n) := by omega
  rcases hn with h1 | ⟨h0, h1⟩ | ⟨h0, h1⟩
  all_goals
    go_enter Tryz.func181, Tryz.ntmps181
    go_wp2_with fail
    go_ret
    refine ⟨ret_bool ?_, rfl⟩
    first | (exact (decide_eq_true (by omega)).symm) | (exact (decide_eq_false (by omega)).symm) | (refine bool_iff ?_; simp; omega)
set_option maxRecDepth 100000 in
set_option maxHeartbeats 1000000 in
theorem isLetter_any (c : UInt8) (w : World) : Calls Tryz.prog 125 #[.int .u8 c.toNat] w fun e w' => e = .returned (.bool (isLet c)) ∧ w' = w := by
  rw [isLet_eq]
  have h := u8_lt c
  generalize c.toNat = n at *
  have hn : (n : Int) < 65 ∨ ((65 : Int) ≤ n ∧ (n : Int) ≤ 90) ∨ ((90 : Int) < n ∧ (n : Int) < 97 ∧ (n : Int) ≠ 95) ∨ (n : Int) = 95 ∨ ((97 : Int) ≤ n ∧ (n : Int) ≤ 122) ∨ ((122 : Int) < n) := by omega
  rcases hn with h1 | ⟨h0, h1⟩ | ⟨h0, h1, h2⟩ | h1 | ⟨h0, h1⟩ | h1
  all_goals
    go_enter Tryz.func125, Tryz.ntmps125
    go_wp2_with fail
    go_ret
    refine ⟨ret_bool ?_, rfl⟩
    first | (exact (decide_eq_true (by omega)).symm) | (exact (decide_eq_false (by omega)).symm) | (refine bool_iff ?_; simp; omega)
set_option maxRecDepth 100000 in
set_option maxHeartbeats 1000000 in
theorem isWordByte_any (c : UInt8) (w : World) : Calls Tryz.prog 165 #[.int .u8 c.toNat] w fun e w' => e = .returned (.bool (isWch c)) ∧ w' = w := by
  have h1 := isLetter_any c w
  have h2 := isDigit_any c w
  unfold isWch
  generalize isLet c = a at *
  generalize isDig c = b at *
  go_enter Tryz.func165, Tryz.ntmps165
  go_wp2_with (first | (go_at_call 125; refine h1.mono ?_; rintro e w' ⟨rfl, rfl⟩) | (go_at_call 181; refine h2.mono ?_; rintro e w' ⟨rfl, rfl⟩))
  all_goals go_ret
  all_goals exact ⟨by simp [*], rfl⟩
set_option maxRecDepth 100000 in
set_option maxHeartbeats 1000000 in
theorem digit_any (c : UInt8) (w : World) : Calls Tryz.prog 141 #[.int .u8 c.toNat] w fun e w' => e = .returned (.bool (isDig c)) ∧ w' = w := by
  rw [isDig_eq]
  have h := u8_lt c
  generalize c.toNat = n at *
  have hn : (n : Int) < 48 ∨ ((48 : Int) ≤ n ∧ (n : Int) ≤ 57) ∨ ((48 : Int) ≤ n ∧ (57 : Int) < n) := by omega
  rcases hn with h1 | ⟨h0, h1⟩ | ⟨h0, h1⟩
  all_goals
    go_enter Tryz.func141, Tryz.ntmps141
    go_wp2_with fail
    go_ret
    refine ⟨ret_bool ?_, rfl⟩
    first | (exact (decide_eq_true (by omega)).symm) | (exact (decide_eq_false (by omega)).symm) | (refine bool_iff ?_; simp; omega)
set_option maxRecDepth 100000 in
set_option maxHeartbeats 1000000 in
theorem letter_any (c : UInt8) (w : World) : Calls Tryz.prog 143 #[.int .u8 c.toNat] w fun e w' => e = .returned (.bool (isLet c)) ∧ w' = w := by
  rw [isLet_eq]
  have h := u8_lt c
  generalize c.toNat = n at *
  have hn : (n : Int) < 65 ∨ ((65 : Int) ≤ n ∧ (n : Int) ≤ 90) ∨ ((90 : Int) < n ∧ (n : Int) < 97 ∧ (n : Int) ≠ 95) ∨ (n : Int) = 95 ∨ ((97 : Int) ≤ n ∧ (n : Int) ≤ 122) ∨ ((122 : Int) < n) := by omega
  rcases hn with h1 | ⟨h0, h1⟩ | ⟨h0, h1, h2⟩ | h1 | ⟨h0, h1⟩ | h1
  all_goals
    go_enter Tryz.func143, Tryz.ntmps143
    go_wp2_with fail
    go_ret
    refine ⟨ret_bool ?_, rfl⟩
    first | (exact (decide_eq_true (by omega)).symm) | (exact (decide_eq_false (by omega)).symm) | (refine bool_iff ?_; simp; omega)
end Go.Proofs.YtcmbdghbicjljaaGreatDoor
namespace Go.Proofs.YtcmbdghbicjljaaGreatDoor
open Go.RowKit
theorem tw_get {p : UInt8 → Bool} {l : List UInt8} {k : Nat} (hk : k ≤ (l.takeWhile p).length) (hl : k < l.length) : p l[k] = decide (k < (l.takeWhile p).length) := by
  induction l generalizing k with
  | nil => simp at hl
  | cons c r ih =>
    by_cases hc : p c = true
    · rw [List.takeWhile_cons_of_pos hc] at hk ⊢
      cases k with
      | zero => simp [hc]
      | succ k =>
        simp only [List.length_cons, List.getElem_cons_succ] at hk ⊢
        rw [ih (by omega) (by simpa using hl)]
        apply bool_iff
        simp
    · rw [List.takeWhile_cons_of_neg hc] at hk ⊢
      have : k = 0 := by simpa using hk
      subst this
      simpa using hc
theorem tw_le (p : UInt8 → Bool) (l : List UInt8) : (l.takeWhile p).length ≤ l.length := (List.takeWhile_sublist (p := p) (l := l)).length_le
theorem list_get {s : ByteArray} {k : Nat} (hk : k < s.size) : s.data.toList[k]'(by rw [size_list]; exact hk) = s[k] := by simp; rfl
set_option maxRecDepth 100000 in
set_option maxHeartbeats 1000000 in
theorem spanW (s : ByteArray) (w : World) (hs : s.size ≤ 140737488355328) : Calls Tryz.prog 164 #[.string s, .func (.func 165) #[] #[]] w fun e w' => e = .returned (.int .i64 ((s.data.toList.takeWhile isWch).length : Nat)) ∧ w' = w := by
  have HB := Lib.hid isWordByte_any
  obtain ⟨m, hm⟩ : ∃ m, m = (s.data.toList.takeWhile isWch).length := ⟨_, rfl⟩
  have hmn : m ≤ s.size := by rw [hm, ← size_list]; exact tw_le _ _
  have HG : Hid (∀ k (h : k < s.size), k ≤ m → isWch s[k] = decide (k < m)) := fun k h hk => by
    rw [← list_get h, hm]
    exact tw_get (by omega) (by rw [size_list]; exact h)
  rw [← hm]
  clear hm
  go_enter Tryz.func164, Tryz.ntmps164
  go_wp2_with fail
  go_loopw [5] (fun i wr => ∃ k : Nat, k ≤ m ∧ i = .int .i64 k ∧ wr = w) (fun i _ => m - (intOf i).toNat)
  case atStart => exact ⟨0, Nat.zero_le _, rfl, rfl⟩
  case round =>
    obtain ⟨k, hk, rfl, rfl⟩ := hrel
    by_cases hlt : k < s.size
    · have hg := HG.out k hlt hk
      have hc := fun w => HB.out s[k] w
      simp only [hg] at hc
      clear hg
      by_cases hkm : k < m
      · simp only [decide_eq_true hkm] at hc
        go_wp2_with (go_at_call 165; refine (hc _).mono ?_; rintro e w' ⟨rfl, rfl⟩)
        go_roundw
        case measure => simp [intOf]; omega
        case rel => exact ⟨k + 1, by omega, by go_num, trivial⟩
      · simp only [decide_eq_false hkm] at hc
        have : k = m := by omega
        subst this
        go_wp2_with (go_at_call 165; refine (hc _).mono ?_; rintro e w' ⟨rfl, rfl⟩)
        go_ret
        exact ⟨rfl, rfl⟩
    · have : k = m := by omega
      subst this
      go_wp2_with fail
      go_ret
      exact ⟨rfl, rfl⟩
end Go.Proofs.YtcmbdghbicjljaaGreatDoor
namespace Go.Proofs.YtcmbdghbicjljaaGreatDoor
open Go.RowKit
def BytesAt (w : World) (B : Nat) (A : Option Addr) (l : List UInt8) : Prop := 0 < l.length → ∃ b off, A = some ⟨b, off, none⟩ ∧ b < B ∧ ∀ j (h : j < l.length), w.cell? ⟨b, off + j, none⟩ = some (.int .u8 l[j].toNat)
theorem BytesAt.below {w w' : World} {B : Nat} {A : Option Addr} {l : List UInt8} (h : BytesAt w B A l) (hb : Below B w w') : BytesAt w' B A l := fun h0 => by
  obtain ⟨b, off, hA, hlt, hc⟩ := h h0
  exact ⟨b, off, hA, hlt, fun j hj => (hb.cell (p := ⟨b, _, none⟩) hlt).trans (hc j hj)⟩
theorem BytesAt.mono {w : World} {B B' : Nat} {A : Option Addr} {l : List UInt8} (h : BytesAt w B A l) (hB : B ≤ B') : BytesAt w B' A l := fun h0 => by
  obtain ⟨b, off, hA, hlt, hc⟩ := h h0
  exact ⟨b, off, hA, by omega, hc⟩
theorem BytesAt.later {w w' : World} {A : Option Addr} {l : List UInt8} (h : BytesAt w w.heap.size A l) (hb : Below w.heap.size w w') : BytesAt w' w'.heap.size A l := (h.below hb).mono hb.size
theorem BytesAt.nil (w : World) (B : Nat) (A : Option Addr) : BytesAt w B A [] := fun h => by simp at h
theorem BytesAt.drop {w : World} {B b off : Nat} {l : List UInt8} (h : BytesAt w B (some ⟨b, off, none⟩) l) (k : Nat) : BytesAt w B (some ⟨b, off + k, none⟩) (l.drop k) := fun h0 => by
  obtain ⟨b', off', hA, hlt, hc⟩ := h (by rw [List.length_drop] at h0; omega)
  simp at hA
  obtain ⟨rfl, rfl⟩ := hA
  refine ⟨b, off + k, rfl, hlt, fun j hj => ?_⟩
  have := hc (k + j) (by rw [List.length_drop] at hj; omega)
  rw [Nat.add_assoc]
  simpa using this
theorem BytesAt.take {w : World} {B : Nat} {A : Option Addr} {l : List UInt8} (h : BytesAt w B A l) (k : Nat) : BytesAt w B A (l.take k) := fun h0 => by
  obtain ⟨b, off, hA, hlt, hc⟩ := h (by rw [List.length_take] at h0; omega)
  refine ⟨b, off, hA, hlt, fun j hj => ?_⟩
  have := hc j (by rw [List.length_take] at hj; omega)
  simpa using this
def u8s (l : List UInt8) : List Value := l.map fun x => .int .u8 x.toNat
theorem u8s_len (l : List UInt8) : (u8s l).length = l.length := by simp [u8s]
theorem u8s_append (l m : List UInt8) : u8s (l ++ m) = u8s l ++ u8s m := by simp [u8s]
theorem u8s_one (l : List UInt8) : ∀ u ∈ u8s l, u.oneCell' = true := by
  intro u hu
  obtain ⟨r, _, rfl⟩ := List.mem_map.1 hu
  rfl
theorem u8s_str (s : ByteArray) : Lib.strCells s = u8s s.data.toList := rfl
theorem info5 : (Tryz.prog.info? 5).map (fun i => (i.zero, i.size, i.bytes)) = some (some (.int .u8 0), 1, 1) := by kernel_rfl
theorem BytesAt.cells {w : World} {B b off : Nat} {l : List UInt8} (h : BytesAt w B (some ⟨b, off, none⟩) l) : ∀ j u, (u8s l)[j]? = some u → w.cell? ((⟨b, off, none⟩ : Addr).add j) = some u := by
  intro j u hu
  have hj : j < l.length := by
    have := (List.getElem?_eq_some_iff.1 hu).1
    rwa [u8s_len] at this
  obtain ⟨b', off', hA, -, hc⟩ := h (by omega)
  simp at hA
  obtain ⟨rfl, rfl⟩ := hA
  have := hc j hj
  rw [WideShapes.add_plain]
  simp [u8s, hj] at hu
  rw [← hu]
  exact this
def Own (w : World) (B : Nat) (v : Value) (l : List UInt8) : Prop := w.ownsRow B 5 1 v l.length (u8s l)
theorem Own.nil (w : World) (B : Nat) : Own w B (.slice none 0 0) [] := World.ownsRow_nil w B 5 1
theorem Own.shape {w : World} {B : Nat} {v : Value} {l : List UInt8} (h : Own w B v l) : ∃ A c, v = .slice A l.length c ∧ l.length ≤ c := by
  rcases h.2 with ⟨hv, h0⟩ | ⟨g, cap, cur, hv, _, hg, hn, _⟩
  · exact ⟨none, 0, by rw [hv, h0], by omega⟩
  · exact ⟨_, cap, hv, by assumption⟩
theorem Own.bytes {w : World} {B : Nat} {v : Value} {l : List UInt8} (h : Own w B v l) : ∃ A c, v = .slice A l.length c ∧ l.length ≤ c ∧ c ≤ maxLen ∧ BytesAt w w.heap.size A l := by
  rcases h.2 with ⟨hv, h0⟩ | ⟨g, cap, cur, hv, _, hg, hn, hm, _⟩
  · exact ⟨none, 0, by rw [hv, h0], by omega, by decide, fun h => by omega⟩
  · refine ⟨_, cap, hv, hn, hm, fun _ => ⟨g, 0, rfl, (Array.getElem?_eq_some_iff.1 hg).1, fun j hj => ?_⟩⟩
    have := h.cells (g := g) (by rw [hv]; rfl) j (.int .u8 l[j].toNat) (by simp [u8s, hj])
    rwa [WideShapes.add_plain] at this
def Off (v : Value) (b : Nat) : Prop := v.ownBlock ≠ some b
theorem Off.nil (b : Nat) : Off (.slice none 0 0) b := by simp [Off, Value.ownBlock]
theorem own_below {w w' : World} {B : Nat} {v : Value} {l : List UInt8} (h : Own w B v l) (hb : Below w.heap.size w w') : Own w' B v l :=
  h.kept (row := none) ⟨hb.os, hb.tape, hb.output, hb.size, fun k hk _ => hb.block k hk⟩ (by cases v.ownBlock <;> simp)
theorem own_app {w : World} {B : Nat} {v : Value} {l : List UInt8} (hown : Own w B v l) (m : List UInt8) (A : Option Addr) (c : Nat) (hr : BytesAt w w.heap.size A m) (hm : l.length + m.length ≤ 100000000) (hB : B ≤ w.heap.size) :
    ∃ v' w', (Builtin.append_ #[154, 154] 154 #[v, .slice A m.length c]).run Tryz.prog w = .ok v' w' ∧ Own w' B v' (l ++ m) ∧ w.grownBy w' v.ownBlock ∧ (v'.ownBlock = v.ownBlock ∨ v'.ownBlock = some w.heap.size) := by
  obtain ⟨i0, hi, hz0, hz1, hz2⟩ := info_parts info5
  rcases Nat.eq_zero_or_pos m.length with h0 | h0
  · have hx := List.eq_nil_of_length_eq_zero h0
    subst hx
    obtain ⟨A', c', rfl, hn⟩ := hown.shape
    refine ⟨.slice A' l.length c', w, run_append_nothing (P := Tryz.prog) w 154 154 154 5 i0 Tryz.underlying154 hi A' l.length c' hn _ ?_, by simpa using hown, ?_, Or.inl rfl⟩
    · cases A with
      | none => exact Src.ofNil w Tryz.underlying154 c
      | some a => exact Src.ofSlice w Tryz.underlying154 a 0 c [] (by simp) (by intro j u h; simp at h) (by simp)
    · exact ⟨rfl, rfl, rfl, Nat.le_refl _, fun _ _ _ => rfl⟩
  · obtain ⟨b, off, rfl, -, -⟩ := hr h0
    obtain ⟨v', w', h1, h2, h3, -, h5⟩ := run_append_own_at (P := Tryz.prog) w B 154 154 5 i0 (.int .u8 0) 1 1 Tryz.underlying154 hi hz0 hz1 hz2 rfl (by decide) v l.length (u8s l) hown ⟨b, off, none⟩ m.length c (u8s m) (by rw [u8s_len]; omega) hr.cells (u8s_one m) (by unfold maxLen; omega) (by omega) hB
    refine ⟨v', w', h1, ?_, h3, h5⟩
    unfold Own
    rw [List.length_append, u8s_append]
    exact h2
theorem own_str {w : World} {B : Nat} {v : Value} {l : List UInt8} (hown : Own w B v l) (s : ByteArray) (hm : l.length + s.size ≤ 100000000) (hB : B ≤ w.heap.size) :
    ∃ v' w', (Builtin.append_ #[154, 9] 154 #[v, .string s]).run Tryz.prog w = .ok v' w' ∧ Own w' B v' (l ++ s.data.toList) ∧ w.grownBy w' v.ownBlock ∧ (v'.ownBlock = v.ownBlock ∨ v'.ownBlock = some w.heap.size) := by
  obtain ⟨i0, hi, hz0, hz1, hz2⟩ := info_parts info5
  obtain ⟨v', w', h1, h2, h3, h4⟩ := Lib.run_append_own_string (P := Tryz.prog) w B 154 9 154 5 i0 Tryz.underlying154 Tryz.underlying9 hi hz0 hz1 hz2 v l.length (u8s l) hown s (by unfold maxLen; omega) (by omega) hB
  refine ⟨v', w', h1, ?_, h3, ?_⟩
  · unfold Own
    rw [List.length_append, u8s_append, ← u8s_str]
    have e : s.data.toList.length = s.size := by simp
    rw [e]
    exact h2
  · rcases hown.2 with ⟨hv, h0⟩ | ⟨g, cap, cur, hv, _, hg, hn, hm2, hcs, htk⟩
    · subst hv
      rcases Nat.eq_zero_or_pos s.size with hs | hs
      · rw [h4.2 ⟨rfl, hs⟩]; exact Or.inl rfl
      · rw [run_append_nil_string (P := Tryz.prog) w 154 9 154 5 i0 _ Tryz.underlying154 Tryz.underlying9 hi hz0 s hs (by omega) (by rw [hz2]; omega)] at h1
        simp only [Result.ok.injEq] at h1
        rw [← h1.1]
        exact Or.inr rfl
    · subst hv
      by_cases hroom : l.length + s.size ≤ cap
      · rw [Lib.run_append_room_string (P := Tryz.prog) w 154 9 154 5 i0 Tryz.underlying154 Tryz.underlying9 hi hz1 g l.length cap cur hg s hroom (by omega)] at h1
        simp only [Result.ok.injEq] at h1
        rw [← h1.1]
        exact Or.inl rfl
      · rw [Lib.run_append_grow_string (P := Tryz.prog) w 154 9 154 5 i0 _ Tryz.underlying154 Tryz.underlying9 hi hz0 ⟨g, 0, none⟩ l.length cap (u8s l) (by rw [u8s_len, hz1]; omega) (hown.cells rfl) s (by omega) (by omega) (growslice_fits (by omega) (by rw [hz2]; omega))] at h1
        simp only [Result.ok.injEq] at h1
        rw [← h1.1]
        exact Or.inr rfl
theorem cell_in {w : World} {b o : Nat} {v : Value} (h : w.cell? ⟨b, o, none⟩ = some v) : b < w.heap.size := by
  rcases Nat.lt_or_ge b w.heap.size with h' | h'
  · exact h'
  · simp [World.cell?, Array.getElem?_eq_none h'] at h
theorem conv_at {w : World} {B : Nat} {A : Option Addr} {c : Nat} {l : List UInt8} (hr : BytesAt w B A l) : (convert 154 9 (.slice A l.length c)).run Tryz.prog w = .ok (.string (str l)) w := by
  rcases Nat.eq_zero_or_pos l.length with h0 | h0
  · have := List.eq_nil_of_length_eq_zero h0
    subst this
    cases A with
    | none =>
      rw [run_convert_bytes_string w 154 9 5 _ _ _ Tryz.underlying154 Tryz.underlying5 Tryz.underlying9]
      simp [Conv.bytesToString]
      rfl
    | some a => exact run_convert_bytes_back w 154 9 5 a c [] Tryz.underlying154 Tryz.underlying5 Tryz.underlying9 (fun j hj => by simp at hj)
  · obtain ⟨b, off, rfl, -, hc⟩ := hr h0
    exact run_convert_bytes_back w 154 9 5 ⟨b, off, none⟩ c l Tryz.underlying154 Tryz.underlying5 Tryz.underlying9 (fun j hj => by rw [WideShapes.add_plain]; exact hc j hj)
theorem fresh_at {B : Nat} {w : World} {v : Value} {l : List UInt8} (h : Lib.FreshBytes B w v l) (h0 : 0 < l.length) : ∃ g c, v = .slice (some ⟨g, 0, none⟩) l.length c ∧ BytesAt w w.heap.size (some ⟨g, 0, none⟩) l := by
  obtain ⟨g, cap, zs, rfl, -, hlc, -, hz, hzs, hb, hc, -⟩ := h
  refine ⟨g, cap, rfl, fun _ => ⟨g, 0, rfl, cell_in (hc 0 (by omega)), fun j hj => ?_⟩⟩
  rw [Nat.zero_add, hc j (by omega)]
  have hj2 : j < zs.length := by omega
  have e : l[j] = UInt8.ofNat (Int.toNat zs[j]) := by
    have := congrArg (fun m => m[j]?) hb
    simp only [Lib.bytesOf] at this
    rw [List.getElem?_map, List.getElem?_take_of_lt hj, List.getElem?_eq_getElem hj2, List.getElem?_eq_getElem hj] at this
    simp at this
    rw [← this]
  have hr := hzs zs[j] (List.getElem_mem hj2)
  rw [e]
  have : zs.getD j 0 = zs[j] := by simp [hj2]
  rw [this]
  congr 2
  simp
  omega
end Go.Proofs.YtcmbdghbicjljaaGreatDoor
namespace Go.Proofs.YtcmbdghbicjljaaGreatDoor
open Go.RowKit
theorem bytes_below (w : World) (s : ByteArray) : Below w.heap.size w (Lib.bytesWorld w 5 s) := ⟨rfl, rfl, rfl, by rw [Lib.bytesWorld_size]; omega, fun j hj => Lib.bytesWorld_at_old w 5 s j hj⟩
theorem bytes_made (w : World) (s : ByteArray) : Lib.Bytes (Lib.bytesWorld w 5 s) w.heap.size 0 s := fun i hi => by
  rw [Nat.zero_add, Lib.bytesWorld_cell w 5 s i hi]
  congr 2
  rw [List.getD_eq_getElem?_getD, List.getElem?_eq_getElem (by rw [size_list]; exact hi)]
  simp
  rfl
theorem isWch_ascii {c : UInt8} (h : isWch c = true) : c.toNat < 128 := by
  unfold isWch at h
  rw [isLet_eq, isDig_eq, ← Bool.decide_or, decide_eq_true_iff] at h
  omega
theorem lowerB_low (c : UInt8) : Lib.lowerB c = low c := by
  unfold Lib.lowerB low
  first
  | rfl
  | (simp only [UInt8.le_iff_toNat_le]; rfl)
theorem toLowerA_low (l : List UInt8) : Lib.toLowerA l = l.map low := by
  unfold Lib.toLowerA
  exact List.map_congr_left fun c _ => lowerB_low c
theorem take_word (s : ByteArray) : (s.extract 0 (wLen s.data.toList)).data.toList = s.data.toList.take (wLen s.data.toList) := ext_begin s _
theorem word_ascii (s : ByteArray) : ∀ (j : Nat) (x : UInt8), (s.extract 0 (wLen s.data.toList)).data.toList[j]? = some x → x.toNat < 128 := fun j x h => by
  rw [take_word] at h
  have hx : x ∈ s.data.toList.takeWhile isWch := by
    have := List.mem_of_getElem? h
    rwa [wLen, ← List.prefix_iff_eq_take.1 (List.takeWhile_prefix _)] at this
  have := List.all_takeWhile (p := isWch) (l := s.data.toList)
  rw [List.all_eq_true] at this
  exact isWch_ascii (this x hx)
def wordO (l : List UInt8) : Option Tk := if wLen l ≤ 32 then some ⟨1, (l.take (wLen l)).map low, 0, wLen l⟩ else none
set_option maxRecDepth 100000 in
set_option maxHeartbeats 1000000 in
theorem word_any (s : ByteArray) (w : World) (hs : s.size ≤ 140737488355328) (h0 : 0 < wLen s.data.toList) : Calls Tryz.prog 126 #[.string s] w fun e w' => e = .returned (tup (wordO s.data.toList)) ∧ Below w.heap.size w w' := by
  have HS := Lib.hid (fun w => spanW s w hs)
  have hml : wLen s.data.toList ≤ s.size := by rw [← size_list]; exact tw_le _ _
  have HA := Lib.hid (word_ascii s)
  have HT := Lib.hid (take_word s)
  obtain ⟨m, hm⟩ : ∃ m, m = wLen s.data.toList := ⟨_, rfl⟩
  have HS : Hid (∀ w, Calls Tryz.prog 164 #[.string s, .func (.func 165) #[] #[]] w fun e w' => e = .returned (.int .i64 m) ∧ w' = w) := by rw [hm]; exact HS.out
  have HO : Hid (tup (wordO s.data.toList) = if m ≤ 32 then .tuple #[.agg #[.int .i64 1, .string (str ((s.data.toList.take m).map low)), .int .i64 0, .int .i64 0], .int .i64 m] else .tuple #[.agg #[.int .i64 0, .string ⟨#[]⟩, .int .i64 0, .int .i64 0], .int .i64 0]) := by
    show _ = _
    unfold wordO
    rw [← hm]
    split <;> rfl
  rw [← hm] at HA HT h0 hml
  rw [HO.out]
  clear HO hm
  obtain ⟨bs, hbs⟩ : ∃ bs, bs = (s.data.toList.take m).map low := ⟨_, rfl⟩
  rw [← hbs]
  have HBS := Lib.hid hbs
  have hlen : bs.length = m := by rw [hbs, ← HT.out, List.length_map, size_list, ByteArray.size_extract]; omega
  have HLEN := Lib.hid hlen
  clear hbs hlen
  have bz := zbox w
  have hb0 := (Below.refl w.heap.size w).alloc (Nat.le_refl _) (.cells #[.int .i64 0, .string ⟨#[]⟩, .int .i64 0, .int .i64 0] 128)
  by_cases h32 : m ≤ 32
  · rw [if_pos h32]
    go_enter Tryz.func126, Tryz.ntmps126
    go_wp2_with fail
    refine (HS.out _).mono ?_
    rintro e w1 ⟨rfl, rfl⟩
    obtain ⟨c0, c1, c2, c3⟩ := bz.zcells
    obtain ⟨f0, f1, f2, f3⟩ := bz.free
    have hsz : (w.alloc (.cells #[.int .i64 0, .string ⟨#[]⟩, .int .i64 0, .int .i64 0] 128)).heap.size = w.heap.size + 1 := by simp
    have hex : (s.extract 0 m).size = m := by simp; omega
    clear c0 c1 c2 c3 f0 f1 f2 f3
    generalize w.alloc (.cells #[.int .i64 0, .string ⟨#[]⟩, .int .i64 0, .int .i64 0] 128) = W1 at *
    have hc := Lib.run_convert_string_bytes W1 9 154 5 (s.extract 0 m) Tryz.underlying9 Tryz.underlying154 Tryz.underlying5
    have hbb := bytes_below W1 (s.extract 0 m)
    have hbm := Lib.hid (bytes_made W1 (s.extract 0 m))
    have HL := Lib.hid (fun c => Tryz.bytes_ToLower_ascii W1.heap.size 0 c (s.extract 0 m) _ hbm.out (by omega) (by omega) HA.out)
    rw [hex] at hc HL
    rw [hsz] at HL
    go_wp2_with fail
    clear hc
    generalize Lib.bytesWorld W1 5 (s.extract 0 m) = W2 at *
    refine (HL.out _).mono ?_
    rintro e w3 ⟨v', rfl, hf, b3⟩
    rw [toLowerA_low, HT.out, ← HBS.out] at hf
    obtain ⟨g, cp, hv, hy⟩ := fresh_at hf (by rw [HLEN.out]; exact h0)
    have hk := conv_at (c := cp) hy
    rw [HLEN.out] at hv hk
    subst hv
    clear hf hy
    have B3 := hb0.trans ((hbb.trans (b3.mono hbb.size)).mono (by omega))
    have bz3 := (bz.later hbb).later b3
    obtain ⟨c0, c1, c2, c3⟩ := bz3.zcells
    obtain ⟨f0, f1, f2, f3⟩ := bz3.free
    go_wp2_with fail
    exact bodyPost_ret (v := .tuple #[.agg #[.int .i64 1, .string (str bs), .int .i64 0, .int .i64 0], .int .i64 m]) (by simp [results, Tryz.results126, go_sem, c0, c1, c2, c3]) rfl ⟨rfl, Below.set4 B3 (Nat.le_refl _) _ _ _ _⟩
  · rw [if_neg h32]
    go_enter Tryz.func126, Tryz.ntmps126
    go_wp2_with fail
    refine (HS.out _).mono ?_
    rintro e w1 ⟨rfl, rfl⟩
    obtain ⟨c0, c1, c2, c3⟩ := bz.zcells
    obtain ⟨f0, f1, f2, f3⟩ := bz.free
    have hsz : (w.alloc (.cells #[.int .i64 0, .string ⟨#[]⟩, .int .i64 0, .int .i64 0] 128)).heap.size = w.heap.size + 1 := by simp
    generalize w.alloc (.cells #[.int .i64 0, .string ⟨#[]⟩, .int .i64 0, .int .i64 0] 128) = W1 at *
    go_wp2_with fail
    exact bodyPost_ret (v := .tuple #[.agg #[.int .i64 0, .string ⟨#[]⟩, .int .i64 0, .int .i64 0], .int .i64 0]) (by simp [results, Tryz.results126, go_sem, c0, c1, c2, c3]) rfl ⟨rfl, Below.set4 hb0 (Nat.le_refl _) _ _ _ _⟩
end Go.Proofs.YtcmbdghbicjljaaGreatDoor
namespace Go.Proofs.YtcmbdghbicjljaaGreatDoor
open Go.RowKit
def sigV : Array Value := #[.string ⟨#[60, 62]⟩, .string ⟨#[60, 61]⟩, .string ⟨#[62, 61]⟩, .string ⟨#[33, 61]⟩, .string ⟨#[124, 124]⟩, .string ⟨#[61]⟩, .string ⟨#[60]⟩, .string ⟨#[62]⟩, .string ⟨#[43]⟩, .string ⟨#[45]⟩, .string ⟨#[42]⟩, .string ⟨#[47]⟩, .string ⟨#[37]⟩, .string ⟨#[40]⟩, .string ⟨#[41]⟩, .string ⟨#[44]⟩, .string ⟨#[46]⟩, .string ⟨#[59]⟩]
structure Env (w : World) : Prop where
  size : 3 + 1 ≤ w.heap.size
  sg : ∃ tt fr, w.heap[0]? = some (.cells sigV tt fr)
  syn : ∃ ev, w.cell? ⟨2, 0, none⟩ = some ev ∧ (ev = .nilIface ∨ ∃ te pe, ev = .iface te pe)
  rng : ∃ ev, w.cell? ⟨3, 0, none⟩ = some ev ∧ (ev = .nilIface ∨ ∃ te pe, ev = .iface te pe)
theorem Env.later {w w' : World} (h : Env w) (hb : Below w.heap.size w w') : Env w' := by
  have h4 := h.size
  refine ⟨Nat.le_trans h4 hb.size, ?_, ?_, ?_⟩
  · obtain ⟨tt, fr, h1⟩ := h.sg
    exact ⟨tt, fr, (hb.block 0 (by omega)).trans h1⟩
  · obtain ⟨ev, h1, h2⟩ := h.syn
    exact ⟨ev, (hb.cell (p := ⟨2, 0, none⟩) (by show 2 < _; omega)).trans h1, h2⟩
  · obtain ⟨ev, h1, h2⟩ := h.rng
    exact ⟨ev, (hb.cell (p := ⟨3, 0, none⟩) (by show 3 < _; omega)).trans h1, h2⟩
theorem wrap_i64 {u : Nat} (h : u < 18446744073709551616) : IntKind.i64.wrap (u : Int) = i64Of u := by
  unfold i64Of
  rw [IntKind.wrap_i64]
  split <;> omega
end Go.Proofs.YtcmbdghbicjljaaGreatDoor
namespace Go.Proofs.YtcmbdghbicjljaaGreatDoor
open Go.RowKit
def hx (c d : UInt8) : Nat → Option Nat
  | 0 => some 0
  | 1 => hexV c
  | _ => (hexV c).bind fun h => (hexV d).map fun g => 16 * h + g
def sx (c d : UInt8) : Nat → UInt8
  | 0 => c
  | _ => d
end Go.Proofs.YtcmbdghbicjljaaGreatDoor
namespace Go.Proofs.YtcmbdghbicjljaaGreatDoor
open Go.RowKit
end Go.Proofs.YtcmbdghbicjljaaGreatDoor
namespace Go.Proofs.YtcmbdghbicjljaaGreatDoor
open Go.RowKit
structure Wrote (w : World) (B : Nat) (v v' : Value) (l' : List UInt8) (w' : World) : Prop where
  own : Own w' B v' l'
  grown : w.grownBy w' v.ownBlock
  far : v'.ownBlock = v.ownBlock ∨ ∃ g, v'.ownBlock = some g ∧ w.heap.size ≤ g
theorem Wrote.refl {w : World} {B : Nat} {v : Value} {l : List UInt8} (h : Own w B v l) : Wrote w B v v l w := ⟨h, ⟨rfl, rfl, rfl, Nat.le_refl _, fun _ _ _ => rfl⟩, Or.inl rfl⟩
theorem Wrote.size {w w' : World} {B : Nat} {v v' : Value} {l' : List UInt8} (h : Wrote w B v v' l' w') : w.heap.size ≤ w'.heap.size := h.grown.size
theorem Wrote.trans {w w1 w2 : World} {B : Nat} {v v1 v2 : Value} {l1 l2 : List UInt8} (h : Wrote w B v v1 l1 w1) (k : Wrote w1 B v1 v2 l2 w2) : Wrote w B v v2 l2 w2 := by
  refine ⟨k.own, ⟨k.grown.os.trans h.grown.os, k.grown.tape.trans h.grown.tape, k.grown.output.trans h.grown.output, Nat.le_trans h.size k.size, fun j hj hne => ?_⟩, ?_⟩
  · refine (k.grown.block j (Nat.lt_of_lt_of_le hj h.size) ?_).trans (h.grown.block j hj hne)
    rcases h.far with e | ⟨g, e, hg⟩
    · rwa [e]
    · rw [e]
      intro e2
      have := Option.some.inj e2
      omega
  · rcases k.far with e | ⟨g, e, hg⟩
    · rw [e]
      exact h.far
    · exact Or.inr ⟨g, e, Nat.le_trans h.size hg⟩
theorem Wrote.call {w w1 w2 : World} {B : Nat} {v v1 : Value} {l1 : List UInt8} (h : Wrote w B v v1 l1 w1) (hb : Below w1.heap.size w1 w2) : Wrote w B v v1 l1 w2 :=
  h.trans ⟨own_below h.own hb, ⟨hb.os, hb.tape, hb.output, hb.size, fun k hk _ => hb.block k hk⟩, Or.inl rfl⟩
theorem Wrote.alloc {w w1 : World} {B : Nat} {v v1 : Value} {l1 : List UInt8} (h : Wrote w B v v1 l1 w1) (o : Obj) : Wrote w B v v1 l1 (w1.alloc o) := h.call ((Below.refl _ _).alloc (Nat.le_refl _) o)
theorem Wrote.drew {w w1 : World} {B : Nat} {v v1 : Value} {l1 : List UInt8} (h : Wrote w B v v1 l1 w1) : Wrote w B v v1 l1 w1.drew := h.call ((Below.refl _ _).drew)
theorem Wrote.below {w w' : World} {B : Nat} {v v' : Value} {l l' : List UInt8} (h : Wrote w B v v' l' w') (h0 : Own w B v l) (hB : B ≤ w.heap.size) : Below B w w' :=
  (Below.refl B w).grown h.grown hB (fun k hk => (h0.lt k hk).1)
theorem Wrote.block {w w' : World} {B b : Nat} {v v' : Value} {l' : List UInt8} (h : Wrote w B v v' l' w') (hb : b < w.heap.size) (hne : v.ownBlock ≠ some b) : w'.heap[b]? = w.heap[b]? :=
  h.grown.block b hb (fun e => hne e.symm)
theorem Wrote.app {w w1 : World} {B : Nat} {v v1 : Value} {l1 : List UInt8} (h : Wrote w B v v1 l1 w1) (m : List UInt8) (A : Option Addr) (c : Nat) (hr : BytesAt w1 w1.heap.size A m) (hm : l1.length + m.length ≤ 100000000) (hB : B ≤ w.heap.size) :
    ∃ v' w', (Builtin.append_ #[154, 154] 154 #[v1, .slice A m.length c]).run Tryz.prog w1 = .ok v' w' ∧ Wrote w B v v' (l1 ++ m) w' := by
  obtain ⟨v', w', h1, h2, h3, h4⟩ := own_app h.own m A c hr hm (Nat.le_trans hB h.size)
  refine ⟨v', w', h1, h.trans ⟨h2, h3, ?_⟩⟩
  rcases h4 with e | e
  · exact Or.inl e
  · exact Or.inr ⟨_, e, Nat.le_refl _⟩
theorem Wrote.str {w w1 : World} {B : Nat} {v v1 : Value} {l1 : List UInt8} (h : Wrote w B v v1 l1 w1) (s : ByteArray) (hm : l1.length + s.size ≤ 100000000) (hB : B ≤ w.heap.size) :
    ∃ v' w', (Builtin.append_ #[154, 9] 154 #[v1, .string s]).run Tryz.prog w1 = .ok v' w' ∧ Wrote w B v v' (l1 ++ s.data.toList) w' := by
  obtain ⟨v', w', h1, h2, h3, h4⟩ := own_str h.own s hm (Nat.le_trans hB h.size)
  refine ⟨v', w', h1, h.trans ⟨h2, h3, ?_⟩⟩
  rcases h4 with e | e
  · exact Or.inl e
  · exact Or.inr ⟨_, e, Nat.le_refl _⟩
theorem laid_at (w : World) (l : List UInt8) (cs : Array Value) (T : TypeId) (hcs : cs = (u8s l).toArray) : BytesAt (w.alloc (.cells cs T)) (w.alloc (.cells cs T)).heap.size (some ⟨w.heap.size, 0, none⟩) l := fun _ => by
  refine ⟨w.heap.size, 0, rfl, by simp, fun j hj => ?_⟩
  have hn : (w.alloc (.cells cs T)).heap[w.heap.size]? = some (.cells cs T (0, 0)) := heap_alloc_new w _
  rw [Lib.cell_of_heap hn, hcs]
  simp [u8s, hj]
theorem Wrote.one {w w1 : World} {B : Nat} {v v1 : Value} {l1 : List UInt8} (h : Wrote w B v v1 l1 w1) (x : UInt8) (hm : l1.length ≤ 50000000) (hB : B ≤ w.heap.size) :
    ∃ v' w', (Builtin.append_ #[154, 154] 154 #[v1, .slice (some ⟨w1.heap.size, 0, none⟩) 1 1]).run Tryz.prog (w1.alloc (.cells #[.int .u8 x.toNat] 5)) = .ok v' w' ∧ Wrote w B v v' (l1 ++ [x]) w' :=
  (h.alloc (.cells #[.int .u8 x.toNat] 5)).app [x] _ 1 (laid_at w1 [x] _ 5 rfl) (by simp; omega) hB
theorem Wrote.two {w w1 : World} {B : Nat} {v v1 : Value} {l1 : List UInt8} (h : Wrote w B v v1 l1 w1) (x y : UInt8) (hm : l1.length ≤ 50000000) (hB : B ≤ w.heap.size) :
    ∃ v' w', (Builtin.append_ #[154, 154] 154 #[v1, .slice (some ⟨w1.heap.size, 0, none⟩) 2 2]).run Tryz.prog (w1.alloc (.cells #[.int .u8 x.toNat, .int .u8 y.toNat] 5)) = .ok v' w' ∧ Wrote w B v v' (l1 ++ [x, y]) w' :=
  (h.alloc (.cells #[.int .u8 x.toNat, .int .u8 y.toNat] 5)).app [x, y] _ 2 (laid_at w1 [x, y] _ 5 rfl) (by simp; omega) hB
end Go.Proofs.YtcmbdghbicjljaaGreatDoor
namespace Go.Proofs.YtcmbdghbicjljaaGreatDoor
open Go.RowKit
theorem BytesAt.set {w : World} {B g : Nat} {l : List UInt8} (h : BytesAt w B (some ⟨g, 0, none⟩) l) (k : Nat) (hk : k < l.length) (x : UInt8) : BytesAt (w.setCell ⟨g, k, none⟩ (.int .u8 x.toNat)) B (some ⟨g, 0, none⟩) (l.set k x) := fun _ => by
  obtain ⟨b, off, hA, hlt, hc⟩ := h (by omega)
  simp at hA
  obtain ⟨rfl, rfl⟩ := hA
  refine ⟨g, 0, rfl, hlt, fun j hj => ?_⟩
  rw [List.length_set] at hj
  have hj' := hc j hj
  rw [Nat.zero_add] at hj' ⊢
  by_cases e : j = k
  · subst e
    rw [World.cell?_setCell_same _ _ _ hj', List.getElem_set_self]
  · rw [World.cell?_setCell_other _ _ _ _ (by simp <;> omega), hj', List.getElem_set_ne (by omega)]
theorem TBox.set {w : World} {b g k : Nat} {t : T} (h : TBox w b t) (hg : b < g) (x : Value) : TBox (w.setCell ⟨g, k, none⟩ x) b t := by
  have hb : Below g w (w.setCell ⟨g, k, none⟩ x) := (Below.refl g w).setCell (Nat.le_refl _) _
  exact (hb.block b hg).trans h
def HexAt (l done : List UInt8) (k : Nat) : Prop := hexP l = (hexP (l.drop (2 * k))).map fun p => done ++ p
theorem HexAt.start (l : List UInt8) : HexAt l [] 0 := by
  unfold HexAt
  rw [Nat.mul_zero, List.drop_zero]
  cases hexP l <;> rfl
theorem pair_at {l : List UInt8} {k : Nat} (h : 2 * k + 1 < l.length) : l.drop (2 * k) = l[2 * k] :: l[2 * k + 1] :: l.drop (2 * (k + 1)) := by
  rw [List.drop_eq_getElem_cons (by omega), List.drop_eq_getElem_cons h]
  rfl
theorem hexP_hx (c d : UInt8) (r : List UInt8) : hexP (c :: d :: r) = (hx c d 2).bind fun v => (hexP r).map fun p => UInt8.ofNat v :: p := by
  simp only [hexP, hx]
  cases hexV c with
  | none => rfl
  | some a => cases hexV d <;> rfl
theorem HexAt.next {l done : List UInt8} {k v : Nat} (h : HexAt l done k) (hk : 2 * k + 1 < l.length) (e : hx l[2 * k] l[2 * k + 1] 2 = some v) : HexAt l (done ++ [UInt8.ofNat v]) (k + 1) := by
  unfold HexAt at *
  rw [h, pair_at hk, hexP_hx, e]
  cases hexP (l.drop (2 * (k + 1))) <;> simp
theorem HexAt.done {l done : List UInt8} {k : Nat} (h : HexAt l done k) (hk : l.length ≤ 2 * k) : hexP l = some done := by
  unfold HexAt at *
  rw [h, List.drop_eq_nil_of_le hk]
  simp [hexP]
end Go.Proofs.YtcmbdghbicjljaaGreatDoor
namespace Go.Proofs.YtcmbdghbicjljaaGreatDoor
open Go.RowKit
def t4 (t : T) : List Value := [.int .i64 t.k, .string (str t.s), .int .i64 t.i, .int .i64 t.p]
def flatT (ts : List T) : List Value := ts.flatMap t4
theorem flatT_len (ts : List T) : (flatT ts).length = ts.length * 4 := by
  induction ts with
  | nil => rfl
  | cons a l ih => show (t4 a ++ flatT l).length = _; rw [List.length_append, ih]; simp [t4]; omega
theorem flatT_get (ts : List T) (j t : Nat) (hj : j < ts.length) (ht : t < 4) : (flatT ts)[j * 4 + t]? = (t4 ts[j])[t]? := by
  induction ts generalizing j with
  | nil => simp at hj
  | cons a l ih =>
    show (t4 a ++ flatT l)[j * 4 + t]? = _
    cases j with
    | zero =>
      rw [List.getElem?_append_left (by simp [t4]; omega)]
      simp
    | succ j =>
      rw [List.getElem?_append_right (by simp [t4]; omega)]
      rw [show (j + 1) * 4 + t - (t4 a).length = j * 4 + t by simp [t4]; omega, ih j (by simpa using hj)]
      simp
def TAt (w : World) (B : Nat) (A : Option Addr) (ts : List T) : Prop := 0 < ts.length → ∃ b off, A = some ⟨b, off, none⟩ ∧ b < B ∧ ∀ j (h : j < ts.length), w.cell? ⟨b, off + j * 4, none⟩ = some (.int .i64 ts[j].k) ∧ w.cell? ⟨b, off + j * 4 + 1, none⟩ = some (.string (str ts[j].s)) ∧ w.cell? ⟨b, off + j * 4 + 2, none⟩ = some (.int .i64 ts[j].i) ∧ w.cell? ⟨b, off + j * 4 + 3, none⟩ = some (.int .i64 ts[j].p)
theorem TAt.below {w w' : World} {B : Nat} {A : Option Addr} {ts : List T} (h : TAt w B A ts) (hb : Below B w w') : TAt w' B A ts := fun h0 => by
  obtain ⟨b, off, hA, hlt, hc⟩ := h h0
  refine ⟨b, off, hA, hlt, fun j hj => ?_⟩
  obtain ⟨c0, c1, c2, c3⟩ := hc j hj
  exact ⟨(hb.cell (p := ⟨b, _, none⟩) hlt).trans c0, (hb.cell (p := ⟨b, _, none⟩) hlt).trans c1, (hb.cell (p := ⟨b, _, none⟩) hlt).trans c2, (hb.cell (p := ⟨b, _, none⟩) hlt).trans c3⟩
theorem TAt.mono {w : World} {B B' : Nat} {A : Option Addr} {ts : List T} (h : TAt w B A ts) (hB : B ≤ B') : TAt w B' A ts := fun h0 => by
  obtain ⟨b, off, hA, hlt, hc⟩ := h h0
  exact ⟨b, off, hA, by omega, hc⟩
theorem TAt.later {w w' : World} {A : Option Addr} {ts : List T} (h : TAt w w.heap.size A ts) (hb : Below w.heap.size w w') : TAt w' w'.heap.size A ts := (h.below hb).mono hb.size
theorem TAt.nil (w : World) (B : Nat) (A : Option Addr) : TAt w B A [] := fun h => by simp at h
theorem TAt.flat {w : World} {B : Nat} {b off : Nat} {ts : List T} (h : TAt w B (some ⟨b, off, none⟩) ts) : ∀ j u, (flatT ts)[j]? = some u → w.cell? ((⟨b, off, none⟩ : Addr).add j) = some u := by
  intro j u hu
  have hl : j < ts.length * 4 := by
    have := (List.getElem?_eq_some_iff.1 hu).1
    rwa [flatT_len] at this
  obtain ⟨b', off', hA, hlt, hc⟩ := h (by omega)
  simp at hA
  obtain ⟨rfl, rfl⟩ := hA
  have hq : j / 4 < ts.length := by omega
  obtain ⟨h0, h1, h2, h3⟩ := hc (j / 4) hq
  rw [show j = j / 4 * 4 + j % 4 by omega, flatT_get ts (j / 4) (j % 4) hq (by omega)] at hu
  rw [WideShapes.add_plain]
  have h4 : j % 4 = 0 ∨ j % 4 = 1 ∨ j % 4 = 2 ∨ j % 4 = 3 := by omega
  rcases h4 with h4 | h4 | h4 | h4
  · rw [h4] at hu
    simp [t4] at hu
    rw [← hu, show off + j = off + j / 4 * 4 by omega]; exact h0
  · rw [h4] at hu
    simp [t4] at hu
    rw [← hu, show off + j = off + j / 4 * 4 + 1 by omega]; exact h1
  · rw [h4] at hu
    simp [t4] at hu
    rw [← hu, show off + j = off + j / 4 * 4 + 2 by omega]; exact h2
  · rw [h4] at hu
    simp [t4] at hu
    rw [← hu, show off + j = off + j / 4 * 4 + 3 by omega]; exact h3
theorem TAt.of_flat {w : World} {g : Nat} {ts : List T} (h : ∀ j u, (flatT ts)[j]? = some u → w.cell? ((⟨g, 0, none⟩ : Addr).add j) = some u) (hg : g < w.heap.size) : TAt w w.heap.size (some ⟨g, 0, none⟩) ts := fun _ => by
  refine ⟨g, 0, rfl, hg, fun j hj => ?_⟩
  have e0 := h (j * 4 + 0) _ (flatT_get ts j 0 hj (by omega))
  have e1 := h (j * 4 + 1) _ (flatT_get ts j 1 hj (by omega))
  have e2 := h (j * 4 + 2) _ (flatT_get ts j 2 hj (by omega))
  have e3 := h (j * 4 + 3) _ (flatT_get ts j 3 hj (by omega))
  rw [WideShapes.add_plain] at e0 e1 e2 e3
  exact ⟨e0, e1, e2, e3⟩
def OwnT (w : World) (B : Nat) (v : Value) (ts : List T) : Prop := w.ownsRow B 128 4 v ts.length (flatT ts)
theorem OwnT.nil (w : World) (B : Nat) : OwnT w B (.slice none 0 0) [] := World.ownsRow_nil w B 128 4
theorem OwnT.row {w : World} {B : Nat} {v : Value} {ts : List T} (h : OwnT w B v ts) : ∃ A c, v = .slice A ts.length c ∧ ts.length ≤ c ∧ c ≤ maxLen ∧ TAt w w.heap.size A ts := by
  rcases h.2 with ⟨hv, h0⟩ | ⟨g, cap, cur, hv, _, hg, hn, hm, _⟩
  · exact ⟨none, 0, by rw [hv, h0], by omega, by decide, fun h => by omega⟩
  · exact ⟨_, cap, hv, hn, hm, TAt.of_flat (h.cells (g := g) (by rw [hv]; rfl)) (Array.getElem?_eq_some_iff.1 hg).1⟩
theorem OwnT.later {w w' : World} {B : Nat} {v : Value} {ts : List T} (h : OwnT w B v ts) (hb : Below w.heap.size w w') : OwnT w' B v ts :=
  h.kept (row := none) ⟨hb.os, hb.tape, hb.output, hb.size, fun k hk _ => hb.block k hk⟩ (by cases v.ownBlock <;> simp)
end Go.Proofs.YtcmbdghbicjljaaGreatDoor
namespace Go.Proofs.YtcmbdghbicjljaaGreatDoor
open Go.RowKit
theorem res_yes {s : ByteArray} (l : List UInt8) (hl : resB l = true) (h : (s.toList == l) = true) : resB s.data.toList = true := by
  rw [beq_iff_eq, Lib.toList_data] at h
  rw [h]
  exact hl
set_option maxRecDepth 100000 in
set_option maxHeartbeats 8000000 in
theorem reserved_any (s : ByteArray) (w : World) : Calls Tryz.prog 127 #[.string s] w fun e w' => e = .returned (.bool (resB s.data.toList)) ∧ w' = w := by
  go_enter Tryz.func127, Tryz.ntmps127
  go_wp2_with fail
  all_goals first
    | (rename_i h h'; exact absurd (h.symm.trans h') (by decide))
    | (go_ret; refine ⟨ret_bool (res_yes _ ?_ (by assumption)).symm, rfl⟩; rfl)
    | (go_ret; refine ⟨ret_bool ?_, rfl⟩; rw [← Lib.toList_data]; simp only [resB, resL, List.contains_cons, List.contains_nil, *, Bool.or_false])
end Go.Proofs.YtcmbdghbicjljaaGreatDoor
