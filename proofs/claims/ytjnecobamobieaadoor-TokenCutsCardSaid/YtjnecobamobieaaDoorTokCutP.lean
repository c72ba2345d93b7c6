/- Plain facts on the cutting of a statement, from place to place. Contract of token's beginsBlob. No condition. -/
import Derived.Test.YtjnecobamobieaaDoorTokRow
import Derived.Test.YtjnecobamobieaaDoorTokSign
import Derived.Test.YtjnecobamobieaaDoorTokText
namespace Go.Proofs.YtjnecobamobieaaDoor
open Go.RowKit
def bgB (l : List UInt8) : Bool := [120, 39].isPrefixOf l || [88, 39].isPrefixOf l
set_option maxRecDepth 100000 in
set_option maxHeartbeats 1000000 in
theorem beginsBlob_any (s : ByteArray) (w : World) : Calls Tryd.prog 20 #[.string s] w fun e w' => e = .returned (.bool (bgB s.data.toList)) ∧ w' = w := by
  have h1 := Tryd.strings_HasPrefix s ⟨#[120, 39]⟩ w
  have h2 := Tryd.strings_HasPrefix s ⟨#[88, 39]⟩ w
  have e1 : Lib.hasPrefix s.data.toList (⟨#[120, 39]⟩ : ByteArray).data.toList = [120, 39].isPrefixOf s.data.toList := rfl
  have e2 : Lib.hasPrefix s.data.toList (⟨#[88, 39]⟩ : ByteArray).data.toList = [88, 39].isPrefixOf s.data.toList := rfl
  rw [e1] at h1
  rw [e2] at h2
  unfold bgB
  generalize [120, 39].isPrefixOf s.data.toList = a at *
  generalize [88, 39].isPrefixOf s.data.toList = b at *
  cases a
  all_goals
    go_enter Tryd.func20, Tryd.ntmps20
    go_wp2_with (first | (go_at_call 17; first | (refine h1.mono ?_; rintro e w' ⟨rfl, rfl⟩) | (refine h2.mono ?_; rintro e w' ⟨rfl, rfl⟩)))
    go_ret
    exact ⟨rfl, rfl⟩
theorem bgB_iff (c : UInt8) (r : List UInt8) : bgB (c :: r) = true ↔ (c = 120 ∨ c = 88) ∧ r.head? = some 39 := by
  unfold bgB
  cases r with
  | nil => simp [List.isPrefixOf]
  | cons d r =>
    simp only [List.isPrefixOf, Bool.or_eq_true, Bool.and_eq_true, beq_iff_eq, Bool.and_true, List.head?_cons, Option.some.injEq]
    constructor
    · rintro (⟨h1, h2⟩ | ⟨h1, h2⟩)
      · exact ⟨Or.inl h1.symm, h2.symm⟩
      · exact ⟨Or.inr h1.symm, h2.symm⟩
    · rintro ⟨h1 | h1, h2⟩
      · exact Or.inl ⟨h1.symm, h2.symm⟩
      · exact Or.inr ⟨h1.symm, h2.symm⟩
theorem bgB_len {l : List UInt8} (h : bgB l = true) : 2 ≤ l.length := by
  match l with
  | [] => simp [bgB, List.isPrefixOf] at h
  | [c] => simp [bgB, List.isPrefixOf] at h
  | c :: d :: r => simp
theorem oneT_blob {c : UInt8} {r : List UInt8} (h : bgB (c :: r) = true) : oneT (c :: r) = blobO (c :: r) := by
  simp only [oneT]
  rw [if_pos ((bgB_iff c r).1 h)]
  unfold blobO
  rw [show (c :: r).drop 2 = r.tail by cases r <;> rfl]
theorem oneT_word {c : UInt8} {r : List UInt8} (h : bgB (c :: r) = false) (h2 : isLet c = true) : oneT (c :: r) = wordO (c :: r) := by
  simp only [oneT]
  rw [if_neg (fun hh => by rw [(bgB_iff c r).2 hh] at h; cases h), if_pos h2]
  rfl
theorem oneT_numO {c : UInt8} {r : List UInt8} (h : isDig c = true) : oneT (c :: r) = numO (c :: r) := oneT_num c r h
theorem oneT_text {c : UInt8} {r : List UInt8} (h : c = 39) : oneT (c :: r) = textO (c :: r) := by
  subst h
  simp only [oneT]
  rw [if_neg (by simp), if_neg (by decide), if_neg (by decide), if_pos trivial]
  rfl
theorem oneT_sign {c : UInt8} {r : List UInt8} (h : bgB (c :: r) = false) (h1 : isLet c = false) (h2 : isDig c = false) (h3 : c ≠ 39) : oneT (c :: r) = signO (c :: r) := by
  simp only [oneT]
  rw [if_neg (fun hh => by rw [(bgB_iff c r).2 hh] at h; cases h), if_neg (by simp [h1]), if_neg (by simp [h2]), if_neg h3]
  rfl
theorem wLen_pos {c : UInt8} {r : List UInt8} (h : isLet c = true) : 0 < wLen (c :: r) := by
  unfold wLen
  rw [List.takeWhile_cons_of_pos (by simp [isWch, h])]
  simp
theorem dgs_pos {c : UInt8} {r : List UInt8} (h : isDig c = true) : dgs (c :: r) ≠ [] := by
  unfold dgs
  rw [List.takeWhile_cons_of_pos h]
  simp
/-- Where the cutting stands: what was cut off, and the place. -/
def CutAt (l : List UInt8) (ts : List T) (k : Nat) : Prop := cutP 0 l = preE ts (cutP k (l.drop k))
theorem CutAt.start (l : List UInt8) : CutAt l [] 0 := by
  unfold CutAt
  rw [preE_nil, List.drop_zero]
theorem CutAt.past {l : List UInt8} {ts : List T} {k m : Nat} (h : CutAt l ts k) (hb : bl false (l.drop k) = m + bl false ((l.drop k).drop m)) : CutAt l ts (k + m) := by
  unfold CutAt at *
  rw [h, cut_past hb k, List.drop_drop]
theorem CutAt.ws {l : List UInt8} {ts : List T} {k : Nat} (h : CutAt l ts k) (hk : k < l.length) (hc : isWs l[k] = true) : CutAt l ts (k + 1) := by
  refine h.past ?_
  rw [List.drop_eq_getElem_cons hk, bl_ws hc]
  rfl
theorem dd_cons {q : List UInt8} (h : [45, 45].isPrefixOf q = true) : ∃ r, q = 45 :: 45 :: r := by
  obtain ⟨r, hr⟩ := List.isPrefixOf_iff_prefix.1 h
  exact ⟨r, hr.symm⟩
theorem CutAt.rem {l : List UInt8} {ts : List T} {k m : Nat} (h : CutAt l ts k) (hd : [45, 45].isPrefixOf (l.drop k) = true) (h1 : ∀ i, i < m → (l.drop k)[i]? ≠ some 10) (h2 : (l.drop k)[m]? = some 10) : CutAt l ts (k + m + 1) := by
  refine h.past (m := m + 1) ?_
  obtain ⟨r, hr⟩ := dd_cons hd
  rw [show bl false (l.drop k) = bl true (l.drop k) by rw [hr]; exact bl_dash r]
  exact bl_line _ _ h1 h2
theorem CutAt.end_ {l : List UInt8} {ts : List T} {k : Nat} (h : CutAt l ts k) (hk : k ≤ l.length) (hb : bl false (l.drop k) = (l.drop k).length) : cutP 0 l = .ok (ts ++ [⟨6, [], 0, l.length⟩]) := by
  unfold CutAt at h
  rw [h, cut_none k hb, List.length_drop, show k + (l.length - k) = l.length by omega]
  rfl
theorem CutAt.remEnd {l : List UInt8} {ts : List T} {k : Nat} (h : CutAt l ts k) (hk : k ≤ l.length) (hd : [45, 45].isPrefixOf (l.drop k) = true) (h1 : ∀ i : Nat, (l.drop k)[i]? ≠ some 10) : cutP 0 l = .ok (ts ++ [⟨6, [], 0, l.length⟩]) := by
  refine h.end_ hk ?_
  obtain ⟨r, hr⟩ := dd_cons hd
  rw [show bl false (l.drop k) = bl true (l.drop k) by rw [hr]; exact bl_dash r]
  exact bl_noline _ h1
theorem CutAt.stop {l : List UInt8} {ts : List T} {k : Nat} (h : CutAt l ts k) (hk : k = l.length) : cutP 0 l = .ok (ts ++ [⟨6, [], 0, l.length⟩]) := by
  refine h.end_ (by omega) ?_
  rw [List.drop_eq_nil_of_le (by omega)]
  rfl
theorem no_blank {l : List UInt8} {k : Nat} (hk : k < l.length) (hw : isWs l[k] = false) (hd : [45, 45].isPrefixOf (l.drop k) = false) : bl false (l.drop k) = 0 := by
  rw [List.drop_eq_getElem_cons hk] at hd ⊢
  refine bl_none hw (fun h => ?_)
  cases hr : l.drop (k + 1) with
  | nil => rw [hr] at h; simp at h
  | cons d r =>
    rw [hr] at h hd
    obtain ⟨h1, h2⟩ := h
    rw [List.head?_cons] at h2
    rw [h1, Option.some.inj h2] at hd
    simp [List.isPrefixOf] at hd
theorem CutAt.tok {l : List UInt8} {ts : List T} {k : Nat} {t : Tk} (h : CutAt l ts k) (hk : k < l.length) (hb : bl false (l.drop k) = 0) (ho : oneT (l.drop k) = some t) : CutAt l (ts ++ [⟨t.k, t.s, t.i, k⟩]) (k + t.n) ∧ k + t.n ≤ l.length ∧ 0 < t.n := by
  have hn := oneT_len ho
  rw [List.length_drop] at hn
  refine ⟨?_, by omega, hn.1⟩
  unfold CutAt at *
  rw [h, cut_one (by intro h2; have := congrArg List.length h2; rw [List.length_drop] at this; simp at this; omega) hb ho k, preE_pre, List.drop_drop]
theorem CutAt.bad {l : List UInt8} {ts : List T} {k : Nat} (h : CutAt l ts k) (hk : k < l.length) (hb : bl false (l.drop k) = 0) (ho : oneT (l.drop k) = none) : cutP 0 l = .error k := by
  unfold CutAt at *
  rw [h, cut_bad (by intro h2; have := congrArg List.length h2; rw [List.length_drop] at this; simp at this; omega) hb ho k]
  rfl
/-- What Cut gives. -/
def Gives (w : World) (l : List UInt8) (e : Ending) (w' : World) : Prop := (match cutP 0 l with
  | .error q => e = .returned (.tuple #[.slice none 0 0, .int .i64 q, .int .i64 60])
  | .ok ts => ∃ A c, e = .returned (.tuple #[.slice A ts.length c, .int .i64 0, .int .i64 0]) ∧ ts.length ≤ c ∧ TAt w' w'.heap.size A ts) ∧ Below w.heap.size w w'
theorem Gives.bad {w w' : World} {l : List UInt8} {q : Nat} {e : Ending} (h : cutP 0 l = .error q) (he : e = .returned (.tuple #[.slice none 0 0, .int .i64 q, .int .i64 60])) (hb : Below w.heap.size w w') : Gives w l e w' := by
  unfold Gives
  rw [h]
  exact ⟨he, hb⟩
theorem Gives.good {w w' : World} {l : List UInt8} {ts : List T} {v : Value} {e : Ending} (h : cutP 0 l = .ok ts) (he : e = .returned (.tuple #[v, .int .i64 0, .int .i64 0])) (ho : OwnT w' w.heap.size v ts) (hb : Below w.heap.size w w') : Gives w l e w' := by
  unfold Gives
  rw [h]
  obtain ⟨A, c, rfl, hc, -, ht⟩ := ho.row
  exact ⟨⟨A, c, he, hc, ht⟩, hb⟩
end Go.Proofs.YtjnecobamobieaaDoor
