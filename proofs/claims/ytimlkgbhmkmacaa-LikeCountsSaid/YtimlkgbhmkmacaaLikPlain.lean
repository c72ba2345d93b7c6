/- Plain facts on patterns (no program): what a list of units stands for, that pieces between two units that stand for any bytes may be laid at the first place that goes, and how a pattern's bytes are read as units. No condition. -/
import Derived.Lib.Hide
namespace Go.Proofs.Ytimlkgbhmkmacaa
/-- Whether a unit, that is none for any bytes, stands for a byte. -/
def okU (u : Int) (x : UInt8) : Bool := u == -1 || u == (x.toNat : Int)
/-- Whether a text is what units stand for: -2 any bytes, -1 one byte, the others that byte. -/
def M : List Int → List UInt8 → Bool
  | [], s => s.isEmpty
  | u :: p, s => if u = -2 then (List.range (s.length + 1)).any (fun k => M p (s.drop k)) else
      match s with
      | [] => false
      | x :: t => okU u x && M p t
theorem M_cons (u : Int) (p : List Int) (s : List UInt8) : M (u :: p) s = if u = -2 then (List.range (s.length + 1)).any (fun k => M p (s.drop k)) else (match s with | [] => false | x :: t => okU u x && M p t) := rfl
theorem M_nil (s : List UInt8) : M [] s = true ↔ s = [] := by simp [M]
theorem M_many (p : List Int) (s : List UInt8) : M (-2 :: p) s = true ↔ ∃ k, k ≤ s.length ∧ M p (s.drop k) = true := by
  rw [M_cons, if_pos rfl, List.any_eq_true]
  constructor
  · rintro ⟨k, hk, h⟩; exact ⟨k, by rw [List.mem_range] at hk; omega, h⟩
  · rintro ⟨k, hk, h⟩; exact ⟨k, by rw [List.mem_range]; omega, h⟩
theorem M_byte {u : Int} (hu : u ≠ -2) (p : List Int) (s : List UInt8) : M (u :: p) s = true ↔ ∃ x t, s = x :: t ∧ okU u x = true ∧ M p t = true := by
  rw [M_cons, if_neg hu]
  cases s with
  | nil => simp
  | cons x t => simp [and_assoc]
theorem M_append (p q : List Int) (s : List UInt8) : M (p ++ q) s = true ↔ ∃ k, k ≤ s.length ∧ M p (s.take k) = true ∧ M q (s.drop k) = true := by
  induction p generalizing s with
  | nil =>
    rw [List.nil_append]
    constructor
    · intro h; exact ⟨0, Nat.zero_le _, by simp [M], by simpa using h⟩
    · rintro ⟨k, hk, h1, h2⟩
      rw [M_nil] at h1
      have : k = 0 := by
        have e := congrArg List.length h1
        rw [List.length_take] at e
        have e2 : min k s.length = 0 := e
        omega
      subst this
      simpa using h2
  | cons u p ih =>
    rw [List.cons_append]
    by_cases hu : u = -2
    · subst hu
      rw [M_many]
      constructor
      · rintro ⟨j, hj, h⟩
        obtain ⟨k, hk, h1, h2⟩ := (ih _).1 h
        rw [List.length_drop] at hk
        refine ⟨j + k, by omega, (M_many _ _).2 ⟨j, by rw [List.length_take]; omega, ?_⟩, by rwa [List.drop_drop] at h2⟩
        rwa [List.drop_take, show j + k - j = k by omega]
      · rintro ⟨k, hk, h1, h2⟩
        obtain ⟨j, hj, h⟩ := (M_many _ _).1 h1
        rw [List.length_take] at hj
        refine ⟨j, by omega, (ih _).2 ⟨k - j, by rw [List.length_drop]; omega, ?_, ?_⟩⟩
        · rwa [List.drop_take] at h
        · rwa [List.drop_drop, show j + (k - j) = k by omega]
    · rw [M_byte hu]
      constructor
      · rintro ⟨x, t, rfl, h0, h⟩
        obtain ⟨k, hk, h1, h2⟩ := (ih _).1 h
        exact ⟨k + 1, by simpa using hk, (M_byte hu _ _).2 ⟨x, t.take k, by simp, h0, h1⟩, by simpa using h2⟩
      · rintro ⟨k, hk, h1, h2⟩
        obtain ⟨x, t, hs, h0, h⟩ := (M_byte hu _ _).1 h1
        cases s with
        | nil => simp at hs
        | cons y s =>
          cases k with
          | zero => simp at hs
          | succ k =>
            rw [List.take_succ_cons] at hs
            injection hs with e1 e2
            subst e1 e2
            exact ⟨y, s, rfl, h0, (ih _).2 ⟨k, by simpa using hk, h, by simpa using h2⟩⟩
/-- Whether a piece stands at a text's beginning. -/
def fits : List Int → List UInt8 → Bool
  | [], _ => true
  | _ :: _, [] => false
  | u :: p, x :: t => okU u x && fits p t
/-- No unit of a piece stands for any bytes. -/
def Piece (p : List Int) : Prop := ∀ u ∈ p, u ≠ -2
theorem fits_len : ∀ {p : List Int} {s : List UInt8}, fits p s = true → p.length ≤ s.length
  | [], _, _ => by simp
  | _ :: _, [], h => by simp [fits] at h
  | u :: p, x :: t, h => by
    rw [fits, Bool.and_eq_true] at h
    have := fits_len h.2
    simpa using this
theorem fits_M : ∀ {p : List Int} (q : List Int) (s : List UInt8), Piece p → (M (p ++ q) s = true ↔ fits p s = true ∧ M q (s.drop p.length) = true)
  | [], q, s, _ => by simp [fits]
  | u :: p, q, s, hp => by
    have hu : u ≠ -2 := hp u (by simp)
    have hp' : Piece p := fun v hv => hp v (by simp [hv])
    rw [List.cons_append, M_byte hu]
    cases s with
    | nil => simp [fits]
    | cons x t =>
      constructor
      · rintro ⟨y, t', e, h0, h⟩
        injection e with e1 e2
        subst e1 e2
        obtain ⟨h1, h2⟩ := (fits_M q t hp').1 h
        exact ⟨by rw [fits, h0, h1]; rfl, by simpa using h2⟩
      · rintro ⟨h1, h2⟩
        rw [fits, Bool.and_eq_true] at h1
        exact ⟨x, t, rfl, h1.1, (fits_M q t hp').2 ⟨h1.2, by simpa using h2⟩⟩
theorem fits_at : ∀ {p : List Int} {s : List UInt8}, (fits p s = true ↔ p.length ≤ s.length ∧ ∀ i (h : i < p.length) (h' : i < s.length), okU p[i] s[i] = true)
  | [], s => by simp [fits]
  | u :: p, [] => by simp [fits]
  | u :: p, x :: t => by
    rw [fits, Bool.and_eq_true, fits_at (p := p) (s := t)]
    constructor
    · rintro ⟨h0, h1, h2⟩
      refine ⟨by simpa using h1, fun i h h' => ?_⟩
      cases i with
      | zero => exact h0
      | succ i => exact h2 i (by simpa using h) (by simpa using h')
    · rintro ⟨h1, h2⟩
      refine ⟨h2 0 (by simp) (by simp), by simpa using h1, fun i h h' => ?_⟩
      have := h2 (i + 1) (by simpa using h) (by simpa using h')
      simpa using this
/-- The first place from which a piece stands. -/
def fnd (p : List Int) : List UInt8 → Option Nat
  | [] => if fits p [] then some 0 else none
  | x :: t => if fits p (x :: t) then some 0 else (fnd p t).map (· + 1)
theorem fnd_some {p : List Int} : ∀ {s : List UInt8} {i : Nat}, fnd p s = some i → i ≤ s.length ∧ fits p (s.drop i) = true ∧ ∀ j, j < i → fits p (s.drop j) = false
  | [], i, h => by
    rw [fnd] at h
    split at h
    · rename_i hf
      simp at h; subst h
      exact ⟨by simp, by simpa using hf, fun j hj => by omega⟩
    · cases h
  | x :: t, i, h => by
    rw [fnd] at h
    split at h
    · rename_i hf
      simp at h; subst h
      exact ⟨by simp, by simpa using hf, fun j hj => by omega⟩
    · rename_i hf
      obtain ⟨j, hj, rfl⟩ := Option.map_eq_some_iff.1 h
      obtain ⟨h1, h2, h3⟩ := fnd_some hj
      refine ⟨by simpa using h1, by simpa using h2, fun k hk => ?_⟩
      cases k with
      | zero => simpa using hf
      | succ k => simpa using h3 k (by omega)
theorem fnd_none {p : List Int} : ∀ {s : List UInt8}, fnd p s = none → ∀ j, fits p (s.drop j) = false
  | [], h, j => by
    rw [fnd] at h
    split at h
    · cases h
    · rename_i hf; simpa using hf
  | x :: t, h, j => by
    rw [fnd] at h
    split at h
    · cases h
    · rename_i hf
      cases j with
      | zero => simpa using hf
      | succ j => simpa using fnd_none (Option.map_eq_none_iff.1 h) j
theorem fnd_at {p : List Int} {s : List UInt8} {i : Nat} (h1 : fits p (s.drop i) = true) (h2 : ∀ j, j < i → fits p (s.drop j) = false) : fnd p s = some i := by
  cases h : fnd p s with
  | none => rw [fnd_none h i] at h1; cases h1
  | some k =>
    obtain ⟨_, k2, k3⟩ := fnd_some h
    rcases Nat.lt_trichotomy i k with hlt | rfl | hlt
    · rw [k3 i hlt] at h1; cases h1
    · rfl
    · rw [h2 k hlt] at k2; cases k2
theorem fnd_no {p : List Int} {s : List UInt8} (h : ∀ j, j ≤ s.length → fits p (s.drop j) = false) : fnd p s = none := by
  cases e : fnd p s with
  | none => rfl
  | some k =>
    obtain ⟨k1, k2, _⟩ := fnd_some e
    rw [h k k1] at k2; cases k2
/-- The same as a number; below 0, if there is none. -/
def fndI (p : List Int) (s : List UInt8) : Int := match fnd p s with | some i => i | none => -1
theorem bool_iff {a b : Bool} (h : a = true ↔ b = true) : a = b := by cases a <;> cases b <;> simp_all
/-- Only the text's first bytes, as many as the piece has. -/
theorem fnd_take (p : List Int) (s : List UInt8) : (fnd p (s.take (min p.length s.length))).isSome = fits p s := by
  apply bool_iff
  constructor
  · intro h
    obtain ⟨i, hi⟩ := Option.isSome_iff_exists.1 h
    obtain ⟨h1, h2, _⟩ := fnd_some hi
    have h3 := fits_len h2
    rw [List.length_drop, List.length_take] at h3
    by_cases h0 : p.length = 0
    · rw [List.length_eq_zero_iff.1 h0]; cases s <;> rfl
    · have : i = 0 := by omega
      subst this
      rw [List.drop_zero] at h2
      rw [fits_at] at h2 ⊢
      obtain ⟨e1, e2⟩ := h2
      refine ⟨by rw [List.length_take] at e1; omega, fun i a b => ?_⟩
      have := e2 i a (by rw [List.length_take]; omega)
      simpa using this
  · intro h
    have hl := fits_len h
    have h2 : fits p (s.take (min p.length s.length)) = true := by
      rw [fits_at] at h ⊢
      refine ⟨by rw [List.length_take]; omega, fun i a b => ?_⟩
      rw [List.getElem_take]
      exact h.2 i a (by omega)
    rw [fnd_at (i := 0) (by simpa using h2) (fun j hj => by omega)]
    rfl
/-- The first piece stands at the beginning. -/
theorem M_first {p : List Int} (hp : Piece p) (q : List Int) (s : List UInt8) : M (p ++ q) s = (fits p s && M q (s.drop p.length)) := by
  apply bool_iff
  rw [Bool.and_eq_true]
  exact fits_M q s hp
/-- The last piece stands at the end. -/
theorem M_last {p : List Int} (hp : Piece p) (s : List UInt8) : M (-2 :: p) s = (fnd p (s.drop (s.length - p.length))).isSome := by
  apply bool_iff
  rw [M_many]
  constructor
  · rintro ⟨k, hk, h⟩
    have h' : M (p ++ []) (s.drop k) = true := by simpa using h
    obtain ⟨h1, h2⟩ := (fits_M [] _ hp).1 h'
    rw [M_nil, List.drop_drop] at h2
    have hl := fits_len h1
    rw [List.length_drop] at hl
    have e := congrArg List.length h2
    rw [List.length_drop] at e
    simp at e
    have : k = s.length - p.length := by omega
    subst this
    rw [fnd_at (i := 0) (by simpa using h1) (fun j hj => by omega)]
    rfl
  · intro h
    obtain ⟨i, hi⟩ := Option.isSome_iff_exists.1 h
    obtain ⟨h1, h2, _⟩ := fnd_some hi
    rw [List.drop_drop] at h2
    have h3 := fits_len h2
    rw [List.length_drop] at h1 h3
    by_cases h0 : p.length = 0
    · rw [List.length_eq_zero_iff.1 h0]
      exact ⟨s.length, Nat.le_refl _, by simp [M]⟩
    · have : i = 0 := by omega
      subst this
      refine ⟨s.length - p.length, by omega, ?_⟩
      have : M (p ++ []) (s.drop (s.length - p.length)) = true := (fits_M [] _ hp).2 ⟨by simpa using h2, by rw [M_nil, List.drop_drop, List.drop_eq_nil_iff]; omega⟩
      simpa using this
/-- What stands for any bytes takes what begins later, too. -/
theorem M_later {q : List Int} {s : List UInt8} {i k : Nat} (hik : i ≤ k) (h : M (-2 :: q) (s.drop k) = true) : M (-2 :: q) (s.drop i) = true := by
  rw [M_many] at h ⊢
  obtain ⟨j, hj, hm⟩ := h
  rw [List.drop_drop] at hm
  rcases Nat.le_total k s.length with hk | hk
  · rw [List.length_drop] at hj
    exact ⟨k + j - i, by rw [List.length_drop]; omega, by rw [List.drop_drop, show i + (k + j - i) = k + j by omega]; exact hm⟩
  · refine ⟨s.length - i, by rw [List.length_drop]; omega, ?_⟩
    rw [List.drop_drop]
    rw [List.drop_of_length_le (by omega)] at hm ⊢
    exact hm
/-- A piece between two that stand for any bytes is laid at the first place that goes. -/
theorem M_mid {p : List Int} (hp : Piece p) (q : List Int) (s : List UInt8) : M (-2 :: (p ++ -2 :: q)) s = match fnd p s with | some i => M (-2 :: q) (s.drop (i + p.length)) | none => false := by
  apply bool_iff
  rw [M_many]
  constructor
  · rintro ⟨k, hk, h⟩
    obtain ⟨h1, h2⟩ := (fits_M _ _ hp).1 h
    rw [List.drop_drop] at h2
    cases e : fnd p s with
    | none => rw [fnd_none e k] at h1; cases h1
    | some i =>
      obtain ⟨_, _, i3⟩ := fnd_some e
      rcases Nat.lt_or_ge k i with hlt | hge
      · rw [i3 k hlt] at h1; cases h1
      · exact M_later (by omega) h2
  · intro h
    cases e : fnd p s with
    | none => rw [e] at h; cases h
    | some i =>
      rw [e] at h
      obtain ⟨i1, i2, _⟩ := fnd_some e
      exact ⟨i, i1, (fits_M _ _ hp).2 ⟨i2, by rw [List.drop_drop]; exact h⟩⟩
/-- Where the first unit for any bytes stands. -/
def fm : List Int → Option Nat
  | [] => none
  | u :: p => if u = -2 then some 0 else (fm p).map (· + 1)
theorem fm_none : ∀ {us : List Int}, fm us = none → Piece us
  | [], _ => fun u hu => by cases hu
  | v :: p, h => by
    rw [fm] at h
    split at h
    · cases h
    · rename_i hv
      intro u hu
      rcases List.mem_cons.1 hu with rfl | hu
      · exact hv
      · exact fm_none (Option.map_eq_none_iff.1 h) u hu
theorem fm_some : ∀ {us : List Int} {k : Nat}, fm us = some k → k < us.length ∧ Piece (us.take k) ∧ us = us.take k ++ -2 :: us.drop (k + 1)
  | [], k, h => by simp [fm] at h
  | v :: p, k, h => by
    rw [fm] at h
    split at h
    · rename_i hv
      simp at h; subst h hv
      exact ⟨by simp, fun u hu => by simp at hu, by simp⟩
    · rename_i hv
      obtain ⟨j, hj, rfl⟩ := Option.map_eq_some_iff.1 h
      obtain ⟨h1, h2, h3⟩ := fm_some hj
      refine ⟨by simpa using h1, fun u hu => ?_, ?_⟩
      · rw [List.take_succ_cons] at hu
        rcases List.mem_cons.1 hu with rfl | hu
        · exact hv
        · exact h2 u hu
      · rw [List.take_succ_cons, List.drop_succ_cons, List.cons_append, ← h3]
theorem fm_at {us : List Int} {k : Nat} (hk : k < us.length) (h : us[k] = -2) (h2 : ∀ j (hj : j < us.length), j < k → us[j] ≠ -2) : fm us = some k := by
  induction us generalizing k with
  | nil => simp at hk
  | cons u p ih =>
    rw [fm]
    cases k with
    | zero => rw [if_pos (by simpa using h)]
    | succ k =>
      rw [if_neg (show ¬ u = -2 from h2 0 (by simp) (by omega)), ih (by simpa using hk) (by simpa using h) (fun j hj hjk => h2 (j + 1) (by simpa using hj) (by omega))]
      rfl
theorem fm_no {us : List Int} (h2 : ∀ j (hj : j < us.length), us[j] ≠ -2) : fm us = none := by
  cases e : fm us with
  | none => rfl
  | some k =>
    obtain ⟨h1, _, h3⟩ := fm_some e
    exfalso
    apply h2 k h1
    have hl : (us.take k).length = k := by rw [List.length_take]; omega
    have : us[k]? = some (-2) := by rw [h3, List.getElem?_append_right (by omega), hl]; simp
    rw [List.getElem?_eq_getElem h1] at this
    exact Option.some.inj this
def fmI (us : List Int) : Int := match fm us with | some i => i | none => -1
/-- The three bytes that stand for themselves only behind a backslash. -/
def sp (c : UInt8) : Bool := c == 37 || (c == 95 || c == 92)
/-- A pattern's units; none: it is no pattern. -/
def rd : List UInt8 → Option (List Int)
  | [] => some []
  | c :: r =>
    if c = 37 then (rd r).map (-2 :: ·) else
    if c = 95 then (rd r).map (-1 :: ·) else
    if c = 92 then
      match r with
      | [] => none
      | d :: r => if sp d then (rd r).map ((d.toNat : Int) :: ·) else none
    else (rd r).map ((c.toNat : Int) :: ·)
theorem rd_cons (c : UInt8) (r : List UInt8) : rd (c :: r) = if c = 37 then (rd r).map (-2 :: ·) else
    if c = 95 then (rd r).map (-1 :: ·) else
    if c = 92 then
      (match r with
      | [] => none
      | d :: r => if sp d then (rd r).map ((d.toNat : Int) :: ·) else none)
    else (rd r).map ((c.toNat : Int) :: ·) := by
  cases r <;> rfl
theorem omap_app {o : Option (List Int)} {a : List Int} {u : Int} : (o.map (u :: ·)).map (a ++ ·) = o.map ((a ++ [u]) ++ ·) := by
  cases o <;> simp
theorem rd_append : ∀ (n : Nat) (p q : List UInt8) (a : List Int), p.length ≤ n → rd p = some a → rd (p ++ q) = (rd q).map (a ++ ·)
  | _, [], q, a, _, h => by
    simp [rd] at h; subst h; simp
  | 0, c :: p, q, a, hn, h => by simp at hn
  | n + 1, c :: p, q, a, hn, h => by
    rw [rd_cons] at h
    rw [List.cons_append, rd_cons]
    simp at hn
    by_cases h1 : c = 37
    · rw [if_pos h1] at h ⊢
      obtain ⟨b, hb, rfl⟩ := Option.map_eq_some_iff.1 h
      rw [rd_append n p q b (by omega) hb]
      cases rd q <;> simp
    rw [if_neg h1] at h ⊢
    by_cases h2 : c = 95
    · rw [if_pos h2] at h ⊢
      obtain ⟨b, hb, rfl⟩ := Option.map_eq_some_iff.1 h
      rw [rd_append n p q b (by omega) hb]
      cases rd q <;> simp
    rw [if_neg h2] at h ⊢
    by_cases h3 : c = 92
    · rw [if_pos h3] at h ⊢
      cases p with
      | nil => cases h
      | cons d p =>
        simp only [List.cons_append] at h ⊢
        by_cases h4 : sp d = true
        · rw [if_pos h4] at h ⊢
          obtain ⟨b, hb, rfl⟩ := Option.map_eq_some_iff.1 h
          rw [rd_append n p q b (by simp at hn; omega) hb]
          cases rd q <;> simp
        · rw [if_neg h4] at h; cases h
    · rw [if_neg h3] at h ⊢
      obtain ⟨b, hb, rfl⟩ := Option.map_eq_some_iff.1 h
      rw [rd_append n p q b (by omega) hb]
      cases rd q <;> simp
/-- A unit is one of those. -/
def Unit1 (u : Int) : Prop := u = -2 ∨ u = -1 ∨ (0 ≤ u ∧ u < 256)
theorem unit1_byte (c : UInt8) : Unit1 (c.toNat : Int) := Or.inr (Or.inr ⟨by omega, by have := UInt8.toNat_lt c; omega⟩)
theorem rd_units : ∀ (n : Nat) (p : List UInt8) (a : List Int), p.length ≤ n → rd p = some a → a.length ≤ p.length ∧ ∀ u ∈ a, Unit1 u
  | _, [], a, _, h => by simp [rd] at h; subst h; exact ⟨by simp, fun u hu => by cases hu⟩
  | 0, c :: p, a, hn, h => by simp at hn
  | n + 1, c :: p, a, hn, h => by
    have key : ∀ (u : Int) (q : List UInt8) (b : List Int), Unit1 u → q.length ≤ p.length → rd q = some b → a = u :: b → a.length ≤ (c :: p).length ∧ ∀ u ∈ a, Unit1 u := by
      intro u q b hu hq hb e
      obtain ⟨i1, i2⟩ := rd_units n q b (by simp at hn; omega) hb
      subst e
      refine ⟨by simp; omega, fun v hv => ?_⟩
      rcases List.mem_cons.1 hv with rfl | hv
      · exact hu
      · exact i2 v hv
    rw [rd_cons] at h
    by_cases h1 : c = 37
    · rw [if_pos h1] at h
      obtain ⟨b, hb, e⟩ := Option.map_eq_some_iff.1 h
      exact key (-2) p b (Or.inl rfl) (Nat.le_refl _) hb e.symm
    rw [if_neg h1] at h
    by_cases h2 : c = 95
    · rw [if_pos h2] at h
      obtain ⟨b, hb, e⟩ := Option.map_eq_some_iff.1 h
      exact key (-1) p b (Or.inr (Or.inl rfl)) (Nat.le_refl _) hb e.symm
    rw [if_neg h2] at h
    by_cases h3 : c = 92
    · rw [if_pos h3] at h
      cases p with
      | nil => cases h
      | cons d p =>
        simp only at h
        by_cases h4 : sp d = true
        · rw [if_pos h4] at h
          obtain ⟨b, hb, e⟩ := Option.map_eq_some_iff.1 h
          exact key _ p b (unit1_byte d) (by simp) hb e.symm
        · rw [if_neg h4] at h; cases h
    · rw [if_neg h3] at h
      obtain ⟨b, hb, e⟩ := Option.map_eq_some_iff.1 h
      exact key _ p b (unit1_byte c) (Nat.le_refl _) hb e.symm
end Go.Proofs.Ytimlkgbhmkmacaa
