/- Plain facts on patterns, more (no program): a text guarded, what texts begin with, patterns of units for one byte, and the places that a text's beginnings lead to. No condition. -/
import Derived.Test.YtimlkgbhmkmacaaLikPlain
namespace Go.Proofs.Ytimlkgbhmkmacaa
/-- A text with each of the three bytes behind a backslash. -/
def gd : List UInt8 → List UInt8
  | [] => []
  | c :: s => (if sp c then [92, c] else [c]) ++ gd s
def lits (s : List UInt8) : List Int := s.map fun c => (c.toNat : Int)
theorem sp_iff {c : UInt8} : sp c = true ↔ c = 37 ∨ c = 95 ∨ c = 92 := by simp [sp]
theorem rd_gd : ∀ (s q : List UInt8), rd (gd s ++ q) = (rd q).map (lits s ++ ·)
  | [], q => by simp [gd, lits]
  | c :: s, q => by
    have ih := rd_gd s q
    rw [gd]
    by_cases h : sp c = true
    · rw [if_pos h]
      show rd (92 :: c :: (gd s ++ q)) = _
      rw [rd_cons, if_neg (by decide), if_neg (by decide), if_pos rfl]
      simp only
      rw [if_pos h, ih]
      cases rd q <;> simp [lits]
    · rw [if_neg h]
      show rd (c :: (gd s ++ q)) = _
      rw [sp_iff] at h
      rw [rd_cons, if_neg (fun e => h (Or.inl e)), if_neg (fun e => h (Or.inr (Or.inl e))), if_neg (fun e => h (Or.inr (Or.inr e))), ih]
      cases rd q <;> simp [lits]
theorem gd_len : ∀ s : List UInt8, (gd s).length ≤ 2 * s.length
  | [] => by simp [gd]
  | c :: s => by
    have := gd_len s
    rw [gd]
    split <;> simp <;> omega
theorem gd_snoc : ∀ (s : List UInt8) (c : UInt8), gd (s ++ [c]) = gd s ++ (if sp c then [92, c] else [c])
  | [], c => by simp [gd]
  | d :: s, c => by rw [List.cons_append, gd, gd_snoc s c, gd, List.append_assoc]
theorem lits_piece (s : List UInt8) : Piece (lits s) := by
  intro u hu
  obtain ⟨c, _, rfl⟩ := List.mem_map.1 hu
  omega
theorem ok_lit {c x : UInt8} : okU (c.toNat : Int) x = (x == c) := by
  apply bool_iff
  unfold okU
  simp only [Bool.or_eq_true, beq_iff_eq]
  constructor
  · rintro (h | h)
    · omega
    · exact (UInt8.toNat_inj.1 (by omega)).symm
  · rintro rfl; exact Or.inr rfl
theorem fits_lits : ∀ (s t : List UInt8), fits (lits s) t = s.isPrefixOf t
  | [], t => by cases t <;> rfl
  | c :: s, [] => rfl
  | c :: s, x :: t => by
    have e : fits (lits (c :: s)) (x :: t) = (okU (c.toNat : Int) x && fits (lits s) t) := rfl
    rw [e, ok_lit, fits_lits s t]
    show _ = (c == x && s.isPrefixOf t)
    rw [Bool.beq_comm]
theorem lits_len (s : List UInt8) : (lits s).length = s.length := by simp [lits]
theorem M_lits (s t : List UInt8) : M (lits s) t = decide (t = s) := by
  apply bool_iff
  have h := M_first (lits_piece s) [] t
  rw [List.append_nil] at h
  rw [h, fits_lits, lits_len, Bool.and_eq_true, M_nil, List.isPrefixOf_iff_prefix, decide_eq_true_iff]
  constructor
  · rintro ⟨⟨r, rfl⟩, h2⟩
    rw [List.drop_left] at h2
    rw [h2, List.append_nil]
  · rintro rfl
    exact ⟨List.prefix_refl _, by simp⟩
theorem M_all (s : List UInt8) : M [-2] s = true := (M_many [] s).2 ⟨s.length, Nat.le_refl _, by simp [M]⟩
theorem M_lits_all (s t : List UInt8) : M (lits s ++ [-2]) t = s.isPrefixOf t := by
  rw [M_first (lits_piece s), M_all, Bool.and_true, fits_lits]
/-- What each text that goes begins with; whether that is all. -/
def pre : List Int → List UInt8 × Bool
  | [] => ([], true)
  | u :: p => if u = -1 ∨ u = -2 then ([], false) else (UInt8.ofNat u.toNat :: (pre p).1, (pre p).2)
theorem pre_lits : ∀ s : List UInt8, pre (lits s) = (s, true)
  | [] => rfl
  | c :: s => by
    have e : pre (lits (c :: s)) = if (c.toNat : Int) = -1 ∨ (c.toNat : Int) = -2 then ([], false) else (UInt8.ofNat (c.toNat : Int).toNat :: (pre (lits s)).1, (pre (lits s)).2) := rfl
    rw [e, if_neg (by omega), pre_lits s]
    simp
theorem pre_len : ∀ p : List Int, (pre p).1.length ≤ p.length
  | [] => by simp [pre]
  | u :: p => by
    have := pre_len p
    rw [pre]
    split <;> simp <;> omega
theorem M_pre : ∀ (p : List Int) (s : List UInt8), (∀ u ∈ p, Unit1 u) → M p s = true → (pre p).1 <+: s
  | [], s, _, _ => by simp [pre]
  | u :: p, s, hp, h => by
    rw [pre]
    split
    · simp
    · rename_i hu
      obtain ⟨x, t, rfl, h0, h1⟩ := (M_byte (fun e => hu (Or.inr e)) p s).1 h
      have ih := M_pre p t (fun v hv => hp v (by simp [hv])) h1
      have hx : UInt8.ofNat u.toNat = x := by
        unfold okU at h0
        simp only [Bool.or_eq_true, beq_iff_eq] at h0
        rcases h0 with h0 | h0
        · exact absurd h0 (fun e => hu (Or.inl e))
        · rw [h0]; simp
      rw [hx]
      exact (List.cons_prefix_cons).2 ⟨rfl, ih⟩
/-- The prefix that the first k units give, as long as none of them is for many or one. -/
theorem pre_step {p : List Int} {k : Nat} (hk : k < p.length) (h : ∀ j (hj : j < p.length), j < k → ¬ (p[j] = -1 ∨ p[j] = -2)) : (p[k] = -1 ∨ p[k] = -2 → pre p = ((p.take k).map fun u => UInt8.ofNat u.toNat, false)) := by
  induction p generalizing k with
  | nil => simp at hk
  | cons u p ih =>
    intro h1
    rw [pre]
    cases k with
    | zero => rw [if_pos (by simpa using h1)]; rfl
    | succ k =>
      have h0 : ¬ (u = -1 ∨ u = -2) := h 0 (by simp) (by omega)
      rw [if_neg h0, ih (k := k) (by simpa using hk) (fun j hj hjk => h (j + 1) (by simpa using hj) (by omega)) h1]
      rfl
theorem pre_whole {p : List Int} (h : ∀ j (hj : j < p.length), ¬ (p[j] = -1 ∨ p[j] = -2)) : pre p = (p.map fun u => UInt8.ofNat u.toNat, true) := by
  induction p with
  | nil => rfl
  | cons u p ih =>
    have h0 : ¬ (u = -1 ∨ u = -2) := h 0 (by simp)
    rw [pre, if_neg h0, ih (fun j hj => h (j + 1) (by simpa using hj))]
    rfl
/-- So many units for one byte. -/
theorem M_ones : ∀ (n : Nat) (q : List Int) (s : List UInt8), M (List.replicate n (-1) ++ q) s = (decide (n ≤ s.length) && M q (s.drop n))
  | 0, q, s => by simp
  | n + 1, q, [] => by
    rw [List.replicate_succ, List.cons_append, M_cons, if_neg (by decide)]
    simp
  | n + 1, q, x :: t => by
    rw [List.replicate_succ, List.cons_append, M_cons, if_neg (by decide)]
    show (okU (-1) x && M (List.replicate n (-1) ++ q) t) = _
    rw [M_ones n q t]
    simp [okU]
theorem M_count (n : Nat) (s : List UInt8) : M (List.replicate n (-1)) s = decide (s.length = n) := by
  have h := M_ones n [] s
  rw [List.append_nil] at h
  rw [h]
  apply bool_iff
  rw [Bool.and_eq_true, decide_eq_true_iff, M_nil, decide_eq_true_iff, List.drop_eq_nil_iff]
  omega
theorem M_count_all (n k : Nat) (hk : k ≤ n) (s : List UInt8) : M (List.replicate k (-1) ++ -2 :: List.replicate (n - k) (-1)) s = decide (n ≤ s.length) := by
  rw [M_ones]
  apply bool_iff
  rw [Bool.and_eq_true, decide_eq_true_iff, M_many, decide_eq_true_iff]
  constructor
  · rintro ⟨h1, j, hj, h⟩
    rw [M_count, decide_eq_true_iff, List.length_drop, List.length_drop] at h
    omega
  · intro h
    refine ⟨by omega, s.length - n, by rw [List.length_drop]; omega, ?_⟩
    rw [M_count, decide_eq_true_iff, List.length_drop, List.length_drop]
    omega
theorem rd_ones : ∀ (n : Nat) (q : List UInt8), rd (List.replicate n 95 ++ q) = (rd q).map (List.replicate n (-1) ++ ·)
  | 0, q => by simp
  | n + 1, q => by
    rw [List.replicate_succ, List.cons_append, rd_cons, if_neg (by decide), if_pos rfl, rd_ones n q]
    cases rd q <;> simp [List.replicate_succ]
theorem rd_count (n : Nat) : rd (List.replicate n 95) = some (List.replicate n (-1)) := by
  have h := rd_ones n []
  rw [List.append_nil] at h
  rw [h]; simp [rd]
theorem rd_count_all (n k : Nat) : rd (List.replicate k 95 ++ 37 :: List.replicate (n - k) 95) = some (List.replicate k (-1) ++ -2 :: List.replicate (n - k) (-1)) := by
  rw [rd_ones, rd_cons, if_pos rfl, rd_count]; rfl
/-- The places that a text's beginnings lead to: one unit more. -/
theorem take_last {s : List UInt8} {i : Nat} (h : i < s.length) : s.take (i + 1) = s.take i ++ [s[i]] := List.take_succ_eq_append_getElem h
theorem dp_many (l : List Int) (s : List UInt8) (i : Nat) (h : i < s.length) : M (l ++ [-2]) (s.take (i + 1)) = (M l (s.take (i + 1)) || M (l ++ [-2]) (s.take i)) := by
  apply bool_iff
  rw [Bool.or_eq_true, M_append, M_append]
  constructor
  · rintro ⟨k, hk, h1, h2⟩
    rw [List.length_take] at hk
    rw [List.take_take] at h1
    by_cases e : k = i + 1
    · subst e
      rw [Nat.min_self] at h1
      exact Or.inl h1
    · refine Or.inr ⟨k, by rw [List.length_take]; omega, ?_, M_all _⟩
      rw [List.take_take, show min k i = k by omega]
      rwa [show min k (i + 1) = k by omega] at h1
  · rintro (h1 | ⟨k, hk, h1, h2⟩)
    · exact ⟨i + 1, by rw [List.length_take]; omega, by rwa [List.take_take, Nat.min_self], M_all _⟩
    · rw [List.length_take] at hk
      rw [List.take_take] at h1
      refine ⟨k, by rw [List.length_take]; omega, ?_, M_all _⟩
      rw [List.take_take, show min k (i + 1) = k by omega]
      rwa [show min k i = k by omega] at h1
theorem dp_many0 (l : List Int) (s : List UInt8) : M (l ++ [-2]) (s.take 0) = M l (s.take 0) := by
  apply bool_iff
  rw [M_append]
  constructor
  · rintro ⟨k, hk, h1, h2⟩; simpa using h1
  · intro h; exact ⟨0, by simp, by simpa using h, M_all _⟩
theorem dp_byte0 {u : Int} (hu : u ≠ -2) (l : List Int) (s : List UInt8) : M (l ++ [u]) (s.take 0) = false := by
  cases e : M (l ++ [u]) (s.take 0) with
  | false => rfl
  | true =>
    obtain ⟨k, hk, h1, h2⟩ := (M_append _ _ _).1 e
    obtain ⟨x, t, h3, _⟩ := (M_byte hu _ _).1 h2
    simp at h3
theorem dp_byte {u : Int} (hu : u ≠ -2) (l : List Int) (s : List UInt8) (i : Nat) (h : i < s.length) : M (l ++ [u]) (s.take (i + 1)) = (M l (s.take i) && okU u s[i]) := by
  apply bool_iff
  rw [Bool.and_eq_true, M_append]
  constructor
  · rintro ⟨k, hk, h1, h2⟩
    obtain ⟨x, t, h3, h4, h5⟩ := (M_byte hu _ _).1 h2
    rw [M_nil] at h5
    subst h5
    have hl := congrArg List.length h3
    rw [List.length_drop, List.length_take] at hl
    simp at hl
    have : k = i := by rw [List.length_take] at hk; omega
    subst this
    rw [List.take_take, show min k (k + 1) = k by omega] at h1
    refine ⟨h1, ?_⟩
    rw [take_last h, List.drop_left' (by rw [List.length_take]; omega)] at h3
    injection h3 with h3 _
    rw [h3]; exact h4
  · rintro ⟨h1, h2⟩
    refine ⟨i, by rw [List.length_take]; omega, by rwa [List.take_take, show min i (i + 1) = i by omega], (M_byte hu _ _).2 ⟨s[i], [], ?_, h2, by simp [M]⟩⟩
    rw [take_last h, List.drop_left' (by rw [List.length_take]; omega)]
end Go.Proofs.Ytimlkgbhmkmacaa
