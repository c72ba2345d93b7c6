/- Plain facts on keys (no program): keys are ordered, byte by byte, as their rows are. Condition: rows that may be. -/
import Derived.Test.YtnpemegklndegaaDoorCodPlain2
namespace Go.Proofs.YtnpemegklndegaaDoor
def cB (a b : List UInt8) : Int := cmpL cmpU a b
theorem cB_nil : cB [] [] = 0 := rfl
theorem cB_cons (a b : UInt8) (l m : List UInt8) : cB (a :: l) (b :: m) = if cmpU a b = 0 then cB l m else cmpU a b := rfl
theorem cB_same (a : UInt8) (l m : List UInt8) : cB (a :: l) (a :: m) = cB l m := by rw [cB_cons, if_pos (cmpU_ok.self a)]
theorem cB_pre (a l m : List UInt8) : cB (a ++ l) (a ++ m) = cB l m := by
  induction a with
  | nil => rfl
  | cons x a ih => rw [List.cons_append, List.cons_append, cB_same, ih]
theorem cmpU_nat (a b : Nat) (ha : a < 256) (hb : b < 256) : cmpU (UInt8.ofNat a) (UInt8.ofNat b) = cmpI a b := by
  unfold cmpU cmpI
  have h1 : (UInt8.ofNat a).toNat = a := by simp; omega
  have h2 : (UInt8.ofNat b).toNat = b := by simp; omega
  simp only [UInt8.lt_iff_toNat_lt, h1, h2]
  split <;> split <;> (try split) <;> omega
theorem cmpU_lt {a b : UInt8} (h : a.toNat < b.toNat) : cmpU a b = -1 := by
  unfold cmpU
  rw [if_pos (UInt8.lt_iff_toNat_lt.2 h)]
theorem cmpU_gt {a b : UInt8} (h : b.toNat < a.toNat) : cmpU a b = 1 := by
  unfold cmpU
  rw [if_neg (by rw [UInt8.lt_iff_toNat_lt]; omega), if_pos (UInt8.lt_iff_toNat_lt.2 h)]
theorem cmpI_eq {a b : Int} : cmpI a b = 0 ↔ a = b := cmpI_ok.zero a b
theorem cB_be (k n m : Nat) (hn : n < 256 ^ k) (hm : m < 256 ^ k) (p q : List UInt8) : cB (be n k ++ p) (be m k ++ q) = if cmpI n m = 0 then cB p q else cmpI n m := by
  induction k generalizing n m with
  | zero =>
    have e1 : n = 0 := by simp at hn; exact hn
    have e2 : m = 0 := by simp at hm; exact hm
    subst e1 e2
    rw [if_pos (cmpI_ok.self _)]
    rfl
  | succ k ih =>
    have hp : 0 < 256 ^ k := Nat.pow_pos (by decide)
    rw [Nat.pow_succ] at hn hm
    have h1 : n / 256 ^ k < 256 := Nat.div_lt_of_lt_mul (by omega)
    have h2 : m / 256 ^ k < 256 := Nat.div_lt_of_lt_mul (by omega)
    have d1 := Nat.div_add_mod n (256 ^ k)
    have d2 := Nat.div_add_mod m (256 ^ k)
    have r1 := Nat.mod_lt n hp
    have r2 := Nat.mod_lt m hp
    show cB (UInt8.ofNat (n / 256 ^ k) :: (be n k ++ p)) (UInt8.ofNat (m / 256 ^ k) :: (be m k ++ q)) = _
    rw [cB_cons, cmpU_nat _ _ h1 h2]
    generalize hx : n / 256 ^ k = x at *
    generalize hy : m / 256 ^ k = y at *
    by_cases h : x = y
    · subst h
      rw [if_pos (cmpI_ok.self _), be_mod n k, be_mod m k, ih _ _ r1 r2]
      have e : cmpI ((n % 256 ^ k : Nat) : Int) ((m % 256 ^ k : Nat) : Int) = cmpI n m := by
        unfold cmpI
        generalize 256 ^ k * x = z at *
        split <;> split <;> (try split) <;> omega
      rw [e]
    · rw [if_neg (by rw [cmpI_eq]; omega)]
      have e : cmpI (x : Int) (y : Int) = cmpI n m := by
        have hl : ∀ {a b : Nat}, a < b → 256 ^ k * a + 256 ^ k ≤ 256 ^ k * b := fun {a b} hab => by
          have := Nat.mul_le_mul_left (256 ^ k) hab
          rw [Nat.mul_succ] at this
          exact this
        rcases Nat.lt_or_gt_of_ne h with hlt | hgt
        · have := hl hlt
          unfold cmpI
          rw [if_pos (by omega), if_pos (by omega)]
        · have := hl hgt
          unfold cmpI
          rw [if_neg (by omega), if_pos (by omega), if_neg (by omega), if_pos (by omega)]
      rw [e, if_neg]
      rw [← e, cmpI_eq]
      omega
theorem cB_esc : ∀ (s t p q : List UInt8), cB (esc s ++ 0 :: 0 :: p) (esc t ++ 0 :: 0 :: q) = if cB s t = 0 then cB p q else cB s t
  | [], [], p, q => by
    show cB (0 :: 0 :: p) (0 :: 0 :: q) = _
    rw [cB_same, cB_same, cB_nil, if_pos rfl]
  | [], c :: t, p, q => by
    have e : cB [] (c :: t) = -1 := rfl
    rw [e, if_neg (by decide), esc_cons]
    show cB (0 :: 0 :: p) _ = _
    by_cases h : c = 0
    · rw [if_pos h]
      show cB (0 :: 0 :: p) (0 :: 255 :: _) = _
      rw [cB_same, cB_cons, if_neg (by decide)]
      decide
    · rw [if_neg h]
      show cB (0 :: 0 :: p) (c :: _) = _
      have h1 : c.toNat ≠ 0 := fun e => h (UInt8.toNat_inj.1 e)
      have := cmpU_lt (a := 0) (b := c) (by show 0 < _; omega)
      rw [cB_cons, this, if_neg (by decide)]
  | c :: s, [], p, q => by
    have e : cB (c :: s) [] = 1 := rfl
    rw [e, if_neg (by decide), esc_cons]
    show cB _ (0 :: 0 :: q) = _
    by_cases h : c = 0
    · rw [if_pos h]
      show cB (0 :: 255 :: _) (0 :: 0 :: q) = _
      rw [cB_same, cB_cons, if_neg (by decide)]
      decide
    · rw [if_neg h]
      show cB (c :: _) (0 :: 0 :: q) = _
      have h1 : c.toNat ≠ 0 := fun e => h (UInt8.toNat_inj.1 e)
      have := cmpU_gt (a := c) (b := 0) (by show 0 < _; omega)
      rw [cB_cons, this, if_neg (by decide)]
  | c :: s, d :: t, p, q => by
    rw [cB_cons, esc_cons, esc_cons]
    by_cases h : c = d
    · subst h
      rw [if_pos (cmpU_ok.self c), List.append_assoc, List.append_assoc, cB_pre]
      exact cB_esc s t p q
    · have hn : cmpU c d ≠ 0 := fun e => h ((cmpU_ok.zero c d).1 e)
      rw [if_neg hn, if_neg hn]
      have key : ∀ l m : List UInt8, cB (((if c = 0 then [0, 255] else [c]) ++ l)) (((if d = 0 then [0, 255] else [d]) ++ m)) = cmpU c d := fun l m => by
        by_cases hc : c = 0
        · rw [if_pos hc, if_neg (fun e => h (hc.trans e.symm)), hc]
          show cB (0 :: _) (d :: _) = _
          rw [hc] at hn
          rw [cB_cons, if_neg hn]
        · rw [if_neg hc]
          by_cases hd : d = 0
          · rw [if_pos hd, hd]
            show cB (c :: _) (0 :: _) = _
            rw [hd] at hn
            rw [cB_cons, if_neg hn]
          · rw [if_neg hd]
            show cB (c :: _) (d :: _) = _
            rw [cB_cons, if_neg hn]
      rw [List.append_assoc, List.append_assoc]
      exact key _ _
theorem trn_nat (i : Int) (h0 : -9223372036854775808 ≤ i) (h1 : i ≤ 9223372036854775807) : ((trn true (toU i) : Nat) : Int) = i + 9223372036854775808 := by
  unfold trn toU
  rw [if_pos rfl]
  omega
theorem cmpI_add (a b c : Int) : cmpI (a + c) (b + c) = cmpI a b := by
  unfold cmpI
  split <;> split <;> (try split) <;> omega
/-- What a value's kind and the rest of it tell. -/
theorem cB_kind (a b : Nat) (ha : a < 256) (hb : b < 256) (l m : List UInt8) : cB (UInt8.ofNat a :: l) (UInt8.ofNat b :: m) = if cmpI a b = 0 then cB l m else cmpI a b := by
  rw [cB_cons, cmpU_nat _ _ ha hb]
theorem chk_kind {v : V} (h : v.chk = 0) : 0 ≤ v.k ∧ v.k ≤ 4 := by
  rcases may_cases h with rfl | rfl | rfl | ⟨i, rfl⟩ | ⟨s, rfl⟩ | ⟨s, rfl⟩ <;> simp
theorem cmpS_self (s : ByteArray) : cmpS s s = 0 := cmpS_ok.self s
theorem cB_text (s t : ByteArray) : cB s.data.toList t.data.toList = cmpS s t := by unfold cB cmpS; rw [compareBytes_cmpL]
/-- Of the same kind. -/
theorem cB_of {v u : V} (hv : v.okv) (hu : u.okv) (hk : v.k = u.k) (p q : List UInt8) : cB (wOf true v.k v.i v.s ++ p) (wOf true u.k u.i u.s ++ q) = if cmpVV v u = 0 then cB p q else cmpVV v u := by
  have hcv : cmpVV v u = if cmpI v.i u.i = 0 then cmpS v.s u.s else cmpI v.i u.i := by
    unfold cmpVV cmpV
    rw [if_pos (cmpI_eq.2 hk)]
  rw [hcv]
  obtain ⟨cv, v2, v3⟩ := hv
  obtain ⟨cu, u2, u3⟩ := hu
  rcases may_cases cv with rfl | rfl | rfl | ⟨i, rfl⟩ | ⟨s, rfl⟩ | ⟨s, rfl⟩ <;> rcases may_cases cu with rfl | rfl | rfl | ⟨j, rfl⟩ | ⟨t, rfl⟩ | ⟨t, rfl⟩ <;> simp only at hk <;> (try (exfalso; omega))
  all_goals simp only [wOf, cmpS_self]
  · simp [cmpI]
  · simp [cmpI, cB_same]
  · simp only [if_true, List.cons_append, List.nil_append]
    rw [cB_cons]
    rfl
  · simp only [if_true, List.cons_append, List.nil_append]
    rw [cB_cons]
    rfl
  · simp [cmpI, cB_same]
  · simp only [show ¬ ((2 : Int) = 1) by decide, if_false, if_true]
    rw [cB_be 8 _ _ (trn_lt _ _ (toU_lt i)) (trn_lt _ _ (toU_lt j)), trn_nat i v2 v3, trn_nat j u2 u3, cmpI_add]
    by_cases h : cmpI i j = 0
    · rw [if_pos h, if_pos h, if_pos rfl]
    · rw [if_neg h, if_neg h, if_neg h]
  · simp only [show ¬ ((3 : Int) = 1) by decide, show ¬ ((3 : Int) = 2) by decide, if_false, true_or, if_true, wTxt]
    rw [List.append_assoc, List.append_assoc]
    have := cB_esc s.data.toList t.data.toList p q
    rw [cB_text] at this
    exact this
  · simp only [show ¬ ((4 : Int) = 1) by decide, show ¬ ((4 : Int) = 2) by decide, if_false, or_true, if_true, wTxt]
    rw [List.append_assoc, List.append_assoc]
    have := cB_esc s.data.toList t.data.toList p q
    rw [cB_text] at this
    exact this
theorem cB_val {v u : V} (hv : v.okv) (hu : u.okv) (p q : List UInt8) : cB (wVal true v ++ p) (wVal true u ++ q) = if cmpVV v u = 0 then cB p q else cmpVV v u := by
  have h1 := chk_kind hv.1
  have h2 := chk_kind hu.1
  unfold wVal
  rw [List.cons_append, List.cons_append, cB_kind _ _ (by omega) (by omega)]
  have e1 : (((v.k % 256).toNat : Nat) : Int) = v.k := by omega
  have e2 : (((u.k % 256).toNat : Nat) : Int) = u.k := by omega
  rw [e1, e2]
  by_cases h : v.k = u.k
  · rw [if_pos (cmpI_eq.2 h)]
    exact cB_of hv hu h p q
  · have hn : cmpI v.k u.k ≠ 0 := fun e => h (cmpI_eq.1 e)
    have e : cmpVV v u = cmpI v.k u.k := by
      unfold cmpVV cmpV
      rw [if_neg hn]
    rw [if_neg hn, e, if_neg hn]
theorem cB_row (xs ys : List V) (hx : ∀ v ∈ xs, v.okv) (hy : ∀ v ∈ ys, v.okv) : cB (wRow true xs) (wRow true ys) = cmpR xs ys := by
  induction xs generalizing ys with
  | nil =>
    cases ys with
    | nil => rfl
    | cons u ys => rfl
  | cons v xs ih =>
    cases ys with
    | nil => rfl
    | cons u ys =>
      show cB (wVal true v ++ wRow true xs) (wVal true u ++ wRow true ys) = _
      rw [cB_val (hx v (by simp)) (hy u (by simp)), ih ys (fun w hw => hx w (by simp [hw])) (fun w hw => hy w (by simp [hw]))]
      rfl
end Go.Proofs.YtnpemegklndegaaDoor
