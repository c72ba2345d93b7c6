/- Plain facts on what is among itself and others; the walk of the law LogicIn where a check ahead strikes. Conditions: the list and each text shorter than 2 to the 47. -/
import Derived.Test.YtgemopcnfklndaaLogTwice0
namespace Go.Proofs.Ytgemopcnfklndaa
open Go.RowKit
def fit (v x : V) : Bool := x.chk == 0 && (x.k == v.k || x.k == 0)
def sl (v : V) (xs : List V) : List V := xs.filter (fit v)
theorem sl_snoc {v : V} {xs : List V} {k : Nat} (h : k < xs.length) : sl v (xs.take (k + 1)) = if fit v xs[k] then sl v (xs.take k) ++ [xs[k]] else sl v (xs.take k) := by
  unfold sl
  rw [take_snoc h, List.filter_append]
  cases hf : fit v xs[k] <;> simp [hf]
theorem sl_len (v : V) (xs : List V) : (sl v xs).length ≤ xs.length := List.length_filter_le _ _
theorem rel_eq {v x : V} (hv : v.chk = 0) (hx : fit v x = true) : relE eqB v x = 0 ∧ ∃ b, relR eqB v x = zV ∨ relR eqB v x = tV b := by
  unfold fit at hx
  simp only [Bool.and_eq_true, Bool.or_eq_true, beq_iff_eq] at hx
  have hok : (allOk [v, x] && knB eqB) = true := by rw [allOk2 hv hx.1, show knB eqB = true from kn_eq.1]; rfl
  by_cases hn : v.k = 0 ∨ x.k = 0
  · obtain ⟨e, r⟩ := rel_null hok hn
    exact ⟨e, true, Or.inl r⟩
  · obtain ⟨e, r⟩ := rel_good hok (by omega) (by omega) (by omega)
    exact ⟨e, _, Or.inr r⟩
theorem self_eq {v : V} (hv : v.chk = 0) (h0 : ¬ v.k = 0) : relE eqB v v = 0 ∧ relR eqB v v = tV true := by
  have hok : (allOk [v, v] && knB eqB) = true := by rw [allOk2 hv hv, show knB eqB = true from kn_eq.1]; rfl
  obtain ⟨e, r⟩ := rel_good hok h0 h0 rfl
  refine ⟨e, ?_⟩
  rw [r, show soB eqB (cmpV v.k v.i v.s v.k v.i v.s) = (cmpV v.k v.i v.s v.k v.i v.s == 0) from (so_eq _).1]
  rw [show cmpV v.k v.i v.s v.k v.i v.s = 0 from cmpVV_ok.self v]
  rfl
theorem firstE_all {v : V} {xs : List V} (h : ∀ x ∈ xs, relE eqB v x = 0) : firstE v xs = 0 := by
  induction xs with
  | nil => rfl
  | cons a l ih => unfold firstE; rw [if_pos (h a (by simp))]; exact ih (fun x hx => h x (by simp [hx]))
theorem ct_all {ys : List V} (h : ∀ y ∈ ys, y = zV ∨ ∃ b, y = tV b) : ctL ys = 0 := by
  have h1 : allOk ys = true := by
    unfold allOk
    rw [List.all_eq_true]
    intro y hy
    rcases h y hy with rfl | ⟨b, rfl⟩
    · simp [chk_z]
    · simp [chk_t]
  have h2 : allT ys = true := by
    unfold allT
    rw [List.all_eq_true]
    intro y hy
    rcases h y hy with rfl | ⟨b, rfl⟩ <;> rfl
  unfold ctL
  rw [h1, h2]
  rfl
/-- A value is among the others that fit and itself. -/
theorem in_self {v : V} (hv : v.chk = 0) (h0 : ¬ v.k = 0) (xs : List V) : inE v (sl v xs ++ [v]) = 0 ∧ inR v (sl v xs ++ [v]) = tV true := by
  have hf : ∀ x ∈ sl v xs ++ [v], fit v x = true := by
    intro x hx
    rcases List.mem_append.1 hx with h | h
    · exact (List.mem_filter.1 h).2
    · simp at h; subst h; simp [fit, hv]
  have hok : okIn v (sl v xs ++ [v]) = true := by
    unfold okIn
    rw [show allOk [v] = true by simp [allOk, hv], Bool.true_and]
    unfold allOk
    rw [List.all_eq_true]
    intro x hx
    have := hf x hx
    unfold fit at this
    simp only [Bool.and_eq_true] at this
    exact this.1
  have hfe : firstE v (sl v xs ++ [v]) = 0 := firstE_all fun x hx => (rel_eq hv (hf x hx)).1
  obtain ⟨e, r⟩ := in_good hok hfe
  have hct : ctL (eqs v (sl v xs ++ [v])) = 0 := ct_all (by
    intro y hy
    unfold eqs at hy
    obtain ⟨x, hx, rfl⟩ := List.mem_map.1 hy
    obtain ⟨b, h | h⟩ := (rel_eq hv (hf x hx)).2
    · exact Or.inl h
    · exact Or.inr ⟨b, h⟩)
  refine ⟨e.trans hct, r.trans ?_⟩
  unfold decV
  rw [if_pos hct, if_pos]
  unfold anyB
  rw [List.any_eq_true]
  exact ⟨tV true, by unfold eqs; rw [List.map_append]; simp [(self_eq hv h0).2], rfl⟩
theorem in_none {v : V} (hv : v.chk = 0) : inE v [] = 0 ∧ inR v [] = tV false := by
  have hok : okIn v [] = true := by unfold okIn; simp [allOk, hv]
  obtain ⟨e, r⟩ := in_good hok (rfl : firstE v [] = 0)
  exact ⟨e, r⟩
set_option maxRecDepth 100000 in
set_option maxHeartbeats 4000000 in
theorem lin_out (v : V) (r : R) (w : World) (hr : RowAt w w.heap.size r.A r.xs) (sr : RowSmall r.xs) (h : bigL r = true ∨ ¬ v.chk = 0 ∨ v.k = 0 ∨ 10000 < v.s.size) :
    Calls Try.prog 7 #[.agg #[.int .i64 v.k, .int .i64 v.i, .string v.s], r.val] w fun e w' => e = .returned (.bool true) ∧ Below w.heap.size w w' := by
  have HBIG := Lib.hid (fun w' (h : Below w.heap.size w w') => big_any r w' (hr.later h) sr)
  have HCA := Lib.hid (fun w' => rcheck_any v.k v.i v.s w')
  have HB0 := Lib.hid ((HB.nil w).push v)
  unfold R.val at *
  rw [show v.chk = chkI v.k v.i v.s from rfl] at h
  generalize chkI v.k v.i v.s = x at *
  generalize bigL r = bg at *
  generalize r.xs.length = n at *
  clear hr sr
  have hx : bg = true ∨ (bg = false ∧ ¬ x = 0) ∨ (bg = false ∧ x = 0 ∧ v.k = 0) ∨ (bg = false ∧ x = 0 ∧ ¬ v.k = 0 ∧ 10000 < v.s.size) := by
    cases bg
    · simp only [Bool.false_eq_true, false_or, true_and] at *
      omega
    · exact Or.inl rfl
  clear h
  rcases hx with rfl | ⟨rfl, hy⟩ | ⟨rfl, rfl, h1⟩ | ⟨rfl, rfl, h1, h2⟩
  · go_enter Try.func7, Try.ntmps7
    go_wp2_with fail
    refine (live_any _).mono ?_
    rintro e w1 ⟨rfl, b1⟩
    have H1 := Lib.hid (HB0.out.call b1)
    go_wp2_with fail
    refine (HBIG.out w1 H1.out.below).mono ?_
    rintro e w2 ⟨rfl, b2⟩
    have H2 := Lib.hid (H1.out.call b2)
    obtain ⟨e0, e1, e2, -⟩ := H2.out.boxes
    go_wp2_with fail
    go_ret
    exact ⟨rfl, H2.out.below⟩
  · have e : (x != 0) = true := by simpa using hy
    clear hy
    go_enter Try.func7, Try.ntmps7
    go_wp2_with fail
    refine (live_any _).mono ?_
    rintro e w1 ⟨rfl, b1⟩
    have H1 := Lib.hid (HB0.out.call b1)
    go_wp2_with fail
    refine (HBIG.out w1 H1.out.below).mono ?_
    rintro e w2 ⟨rfl, b2⟩
    have H2 := Lib.hid (H1.out.call b2)
    obtain ⟨e0, e1, e2, -⟩ := H2.out.boxes
    go_wp2_with fail
    refine (HCA.out _).mono ?_
    rintro e w3 ⟨rfl, b3⟩
    have H3 := Lib.hid (H2.out.call b3)
    clear e0 e1 e2
    obtain ⟨e0, e1, e2, -⟩ := H3.out.boxes
    go_wp2_with fail
    go_ret
    exact ⟨rfl, H3.out.below⟩
  · have e : (v.k == 0) = true := by simpa using h1
    clear h1
    go_enter Try.func7, Try.ntmps7
    go_wp2_with fail
    refine (live_any _).mono ?_
    rintro e w1 ⟨rfl, b1⟩
    have H1 := Lib.hid (HB0.out.call b1)
    go_wp2_with fail
    refine (HBIG.out w1 H1.out.below).mono ?_
    rintro e w2 ⟨rfl, b2⟩
    have H2 := Lib.hid (H1.out.call b2)
    obtain ⟨e0, e1, e2, -⟩ := H2.out.boxes
    go_wp2_with fail
    refine (HCA.out _).mono ?_
    rintro e w3 ⟨rfl, b3⟩
    have H3 := Lib.hid (H2.out.call b3)
    clear e0 e1 e2
    obtain ⟨e0, e1, e2, -⟩ := H3.out.boxes
    go_wp2_with fail
    go_ret
    exact ⟨rfl, H3.out.below⟩
  · have e : (v.k == 0) = false := by simpa using h1
    have e' : decide ((10000 : Int) < (v.s.size : Int)) = true := decide_eq_true (by omega)
    clear h1 h2
    go_enter Try.func7, Try.ntmps7
    go_wp2_with fail
    refine (live_any _).mono ?_
    rintro e w1 ⟨rfl, b1⟩
    have H1 := Lib.hid (HB0.out.call b1)
    go_wp2_with fail
    refine (HBIG.out w1 H1.out.below).mono ?_
    rintro e w2 ⟨rfl, b2⟩
    have H2 := Lib.hid (H1.out.call b2)
    obtain ⟨e0, e1, e2, -⟩ := H2.out.boxes
    go_wp2_with fail
    refine (HCA.out _).mono ?_
    rintro e w3 ⟨rfl, b3⟩
    have H3 := Lib.hid (H2.out.call b3)
    clear e0 e1 e2
    obtain ⟨e0, e1, e2, -⟩ := H3.out.boxes
    go_wp2_with fail
    go_ret
    exact ⟨rfl, H3.out.below⟩
end Go.Proofs.Ytgemopcnfklndaa
