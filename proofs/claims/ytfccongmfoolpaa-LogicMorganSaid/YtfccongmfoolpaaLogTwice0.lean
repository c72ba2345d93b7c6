/- The walk of the law LogicTwice: it answers true, whatever two values and word. Conditions: each text shorter than 2 to the 47. -/
import Derived.Test.YtfccongmfoolpaaLogRels
import Derived.Deep.Cut
import Derived.Deep.Quiet
namespace Go.Proofs.Ytfccongmfoolpaa
open Go.RowKit
theorem chk_may {v : V} : v.chk = 0 ↔ mayB v.k v.i v.s = true := by
  unfold V.chk chkI
  cases mayB v.k v.i v.s <;> simp
theorem allOk1 {v : V} : allOk [v] = (v.chk == 0) := by simp [allOk]
theorem allOk2 {a b : V} (ha : a.chk = 0) (hb : b.chk = 0) : allOk [a, b] = true := by simp [allOk, ha, hb]
theorem ct_zt : ctL [zV] = 0 ∧ ∀ b, ctL [tV b] = 0 := by
  refine ⟨?_, fun b => ?_⟩ <;> · unfold ctL allOk; simp [chk_t, chk_z]; rfl
theorem not_z : notV zV = zV := by unfold notV; rw [if_pos ct_zt.1]; rfl
theorem not_t (b : Bool) : notV (tV b) = tV (!b) := by
  unfold notV
  rw [if_pos (ct_zt.2 b), if_neg (show ¬ (tV b).k = 0 from fun h => by cases h)]
  cases b
  · rw [show isV (tV false) true = false by simp [isV, sameB, tV, bi]]
  · rw [isV_iff.2 rfl]
/-- One walk in the order of the text serves every order, of a region whose operations each yield one value in every world of a class, and leave the class. -/
theorem wp_region_class {P : Program} {id : Nat} {Q : Exit → Act → World → Prop} {a : Act} {w : World} {l : List Oper} (C : World → Prop) (hm : P.follows .mixedOrders = true) (hB : Region.lexB .any l.toArray = true) (hC : C w.drew) (h : wpQuiet P l.toArray C (fun a' => ∀ w', C w' → Q .normal a' w') l a) : (Code.region id l.toArray true).wp P Q a w :=
  wp_region_quiet (C := C) hm hB hC (by simpa using h)
def HBT (w : World) (l : List (Nat × V)) : Type := { W : World // HB w l W }
theorem isV_z (b : Bool) : isV zV b = false := by cases b <;> simp [isV, sameB, zV]
theorem isV_t (b : Bool) : isV (tV b) true = b := by cases b <;> simp [isV, sameB, tV, bi]
theorem truth_cases {v : V} (h : ctL [v] = 0) : v = zV ∨ ∃ b, v = tV b := by
  obtain ⟨hm, ht⟩ := ct1 h
  unfold V.isT at ht
  simp at ht
  rcases ht with h0 | h1
  · exact Or.inl ((null_iff hm).1 h0)
  · have hm' := hm
    unfold mayB at hm'
    rw [h1] at hm'
    simp at hm'
    rcases hm'.1 with e | e
    · exact Or.inr ⟨false, V.ext h1 e (emp_iff.1 hm'.2)⟩
    · exact Or.inr ⟨true, V.ext h1 e (emp_iff.1 hm'.2)⟩
theorem twice_not {v : V} (h : ctL [v] = 0) : ctL [notV v] = 0 ∧ notV (notV v) = v := by
  rcases truth_cases h with rfl | ⟨b, rfl⟩
  · rw [not_z]; exact ⟨ct_zt.1, not_z⟩
  · rw [not_t, not_t, Bool.not_not]; exact ⟨ct_zt.2 _, rfl⟩
theorem rel_z {op : ByteArray} {a : V} : relR op a zV = zV := by unfold relR; rw [if_neg (fun h => h.2.2 rfl)]
theorem bytes_eq {a b : ByteArray} (h : a.data.toList = b.data.toList) : a = b := by
  cases a; cases b
  simp only [ByteArray.mk.injEq]
  exact Array.toList_inj.1 h
theorem same_iff {a b : V} : sameB a.k a.i a.s b.k b.i b.s = true ↔ a = b := by
  unfold sameB
  simp only [Bool.and_eq_true, beq_iff_eq, Lib.toList_data]
  exact ⟨fun h => V.ext h.1 h.2.1 (bytes_eq h.2.2), fun h => by rw [h]; simp⟩
/-- What Is and = say of two values that may be. -/
theorem is_rel {a b : V} (ha : a.chk = 0) (hb : b.chk = 0) : (isE a b = 20 ∧ relE eqB a b = 20 ∧ ¬ a = b) ∨ (isE a b = 0 ∧ relE eqB a b = 0 ∧ isR a b = tV (sameB a.k a.i a.s b.k b.i b.s) ∧ (a.k = 0 ∨ b.k = 0 ∨ (a.k = b.k ∧ relR eqB a b = isR a b))) := by
  have hok := allOk2 ha hb
  have hk : (allOk [a, b] && knB eqB) = true := by rw [hok, show knB eqB = true from kn_eq.1]; rfl
  by_cases h : ¬ a.k = 0 ∧ ¬ b.k = 0 ∧ ¬ a.k = b.k
  · exact Or.inl ⟨(isE_kind hok h.1 h.2.1 h.2.2).1, (rel_kind hk h.1 h.2.1 h.2.2).1, fun e => h.2.2 (by rw [e])⟩
  · have h' : a.k = 0 ∨ b.k = 0 ∨ a.k = b.k := by omega
    obtain ⟨e1, r1⟩ := isE_good hok h'
    refine Or.inr ⟨e1, ?_, r1, ?_⟩
    · by_cases hn : a.k = 0 ∨ b.k = 0
      · exact (rel_null hk hn).1
      · exact (rel_good hk (by omega) (by omega) (by omega)).1
    · by_cases hn : a.k = 0 ∨ b.k = 0
      · omega
      · have := (rel_good hk (by omega) (by omega) (by omega)).2
        refine Or.inr (Or.inr ⟨by omega, ?_⟩)
        rw [this, r1]
        congr 1
        rw [show soB eqB (cmpV a.k a.i a.s b.k b.i b.s) = (cmpV a.k a.i a.s b.k b.i b.s == 0) from (so_eq _).1, Bool.eq_iff_iff]
        rw [same_iff, beq_iff_eq]
        exact cmpVV_ok.zero a b
set_option maxRecDepth 100000 in
set_option maxHeartbeats 4000000 in
theorem twice_out (a b : V) (op : ByteArray) (w : World) (h : ¬ a.chk = 0 ∨ ¬ b.chk = 0 ∨ 10000 < a.s.size ∨ 10000 < b.s.size) :
    Calls Try.prog 8 #[.agg #[.int .i64 a.k, .int .i64 a.i, .string a.s], .agg #[.int .i64 b.k, .int .i64 b.i, .string b.s], .string op] w fun e w' => e = .returned (.bool true) ∧ Below w.heap.size w w' := by
  have HCA := Lib.hid (fun w' => rcheck_any a.k a.i a.s w')
  have HCB := Lib.hid (fun w' => rcheck_any b.k b.i b.s w')
  have HB0 := Lib.hid (((HB.nil w).pushAt (H := w.heap.size) rfl a).pushAt (H := w.heap.size + 1) (by simp) b)
  have ca : a.chk = chkI a.k a.i a.s := rfl
  have cb : b.chk = chkI b.k b.i b.s := rfl
  rw [ca, cb] at h
  clear ca cb
  generalize chkI a.k a.i a.s = x at *
  generalize chkI b.k b.i b.s = y at *
  have hx : (¬ x = 0) ∨ (x = 0 ∧ ¬ y = 0) ∨ (x = 0 ∧ y = 0 ∧ 10000 < a.s.size) ∨ (x = 0 ∧ y = 0 ∧ ¬ 10000 < a.s.size ∧ 10000 < b.s.size) := by omega
  clear h
  rcases hx with hx | ⟨rfl, hy⟩ | ⟨rfl, rfl, h1⟩ | ⟨rfl, rfl, h1, h2⟩
  · have e : (x != 0) = true := by simpa using hx
    clear hx
    go_enter Try.func8, Try.ntmps8
    go_wp2_with fail
    refine (live_any _).mono ?_
    rintro e w1 ⟨rfl, b1⟩
    have H1 := Lib.hid (HB0.out.call b1)
    obtain ⟨e0, e1, e2, c0, c1, c2, -⟩ := H1.out.boxes
    go_wp2_with fail
    refine (HCA.out _).mono ?_
    rintro e w2 ⟨rfl, b2⟩
    have H2 := Lib.hid (H1.out.call b2)
    clear e0 e1 e2 c0 c1 c2
    obtain ⟨e0, e1, e2, c0, c1, c2, -⟩ := H2.out.boxes
    go_wp2_with fail
    go_ret
    exact ⟨rfl, H2.out.below⟩
  · have e : (y != 0) = true := by simpa using hy
    clear hy
    go_enter Try.func8, Try.ntmps8
    go_wp2_with fail
    refine (live_any _).mono ?_
    rintro e w1 ⟨rfl, b1⟩
    have H1 := Lib.hid (HB0.out.call b1)
    obtain ⟨e0, e1, e2, c0, c1, c2, -⟩ := H1.out.boxes
    go_wp2_with fail
    refine (HCA.out _).mono ?_
    rintro e w2 ⟨rfl, b2⟩
    have H2 := Lib.hid (H1.out.call b2)
    clear e0 e1 e2 c0 c1 c2
    obtain ⟨e0, e1, e2, c0, c1, c2, -⟩ := H2.out.boxes
    go_wp2_with fail
    refine (HCB.out _).mono ?_
    rintro e w3 ⟨rfl, b3⟩
    have H3 := Lib.hid (H2.out.call b3)
    clear e0 e1 e2 c0 c1 c2
    obtain ⟨e0, e1, e2, c0, c1, c2, -⟩ := H3.out.boxes
    go_wp2_with fail
    go_ret
    exact ⟨rfl, H3.out.below⟩
  · have e : decide ((10000 : Int) < (a.s.size : Int)) = true := decide_eq_true (by omega)
    clear h1
    go_enter Try.func8, Try.ntmps8
    go_wp2_with fail
    refine (live_any _).mono ?_
    rintro e w1 ⟨rfl, b1⟩
    have H1 := Lib.hid (HB0.out.call b1)
    obtain ⟨e0, e1, e2, c0, c1, c2, -⟩ := H1.out.boxes
    go_wp2_with fail
    refine (HCA.out _).mono ?_
    rintro e w2 ⟨rfl, b2⟩
    have H2 := Lib.hid (H1.out.call b2)
    clear e0 e1 e2 c0 c1 c2
    obtain ⟨e0, e1, e2, c0, c1, c2, -⟩ := H2.out.boxes
    go_wp2_with fail
    refine (HCB.out _).mono ?_
    rintro e w3 ⟨rfl, b3⟩
    have H3 := Lib.hid (H2.out.call b3)
    clear e0 e1 e2 c0 c1 c2
    obtain ⟨e0, e1, e2, c0, c1, c2, -⟩ := H3.out.boxes
    go_wp2_with fail
    go_ret
    exact ⟨rfl, H3.out.below⟩
  · have e : decide ((10000 : Int) < (a.s.size : Int)) = false := decide_eq_false (by omega)
    have e' : decide ((10000 : Int) < (b.s.size : Int)) = true := decide_eq_true (by omega)
    clear h1 h2
    go_enter Try.func8, Try.ntmps8
    go_wp2_with fail
    refine (live_any _).mono ?_
    rintro e w1 ⟨rfl, b1⟩
    have H1 := Lib.hid (HB0.out.call b1)
    obtain ⟨e0, e1, e2, c0, c1, c2, -⟩ := H1.out.boxes
    go_wp2_with fail
    refine (HCA.out _).mono ?_
    rintro e w2 ⟨rfl, b2⟩
    have H2 := Lib.hid (H1.out.call b2)
    clear e0 e1 e2 c0 c1 c2
    obtain ⟨e0, e1, e2, c0, c1, c2, -⟩ := H2.out.boxes
    go_wp2_with fail
    refine (HCB.out _).mono ?_
    rintro e w3 ⟨rfl, b3⟩
    have H3 := Lib.hid (H2.out.call b3)
    clear e0 e1 e2 c0 c1 c2
    obtain ⟨e0, e1, e2, c0, c1, c2, -⟩ := H3.out.boxes
    go_wp2_with fail
    go_ret
    exact ⟨rfl, H3.out.below⟩
end Go.Proofs.Ytfccongmfoolpaa
