/- Plain facts on truths: what AND and OR of a list of values are (no program). No condition. -/
import Derived.Test.YtfccongmfoolpaaRowDef
import Derived.Test.YtfccongmfoolpaaVal
namespace Go.Proofs.Ytfccongmfoolpaa
def bi (b : Bool) : Int := if b then 1 else 0
def zV : V := ⟨0, 0, ⟨#[]⟩⟩
def tV (b : Bool) : V := ⟨1, bi b, ⟨#[]⟩⟩
def chkA (xs : List V) : Int := if allOk xs then 0 else 1
def V.isT (v : V) : Bool := v.k == 0 || v.k == 1
def allT (xs : List V) : Bool := xs.all V.isT
/-- What is wrong with values that ought to be truths. -/
def ctL (xs : List V) : Int := if allOk xs then (if allT xs then 0 else 20) else 1
def V.isB (b : Bool) (v : V) : Bool := v.k == 1 && v.i == bi b
def anyB (b : Bool) (xs : List V) : Bool := xs.any (V.isB b)
def anyN (xs : List V) : Bool := xs.any fun v => v.k == 0
/-- AND, where the strong truth is FALSE; OR, where it is TRUE. -/
def decV (strong : Bool) (xs : List V) : V := if ctL xs = 0 then (if anyB strong xs then tV strong else if anyN xs then zV else tV (!strong)) else zV
theorem take_snoc {α : Type} {xs : List α} {k : Nat} (h : k < xs.length) : xs.take (k + 1) = xs.take k ++ [xs[k]] := List.take_succ_eq_append_getElem h
theorem allT_snoc {xs : List V} {k : Nat} (h : k < xs.length) : allT (xs.take (k + 1)) = (allT (xs.take k) && xs[k].isT) := by
  unfold allT; rw [take_snoc h, List.all_append]; simp
theorem anyB_snoc {b : Bool} {xs : List V} {k : Nat} (h : k < xs.length) : anyB b (xs.take (k + 1)) = (anyB b (xs.take k) || xs[k].isB b) := by
  unfold anyB; rw [take_snoc h, List.any_append]; simp
theorem anyN_snoc {xs : List V} {k : Nat} (h : k < xs.length) : anyN (xs.take (k + 1)) = (anyN (xs.take k) || xs[k].k == 0) := by
  unfold anyN; rw [take_snoc h, List.any_append]; simp
theorem allT_no {xs : List V} {k : Nat} (h : k < xs.length) (h0 : xs[k].isT = false) : allT xs = false := by
  unfold allT; rw [List.all_eq_false]; exact ⟨xs[k], List.getElem_mem h, by simp [h0]⟩
theorem anyB_yes {b : Bool} {xs : List V} {k : Nat} (h : k < xs.length) (h0 : xs[k].isB b = true) : anyB b xs = true := by
  unfold anyB; rw [List.any_eq_true]; exact ⟨xs[k], List.getElem_mem h, h0⟩
theorem allOk_get {xs : List V} (h : allOk xs = true) {k : Nat} (hk : k < xs.length) : mayB xs[k].k xs[k].i xs[k].s = true := by
  unfold allOk at h
  have := List.all_eq_true.1 h xs[k] (List.getElem_mem hk)
  simp only [V.chk, chkI] at this
  split at this <;> simp_all
theorem emp_iff {s : ByteArray} : emp s = true ↔ s = ⟨#[]⟩ := by
  unfold emp
  rw [Lib.toList_data, List.isEmpty_iff]
  constructor
  · intro h
    cases s
    simp at h
    rw [h]
  · rintro rfl; rfl
theorem isB_iff {v : V} {b : Bool} (h : mayB v.k v.i v.s = true) : v.isB b = true ↔ v = tV b := by
  constructor
  · intro hb
    simp only [V.isB, Bool.and_eq_true, beq_iff_eq] at hb
    obtain ⟨h1, h2⟩ := hb
    unfold mayB at h
    rw [h1] at h
    simp at h
    exact V.ext h1 h2 (emp_iff.1 h.2)
  · rintro rfl
    simp [V.isB, tV]
theorem null_iff {v : V} (h : mayB v.k v.i v.s = true) : v.k = 0 ↔ v = zV := by
  constructor
  · intro hb
    unfold mayB at h
    rw [hb] at h
    simp at h
    exact V.ext hb h.1 (emp_iff.1 h.2)
  · rintro rfl; rfl
theorem isB_one {v : V} {b : Bool} (h : mayB v.k v.i v.s = true) (ht : v.k = 1) : v.isB (!b) = !v.isB b := by
  unfold mayB at h
  rw [ht] at h
  simp at h
  unfold V.isB bi
  rcases h.1 with e | e <;> cases b <;> simp [ht, e]
end Go.Proofs.Ytfccongmfoolpaa
