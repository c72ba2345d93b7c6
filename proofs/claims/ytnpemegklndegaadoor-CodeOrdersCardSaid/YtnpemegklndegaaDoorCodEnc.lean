/- Contracts of code's Encode and Key: a row's bytes and its key, or why it has none. Conditions: the row's texts have no more than some hundred thousand bytes in all, and the library's one variable that is read is there. -/
import Derived.Test.YtnpemegklndegaaDoorCodWrite
import Derived.Test.YtnpemegklndegaaDoorCodRow
import Derived.Test.YtnpemegklndegaaDoorOpen
namespace Go.Proofs.YtnpemegklndegaaDoor
open Go.RowKit
def formV (T : Int) (fn gn : Nat) : Value := .agg #[.int .u64 T, .func (.func fn) #[] #[], .func (.func gn) #[] #[]]
theorem Below.set3' {B : Nat} {a w : World} (h : Below B a w) {b : Nat} (hb : B ≤ b) (x y z : Value) : Below B a (((w.setCell ⟨b, 0, none⟩ x).setCell ⟨b, 1, none⟩ y).setCell ⟨b, 2, none⟩ z) := ((h.setCell hb _).setCell hb _).setCell hb _
set_option maxRecDepth 100000 in
set_option maxHeartbeats 400000 in
theorem plain_any (w : World) : Calls Tryd.prog 27 #[] w fun e w' => e = .returned (formV 0 37 38) ∧ Below w.heap.size w w' := by
  go_enter Tryd.func27, Tryd.ntmps27
  go_wp2
  exact bodyPost_ret (v := formV 0 37 38) (by simp [results, Tryd.results27, go_sem, formV]) rfl ⟨rfl, by first | exact (Below.refl _ w).alloc (Nat.le_refl _) _ | exact Below.set3' ((Below.refl _ w).alloc (Nat.le_refl _) _) (Nat.le_refl _) _ _ _⟩
set_option maxRecDepth 100000 in
set_option maxHeartbeats 400000 in
theorem ordered_any (w : World) : Calls Tryd.prog 31 #[] w fun e w' => e = .returned (formV 9223372036854775808 41 42) ∧ Below w.heap.size w w' := by
  go_enter Tryd.func31, Tryd.ntmps31
  go_wp2
  exact bodyPost_ret (v := formV 9223372036854775808 41 42) (by simp [results, Tryd.results31, go_sem, formV]) rfl ⟨rfl, by first | exact (Below.refl _ w).alloc (Nat.le_refl _) _ | exact Below.set3' ((Below.refl _ w).alloc (Nat.le_refl _) _) (Nat.le_refl _) _ _ _⟩
theorem xor_plain (i : Int) : bits .xor .u64 (IntKind.u64.wrap i) 0 = ((trn false (toU i) : Nat) : Int) := by
  have h : IntKind.u64.wrap i = ((toU i : Nat) : Int) := by rw [IntKind.wrap_u64]; unfold toU; omega
  rw [h]
  have := bits_xor_u64_nat (toU i) 0 (toU_lt i) (by decide)
  simpa [trn] using this
theorem xor_top (n : Nat) (h : n < 18446744073709551616) : n ^^^ 9223372036854775808 = (n + 9223372036854775808) % 18446744073709551616 := by
  have hb : ∀ m : Nat, m < 9223372036854775808 → m ^^^ 9223372036854775808 = m + 9223372036854775808 := fun m hm => by
    have h1 := Nat.two_pow_add_eq_or_of_lt (i := 63) (b := m) (by omega) 1
    have h2 : m ^^^ 9223372036854775808 = m ||| 9223372036854775808 := by
      apply Nat.eq_of_testBit_eq
      intro j
      rw [Nat.testBit_xor, Nat.testBit_or]
      rw [show (9223372036854775808 : Nat) = 2 ^ 63 from rfl, Nat.testBit_two_pow]
      by_cases e : 63 = j
      · subst e
        rw [Nat.testBit_lt_two_pow (by omega)]
        simp
      · simp [e]
    rw [Nat.mul_one, show (2 : Nat) ^ 63 = 9223372036854775808 from rfl] at h1
    rw [h2, Nat.or_comm, ← h1]
    omega
  by_cases hc : n < 9223372036854775808
  · rw [hb n hc]; omega
  · have h3 := hb (n - 9223372036854775808) (by omega)
    have h4 : n = (n - 9223372036854775808) ^^^ 9223372036854775808 := by rw [h3]; omega
    have h5 : n ^^^ 9223372036854775808 = n - 9223372036854775808 := by
      conv => lhs; rw [h4]
      rw [Nat.xor_assoc, Nat.xor_self, Nat.xor_zero]
    rw [h5]
    omega
theorem xor_ordered (i : Int) : bits .xor .u64 (IntKind.u64.wrap i) 9223372036854775808 = ((trn true (toU i) : Nat) : Int) := by
  have h : IntKind.u64.wrap i = ((toU i : Nat) : Int) := by rw [IntKind.wrap_u64]; unfold toU; omega
  rw [h]
  have := bits_xor_u64_nat (toU i) 9223372036854775808 (toU_lt i) (by decide)
  rw [xor_top _ (toU_lt i)] at this
  simpa [trn] using this
theorem own_laid {B : Nat} (w : World) (x : UInt8) (hB : B ≤ w.heap.size) : Own (w.alloc (.cells #[.int .u8 x.toNat] 5)) B (.slice (some ⟨w.heap.size, 0, none⟩) 1 1) [x] :=
  ⟨by simp [u8s], Or.inr ⟨w.heap.size, 1, _, rfl, hB, heap_alloc_new w _, Nat.le_refl _, by decide, by simp, by simp [u8s]⟩⟩
/-- What is written of a row: bytes in memory of the call's own; or none, and why. -/
def encL (f : Bool) (xs : List V) : List UInt8 := if chkR xs = 0 then (if f then wRow true xs else UInt8.ofNat xs.length :: wRow false xs) else []
def Gave (w : World) (l : List UInt8) (n : Int) (e : Ending) (w' : World) : Prop := ∃ v, e = .returned (.tuple #[v, .int .i64 n]) ∧ Own w' w.heap.size v l ∧ Below w.heap.size w w'
theorem chk_okv {xs : List V} (h : chkR xs = 0) (hf : ∀ v ∈ xs, v.fits) : (∀ v ∈ xs, v.okv) ∧ xs.length ≤ 64 := by
  unfold chkR at h
  split at h
  · rename_i ha
    refine ⟨fun v hv => ?_, by split at h <;> omega⟩
    unfold allOk at ha
    rw [List.all_eq_true] at ha
    have h1 := ha v hv
    have h2 := hf v hv
    unfold V.fits at h2
    exact ⟨by simpa using h1, h2.2.2.1, h2.2.2.2⟩
  · cases h
theorem chk_cases (xs : List V) : chkR xs = 0 ∨ chkR xs = 1 ∨ chkR xs = 2 := by unfold chkR; split <;> (try split) <;> simp
set_option maxRecDepth 100000 in
set_option maxHeartbeats 1000000 in
theorem encode_any (xs : List V) (A : Option Addr) (c : Nat) (w : World) (hr : RowAt w w.heap.size A xs) (hf : ∀ v ∈ xs, v.fits) (hw : rowW xs ≤ 1000000) (hm : xs.length ≤ 1000000) (hE : Env w) :
    Calls Tryd.prog 11 #[.slice A xs.length c] w (Gave w (encL false xs) (chkR xs)) := by
  have HC := Lib.hid (checkRow_any xs A c w hr (by omega))
  have HR := Lib.hid hr
  have HE := Lib.hid hE
  have HF := Lib.hid hf
  have HL := Lib.hid (show encL false xs = if chkR xs = 0 then UInt8.ofNat xs.length :: wRow false xs else [] from rfl)
  have hch := chk_cases xs
  have HK := Lib.hid (fun h => chk_okv (xs := xs) h hf)
  generalize encL false xs = E at *
  generalize hcr : chkR xs = r at *
  clear hr hE hf
  by_cases h0 : r = 0
  · subst h0
    obtain ⟨hok, hn⟩ := HK.out rfl
    have HO := Lib.hid hok
    clear hok
    have hlu : (((UInt8.ofNat xs.length).toNat : Nat) : Int) = (xs.length : Int) := by simp; omega
    have HX := HL.out
    rw [if_pos rfl] at HX
    have HX' := Lib.hid HX
    clear HX
    obtain ⟨n, hnn⟩ : ∃ n, n = xs.length := ⟨_, rfl⟩
    rw [← hnn] at HC HX' hlu hn ⊢
    have HN := Lib.hid hnn
    clear hnn
    go_enter Tryd.func11, Tryd.ntmps11
    go_wp2_with fail
    refine HC.out.mono ?_
    rintro e w1 ⟨rfl, hb1⟩
    go_wp2_with fail
    refine (plain_any _).mono ?_
    rintro e w2 ⟨rfl, hb2⟩
    unfold formV
    have hb := bthen hb1 hb2
    have hbs := hb.size
    have hEn : Env w := HE.out
    have HEs := hEn.size
    have hw1 := write_any 0 37 38 false xor_plain w.heap.size (wTxt37 _) enter37 _ [UInt8.ofNat n] xs A c (w2.alloc (.cells #[.int .u8 (UInt8.ofNat n).toNat] 5)) (own_laid w2 (UInt8.ofNat n) hbs) (by simp; omega) HEs ((HR.out.below hb).below ((Below.refl _ w2).alloc hbs _)) HO.out hw (by simp) (by rw [← HN.out]; exact hn) (HE.out.below (hb.alloc hbs _) HEs)
    rw [← HN.out, hlu] at hw1
    have hO1 := own_laid w2 (UInt8.ofNat n) hbs
    rw [hlu] at hO1
    have HO1 := Lib.hid hO1
    clear hO1
    go_wp2_with fail
    refine hw1.mono ?_
    rintro e w3 ⟨v3, rfl, hW3⟩
    have HW := Lib.hid hW3
    clear hW3 hw1
    go_wp2_with fail
    go_ret2
    exact ⟨v3, rfl, by rw [HX'.out]; simpa [HN.out] using HW.out.own, (hb.alloc hbs _).trans (HW.out.below HO1.out (by simp; omega))⟩
  · have h1 : (r != 0) = true := by simpa using h0
    have HX : Hid (E = []) := by have h := HL.out; rw [if_neg h0] at h; exact h
    obtain ⟨n, hnn⟩ : ∃ n, n = xs.length := ⟨_, rfl⟩
    rw [← hnn] at HC ⊢
    clear hnn hch h0 hcr
    go_enter Tryd.func11, Tryd.ntmps11
    go_wp2_with fail
    refine HC.out.mono ?_
    rintro e w1 ⟨rfl, hb1⟩
    go_wp2_with fail
    go_ret2
    exact ⟨_, rfl, by rw [HX.out]; exact Own.nil _ _, hb1⟩
set_option maxRecDepth 100000 in
set_option maxHeartbeats 1000000 in
theorem key_any (xs : List V) (A : Option Addr) (c : Nat) (w : World) (hr : RowAt w w.heap.size A xs) (hf : ∀ v ∈ xs, v.fits) (hw : rowW xs ≤ 1000000) (hm : xs.length ≤ 1000000) (hE : Env w) :
    Calls Tryd.prog 13 #[.slice A xs.length c] w (Gave w (encL true xs) (chkR xs)) := by
  have HC := Lib.hid (checkRow_any xs A c w hr (by omega))
  have HR := Lib.hid hr
  have HE := Lib.hid hE
  have HF := Lib.hid hf
  have HL := Lib.hid (show encL true xs = if chkR xs = 0 then wRow true xs else [] from rfl)
  have hch := chk_cases xs
  have HK := Lib.hid (fun h => chk_okv (xs := xs) h hf)
  generalize encL true xs = E at *
  generalize hcr : chkR xs = r at *
  clear hr hE hf
  by_cases h0 : r = 0
  · subst h0
    obtain ⟨hok, hn⟩ := HK.out rfl
    have HO := Lib.hid hok
    clear hok
    have HX := HL.out
    rw [if_pos rfl] at HX
    have HX' := Lib.hid HX
    clear HX
    obtain ⟨n, hnn⟩ : ∃ n, n = xs.length := ⟨_, rfl⟩
    rw [← hnn] at HC hn ⊢
    have HN := Lib.hid hnn
    clear hnn
    go_enter Tryd.func13, Tryd.ntmps13
    go_wp2_with fail
    refine HC.out.mono ?_
    rintro e w1 ⟨rfl, hb1⟩
    go_wp2_with fail
    refine (ordered_any _).mono ?_
    rintro e w2 ⟨rfl, hb2⟩
    unfold formV
    have hb := bthen hb1 hb2
    have hbs := hb.size
    have hEn : Env w := HE.out
    have HEs := hEn.size
    have hw1 := write_any 9223372036854775808 41 42 true xor_ordered w.heap.size (wTxt41 _) enter41 _ [] xs A c w2 (Own.nil w2 w.heap.size) hbs HEs (HR.out.below hb) HO.out hw (by simp) (by rw [← HN.out]; exact hn) (HE.out.below hb HEs)
    rw [← HN.out] at hw1
    go_wp2_with fail
    refine hw1.mono ?_
    rintro e w3 ⟨v3, rfl, hW3⟩
    have HW := Lib.hid hW3
    clear hW3 hw1
    go_wp2_with fail
    go_ret2
    exact ⟨v3, rfl, by rw [HX'.out]; simpa using HW.out.own, hb.trans (HW.out.below (Own.nil _ _) hbs)⟩
  · have h1 : (r != 0) = true := by simpa using h0
    have HX : Hid (E = []) := by have h := HL.out; rw [if_neg h0] at h; exact h
    obtain ⟨n, hnn⟩ : ∃ n, n = xs.length := ⟨_, rfl⟩
    rw [← hnn] at HC ⊢
    clear hnn hch h0 hcr
    go_enter Tryd.func13, Tryd.ntmps13
    go_wp2_with fail
    refine HC.out.mono ?_
    rintro e w1 ⟨rfl, hb1⟩
    go_wp2_with fail
    go_ret2
    exact ⟨_, rfl, by rw [HX.out]; exact Own.nil _ _, hb1⟩
end Go.Proofs.YtnpemegklndegaaDoor
