/- Contract of guarded: a text with each of the three bytes behind a backslash. Condition: the text is no longer than 1000. -/
import Derived.Test.YtimlkgbhmkmacaaLikLive
namespace Go.Proofs.Ytimlkgbhmkmacaa
open Go.RowKit
theorem bytes_ext {a b : ByteArray} (h : a.data.toList = b.data.toList) : a = b := by
  cases a; cases b
  simp only [ByteArray.mk.injEq]
  exact Array.toList_inj.1 h
def gdS (s : ByteArray) : ByteArray := ⟨(gd s.data.toList).toArray⟩
theorem gdS_list (s : ByteArray) : (gdS s).data.toList = gd s.data.toList := by unfold gdS; simp
theorem gdS_size (s : ByteArray) : (gdS s).size ≤ 2 * s.size := by
  rw [← size_list, gdS_list, ← size_list s]
  exact gd_len _
/-- The text so far: k bytes are guarded. -/
def Gd (s : ByteArray) (k : Nat) (r : ByteArray) : Prop := r.data.toList = gd (s.data.toList.take k)
theorem Gd.done {s r : ByteArray} {k : Nat} (h : Gd s k r) (hk : k = s.size) : r = gdS s := by
  apply bytes_ext
  rw [gdS_list, h, hk, ← size_list, List.take_length]
theorem Gd.step {s r : ByteArray} {k : Nat} (h : Gd s k r) (hk : k < s.data.toList.length) {e : ByteArray} (he : e.data.toList = (if sp s.data.toList[k] then [92, s.data.toList[k]] else [s.data.toList[k]])) : Gd s (k + 1) (r ++ e) := by
  unfold Gd
  rw [List.take_succ_eq_append_getElem hk, gd_snoc, ← h, ByteArray.data_append, Array.toList_append, he]
theorem ext_one (s : ByteArray) (k : Nat) (hk : k < s.data.toList.length) : (s.extract k (k + 1)).data.toList = [s.data.toList[k]] := by
  rw [ext_list, drop_at hk, show k + 1 - k = 1 by omega]; rfl
theorem Gd.yes {s r : ByteArray} {k : Nat} (h : Gd s k r) (hk : k < s.data.toList.length) (hs : sp s.data.toList[k] = true) : Gd s (k + 1) (r ++ ⟨#[92]⟩ ++ s.extract k (k + 1)) := by
  have := h.step hk (e := ⟨#[92]⟩ ++ s.extract k (k + 1)) (by rw [if_pos hs, ByteArray.data_append, Array.toList_append, ext_one s k hk]; rfl)
  rwa [← ByteArray.append_assoc] at this
theorem Gd.no {s r : ByteArray} {k : Nat} (h : Gd s k r) (hk : k < s.data.toList.length) (hs : sp s.data.toList[k] = false) : Gd s (k + 1) (r ++ s.extract k (k + 1)) :=
  h.step hk (by rw [if_neg (by rw [hs]; decide), ext_one s k hk])
theorem Gd.size {s r : ByteArray} {k : Nat} (h : Gd s k r) (hk : k ≤ s.size) : r.size ≤ 2 * k := by
  rw [← size_list, h]
  have := gd_len (s.data.toList.take k)
  rw [List.length_take, size_list] at this
  omega
theorem sp_cases {x : UInt8} : sp x = true → (x.toNat : Int) = 37 ∨ (x.toNat : Int) = 95 ∨ (x.toNat : Int) = 92 := by
  intro h
  rcases sp_iff.1 h with rfl | rfl | rfl <;> simp
theorem sp_not {x : UInt8} (h : sp x = false) : ((x.toNat : Int) == 37) = false ∧ ((x.toNat : Int) == 95) = false ∧ ((x.toNat : Int) == 92) = false := by
  have h' : ¬ (x = 37 ∨ x = 95 ∨ x = 92) := by rw [← sp_iff, h]; decide
  refine ⟨bne_byte (n := 37) (by decide) fun e => h' (Or.inl e), bne_byte (n := 95) (by decide) fun e => h' (Or.inr (Or.inl e)), bne_byte (n := 92) (by decide) fun e => h' (Or.inr (Or.inr e))⟩
set_option maxRecDepth 100000 in
set_option maxHeartbeats 2000000 in
theorem guarded_any (s : ByteArray) (w : World) (hs : s.size ≤ 1000) : Calls Try.prog 14 #[.string s] w fun e w' => e = .returned (.string (gdS s)) ∧ w = w' := by
  have HL : Hid (s.data.toList.length = s.size) := size_list s
  go_enter Try.func14, Try.ntmps14
  go_wp2_with fail
  go_loopg [3, 4] s.size (fun g s3 s4 wx => ∃ (k : Nat) (r : ByteArray), k + g = s.size ∧ s4 = .int .i64 k ∧ s3 = .string r ∧ r.size ≤ 2 * k ∧ Hid (Gd s k r) ∧ w = wx)
  case atStart => exact ⟨0, ⟨#[]⟩, by omega, rfl, rfl, Nat.le_refl _, rfl, rfl⟩
  case round =>
    obtain ⟨k, r, hkg, rfl, rfl, hrs, HG, rfl⟩ := hrel
    cases gk with
    | zero =>
      have hkz : ¬ ((k : Int) < (s.size : Int)) := by omega
      go_wp2_with fail
      go_ret
      exact ⟨by rw [HG.out.done (by omega)]; rfl, rfl⟩
    | succ g =>
      have hkz : (k : Int) < (s.size : Int) := by omega
      have hkl : k < s.data.toList.length := by rw [HL.out]; omega
      obtain ⟨x, hx⟩ : ∃ x, x = s[k]'(by omega) := ⟨_, rfl⟩
      have HX : Hid (s.data.toList[k] = x) := hx.symm
      cases hsp : sp x
      · obtain ⟨e1, e2, e3⟩ := sp_not hsp
        have HN := Lib.hid (HG.out.no hkl (by rw [HX.out]; exact hsp))
        have HZ := Lib.hid (HN.out.size (by omega))
        clear hsp
        subst hx
        go_wp2_with fail
        go_roundg g
        case measure => omega
        case rel => exact ⟨k + 1, _, by omega, by go_num, rfl, HZ.out, HN.out, rfl⟩
      · have hc := sp_cases hsp
        have HN := Lib.hid (HG.out.yes hkl (by rw [HX.out]; exact hsp))
        have HZ := Lib.hid (HN.out.size (by omega))
        clear hsp
        subst hx
        rcases hc with hc | hc | hc
        all_goals
          go_wp2_with fail
          go_roundg g
          case measure => omega
          case rel => exact ⟨k + 1, _, by omega, by go_num, rfl, HZ.out, HN.out, rfl⟩
end Go.Proofs.Ytimlkgbhmkmacaa
