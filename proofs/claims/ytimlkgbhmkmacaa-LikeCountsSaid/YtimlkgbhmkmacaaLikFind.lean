/- Contract of like's find: the first place of a text from which a piece stands. Conditions: the text and the piece are no longer than 2000. -/
import Derived.Test.YtimlkgbhmkmacaaLikCut
import Derived.Deep.LoopGhost
import Derived.WalkMore
namespace Go.Proofs.Ytimlkgbhmkmacaa
open Go.RowKit
/-- What is known while a place is tried: the piece's first k units stand. -/
theorem fits_no {p : List Int} {l : List UInt8} {i k : Nat} (hk : k < p.length) (hi : i + k < l.length) (h : okU p[k] l[i + k] = false) : fits p (l.drop i) = false := by
  cases e : fits p (l.drop i) with
  | false => rfl
  | true =>
    have h1 := (fits_at.1 e).2 k hk (by rw [List.length_drop]; omega)
    rw [List.getElem_drop, h] at h1
    cases h1
theorem fits_yes {p : List Int} {l : List UInt8} {i : Nat} (hi : i + p.length ≤ l.length) (h : ∀ k (hk : k < p.length) (hl : i + k < l.length), okU p[k] l[i + k] = true) : fits p (l.drop i) = true := by
  rw [fits_at]
  refine ⟨by rw [List.length_drop]; omega, fun k hk hl => ?_⟩
  rw [List.getElem_drop]
  exact h k hk (by rw [List.length_drop] at hl; omega)
theorem fndI_at {p : List Int} {l : List UInt8} {i : Nat} (h1 : fits p (l.drop i) = true) (h2 : ∀ j, j < i → fits p (l.drop j) = false) : (i : Int) = fndI p l := by
  unfold fndI; rw [fnd_at h1 h2]
theorem fndI_no {p : List Int} {l : List UInt8} {i : Nat} (hi : l.length < i + p.length) (h2 : ∀ j, j < i → fits p (l.drop j) = false) : (-1 : Int) = fndI p l := by
  unfold fndI
  rw [fnd_no (fun j hj => ?_)]
  by_cases e : j < i
  · exact h2 j e
  · cases e2 : fits p (l.drop j) with
    | false => rfl
    | true =>
      have := fits_len e2
      rw [List.length_drop] at this
      omega
theorem all_step {P : Nat → Prop} {k : Nat} (h : ∀ j, j < k → P j) (h0 : P k) : ∀ j, j < k + 1 → P j := by
  intro j hj
  by_cases e : j = k
  · subst e; exact h0
  · exact h j (by omega)
theorem get_list (s : ByteArray) (i : Nat) (h : i < s.size) : s.data.toList[i]'(by simpa using h) = s[i] := rfl
/-- What is known of a place while it is tried. -/
def Stood (p : List Int) (l : List UInt8) (i k : Nat) : Prop := ∀ j (hj : j < p.length) (hl : i + j < l.length), j < k → okU p[j] l[i + j] = true
theorem Stood.step {p : List Int} {l : List UInt8} {i k : Nat} (h : Stood p l i k) (hk : k < p.length) (hl : i + k < l.length) (h0 : okU p[k] l[i + k] = true) : Stood p l i (k + 1) := by
  intro j hj hl' hjk
  by_cases e : j = k
  · subst e; exact h0
  · exact h j hj hl' (by omega)
theorem wrap_byte (x : UInt8) : IntKind.i16.wrap (x.toNat : Int) = x.toNat := by
  have := UInt8.toNat_lt x
  simp [IntKind.wrap, IntKind.bits, IntKind.signed]; omega
theorem ok_no {u : Int} {x : UInt8} (h1 : ¬ u = -1) (h : (u != IntKind.i16.wrap (x.toNat : Int)) = true) : okU u x = false := by
  rw [wrap_byte] at h
  unfold okU
  simp at h ⊢
  exact ⟨h1, h⟩
theorem ok_yes {u : Int} {x : UInt8} (h : (u != IntKind.i16.wrap (x.toNat : Int)) = false) : okU u x = true := by
  rw [wrap_byte] at h
  unfold okU
  simp at h ⊢
  exact Or.inr h
theorem ok_one {u : Int} {x : UInt8} (h : u = -1) : okU u x = true := by unfold okU; simp [h]
set_option maxRecDepth 100000 in
set_option maxHeartbeats 2000000 in
theorem find_any (p : List Int) (s : ByteArray) (A : Option Addr) (c : Nat) (w : World) (h : UAt w A p) (hm : p.length ≤ 2000) (hs : s.size ≤ 2000) :
    Calls Try.prog 20 #[.string s, .slice A p.length c] w fun e w' => e = .returned (.int .i64 (fndI p s.data.toList)) ∧ w = w' := by
  obtain ⟨n, hn⟩ : ∃ n, n = p.length := ⟨_, rfl⟩
  have HN := Lib.hid hn
  rw [← hn] at hm ⊢
  clear hn
  have HU := Lib.hid h
  clear h
  have HL : Hid (s.data.toList.length = s.size) := size_list s
  go_enter Try.func20, Try.ntmps20
  go_wp2_with fail
  go_step3
  go_wp2_with fail
  go_step3
  go_wp2_with fail
  go_loopg [14] (s.size + 1 - n) (fun g s14 wx => ∃ i : Nat, i + g = s.size + 1 - n ∧ s14 = .int .i64 i ∧ Hid (∀ j, j < i → fits p (s.data.toList.drop j) = false) ∧ w = wx)
  case atStart => exact ⟨0, by omega, rfl, fun j hj => by omega, rfl⟩
  case round =>
    obtain ⟨i, hig, rfl, HI, rfl⟩ := hrel
    cases gk with
    | zero =>
      have hiz : ¬ ((i : Int) < (s.size : Int) - (n : Int) + 1) := by omega
      go_wp2_with fail
      try rw [Exit.noGoto_ret]
      go_ret
      exact ⟨ret_int (fndI_no (i := i) (by rw [HL.out, ← HN.out]; omega) HI.out), rfl⟩
    | succ g =>
      have hiz : (i : Int) < (s.size : Int) - (n : Int) + 1 := by omega
      go_wp2_with fail
      go_loopg [19] n (fun g2 s19 wy => ∃ k : Nat, k + g2 = n ∧ s19 = .int .i64 k ∧ Hid (Stood p s.data.toList i k) ∧ w = wy)
      case atStart => exact ⟨0, by omega, rfl, fun j hj hl hjk => by omega, rfl⟩
      case round =>
        obtain ⟨k, hkg, rfl, HK, rfl⟩ := hrel
        cases gk with
        | zero =>
          have hkz : ¬ ((k : Int) < (n : Int)) := by omega
          go_wp2_with fail
          try rw [Exit.noGoto_ret]
          go_ret
          exact ⟨ret_int (fndI_at (fits_yes (by rw [HL.out, ← HN.out]; omega) (fun j hj hl => HK.out j hj hl (by rw [← HN.out] at hj; omega))) HI.out), rfl⟩
        | succ g2 =>
          have hkz : (k : Int) < (n : Int) := by omega
          have hkp : k < p.length := by rw [← HN.out]; omega
          obtain ⟨b, off, hA, hbl, hc⟩ := HU.out (by omega)
          subst hA
          have d1 := hc k hkp
          clear hc
          by_cases h1 : p[k] = -1
          · rw [h1] at d1
            have H1 := Lib.hid h1
            clear h1
            go_wp2_with fail
            go_roundg g2
            case measure => omega
            case rel => exact ⟨k + 1, by omega, by go_num, HK.out.step hkp (by rw [HL.out]; omega) (ok_one H1.out), rfl⟩
          · have H1 := Lib.hid h1
            have h2 : (p[k] != -1) = true := by simpa using h1
            clear h1
            obtain ⟨u, hu⟩ : ∃ u, u = p[k] := ⟨_, rfl⟩
            rw [← hu] at d1 h2 H1
            have HP := Lib.hid hu
            clear hu
            go_wp2_with fail
            · go_roundg g
              case measure => omega
              case rel => exact ⟨i + 1, by omega, by go_num, all_step HI.out (fits_no hkp (by rw [HL.out]; omega) (by rw [← HP.out]; exact ok_no H1.out (by assumption))), rfl⟩
            · go_roundg g2
              case measure => omega
              case rel => exact ⟨k + 1, by omega, by go_num, HK.out.step hkp (by rw [HL.out]; omega) (by rw [← HP.out]; exact ok_yes (by assumption)), rfl⟩
end Go.Proofs.Ytimlkgbhmkmacaa
