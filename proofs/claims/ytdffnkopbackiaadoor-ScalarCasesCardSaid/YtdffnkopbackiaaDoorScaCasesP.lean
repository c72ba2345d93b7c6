/- Plain facts on letters turned and texts trimmed: turned back nothing but letters has changed; trimmed again nothing changes, and neither end is a blank. No condition. -/
import Derived.Test.YtdffnkopbackiaaDoorScaTextDo
import Derived.Test.YtdffnkopbackiaaDoorScaPartsP
namespace Go.Proofs.YtdffnkopbackiaaDoor
open Go.RowKit
theorem push_list : ∀ (l : List Int) (r : ByteArray), (l.foldl (fun r n => r.push (UInt8.ofNat n.toNat)) r).data.toList = r.data.toList ++ l.map fun n => UInt8.ofNat n.toNat
  | [], r => by simp
  | a :: l, r => by
    rw [List.foldl_cons, push_list l]
    simp
theorem tb_list (f : Nat) (s : ByteArray) : (turnedB f s).data.toList = (List.range s.size).map fun j => UInt8.ofNat (tog f (byteAt s j)) := by
  unfold turnedB turnedL
  rw [push_list]
  simp
theorem tb_size (f : Nat) (s : ByteArray) : (turnedB f s).size = s.size := by
  rw [← size_list, tb_list]; simp
theorem tog_lt {f : Nat} (hf : f = 65 ∨ f = 97) : ∀ c : Nat, c < 256 → tog f c < 256 := by
  rcases hf with rfl | rfl <;> decide +kernel
theorem tog_two : ∀ c : Nat, c < 256 → tog 97 (tog 65 c) = tog 97 c ∧ tog 65 (tog 97 c) = tog 65 c := by decide +kernel
theorem tb_at {f : Nat} (hf : f = 65 ∨ f = 97) (s : ByteArray) (j : Nat) (hj : j < s.size) : byteAt (turnedB f s) j = tog f (byteAt s j) := by
  have h1 := tog_lt hf _ (byte_lt s j)
  have e : (turnedB f s).data.toList.getD j 0 = UInt8.ofNat (tog f (byteAt s j)) := by
    rw [tb_list]
    simp [List.getD, hj]
  show ((turnedB f s).data.toList.getD j 0).toNat = _
  rw [e, UInt8.toNat_ofNat']
  exact Nat.mod_eq_of_lt h1
theorem tb_tb {f g : Nat} (hf : f = 65 ∨ f = 97) (s : ByteArray) (h : ∀ c, c < 256 → tog g (tog f c) = tog g c) : turnedB g (turnedB f s) = turnedB g s := by
  apply bytes_ext
  rw [tb_list, tb_list, tb_size]
  apply List.map_congr_left
  intro j hj
  rw [List.mem_range] at hj
  rw [tb_at hf s j hj, h _ (byte_lt s j)]
theorem up_low (s : ByteArray) : turnedB 97 (turnedB 65 s) = turnedB 97 s := tb_tb (Or.inl rfl) s fun c hc => (tog_two c hc).1
theorem low_up (s : ByteArray) : turnedB 65 (turnedB 97 s) = turnedB 65 s := tb_tb (Or.inr rfl) s fun c hc => (tog_two c hc).2
theorem drop_head (c : UInt8) : ∀ (l : List UInt8) x, (l.dropWhile (· == c)).head? = some x → x ≠ c
  | [], x, h => by simp at h
  | a :: l, x, h => by
    by_cases e : a = c
    · subst e
      simp at h
      exact drop_head a l x h
    · rw [List.dropWhile_cons_of_neg (by simpa using e)] at h
      simp at h
      subst h
      exact e
theorem drop_id (c : UInt8) (l : List UInt8) (h : ∀ x, l.head? = some x → x ≠ c) : l.dropWhile (· == c) = l := by
  cases l with
  | nil => rfl
  | cons a l => rw [List.dropWhile_cons_of_neg (by simpa using h a rfl)]
theorem drop_last (c : UInt8) : ∀ (l : List UInt8) x, (l.dropWhile (· == c)).getLast? = some x → l.getLast? = some x
  | [], x, h => by simp at h
  | a :: l, x, h => by
    by_cases e : a = c
    · subst e
      simp at h
      have := drop_last a l x h
      rw [List.getLast?_cons, this]
      rfl
    · rwa [List.dropWhile_cons_of_neg (by simpa using e)] at h
theorem trim_two (l : List UInt8) (c : UInt8) : (∀ x, (Lib.trimB l c).head? = some x → x ≠ c) ∧ (∀ x, (Lib.trimB l c).getLast? = some x → x ≠ c) := by
  unfold Lib.trimB Lib.trimLeftB Lib.trimRightB
  refine ⟨fun x h => drop_head c _ x h, fun x h => ?_⟩
  have h1 := drop_last c _ x h
  rw [List.getLast?_reverse] at h1
  exact drop_head c _ x h1
theorem trim_again (l : List UInt8) (c : UInt8) (h : (∀ x, l.head? = some x → x ≠ c) ∧ (∀ x, l.getLast? = some x → x ≠ c)) : Lib.trimB l c = l := by
  unfold Lib.trimB Lib.trimLeftB Lib.trimRightB
  rw [drop_id c l.reverse (fun x hx => h.2 x (by rwa [List.head?_reverse] at hx)), List.reverse_reverse, drop_id c l h.1]
theorem trim_idem (s : ByteArray) : trimS (trimS s) = trimS s := by
  apply bytes_ext
  show Lib.trimB (Lib.trimB s.data.toList 32) 32 = Lib.trimB s.data.toList 32
  exact trim_again _ 32 (trim_two _ 32)
theorem drop_len (c : UInt8) : ∀ l : List UInt8, (l.dropWhile (· == c)).length ≤ l.length := fun _ => (List.dropWhile_suffix _).length_le
theorem trim_size (s : ByteArray) : (trimS s).size ≤ s.size := by
  rw [← size_list (trimS s), ← size_list s]
  show (Lib.trimB s.data.toList 32).length ≤ _
  unfold Lib.trimB Lib.trimLeftB Lib.trimRightB
  have h1 := drop_len 32 (s.data.toList.reverse.dropWhile (· == 32)).reverse
  have h2 := drop_len 32 s.data.toList.reverse
  simp only [List.length_reverse] at h1 h2
  omega
theorem ends_of (t : ByteArray) (h : 0 < t.size) (h2 : (∀ x, t.data.toList.head? = some x → x ≠ 32) ∧ (∀ x, t.data.toList.getLast? = some x → x ≠ 32)) : (t[0]'h).toNat ≠ 32 ∧ (t[t.size - 1]'(by omega)).toNat ≠ 32 := by
  obtain ⟨⟨l⟩⟩ := t
  have hs : (⟨⟨l⟩⟩ : ByteArray).size = l.length := rfl
  simp only at h2
  rw [hs] at h
  constructor
  · have := h2.1 (l[0]'h) (by cases l with | nil => simp at h | cons a l => rfl)
    intro e
    exact this (UInt8.toNat_inj.1 e)
  · have := h2.2 (l[l.length - 1]'(by omega)) (by rw [List.getLast?_eq_getElem?]; simp)
    intro e
    exact this (UInt8.toNat_inj.1 e)
theorem trim_ends (s : ByteArray) (h : 0 < (trimS s).size) : ((trimS s)[0]'h).toNat ≠ 32 ∧ ((trimS s)[(trimS s).size - 1]'(by omega)).toNat ≠ 32 :=
  ends_of _ h (trim_two s.data.toList 32)
end Go.Proofs.YtdffnkopbackiaaDoor
