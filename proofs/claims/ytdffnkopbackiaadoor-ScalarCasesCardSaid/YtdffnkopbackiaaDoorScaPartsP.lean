/- Plain facts on a text's pieces: its first bytes and the others, joined, are the text; a piece that is found stands where it is found. No condition but on lengths. -/
import Derived.Test.YtdffnkopbackiaaDoorScaHeld
import Derived.Lib.IndexMore
namespace Go.Proofs.YtdffnkopbackiaaDoor
theorem bytes_ext {a b : ByteArray} (h : a.data.toList = b.data.toList) : a = b := by
  cases a; cases b
  simp only [ByteArray.mk.injEq]
  exact Array.toList_inj.1 h
theorem ext_list (s : ByteArray) (i j : Nat) : (s.extract i j).data.toList = (s.data.toList.drop i).take (j - i) := by
  exact Lib.extract_data s i j
theorem size_list (s : ByteArray) : s.data.toList.length = s.size := by simp
/-- The pieces of the law, by one number m. -/
theorem parts (s : ByteArray) (n : Int) (h0 : 0 ≤ n) (h1 : s.size ≤ 3000) : ∃ m : Nat, m ≤ s.size ∧ (m : Int) ≤ n ∧ pc s 1 n = s.extract 0 m ∧ pc s (n + 1) 5000 = s.extract m s.size := by
  refine ⟨(min n s.size).toNat, by omega, by omega, ?_, ?_⟩
  · unfold pc
    rw [show pcA s.size 1 = 0 by unfold pcA; omega, show pcB s.size 1 n = (min n s.size).toNat by unfold pcB; split <;> omega]
  · unfold pc
    rw [show pcA s.size (n + 1) = (min n s.size).toNat by unfold pcA; omega, show pcB s.size (n + 1) 5000 = s.size by unfold pcB; rw [if_neg (by omega)]]
theorem parts_join (s : ByteArray) (m : Nat) (hm : m ≤ s.size) : s.extract 0 m ++ s.extract m s.size = s ∧ (s.extract 0 m).size + (s.extract m s.size).size = s.size := by
  constructor
  · apply bytes_ext
    rw [ByteArray.data_append, Array.toList_append, ext_list, ext_list, List.drop_zero, Nat.sub_zero, List.take_of_length_le (l := s.data.toList.drop m) (by rw [List.length_drop, size_list]; exact Nat.le_refl _)]
    exact List.take_append_drop m _
  · rw [ByteArray.size_extract, ByteArray.size_extract]; omega
/-- Where the later part is found. -/
theorem parts_found (s : ByteArray) (m : Nat) (hm : m ≤ s.size) : ∃ i : Nat, Lib.index s.data.toList (s.extract m s.size).data.toList = i ∧ i ≤ m ∧ pc s ((i : Int) + 1) (s.extract m s.size).size = s.extract m s.size := by
  have hb : (s.extract m s.size).data.toList = s.data.toList.drop m := by
    rw [ext_list, List.take_of_length_le (by rw [List.length_drop, size_list]; exact Nat.le_refl _)]
  have hocc : Lib.occAt s.data.toList (s.extract m s.size).data.toList m = true := by
    unfold Lib.occAt
    rw [hb]
    simp
  have hls : s.data.toList.length = s.size := size_list s
  rcases Lib.index_spec s.data.toList (s.extract m s.size).data.toList with ⟨_, hno⟩ | ⟨i, hi, hil, hio, hfar⟩
  · have := hno m (by omega)
    rw [hocc] at this
    cases this
  · refine ⟨i, hi, ?_, ?_⟩
    · rcases Nat.lt_or_ge m i with h | h
      · have := hfar m h
        rw [hocc] at this
        cases this
      · exact h
    · have hroom := Lib.index_room s.data.toList (s.extract m s.size).data.toList (by rw [hi]; omega)
      rw [hi, size_list, hls] at hroom
      have hpre : (s.extract m s.size).data.toList <+: s.data.toList.drop i := by
        unfold Lib.occAt at hio
        exact List.isPrefixOf_iff_prefix.1 hio
      have hsz : (s.extract m s.size).data.toList.length = (s.extract m s.size).size := size_list _
      generalize s.extract m s.size = b at *
      unfold pc
      rw [show pcA s.size ((i : Int) + 1) = i by unfold pcA; omega, show pcB s.size ((i : Int) + 1) b.size = i + b.size by unfold pcB; split <;> omega]
      apply bytes_ext
      rw [ext_list, show i + b.size - i = b.size by omega]
      obtain ⟨t, ht⟩ := hpre
      rw [← ht, List.take_left' hsz]
end Go.Proofs.YtdffnkopbackiaaDoor
