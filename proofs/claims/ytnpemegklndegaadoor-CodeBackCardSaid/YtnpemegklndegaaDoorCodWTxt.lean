/- Contracts of code's writeCounted and writeEnded: a text's bytes behind bytes that the caller owns. Conditions: texts of no more than a million bytes; for writeEnded that the library's one variable that is read is there. -/
import Derived.Test.YtnpemegklndegaaDoorCodWrote
import Derived.Test.YtnpemegklndegaaDoorShelf
import Derived.Lib.Replace
namespace Go.Proofs.YtnpemegklndegaaDoor
open Go.RowKit
set_option maxRecDepth 100000 in
set_option maxHeartbeats 400000 in
theorem writeCounted_any (B : Nat) (v : Value) (l : List UInt8) (s : ByteArray) (w : World) (ho : Own w B v l) (hB : B ≤ w.heap.size) (hl : l.length ≤ 10000000) (hs : s.size ≤ 1000000) :
    Calls Tryd.prog 37 #[v, .string s] w fun e w' => ∃ v', e = .returned v' ∧ Wrote w B v v' (l ++ wTxt false s.data.toList) w' := by
  have H0 := Lib.hid (Wrote.refl ho)
  clear ho
  have hse : s.data.toList.length = s.size := by simp
  have hsp := fun w => split_any s.size w (by omega)
  unfold arrV at hsp
  go_enter Tryd.func37, Tryd.ntmps37
  go_wp2_with fail
  refine (hsp _).mono ?_
  rintro e w1 ⟨rfl, hb1⟩
  obtain ⟨v2, w2, hr2, hW2⟩ := ((H0.out.call hb1).alloc (arrO s.size 65)).app (be s.size 4) (some ⟨w1.heap.size, 4, none⟩) 4 (by have := (arr_bytes w1 s.size 65).drop 4; rw [arr_drop] at this; exact this) (by rw [be_length]; omega) hB
  obtain ⟨v3, w3, hr3, hW3⟩ := hW2.str s (by rw [List.length_append, be_length]; omega) hB
  have HW := Lib.hid hW3
  rw [be_length] at hr2
  unfold arrO at hr2
  clear hW2 hW3 hsp
  go_wp2_with (at_builtin; first | (refine Lib.wpList_append_run_sl _ rfl _ _ 26 rfl _ _ rfl rfl hr2 ?_) | (refine append_run_str _ rfl _ _ 26 9 rfl _ _ rfl rfl hr3 ?_))
  go_ret
  exact ⟨_, rfl, by have h := HW.out; rw [List.append_assoc] at h; simpa [wTxt] using h⟩
def nul : ByteArray := ⟨#[0]⟩
theorem index_cons_ne {b c : UInt8} {l : List UInt8} {i : Nat} (h : b ≠ c) (hi : Lib.index l [c] = i) : Lib.index (b :: l) [c] = ((i + 1 : Nat) : Int) := by
  unfold Lib.index
  have h0 : [c].isPrefixOf (b :: l) = false := by simp [List.isPrefixOf]; intro e; exact h e.symm
  rw [h0, hi]
  have : ((i : Int) == -1) = false := by rw [beq_eq_false_iff_ne]; omega
  simp [this]
theorem repl_core (l : List UInt8) : Lib.replaceK [0] [0, 255] (l.count 0) l = esc l := by
  induction l with
  | nil => rfl
  | cons b l ih =>
    by_cases h : b = 0
    · subst h
      rw [List.count_cons_self, Lib.replaceK_hit [0] [0, 255] (l.count 0) (0 :: l) 0 (by unfold Lib.index; simp [List.isPrefixOf])]
      simp only [List.take_zero, List.length_cons, List.length_nil, List.drop_succ_cons, List.drop_zero, Nat.zero_add]
      rw [ih, esc_cons]
      rfl
    · rw [List.count_cons_of_ne (by simpa using h), esc_cons, if_neg h]
      cases hn : l.count 0 with
      | zero =>
        rw [hn] at ih
        simp only [Lib.replaceK] at ih ⊢
        rw [← ih]
        rfl
      | succ k =>
        rw [hn] at ih
        obtain ⟨i, hi⟩ := Lib.index_of_count (s := l) (old := [0]) (by rw [Lib.count_one, hn]; omega)
        rw [Lib.replaceK_hit _ _ k l i hi] at ih
        rw [Lib.replaceK_hit _ _ k (b :: l) (i + 1) (index_cons_ne h hi), ← ih]
        simp
theorem repl_eq (l : List UInt8) : Lib.replaceAll l [0] [0, 255] = esc l := by
  unfold Lib.replaceAll Lib.replace Lib.replaceNum
  rw [if_neg (by decide), if_pos (Or.inl (by decide)), Lib.count_one]
  exact repl_core l
/-- What the library's variable that is read holds. -/
structure Env (w : World) : Prop where
  size : 1 ≤ w.heap.size
  max : ∃ m, w.cell? ⟨0, 0, none⟩ = some (.int .i64 m)
theorem Env.below {w w' : World} {B : Nat} (h : Env w) (hb : Below B w w') (hB : 1 ≤ B) : Env w' where
  size := Nat.le_trans h.size hb.size
  max := by
    obtain ⟨m, hm⟩ := h.max
    exact ⟨m, (hb.cell (p := ⟨0, 0, none⟩) (by show 0 < B; omega)).trans hm⟩
theorem repl_any (s : ByteArray) (w : World) (hE : Env w) (hs : s.size ≤ 1000000) :
    Calls Tryd.prog 48 #[.string s, .string ⟨#[0]⟩, .string ⟨#[0, 255]⟩] w fun e w' => e = .returned (.string ⟨(esc s.data.toList).toArray⟩) ∧ Below w.heap.size w w' := by
  obtain ⟨m, hm⟩ := hE.max
  have h := Tryd.strings_ReplaceAll s ⟨#[0]⟩ ⟨#[0, 255]⟩ m w (by omega) hm (by decide) (by
    have : Lib.countB s ⟨#[0]⟩ ≤ s.size := by
      show Lib.count s.data.toList [0] ≤ _
      rw [Lib.count_one]
      have := List.count_le_length (a := (0 : UInt8)) (l := s.data.toList)
      simpa using this
    show s.size + Lib.countB s ⟨#[0]⟩ * 2 ≤ _
    omega)
  rw [show (⟨#[0]⟩ : ByteArray).data.toList = [0] from rfl, show (⟨#[0, 255]⟩ : ByteArray).data.toList = [0, 255] from rfl, repl_eq] at h
  exact h
set_option maxRecDepth 100000 in
set_option maxHeartbeats 400000 in
theorem writeEnded_any (B : Nat) (v : Value) (l : List UInt8) (s : ByteArray) (w : World) (ho : Own w B v l) (hB : B ≤ w.heap.size) (hl : l.length ≤ 10000000) (hs : s.size ≤ 1000000) (hE : Env w) :
    Calls Tryd.prog 41 #[v, .string s] w fun e w' => ∃ v', e = .returned v' ∧ Wrote w B v v' (l ++ wTxt true s.data.toList) w' := by
  have H0 := Lib.hid (Wrote.refl ho)
  clear ho
  have hse : s.data.toList.length = s.size := by simp
  have hre := esc_len s.data.toList
  have HR := Lib.hid (repl_any s w hE hs)
  clear hE
  go_enter Tryd.func41, Tryd.ntmps41
  go_wp2_with fail
  refine HR.out.mono ?_
  rintro e w1 ⟨rfl, hb1⟩
  obtain ⟨v2, w2, hr2, hW2⟩ := (H0.out.call hb1).str ⟨(esc s.data.toList).toArray⟩ (by show _ + (esc s.data.toList).toArray.size ≤ _; rw [List.size_toArray]; omega) hB
  obtain ⟨v3, w3, hr3, hW3⟩ := hW2.two 0 0 (by rw [List.length_append]; show _ + (esc s.data.toList).toArray.toList.length ≤ _; rw [List.toList_toArray]; omega) hB
  have HW := Lib.hid hW3
  simp only [UInt8.toNat_zero] at hr3
  clear hW2 hW3
  go_wp2_with (at_builtin; first | (refine Lib.wpList_append_run_sl _ rfl _ _ 26 rfl _ _ rfl rfl hr3 ?_) | (refine append_run_str _ rfl _ _ 26 9 rfl _ _ rfl rfl hr2 ?_))
  go_ret
  exact ⟨_, rfl, by have h := HW.out; rw [List.append_assoc] at h; simpa [wTxt] using h⟩
end Go.Proofs.YtnpemegklndegaaDoor
