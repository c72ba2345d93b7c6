/- Contract of like's Prefix, by a pattern's units. Condition: the pattern is no longer than 2000. -/
import Derived.Test.YtimlkgbhmkmacaaLikLike
import Derived.Laws.BytesString
import Derived.Laws.BytesArg
import Derived.Laws.IdiomStrings
import Derived.Lib.UnsafeStr
namespace Go.Proofs.Ytimlkgbhmkmacaa
open Go.RowKit
theorem info5 : (Try.prog.info? 5).map (fun i => (i.zero, i.size, i.bytes)) = some (some (.int .u8 0), 1, 1) := by kernel_rfl
/-- Bytes that a call has made, as a text. -/
theorem back_own {w : World} {B : Nat} {v : Value} {l : List UInt8} (h : w.ownsRow B 5 1 v l.length (Lib.byteCells l)) : (convert 43 9 v).run Try.prog w = .ok (.string ⟨l.toArray⟩) w := by
  rcases h.2 with ⟨hv, h0⟩ | ⟨g, cap, cur, hv, _, hg, hn, _⟩
  · have : l = [] := List.eq_nil_of_length_eq_zero h0
    subst this
    rw [hv]
    exact run_convert_bytes_nil w 43 5 Try.underlying43 Try.underlying5 0 0 9 Try.underlying9
  · rw [hv]
    refine run_convert_bytes_back w 43 9 5 ⟨g, 0, none⟩ cap l Try.underlying43 Try.underlying5 Try.underlying9 fun j hj => ?_
    exact h.cells (g := g) (by rw [hv]; rfl) j _ (by simp [Lib.byteCells, hj])
theorem own_slice {w : World} {B : Nat} {e : TypeId} {n : Nat} {v : Value} {xs : List Value} (h : w.ownsRow B e 1 v n xs) : ∃ A c, v = .slice A n c := by
  rcases h.2 with ⟨hv, h0⟩ | ⟨g, cap, cur, hv, _⟩
  · exact ⟨none, 0, by rw [hv, h0]⟩
  · exact ⟨_, _, hv⟩
theorem wrap_u8 (y : UInt8) : IntKind.u8.wrap (y.toNat : Int) = y.toNat := by
  have := UInt8.toNat_lt y
  exact IntWalk.u8_in _ (by omega)
theorem bytes_snoc (l : List UInt8) (y : UInt8) : Lib.byteCells l ++ [.int .u8 y.toNat] = Lib.byteCells (l ++ [y]) := by simp [Lib.byteCells]
theorem own_byte {w w1 w2 : World} {B C : Nat} {v v' : Value} {l : List UInt8} {y : UInt8} {o : Obj} (hC : C ≤ B) (hB : Below C w w1) (hBw : B ≤ w1.heap.size) (hown : w1.ownsRow B 5 1 v l.length (Lib.byteCells l)) (hown' : w2.ownsRow B 5 1 v' (l.length + 1) (Lib.byteCells l ++ [.int .u8 y.toNat])) (hgrow : (w1.alloc o).grownBy w2 v.ownBlock) :
    w2.ownsRow B 5 1 v' (l ++ [y]).length (Lib.byteCells (l ++ [y])) ∧ Below C w w2 :=
  ⟨by rw [← bytes_snoc, List.length_append]; exact hown', (hB.alloc (by omega) _).grown hgrow (by simp; omega) (fun k hk => by have := (hown.lt k hk).1; omega)⟩
/-- The first k units, none of which is for many or one, as bytes. -/
def Pre (us : List Int) (k : Nat) (l : List UInt8) : Prop := l = (us.take k).map (fun u => UInt8.ofNat u.toNat) ∧ ∀ j (hj : j < us.length), j < k → ¬ (us[j] = -1 ∨ us[j] = -2)
theorem Pre.step {us : List Int} {k : Nat} {l : List UInt8} {y : UInt8} (h : Pre us k l) (hk : k < us.length) (hy : us[k] = (y.toNat : Int)) : Pre us (k + 1) (l ++ [y]) := by
  refine ⟨?_, fun j hj hjk => ?_⟩
  · rw [List.take_succ_eq_append_getElem hk, List.map_append, ← h.1, List.map_singleton, hy]
    simp
  · by_cases e : j = k
    · subst e; rw [hy]; omega
    · exact h.2 j hj (by omega)
theorem Pre.stop {us : List Int} {k : Nat} {l : List UInt8} (h : Pre us k l) (hk : k < us.length) (hu : us[k] = -1 ∨ us[k] = -2) : pre us = (l, false) := by
  rw [pre_step hk h.2 hu, h.1]
theorem Pre.whole {us : List Int} {k : Nat} {l : List UInt8} (h : Pre us k l) (hk : k = us.length) : pre us = (l, true) := by
  rw [pre_whole (fun j hj => h.2 j hj (by omega)), h.1, hk, List.take_length]
set_option maxHeartbeats 1000000 in
theorem prefix_none (p : ByteArray) (w : World) (hp : p.size ≤ 2000) (h : rd p.data.toList = none) :
    Calls Try.prog 10 #[.string p] w fun e w' => e = .returned (.tuple #[.string ⟨#[]⟩, .bool false]) ∧ Below w.heap.size w w' := by
  have HR := Lib.hid (read_none p w hp h)
  clear h
  go_enter Try.func10, Try.ntmps10
  go_wp2_with fail
  refine HR.out.mono ?_
  rintro e w1 ⟨rfl, hb1⟩
  go_wp2_with fail
  go_ret2
  exact ⟨rfl, hb1⟩
def preS (us : List Int) : ByteArray := ⟨(pre us).1.toArray⟩
theorem preS_of {us : List Int} {l : List UInt8} {b : Bool} (h : pre us = (l, b)) : (⟨l.toArray⟩ : ByteArray) = preS us ∧ b = (pre us).2 := by unfold preS; rw [h]; exact ⟨rfl, rfl⟩
theorem ret_sb {a a' : ByteArray} {b b' : Bool} (h : a = a' ∧ b = b') : Ending.returned (.tuple #[.string a, .bool b]) = .returned (.tuple #[.string a', .bool b']) := by rw [h.1, h.2]
set_option maxRecDepth 100000 in
set_option maxHeartbeats 2000000 in
theorem prefix_some (p : ByteArray) (us : List Int) (w : World) (hp : p.size ≤ 2000) (h : rd p.data.toList = some us) :
    Calls Try.prog 10 #[.string p] w fun e w' => e = .returned (.tuple #[.string (preS us), .bool (pre us).2]) ∧ Below w.heap.size w w' := by
  obtain ⟨i0, hi, hz0, hz1, hz2⟩ := info_parts info5
  have HR := Lib.hid (read_some p us w hp h)
  have hm := units_len hp h
  have HU := Lib.hid (rd_units _ _ _ (Nat.le_refl _) h).2
  clear h
  obtain ⟨n, hn⟩ : ∃ n, n = us.length := ⟨_, rfl⟩
  have HN := Lib.hid hn
  rw [← hn] at hm
  clear hn
  go_enter Try.func10, Try.ntmps10
  go_wp2_with fail
  refine HR.out.mono ?_
  rintro e w1 ⟨A, c, rfl, hu, hc, hb1⟩
  have HA := Lib.hid hu
  rw [← HN.out] at hc ⊢
  clear hu
  have hbs := hb1.size
  go_wp2_with fail
  go_loopg [6, 18] n (fun g s6 s18 wx => ∃ (k : Nat) (l : List UInt8), k + g = n ∧ s18 = .int .i64 k ∧ l.length ≤ k ∧ Hid (Pre us k l) ∧ Hid (wx.ownsRow w1.heap.size 5 1 s6 l.length (Lib.byteCells l)) ∧ Hid (Below w1.heap.size w1 wx) ∧ Below w.heap.size w wx)
  case atStart => exact ⟨0, [], by omega, rfl, Nat.le_refl _, ⟨rfl, fun j hj hjk => by omega⟩, World.ownsRow_nil _ _ _ _, Below.refl _ _, hb1⟩
  case round =>
    obtain ⟨k, l, hkg, rfl, hlk, HP, HO, HB1, hb⟩ := hrel
    have hBw := HB1.out.size
    cases gk with
    | zero =>
      have hkz : ¬ ((k : Int) < (n : Int)) := by omega
      have hcv := back_own HO.out
      have HQ := Lib.hid (preS_of (HP.out.whole (by rw [← HN.out]; omega)))
      go_wp2_with fail
      go_ret2
      exact ⟨ret_sb HQ.out, hb⟩
    | succ g =>
      have hkz : (k : Int) < (n : Int) := by omega
      have hkl : k < us.length := by rw [← HN.out]; omega
      obtain ⟨b, off, hA, hbl, hcell⟩ := HA.out (by omega)
      subst hA
      have d1 := (HB1.out.cell (p := ⟨b, _, none⟩) hbl).trans (hcell k hkl)
      clear hcell
      rcases HU.out us[k] (List.getElem_mem hkl) with h2 | h2 | ⟨h2, h3⟩
      · have hcv := back_own HO.out
        have HQ := Lib.hid (preS_of (HP.out.stop hkl (Or.inr h2)))
        rw [h2] at d1
        clear h2
        go_wp2_with fail
        go_ret2
        exact ⟨ret_sb HQ.out, hb⟩
      · have hcv := back_own HO.out
        have HQ := Lib.hid (preS_of (HP.out.stop hkl (Or.inl h2)))
        rw [h2] at d1
        clear h2
        go_wp2_with fail
        go_ret2
        exact ⟨ret_sb HQ.out, hb⟩
      · obtain ⟨y, hy⟩ : ∃ y : UInt8, us[k] = (y.toNat : Int) := ⟨UInt8.ofNat us[k].toNat, by rw [UInt8.toNat_ofNat']; omega⟩
        have HQ := Lib.hid (HP.out.step hkl hy)
        rw [hy] at d1
        clear h2 h3 hy
        have ew := wrap_u8 y
        have hy0 : (0 : Int) ≤ (y.toNat : Int) := by omega
        have t1 : ((y.toNat : Int) == -1) = false := by rw [beq_eq_false_iff_ne]; omega
        have t2 : ((y.toNat : Int) == -2) = false := by rw [beq_eq_false_iff_ne]; omega
        go_wp2_with (at_builtin; refine wpList_append_own _ rfl _ _ 43 rfl w1.heap.size 5 i0 (.int .u8 0) 1 1 Try.underlying43 hi hz0 hz1 hz2 rfl (by decide) _ _ _ rfl (HO.out.alloc _) ⟨wr.heap.size, 0, none⟩ 1 1 [.int .u8 y.toNat] rfl rfl (cell_new _ _ _) (one_cell _ _) (by unfold maxLen; omega) (by omega) (by simp; omega) ?_)
        intro v' w2 hown' hgrow _
        obtain ⟨ho2, hb2⟩ := own_byte hbs hb hBw HO.out hown' hgrow
        have HB2 := Lib.hid (own_byte (Nat.le_refl _) HB1.out hBw HO.out hown' hgrow).2
        have HO2 := Lib.hid ho2
        clear ho2 hown' hgrow
        go_wp2_with fail
        go_roundg g
        case measure => omega
        case rel => exact ⟨k + 1, _, by omega, by go_num, by simp; omega, HQ.out, HO2.out, HB2.out, hb2⟩
end Go.Proofs.Ytimlkgbhmkmacaa
