/- Contract of the reference's pieces: a pattern's units, three cells each, or that it is no pattern. Condition: the pattern is no longer than 2000. -/
import Derived.Test.YtimlkgbhmkmacaaLikCuts
namespace Go.Proofs.Ytimlkgbhmkmacaa
open Go.RowKit
theorem info42 : (Try.prog.info? 42).map (fun i => (i.zero, i.size, i.bytes)) = some (some (.agg #[.bool false, .bool false, .int .u8 0]), 3, 3) := by kernel_rfl
/-- A unit's three cells. -/
def p3 (u : Int) : List Value := [.bool (u == -2), .bool (u == -1), .int .u8 (max u 0)]
theorem p3_many : p3 (-2) = [.bool true, .bool false, .int .u8 0] := rfl
theorem p3_one : p3 (-1) = [.bool false, .bool true, .int .u8 0] := rfl
theorem p3_lit (x : UInt8) : p3 (x.toNat : Int) = [.bool false, .bool false, .int .u8 x.toNat] := by
  unfold p3
  rw [show ((x.toNat : Int) == -2) = false by rw [beq_eq_false_iff_ne]; omega, show ((x.toNat : Int) == -1) = false by rw [beq_eq_false_iff_ne]; omega, show max (x.toNat : Int) 0 = x.toNat by omega]
def fl (us : List Int) : List Value := us.flatMap p3
theorem fl_len (us : List Int) : (fl us).length = us.length * 3 := by
  induction us with
  | nil => rfl
  | cons a l ih => show (p3 a ++ fl l).length = _; rw [List.length_append, ih]; simp [p3]; omega
theorem fl_snoc (us : List Int) (u : Int) : fl us ++ p3 u = fl (us ++ [u]) := by simp [fl]
theorem fl_get : ∀ (us : List Int) (j t : Nat) (hj : j < us.length), t < 3 → (fl us)[j * 3 + t]? = (p3 us[j])[t]?
  | [], j, t, hj, _ => by simp at hj
  | a :: l, 0, t, _, ht => by
    show (p3 a ++ fl l)[0 * 3 + t]? = _
    rw [List.getElem?_append_left (by simp [p3]; omega)]
    simp
  | a :: l, j + 1, t, hj, ht => by
    show (p3 a ++ fl l)[(j + 1) * 3 + t]? = _
    rw [List.getElem?_append_right (by simp [p3]; omega)]
    rw [show (j + 1) * 3 + t - (p3 a).length = j * 3 + t by simp [p3]; omega, fl_get l j t (by simpa using hj) ht]
    rfl
/-- Pieces in memory, three cells each. -/
def PAt (w : World) (A : Option Addr) (us : List Int) : Prop := 0 < us.length → ∃ b off, A = some ⟨b, off, none⟩ ∧ b < w.heap.size ∧ ∀ j (h : j < us.length), w.cell? ⟨b, off + j * 3, none⟩ = some (.bool (us[j] == -2)) ∧ w.cell? ⟨b, off + j * 3 + 1, none⟩ = some (.bool (us[j] == -1)) ∧ w.cell? ⟨b, off + j * 3 + 2, none⟩ = some (.int .u8 (max us[j] 0))
theorem PAt.later {w w' : World} {A : Option Addr} {us : List Int} (h : PAt w A us) (hb : Below w.heap.size w w') : PAt w' A us := fun h0 => by
  obtain ⟨b, off, hA, hlt, hc⟩ := h h0
  exact ⟨b, off, hA, Nat.lt_of_lt_of_le hlt hb.size, fun j hj => ⟨(hb.cell (p := ⟨b, _, none⟩) hlt).trans (hc j hj).1, (hb.cell (p := ⟨b, _, none⟩) hlt).trans (hc j hj).2.1, (hb.cell (p := ⟨b, _, none⟩) hlt).trans (hc j hj).2.2⟩⟩
theorem PAt.nil {w : World} {A : Option Addr} {us : List Int} (h : us = []) : PAt w A us := fun h0 => by rw [h] at h0; simp at h0
theorem pat_of {w : World} {B : Nat} {v : Value} {us : List Int} (h : w.ownsRow B 42 3 v us.length (fl us)) : ∃ A c, v = .slice A us.length c ∧ PAt w A us := by
  rcases h.2 with ⟨hv, h0⟩ | ⟨g, cap, cur, hv, _, hg, hn, _⟩
  · exact ⟨none, 0, by rw [hv, h0], PAt.nil (List.eq_nil_of_length_eq_zero h0)⟩
  · refine ⟨some ⟨g, 0, none⟩, cap, hv, fun _ => ⟨g, 0, rfl, (Array.getElem?_eq_some_iff.1 hg).1, fun j hj => ?_⟩⟩
    have key : ∀ t, t < 3 → ∀ u, (p3 us[j])[t]? = some u → w.cell? ⟨g, 0 + (j * 3 + t), none⟩ = some u := by
      intro t ht u hu
      have := h.cells (g := g) (by rw [hv]; rfl) (j * 3 + t) u (by rw [fl_get us j t hj ht]; exact hu)
      rwa [WideShapes.add_plain] at this
    exact ⟨key 0 (by omega) _ rfl, key 1 (by omega) _ rfl, key 2 (by omega) _ rfl⟩
/-- What the reading leaves. -/
def PcsPost (l : List UInt8) (w : World) (e : Ending) (w' : World) : Prop :=
  ((rd l = none ∧ e = .returned (.tuple #[.slice none 0 0, .bool false])) ∨ ∃ us A c, rd l = some us ∧ e = .returned (.tuple #[.slice A us.length c, .bool true]) ∧ PAt w' A us) ∧ Below w.heap.size w w'
theorem cells_new (w : World) (a b c : Value) (T : TypeId) : ∀ j u, [a, b, c][j]? = some u → (w.alloc (.cells #[a, b, c] T)).cell? ((⟨w.heap.size, 0, none⟩ : Addr).add j) = some u := by
  intro j u hj
  match j, hj with
  | 0, hj => simp at hj; subst hj; simp [Addr.add]
  | 1, hj => simp at hj; subst hj; simp [Addr.add]
  | 2, hj => simp at hj; subst hj; simp [Addr.add]
theorem three_cells (a b : Bool) (n : Int) : ∀ u ∈ [Value.bool a, Value.bool b, Value.int .u8 n], u.oneCell' = true := by
  intro u hu
  simp at hu
  rcases hu with rfl | rfl | rfl <;> rfl
theorem own3_step {w w1 w2 : World} {B : Nat} {v v' : Value} {us : List Int} {u : Int} {xs : List Value} {o : Obj} (hx : p3 u = xs) (hB : Below B w w1) (hBw : B ≤ w1.heap.size) (hown : w1.ownsRow B 42 3 v us.length (fl us)) (hown' : w2.ownsRow B 42 3 v' (us.length + 1) (fl us ++ xs)) (hgrow : (w1.alloc o).grownBy w2 v.ownBlock) :
    w2.ownsRow B 42 3 v' (us ++ [u]).length (fl (us ++ [u])) ∧ Below B w w2 :=
  ⟨by rw [← fl_snoc, ← len_snoc, hx]; exact hown', (hB.alloc hBw _).grown hgrow (by simp; omega) (fun k hk => (hown.lt k hk).1)⟩
theorem bne_byte2 {x : UInt8} {n : Nat} (hn : n < 256) (h : x ≠ UInt8.ofNat n) : ((x.toNat : Int) != (n : Int)) = true := by
  have := bne_byte hn h
  rw [bne, this]; rfl
set_option maxRecDepth 100000 in
set_option maxHeartbeats 4000000 in
theorem pieces_any (s : ByteArray) (w : World) (hs : s.size ≤ 2000) :
    Calls Try.prog 17 #[.string s] w (PcsPost s.data.toList w) := by
  obtain ⟨i0, hi, hz0, hz1, hz2⟩ := info_parts info42
  have HL : Hid (s.data.toList.length = s.size) := size_list s
  go_enter Try.func17, Try.ntmps17
  go_wp2_with fail
  go_loopg [4, 5] s.size (fun g s4 s5 wx => ∃ (k : Nat) (us : List Int), k + g = s.size ∧ s5 = .int .i64 k ∧ us.length ≤ k ∧ Hid (Rd s.data.toList k us) ∧ Hid (wx.ownsRow w.heap.size 42 3 s4 us.length (fl us)) ∧ Below w.heap.size w wx)
  case atStart => exact ⟨0, [], by omega, rfl, Nat.le_refl _, Rd.start _, World.ownsRow_nil _ _ _ _, Below.refl _ _⟩
  case round =>
    obtain ⟨k, us, hkg, rfl, hul, HR, HO, hb⟩ := hrel
    have hBw := hb.size
    cases gk with
    | zero =>
      have hkz : ¬ ((k : Int) < (s.size : Int)) := by omega
      obtain ⟨A, c, rfl, hu⟩ := pat_of HO.out
      go_wp2_with fail
      go_ret2
      exact ⟨Or.inr ⟨us, A, c, HR.out.done (by rw [HL.out]; omega), rfl, hu⟩, hb⟩
    | succ g =>
      have hkz : (k : Int) < (s.size : Int) := by omega
      have hkl : k < s.data.toList.length := by rw [HL.out]; omega
      obtain ⟨x, hx⟩ : ∃ x, x = s[k]'(by omega) := ⟨_, rfl⟩
      have HX : Hid (s.data.toList[k] = x) := hx.symm
      by_cases h1 : x = 37
      · have e1 : (s[k]'(by omega)).toNat = 37 := by rw [← hx, h1]; rfl
        rw [h1] at HX
        clear hx h1
        go_wp2_with (at_builtin; refine wpList_append_own _ rfl _ _ 37 rfl w.heap.size 42 i0 (.agg #[.bool false, .bool false, .int .u8 0]) 3 3 Try.underlying37 hi hz0 hz1 hz2 rfl (by decide) _ _ _ rfl (HO.out.alloc _) ⟨wr.heap.size, 0, none⟩ 1 1 [.bool true, .bool false, .int .u8 0] rfl rfl (cells_new _ _ _ _ _) (three_cells _ _ _) (by unfold maxLen; omega) (by omega) (by simp; omega) ?_)
        intro v' w2 hown' hgrow _
        obtain ⟨ho2, hb2⟩ := own3_step p3_many hb hBw HO.out hown' hgrow
        have HO2 := Lib.hid ho2
        clear ho2 hown' hgrow
        go_wp2_with fail
        go_roundg g
        case measure => omega
        case rel => exact ⟨k + 1, _, by omega, by go_num, by simp; omega, HR.out.many hkl HX.out, HO2.out, hb2⟩
      · by_cases h2 : x = 95
        · have e1 : (s[k]'(by omega)).toNat = 95 := by rw [← hx, h2]; rfl
          rw [h2] at HX
          clear hx h1 h2
          go_wp2_with (at_builtin; refine wpList_append_own _ rfl _ _ 37 rfl w.heap.size 42 i0 (.agg #[.bool false, .bool false, .int .u8 0]) 3 3 Try.underlying37 hi hz0 hz1 hz2 rfl (by decide) _ _ _ rfl (HO.out.alloc _) ⟨wr.heap.size, 0, none⟩ 1 1 [.bool false, .bool true, .int .u8 0] rfl rfl (cells_new _ _ _ _ _) (three_cells _ _ _) (by unfold maxLen; omega) (by omega) (by simp; omega) ?_)
          intro v' w2 hown' hgrow _
          obtain ⟨ho2, hb2⟩ := own3_step p3_one hb hBw HO.out hown' hgrow
          have HO2 := Lib.hid ho2
          clear ho2 hown' hgrow
          go_wp2_with fail
          go_roundg g
          case measure => omega
          case rel => exact ⟨k + 1, _, by omega, by go_num, by simp; omega, HR.out.one hkl HX.out, HO2.out, hb2⟩
        · by_cases h3 : x = 92
          · have e1 : (s[k]'(by omega)).toNat = 92 := by rw [← hx, h3]; rfl
            rw [h3] at HX
            clear hx h1 h2 h3
            by_cases h4 : k + 1 = s.size
            · have e4 : ((k : Int) + 1 == (s.size : Int)) = true := by rw [beq_iff_eq]; omega
              have HB := Lib.hid (HR.out.cut (by rw [HL.out]; exact h4) HX.out)
              clear h4
              go_wp2_with fail
              go_ret2
              exact ⟨Or.inl ⟨HB.out, rfl⟩, hb⟩
            · have hk1 : k + 1 < s.size := by omega
              have e4 : ((k : Int) + 1 == (s.size : Int)) = false := by rw [beq_eq_false_iff_ne]; omega
              have hkl1 : k + 1 < s.data.toList.length := by rw [HL.out]; omega
              obtain ⟨y, hy⟩ : ∃ y, y = s[k + 1]'(by omega) := ⟨_, rfl⟩
              have HY : Hid (s.data.toList[k + 1] = y) := hy.symm
              clear h4
              cases hsp : sp y
              · have HB := Lib.hid (HR.out.bad hkl1 HX.out (by rw [HY.out]; exact hsp))
                have h' : ¬ (y = 37 ∨ y = 95 ∨ y = 92) := by rw [← sp_iff, hsp]; decide
                have f1 : ((y.toNat : Int) != 37) = true := bne_byte2 (x := y) (n := 37) (by decide) fun e => h' (Or.inl e)
                have f2 : ((y.toNat : Int) != 95) = true := bne_byte2 (x := y) (n := 95) (by decide) fun e => h' (Or.inr (Or.inl e))
                have f3 : ((y.toNat : Int) != 92) = true := bne_byte2 (x := y) (n := 92) (by decide) fun e => h' (Or.inr (Or.inr e))
                clear hsp h'
                subst hy
                go_wp2_with fail
                go_ret2
                exact ⟨Or.inl ⟨HB.out, rfl⟩, hb⟩
              · have HE := Lib.hid (HR.out.esc hkl1 HX.out (by rw [HY.out]; exact hsp))
                have hc := sp_cases hsp
                clear hsp
                subst hy
                rcases hc with hc | hc | hc
                · have HE3 : Hid (p3 ((s[k + 1]'(by omega)).toNat : Int) = [.bool false, .bool false, .int .u8 37]) := by show _ = _; rw [p3_lit, hc]
                  go_wp2_with (at_builtin; refine wpList_append_own _ rfl _ _ 37 rfl w.heap.size 42 i0 (.agg #[.bool false, .bool false, .int .u8 0]) 3 3 Try.underlying37 hi hz0 hz1 hz2 rfl (by decide) _ _ _ rfl (HO.out.alloc _) ⟨wr.heap.size, 0, none⟩ 1 1 [.bool false, .bool false, .int .u8 37] rfl rfl (cells_new _ _ _ _ _) (three_cells _ _ _) (by unfold maxLen; omega) (by omega) (by simp; omega) ?_)
                  intro v' w2 hown' hgrow _
                  obtain ⟨ho2, hb2⟩ := own3_step HE3.out hb hBw HO.out hown' hgrow
                  have HO2 := Lib.hid ho2
                  clear ho2 hown' hgrow
                  go_wp2_with fail
                  go_roundg (g - 1)
                  case measure => omega
                  case rel => exact ⟨k + 1 + 1, _, by omega, by go_num, by simp; omega, HE.out, HO2.out, hb2⟩
                · have HE3 : Hid (p3 ((s[k + 1]'(by omega)).toNat : Int) = [.bool false, .bool false, .int .u8 95]) := by show _ = _; rw [p3_lit, hc]
                  go_wp2_with (at_builtin; refine wpList_append_own _ rfl _ _ 37 rfl w.heap.size 42 i0 (.agg #[.bool false, .bool false, .int .u8 0]) 3 3 Try.underlying37 hi hz0 hz1 hz2 rfl (by decide) _ _ _ rfl (HO.out.alloc _) ⟨wr.heap.size, 0, none⟩ 1 1 [.bool false, .bool false, .int .u8 95] rfl rfl (cells_new _ _ _ _ _) (three_cells _ _ _) (by unfold maxLen; omega) (by omega) (by simp; omega) ?_)
                  intro v' w2 hown' hgrow _
                  obtain ⟨ho2, hb2⟩ := own3_step HE3.out hb hBw HO.out hown' hgrow
                  have HO2 := Lib.hid ho2
                  clear ho2 hown' hgrow
                  go_wp2_with fail
                  go_roundg (g - 1)
                  case measure => omega
                  case rel => exact ⟨k + 1 + 1, _, by omega, by go_num, by simp; omega, HE.out, HO2.out, hb2⟩
                · have HE3 : Hid (p3 ((s[k + 1]'(by omega)).toNat : Int) = [.bool false, .bool false, .int .u8 92]) := by show _ = _; rw [p3_lit, hc]
                  go_wp2_with (at_builtin; refine wpList_append_own _ rfl _ _ 37 rfl w.heap.size 42 i0 (.agg #[.bool false, .bool false, .int .u8 0]) 3 3 Try.underlying37 hi hz0 hz1 hz2 rfl (by decide) _ _ _ rfl (HO.out.alloc _) ⟨wr.heap.size, 0, none⟩ 1 1 [.bool false, .bool false, .int .u8 92] rfl rfl (cells_new _ _ _ _ _) (three_cells _ _ _) (by unfold maxLen; omega) (by omega) (by simp; omega) ?_)
                  intro v' w2 hown' hgrow _
                  obtain ⟨ho2, hb2⟩ := own3_step HE3.out hb hBw HO.out hown' hgrow
                  have HO2 := Lib.hid ho2
                  clear ho2 hown' hgrow
                  go_wp2_with fail
                  go_roundg (g - 1)
                  case measure => omega
                  case rel => exact ⟨k + 1 + 1, _, by omega, by go_num, by simp; omega, HE.out, HO2.out, hb2⟩
          · have e1 := bne_byte (n := 37) (by decide) h1
            have e2 := bne_byte (n := 95) (by decide) h2
            have e3 : ((x.toNat : Int) != 92) = true := bne_byte2 (n := 92) (by decide) h3
            have HE := Lib.hid (HR.out.lit hkl (by rw [HX.out]; exact h1) (by rw [HX.out]; exact h2) (by rw [HX.out]; exact h3))
            clear h1 h2 h3
            subst hx
            go_wp2_with (at_builtin; refine wpList_append_own _ rfl _ _ 37 rfl w.heap.size 42 i0 (.agg #[.bool false, .bool false, .int .u8 0]) 3 3 Try.underlying37 hi hz0 hz1 hz2 rfl (by decide) _ _ _ rfl (HO.out.alloc _) ⟨wr.heap.size, 0, none⟩ 1 1 [.bool false, .bool false, .int .u8 (s[k]'(by omega)).toNat] rfl rfl (cells_new _ _ _ _ _) (three_cells _ _ _) (by unfold maxLen; omega) (by omega) (by simp; omega) ?_)
            intro v' w2 hown' hgrow _
            obtain ⟨ho2, hb2⟩ := own3_step (p3_lit _) hb hBw HO.out hown' hgrow
            have HO2 := Lib.hid ho2
            clear ho2 hown' hgrow
            go_wp2_with fail
            go_roundg g
            case measure => omega
            case rel => exact ⟨k + 1, _, by omega, by go_num, by simp; omega, HE.out, HO2.out, hb2⟩
end Go.Proofs.Ytimlkgbhmkmacaa
