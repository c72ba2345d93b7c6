/- Contract of token's number: the token of a number, or none, if it is beyond 2 to the 63, or a letter stands behind it. Conditions: the text begins with a digit; the library's two errors are there. -/
import Derived.Test.YtjnecobamobieaaDoorTokWord
namespace Go.Proofs.YtjnecobamobieaaDoor
open Go.RowKit
def sigV : Array Value := #[.string ⟨#[60, 62]⟩, .string ⟨#[60, 61]⟩, .string ⟨#[62, 61]⟩, .string ⟨#[33, 61]⟩, .string ⟨#[124, 124]⟩, .string ⟨#[61]⟩, .string ⟨#[60]⟩, .string ⟨#[62]⟩, .string ⟨#[43]⟩, .string ⟨#[45]⟩, .string ⟨#[42]⟩, .string ⟨#[47]⟩, .string ⟨#[37]⟩, .string ⟨#[40]⟩, .string ⟨#[41]⟩, .string ⟨#[44]⟩, .string ⟨#[46]⟩, .string ⟨#[59]⟩]
theorem sigV_get (k : Nat) (h : k < signs.length) : sigV[k]? = some (.string (str signs[k])) := by
  match k, h with
  | 0, _ => rfl
  | 1, _ => rfl
  | 2, _ => rfl
  | 3, _ => rfl
  | 4, _ => rfl
  | 5, _ => rfl
  | 6, _ => rfl
  | 7, _ => rfl
  | 8, _ => rfl
  | 9, _ => rfl
  | 10, _ => rfl
  | 11, _ => rfl
  | 12, _ => rfl
  | 13, _ => rfl
  | 14, _ => rfl
  | 15, _ => rfl
  | 16, _ => rfl
  | 17, _ => rfl
  | k + 18, h => exact absurd h (by show ¬ k + 18 < 18; omega)
/-- What the listed variables hold: the signs; the library's two errors. -/
structure Env (w : World) : Prop where
  size : 4 ≤ w.heap.size
  sg : ∃ tt fr, w.heap[0]? = some (.cells sigV tt fr)
  syn : ∃ ev, w.cell? ⟨2, 0, none⟩ = some ev ∧ (ev = .nilIface ∨ ∃ te pe, ev = .iface te pe)
  rng : ∃ ev, w.cell? ⟨3, 0, none⟩ = some ev ∧ (ev = .nilIface ∨ ∃ te pe, ev = .iface te pe)
theorem Env.later {w w' : World} (h : Env w) (hb : Below w.heap.size w w') : Env w' := by
  have h4 := h.size
  refine ⟨Nat.le_trans h4 hb.size, ?_, ?_, ?_⟩
  · obtain ⟨tt, fr, h1⟩ := h.sg
    exact ⟨tt, fr, (hb.block 0 (by omega)).trans h1⟩
  · obtain ⟨ev, h1, h2⟩ := h.syn
    exact ⟨ev, (hb.cell (p := ⟨2, 0, none⟩) (by show 2 < _; omega)).trans h1, h2⟩
  · obtain ⟨ev, h1, h2⟩ := h.rng
    exact ⟨ev, (hb.cell (p := ⟨3, 0, none⟩) (by show 3 < _; omega)).trans h1, h2⟩
theorem take_dgs (s : ByteArray) : (s.extract 0 (dgs s.data.toList).length).data.toList = dgs s.data.toList := by
  rw [ext_begin]
  exact (List.prefix_iff_eq_take.1 (List.takeWhile_prefix _)).symm
def numO (l : List UInt8) : Option Tk := if headIs (l.drop (dgs l).length) isLet = true then none else
    if decV 0 (dgs l) ≤ 9223372036854775808 then some ⟨2, [], i64Of (decV 0 (dgs l)), (dgs l).length⟩ else none
theorem wrap_i64 {u : Nat} (h : u < 18446744073709551616) : IntKind.i64.wrap (u : Int) = i64Of u := by
  unfold i64Of
  rw [IntKind.wrap_i64]
  split <;> omega
/-- ParseUint of digits alone. -/
theorem parse_digits (t : ByteArray) (w : World) (hE : Env w) (hs : t.size ≤ 4096) (v : Nat) (h : Lib.parseUintB 64 t.data.toList = if v ≤ 18446744073709551615 then .ok v else .range) :
    Calls Tryd.prog 35 #[.string t, .int .i64 10, .int .i64 64] w fun e w' => (∃ x y, e = .returned (.tuple #[.int .u64 x, y]) ∧ if v ≤ 18446744073709551615 then x = v ∧ y = .nilIface else ∃ N, y = .iface 64 (.pointer (some ⟨N, 0, none⟩))) ∧ Below w.heap.size w w' := by
  by_cases hv : v ≤ 18446744073709551615
  · rw [if_pos hv] at h
    simp only [if_pos hv]
    refine (Tryd.strconv_ParseUint_10_at64_ok t (by omega) v h w).mono ?_
    rintro e w' ⟨rfl, hw⟩
    refine ⟨⟨_, _, rfl, rfl, rfl⟩, ?_⟩
    rcases hw with rfl | rfl
    · exact Below.refl _ _
    · exact bytes_below _ _
  · rw [if_neg hv] at h
    simp only [if_neg hv]
    obtain ⟨ev, h1, h2⟩ := hE.rng
    refine (Tryd.strconv_ParseUint_10_at64_range t (by omega) h ev w h1 h2).mono ?_
    rintro e w' ⟨N, rfl, -, -, hb⟩
    exact ⟨⟨_, _, rfl, N, rfl⟩, hb⟩
set_option maxRecDepth 100000 in
set_option maxHeartbeats 1000000 in
theorem number_any (s : ByteArray) (w : World) (hE : Env w) (hs : s.size ≤ 4096) (h0 : dgs s.data.toList ≠ []) : Calls Tryd.prog 25 #[.string s] w fun e w' => e = .returned (tup (numO s.data.toList)) ∧ Below w.heap.size w w' := by
  have hml : (dgs s.data.toList).length ≤ s.size := by rw [← size_list]; exact tw_le _ _
  have HS : Hid (∀ w, Calls Tryd.prog 36 #[.string s, .func (.func 24) #[] #[]] w fun e w' => e = .returned (.int .i64 (dgs s.data.toList).length) ∧ w' = w) := fun w => spanD s w (by omega)
  have hpl : Lib.parseUintB 64 (s.extract 0 (dgs s.data.toList).length).data.toList = if decV 0 (dgs s.data.toList) ≤ 18446744073709551615 then .ok (decV 0 (dgs s.data.toList)) else .range := by
    rw [take_dgs]
    exact parse_dgs _ h0
  have HP := Lib.hid (fun w hE => parse_digits (s.extract 0 (dgs s.data.toList).length) w hE (by simp; omega) _ hpl)
  have HO : numO s.data.toList = if headIs (s.data.toList.drop (dgs s.data.toList).length) isLet = true then none else
    if decV 0 (dgs s.data.toList) ≤ 9223372036854775808 then some ⟨2, [], i64Of (decV 0 (dgs s.data.toList)), (dgs s.data.toList).length⟩ else none := rfl
  have hH : headIs (s.data.toList.drop (dgs s.data.toList).length) isLet = if h : (dgs s.data.toList).length < s.size then isLet s[(dgs s.data.toList).length] else false := by
    split
    · rename_i hl
      rw [List.drop_eq_getElem_cons (by rw [size_list]; exact hl)]
      simp only [headIs]
      rw [list_get hl]
    · rw [List.drop_eq_nil_of_le (by rw [size_list]; omega)]
      rfl
  rw [HO, hH]
  clear HO hH hpl h0
  generalize (dgs s.data.toList).length = m at *
  generalize decV 0 (dgs s.data.toList) = v at *
  have bz := zbox w
  have HE := Lib.hid hE
  clear hE
  have hb0 := (Below.refl w.heap.size w).alloc (Nat.le_refl _) (.cells #[.int .i64 0, .string ⟨#[]⟩, .int .i64 0, .int .i64 0] 30)
  have hsz : (w.alloc (.cells #[.int .i64 0, .string ⟨#[]⟩, .int .i64 0, .int .i64 0] 30)).heap.size = w.heap.size + 1 := by simp
  by_cases hlt : m < s.size
  · rw [dif_pos hlt]
    have HL := Lib.hid (fun w => isLetter_any s[m] w)
    cases hg : isLet s[m]
    · rw [hg] at HL
      rw [if_neg (by decide)]
      by_cases hv : v ≤ 9223372036854775808
      · rw [if_pos hv]
        have hw := wrap_i64 (u := v) (by omega)
        go_enter Tryd.func25, Tryd.ntmps25
        go_wp2_with fail
        refine (HS.out _).mono ?_
        rintro e w1 ⟨rfl, rfl⟩
        generalize w.alloc (.cells #[.int .i64 0, .string ⟨#[]⟩, .int .i64 0, .int .i64 0] 30) = W1 at *
        go_wp2_with fail
        refine (HL.out _).mono ?_
        rintro e w1 ⟨rfl, rfl⟩
        go_wp2_with fail
        refine (HP.out _ (HE.out.later hb0)).mono ?_
        rintro e w2 ⟨⟨x, y, rfl, hxy⟩, b2⟩
        rw [if_pos (by omega)] at hxy
        obtain ⟨rfl, rfl⟩ := hxy
        have B2 := bthen hb0 b2
        have bz2 := bz.later b2
        obtain ⟨c0, c1, c2, c3⟩ := bz2.zcells
        obtain ⟨f0, f1, f2, f3⟩ := bz2.free
        go_wp2_with fail
        exact bodyPost_ret (v := .tuple #[.agg #[.int .i64 2, .string ⟨#[]⟩, .int .i64 (i64Of v), .int .i64 0], .int .i64 m]) (by simp [results, Tryd.results25, go_sem, c0, c1, c2, c3]) rfl ⟨rfl, Below.set4 B2 (Nat.le_refl _) _ _ _ _⟩
      · rw [if_neg hv]
        go_enter Tryd.func25, Tryd.ntmps25
        go_wp2_with fail
        refine (HS.out _).mono ?_
        rintro e w1 ⟨rfl, rfl⟩
        generalize w.alloc (.cells #[.int .i64 0, .string ⟨#[]⟩, .int .i64 0, .int .i64 0] 30) = W1 at *
        go_wp2_with fail
        refine (HL.out _).mono ?_
        rintro e w1 ⟨rfl, rfl⟩
        go_wp2_with fail
        refine (HP.out _ (HE.out.later hb0)).mono ?_
        rintro e w2 ⟨⟨x, y, rfl, hxy⟩, b2⟩
        have B2 := bthen hb0 b2
        have bz2 := bz.later b2
        obtain ⟨c0, c1, c2, c3⟩ := bz2.zcells
        obtain ⟨f0, f1, f2, f3⟩ := bz2.free
        by_cases hr : v ≤ 18446744073709551615
        · rw [if_pos hr] at hxy
          obtain ⟨rfl, rfl⟩ := hxy
          go_wp2_with fail
          exact bodyPost_ret (v := .tuple #[.agg #[.int .i64 0, .string ⟨#[]⟩, .int .i64 0, .int .i64 0], .int .i64 0]) (by simp [results, Tryd.results25, go_sem, c0, c1, c2, c3]) rfl ⟨rfl, Below.set4 B2 (Nat.le_refl _) _ _ _ _⟩
        · rw [if_neg hr] at hxy
          obtain ⟨N, rfl⟩ := hxy
          go_wp2_with fail
          exact bodyPost_ret (v := .tuple #[.agg #[.int .i64 0, .string ⟨#[]⟩, .int .i64 0, .int .i64 0], .int .i64 0]) (by simp [results, Tryd.results25, go_sem, c0, c1, c2, c3]) rfl ⟨rfl, Below.set4 B2 (Nat.le_refl _) _ _ _ _⟩
    · rw [hg] at HL
      rw [if_pos rfl]
      go_enter Tryd.func25, Tryd.ntmps25
      go_wp2_with fail
      refine (HS.out _).mono ?_
      rintro e w1 ⟨rfl, rfl⟩
      obtain ⟨c0, c1, c2, c3⟩ := bz.zcells
      obtain ⟨f0, f1, f2, f3⟩ := bz.free
      generalize w.alloc (.cells #[.int .i64 0, .string ⟨#[]⟩, .int .i64 0, .int .i64 0] 30) = W1 at *
      go_wp2_with fail
      refine (HL.out _).mono ?_
      rintro e w1 ⟨rfl, rfl⟩
      go_wp2_with fail
      exact bodyPost_ret (v := .tuple #[.agg #[.int .i64 0, .string ⟨#[]⟩, .int .i64 0, .int .i64 0], .int .i64 0]) (by simp [results, Tryd.results25, go_sem, c0, c1, c2, c3]) rfl ⟨rfl, Below.set4 hb0 (Nat.le_refl _) _ _ _ _⟩
  · rw [dif_neg hlt, if_neg (by decide)]
    have HL : Hid True := trivial
    by_cases hv : v ≤ 9223372036854775808
    · rw [if_pos hv]
      have hw := wrap_i64 (u := v) (by omega)
      go_enter Tryd.func25, Tryd.ntmps25
      go_wp2_with fail
      refine (HS.out _).mono ?_
      rintro e w1 ⟨rfl, rfl⟩
      generalize w.alloc (.cells #[.int .i64 0, .string ⟨#[]⟩, .int .i64 0, .int .i64 0] 30) = W1 at *
      go_wp2_with fail
      refine (HP.out _ (HE.out.later hb0)).mono ?_
      rintro e w2 ⟨⟨x, y, rfl, hxy⟩, b2⟩
      rw [if_pos (by omega)] at hxy
      obtain ⟨rfl, rfl⟩ := hxy
      have B2 := bthen hb0 b2
      have bz2 := bz.later b2
      obtain ⟨c0, c1, c2, c3⟩ := bz2.zcells
      obtain ⟨f0, f1, f2, f3⟩ := bz2.free
      go_wp2_with fail
      exact bodyPost_ret (v := .tuple #[.agg #[.int .i64 2, .string ⟨#[]⟩, .int .i64 (i64Of v), .int .i64 0], .int .i64 m]) (by simp [results, Tryd.results25, go_sem, c0, c1, c2, c3]) rfl ⟨rfl, Below.set4 B2 (Nat.le_refl _) _ _ _ _⟩
    · rw [if_neg hv]
      go_enter Tryd.func25, Tryd.ntmps25
      go_wp2_with fail
      refine (HS.out _).mono ?_
      rintro e w1 ⟨rfl, rfl⟩
      generalize w.alloc (.cells #[.int .i64 0, .string ⟨#[]⟩, .int .i64 0, .int .i64 0] 30) = W1 at *
      go_wp2_with fail
      refine (HP.out _ (HE.out.later hb0)).mono ?_
      rintro e w2 ⟨⟨x, y, rfl, hxy⟩, b2⟩
      have B2 := bthen hb0 b2
      have bz2 := bz.later b2
      obtain ⟨c0, c1, c2, c3⟩ := bz2.zcells
      obtain ⟨f0, f1, f2, f3⟩ := bz2.free
      by_cases hr : v ≤ 18446744073709551615
      · rw [if_pos hr] at hxy
        obtain ⟨rfl, rfl⟩ := hxy
        go_wp2_with fail
        exact bodyPost_ret (v := .tuple #[.agg #[.int .i64 0, .string ⟨#[]⟩, .int .i64 0, .int .i64 0], .int .i64 0]) (by simp [results, Tryd.results25, go_sem, c0, c1, c2, c3]) rfl ⟨rfl, Below.set4 B2 (Nat.le_refl _) _ _ _ _⟩
      · rw [if_neg hr] at hxy
        obtain ⟨N, rfl⟩ := hxy
        go_wp2_with fail
        exact bodyPost_ret (v := .tuple #[.agg #[.int .i64 0, .string ⟨#[]⟩, .int .i64 0, .int .i64 0], .int .i64 0]) (by simp [results, Tryd.results25, go_sem, c0, c1, c2, c3]) rfl ⟨rfl, Below.set4 B2 (Nat.le_refl _) _ _ _ _⟩
end Go.Proofs.YtjnecobamobieaaDoor
