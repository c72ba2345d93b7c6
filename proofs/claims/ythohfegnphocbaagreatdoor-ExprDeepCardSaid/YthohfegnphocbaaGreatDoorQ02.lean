/- Contract of token's word: the token of a word in small letters, or none, if it is too long. Condition: the text, no longer than 2 to the 47, begins with a letter. -/
import Derived.Test.YthohfegnphocbaaGreatDoorQ01
import Derived.Test.YthohfegnphocbaaGreatDoorShelf
import Derived.Lib.ConvBytes
import Derived.Laws.BytesString
import Derived.Laws.Cells
namespace Go.Proofs.YthohfegnphocbaaGreatDoor
open Go.RowKit
theorem bytes_below (w : World) (s : ByteArray) : Below w.heap.size w (Lib.bytesWorld w 5 s) := ⟨rfl, rfl, rfl, by rw [Lib.bytesWorld_size]; omega, fun j hj => Lib.bytesWorld_at_old w 5 s j hj⟩
theorem bytes_made (w : World) (s : ByteArray) : Lib.Bytes (Lib.bytesWorld w 5 s) w.heap.size 0 s := fun i hi => by
  rw [Nat.zero_add, Lib.bytesWorld_cell w 5 s i hi]
  congr 2
  rw [List.getD_eq_getElem?_getD, List.getElem?_eq_getElem (by rw [size_list]; exact hi)]
  simp
  rfl
theorem isWch_ascii {c : UInt8} (h : isWch c = true) : c.toNat < 128 := by
  unfold isWch at h
  rw [isLet_eq, isDig_eq, ← Bool.decide_or, decide_eq_true_iff] at h
  omega
theorem lowerB_low (c : UInt8) : Lib.lowerB c = low c := by
  unfold Lib.lowerB low
  first
  | rfl
  | (simp only [UInt8.le_iff_toNat_le]; rfl)
theorem toLowerA_low (l : List UInt8) : Lib.toLowerA l = l.map low := by
  unfold Lib.toLowerA
  exact List.map_congr_left fun c _ => lowerB_low c
theorem take_word (s : ByteArray) : (s.extract 0 (wLen s.data.toList)).data.toList = s.data.toList.take (wLen s.data.toList) := ext_begin s _
theorem word_ascii (s : ByteArray) : ∀ (j : Nat) (x : UInt8), (s.extract 0 (wLen s.data.toList)).data.toList[j]? = some x → x.toNat < 128 := fun j x h => by
  rw [take_word] at h
  have hx : x ∈ s.data.toList.takeWhile isWch := by
    have := List.mem_of_getElem? h
    rwa [wLen, ← List.prefix_iff_eq_take.1 (List.takeWhile_prefix _)] at this
  have := List.all_takeWhile (p := isWch) (l := s.data.toList)
  rw [List.all_eq_true] at this
  exact isWch_ascii (this x hx)
def wordO (l : List UInt8) : Option Tk := if wLen l ≤ 32 then some ⟨1, (l.take (wLen l)).map low, 0, wLen l⟩ else none
set_option maxRecDepth 100000 in
set_option maxHeartbeats 1000000 in
theorem word_any (s : ByteArray) (w : World) (hs : s.size ≤ 140737488355328) (h0 : 0 < wLen s.data.toList) : Calls Tryz.prog 52 #[.string s] w fun e w' => e = .returned (tup (wordO s.data.toList)) ∧ Below w.heap.size w w' := by
  have HS := Lib.hid (fun w => spanW s w hs)
  have hml : wLen s.data.toList ≤ s.size := by rw [← size_list]; exact tw_le _ _
  have HA := Lib.hid (word_ascii s)
  have HT := Lib.hid (take_word s)
  obtain ⟨m, hm⟩ : ∃ m, m = wLen s.data.toList := ⟨_, rfl⟩
  have HS : Hid (∀ w, Calls Tryz.prog 99 #[.string s, .func (.func 100) #[] #[]] w fun e w' => e = .returned (.int .i64 m) ∧ w' = w) := by rw [hm]; exact HS.out
  have HO : Hid (tup (wordO s.data.toList) = if m ≤ 32 then .tuple #[.agg #[.int .i64 1, .string (str ((s.data.toList.take m).map low)), .int .i64 0, .int .i64 0], .int .i64 m] else .tuple #[.agg #[.int .i64 0, .string ⟨#[]⟩, .int .i64 0, .int .i64 0], .int .i64 0]) := by
    show _ = _
    unfold wordO
    rw [← hm]
    split <;> rfl
  rw [← hm] at HA HT h0 hml
  rw [HO.out]
  clear HO hm
  obtain ⟨bs, hbs⟩ : ∃ bs, bs = (s.data.toList.take m).map low := ⟨_, rfl⟩
  rw [← hbs]
  have HBS := Lib.hid hbs
  have hlen : bs.length = m := by rw [hbs, ← HT.out, List.length_map, size_list, ByteArray.size_extract]; omega
  have HLEN := Lib.hid hlen
  clear hbs hlen
  have bz := zbox w
  have hb0 := (Below.refl w.heap.size w).alloc (Nat.le_refl _) (.cells #[.int .i64 0, .string ⟨#[]⟩, .int .i64 0, .int .i64 0] 51)
  by_cases h32 : m ≤ 32
  · rw [if_pos h32]
    go_enter Tryz.func52, Tryz.ntmps52
    go_wp2_with fail
    refine (HS.out _).mono ?_
    rintro e w1 ⟨rfl, rfl⟩
    obtain ⟨c0, c1, c2, c3⟩ := bz.zcells
    obtain ⟨f0, f1, f2, f3⟩ := bz.free
    have hsz : (w.alloc (.cells #[.int .i64 0, .string ⟨#[]⟩, .int .i64 0, .int .i64 0] 51)).heap.size = w.heap.size + 1 := by simp
    have hex : (s.extract 0 m).size = m := by simp; omega
    clear c0 c1 c2 c3 f0 f1 f2 f3
    generalize w.alloc (.cells #[.int .i64 0, .string ⟨#[]⟩, .int .i64 0, .int .i64 0] 51) = W1 at *
    have hc := Lib.run_convert_string_bytes W1 9 67 5 (s.extract 0 m) Tryz.underlying9 Tryz.underlying67 Tryz.underlying5
    have hbb := bytes_below W1 (s.extract 0 m)
    have hbm := Lib.hid (bytes_made W1 (s.extract 0 m))
    have HL := Lib.hid (fun c => Tryz.bytes_ToLower_ascii W1.heap.size 0 c (s.extract 0 m) _ hbm.out (by omega) (by omega) HA.out)
    rw [hex] at hc HL
    rw [hsz] at HL
    go_wp2_with fail
    clear hc
    generalize Lib.bytesWorld W1 5 (s.extract 0 m) = W2 at *
    refine (HL.out _).mono ?_
    rintro e w3 ⟨v', rfl, hf, b3⟩
    rw [toLowerA_low, HT.out, ← HBS.out] at hf
    obtain ⟨g, cp, hv, hy⟩ := fresh_at hf (by rw [HLEN.out]; exact h0)
    have hk := conv_at (c := cp) hy
    rw [HLEN.out] at hv hk
    subst hv
    clear hf hy
    have B3 := hb0.trans ((hbb.trans (b3.mono hbb.size)).mono (by omega))
    have bz3 := (bz.later hbb).later b3
    obtain ⟨c0, c1, c2, c3⟩ := bz3.zcells
    obtain ⟨f0, f1, f2, f3⟩ := bz3.free
    go_wp2_with fail
    exact bodyPost_ret (v := .tuple #[.agg #[.int .i64 1, .string (str bs), .int .i64 0, .int .i64 0], .int .i64 m]) (by simp [results, Tryz.results52, go_sem, c0, c1, c2, c3]) rfl ⟨rfl, Below.set4 B3 (Nat.le_refl _) _ _ _ _⟩
  · rw [if_neg h32]
    go_enter Tryz.func52, Tryz.ntmps52
    go_wp2_with fail
    refine (HS.out _).mono ?_
    rintro e w1 ⟨rfl, rfl⟩
    obtain ⟨c0, c1, c2, c3⟩ := bz.zcells
    obtain ⟨f0, f1, f2, f3⟩ := bz.free
    have hsz : (w.alloc (.cells #[.int .i64 0, .string ⟨#[]⟩, .int .i64 0, .int .i64 0] 51)).heap.size = w.heap.size + 1 := by simp
    generalize w.alloc (.cells #[.int .i64 0, .string ⟨#[]⟩, .int .i64 0, .int .i64 0] 51) = W1 at *
    go_wp2_with fail
    exact bodyPost_ret (v := .tuple #[.agg #[.int .i64 0, .string ⟨#[]⟩, .int .i64 0, .int .i64 0], .int .i64 0]) (by simp [results, Tryz.results52, go_sem, c0, c1, c2, c3]) rfl ⟨rfl, Below.set4 hb0 (Nat.le_refl _) _ _ _ _⟩
end Go.Proofs.YthohfegnphocbaaGreatDoor
namespace Go.Proofs.YthohfegnphocbaaGreatDoor
open Go.RowKit
def sigV : Array Value := #[.string ⟨#[60, 62]⟩, .string ⟨#[60, 61]⟩, .string ⟨#[62, 61]⟩, .string ⟨#[33, 61]⟩, .string ⟨#[124, 124]⟩, .string ⟨#[61]⟩, .string ⟨#[60]⟩, .string ⟨#[62]⟩, .string ⟨#[43]⟩, .string ⟨#[45]⟩, .string ⟨#[42]⟩, .string ⟨#[47]⟩, .string ⟨#[37]⟩, .string ⟨#[40]⟩, .string ⟨#[41]⟩, .string ⟨#[44]⟩, .string ⟨#[46]⟩, .string ⟨#[59]⟩]
theorem sigV_get (k : Nat) (h : k < signs.length) : sigV[k]? = some (.string (str signs[k])) := by
  match k, h with
  | 0, _ => rfl
  | 1, _ => rfl
  | 2, _ => rfl
  | 3, _ => rfl
  | 4, _ => rfl
  | 5, _ => rfl
  | 6, _ => rfl
  | 7, _ => rfl
  | 8, _ => rfl
  | 9, _ => rfl
  | 10, _ => rfl
  | 11, _ => rfl
  | 12, _ => rfl
  | 13, _ => rfl
  | 14, _ => rfl
  | 15, _ => rfl
  | 16, _ => rfl
  | 17, _ => rfl
  | k + 18, h => exact absurd h (by show ¬ k + 18 < 18; omega)
structure Env (w : World) : Prop where
  size : 4 + 1 ≤ w.heap.size
  sg : ∃ tt fr, w.heap[0]? = some (.cells sigV tt fr)
  syn : ∃ ev, w.cell? ⟨3, 0, none⟩ = some ev ∧ (ev = .nilIface ∨ ∃ te pe, ev = .iface te pe)
  rng : ∃ ev, w.cell? ⟨4, 0, none⟩ = some ev ∧ (ev = .nilIface ∨ ∃ te pe, ev = .iface te pe)
theorem Env.later {w w' : World} (h : Env w) (hb : Below w.heap.size w w') : Env w' := by
  have h4 := h.size
  refine ⟨Nat.le_trans h4 hb.size, ?_, ?_, ?_⟩
  · obtain ⟨tt, fr, h1⟩ := h.sg
    exact ⟨tt, fr, (hb.block 0 (by omega)).trans h1⟩
  · obtain ⟨ev, h1, h2⟩ := h.syn
    exact ⟨ev, (hb.cell (p := ⟨3, 0, none⟩) (by show 3 < _; omega)).trans h1, h2⟩
  · obtain ⟨ev, h1, h2⟩ := h.rng
    exact ⟨ev, (hb.cell (p := ⟨4, 0, none⟩) (by show 4 < _; omega)).trans h1, h2⟩
theorem take_dgs (s : ByteArray) : (s.extract 0 (dgs s.data.toList).length).data.toList = dgs s.data.toList := by
  rw [ext_begin]
  exact (List.prefix_iff_eq_take.1 (List.takeWhile_prefix _)).symm
def numO (l : List UInt8) : Option Tk := if headIs (l.drop (dgs l).length) isLet = true then none else
    if decV 0 (dgs l) ≤ 9223372036854775808 then some ⟨2, [], i64Of (decV 0 (dgs l)), (dgs l).length⟩ else none
theorem wrap_i64 {u : Nat} (h : u < 18446744073709551616) : IntKind.i64.wrap (u : Int) = i64Of u := by
  unfold i64Of
  rw [IntKind.wrap_i64]
  split <;> omega
theorem parse_digits (t : ByteArray) (w : World) (hE : Env w) (hs : t.size ≤ 4096) (v : Nat) (h : Lib.parseUintB 64 t.data.toList = if v ≤ 18446744073709551615 then .ok v else .range) :
    Calls Tryz.prog 98 #[.string t, .int .i64 10, .int .i64 64] w fun e w' => (∃ x y, e = .returned (.tuple #[.int .u64 x, y]) ∧ if v ≤ 18446744073709551615 then x = v ∧ y = .nilIface else ∃ N, y = .iface 161 (.pointer (some ⟨N, 0, none⟩))) ∧ Below w.heap.size w w' := by
  by_cases hv : v ≤ 18446744073709551615
  · rw [if_pos hv] at h
    simp only [if_pos hv]
    refine (Tryz.strconv_ParseUint_10_at64_ok t (by omega) v h w).mono ?_
    rintro e w' ⟨rfl, hw⟩
    refine ⟨⟨_, _, rfl, rfl, rfl⟩, ?_⟩
    rcases hw with rfl | rfl
    · exact Below.refl _ _
    · exact bytes_below _ _
  · rw [if_neg hv] at h
    simp only [if_neg hv]
    obtain ⟨ev, h1, h2⟩ := hE.rng
    refine (Tryz.strconv_ParseUint_10_at64_range t (by omega) h ev w h1 h2).mono ?_
    rintro e w' ⟨N, rfl, -, -, hb⟩
    exact ⟨⟨_, _, rfl, N, rfl⟩, hb⟩
set_option maxRecDepth 100000 in
set_option maxHeartbeats 1000000 in
theorem number_any (s : ByteArray) (w : World) (hE : Env w) (hs : s.size ≤ 4096) (h0 : dgs s.data.toList ≠ []) : Calls Tryz.prog 54 #[.string s] w fun e w' => e = .returned (tup (numO s.data.toList)) ∧ Below w.heap.size w w' := by
  have hml : (dgs s.data.toList).length ≤ s.size := by rw [← size_list]; exact tw_le _ _
  have HS : Hid (∀ w, Calls Tryz.prog 99 #[.string s, .func (.func 53) #[] #[]] w fun e w' => e = .returned (.int .i64 (dgs s.data.toList).length) ∧ w' = w) := fun w => spanD s w (by omega)
  have hpl : Lib.parseUintB 64 (s.extract 0 (dgs s.data.toList).length).data.toList = if decV 0 (dgs s.data.toList) ≤ 18446744073709551615 then .ok (decV 0 (dgs s.data.toList)) else .range := by
    rw [take_dgs]
    exact parse_dgs _ h0
  have HP := Lib.hid (fun w hE => parse_digits (s.extract 0 (dgs s.data.toList).length) w hE (by simp; omega) _ hpl)
  have HO : numO s.data.toList = if headIs (s.data.toList.drop (dgs s.data.toList).length) isLet = true then none else
    if decV 0 (dgs s.data.toList) ≤ 9223372036854775808 then some ⟨2, [], i64Of (decV 0 (dgs s.data.toList)), (dgs s.data.toList).length⟩ else none := rfl
  have hH : headIs (s.data.toList.drop (dgs s.data.toList).length) isLet = if h : (dgs s.data.toList).length < s.size then isLet s[(dgs s.data.toList).length] else false := by
    split
    · rename_i hl
      rw [List.drop_eq_getElem_cons (by rw [size_list]; exact hl)]
      simp only [headIs]
      rw [list_get hl]
    · rw [List.drop_eq_nil_of_le (by rw [size_list]; omega)]
      rfl
  rw [HO, hH]
  clear HO hH hpl h0
  generalize (dgs s.data.toList).length = m at *
  generalize decV 0 (dgs s.data.toList) = v at *
  have bz := zbox w
  have HE := Lib.hid hE
  clear hE
  have hb0 := (Below.refl w.heap.size w).alloc (Nat.le_refl _) (.cells #[.int .i64 0, .string ⟨#[]⟩, .int .i64 0, .int .i64 0] 51)
  have hsz : (w.alloc (.cells #[.int .i64 0, .string ⟨#[]⟩, .int .i64 0, .int .i64 0] 51)).heap.size = w.heap.size + 1 := by simp
  by_cases hlt : m < s.size
  · rw [dif_pos hlt]
    have HL := Lib.hid (fun w => isLetter_any s[m] w)
    cases hg : isLet s[m]
    · rw [hg] at HL
      rw [if_neg (by decide)]
      by_cases hv : v ≤ 9223372036854775808
      · rw [if_pos hv]
        have hw := wrap_i64 (u := v) (by omega)
        go_enter Tryz.func54, Tryz.ntmps54
        go_wp2_with fail
        refine (HS.out _).mono ?_
        rintro e w1 ⟨rfl, rfl⟩
        generalize w.alloc (.cells #[.int .i64 0, .string ⟨#[]⟩, .int .i64 0, .int .i64 0] 51) = W1 at *
        go_wp2_with fail
        refine (HL.out _).mono ?_
        rintro e w1 ⟨rfl, rfl⟩
        go_wp2_with fail
        refine (HP.out _ (HE.out.later hb0)).mono ?_
        rintro e w2 ⟨⟨x, y, rfl, hxy⟩, b2⟩
        rw [if_pos (by omega)] at hxy
        obtain ⟨rfl, rfl⟩ := hxy
        have B2 := bthen hb0 b2
        have bz2 := bz.later b2
        obtain ⟨c0, c1, c2, c3⟩ := bz2.zcells
        obtain ⟨f0, f1, f2, f3⟩ := bz2.free
        go_wp2_with fail
        exact bodyPost_ret (v := .tuple #[.agg #[.int .i64 2, .string ⟨#[]⟩, .int .i64 (i64Of v), .int .i64 0], .int .i64 m]) (by simp [results, Tryz.results54, go_sem, c0, c1, c2, c3]) rfl ⟨rfl, Below.set4 B2 (Nat.le_refl _) _ _ _ _⟩
      · rw [if_neg hv]
        go_enter Tryz.func54, Tryz.ntmps54
        go_wp2_with fail
        refine (HS.out _).mono ?_
        rintro e w1 ⟨rfl, rfl⟩
        generalize w.alloc (.cells #[.int .i64 0, .string ⟨#[]⟩, .int .i64 0, .int .i64 0] 51) = W1 at *
        go_wp2_with fail
        refine (HL.out _).mono ?_
        rintro e w1 ⟨rfl, rfl⟩
        go_wp2_with fail
        refine (HP.out _ (HE.out.later hb0)).mono ?_
        rintro e w2 ⟨⟨x, y, rfl, hxy⟩, b2⟩
        have B2 := bthen hb0 b2
        have bz2 := bz.later b2
        obtain ⟨c0, c1, c2, c3⟩ := bz2.zcells
        obtain ⟨f0, f1, f2, f3⟩ := bz2.free
        by_cases hr : v ≤ 18446744073709551615
        · rw [if_pos hr] at hxy
          obtain ⟨rfl, rfl⟩ := hxy
          go_wp2_with fail
          exact bodyPost_ret (v := .tuple #[.agg #[.int .i64 0, .string ⟨#[]⟩, .int .i64 0, .int .i64 0], .int .i64 0]) (by simp [results, Tryz.results54, go_sem, c0, c1, c2, c3]) rfl ⟨rfl, Below.set4 B2 (Nat.le_refl _) _ _ _ _⟩
        · rw [if_neg hr] at hxy
          obtain ⟨N, rfl⟩ := hxy
          go_wp2_with fail
          exact bodyPost_ret (v := .tuple #[.agg #[.int .i64 0, .string ⟨#[]⟩, .int .i64 0, .int .i64 0], .int .i64 0]) (by simp [results, Tryz.results54, go_sem, c0, c1, c2, c3]) rfl ⟨rfl, Below.set4 B2 (Nat.le_refl _) _ _ _ _⟩
    · rw [hg] at HL
      rw [if_pos rfl]
      go_enter Tryz.func54, Tryz.ntmps54
      go_wp2_with fail
      refine (HS.out _).mono ?_
      rintro e w1 ⟨rfl, rfl⟩
      obtain ⟨c0, c1, c2, c3⟩ := bz.zcells
      obtain ⟨f0, f1, f2, f3⟩ := bz.free
      generalize w.alloc (.cells #[.int .i64 0, .string ⟨#[]⟩, .int .i64 0, .int .i64 0] 51) = W1 at *
      go_wp2_with fail
      refine (HL.out _).mono ?_
      rintro e w1 ⟨rfl, rfl⟩
      go_wp2_with fail
      exact bodyPost_ret (v := .tuple #[.agg #[.int .i64 0, .string ⟨#[]⟩, .int .i64 0, .int .i64 0], .int .i64 0]) (by simp [results, Tryz.results54, go_sem, c0, c1, c2, c3]) rfl ⟨rfl, Below.set4 hb0 (Nat.le_refl _) _ _ _ _⟩
  · rw [dif_neg hlt, if_neg (by decide)]
    have HL : Hid True := trivial
    by_cases hv : v ≤ 9223372036854775808
    · rw [if_pos hv]
      have hw := wrap_i64 (u := v) (by omega)
      go_enter Tryz.func54, Tryz.ntmps54
      go_wp2_with fail
      refine (HS.out _).mono ?_
      rintro e w1 ⟨rfl, rfl⟩
      generalize w.alloc (.cells #[.int .i64 0, .string ⟨#[]⟩, .int .i64 0, .int .i64 0] 51) = W1 at *
      go_wp2_with fail
      refine (HP.out _ (HE.out.later hb0)).mono ?_
      rintro e w2 ⟨⟨x, y, rfl, hxy⟩, b2⟩
      rw [if_pos (by omega)] at hxy
      obtain ⟨rfl, rfl⟩ := hxy
      have B2 := bthen hb0 b2
      have bz2 := bz.later b2
      obtain ⟨c0, c1, c2, c3⟩ := bz2.zcells
      obtain ⟨f0, f1, f2, f3⟩ := bz2.free
      go_wp2_with fail
      exact bodyPost_ret (v := .tuple #[.agg #[.int .i64 2, .string ⟨#[]⟩, .int .i64 (i64Of v), .int .i64 0], .int .i64 m]) (by simp [results, Tryz.results54, go_sem, c0, c1, c2, c3]) rfl ⟨rfl, Below.set4 B2 (Nat.le_refl _) _ _ _ _⟩
    · rw [if_neg hv]
      go_enter Tryz.func54, Tryz.ntmps54
      go_wp2_with fail
      refine (HS.out _).mono ?_
      rintro e w1 ⟨rfl, rfl⟩
      generalize w.alloc (.cells #[.int .i64 0, .string ⟨#[]⟩, .int .i64 0, .int .i64 0] 51) = W1 at *
      go_wp2_with fail
      refine (HP.out _ (HE.out.later hb0)).mono ?_
      rintro e w2 ⟨⟨x, y, rfl, hxy⟩, b2⟩
      have B2 := bthen hb0 b2
      have bz2 := bz.later b2
      obtain ⟨c0, c1, c2, c3⟩ := bz2.zcells
      obtain ⟨f0, f1, f2, f3⟩ := bz2.free
      by_cases hr : v ≤ 18446744073709551615
      · rw [if_pos hr] at hxy
        obtain ⟨rfl, rfl⟩ := hxy
        go_wp2_with fail
        exact bodyPost_ret (v := .tuple #[.agg #[.int .i64 0, .string ⟨#[]⟩, .int .i64 0, .int .i64 0], .int .i64 0]) (by simp [results, Tryz.results54, go_sem, c0, c1, c2, c3]) rfl ⟨rfl, Below.set4 B2 (Nat.le_refl _) _ _ _ _⟩
      · rw [if_neg hr] at hxy
        obtain ⟨N, rfl⟩ := hxy
        go_wp2_with fail
        exact bodyPost_ret (v := .tuple #[.agg #[.int .i64 0, .string ⟨#[]⟩, .int .i64 0, .int .i64 0], .int .i64 0]) (by simp [results, Tryz.results54, go_sem, c0, c1, c2, c3]) rfl ⟨rfl, Below.set4 B2 (Nat.le_refl _) _ _ _ _⟩
end Go.Proofs.YthohfegnphocbaaGreatDoor
