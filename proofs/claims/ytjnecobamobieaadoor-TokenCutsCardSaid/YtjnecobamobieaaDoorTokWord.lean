/- Contract of token's word: the token of a word in small letters, or none, if it is too long. Condition: the text, no longer than 2 to the 47, begins with a letter. -/
import Derived.Test.YtjnecobamobieaaDoorTokSpan
import Derived.Test.YtjnecobamobieaaDoorTokBytes
import Derived.Test.YtjnecobamobieaaDoorShelf
import Derived.Lib.ConvBytes
import Derived.Laws.BytesString
import Derived.Laws.Cells
namespace Go.Proofs.YtjnecobamobieaaDoor
open Go.RowKit
theorem bytes_below (w : World) (s : ByteArray) : Below w.heap.size w (Lib.bytesWorld w 5 s) := ⟨rfl, rfl, rfl, by rw [Lib.bytesWorld_size]; omega, fun j hj => Lib.bytesWorld_at_old w 5 s j hj⟩
theorem bytes_made (w : World) (s : ByteArray) : Lib.Bytes (Lib.bytesWorld w 5 s) w.heap.size 0 s := fun i hi => by
  rw [Nat.zero_add, Lib.bytesWorld_cell w 5 s i hi]
  congr 2
  rw [List.getD_eq_getElem?_getD, List.getElem?_eq_getElem (by rw [size_list]; exact hi)]
  simp
  rfl
theorem isWch_ascii {c : UInt8} (h : isWch c = true) : c.toNat < 128 := by
  unfold isWch at h
  rw [isLet_eq, isDig_eq, ← Bool.decide_or, decide_eq_true_iff] at h
  omega
theorem lowerB_low (c : UInt8) : Lib.lowerB c = low c := by
  unfold Lib.lowerB low
  first
  | rfl
  | (simp only [UInt8.le_iff_toNat_le]; rfl)
theorem toLowerA_low (l : List UInt8) : Lib.toLowerA l = l.map low := by
  unfold Lib.toLowerA
  exact List.map_congr_left fun c _ => lowerB_low c
/-- The bytes of a word at a text's beginning. -/
theorem take_word (s : ByteArray) : (s.extract 0 (wLen s.data.toList)).data.toList = s.data.toList.take (wLen s.data.toList) := ext_begin s _
theorem word_ascii (s : ByteArray) : ∀ (j : Nat) (x : UInt8), (s.extract 0 (wLen s.data.toList)).data.toList[j]? = some x → x.toNat < 128 := fun j x h => by
  rw [take_word] at h
  have hx : x ∈ s.data.toList.takeWhile isWch := by
    have := List.mem_of_getElem? h
    rwa [wLen, ← List.prefix_iff_eq_take.1 (List.takeWhile_prefix _)] at this
  have := List.all_takeWhile (p := isWch) (l := s.data.toList)
  rw [List.all_eq_true] at this
  exact isWch_ascii (this x hx)
def wordO (l : List UInt8) : Option Tk := if wLen l ≤ 32 then some ⟨1, (l.take (wLen l)).map low, 0, wLen l⟩ else none
set_option maxRecDepth 100000 in
set_option maxHeartbeats 1000000 in
theorem word_any (s : ByteArray) (w : World) (hs : s.size ≤ 140737488355328) (h0 : 0 < wLen s.data.toList) : Calls Tryd.prog 23 #[.string s] w fun e w' => e = .returned (tup (wordO s.data.toList)) ∧ Below w.heap.size w w' := by
  have HS := Lib.hid (fun w => spanW s w hs)
  have hml : wLen s.data.toList ≤ s.size := by rw [← size_list]; exact tw_le _ _
  have HA := Lib.hid (word_ascii s)
  have HT := Lib.hid (take_word s)
  obtain ⟨m, hm⟩ : ∃ m, m = wLen s.data.toList := ⟨_, rfl⟩
  have HS : Hid (∀ w, Calls Tryd.prog 36 #[.string s, .func (.func 37) #[] #[]] w fun e w' => e = .returned (.int .i64 m) ∧ w' = w) := by rw [hm]; exact HS.out
  have HO : Hid (tup (wordO s.data.toList) = if m ≤ 32 then .tuple #[.agg #[.int .i64 1, .string (str ((s.data.toList.take m).map low)), .int .i64 0, .int .i64 0], .int .i64 m] else .tuple #[.agg #[.int .i64 0, .string ⟨#[]⟩, .int .i64 0, .int .i64 0], .int .i64 0]) := by
    show _ = _
    unfold wordO
    rw [← hm]
    split <;> rfl
  rw [← hm] at HA HT h0 hml
  rw [HO.out]
  clear HO hm
  obtain ⟨bs, hbs⟩ : ∃ bs, bs = (s.data.toList.take m).map low := ⟨_, rfl⟩
  rw [← hbs]
  have HBS := Lib.hid hbs
  have hlen : bs.length = m := by rw [hbs, ← HT.out, List.length_map, size_list, ByteArray.size_extract]; omega
  have HLEN := Lib.hid hlen
  clear hbs hlen
  have bz := zbox w
  have hb0 := (Below.refl w.heap.size w).alloc (Nat.le_refl _) (.cells #[.int .i64 0, .string ⟨#[]⟩, .int .i64 0, .int .i64 0] 30)
  by_cases h32 : m ≤ 32
  · rw [if_pos h32]
    go_enter Tryd.func23, Tryd.ntmps23
    go_wp2_with fail
    refine (HS.out _).mono ?_
    rintro e w1 ⟨rfl, rfl⟩
    obtain ⟨c0, c1, c2, c3⟩ := bz.zcells
    obtain ⟨f0, f1, f2, f3⟩ := bz.free
    have hsz : (w.alloc (.cells #[.int .i64 0, .string ⟨#[]⟩, .int .i64 0, .int .i64 0] 30)).heap.size = w.heap.size + 1 := by simp
    have hex : (s.extract 0 m).size = m := by simp; omega
    clear c0 c1 c2 c3 f0 f1 f2 f3
    generalize w.alloc (.cells #[.int .i64 0, .string ⟨#[]⟩, .int .i64 0, .int .i64 0] 30) = W1 at *
    have hc := Lib.run_convert_string_bytes W1 9 34 5 (s.extract 0 m) Tryd.underlying9 Tryd.underlying34 Tryd.underlying5
    have hbb := bytes_below W1 (s.extract 0 m)
    have hbm := Lib.hid (bytes_made W1 (s.extract 0 m))
    have HL := Lib.hid (fun c => Tryd.bytes_ToLower_ascii W1.heap.size 0 c (s.extract 0 m) _ hbm.out (by omega) (by omega) HA.out)
    rw [hex] at hc HL
    rw [hsz] at HL
    go_wp2_with fail
    clear hc
    generalize Lib.bytesWorld W1 5 (s.extract 0 m) = W2 at *
    refine (HL.out _).mono ?_
    rintro e w3 ⟨v', rfl, hf, b3⟩
    rw [toLowerA_low, HT.out, ← HBS.out] at hf
    obtain ⟨g, cp, hv, hy⟩ := fresh_at hf (by rw [HLEN.out]; exact h0)
    have hk := conv_at (c := cp) hy
    rw [HLEN.out] at hv hk
    subst hv
    clear hf hy
    have B3 := hb0.trans ((hbb.trans (b3.mono hbb.size)).mono (by omega))
    have bz3 := (bz.later hbb).later b3
    obtain ⟨c0, c1, c2, c3⟩ := bz3.zcells
    obtain ⟨f0, f1, f2, f3⟩ := bz3.free
    go_wp2_with fail
    exact bodyPost_ret (v := .tuple #[.agg #[.int .i64 1, .string (str bs), .int .i64 0, .int .i64 0], .int .i64 m]) (by simp [results, Tryd.results23, go_sem, c0, c1, c2, c3]) rfl ⟨rfl, Below.set4 B3 (Nat.le_refl _) _ _ _ _⟩
  · rw [if_neg h32]
    go_enter Tryd.func23, Tryd.ntmps23
    go_wp2_with fail
    refine (HS.out _).mono ?_
    rintro e w1 ⟨rfl, rfl⟩
    obtain ⟨c0, c1, c2, c3⟩ := bz.zcells
    obtain ⟨f0, f1, f2, f3⟩ := bz.free
    have hsz : (w.alloc (.cells #[.int .i64 0, .string ⟨#[]⟩, .int .i64 0, .int .i64 0] 30)).heap.size = w.heap.size + 1 := by simp
    generalize w.alloc (.cells #[.int .i64 0, .string ⟨#[]⟩, .int .i64 0, .int .i64 0] 30) = W1 at *
    go_wp2_with fail
    exact bodyPost_ret (v := .tuple #[.agg #[.int .i64 0, .string ⟨#[]⟩, .int .i64 0, .int .i64 0], .int .i64 0]) (by simp [results, Tryd.results23, go_sem, c0, c1, c2, c3]) rfl ⟨rfl, Below.set4 hb0 (Nat.le_refl _) _ _ _ _⟩
end Go.Proofs.YtjnecobamobieaaDoor
