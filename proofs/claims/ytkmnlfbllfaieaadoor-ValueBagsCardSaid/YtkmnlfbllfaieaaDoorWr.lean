/- Contracts of the writer of values: truth, text, blob (each leaves its text in the builder). Conditions: texts of no more than a million bytes, and the library's two variables hold what they hold at the start. -/
import Derived.Test.YtkmnlfbllfaieaaDoorBuild
import Derived.Deep.RegionHeld3
import Derived.Lib.ItoaLen
import Derived.Deep.RegionWith
import Derived.Lib.AppendIntMem
import Derived.Test.YtkmnlfbllfaieaaDoorRow
import Derived.Test.YtkmnlfbllfaieaaDoorFew
import Derived.WalkSmall
import Derived.StillTailTactics
import Derived.Test.YtkmnlfbllfaieaaDoorTxt
import Derived.Lib.LaidTab
import Derived.Lib.ItoaNum
namespace Go.Proofs.YtkmnlfbllfaieaaDoor
open Go.RowKit
/-- What the library's two variables hold. -/
structure Env (w : World) : Prop where
  size : 2 ≤ w.heap.size
  max : ∃ m, w.cell? ⟨0, 0, none⟩ = some (.int .i64 m)
  tab : Lib.TabIs Tryd.prog w "internal/strconv.uint64pow10" .u64 Lib.pow10Tab
theorem Env.below {w w' : World} {B : Nat} (h : Env w) (hb : Below B w w') (hB : 2 ≤ B) : Env w' where
  size := Nat.le_trans h.size hb.size
  max := by
    obtain ⟨m, hm⟩ := h.max
    exact ⟨m, (hb.cell (p := ⟨0, 0, none⟩) (by show 0 < B; omega)).trans hm⟩
  tab := var?_below hb (g := 1) (by kernel_rfl) (by omega) h.tab
theorem Env.drew {w : World} (h : Env w) : Env w.drew := ⟨h.size, h.max, h.tab⟩
def repl (s : ByteArray) : List UInt8 := dbl s.data.toList
theorem repl_any (s : ByteArray) (w : World) (hE : Env w) (hs : s.size ≤ 1000000) :
    Calls Tryd.prog 53 #[.string s, .string ⟨#[39]⟩, .string ⟨#[39, 39]⟩] w fun e w' => e = .returned (.string ⟨(repl s).toArray⟩) ∧ Below w.heap.size w w' := by
  obtain ⟨m, hm⟩ := hE.max
  have h := Tryd.strings_ReplaceAll s ⟨#[39]⟩ ⟨#[39, 39]⟩ m w (by omega) hm (by decide) (by
    have : Lib.countB s ⟨#[39]⟩ ≤ s.size := by
      show Lib.count s.data.toList [39] ≤ _
      rw [Lib.count_one]
      have := List.count_le_length (a := (39 : UInt8)) (l := s.data.toList)
      simpa using this
    show s.size + Lib.countB s ⟨#[39]⟩ * 2 ≤ _
    omega)
  rw [show (⟨#[39]⟩ : ByteArray).data.toList = [39] from rfl, show (⟨#[39, 39]⟩ : ByteArray).data.toList = [39, 39] from rfl, repl_eq] at h
  exact h
theorem repl_len (s : ByteArray) : (repl s).length ≤ 2 * s.size := by
  have := dbl_len s.data.toList
  simpa [repl] using this
set_option maxRecDepth 100000 in
set_option maxHeartbeats 400000 in
theorem wtext (B b : Nat) (l : List UInt8) (s : ByteArray) (w : World) (h : W63 B b l w) (hs : s.size ≤ 1000000) (hlen : l.length ≤ 100000000000) (hBw : B ≤ w.heap.size) (hE : Env w) (hB : 2 ≤ B) :
    Calls Tryd.prog 42 #[.pointer (some ⟨b, 0, none⟩), .string s] w fun e w' => e = .returned (.tuple #[]) ∧ W63 B b (l ++ ([39] ++ repl s ++ [39])) w' ∧ Below B w w' := by
  have HE := Lib.hid hE
  have HB := Lib.hid h
  clear hE h
  have hrl := repl_len s
  have hrs : (⟨(repl s).toArray⟩ : ByteArray).size = (repl s).length := by show (repl s).toArray.size = _; simp
  have HR := Lib.hid hrs
  clear hrs
  go_enter Tryd.func42, Tryd.ntmps42
  go_wp2_with (go_at_call 44; refine (wByte B b l 39 _ _ (by decide) HB.out (by omega) (by omega)).mono ?_; rintro e w1 ⟨rfl, h1, hb1, _⟩)
  have hz1 := hb1.size
  have HE1 := Lib.hid (HE.out.below hb1 hB).drew
  have HI1 := Lib.hid h1.drew
  clear h1
  go_region_held3 (fun _ => True) (trivial) (first | (go_at_call 53; go_must (refine (repl_any s _ HE1.out hs).mono ?_); rintro e w2 ⟨rfl, hb2⟩; have hz2 := hb2.size) | (go_at_call 39; go_must (refine (wString B b _ _ _ (HI1.out.below hb2) (by rw [HR.out]; simp; omega) (by simp at hz2; omega)).mono ?_); rintro e w3 ⟨rfl, h3, hb3, _⟩))
  have hz3 := hb3.size
  simp at hz2
  go_wp2_with (go_at_call 44; go_must (refine (wByte B b _ 39 _ _ (by decide) h3 (by simp; omega) (by omega)).mono ?_); rintro e w4 ⟨rfl, h4, hb4, _⟩)
  go_end0
  exact ⟨rfl, by simpa using h4, ((hb1.drew.trans (hb2.mono (by simp; omega))).trans hb3).trans hb4⟩

set_option maxRecDepth 100000 in
set_option maxHeartbeats 400000 in
theorem wtruth (B b : Nat) (l : List UInt8) (q : Bool) (w : World) (h : W63 B b l w) (hlen : l.length ≤ 100000000000) (hBw : B ≤ w.heap.size) :
    Calls Tryd.prog 40 #[.pointer (some ⟨b, 0, none⟩), .bool q] w fun e w' => e = .returned (.tuple #[]) ∧ W63 B b (l ++ if q then [84, 82, 85, 69] else [70, 65, 76, 83, 69]) w' ∧ Below B w w' := by
  cases q
  all_goals
    go_enter Tryd.func40, Tryd.ntmps40
    go_wp2_with (go_at_call 39; go_must (refine (wString B b l _ _ h (by first | (show l.length + 4 ≤ _; omega) | (show l.length + 5 ≤ _; omega)) (by omega)).mono ?_); rintro e w1 ⟨rfl, h1, hb1, _⟩)
    go_end0
    exact ⟨rfl, h1, hb1⟩
def hexBA : ByteArray := ⟨#[48, 49, 50, 51, 52, 53, 54, 55, 56, 57, 97, 98, 99, 100, 101, 102]⟩
theorem hexAll : ∀ n : Fin 16, (hexBA[n.1]'n.2) = hexd n.1 := by decide
theorem hexAt {n : Nat} (h : n < (⟨#[48, 49, 50, 51, 52, 53, 54, 55, 56, 57, 97, 98, 99, 100, 101, 102]⟩ : ByteArray).size) : ((((⟨#[48, 49, 50, 51, 52, 53, 54, 55, 56, 57, 97, 98, 99, 100, 101, 102]⟩ : ByteArray)[n]'h).toNat : Int)) = (hexd n).toNat := by
  rw [show ((⟨#[48, 49, 50, 51, 52, 53, 54, 55, 56, 57, 97, 98, 99, 100, 101, 102]⟩ : ByteArray)[n]'h) = (hexBA[n]'h) from rfl, hexAll ⟨n, h⟩]
theorem bitsAll : ∀ n : Fin 256, bits BinOp.and IntKind.u8 (n.1 : Int) 15 = ((n.1 % 16 : Nat) : Int) := by decide +kernel
theorem bits15 (u : UInt8) : bits BinOp.and IntKind.u8 (u.toNat : Int) 15 = (u.toNat : Int) % 16 := by
  rw [bitsAll ⟨u.toNat, u.toNat_lt⟩]; simp
set_option maxRecDepth 100000 in
set_option maxHeartbeats 400000 in
theorem wblob (B b : Nat) (l : List UInt8) (s : ByteArray) (w : World) (h : W63 B b l w) (hs : s.size ≤ 1000000) (hlen : l.length ≤ 100000000000) (hBw : B ≤ w.heap.size) :
    Calls Tryd.prog 43 #[.pointer (some ⟨b, 0, none⟩), .string s] w fun e w' => e = .returned (.tuple #[]) ∧ W63 B b (l ++ ([120, 39] ++ hexs s.data.toList ++ [39])) w' ∧ Below B w w' := by
  have HB := Lib.hid h
  clear h
  go_enter Tryd.func43, Tryd.ntmps43
  go_wp2_with (go_at_call 39; go_must (refine (wString B b l _ _ HB.out (by show l.length + 2 ≤ _; omega) (by omega)).mono ?_); rintro e w1 ⟨rfl, h1, hb1, _⟩)
  go_loopw [11] (fun i wr => ∃ k : Nat, k ≤ s.size ∧ i = .int .i64 k ∧ Below B w wr ∧ Hid (W63 B b (l ++ [120, 39] ++ hexs (s.data.toList.take k)) wr)) (fun i _ => s.size - (intOf i).toNat)
  case atStart => exact ⟨0, Nat.zero_le _, rfl, hb1, by show W63 _ _ _ _; simpa [hexs] using h1⟩
  case round =>
    obtain ⟨k, hk, rfl, hb, hw⟩ := hrel
    by_cases hlt : k < s.size
    · have hx0 : 0 ≤ (s[k].toNat : Int) / 16 := by omega
      have hx1 : (s[k].toNat : Int) / 16 < 16 := by have := s[k].toNat_lt; omega
      have hy0 : 0 ≤ (s[k].toNat : Int) % 16 := by omega
      have hy1 : (s[k].toNat : Int) % 16 < 16 := by omega
      have hbit := bits15 s[k]
      have hlen2 : (hexs (s.data.toList.take k)).length = 2 * k := by rw [hexs_len, List.length_take]; have : s.data.toList.length = s.size := (by simp); omega
      have HL := Lib.hid hlen2
      clear hlen2
      have HX : Hid (hexs (s.data.toList.take (k + 1)) = hexs (s.data.toList.take k) ++ hex2 s[k]) := hexs_snoc _ _ (by simpa using hlt)
      have hzr := hb.size
      go_wp2_with fail
      go_still_tail 8, (by kernel_rfl)
      change wpList _ _ _ _ _ wr.drew
      go_wp2_with fail
      refine (wByte B b _ (hexd (s[k].toNat / 16)) _ _ ?hc hw.out.drew (by simp [HL.out]; omega) (by simp; omega)).mono ?_
      case hc => exact hexAt _
      rintro e w2 ⟨rfl, h2, hb2, _⟩
      have hz2 := hb2.size
      simp at hz2
      go_wp2_with fail
      go_still_tail 8, (by kernel_rfl)
      change wpList _ _ _ _ _ w2.drew
      go_wp2_with fail
      refine (wByte B b _ (hexd (s[k].toNat % 16)) _ _ ?hc2 h2.drew (by simp [HL.out]; omega) (by simp; omega)).mono ?_
      case hc2 => exact hexAt _
      rintro e w3 ⟨rfl, h3, hb3, _⟩
      go_wp2_with fail
      go_roundw
      case rel => exact ⟨k + 1, by omega, by go_num, (hb.drew.trans hb2).drew.trans hb3, by show W63 _ _ _ _; rw [HX.out]; simpa [hex2] using h3⟩
      case measure => simp [intOf]; omega
    · obtain rfl : k = s.size := by omega
      have hzr := hb.size
      have HT : Hid (hexs (s.data.toList.take s.size) = hexs s.data.toList) := by show _ = _; rw [List.take_of_length_le (by simp)]
      have HL := hexs_len s.data.toList
      have HL2 : s.data.toList.length = s.size := by simp
      have HW : W63 B b (l ++ [120, 39] ++ hexs s.data.toList) wr := by have := hw.out; rwa [HT.out] at this
      have HW2 := Lib.hid HW
      clear HW hw
      have HL3 : (hexs s.data.toList).length ≤ 2000000 := by omega
      clear HL HL2
      go_wp2_with (go_at_call 44; go_must (refine (wByte B b _ 39 _ _ (by decide) HW2.out (by simp; omega) (by omega)).mono ?_); rintro e w4 ⟨rfl, h4, hb4, _⟩)
      go_end0
      exact ⟨rfl, by simpa using h4, hb.trans hb4⟩
theorem fmt_any (n : Int) (w : World) (hE : Env w) (h0 : -9223372036854775808 ≤ n) (h1 : n ≤ 9223372036854775807) :
    Calls Tryd.prog 41 #[.int .i64 n, .int .i64 10] w fun e w' => e = .returned (.string ⟨(Lib.itoa n).toArray⟩) ∧ Below w.heap.size w w' :=
  (Tryd.strconv_FormatInt_10 n h0 h1 w hE.tab).mono fun _ _ ⟨h, k, os, hw⟩ => ⟨h, by rw [hw]; exact Lib.below_grow _ _ (Nat.le_refl _) _ _⟩
def V.ok (v : V) : Prop := -9223372036854775808 ≤ v.i ∧ v.i ≤ 9223372036854775807 ∧ v.s.size ≤ 1000000
set_option maxRecDepth 100000 in
set_option maxHeartbeats 400000 in
theorem wvalue (B b : Nat) (l : List UInt8) (k i : Int) (s : ByteArray) (w : World) (h : W63 B b l w) (hm : mayB k i s = true) (hs : s.size ≤ 1000000) (hi0 : -9223372036854775808 ≤ i) (hi1 : i ≤ 9223372036854775807) (hlen : l.length ≤ 100000000000) (hBw : B ≤ w.heap.size) (hE : Env w) (hB : 2 ≤ B) :
    Calls Tryd.prog 28 #[.pointer (some ⟨b, 0, none⟩), .agg #[.int .i64 k, .int .i64 i, .string s]] w fun e w' => e = .returned (.tuple #[]) ∧ W63 B b (l ++ txt k i s) w' ∧ Below B w w' := by
  have hk : k = 0 ∨ k = 1 ∨ k = 2 ∨ k = 3 ∨ k = 4 := by
    unfold mayB at hm
    by_cases h0 : k = 0
    · exact Or.inl h0
    by_cases h1 : k = 1
    · exact Or.inr (Or.inl h1)
    by_cases h2 : k = 2
    · exact Or.inr (Or.inr (Or.inl h2))
    by_cases h3 : k = 3
    · exact Or.inr (Or.inr (Or.inr (Or.inl h3)))
    by_cases h4 : k = 4
    · exact Or.inr (Or.inr (Or.inr (Or.inr h4)))
    simp [h0, h1, h2, h3, h4] at hm
  have HE := Lib.hid hE
  have HB := Lib.hid h
  clear hE h hm
  rcases hk with rfl | rfl | rfl | rfl | rfl
  · go_enter Tryd.func28, Tryd.ntmps28
    go_wp2_with (go_at_call 39; go_must (refine (wString B b l _ _ (HB.out.below (Below.alloc (Below.refl _ _) (Nat.le_refl _) _)) (by show l.length + 4 ≤ _; omega) (by simp; omega)).mono ?_); rintro e w1 ⟨rfl, h1, hb1, _⟩)
    go_end0
    exact ⟨rfl, h1, ((Below.refl B w).alloc hBw _).trans hb1⟩
  · go_enter Tryd.func28, Tryd.ntmps28
    go_wp2_with (go_at_call 40; go_must (refine (wtruth B b l _ _ (HB.out.below (Below.alloc (Below.refl _ _) (Nat.le_refl _) _)) (by omega) (by simp; omega)).mono ?_); rintro e w1 ⟨rfl, h1, hb1⟩)
    go_end0
    exact ⟨rfl, by unfold txt; simpa using h1, ((Below.refl B w).alloc hBw _).trans hb1⟩
  · have hl21 := Lib.itoa_length_le i hi0 hi1
    have hsz : (⟨(Lib.itoa i).toArray⟩ : ByteArray).size = (Lib.itoa i).length := by show (Lib.itoa i).toArray.size = _; simp
    have HZ := Lib.hid hsz
    clear hsz
    go_enter Tryd.func28, Tryd.ntmps28
    go_wp2_with fail
    have HE1 := Lib.hid (HE.out.below (Below.alloc (Below.refl _ _) hBw (.cells #[.int .i64 2, .int .i64 i, .string s] 35)) hB).drew
    have HI1 := Lib.hid (HB.out.below (Below.alloc (Below.refl _ _) (Nat.le_refl _) (.cells #[.int .i64 2, .int .i64 i, .string s] 35))).drew
    go_region_with (first | (go_at_call 41; refine (fmt_any i _ HE1.out hi0 hi1).mono ?_; rintro e w2 ⟨rfl, hb2⟩; have hz2 := hb2.size) | (go_at_call 39; refine (wString B b _ _ _ (HI1.out.below hb2) (by rw [HZ.out]; omega) (by simp at hz2; omega)).mono ?_; rintro e w3 ⟨rfl, h3, hb3, _⟩))
    all_goals
      simp at hz2
      go_wp2_with fail
      go_end0
      exact ⟨rfl, h3, (((Below.refl B w).alloc hBw _).drew.trans (hb2.mono (by simp; omega))).trans hb3⟩
  · go_enter Tryd.func28, Tryd.ntmps28
    go_wp2_with (go_at_call 42; go_must (refine (wtext B b l s _ (HB.out.below (Below.alloc (Below.refl _ _) (Nat.le_refl _) _)) hs hlen (by simp; omega) (HE.out.below (Below.alloc (Below.refl _ _) hBw _) hB) hB).mono ?_); rintro e w1 ⟨rfl, h1, hb1⟩)
    go_end0
    exact ⟨rfl, h1, ((Below.refl B w).alloc hBw _).trans hb1⟩
  · go_enter Tryd.func28, Tryd.ntmps28
    go_wp2_with (go_at_call 43; go_must (refine (wblob B b l s _ (HB.out.below (Below.alloc (Below.refl _ _) (Nat.le_refl _) _)) hs hlen (by simp; omega)).mono ?_); rintro e w1 ⟨rfl, h1, hb1⟩)
    go_end0
    exact ⟨rfl, h1, ((Below.refl B w).alloc hBw _).trans hb1⟩


theorem txt_len (k i : Int) (s : ByteArray) (hi0 : -9223372036854775808 ≤ i) (hi1 : i ≤ 9223372036854775807) : (txt k i s).length ≤ 2 * s.size + 21 := by
  have h1 := Lib.itoa_length_le i hi0 hi1
  have h2 := dbl_len s.data.toList
  have h3 := hexs_len s.data.toList
  have h4 : s.data.toList.length = s.size := by simp
  unfold txt
  split
  · simp
  split
  · split <;> simp
  split
  · omega
  split <;> simp only [List.length_append, List.length_cons, List.length_nil] <;> omega
def RowOk (xs : List V) : Prop := ∀ v ∈ xs, v.chk = 0 ∧ v.ok
theorem body_len (xs : List V) (h : RowOk xs) (k : Nat) : (body (xs.take k)).length ≤ 2000100 * k := by
  induction k with
  | zero => simp [body]
  | succ k ih =>
    rw [Nat.mul_succ]
    generalize 2000100 * k = z at *
    by_cases hk : k < xs.length
    · rw [body_snoc xs k hk, List.length_append, List.length_append]
      obtain ⟨_, h0, h1, h2⟩ := h xs[k] (List.getElem_mem hk)
      have h6 : (xs[k].txt).length ≤ 2000021 := by have := txt_len xs[k].k xs[k].i xs[k].s h0 h1; unfold V.txt; omega
      have h5 : (if 0 < k then ([44, 32] : List UInt8) else []).length ≤ 2 := by split <;> simp
      clear h0 h1 h2
      omega
    · rw [List.take_of_length_le (by omega)] at ih ⊢
      omega
theorem chk_may {v : V} (h : v.chk = 0) : mayB v.k v.i v.s = true := by
  unfold V.chk chkI at h
  split at h
  · assumption
  · omega
theorem cells3 {w w' : World} {g : Nat} {a b c : Value} (hk : Keep w w') (h : w.heap[g]? = some (.cells #[a, b, c] 35 (0, 0))) :
    w'.cell? ⟨g, 0, none⟩ = some a ∧ w'.cell? ⟨g, 1, none⟩ = some b ∧ w'.cell? ⟨g, 2, none⟩ = some c := by
  have hcl := hk _ _ _ _ (by decide) (by decide) h
  exact ⟨by rw [Lib.cell_of_heap hcl]; rfl, by rw [Lib.cell_of_heap hcl]; rfl, by rw [Lib.cell_of_heap hcl]; rfl⟩
set_option maxRecDepth 100000 in
set_option maxHeartbeats 1000000 in
theorem wrow (B b : Nat) (xs : List V) (A : Option Addr) (c : Nat) (w : World) (h : W63 B b [] w) (hr : RowAt w B A xs) (hok : RowOk xs) (hm : xs.length ≤ 64) (hBw : B ≤ w.heap.size) (hE : Env w) (hB : 2 ≤ B) :
    Calls Tryd.prog 31 #[.pointer (some ⟨b, 0, none⟩), .slice A xs.length c] w fun e w' => e = .returned (.tuple #[]) ∧ W63 B b (rowTxt xs) w' ∧ Below B w w' := by
  obtain ⟨n, hn⟩ : ∃ n, n = xs.length := ⟨_, rfl⟩
  have HN := Lib.hid hn
  rw [← hn] at hm ⊢
  clear hn
  have HR := Lib.hid hr
  have HE := Lib.hid hE
  have HB := Lib.hid h
  have HO := Lib.hid hok
  clear hr hE h hok
  go_enter Tryd.func31, Tryd.ntmps31
  go_wp2_with (go_at_call 44; go_must (refine (wByte B b [] 40 _ _ (by decide) HB.out (by simp) (by omega)).mono ?_); rintro e w1 ⟨rfl, h1, hb1, _⟩)
  go_loopw [12] (fun i wr => ∃ k : Nat, k ≤ n ∧ i = .int .i64 k ∧ Below B w wr ∧ Hid (W63 B b ([40] ++ body (xs.take k)) wr)) (fun i _ => n - (intOf i).toNat)
  case atStart => exact ⟨0, Nat.zero_le _, rfl, hb1, h1⟩
  case round =>
    obtain ⟨k, hk, rfl, hb, hw⟩ := hrel
    clear h1 hb1
    have hbs := hb.size
    by_cases hlt : k < n
    · have hkx : k < xs.length := by rw [← HN.out]; exact hlt
      obtain ⟨b', off, hA, hbl, hc⟩ := HR.out (by omega)
      subst hA
      obtain ⟨c1, c2, c3⟩ := hc k hkx
      have d1 := (hb.cell (p := ⟨b', _, none⟩) hbl).trans c1
      have d2 := (hb.cell (p := ⟨b', _, none⟩) hbl).trans c2
      have d3 := (hb.cell (p := ⟨b', _, none⟩) hbl).trans c3
      clear c1 c2 c3 hc
      have hbl2 := body_len xs HO.out k
      obtain ⟨hchk, hi0, hi1, hsz⟩ := HO.out xs[k] (List.getElem_mem hkx)
      have HM := Lib.hid (chk_may hchk)
      have HT : Hid (body (xs.take (k + 1)) = body (xs.take k) ++ ((if 0 < k then [44, 32] else []) ++ Go.Proofs.YtkmnlfbllfaieaaDoor.txt xs[k].k xs[k].i xs[k].s)) := body_snoc xs k hkx
      clear hchk
      have HLB := Lib.hid hbl2
      have hbl3 : (body (xs.take k)).length ≤ 200000000 := by omega
      clear hbl2
      generalize body (xs.take k) = bd at *
      generalize xs[k].k = vk at *
      generalize xs[k].i = vi at *
      generalize xs[k].s = vs at *
      have hcl : (wr.alloc (.cells #[.int .i64 vk, .int .i64 vi, .string vs] 35)).heap[wr.heap.size]? = some (.cells #[.int .i64 vk, .int .i64 vi, .string vs] 35 (0, 0)) := heap_alloc_new wr _
      have HC := Lib.hid hcl
      clear hcl
      by_cases h0 : 0 < k
      · have HT2 : Hid (body (xs.take (k + 1)) = bd ++ ([44, 32] ++ Go.Proofs.YtkmnlfbllfaieaaDoor.txt vk vi vs)) := by have h := HT.out; rw [if_pos h0] at h; exact h
        clear HT
        go_wp2_with (go_at_call 39; go_must (refine (wString B b _ _ _ (hw.out.below (Below.alloc (Below.refl _ _) (Nat.le_refl _) _)) (by show _ + 2 ≤ _; simp; omega) (by simp; omega)).mono ?_); rintro e w2 ⟨rfl, h2, hb2, hk2⟩; obtain ⟨e0, e1, e2⟩ := cells3 hk2 HC.out; clear hk2)
        have hb2' := (hb.alloc (by omega) _).trans hb2
        have hz2 := hb2'.size
        go_wp2_with (go_at_call 28; go_must (refine (wvalue B b _ _ _ _ _ h2 HM.out hsz hi0 hi1 (by simp; omega) (by omega) (HE.out.below hb2' hB) hB).mono ?_); rintro e w3 ⟨rfl, h3, hb3⟩)
        go_roundw
        case rel => exact ⟨k + 1, by omega, by go_num, hb2'.trans hb3, by show W63 _ _ _ _; rw [HT2.out]; simpa using h3⟩
        case measure => simp [intOf]; omega
      · have HT2 : Hid (body (xs.take (k + 1)) = bd ++ Go.Proofs.YtkmnlfbllfaieaaDoor.txt vk vi vs) := by have h := HT.out; rw [if_neg h0] at h; exact h
        clear HT
        have hb2' : Below B w (wr.alloc (.cells #[.int .i64 vk, .int .i64 vi, .string vs] 35)) := hb.alloc (by omega) _
        go_wp2_with (go_at_call 28; go_must (refine (wvalue B b _ _ _ _ _ (hw.out.below (Below.alloc (Below.refl _ _) (Nat.le_refl _) _)) HM.out hsz hi0 hi1 (by simp; omega) (by simp; omega) (HE.out.below hb2' hB) hB).mono ?_); rintro e w3 ⟨rfl, h3, hb3⟩)
        go_roundw
        case rel => exact ⟨k + 1, by omega, by go_num, hb2'.trans hb3, by show W63 _ _ _ _; rw [HT2.out]; simpa using h3⟩
        case measure => simp [intOf]; omega
    · obtain rfl : k = n := by omega
      have hl := body_len xs HO.out k
      have HT : Hid (xs.take k = xs) := by show _ = _; rw [List.take_of_length_le (by rw [← HN.out]; omega)]
      have hw2 : W63 B b ([40] ++ body xs) wr := by have := hw.out; rwa [HT.out] at this
      have hl2 : (body xs).length ≤ 200000000 := by rw [HT.out] at hl; omega
      have HW := Lib.hid hw2
      clear hw hl hw2
      go_wp2_with (go_at_call 44; go_must (refine (wByte B b _ 41 _ _ (by decide) HW.out (by simp; omega) (by omega)).mono ?_); rintro e w3 ⟨rfl, h3, hb3, _⟩)
      go_end0
      exact ⟨rfl, by unfold rowTxt; simpa using h3, hb.trans hb3⟩
end Go.Proofs.YtkmnlfbllfaieaaDoor
