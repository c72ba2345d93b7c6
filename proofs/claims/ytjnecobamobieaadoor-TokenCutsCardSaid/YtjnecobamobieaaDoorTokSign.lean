/- Contract of token's sign: the token of the first of the signs with which the text begins, or none. Condition: the program's list of signs is there. -/
import Derived.Test.YtjnecobamobieaaDoorTokNum
import Derived.Lib.Strings
namespace Go.Proofs.YtjnecobamobieaaDoor
open Go.RowKit
def signO (l : List UInt8) : Option Tk := (sgn l).map fun w => ⟨5, if w = [33, 61] then [60, 62] else w, 0, w.length⟩
/-- None of the first j signs stands there. -/
def NoneYet (l : List UInt8) (j : Nat) : Prop := ∀ i (h : i < signs.length), i < j → signs[i].isPrefixOf l = false
theorem NoneYet.found {l : List UInt8} {j : Nat} (h : NoneYet l j) (hj : j < signs.length) (hp : signs[j].isPrefixOf l = true) : sgn l = some signs[j] := by
  unfold sgn
  rw [List.find?_eq_some_iff_getElem]
  exact ⟨hp, j, hj, rfl, fun i hi => by simpa using h i (by omega) hi⟩
theorem NoneYet.next {l : List UInt8} {j : Nat} (h : NoneYet l j) (hj : j < signs.length) (hp : signs[j].isPrefixOf l = false) : NoneYet l (j + 1) := fun i hi hlt => by
  rcases Nat.lt_or_ge i j with h1 | h1
  · exact h i hi h1
  · have : i = j := by omega
    subst this
    exact hp
theorem NoneYet.none {l : List UInt8} (h : NoneYet l 18) : sgn l = none := by
  unfold sgn
  rw [List.find?_eq_none]
  intro w hw
  obtain ⟨i, hi, rfl⟩ := List.getElem_of_mem hw
  have := h i hi (by have : signs.length = 18 := rfl; omega)
  simp [this]
theorem signs_len18 : signs.length = 18 := rfl
theorem index_sig0 (w : World) : (Instr.index 52 (.agg sigV) (.int .i64 0)).run Tryd.prog w = .ok (.string ⟨#[60, 62]⟩) w := by kernel_rfl
theorem index_sig1 (w : World) : (Instr.index 52 (.agg sigV) (.int .i64 1)).run Tryd.prog w = .ok (.string ⟨#[60, 61]⟩) w := by kernel_rfl
theorem index_sig2 (w : World) : (Instr.index 52 (.agg sigV) (.int .i64 2)).run Tryd.prog w = .ok (.string ⟨#[62, 61]⟩) w := by kernel_rfl
theorem index_sig3 (w : World) : (Instr.index 52 (.agg sigV) (.int .i64 3)).run Tryd.prog w = .ok (.string ⟨#[33, 61]⟩) w := by kernel_rfl
theorem index_sig4 (w : World) : (Instr.index 52 (.agg sigV) (.int .i64 4)).run Tryd.prog w = .ok (.string ⟨#[124, 124]⟩) w := by kernel_rfl
theorem index_sig5 (w : World) : (Instr.index 52 (.agg sigV) (.int .i64 5)).run Tryd.prog w = .ok (.string ⟨#[61]⟩) w := by kernel_rfl
theorem index_sig6 (w : World) : (Instr.index 52 (.agg sigV) (.int .i64 6)).run Tryd.prog w = .ok (.string ⟨#[60]⟩) w := by kernel_rfl
theorem index_sig7 (w : World) : (Instr.index 52 (.agg sigV) (.int .i64 7)).run Tryd.prog w = .ok (.string ⟨#[62]⟩) w := by kernel_rfl
theorem index_sig8 (w : World) : (Instr.index 52 (.agg sigV) (.int .i64 8)).run Tryd.prog w = .ok (.string ⟨#[43]⟩) w := by kernel_rfl
theorem index_sig9 (w : World) : (Instr.index 52 (.agg sigV) (.int .i64 9)).run Tryd.prog w = .ok (.string ⟨#[45]⟩) w := by kernel_rfl
theorem index_sig10 (w : World) : (Instr.index 52 (.agg sigV) (.int .i64 10)).run Tryd.prog w = .ok (.string ⟨#[42]⟩) w := by kernel_rfl
theorem index_sig11 (w : World) : (Instr.index 52 (.agg sigV) (.int .i64 11)).run Tryd.prog w = .ok (.string ⟨#[47]⟩) w := by kernel_rfl
theorem index_sig12 (w : World) : (Instr.index 52 (.agg sigV) (.int .i64 12)).run Tryd.prog w = .ok (.string ⟨#[37]⟩) w := by kernel_rfl
theorem index_sig13 (w : World) : (Instr.index 52 (.agg sigV) (.int .i64 13)).run Tryd.prog w = .ok (.string ⟨#[40]⟩) w := by kernel_rfl
theorem index_sig14 (w : World) : (Instr.index 52 (.agg sigV) (.int .i64 14)).run Tryd.prog w = .ok (.string ⟨#[41]⟩) w := by kernel_rfl
theorem index_sig15 (w : World) : (Instr.index 52 (.agg sigV) (.int .i64 15)).run Tryd.prog w = .ok (.string ⟨#[44]⟩) w := by kernel_rfl
theorem index_sig16 (w : World) : (Instr.index 52 (.agg sigV) (.int .i64 16)).run Tryd.prog w = .ok (.string ⟨#[46]⟩) w := by kernel_rfl
theorem index_sig17 (w : World) : (Instr.index 52 (.agg sigV) (.int .i64 17)).run Tryd.prog w = .ok (.string ⟨#[59]⟩) w := by kernel_rfl
theorem index_sig (w : World) (k : Nat) (h : k < signs.length) : (Instr.index 52 (.agg sigV) (.int .i64 k)).run Tryd.prog w = .ok (.string (str signs[k])) w := by
  match k, h with
  | 0, _ => exact index_sig0 w
  | 1, _ => exact index_sig1 w
  | 2, _ => exact index_sig2 w
  | 3, _ => exact index_sig3 w
  | 4, _ => exact index_sig4 w
  | 5, _ => exact index_sig5 w
  | 6, _ => exact index_sig6 w
  | 7, _ => exact index_sig7 w
  | 8, _ => exact index_sig8 w
  | 9, _ => exact index_sig9 w
  | 10, _ => exact index_sig10 w
  | 11, _ => exact index_sig11 w
  | 12, _ => exact index_sig12 w
  | 13, _ => exact index_sig13 w
  | 14, _ => exact index_sig14 w
  | 15, _ => exact index_sig15 w
  | 16, _ => exact index_sig16 w
  | 17, _ => exact index_sig17 w
  | k + 18, h => exact absurd h (by show ¬ k + 18 < 18; omega)
theorem signO_some {l w : List UInt8} (h : sgn l = some w) : tup (signO l) = .tuple #[.agg #[.int .i64 5, .string (str (if w = [33, 61] then [60, 62] else w)), .int .i64 0, .int .i64 0], .int .i64 w.length] := by
  unfold signO
  rw [h]
  rfl
theorem signO_none {l : List UInt8} (h : sgn l = none) : tup (signO l) = .tuple #[.agg #[.int .i64 0, .string ⟨#[]⟩, .int .i64 0, .int .i64 0], .int .i64 0] := by
  unfold signO
  rw [h]
  rfl
set_option maxRecDepth 100000 in
set_option maxHeartbeats 2000000 in
theorem sign_any (s : ByteArray) (w : World) (hE : Env w) : Calls Tryd.prog 27 #[.string s] w fun e w' => e = .returned (tup (signO s.data.toList)) ∧ Below w.heap.size w w' := by
  have HP := Lib.hid (fun x w => Tryd.strings_HasPrefix s x w)
  have HG := Lib.hid index_sig
  have h4 := hE.size
  obtain ⟨tt, fr, hg⟩ := hE.sg
  have bz := zbox w
  have hb0 := (Below.refl w.heap.size w).alloc (Nat.le_refl _) (.cells #[.int .i64 0, .string ⟨#[]⟩, .int .i64 0, .int .i64 0] 30)
  have hg0 := (hb0.block 0 (by omega)).trans hg
  clear hE hg
  obtain ⟨c0, c1, c2, c3⟩ := bz.zcells
  obtain ⟨f0, f1, f2, f3⟩ := bz.free
  go_enter Tryd.func27, Tryd.ntmps27
  go_wp2_with (refine wpList_load_row rfl 52 _ rfl 0 rfl tt _ fr _ hg0 Tryd.underlying52 rfl (by kernel_rfl) ?_)
  generalize w.alloc (.cells #[.int .i64 0, .string ⟨#[]⟩, .int .i64 0, .int .i64 0] 30) = W1 at *
  go_loopw [8] (fun i wr => ∃ k : Nat, k ≤ 18 ∧ i = .int .i64 k ∧ wr = W1 ∧ Hid (NoneYet s.data.toList k)) (fun i _ => 18 - (intOf i).toNat)
  case atStart => exact ⟨0, by omega, rfl, rfl, fun i h hi => by omega⟩
  case round =>
    obtain ⟨k, hk, rfl, rfl, HN⟩ := hrel
    by_cases hlt : k < 18
    · have hk18 : k < signs.length := hlt
      have hgk := HG.out wr k hk18
      have HQ := HP.out (str signs[k]) wr
      have HD := Lib.hid (fun hp => signO_some (HN.out.found hk18 hp))
      have HX := Lib.hid (HN.out.next hk18)
      generalize signs[k] = x at *
      have e : Lib.hasPrefix s.data.toList (str x).data.toList = x.isPrefixOf s.data.toList := by rw [str_list]; rfl
      rw [e] at HQ
      have hxs := str_size x
      clear e
      cases hp : x.isPrefixOf s.data.toList
      · rw [hp] at HQ
        have HX2 := Lib.hid (HX.out hp)
        clear hp HD HX
        generalize str x = y at *
        go_wp2_with (go_at_call 17; refine HQ.mono ?_; rintro e w' ⟨rfl, rfl⟩)
        go_roundw
        case measure => simp [intOf]; omega
        case rel => exact ⟨k + 1, by omega, by go_num, trivial, HX2.out⟩
      · rw [hp] at HQ
        have HD2 := Lib.hid (HD.out hp)
        clear hp HD HX
        by_cases hb : x = [33, 61]
        · subst hb
          rw [if_pos rfl] at HD2
          simp only [show str [33, 61] = ⟨#[33, 61]⟩ from rfl, show str [60, 62] = ⟨#[60, 62]⟩ from rfl] at *
          go_wp2_with (go_at_call 17; refine HQ.mono ?_; rintro e w' ⟨rfl, rfl⟩)
          exact bodyPost_ret (v := .tuple #[.agg #[.int .i64 5, .string ⟨#[60, 62]⟩, .int .i64 0, .int .i64 0], .int .i64 2]) (by simp [results, Tryd.results27, go_sem, c0, c1, c2, c3]) rfl ⟨by rw [HD2.out]; rfl, Below.set4 hb0 (Nat.le_refl _) _ _ _ _⟩
        · rw [if_neg hb] at HD2
          have hne : ((str x).toList == [33, 61]) = false := by
            rw [Lib.toList_data, str_list, beq_eq_false_iff_ne]
            exact hb
          rw [← hxs] at HD2
          clear hb hxs
          generalize str x = y at *
          go_wp2_with (go_at_call 17; refine HQ.mono ?_; rintro e w' ⟨rfl, rfl⟩)
          exact bodyPost_ret (v := .tuple #[.agg #[.int .i64 5, .string y, .int .i64 0, .int .i64 0], .int .i64 y.size]) (by simp [results, Tryd.results27, go_sem, c0, c1, c2, c3]) rfl ⟨by rw [HD2.out], Below.set4 hb0 (Nat.le_refl _) _ _ _ _⟩
    · have hk18 : k = 18 := by omega
      subst hk18
      have HD := Lib.hid (signO_none HN.out.none)
      go_wp2_with fail
      exact bodyPost_ret (v := .tuple #[.agg #[.int .i64 0, .string ⟨#[]⟩, .int .i64 0, .int .i64 0], .int .i64 0]) (by simp [results, Tryd.results27, go_sem, c0, c1, c2, c3]) rfl ⟨by rw [HD.out], Below.set4 hb0 (Nat.le_refl _) _ _ _ _⟩
end Go.Proofs.YtjnecobamobieaaDoor
