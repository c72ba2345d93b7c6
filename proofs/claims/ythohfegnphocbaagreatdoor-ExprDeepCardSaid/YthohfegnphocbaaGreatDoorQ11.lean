/- Contract of token's Reserved: whether a text is one of the words. No condition. -/
import Derived.Test.YthohfegnphocbaaGreatDoorQ01
import Derived.Test.YthohfegnphocbaaGreatDoorQ02
import Derived.Test.YthohfegnphocbaaGreatDoorQ05
import Derived.BigRegion
namespace Go.Proofs.YthohfegnphocbaaGreatDoor
open Go.RowKit
theorem res_yes {s : ByteArray} (l : List UInt8) (hl : resB l = true) (h : (s.toList == l) = true) : resB s.data.toList = true := by
  rw [beq_iff_eq, Lib.toList_data] at h
  rw [h]
  exact hl
set_option maxRecDepth 100000 in
set_option maxHeartbeats 8000000 in
theorem reserved_any (s : ByteArray) (w : World) : Calls Tryz.prog 130 #[.string s] w fun e w' => e = .returned (.bool (resB s.data.toList)) ∧ w' = w := by
  go_enter Tryz.func130, Tryz.ntmps130
  go_wp2_with fail
  all_goals first
    | (rename_i h h'; exact absurd (h.symm.trans h') (by decide))
    | (go_ret; refine ⟨ret_bool (res_yes _ ?_ (by assumption)).symm, rfl⟩; rfl)
    | (go_ret; refine ⟨ret_bool ?_, rfl⟩; rw [← Lib.toList_data]; simp only [resB, resL, List.contains_cons, List.contains_nil, *, Bool.or_false])
end Go.Proofs.YthohfegnphocbaaGreatDoor
namespace Go.Proofs.YthohfegnphocbaaGreatDoor
open Go.RowKit
theorem all_word {l : List UInt8} (h : wLen l = l.length) : ∀ c ∈ l, isWch c = true := by
  have h1 := List.all_takeWhile (p := isWch) (l := l)
  have h2 : l.takeWhile isWch = l := (List.takeWhile_prefix isWch).eq_of_length h
  rw [h2, List.all_eq_true] at h1
  exact h1
theorem word_all {l : List UInt8} (h : ∀ c ∈ l, isWch c = true) : wLen l = l.length := by
  have : l.takeWhile isWch = l := by
    induction l with
    | nil => rfl
    | cons c r ih => rw [List.takeWhile_cons_of_pos (h c (by simp)), ih (fun x hx => h x (List.mem_cons_of_mem _ hx))]
  unfold wLen
  rw [this]
theorem low_all {l : List UInt8} : l.map low = l ↔ ∀ c ∈ l, isCap c = false := by
  induction l with
  | nil => simp
  | cons c r ih =>
    simp only [List.map_cons, List.cons.injEq, ih, low_same, List.mem_cons, forall_eq_or_imp]
theorem name_iff (l : List UInt8) : nameB l = true ↔ l ≠ [] ∧ l.length ≤ 32 ∧ headIs l isDig = false ∧ resB l = false ∧ ∀ c ∈ l, isWch c = true ∧ isCap c = false := by
  unfold nameB
  simp only [Bool.and_eq_true, Bool.not_eq_true', decide_eq_true_iff, List.all_eq_true, List.isEmpty_eq_false_iff]
  constructor
  · rintro ⟨⟨⟨⟨h1, h2⟩, h3⟩, h4⟩, h5⟩
    exact ⟨h1, h2, h3, h4, h5⟩
  · rintro ⟨h1, h2, h3, h4, h5⟩
    exact ⟨⟨⟨⟨h1, h2⟩, h3⟩, h4⟩, h5⟩
theorem name_nil : nameB [] = false := rfl
theorem isLet_noDig {c : UInt8} (h : isLet c = true) : isDig c = false := by
  rw [isLet_eq, decide_eq_true_iff] at h
  rw [isDig_eq]
  exact decide_eq_false (by omega)
theorem name_head {c : UInt8} {r : List UInt8} (h : isLet c = false) : nameB (c :: r) = false := by
  rw [← Bool.not_eq_true, name_iff]
  rintro ⟨-, -, h3, -, h5⟩
  have h6 := (h5 c (by simp)).1
  unfold isWch at h6
  rw [h] at h6
  simp only [headIs] at h3
  rw [h3] at h6
  cases h6
theorem name_word {c : UInt8} {r : List UInt8} (h : isLet c = true) : nameB (c :: r) = true ↔ wLen (c :: r) ≤ 32 ∧ wLen (c :: r) = (c :: r).length ∧ ((c :: r).take (wLen (c :: r))).map low = c :: r ∧ resB (c :: r) = false := by
  rw [name_iff]
  constructor
  · rintro ⟨-, h2, -, h4, h5⟩
    have hw := word_all (fun x hx => (h5 x hx).1)
    refine ⟨by omega, hw, ?_, h4⟩
    rw [hw, List.take_length]
    exact low_all.2 (fun x hx => (h5 x hx).2)
  · rintro ⟨h1, h2, h3, h4⟩
    rw [h2, List.take_length] at h3
    exact ⟨by simp, by omega, isLet_noDig h, h4, fun x hx => ⟨all_word h2 x hx, low_all.1 h3 x hx⟩⟩
set_option maxRecDepth 100000 in
set_option maxHeartbeats 2000000 in
theorem isName_any (s : ByteArray) (w : World) (hs : s.size ≤ 140737488355328) : Calls Tryz.prog 89 #[.string s] w fun e w' => e = .returned (.bool (nameB s.data.toList)) ∧ Below w.heap.size w w' := by
  by_cases h0 : s.size = 0
  · have he : s.data.toList = [] := List.eq_nil_of_length_eq_zero (by rw [size_list]; exact h0)
    have hemp : s.toList.isEmpty = true := by rw [Lib.toList_data, he]; rfl
    rw [he, name_nil]
    go_enter Tryz.func89, Tryz.ntmps89
    go_wp2_with fail
    go_ret
    exact ⟨rfl, Below.refl _ _⟩
  · have hpos : 0 < s.size := by omega
    have hcons : s.data.toList = s[0] :: s.data.toList.drop 1 := by
      rw [← list_get hpos]
      exact List.drop_eq_getElem_cons (by rw [size_list]; exact hpos)
    have hemp : s.toList.isEmpty = false := by rw [Lib.toList_data, hcons]; rfl
    have HL : Hid (∀ w, Calls Tryz.prog 51 #[.int .u8 s[0].toNat] w fun e w' => e = .returned (.bool (isLet s[0])) ∧ w' = w) := fun w => isLetter_any s[0] w
    cases hl : isLet s[0]
    · rw [hl] at HL
      have hN : nameB s.data.toList = false := by rw [hcons]; exact name_head hl
      rw [hN]
      clear hcons hN hl
      go_enter Tryz.func89, Tryz.ntmps89
      go_wp2_with fail
      refine (HL.out _).mono ?_
      rintro e w1 ⟨rfl, rfl⟩
      go_wp2_with fail
      go_ret
      exact ⟨rfl, Below.refl _ _⟩
    · rw [hl] at HL
      have HW : Hid (∀ w, Calls Tryz.prog 52 #[.string s] w fun e w' => e = .returned (tup (wordO s.data.toList)) ∧ Below w.heap.size w w') := fun w => word_any s w hs (by rw [hcons]; unfold wLen; rw [List.takeWhile_cons_of_pos (by simp [isWch, hl])]; simp)
      have HR : Hid (∀ w, Calls Tryz.prog 130 #[.string s] w fun e w' => e = .returned (.bool (resB s.data.toList)) ∧ w' = w) := fun w => reserved_any s w
      have HI : Hid (nameB s.data.toList = true ↔ wLen s.data.toList ≤ 32 ∧ wLen s.data.toList = s.size ∧ (s.data.toList.take (wLen s.data.toList)).map low = s.data.toList ∧ resB s.data.toList = false) := by
        have := name_word (c := s[0]) (r := s.data.toList.drop 1) hl
        rw [← hcons] at this
        rw [size_list] at this
        exact this
      clear hcons hl
      by_cases h32 : wLen s.data.toList ≤ 32
      · have HT : Hid (tup (wordO s.data.toList) = .tuple #[.agg #[.int .i64 1, .string (str ((s.data.toList.take (wLen s.data.toList)).map low)), .int .i64 0, .int .i64 0], .int .i64 (wLen s.data.toList)]) := by
          show _ = _
          unfold wordO
          rw [if_pos h32]
          rfl
        have HX : Hid (((str ((s.data.toList.take (wLen s.data.toList)).map low)).toList == s.toList) = true ↔ (s.data.toList.take (wLen s.data.toList)).map low = s.data.toList) := by
          show _ ↔ _
          rw [beq_iff_eq, Lib.toList_data, Lib.toList_data, str_list]
        rw [HT.out] at HW
        generalize str ((s.data.toList.take (wLen s.data.toList)).map low) = x at *
        generalize wLen s.data.toList = m at *
        generalize (s.data.toList.take m).map low = bs at *
        generalize hb : nameB s.data.toList = b at *
        generalize hr : resB s.data.toList = rb at *
        clear HT hb hr
        have finish : ∀ (W : World) (bv : Bool), bv = (decide (m = s.size) && ((x.toList == s.toList) && !rb)) → bv = b := by
          intro _ bv h
          rw [h]
          apply bool_iff
          rw [HI.out, Bool.and_eq_true, Bool.and_eq_true, decide_eq_true_iff, HX.out]
          cases rb <;> simp [h32]
        have HF := Lib.hid finish
        clear HI HX finish
        by_cases hm : m = s.size
        · have hmz : ((m : Int) == (s.size : Int)) = true := by simp [hm]
          cases hx : (x.toList == s.toList)
          all_goals cases rb
          all_goals
            go_enter Tryz.func89, Tryz.ntmps89
            go_wp2_with fail
            refine (HL.out _).mono ?_
            rintro e w1 ⟨rfl, rfl⟩
            go_wp2_with fail
            refine (HW.out _).mono ?_
            rintro e w2 ⟨rfl, b2⟩
            go_wp2_with fail
            try (refine (HR.out _).mono ?_; rintro e w3 ⟨rfl, rfl⟩; go_wp2_with fail)
            go_ret
            exact ⟨ret_bool (HF.out w1 _ (by simp [hm, hx])), b2.alloc b2.size _⟩
        · have hmz : ((m : Int) == (s.size : Int)) = false := by
            rw [beq_eq_false_iff_ne]
            omega
          go_enter Tryz.func89, Tryz.ntmps89
          go_wp2_with fail
          refine (HL.out _).mono ?_
          rintro e w1 ⟨rfl, rfl⟩
          go_wp2_with fail
          refine (HW.out _).mono ?_
          rintro e w2 ⟨rfl, b2⟩
          go_wp2_with fail
          go_ret
          exact ⟨ret_bool (HF.out w1 _ (by simp [hm])), b2.alloc b2.size _⟩
      · have HT : Hid (tup (wordO s.data.toList) = .tuple #[.agg #[.int .i64 0, .string ⟨#[]⟩, .int .i64 0, .int .i64 0], .int .i64 0]) := by
          show _ = _
          unfold wordO
          rw [if_neg h32]
          rfl
        have hN : nameB s.data.toList = false := by
          rw [← Bool.not_eq_true, HI.out]
          exact fun h => h32 h.1
        rw [HT.out] at HW
        rw [hN]
        have hmz : ((0 : Int) == (s.size : Int)) = false := by
          rw [beq_eq_false_iff_ne]
          omega
        clear HI HT hN h32
        go_enter Tryz.func89, Tryz.ntmps89
        go_wp2_with fail
        refine (HL.out _).mono ?_
        rintro e w1 ⟨rfl, rfl⟩
        go_wp2_with fail
        refine (HW.out _).mono ?_
        rintro e w2 ⟨rfl, b2⟩
        go_wp2_with fail
        go_ret
        exact ⟨rfl, b2.alloc b2.size _⟩
end Go.Proofs.YthohfegnphocbaaGreatDoor
namespace Go.Proofs.YthohfegnphocbaaGreatDoor
open Go.RowKit
theorem Gives.ok {w w' : World} {l : List UInt8} {ts : List T} {e : Ending} (h : Gives w l e w') (hc : cutP 0 l = .ok ts) : (∃ A c, e = .returned (.tuple #[.slice A ts.length c, .int .i64 0, .int .i64 0]) ∧ ts.length ≤ c ∧ TAt w' w'.heap.size A ts) ∧ Below w.heap.size w w' := by
  unfold Gives at h
  rw [hc] at h
  exact h
theorem Gives.err {w w' : World} {l : List UInt8} {q : Nat} {e : Ending} (h : Gives w l e w') (hc : cutP 0 l = .error q) : e = .returned (.tuple #[.slice none 0 0, .int .i64 q, .int .i64 60]) ∧ Below w.heap.size w w' := by
  unfold Gives at h
  rw [hc] at h
  exact h
end Go.Proofs.YthohfegnphocbaaGreatDoor
namespace Go.Proofs.YthohfegnphocbaaGreatDoor
open Go.RowKit
set_option maxRecDepth 100000 in
set_option maxHeartbeats 1000000 in
theorem cut_long (s : ByteArray) (w : World) (hs : 4096 < s.size) : Calls Tryz.prog 29 #[.string s] w fun e w' => e = .returned (.tuple #[.slice none 0 0, .int .i64 0, .int .i64 2]) ∧ w' = w := by
  have hs2 : (4096 : Int) < (s.size : Int) := by omega
  go_enter Tryz.func29, Tryz.ntmps29
  go_wp2_with fail
  go_step3
  go_wp2_with fail
  rw [Exit.noGoto_ret]
  go_ret3
  exact ⟨rfl, rfl⟩
theorem places {l : List UInt8} {ts : List T} (h : cutP 0 l = .ok ts) : ∀ j (hj : j < ts.length), ts[j].p ≤ l.length := fun j hj => by
  have := (cut_parts l 0 ts h).2.1 ts[j] (List.getElem_mem hj)
  omega
theorem kept4 {w : World} {b : Nat} {u : T} (h : TBox w b u) (t : T) : ((((w.setCell ⟨b, 0, none⟩ (.int .i64 t.k)).setCell ⟨b, 1, none⟩ (.string (str t.s))).setCell ⟨b, 2, none⟩ (.int .i64 t.i)).setCell ⟨b, 3, none⟩ (.int .i64 t.p)).cell? ⟨b, 0, none⟩ = some (.int .i64 t.k) ∧
    ((((w.setCell ⟨b, 0, none⟩ (.int .i64 t.k)).setCell ⟨b, 1, none⟩ (.string (str t.s))).setCell ⟨b, 2, none⟩ (.int .i64 t.i)).setCell ⟨b, 3, none⟩ (.int .i64 t.p)).cell? ⟨b, 1, none⟩ = some (.string (str t.s)) ∧
    ((((w.setCell ⟨b, 0, none⟩ (.int .i64 t.k)).setCell ⟨b, 1, none⟩ (.string (str t.s))).setCell ⟨b, 2, none⟩ (.int .i64 t.i)).setCell ⟨b, 3, none⟩ (.int .i64 t.p)).cell? ⟨b, 2, none⟩ = some (.int .i64 t.i) ∧
    ((((w.setCell ⟨b, 0, none⟩ (.int .i64 t.k)).setCell ⟨b, 1, none⟩ (.string (str t.s))).setCell ⟨b, 2, none⟩ (.int .i64 t.i)).setCell ⟨b, 3, none⟩ (.int .i64 t.p)).cell? ⟨b, 3, none⟩ = some (.int .i64 t.p) ∧
    ∀ j, j < 4 → ((((w.setCell ⟨b, 0, none⟩ (.int .i64 t.k)).setCell ⟨b, 1, none⟩ (.string (str t.s))).setCell ⟨b, 2, none⟩ (.int .i64 t.i)).setCell ⟨b, 3, none⟩ (.int .i64 t.p)).frozen? ⟨b, j, none⟩ = false := by
  have o := fun (W : World) (i j : Nat) (h : i ≠ j) (y : Value) => World.cell?_setCell_other W ⟨b, j, none⟩ ⟨b, i, none⟩ y (by simp <;> omega)
  obtain ⟨c0, c1, c2, c3⟩ := h.cells
  refine ⟨?_, ?_, ?_, ?_, fun j _ => ?_⟩
  · rw [o _ 0 3 (by omega), o _ 0 2 (by omega), o _ 0 1 (by omega)]
    exact World.cell?_setCell_same _ _ _ c0
  · rw [o _ 1 3 (by omega), o _ 1 2 (by omega)]
    exact World.cell?_setCell_same _ _ _ (by rw [o _ 1 0 (by omega)]; exact c1)
  · rw [o _ 2 3 (by omega)]
    exact World.cell?_setCell_same _ _ _ (by rw [o _ 2 1 (by omega), o _ 2 0 (by omega)]; exact c2)
  · exact World.cell?_setCell_same _ _ _ (by rw [o _ 3 2 (by omega), o _ 3 1 (by omega), o _ 3 0 (by omega)]; exact c3)
  · rw [World.frozen?_setCell, World.frozen?_setCell, World.frozen?_setCell, World.frozen?_setCell]
    exact Lib.frozen_of_heap h j
end Go.Proofs.YthohfegnphocbaaGreatDoor
namespace Go.Proofs.YthohfegnphocbaaGreatDoor
open Go.RowKit
theorem moved (wr : World) (u : T) (x : Int) : ∃ W2 W3 W4 : World, W2 = wr.alloc (.cells #[.int .i64 0, .string ⟨#[]⟩, .int .i64 0, .int .i64 0] 51) ∧
    W3 = ((((W2.setCell ⟨wr.heap.size, 0, none⟩ (.int .i64 u.k)).setCell ⟨wr.heap.size, 1, none⟩ (.string (str u.s))).setCell ⟨wr.heap.size, 2, none⟩ (.int .i64 u.i)).setCell ⟨wr.heap.size, 3, none⟩ (.int .i64 u.p)) ∧
    W4 = W3.setCell ⟨wr.heap.size, 3, none⟩ (.int .i64 x) ∧
    (W2.cell? ⟨wr.heap.size, 0, none⟩ = some (.int .i64 0) ∧ W2.cell? ⟨wr.heap.size, 1, none⟩ = some (.string ⟨#[]⟩) ∧ W2.cell? ⟨wr.heap.size, 2, none⟩ = some (.int .i64 0) ∧ W2.cell? ⟨wr.heap.size, 3, none⟩ = some (.int .i64 0)) ∧
    (W2.frozen? ⟨wr.heap.size, 0, none⟩ = false ∧ W2.frozen? ⟨wr.heap.size, 1, none⟩ = false ∧ W2.frozen? ⟨wr.heap.size, 2, none⟩ = false ∧ W2.frozen? ⟨wr.heap.size, 3, none⟩ = false) ∧
    (W3.cell? ⟨wr.heap.size, 0, none⟩ = some (.int .i64 u.k) ∧ W3.cell? ⟨wr.heap.size, 1, none⟩ = some (.string (str u.s)) ∧ W3.cell? ⟨wr.heap.size, 2, none⟩ = some (.int .i64 u.i) ∧ W3.cell? ⟨wr.heap.size, 3, none⟩ = some (.int .i64 u.p)) ∧
    W3.frozen? ⟨wr.heap.size, 3, none⟩ = false ∧
    (W4.cell? ⟨wr.heap.size, 0, none⟩ = some (.int .i64 u.k) ∧ W4.cell? ⟨wr.heap.size, 1, none⟩ = some (.string (str u.s)) ∧ W4.cell? ⟨wr.heap.size, 2, none⟩ = some (.int .i64 u.i) ∧ W4.cell? ⟨wr.heap.size, 3, none⟩ = some (.int .i64 x)) ∧
    Below wr.heap.size wr W4 ∧ W2.heap.size = wr.heap.size + 1 := by
  have bz := zbox wr
  have hb0 := (Below.refl wr.heap.size wr).alloc (Nat.le_refl _) (.cells #[.int .i64 0, .string ⟨#[]⟩, .int .i64 0, .int .i64 0] 51)
  refine ⟨_, _, _, rfl, rfl, rfl, bz.zcells, bz.free, ?_⟩
  obtain ⟨y0, y1, y2, y3, yf⟩ := kept4 bz u
  refine ⟨⟨y0, y1, y2, y3⟩, yf 3 (by omega), ?_, (Below.set4 hb0 (Nat.le_refl _) _ _ _ _).setCell (Nat.le_refl _) _, by simp⟩
  have o4 := fun (W : World) (j : Nat) (h : j ≠ 3) => World.cell?_setCell_other W ⟨wr.heap.size, 3, none⟩ ⟨wr.heap.size, j, none⟩ (.int .i64 x) (by simp <;> omega)
  exact ⟨(o4 _ 0 (by omega)).trans y0, (o4 _ 1 (by omega)).trans y1, (o4 _ 2 (by omega)).trans y2, World.cell?_setCell_same _ _ _ y3⟩
theorem TAt.drop {w : World} {B b off : Nat} {ts : List T} (h : TAt w B (some ⟨b, off, none⟩) ts) (k : Nat) : TAt w B (some ⟨b, off + k * 4, none⟩) (ts.drop k) := fun h0 => by
  obtain ⟨b', off', hA, hlt, hc⟩ := h (by rw [List.length_drop] at h0; omega)
  simp at hA
  obtain ⟨rfl, rfl⟩ := hA
  refine ⟨b, off + k * 4, rfl, hlt, fun j hj => ?_⟩
  have := hc (k + j) (by rw [List.length_drop] at hj; omega)
  rw [List.getElem_drop, show off + k * 4 + j * 4 = off + (k + j) * 4 by omega]
  exact this
theorem TAt.take {w : World} {B : Nat} {A : Option Addr} {ts : List T} (h : TAt w B A ts) (k : Nat) : TAt w B A (ts.take k) := fun h0 => by
  obtain ⟨b, off, hA, hlt, hc⟩ := h (by rw [List.length_take] at h0; omega)
  refine ⟨b, off, hA, hlt, fun j hj => ?_⟩
  rw [List.getElem_take]
  exact hc j (by rw [List.length_take] at hj; omega)
end Go.Proofs.YthohfegnphocbaaGreatDoor
