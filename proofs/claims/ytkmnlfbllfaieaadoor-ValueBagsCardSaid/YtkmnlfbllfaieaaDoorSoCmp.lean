/- The comparison of two places of a bag, an order; contract of value.bag's compare. Conditions: the places are the bag's, no row is longer than the greatest int. -/
import Derived.Test.YtkmnlfbllfaieaaDoorSoSort
import Derived.Test.YtkmnlfbllfaieaaDoorRow
namespace Go.Proofs.YtkmnlfbllfaieaaDoor
open Go.RowKit Go.Sort
/-- The row at a place. -/
def keyOf (rs : List R) (x : Int) : List V := ((rs[x.toNat]?).map R.xs).getD []
/-- How two places stand: by their rows, then by themselves. -/
def cfR (rs : List R) (x y : Int) : Int := if cmpR (keyOf rs x) (keyOf rs y) = 0 then cmpI x y else cmpR (keyOf rs x) (keyOf rs y)
theorem cfR_ok (rs : List R) : CmpOk (cfR rs) where
  range x y := (lex_ok cmpR_ok cmpI_ok).range (keyOf rs x, x) (keyOf rs y, y)
  flip x y := (lex_ok cmpR_ok cmpI_ok).flip (keyOf rs x, x) (keyOf rs y, y)
  zero x y := by
    have h := (lex_ok cmpR_ok cmpI_ok).zero (keyOf rs x, x) (keyOf rs y, y)
    constructor
    · intro e; exact congrArg Prod.snd (h.1 e)
    · rintro rfl; exact h.2 rfl
  trans x y z := (lex_ok cmpR_ok cmpI_ok).trans (keyOf rs x, x) (keyOf rs y, y) (keyOf rs z, z)
theorem swo_of {cf : Int → Int → Int} (h : CmpOk cf) : SWO (ltOf cf) where
  irrefl x := by
    unfold ltOf
    rw [h.self]; rfl
  trans x y z h1 h2 := by
    unfold ltOf at *
    have a := of_decide_eq_true h1
    have b := of_decide_eq_true h2
    exact decide_eq_true (h.lt_le a (by omega))
  ntrans x y z h1 h2 := by
    unfold ltOf at *
    have a := of_decide_eq_false h1
    have b := of_decide_eq_false h2
    have e1 := h.flip x y
    have e2 := h.flip y z
    have e3 := h.flip x z
    have e4 := h.le_trans (a := z) (b := y) (d := x) (by omega) (by omega)
    exact decide_eq_false (by omega)
theorem keyOf_at {rs : List R} {i : Nat} (h : i < rs.length) : keyOf rs (i : Int) = rs[i].xs := by
  unfold keyOf
  rw [Int.toNat_natCast, List.getElem?_eq_getElem h]
  rfl
def RowsOk (rs : List R) : Prop := ∀ r ∈ rs, r.xs.length ≤ 140737488355328
set_option maxRecDepth 100000 in
set_option maxHeartbeats 2000000 in
theorem compare_any (rs : List R) (A : Option Addr) (c : Nat) (w : World) (hr : RowsAt w w.heap.size A rs) (hs : RowsOk rs) (hm : rs.length ≤ 140737488355328) (x y : Nat) (hx : x < rs.length) (hy : y < rs.length) :
    Calls Tryd.prog 37 #[.slice A rs.length c, .int .i64 x, .int .i64 y] w fun e w' => e = .returned (.int .i64 (cfR rs x y)) ∧ Below w.heap.size w w' := by
  obtain ⟨b, off, rfl, hb, hc⟩ := hr.1 (by omega)
  have c1 := hc x hx
  have c2 := hc y hy
  have HX := cmpR_any rs[x].xs rs[y].xs rs[x].A rs[y].A rs[x].c rs[y].c w.drew ((hr.2 rs[x] (List.getElem_mem hx)).later (Below.refl _ w).drew) ((hr.2 rs[y] (List.getElem_mem hy)).later (Below.refl _ w).drew) (by have := hs rs[x] (List.getElem_mem hx); omega)
  unfold R.val at c1 c2
  have HF : Hid (cfR rs x y = if cmpR rs[x].xs rs[y].xs = 0 then cmpI x y else cmpR rs[x].xs rs[y].xs) := by
    show _ = _
    unfold cfR
    rw [keyOf_at hx, keyOf_at hy]
  generalize cfR rs x y = z at *
  generalize cmpR rs[x].xs rs[y].xs = r at *
  have HX := Lib.hid HX
  clear hr hc hs
  have HCI := Lib.hid (fun w => cmpInt_any (x : Int) (y : Int) w)
  generalize rs[x] = rx at *
  generalize rs[y] = ry at *
  have hxn : (x : Int) < (rs.length : Int) := by omega
  have hyn : (y : Int) < (rs.length : Int) := by omega
  generalize rs.length = n at *
  by_cases h0 : r = 0
  · subst h0
    go_enter Tryd.func37, Tryd.ntmps37
    go_wp2_with fail
    go_still_tail 8, (by kernel_rfl)
    change wpList _ _ _ _ _ w.drew
    go_wp2_with fail
    refine HX.out.mono ?_
    rintro e w1 ⟨rfl, hb1⟩
    go_wp2_with fail
    refine (HCI.out _).mono ?_
    rintro e w2 ⟨rfl, rfl⟩
    go_wp2_with fail
    go_ret
    exact ⟨ret_int (by rw [HF.out]; simp), (Below.refl _ w).drew.trans hb1⟩
  · have h1 : (r != 0) = true := by simpa using h0
    have H0 := Lib.hid h0
    clear h0
    go_enter Tryd.func37, Tryd.ntmps37
    go_wp2_with fail
    go_still_tail 8, (by kernel_rfl)
    change wpList _ _ _ _ _ w.drew
    go_wp2_with fail
    refine HX.out.mono ?_
    rintro e w1 ⟨rfl, hb1⟩
    go_wp2_with fail
    go_ret
    exact ⟨ret_int (by rw [HF.out, if_neg H0.out]), (Below.refl _ w).drew.trans hb1⟩
end Go.Proofs.YtkmnlfbllfaieaaDoor
