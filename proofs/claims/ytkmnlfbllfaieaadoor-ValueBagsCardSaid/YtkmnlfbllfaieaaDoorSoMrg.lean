/- Plain facts on two lists of rows in order, merged. No condition. -/
import Derived.Test.YtkmnlfbllfaieaaDoorSoRows
namespace Go.Proofs.YtkmnlfbllfaieaaDoor
/-- The row does not stand behind the other. -/
def rle (a b : R) : Bool := !decide (cmpR b.xs a.xs < 0)
def leR (a b : R) : Prop := cmpR a.xs b.xs ≤ 0
theorem rle_iff {a b : R} : rle a b = true ↔ leR a b := by
  have f := cmpR_ok.flip a.xs b.xs
  unfold rle leR
  simp
  omega
theorem mrg_perm (ls ms : List R) : (List.merge ls ms rle).Perm (ls ++ ms) := List.merge_perm_append rle
theorem mrg_sorted {ls ms : List R} (ha : ls.Pairwise leR) (hb : ms.Pairwise leR) : (List.merge ls ms rle).Pairwise leR := by
  have h := List.pairwise_merge (le := rle) (fun a b c h1 h2 => by
    rw [rle_iff] at *
    exact cmpR_ok.le_trans h1 h2) (fun a b => by
    have f := cmpR_ok.flip a.xs b.xs
    simp only [Bool.or_eq_true, rle_iff]
    unfold leR
    omega) ls ms (ha.imp fun h => rle_iff.2 h) (hb.imp fun h => rle_iff.2 h)
  exact h.imp fun h => rle_iff.1 h
theorem mrg_right {a b : R} {ls ms : List R} (h : cmpR b.xs a.xs < 0) : List.merge (a :: ls) (b :: ms) rle = b :: List.merge (a :: ls) ms rle :=
  List.cons_merge_cons_neg rle ls ms (by unfold rle; simpa using h)
theorem mrg_left {a b : R} {ls ms : List R} (h : ¬ cmpR b.xs a.xs < 0) : List.merge (a :: ls) (b :: ms) rle = a :: List.merge ls (b :: ms) rle :=
  List.cons_merge_cons_pos rle ls ms (by unfold rle; simpa using h)
/-- A list of fewer than two rows is in order. -/
theorem short_sorted {l : List R} (h : l.length < 2) : l.Pairwise leR := by
  match l, h with
  | [], _ => exact List.Pairwise.nil
  | [a], _ => exact List.pairwise_singleton _ _
end Go.Proofs.YtkmnlfbllfaieaaDoor
