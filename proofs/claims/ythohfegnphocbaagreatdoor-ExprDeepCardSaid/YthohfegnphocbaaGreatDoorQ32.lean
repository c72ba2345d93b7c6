/- Contract of the writer of expressions: two parts, and any that may be; Text. Condition: what is written stays below ten billion bytes, values' texts below a million. -/
import Derived.Test.YthohfegnphocbaaGreatDoorQ31
import Derived.BigRegion
namespace Go.Proofs.YthohfegnphocbaaGreatDoor
open Go.RowKit
def twoOps : List (List UInt8) := binOps ++ rels ++ [wLike]
theorem two_upper : ∀ o ∈ twoOps, Lib.toUpperA o = o.map upC := by decide
theorem two_ascii : ∀ o ∈ twoOps, ∀ b ∈ o, b.toNat < 128 := by decide
theorem two_not : ∀ o ∈ twoOps, ∀ q ∈ [wLit, wCol, wStar, wCall, wNeg, wNot, wIsnull, wNotnull, wIn, wBetween], o ≠ q := by decide
theorem two_len : ∀ o ∈ twoOps, o.length ≤ 4 := by decide
theorem two_txt2 {o : List UInt8} (h : o ∈ twoOps) (x y : E) : (op1 o [x, y]).txt = x.prt ++ ((32 :: (o.map upC ++ [32])) ++ y.prt) := by
  have hn := two_not o h
  show txtOf o v0 [] [] [x, y] [x.txt, y.txt] = _
  unfold txtOf
  rw [if_neg (hn wLit (by decide)), if_neg (hn wCol (by decide)), if_neg (hn wCall (by decide)), if_neg (hn wStar (by decide)), if_neg (hn wNeg (by decide)), if_neg (hn wNot (by decide)), if_neg (hn wIsnull (by decide)), if_neg (hn wNotnull (by decide)), if_neg (hn wBetween (by decide)), if_neg (hn wIn (by decide))]
  simp [E.prt]
set_option maxRecDepth 100000 in
set_option maxHeartbeats 16000000 in
theorem w_two (o : List UInt8) (ho : o ∈ twoOps) (x y : E) (hx' : ExprW x) (hy : ExprW y) : ExprW (op1 o [x, y]) := by
  intro B b acc u w h hB h10 hE hx hlen
  obtain ⟨A, c, rfl, hs⟩ := hx
  obtain ⟨W1, hW1, q1, r1, hw1, hB1, hE1, hl1⟩ := w_open (o := o) (v := v0) (t := []) (n := []) (l := [x, y]) h hB h10 hE hs
  obtain ⟨a0, a1, a2, a3, a4, a5, a6⟩ := q1.cells
  have HB := Lib.hid r1
  have HW1 := Lib.hid hW1
  have hmid : (⟨#[32]⟩ ++ (⟨(Lib.toUpperA o).toArray⟩ : ByteArray) ++ ⟨#[32]⟩ : ByteArray).data.toList = 32 :: (o.map upC ++ [32]) := by
    rw [app_list, app_list, two_upper o ho]
    simp
  have htx : (op1 o [x, y]).txt = pre [x, y] [⟨#[32]⟩ ++ (⟨(Lib.toUpperA o).toArray⟩ : ByteArray) ++ ⟨#[32]⟩] 2 := by
    rw [pre_two, hmid, two_txt2 ho]
  rw [htx] at hlen ⊢
  have hol := two_len o ho
  have hsz : (⟨(Lib.toUpperA o).toArray⟩ : ByteArray).size = o.length := by show (Lib.toUpperA o).toArray.size = _; rw [two_upper o ho]; simp
  have HUp := Lib.hid (fun W => Tryz.strings_ToUpper_ascii (str o) W (by rw [str_size]; omega) (by
    intro j b hb
    rw [str_list] at hb
    exact two_ascii o ho b (List.mem_of_getElem? hb)))
  rw [str_list] at HUp
  have hn := two_not o ho
  have hne : ∀ q ∈ [wLit, wCol, wStar, wCall, wNeg, wNot, wIsnull, wNotnull, wIn, wBetween], ((str o).toList == q) = false := fun q hq => by
    rw [Lib.toList_data, str_list, beq_eq_false_iff_ne]; exact hn q hq
  have b1 := hne wLit (by decide)
  have b2 := hne wCol (by decide)
  have b3 := hne wStar (by decide)
  have b4 := hne wCall (by decide)
  have b5 := hne wNeg (by decide)
  have b6 := hne wNot (by decide)
  have b7 := hne wIsnull (by decide)
  have b8 := hne wNotnull (by decide)
  have b9 := hne wIn (by decide)
  have b10 := hne wBetween (by decide)
  simp only [wLit, wCol, wStar, wCall, wNeg, wNot, wIsnull, wNotnull, wIn, wBetween] at b1 b2 b3 b4 b5 b6 b7 b8 b9 b10
  have HP := Lib.hid (fun W g9 (hM : MAt W g9 [⟨#[32]⟩ ++ (⟨(Lib.toUpperA o).toArray⟩ : ByteArray) ++ ⟨#[32]⟩]) (hF : Firm B W g9) (hw : BX.W63 B b acc W) hBW (hEW : BV.Env W) (hlw : LW B W [x, y] A c) => partsW_any [x, y] (fun j hj => by
    have hj3 : j < 2 := hj
    have : j = 0 ∨ j = 1 := by omega
    rcases this with rfl | rfl
    · exact partW_any x hx'
    · exact partW_any y hy) [⟨#[32]⟩ ++ (⟨(Lib.toUpperA o).toArray⟩ : ByteArray) ++ ⟨#[32]⟩] (by simp) (by simp) B b acc W A c g9 hM hF hw hBW h10 hEW hlw hlen)
  generalize (⟨(Lib.toUpperA o).toArray⟩ : ByteArray) = up at *
  simp only [op1, E.op, E.v, E.tb, E.nm, E.l, eVal, List.length_cons, List.length_nil, Nat.zero_add, Nat.reduceAdd] at *
  generalize pre [x, y] [⟨#[32]⟩ ++ up ++ ⟨#[32]⟩] 2 = tx at *
  have HWw := Lib.hid hw1
  have HE1 := Lib.hid hE1
  have HL1 := Lib.hid hl1
  have HQ := Lib.hid q1
  have hcat1 : ¬ (9223372036854775807 < 1 + up.size) := by omega
  have hcat2 : ¬ (9223372036854775807 < 1 + up.size + 1) := by omega
  have hmk : ∀ (W : World) (m : ByteArray), MAt (W.alloc (.cells #[.string m] 9)) W.heap.size [m] := fun W m => by
    obtain ⟨V, hV, hM, -, -⟩ := mark1 W m
    rw [← hV]; exact hM
  have HMk := Lib.hid hmk
  clear hW1 q1 r1 h hE hs hl1 hE1 hx' hy hlen htx hw1 hmid hn hne ho hmk hsz hol
  generalize str o = bo at *
  go_enter Tryz.func38, Tryz.ntmps38
  go_wp2_with (rw [← HW1.out])
  go_region_with (first
    | (go_at_call 82
       refine (HUp.out _).mono ?_
       rintro r w3 ⟨rfl, b3'⟩
       have hb3 : Below W1.heap.size W1 w3 := ((Below.refl W1.heap.size W1).drew).trans b3'
       have q3 := HQ.out.later hb3
       obtain ⟨d0, d1, d2, d3, d4, d5, d6⟩ := q3.cells
       have hz3 : W1.heap.size ≤ w3.heap.size := hb3.size
       have r4 := (Below.refl w3.heap.size w3).alloc (Nat.le_refl _) (.cells #[.string (⟨#[32]⟩ ++ up ++ ⟨#[32]⟩)] 9)
       have q4 := q3.later r4
       obtain ⟨e0, e1, e2, e3, e4, e5, e6⟩ := q4.cells
       have HB4 := Lib.hid (bthen hb3 r4)
       have HC := Lib.hid (HP.out _ _ (HMk.out w3 _) (.inr ⟨_, _, _, heap_alloc_new w3 _, by decide, by decide⟩) (BX.W63.below HWw.out HB4.out) (by have := HB4.out.size; omega) (HE1.out.below (HB4.out.mono hB1) h10) (HL1.out.next (HB4.out.mono hB1) (keep_below HB4.out)))
       clear b3' hb3 q3 r4 q4)
    | (go_at_call 81
       refine (HC.out).mono ?_
       rintro r w5 ⟨rfl, h5, b5', k5⟩))
  all_goals
    go_wp2_with fail
    go_end0
    exact ⟨rfl, h5, ((HB.out.mono hB).trans (HB4.out.mono hB1)).trans b5', ((keep_below HB.out).trans (keep_below HB4.out)).trans k5⟩
end Go.Proofs.YthohfegnphocbaaGreatDoor
