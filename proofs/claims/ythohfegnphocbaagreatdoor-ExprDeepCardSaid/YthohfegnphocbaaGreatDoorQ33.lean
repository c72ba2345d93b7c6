/- Contract of Text where an expression may be, and where it may not. Condition: what is written stays below ten billion bytes, values' texts below a million. -/
import Derived.Test.YthohfegnphocbaaGreatDoorQ32
import Derived.Test.YthohfegnphocbaaGreatDoorQ27
import Derived.Test.YthohfegnphocbaaGreatDoorQ10
import Derived.Test.YthohfegnphocbaaGreatDoorQ29
import Derived.Test.YthohfegnphocbaaGreatDoorQ34
namespace Go.Proofs.YthohfegnphocbaaGreatDoor
open Go.RowKit
theorem exprW_fine {e : E} (h : Fine resB e) : e.short = true → ExprW e := by
  have two : ∀ (o : List UInt8) (x y : E), o ∈ twoOps → (x.short = true → ExprW x) → (y.short = true → ExprW y) → (op1 o [x, y]).short = true → ExprW (op1 o [x, y]) := fun o x y ho hx hy hs => by
    simp only [op1, E.short, E.shortL, Bool.and_eq_true, Bool.and_true] at hs
    exact w_two o ho x y (hx hs.2.1) (hy hs.2.2)
  have one : ∀ (o : List UInt8) (x : E), (op1 o [x]).short = true → x.short = true := fun o x hs => by
    simp only [op1, E.short, E.shortL, Bool.and_eq_true, Bool.and_true] at hs
    exact hs.2
  induction h with
  | lit v hv =>
    intro hs
    simp only [lit, E.short, E.shortL, Bool.and_eq_true, decide_eq_true_eq] at hs
    exact w_lit v hv hs.1.1.1
  | col t n ht hn => intro _; exact w_col t n
  | call n l hn hl ih =>
    intro hs
    simp only [call1, E.short, Bool.and_eq_true] at hs
    exact w_call n l fun j hj => ih l[j] (List.getElem_mem hj) (shortL_get hs.2 j hj)
  | all =>
    intro _
    refine w_call wCount [star] fun j hj => ?_
    have hj0 : j = 0 := by simpa using hj
    subst hj0; exact star_w
  | neg x hx ih => intro hs; exact w_neg x (ih (one _ _ hs))
  | not x hx ih => intro hs; exact w_not x (ih (one _ _ hs))
  | isn x hx ih => intro hs; exact w_isn x (ih (one _ _ hs))
  | nn x hx ih => intro hs; exact w_nn x (ih (one _ _ hs))
  | bin w x y hw hx hy ihx ihy => exact two w x y (by unfold twoOps; simp [hw]) ihx ihy
  | rel w x y hw hx hy ihx ihy => exact two w x y (by unfold twoOps; simp [hw]) ihx ihy
  | like x y hx hy ihx ihy => exact two wLike x y (by decide) ihx ihy
  | btw x y z hx hy hz ihx ihy ihz =>
    intro hs
    simp only [op1, E.short, E.shortL, Bool.and_eq_true, Bool.and_true] at hs
    exact w_btw x y z (ihx hs.2.1) (ihy hs.2.2.1) (ihz hs.2.2.2)
  | inn x l hne hx hl ihx ihl =>
    intro hs
    simp only [op1, E.short, E.shortL, Bool.and_eq_true] at hs
    exact w_in x l hne (ihx hs.2.1) fun j hj => ihl l[j] (List.getElem_mem hj) (shortL_get hs.2.2 j hj)
set_option maxRecDepth 100000 in
set_option maxHeartbeats 4000000 in
theorem text_yes (e : E) (x : Value) (S : Nat → Prop) (w : World) (hx : EAt S w e x) (hf : Fine resB e) (hsh : e.short = true) (hd : e.deep ≤ 1000000) (hc : chkE e = 0) (hne : e.txt ≠ []) (hlen : e.txt.length ≤ 10000000000) (hE : BV.Env w) :
    Calls Tryz.prog 17 #[x] w fun r w' => r = .returned (.tuple #[.string ⟨e.txt.toArray⟩, .int .i64 0]) ∧ Below w.heap.size w w' := by
  obtain ⟨s0, i1, i2, s3, s4, s5, A, n, c, rfl⟩ := hx.agg
  obtain ⟨W1, hW1, q1, z1, r1⟩ := box7 w (.string s0) (.int .i64 i1) (.int .i64 i2) (.string s3) (.string s4) (.string s5) (.slice A n c)
  have hx1 := hx.lim.later r1
  have HC := Lib.hid (eCheck_any e _ _ W1 hx1 (short_sn e hsh) hd)
  rw [hc] at HC
  obtain ⟨a0, a1, a2, a3, a4, a5, a6⟩ := q1.cells
  have HB := Lib.hid r1
  have HW1 := Lib.hid hW1
  have HX := Lib.hid (exprW_fine hf hsh)
  have HAt := Lib.hid hx1
  have HE := Lib.hid hE
  have h10 := hE.size
  have HN := Lib.hid hne
  have HLn := Lib.hid hlen
  clear hW1 r1 hx hx1 hf hsh hd hc hne hlen hE
  have HXt : Hid True := trivial
  go_enter Tryz.func17, Tryz.ntmps17
  go_wp2_with (rw [← HW1.out])
  refine (HC.out).mono ?_
  rintro r w3 ⟨rfl, b3⟩
  have hz3 := b3.size
  have HB3 := Lib.hid b3
  have q3 := q1.later b3
  have r4 := (Below.refl w3.heap.size w3).alloc (Nat.le_refl _) (.cells #[.pointer none, .slice none 0 0] 71)
  obtain ⟨W4, hW4⟩ : ∃ W4, W4 = w3.alloc (.cells #[.pointer none, .slice none 0 0] 71) := ⟨_, rfl⟩
  have hw : BX.W63 w3.heap.size w3.heap.size [] (w3.alloc (.cells #[.pointer none, .slice none 0 0] 71)) := Lib.fresh_isBuilder 71 5 w3
  rw [← hW4] at r4 hw
  have q4 := q3.later r4
  obtain ⟨d0, d1, d2, d3, d4, d5, d6⟩ := q4.cells
  have hz4 : W4.heap.size = w3.heap.size + 1 := by rw [hW4]; simp
  have hat4 : EAt (fun k => k < w3.heap.size) W4 e (.agg #[.string s0, .int .i64 i1, .int .i64 i2, .string s3, .string s4, .string s5, .slice A n c]) := ((HAt.out.later b3).later r4).wide (fun k hk => by have := hk.2; omega)
  have HW4 := Lib.hid hW4
  have HR4 := Lib.hid r4
  have hbw : Below w.heap.size w W4 := bthen (bthen HB.out b3) r4
  have HBw := Lib.hid hbw
  have hx2 := HX.out w3.heap.size w3.heap.size [] _ W4 hw (by omega) (by omega) (HE.out.below hbw h10) hat4
  have HP := Lib.hid (hx2 (by have := HLn.out; simp only [List.length_nil]; omega))
  clear hx2 hw hat4 hbw r4 b3 q3 q4 hW4 HX HAt HE HR4 HB3 HC HXt
  simp only [List.nil_append] at HP
  go_wp2_with (rw [← HW4.out])
  refine (HP.out).mono ?_
  rintro r w5 ⟨rfl, h5, b5, k5⟩
  have hz5 := b5.size
  have HS := Lib.hid (BX.wText w3.heap.size w3.heap.size _ w5 h5 HN.out)
  have HB5 := Lib.hid b5
  clear h5 b5 k5 HP
  go_wp2_with fail
  refine (HS.out).mono ?_
  rintro r w6 ⟨rfl, b6⟩
  have hfin : Below w.heap.size w w6 := (HBw.out.trans (HB5.out.mono (by omega))).trans (b6.mono (by omega))
  go_wp2_with fail
  go_ret2
  exact ⟨rfl, hfin⟩
end Go.Proofs.YthohfegnphocbaaGreatDoor
namespace Go.Proofs.YthohfegnphocbaaGreatDoor
def lvA : E := col [] [97]
def lvB : E := col [] [98]
def lv1 : E := lit ⟨2, 1, []⟩
def lv3 : E := lit ⟨2, 3, []⟩
def lvX : E := col [116] [120]
def lvT : E := op1 [42] [lv1, lvB]
def lvP : E := op1 [43] [lvA, lvT]
def lvL : E := op1 [60] [lvP, lv3]
def lvI : E := op1 wIsnull [lvX]
def lvN : E := op1 wNot [lvI]
def lvW : E := op1 wOr [lvL, lvN]
def sq1 : List UInt8 := [97, 32, 43, 32, 49, 32, 42, 32, 98, 32, 60, 32, 51, 32, 79, 82, 32, 78, 79, 84, 32, 116, 46, 120, 32, 73, 83, 32, 78, 85, 76, 76]
def sq2 : List UInt8 := [45, 32, 53]
def sq3 : List UInt8 := [97, 32, 60]
def lts1 : List T := [⟨1, [97], 0, 0⟩, ⟨5, [43], 0, 2⟩, ⟨2, [], 1, 4⟩, ⟨5, [42], 0, 6⟩, ⟨1, [98], 0, 8⟩, ⟨5, [60], 0, 10⟩, ⟨2, [], 3, 12⟩, ⟨1, [111, 114], 0, 14⟩, ⟨1, [110, 111, 116], 0, 17⟩, ⟨1, [116], 0, 21⟩, ⟨5, [46], 0, 22⟩, ⟨1, [120], 0, 23⟩, ⟨1, [105, 115], 0, 25⟩, ⟨1, [110, 117, 108, 108], 0, 28⟩, ⟨6, [], 0, 32⟩]
def lts2 : List T := [⟨5, [45], 0, 0⟩, ⟨2, [], 5, 2⟩, ⟨6, [], 0, 3⟩]
def lts3 : List T := [⟨1, [97], 0, 0⟩, ⟨5, [60], 0, 2⟩, ⟨6, [], 0, 3⟩]
theorem lcut1 : cutP 0 sq1 = .ok lts1 := by kernel_rfl
theorem lcut2 : cutP 0 sq2 = .ok lts2 := by kernel_rfl
theorem lcut3 : cutP 0 sq3 = .ok lts3 := by kernel_rfl
theorem lln1 : ln resB 1 lts1 = .ok (lvW, 14) := Lm.uniq (lm_line resB lts1 (by omega) (by omega)) ⟨40, fun f hf => by
  obtain ⟨k, rfl⟩ := Nat.exists_eq_add_of_le hf
  rw [Nat.add_comm]
  kernel_rfl⟩
theorem lln2 : ln resB 1 lts2 = .ok (lit ⟨2, -5, []⟩, 2) := Lm.uniq (lm_line resB lts2 (by omega) (by omega)) ⟨40, fun f hf => by
  obtain ⟨k, rfl⟩ := Nat.exists_eq_add_of_le hf
  rw [Nat.add_comm]
  kernel_rfl⟩
theorem lln3 : ln resB 1 lts3 = .error 2 := Lm.uniq (lm_line resB lts3 (by omega) (by omega)) ⟨40, fun f hf => by
  obtain ⟨k, rfl⟩ := Nat.exists_eq_add_of_le hf
  rw [Nat.add_comm]
  kernel_rfl⟩
theorem lpar1 : parP sq1 = (lvW, 0, 0) := by
  have hd : lvW.deep ≤ 40 := by decide
  have ha : atX lts1 0 = (lvW, 14, 0) := by
    unfold atX
    rw [List.drop_zero, lln1]
    simp only [if_neg (Nat.not_lt.2 hd)]
  unfold parP
  rw [if_neg (by decide), lcut1]
  simp only [ha]
  rfl
theorem lpar2 : parP sq2 = (lit ⟨2, -5, []⟩, 0, 0) := by
  have hd : (lit ⟨2, -5, []⟩).deep ≤ 40 := by decide
  have ha : atX lts2 0 = (lit ⟨2, -5, []⟩, 2, 0) := by
    unfold atX
    rw [List.drop_zero, lln2]
    simp only [if_neg (Nat.not_lt.2 hd)]
  unfold parP
  rw [if_neg (by decide), lcut2]
  simp only [ha]
  rfl
theorem lpar3 : parP sq3 = (e0, 3, 70) := by
  have ha : atX lts3 0 = (e0, 2, 70) := by
    unfold atX
    rw [List.drop_zero, lln3]
  unfold parP
  rw [if_neg (by decide), lcut3]
  simp only [ha]
  rfl
theorem lfine : Fine resB lvW := by
  have ha : Fine resB lvA := .col _ _ (.inl rfl) (by unfold NameOk Wrd; decide)
  have hb : Fine resB lvB := .col _ _ (.inl rfl) (by unfold NameOk Wrd; decide)
  have hx : Fine resB lvX := .col _ _ (.inr (by unfold NameOk Wrd; decide)) (by unfold NameOk Wrd; decide)
  have h1 : Fine resB lv1 := .lit _ (by unfold VOk; decide)
  have h3 : Fine resB lv3 := .lit _ (by unfold VOk; decide)
  exact .bin _ _ _ (by decide) (.rel _ _ _ (by decide) (.bin _ _ _ (by decide) ha (.bin _ _ _ (by decide) h1 hb)) h3) (.not _ (.isn _ hx))
theorem lshort : lvW.short = true := by kernel_rfl
theorem ldeep : lvW.deep ≤ 1000000 := by decide
theorem lchk : chkE lvW = 0 := by kernel_rfl
theorem ltxt : lvW.txt = [40, 40, 97, 32, 43, 32, 40, 49, 32, 42, 32, 98, 41, 41, 32, 60, 32, 51, 41, 32, 79, 82, 32, 40, 78, 79, 84, 32, 40, 116, 46, 120, 32, 73, 83, 32, 78, 85, 76, 76, 41, 41] := by kernel_rfl
theorem lsame1 : lvW.same lvW = true := by kernel_rfl
theorem lsame2 : (lit ⟨2, -5, []⟩).same (lit ⟨2, -5, []⟩) = true := by kernel_rfl
end Go.Proofs.YthohfegnphocbaaGreatDoor
namespace Go.Proofs.YthohfegnphocbaaGreatDoor
open Go.RowKit
theorem sub_of {w : World} {b : Nat} (rs : List Rw) (h : w.heap[b]? = some (.cells (flatE rs).toArray 27 (0, 0))) (hn : rs.length ≤ 5) (hs : ∀ r ∈ rs, Sub (fun _ => True) w r.1 r.2.1 r.2.2) (o : List UInt8) :
    Sub (fun _ => True) w (op1 o (rs.map (·.1))) (some ⟨b, 0, none⟩) rs.length := by
  rw [Sub.eq]
  refine ⟨by simp [op1, E.l], by unfold maxLen; omega, fun _ => ⟨b, 0, rfl, trivial, (Array.getElem?_eq_some_iff.1 h).1, ?_⟩⟩
  refine lcells_of (fun j u hu => ?_) hs
  rw [WideShapes.add_plain, Lib.cell_of_heap h, List.getElem?_toArray, Nat.zero_add]
  exact hu
theorem sub_nil (S : Nat → Prop) (w : World) (o : List UInt8) (v : Vl) (t n : List UInt8) : Sub S w (.mk o v t n []) none 0 := by
  rw [Sub.eq]
  exact ⟨by simp [E.l], by unfold maxLen; omega, fun h => by simp [E.l] at h⟩
theorem Bl6.at {w : World} {b1 b2 b3 b4 b5 b6 : Nat} (h : Bl6 w b1 b2 b3 b4 b5 b6) : EAt (fun _ => True) w lvW (.agg #[.string ⟨#[111, 114]⟩, .int .i64 0, .int .i64 0, .string ⟨#[]⟩, .string ⟨#[]⟩, .string ⟨#[]⟩, .slice (some ⟨b6, 0, none⟩) 2 2]) := by
  have n0 := fun (o : List UInt8) (v : Vl) (t n : List UInt8) => sub_nil (fun _ => True) w o v t n
  have s1 : Sub (fun _ => True) w lvT (some ⟨b1, 0, none⟩) 2 := sub_of [(lv1, none, 0), (lvB, none, 0)] h.h1 (by simp) (fun r hr => by
    simp only [List.mem_cons, List.not_mem_nil, or_false] at hr
    rcases hr with rfl | rfl <;> exact n0 _ _ _ _) [42]
  have s2 : Sub (fun _ => True) w lvP (some ⟨b2, 0, none⟩) 2 := sub_of [(lvA, none, 0), (lvT, some ⟨b1, 0, none⟩, 2)] h.h2 (by simp) (fun r hr => by
    simp only [List.mem_cons, List.not_mem_nil, or_false] at hr
    rcases hr with rfl | rfl
    · exact n0 _ _ _ _
    · exact s1) [43]
  have s3 : Sub (fun _ => True) w lvL (some ⟨b3, 0, none⟩) 2 := sub_of [(lvP, some ⟨b2, 0, none⟩, 2), (lv3, none, 0)] h.h3 (by simp) (fun r hr => by
    simp only [List.mem_cons, List.not_mem_nil, or_false] at hr
    rcases hr with rfl | rfl
    · exact s2
    · exact n0 _ _ _ _) [60]
  have s4 : Sub (fun _ => True) w lvI (some ⟨b4, 0, none⟩) 1 := sub_of [(lvX, none, 0)] h.h4 (by simp) (fun r hr => by
    simp only [List.mem_cons, List.not_mem_nil, or_false] at hr
    subst hr
    exact n0 _ _ _ _) wIsnull
  have s5 : Sub (fun _ => True) w lvN (some ⟨b5, 0, none⟩) 1 := sub_of [(lvI, some ⟨b4, 0, none⟩, 1)] h.h5 (by simp) (fun r hr => by
    simp only [List.mem_cons, List.not_mem_nil, or_false] at hr
    subst hr
    exact s4) wNot
  have s6 : Sub (fun _ => True) w lvW (some ⟨b6, 0, none⟩) 2 := sub_of [(lvL, some ⟨b3, 0, none⟩, 2), (lvN, some ⟨b5, 0, none⟩, 1)] h.h6 (by simp) (fun r hr => by
    simp only [List.mem_cons, List.not_mem_nil, or_false] at hr
    rcases hr with rfl | rfl
    · exact s3
    · exact s5) wOr
  exact ⟨_, _, rfl, s6⟩
end Go.Proofs.YthohfegnphocbaaGreatDoor
namespace Go.Proofs.YthohfegnphocbaaGreatDoor
open Go.RowKit
theorem lparse (s : ByteArray) (x : E) (q : Nat) (r : Int) (h : parP s.data.toList = (x, q, r)) (w : World) (hE : Env w) :
    Calls Tryz.prog 10 #[.string s] w fun e w' => ∃ s0 i1 i2 s3 s4 s5 A n c, e = .returned (.tuple #[.agg #[.string s0, .int .i64 i1, .int .i64 i2, .string s3, .string s4, .string s5, .slice A n c], .int .i64 q, .int .i64 r]) ∧ EAt (fun _ => True) w' x (.agg #[.string s0, .int .i64 i1, .int .i64 i2, .string s3, .string s4, .string s5, .slice A n c]) ∧ Below w.heap.size w w' := by
  refine (parse_any s w hE).mono ?_
  rintro e w' ⟨y, rfl, hx, hb⟩
  rw [h] at hx ⊢
  obtain ⟨s0, i1, i2, s3, s4, s5, A, n, c, rfl⟩ := hx.agg
  exact ⟨s0, i1, i2, s3, s4, s5, A, n, c, rfl, hx.wide (fun _ _ => trivial), hb⟩
theorem ltext (w : World) (b6 : Nat) (S : Nat → Prop) (h : EAt S w lvW (.agg #[.string ⟨#[111, 114]⟩, .int .i64 0, .int .i64 0, .string ⟨#[]⟩, .string ⟨#[]⟩, .string ⟨#[]⟩, .slice (some ⟨b6, 0, none⟩) 2 2])) (hE : BV.Env w) :
    Calls Tryz.prog 17 #[.agg #[.string ⟨#[111, 114]⟩, .int .i64 0, .int .i64 0, .string ⟨#[]⟩, .string ⟨#[]⟩, .string ⟨#[]⟩, .slice (some ⟨b6, 0, none⟩) 2 2]] w fun r w' => r = .returned (.tuple #[.string ⟨#[40, 40, 97, 32, 43, 32, 40, 49, 32, 42, 32, 98, 41, 41, 32, 60, 32, 51, 41, 32, 79, 82, 32, 40, 78, 79, 84, 32, 40, 116, 46, 120, 32, 73, 83, 32, 78, 85, 76, 76, 41, 41]⟩, .int .i64 0]) ∧ Below w.heap.size w w' := by
  have h1 := text_yes lvW _ S w h lfine lshort ldeep lchk (by rw [ltxt]; simp) (by rw [ltxt]; decide) hE
  rw [ltxt] at h1
  exact h1
def LT (w : World) : Type := { W : World // Below w.heap.size w W }
theorem LT.seven {w : World} {b : Nat} {c0 c1 c2 c3 c4 c5 c6 : Value} (h : B7 w b c0 c1 c2 c3 c4 c5 c6) (x : LT w) : B7 x.1 b c0 c1 c2 c3 c4 c5 c6 := h.later x.2
theorem lsame_want (w : World) (x y : Value) (S S' : Nat → Prop) (hx : EAt S w lvW x) (hy : EAt S' w lvW y) (W : LT w) : Calls Tryz.prog 12 #[x, y] W.1 fun r w' => r = .returned (.bool true) ∧ Below W.1.heap.size W.1 w' := by
  have h := rSame_any lvW lvW x y S S' W.1 (hx.later W.2) (hy.later W.2)
  rw [lsame1] at h
  exact h
theorem lsame_five (w : World) (x : Value) (S : Nat → Prop) (hx : EAt S w (lit ⟨2, -5, []⟩) x) (W : LT w) : Calls Tryz.prog 12 #[x, .agg #[.string ⟨#[108, 105, 116]⟩, .int .i64 2, .int .i64 (-5), .string ⟨#[]⟩, .string ⟨#[]⟩, .string ⟨#[]⟩, .slice none 0 0]] W.1 fun r w' => r = .returned (.bool true) ∧ Below W.1.heap.size W.1 w' := by
  have h := rSame_any (lit ⟨2, -5, []⟩) (lit ⟨2, -5, []⟩) x (.agg #[.string ⟨#[108, 105, 116]⟩, .int .i64 2, .int .i64 (-5), .string ⟨#[]⟩, .string ⟨#[]⟩, .string ⟨#[]⟩, .slice none 0 0]) S (fun _ => True) W.1 (hx.later W.2) ⟨none, 0, rfl, sub_nil _ _ _ _ _ _⟩
  rw [lsame2] at h
  exact h
end Go.Proofs.YthohfegnphocbaaGreatDoor
