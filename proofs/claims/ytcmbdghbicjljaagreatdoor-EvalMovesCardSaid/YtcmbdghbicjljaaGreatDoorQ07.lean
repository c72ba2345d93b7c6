/- Plain facts on expressions (no program): what an expression is written with is read as it again. No condition. -/
import Derived.Test.YtcmbdghbicjljaaGreatDoorQ06
import Derived.Test.YtcmbdghbicjljaaGreatDoorQ05
import Derived.Lib.ItoaNum
namespace Go.Proofs.YtcmbdghbicjljaaGreatDoor
def Wrd (n : List UInt8) : Prop := headIs n isLet = true ∧ (∀ c ∈ n, isWch c = true) ∧ n.length ≤ 32 ∧ n.map low = n
def NameOk (res : List UInt8 → Bool) (n : List UInt8) : Prop := res n = false ∧ Wrd n
def VOk (v : Vl) : Prop := v = v0 ∨ v = ⟨1, 1, []⟩ ∨ v = ⟨1, 0, []⟩ ∨ (v.k = 2 ∧ v.s = [] ∧ -9223372036854775808 ≤ v.i ∧ v.i ≤ 9223372036854775807) ∨ (v.k = 3 ∧ v.i = 0) ∨ (v.k = 4 ∧ v.i = 0)
def binOps : List (List UInt8) := [wOr, wAnd, [124, 124], [43], [45], [42], [47], [37]]
inductive Fine (res : List UInt8 → Bool) : E → Prop
  | lit (v : Vl) : VOk v → Fine res (lit v)
  | col (t n : List UInt8) : (t = [] ∨ NameOk res t) → NameOk res n → Fine res (col t n)
  | call (n : List UInt8) (l : List E) : NameOk res n → (∀ x ∈ l, Fine res x) → Fine res (call1 n l)
  | all : Fine res (call1 wCount [star])
  | neg (x : E) : Fine res x → Fine res (op1 wNeg [x])
  | not (x : E) : Fine res x → Fine res (op1 wNot [x])
  | isn (x : E) : Fine res x → Fine res (op1 wIsnull [x])
  | nn (x : E) : Fine res x → Fine res (op1 wNotnull [x])
  | bin (w : List UInt8) (x y : E) : w ∈ binOps → Fine res x → Fine res y → Fine res (op1 w [x, y])
  | rel (w : List UInt8) (x y : E) : w ∈ rels → Fine res x → Fine res y → Fine res (op1 w [x, y])
  | like (x y : E) : Fine res x → Fine res y → Fine res (op1 wLike [x, y])
  | btw (x y z : E) : Fine res x → Fine res y → Fine res z → Fine res (op1 wBetween [x, y, z])
  | inn (x : E) (l : List E) : l ≠ [] → Fine res x → (∀ y ∈ l, Fine res y) → Fine res (op1 wIn (x :: l))
section
variable {res : List UInt8 → Bool}
def TH (P : List T) : Prop := ∃ t l, P = t :: l ∧ ((t.k == 1 || t.k == 5) = true → t.s ≠ [41] ∧ t.s ≠ [42])
def PH (P : List T) : Prop := ∃ t l, P = t :: l ∧ ((t.k == 1 || t.k == 5) = true → t.s ≠ [41] ∧ t.s ≠ [42] ∧ t.s ≠ [45] ∧ t.s ≠ wNot)
theorem PH.th {P : List T} (h : PH P) : TH P := by obtain ⟨t, l, e, h⟩ := h; exact ⟨t, l, e, fun hk => ⟨(h hk).1, (h hk).2.1⟩⟩
theorem PH.app {P : List T} (h : PH P) (Q : List T) : PH (P ++ Q) := by obtain ⟨t, l, rfl, h⟩ := h; exact ⟨t, l ++ Q, rfl, h⟩
theorem ph_brk (P : List T) : PH (brk P) := ⟨_, _, rfl, fun _ => by decide⟩
theorem isS_cons {s : List UInt8} {t : T} {l : List T} (h : (t.k == 1 || t.k == 5) = true → t.s ≠ s) : isS s (t :: l) = false := by
  show (((t.k == 1 || t.k == 5) && t.s == s)) = false
  cases hk : (t.k == 1 || t.k == 5) with
  | false => rfl
  | true => rw [Bool.true_and, beq_eq_false_iff_ne]; exact h hk
theorem PH.no {P : List T} (h : PH P) (rest : List T) : isS wNot (P ++ rest) = false := by obtain ⟨t, l, rfl, h⟩ := h; exact isS_cons fun hk => (h hk).2.2.2
theorem TH.no41 {P : List T} (h : TH P) (rest : List T) : isS [41] (P ++ rest) = false := by obtain ⟨t, l, rfl, h⟩ := h; exact isS_cons fun hk => (h hk).1
theorem TH.no42 {P : List T} (h : TH P) (rest : List T) : isS [42] (P ++ rest) = false := by obtain ⟨t, l, rfl, h⟩ := h; exact isS_cons fun hk => (h hk).2
structure Well (res : List UInt8 → Bool) (x : E) : Prop where
  text : TextOk res x.toks x
  part : PartOk res x.part x
  th : TH x.toks
  ph : PH x.part
theorem well_plain {x : E} (hp : x.plain = true) (h : PartOk res x.toks x) (h' : PH x.toks) : Well res x := by
  have e : x.part = x.toks := by unfold E.part partT; rw [if_pos hp]
  exact ⟨h.text res, by rw [e]; exact h, h'.th, by rw [e]; exact h'⟩
theorem well_not {x : E} (hp : x.plain = false) (h : TextOk res x.toks x) (h' : TH x.toks) : Well res x := by
  have e : x.part = brk x.toks := by unfold E.part partT; rw [if_neg (by rw [hp]; decide)]
  exact ⟨h, by rw [e]; exact h.inBrk res, h', by rw [e]; exact ph_brk _⟩
def tk (w : List UInt8) : T := if headIs w isLet then wd w else sg w
theorem bin_text {k : Nat} {w : List UInt8} {P Q : List T} {x y : E} (hk : k = 1 ∨ k = 2 ∨ k = 5 ∨ k = 6 ∨ k = 7) (hw : w ∈ wordsOf k) (hP : PartOk res P x) (hQ : PartOk res Q y) (hh : PH P) : TextOk res (P ++ tk w :: Q) (op1 w [x, y]) := by
  intro rest hr
  have hop : ∀ r, opAt k (tk w :: r) = some w ∧ lineOf (here (tk w :: r)) = k := by
    intro r
    rcases hk with rfl | rfl | rfl | rfl | rfl <;> simp only [wordsOf, List.mem_cons, List.not_mem_nil, or_false] at hw
    · subst hw; exact ⟨rfl, by show lineOf (tk wOr) = 1; decide⟩
    · subst hw; exact ⟨rfl, by show lineOf (tk wAnd) = 2; decide⟩
    · subst hw; exact ⟨rfl, by show lineOf (tk [124, 124]) = 5; decide⟩
    · rcases hw with hw | hw <;> subst hw
      · exact ⟨rfl, by show lineOf (tk [43]) = 6; decide⟩
      · exact ⟨rfl, by show lineOf (tk [45]) = 6; decide⟩
    · rcases hw with hw | hw | hw <;> subst hw
      · exact ⟨rfl, by show lineOf (tk [42]) = 7; decide⟩
      · exact ⟨rfl, by show lineOf (tk [47]) = 7; decide⟩
      · exact ⟨rfl, by show lineOf (tk [37]) = 7; decide⟩
  obtain ⟨ho, hl⟩ := hop (Q ++ rest)
  obtain ⟨f, e⟩ := hP (k + 1) (by omega) (by omega) (tk w :: (Q ++ rest)) (by omega)
  obtain ⟨g, e'⟩ := hQ (k + 1) (by omega) (by omega) rest (by omega)
  have hd : Rd res k (P ++ tk w :: Q) rest (op1 w [x, y]) := by
    refine ⟨f + g + 3, ?_⟩
    have ea : (P ++ tk w :: Q) ++ rest = P ++ tk w :: (Q ++ rest) := by simp
    rw [ea, pLine.eq_6 res k _ _ (by omega) (by omega) (by omega) (by omega), (up_line res _ _).at e (by omega : f ≤ f + g + 2)]
    have el : (P ++ tk w :: Q).length = P.length + (1 + (Q.length + 0)) := by simp; omega
    rw [el]
    refine seq_ok ?_
    rw [drop_app, pMore, ho]
    refine seq_ok ?_
    simp only [List.drop_succ_cons, List.drop_zero]
    rw [(up_line res _ _).at e' (by omega : g ≤ f + g + 1)]
    refine seq_ok ?_
    have ed : (tk w :: (Q ++ rest)).drop (1 + Q.length) = rest := by rw [Nat.add_comm, List.drop_succ_cons, drop_app]
    rw [ed, pMore, opAt_none (by omega)]
  refine rd_down res hd (by omega) (fun _ => ?_) (fun h => by omega) (k - 1) 1 (by omega) (by omega) hr
  have := hh.no (tk w :: Q ++ rest)
  simpa using this
theorem rel_text {w : List UInt8} {P Q : List T} {x y : E} (hw : w ∈ rels) (hP : PartOk res P x) (hQ : PartOk res Q y) (hh : PH P) : TextOk res (P ++ tk w :: Q) (op1 w [x, y]) := by
  intro rest hr
  have hop : ∀ r, relAt (tk w :: r) = some w ∧ lineOf (here (tk w :: r)) = 4 := by
    intro r
    simp only [rels, List.mem_cons, List.not_mem_nil, or_false] at hw
    rcases hw with hw | hw | hw | hw | hw | hw <;> subst hw
    · exact ⟨rfl, by show lineOf (tk [61]) = 4; decide⟩
    · exact ⟨rfl, by show lineOf (tk [60, 62]) = 4; decide⟩
    · exact ⟨rfl, by show lineOf (tk [60, 61]) = 4; decide⟩
    · exact ⟨rfl, by show lineOf (tk [62, 61]) = 4; decide⟩
    · exact ⟨rfl, by show lineOf (tk [60]) = 4; decide⟩
    · exact ⟨rfl, by show lineOf (tk [62]) = 4; decide⟩
  obtain ⟨ho, hl⟩ := hop (Q ++ rest)
  obtain ⟨f, e⟩ := hP 5 (by omega) (by omega) (tk w :: (Q ++ rest)) (by omega)
  obtain ⟨g, e'⟩ := hQ 5 (by omega) (by omega) rest (by omega)
  have hd : Rd res 4 (P ++ tk w :: Q) rest (op1 w [x, y]) := by
    refine ⟨f + g + 3, ?_⟩
    have ea : (P ++ tk w :: Q) ++ rest = P ++ tk w :: (Q ++ rest) := by simp
    rw [ea, pLine, (up_line res _ _).at e (by omega : f ≤ f + g + 2)]
    have el : (P ++ tk w :: Q).length = P.length + (1 + (Q.length + 0)) := by simp; omega
    rw [el]
    refine seq_ok ?_
    rw [drop_app, pRel, ho]
    refine seq_ok ?_
    simp only [List.drop_succ_cons, List.drop_zero]
    rw [(up_line res _ _).at e' (by omega : g ≤ f + g + 1)]
    exact seq_ok rfl
  refine rd_down res hd (by omega) (fun _ => ?_) (fun h => by omega) 3 1 (by omega) (by omega) hr
  have := hh.no (tk w :: Q ++ rest)
  simpa using this
end
end Go.Proofs.YtcmbdghbicjljaaGreatDoor
namespace Go.Proofs.YtcmbdghbicjljaaGreatDoor
def TOk (t : T) : Prop := (t.k = 1 → Wrd t.s) ∧ (t.k = 2 → -9223372036854775808 ≤ t.i ∧ t.i ≤ 9223372036854775807)
def TsOk (l : List T) : Prop := ∀ t ∈ l, TOk t
theorem TsOk.drop {l : List T} (h : TsOk l) (m : Nat) : TsOk (l.drop m) := fun t ht => h t (List.mem_of_mem_drop ht)
theorem TsOk.here {l : List T} (h : TsOk l) : TOk (here l) := by
  cases l with
  | nil => exact ⟨fun h => absurd h (by decide), fun h => absurd h (by decide)⟩
  | cons t l => exact h t (by simp)
section
variable {res : List UInt8 → Bool}
end
end Go.Proofs.YtcmbdghbicjljaaGreatDoor
namespace Go.Proofs.YtcmbdghbicjljaaGreatDoor
end Go.Proofs.YtcmbdghbicjljaaGreatDoor
namespace Go.Proofs.YtcmbdghbicjljaaGreatDoor
def Tk1 (t : T) : Prop := (t.k = 1 → Wrd t.s) ∧ (t.k = 5 → headIs t.s isLet = false)
theorem Tk1.word {t : T} (h : Tk1 t) (hk : t.k = 1) {s : List UInt8} (hs : headIs s isLet = false) : t.s ≠ s := by
  rintro rfl
  rw [(h.1 hk).1] at hs
  cases hs
theorem Tk1.sign {t : T} (h : Tk1 t) (hk : t.k = 5) {s : List UInt8} (hs : headIs s isLet = true) : t.s ≠ s := by
  rintro rfl
  rw [h.2 hk] at hs
  cases hs
section
variable (res : List UInt8 → Bool)
end
end Go.Proofs.YtcmbdghbicjljaaGreatDoor
namespace Go.Proofs.YtcmbdghbicjljaaGreatDoor
end Go.Proofs.YtcmbdghbicjljaaGreatDoor
namespace Go.Proofs.YtcmbdghbicjljaaGreatDoor
end Go.Proofs.YtcmbdghbicjljaaGreatDoor
namespace Go.Proofs.YtcmbdghbicjljaaGreatDoor
section
variable {res : List UInt8 → Bool}
theorem len1 {P : List T} {t : T} {Q : List T} : (P ++ t :: Q).length = P.length + (1 + Q.length) := by simp; omega
theorem down4 {P Q rest : List T} {x : E} (h : Rd res 4 (P ++ Q) rest x) (hh : PH P) (hr : lineOf (here rest) < 1) : Rd res 1 (P ++ Q) rest x := by
  refine rd_down res h (by omega) (fun _ => ?_) (fun h => by omega) 3 1 (by omega) (by omega) hr
  have := hh.no (Q ++ rest)
  simpa using this
theorem isn_text {P : List T} {x : E} (hP : PartOk res P x) (hh : PH P) : TextOk res (P ++ [wd wIs, wd wNull]) (op1 wIsnull [x]) := by
  intro rest hr
  obtain ⟨f, e⟩ := hP 5 (by omega) (by omega) (wd wIs :: wd wNull :: rest) (show lineOf (wd wIs) < 5 by decide)
  refine down4 ⟨f + 2, ?_⟩ hh hr
  have ea : (P ++ [wd wIs, wd wNull]) ++ rest = P ++ wd wIs :: wd wNull :: rest := by simp
  rw [ea, pLine, (up_line res _ _).at e (by omega : f ≤ f + 1), len1]
  refine seq_ok ?_
  rw [drop_app, pRel]
  rfl
theorem nn_text {P : List T} {x : E} (hP : PartOk res P x) (hh : PH P) : TextOk res (P ++ [wd wIs, wd wNot, wd wNull]) (op1 wNotnull [x]) := by
  intro rest hr
  obtain ⟨f, e⟩ := hP 5 (by omega) (by omega) (wd wIs :: wd wNot :: wd wNull :: rest) (show lineOf (wd wIs) < 5 by decide)
  refine down4 ⟨f + 2, ?_⟩ hh hr
  have ea : (P ++ [wd wIs, wd wNot, wd wNull]) ++ rest = P ++ wd wIs :: wd wNot :: wd wNull :: rest := by simp
  rw [ea, pLine, (up_line res _ _).at e (by omega : f ≤ f + 1), len1]
  refine seq_ok ?_
  rw [drop_app, pRel]
  rfl
theorem like_text {P Q : List T} {x y : E} (hP : PartOk res P x) (hQ : PartOk res Q y) (hh : PH P) : TextOk res (P ++ wd wLike :: Q) (op1 wLike [x, y]) := by
  intro rest hr
  obtain ⟨f, e⟩ := hP 5 (by omega) (by omega) (wd wLike :: (Q ++ rest)) (show lineOf (wd wLike) < 5 by decide)
  obtain ⟨g, e'⟩ := hQ 5 (by omega) (by omega) rest (by omega)
  refine down4 ⟨f + g + 3, ?_⟩ hh hr
  have ea : (P ++ wd wLike :: Q) ++ rest = P ++ wd wLike :: (Q ++ rest) := by simp
  rw [ea, pLine, (up_line res _ _).at e (by omega : f ≤ f + g + 2), len1]
  refine seq_ok ?_
  have e3 : pThree res (f + g + 1) x (wd wLike :: (Q ++ rest)) = some (seqR (okR () 1) fun _ _ => seqR (pLine res (f + g) 5 (Q ++ rest)) fun b _ => okR (op1 wLike [x, b]) 0) := rfl
  rw [drop_app, pRel]
  show (match pThree res (f + g + 1) x (wd wLike :: (Q ++ rest)) with | none => okR x 0 | some r => r) = _
  rw [e3, (up_line res _ _).at e' (by omega : g ≤ f + g)]
  exact seq_ok (q := Q.length) (seq_ok (q := 0) rfl)
theorem btw_text {P Q U : List T} {x y z : E} (hP : PartOk res P x) (hQ : PartOk res Q y) (hU : PartOk res U z) (hh : PH P) : TextOk res (P ++ wd wBetween :: (Q ++ wd wAnd :: U)) (op1 wBetween [x, y, z]) := by
  intro rest hr
  obtain ⟨f, e⟩ := hP 5 (by omega) (by omega) (wd wBetween :: (Q ++ wd wAnd :: (U ++ rest))) (show lineOf (wd wBetween) < 5 by decide)
  obtain ⟨g, e'⟩ := hQ 5 (by omega) (by omega) (wd wAnd :: (U ++ rest)) (show lineOf (wd wAnd) < 5 by decide)
  obtain ⟨j, e''⟩ := hU 5 (by omega) (by omega) rest (by omega)
  refine down4 ⟨f + g + j + 3, ?_⟩ hh hr
  have ea : (P ++ wd wBetween :: (Q ++ wd wAnd :: U)) ++ rest = P ++ wd wBetween :: (Q ++ wd wAnd :: (U ++ rest)) := by simp
  rw [ea, pLine, (up_line res _ _).at e (by omega : f ≤ f + g + j + 2), len1, len1]
  refine seq_ok ?_
  have e3 : pThree res (f + g + j + 1) x (wd wBetween :: (Q ++ wd wAnd :: (U ++ rest))) = some (seqR (okR () 1) fun _ _ => seqR (pLine res (f + g + j) 5 (Q ++ wd wAnd :: (U ++ rest))) fun b m => seqR (needR wAnd ((wd wBetween :: (Q ++ wd wAnd :: (U ++ rest))).drop (1 + m))) fun _ _ => seqR (pLine res (f + g + j) 5 ((wd wBetween :: (Q ++ wd wAnd :: (U ++ rest))).drop (2 + m))) fun c _ => okR (op1 wBetween [x, b, c]) 0) := rfl
  rw [drop_app, pRel]
  show (match pThree res (f + g + j + 1) x (wd wBetween :: (Q ++ wd wAnd :: (U ++ rest))) with | none => okR x 0 | some r => r) = _
  rw [e3, (up_line res _ _).at e' (by omega : g ≤ f + g + j)]
  refine seq_ok (seq_ok ?_)
  have d1 : (wd wBetween :: (Q ++ wd wAnd :: (U ++ rest))).drop (1 + Q.length) = wd wAnd :: (U ++ rest) := by rw [Nat.add_comm, List.drop_succ_cons, drop_app]
  have d2 : (wd wBetween :: (Q ++ wd wAnd :: (U ++ rest))).drop (2 + Q.length) = U ++ rest := by
    rw [show 2 + Q.length = (1 + Q.length) + 1 by omega, ← List.drop_drop, d1]; rfl
  rw [d1, d2, (up_line res _ _).at e'' (by omega : j ≤ f + g + j)]
  exact seq_ok (a := ()) (q := U.length) (seq_ok (q := 0) rfl)
theorem list_ok {l : List E} (hl : l ≠ []) (h : ∀ x ∈ l, TextOk res x.toks x) : ∀ rest, lineOf (here rest) < 1 → isS [44] rest = false → ∃ f, pList res f (join [sg [44]] (toksL l) ++ rest) = okR l (join [sg [44]] (toksL l)).length := by
  induction l with
  | nil => exact absurd rfl hl
  | cons x l ih =>
    intro rest hr hc
    cases l with
    | nil =>
      obtain ⟨f, e⟩ := h x (by simp) rest hr
      refine ⟨f + 1, ?_⟩
      show pList res (f + 1) (x.toks ++ rest) = okR [x] x.toks.length
      rw [pList, e]
      refine seq_ok (q := 0) ?_
      rw [drop_app, if_neg (by rw [hc]; decide)]
    | cons y l =>
      obtain ⟨g, e'⟩ := ih (by simp) (fun z hz => h z (List.mem_cons_of_mem _ hz)) rest hr hc
      obtain ⟨f, e⟩ := h x (by simp) (sg [44] :: (join [sg [44]] (toksL (y :: l)) ++ rest)) (show lineOf (sg [44]) < 1 by decide)
      refine ⟨f + g + 1, ?_⟩
      have ea : join [sg [44]] (toksL (x :: y :: l)) ++ rest = x.toks ++ sg [44] :: (join [sg [44]] (toksL (y :: l)) ++ rest) := by simp [toksL, join]
      have el : (join [sg [44]] (toksL (x :: y :: l))).length = x.toks.length + (1 + ((join [sg [44]] (toksL (y :: l))).length + 0)) := by simp [toksL, join]; omega
      rw [ea, el, pList, (up_line res _ _).at e (by omega : f ≤ f + g)]
      refine seq_ok ?_
      rw [drop_app, if_pos (show isS [44] (sg [44] :: (join [sg [44]] (toksL (y :: l)) ++ rest)) = true from rfl)]
      refine seq_ok ?_
      rw [← List.drop_drop, drop_app, List.drop_succ_cons, List.drop_zero, (up_list res _).at e' (by omega : g ≤ f + g)]
      exact seq_ok rfl
theorem in_text {P : List T} {x : E} {l : List E} (hP : PartOk res P x) (hl : l ≠ []) (h : ∀ y ∈ l, TextOk res y.toks y) (hh : PH P) : TextOk res (P ++ wd wIn :: brk (join [sg [44]] (toksL l))) (op1 wIn (x :: l)) := by
  intro rest hr
  generalize hJ : join [sg [44]] (toksL l) = J
  obtain ⟨f, e⟩ := hP 5 (by omega) (by omega) (wd wIn :: sg [40] :: (J ++ sg [41] :: rest)) (show lineOf (wd wIn) < 5 by decide)
  obtain ⟨g, e'⟩ := list_ok hl h (sg [41] :: rest) (show lineOf (sg [41]) < 1 by decide) rfl
  rw [hJ] at e'
  refine down4 ⟨f + g + 3, ?_⟩ hh hr
  have ea : (P ++ wd wIn :: brk J) ++ rest = P ++ wd wIn :: sg [40] :: (J ++ sg [41] :: rest) := by simp [brk]
  have eb : (brk J).length = 1 + (J.length + 1) := by simp [brk]; omega
  rw [ea, pLine, (up_line res _ _).at e (by omega : f ≤ f + g + 2), len1, eb]
  refine seq_ok ?_
  have e3 : pThree res (f + g + 1) x (wd wIn :: sg [40] :: (J ++ sg [41] :: rest)) = some (seqR (okR () 1) fun _ _ => seqR (okR () 1) fun _ _ => seqR (pList res (f + g) (J ++ sg [41] :: rest)) fun xs m => seqR (needR [41] ((wd wIn :: sg [40] :: (J ++ sg [41] :: rest)).drop (2 + m))) fun _ _ => okR (op1 wIn (x :: xs)) 0) := rfl
  rw [drop_app, pRel]
  show (match pThree res (f + g + 1) x (wd wIn :: sg [40] :: (J ++ sg [41] :: rest)) with | none => okR x 0 | some r => r) = _
  rw [e3, (up_list res _).at e' (by omega : g ≤ f + g)]
  refine seq_ok (seq_ok (seq_ok ?_))
  have d2 : (wd wIn :: sg [40] :: (J ++ sg [41] :: rest)).drop (2 + J.length) = sg [41] :: rest := by
    rw [← List.drop_drop]; show (J ++ sg [41] :: rest).drop J.length = _; rw [drop_app]
  rw [d2]
  exact seq_ok (a := ()) (q := 0) rfl
end
end Go.Proofs.YtcmbdghbicjljaaGreatDoor
namespace Go.Proofs.YtcmbdghbicjljaaGreatDoor
section
variable {res : List UInt8 → Bool}
theorem not_text {P : List T} {x : E} (hP : PartOk res P x) : TextOk res (wd wNot :: P) (op1 wNot [x]) := by
  intro rest hr
  obtain ⟨f, e⟩ := hP 3 (by omega) (by omega) rest (by omega)
  have hd : Rd res 3 (wd wNot :: P) rest (op1 wNot [x]) := by
    refine ⟨f + 1, ?_⟩
    rw [pLine, if_pos (show isS wNot (wd wNot :: P ++ rest) = true from rfl)]
    show seqR (okR () 1) (fun _ _ => seqR (pLine res f 3 (P ++ rest)) fun x _ => okR (op1 wNot [x]) 0) = okR _ (P.length + 1)
    rw [e, Nat.add_comm]
    exact seq_ok (q := P.length) (seq_ok (q := 0) rfl)
  exact rd_down res hd (by omega) (fun h => by omega) (fun h => by omega) 2 1 (by omega) (by omega) hr
theorem neg_text {P : List T} {x : E} (h : TextOk res P x) : TextOk res (sg [45] :: brk P) (op1 wNeg [x]) := by
  intro rest hr
  obtain ⟨f, e⟩ := h.inBrk res 8 (by omega) (by omega) rest (by omega)
  have hd : Rd res 8 (sg [45] :: brk P) rest (op1 wNeg [x]) := by
    refine ⟨f + 1, ?_⟩
    rw [pLine, if_pos (show isS [45] (sg [45] :: brk P ++ rest) = true from rfl)]
    show seqR (okR () 1) (fun _ _ => seqR (pLine res f 8 (brk P ++ rest)) fun x _ => okR (op1 wNeg [x]) 0) = okR _ ((brk P).length + 1)
    rw [e, Nat.add_comm]
    exact seq_ok (q := (brk P).length) (seq_ok (q := 0) rfl)
  exact rd_down res hd (by omega) (fun h => rfl) (fun h => by omega) 7 1 (by omega) (by omega) hr
theorem lit_well {v : Vl} (h : VOk v) : Well res (lit v) := by
  rcases h with rfl | rfl | rfl | ⟨h1, h2, h3, h4⟩ | ⟨h1, h2⟩ | ⟨h1, h2⟩
  · exact well_plain rfl (part_of_prim res (fun rest _ => ⟨1, rfl⟩) (fun _ => rfl) fun _ => rfl) ⟨wd wNull, [], rfl, fun _ => by decide⟩
  · exact well_plain rfl (part_of_prim res (fun rest _ => ⟨1, rfl⟩) (fun _ => rfl) fun _ => rfl) ⟨wd wTrue, [], rfl, fun _ => by decide⟩
  · exact well_plain rfl (part_of_prim res (fun rest _ => ⟨1, rfl⟩) (fun _ => rfl) fun _ => rfl) ⟨wd wFalse, [], rfl, fun _ => by decide⟩
  · obtain ⟨k, i, s⟩ := v
    dsimp only at h1 h2 h3 h4
    subst h1; subst h2
    by_cases hi : i < 0
    · have et : (lit ⟨2, i, []⟩).toks = [sg [45], ⟨2, [], negI i, 0⟩] := by
        show vToks ⟨2, i, []⟩ = _
        simp only [vToks, if_pos hi]; rfl
      refine well_not ?_ ?_ ?_
      · show (((wLit == wCol) || (wLit == wCall)) || ((wLit == wLit) && !((2 : Int) == 2 && decide (i < 0)))) = false
        rw [decide_eq_true hi]; rfl
      · rw [et]
        intro rest hr
        have hn : negI (negI i) = i := by
          unfold negI
          by_cases hm : i = -9223372036854775808
          · simp [hm]
          · rw [if_neg hm, if_neg (by omega), Int.neg_neg]
        have hd : Rd res 8 [sg [45], ⟨2, [], negI i, 0⟩] rest (lit ⟨2, i, []⟩) := by
          refine ⟨1, ?_⟩
          show okR (lit ⟨2, negI (negI i), []⟩) 2 = _
          rw [hn]; rfl
        exact rd_down res hd (by omega) (fun h => rfl) (fun h => by omega) 7 1 (by omega) (by omega) hr
      · rw [et]; exact ⟨_, _, rfl, fun _ => ⟨by decide, by decide⟩⟩
    · have et : (lit ⟨2, i, []⟩).toks = [⟨2, [], i, 0⟩] := by
        show vToks ⟨2, i, []⟩ = _
        simp only [vToks, if_neg hi]; rfl
      refine well_plain ?_ ?_ ?_
      · show (((wLit == wCol) || (wLit == wCall)) || ((wLit == wLit) && !((2 : Int) == 2 && decide (i < 0)))) = true
        rw [decide_eq_false hi]; rfl
      · rw [et]
        refine part_of_prim res (fun rest _ => ⟨1, ?_⟩) (fun _ => rfl) fun _ => rfl
        show pPrim res 1 (⟨2, [], i, 0⟩ :: rest) = _
        have hq : ((here (⟨2, [], i, 0⟩ :: rest)).k == 2 && decide (0 ≤ (here (⟨2, [], i, 0⟩ :: rest)).i)) = true := by
          show ((2 : Int) == 2 && decide (0 ≤ i)) = true
          rw [decide_eq_true (by omega)]; rfl
        rw [pPrim, if_pos hq]
        rfl
      · rw [et]; exact ⟨_, _, rfl, fun h => absurd h (show ¬ (((2 : Int) == 1 || (2 : Int) == 5) = true) by decide)⟩
  · obtain ⟨k, i, s⟩ := v
    dsimp only at h1 h2
    subst h1; subst h2
    exact well_plain rfl (part_of_prim res (fun rest _ => ⟨1, rfl⟩) (fun _ => rfl) fun _ => rfl) ⟨⟨3, s, 0, 0⟩, [], rfl, fun h => absurd h (show ¬ (((3 : Int) == 1 || (3 : Int) == 5) = true) by decide)⟩
  · obtain ⟨k, i, s⟩ := v
    dsimp only at h1 h2
    subst h1; subst h2
    exact well_plain rfl (part_of_prim res (fun rest _ => ⟨1, rfl⟩) (fun _ => rfl) fun _ => rfl) ⟨⟨4, s, 0, 0⟩, [], rfl, fun h => absurd h (show ¬ (((4 : Int) == 1 || (4 : Int) == 5) = true) by decide)⟩
def Keys (res : List UInt8 → Bool) : Prop := res wNull = true ∧ res wTrue = true ∧ res wFalse = true ∧ res wNot = true
theorem NameOk.ne {n s : List UInt8} (h : NameOk res n) (hs : headIs s isLet = false) : n ≠ s := by rintro rfl; rw [h.2.1] at hs; cases hs
theorem NameOk.ne' {n s : List UInt8} (h : NameOk res n) (hs : res s = true) : n ≠ s := by rintro rfl; rw [h.1] at hs; cases hs
theorem name_isS {n s : List UInt8} (h : n ≠ s) (l : List T) : isS s (wd n :: l) = false := isS_cons fun _ => h
theorem name_read {n : List UInt8} (h : NameOk res n) (l : List T) : nameR res (wd n :: l) = okR n 1 := by
  have hq : isNm res (wd n :: l) = true := by
    show ((1 : Int) == 1 && !res n) = true
    rw [h.1]; rfl
  unfold nameR
  rw [if_pos hq]; rfl
theorem name_prim (hk : Keys res) {n : List UInt8} (h : NameOk res n) (f : Nat) (l : List T) : pPrim res (f + 1) (wd n :: l) = seqR (okR n 1) fun n _ =>
      if isS [46] l then seqR (okR () 1) fun _ _ => seqR (nameR res (l.drop 1)) fun c _ => okR (col n c) 0
      else if isS [40] l then seqR (okR () 1) fun _ _ =>
        if isS [41] (l.drop 1) then okR (call1 n []) 1
        else if n == wCount && isS [42] (l.drop 1) then seqR (okR () 1) fun _ _ => seqR (needR [41] (l.drop 2)) fun _ _ => okR (call1 n [star]) 0
        else seqR (pList res f (l.drop 1)) fun xs m => seqR (needR [41] (l.drop (1 + m))) fun _ _ => okR (call1 n xs) 0
      else okR (col [] n) 0 := by
  have q4 := name_isS (h.ne' hk.1) l
  have q5 := name_isS (h.ne' hk.2.1) l
  have q6 := name_isS (h.ne' hk.2.2.1) l
  have q7 := name_isS (h.ne (by decide : headIs [40] isLet = false)) l
  have q8 := name_read h l
  rw [pPrim]
  have q1 : ((here (wd n :: l)).k == 2) = false := rfl
  have q2 : ((here (wd n :: l)).k == 3) = false := rfl
  have q3 : ((here (wd n :: l)).k == 4) = false := rfl
  have qd : ∀ m, (wd n :: l).drop (2 + m) = l.drop (1 + m) := fun m => by rw [show 2 + m = (1 + m) + 1 by omega, List.drop_succ_cons]
  simp only [q1, q2, q3, q4, q5, q6, q7, q8, qd, Bool.false_and, Bool.false_eq_true, if_false, List.drop_succ_cons, List.drop_zero]
theorem ph_name (hk : Keys res) {n : List UInt8} (h : NameOk res n) (l : List T) : PH (wd n :: l) := ⟨_, _, rfl, fun _ => ⟨h.ne (by decide), h.ne (by decide), h.ne (by decide), h.ne' hk.2.2.2⟩⟩
theorem no9 {l : List T} (h : lineOf (here l) < 9) (s : List UInt8) (hs : s = [46] ∨ s = [40]) : isS s l = false := by
  refine isS_ne h fun t hk e => ?_
  rcases hs with rfl | rfl <;> simp only [lineOf, hk, e] <;> decide
theorem col_well (hk : Keys res) {t n : List UInt8} (ht : t = [] ∨ NameOk res t) (h : NameOk res n) : Well res (col t n) := by
  rcases ht with rfl | ht
  · refine well_plain rfl (part_of_prim res (fun rest hr => ⟨1, ?_⟩) (fun r => ?_) fun r => ?_) (ph_name hk h [])
    · show pPrim res 1 (wd n :: rest) = _
      rw [name_prim hk h, no9 hr _ (.inl rfl), no9 hr _ (.inr rfl)]; rfl
    · exact name_isS (h.ne' hk.2.2.2) r
    · exact name_isS (h.ne (by decide)) r
  · have et : (col t n).toks = [wd t, sg [46], wd n] := by
      show (if t = [] then [wd n] else [wd t, sg [46], wd n]) = _
      rw [if_neg]; rintro rfl; exact absurd ht.2.1 (by decide)
    refine well_plain rfl ?_ (by rw [et]; exact ph_name hk ht _)
    rw [et]
    refine part_of_prim res (fun rest hr => ⟨1, ?_⟩) (fun r => ?_) fun r => ?_
    · show pPrim res 1 (wd t :: sg [46] :: wd n :: rest) = _
      rw [name_prim hk ht]
      refine seq_ok (q := 2) ?_
      rw [if_pos (show isS [46] (sg [46] :: wd n :: rest) = true from rfl), List.drop_succ_cons, List.drop_zero, name_read h]; rfl
    · exact name_isS (ht.ne' hk.2.2.2) _
    · exact name_isS (ht.ne (by decide)) _
theorem toks_head_join {l : List E} (hl : l ≠ []) (h : ∀ x ∈ l, TH x.toks) : TH (join [sg [44]] (toksL l)) := by
  cases l with
  | nil => exact absurd rfl hl
  | cons x l =>
    obtain ⟨t, r, e, hh⟩ := h x (by simp)
    cases l with
    | nil => exact ⟨t, r, by show x.toks = _; exact e, hh⟩
    | cons y l => exact ⟨t, r ++ sg [44] :: join [sg [44]] (toksL (y :: l)), by simp [toksL, join, e], hh⟩
theorem call_well (hk : Keys res) {n : List UInt8} {l : List E} (h : NameOk res n) (hw : ∀ x ∈ l, Well res x) : Well res (call1 n l) := by
  have et : (call1 n l).toks = wd n :: brk (join [sg [44]] (toksL l)) := rfl
  refine well_plain rfl ?_ (by rw [et]; exact ph_name hk h _)
  rw [et]
  refine part_of_prim res (fun rest hr => ?_) (fun r => name_isS (h.ne' hk.2.2.2) _) fun r => name_isS (h.ne (by decide)) _
  by_cases hl : l = []
  · subst hl
    refine ⟨1, ?_⟩
    show pPrim res 1 (wd n :: sg [40] :: sg [41] :: rest) = _
    rw [name_prim hk h]; rfl
  · have hj := toks_head_join hl fun x hx => (hw x hx).th
    obtain ⟨f, e⟩ := list_ok hl (fun x hx => (hw x hx).text) (sg [41] :: rest) (show lineOf (sg [41]) < 1 by decide) rfl
    generalize join [sg [44]] (toksL l) = J at hj e ⊢
    refine ⟨f + 1, ?_⟩
    have ea : wd n :: brk J ++ rest = wd n :: sg [40] :: (J ++ sg [41] :: rest) := by simp [brk]
    rw [ea, name_prim hk h]
    have el : (wd n :: brk J).length = 1 + (1 + (J.length + 1)) := by simp [brk]; omega
    rw [el]
    refine seq_ok ?_
    rw [if_neg (show ¬ isS [46] (sg [40] :: (J ++ sg [41] :: rest)) = true from by show ¬ (false = true); decide), if_pos (show isS [40] (sg [40] :: (J ++ sg [41] :: rest)) = true from rfl)]
    refine seq_ok ?_
    have d1 : (sg [40] :: (J ++ sg [41] :: rest)).drop (1 + J.length) = sg [41] :: rest := by rw [Nat.add_comm, List.drop_succ_cons, drop_app]
    simp only [List.drop_succ_cons, List.drop_zero, hj.no41, hj.no42, Bool.and_false, Bool.false_eq_true, if_false]
    rw [e]
    refine seq_ok ?_
    rw [d1]
    exact seq_ok (a := ()) (q := 0) rfl
end
end Go.Proofs.YtcmbdghbicjljaaGreatDoor
namespace Go.Proofs.YtcmbdghbicjljaaGreatDoor
section
variable {res : List UInt8 → Bool}
theorem all_well (hk : Keys res) (hc : res wCount = false) : Well res (call1 wCount [star]) := by
  have h : NameOk res wCount := ⟨hc, by unfold Wrd; decide⟩
  have et : (call1 wCount [star]).toks = [wd wCount, sg [40], sg [42], sg [41]] := rfl
  refine well_plain rfl ?_ (by rw [et]; exact ph_name hk h _)
  rw [et]
  refine part_of_prim res (fun rest hr => ⟨1, ?_⟩) (fun r => name_isS (h.ne' hk.2.2.2) _) fun r => name_isS (h.ne (by decide)) _
  show pPrim res 1 (wd wCount :: sg [40] :: sg [42] :: sg [41] :: rest) = _
  rw [name_prim hk h]; rfl
theorem bin_line {w : List UInt8} (h : w ∈ binOps) : ∃ k, (k = 1 ∨ k = 2 ∨ k = 5 ∨ k = 6 ∨ k = 7) ∧ w ∈ wordsOf k := by
  simp only [binOps, List.mem_cons, List.not_mem_nil, or_false] at h
  rcases h with rfl | rfl | rfl | rfl | rfl | rfl | rfl | rfl
  · exact ⟨1, by omega, by decide⟩
  · exact ⟨2, by omega, by decide⟩
  · exact ⟨5, by omega, by decide⟩
  · exact ⟨6, by omega, by decide⟩
  · exact ⟨6, by omega, by decide⟩
  · exact ⟨7, by omega, by decide⟩
  · exact ⟨7, by omega, by decide⟩
  · exact ⟨7, by omega, by decide⟩
theorem two_toks {w : List UInt8} (h : w ∈ binOps ∨ w ∈ rels) (x y : E) : (op1 w [x, y]).toks = x.part ++ tk w :: y.part := by
  simp only [binOps, rels, List.mem_cons, List.not_mem_nil, or_false] at h
  rcases h with (h | h | h | h | h | h | h | h) | (h | h | h | h | h | h) <;> subst h <;> rfl
theorem two_plain {w : List UInt8} (h : w ∈ binOps ∨ w ∈ rels) (l : List E) : (op1 w l).plain = false := by
  simp only [binOps, rels, List.mem_cons, List.not_mem_nil, or_false] at h
  rcases h with (h | h | h | h | h | h | h | h) | (h | h | h | h | h | h) <;> subst h <;> rfl
theorem well (hk : Keys res) (hc : res wCount = false) {x : E} (h : Fine res x) : Well res x := by
  induction h with
  | lit v hv => exact lit_well hv
  | col t n ht hn => exact col_well hk ht hn
  | call n l hn _ ih => exact call_well hk hn ih
  | all => exact all_well hk hc
  | neg x _ ih => exact well_not rfl (neg_text ih.text) ⟨sg [45], _, rfl, fun _ => by decide⟩
  | not x _ ih => exact well_not rfl (not_text ih.part) ⟨wd wNot, _, rfl, fun _ => by decide⟩
  | isn x _ ih => exact well_not rfl (isn_text ih.part ih.ph) (ih.ph.app _).th
  | nn x _ ih => exact well_not rfl (nn_text ih.part ih.ph) (ih.ph.app _).th
  | bin w x y hw _ _ ihx ihy =>
    obtain ⟨k, hk', hw'⟩ := bin_line hw
    have e := two_toks (.inl hw) x y
    exact well_not (two_plain (.inl hw) _) (by rw [e]; exact bin_text hk' hw' ihx.part ihy.part ihx.ph) (by rw [e]; exact (ihx.ph.app _).th)
  | rel w x y hw _ _ ihx ihy =>
    have e := two_toks (.inr hw) x y
    exact well_not (two_plain (.inr hw) _) (by rw [e]; exact rel_text hw ihx.part ihy.part ihx.ph) (by rw [e]; exact (ihx.ph.app _).th)
  | like x y _ _ ihx ihy => exact well_not rfl (like_text ihx.part ihy.part ihx.ph) (ihx.ph.app _).th
  | btw x y z _ _ _ ihx ihy ihz => exact well_not rfl (btw_text ihx.part ihy.part ihz.part ihx.ph) (ihx.ph.app _).th
  | inn x l hl _ _ ihx ihl => exact well_not rfl (in_text ihx.part hl (fun y hy => (ihl y hy).text) ihx.ph) (ihx.ph.app _).th
theorem back (hk : Keys res) (hc : res wCount = false) {x : E} (h : Fine res x) (p : Nat) : ∃ f, pLine res f 1 (x.toks ++ [⟨6, [], 0, p⟩]) = okR x x.toks.length :=
  (well hk hc h).text [⟨6, [], 0, p⟩] (show lineOf ⟨6, [], 0, p⟩ < 1 by
    show (if ((6 : Int) == 1 || (6 : Int) == 5) = false then 0 else _) < 1
    rw [if_pos (by decide)]; decide)
end
end Go.Proofs.YtcmbdghbicjljaaGreatDoor
namespace Go.Proofs.YtcmbdghbicjljaaGreatDoor
section
variable {res : List UInt8 → Bool}
end
end Go.Proofs.YtcmbdghbicjljaaGreatDoor
namespace Go.Proofs.YtcmbdghbicjljaaGreatDoor
section
variable {res : List UInt8 → Bool}
end
end Go.Proofs.YtcmbdghbicjljaaGreatDoor
