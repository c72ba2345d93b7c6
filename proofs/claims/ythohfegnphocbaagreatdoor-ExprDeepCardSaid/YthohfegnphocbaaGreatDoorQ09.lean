/- Plain facts on expressions (no program): what an expression is written with is read as it again. No condition. -/
import Derived.Test.YthohfegnphocbaaGreatDoorQ08
import Derived.Test.YthohfegnphocbaaGreatDoorQ01
import Derived.Lib.ItoaNum
namespace Go.Proofs.YthohfegnphocbaaGreatDoor
def Wrd (n : List UInt8) : Prop := headIs n isLet = true ∧ (∀ c ∈ n, isWch c = true) ∧ n.length ≤ 32 ∧ n.map low = n
def NameOk (res : List UInt8 → Bool) (n : List UInt8) : Prop := res n = false ∧ Wrd n
def VOk (v : Vl) : Prop := v = v0 ∨ v = ⟨1, 1, []⟩ ∨ v = ⟨1, 0, []⟩ ∨ (v.k = 2 ∧ v.s = [] ∧ -9223372036854775808 ≤ v.i ∧ v.i ≤ 9223372036854775807) ∨ (v.k = 3 ∧ v.i = 0) ∨ (v.k = 4 ∧ v.i = 0)
def binOps : List (List UInt8) := [wOr, wAnd, [124, 124], [43], [45], [42], [47], [37]]
inductive Fine (res : List UInt8 → Bool) : E → Prop
  | lit (v : Vl) : VOk v → Fine res (lit v)
  | col (t n : List UInt8) : (t = [] ∨ NameOk res t) → NameOk res n → Fine res (col t n)
  | call (n : List UInt8) (l : List E) : NameOk res n → (∀ x ∈ l, Fine res x) → Fine res (call1 n l)
  | all : Fine res (call1 wCount [star])
  | neg (x : E) : Fine res x → Fine res (op1 wNeg [x])
  | not (x : E) : Fine res x → Fine res (op1 wNot [x])
  | isn (x : E) : Fine res x → Fine res (op1 wIsnull [x])
  | nn (x : E) : Fine res x → Fine res (op1 wNotnull [x])
  | bin (w : List UInt8) (x y : E) : w ∈ binOps → Fine res x → Fine res y → Fine res (op1 w [x, y])
  | rel (w : List UInt8) (x y : E) : w ∈ rels → Fine res x → Fine res y → Fine res (op1 w [x, y])
  | like (x y : E) : Fine res x → Fine res y → Fine res (op1 wLike [x, y])
  | btw (x y z : E) : Fine res x → Fine res y → Fine res z → Fine res (op1 wBetween [x, y, z])
  | inn (x : E) (l : List E) : l ≠ [] → Fine res x → (∀ y ∈ l, Fine res y) → Fine res (op1 wIn (x :: l))
section
variable {res : List UInt8 → Bool}
def TH (P : List T) : Prop := ∃ t l, P = t :: l ∧ ((t.k == 1 || t.k == 5) = true → t.s ≠ [41] ∧ t.s ≠ [42])
def PH (P : List T) : Prop := ∃ t l, P = t :: l ∧ ((t.k == 1 || t.k == 5) = true → t.s ≠ [41] ∧ t.s ≠ [42] ∧ t.s ≠ [45] ∧ t.s ≠ wNot)
theorem PH.th {P : List T} (h : PH P) : TH P := by obtain ⟨t, l, e, h⟩ := h; exact ⟨t, l, e, fun hk => ⟨(h hk).1, (h hk).2.1⟩⟩
theorem PH.app {P : List T} (h : PH P) (Q : List T) : PH (P ++ Q) := by obtain ⟨t, l, rfl, h⟩ := h; exact ⟨t, l ++ Q, rfl, h⟩
theorem ph_brk (P : List T) : PH (brk P) := ⟨_, _, rfl, fun _ => by decide⟩
theorem isS_cons {s : List UInt8} {t : T} {l : List T} (h : (t.k == 1 || t.k == 5) = true → t.s ≠ s) : isS s (t :: l) = false := by
  show (((t.k == 1 || t.k == 5) && t.s == s)) = false
  cases hk : (t.k == 1 || t.k == 5) with
  | false => rfl
  | true => rw [Bool.true_and, beq_eq_false_iff_ne]; exact h hk
theorem PH.no {P : List T} (h : PH P) (rest : List T) : isS wNot (P ++ rest) = false := by obtain ⟨t, l, rfl, h⟩ := h; exact isS_cons fun hk => (h hk).2.2.2
theorem TH.no41 {P : List T} (h : TH P) (rest : List T) : isS [41] (P ++ rest) = false := by obtain ⟨t, l, rfl, h⟩ := h; exact isS_cons fun hk => (h hk).1
theorem TH.no42 {P : List T} (h : TH P) (rest : List T) : isS [42] (P ++ rest) = false := by obtain ⟨t, l, rfl, h⟩ := h; exact isS_cons fun hk => (h hk).2
structure Well (res : List UInt8 → Bool) (x : E) : Prop where
  text : TextOk res x.toks x
  part : PartOk res x.part x
  th : TH x.toks
  ph : PH x.part
theorem well_plain {x : E} (hp : x.plain = true) (h : PartOk res x.toks x) (h' : PH x.toks) : Well res x := by
  have e : x.part = x.toks := by unfold E.part partT; rw [if_pos hp]
  exact ⟨h.text res, by rw [e]; exact h, h'.th, by rw [e]; exact h'⟩
theorem well_not {x : E} (hp : x.plain = false) (h : TextOk res x.toks x) (h' : TH x.toks) : Well res x := by
  have e : x.part = brk x.toks := by unfold E.part partT; rw [if_neg (by rw [hp]; decide)]
  exact ⟨h, by rw [e]; exact h.inBrk res, h', by rw [e]; exact ph_brk _⟩
def tk (w : List UInt8) : T := if headIs w isLet then wd w else sg w
theorem bin_text {k : Nat} {w : List UInt8} {P Q : List T} {x y : E} (hk : k = 1 ∨ k = 2 ∨ k = 5 ∨ k = 6 ∨ k = 7) (hw : w ∈ wordsOf k) (hP : PartOk res P x) (hQ : PartOk res Q y) (hh : PH P) : TextOk res (P ++ tk w :: Q) (op1 w [x, y]) := by
  intro rest hr
  have hop : ∀ r, opAt k (tk w :: r) = some w ∧ lineOf (here (tk w :: r)) = k := by
    intro r
    rcases hk with rfl | rfl | rfl | rfl | rfl <;> simp only [wordsOf, List.mem_cons, List.not_mem_nil, or_false] at hw
    · subst hw; exact ⟨rfl, by show lineOf (tk wOr) = 1; decide⟩
    · subst hw; exact ⟨rfl, by show lineOf (tk wAnd) = 2; decide⟩
    · subst hw; exact ⟨rfl, by show lineOf (tk [124, 124]) = 5; decide⟩
    · rcases hw with hw | hw <;> subst hw
      · exact ⟨rfl, by show lineOf (tk [43]) = 6; decide⟩
      · exact ⟨rfl, by show lineOf (tk [45]) = 6; decide⟩
    · rcases hw with hw | hw | hw <;> subst hw
      · exact ⟨rfl, by show lineOf (tk [42]) = 7; decide⟩
      · exact ⟨rfl, by show lineOf (tk [47]) = 7; decide⟩
      · exact ⟨rfl, by show lineOf (tk [37]) = 7; decide⟩
  obtain ⟨ho, hl⟩ := hop (Q ++ rest)
  obtain ⟨f, e⟩ := hP (k + 1) (by omega) (by omega) (tk w :: (Q ++ rest)) (by omega)
  obtain ⟨g, e'⟩ := hQ (k + 1) (by omega) (by omega) rest (by omega)
  have hd : Rd res k (P ++ tk w :: Q) rest (op1 w [x, y]) := by
    refine ⟨f + g + 3, ?_⟩
    have ea : (P ++ tk w :: Q) ++ rest = P ++ tk w :: (Q ++ rest) := by simp
    rw [ea, pLine.eq_6 res k _ _ (by omega) (by omega) (by omega) (by omega), (up_line res _ _).at e (by omega : f ≤ f + g + 2)]
    have el : (P ++ tk w :: Q).length = P.length + (1 + (Q.length + 0)) := by simp; omega
    rw [el]
    refine seq_ok ?_
    rw [drop_app, pMore, ho]
    refine seq_ok ?_
    simp only [List.drop_succ_cons, List.drop_zero]
    rw [(up_line res _ _).at e' (by omega : g ≤ f + g + 1)]
    refine seq_ok ?_
    have ed : (tk w :: (Q ++ rest)).drop (1 + Q.length) = rest := by rw [Nat.add_comm, List.drop_succ_cons, drop_app]
    rw [ed, pMore, opAt_none (by omega)]
  refine rd_down res hd (by omega) (fun _ => ?_) (fun h => by omega) (k - 1) 1 (by omega) (by omega) hr
  have := hh.no (tk w :: Q ++ rest)
  simpa using this
theorem rel_text {w : List UInt8} {P Q : List T} {x y : E} (hw : w ∈ rels) (hP : PartOk res P x) (hQ : PartOk res Q y) (hh : PH P) : TextOk res (P ++ tk w :: Q) (op1 w [x, y]) := by
  intro rest hr
  have hop : ∀ r, relAt (tk w :: r) = some w ∧ lineOf (here (tk w :: r)) = 4 := by
    intro r
    simp only [rels, List.mem_cons, List.not_mem_nil, or_false] at hw
    rcases hw with hw | hw | hw | hw | hw | hw <;> subst hw
    · exact ⟨rfl, by show lineOf (tk [61]) = 4; decide⟩
    · exact ⟨rfl, by show lineOf (tk [60, 62]) = 4; decide⟩
    · exact ⟨rfl, by show lineOf (tk [60, 61]) = 4; decide⟩
    · exact ⟨rfl, by show lineOf (tk [62, 61]) = 4; decide⟩
    · exact ⟨rfl, by show lineOf (tk [60]) = 4; decide⟩
    · exact ⟨rfl, by show lineOf (tk [62]) = 4; decide⟩
  obtain ⟨ho, hl⟩ := hop (Q ++ rest)
  obtain ⟨f, e⟩ := hP 5 (by omega) (by omega) (tk w :: (Q ++ rest)) (by omega)
  obtain ⟨g, e'⟩ := hQ 5 (by omega) (by omega) rest (by omega)
  have hd : Rd res 4 (P ++ tk w :: Q) rest (op1 w [x, y]) := by
    refine ⟨f + g + 3, ?_⟩
    have ea : (P ++ tk w :: Q) ++ rest = P ++ tk w :: (Q ++ rest) := by simp
    rw [ea, pLine, (up_line res _ _).at e (by omega : f ≤ f + g + 2)]
    have el : (P ++ tk w :: Q).length = P.length + (1 + (Q.length + 0)) := by simp; omega
    rw [el]
    refine seq_ok ?_
    rw [drop_app, pRel, ho]
    refine seq_ok ?_
    simp only [List.drop_succ_cons, List.drop_zero]
    rw [(up_line res _ _).at e' (by omega : g ≤ f + g + 1)]
    exact seq_ok rfl
  refine rd_down res hd (by omega) (fun _ => ?_) (fun h => by omega) 3 1 (by omega) (by omega) hr
  have := hh.no (tk w :: Q ++ rest)
  simpa using this
end
end Go.Proofs.YthohfegnphocbaaGreatDoor
namespace Go.Proofs.YthohfegnphocbaaGreatDoor
def TOk (t : T) : Prop := (t.k = 1 → Wrd t.s) ∧ (t.k = 2 → -9223372036854775808 ≤ t.i ∧ t.i ≤ 9223372036854775807)
def TsOk (l : List T) : Prop := ∀ t ∈ l, TOk t
theorem TsOk.drop {l : List T} (h : TsOk l) (m : Nat) : TsOk (l.drop m) := fun t ht => h t (List.mem_of_mem_drop ht)
theorem TsOk.here {l : List T} (h : TsOk l) : TOk (here l) := by
  cases l with
  | nil => exact ⟨fun h => absurd h (by decide), fun h => absurd h (by decide)⟩
  | cons t l => exact h t (by simp)
def Out {α : Type} (P : α → Prop) (r : R α) : Prop := ∀ a m, r = okR a m → P a
theorem out_ok {α : Type} {P : α → Prop} {a : α} {m : Nat} (h : P a) : Out P (okR a m) := fun b q e => by cases e; exact h
theorem out_bad {α : Type} {P : α → Prop} {p : Nat} : Out P (badR p : R α) := fun b q e => by cases e
theorem out_none {α : Type} {P : α → Prop} : Out P (none : R α) := fun b q e => by cases e
theorem out_seq {α β : Type} {Q : α → Prop} {P : β → Prop} {r : R α} {k : α → Nat → R β} (h : Out Q r) (hk : ∀ a m, Q a → Out P (k a m)) : Out P (seqR r k) := by
  rcases r with - | (p | ⟨a, m⟩)
  · exact out_none
  · exact out_bad
  · have hq := hk a m (h a m rfl)
    intro b q e
    simp only [seqR] at e
    cases hh : k a m with
    | none => rw [hh] at e; cases e
    | some x =>
      rcases x with p | ⟨c, j⟩
      · rw [hh] at e; cases e
      · rw [hh] at e; cases e; exact hq b j hh
theorem out_any {α : Type} (r : R α) : Out (fun _ => True) r := fun _ _ _ => trivial
theorem out_if {α : Type} {P : α → Prop} {c : Prop} [Decidable c] {r r' : R α} (h : c → Out P r) (h' : ¬ c → Out P r') : Out P (if c then r else r') := by
  by_cases hc : c
  · rw [if_pos hc]; exact h hc
  · rw [if_neg hc]; exact h' hc
section
variable {res : List UInt8 → Bool}
theorem out_name {l : List T} (hl : TsOk l) : Out (NameOk res) (nameR res l) := by
  unfold nameR
  refine out_if (fun h => out_ok ?_) fun _ => out_bad
  unfold isNm at h
  rw [Bool.and_eq_true, beq_iff_eq, Bool.not_eq_true'] at h
  exact ⟨h.2, hl.here.1 h.1⟩
theorem opAt_bin {n : Nat} {l : List T} {w : List UInt8} (h : opAt n l = some w) : w ∈ binOps := by
  have := List.mem_of_find?_eq_some h
  unfold wordsOf at this
  split at this <;> simp only [List.mem_cons, List.not_mem_nil, or_false] at this <;> simp only [binOps, List.mem_cons, List.not_mem_nil, or_false] <;> revert this
  · rintro rfl; simp
  · rintro rfl; simp
  · rintro rfl; simp
  · rintro (rfl | rfl) <;> simp
  · rintro (rfl | rfl | rfl) <;> simp
theorem negI_ok {i : Int} (h : -9223372036854775808 ≤ i ∧ i ≤ 9223372036854775807) : -9223372036854775808 ≤ negI i ∧ negI i ≤ 9223372036854775807 := by
  unfold negI; split <;> omega
theorem fines (f : Nat) :
    (∀ n l, TsOk l → Out (Fine res) (pLine res f n l)) ∧ (∀ n a l, TsOk l → Fine res a → Out (Fine res) (pMore res f n a l)) ∧
    (∀ a l, TsOk l → Fine res a → Out (Fine res) (pRel res f a l)) ∧ (∀ a l r, TsOk l → Fine res a → pThree res f a l = some r → Out (Fine res) r) ∧
    (∀ l, TsOk l → Out (fun xs => xs ≠ [] ∧ ∀ x ∈ xs, Fine res x) (pList res f l)) ∧ (∀ l, TsOk l → Out (Fine res) (pPrim res f l)) := by
  induction f with
  | zero =>
    refine ⟨fun n l _ => ?_, fun n a l _ _ => ?_, fun a l _ _ => ?_, fun a l r _ _ h => ?_, fun l _ => ?_, fun l _ => ?_⟩
    · simp only [pLine]; exact out_none
    · simp only [pMore]; exact out_none
    · simp only [pRel]; exact out_none
    · simp only [pThree, Option.some.injEq] at h; subst h; exact out_none
    · simp only [pList]; exact out_none
    · simp only [pPrim]; exact out_none
  | succ f ih =>
    obtain ⟨hl, hm, hr, ht, hs, hp⟩ := ih
    refine ⟨fun n l o => ?_, fun n a l o ha => ?_, fun a l o ha => ?_, fun a l r o ha h => ?_, fun l o => ?_, fun l o => ?_⟩
    · by_cases h3 : n = 3
      · subst h3; rw [pLine]
        exact out_if (fun _ => out_seq (out_any _) fun _ _ _ => out_seq (hl _ _ (o.drop _)) fun x _ hx => out_ok (.not x hx)) fun _ => hl _ _ o
      by_cases h4 : n = 4
      · subst h4; rw [pLine]
        exact out_seq (hl _ _ o) fun a m ha => hr _ _ (o.drop _) ha
      by_cases h8 : n = 8
      · subst h8; rw [pLine]
        refine out_if (fun _ => out_seq (out_any _) fun _ _ _ => out_if (fun h => out_ok (.lit _ ?_)) fun _ => out_seq (hl _ _ (o.drop _)) fun x _ hx => out_ok (.neg x hx)) fun _ => hl _ _ o
        have := negI_ok ((o.drop 1).here.2 (by simpa using h))
        exact .inr (.inr (.inr (.inl ⟨rfl, rfl, this.1, this.2⟩)))
      by_cases h9 : n = 9
      · subst h9; rw [pLine]; exact hp _ o
      rw [pLine.eq_6 res n l f h3 h4 h8 h9]
      exact out_seq (hl _ _ o) fun a m ha => hm _ _ _ (o.drop _) ha
    · rw [pMore]
      cases ho : opAt n l with
      | none => exact out_ok ha
      | some w => exact out_seq (out_any _) fun _ _ _ => out_seq (hl _ _ (o.drop _)) fun b m hb => hm _ _ _ (o.drop _) (.bin w a b (opAt_bin ho) ha hb)
    · rw [pRel]
      cases ho : relAt l with
      | some w => exact out_seq (out_any _) fun _ _ _ => out_seq (hl _ _ (o.drop _)) fun b m hb => out_ok (.rel w a b (List.mem_of_find?_eq_some ho) ha hb)
      | none =>
        refine out_if (fun _ => out_seq (out_any _) fun _ _ _ => out_if (fun _ => out_seq (out_any _) fun _ _ _ => out_seq (out_any _) fun _ _ _ => out_ok (.nn a ha)) fun _ => out_seq (out_any _) fun _ _ _ => out_ok (.isn a ha)) fun _ => out_if (fun _ => out_seq (out_any _) fun _ _ _ => ?_) fun _ => ?_
        · cases h3 : pThree res f a (l.drop 1) with
          | none => exact out_bad
          | some r => exact out_seq (ht _ _ _ (o.drop _) ha h3) fun x _ hx => out_ok (.not x hx)
        · cases h3 : pThree res f a l with
          | none => exact out_ok ha
          | some r => exact ht _ _ _ o ha h3
    · rw [pThree] at h
      by_cases c1 : isS wLike l = true
      · simp only [if_pos c1, Option.some.injEq] at h; subst h
        exact out_seq (out_any _) fun _ _ _ => out_seq (hl _ _ (o.drop _)) fun b _ hb => out_ok (.like a b ha hb)
      by_cases c2 : isS wIn l = true
      · simp only [if_neg c1, if_pos c2, Option.some.injEq] at h; subst h
        exact out_seq (out_any _) fun _ _ _ => out_seq (out_any _) fun _ _ _ => out_seq (hs _ (o.drop _)) fun xs m hx => out_seq (out_any _) fun _ _ _ => out_ok (.inn a xs hx.1 ha hx.2)
      by_cases c3 : isS wBetween l = true
      · simp only [if_neg c1, if_neg c2, if_pos c3, Option.some.injEq] at h; subst h
        exact out_seq (out_any _) fun _ _ _ => out_seq (hl _ _ (o.drop _)) fun b m hb => out_seq (out_any _) fun _ _ _ => out_seq (hl _ _ (o.drop _)) fun c _ hc => out_ok (.btw a b c ha hb hc)
      simp only [if_neg c1, if_neg c2, if_neg c3] at h; cases h
    · rw [pList]
      refine out_seq (hl _ _ o) fun x m hx => out_if (fun _ => out_seq (out_any _) fun _ _ _ => out_seq (hs _ (o.drop _)) fun xs _ hxs => out_ok ⟨by simp, ?_⟩) fun _ => out_ok ⟨by simp, ?_⟩
      · intro y hy
        rcases List.mem_cons.mp hy with rfl | hy
        · exact hx
        · exact hxs.2 y hy
      · intro y hy
        rw [List.mem_singleton] at hy; subst hy; exact hx
    · rw [pPrim]
      refine out_if (fun h => out_ok (.lit _ ?_)) fun _ => out_if (fun _ => out_ok (.lit _ ?_)) fun _ => out_if (fun _ => out_ok (.lit _ ?_)) fun _ => out_if (fun _ => out_ok (.lit _ (.inl rfl))) fun _ => out_if (fun _ => out_ok (.lit _ (.inr (.inl rfl)))) fun _ => out_if (fun _ => out_ok (.lit _ (.inr (.inr (.inl rfl))))) fun _ => out_if (fun _ => out_seq (out_any _) fun _ _ _ => out_seq (hl _ _ (o.drop _)) fun x m hx => out_seq (out_any _) fun _ _ _ => out_ok hx) fun _ => out_seq (out_name o) fun n _ hn => ?_
      · rw [Bool.and_eq_true, beq_iff_eq] at h
        have := o.here.2 h.1
        exact .inr (.inr (.inr (.inl ⟨rfl, rfl, this.1, this.2⟩)))
      · exact .inr (.inr (.inr (.inr (.inl ⟨rfl, rfl⟩))))
      · exact .inr (.inr (.inr (.inr (.inr ⟨rfl, rfl⟩))))
      · refine out_if (fun _ => out_seq (out_any _) fun _ _ _ => out_seq (out_name (o.drop _)) fun c _ hc => out_ok (.col n c (.inr hn) hc)) fun _ => out_if (fun _ => out_seq (out_any _) fun _ _ _ => out_if (fun _ => out_ok (.call n [] hn (fun _ h => by cases h))) fun _ => out_if (fun h => out_seq (out_any _) fun _ _ _ => out_seq (out_any _) fun _ _ _ => out_ok ?_) fun _ => out_seq (hs _ (o.drop _)) fun xs m hx => out_seq (out_any _) fun _ _ _ => out_ok (.call n xs hn hx.2)) fun _ => out_ok (.col [] n (.inl rfl) hn)
        rw [Bool.and_eq_true, beq_iff_eq] at h
        rw [h.1]; exact .all
theorem fine_line {f n : Nat} {l : List T} {x : E} {m : Nat} (h : TsOk l) (e : pLine res f n l = okR x m) : Fine res x := (fines f).1 n l h x m e
end
end Go.Proofs.YthohfegnphocbaaGreatDoor
namespace Go.Proofs.YthohfegnphocbaaGreatDoor
theorem low_low (c : UInt8) : low (low c) = low c := by
  have h : ∀ n : Fin 256, low (low (UInt8.ofNat n.1)) = low (UInt8.ofNat n.1) := by decide +kernel
  have := h ⟨c.toNat, c.toNat_lt⟩
  simpa using this
theorem low_wch (c : UInt8) (hc : isWch c = true) : isWch (low c) = true := by
  have h : ∀ n : Fin 256, isWch (UInt8.ofNat n.1) = true → isWch (low (UInt8.ofNat n.1)) = true := by decide +kernel
  have := h ⟨c.toNat, c.toNat_lt⟩
  simp only [UInt8.ofNat_toNat] at this
  exact this hc
theorem low_let (c : UInt8) (hc : isLet c = true) : isLet (low c) = true := by
  have h : ∀ n : Fin 256, isLet (UInt8.ofNat n.1) = true → isLet (low (UInt8.ofNat n.1)) = true := by decide +kernel
  have := h ⟨c.toNat, c.toNat_lt⟩
  simp only [UInt8.ofNat_toNat] at this
  exact this hc
theorem oneT_ok {l : List UInt8} {t : Tk} (h : oneT l = some t) (p : Nat) : TOk ⟨t.k, t.s, t.i, p⟩ := by
  cases l with
  | nil => cases h
  | cons c r =>
    simp only [oneT] at h
    split at h
    · cases hb : blbR r.tail with
      | none => rw [hb] at h; cases h
      | some q => rw [hb] at h; cases h; exact ⟨fun h => absurd h (show ¬ ((4 : Int) = 1) by decide), fun h => absurd h (show ¬ ((4 : Int) = 2) by decide)⟩
    · split at h
      · rename_i hL
        split at h
        · rename_i hlen
          cases h
          refine ⟨fun _ => ⟨?_, ?_, ?_, ?_⟩, fun h => absurd h (show ¬ ((1 : Int) = 2) by decide)⟩
          · have hp : 0 < wLen (c :: r) := by
              unfold wLen; rw [List.takeWhile_cons_of_pos (by unfold isWch; rw [hL]; rfl)]; simp
            show headIs (((c :: r).take (wLen (c :: r))).map low) isLet = true
            obtain ⟨k, hk⟩ : ∃ k, wLen (c :: r) = k + 1 := ⟨wLen (c :: r) - 1, by omega⟩
            rw [hk]; exact low_let c hL
          · intro d hd
            obtain ⟨e, he, rfl⟩ := List.mem_map.mp hd
            refine low_wch e ?_
            have ht : (c :: r).take (wLen (c :: r)) = (c :: r).takeWhile isWch := by
              unfold wLen
              exact (List.prefix_iff_eq_take.mp (List.takeWhile_prefix isWch)).symm
            rw [ht] at he
            exact List.all_eq_true.mp List.all_takeWhile e he
          · show (((c :: r).take (wLen (c :: r))).map low).length ≤ 32
            rw [List.length_map, List.length_take]; omega
          · show (((c :: r).take (wLen (c :: r))).map low).map low = ((c :: r).take (wLen (c :: r))).map low
            rw [List.map_map]
            exact List.map_congr_left fun e _ => low_low e
        · cases h
      · split at h
        · rename_i hd
          cases hn : numV 0 (c :: r) with
          | none => rw [hn] at h; cases h
          | some q =>
            rw [hn] at h
            simp only [Option.bind_some] at h
            split at h
            · cases h
            · cases h
              refine ⟨fun h => absurd h (show ¬ ((2 : Int) = 1) by decide), fun _ => ?_⟩
              rw [numV_eq _ 0 (by omega)] at hn
              split at hn
              · rename_i hv
                cases hn
                show -9223372036854775808 ≤ i64Of (decV 0 (dgs (c :: r))) ∧ i64Of (decV 0 (dgs (c :: r))) ≤ 9223372036854775807
                unfold i64Of; split <;> omega
              · cases hn
        · split at h
          · cases hb : txtR r with
            | none => rw [hb] at h; cases h
            | some q => rw [hb] at h; cases h; exact ⟨fun h => absurd h (show ¬ ((3 : Int) = 1) by decide), fun h => absurd h (show ¬ ((3 : Int) = 2) by decide)⟩
          · cases hb : sgn (c :: r) with
            | none => rw [hb] at h; cases h
            | some q => rw [hb] at h; cases h; exact ⟨fun h => absurd h (show ¬ ((5 : Int) = 1) by decide), fun h => absurd h (show ¬ ((5 : Int) = 2) by decide)⟩
theorem cut_ok (l : List UInt8) : ∀ p ts, cutP p l = .ok ts → TsOk ts := by
  refine cut_ind (P := fun l => ∀ p ts, cutP p l = .ok ts → TsOk ts) (fun l ih p ts h => ?_) l
  rw [cutP_eq p l] at h
  by_cases hl : l.drop (bl false l) = []
  · rw [if_pos hl] at h
    cases h
    intro t ht
    rw [List.mem_singleton] at ht; subst ht
    exact ⟨fun h => absurd h (show ¬ ((6 : Int) = 1) by decide), fun h => absurd h (show ¬ ((6 : Int) = 2) by decide)⟩
  · rw [if_neg hl] at h
    cases ho : oneT (l.drop (bl false l)) with
    | none => rw [ho] at h; cases h
    | some t =>
      rw [ho] at h
      simp only at h
      cases hc : cutP (p + bl false l + t.n) (l.drop (bl false l + t.n)) with
      | error q => rw [hc] at h; cases h
      | ok us =>
        rw [hc] at h; cases h
        intro u hu
        rcases List.mem_cons.mp hu with rfl | hu
        · exact oneT_ok ho _
        · exact ih t hl ho _ _ hc u hu
end Go.Proofs.YthohfegnphocbaaGreatDoor
namespace Go.Proofs.YthohfegnphocbaaGreatDoor
def Tk1 (t : T) : Prop := (t.k = 1 → Wrd t.s) ∧ (t.k = 5 → headIs t.s isLet = false)
def lineC (t : T) : Nat :=
  if t.k = 1 then (if t.s = wOr then 1 else if t.s = wAnd then 2 else if t.s = wIs ∨ t.s = wNot ∨ t.s = wLike ∨ t.s = wIn ∨ t.s = wBetween then 4 else 0)
  else if t.k = 5 then (if t.s ∈ rels then 4 else if t.s = [124, 124] then 5 else if t.s = [43] ∨ t.s = [45] then 6 else if t.s = [42] ∨ t.s = [47] ∨ t.s = [37] then 7 else 0)
  else 0
theorem lineC_le (t : T) : lineC t ≤ 7 := by unfold lineC; repeat (first | omega | split)
theorem Tk1.word {t : T} (h : Tk1 t) (hk : t.k = 1) {s : List UInt8} (hs : headIs s isLet = false) : t.s ≠ s := by
  rintro rfl
  rw [(h.1 hk).1] at hs
  cases hs
theorem Tk1.sign {t : T} (h : Tk1 t) (hk : t.k = 5) {s : List UInt8} (hs : headIs s isLet = true) : t.s ≠ s := by
  rintro rfl
  rw [h.2 hk] at hs
  cases hs
theorem isS_word {s : List UInt8} {l : List T} (h : Tk1 (here l)) (hs : headIs s isLet = true) : isS s l = (decide ((here l).k = 1) && ((here l).s == s)) := by
  unfold isS
  by_cases hk : (here l).k = 1
  · simp [hk]
  · by_cases h5 : (here l).k = 5
    · have := h.sign h5 hs
      simp [h5, this]
    · simp [hk, h5]
theorem isS_sign {s : List UInt8} {l : List T} (h : Tk1 (here l)) (hs : headIs s isLet = false) : isS s l = (decide ((here l).k = 5) && ((here l).s == s)) := by
  unfold isS
  by_cases hk : (here l).k = 5
  · simp [hk]
  · by_cases h5 : (here l).k = 1
    · have := h.word h5 hs
      simp [h5, this]
    · simp [hk, h5]
def heads : List (Int × List UInt8) := [(1, wOr), (1, wAnd), (1, wIs), (1, wNot), (1, wLike), (1, wIn), (1, wBetween), (5, [61]), (5, [60, 62]), (5, [60, 61]), (5, [62, 61]), (5, [60]), (5, [62]), (5, [124, 124]), (5, [43]), (5, [45]), (5, [42]), (5, [47]), (5, [37])]
def lineK (k : Int) (s : List UInt8) : Nat := lineC ⟨k, s, 0, 0⟩
def isSK (k : Int) (s w : List UInt8) : Bool := (k == 1 || k == 5) && s == w
theorem isS_K (w : List UInt8) (l : List T) : isS w l = isSK (here l).k (here l).s w := rfl
theorem head_cases {t : T} (h : Tk1 t) : (t.k, t.s) ∈ heads ∨ lineC t = 0 ∧ ∀ p ∈ heads, isSK t.k t.s p.2 = false := by
  by_cases hm : (t.k, t.s) ∈ heads
  · exact .inl hm
  · refine .inr ⟨?_, fun p hp => ?_⟩
    · unfold lineC
      simp only [heads, List.mem_cons, List.not_mem_nil, or_false, Prod.mk.injEq, not_or] at hm
      obtain ⟨a1, a2, a3, a4, a5, a6, a7, b1, b2, b3, b4, b5, b6, b7, b8, b9, b10, b11, b12⟩ := hm
      by_cases hk : t.k = 1
      · simp only [hk, true_and] at a1 a2 a3 a4 a5 a6 a7
        simp [hk, a1, a2, a3, a4, a5, a6, a7]
      · by_cases h5 : t.k = 5
        · simp only [h5, true_and] at b1 b2 b3 b4 b5 b6 b7 b8 b9 b10 b11 b12
          simp [h5, rels, b1, b2, b3, b4, b5, b6, b7, b8, b9, b10, b11, b12]
        · simp [hk, h5]
    · rw [← Bool.not_eq_true]
      intro he
      unfold isSK at he
      simp only [Bool.and_eq_true, Bool.or_eq_true, beq_iff_eq] at he
      obtain ⟨hk, hs⟩ := he
      have hL : ∀ p ∈ heads, (p.1 = 1 ∧ headIs p.2 isLet = true) ∨ (p.1 = 5 ∧ headIs p.2 isLet = false) := by decide
      apply hm
      rcases hL p hp with ⟨h1, h2⟩ | ⟨h1, h2⟩
      · rcases hk with hk | hk
        · rw [hk, hs, ← h1]; exact hp
        · exact absurd hs (h.sign hk h2)
      · rcases hk with hk | hk
        · exact absurd hs (h.word hk h2)
        · rw [hk, hs, ← h1]; exact hp
theorem heads_op : ∀ p ∈ heads, ∀ n ∈ [1, 2, 5, 6, 7], (wordsOf n).find? (fun w => isSK p.1 p.2 w) = if lineK p.1 p.2 = n then some p.2 else none := by decide
theorem heads_rel : ∀ p ∈ heads, rels.find? (fun w => isSK p.1 p.2 w) = if lineK p.1 p.2 = 4 ∧ p.1 = 5 then some p.2 else none := by decide
theorem opAt_C {n : Nat} {l : List T} (h : Tk1 (here l)) (hn : n ∈ [1, 2, 5, 6, 7]) : opAt n l = if lineC (here l) = n then some (here l).s else none := by
  unfold opAt
  simp only [isS_K]
  rcases head_cases h with hm | ⟨h0, hz⟩
  · exact heads_op _ hm n hn
  · rw [h0, if_neg (by rintro rfl; revert hn; decide), List.find?_eq_none]
    intro w hw
    have : ∀ n ∈ [1, 2, 5, 6, 7], ∀ w ∈ wordsOf n, ∃ p ∈ heads, p.2 = w := by decide
    obtain ⟨p, hp, rfl⟩ := this n hn w hw
    rw [hz p hp]; decide
theorem relAt_C {l : List T} (h : Tk1 (here l)) : relAt l = if lineC (here l) = 4 ∧ (here l).k = 5 then some (here l).s else none := by
  unfold relAt
  simp only [isS_K]
  rcases head_cases h with hm | ⟨h0, hz⟩
  · exact heads_rel _ hm
  · rw [h0, if_neg (fun hh => absurd hh.1 (by decide)), List.find?_eq_none]
    intro w hw
    have : ∀ w ∈ rels, ∃ p ∈ heads, p.2 = w := by decide
    obtain ⟨p, hp, rfl⟩ := this w hw
    rw [hz p hp]; decide
theorem word4 {l : List T} (h : Tk1 (here l)) (w : List UInt8) (hw : w ∈ [wIs, wNot, wLike, wIn, wBetween]) : isS w l = (decide (lineC (here l) = 4 ∧ (here l).k = 1) && ((here l).s == w)) := by
  rw [isS_K]
  rcases head_cases h with hm | ⟨h0, hz⟩
  · have : ∀ p ∈ heads, ∀ w ∈ [wIs, wNot, wLike, wIn, wBetween], isSK p.1 p.2 w = (decide (lineK p.1 p.2 = 4 ∧ p.1 = 1) && (p.2 == w)) := by decide
    exact this _ hm w hw
  · have : ∀ w ∈ [wIs, wNot, wLike, wIn, wBetween], ∃ p ∈ heads, p.2 = w := by decide
    obtain ⟨p, hp, rfl⟩ := this w hw
    rw [hz p hp, h0]; rfl
section
variable (res : List UInt8 → Bool)
theorem st_none {k : Nat} {a : E} {l : List T} (h : Tk1 (here l)) (h1 : 1 ≤ k) (h7 : k ≤ 7) (hk : lineC (here l) ≠ k) : st res k a l = okX a 0 := by
  unfold st
  by_cases h3 : k = 3
  · rw [if_pos h3]
  · rw [if_neg h3]
    by_cases h4 : k = 4
    · subst h4
      rw [if_pos rfl, rl_eq, relAt_C h, if_neg (fun hh => hk hh.1)]
      simp only
      have w := fun w hw => word4 h w hw
      have hz : ∀ w ∈ [wIs, wNot, wLike, wIn, wBetween], isS w l = false := fun v hv => by rw [w v hv, decide_eq_false (fun hh => hk hh.1)]; rfl
      rw [hz wIs (by decide), hz wNot (by decide)]
      simp only [Bool.false_eq_true, if_false]
      have : th res a l = none := by unfold th; rw [hz wLike (by decide), hz wIn (by decide), hz wBetween (by decide)]; rfl
      rw [this]
    · rw [if_neg h4, mr_none]
      rw [opAt_C h (by simp; omega), if_neg hk]
theorem ct_stop {n : Nat} {l : List T} (h : Tk1 (here l)) : ∀ (k : Nat), k ≤ 7 → (lineC (here l) < n ∨ k < lineC (here l)) → ∀ a, ct res n k a l = okX a 0 := by
  intro k
  induction k with
  | zero => intros; rfl
  | succ k ih =>
    intro h7 hc a
    rw [ct]
    split
    · rfl
    · rw [st_none res h (by omega) h7 (by omega), okX_seq, List.drop_zero]
      exact ih (by omega) (by omega) a
theorem ct_past {n : Nat} {l : List T} (h : Tk1 (here l)) (hn : n ≤ lineC (here l)) : ∀ (k : Nat), k ≤ 7 → lineC (here l) ≤ k → ∀ a, ct res n k a l = ct res n (lineC (here l)) a l := by
  intro k
  induction k with
  | zero => intro _ h0 a; rw [show lineC (here l) = 0 by omega]
  | succ k ih =>
    intro h7 hc a
    by_cases he : lineC (here l) = k + 1
    · rw [he]
    · rw [ct, if_neg (by omega), st_none res h (by omega) h7 he, okX_seq, List.drop_zero]
      exact ih (by omega) (by omega) a
theorem ct_op {n k : Nat} {l : List T} {a : E} (h : Tk1 (here l)) (h1 : 1 ≤ n) (hn : n ≤ lineC (here l)) (h7 : k ≤ 7) (hk : lineC (here l) ≤ k) (h4 : lineC (here l) ≠ 4) :
    ct res n k a l = seqX (okX () 1) fun _ _ => seqX (ln res (lineC (here l) + 1) (l.drop 1)) fun b m => ct res n (lineC (here l)) (op1 (here l).s [a, b]) (l.drop (1 + m)) := by
  have h3 : lineC (here l) ≠ 3 := by
    rcases head_cases h with hm | ⟨h0, _⟩
    · have : ∀ p ∈ heads, lineK p.1 p.2 ≠ 3 := by decide
      exact this _ hm
    · omega
  rw [ct_past res h hn k h7 hk]
  have h8 := lineC_le (here l)
  have hop := opAt_C h (n := lineC (here l)) (by simp only [List.mem_cons, List.not_mem_nil, or_false]; omega)
  rw [if_pos rfl] at hop
  generalize hc : lineC (here l) = c at *
  generalize (here l).s = s at *
  obtain ⟨j, rfl⟩ : ∃ j, c = j + 1 := ⟨c - 1, by omega⟩
  have hst : ∀ b m, st res (j + 1) b m = mr res (j + 1) b m := fun b m => by unfold st; rw [if_neg h3, if_neg h4]
  rw [ct, if_neg (by omega), hst, mr_some res (by omega) hop, seqX_assoc]
  refine seqX_congr fun _ m e => ?_
  cases e
  rw [seqX_assoc]
  refine seqX_congr fun b q _ => ?_
  rw [ct, if_neg (by omega), hst]
  refine seqX_congr fun c r _ => ?_
  rw [List.drop_drop]
  congr 2
  omega
noncomputable def cls (l : List T) : X (List E) := seqX (ls res l) fun xs m => seqX (needX [41] (l.drop m)) fun _ _ => okX xs 0
noncomputable def tl (l : List T) : X (List E) := if isS [44] l then seqX (okX () 1) fun _ _ => cls res (l.drop 1) else seqX (needX [41] l) fun _ _ => okX [] 0
theorem cls_eq (l : List T) : cls res l = seqX (ln res 1 l) fun x m => seqX (tl res (l.drop m)) fun xs _ => okX (x :: xs) 0 := by
  unfold cls
  rw [ls_eq, seqX_assoc]
  refine seqX_congr fun x m _ => ?_
  unfold tl
  by_cases hc : isS [44] (l.drop m) = true
  · rw [if_pos hc, if_pos hc]
    unfold cls
    rw [seqX_assoc, seqX_assoc]
    refine seqX_congr fun _ q e => ?_
    cases e
    rw [seqX_assoc, seqX_assoc, List.drop_drop]
    refine seqX_congr fun xs r _ => ?_
    rw [okX_seq, seqX_assoc, List.drop_drop]
    rw [show m + (1 + (r + 0)) = m + 1 + r by omega]
    refine seqX_congr fun _ s _ => ?_
    rw [okX_seq]
  · rw [if_neg hc, if_neg hc, okX_seq, Nat.add_zero, seqX_assoc]
    refine seqX_congr fun _ _ _ => ?_
    rw [okX_seq]
noncomputable def askX (a : E) (w : List UInt8) (l : List T) : X E :=
  if w = wIn then seqX (needX [40] l) fun _ _ => seqX (cls res (l.drop 1)) fun xs _ => okX (op1 wIn (a :: xs)) 0
  else if w = wBetween then seqX (ln res 5 l) fun b m => seqX (needX wAnd (l.drop m)) fun _ _ => seqX (ln res 5 (l.drop (m + 1))) fun c _ => okX (op1 wBetween [a, b, c]) 0
  else seqX (ln res 5 l) fun b _ => okX (op1 w [a, b]) 0
def isX (a : E) (l : List T) : X E := if isS wNull l then okX (op1 wIsnull [a]) 1 else if isS wNot l then seqX (okX () 1) fun _ _ => seqX (needX wNull (l.drop 1)) fun _ _ => okX (op1 wNotnull [a]) 0 else badX 0
def notW (l : List T) : Option (List UInt8) := if isS wLike l then some wLike else if isS wIn l then some wIn else if isS wBetween l then some wBetween else none
noncomputable def cmpX (a : E) (w : List UInt8) (l : List T) : X E :=
  if w = wIs then isX a l
  else if w = wNot then match notW l with
    | none => badX 0
    | some v => seqX (okX () 1) fun _ _ => seqX (askX res a v (l.drop 1)) fun x _ => okX (op1 wNot [x]) 0
  else askX res a w l
theorem th_eq (a : E) (l : List T) : th res a l = (notW l).map fun w => seqX (okX () 1) fun _ _ => askX res a w (l.drop 1) := by
  unfold th notW
  by_cases c1 : isS wLike l = true
  · rw [if_pos c1, if_pos c1]; rfl
  rw [if_neg c1, if_neg c1]
  by_cases c2 : isS wIn l = true
  · rw [if_pos c2, if_pos c2]
    simp only [Option.map_some, Option.some.injEq]
    unfold askX cls
    rw [if_pos rfl]
    refine seqX_congr fun _ m e => ?_
    refine seqX_congr fun _ q e => ?_
    rw [seqX_assoc]
    have hq : q = 1 := by
      unfold needX at e
      split at e
      · cases e; rfl
      · cases e
    subst hq
    rw [List.drop_drop]
    refine seqX_congr fun xs r _ => ?_
    rw [seqX_assoc, List.drop_drop]
    rw [show 1 + 1 + r = 2 + r by omega]
    refine seqX_congr fun _ s _ => ?_
    rw [okX_seq]
  rw [if_neg c2, if_neg c2]
  by_cases c3 : isS wBetween l = true
  · rw [if_pos c3, if_pos c3]
    simp only [Option.map_some, Option.some.injEq]
    unfold askX
    rw [if_neg (by decide), if_pos rfl]
    refine seqX_congr fun _ m e => ?_
    refine seqX_congr fun b q _ => ?_
    rw [List.drop_drop, List.drop_drop]
    rw [show 1 + (q + 1) = 2 + q by omega]
  · rw [if_neg c3, if_neg c3]; rfl
theorem rl_C {l : List T} (h : Tk1 (here l)) (h' : Tk1 (here (l.drop 1))) (h4 : lineC (here l) = 4) (a : E) : rl res a l = seqX (okX () 1) fun _ _ => cmpX res a (here l).s (l.drop 1) := by
  rw [rl_eq, relAt_C h]
  have w := fun w hw => word4 h w hw
  by_cases h5 : (here l).k = 5
  · rw [if_pos ⟨h4, h5⟩]
    simp only
    refine seqX_congr fun _ m _ => ?_
    have hne := fun s hs => h.sign h5 (s := s) hs
    unfold cmpX askX
    rw [if_neg (hne wIs (by decide)), if_neg (hne wNot (by decide)), if_neg (hne wIn (by decide)), if_neg (hne wBetween (by decide))]
  · rw [if_neg (fun hh => h5 hh.2)]
    have h1 : (here l).k = 1 ∧ (here l).s ∈ [wIs, wNot, wLike, wIn, wBetween] := by
      rcases head_cases h with hm | ⟨h0, _⟩
      · have : ∀ p ∈ heads, lineK p.1 p.2 = 4 → p.1 ≠ 5 → p.1 = 1 ∧ p.2 ∈ [wIs, wNot, wLike, wIn, wBetween] := by decide
        exact this _ hm h4 h5
      · omega
    obtain ⟨hk, hs⟩ := h1
    simp only
    rw [decide_eq_true (show lineC (here l) = 4 ∧ (here l).k = 1 from ⟨h4, hk⟩)] at w
    simp only [Bool.true_and] at w
    simp only [th_eq, w wIs (by decide), w wNot (by decide)]
    simp only [List.mem_cons, List.not_mem_nil, or_false] at hs
    rcases hs with e | e | e | e | e
    · rw [e]
      rw [if_pos (by decide)]
      unfold cmpX
      rw [if_pos rfl]
      refine seqX_congr fun _ m _ => ?_
      unfold isX
      have hex : isS wNot (l.drop 1) = true → isS wNull (l.drop 1) = false := by
        rw [isS_word h' (by decide), isS_word h' (by decide)]
        simp only [Bool.and_eq_true, beq_iff_eq]
        rintro ⟨-, e2⟩
        rw [e2]
        simp; intro _; decide
      by_cases c : isS wNot (l.drop 1) = true
      · rw [if_pos c, hex c, if_neg (by decide), if_pos c, List.drop_drop]
      · rw [if_neg c]
        unfold needX
        by_cases c2 : isS wNull (l.drop 1) = true
        · rw [if_pos c2, if_pos c2]; rfl
        · rw [if_neg c2, if_neg c2, if_neg c]; rfl
    · rw [e]
      rw [if_neg (by decide), if_pos (by decide)]
      unfold cmpX
      rw [if_neg (by decide), if_pos rfl]
      refine seqX_congr fun _ m _ => ?_
      cases notW (l.drop 1) with
      | none => rfl
      | some v =>
        simp only [Option.map_some]
        rw [seqX_assoc]
    all_goals
      rw [e]
      rw [if_neg (by decide), if_neg (by decide)]
      unfold cmpX
      rw [if_neg (by decide), if_neg (by decide)]
    · have : notW l = some wLike := by unfold notW; rw [w wLike (by decide), e]; rfl
      rw [this]; rfl
    · have : notW l = some wIn := by unfold notW; rw [w wLike (by decide), w wIn (by decide), e]; rfl
      rw [this]; rfl
    · have : notW l = some wBetween := by unfold notW; rw [w wLike (by decide), w wIn (by decide), w wBetween (by decide), e]; rfl
      rw [this]; rfl
theorem ct_cmp {n k : Nat} {l : List T} {a : E} (h : Tk1 (here l)) (h' : Tk1 (here (l.drop 1))) (h1 : 1 ≤ n) (hn : n ≤ 4) (h7 : k ≤ 7) (hk : 4 ≤ k) (h4 : lineC (here l) = 4) :
    ct res n k a l = seqX (okX () 1) fun _ _ => seqX (cmpX res a (here l).s (l.drop 1)) fun b m => ct res n 3 b (l.drop (1 + m)) := by
  rw [ct_past res h (by omega) k h7 (by omega), h4, ct, if_neg (by omega)]
  have hst : st res (3 + 1) a l = rl res a l := by unfold st; rw [if_neg (by omega), if_pos rfl]
  rw [hst, rl_C res h h' h4, seqX_assoc]
  refine seqX_congr fun _ m e => ?_
  cases e
  rfl
end
end Go.Proofs.YthohfegnphocbaaGreatDoor
namespace Go.Proofs.YthohfegnphocbaaGreatDoor
def T.strip (t : T) : T := ⟨t.k, t.s, t.i, 0⟩
def strips (l : List T) : List T := l.map T.strip
theorem strips_drop (l : List T) (m : Nat) : (strips l).drop m = strips (l.drop m) := by unfold strips; rw [List.map_drop]
theorem here_strips (l : List T) : here (strips l) = (here l).strip := by cases l <;> rfl
theorem isS_strips (s : List UInt8) (l : List T) : isS s (strips l) = isS s l := by unfold isS; rw [here_strips]; rfl
theorem isNm_strips (res : List UInt8 → Bool) (l : List T) : isNm res (strips l) = isNm res l := by unfold isNm; rw [here_strips]; rfl
theorem need_strips (s : List UInt8) (l : List T) : needR s (strips l) = needR s l := by unfold needR; rw [isS_strips]
theorem name_strips (res : List UInt8 → Bool) (l : List T) : nameR res (strips l) = nameR res l := by unfold nameR; rw [isNm_strips, here_strips]; rfl
theorem opAt_strips (n : Nat) (l : List T) : opAt n (strips l) = opAt n l := by unfold opAt; simp only [isS_strips]
theorem relAt_strips (l : List T) : relAt (strips l) = relAt l := by unfold relAt; simp only [isS_strips]
theorem k_strip (t : T) : t.strip.k = t.k := rfl
theorem s_strip (t : T) : t.strip.s = t.s := rfl
theorem i_strip (t : T) : t.strip.i = t.i := rfl
theorem read_strips (res : List UInt8 → Bool) (f : Nat) :
    (∀ n l, pLine res f n (strips l) = pLine res f n l) ∧ (∀ n a l, pMore res f n a (strips l) = pMore res f n a l) ∧
    (∀ a l, pRel res f a (strips l) = pRel res f a l) ∧ (∀ a l, pThree res f a (strips l) = pThree res f a l) ∧
    (∀ l, pList res f (strips l) = pList res f l) ∧ (∀ l, pPrim res f (strips l) = pPrim res f l) := by
  induction f with
  | zero => refine ⟨fun n l => ?_, fun n a l => ?_, fun a l => ?_, fun a l => ?_, fun l => ?_, fun l => ?_⟩ <;> simp only [pLine, pMore, pRel, pThree, pList, pPrim]
  | succ f ih =>
    obtain ⟨hl, hm, hr, ht, hs, hp⟩ := ih
    refine ⟨fun n l => ?_, fun n a l => ?_, fun a l => ?_, fun a l => ?_, fun l => ?_, fun l => ?_⟩
    · by_cases h3 : n = 3
      · subst h3; simp only [pLine, isS_strips, strips_drop, hl]
      by_cases h4 : n = 4
      · subst h4; simp only [pLine, strips_drop, hl, hr]
      by_cases h8 : n = 8
      · subst h8; simp only [pLine, isS_strips, strips_drop, here_strips, k_strip, i_strip, hl]
      by_cases h9 : n = 9
      · subst h9; simp only [pLine, hp]
      rw [pLine.eq_6 res n _ f h3 h4 h8 h9, pLine.eq_6 res n l f h3 h4 h8 h9]
      simp only [strips_drop, hl, hm]
    · simp only [pMore, opAt_strips, strips_drop, hl, hm]
    · simp only [pRel, relAt_strips, isS_strips, strips_drop, need_strips, hl, ht]
    · simp only [pThree, isS_strips, strips_drop, need_strips, hl, hs]
    · simp only [pList, isS_strips, strips_drop, hl, hs]
    · simp only [pPrim, isS_strips, here_strips, k_strip, s_strip, i_strip, strips_drop, need_strips, name_strips, hl, hs]
theorem line_same {res : List UInt8 → Bool} {l l' : List T} (h : strips l = strips l') (f n : Nat) : pLine res f n l = pLine res f n l' := by
  rw [← (read_strips res f).1 n l, ← (read_strips res f).1 n l', h]
end Go.Proofs.YthohfegnphocbaaGreatDoor
namespace Go.Proofs.YthohfegnphocbaaGreatDoor
def cutS (l : List UInt8) : Option (List T) := match cutP 0 l with
  | .ok ts => some (strips ts)
  | .error _ => none
theorem strips_up (d : Nat) (ts : List T) : strips (ts.map (T.up d)) = strips ts := by
  unfold strips; rw [List.map_map]; rfl
theorem cutS_at (p : Nat) (l : List UInt8) : (match cutP p l with | .ok ts => some (strips ts) | .error _ => none) = cutS l := by
  rw [cutP_at p l]
  unfold cutS
  cases cutP 0 l with
  | error q => rfl
  | ok ts => simp only [upE, strips_up]
theorem cutS_one {l : List UInt8} {t : Tk} (hl : l ≠ []) (hb : bl false l = 0) (ho : oneT l = some t) : cutS l = (cutS (l.drop t.n)).map (⟨t.k, t.s, t.i, 0⟩ :: ·) := by
  rw [← cutS_at (0 + t.n) (l.drop t.n)]
  unfold cutS
  rw [cut_one hl hb ho 0]
  cases cutP (0 + t.n) (l.drop t.n) <;> rfl
theorem cutS_sp (r : List UInt8) : cutS (32 :: r) = cutS r := by
  rw [← cutS_at (0 + 1) r]
  unfold cutS
  have := cut_blank blank_space 0 r
  simp only [List.cons_append, List.nil_append, List.length_cons, List.length_nil] at this
  rw [this]
theorem cutS_nil : cutS [] = some [⟨6, [], 0, 0⟩] := rfl
def Safe (r : List UInt8) : Prop := headIs r isWch = false ∧ r.head? ≠ some 39
def Ct (l : List UInt8) (ts : List T) : Prop := ∀ r, Safe r → cutS (l ++ r) = (cutS r).map (ts ++ ·)
def Cta (l : List UInt8) (ts : List T) : Prop := ∀ r, cutS (l ++ r) = (cutS r).map (ts ++ ·)
theorem Cta.ct {l : List UInt8} {ts : List T} (h : Cta l ts) : Ct l ts := fun r _ => h r
theorem map_map_app (o : Option (List T)) (ts us : List T) : ((o.map (us ++ ·)).map (ts ++ ·)) = o.map ((ts ++ us) ++ ·) := by cases o <;> simp
theorem Cta.app {l m : List UInt8} {ts us : List T} (h : Cta l ts) (h' : Ct m us) : Ct (l ++ m) (ts ++ us) := fun r hr => by
  rw [List.append_assoc, h, h' r hr, map_map_app]
theorem Cta.appa {l m : List UInt8} {ts us : List T} (h : Cta l ts) (h' : Cta m us) : Cta (l ++ m) (ts ++ us) := fun r => by
  rw [List.append_assoc, h, h' r, map_map_app]
theorem Ct.app {l m : List UInt8} {ts us : List T} (h : Ct l ts) (h' : Ct m us) (hs : ∀ r, Safe r → Safe (m ++ r)) : Ct (l ++ m) (ts ++ us) := fun r hr => by
  rw [List.append_assoc, h _ (hs r hr), h' r hr, map_map_app]
theorem Ct.appa {l m : List UInt8} {ts us : List T} (h : Ct l ts) (h' : Cta m us) (hs : ∀ r, Safe (m ++ r)) : Cta (l ++ m) (ts ++ us) := fun r => by
  rw [List.append_assoc, h _ (hs r), h' r, map_map_app]
theorem safe_nil : Safe [] := ⟨rfl, by simp⟩
theorem safe_cons {c : UInt8} {r : List UInt8} (h : isWch c = false) (h' : c ≠ 39) : Safe (c :: r) := ⟨h, by simpa using h'⟩
theorem cta_sp : Cta [32] [] := fun r => by
  show cutS (32 :: r) = _
  rw [cutS_sp]; cases cutS r <;> rfl
theorem bl_zero {c : UInt8} {r : List UInt8} (h : isWs c = false) (h2 : c ≠ 45) : bl false (c :: r) = 0 := bl_none h fun hh => h2 hh.1
theorem cta_sg {c : UInt8} (hw : isWs c = false) (h2 : c ≠ 45) (ho : ∀ r, oneT (c :: r) = some ⟨5, [c], 0, 1⟩) : Cta [c] [sg [c]] := fun r => by
  show cutS (c :: r) = _
  rw [cutS_one (by simp) (bl_zero hw h2) (ho r)]
  show (cutS r).map _ = _
  cases cutS r <;> rfl
theorem cta_open : Cta [40] [sg [40]] := cta_sg (by decide) (by decide) fun r => rfl
theorem cta_close : Cta [41] [sg [41]] := cta_sg (by decide) (by decide) fun r => rfl
theorem cta_comma : Cta [44] [sg [44]] := cta_sg (by decide) (by decide) fun r => rfl
theorem cta_dot : Cta [46] [sg [46]] := cta_sg (by decide) (by decide) fun r => rfl
theorem cta_star : Cta [42] [sg [42]] := cta_sg (by decide) (by decide) fun r => rfl
theorem cutS_minus {r : List UInt8} (h : r.head? ≠ some 45) : cutS (45 :: r) = (cutS r).map (sg [45] :: ·) := by
  rw [cutS_one (t := ⟨5, [45], 0, 1⟩) (by simp) (bl_none (by decide) fun hh => h hh.2) rfl]
  rfl
theorem op_cut {c : UInt8} {w r : List UInt8} (hw : isWs c = false) (hd : c ≠ 45 ∨ (w ++ 32 :: r).head? ≠ some 45) (ho : oneT (c :: (w ++ 32 :: r)) = some ⟨5, c :: w, 0, (c :: w).length⟩) : cutS ((c :: w) ++ [32] ++ r) = (cutS (32 :: r)).map (sg (c :: w) :: ·) := by
  have e : (c :: w) ++ [32] ++ r = c :: (w ++ 32 :: r) := by simp
  rw [e, cutS_one (by simp) (bl_none hw fun hh => by rcases hd with h | h; exact h hh.1; exact h hh.2) ho]
  have ed : (c :: (w ++ 32 :: r)).drop (c :: w).length = 32 :: r := by rw [List.length_cons, List.drop_succ_cons, List.drop_left]
  show (cutS ((c :: (w ++ 32 :: r)).drop (c :: w).length)).map _ = _
  rw [ed]; rfl
theorem cta_op {w : List UInt8} (h : w ∈ [[124, 124], [43], [45], [42], [47], [37], [61], [60, 62], [60, 61], [62, 61], [60], [62]]) : Cta (w ++ [32]) [sg w] := fun r => by
  have e : cutS (w ++ [32] ++ r) = (cutS (32 :: r)).map (sg w :: ·) := by
    simp only [List.mem_cons, List.not_mem_nil, or_false] at h
    rcases h with h | h | h | h | h | h | h | h | h | h | h | h <;> subst h
    · exact op_cut (by decide) (.inl (by decide)) rfl
    · exact op_cut (by decide) (.inl (by decide)) rfl
    · exact op_cut (by decide) (.inr (by simp)) rfl
    · exact op_cut (by decide) (.inl (by decide)) rfl
    · exact op_cut (by decide) (.inl (by decide)) rfl
    · exact op_cut (by decide) (.inl (by decide)) rfl
    · exact op_cut (by decide) (.inl (by decide)) rfl
    · exact op_cut (by decide) (.inl (by decide)) rfl
    · exact op_cut (by decide) (.inl (by decide)) rfl
    · exact op_cut (by decide) (.inl (by decide)) rfl
    · exact op_cut (by decide) (.inl (by decide)) rfl
    · exact op_cut (by decide) (.inl (by decide)) rfl
  rw [e, cutS_sp]; rfl
theorem takeWhile_app {f : UInt8 → Bool} {w r : List UInt8} (h : ∀ c ∈ w, f c = true) (hr : headIs r f = false) : (w ++ r).takeWhile f = w := by
  rw [List.takeWhile_append_of_pos h]
  cases r with
  | nil => simp
  | cons c r => rw [List.takeWhile_cons_of_neg (by have : f c = false := hr; simp [this])]; simp
theorem ct_word {w : List UInt8} (h1 : headIs w isLet = true) (h2 : ∀ c ∈ w, isWch c = true) (h3 : w.length ≤ 32) : Ct w [wd (w.map low)] := fun r hr => by
  cases w with
  | nil => cases h1
  | cons c w =>
    have hc : isLet c = true := h1
    have hl : wLen (c :: (w ++ r)) = (c :: w).length := by
      have := takeWhile_app h2 hr.1
      unfold wLen; rw [show c :: (w ++ r) = (c :: w) ++ r from rfl, this]
    have hq : (w ++ r).head? ≠ some 39 := by
      cases w with
      | nil => exact hr.2
      | cons d w =>
        intro e
        have : d = 39 := by simpa using e
        subst this
        exact absurd (h2 39 (by simp)) (by decide)
    have ho : oneT (c :: (w ++ r)) = some ⟨1, (c :: w).map low, 0, (c :: w).length⟩ := by
      simp only [oneT]
      rw [if_neg (fun hh => hq hh.2), if_pos hc, hl, if_pos h3]
      congr 2
      show List.map low (((c :: w) ++ r).take (c :: w).length) = _
      rw [List.take_left]
    have hw : isWs c = false := by
      cases hx : isWs c with
      | false => rfl
      | true =>
        simp only [isWs, Bool.or_eq_true, beq_iff_eq] at hx
        rcases hx with ((rfl | rfl) | rfl) | rfl <;> exact absurd hc (by decide)
    show cutS (c :: (w ++ r)) = _
    rw [cutS_one (by simp) (bl_zero hw (by rintro rfl; exact absurd hc (by decide))) ho]
    show (cutS (((c :: w) ++ r).drop (c :: w).length)).map _ = _
    rw [List.drop_left]; rfl
theorem ct_text (l : List UInt8) : Ct (39 :: (quo l ++ [39])) [⟨3, l, 0, 0⟩] := fun r hr => by
  have ea : 39 :: (quo l ++ [39]) ++ r = 39 :: (quo l ++ 39 :: r) := by simp
  have ho : oneT (39 :: (quo l ++ 39 :: r)) = some ⟨3, l, 0, (quo l).length + 2⟩ := by
    simp only [oneT]
    rw [if_neg (show ¬ (((39 : UInt8) = 120 ∨ (39 : UInt8) = 88) ∧ _) from fun h => absurd h.1 (by decide)), if_neg (show ¬ (isLet 39 = true) by decide), if_neg (show ¬ (isDig 39 = true) by decide), if_pos trivial, txtR_quo l _ hr.2]
    rfl
  rw [ea, cutS_one (by simp) (bl_zero (by decide) (by decide)) ho]
  have ed : (39 :: (quo l ++ 39 :: r)).drop ((quo l).length + 2) = r := by
    rw [show (quo l).length + 2 = ((quo l).length + 1) + 1 by omega, List.drop_succ_cons, ← List.drop_drop, List.drop_left]; rfl
  show (cutS ((39 :: (quo l ++ 39 :: r)).drop ((quo l).length + 2))).map _ = _
  rw [ed]; rfl
def hexS (l : List UInt8) : List UInt8 := l.flatMap fun c => [digS (c.toNat / 16), digS (c.toNat % 16)]
theorem digS_ne {a : Nat} (h : a < 16) : digS a ≠ 39 := by
  have : a = 0 ∨ a = 1 ∨ a = 2 ∨ a = 3 ∨ a = 4 ∨ a = 5 ∨ a = 6 ∨ a = 7 ∨ a = 8 ∨ a = 9 ∨ a = 10 ∨ a = 11 ∨ a = 12 ∨ a = 13 ∨ a = 14 ∨ a = 15 := by omega
  rcases this with rfl | rfl | rfl | rfl | rfl | rfl | rfl | rfl | rfl | rfl | rfl | rfl | rfl | rfl | rfl | rfl <;> decide
theorem blbR_hexS (l r : List UInt8) : blbR (hexS l ++ 39 :: r) = some (l, (hexS l).length + 1) := by
  induction l with
  | nil => cases r <;> simp [hexS, blbR]
  | cons c l ih =>
    have hc := c.toNat_lt
    have e : hexS (c :: l) = [digS (c.toNat / 16), digS (c.toNat % 16)] ++ hexS l := rfl
    have h1 := hexV_S (a := c.toNat / 16) (by omega)
    have h2 := digS_ne (a := c.toNat / 16) (by omega)
    have h3 := hexV_S (a := c.toNat % 16) (by omega)
    rw [e]
    simp only [List.cons_append, List.nil_append]
    conv => lhs; unfold blbR
    rw [if_neg h2, h1]
    simp only [Option.bind_some, h3, ih, Option.map_some, List.length_cons]
    have : UInt8.ofNat (16 * (c.toNat / 16) + c.toNat % 16) = c := by
      rw [Nat.div_add_mod]
      simp
    rw [this]
theorem ct_blob (l : List UInt8) : Ct (120 :: 39 :: (hexS l ++ [39])) [⟨4, l, 0, 0⟩] := fun r hr => by
  have ea : 120 :: 39 :: (hexS l ++ [39]) ++ r = 120 :: 39 :: (hexS l ++ 39 :: r) := by simp
  have ho : oneT (120 :: 39 :: (hexS l ++ 39 :: r)) = some ⟨4, l, 0, (hexS l).length + 3⟩ := by
    simp only [oneT]
    rw [if_pos (show ((True ∨ (120 : UInt8) = 88) ∧ (39 :: (hexS l ++ 39 :: r)).head? = some 39) from ⟨Or.inl trivial, rfl⟩), List.tail_cons, blbR_hexS]
    rfl
  rw [ea, cutS_one (by simp) (bl_zero (by decide) (by decide)) ho]
  have ed : (120 :: 39 :: (hexS l ++ 39 :: r)).drop ((hexS l).length + 3) = r := by
    rw [show (hexS l).length + 3 = ((hexS l).length + 1) + 1 + 1 by omega, List.drop_succ_cons, List.drop_succ_cons, ← List.drop_drop, List.drop_left]; rfl
  show (cutS ((120 :: 39 :: (hexS l ++ 39 :: r)).drop ((hexS l).length + 3))).map _ = _
  rw [ed]; rfl
theorem dec_step (u : Nat) : Lib.decDigits u = if u < 10 then [UInt8.ofNat (48 + u)] else Lib.decDigits (u / 10) ++ [UInt8.ofNat (48 + u % 10)] := by
  conv => lhs; unfold Lib.decDigits
  split <;> simp_all
theorem decV_snoc (l : List UInt8) (c : UInt8) : decV 0 (l ++ [c]) = 10 * decV 0 l + (c.toNat - 48) := by unfold decV; rw [List.foldl_append]; rfl
theorem dg_ok {a : Nat} (h : a < 10) : (UInt8.ofNat (48 + a)).toNat = 48 + a ∧ isDig (UInt8.ofNat (48 + a)) = true := by
  have : a = 0 ∨ a = 1 ∨ a = 2 ∨ a = 3 ∨ a = 4 ∨ a = 5 ∨ a = 6 ∨ a = 7 ∨ a = 8 ∨ a = 9 := by omega
  rcases this with rfl | rfl | rfl | rfl | rfl | rfl | rfl | rfl | rfl | rfl <;> decide
theorem dec_facts (u : Nat) : decV 0 (Lib.decDigits u) = u ∧ (∀ c ∈ Lib.decDigits u, isDig c = true) ∧ Lib.decDigits u ≠ [] := by
  induction u using Nat.strongRecOn with
  | ind u ih =>
    rw [dec_step]
    split
    · rename_i h
      obtain ⟨h1, h2⟩ := dg_ok h
      refine ⟨?_, ?_, by simp⟩
      · show 10 * 0 + ((UInt8.ofNat (48 + u)).toNat - 48) = u
        rw [h1]; omega
      · intro c hc
        rw [List.mem_singleton] at hc; subst hc; exact h2
    · rename_i h
      obtain ⟨i1, i2, i3⟩ := ih (u / 10) (by omega)
      obtain ⟨h1, h2⟩ := dg_ok (a := u % 10) (by omega)
      refine ⟨?_, ?_, by simp⟩
      · rw [decV_snoc, i1, h1]; omega
      · intro c hc
        rcases List.mem_append.mp hc with hc | hc
        · exact i2 c hc
        · rw [List.mem_singleton] at hc; subst hc; exact h2
theorem ct_num {u : Nat} (h : u ≤ 9223372036854775808) : Ct (Lib.decDigits u) [⟨2, [], i64Of u, 0⟩] := fun r hr => by
  obtain ⟨h1, h2, h3⟩ := dec_facts u
  generalize Lib.decDigits u = d at h1 h2 h3
  cases d with
  | nil => exact absurd rfl h3
  | cons c d =>
    have hd : headIs r isDig = false := by
      have := hr.1
      cases r with
      | nil => rfl
      | cons x r => simp only [headIs, isWch, Bool.or_eq_false_iff] at this ⊢; exact this.2
    have hL : headIs r isLet = false := by
      have := hr.1
      cases r with
      | nil => rfl
      | cons x r => simp only [headIs, isWch, Bool.or_eq_false_iff] at this ⊢; exact this.1
    have e : dgs (c :: (d ++ r)) = c :: d := takeWhile_app h2 hd
    have hc : isDig c = true := h2 c (by simp)
    have ho : oneT (c :: (d ++ r)) = some ⟨2, [], i64Of u, (c :: d).length⟩ := by
      rw [oneT_num c _ hc, e, if_neg, h1, if_pos h]
      show ¬ headIs (((c :: d) ++ r).drop (c :: d).length) isLet = true
      rw [List.drop_left, hL]; decide
    have hw : isWs c = false ∧ c ≠ 45 := by
      have hx := (isDig_iff c).1 hc
      refine ⟨?_, by rintro rfl; exact absurd hx.1 (by decide)⟩
      cases hx' : isWs c with
      | false => rfl
      | true =>
        simp only [isWs, Bool.or_eq_true, beq_iff_eq] at hx'
        rcases hx' with ((rfl | rfl) | rfl) | rfl <;> exact absurd hx.1 (by decide)
    show cutS (c :: (d ++ r)) = _
    rw [cutS_one (by simp) (bl_zero hw.1 hw.2) ho]
    show (cutS (((c :: d) ++ r).drop (c :: d).length)).map _ = _
    rw [List.drop_left]; rfl
end Go.Proofs.YthohfegnphocbaaGreatDoor
namespace Go.Proofs.YthohfegnphocbaaGreatDoor
section
variable {res : List UInt8 → Bool}
theorem len1 {P : List T} {t : T} {Q : List T} : (P ++ t :: Q).length = P.length + (1 + Q.length) := by simp; omega
theorem down4 {P Q rest : List T} {x : E} (h : Rd res 4 (P ++ Q) rest x) (hh : PH P) (hr : lineOf (here rest) < 1) : Rd res 1 (P ++ Q) rest x := by
  refine rd_down res h (by omega) (fun _ => ?_) (fun h => by omega) 3 1 (by omega) (by omega) hr
  have := hh.no (Q ++ rest)
  simpa using this
theorem isn_text {P : List T} {x : E} (hP : PartOk res P x) (hh : PH P) : TextOk res (P ++ [wd wIs, wd wNull]) (op1 wIsnull [x]) := by
  intro rest hr
  obtain ⟨f, e⟩ := hP 5 (by omega) (by omega) (wd wIs :: wd wNull :: rest) (show lineOf (wd wIs) < 5 by decide)
  refine down4 ⟨f + 2, ?_⟩ hh hr
  have ea : (P ++ [wd wIs, wd wNull]) ++ rest = P ++ wd wIs :: wd wNull :: rest := by simp
  rw [ea, pLine, (up_line res _ _).at e (by omega : f ≤ f + 1), len1]
  refine seq_ok ?_
  rw [drop_app, pRel]
  rfl
theorem nn_text {P : List T} {x : E} (hP : PartOk res P x) (hh : PH P) : TextOk res (P ++ [wd wIs, wd wNot, wd wNull]) (op1 wNotnull [x]) := by
  intro rest hr
  obtain ⟨f, e⟩ := hP 5 (by omega) (by omega) (wd wIs :: wd wNot :: wd wNull :: rest) (show lineOf (wd wIs) < 5 by decide)
  refine down4 ⟨f + 2, ?_⟩ hh hr
  have ea : (P ++ [wd wIs, wd wNot, wd wNull]) ++ rest = P ++ wd wIs :: wd wNot :: wd wNull :: rest := by simp
  rw [ea, pLine, (up_line res _ _).at e (by omega : f ≤ f + 1), len1]
  refine seq_ok ?_
  rw [drop_app, pRel]
  rfl
theorem like_text {P Q : List T} {x y : E} (hP : PartOk res P x) (hQ : PartOk res Q y) (hh : PH P) : TextOk res (P ++ wd wLike :: Q) (op1 wLike [x, y]) := by
  intro rest hr
  obtain ⟨f, e⟩ := hP 5 (by omega) (by omega) (wd wLike :: (Q ++ rest)) (show lineOf (wd wLike) < 5 by decide)
  obtain ⟨g, e'⟩ := hQ 5 (by omega) (by omega) rest (by omega)
  refine down4 ⟨f + g + 3, ?_⟩ hh hr
  have ea : (P ++ wd wLike :: Q) ++ rest = P ++ wd wLike :: (Q ++ rest) := by simp
  rw [ea, pLine, (up_line res _ _).at e (by omega : f ≤ f + g + 2), len1]
  refine seq_ok ?_
  have e3 : pThree res (f + g + 1) x (wd wLike :: (Q ++ rest)) = some (seqR (okR () 1) fun _ _ => seqR (pLine res (f + g) 5 (Q ++ rest)) fun b _ => okR (op1 wLike [x, b]) 0) := rfl
  rw [drop_app, pRel]
  show (match pThree res (f + g + 1) x (wd wLike :: (Q ++ rest)) with | none => okR x 0 | some r => r) = _
  rw [e3, (up_line res _ _).at e' (by omega : g ≤ f + g)]
  exact seq_ok (q := Q.length) (seq_ok (q := 0) rfl)
theorem btw_text {P Q U : List T} {x y z : E} (hP : PartOk res P x) (hQ : PartOk res Q y) (hU : PartOk res U z) (hh : PH P) : TextOk res (P ++ wd wBetween :: (Q ++ wd wAnd :: U)) (op1 wBetween [x, y, z]) := by
  intro rest hr
  obtain ⟨f, e⟩ := hP 5 (by omega) (by omega) (wd wBetween :: (Q ++ wd wAnd :: (U ++ rest))) (show lineOf (wd wBetween) < 5 by decide)
  obtain ⟨g, e'⟩ := hQ 5 (by omega) (by omega) (wd wAnd :: (U ++ rest)) (show lineOf (wd wAnd) < 5 by decide)
  obtain ⟨j, e''⟩ := hU 5 (by omega) (by omega) rest (by omega)
  refine down4 ⟨f + g + j + 3, ?_⟩ hh hr
  have ea : (P ++ wd wBetween :: (Q ++ wd wAnd :: U)) ++ rest = P ++ wd wBetween :: (Q ++ wd wAnd :: (U ++ rest)) := by simp
  rw [ea, pLine, (up_line res _ _).at e (by omega : f ≤ f + g + j + 2), len1, len1]
  refine seq_ok ?_
  have e3 : pThree res (f + g + j + 1) x (wd wBetween :: (Q ++ wd wAnd :: (U ++ rest))) = some (seqR (okR () 1) fun _ _ => seqR (pLine res (f + g + j) 5 (Q ++ wd wAnd :: (U ++ rest))) fun b m => seqR (needR wAnd ((wd wBetween :: (Q ++ wd wAnd :: (U ++ rest))).drop (1 + m))) fun _ _ => seqR (pLine res (f + g + j) 5 ((wd wBetween :: (Q ++ wd wAnd :: (U ++ rest))).drop (2 + m))) fun c _ => okR (op1 wBetween [x, b, c]) 0) := rfl
  rw [drop_app, pRel]
  show (match pThree res (f + g + j + 1) x (wd wBetween :: (Q ++ wd wAnd :: (U ++ rest))) with | none => okR x 0 | some r => r) = _
  rw [e3, (up_line res _ _).at e' (by omega : g ≤ f + g + j)]
  refine seq_ok (seq_ok ?_)
  have d1 : (wd wBetween :: (Q ++ wd wAnd :: (U ++ rest))).drop (1 + Q.length) = wd wAnd :: (U ++ rest) := by rw [Nat.add_comm, List.drop_succ_cons, drop_app]
  have d2 : (wd wBetween :: (Q ++ wd wAnd :: (U ++ rest))).drop (2 + Q.length) = U ++ rest := by
    rw [show 2 + Q.length = (1 + Q.length) + 1 by omega, ← List.drop_drop, d1]; rfl
  rw [d1, d2, (up_line res _ _).at e'' (by omega : j ≤ f + g + j)]
  exact seq_ok (a := ()) (q := U.length) (seq_ok (q := 0) rfl)
theorem list_ok {l : List E} (hl : l ≠ []) (h : ∀ x ∈ l, TextOk res x.toks x) : ∀ rest, lineOf (here rest) < 1 → isS [44] rest = false → ∃ f, pList res f (join [sg [44]] (toksL l) ++ rest) = okR l (join [sg [44]] (toksL l)).length := by
  induction l with
  | nil => exact absurd rfl hl
  | cons x l ih =>
    intro rest hr hc
    cases l with
    | nil =>
      obtain ⟨f, e⟩ := h x (by simp) rest hr
      refine ⟨f + 1, ?_⟩
      show pList res (f + 1) (x.toks ++ rest) = okR [x] x.toks.length
      rw [pList, e]
      refine seq_ok (q := 0) ?_
      rw [drop_app, if_neg (by rw [hc]; decide)]
    | cons y l =>
      obtain ⟨g, e'⟩ := ih (by simp) (fun z hz => h z (List.mem_cons_of_mem _ hz)) rest hr hc
      obtain ⟨f, e⟩ := h x (by simp) (sg [44] :: (join [sg [44]] (toksL (y :: l)) ++ rest)) (show lineOf (sg [44]) < 1 by decide)
      refine ⟨f + g + 1, ?_⟩
      have ea : join [sg [44]] (toksL (x :: y :: l)) ++ rest = x.toks ++ sg [44] :: (join [sg [44]] (toksL (y :: l)) ++ rest) := by simp [toksL, join]
      have el : (join [sg [44]] (toksL (x :: y :: l))).length = x.toks.length + (1 + ((join [sg [44]] (toksL (y :: l))).length + 0)) := by simp [toksL, join]; omega
      rw [ea, el, pList, (up_line res _ _).at e (by omega : f ≤ f + g)]
      refine seq_ok ?_
      rw [drop_app, if_pos (show isS [44] (sg [44] :: (join [sg [44]] (toksL (y :: l)) ++ rest)) = true from rfl)]
      refine seq_ok ?_
      rw [← List.drop_drop, drop_app, List.drop_succ_cons, List.drop_zero, (up_list res _).at e' (by omega : g ≤ f + g)]
      exact seq_ok rfl
theorem in_text {P : List T} {x : E} {l : List E} (hP : PartOk res P x) (hl : l ≠ []) (h : ∀ y ∈ l, TextOk res y.toks y) (hh : PH P) : TextOk res (P ++ wd wIn :: brk (join [sg [44]] (toksL l))) (op1 wIn (x :: l)) := by
  intro rest hr
  generalize hJ : join [sg [44]] (toksL l) = J
  obtain ⟨f, e⟩ := hP 5 (by omega) (by omega) (wd wIn :: sg [40] :: (J ++ sg [41] :: rest)) (show lineOf (wd wIn) < 5 by decide)
  obtain ⟨g, e'⟩ := list_ok hl h (sg [41] :: rest) (show lineOf (sg [41]) < 1 by decide) rfl
  rw [hJ] at e'
  refine down4 ⟨f + g + 3, ?_⟩ hh hr
  have ea : (P ++ wd wIn :: brk J) ++ rest = P ++ wd wIn :: sg [40] :: (J ++ sg [41] :: rest) := by simp [brk]
  have eb : (brk J).length = 1 + (J.length + 1) := by simp [brk]; omega
  rw [ea, pLine, (up_line res _ _).at e (by omega : f ≤ f + g + 2), len1, eb]
  refine seq_ok ?_
  have e3 : pThree res (f + g + 1) x (wd wIn :: sg [40] :: (J ++ sg [41] :: rest)) = some (seqR (okR () 1) fun _ _ => seqR (okR () 1) fun _ _ => seqR (pList res (f + g) (J ++ sg [41] :: rest)) fun xs m => seqR (needR [41] ((wd wIn :: sg [40] :: (J ++ sg [41] :: rest)).drop (2 + m))) fun _ _ => okR (op1 wIn (x :: xs)) 0) := rfl
  rw [drop_app, pRel]
  show (match pThree res (f + g + 1) x (wd wIn :: sg [40] :: (J ++ sg [41] :: rest)) with | none => okR x 0 | some r => r) = _
  rw [e3, (up_list res _).at e' (by omega : g ≤ f + g)]
  refine seq_ok (seq_ok (seq_ok ?_))
  have d2 : (wd wIn :: sg [40] :: (J ++ sg [41] :: rest)).drop (2 + J.length) = sg [41] :: rest := by
    rw [← List.drop_drop]; show (J ++ sg [41] :: rest).drop J.length = _; rw [drop_app]
  rw [d2]
  exact seq_ok (a := ()) (q := 0) rfl
end
end Go.Proofs.YthohfegnphocbaaGreatDoor
namespace Go.Proofs.YthohfegnphocbaaGreatDoor
section
variable {res : List UInt8 → Bool}
theorem not_text {P : List T} {x : E} (hP : PartOk res P x) : TextOk res (wd wNot :: P) (op1 wNot [x]) := by
  intro rest hr
  obtain ⟨f, e⟩ := hP 3 (by omega) (by omega) rest (by omega)
  have hd : Rd res 3 (wd wNot :: P) rest (op1 wNot [x]) := by
    refine ⟨f + 1, ?_⟩
    rw [pLine, if_pos (show isS wNot (wd wNot :: P ++ rest) = true from rfl)]
    show seqR (okR () 1) (fun _ _ => seqR (pLine res f 3 (P ++ rest)) fun x _ => okR (op1 wNot [x]) 0) = okR _ (P.length + 1)
    rw [e, Nat.add_comm]
    exact seq_ok (q := P.length) (seq_ok (q := 0) rfl)
  exact rd_down res hd (by omega) (fun h => by omega) (fun h => by omega) 2 1 (by omega) (by omega) hr
theorem neg_text {P : List T} {x : E} (h : TextOk res P x) : TextOk res (sg [45] :: brk P) (op1 wNeg [x]) := by
  intro rest hr
  obtain ⟨f, e⟩ := h.inBrk res 8 (by omega) (by omega) rest (by omega)
  have hd : Rd res 8 (sg [45] :: brk P) rest (op1 wNeg [x]) := by
    refine ⟨f + 1, ?_⟩
    rw [pLine, if_pos (show isS [45] (sg [45] :: brk P ++ rest) = true from rfl)]
    show seqR (okR () 1) (fun _ _ => seqR (pLine res f 8 (brk P ++ rest)) fun x _ => okR (op1 wNeg [x]) 0) = okR _ ((brk P).length + 1)
    rw [e, Nat.add_comm]
    exact seq_ok (q := (brk P).length) (seq_ok (q := 0) rfl)
  exact rd_down res hd (by omega) (fun h => rfl) (fun h => by omega) 7 1 (by omega) (by omega) hr
theorem lit_well {v : Vl} (h : VOk v) : Well res (lit v) := by
  rcases h with rfl | rfl | rfl | ⟨h1, h2, h3, h4⟩ | ⟨h1, h2⟩ | ⟨h1, h2⟩
  · exact well_plain rfl (part_of_prim res (fun rest _ => ⟨1, rfl⟩) (fun _ => rfl) fun _ => rfl) ⟨wd wNull, [], rfl, fun _ => by decide⟩
  · exact well_plain rfl (part_of_prim res (fun rest _ => ⟨1, rfl⟩) (fun _ => rfl) fun _ => rfl) ⟨wd wTrue, [], rfl, fun _ => by decide⟩
  · exact well_plain rfl (part_of_prim res (fun rest _ => ⟨1, rfl⟩) (fun _ => rfl) fun _ => rfl) ⟨wd wFalse, [], rfl, fun _ => by decide⟩
  · obtain ⟨k, i, s⟩ := v
    dsimp only at h1 h2 h3 h4
    subst h1; subst h2
    by_cases hi : i < 0
    · have et : (lit ⟨2, i, []⟩).toks = [sg [45], ⟨2, [], negI i, 0⟩] := by
        show vToks ⟨2, i, []⟩ = _
        simp only [vToks, if_pos hi]; rfl
      refine well_not ?_ ?_ ?_
      · show (((wLit == wCol) || (wLit == wCall)) || ((wLit == wLit) && !((2 : Int) == 2 && decide (i < 0)))) = false
        rw [decide_eq_true hi]; rfl
      · rw [et]
        intro rest hr
        have hn : negI (negI i) = i := by
          unfold negI
          by_cases hm : i = -9223372036854775808
          · simp [hm]
          · rw [if_neg hm, if_neg (by omega), Int.neg_neg]
        have hd : Rd res 8 [sg [45], ⟨2, [], negI i, 0⟩] rest (lit ⟨2, i, []⟩) := by
          refine ⟨1, ?_⟩
          show okR (lit ⟨2, negI (negI i), []⟩) 2 = _
          rw [hn]; rfl
        exact rd_down res hd (by omega) (fun h => rfl) (fun h => by omega) 7 1 (by omega) (by omega) hr
      · rw [et]; exact ⟨_, _, rfl, fun _ => ⟨by decide, by decide⟩⟩
    · have et : (lit ⟨2, i, []⟩).toks = [⟨2, [], i, 0⟩] := by
        show vToks ⟨2, i, []⟩ = _
        simp only [vToks, if_neg hi]; rfl
      refine well_plain ?_ ?_ ?_
      · show (((wLit == wCol) || (wLit == wCall)) || ((wLit == wLit) && !((2 : Int) == 2 && decide (i < 0)))) = true
        rw [decide_eq_false hi]; rfl
      · rw [et]
        refine part_of_prim res (fun rest _ => ⟨1, ?_⟩) (fun _ => rfl) fun _ => rfl
        show pPrim res 1 (⟨2, [], i, 0⟩ :: rest) = _
        have hq : ((here (⟨2, [], i, 0⟩ :: rest)).k == 2 && decide (0 ≤ (here (⟨2, [], i, 0⟩ :: rest)).i)) = true := by
          show ((2 : Int) == 2 && decide (0 ≤ i)) = true
          rw [decide_eq_true (by omega)]; rfl
        rw [pPrim, if_pos hq]
        rfl
      · rw [et]; exact ⟨_, _, rfl, fun h => absurd h (show ¬ (((2 : Int) == 1 || (2 : Int) == 5) = true) by decide)⟩
  · obtain ⟨k, i, s⟩ := v
    dsimp only at h1 h2
    subst h1; subst h2
    exact well_plain rfl (part_of_prim res (fun rest _ => ⟨1, rfl⟩) (fun _ => rfl) fun _ => rfl) ⟨⟨3, s, 0, 0⟩, [], rfl, fun h => absurd h (show ¬ (((3 : Int) == 1 || (3 : Int) == 5) = true) by decide)⟩
  · obtain ⟨k, i, s⟩ := v
    dsimp only at h1 h2
    subst h1; subst h2
    exact well_plain rfl (part_of_prim res (fun rest _ => ⟨1, rfl⟩) (fun _ => rfl) fun _ => rfl) ⟨⟨4, s, 0, 0⟩, [], rfl, fun h => absurd h (show ¬ (((4 : Int) == 1 || (4 : Int) == 5) = true) by decide)⟩
def Keys (res : List UInt8 → Bool) : Prop := res wNull = true ∧ res wTrue = true ∧ res wFalse = true ∧ res wNot = true
theorem NameOk.ne {n s : List UInt8} (h : NameOk res n) (hs : headIs s isLet = false) : n ≠ s := by rintro rfl; rw [h.2.1] at hs; cases hs
theorem NameOk.ne' {n s : List UInt8} (h : NameOk res n) (hs : res s = true) : n ≠ s := by rintro rfl; rw [h.1] at hs; cases hs
theorem name_isS {n s : List UInt8} (h : n ≠ s) (l : List T) : isS s (wd n :: l) = false := isS_cons fun _ => h
theorem name_read {n : List UInt8} (h : NameOk res n) (l : List T) : nameR res (wd n :: l) = okR n 1 := by
  have hq : isNm res (wd n :: l) = true := by
    show ((1 : Int) == 1 && !res n) = true
    rw [h.1]; rfl
  unfold nameR
  rw [if_pos hq]; rfl
theorem name_prim (hk : Keys res) {n : List UInt8} (h : NameOk res n) (f : Nat) (l : List T) : pPrim res (f + 1) (wd n :: l) = seqR (okR n 1) fun n _ =>
      if isS [46] l then seqR (okR () 1) fun _ _ => seqR (nameR res (l.drop 1)) fun c _ => okR (col n c) 0
      else if isS [40] l then seqR (okR () 1) fun _ _ =>
        if isS [41] (l.drop 1) then okR (call1 n []) 1
        else if n == wCount && isS [42] (l.drop 1) then seqR (okR () 1) fun _ _ => seqR (needR [41] (l.drop 2)) fun _ _ => okR (call1 n [star]) 0
        else seqR (pList res f (l.drop 1)) fun xs m => seqR (needR [41] (l.drop (1 + m))) fun _ _ => okR (call1 n xs) 0
      else okR (col [] n) 0 := by
  have q4 := name_isS (h.ne' hk.1) l
  have q5 := name_isS (h.ne' hk.2.1) l
  have q6 := name_isS (h.ne' hk.2.2.1) l
  have q7 := name_isS (h.ne (by decide : headIs [40] isLet = false)) l
  have q8 := name_read h l
  rw [pPrim]
  have q1 : ((here (wd n :: l)).k == 2) = false := rfl
  have q2 : ((here (wd n :: l)).k == 3) = false := rfl
  have q3 : ((here (wd n :: l)).k == 4) = false := rfl
  have qd : ∀ m, (wd n :: l).drop (2 + m) = l.drop (1 + m) := fun m => by rw [show 2 + m = (1 + m) + 1 by omega, List.drop_succ_cons]
  simp only [q1, q2, q3, q4, q5, q6, q7, q8, qd, Bool.false_and, Bool.false_eq_true, if_false, List.drop_succ_cons, List.drop_zero]
theorem ph_name (hk : Keys res) {n : List UInt8} (h : NameOk res n) (l : List T) : PH (wd n :: l) := ⟨_, _, rfl, fun _ => ⟨h.ne (by decide), h.ne (by decide), h.ne (by decide), h.ne' hk.2.2.2⟩⟩
theorem no9 {l : List T} (h : lineOf (here l) < 9) (s : List UInt8) (hs : s = [46] ∨ s = [40]) : isS s l = false := by
  refine isS_ne h fun t hk e => ?_
  rcases hs with rfl | rfl <;> simp only [lineOf, hk, e] <;> decide
theorem col_well (hk : Keys res) {t n : List UInt8} (ht : t = [] ∨ NameOk res t) (h : NameOk res n) : Well res (col t n) := by
  rcases ht with rfl | ht
  · refine well_plain rfl (part_of_prim res (fun rest hr => ⟨1, ?_⟩) (fun r => ?_) fun r => ?_) (ph_name hk h [])
    · show pPrim res 1 (wd n :: rest) = _
      rw [name_prim hk h, no9 hr _ (.inl rfl), no9 hr _ (.inr rfl)]; rfl
    · exact name_isS (h.ne' hk.2.2.2) r
    · exact name_isS (h.ne (by decide)) r
  · have et : (col t n).toks = [wd t, sg [46], wd n] := by
      show (if t = [] then [wd n] else [wd t, sg [46], wd n]) = _
      rw [if_neg]; rintro rfl; exact absurd ht.2.1 (by decide)
    refine well_plain rfl ?_ (by rw [et]; exact ph_name hk ht _)
    rw [et]
    refine part_of_prim res (fun rest hr => ⟨1, ?_⟩) (fun r => ?_) fun r => ?_
    · show pPrim res 1 (wd t :: sg [46] :: wd n :: rest) = _
      rw [name_prim hk ht]
      refine seq_ok (q := 2) ?_
      rw [if_pos (show isS [46] (sg [46] :: wd n :: rest) = true from rfl), List.drop_succ_cons, List.drop_zero, name_read h]; rfl
    · exact name_isS (ht.ne' hk.2.2.2) _
    · exact name_isS (ht.ne (by decide)) _
theorem toks_head_join {l : List E} (hl : l ≠ []) (h : ∀ x ∈ l, TH x.toks) : TH (join [sg [44]] (toksL l)) := by
  cases l with
  | nil => exact absurd rfl hl
  | cons x l =>
    obtain ⟨t, r, e, hh⟩ := h x (by simp)
    cases l with
    | nil => exact ⟨t, r, by show x.toks = _; exact e, hh⟩
    | cons y l => exact ⟨t, r ++ sg [44] :: join [sg [44]] (toksL (y :: l)), by simp [toksL, join, e], hh⟩
theorem call_well (hk : Keys res) {n : List UInt8} {l : List E} (h : NameOk res n) (hw : ∀ x ∈ l, Well res x) : Well res (call1 n l) := by
  have et : (call1 n l).toks = wd n :: brk (join [sg [44]] (toksL l)) := rfl
  refine well_plain rfl ?_ (by rw [et]; exact ph_name hk h _)
  rw [et]
  refine part_of_prim res (fun rest hr => ?_) (fun r => name_isS (h.ne' hk.2.2.2) _) fun r => name_isS (h.ne (by decide)) _
  by_cases hl : l = []
  · subst hl
    refine ⟨1, ?_⟩
    show pPrim res 1 (wd n :: sg [40] :: sg [41] :: rest) = _
    rw [name_prim hk h]; rfl
  · have hj := toks_head_join hl fun x hx => (hw x hx).th
    obtain ⟨f, e⟩ := list_ok hl (fun x hx => (hw x hx).text) (sg [41] :: rest) (show lineOf (sg [41]) < 1 by decide) rfl
    generalize join [sg [44]] (toksL l) = J at hj e ⊢
    refine ⟨f + 1, ?_⟩
    have ea : wd n :: brk J ++ rest = wd n :: sg [40] :: (J ++ sg [41] :: rest) := by simp [brk]
    rw [ea, name_prim hk h]
    have el : (wd n :: brk J).length = 1 + (1 + (J.length + 1)) := by simp [brk]; omega
    rw [el]
    refine seq_ok ?_
    rw [if_neg (show ¬ isS [46] (sg [40] :: (J ++ sg [41] :: rest)) = true from by show ¬ (false = true); decide), if_pos (show isS [40] (sg [40] :: (J ++ sg [41] :: rest)) = true from rfl)]
    refine seq_ok ?_
    have d1 : (sg [40] :: (J ++ sg [41] :: rest)).drop (1 + J.length) = sg [41] :: rest := by rw [Nat.add_comm, List.drop_succ_cons, drop_app]
    simp only [List.drop_succ_cons, List.drop_zero, hj.no41, hj.no42, Bool.and_false, Bool.false_eq_true, if_false]
    rw [e]
    refine seq_ok ?_
    rw [d1]
    exact seq_ok (a := ()) (q := 0) rfl
end
end Go.Proofs.YthohfegnphocbaaGreatDoor
