/- Plain facts on expressions (no program): what an expression that may be is written with is read as it again. No condition. -/
import Derived.Test.YthohfegnphocbaaGreatDoorQ09
import Derived.Test.YthohfegnphocbaaGreatDoorQ08
namespace Go.Proofs.YthohfegnphocbaaGreatDoor
section
variable {res : List UInt8 → Bool}
theorem all_well (hk : Keys res) (hc : res wCount = false) : Well res (call1 wCount [star]) := by
  have h : NameOk res wCount := ⟨hc, by unfold Wrd; decide⟩
  have et : (call1 wCount [star]).toks = [wd wCount, sg [40], sg [42], sg [41]] := rfl
  refine well_plain rfl ?_ (by rw [et]; exact ph_name hk h _)
  rw [et]
  refine part_of_prim res (fun rest hr => ⟨1, ?_⟩) (fun r => name_isS (h.ne' hk.2.2.2) _) fun r => name_isS (h.ne (by decide)) _
  show pPrim res 1 (wd wCount :: sg [40] :: sg [42] :: sg [41] :: rest) = _
  rw [name_prim hk h]; rfl
theorem bin_line {w : List UInt8} (h : w ∈ binOps) : ∃ k, (k = 1 ∨ k = 2 ∨ k = 5 ∨ k = 6 ∨ k = 7) ∧ w ∈ wordsOf k := by
  simp only [binOps, List.mem_cons, List.not_mem_nil, or_false] at h
  rcases h with rfl | rfl | rfl | rfl | rfl | rfl | rfl | rfl
  · exact ⟨1, by omega, by decide⟩
  · exact ⟨2, by omega, by decide⟩
  · exact ⟨5, by omega, by decide⟩
  · exact ⟨6, by omega, by decide⟩
  · exact ⟨6, by omega, by decide⟩
  · exact ⟨7, by omega, by decide⟩
  · exact ⟨7, by omega, by decide⟩
  · exact ⟨7, by omega, by decide⟩
theorem two_toks {w : List UInt8} (h : w ∈ binOps ∨ w ∈ rels) (x y : E) : (op1 w [x, y]).toks = x.part ++ tk w :: y.part := by
  simp only [binOps, rels, List.mem_cons, List.not_mem_nil, or_false] at h
  rcases h with (h | h | h | h | h | h | h | h) | (h | h | h | h | h | h) <;> subst h <;> rfl
theorem two_plain {w : List UInt8} (h : w ∈ binOps ∨ w ∈ rels) (l : List E) : (op1 w l).plain = false := by
  simp only [binOps, rels, List.mem_cons, List.not_mem_nil, or_false] at h
  rcases h with (h | h | h | h | h | h | h | h) | (h | h | h | h | h | h) <;> subst h <;> rfl
theorem well (hk : Keys res) (hc : res wCount = false) {x : E} (h : Fine res x) : Well res x := by
  induction h with
  | lit v hv => exact lit_well hv
  | col t n ht hn => exact col_well hk ht hn
  | call n l hn _ ih => exact call_well hk hn ih
  | all => exact all_well hk hc
  | neg x _ ih => exact well_not rfl (neg_text ih.text) ⟨sg [45], _, rfl, fun _ => by decide⟩
  | not x _ ih => exact well_not rfl (not_text ih.part) ⟨wd wNot, _, rfl, fun _ => by decide⟩
  | isn x _ ih => exact well_not rfl (isn_text ih.part ih.ph) (ih.ph.app _).th
  | nn x _ ih => exact well_not rfl (nn_text ih.part ih.ph) (ih.ph.app _).th
  | bin w x y hw _ _ ihx ihy =>
    obtain ⟨k, hk', hw'⟩ := bin_line hw
    have e := two_toks (.inl hw) x y
    exact well_not (two_plain (.inl hw) _) (by rw [e]; exact bin_text hk' hw' ihx.part ihy.part ihx.ph) (by rw [e]; exact (ihx.ph.app _).th)
  | rel w x y hw _ _ ihx ihy =>
    have e := two_toks (.inr hw) x y
    exact well_not (two_plain (.inr hw) _) (by rw [e]; exact rel_text hw ihx.part ihy.part ihx.ph) (by rw [e]; exact (ihx.ph.app _).th)
  | like x y _ _ ihx ihy => exact well_not rfl (like_text ihx.part ihy.part ihx.ph) (ihx.ph.app _).th
  | btw x y z _ _ _ ihx ihy ihz => exact well_not rfl (btw_text ihx.part ihy.part ihz.part ihx.ph) (ihx.ph.app _).th
  | inn x l hl _ _ ihx ihl => exact well_not rfl (in_text ihx.part hl (fun y hy => (ihl y hy).text) ihx.ph) (ihx.ph.app _).th
theorem back (hk : Keys res) (hc : res wCount = false) {x : E} (h : Fine res x) (p : Nat) : ∃ f, pLine res f 1 (x.toks ++ [⟨6, [], 0, p⟩]) = okR x x.toks.length :=
  (well hk hc h).text [⟨6, [], 0, p⟩] (show lineOf ⟨6, [], 0, p⟩ < 1 by
    show (if ((6 : Int) == 1 || (6 : Int) == 5) = false then 0 else _) < 1
    rw [if_pos (by decide)]; decide)
end
end Go.Proofs.YthohfegnphocbaaGreatDoor
namespace Go.Proofs.YthohfegnphocbaaGreatDoor
def vTxt (v : Vl) : List UInt8 :=
  if v.k = 0 then [78, 85, 76, 76] else if v.k = 1 then (if v.i = 1 then [84, 82, 85, 69] else [70, 65, 76, 83, 69])
  else if v.k = 2 then (if v.i < 0 then 45 :: Lib.decDigits v.i.natAbs else Lib.decDigits v.i.natAbs)
  else if v.k = 3 then 39 :: (quo v.s ++ [39]) else 120 :: 39 :: (hexS v.s ++ [39])
def brkB (l : List UInt8) : List UInt8 := 40 :: (l ++ [41])
def joinB : List (List UInt8) → List UInt8
  | [] => []
  | [x] => x
  | x :: y :: l => x ++ ([44, 32] ++ joinB (y :: l))
def upC (c : UInt8) : UInt8 := if 97 ≤ c && c ≤ 122 then c - 32 else c
def partB (e : E) (t : List UInt8) : List UInt8 := if e.plain then t else brkB t
def bIs : List UInt8 := [32, 73, 83, 32, 78, 85, 76, 76]
def bIsNot : List UInt8 := [32, 73, 83, 32, 78, 79, 84, 32, 78, 85, 76, 76]
def bBetween : List UInt8 := [32, 66, 69, 84, 87, 69, 69, 78, 32]
def bAnd : List UInt8 := [32, 65, 78, 68, 32]
def bIn : List UInt8 := [32, 73, 78, 32]
def txtOf (o : List UInt8) (v : Vl) (t n : List UInt8) (l : List E) (ts : List (List UInt8)) : List UInt8 :=
  let p := List.zipWith partB l ts
  if o = wLit then vTxt v
  else if o = wCol then (if t = [] then n else t ++ 46 :: n)
  else if o = wCall then n ++ brkB (joinB ts)
  else if o = wStar then [42]
  else if o = wNeg then 45 :: brkB (ts.headD [])
  else if o = wNot then [78, 79, 84, 32] ++ p.headD []
  else if o = wIsnull then p.headD [] ++ bIs
  else if o = wNotnull then p.headD [] ++ bIsNot
  else if o = wBetween then p.headD [] ++ (bBetween ++ ((p.drop 1).headD [] ++ (bAnd ++ (p.drop 2).headD [])))
  else if o = wIn then p.headD [] ++ (bIn ++ brkB (joinB (ts.drop 1)))
  else p.headD [] ++ ([32] ++ ((o.map upC ++ [32]) ++ (p.drop 1).headD []))
mutual
def E.txt : E → List UInt8
  | .mk o v t n l => txtOf o v t n l (txtL l)
def txtL : List E → List (List UInt8)
  | [] => []
  | e :: l => e.txt :: txtL l
end
def E.prt (e : E) : List UInt8 := partB e e.txt
section
variable {res : List UInt8 → Bool}
theorem Wrd.ct {n : List UInt8} (h : Wrd n) : Ct n [wd n] := by have := ct_word h.1 h.2.1 h.2.2.1; rwa [h.2.2.2] at this
theorem safe_sp (m r : List UInt8) : Safe (32 :: m ++ r) := safe_cons (by decide) (by decide)
theorem safe_cl (m r : List UInt8) : Safe (41 :: m ++ r) := safe_cons (by decide) (by decide)
theorem brk_ct {l : List UInt8} {ts : List T} (h : Ct l ts) : Cta (brkB l) (brk ts) := by
  have := cta_open.appa (h.appa cta_close fun r => safe_cl [] r)
  exact this
theorem wd_sp {w : List UInt8} {s : List UInt8} (h1 : headIs w isLet = true) (h2 : ∀ c ∈ w, isWch c = true) (h3 : w.length ≤ 32) (hs : w.map low = s) : Cta (w ++ [32]) [wd s] := by
  have := (ct_word h1 h2 h3).appa cta_sp fun r => safe_sp [] r
  rw [hs] at this; exact this
structure Cuts (x : E) : Prop where
  txt : Ct x.txt x.toks
  prt : Ct x.prt x.part
theorem cuts_of {x : E} (h : Ct x.txt x.toks) : Cuts x := by
  refine ⟨h, ?_⟩
  unfold E.prt E.part partB partT
  by_cases hp : x.plain = true
  · rw [if_pos hp, if_pos hp]; exact h
  · rw [if_neg hp, if_neg hp]; exact (brk_ct h).ct
theorem join_ct {l : List E} (h : ∀ x ∈ l, Cuts x) : Ct (joinB (txtL l)) (join [sg [44]] (toksL l)) := by
  induction l with
  | nil => exact fun r _ => by show cutS r = (cutS r).map ([] ++ ·); cases cutS r <;> rfl
  | cons x l ih =>
    cases l with
    | nil => exact (h x (by simp)).txt
    | cons y l =>
      have hi := ih fun z hz => h z (List.mem_cons_of_mem _ hz)
      have hc : Cta [44, 32] [sg [44]] := cta_comma.appa cta_sp
      have := (h x (by simp)).txt.app (hc.app hi) fun r _ => safe_cons (by decide) (by decide)
      have e1 : joinB (txtL (x :: y :: l)) = x.txt ++ ([44, 32] ++ joinB (txtL (y :: l))) := by simp [txtL, joinB]
      have e2 : join [sg [44]] (toksL (x :: y :: l)) = x.toks ++ ([sg [44]] ++ join [sg [44]] (toksL (y :: l))) := by simp [toksL, join]
      rw [e1, e2]; exact this
theorem ct_upper {w s : List UInt8} (h1 : headIs w isLet = true) (h2 : ∀ c ∈ w, isWch c = true) (h3 : w.length ≤ 32) (hs : w.map low = s) : Ct w [wd s] := by have := ct_word h1 h2 h3; rwa [hs] at this
theorem lit_cuts {v : Vl} (h : VOk v) : Cuts (lit v) := by
  refine cuts_of ?_
  show Ct (vTxt v) (vToks v)
  rcases h with rfl | rfl | rfl | ⟨h1, h2, h3, h4⟩ | ⟨h1, h2⟩ | ⟨h1, h2⟩
  · exact ct_upper (w := [78, 85, 76, 76]) (by decide) (by decide) (by decide) (by decide)
  · exact ct_upper (w := [84, 82, 85, 69]) (by decide) (by decide) (by decide) (by decide)
  · exact ct_upper (w := [70, 65, 76, 83, 69]) (by decide) (by decide) (by decide) (by decide)
  · obtain ⟨k, i, s⟩ := v
    dsimp only at h1 h2 h3 h4
    subst h1; subst h2
    by_cases hi : i < 0
    · have e1 : vTxt ⟨2, i, []⟩ = 45 :: Lib.decDigits i.natAbs := by unfold vTxt; simp [hi]
      have e2 : vToks ⟨2, i, []⟩ = [sg [45], ⟨2, [], negI i, 0⟩] := by unfold vToks; simp [hi]
      rw [e1, e2]
      intro r hr
      have hn := ct_num (u := i.natAbs) (by omega)
      have hi' : i64Of i.natAbs = negI i := by
        unfold i64Of negI
        by_cases hm : i = -9223372036854775808
        · subst hm; decide
        · rw [if_neg hm, if_pos (by omega)]; omega
      rw [hi'] at hn
      obtain ⟨_, hd, hne⟩ := dec_facts i.natAbs
      have h45 : (Lib.decDigits i.natAbs ++ r).head? ≠ some 45 := by
        generalize Lib.decDigits i.natAbs = d at hd hne
        cases d with
        | nil => exact absurd rfl hne
        | cons c d =>
          intro e
          have : c = 45 := by simpa using e
          subst this; exact absurd (hd 45 (by simp)) (by decide)
      show cutS (45 :: (Lib.decDigits i.natAbs ++ r)) = _
      rw [cutS_minus h45, hn r hr]
      cases cutS r <;> rfl
    · have e1 : vTxt ⟨2, i, []⟩ = Lib.decDigits i.natAbs := by unfold vTxt; simp [hi]
      have e2 : vToks ⟨2, i, []⟩ = [⟨2, [], i, 0⟩] := by unfold vToks; simp [hi]
      rw [e1, e2]
      have hn := ct_num (u := i.natAbs) (by omega)
      have hi' : i64Of i.natAbs = i := by
        unfold i64Of
        rw [if_pos (by omega)]; omega
      rwa [hi'] at hn
  · obtain ⟨k, i, s⟩ := v
    dsimp only at h1 h2
    subst h1; subst h2
    exact ct_text s
  · obtain ⟨k, i, s⟩ := v
    dsimp only at h1 h2
    subst h1; subst h2
    exact ct_blob s
end
end Go.Proofs.YthohfegnphocbaaGreatDoor
namespace Go.Proofs.YthohfegnphocbaaGreatDoor
section
variable {res : List UInt8 → Bool}
theorem ct_sp {l : List UInt8} {ts : List T} (h : Ct l ts) : Ct ([32] ++ l) ts := by have := cta_sp.app h; rwa [List.nil_append] at this
theorem is_null : Ct bIs [wd wIs, wd wNull] := by
  have h1 : Cta ([73, 83] ++ [32]) [wd wIs] := wd_sp (by decide) (by decide) (by decide) (by decide)
  have h2 : Ct [78, 85, 76, 76] [wd wNull] := ct_upper (by decide) (by decide) (by decide) (by decide)
  exact ct_sp (h1.app h2)
theorem is_not_null : Ct bIsNot [wd wIs, wd wNot, wd wNull] := by
  have h1 : Cta ([73, 83] ++ [32]) [wd wIs] := wd_sp (by decide) (by decide) (by decide) (by decide)
  have h0 : Cta ([78, 79, 84] ++ [32]) [wd wNot] := wd_sp (by decide) (by decide) (by decide) (by decide)
  have h2 : Ct [78, 85, 76, 76] [wd wNull] := ct_upper (by decide) (by decide) (by decide) (by decide)
  exact ct_sp (h1.app (h0.app h2))
theorem between_cta : Cta bBetween [wd wBetween] := by
  have h1 : Cta ([66, 69, 84, 87, 69, 69, 78] ++ [32]) [wd wBetween] := wd_sp (by decide) (by decide) (by decide) (by decide)
  exact cta_sp.appa h1
theorem and_cta : Cta bAnd [wd wAnd] := by
  have h1 : Cta ([65, 78, 68] ++ [32]) [wd wAnd] := wd_sp (by decide) (by decide) (by decide) (by decide)
  exact cta_sp.appa h1
theorem in_cta : Cta bIn [wd wIn] := by
  have h1 : Cta ([73, 78] ++ [32]) [wd wIn] := wd_sp (by decide) (by decide) (by decide) (by decide)
  exact cta_sp.appa h1
theorem op_cta {w : List UInt8} (h : w ∈ binOps ∨ w ∈ rels ∨ w = wLike) : Cta (w.map upC ++ [32]) [tk w] := by
  simp only [binOps, rels, List.mem_cons, List.not_mem_nil, or_false] at h
  rcases h with (h | h | h | h | h | h | h | h) | (h | h | h | h | h | h) | h <;> subst h
  · exact wd_sp (w := [79, 82]) (by decide) (by decide) (by decide) (by decide)
  · exact wd_sp (w := [65, 78, 68]) (by decide) (by decide) (by decide) (by decide)
  · exact cta_op (w := [124, 124]) (by decide)
  · exact cta_op (w := [43]) (by decide)
  · exact cta_op (w := [45]) (by decide)
  · exact cta_op (w := [42]) (by decide)
  · exact cta_op (w := [47]) (by decide)
  · exact cta_op (w := [37]) (by decide)
  · exact cta_op (w := [61]) (by decide)
  · exact cta_op (w := [60, 62]) (by decide)
  · exact cta_op (w := [60, 61]) (by decide)
  · exact cta_op (w := [62, 61]) (by decide)
  · exact cta_op (w := [60]) (by decide)
  · exact cta_op (w := [62]) (by decide)
  · exact wd_sp (w := [76, 73, 75, 69]) (by decide) (by decide) (by decide) (by decide)
theorem two_txt {w : List UInt8} (h : w ∈ binOps ∨ w ∈ rels ∨ w = wLike) (x y : E) : (op1 w [x, y]).txt = x.prt ++ ([32] ++ ((w.map upC ++ [32]) ++ y.prt)) := by
  simp only [binOps, rels, List.mem_cons, List.not_mem_nil, or_false] at h
  rcases h with (h | h | h | h | h | h | h | h) | (h | h | h | h | h | h) | h <;> subst h <;> rfl
theorem two_cuts {w : List UInt8} (h : w ∈ binOps ∨ w ∈ rels ∨ w = wLike) {x y : E} (hx : Cuts x) (hy : Cuts y) (ht : (op1 w [x, y]).toks = x.part ++ tk w :: y.part) : Cuts (op1 w [x, y]) := by
  refine cuts_of ?_
  rw [two_txt h, ht]
  exact hx.prt.app (ct_sp ((op_cta h).app hy.prt)) fun r _ => safe_cons (by decide) (by decide)
theorem cuts {x : E} (h : Fine res x) : Cuts x := by
  induction h with
  | lit v hv => exact lit_cuts hv
  | col t n ht hn =>
    refine cuts_of ?_
    rcases ht with rfl | ht
    · exact (hn.2 : Wrd n).ct
    · have e1 : (col t n).txt = t ++ 46 :: n := by
        show (if t = [] then n else t ++ 46 :: n) = _
        rw [if_neg]; rintro rfl; exact absurd ht.2.1 (by decide)
      have e2 : (col t n).toks = [wd t, sg [46], wd n] := by
        show (if t = [] then [wd n] else [wd t, sg [46], wd n]) = _
        rw [if_neg]; rintro rfl; exact absurd ht.2.1 (by decide)
      rw [e1, e2]
      exact (ht.2 : Wrd t).ct.app (cta_dot.app (hn.2 : Wrd n).ct) fun r _ => safe_cons (by decide) (by decide)
  | call n l hn _ ih =>
    refine cuts_of ?_
    show Ct (n ++ brkB (joinB (txtL l))) ([wd n] ++ brk (join [sg [44]] (toksL l)))
    exact (hn.2 : Wrd n).ct.app (brk_ct (join_ct ih)).ct fun r _ => safe_cons (by decide) (by decide)
  | all =>
    refine cuts_of ?_
    have h : Wrd wCount := by unfold Wrd; decide
    show Ct (wCount ++ brkB [42]) ([wd wCount] ++ brk [sg [42]])
    exact h.ct.app (brk_ct cta_star.ct).ct fun r _ => safe_cons (by decide) (by decide)
  | neg x _ ih =>
    refine cuts_of ?_
    show Ct (45 :: brkB x.txt) (sg [45] :: brk x.toks)
    intro r hr
    show cutS (45 :: (brkB x.txt ++ r)) = _
    rw [cutS_minus (by intro e; exact absurd e (by show some (40 : UInt8) ≠ some 45; decide)), (brk_ct ih.txt) r]
    cases cutS r <;> rfl
  | not x _ ih =>
    refine cuts_of ?_
    have h0 : Cta ([78, 79, 84] ++ [32]) [wd wNot] := wd_sp (by decide) (by decide) (by decide) (by decide)
    exact h0.app ih.prt
  | isn x _ ih => exact cuts_of (ih.prt.app is_null fun r _ => safe_cons (by decide) (by decide))
  | nn x _ ih => exact cuts_of (ih.prt.app is_not_null fun r _ => safe_cons (by decide) (by decide))
  | bin w x y hw _ _ ihx ihy => exact two_cuts (.inl hw) ihx ihy (two_toks (.inl hw) x y)
  | rel w x y hw _ _ ihx ihy => exact two_cuts (.inr (.inl hw)) ihx ihy (two_toks (.inr hw) x y)
  | like x y _ _ ihx ihy => exact two_cuts (.inr (.inr rfl)) ihx ihy rfl
  | btw x y z _ _ _ ihx ihy ihz =>
    refine cuts_of ?_
    exact ihx.prt.app (between_cta.app (ihy.prt.app (and_cta.app ihz.prt) fun r _ => safe_cons (by decide) (by decide))) fun r _ => safe_cons (by decide) (by decide)
  | inn x l hl _ _ ihx ihl =>
    refine cuts_of ?_
    exact ihx.prt.app (in_cta.app (brk_ct (join_ct ihl)).ct) fun r _ => safe_cons (by decide) (by decide)
theorem text_back (hk : Keys res) (hc : res wCount = false) {x : E} (h : Fine res x) : ∃ ts f, cutP 0 x.txt = .ok ts ∧ ts.length = x.toks.length + 1 ∧ (∃ q, ts[x.toks.length]? = some ⟨6, [], 0, q⟩) ∧ pLine res f 1 ts = okR x x.toks.length := by
  have e := (cuts h).txt [] safe_nil
  rw [List.append_nil, cutS_nil] at e
  obtain ⟨f, hf⟩ := back hk hc h 0
  unfold cutS at e
  cases hcut : cutP 0 x.txt with
  | error q => rw [hcut] at e; cases e
  | ok ts =>
    rw [hcut] at e
    have e' : strips ts = x.toks ++ [⟨6, [], 0, 0⟩] := by simpa using e
    have hlen : ts.length = x.toks.length + 1 := by have := congrArg List.length e'; simpa [strips] using this
    refine ⟨ts, f, rfl, hlen, ?_, ?_⟩
    · have hg : (strips ts)[x.toks.length]? = some ⟨6, [], 0, 0⟩ := by rw [e']; simp
      unfold strips at hg
      rw [List.getElem?_map] at hg
      cases ht : ts[x.toks.length]? with
      | none => rw [ht] at hg; cases hg
      | some t =>
        rw [ht] at hg
        obtain ⟨k, s, i, p⟩ := t
        simp only [Option.map_some, Option.some.injEq, T.strip, T.mk.injEq] at hg
        obtain ⟨rfl, rfl, rfl, _⟩ := hg
        exact ⟨p, rfl⟩
    · rw [← hf]
      refine line_same ?_ f 1
      rw [e']
      have hs := congrArg strips e'
      have hss : strips (strips ts) = strips ts := by unfold strips; rw [List.map_map]; rfl
      rw [hss] at hs
      rw [← hs, e']
end
end Go.Proofs.YthohfegnphocbaaGreatDoor
namespace Go.Proofs.YthohfegnphocbaaGreatDoor
section
variable {res : List UInt8 → Bool}
end
end Go.Proofs.YthohfegnphocbaaGreatDoor
namespace Go.Proofs.YthohfegnphocbaaGreatDoor
section
variable {res : List UInt8 → Bool}
end
end Go.Proofs.YthohfegnphocbaaGreatDoor
