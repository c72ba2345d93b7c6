/- Plain facts on expressions (no program): what an expression that may be is written with is read as it again. No condition. -/
import Derived.Test.YtcnpoinocnfnjaaGreatDoorQ09
import Derived.Test.YtcnpoinocnfnjaaGreatDoorQ08
namespace Go.Proofs.YtcnpoinocnfnjaaGreatDoor
section
variable {res : List UInt8 → Bool}
theorem all_well (hk : Keys res) (hc : res wCount = false) : Well res (call1 wCount [star]) := by
  have h : NameOk res wCount := ⟨hc, by unfold Wrd; decide⟩
  have et : (call1 wCount [star]).toks = [wd wCount, sg [40], sg [42], sg [41]] := rfl
  refine well_plain rfl ?_ (by rw [et]; exact ph_name hk h _)
  rw [et]
  refine part_of_prim res (fun rest hr => ⟨1, ?_⟩) (fun r => name_isS (h.ne' hk.2.2.2) _) fun r => name_isS (h.ne (by decide)) _
  show pPrim res 1 (wd wCount :: sg [40] :: sg [42] :: sg [41] :: rest) = _
  rw [name_prim hk h]; rfl
theorem bin_line {w : List UInt8} (h : w ∈ binOps) : ∃ k, (k = 1 ∨ k = 2 ∨ k = 5 ∨ k = 6 ∨ k = 7) ∧ w ∈ wordsOf k := by
  simp only [binOps, List.mem_cons, List.not_mem_nil, or_false] at h
  rcases h with rfl | rfl | rfl | rfl | rfl | rfl | rfl | rfl
  · exact ⟨1, by omega, by decide⟩
  · exact ⟨2, by omega, by decide⟩
  · exact ⟨5, by omega, by decide⟩
  · exact ⟨6, by omega, by decide⟩
  · exact ⟨6, by omega, by decide⟩
  · exact ⟨7, by omega, by decide⟩
  · exact ⟨7, by omega, by decide⟩
  · exact ⟨7, by omega, by decide⟩
theorem two_toks {w : List UInt8} (h : w ∈ binOps ∨ w ∈ rels) (x y : E) : (op1 w [x, y]).toks = x.part ++ tk w :: y.part := by
  simp only [binOps, rels, List.mem_cons, List.not_mem_nil, or_false] at h
  rcases h with (h | h | h | h | h | h | h | h) | (h | h | h | h | h | h) <;> subst h <;> rfl
theorem two_plain {w : List UInt8} (h : w ∈ binOps ∨ w ∈ rels) (l : List E) : (op1 w l).plain = false := by
  simp only [binOps, rels, List.mem_cons, List.not_mem_nil, or_false] at h
  rcases h with (h | h | h | h | h | h | h | h) | (h | h | h | h | h | h) <;> subst h <;> rfl
theorem well (hk : Keys res) (hc : res wCount = false) {x : E} (h : Fine res x) : Well res x := by
  induction h with
  | lit v hv => exact lit_well hv
  | col t n ht hn => exact col_well hk ht hn
  | call n l hn _ ih => exact call_well hk hn ih
  | all => exact all_well hk hc
  | neg x _ ih => exact well_not rfl (neg_text ih.text) ⟨sg [45], _, rfl, fun _ => by decide⟩
  | not x _ ih => exact well_not rfl (not_text ih.part) ⟨wd wNot, _, rfl, fun _ => by decide⟩
  | isn x _ ih => exact well_not rfl (isn_text ih.part ih.ph) (ih.ph.app _).th
  | nn x _ ih => exact well_not rfl (nn_text ih.part ih.ph) (ih.ph.app _).th
  | bin w x y hw _ _ ihx ihy =>
    obtain ⟨k, hk', hw'⟩ := bin_line hw
    have e := two_toks (.inl hw) x y
    exact well_not (two_plain (.inl hw) _) (by rw [e]; exact bin_text hk' hw' ihx.part ihy.part ihx.ph) (by rw [e]; exact (ihx.ph.app _).th)
  | rel w x y hw _ _ ihx ihy =>
    have e := two_toks (.inr hw) x y
    exact well_not (two_plain (.inr hw) _) (by rw [e]; exact rel_text hw ihx.part ihy.part ihx.ph) (by rw [e]; exact (ihx.ph.app _).th)
  | like x y _ _ ihx ihy => exact well_not rfl (like_text ihx.part ihy.part ihx.ph) (ihx.ph.app _).th
  | btw x y z _ _ _ ihx ihy ihz => exact well_not rfl (btw_text ihx.part ihy.part ihz.part ihx.ph) (ihx.ph.app _).th
  | inn x l hl _ _ ihx ihl => exact well_not rfl (in_text ihx.part hl (fun y hy => (ihl y hy).text) ihx.ph) (ihx.ph.app _).th
theorem back (hk : Keys res) (hc : res wCount = false) {x : E} (h : Fine res x) (p : Nat) : ∃ f, pLine res f 1 (x.toks ++ [⟨6, [], 0, p⟩]) = okR x x.toks.length :=
  (well hk hc h).text [⟨6, [], 0, p⟩] (show lineOf ⟨6, [], 0, p⟩ < 1 by
    show (if ((6 : Int) == 1 || (6 : Int) == 5) = false then 0 else _) < 1
    rw [if_pos (by decide)]; decide)
end
end Go.Proofs.YtcnpoinocnfnjaaGreatDoor
namespace Go.Proofs.YtcnpoinocnfnjaaGreatDoor
def vTxt (v : Vl) : List UInt8 :=
  if v.k = 0 then [78, 85, 76, 76] else if v.k = 1 then (if v.i = 1 then [84, 82, 85, 69] else [70, 65, 76, 83, 69])
  else if v.k = 2 then (if v.i < 0 then 45 :: Lib.decDigits v.i.natAbs else Lib.decDigits v.i.natAbs)
  else if v.k = 3 then 39 :: (quo v.s ++ [39]) else 120 :: 39 :: (hexS v.s ++ [39])
def brkB (l : List UInt8) : List UInt8 := 40 :: (l ++ [41])
def joinB : List (List UInt8) → List UInt8
  | [] => []
  | [x] => x
  | x :: y :: l => x ++ ([44, 32] ++ joinB (y :: l))
def upC (c : UInt8) : UInt8 := if 97 ≤ c && c ≤ 122 then c - 32 else c
def partB (e : E) (t : List UInt8) : List UInt8 := if e.plain then t else brkB t
def bIs : List UInt8 := [32, 73, 83, 32, 78, 85, 76, 76]
def bIsNot : List UInt8 := [32, 73, 83, 32, 78, 79, 84, 32, 78, 85, 76, 76]
def bBetween : List UInt8 := [32, 66, 69, 84, 87, 69, 69, 78, 32]
def bAnd : List UInt8 := [32, 65, 78, 68, 32]
def bIn : List UInt8 := [32, 73, 78, 32]
def txtOf (o : List UInt8) (v : Vl) (t n : List UInt8) (l : List E) (ts : List (List UInt8)) : List UInt8 :=
  let p := List.zipWith partB l ts
  if o = wLit then vTxt v
  else if o = wCol then (if t = [] then n else t ++ 46 :: n)
  else if o = wCall then n ++ brkB (joinB ts)
  else if o = wStar then [42]
  else if o = wNeg then 45 :: brkB (ts.headD [])
  else if o = wNot then [78, 79, 84, 32] ++ p.headD []
  else if o = wIsnull then p.headD [] ++ bIs
  else if o = wNotnull then p.headD [] ++ bIsNot
  else if o = wBetween then p.headD [] ++ (bBetween ++ ((p.drop 1).headD [] ++ (bAnd ++ (p.drop 2).headD [])))
  else if o = wIn then p.headD [] ++ (bIn ++ brkB (joinB (ts.drop 1)))
  else p.headD [] ++ ([32] ++ ((o.map upC ++ [32]) ++ (p.drop 1).headD []))
mutual
def E.txt : E → List UInt8
  | .mk o v t n l => txtOf o v t n l (txtL l)
def txtL : List E → List (List UInt8)
  | [] => []
  | e :: l => e.txt :: txtL l
end
def E.prt (e : E) : List UInt8 := partB e e.txt
section
variable {res : List UInt8 → Bool}
theorem Wrd.ct {n : List UInt8} (h : Wrd n) : Ct n [wd n] := by have := ct_word h.1 h.2.1 h.2.2.1; rwa [h.2.2.2] at this
theorem safe_sp (m r : List UInt8) : Safe (32 :: m ++ r) := safe_cons (by decide) (by decide)
theorem safe_op (m r : List UInt8) : Safe (40 :: m ++ r) := safe_cons (by decide) (by decide)
theorem safe_cl (m r : List UInt8) : Safe (41 :: m ++ r) := safe_cons (by decide) (by decide)
theorem brk_ct {l : List UInt8} {ts : List T} (h : Ct l ts) : Cta (brkB l) (brk ts) := by
  have := cta_open.appa (h.appa cta_close fun r => safe_cl [] r)
  exact this
theorem wd_sp {w : List UInt8} {s : List UInt8} (h1 : headIs w isLet = true) (h2 : ∀ c ∈ w, isWch c = true) (h3 : w.length ≤ 32) (hs : w.map low = s) : Cta (w ++ [32]) [wd s] := by
  have := (ct_word h1 h2 h3).appa cta_sp fun r => safe_sp [] r
  rw [hs] at this; exact this
structure Cuts (x : E) : Prop where
  txt : Ct x.txt x.toks
  prt : Ct x.prt x.part
theorem cuts_of {x : E} (h : Ct x.txt x.toks) : Cuts x := by
  refine ⟨h, ?_⟩
  unfold E.prt E.part partB partT
  by_cases hp : x.plain = true
  · rw [if_pos hp, if_pos hp]; exact h
  · rw [if_neg hp, if_neg hp]; exact (brk_ct h).ct
theorem join_ct {l : List E} (h : ∀ x ∈ l, Cuts x) : Ct (joinB (txtL l)) (join [sg [44]] (toksL l)) := by
  induction l with
  | nil => exact fun r _ => by show cutS r = (cutS r).map ([] ++ ·); cases cutS r <;> rfl
  | cons x l ih =>
    cases l with
    | nil => exact (h x (by simp)).txt
    | cons y l =>
      have hi := ih fun z hz => h z (List.mem_cons_of_mem _ hz)
      have hc : Cta [44, 32] [sg [44]] := cta_comma.appa cta_sp
      have := (h x (by simp)).txt.app (hc.app hi) fun r _ => safe_cons (by decide) (by decide)
      have e1 : joinB (txtL (x :: y :: l)) = x.txt ++ ([44, 32] ++ joinB (txtL (y :: l))) := by simp [txtL, joinB]
      have e2 : join [sg [44]] (toksL (x :: y :: l)) = x.toks ++ ([sg [44]] ++ join [sg [44]] (toksL (y :: l))) := by simp [toksL, join]
      rw [e1, e2]; exact this
theorem ct_upper {w s : List UInt8} (h1 : headIs w isLet = true) (h2 : ∀ c ∈ w, isWch c = true) (h3 : w.length ≤ 32) (hs : w.map low = s) : Ct w [wd s] := by have := ct_word h1 h2 h3; rwa [hs] at this
theorem lit_cuts {v : Vl} (h : VOk v) : Cuts (lit v) := by
  refine cuts_of ?_
  show Ct (vTxt v) (vToks v)
  rcases h with rfl | rfl | rfl | ⟨h1, h2, h3, h4⟩ | ⟨h1, h2⟩ | ⟨h1, h2⟩
  · exact ct_upper (w := [78, 85, 76, 76]) (by decide) (by decide) (by decide) (by decide)
  · exact ct_upper (w := [84, 82, 85, 69]) (by decide) (by decide) (by decide) (by decide)
  · exact ct_upper (w := [70, 65, 76, 83, 69]) (by decide) (by decide) (by decide) (by decide)
  · obtain ⟨k, i, s⟩ := v
    dsimp only at h1 h2 h3 h4
    subst h1; subst h2
    by_cases hi : i < 0
    · have e1 : vTxt ⟨2, i, []⟩ = 45 :: Lib.decDigits i.natAbs := by unfold vTxt; simp [hi]
      have e2 : vToks ⟨2, i, []⟩ = [sg [45], ⟨2, [], negI i, 0⟩] := by unfold vToks; simp [hi]
      rw [e1, e2]
      intro r hr
      have hn := ct_num (u := i.natAbs) (by omega)
      have hi' : i64Of i.natAbs = negI i := by
        unfold i64Of negI
        by_cases hm : i = -9223372036854775808
        · subst hm; decide
        · rw [if_neg hm, if_pos (by omega)]; omega
      rw [hi'] at hn
      obtain ⟨_, hd, hne⟩ := dec_facts i.natAbs
      have h45 : (Lib.decDigits i.natAbs ++ r).head? ≠ some 45 := by
        generalize Lib.decDigits i.natAbs = d at hd hne
        cases d with
        | nil => exact absurd rfl hne
        | cons c d =>
          intro e
          have : c = 45 := by simpa using e
          subst this; exact absurd (hd 45 (by simp)) (by decide)
      show cutS (45 :: (Lib.decDigits i.natAbs ++ r)) = _
      rw [cutS_minus h45, hn r hr]
      cases cutS r <;> rfl
    · have e1 : vTxt ⟨2, i, []⟩ = Lib.decDigits i.natAbs := by unfold vTxt; simp [hi]
      have e2 : vToks ⟨2, i, []⟩ = [⟨2, [], i, 0⟩] := by unfold vToks; simp [hi]
      rw [e1, e2]
      have hn := ct_num (u := i.natAbs) (by omega)
      have hi' : i64Of i.natAbs = i := by
        unfold i64Of
        rw [if_pos (by omega)]; omega
      rwa [hi'] at hn
  · obtain ⟨k, i, s⟩ := v
    dsimp only at h1 h2
    subst h1; subst h2
    exact ct_text s
  · obtain ⟨k, i, s⟩ := v
    dsimp only at h1 h2
    subst h1; subst h2
    exact ct_blob s
end
end Go.Proofs.YtcnpoinocnfnjaaGreatDoor
namespace Go.Proofs.YtcnpoinocnfnjaaGreatDoor
section
variable {res : List UInt8 → Bool}
theorem ct_sp {l : List UInt8} {ts : List T} (h : Ct l ts) : Ct ([32] ++ l) ts := by have := cta_sp.app h; rwa [List.nil_append] at this
theorem is_null : Ct bIs [wd wIs, wd wNull] := by
  have h1 : Cta ([73, 83] ++ [32]) [wd wIs] := wd_sp (by decide) (by decide) (by decide) (by decide)
  have h2 : Ct [78, 85, 76, 76] [wd wNull] := ct_upper (by decide) (by decide) (by decide) (by decide)
  exact ct_sp (h1.app h2)
theorem is_not_null : Ct bIsNot [wd wIs, wd wNot, wd wNull] := by
  have h1 : Cta ([73, 83] ++ [32]) [wd wIs] := wd_sp (by decide) (by decide) (by decide) (by decide)
  have h0 : Cta ([78, 79, 84] ++ [32]) [wd wNot] := wd_sp (by decide) (by decide) (by decide) (by decide)
  have h2 : Ct [78, 85, 76, 76] [wd wNull] := ct_upper (by decide) (by decide) (by decide) (by decide)
  exact ct_sp (h1.app (h0.app h2))
theorem between_cta : Cta bBetween [wd wBetween] := by
  have h1 : Cta ([66, 69, 84, 87, 69, 69, 78] ++ [32]) [wd wBetween] := wd_sp (by decide) (by decide) (by decide) (by decide)
  exact cta_sp.appa h1
theorem and_cta : Cta bAnd [wd wAnd] := by
  have h1 : Cta ([65, 78, 68] ++ [32]) [wd wAnd] := wd_sp (by decide) (by decide) (by decide) (by decide)
  exact cta_sp.appa h1
theorem in_cta : Cta bIn [wd wIn] := by
  have h1 : Cta ([73, 78] ++ [32]) [wd wIn] := wd_sp (by decide) (by decide) (by decide) (by decide)
  exact cta_sp.appa h1
theorem op_cta {w : List UInt8} (h : w ∈ binOps ∨ w ∈ rels ∨ w = wLike) : Cta (w.map upC ++ [32]) [tk w] := by
  simp only [binOps, rels, List.mem_cons, List.not_mem_nil, or_false] at h
  rcases h with (h | h | h | h | h | h | h | h) | (h | h | h | h | h | h) | h <;> subst h
  · exact wd_sp (w := [79, 82]) (by decide) (by decide) (by decide) (by decide)
  · exact wd_sp (w := [65, 78, 68]) (by decide) (by decide) (by decide) (by decide)
  · exact cta_op (w := [124, 124]) (by decide)
  · exact cta_op (w := [43]) (by decide)
  · exact cta_op (w := [45]) (by decide)
  · exact cta_op (w := [42]) (by decide)
  · exact cta_op (w := [47]) (by decide)
  · exact cta_op (w := [37]) (by decide)
  · exact cta_op (w := [61]) (by decide)
  · exact cta_op (w := [60, 62]) (by decide)
  · exact cta_op (w := [60, 61]) (by decide)
  · exact cta_op (w := [62, 61]) (by decide)
  · exact cta_op (w := [60]) (by decide)
  · exact cta_op (w := [62]) (by decide)
  · exact wd_sp (w := [76, 73, 75, 69]) (by decide) (by decide) (by decide) (by decide)
theorem two_txt {w : List UInt8} (h : w ∈ binOps ∨ w ∈ rels ∨ w = wLike) (x y : E) : (op1 w [x, y]).txt = x.prt ++ ([32] ++ ((w.map upC ++ [32]) ++ y.prt)) := by
  simp only [binOps, rels, List.mem_cons, List.not_mem_nil, or_false] at h
  rcases h with (h | h | h | h | h | h | h | h) | (h | h | h | h | h | h) | h <;> subst h <;> rfl
theorem two_cuts {w : List UInt8} (h : w ∈ binOps ∨ w ∈ rels ∨ w = wLike) {x y : E} (hx : Cuts x) (hy : Cuts y) (ht : (op1 w [x, y]).toks = x.part ++ tk w :: y.part) : Cuts (op1 w [x, y]) := by
  refine cuts_of ?_
  rw [two_txt h, ht]
  exact hx.prt.app (ct_sp ((op_cta h).app hy.prt)) fun r _ => safe_cons (by decide) (by decide)
theorem cuts {x : E} (h : Fine res x) : Cuts x := by
  induction h with
  | lit v hv => exact lit_cuts hv
  | col t n ht hn =>
    refine cuts_of ?_
    rcases ht with rfl | ht
    · exact (hn.2 : Wrd n).ct
    · have e1 : (col t n).txt = t ++ 46 :: n := by
        show (if t = [] then n else t ++ 46 :: n) = _
        rw [if_neg]; rintro rfl; exact absurd ht.2.1 (by decide)
      have e2 : (col t n).toks = [wd t, sg [46], wd n] := by
        show (if t = [] then [wd n] else [wd t, sg [46], wd n]) = _
        rw [if_neg]; rintro rfl; exact absurd ht.2.1 (by decide)
      rw [e1, e2]
      exact (ht.2 : Wrd t).ct.app (cta_dot.app (hn.2 : Wrd n).ct) fun r _ => safe_cons (by decide) (by decide)
  | call n l hn _ ih =>
    refine cuts_of ?_
    show Ct (n ++ brkB (joinB (txtL l))) ([wd n] ++ brk (join [sg [44]] (toksL l)))
    exact (hn.2 : Wrd n).ct.app (brk_ct (join_ct ih)).ct fun r _ => safe_cons (by decide) (by decide)
  | all =>
    refine cuts_of ?_
    have h : Wrd wCount := by unfold Wrd; decide
    show Ct (wCount ++ brkB [42]) ([wd wCount] ++ brk [sg [42]])
    exact h.ct.app (brk_ct cta_star.ct).ct fun r _ => safe_cons (by decide) (by decide)
  | neg x _ ih =>
    refine cuts_of ?_
    show Ct (45 :: brkB x.txt) (sg [45] :: brk x.toks)
    intro r hr
    show cutS (45 :: (brkB x.txt ++ r)) = _
    rw [cutS_minus (by intro e; exact absurd e (by show some (40 : UInt8) ≠ some 45; decide)), (brk_ct ih.txt) r]
    cases cutS r <;> rfl
  | not x _ ih =>
    refine cuts_of ?_
    have h0 : Cta ([78, 79, 84] ++ [32]) [wd wNot] := wd_sp (by decide) (by decide) (by decide) (by decide)
    exact h0.app ih.prt
  | isn x _ ih => exact cuts_of (ih.prt.app is_null fun r _ => safe_cons (by decide) (by decide))
  | nn x _ ih => exact cuts_of (ih.prt.app is_not_null fun r _ => safe_cons (by decide) (by decide))
  | bin w x y hw _ _ ihx ihy => exact two_cuts (.inl hw) ihx ihy (two_toks (.inl hw) x y)
  | rel w x y hw _ _ ihx ihy => exact two_cuts (.inr (.inl hw)) ihx ihy (two_toks (.inr hw) x y)
  | like x y _ _ ihx ihy => exact two_cuts (.inr (.inr rfl)) ihx ihy rfl
  | btw x y z _ _ _ ihx ihy ihz =>
    refine cuts_of ?_
    exact ihx.prt.app (between_cta.app (ihy.prt.app (and_cta.app ihz.prt) fun r _ => safe_cons (by decide) (by decide))) fun r _ => safe_cons (by decide) (by decide)
  | inn x l hl _ _ ihx ihl =>
    refine cuts_of ?_
    exact ihx.prt.app (in_cta.app (brk_ct (join_ct ihl)).ct) fun r _ => safe_cons (by decide) (by decide)
theorem text_back (hk : Keys res) (hc : res wCount = false) {x : E} (h : Fine res x) : ∃ ts f, cutP 0 x.txt = .ok ts ∧ ts.length = x.toks.length + 1 ∧ (∃ q, ts[x.toks.length]? = some ⟨6, [], 0, q⟩) ∧ pLine res f 1 ts = okR x x.toks.length := by
  have e := (cuts h).txt [] safe_nil
  rw [List.append_nil, cutS_nil] at e
  obtain ⟨f, hf⟩ := back hk hc h 0
  unfold cutS at e
  cases hcut : cutP 0 x.txt with
  | error q => rw [hcut] at e; cases e
  | ok ts =>
    rw [hcut] at e
    have e' : strips ts = x.toks ++ [⟨6, [], 0, 0⟩] := by simpa using e
    have hlen : ts.length = x.toks.length + 1 := by have := congrArg List.length e'; simpa [strips] using this
    refine ⟨ts, f, rfl, hlen, ?_, ?_⟩
    · have hg : (strips ts)[x.toks.length]? = some ⟨6, [], 0, 0⟩ := by rw [e']; simp
      unfold strips at hg
      rw [List.getElem?_map] at hg
      cases ht : ts[x.toks.length]? with
      | none => rw [ht] at hg; cases hg
      | some t =>
        rw [ht] at hg
        obtain ⟨k, s, i, p⟩ := t
        simp only [Option.map_some, Option.some.injEq, T.strip, T.mk.injEq] at hg
        obtain ⟨rfl, rfl, rfl, _⟩ := hg
        exact ⟨p, rfl⟩
    · rw [← hf]
      refine line_same ?_ f 1
      rw [e']
      have hs := congrArg strips e'
      have hss : strips (strips ts) = strips ts := by unfold strips; rw [List.map_map]; rfl
      rw [hss] at hs
      rw [← hs, e']
end
end Go.Proofs.YtcnpoinocnfnjaaGreatDoor
namespace Go.Proofs.YtcnpoinocnfnjaaGreatDoor
def Halt (r : List T) : Prop := lineOf (here r) < 1 ∧ isS [44] r = false
theorem here_app {l : List T} (h : l ≠ []) (r : List T) : here (l ++ r) = here l := by
  cases l with
  | nil => exact absurd rfl h
  | cons t l => rfl
theorem isS_app {l : List T} (h : l ≠ []) (s : List UInt8) (r : List T) : isS s (l ++ r) = isS s l := by unfold isS; rw [here_app h]
theorem isNm_app {l : List T} (h : l ≠ []) (res : List UInt8 → Bool) (r : List T) : isNm res (l ++ r) = isNm res l := by unfold isNm; rw [here_app h]
theorem drop_in {l r : List T} {m : Nat} (h : m ≤ l.length) : (l ++ r).drop m = l.drop m ++ r := List.drop_append_of_le_length h
def Loc {α : Type} (p : List T → R α) (q : List T → R α) (l r r' : List T) : Prop := ∀ a m, p (l ++ r) = okR a m → m ≤ l.length → q (l ++ r') = okR a m
theorem seq_inv {α β : Type} {r : R α} {k : α → Nat → R β} {b : β} {q : Nat} (h : seqR r k = okR b q) : ∃ a m j, r = okR a m ∧ k a m = okR b j ∧ q = m + j := by
  rcases r with - | (p | ⟨a, m⟩)
  · cases h
  · cases h
  · simp only [seqR] at h
    cases hk : k a m with
    | none => rw [hk] at h; cases h
    | some x =>
      rcases x with p | ⟨c, j⟩
      · rw [hk] at h; cases h
      · rw [hk] at h; cases h; exact ⟨a, m, j, rfl, hk, rfl⟩
section
variable {res : List UInt8 → Bool}
structure Local (f : Nat) (r r' : List T) : Prop where
  line : ∀ n l a m, 1 ≤ n → pLine res f n (l ++ r) = okR a m → m ≤ l.length → pLine res f n (l ++ r') = okR a m
  more : ∀ n x l a m, 1 ≤ n → pMore res f n x (l ++ r) = okR a m → m ≤ l.length → pMore res f n x (l ++ r') = okR a m
  rel : ∀ x l a m, pRel res f x (l ++ r) = okR a m → m ≤ l.length → pRel res f x (l ++ r') = okR a m
  three : ∀ x l y a m, pThree res f x (l ++ r) = some y → y = okR a m → m ≤ l.length → pThree res f x (l ++ r') = some (okR a m)
  three0 : ∀ x l, pThree res f x (l ++ r) = none → pThree res f x (l ++ r') = none
  list : ∀ l a m, pList res f (l ++ r) = okR a m → m ≤ l.length → pList res f (l ++ r') = okR a m
  prim : ∀ l a m, pPrim res f (l ++ r) = okR a m → m ≤ l.length → pPrim res f (l ++ r') = okR a m
theorem no_look {l r r' : List T} {s : List UInt8} (h : isS s (l ++ r) = false) (hs : isS s r' = false) : isS s (l ++ r') = false := by
  by_cases hl : l = []
  · subst hl; exact hs
  · rw [isS_app hl] at h ⊢; exact h
theorem look {l r r' : List T} {s : List UInt8} (h : isS s (l ++ r) = true) (hl : 1 ≤ l.length) : isS s (l ++ r') = true := by
  have hl : l ≠ [] := by rintro rfl; simp at hl
  rw [isS_app hl] at h ⊢; exact h
theorem need_inv {s : List UInt8} {l : List T} {u : Unit} {m : Nat} (h : needR s l = okR u m) : isS s l = true ∧ m = 1 := by
  unfold needR at h; split at h
  · rename_i h'; cases h; exact ⟨h', rfl⟩
  · cases h
theorem name_inv {l : List T} {n : List UInt8} {m : Nat} (h : nameR res l = okR n m) : isNm res l = true ∧ m = 1 ∧ n = (here l).s := by
  unfold nameR at h; split at h
  · rename_i h'; cases h; exact ⟨h', rfl, rfl⟩
  · cases h
theorem ok_inj {α : Type} {a b : α} {m j : Nat} (h : okR a m = okR b j) : a = b ∧ m = j := by cases h; exact ⟨rfl, rfl⟩
theorem one_inv {β : Type} {k : Unit → Nat → R β} {b : β} {q : Nat} (h : seqR (okR () 1) k = okR b q) : ∃ j, k () 1 = okR b j ∧ q = 1 + j := by
  obtain ⟨a, m, j, h1, h2, h3⟩ := seq_inv h
  cases h1; exact ⟨j, h2, h3⟩
theorem fit_ln {f n : Nat} {l : List T} {a : E} {m : Nat} (h : pLine res f n l = okR a m) : 1 ≤ m := (fit_line res h).1
theorem fit_ls {f : Nat} {l : List T} {a : List E} {m : Nat} (h : pList res f l = okR a m) : 1 ≤ m := (fit_list res h).1
theorem halt_op {n : Nat} {l r r' : List T} (hr : Halt r') (hn : 1 ≤ n) (h : opAt n (l ++ r) = none) : opAt n (l ++ r') = none := by
  by_cases hl : l = []
  · subst hl; exact opAt_none (by have := hr.1; show lineOf (here r') < n; omega)
  · unfold opAt at h ⊢; simp only [isS_app hl] at h ⊢; exact h
theorem halt_op' {n : Nat} {l r r' : List T} {w : List UInt8} (hl : 1 ≤ l.length) (h : opAt n (l ++ r) = some w) : opAt n (l ++ r') = some w := by
  have hl : l ≠ [] := by rintro rfl; simp at hl
  unfold opAt at h ⊢; simp only [isS_app hl] at h ⊢; exact h
theorem halt_rel {l r r' : List T} (hr : Halt r') (h : relAt (l ++ r) = none) : relAt (l ++ r') = none := by
  by_cases hl : l = []
  · subst hl; exact relAt_none (by have := hr.1; show lineOf (here r') < 4; omega)
  · unfold relAt at h ⊢; simp only [isS_app hl] at h ⊢; exact h
theorem halt_rel' {l r r' : List T} {w : List UInt8} (hl : 1 ≤ l.length) (h : relAt (l ++ r) = some w) : relAt (l ++ r') = some w := by
  have hl : l ≠ [] := by rintro rfl; simp at hl
  unfold relAt at h ⊢; simp only [isS_app hl] at h ⊢; exact h
theorem local_line {f : Nat} {r r' : List T} (ih : Local (res := res) f r r') (n : Nat) (l : List T) (a : E) (m : Nat) (hn : 1 ≤ n) (e : pLine res (f + 1) n (l ++ r) = okR a m) (hm : m ≤ l.length) : pLine res (f + 1) n (l ++ r') = okR a m := by
  have hl1 : 1 ≤ l.length := by have := fit_ln e; omega
  have hlne : l ≠ [] := by rintro rfl; simp at hl1
  by_cases h3 : n = 3
  · subst h3; rw [pLine] at e ⊢
    rw [isS_app hlne] at e ⊢
    split at e
    · rename_i h
      rw [if_pos h]
      obtain ⟨j, e1, rfl⟩ := one_inv e
      obtain ⟨x, m1, j1, e2, e3, rfl⟩ := seq_inv e1
      obtain ⟨rfl, rfl⟩ := ok_inj e3
      rw [drop_in hl1] at e2 ⊢
      rw [ih.line 3 _ _ _ (by omega) e2 (by rw [List.length_drop]; omega)]
      exact seq_ok (seq_ok rfl)
    · rename_i h
      rw [if_neg h]; exact ih.line 4 _ _ _ (by omega) e hm
  by_cases h4 : n = 4
  · subst h4; rw [pLine] at e ⊢
    obtain ⟨x, m1, j1, e2, e3, rfl⟩ := seq_inv e
    rw [ih.line 5 _ _ _ (by omega) e2 (by omega)]
    rw [drop_in (by omega)] at e3
    refine seq_ok ?_
    rw [drop_in (by omega)]
    exact ih.rel _ _ _ _ e3 (by rw [List.length_drop]; omega)
  by_cases h8 : n = 8
  · subst h8; rw [pLine] at e ⊢
    rw [isS_app hlne] at e ⊢
    split at e
    · rename_i h
      rw [if_pos h]
      obtain ⟨j, e1, rfl⟩ := one_inv e
      rw [drop_in hl1] at e1 ⊢
      have hd : l.drop 1 ≠ [] := by
        intro hd
        split at e1
        · obtain ⟨_, rfl⟩ := ok_inj e1
          have := congrArg List.length hd
          rw [List.length_drop] at this
          simp at this; omega
        · obtain ⟨x, m1, j1, e2, e3, rfl⟩ := seq_inv e1
          have := fit_ln e2
          have h' := congrArg List.length hd
          rw [List.length_drop] at h'
          simp at h'; omega
      rw [here_app hd] at e1 ⊢
      refine seq_ok ?_
      split at e1
      · rename_i h'; rw [if_pos h']; exact e1
      · rename_i h'; rw [if_neg h']
        obtain ⟨x, m1, j1, e2, e3, rfl⟩ := seq_inv e1
        rw [ih.line 8 _ _ _ (by omega) e2 (by rw [List.length_drop]; omega)]
        exact seq_ok e3
    · rename_i h
      rw [if_neg h]; exact ih.line 9 _ _ _ (by omega) e hm
  by_cases h9 : n = 9
  · subst h9; rw [pLine] at e ⊢
    exact ih.prim _ _ _ e hm
  rw [pLine.eq_6 res n _ f h3 h4 h8 h9] at e ⊢
  obtain ⟨x, m1, j1, e2, e3, rfl⟩ := seq_inv e
  rw [ih.line (n + 1) _ _ _ (by omega) e2 (by omega)]
  rw [drop_in (by omega)] at e3
  refine seq_ok ?_
  rw [drop_in (by omega)]
  exact ih.more _ _ _ _ _ hn e3 (by rw [List.length_drop]; omega)
theorem local_more {f : Nat} {r r' : List T} (hr : Halt r') (ih : Local (res := res) f r r') (n : Nat) (x : E) (l : List T) (a : E) (m : Nat) (hn : 1 ≤ n) (e : pMore res (f + 1) n x (l ++ r) = okR a m) (hm : m ≤ l.length) : pMore res (f + 1) n x (l ++ r') = okR a m := by
  rw [pMore] at e ⊢
  cases ho : opAt n (l ++ r) with
  | none => rw [ho] at e; rw [halt_op hr hn ho]; exact e
  | some w =>
    rw [ho] at e
    obtain ⟨j, e1, rfl⟩ := one_inv e
    obtain ⟨y, m1, j1, e2, e3, rfl⟩ := seq_inv e1
    rw [halt_op' (r' := r') (by omega) ho]
    rw [drop_in (by omega)] at e2 e3
    refine seq_ok ?_
    rw [drop_in (by omega), ih.line _ _ _ _ (by omega) e2 (by rw [List.length_drop]; omega)]
    refine seq_ok ?_
    rw [drop_in (by omega)]
    exact ih.more _ _ _ _ _ hn e3 (by rw [List.length_drop]; omega)
theorem local_list {f : Nat} {r r' : List T} (hr : Halt r') (ih : Local (res := res) f r r') (l : List T) (a : List E) (m : Nat) (e : pList res (f + 1) (l ++ r) = okR a m) (hm : m ≤ l.length) : pList res (f + 1) (l ++ r') = okR a m := by
  rw [pList] at e ⊢
  obtain ⟨x, m1, j1, e2, e3, rfl⟩ := seq_inv e
  rw [ih.line _ _ _ _ (by omega) e2 (by omega)]
  refine seq_ok ?_
  split at e3
  · rename_i h
    obtain ⟨j, e4, rfl⟩ := one_inv e3
    rw [drop_in (by omega)] at h ⊢
    rw [if_pos (look h (by rw [List.length_drop]; omega))]
    refine seq_ok ?_
    obtain ⟨ys, m2, j2, e5, e6, rfl⟩ := seq_inv e4
    rw [drop_in (by omega)] at e5 ⊢
    rw [ih.list _ _ _ e5 (by rw [List.length_drop]; omega)]
    exact seq_ok e6
  · rename_i h
    rw [Bool.not_eq_true, drop_in (by omega)] at h
    rw [drop_in (by omega), if_neg (by rw [no_look h hr.2]; decide)]
    exact e3
theorem halt4 {l r r' : List T} {s : List UInt8} (hr : Halt r') (hs : s ∈ rels ∨ s = wIs ∨ s = wNot ∨ s = wLike ∨ s = wIn ∨ s = wBetween) (h : isS s (l ++ r) = false) : isS s (l ++ r') = false :=
  no_look h (no4 (by have := hr.1; omega) s hs)
theorem local_three0 {f : Nat} {r r' : List T} (hr : Halt r') (x : E) (l : List T) (h : pThree res (f + 1) x (l ++ r) = none) : pThree res (f + 1) x (l ++ r') = none := by
  rw [pThree] at h ⊢
  by_cases c1 : isS wLike (l ++ r) = true
  · rw [if_pos c1] at h; cases h
  by_cases c2 : isS wIn (l ++ r) = true
  · rw [if_neg c1, if_pos c2] at h; cases h
  by_cases c3 : isS wBetween (l ++ r) = true
  · rw [if_neg c1, if_neg c2, if_pos c3] at h; cases h
  rw [Bool.not_eq_true] at c1 c2 c3
  rw [if_neg (by rw [halt4 hr (by decide) c1]; decide), if_neg (by rw [halt4 hr (by decide) c2]; decide), if_neg (by rw [halt4 hr (by decide) c3]; decide)]
theorem local_three {f : Nat} {r r' : List T} (hr : Halt r') (ih : Local (res := res) f r r') (x : E) (l : List T) (y : R E) (a : E) (m : Nat) (h : pThree res (f + 1) x (l ++ r) = some y) (e : y = okR a m) (hm : m ≤ l.length) : pThree res (f + 1) x (l ++ r') = some (okR a m) := by
  subst e
  rw [pThree] at h ⊢
  by_cases c1 : isS wLike (l ++ r) = true
  · rw [if_pos c1, Option.some.injEq] at h
    obtain ⟨j, e1, rfl⟩ := one_inv h
    rw [if_pos (look c1 (by omega))]
    obtain ⟨b, m1, j1, e2, e3, rfl⟩ := seq_inv e1
    obtain ⟨rfl, rfl⟩ := ok_inj e3
    rw [drop_in (by omega)] at e2
    rw [drop_in (by omega), ih.line _ _ _ _ (by omega) e2 (by rw [List.length_drop]; omega)]
    exact congrArg some (seq_ok (seq_ok rfl))
  by_cases c2 : isS wIn (l ++ r) = true
  · rw [if_neg c1, if_pos c2, Option.some.injEq] at h
    obtain ⟨j, e1, rfl⟩ := one_inv h
    rw [Bool.not_eq_true] at c1
    rw [if_neg (by rw [halt4 hr (by decide) c1]; decide), if_pos (look c2 (by omega))]
    obtain ⟨u, m1, j1, e2, e3, rfl⟩ := seq_inv e1
    obtain ⟨h2, rfl⟩ := need_inv e2
    obtain ⟨xs, m3, j3, e4, e5, rfl⟩ := seq_inv e3
    have := fit_ls e4
    obtain ⟨u', m5, j5, e6, e7, rfl⟩ := seq_inv e5
    obtain ⟨h6, rfl⟩ := need_inv e6
    obtain ⟨rfl, rfl⟩ := ok_inj e7
    rw [drop_in (by omega)] at h2 e4 h6
    refine congrArg some (seq_ok ?_)
    have n1 : needR [40] ((l ++ r').drop 1) = okR () 1 := by
      unfold needR; rw [drop_in (by omega), if_pos (look h2 (by rw [List.length_drop]; omega))]
    have n2 : needR [41] ((l ++ r').drop (2 + m3)) = okR () 1 := by
      unfold needR; rw [drop_in (by omega), if_pos (look h6 (by rw [List.length_drop]; omega))]
    rw [n1]
    refine seq_ok ?_
    rw [drop_in (by omega), ih.list _ _ _ e4 (by rw [List.length_drop]; omega)]
    refine seq_ok ?_
    rw [n2]
    exact seq_ok rfl
  by_cases c3 : isS wBetween (l ++ r) = true
  · rw [if_neg c1, if_neg c2, if_pos c3, Option.some.injEq] at h
    obtain ⟨j, e1, rfl⟩ := one_inv h
    rw [Bool.not_eq_true] at c1 c2
    rw [if_neg (by rw [halt4 hr (by decide) c1]; decide), if_neg (by rw [halt4 hr (by decide) c2]; decide), if_pos (look c3 (by omega))]
    obtain ⟨b, m1, j1, e2, e3, rfl⟩ := seq_inv e1
    obtain ⟨u, m3, j3, e4, e5, rfl⟩ := seq_inv e3
    obtain ⟨h4, rfl⟩ := need_inv e4
    obtain ⟨c, m5, j5, e6, e7, rfl⟩ := seq_inv e5
    obtain ⟨rfl, rfl⟩ := ok_inj e7
    have := fit_ln e6
    rw [drop_in (by omega)] at e2 h4 e6
    refine congrArg some (seq_ok ?_)
    have n1 : needR wAnd ((l ++ r').drop (1 + m1)) = okR () 1 := by
      unfold needR; rw [drop_in (by omega), if_pos (look h4 (by rw [List.length_drop]; omega))]
    have q1 := ih.line _ _ _ _ (by omega) e2 (by rw [List.length_drop]; omega)
    have q2 := ih.line _ _ _ _ (by omega) e6 (by rw [List.length_drop]; omega)
    rw [← drop_in (by omega)] at q1 q2
    rw [q1]
    refine seq_ok ?_
    rw [n1]
    refine seq_ok ?_
    rw [q2]
    exact seq_ok rfl
  rw [if_neg c1, if_neg c2, if_neg c3] at h; cases h
theorem local_rel {f : Nat} {r r' : List T} (hr : Halt r') (ih : Local (res := res) f r r') (x : E) (l : List T) (a : E) (m : Nat) (e : pRel res (f + 1) x (l ++ r) = okR a m) (hm : m ≤ l.length) : pRel res (f + 1) x (l ++ r') = okR a m := by
  rw [pRel] at e ⊢
  cases ho : relAt (l ++ r) with
  | some w =>
    rw [ho] at e
    obtain ⟨j, e1, rfl⟩ := one_inv e
    rw [halt_rel' (r' := r') (by omega) ho]
    obtain ⟨b, m1, j1, e2, e3, rfl⟩ := seq_inv e1
    obtain ⟨rfl, rfl⟩ := ok_inj e3
    rw [drop_in (by omega)] at e2
    have q := ih.line _ _ _ _ (by omega) e2 (by rw [List.length_drop]; omega)
    rw [← drop_in (by omega)] at q
    refine seq_ok ?_
    rw [q]
    exact seq_ok rfl
  | none =>
    rw [ho] at e
    rw [halt_rel hr ho]
    dsimp only at e ⊢
    by_cases c1 : isS wIs (l ++ r) = true
    · rw [if_pos c1] at e
      obtain ⟨j, e1, rfl⟩ := one_inv e
      rw [if_pos (look c1 (by omega))]
      refine seq_ok ?_
      by_cases c2 : isS wNot ((l ++ r).drop 1) = true
      · rw [if_pos c2] at e1
        obtain ⟨j1, e2, rfl⟩ := one_inv e1
        obtain ⟨u, m3, j3, e4, e5, rfl⟩ := seq_inv e2
        obtain ⟨h4, rfl⟩ := need_inv e4
        obtain ⟨rfl, rfl⟩ := ok_inj e5
        rw [drop_in (by omega)] at c2 h4
        have q1 : isS wNot ((l ++ r').drop 1) = true := by rw [drop_in (by omega)]; exact look c2 (by rw [List.length_drop]; omega)
        have q2 : needR wNull ((l ++ r').drop 2) = okR () 1 := by
          unfold needR; rw [drop_in (by omega), if_pos (look h4 (by rw [List.length_drop]; omega))]
        rw [if_pos q1, q2]
        exact seq_ok (seq_ok rfl)
      · rw [if_neg c2] at e1
        obtain ⟨u, m3, j3, e4, e5, rfl⟩ := seq_inv e1
        obtain ⟨h4, rfl⟩ := need_inv e4
        obtain ⟨rfl, rfl⟩ := ok_inj e5
        rw [Bool.not_eq_true, drop_in (by omega)] at c2
        rw [drop_in (by omega)] at h4
        have q1 : isS wNot ((l ++ r').drop 1) = false := by rw [drop_in (by omega)]; exact halt4 hr (by decide) c2
        have q2 : needR wNull ((l ++ r').drop 1) = okR () 1 := by
          unfold needR; rw [drop_in (by omega), if_pos (look h4 (by rw [List.length_drop]; omega))]
        rw [if_neg (by rw [q1]; decide), q2]
        exact seq_ok rfl
    · rw [if_neg c1] at e
      rw [Bool.not_eq_true] at c1
      rw [if_neg (by rw [halt4 hr (by decide) c1]; decide)]
      by_cases c2 : isS wNot (l ++ r) = true
      · rw [if_pos c2] at e
        obtain ⟨j, e1, rfl⟩ := one_inv e
        rw [if_pos (look c2 (by omega))]
        refine seq_ok ?_
        rw [drop_in (by omega)] at e1 ⊢
        cases h3 : pThree res f x (l.drop 1 ++ r) with
        | none => rw [h3] at e1; cases e1
        | some y =>
          rw [h3] at e1
          obtain ⟨b, m1, j1, e2, e3, rfl⟩ := seq_inv e1
          obtain ⟨rfl, rfl⟩ := ok_inj e3
          rw [ih.three _ _ _ _ _ h3 e2 (by rw [List.length_drop]; omega)]
          exact seq_ok rfl
      · rw [if_neg c2] at e
        rw [Bool.not_eq_true] at c2
        rw [if_neg (by rw [halt4 hr (by decide) c2]; decide)]
        cases h3 : pThree res f x (l ++ r) with
        | none => rw [h3] at e; rw [ih.three0 _ _ h3]; exact e
        | some y => rw [h3] at e; rw [ih.three _ _ _ _ _ h3 e hm]
theorem halt9 {l r r' : List T} {s : List UInt8} (hr : Halt r') (hs : s = [46] ∨ s = [40]) (h : isS s (l ++ r) = false) : isS s (l ++ r') = false := by
  refine no_look h (isS_ne (n := 9) (by have := hr.1; omega) fun t hk e => ?_)
  rcases hs with rfl | rfl <;> simp only [lineOf, hk, e] <;> decide
theorem prim_pos {f : Nat} {l : List T} {a : E} {m : Nat} (h : pPrim res f l = okR a m) : 1 ≤ m := by have := (fits res f).2.2.2.2.2 l; rw [h] at this; exact this.1
theorem local_prim {f : Nat} {r r' : List T} (hr : Halt r') (ih : Local (res := res) f r r') (l : List T) (a : E) (m : Nat) (e : pPrim res (f + 1) (l ++ r) = okR a m) (hm : m ≤ l.length) : pPrim res (f + 1) (l ++ r') = okR a m := by
  have hl1 : 1 ≤ l.length := by have := prim_pos e; omega
  have hlne : l ≠ [] := by rintro rfl; simp at hl1
  rw [pPrim] at e ⊢
  rw [here_app hlne, isS_app hlne wNull, isS_app hlne wTrue, isS_app hlne wFalse, isS_app hlne [40]] at e ⊢
  refine (fun h => ?_) e
  by_cases c0 : ((here l).k == 2 && decide (0 ≤ (here l).i)) = true
  · rw [if_pos c0] at h ⊢; exact h
  rw [if_neg c0] at h ⊢
  by_cases c1 : ((here l).k == 3) = true
  · rw [if_pos c1] at h ⊢; exact h
  rw [if_neg c1] at h ⊢
  by_cases c2 : ((here l).k == 4) = true
  · rw [if_pos c2] at h ⊢; exact h
  rw [if_neg c2] at h ⊢
  by_cases c3 : isS wNull l = true
  · rw [if_pos c3] at h ⊢; exact h
  rw [if_neg c3] at h ⊢
  by_cases c4 : isS wTrue l = true
  · rw [if_pos c4] at h ⊢; exact h
  rw [if_neg c4] at h ⊢
  by_cases c5 : isS wFalse l = true
  · rw [if_pos c5] at h ⊢; exact h
  rw [if_neg c5] at h ⊢
  by_cases c6 : isS [40] l = true
  · rw [if_pos c6] at h ⊢
    obtain ⟨j, e1, rfl⟩ := one_inv h
    obtain ⟨b, m1, j1, e2, e3, rfl⟩ := seq_inv e1
    obtain ⟨u, m3, j3, e4, e5, rfl⟩ := seq_inv e3
    obtain ⟨h4, rfl⟩ := need_inv e4
    obtain ⟨rfl, rfl⟩ := ok_inj e5
    rw [drop_in (by omega)] at e2 h4
    have q1 := ih.line _ _ _ _ (by omega) e2 (by rw [List.length_drop]; omega)
    rw [← drop_in (by omega)] at q1
    have q2 : needR [41] ((l ++ r').drop (1 + m1)) = okR () 1 := by
      unfold needR; rw [drop_in (by omega), if_pos (look h4 (by rw [List.length_drop]; omega))]
    rw [q1]
    refine seq_ok (seq_ok ?_)
    rw [q2]
    exact seq_ok rfl
  rw [if_neg c6] at h ⊢
  obtain ⟨n, m0, j0, e0, e1, rfl⟩ := seq_inv h
  obtain ⟨hn, rfl, rfl⟩ := name_inv e0
  have q0 : nameR res (l ++ r') = okR (here l).s 1 := by
    unfold nameR; rw [isNm_app hlne] at hn ⊢; rw [if_pos hn, here_app hlne]
  rw [q0]
  refine seq_ok ?_
  rw [here_app hlne] at e1
  by_cases d1 : isS [46] ((l ++ r).drop 1) = true
  · rw [if_pos d1] at e1
    obtain ⟨j, e2, rfl⟩ := one_inv e1
    obtain ⟨n, m1, j1, e3, e4, rfl⟩ := seq_inv e2
    obtain ⟨h5, rfl, rfl⟩ := name_inv e3
    obtain ⟨rfl, rfl⟩ := ok_inj e4
    rw [drop_in (by omega)] at d1 h5
    have hd : l.drop 2 ≠ [] := by intro hd; have := congrArg List.length hd; rw [List.length_drop] at this; simp at this; omega
    have q1 : isS [46] ((l ++ r').drop 1) = true := by rw [drop_in (by omega)]; exact look d1 (by rw [List.length_drop]; omega)
    have q2 : nameR res ((l ++ r').drop 2) = okR (here ((l ++ r).drop 2)).s 1 := by
      unfold nameR; rw [isNm_app hd] at h5
      rw [drop_in (by omega), isNm_app hd, if_pos h5, here_app hd, drop_in (by omega), here_app hd]
    rw [if_pos q1, q2]
    exact seq_ok (seq_ok rfl)
  rw [if_neg d1] at e1
  rw [Bool.not_eq_true, drop_in (by omega)] at d1
  have q1 : isS [46] ((l ++ r').drop 1) = false := by rw [drop_in (by omega)]; exact halt9 hr (.inl rfl) d1
  rw [if_neg (by rw [q1]; decide)]
  by_cases d2 : isS [40] ((l ++ r).drop 1) = true
  · rw [if_pos d2] at e1
    obtain ⟨j, e2, rfl⟩ := one_inv e1
    rw [drop_in (by omega)] at d2
    have q2 : isS [40] ((l ++ r').drop 1) = true := by rw [drop_in (by omega)]; exact look d2 (by
      rw [List.length_drop]
      split at e2
      · obtain ⟨_, rfl⟩ := ok_inj e2; omega
      · split at e2
        · obtain ⟨j, e3, rfl⟩ := one_inv e2; omega
        · obtain ⟨xs, m1, j1, e3, e4, rfl⟩ := seq_inv e2
          have := fit_ls e3; omega)
    rw [if_pos q2]
    refine seq_ok ?_
    have hd : l.drop 2 ≠ [] := by
      intro hd
      have hd' := congrArg List.length hd
      rw [List.length_drop] at hd'
      simp only [List.length_nil] at hd'
      split at e2
      · obtain ⟨_, rfl⟩ := ok_inj e2; omega
      · split at e2
        · obtain ⟨j, e3, rfl⟩ := one_inv e2; omega
        · obtain ⟨xs, m1, j1, e3, e4, rfl⟩ := seq_inv e2
          have := fit_ls e3; omega
    have hd2 : 2 ≤ l.length := by
      cases l with
      | nil => exact absurd rfl hlne
      | cons t l => cases l with
        | nil => exact absurd rfl hd
        | cons u l => simp
    have qa : ∀ s, isS s ((l ++ r').drop 2) = isS s ((l ++ r).drop 2) := fun s => by rw [drop_in hd2, drop_in hd2, isS_app hd, isS_app hd]
    rw [qa, qa]
    by_cases d3 : isS [41] ((l ++ r).drop 2) = true
    · rw [if_pos d3] at e2 ⊢; exact e2
    rw [if_neg d3] at e2 ⊢
    by_cases d4 : ((here l).s == wCount && isS [42] ((l ++ r).drop 2)) = true
    · rw [if_pos d4] at e2 ⊢
      obtain ⟨j, e3, rfl⟩ := one_inv e2
      obtain ⟨u, m3, j3, e4, e5, rfl⟩ := seq_inv e3
      obtain ⟨h4, rfl⟩ := need_inv e4
      obtain ⟨rfl, rfl⟩ := ok_inj e5
      rw [drop_in (by omega)] at h4
      have q3 : needR [41] ((l ++ r').drop 3) = okR () 1 := by
        unfold needR; rw [drop_in (by omega), if_pos (look h4 (by rw [List.length_drop]; omega))]
      rw [q3]
      exact seq_ok (seq_ok rfl)
    · rw [if_neg d4] at e2 ⊢
      obtain ⟨xs, m1, j1, e3, e4, rfl⟩ := seq_inv e2
      obtain ⟨u, m3, j3, e5, e6, rfl⟩ := seq_inv e4
      obtain ⟨h4, rfl⟩ := need_inv e5
      obtain ⟨rfl, rfl⟩ := ok_inj e6
      have := fit_ls e3
      rw [drop_in (by omega)] at e3 h4
      have q3 := ih.list _ _ _ e3 (by rw [List.length_drop]; omega)
      rw [← drop_in (by omega)] at q3
      have q4 : needR [41] ((l ++ r').drop (2 + m1)) = okR () 1 := by
        unfold needR; rw [drop_in (by omega), if_pos (look h4 (by rw [List.length_drop]; omega))]
      rw [q3]
      refine seq_ok ?_
      rw [q4]
      exact seq_ok rfl
  · rw [if_neg d2] at e1
    rw [Bool.not_eq_true, drop_in (by omega)] at d2
    have q2 : isS [40] ((l ++ r').drop 1) = false := by rw [drop_in (by omega)]; exact halt9 hr (.inr rfl) d2
    rw [if_neg (by rw [q2]; decide)]
    exact e1
theorem locals (f : Nat) {r r' : List T} (hr : Halt r') : Local (res := res) f r r' := by
  induction f with
  | zero =>
    refine ⟨fun n l a m _ h => ?_, fun n x l a m _ h => ?_, fun x l a m h => ?_, fun x l y a m h e => ?_, fun x l h => ?_, fun l a m h => ?_, fun l a m h => ?_⟩
    · simp only [pLine] at h; cases h
    · simp only [pMore] at h; cases h
    · simp only [pRel] at h; cases h
    · simp only [pThree, Option.some.injEq] at h; subst h; cases e
    · simp only [pThree] at h; cases h
    · simp only [pList] at h; cases h
    · simp only [pPrim] at h; cases h
  | succ f ih => exact ⟨local_line ih, local_more hr ih, local_rel hr ih, local_three hr ih, local_three0 hr, local_list hr ih, local_prim hr ih⟩
theorem line_local {f : Nat} {l r r' : List T} {a : E} (hr : Halt r') (h : pLine res f 1 (l ++ r) = okR a l.length) : pLine res f 1 (l ++ r') = okR a l.length :=
  (locals f hr).line 1 l a _ (Nat.le_refl _) h (Nat.le_refl _)
theorem brackets {f : Nat} {l r : List T} {x : E} (h : pLine res f 1 (l ++ r) = okR x l.length) : PartOk res (brk l) x :=
  brk_part res fun rest => ⟨f, line_local (r' := sg [41] :: rest) ⟨show lineOf (sg [41]) < 1 by decide, rfl⟩ h⟩
end
end Go.Proofs.YtcnpoinocnfnjaaGreatDoor
namespace Go.Proofs.YtcnpoinocnfnjaaGreatDoor
def endS : T := ⟨6, [], 0, 0⟩
theorem cut_last {l : List UInt8} {ts : List T} (h : cutP 0 l = .ok ts) : ∃ vs, ts = vs ++ [⟨6, [], 0, l.length⟩] := by
  obtain ⟨us, h1⟩ := (cut_parts l 0 ts h).1
  rw [Nat.zero_add] at h1
  exact ⟨us, h1⟩
theorem cutS_lines {l : List UInt8} {vs : List T} (h : cutP 0 l = .ok (vs ++ [⟨6, [], 0, l.length⟩])) : cutS (l ++ [10, 41]) = some (strips vs ++ [sg [41], endS]) := by
  have h1 : cutP (0 + l.length + 1) [41] = .ok [⟨5, [41], 0, 0 + (0 + l.length + 1)⟩, ⟨6, [], 0, 1 + (0 + l.length + 1)⟩] := by
    have h0 : cutP 0 [41] = .ok [⟨5, [41], 0, 0⟩, ⟨6, [], 0, 1⟩] := rfl
    rw [cutP_at, h0]; rfl
  have := cut_join [41] l 0 vs (by rw [Nat.zero_add]; exact h) _ h1
  unfold cutS
  rw [show l ++ [10, 41] = l ++ 10 :: [41] from rfl, this]
  show some (strips (vs ++ _)) = _
  unfold strips
  rw [List.map_append]; rfl
theorem cutS_brk {l : List UInt8} {vs : List T} (h : cutP 0 l = .ok (vs ++ [⟨6, [], 0, l.length⟩])) : cutS (40 :: (l ++ [10, 41])) = some (brk (strips vs) ++ [endS]) := by
  have := cta_open (l ++ [10, 41])
  rw [show 40 :: (l ++ [10, 41]) = [40] ++ (l ++ [10, 41]) from rfl, this, cutS_lines h]
  simp [brk]
theorem cutS_not {l : List UInt8} {vs : List T} (h : cutP 0 l = .ok (vs ++ [⟨6, [], 0, l.length⟩])) : cutS ([78, 79, 84, 32] ++ 40 :: (l ++ [10, 41])) = some (wd wNot :: brk (strips vs) ++ [endS]) := by
  have h0 : Cta ([78, 79, 84] ++ [32]) [wd wNot] := wd_sp (by decide) (by decide) (by decide) (by decide)
  have := h0 (40 :: (l ++ [10, 41]))
  rw [show [78, 79, 84, 32] ++ 40 :: (l ++ [10, 41]) = [78, 79, 84] ++ [32] ++ 40 :: (l ++ [10, 41]) from rfl, this, cutS_brk h]
  simp
section
variable {res : List UInt8 → Bool}
theorem read_of {l : List UInt8} {us : List T} {x : E} (hc : cutS l = some (us ++ [endS])) (hr : ∃ f, pLine res f 1 (us ++ [endS]) = okR x us.length) : ∃ ts f, cutP 0 l = .ok (ts ++ [⟨6, [], 0, l.length⟩]) ∧ ts.length = us.length ∧ pLine res f 1 (ts ++ [⟨6, [], 0, l.length⟩]) = okR x ts.length := by
  obtain ⟨f, e⟩ := hr
  unfold cutS at hc
  cases h : cutP 0 l with
  | error q => rw [h] at hc; cases hc
  | ok ws =>
    rw [h] at hc
    obtain ⟨ts, rfl⟩ := cut_last h
    have hs : strips (ts ++ [⟨6, [], 0, l.length⟩]) = us ++ [endS] := by simpa using hc
    have hlen : ts.length = us.length := by have := congrArg List.length hs; simpa [strips] using this
    refine ⟨ts, f, rfl, hlen, ?_⟩
    rw [hlen, ← e]
    refine line_same ?_ f 1
    have hss : ∀ a : List T, strips (strips a) = strips a := fun a => by unfold strips; rw [List.map_map]; rfl
    rw [hs]
    have := hss (ts ++ [⟨6, [], 0, l.length⟩])
    rw [hs] at this
    exact this.symm
theorem brackets_text {l : List UInt8} {vs : List T} {f : Nat} {x : E} (h : cutP 0 l = .ok (vs ++ [⟨6, [], 0, l.length⟩])) (hr : pLine res f 1 (vs ++ [⟨6, [], 0, l.length⟩]) = okR x vs.length) :
    (∃ ts g, cutP 0 (40 :: (l ++ [10, 41])) = .ok (ts ++ [⟨6, [], 0, (40 :: (l ++ [10, 41])).length⟩]) ∧ pLine res g 1 (ts ++ [⟨6, [], 0, (40 :: (l ++ [10, 41])).length⟩]) = okR x ts.length) ∧
    (∃ ts g, cutP 0 ([78, 79, 84, 32] ++ 40 :: (l ++ [10, 41])) = .ok (ts ++ [⟨6, [], 0, ([78, 79, 84, 32] ++ 40 :: (l ++ [10, 41])).length⟩]) ∧ pLine res g 1 (ts ++ [⟨6, [], 0, ([78, 79, 84, 32] ++ 40 :: (l ++ [10, 41])).length⟩]) = okR (op1 wNot [x]) ts.length) := by
  have hs : pLine res f 1 (strips vs ++ [endS]) = okR x (strips vs).length := by
    rw [show (strips vs).length = vs.length by unfold strips; simp, ← hr]
    refine line_same ?_ f 1
    have hss : ∀ a : List T, strips (strips a) = strips a := fun a => by unfold strips; rw [List.map_map]; rfl
    have e : strips vs ++ [endS] = strips (vs ++ [⟨6, [], 0, l.length⟩]) := by unfold strips; rw [List.map_append]; rfl
    rw [e]; exact hss _
  have hp := brackets hs
  have h0 : lineOf (here [endS]) < 1 := by show lineOf endS < 1; decide
  constructor
  · obtain ⟨ts, g, e1, _, e2⟩ := read_of (cutS_brk h) (hp.text res [endS] h0)
    exact ⟨ts, g, e1, e2⟩
  · obtain ⟨ts, g, e1, _, e2⟩ := read_of (us := wd wNot :: brk (strips vs)) (cutS_not h) (not_text hp [endS] h0)
    exact ⟨ts, g, e1, e2⟩
end
end Go.Proofs.YtcnpoinocnfnjaaGreatDoor
