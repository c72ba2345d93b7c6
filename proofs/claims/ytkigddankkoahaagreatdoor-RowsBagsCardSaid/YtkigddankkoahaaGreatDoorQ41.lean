import Derived.Test.YtkigddankkoahaaGreatDoorQ32
import Derived.Test.YtkigddankkoahaaGreatDoorQ38
import Derived.Test.YtkigddankkoahaaGreatDoorQ29
import Derived.Test.YtkigddankkoahaaGreatDoorQ33
import Derived.Test.YtkigddankkoahaaGreatDoorQ11
set_option linter.unusedSimpArgs false
set_option linter.unusedVariables false
namespace Go.Proofs.YtkigddankkoahaaGreatDoor
open Go.RowKit
theorem snoc_ind {α : Type} {P : List α → Prop} (h0 : P []) (h1 : ∀ l x, P l → P (l ++ [x])) (l : List α) : P l := by
  have h : ∀ m : List α, P m.reverse := by
    intro m
    induction m with
    | nil => exact h0
    | cons a m ih => rw [List.reverse_cons]; exact h1 _ _ ih
  have h2 := h l.reverse
  rwa [List.reverse_reverse] at h2
def bagA (e : E) : List Ag := [cntA, ⟨⟨#[109, 97, 120]⟩, false, e⟩, ⟨⟨#[109, 105, 110]⟩, false, e⟩, ⟨⟨#[99, 111, 117, 110, 116]⟩, false, e⟩]
def oneV : BV.V := ⟨2, 1, ⟨#[]⟩⟩
theorem ask_bag {e : E} {r : List BV.V} (h : (e.ev deedP r).1 = 0) : askV (bagA e) r = [oneV, (e.ev deedP r).2, (e.ev deedP r).2, (e.ev deedP r).2] ∧ askE (bagA e) r = 0 := by
  have a1 : ∀ (nm : ByteArray), (nm.toList == [115, 117, 109]) = false → askP ⟨nm, false, e⟩ r = (0, (e.ev deedP r).2) := fun nm hn => by
    unfold askP
    simp [h, hn]
  have e1 := a1 ⟨#[109, 97, 120]⟩ (by simp only [Lib.toList_data]; rfl)
  have e2 := a1 ⟨#[109, 105, 110]⟩ (by simp only [Lib.toList_data]; rfl)
  have e3 := a1 ⟨#[99, 111, 117, 110, 116]⟩ (by simp only [Lib.toList_data]; rfl)
  have e0 : askP cntA r = (0, oneV) := rfl
  have e4 : ((bagA e).map fun a => askP a r) = [(0, oneV), (0, (e.ev deedP r).2), (0, (e.ev deedP r).2), (0, (e.ev deedP r).2)] := by
    unfold bagA
    simp only [List.map_cons, List.map_nil, e0, e1, e2, e3]
  unfold askV askE
  rw [e4]
  exact ⟨rfl, rfl⟩
theorem proj_one (e : E) (r : List BV.V) : projE [e] r = (e.ev deedP r).1 ∧ projV [e] r = [(e.ev deedP r).2] := by
  refine ⟨?_, rfl⟩
  unfold projE
  simp only [List.map_cons, List.map_nil, firstE]
  split
  · rename_i h; exact h.symm
  · rfl
theorem rowE_bag (e : E) (r : List BV.V) : rowE [e] (bagA e) r = projE [e] r := by
  unfold rowE
  split
  · rename_i h
    rw [h]
    rw [(proj_one e r).1] at h
    exact (ask_bag h).2
  · rfl
def calm (s : ByteArray) : Bool := isCount s || isMin s || isMax s
theorem agg_calm {s : ByteArray} (h : calm s = true) (vs : List BV.V) : (aggP s vs).1 = 0 := by
  unfold calm at h
  unfold aggP
  cases h1 : isCount s
  · rw [if_neg (by simp)]
    cases vs with
    | nil => rfl
    | cons v l =>
      cases h2 : isMin s
      · cases h3 : isMax s
        · rw [h1, h2, h3] at h; exact absurd h (by decide)
        · simp
      · simp
  · rw [if_pos rfl]
theorem zip_calm : ∀ (aggs : List Ag) (vs : List (List BV.V)), (∀ a ∈ aggs, calm a.nm = true) → ∀ x ∈ List.zipWith (fun (a : Ag) (xs : List BV.V) => aggP a.nm xs) aggs vs, x.1 = 0
  | [], _, _, x, hx => by simp at hx
  | _ :: _, [], _, x, hx => by simp at hx
  | a :: aggs, v :: vs, h, x, hx => by
    rw [List.zipWith_cons_cons] at hx
    rcases List.mem_cons.1 hx with rfl | hx
    · exact agg_calm (h a (by simp)) v
    · exact zip_calm aggs vs (fun b hb => h b (by simp [hb])) x hx
theorem bag_calm (e : E) : ∀ a ∈ bagA e, calm a.nm = true := fun a ha => by
  unfold bagA at ha
  simp only [List.mem_cons, List.not_mem_nil, or_false] at ha
  rcases ha with rfl | rfl | rfl | rfl <;> (unfold calm isCount isMin isMax; first | (simp only [Lib.toList_data]; rfl) | (unfold cntA; simp only [Lib.toList_data]; rfl))
theorem bag_wrong (e : E) : (bagA e).any Ag.wrong = false := by
  unfold bagA cntA
  simp only [List.any_cons, List.any_nil, Ag.wrong, wrongS, Lib.toList_data]
  rfl
theorem bag_told (e : E) (g : Gp) : toldE (bagA e) g = 0 := by
  unfold toldE toldL
  rw [firstE_zero]
  intro a ha
  obtain ⟨x, hx, rfl⟩ := List.mem_map.1 ha
  exact zip_calm _ _ (bag_calm e) x hx
theorem bag_err (e : E) (rows : List (List BV.V)) : groupE [e] (bagA e) rows = firstE (rows.map (projE [e])) := by
  unfold groupE
  rw [bag_wrong, if_neg (by simp), show rows.map (rowE [e] (bagA e)) = rows.map (projE [e]) from List.map_congr_left fun r _ => rowE_bag e r]
  split
  · rename_i h
    rw [h, firstE_zero]
    intro a ha
    obtain ⟨g, -, rfl⟩ := List.mem_map.1 ha
    exact bag_told e g
  · rfl
open Classical in
noncomputable def ddA (l : List BV.V) (x : BV.V) : List BV.V := if x ∈ l then l else l ++ [x]
noncomputable def dd (l : List BV.V) : List BV.V := l.foldl ddA []
open Classical in
noncomputable def cnt (l : List BV.V) (y : BV.V) : Nat := (l.filter fun z => decide (z = y)).length
theorem dd_snoc (l : List BV.V) (x : BV.V) : dd (l ++ [x]) = ddA (dd l) x := by unfold dd; rw [List.foldl_append]; rfl
theorem mem_ddA {l : List BV.V} {x y : BV.V} : y ∈ ddA l x ↔ y ∈ l ∨ y = x := by
  unfold ddA
  split
  · rename_i h
    exact ⟨Or.inl, fun h2 => h2.elim id fun e => e ▸ h⟩
  · simp
theorem mem_dd (l : List BV.V) : ∀ y, y ∈ dd l ↔ y ∈ l := by
  refine snoc_ind (P := fun l => ∀ y, y ∈ dd l ↔ y ∈ l) (by simp [dd]) (fun l x ih y => ?_) l
  rw [dd_snoc, mem_ddA, ih]
  simp
theorem nodup_dd (l : List BV.V) : (dd l).Nodup := by
  refine snoc_ind (P := fun l => (dd l).Nodup) (by simp [dd]) (fun l x ih => ?_) l
  rw [dd_snoc]
  unfold ddA
  split
  · exact ih
  · rename_i h
    refine List.pairwise_append.2 ⟨ih, by simp, fun a ha b hb => ?_⟩
    rw [List.mem_singleton] at hb
    subst hb
    exact fun e => h (e ▸ ha)
theorem dd_perm {l m : List BV.V} (h : l.Perm m) : (dd l).Perm (dd m) :=
  (List.perm_ext_iff_of_nodup (nodup_dd l) (nodup_dd m)).2 fun a => by rw [mem_dd, mem_dd]; exact h.mem_iff
theorem cnt_perm {l m : List BV.V} (h : l.Perm m) (y : BV.V) : cnt l y = cnt m y := by unfold cnt; exact (h.filter _).length_eq
theorem cnt_snoc_same (l : List BV.V) (x : BV.V) : cnt (l ++ [x]) x = cnt l x + 1 := by
  unfold cnt
  rw [List.filter_append, List.length_append]
  simp
theorem cnt_snoc_ne (l : List BV.V) {x y : BV.V} (h : x ≠ y) : cnt (l ++ [x]) y = cnt l y := by
  unfold cnt
  rw [List.filter_append, List.length_append]
  simp [h]
theorem cnt_none {l : List BV.V} {y : BV.V} (h : y ∉ l) : cnt l y = 0 := by
  unfold cnt
  rw [List.length_eq_zero_iff, List.filter_eq_nil_iff]
  intro a ha
  simp only [decide_eq_true_eq]
  exact fun e => h (e ▸ ha)
def nz (n : Nat) (x : BV.V) : List BV.V := if x.k = 0 then [] else List.replicate n x
def gOf (n : Nat) (x : BV.V) : Gp := ⟨[x], [List.replicate n oneV, nz n x, nz n x, nz n x]⟩
theorem nz_next (n : Nat) (x : BV.V) : nz n x ++ nz 1 x = nz (n + 1) x := by
  unfold nz
  split
  · rfl
  · rw [List.replicate_append_replicate]
theorem gOf_zero (x : BV.V) : gOf 0 x = ⟨[x], List.replicate 4 []⟩ := by
  have e : nz 0 x = [] := by unfold nz; split <;> rfl
  unfold gOf
  rw [e]
  rfl
theorem putP_one {l : List Gp} {p i : Nat} {g : Gp} {xs : List BV.V} {v : BV.V} (hv : v.k ≠ 0) (h : l[p]? = some g) (hx : g.vs[i]? = some xs) : putP l p i v = l.set p ⟨g.ks, g.vs.set i (xs ++ [v])⟩ := by
  unfold putP
  rw [if_neg hv, h]
  simp only [hx]
theorem puts4 {l : List Gp} {p : Nat} {g : Gp} {a b c d : List BV.V} (h : l[p]? = some g) (hv : g.vs = [a, b, c, d]) (x : BV.V) : putsP p l 0 [oneV, x, x, x] = l.set p ⟨g.ks, [a ++ [oneV], b ++ nz 1 x, c ++ nz 1 x, d ++ nz 1 x]⟩ := by
  have hp : p < l.length := (List.getElem?_eq_some_iff.1 h).1
  have s1 : putP l p 0 oneV = l.set p ⟨g.ks, [a ++ [oneV], b, c, d]⟩ := by
    rw [putP_one (by decide) h (xs := a) (by rw [hv]; rfl), hv]; rfl
  unfold putsP
  rw [s1]
  by_cases hk : x.k = 0
  · unfold putsP
    rw [putP_none _ _ _ _ hk]
    unfold putsP
    rw [putP_none _ _ _ _ hk]
    unfold putsP
    rw [putP_none _ _ _ _ hk]
    unfold putsP nz
    simp only [hk, if_true, List.append_nil]
  · have hn : nz 1 x = [x] := by unfold nz; rw [if_neg hk]; rfl
    rw [hn]
    have at_ : ∀ g' : Gp, (l.set p g')[p]? = some g' := fun g' => by rw [List.getElem?_set_self hp]
    have s2 : putP (l.set p ⟨g.ks, [a ++ [oneV], b, c, d]⟩) p 1 x = l.set p ⟨g.ks, [a ++ [oneV], b ++ [x], c, d]⟩ := by
      rw [putP_one hk (at_ _) (xs := b) rfl, List.set_set]; rfl
    have s3 : putP (l.set p ⟨g.ks, [a ++ [oneV], b ++ [x], c, d]⟩) p 2 x = l.set p ⟨g.ks, [a ++ [oneV], b ++ [x], c ++ [x], d]⟩ := by
      rw [putP_one hk (at_ _) (xs := c) rfl, List.set_set]; rfl
    have s4 : putP (l.set p ⟨g.ks, [a ++ [oneV], b ++ [x], c ++ [x], d]⟩) p 3 x = l.set p ⟨g.ks, [a ++ [oneV], b ++ [x], c ++ [x], d ++ [x]]⟩ := by
      rw [putP_one hk (at_ _) (xs := d) rfl, List.set_set]; rfl
    unfold putsP
    rw [s2]
    unfold putsP
    rw [s3]
    unfold putsP
    rw [s4]
    rfl
theorem rtx1_inj {x y : BV.V} (hx : x.chk = 0) (hy : y.chk = 0) (h : rtx [x] = rtx [y]) : x = y := by
  unfold rtx at h
  simp only [List.flatMap_cons, List.flatMap_nil, List.append_nil] at h
  have h2 := List.append_cancel_right h
  rw [chk_iff] at hx hy
  unfold vtx at h2
  rw [if_pos hx, if_pos hy] at h2
  obtain ⟨e1, e2, e3⟩ := BV.txt_inj hx hy h2
  cases x
  cases y
  simp only at e1 e2 e3
  subst e1 e2 e3
  rfl
noncomputable def grS (vals : List BV.V) : List Gp := (dd vals).map fun x => gOf (cnt vals x) x
theorem txP_grS (vals : List BV.V) : txP (grS vals) = (dd vals).map fun x => rtx [x] := by
  unfold txP grS
  rw [List.map_map]
  rfl
theorem mem_tx {vals : List BV.V} (hc : ∀ v ∈ vals, v.chk = 0) {x : BV.V} (hx : x.chk = 0) : rtx [x] ∈ txP (grS vals) ↔ x ∈ dd vals := by
  rw [txP_grS]
  constructor
  · intro h
    obtain ⟨y, hy, e⟩ := List.mem_map.1 h
    rw [← rtx1_inj (hc y ((mem_dd vals y).1 hy)) hx e]
    exact hy
  · intro h
    exact List.mem_map.2 ⟨x, h, rfl⟩
theorem grp_step {vals : List BV.V} (hc : ∀ v ∈ vals, v.chk = 0) {x : BV.V} (hx : x.chk = 0) : rowP 4 (grS vals) ([x], [oneV, x, x, x]) = grS (vals ++ [x]) := by
  have hat : grAt (grS vals) [x] 4 = (dd (vals ++ [x])).map fun y => gOf (cnt vals y) y := by
    unfold grAt
    rw [dd_snoc]
    unfold ddA
    by_cases h : x ∈ dd vals
    · rw [if_pos ((mem_tx hc hx).2 h), if_pos h]
      rfl
    · rw [if_neg (fun h2 => h ((mem_tx hc hx).1 h2)), if_neg h, List.map_append]
      have h0 : cnt vals x = 0 := cnt_none fun h2 => h ((mem_dd vals x).2 h2)
      simp only [List.map_cons, List.map_nil, h0, gOf_zero]
      rfl
  have hpl : grPl (grS vals) [x] < (dd (vals ++ [x])).length := by
    have h := grPl_lt (grS vals) [x] 4
    rw [hat, List.length_map] at h
    exact h
  have hpx : (dd (vals ++ [x]))[grPl (grS vals) [x]] = x := by
    have hpe : grPl (grS vals) [x] = (txP (grS vals)).idxOf (rtx [x]) := rfl
    by_cases h : x ∈ dd vals
    · have hin := (mem_tx hc hx).2 h
      have hlt := List.idxOf_lt_length_iff.2 hin
      have hg := List.getElem_idxOf hlt
      have e : dd (vals ++ [x]) = dd vals := by rw [dd_snoc]; unfold ddA; rw [if_pos h]
      have hlt2 : grPl (grS vals) [x] < (dd vals).length := by rw [hpe]; rw [txP_grS] at hlt ⊢; simpa using hlt
      have hg2 : rtx [(dd vals)[grPl (grS vals) [x]]] = rtx [x] := by
        have e2 : ((dd vals).map fun x => rtx [x])[grPl (grS vals) [x]]? = some (rtx [x]) := by
          rw [← txP_grS, hpe, List.getElem?_eq_getElem hlt, hg]
        rw [List.getElem?_map, List.getElem?_eq_getElem hlt2] at e2
        simpa using e2
      have h3 := rtx1_inj (hc _ ((mem_dd vals _).1 (List.getElem_mem hlt2))) hx hg2
      simp only [e]
      exact h3
    · have e : dd (vals ++ [x]) = dd vals ++ [x] := by rw [dd_snoc]; unfold ddA; rw [if_neg h]
      have hp2 : grPl (grS vals) [x] = (dd vals).length := by
        rw [hpe, List.idxOf_eq_length (fun h2 => h ((mem_tx hc hx).1 h2)), txP_grS, List.length_map]
      simp only [e, hp2]
      rw [List.getElem_append_right (by omega)]
      simp
  unfold rowP
  dsimp only
  rw [hat]
  rw [puts4 (g := gOf (cnt vals x) x) (by rw [List.getElem?_map, List.getElem?_eq_getElem hpl, hpx]; rfl) rfl x]
  rw [show grS (vals ++ [x]) = (dd (vals ++ [x])).map (fun y => gOf (cnt (vals ++ [x]) y) y) from rfl]
  apply List.ext_getElem (by simp)
  intro i h1 h2
  rw [List.getElem_set]
  rw [List.length_set, List.length_map] at h1
  simp only [List.getElem_map]
  split
  · rename_i hi
    subst hi
    rw [hpx, cnt_snoc_same]
    unfold gOf
    rw [nz_next, show List.replicate (cnt vals x) oneV ++ [oneV] = List.replicate (cnt vals x + 1) oneV from (List.replicate_succ' ..).symm]
  · rename_i hi
    rw [cnt_snoc_ne]
    intro e
    have hn := List.pairwise_iff_getElem.1 (nodup_dd (vals ++ [x]))
    have h3 : i < (dd (vals ++ [x])).length := by simpa using h2
    rcases Nat.lt_or_gt_of_ne hi with h4 | h4
    · exact hn _ _ hpl h3 h4 (hpx.trans e)
    · exact hn _ _ h3 hpl h4 (hpx.trans e).symm
theorem grp_bag (vals : List BV.V) : (∀ v ∈ vals, v.chk = 0) → grpP 4 [] (vals.map fun x => ([x], [oneV, x, x, x])) = grS vals := by
  refine snoc_ind (P := fun vals => (∀ v ∈ vals, v.chk = 0) → grpP 4 [] (vals.map fun x => ([x], [oneV, x, x, x])) = grS vals) (fun _ => rfl) (fun l x ih h => ?_) vals
  have e : grpP 4 [] ((l ++ [x]).map fun x => ([x], [oneV, x, x, x])) = rowP 4 (grpP 4 [] (l.map fun x => ([x], [oneV, x, x, x]))) ([x], [oneV, x, x, x]) := by
    unfold grpP
    rw [List.map_append, List.foldl_append]
    rfl
  rw [e, ih fun v hv => h v (by simp [hv])]
  exact grp_step (fun v hv => h v (by simp [hv])) (h x (by simp))
def evs (e : E) (rows : List (List BV.V)) : List BV.V := rows.map fun r => (e.ev deedP r).2
theorem group_bag {e : E} {rows : List (List BV.V)} (h0 : ∀ r ∈ rows, (e.ev deedP r).1 = 0) (hc : ∀ r ∈ rows, (e.ev deedP r).2.chk = 0) : groupL [e] (bagA e) rows = (dd (evs e rows)).map fun x => (gOf (cnt (evs e rows) x) x).ks ++ toldV (bagA e) (gOf (cnt (evs e rows) x) x) := by
  have hs : startP [e] (bagA e) = [] := rfl
  have hp : rows.map (pairG [e] (bagA e)) = (evs e rows).map fun x => ([x], [oneV, x, x, x]) := by
    unfold evs
    rw [List.map_map]
    refine List.map_congr_left fun r hr => ?_
    unfold pairG
    rw [(ask_bag (h0 r hr)).1, (proj_one e r).2]
    rfl
  unfold groupL groupsP
  rw [hs, hp, show (bagA e).length = 4 from rfl, grp_bag _ (fun v hv => by
    obtain ⟨r, hr, rfl⟩ := List.mem_map.1 hv
    exact hc r hr)]
  unfold grS
  rw [List.map_map]
  rfl
theorem bag_len {e : E} {rows : List (List BV.V)} (h0 : ∀ r ∈ rows, (e.ev deedP r).1 = 0) (hc : ∀ r ∈ rows, (e.ev deedP r).2.chk = 0) : (groupL [e] (bagA e) rows).length = (dd (evs e rows)).length := by
  rw [group_bag h0 hc, List.length_map]
theorem bag_perm {e : E} {rows mows : List (List BV.V)} (hp : rows.Perm mows) (h0 : ∀ r ∈ rows, (e.ev deedP r).1 = 0) (hc : ∀ r ∈ rows, (e.ev deedP r).2.chk = 0) : (groupL [e] (bagA e) rows).Perm (groupL [e] (bagA e) mows) := by
  have hv : (evs e rows).Perm (evs e mows) := hp.map _
  rw [group_bag h0 hc, group_bag (fun r hr => h0 r (hp.mem_iff.2 hr)) (fun r hr => hc r (hp.mem_iff.2 hr))]
  have e1 : ∀ x, cnt (evs e rows) x = cnt (evs e mows) x := cnt_perm hv
  simp only [e1]
  exact (dd_perm hv).map _
def dA (l : List (List BV.V)) (r : List BV.V) : List (List BV.V) := if rtx r ∈ l.map rtx then l else l ++ [r]
def distP (l : List (List BV.V)) : List (List BV.V) := l.foldl dA []
theorem dist_snoc (l : List (List BV.V)) (r : List BV.V) : distP (l ++ [r]) = dA (distP l) r := by unfold distP; rw [List.foldl_append]; rfl
theorem dist_next {l : List (List BV.V)} {k : Nat} (h : k < l.length) : distP (l.take (k + 1)) = dA (distP (l.take k)) l[k] := by rw [take_next h, dist_snoc]
theorem dist_len_le (l : List (List BV.V)) : (distP l).length ≤ l.length := by
  refine snoc_ind (P := fun l => (distP l).length ≤ l.length) (by simp [distP]) (fun l x ih => ?_) l
  rw [dist_snoc]
  unfold dA
  split
  · rw [List.length_append]; omega
  · rw [List.length_append, List.length_append]; simp; exact ih
theorem dist_one (vals : List BV.V) : (∀ v ∈ vals, v.chk = 0) → distP (vals.map fun v => [v]) = (dd vals).map fun v => [v] := by
  refine snoc_ind (P := fun vals => (∀ v ∈ vals, v.chk = 0) → distP (vals.map fun v => [v]) = (dd vals).map fun v => [v]) (fun _ => rfl) (fun l x ih h => ?_) vals
  have hl : ∀ v ∈ l, v.chk = 0 := fun v hv => h v (by simp [hv])
  have hx := h x (by simp)
  rw [List.map_append, List.map_cons, List.map_nil, dist_snoc, ih hl, dd_snoc]
  unfold dA ddA
  have hi : rtx [x] ∈ ((dd l).map fun v => [v]).map rtx ↔ x ∈ dd l := by
    rw [List.map_map]
    constructor
    · intro h2
      obtain ⟨y, hy, e⟩ := List.mem_map.1 h2
      rw [← rtx1_inj (hl y ((mem_dd l y).1 hy)) hx e]
      exact hy
    · intro h2
      exact List.mem_map.2 ⟨x, h2, rfl⟩
  by_cases h2 : x ∈ dd l
  · rw [if_pos (hi.2 h2), if_pos h2]
  · rw [if_neg fun h3 => h2 (hi.1 h3), if_neg h2, List.map_append]
    rfl
theorem projs_one (e : E) (rows : List (List BV.V)) : rows.map (projV [e]) = (evs e rows).map fun v => [v] := by
  unfold evs
  rw [List.map_map]
  rfl
theorem proj_errs (e : E) (rows : List (List BV.V)) : firstE (rows.map (projE [e])) = 0 ↔ ∀ r ∈ rows, (e.ev deedP r).1 = 0 := by
  rw [firstE_zero]
  constructor
  · intro h r hr
    rw [← (proj_one e r).1]
    exact h _ (List.mem_map.2 ⟨r, hr, rfl⟩)
  · intro h a ha
    obtain ⟨r, hr, rfl⟩ := List.mem_map.1 ha
    rw [(proj_one e r).1]
    exact h r hr
theorem errs_perm {t : List BV.V → Int × Bool} {l m : List (List BV.V)} (h : l.Perm m) : errsP t l = 0 ↔ errsP t m = 0 := by
  rw [errs_zero, errs_zero]
  exact ⟨fun a r hr => a r (h.mem_iff.2 hr), fun a r hr => a r (h.mem_iff.1 hr)⟩
theorem fres_perm {t : List BV.V → Int × Bool} {l m : List (List BV.V)} (h : l.Perm m) : (FRes t l).Perm (FRes t m) := by
  unfold FRes
  by_cases h0 : errsP t l = 0
  · rw [if_pos h0, if_pos ((errs_perm h).1 h0)]
    unfold filtP
    exact h.filter _
  · rw [if_neg h0, if_neg fun h2 => h0 ((errs_perm h).2 h2)]
theorem rot_perm (l : List (List BV.V)) (k : Nat) : l.Perm (l.drop k ++ l.take k) := by
  have h : (l.drop k ++ l.take k).Perm (l.take k ++ l.drop k) := List.perm_append_comm
  rw [List.take_append_drop] at h
  exact h.symm
end Go.Proofs.YtkigddankkoahaaGreatDoor
namespace Go.Proofs.YtkigddankkoahaaGreatDoor
open Go.RowKit Go.Maps Go.WideMaps
def uDt : DataW Unit := .agg []
theorem zeroUt (w : World) : (zeroValue 92).run Tryz.prog w = .ok (.agg #[]) w := by kernel_rfl
def Has (D : DataW Unit) (l : List (List UInt8)) : Prop := ∀ s : List UInt8, has D (.string s) = decide (s ∈ l)
theorem Has.nil : Has (.map []) [] := fun s => by simp [has]
theorem Has.put {D : DataW Unit} {l : List (List UInt8)} (h : Has D l) (hm : IsMap D) (s : List UInt8) : Has (D.put (.string s) uDt) (l ++ [s]) := fun t => by
  by_cases e : t = s
  · subst e
    rw [has_put_same hm (keyLitT t)]
    simp
  · rw [has_put_other (by intro h1; injection h1 with h1; exact e h1), h t]
    simp [e]
theorem ownU_same {w w' : World} {mb n : Nat} {D : DataW Unit} (h : w.ownsMap Tryz.prog 9 (unitElem (H := Unit)) mb n D) (hb : w'.heap[mb]? = w.heap[mb]?) : w'.ownsMap Tryz.prog 9 (unitElem (H := Unit)) mb n D := by
  obtain ⟨es, clock, h1, rest⟩ := h
  exact ⟨es, clock, hb.trans h1, rest⟩
structure DS (w wr : World) (g : Nat) (o : Value) (l : List (List BV.V)) (ks : List (List UInt8)) (D : DataW Unit) : Prop where
  own : OwnR wr (g + 1) o l
  map : wr.ownsMap Tryz.prog 9 (unitElem (H := Unit)) g ks.length D
  keys : Has D ks
  bel : Below w.heap.size w wr
  wg : w.heap.size ≤ g
section
variable {w wr w' : World} {g : Nat} {o : Value} {l : List (List BV.V)} {ks : List (List UInt8)} {D : DataW Unit}
theorem DS.lt (h : DS w wr g o l ks D) : g < wr.heap.size := World.ownsMap.lt h.map
theorem DS.later (h : DS w wr g o l ks D) (hb : Below wr.heap.size wr w') : DS w w' g o l ks D :=
  ⟨h.own.later hb, ownU_same h.map (hb.block g h.lt), h.keys, bthen h.bel hb, h.wg⟩
theorem DS.off (h : DS w wr g o l ks D) {v : Value} {xs : List BV.V} {w1 : World} {B : Nat} (hv : OwnV w1 B v xs) (hB : wr.heap.size ≤ B) : ∃ A c, v = .slice A xs.length c ∧ RowOff w1 (g + 1) o.ownBlock A c xs :=
  hv.off (by have := h.lt; omega) fun k hk => by have := (h.own.lt k hk).2; omega
theorem DS.app (h : DS w wr g o l ks D) (A : Option Addr) (c : Nat) (xs : List BV.V) (hx : RowOff wr (g + 1) o.ownBlock A c xs) (hm : l.length ≤ 1000000) :
    ∃ v' w', (Builtin.append_ #[22, 22] 22 #[o, .slice (some ⟨wr.heap.size, 0, none⟩) 1 1]).run Tryz.prog (wr.alloc (.cells #[.slice A xs.length c] 41)) = .ok v' w' ∧ Hid (DS w w' g v' (l ++ [xs]) ks D) := by
  have hlt := h.lt
  obtain ⟨v', w', h1, h2, h3⟩ := ownR_app h.own A c xs hx (by omega) hm
  have ha := (Below.refl wr.heap.size wr).alloc (Nat.le_refl _) (.cells #[.slice A xs.length c] 41)
  have hblk : ∀ k, k ≤ g → w'.heap[k]? = wr.heap[k]? := fun k hk => by
    rw [h3.block k (by simp; omega) (fun e => by have := (h.own.lt k e.symm).1; omega)]
    exact ha.block k (by omega)
  exact ⟨v', w', h1, Lib.hid ⟨h2, ownU_same h.map (hblk g (Nat.le_refl _)), h.keys, ownR_below h.bel h.own h3 (by have := h.wg; omega) h.bel.size, h.wg⟩⟩
theorem DS.put (h : DS w wr g o l ks D) (s : List UInt8) (h1 : w'.ownsMap Tryz.prog 9 (unitElem (H := Unit)) g (ks.length + 1) (D.put (.string s) uDt)) (h2 : wr.grownBy w' (some g)) : DS w w' g o l (ks ++ [s]) (D.put (.string s) uDt) := by
  have hlt := h.lt
  refine ⟨h.own.same h2.size fun k h3 h4 => h2.block k h4 (by intro e; injection e with e; omega), by rw [List.length_append]; exact h1, h.keys.put (World.ownsMap.isMap h.map) s, h.bel.grown h2 h.bel.size (fun k hk => ?_), h.wg⟩
  injection hk with hk
  have := h.wg
  omega
end
theorem ds_start (w : World) : DS w (w.alloc (.map #[] 0)) w.heap.size (.slice none 0 0) [] [] (.map []) :=
  ⟨OwnR.nil _ _, World.ownsMap_made w Tryz.prog 9 (unitElem (H := Unit)), Has.nil, (Below.refl _ _).alloc (Nat.le_refl _) _, Nat.le_refl _⟩
set_option maxRecDepth 100000 in
set_option maxHeartbeats 8000000 in
theorem distinct_any (rs : List BV.R) (A : Option Addr) (ca : Nat) (w : World) (ha : BV.RowsAt w w.heap.size A rs) (hE : BV.Env w) (hla : rs.length ≤ 100000) (hwa : ∀ r ∈ rs, r.xs.length ≤ 100000) (hok : ∀ r ∈ rs, ∀ v ∈ r.xs, v.ok) :
    Calls Tryz.prog 18 #[.slice A rs.length ca] w (Rows1 w (distP (rs.map BV.R.xs))) := by
  obtain ⟨n, hn⟩ : ∃ n, n = rs.length := ⟨_, rfl⟩
  obtain ⟨a, haa⟩ : ∃ a, rs.map BV.R.xs = a := ⟨_, rfl⟩
  have hlA : a.length = n := by rw [← haa, List.length_map, hn]
  have HA : Hid (∀ k (h : k < n), ∃ h' : k < rs.length, ∃ h'' : k < a.length, rs[k].xs = a[k]) := Lib.hid fun k h => ⟨by omega, by omega, by subst haa; simp⟩
  rw [haa]
  rw [← hn] at hla ⊢
  have HLA := Lib.hid hlA
  have RA := Lib.hid ha
  have WA := Lib.hid hwa
  have HOK := Lib.hid hok
  have HE := Lib.hid hE
  have hsz := hE.size
  have HZ : Hid (distP (a.take n) = distP a) := Lib.hid (by rw [← hlA, List.take_length])
  have HDL : Hid (∀ k, (distP (a.take k)).length ≤ 100000) := Lib.hid fun k => by
    have h1 := dist_len_le (a.take k)
    rw [List.length_take] at h1
    omega
  generalize distP a = RES at *
  obtain ⟨W1, hW1⟩ : ∃ W1 : World, W1 = w.alloc (.map #[] 0) := ⟨_, rfl⟩
  have J1 : Hid (DS w W1 w.heap.size (.slice none 0 0) (distP (a.take 0)) ((distP (a.take 0)).map rtx) (.map [])) := Lib.hid (by rw [hW1]; exact ds_start w)
  have HW1 := Lib.hid hW1
  have hmm := @run_makeMap Tryz.prog
  clear ha hwa hok hE haa hn hlA hW1
  go_enter Tryz.func18, Tryz.ntmps18
  go_wp2_with (rw [← HW1.out])
  go_loopw [13, 3] (fun i ov wr => ∃ (k : Nat) (o : Value) (D : DataW Unit), o = ov ∧ k ≤ n ∧ i = .int .i64 k ∧ Hid (DS w wr w.heap.size o (distP (a.take k)) ((distP (a.take k)).map rtx) D)) (fun i _ _ => n - (intOf i).toNat)
  case atStart => exact ⟨0, _, _, rfl, Nat.zero_le _, rfl, J1⟩
  case round =>
    obtain ⟨k, o, D, rfl, hk, rfl, JK⟩ := hrel
    by_cases hlt : k < n
    · obtain ⟨hkx, hka, hkk⟩ := HA.out k hlt
      obtain ⟨ba, offa, hAa, hbla, hca⟩ := RA.out.1 (by omega)
      subst hAa
      have e1 := (JK.out.bel.cell (p := ⟨ba, _, none⟩) hbla).trans (hca k hkx)
      unfold BV.R.val at e1
      have HX1 := Lib.hid (fun W (hb : Below w.heap.size w W) => (RA.out.2 rs[k] (List.getElem_mem hkx)).later hb)
      have HX2 := Lib.hid (WA.out rs[k] (List.getElem_mem hkx))
      have HX3 := Lib.hid (HOK.out rs[k] (List.getElem_mem hkx))
      have HNX := Lib.hid (@dist_next a k hka)
      have HFL := Lib.hid (HDL.out k)
      rw [hkk] at HX1 HX2 HX3 e1
      generalize rs[k].A = xA at *
      generalize rs[k].c = xc at *
      generalize a[k] = x at *
      have HT := Lib.hid (text_any x xA xc wr (HX1.out wr JK.out.bel) (HE.out.below JK.out.bel hsz) HX2.out HX3.out)
      have hlen : (rtx x).length ≤ 100000000000000 := by
        have h1 := rtx_len x HX3.out
        have h2 : x.length * 2000022 ≤ 100000 * 2000022 := Nat.mul_le_mul_right _ HX2.out
        omega
      have HKEY : Hid (keyOf Tryz.prog 9 (.string ⟨(rtx x).toArray⟩) = some (.string (rtx x))) := Lib.hid (by
        have := keyOf_string_mk (s := ⟨(rtx x).toArray⟩) Tryz.underlying9 (by unfold maxLen; simp [ByteArray.size]; omega)
        simpa using this)
      have hkn : ((distP (a.take k)).map rtx).length < maxLen := by rw [List.length_map]; have := HFL.out; unfold maxLen; omega
      have hmem : has D (.string (rtx x)) = decide (rtx x ∈ (distP (a.take k)).map rtx) := JK.out.keys (rtx x)
      clear hca hkk hlen
      -- @a
      go_wp2_with fail
      refine (HT.out).mono ?_
      rintro q w4 ⟨rfl, b4⟩
      have J4 := Lib.hid (JK.out.later b4)
      clear b4 HT JK e1
      by_cases hin : rtx x ∈ (distP (a.take k)).map rtx
      · have hhas : has D (.string (rtx x)) = true := by rw [hmem]; simpa using hin
        have hnx : distP (a.take (k + 1)) = distP (a.take k) := by rw [HNX.out]; unfold dA; rw [if_pos hin]
        obtain ⟨s, hs⟩ : ∃ s, rtx x = s := ⟨_, rfl⟩
        rw [hs] at hhas HKEY ⊢
        have J5 := Lib.hid (J4.out.later (one_alloc w4 (.cells #[] 92)))
        rw [← hnx] at J5
        have HM := Lib.hid J4.out.map
        clear hs hin hmem hnx HNX HX1 HX2 HX3 HFL J4
        -- @b
        go_wp2_with (at_lookup; refine wpList_lookup_own_unit _ rfl _ _ 90 rfl 9 92 lawT Tryz.underlying90 (zeroUt _) w.heap.size _ D rfl HM.out _ _ rfl HKEY.out ?_)
        -- @c
        go_roundw
        case rel => exact ⟨k + 1, _, _, rfl, by omega, by go_num, J5⟩
        case measure => simp [intOf]; omega
      · have hhas : has D (.string (rtx x)) = false := by rw [hmem]; simpa using hin
        have hnx : distP (a.take (k + 1)) = distP (a.take k) ++ [x] := by rw [HNX.out]; unfold dA; rw [if_neg hin]
        have hnk : (distP (a.take (k + 1))).map rtx = (distP (a.take k)).map rtx ++ [rtx x] := by rw [hnx, List.map_append]; rfl
        obtain ⟨ks, hks⟩ : ∃ ks, (distP (a.take k)).map rtx = ks := ⟨_, rfl⟩
        obtain ⟨s, hs⟩ : ∃ s, rtx x = s := ⟨_, rfl⟩
        have J5 := Lib.hid (J4.out.later (one_alloc w4 (.cells #[] 92)))
        have HM := Lib.hid J4.out.map
        rw [hks] at HM J5 hnk hkn
        rw [hs] at hhas HKEY hnk ⊢
        have HN := Lib.hid hnx
        have HNK := Lib.hid hnk
        obtain ⟨W5, hW5⟩ : ∃ W5 : World, W5 = w4.alloc (.cells #[] 92) := ⟨_, rfl⟩
        rw [← hW5] at J5
        have HW5 := Lib.hid hW5
        have HM5 := Lib.hid J5.out.map
        clear hs hks hin hmem hnx hnk HNX HX3 J4 hW5
        -- @d
        go_wp2_with (first
          | (rw [← HW5.out])
          | (at_lookup; refine wpList_lookup_own_unit _ rfl _ _ 90 rfl 9 92 lawT Tryz.underlying90 (zeroUt _) w.heap.size _ D rfl HM.out _ _ rfl HKEY.out ?_)
          | (at_mapUpdate; refine wpList_mapUpdate_own _ rfl _ _ _ 90 rfl 9 92 lawT Tryz.underlying90 (unitElem (H := Unit)) w.heap.size _ D rfl HM5.out hkn _ _ _ rfl rfl HKEY.out uDt [] unitElem_mk ?_; intro w6 hown6 hgrow6; have J6 := Lib.hid (J5.out.put _ hown6 hgrow6); have HJ1 := Lib.hid (joined_one ⟨xA, xc, x⟩ w6 (HX1.out w6 J6.out.bel) HX2.out); clear hown6 hgrow6))
        -- @e
        refine (HJ1.out).mono ?_
        rintro q w7 ⟨v7, rfl, HO7, HB7⟩
        have J7 := Lib.hid (J6.out.later HB7.out)
        obtain ⟨A7, c7, rfl, hoff⟩ := J6.out.off HO7.out (Nat.le_refl _)
        obtain ⟨v8, w8, hrun, J8⟩ := J7.out.app A7 c7 x hoff (by have := HFL.out; omega)
        rw [← HN.out, ← HNK.out] at J8
        generalize x.length = lx at *
        clear HO7 HB7 hoff J7 J6 HJ1
        go_wp2_with (at_builtin; refine Lib.wpList_append_run_sl _ rfl _ _ 22 rfl _ _ rfl rfl hrun ?_)
        go_roundw
        case rel => exact ⟨k + 1, _, _, rfl, by omega, by go_num, J8⟩
        case measure => simp [intOf]; omega
    · obtain rfl : k = n := by omega
      rw [HZ.out] at JK
      have HFIN : Hid (Rows1 w RES (.returned o) wr) := Lib.hid ⟨_, rfl, Lib.hid (JK.out.own.mono (Nat.le_succ _)), Lib.hid JK.out.bel⟩
      clear JK HDL
      go_wp2_with fail
      go_ret
      exact HFIN.out
end Go.Proofs.YtkigddankkoahaaGreatDoor
namespace Go.Proofs.YtkigddankkoahaaGreatDoor
open Go.RowKit
def big4 (vs : List BV.V) : Nat := max (25000 * (vs.length + 1)) (sumS vs)
theorem look_rep {n : List UInt8} {x : SC.Fn} (hx : x ∈ SC.fns) (hn : x.nm = str n) (h : n = fReplace) : x.lo = 3 := by
  subst h
  simp only [SC.fns, List.mem_cons, List.not_mem_nil, or_false] at hx
  rcases hx with rfl | rfl | rfl | rfl | rfl | rfl | rfl | rfl | rfl | rfl | rfl
  all_goals first | rfl | (exfalso; revert hn; decide)
theorem sb_mem {v : BV.V} {l : List BV.V} (hi : ∀ v ∈ l, I64 v) (h : v ∈ l) : Sm (big4 l) v := ⟨hi v h, by have := sumS_mem h; unfold big4; omega⟩
theorem sb_at {l : List BV.V} (hi : ∀ v ∈ l, I64 v) (k : Nat) : Sm (big4 l) (l.getD k zW) := by
  rw [List.getD_eq_getElem?_getD]
  cases hk : l[k]? with
  | none => exact sm_zW _
  | some v => exact sb_mem hi (List.mem_of_getElem? hk)
theorem sb_first {l : List BV.V} (hi : ∀ v ∈ l, I64 v) : Sm (big4 l) (firstV l) := by
  have : firstV l = zW ∨ firstV l ∈ l := by
    clear hi
    induction l with
    | nil => exact .inl rfl
    | cons a l ih =>
      unfold firstV
      split
      · rcases ih with h | h
        · exact .inl h
        · exact .inr (by simp [h])
      · exact .inr (by simp)
  rcases this with h | h
  · rw [h]; exact sm_zW _
  · exact sb_mem hi h
theorem sb_do (n : List UInt8) {l : List BV.V} (hi : ∀ v ∈ l, I64 v) (hs : sumS l ≤ 100000000) (h3 : n = fReplace → 3 ≤ l.length) : Sm (big4 l) (doP n l).2 := by
  have h0 := sb_at hi 0
  have hz : (at0 l).s.size ≤ 100000000 := by
    unfold at0
    rw [List.getD_eq_getElem?_getD]
    cases hk : l[0]? with
    | none => exact Nat.zero_le _
    | some v => have := sumS_mem (List.mem_of_getElem? hk); show v.s.size ≤ _; omega
  unfold doP
  split
  · exact sb_first hi
  split
  · unfold dNullif; simp only; split
    · exact sm_zW _
    · exact h0
  split
  · unfold dAbs; split
    · exact sm_ar _ _ _ _
    · exact h0
  split
  · refine sm_num _ ?_
    unfold BV.cmpI
    split
    · omega
    · split <;> omega
  split
  · exact sm_num _ (by omega)
  split
  · exact ⟨by show (-9223372036854775808 : Int) ≤ 0 ∧ (0 : Int) ≤ _; omega, by show (SC.turnedB _ _).size ≤ _; rw [turnedB_size]; exact h0.2⟩
  split
  · exact ⟨by show (-9223372036854775808 : Int) ≤ 0 ∧ (0 : Int) ≤ _; omega, by show (SC.turnedB _ _).size ≤ _; rw [turnedB_size]; exact h0.2⟩
  split
  · exact ⟨by show (-9223372036854775808 : Int) ≤ 0 ∧ (0 : Int) ≤ _; omega, Nat.le_trans (trimS_size _) h0.2⟩
  split
  · unfold dSubstr; split
    · exact sm_zW _
    · exact ⟨by show (-9223372036854775808 : Int) ≤ 0 ∧ (0 : Int) ≤ _; omega, Nat.le_trans (pc_size _ _ _) h0.2⟩
  split
  · refine sm_num _ ?_
    have h1 := Lib.index_le (at0 l).s.data.toList (at1 l).s.data.toList
    have h2 := Lib.index_ge (at0 l).s.data.toList (at1 l).s.data.toList
    rw [size_list] at h1
    omega
  split
  · rename_i hr
    have hl := h3 hr
    unfold dReplace; split
    · exact h0
    · rename_i h1
      split
      · exact sm_zW _
      · rename_i h2
        refine ⟨by show (-9223372036854775808 : Int) ≤ 0 ∧ (0 : Int) ≤ _; omega, ?_⟩
        have := repl_size h1 h2
        show (⟨_⟩ : ByteArray).size ≤ _
        simp only [ByteArray.size, List.size_toArray]
        unfold big4
        omega
  · exact sm_zW _
theorem sb_call (n : List UInt8) {l : List BV.V} (hi : ∀ v ∈ l, I64 v) (hs : sumS l ≤ 100000000) : Sm (big4 l) (callP n l).2 := by
  unfold callP
  split
  · exact sm_zW _
  · rename_i x hx
    obtain ⟨hm, hn⟩ := look_name hx
    unfold callX
    split
    · exact sm_zW _
    · rename_i h1
      have h3 : n = fReplace → 3 ≤ l.length := fun hr => by
        have hlen := takes_len (fun h => h1 (Or.inl h))
        rw [look_rep hm hn hr] at hlen
        omega
      repeat' split
      all_goals first | exact sm_zW _ | exact sb_do n hi hs h3
theorem deeds_flat (o n : List UInt8) (vs : List BV.V) (hi : ∀ v ∈ vs, I64 v) (hs : sumS vs ≤ 100000000) : Sm (big4 vs) (deedP o n vs).2 := by
  have one : ∀ {f : BV.V → Ans} (_ : ∀ a, Sm (big4 vs) (f a).2), Sm (big4 vs) (one1 f vs).2 := by
    intro f hf
    unfold one1
    split
    · exact hf _
    · exact sm_zW _
  have two : ∀ {f : BV.V → BV.V → Ans} (_ : ∀ a b, Sm (a.s.size + b.s.size) (f a b).2), Sm (big4 vs) (two2 f vs).2 := by
    intro f hf
    unfold two2
    split
    · rename_i a b
      have := hf a b
      exact ⟨this.1, Nat.le_trans this.2 (by simp [big4, sumS]; omega)⟩
    · exact sm_zW _
  refine deed_cases (P := fun a => Sm (big4 vs) a.2) ?_ ?_ ?_ ?_ ?_ ?_ ?_ ?_ ?_ ?_ ?_ ?_ ?_ (sm_zW _) <;> intro _
  · exact one fun a => sm_ar _ _ _ _
  · exact two fun a b => sm_ar _ _ _ _
  · exact two fun a b => sm_jo _ _
  · exact sb_call n hi hs
  · exact one fun a => sm_not _ _
  · exact sm_dec _ _ _
  · exact sm_dec _ _ _
  · exact two fun a b => sm_rel _ _ _ _
  · exact one fun a => sm_tru _ _
  · exact one fun a => sm_tru _ _
  · unfold dIn; split
    · exact sm_zW _
    · exact sm_in _ _ _
  · refine two fun a b => ?_
    unfold dLike
    repeat' split
    all_goals first | exact sm_zW _ | exact sm_tru _ _
  · unfold three3; split
    · unfold dBetween
      repeat' split
      all_goals first | exact sm_zW _ | exact sm_dec _ _ _
    · exact sm_zW _
theorem sumS_flat {r : List BV.V} {l : List E} (h : ∀ x ∈ l, (x.ev deedP r).2.s.size ≤ 25000 * x.size) : sumS (l.map fun x => (x.ev deedP r).2) ≤ 25000 * E.sizeL l := by
  induction l with
  | nil => simp [sumS]
  | cons a l ih =>
    have h1 := h a (by simp)
    have h2 := ih fun x hx => h x (by simp [hx])
    simp only [sumS, List.map_cons, List.sum_cons, E.sizeL, Nat.mul_add] at h2 ⊢
    omega
theorem ev_flat {r : List BV.V} (hr : ∀ v ∈ r, I64 v ∧ v.s.size ≤ 25000) (e : E) : e.size ≤ 1000 → e.ints = true → e.lt = true → I64 (e.ev deedP r).2 ∧ (e.ev deedP r).2.s.size ≤ 25000 * e.size := by
  induction e using E.ind with
  | h o v t n l ih =>
    intro hs hi ht
    simp only [E.size] at hs ⊢
    simp only [E.ints, E.lt, Bool.and_eq_true, decide_eq_true_eq] at hi ht
    have hx : ∀ x ∈ l, I64 (x.ev deedP r).2 ∧ (x.ev deedP r).2.s.size ≤ 25000 * x.size := fun x hx =>
      ih x hx (by have := size_mem hx; omega) (intsL_iff.1 hi.2 x hx) (ltL_iff.1 ht.2 x hx)
    have hsum := sumS_flat (r := r) (l := l) fun x h => (hx x h).2
    have hll := len_size l
    simp only [E.ev]
    by_cases h0 : (E.evL deedP r l).1 = 0
    · rw [if_pos h0, evL_vals h0]
      simp only [opP]
      split
      · exact ⟨hi.1, by show (str v.s).size ≤ _; rw [str_size]; omega⟩
      · split
        · simp only [atP]
          split
          · rename_i h3
            rw [List.getD_eq_getElem?_getD, List.getElem?_eq_getElem (show v.i.toNat < r.length by omega)]
            have := hr _ (List.getElem_mem (show v.i.toNat < r.length by omega))
            exact ⟨this.1, by have := this.2; simp only [Option.getD_some]; omega⟩
          · exact ⟨by show (-9223372036854775808 : Int) ≤ 0 ∧ (0 : Int) ≤ _; omega, Nat.zero_le _⟩
        · have := deeds_flat o n (l.map fun x => (x.ev deedP r).2) (fun u hu => by obtain ⟨x, h, rfl⟩ := List.mem_map.1 hu; exact (hx x h).1) (by omega)
          refine ⟨this.1, ?_⟩
          have h2 := this.2
          unfold big4 at h2
          rw [List.length_map] at h2
          omega
    · rw [if_neg h0]
      exact ⟨by show (-9223372036854775808 : Int) ≤ 0 ∧ (0 : Int) ≤ _; omega, Nat.zero_le _⟩
theorem ev_ok {W : Int} {e : E} (h : okB W e = true) (hin : e.ints = true) {r : List BV.V} (hr : ∀ v ∈ r, I64 v ∧ v.s.size ≤ 25000) (hc : ∀ v ∈ r, v.chk = 0) : (e.ev deedP r).2.ok ∧ (e.ev deedP r).2.chk = 0 := by
  obtain ⟨h1, h2, h3, -⟩ := okB_facts h
  have h4 := ev_flat hr e (by omega) hin (light_lt e h2)
  exact ⟨⟨h4.1.1, h4.1.2, by omega⟩, ev_chk deeds_keep hc W e h3⟩
end Go.Proofs.YtkigddankkoahaaGreatDoor
namespace Go.Proofs.YtkigddankkoahaaGreatDoor
open Go.RowKit
structure Bg (e : E) (l : List (List BV.V)) : Prop where
  many : l.length ≤ 30
  wide : ∀ r ∈ l, r.length ≤ 60
  fit : ∀ r ∈ l, e.fit deedP r
  val : ∀ r ∈ l, (e.ev deedP r).2.ok ∧ (e.ev deedP r).2.chk = 0
theorem bg_of {rs : List BV.R} (h : evOk rs = true) (hi : ∀ r ∈ rs, ∀ v ∈ r.xs, -9223372036854775808 ≤ v.i ∧ v.i ≤ 9223372036854775807) (w : Nat) (hw : w ≤ 5) {e : E} (ho : okB (w : Int) e = true) (hin : e.ints = true) : Bg e ((rs.map BV.R.xs).map (evR w)) := by
  have h0 := ev_of h hi w
  unfold evOk at h
  simp only [Bool.and_eq_true, decide_eq_true_eq] at h
  obtain ⟨⟨-, h2⟩, h3⟩ := h
  unfold BV.few at h2
  simp only [decide_eq_true_eq] at h2
  have hv : ∀ r ∈ (rs.map BV.R.xs).map (evR w), ∀ v ∈ r, (I64 v ∧ v.s.size ≤ 25000) ∧ v.chk = 0 := fun r hr v hv => by
    obtain ⟨x, hx, rfl⟩ := List.mem_map.1 hr
    obtain ⟨q, hq, rfl⟩ := List.mem_map.1 hx
    unfold evR at hv
    rcases List.mem_append.1 hv with hv | hv
    · have hv := List.mem_of_mem_take hv
      have a := rowsN_mem hq
      have b := rowN_mem hv
      have c := List.all_eq_true.1 h3 q hq
      rw [beq_iff_eq] at c
      unfold BV.chkR at c
      split at c
      · rename_i hall
        exact ⟨⟨hi q hq v hv, by omega⟩, by
          have := List.all_eq_true.1 hall v hv
          exact beq_iff_eq.1 this⟩
      · omega
    · rw [List.eq_of_mem_replicate hv]; exact ⟨⟨(sm_zW 0).1, Nat.zero_le _⟩, chk_zW⟩
  exact ⟨h0.many, fun r hr => by rw [h0.wide r hr]; omega, fun r hr => bound_fit ho hin r (h0.ok r hr), fun r hr => ev_ok ho hin (fun v h => (hv r hr v h).1) (fun v h => (hv r hr v h).2)⟩
theorem Bg.perm {e : E} {l m : List (List BV.V)} (h : Bg e l) (hp : l.Perm m) : Bg e m :=
  ⟨by rw [← hp.length_eq]; exact h.many, fun r hr => h.wide r (hp.mem_iff.2 hr), fun r hr => h.fit r (hp.mem_iff.2 hr), fun r hr => h.val r (hp.mem_iff.2 hr)⟩
def eT (e : E) (l : List (List BV.V)) : Int := firstE (l.map (projE [e]))
def gT (e : E) (l : List (List BV.V)) : List (List BV.V) := if eT e l = 0 then groupL [e] (bagA e) l else []
def pT (e : E) (l : List (List BV.V)) : List (List BV.V) := if eT e l = 0 then l.map (projV [e]) else []
theorem eT_perm {e : E} {l m : List (List BV.V)} (hp : l.Perm m) : eT e l = 0 ↔ eT e m = 0 := by
  unfold eT
  rw [proj_errs, proj_errs]
  exact ⟨fun a r hr => a r (hp.mem_iff.2 hr), fun a r hr => a r (hp.mem_iff.1 hr)⟩
theorem gT_perm {e : E} {l m : List (List BV.V)} (B : Bg e l) (hp : l.Perm m) : (gT e l).Perm (gT e m) := by
  unfold gT
  by_cases h : eT e l = 0
  · rw [if_pos h, if_pos ((eT_perm hp).1 h)]
    exact bag_perm hp ((proj_errs e l).1 h) fun r hr => (B.val r hr).2
  · rw [if_neg h, if_neg fun h2 => h ((eT_perm hp).2 h2)]
theorem gT_len {e : E} {l : List (List BV.V)} (B : Bg e l) : (gT e l).length = (distP (pT e l)).length := by
  unfold gT pT
  by_cases h : eT e l = 0
  · rw [if_pos h, if_pos h, bag_len ((proj_errs e l).1 h) fun r hr => (B.val r hr).2, projs_one, dist_one _ fun v hv => by
      obtain ⟨r, hr, rfl⟩ := List.mem_map.1 hv
      exact (B.val r hr).2, List.length_map]
  · rw [if_neg h, if_neg h]
    rfl
theorem pT_len {e : E} {l : List (List BV.V)} : (pT e l).length ≤ l.length := by
  unfold pT
  split
  · rw [List.length_map]; exact Nat.le_refl _
  · exact Nat.zero_le _
theorem pT_row {e : E} {l : List (List BV.V)} (B : Bg e l) : ∀ r ∈ pT e l, r.length ≤ 60 ∧ ∀ v ∈ r, v.ok := fun r hr => by
  unfold pT at hr
  split at hr
  · obtain ⟨x, hx, rfl⟩ := List.mem_map.1 hr
    rw [(proj_one e x).2]
    exact ⟨by simp, fun v hv => by rw [List.mem_singleton] at hv; rw [hv]; exact (B.val x hx).1⟩
  · simp at hr
theorem gT_many {e : E} {l : List (List BV.V)} (B : Bg e l) : (gT e l).length ≤ 30 := by
  rw [gT_len B]
  exact Nat.le_trans (dist_len_le _) (Nat.le_trans pT_len B.many)
theorem told_four (e : E) (g : Gp) : (toldV (bagA e) g).length ≤ 4 := by
  unfold toldV toldL
  rw [List.length_map, List.length_zipWith]
  exact Nat.min_le_left _ _
theorem gT_wide {e : E} {l : List (List BV.V)} (B : Bg e l) : ∀ r ∈ gT e l, r.length ≤ 60 := fun r hr => by
  unfold gT at hr
  split at hr
  · rename_i h
    rw [group_bag ((proj_errs e l).1 h) fun r hr => (B.val r hr).2] at hr
    obtain ⟨x, -, rfl⟩ := List.mem_map.1 hr
    have := told_four e (gOf (cnt (evs e l) x) x)
    rw [List.length_append]
    have h2 : (gOf (cnt (evs e l) x) x).ks.length = 1 := rfl
    omega
  · simp at hr
theorem ask_val (e : E) (r : List BV.V) : ∀ v ∈ askV (bagA e) r, v = oneV ∨ v = zW ∨ v = (e.ev deedP r).2 := fun v hv => by
  unfold askV at hv
  rw [List.map_map] at hv
  obtain ⟨a, ha, rfl⟩ := List.mem_map.1 hv
  have hae : a.star = true ∨ a.e = e := by
    unfold bagA at ha
    simp only [List.mem_cons, List.not_mem_nil, or_false] at ha
    rcases ha with rfl | rfl | rfl | rfl
    · exact .inl rfl
    · exact .inr rfl
    · exact .inr rfl
    · exact .inr rfl
  show (askP a r).2 = oneV ∨ (askP a r).2 = zW ∨ (askP a r).2 = (e.ev deedP r).2
  unfold askP
  by_cases hs : a.star = true
  · rw [if_pos hs]; exact .inl rfl
  · rcases hae with h | h
    · exact absurd h hs
    · rw [if_neg hs, h]
      repeat' split
      all_goals first | exact .inr (.inl rfl) | exact .inr (.inr rfl)
theorem told_E {w : World} {er : Int} {l : List (List BV.V)} {q : Ending} {w' : World} (h : RowsE w er l q w') : Told w er (if er = 0 then l else []) q w' := by
  obtain ⟨v, rfl, ho, hb⟩ := h
  obtain ⟨A, c, rfl, hl⟩ := la_own ho.out
  exact ⟨A, c, rfl, Lib.hid hl, hb⟩
theorem group_la {l : List (List BV.V)} {A K G : Option Addr} {n ca kc gc : Nat} {e : E} {S S' : Nat → Prop} {w : World} (ha : LA w A n ca l) (hs : Sub S w (.mk [] v0 [] [] [e]) K kc) (hg : AgsAt S' w G (bagA e)) (hE : SC.Env w) (hE' : BV.Env w) (B : Bg e l) :
    Calls Tryz.prog 16 #[.slice A n ca, .slice K 1 kc, .slice G 4 gc] w (Told w (eT e l) (gT e l)) := by
  obtain ⟨rs, rfl, h2, -, h3, -⟩ := ha
  have hm : ∀ r ∈ rs, r.xs ∈ l := fun r hr => by rw [← h2]; exact List.mem_map.2 ⟨r, hr, rfl⟩
  have hl : rs.length ≤ 30 := by have := B.many; rw [← h2, List.length_map] at this; exact this
  have h := group_any rs [e] (bagA e) v0 S S' w A K G ca kc gc h3 (by omega) (fun r hr => by have := B.wide _ (hm r hr); omega) hs hg hE hE'
    (fun r hr x hx => by rw [List.mem_singleton] at hx; rw [hx]; exact B.fit _ (hm r hr))
    (fun r hr x hx => by rw [List.mem_singleton] at hx; rw [hx]; exact (B.val _ (hm r hr)).1)
    (fun r hr a ha hst => by
      have hae : a.e = e := by
        unfold bagA at ha
        simp only [List.mem_cons, List.not_mem_nil, or_false] at ha
        rcases ha with rfl | rfl | rfl | rfl
        · exact absurd hst (by decide)
        · rfl
        · rfl
        · rfl
      rw [hae]; exact B.fit _ (hm r hr))
    (fun r hr v hv => by
      rcases ask_val e r.xs v hv with h | h | h
      · rw [h]; exact ⟨by decide, by decide⟩
      · rw [h]; exact ⟨by decide, by decide⟩
      · rw [h]; exact ⟨(B.val _ (hm r hr)).1.1, (B.val _ (hm r hr)).1.2.1⟩) (by simp) (by simp [bagA])
  rw [h2, bag_err] at h
  exact h.mono fun _ _ h => told_E h
theorem project_la {l : List (List BV.V)} {A K : Option Addr} {n ca kc : Nat} {e : E} {S : Nat → Prop} {w : World} (ha : LA w A n ca l) (hs : Sub S w (.mk [] v0 [] [] [e]) K kc) (hE : SC.Env w) (B : Bg e l) :
    Calls Tryz.prog 17 #[.slice A n ca, .slice K 1 kc] w (Told w (eT e l) (pT e l)) := by
  obtain ⟨rs, rfl, h2, -, h3, -⟩ := ha
  have hm : ∀ r ∈ rs, r.xs ∈ l := fun r hr => by rw [← h2]; exact List.mem_map.2 ⟨r, hr, rfl⟩
  have hl : rs.length ≤ 30 := by have := B.many; rw [← h2, List.length_map] at this; exact this
  have h := project_any rs A K ca kc [e] v0 S w h3 hs hE (by omega) (by simp) (fun r hr => by have := B.wide _ (hm r hr); omega) (fun r hr x hx => by rw [List.mem_singleton] at hx; rw [hx]; exact B.fit _ (hm r hr))
  rw [h2] at h
  exact h.mono fun _ _ h => told_E h
theorem dist_la {l : List (List BV.V)} {A : Option Addr} {n ca : Nat} {w : World} (ha : LA w A n ca l) (hE : BV.Env w) (hl : n ≤ 100000) (hr : ∀ r ∈ l, r.length ≤ 60 ∧ ∀ v ∈ r, v.ok) :
    Calls Tryz.prog 18 #[.slice A n ca] w fun q w' => ∃ A' c', q = .returned (.slice A' (distP l).length c') ∧ Hid (Below w.heap.size w w') := by
  obtain ⟨rs, rfl, h2, -, h3, -⟩ := ha
  have hm : ∀ r ∈ rs, r.xs ∈ l := fun r hr => by rw [← h2]; exact List.mem_map.2 ⟨r, hr, rfl⟩
  have h := distinct_any rs A ca w h3 hE hl (fun r h => by have := (hr _ (hm r h)).1; omega) (fun r h => (hr _ (hm r h)).2)
  rw [h2] at h
  refine h.mono ?_
  rintro q w' ⟨v, rfl, ho, hb⟩
  obtain ⟨A', c', rfl, -⟩ := la_own ho.out
  exact ⟨A', c', rfl, hb⟩
theorem ags4 {S : Nat → Prop} {w : World} (e : E) (A1 : Option Addr) (c1 : Nat) (h1 : Sub S w e A1 c1) :
    AgsAt (fun _ => True) (w.alloc (.cells #[.string ⟨#[99, 111, 117, 110, 116]⟩, .bool true, .string ⟨#[]⟩, .int .i64 0, .int .i64 0, .string ⟨#[]⟩, .string ⟨#[]⟩, .string ⟨#[]⟩, .slice none 0 0,
      .string ⟨#[109, 97, 120]⟩, .bool false, .string (str e.op), .int .i64 e.v.k, .int .i64 e.v.i, .string (str e.v.s), .string (str e.tb), .string (str e.nm), .slice A1 e.l.length c1,
      .string ⟨#[109, 105, 110]⟩, .bool false, .string (str e.op), .int .i64 e.v.k, .int .i64 e.v.i, .string (str e.v.s), .string (str e.tb), .string (str e.nm), .slice A1 e.l.length c1,
      .string ⟨#[99, 111, 117, 110, 116]⟩, .bool false, .string (str e.op), .int .i64 e.v.k, .int .i64 e.v.i, .string (str e.v.s), .string (str e.tb), .string (str e.nm), .slice A1 e.l.length c1] 46)) (some ⟨w.heap.size, 0, none⟩) (bagA e) := by
  have hb := bel_allocE (Below.refl w.heap.size w) (.cells #[.string ⟨#[99, 111, 117, 110, 116]⟩, .bool true, .string ⟨#[]⟩, .int .i64 0, .int .i64 0, .string ⟨#[]⟩, .string ⟨#[]⟩, .string ⟨#[]⟩, .slice none 0 0,
      .string ⟨#[109, 97, 120]⟩, .bool false, .string (str e.op), .int .i64 e.v.k, .int .i64 e.v.i, .string (str e.v.s), .string (str e.tb), .string (str e.nm), .slice A1 e.l.length c1,
      .string ⟨#[109, 105, 110]⟩, .bool false, .string (str e.op), .int .i64 e.v.k, .int .i64 e.v.i, .string (str e.v.s), .string (str e.tb), .string (str e.nm), .slice A1 e.l.length c1,
      .string ⟨#[99, 111, 117, 110, 116]⟩, .bool false, .string (str e.op), .int .i64 e.v.k, .int .i64 e.v.i, .string (str e.v.s), .string (str e.tb), .string (str e.nm), .slice A1 e.l.length c1] 46)
  have hh := heap_alloc_new w (.cells #[.string ⟨#[99, 111, 117, 110, 116]⟩, .bool true, .string ⟨#[]⟩, .int .i64 0, .int .i64 0, .string ⟨#[]⟩, .string ⟨#[]⟩, .string ⟨#[]⟩, .slice none 0 0,
      .string ⟨#[109, 97, 120]⟩, .bool false, .string (str e.op), .int .i64 e.v.k, .int .i64 e.v.i, .string (str e.v.s), .string (str e.tb), .string (str e.nm), .slice A1 e.l.length c1,
      .string ⟨#[109, 105, 110]⟩, .bool false, .string (str e.op), .int .i64 e.v.k, .int .i64 e.v.i, .string (str e.v.s), .string (str e.tb), .string (str e.nm), .slice A1 e.l.length c1,
      .string ⟨#[99, 111, 117, 110, 116]⟩, .bool false, .string (str e.op), .int .i64 e.v.k, .int .i64 e.v.i, .string (str e.v.s), .string (str e.tb), .string (str e.nm), .slice A1 e.l.length c1] 46)
  have s1 := (sub_later h1 hb).keep (S' := fun _ => True) (fun _ _ _ => ⟨trivial, rfl⟩) (Nat.le_refl _)
  have hlt := (Array.getElem?_eq_some_iff.1 hh).1
  generalize w.alloc _ = W at *
  refine fun _ => ⟨w.heap.size, 0, rfl, hlt, fun j hj => ?_⟩
  have hj4 : j = 0 ∨ j = 1 ∨ j = 2 ∨ j = 3 := by have : j < 4 := hj; omega
  rcases hj4 with rfl | rfl | rfl | rfl
  · refine ⟨none, 0, ?_, sub_none (fun _ => True) _ _ _ _ _⟩
    refine ⟨?_, ?_, ?_, ?_, ?_, ?_, ?_, ?_, ?_⟩ <;> (rw [Lib.cell_of_heap hh]; rfl)
  all_goals
    refine ⟨A1, c1, ?_, s1⟩
    refine ⟨?_, ?_, ?_, ?_, ?_, ?_, ?_, ?_, ?_⟩ <;> (rw [Lib.cell_of_heap hh]; rfl)
end Go.Proofs.YtkigddankkoahaaGreatDoor
