/- What deedOf tells does what the words say, in memory. Conditions: values are not too great; the library's one variable is there. -/
import Derived.Test.YtcmbdghbicjljaaGreatDoorQ22
import Derived.Test.YtcmbdghbicjljaaGreatDoorQ04
import Derived.Test.YtcmbdghbicjljaaGreatDoorQ17
import Derived.Test.YtcmbdghbicjljaaGreatDoorQ08
import Derived.Test.YtcmbdghbicjljaaGreatDoorQ24
import Derived.Deep.Upon
import Derived.Lib.SlFresh
import Derived.Lib.SliceRun
import Derived.Test.YtcmbdghbicjljaaGreatDoorQ09
import Derived.Shelf.Abstract
import Derived.Deep.RegionWith
set_option linter.unusedSimpArgs false
set_option linter.unusedVariables false
namespace Go.Proofs.YtcmbdghbicjljaaGreatDoor
open Go.RowKit
open Go.Proofs.YtcmbdghbicjljaaGreatDoor.SC (HV VBox zero_box Args)
set_option maxRecDepth 100000 in
theorem dvCall (g h : Nat) (n : List UInt8) (vs : List BV.V) (w : World) (hA : Args w g vs) (hs : SBox w h (str n)) (hm : vs.length ≤ 2000) (hE : SC.Env w) (hf : AllFit vs) :
    Calls Tryz.prog 52 #[.slice (some ⟨g, 0, none⟩) vs.length vs.length, .pointer (some ⟨h, 0, none⟩)] w fun e w' => e = .returned (vA (callP n vs)) ∧ Below w.heap.size w w' := by
  have HZ := Lib.hid (zero_box w)
  have h1 := hA.later HZ.out.below
  have c0 := (hs.later HZ.out.below).cell
  have HA := Lib.hid (call_any n vs g _ h1 hm (hE.later HZ.out.below) hf)
  generalize callP n vs = an at *
  obtain ⟨er, uk, ui, us⟩ := an
  unfold vA at *
  simp only at HA ⊢
  clear hA h1 hs hm hE hf
  generalize vs.length = k at *
  generalize str n = bn at *
  go_enter Tryz.func52, Tryz.ntmps52
  go_wp2_with fail
  refine (HA.out).mono ?_
  rintro e w2 ⟨rfl, b2⟩
  have P2 := Lib.hid (HZ.out.call b2)
  obtain ⟨g0, g1, g2⟩ := P2.out.box.cells
  obtain ⟨f0, f1, f2⟩ := P2.out.box.free
  simp only [SC.zV] at g0 g1 g2
  clear b2 c0
  go_wp2_with fail
  exact bodyPost_ret (v := .tuple #[.agg #[.int .i64 uk, .int .i64 ui, .string us], .int .i64 er]) (by simp [results, Tryz.results52, go_sem, g0, g1, g2]) rfl ⟨rfl, set3_new P2.out.below _ _ _⟩
theorem opP_lit (d : Deeds) (n : List UInt8) (v : BV.V) (r vs : List BV.V) : opP d wLit n (ofV v) r vs = (0, v) := by rw [opP, if_pos rfl, toV_ofV]
theorem opP_at (d : Deeds) (n : List UInt8) (v : BV.V) (r vs : List BV.V) : opP d wAt n (ofV v) r vs = atP r v.i := by rw [opP, if_neg (by decide), if_pos rfl]; rfl
theorem opP_other (d : Deeds) {o : List UInt8} (n : List UInt8) (v : Vl) (r vs : List BV.V) (h1 : o ≠ wLit) (h2 : o ≠ wAt) : opP d o n v r vs = d o n vs := by rw [opP, if_neg h1, if_neg h2]
theorem dp_wNeg (n : List UInt8) (vs : List BV.V) : deedP wNeg n vs = one1 dNeg vs := by
  unfold deedP
  rw [if_pos rfl]
theorem dp_ar {o : List UInt8} (n : List UInt8) (vs : List BV.V) (h : o ∈ arOps) : deedP o n vs = two2 (fun a b => (SC.arE (str o) a b, SC.arV (str o) a b)) vs := by
  unfold deedP
  rw [if_neg (by revert h; simp only [arOps, relOps, List.mem_cons, List.not_mem_nil, or_false]; rintro (rfl | rfl | rfl | rfl | rfl) <;> decide)]
  rw [if_pos h]
theorem dp_wJoin (n : List UInt8) (vs : List BV.V) : deedP wJoin n vs = two2 (fun a b => (SC.joE a b, SC.joV a b)) vs := by
  unfold deedP
  rw [if_neg (by decide)]
  rw [if_neg (by decide)]
  rw [if_pos rfl]
theorem dp_wCall (n : List UInt8) (vs : List BV.V) : deedP wCall n vs = callP n vs := by
  unfold deedP
  rw [if_neg (by decide)]
  rw [if_neg (by decide)]
  rw [if_neg (by decide)]
  rw [if_pos rfl]
theorem dp_wNot (n : List UInt8) (vs : List BV.V) : deedP wNot n vs = one1 (fun a => (LG.ctL [a], LG.notV a)) vs := by
  unfold deedP
  rw [if_neg (by decide)]
  rw [if_neg (by decide)]
  rw [if_neg (by decide)]
  rw [if_neg (by decide)]
  rw [if_pos rfl]
theorem dp_wAnd (n : List UInt8) (vs : List BV.V) : deedP wAnd n vs = (LG.ctL vs, LG.decV false vs) := by
  unfold deedP
  rw [if_neg (by decide)]
  rw [if_neg (by decide)]
  rw [if_neg (by decide)]
  rw [if_neg (by decide)]
  rw [if_neg (by decide)]
  rw [if_pos rfl]
theorem dp_wOr (n : List UInt8) (vs : List BV.V) : deedP wOr n vs = (LG.ctL vs, LG.decV true vs) := by
  unfold deedP
  rw [if_neg (by decide)]
  rw [if_neg (by decide)]
  rw [if_neg (by decide)]
  rw [if_neg (by decide)]
  rw [if_neg (by decide)]
  rw [if_neg (by decide)]
  rw [if_pos rfl]
theorem dp_rel {o : List UInt8} (n : List UInt8) (vs : List BV.V) (h : o ∈ relOps) : deedP o n vs = two2 (fun a b => (LG.relE (str o) a b, LG.relR (str o) a b)) vs := by
  unfold deedP
  rw [if_neg (by revert h; simp only [arOps, relOps, List.mem_cons, List.not_mem_nil, or_false]; rintro (rfl | rfl | rfl | rfl | rfl | rfl) <;> decide)]
  rw [if_neg (by revert h; simp only [arOps, relOps, List.mem_cons, List.not_mem_nil, or_false]; rintro (rfl | rfl | rfl | rfl | rfl | rfl) <;> decide)]
  rw [if_neg (by revert h; simp only [arOps, relOps, List.mem_cons, List.not_mem_nil, or_false]; rintro (rfl | rfl | rfl | rfl | rfl | rfl) <;> decide)]
  rw [if_neg (by revert h; simp only [arOps, relOps, List.mem_cons, List.not_mem_nil, or_false]; rintro (rfl | rfl | rfl | rfl | rfl | rfl) <;> decide)]
  rw [if_neg (by revert h; simp only [arOps, relOps, List.mem_cons, List.not_mem_nil, or_false]; rintro (rfl | rfl | rfl | rfl | rfl | rfl) <;> decide)]
  rw [if_neg (by revert h; simp only [arOps, relOps, List.mem_cons, List.not_mem_nil, or_false]; rintro (rfl | rfl | rfl | rfl | rfl | rfl) <;> decide)]
  rw [if_neg (by revert h; simp only [arOps, relOps, List.mem_cons, List.not_mem_nil, or_false]; rintro (rfl | rfl | rfl | rfl | rfl | rfl) <;> decide)]
  rw [if_pos h]
theorem dp_wIsnull (n : List UInt8) (vs : List BV.V) : deedP wIsnull n vs = one1 (fun a => (0, tru (a.k == 0))) vs := by
  unfold deedP
  rw [if_neg (by decide)]
  rw [if_neg (by decide)]
  rw [if_neg (by decide)]
  rw [if_neg (by decide)]
  rw [if_neg (by decide)]
  rw [if_neg (by decide)]
  rw [if_neg (by decide)]
  rw [if_neg (by decide)]
  rw [if_pos rfl]
theorem dp_wNotnull (n : List UInt8) (vs : List BV.V) : deedP wNotnull n vs = one1 (fun a => (0, tru (a.k != 0))) vs := by
  unfold deedP
  rw [if_neg (by decide)]
  rw [if_neg (by decide)]
  rw [if_neg (by decide)]
  rw [if_neg (by decide)]
  rw [if_neg (by decide)]
  rw [if_neg (by decide)]
  rw [if_neg (by decide)]
  rw [if_neg (by decide)]
  rw [if_neg (by decide)]
  rw [if_pos rfl]
theorem dp_wIn (n : List UInt8) (vs : List BV.V) : deedP wIn n vs = dIn vs := by
  unfold deedP
  rw [if_neg (by decide)]
  rw [if_neg (by decide)]
  rw [if_neg (by decide)]
  rw [if_neg (by decide)]
  rw [if_neg (by decide)]
  rw [if_neg (by decide)]
  rw [if_neg (by decide)]
  rw [if_neg (by decide)]
  rw [if_neg (by decide)]
  rw [if_neg (by decide)]
  rw [if_pos rfl]
theorem dp_wLike (n : List UInt8) (vs : List BV.V) : deedP wLike n vs = two2 dLike vs := by
  unfold deedP
  rw [if_neg (by decide)]
  rw [if_neg (by decide)]
  rw [if_neg (by decide)]
  rw [if_neg (by decide)]
  rw [if_neg (by decide)]
  rw [if_neg (by decide)]
  rw [if_neg (by decide)]
  rw [if_neg (by decide)]
  rw [if_neg (by decide)]
  rw [if_neg (by decide)]
  rw [if_neg (by decide)]
  rw [if_pos rfl]
theorem dp_wBetween (n : List UInt8) (vs : List BV.V) : deedP wBetween n vs = three3 dBetween vs := by
  unfold deedP
  rw [if_neg (by decide)]
  rw [if_neg (by decide)]
  rw [if_neg (by decide)]
  rw [if_neg (by decide)]
  rw [if_neg (by decide)]
  rw [if_neg (by decide)]
  rw [if_neg (by decide)]
  rw [if_neg (by decide)]
  rw [if_neg (by decide)]
  rw [if_neg (by decide)]
  rw [if_neg (by decide)]
  rw [if_neg (by decide)]
  rw [if_pos rfl]
theorem dp_none {o : List UInt8} (n : List UInt8) (vs : List BV.V) (h : o ∉ [wLit, wAt, wNeg] ++ arOps ++ [wJoin, wCall, wNot, wAnd, wOr] ++ relOps ++ [wIsnull, wNotnull, wIn, wLike, wBetween]) : o ≠ wLit ∧ o ≠ wAt ∧ deedP o n vs = (1, zW) := by
  simp only [List.mem_append, List.mem_cons, List.not_mem_nil, or_false, not_or] at h
  obtain ⟨⟨⟨⟨⟨h1, h2, h3⟩, h4⟩, h5, h6, h7, h8, h9⟩, h10⟩, h11, h12, h13, h14, h15⟩ := h
  refine ⟨h1, h2, ?_⟩
  unfold deedP
  rw [if_neg h3, if_neg h4, if_neg h5, if_neg h6, if_neg h7, if_neg h8, if_neg h9, if_neg h10, if_neg h11, if_neg h12, if_neg h13, if_neg h14, if_neg h15]
theorem ar_not {o : List UInt8} (h : o ∈ arOps) : o ≠ wLit ∧ o ≠ wAt := by
  simp only [arOps, List.mem_cons, List.not_mem_nil, or_false] at h
  rcases h with rfl | rfl | rfl | rfl | rfl <;> decide
theorem rel_not {o : List UInt8} (h : o ∈ relOps) : o ≠ wLit ∧ o ≠ wAt := by
  simp only [relOps, List.mem_cons, List.not_mem_nil, or_false] at h
  rcases h with rfl | rfl | rfl | rfl | rfl | rfl <;> decide
theorem dk_runs (o n : List UInt8) (v : BV.V) (A : Option Addr) (r : List BV.V) (c : Nat) (W : World) (fv : Value) (g : Nat) (vs : List BV.V) (h : DK W o n v A r.length c fv) (hA : Args W g vs) (hm : vs.length ≤ 2000) (hf : AllFit vs) (_hv : I64 v) (hE : SC.Env W) (hr : BV.RowAt W W.heap.size A r) (h5 : r.length ≤ 100000) : Runs W fv g vs.length (opP deedP o n (ofV v) r vs) := by
  cases h with
  | lit g' ho hb =>
    subst ho
    rw [opP_lit]
    exact ⟨_, _, rfl, Proofs.enters_of Tryz.func43 (by kernel_rfl) rfl, dvLit _ g' v W hb⟩
  | «at» g' h' ho hb hb' =>
    subst ho
    rw [opP_at]
    exact ⟨_, _, rfl, Proofs.enters_of Tryz.func44 (by kernel_rfl) rfl, dvAt _ g' h' A c r v W hb hb' hr (by omega)⟩
  | neg g' ho hb =>
    subst ho
    rw [opP_other _ _ _ _ _ (by decide) (by decide), dp_wNeg]
    exact ⟨_, _, rfl, Proofs.enters_of Tryz.func81 (by kernel_rfl) rfl, oneNeg g' g dNeg vs W hb hA fun a he W' _ => SC.neg_any a W' (hf a (by rw [he]; simp)).1⟩
  | ar g' h' ho hb hs =>
    rw [opP_other _ _ _ _ _ (ar_not ho).1 (ar_not ho).2, dp_ar _ _ ho]
    exact ⟨_, _, rfl, Proofs.enters_of Tryz.func83 (by kernel_rfl) rfl, twoAr g' g h' _ vs W hb hA fun a b he W' hb' => dvArith h' (str o) a b W' (hs.later hb') (hf a (by rw [he]; simp)).1 (hf b (by rw [he]; simp)).1⟩
  | jo g' ho hb =>
    subst ho
    rw [opP_other _ _ _ _ _ (by decide) (by decide), dp_wJoin]
    exact ⟨_, _, rfl, Proofs.enters_of Tryz.func83 (by kernel_rfl) rfl, twoJo g' g _ vs W hb hA fun a b he W' _ => SC.join_any a b W' (by have := (hf a (by rw [he]; simp)).2; omega) (by have := (hf b (by rw [he]; simp)).2; omega)⟩
  | call h' ho hs =>
    subst ho
    rw [opP_other _ _ _ _ _ (by decide) (by decide), dp_wCall]
    exact ⟨_, _, rfl, Proofs.enters_of Tryz.func52 (by kernel_rfl) rfl, dvCall g h' n vs W hA hs hm hE hf⟩
  | not g' ho hb =>
    subst ho
    rw [opP_other _ _ _ _ _ (by decide) (by decide), dp_wNot]
    exact ⟨_, _, rfl, Proofs.enters_of Tryz.func81 (by kernel_rfl) rfl, oneNot g' g _ vs W hb hA fun a he W' _ => LG.not_any a W'⟩
  | and ho =>
    subst ho
    rw [opP_other _ _ _ _ _ (by decide) (by decide), dp_wAnd]
    exact ⟨_, _, rfl, Proofs.enters_of Tryz.func55 (by kernel_rfl) rfl, dvAnd g vs W hA hm⟩
  | or ho =>
    subst ho
    rw [opP_other _ _ _ _ _ (by decide) (by decide), dp_wOr]
    exact ⟨_, _, rfl, Proofs.enters_of Tryz.func57 (by kernel_rfl) rfl, dvOr g vs W hA hm⟩
  | rel g' h' ho hb hs =>
    rw [opP_other _ _ _ _ _ (rel_not ho).1 (rel_not ho).2, dp_rel _ _ ho]
    exact ⟨_, _, rfl, Proofs.enters_of Tryz.func83 (by kernel_rfl) rfl, twoRel g' g h' _ vs W hb hA fun a b he W' hb' => dvRel h' (str o) a b W' (hs.later hb')⟩
  | isn g' ho hb =>
    subst ho
    rw [opP_other _ _ _ _ _ (by decide) (by decide), dp_wIsnull]
    exact ⟨_, _, rfl, Proofs.enters_of Tryz.func81 (by kernel_rfl) rfl, oneIsn g' g _ vs W hb hA fun a he W' _ => dvIsnull a W'⟩
  | non g' ho hb =>
    subst ho
    rw [opP_other _ _ _ _ _ (by decide) (by decide), dp_wNotnull]
    exact ⟨_, _, rfl, Proofs.enters_of Tryz.func81 (by kernel_rfl) rfl, oneNon g' g _ vs W hb hA fun a he W' _ => dvNotnull a W'⟩
  | isin ho =>
    subst ho
    rw [opP_other _ _ _ _ _ (by decide) (by decide), dp_wIn]
    exact ⟨_, _, rfl, Proofs.enters_of Tryz.func64 (by kernel_rfl) rfl, dvIn g vs W hA hm⟩
  | like g' ho hb =>
    subst ho
    rw [opP_other _ _ _ _ _ (by decide) (by decide), dp_wLike]
    exact ⟨_, _, rfl, Proofs.enters_of Tryz.func83 (by kernel_rfl) rfl, twoLike g' g _ vs W hb hA fun a b he W' _ => dvLike a b W' (hf a (by rw [he]; simp)).2 (hf b (by rw [he]; simp)).2⟩
  | btw ho =>
    subst ho
    rw [opP_other _ _ _ _ _ (by decide) (by decide), dp_wBetween]
    exact ⟨_, _, rfl, Proofs.enters_of Tryz.func66 (by kernel_rfl) rfl, dvBetween g vs W hA⟩
  | none ho =>
    obtain ⟨h1, h2, h3⟩ := dp_none n vs ho
    rw [opP_other _ _ _ _ _ h1 h2, h3]
    exact ⟨_, _, rfl, Proofs.enters_of Tryz.func67 (by kernel_rfl) rfl, refuse_any _ W⟩
theorem evalE_any (r : List BV.V) (hr5 : r.length ≤ 100000) (e : E) (x : Value) (S : Nat → Prop) (w : World) (A : Option Addr) (c : Nat) (hx : EAt S w e x) (hr : BV.RowAt w w.heap.size A r) (hE : SC.Env w) (hf : e.fit deedP r) :
    Calls Tryz.prog 11 #[x, .slice A r.length c] w fun q w' => q = .returned (vA (e.ev deedP r)) ∧ Below w.heap.size w w' :=
  eval_any deedP dk_runs r hr5 e x S w A c hx hr hE hf
end Go.Proofs.YtcmbdghbicjljaaGreatDoor
namespace Go.Proofs.YtcmbdghbicjljaaGreatDoor
open Go.RowKit
theorem lit_fit (d : Deeds) (r : List BV.V) (v : BV.V) (h : Fit8 v) : (lit (ofV v)).fit d r := ⟨Nat.zero_le _, h.1, trivial⟩
theorem fd_fit (d : Deeds) (r : List BV.V) (e : E) : e.fit d r → e.fit d [] → Fit8 (e.ev d []).2 → (e.fd d).fit d r := by
  induction e using E.ind with
  | h o v t n l ih =>
    rintro ⟨h1, h2, h3⟩ ⟨g1, g2, g3⟩ hf
    have he : (E.mk o v t n (E.fdL d l)).ev d [] = (E.mk o v t n l).ev d [] := by
      have : E.evL d [] (E.fdL d l) = E.evL d [] l := by rw [fdL_map]; exact evL_congr fun x _ => fd_ev d [] x
      simp only [E.ev, this]
    rw [E.fd]
    split
    · rw [he]; exact lit_fit d r _ hf
    · refine ⟨by rw [fdL_len]; exact h1, h2, fitL_iff.2 fun y hy => ?_⟩
      rw [fdL_map] at hy
      obtain ⟨x, hx, rfl⟩ := List.mem_map.1 hy
      have a1 := fitL_iff.1 h3 x hx
      have a2 := fitL_iff.1 g3 x hx
      exact ⟨ih x hx a1.1 a2.1 a2.2, by rw [fd_ev]; exact a1.2⟩
theorem fdm_fit (d : Deeds) (r : List BV.V) (o : List UInt8) (v : Vl) (t n : List UInt8) (l : List E) (h : (E.mk o v t n l).fit d r) (g : (E.mk o v t n l).fit d []) : (E.mk o v t n (l.map (E.fd d))).fit d r := by
  obtain ⟨h1, h2, h3⟩ := h
  obtain ⟨-, -, g3⟩ := g
  refine ⟨by rw [List.length_map]; exact h1, h2, fitL_iff.2 fun y hy => ?_⟩
  obtain ⟨x, hx, rfl⟩ := List.mem_map.1 hy
  have a1 := fitL_iff.1 h3 x hx
  have a2 := fitL_iff.1 g3 x hx
  exact ⟨fd_fit d r x a1.1 a2.1 a2.2, by rw [fd_ev]; exact a1.2⟩
theorem fit_part {d : Deeds} {r : List BV.V} {o : List UInt8} {v : Vl} {t n : List UInt8} {l : List E} (h : (E.mk o v t n l).fit d r) (x : E) (hx : x ∈ l) : x.fit d r := (fitL_iff.1 h.2.2 x hx).1
end Go.Proofs.YtcmbdghbicjljaaGreatDoor
namespace Go.Proofs.YtcmbdghbicjljaaGreatDoor
open Go.RowKit
def atE (i : Int) : E := .mk wAt ⟨2, i, []⟩ [] [] []
def nmE (i : Int) : E := lit ⟨2, i, []⟩
def exOne : E := op1 [43] [atE 0, nmE 1]
def exZero : E := op1 [47] [nmE 1, nmE 0]
def exTwo : E := op1 [61] [exZero, lit v0]
def exThree : E := op1 [43] [atE 0, op1 [42] [nmE 2, nmE 3]]
def exFour : E := op1 [43] [atE 0, nmE 6]
theorem arI (o : List UInt8) (h : ¬ SC.opk (str o) = 0) (x y : Int) : SC.arE (str o) (nuV x) (nuV y) = SC.numE (SC.opk (str o)) x y ∧ SC.arV (str o) (nuV x) (nuV y) = if SC.numE (SC.opk (str o)) x y = 0 then nuV (SC.numR (SC.opk (str o)) x y) else zW :=
  SC.ar_num h (by simp [BV.allOk, chk_num]) (by simp [SC.okK, nuV, SC.fitsK]) (by simp [SC.nulB, nuV])
theorem opk_s (o : List UInt8) : SC.opk (str o) = if o == [43] then 1 else if o == [45] then 2 else if o == [42] then 3 else if o == [47] then 4 else if o == [37] then 5 else 0 := by
  unfold SC.opk
  simp only [Lib.toList_data, str_list]
theorem ev_nm (r : List BV.V) (i : Int) : (nmE i).ev deedP r = (0, nuV i) := by
  rw [nmE, lit_ev]
  rfl
theorem ev_at (r : List BV.V) (i : Int) : (atE i).ev deedP r = atP r i := by simp [atE, E.ev, E.evL, opP, wAt, wLit]
theorem ev_two (o : List UInt8) (r : List BV.V) (a b : E) (x y : BV.V) (h1 : o ≠ wLit) (h2 : o ≠ wAt) (ha : a.ev deedP r = (0, x)) (hb : b.ev deedP r = (0, y)) : (op1 o [a, b]).ev deedP r = deedP o [] [x, y] := by
  simp [op1, E.ev, E.evL, ha, hb, opP, h1, h2]
theorem ev_bad (o : List UInt8) (r : List BV.V) (a b : E) (er : Int) (z : BV.V) (ha : a.ev deedP r = (er, z)) (h : er ≠ 0) : (op1 o [a, b]).ev deedP r = (er, zW) := by
  simp [op1, E.ev, E.evL, ha, h]
theorem dp_arI (o : List UInt8) (ho : o ∈ arOps) (x y : Int) : deedP o [] [nuV x, nuV y] = (SC.arE (str o) (nuV x) (nuV y), SC.arV (str o) (nuV x) (nuV y)) := dp_ar [] _ ho
theorem ex_plus (r : List BV.V) (a b : E) (x y : Int) (ha : a.ev deedP r = (0, nuV x)) (hb : b.ev deedP r = (0, nuV y)) (h : SC.numE 1 x y = 0) : (op1 [43] [a, b]).ev deedP r = (0, nuV (SC.numR 1 x y)) := by
  rw [ev_two _ _ _ _ _ _ (by decide) (by decide) ha hb, dp_arI _ (by decide)]
  obtain ⟨h1, h2⟩ := arI [43] (by rw [opk_s]; decide) x y
  rw [h1, h2, show SC.opk (str [43]) = 1 by rw [opk_s]; decide, h, if_pos rfl]
theorem ex_one : exOne.ev deedP [nuV 2] = (0, nuV 3) := by
  rw [exOne, ex_plus [nuV 2] _ _ 2 1 (by rw [ev_at]; rfl) (ev_nm _ _) (by decide)]
  rfl
theorem ex_zero (r : List BV.V) : exZero.ev deedP r = (31, zW) := by
  rw [exZero, ev_two _ _ _ _ _ _ (by decide) (by decide) (ev_nm _ _) (ev_nm _ _), dp_arI _ (by decide)]
  obtain ⟨h1, h2⟩ := arI [47] (by rw [opk_s]; decide) 1 0
  rw [h1, h2, show SC.opk (str [47]) = 4 by rw [opk_s]; decide]
  rfl
theorem ex_two (r : List BV.V) : exTwo.ev deedP r = (31, zW) := ev_bad _ _ _ _ 31 zW (ex_zero r) (by decide)
theorem ex_mul : (op1 [42] [nmE 2, nmE 3]).ev deedP [] = (0, nuV 6) := by
  rw [ev_two _ _ _ _ _ _ (by decide) (by decide) (ev_nm _ _) (ev_nm _ _), dp_arI _ (by decide)]
  obtain ⟨h1, h2⟩ := arI [42] (by rw [opk_s]; decide) 2 3
  rw [h1, h2, show SC.opk (str [42]) = 3 by rw [opk_s]; decide]
  rfl
theorem of_nu (i : Int) : ofV (nuV i) = ⟨2, i, []⟩ := rfl
theorem fd_nm (i : Int) : (nmE i).fd deedP = nmE i := by
  have h : (E.mk wLit ⟨2, i, []⟩ [] [] []).ev deedP [] = (0, nuV i) := ev_nm [] i
  rw [nmE, lit, E.fd, show E.fdL deedP [] = [] from rfl, h, if_pos rfl, of_nu]
  rfl
theorem at_none (i : Int) : atP [] i = (1, zW) := if_neg (by rintro ⟨a, b⟩; simp at b; omega)
theorem fd_at (i : Int) : (atE i).fd deedP = atE i := by
  have h : (E.mk wAt ⟨2, i, []⟩ [] [] []).ev deedP [] = (1, zW) := (ev_at [] i).trans (at_none i)
  rw [atE, E.fd, show E.fdL deedP [] = [] from rfl, h, if_neg (by decide)]
theorem fd_two (o : List UInt8) (a b a' b' : E) (ha : a.fd deedP = a') (hb : b.fd deedP = b') : (op1 o [a, b]).fd deedP = if ((op1 o [a', b']).ev deedP []).1 = 0 then lit (ofV ((op1 o [a', b']).ev deedP []).2) else op1 o [a', b'] := by
  rw [op1, E.fd, show E.fdL deedP [a, b] = [a', b'] by simp [E.fdL, ha, hb]]
  rfl
theorem fd_zero : exZero.fd deedP = exZero := by
  rw [exZero, fd_two _ _ _ _ _ (fd_nm 1) (fd_nm 0), show (op1 [47] [nmE 1, nmE 0]).ev deedP [] = (31, zW) from ex_zero [], if_neg (by decide)]
theorem fd_three : exThree.fd deedP = exFour := by
  have hm : (op1 [42] [nmE 2, nmE 3]).fd deedP = nmE 6 := by
    rw [fd_two _ _ _ _ _ (fd_nm 2) (fd_nm 3), ex_mul, if_pos rfl, of_nu]
    rfl
  rw [exThree, fd_two _ _ _ _ _ (fd_at 0) hm, show (op1 [43] [atE 0, nmE 6]).ev deedP [] = (1, zW) from ev_bad _ _ _ _ 1 zW ((ev_at [] 0).trans (at_none 0)) (by decide), if_neg (by decide)]
  rfl
theorem fit_small (r : List BV.V) (hr : ∀ v ∈ r, (-9223372036854775808 ≤ v.i ∧ v.i ≤ 9223372036854775807) ∧ v.s.size ≤ 100000) (e : E) (h1 : e.size ≤ 1000) (h2 : e.ints = true) (h3 : e.lt = true) : e.fit deedP r := (ev_fit deeds_small hr e h1 h2 h3).1
theorem may_nm (i : Int) : Vl.may ⟨2, i, []⟩ = true := by simp [Vl.may, str, BV.mayB, emp_nil]
theorem ck_three : chkW 9223372036854775807 exThree = 0 := by
  rw [chkW_ok]
  refine ⟨?_, by decide⟩
  simp only [exThree, op1, atE, nmE, lit, E.good, E.goodL, may_nm, placeB]
  decide
theorem ck_zero : chkW 9223372036854775807 exZero = 0 := by
  rw [chkW_ok]
  refine ⟨?_, by decide⟩
  simp only [exZero, op1, nmE, lit, E.good, E.goodL, may_nm]
  decide
theorem ck_at : chkW 1 (atE 1) = 1 := by decide
end Go.Proofs.YtcmbdghbicjljaaGreatDoor
namespace Go.Proofs.YtcmbdghbicjljaaGreatDoor
open Go.RowKit
def LBox (w : World) (g : Nat) (rs : List Rw) : Prop := ∃ cur : Array Value, w.heap[g]? = some (.cells cur 26 (0, 0)) ∧ cur.toList.take (rs.length * 7) = flatE rs
theorem LBox.lt {w : World} {g : Nat} {rs : List Rw} (h : LBox w g rs) : g < w.heap.size := by
  obtain ⟨cur, h1, -⟩ := h
  exact (Array.getElem?_eq_some_iff.1 h1).1
theorem LBox.same {w w' : World} {g : Nat} {rs : List Rw} (h : LBox w g rs) (hb : w'.heap[g]? = w.heap[g]?) : LBox w' g rs := by
  obtain ⟨cur, h1, h2⟩ := h
  exact ⟨cur, hb.trans h1, h2⟩
theorem LBox.later {w w' : World} {g : Nat} {rs : List Rw} (h : LBox w g rs) (hb : Below w.heap.size w w') : LBox w' g rs := h.same (hb.block g h.lt)
theorem LBox.free {w : World} {g : Nat} {rs : List Rw} (h : LBox w g rs) (o : Nat) : w.frozen? ⟨g, o, none⟩ = false := by
  obtain ⟨cur, h1, -⟩ := h
  exact Lib.frozen_of_heap h1 o
theorem LBox.at {w : World} {g : Nat} {rs : List Rw} (h : LBox w g rs) (j t : Nat) (hj : j < rs.length) (ht : t < 7) : w.cell? ⟨g, j * 7 + t, none⟩ = (rowCells rs[j])[t]? := by
  obtain ⟨cur, h1, h2⟩ := h
  rw [Lib.cell_of_heap h1, ← flatE_get rs j t hj ht, ← h2, List.getElem?_take]
  rw [if_pos (by have : j * 7 + t < rs.length * 7 := by omega
                 exact this)]
  simp
theorem LBox.cells {w : World} {g : Nat} {rs : List Rw} (h : LBox w g rs) (j : Nat) (hj : j < rs.length) : Cells7 w g (j * 7) rs[j].1 rs[j].2.1 rs[j].2.2 :=
  ⟨h.at j 0 hj (by omega), h.at j 1 hj (by omega), h.at j 2 hj (by omega), h.at j 3 hj (by omega), h.at j 4 hj (by omega), h.at j 5 hj (by omega), h.at j 6 hj (by omega)⟩
theorem flatE_set (rs : List Rw) (k : Nat) (r : Rw) (hk : k < rs.length) : flatE (rs.set k r) = (((((((flatE rs).set (k * 7) (.string (str r.1.op))).set (k * 7 + 1) (.int .i64 r.1.v.k)).set (k * 7 + 2) (.int .i64 r.1.v.i)).set (k * 7 + 3) (.string (str r.1.v.s))).set (k * 7 + 4) (.string (str r.1.tb))).set (k * 7 + 5) (.string (str r.1.nm))).set (k * 7 + 6) (.slice r.2.1 r.1.l.length r.2.2) := by
  induction rs generalizing k with
  | nil => simp at hk
  | cons a l ih =>
    cases k with
    | zero => rfl
    | succ k =>
      show rowCells a ++ flatE (l.set k r) = _
      rw [ih k (by simpa using hk)]
      show _ = (((((((rowCells a ++ flatE l).set ((k + 1) * 7) _).set ((k + 1) * 7 + 1) _).set ((k + 1) * 7 + 2) _).set ((k + 1) * 7 + 3) _).set ((k + 1) * 7 + 4) _).set ((k + 1) * 7 + 5) _).set ((k + 1) * 7 + 6) _
      have e : ∀ t u (m : List Value), (rowCells a ++ m).set ((k + 1) * 7 + t) u = rowCells a ++ m.set (k * 7 + t) u := fun t u m => by
        rw [show (k + 1) * 7 + t = (k * 7 + t) + 7 by omega]
        rfl
      have e0 : ∀ u (m : List Value), (rowCells a ++ m).set ((k + 1) * 7) u = rowCells a ++ m.set (k * 7) u := fun u m => e 0 u m
      simp only [e, e0]
theorem LBox.set {w : World} {g : Nat} {rs : List Rw} (h : LBox w g rs) (k : Nat) (r : Rw) (hk : k < rs.length) :
    LBox (((((((w.setCell ⟨g, k * 7, none⟩ (.string (str r.1.op))).setCell ⟨g, k * 7 + 1, none⟩ (.int .i64 r.1.v.k)).setCell ⟨g, k * 7 + 2, none⟩ (.int .i64 r.1.v.i)).setCell ⟨g, k * 7 + 3, none⟩ (.string (str r.1.v.s))).setCell ⟨g, k * 7 + 4, none⟩ (.string (str r.1.tb))).setCell ⟨g, k * 7 + 5, none⟩ (.string (str r.1.nm))).setCell ⟨g, k * 7 + 6, none⟩ (.slice r.2.1 r.1.l.length r.2.2)) g (rs.set k r) := by
  obtain ⟨cur, h1, h2⟩ := h
  refine ⟨_, heap_set_same _ (heap_set_same _ (heap_set_same _ (heap_set_same _ (heap_set_same _ (heap_set_same _ (heap_set_same _ h1)))))), ?_⟩
  rw [List.length_set, flatE_set rs k r hk, ← h2]
  simp only [Array.toList_setIfInBounds, List.take_set]
set_option maxRecDepth 100000 in
set_option maxHeartbeats 2000000 in
theorem evClone (rs : List Rw) (A : Option Addr) (c : Nat) (w : World) (hc : 0 < rs.length → ∃ g off, A = some ⟨g, off, none⟩ ∧ g < w.heap.size ∧ ∀ j (hj : j < rs.length), Cells7 w g (off + j * 7) rs[j].1 rs[j].2.1 rs[j].2.2) (hm : rs.length ≤ 100000) :
    Calls Tryz.prog 76 #[.slice A rs.length c] w fun e w' => ∃ A2 c2, e = .returned (.slice A2 rs.length c2) ∧ rs.length ≤ c2 ∧ c2 ≤ maxLen ∧ (0 < rs.length → ∃ g, A2 = some ⟨g, 0, none⟩ ∧ w.heap.size ≤ g ∧ LBox w' g rs) ∧ Below w.heap.size w w' := by
  cases A with
  | none =>
    have hx : rs.length = 0 := by
      rcases Nat.eq_zero_or_pos rs.length with h | h
      · exact h
      · obtain ⟨g, off, h1, -⟩ := hc h
        cases h1
    have hx := List.eq_nil_of_length_eq_zero hx
    subst hx
    have E1 : ∀ w, (binOp .eql 24 (.slice none 0 c) (.slice none 0 0)).run Tryz.prog w = .ok (.bool true) w := fun w => Lib.run_eql_slice_nil w 24 26 none 0 c 0 0 Tryz.underlying24
    show Calls Tryz.prog 76 #[.slice none 0 c] w _
    go_enter Tryz.func76, Tryz.ntmps76
    go_wp2_with fail
    go_ret
    exact ⟨none, 0, rfl, Nat.le_refl _, by unfold maxLen; omega, fun h => by simp at h, Below.refl _ _⟩
  | some a =>
    have hi0 : (Tryz.prog.info? 26).map (fun i => (i.zero, i.size, i.bytes)) = some (some (.agg #[.string ⟨#[]⟩, .int .i64 0, .int .i64 0, .string ⟨#[]⟩, .string ⟨#[]⟩, .string ⟨#[]⟩, .slice none 0 0]), 7, 104) := by kernel_rfl
    obtain ⟨i0, hi, hz0, hz1, hz2⟩ : ∃ i, Tryz.prog.info? 26 = some i ∧ i.zero = some (.agg #[.string ⟨#[]⟩, .int .i64 0, .int .i64 0, .string ⟨#[]⟩, .string ⟨#[]⟩, .string ⟨#[]⟩, .slice none 0 0]) ∧ i.size = 7 ∧ i.bytes = 104 := by
      cases hq : Tryz.prog.info? 26 with
      | none => rw [hq] at hi0; cases hi0
      | some i =>
        rw [hq] at hi0
        simp only [Option.map_some, Option.some.injEq, Prod.mk.injEq] at hi0
        exact ⟨i, rfl, hi0.1, hi0.2.1, hi0.2.2⟩
    have E1 : ∀ w, (binOp .eql 24 (.slice (some a) rs.length c) (.slice none 0 0)).run Tryz.prog w = .ok (.bool false) w := fun w => Lib.run_eql_slice_nil w 24 26 (some a) rs.length c 0 0 Tryz.underlying24
    have hb1 := (Below.refl w.heap.size w).alloc (Nat.le_refl _) (.cells #[] 26)
    have hown : (w.alloc (.cells #[] 26)).ownsRow w.heap.size 26 7 (.slice (some ⟨w.heap.size, 0, none⟩) 0 0) 0 [] :=
      ⟨rfl, .inr ⟨w.heap.size, 0, #[], rfl, Nat.le_refl _, heap_alloc_new w _, Nat.le_refl _, by unfold maxLen; omega, rfl, rfl⟩⟩
    have HR : Hid (∃ v w', (Builtin.append_ #[24, 24] 24 #[.slice (some ⟨w.heap.size, 0, none⟩) 0 0, .slice (some a) rs.length c]).run Tryz.prog (w.alloc (.cells #[] 26)) = .ok v w' ∧ (∃ A2 c2, v = .slice A2 rs.length c2 ∧ rs.length ≤ c2 ∧ c2 ≤ maxLen ∧ (0 < rs.length → ∃ g, A2 = some ⟨g, 0, none⟩ ∧ w.heap.size ≤ g ∧ LBox w' g rs) ∧ Below w.heap.size w w')) := by
      rcases Nat.eq_zero_or_pos rs.length with h0 | h0
      · have hx := List.eq_nil_of_length_eq_zero h0
        subst hx
        refine ⟨_, _, run_append_nothing (P := Tryz.prog) (w.alloc (.cells #[] 26)) 24 24 24 26 i0 Tryz.underlying24 hi _ 0 0 (Nat.le_refl _) _ (Src.ofSlice _ Tryz.underlying24 a 0 c [] (by simp) (by intro j u h; simp at h) (by simp)), ?_⟩
        exact ⟨_, _, rfl, Nat.le_refl _, by unfold maxLen; omega, fun h => by simp at h, hb1⟩
      · obtain ⟨g, off, hA, hlt, hcell⟩ := hc h0
        injection hA with hA
        subst hA
        have hcs : ∀ j u, (flatE rs)[j]? = some u → (w.alloc (.cells #[] 26)).cell? ((⟨g, off, none⟩ : Addr).add j) = some u := by
          intro j u hu
          have hj := (List.getElem?_eq_some_iff.1 hu).1
          rw [flatE_len] at hj
          have hd : j = j / 7 * 7 + j % 7 := by omega
          have hk : j / 7 < rs.length := by omega
          rw [hd, flatE_get rs (j / 7) (j % 7) hk (by omega)] at hu
          rw [WideShapes.add_plain]
          obtain ⟨d0, d1, d2, d3, d4, d5, d6⟩ := hcell (j / 7) hk
          have hce : ∀ t, t < 7 → w.cell? ⟨g, off + j / 7 * 7 + t, none⟩ = (rowCells rs[j / 7])[t]? := by
            intro t ht
            match t, ht with
            | 0, _ => exact d0
            | 1, _ => exact d1
            | 2, _ => exact d2
            | 3, _ => exact d3
            | 4, _ => exact d4
            | 5, _ => exact d5
            | 6, _ => exact d6
          have := hce (j % 7) (by omega)
          rw [show off + j / 7 * 7 + j % 7 = off + j by omega] at this
          exact ((hb1.cell (p := ⟨g, off + j, none⟩) hlt).trans this).trans hu
        obtain ⟨v', w', h1, h2, h3, -⟩ := run_append_own (P := Tryz.prog) (w.alloc (.cells #[] 26)) w.heap.size 24 24 26 i0 _ 7 104 Tryz.underlying24 hi hz0 hz1 hz2 rfl (by decide) _ 0 [] hown ⟨g, off, none⟩ rs.length c (flatE rs) (by rw [flatE_len]) hcs (flatE_one rs) (by unfold maxLen; omega) (by omega) (by simp)
        refine ⟨v', w', h1, ?_⟩
        rcases h2.2 with ⟨-, hn⟩ | ⟨g', cap, cur, hv, hg, hgg, hn, hcap, hcs', htk⟩
        · omega
        · simp only [Nat.zero_add, List.nil_append] at hv hn htk
          refine ⟨_, _, hv, hn, hcap, fun _ => ⟨g', rfl, hg, cur, hgg, htk⟩, ?_⟩
          exact hb1.trans ((Below.refl w.heap.size (w.alloc (.cells #[] 26))).grown h3 (by simp) (fun k hk => (hown.lt k hk).1))
    obtain ⟨v, w2, hrun, hC⟩ := HR.out
    have HC := Lib.hid hC
    clear HR hC hc hown hb1
    generalize rs.length = n at *
    go_enter Tryz.func76, Tryz.ntmps76
    go_wp2_with (at_builtin; refine Lib.wpList_append_run_sl _ rfl _ _ 24 rfl _ _ rfl rfl hrun ?_)
    go_wp2_with fail
    go_ret
    obtain ⟨A2, c2, rfl, h⟩ := HC.out
    exact ⟨A2, c2, rfl, h⟩
end Go.Proofs.YtcmbdghbicjljaaGreatDoor
namespace Go.Proofs.YtcmbdghbicjljaaGreatDoor
open Go.RowKit
def Turns (w : World) (k : Nat) (cap : Array Value) (p fe : E) : Prop := ∀ (x : Value) (S : Nat → Prop) (W : World), Below w.heap.size w W → EAt S W p x → Calls Tryz.prog k (#[x] ++ cap) W fun q w' => ∃ A c, q = .returned (eVal fe.op fe.v fe.tb fe.nm (.slice A fe.l.length c)) ∧ Sub (fun b => W.heap.size ≤ b) w' fe A c ∧ Below W.heap.size W w'
theorem but7 {w : World} {g b : Nat} (hne : b ≠ g) (o0 o1 o2 o3 o4 o5 o6 : Nat) (u0 u1 u2 u3 u4 u5 u6 : Value) : (((((((w.setCell ⟨g, o0, none⟩ u0).setCell ⟨g, o1, none⟩ u1).setCell ⟨g, o2, none⟩ u2).setCell ⟨g, o3, none⟩ u3).setCell ⟨g, o4, none⟩ u4).setCell ⟨g, o5, none⟩ u5).setCell ⟨g, o6, none⟩ u6).heap[b]? = w.heap[b]? := by
  rw [Below.heap_setCell _ _ _ _ hne, Below.heap_setCell _ _ _ _ hne, Below.heap_setCell _ _ _ _ hne, Below.heap_setCell _ _ _ _ hne, Below.heap_setCell _ _ _ _ hne, Below.heap_setCell _ _ _ _ hne, Below.heap_setCell _ _ _ _ hne]
theorem bel7 {B : Nat} {a w : World} {g : Nat} (h : Below B a w) (hB : B ≤ g) (o0 o1 o2 o3 o4 o5 o6 : Nat) (u0 u1 u2 u3 u4 u5 u6 : Value) : Below B a (((((((w.setCell ⟨g, o0, none⟩ u0).setCell ⟨g, o1, none⟩ u1).setCell ⟨g, o2, none⟩ u2).setCell ⟨g, o3, none⟩ u3).setCell ⟨g, o4, none⟩ u4).setCell ⟨g, o5, none⟩ u5).setCell ⟨g, o6, none⟩ u6) :=
  (((((((h.setCell (p := ⟨g, o0, none⟩) hB _).setCell (p := ⟨g, o1, none⟩) hB _).setCell (p := ⟨g, o2, none⟩) hB _).setCell (p := ⟨g, o3, none⟩) hB _).setCell (p := ⟨g, o4, none⟩) hB _).setCell (p := ⟨g, o5, none⟩) hB _).setCell (p := ⟨g, o6, none⟩) hB _)
theorem b7set6 {w : World} {b : Nat} {c0 c1 c2 c3 c4 c5 c6 : Value} (h : B7 w b c0 c1 c2 c3 c4 c5 c6) (u : Value) : B7 (w.setCell ⟨b, 6, none⟩ u) b c0 c1 c2 c3 c4 c5 u := by
  have := heap_set_same u (o := 6) h
  unfold B7
  simpa only [List.setIfInBounds_toArray, List.set_cons_zero, List.set_cons_succ] using this
structure WP (w wr : World) (l : List E) (f : E → E) (g : Nat) (k : Nat) (rs : List Rw) : Prop where
  len : rs.length = l.length
  done : ∀ j (hj : j < l.length) (hj' : j < rs.length), j < k → rs[j].1 = f l[j] ∧ Sub (fun b => w.heap.size + 1 + 1 ≤ b ∧ b ≠ g) wr rs[j].1 rs[j].2.1 rs[j].2.2
  left : ∀ j (hj : j < l.length) (hj' : j < rs.length), k ≤ j → rs[j].1 = l[j] ∧ Sub (fun b => b < w.heap.size) wr rs[j].1 rs[j].2.1 rs[j].2.2
theorem WP.next {w wr w6 W7 : World} {l : List E} {f : E → E} {g k : Nat} {rs : List Rw} (h : WP w wr l f g k rs) (hk : k < l.length) (hb : Below wr.heap.size wr w6) (h7 : ∀ b, b ≠ g → W7.heap[b]? = w6.heap[b]?) (hz : w6.heap.size = W7.heap.size) {fe : E} {A6 : Option Addr} {c6 : Nat} (hfe : f l[k] = fe) {N : Nat} (hs6 : Sub (fun b => N ≤ b) w6 fe A6 c6) (hN : g < N) (hNw : w.heap.size + 1 + 1 ≤ N) (hg : w.heap.size ≤ g) : WP w W7 l f g (k + 1) (rs.set k (fe, A6, c6)) where
  len := by rw [List.length_set]; exact h.len
  done j hj hj' hlt := by
    rw [List.length_set] at hj'
    rcases Nat.lt_or_ge j k with h' | h'
    · obtain ⟨h1, h2⟩ := h.done j hj hj' h'
      rw [List.getElem_set_ne (by omega)]
      exact ⟨h1, h2.keep (fun b hb' hlt => ⟨hb', (h7 b hb'.2).trans (hb.block b hlt)⟩) (by rw [← hz]; exact hb.size)⟩
    · obtain rfl : j = k := by omega
      rw [List.getElem_set_self]
      exact ⟨hfe.symm, hs6.keep (fun b hb' hlt => ⟨⟨Nat.le_trans hNw hb', by have : N ≤ b := hb'; omega⟩, h7 b (by have : N ≤ b := hb'; omega)⟩) (by rw [hz]; exact Nat.le_refl _)⟩
  left j hj hj' hlt := by
    rw [List.length_set] at hj'
    obtain ⟨h1, h2⟩ := h.left j hj hj' (by omega)
    rw [List.getElem_set_ne (by omega)]
    exact ⟨h1, h2.keep (fun b hb' hlt => ⟨hb', (h7 b (by have : b < w.heap.size := hb'; omega)).trans (hb.block b hlt)⟩) (by rw [← hz]; exact hb.size)⟩
theorem WP.sub {w wr W : World} {l : List E} {f : E → E} {g k : Nat} {rs : List Rw} (h : WP w wr l f g k rs) (hk : k = l.length) (hg : w.heap.size ≤ g) (hl : LBox wr g rs) (hW : ∀ b, w.heap.size + 1 + 1 ≤ b → W.heap[b]? = wr.heap[b]?) (hg2 : w.heap.size + 1 + 1 ≤ g) (hz : wr.heap.size = W.heap.size) (o : List UInt8) (v : Vl) (t n : List UInt8) (c2 : Nat) (hn : l.length ≤ c2) (hc : c2 ≤ maxLen)
    (hS : ∀ j (hj : j < rs.length), Sub (fun b => w.heap.size + 1 + 1 ≤ b) wr rs[j].1 rs[j].2.1 rs[j].2.2) : Sub (fun b => w.heap.size ≤ b) W (.mk o v t n (l.map f)) (some ⟨g, 0, none⟩) c2 := by
  refine ⟨by rw [List.length_map]; exact hn, hc, fun h0 => ⟨g, 0, rfl, hg, by rw [← hz]; exact hl.lt, LCells.of fun j hj => ?_⟩⟩
  rw [List.length_map] at hj
  have hj' : j < rs.length := by rw [h.len]; exact hj
  obtain ⟨h1, -⟩ := h.done j hj hj' (by omega)
  have hc7 := (hl.cells j hj').same (hW g hg2)
  have hs := (hS j hj').keep (S' := fun b => w.heap.size ≤ b) (w' := W) (fun b hb _ => ⟨by have : w.heap.size + 1 + 1 ≤ b := hb; omega, hW b hb⟩) (by rw [hz]; exact Nat.le_refl _)
  refine ⟨rs[j].2.1, rs[j].2.2, ?_, ?_⟩
  · rw [List.getElem_map, ← h1, Nat.zero_add]; exact hc7
  · rw [List.getElem_map, ← h1]; exact hs
set_option maxRecDepth 100000 in
set_option maxHeartbeats 8000000 in
theorem withParts_any (f : E → E) (kf : Nat) (cap : Array Value) (hent : Proofs.Enters Tryz.prog kf) (o : List UInt8) (v : Vl) (t n : List UInt8) (l : List E) (S : Nat → Prop) (A : Option Addr) (c : Nat) (w : World) (hsub : Sub S w (.mk o v t n l) A c) (hm : l.length ≤ 100000)
    (hf : ∀ p ∈ l, Turns w kf cap p (f p)) :
    Calls Tryz.prog 37 #[eVal o v t n (.slice A l.length c), .func (.func kf) #[] cap] w fun q w' => ∃ A' c', q = .returned (eVal o v t n (.slice A' l.length c')) ∧ Sub (fun b => w.heap.size ≤ b) w' (.mk o v t n (l.map f)) A' c' ∧ Below w.heap.size w w' := by
  have hlim := hsub.keep (S' := fun b => b < w.heap.size) (fun k _ hk => ⟨hk, rfl⟩) (Nat.le_refl _)
  obtain ⟨hlc, hcm, hmem⟩ := hlim
  -- the list as rows
  obtain ⟨rs0, hl0, hrs0, hc0⟩ : ∃ rs : List Rw, rs.length = l.length ∧ (∀ j (hj : j < l.length) (hj' : j < rs.length), rs[j].1 = l[j] ∧ Sub (fun b => b < w.heap.size) w rs[j].1 rs[j].2.1 rs[j].2.2) ∧ (0 < rs.length → ∃ g off, A = some ⟨g, off, none⟩ ∧ g < w.heap.size ∧ ∀ j (hj : j < rs.length), Cells7 w g (off + j * 7) rs[j].1 rs[j].2.1 rs[j].2.2) := by
    rcases Nat.eq_zero_or_pos l.length with h0 | h0
    · exact ⟨[], h0.symm, fun j hj _ => by omega, fun h => by simp at h⟩
    · obtain ⟨g, off, hA, -, hg, hl⟩ := hmem h0
      have hp : ∀ i, i < l.length → ∃ a : Option Addr × Nat, ∀ (hi : i < l.length), Cells7 w g (off + i * 7) l[i] a.1 a.2 ∧ Sub (fun b => b < w.heap.size) w l[i] a.1 a.2 := fun i hi => by
        obtain ⟨A', c', h1, h2⟩ := hl.get i hi
        exact ⟨(A', c'), fun _ => ⟨h1, h2⟩⟩
      obtain ⟨aa, has, hp⟩ := list_pick hp
      refine ⟨l.zip aa, by simp [has], fun j hj hj' => ?_, fun _ => ⟨g, off, hA, hg, fun j hj => ?_⟩⟩
      · have := hp j (by omega) (by omega)
        simp only [List.getElem_zip]
        exact ⟨trivial, this.2⟩
      · have hj1 : j < l.length := by simp [has] at hj; exact hj
        have := hp j (by omega) hj1
        simp only [List.getElem_zip]
        exact this.1
  have HCL := Lib.hid (fun W (hb : Below w.heap.size w W) => evClone rs0 A c W (fun h => by
    obtain ⟨g, off, h1, h2, h3⟩ := hc0 h
    exact ⟨g, off, h1, Nat.lt_of_lt_of_le h2 hb.size, fun j hj => (h3 j hj).same (hb.block g h2)⟩) (by omega))
  have HF := Lib.hid (fun (k : Nat) (hk : k < l.length) => hf l[k] (List.getElem_mem hk))
  have HL0 := Lib.hid hl0
  have HRS := Lib.hid hrs0
  rw [hl0] at HCL
  simp only [eVal]
  generalize str o = bo at *
  generalize str t = bt at *
  generalize str n = bn at *
  generalize hbs : str v.s = bs at *
  generalize hvk : v.k = vk at *
  generalize hvi : v.i = vi at *
  have hb0 := (Below.refl w.heap.size w).alloc (Nat.le_refl _) (.cells #[.string bo, .int .i64 vk, .int .i64 vi, .string bs, .string bt, .string bn, .slice A l.length c] 26)
  have z0 : (w.alloc (.cells #[.string bo, .int .i64 vk, .int .i64 vi, .string bs, .string bt, .string bn, .slice A l.length c] 26)).heap.size = w.heap.size + 1 := by simp
  have q0 := B7.made w (.string bo) (.int .i64 vk) (.int .i64 vi) (.string bs) (.string bt) (.string bn) (.slice A l.length c)
  have hb1' := (Below.refl (w.alloc (.cells #[.string bo, .int .i64 vk, .int .i64 vi, .string bs, .string bt, .string bn, .slice A l.length c] 26)).heap.size (w.alloc (.cells #[.string bo, .int .i64 vk, .int .i64 vi, .string bs, .string bt, .string bn, .slice A l.length c] 26))).alloc (Nat.le_refl _) (.cells #[.string ⟨#[]⟩, .int .i64 0, .int .i64 0, .string ⟨#[]⟩, .string ⟨#[]⟩, .string ⟨#[]⟩, .slice none 0 0] 26)
  have q1 := q0.later hb1'
  have p1 := B7.made (w.alloc (.cells #[.string bo, .int .i64 vk, .int .i64 vi, .string bs, .string bt, .string bn, .slice A l.length c] 26)) (.string ⟨#[]⟩) (.int .i64 0) (.int .i64 0) (.string ⟨#[]⟩) (.string ⟨#[]⟩) (.string ⟨#[]⟩) (.slice none 0 0)
  rw [z0] at p1
  have hb1 := bthen hb0 hb1'
  have z1 : ((w.alloc (.cells #[.string bo, .int .i64 vk, .int .i64 vi, .string bs, .string bt, .string bn, .slice A l.length c] 26)).alloc (.cells #[.string ⟨#[]⟩, .int .i64 0, .int .i64 0, .string ⟨#[]⟩, .string ⟨#[]⟩, .string ⟨#[]⟩, .slice none 0 0] 26)).heap.size = w.heap.size + 1 + 1 := by simp
  obtain ⟨W1, hW1⟩ : ∃ W1 : World, W1 = (w.alloc (.cells #[.string bo, .int .i64 vk, .int .i64 vi, .string bs, .string bt, .string bn, .slice A l.length c] 26)).alloc (.cells #[.string ⟨#[]⟩, .int .i64 0, .int .i64 0, .string ⟨#[]⟩, .string ⟨#[]⟩, .string ⟨#[]⟩, .slice none 0 0] 26) := ⟨_, rfl⟩
  rw [← hW1] at q1 p1 hb1 z1
  have HW1 := Lib.hid hW1
  have Q1 := Lib.hid q1
  have P1 := Lib.hid p1
  have B1 := Lib.hid hb1
  have Z1 := Lib.hid z1
  have HCL' := Lib.hid (HCL.out W1 hb1)
  obtain ⟨x0, x1, x2, x3, x4, x5, x6⟩ := q1.cells
  clear hf hlc hcm hmem hsub hrs0 hc0 hl0 hb0 z0 q0 hb1' q1 p1 hb1 z1 hW1 HCL
  go_enter Tryz.func37, Tryz.ntmps37
  go_wp2_with (rw [← HW1.out])
  refine (HCL'.out).mono ?_
  rintro e w2 ⟨A2, c2, rfl, hn2, hc2, hg2, b2⟩
  have q2 := Q1.out.later b2
  obtain ⟨x0, x1, x2, x3, x4, x5, x6⟩ := q2.cells
  obtain ⟨f0, f1, f2, f3, f4, f5, f6⟩ := q2.free
  obtain ⟨W3, hW3⟩ : ∃ W3 : World, W3 = w2.setCell ⟨w.heap.size, 6, none⟩ (.slice A2 l.length c2) := ⟨_, rfl⟩
  have q3 := b7set6 q2 (.slice A2 l.length c2)
  have p2 := P1.out.later b2
  have p3 := p2.same (w' := W3) (by rw [hW3]; exact Below.heap_setCell _ _ _ _ (by show w.heap.size + 1 ≠ w.heap.size; omega))
  have b3 : Below w.heap.size w W3 := by rw [hW3]; exact (bthen B1.out b2).setCell (p := ⟨w.heap.size, 6, none⟩) (Nat.le_refl _) _
  have z3 : W3.heap.size = w2.heap.size := by rw [hW3]; simp
  rw [← hW3] at q3
  have zb := b2.size
  have hg3 : 0 < l.length → ∃ g, A2 = some ⟨g, 0, none⟩ ∧ W1.heap.size ≤ g ∧ LBox W3 g rs0 := fun h => by
    obtain ⟨g, h1, h2, h3⟩ := hg2 h
    refine ⟨g, h1, h2, h3.same ?_⟩
    rw [hW3]
    exact Below.heap_setCell _ _ _ _ (by show g ≠ w.heap.size; have := Z1.out; omega)
  obtain ⟨g2, hgg⟩ : ∃ g2, 0 < l.length → A2 = some ⟨g2, 0, none⟩ ∧ W1.heap.size ≤ g2 ∧ LBox W3 g2 rs0 := by
    rcases Nat.eq_zero_or_pos l.length with h | h
    · exact ⟨0, fun h' => by omega⟩
    · obtain ⟨g, h'⟩ := hg3 h
      exact ⟨g, fun _ => h'⟩
  have HW3 := Lib.hid hW3
  have Q3 := Lib.hid q3
  have P3 := Lib.hid p3
  have B3 := Lib.hid b3
  have GG := Lib.hid hgg
  have HN2 := Lib.hid hn2
  have HC2 := Lib.hid hc2
  obtain ⟨y0, y1, y2, y3, y4, y5, y6⟩ := q3.cells
  clear hgg hg3 hg2 q3 p2 p3 b3 z3 zb b2 q2 hW3 HCL' hn2 hc2
  go_wp2_with (rw [← HW3.out])
  clear x0 x1 x2 x3 x4 x5 x6 f0 f1 f2 f3 f4 f5 f6 y0 y1 y2 y3 y4 y5 y6
  go_loopw [14] (fun iv wr => ∃ (k : Nat) (rs : List Rw), k ≤ l.length ∧ iv = .int .i64 k ∧ Hid (WP w wr l f g2 k rs) ∧ Hid (0 < l.length → A2 = some ⟨g2, 0, none⟩ ∧ W1.heap.size ≤ g2 ∧ LBox wr g2 rs) ∧ Hid (B7 wr w.heap.size (.string bo) (.int .i64 vk) (.int .i64 vi) (.string bs) (.string bt) (.string bn) (.slice A2 l.length c2)) ∧ Hid (B7 wr (w.heap.size + 1) (.string ⟨#[]⟩) (.int .i64 0) (.int .i64 0) (.string ⟨#[]⟩) (.string ⟨#[]⟩) (.string ⟨#[]⟩) (.slice none 0 0)) ∧ Hid (Below w.heap.size w wr)) (fun iv _ => l.length - (intOf iv).toNat)
  case atStart =>
    refine ⟨0, rs0, Nat.zero_le _, rfl, ⟨HL0.out, fun j hj hj' h => by omega, fun j hj hj' _ => ?_⟩, GG.out, Q3.out, P3.out, B3.out⟩
    obtain ⟨h1, h2⟩ := HRS.out j hj hj'
    exact ⟨h1, h2.keep (fun k hk _ => ⟨hk, B3.out.block k hk⟩) B3.out.size⟩
  case round =>
    obtain ⟨k, rs, hk, rfl, HP, HG, HQ, HPz, HB⟩ := hrel
    by_cases hlt : k < l.length
    · have hkr : k < rs.length := by rw [HP.out.len]; exact hlt
      obtain ⟨rfl, hgz, hlb⟩ := HG.out (by omega)
      have hkz : (k : Int) < (l.length : Int) := by omega
      obtain ⟨g0, g1, g2', g3, g4, g5, g6⟩ := hlb.cells k hkr
      obtain ⟨he, hs⟩ := HP.out.left k hlt hkr (Nat.le_refl _)
      obtain ⟨Wa, Wb, hWa, hWb, b1, b2, hz, hb1, hb2⟩ := made7 wr (.string (str rs[k].1.op)) (.int .i64 rs[k].1.v.k) (.int .i64 rs[k].1.v.i) (.string (str rs[k].1.v.s)) (.string (str rs[k].1.tb)) (.string (str rs[k].1.nm)) (.slice rs[k].2.1 rs[k].1.l.length rs[k].2.2)
      have hBb := bthen HB.out hb2
      have hE : EAt (fun b => b < w.heap.size) Wb.drew l[k] (eVal rs[k].1.op rs[k].1.v rs[k].1.tb rs[k].1.nm (.slice rs[k].2.1 rs[k].1.l.length rs[k].2.2)) := by
        rw [← he]
        exact ⟨rs[k].2.1, rs[k].2.2, rfl, hs.keep (fun b hb hlt => ⟨hb, hb2.drew.block b hlt⟩) hb2.drew.size⟩
      have HC := Lib.hid (HF.out k hlt _ _ Wb.drew hBb.drew hE)
      have HB2 := Lib.hid hBb
      have HQ2 := Lib.hid (HQ.out.later hb2)
      have HPz2 := Lib.hid (HPz.out.later hb2)
      have HLB := Lib.hid (hlb.later hb2)
      have HPb := Lib.hid b2
      have HWa := Lib.hid hWa
      have HWb := Lib.hid hWb
      have HGZ := Lib.hid hgz
      have HBR := Lib.hid hb2
      have HKR := Lib.hid hkr
      obtain ⟨f10, f11, f12, f13, f14, f15, f16⟩ := b1.free
      obtain ⟨p10, p11, p12, p13, p14, p15, p16⟩ := b1.cells
      unfold eVal at HC
      generalize hfe : f l[k] = fe at *
      have HFE := Lib.hid hfe
      generalize str rs[k].1.op = bo' at *
      generalize str rs[k].1.tb = bt' at *
      generalize str rs[k].1.nm = bn' at *
      generalize str rs[k].1.v.s = bs' at *
      generalize rs[k].1.v.k = vk' at *
      generalize rs[k].1.v.i = vi' at *
      generalize rs[k].1.l.length = ln' at *
      generalize rs[k].2.1 = A5 at *
      generalize rs[k].2.2 = c5 at *
      clear hWa hWb hlb hs he hE b1 b2 hb1 hb2 hBb hgz hkr hfe
      have hen : ∀ (args : Array Value) (w : World), (callFunc kf args).run Tryz.prog w = .ok (.enter kf args) w := hent
      go_wp2_with (first | (rw [← HWb.out]) | (rw [← HWa.out]))
      clear f10 f11 f12 f13 f14 f15 f16 p10 p11 p12 p13 p14 p15 p16
      obtain ⟨y0, y1, y2, y3, y4, y5, y6⟩ := HQ2.out.cells
      obtain ⟨p0, p1, p2, p3, p4, p5, p6⟩ := HPb.out.cells
      have HNF : Hid (g2 ≠ w.heap.size) := by show g2 ≠ w.heap.size; have := HGZ.out; have := Z1.out; omega
      clear y0 y1 y2 y3 y4 y5
      go_region_with (go_at_fn kf; go_must (refine (HC.out).mono ?_); rintro e w6 ⟨A6, c6, rfl, hs6, hb6⟩; have HS6 := Lib.hid hs6; have HB6 := Lib.hid (bthen ((Below.refl Wb.heap.size Wb).drew) hb6); have LB6 := HLB.out.later HB6.out; obtain ⟨d0, d1, d2, d3, d4, d5, d6⟩ := LB6.cells k HKR.out; have e0 := LB6.free (k * 7); have e1 := LB6.free (k * 7 + 1); have e2 := LB6.free (k * 7 + 2); have e3 := LB6.free (k * 7 + 3); have e4 := LB6.free (k * 7 + 4); have e5 := LB6.free (k * 7 + 5); have e6 := LB6.free (k * 7 + 6); have z6 := (HQ2.out.later HB6.out).cells.2.2.2.2.2.2; clear hs6 hb6 LB6)
      all_goals
        have hB6 := HB6.out
        have hgz := HGZ.out
        have hz1 := Z1.out
        have lb7 := (HLB.out.later hB6).set k (fe, A6, c6) HKR.out
        have bl7 := bel7 (bthen HB2.out hB6) (show w.heap.size ≤ g2 by omega) (k * 7) (k * 7 + 1) (k * 7 + 2) (k * 7 + 3) (k * 7 + 4) (k * 7 + 5) (k * 7 + 6) (.string (str fe.op)) (.int .i64 fe.v.k) (.int .i64 fe.v.i) (.string (str fe.v.s)) (.string (str fe.tb)) (.string (str fe.nm)) (.slice A6 fe.l.length c6)
        have ot7 := fun b (hb : b ≠ g2) => but7 (w := w6) hb (k * 7) (k * 7 + 1) (k * 7 + 2) (k * 7 + 3) (k * 7 + 4) (k * 7 + 5) (k * 7 + 6) (.string (str fe.op)) (.int .i64 fe.v.k) (.int .i64 fe.v.i) (.string (str fe.v.s)) (.string (str fe.tb)) (.string (str fe.nm)) (.slice A6 fe.l.length c6)
        have zz7 : (((((((w6.setCell ⟨g2, k * 7, none⟩ (.string (str fe.op))).setCell ⟨g2, k * 7 + 1, none⟩ (.int .i64 fe.v.k)).setCell ⟨g2, k * 7 + 2, none⟩ (.int .i64 fe.v.i)).setCell ⟨g2, k * 7 + 3, none⟩ (.string (str fe.v.s))).setCell ⟨g2, k * 7 + 4, none⟩ (.string (str fe.tb))).setCell ⟨g2, k * 7 + 5, none⟩ (.string (str fe.nm))).setCell ⟨g2, k * 7 + 6, none⟩ (.slice A6 fe.l.length c6)).heap.size = w6.heap.size := by simp only [size_setCell]
        change LBox (((((((w6.setCell ⟨g2, k * 7, none⟩ (.string (str fe.op))).setCell ⟨g2, k * 7 + 1, none⟩ (.int .i64 fe.v.k)).setCell ⟨g2, k * 7 + 2, none⟩ (.int .i64 fe.v.i)).setCell ⟨g2, k * 7 + 3, none⟩ (.string (str fe.v.s))).setCell ⟨g2, k * 7 + 4, none⟩ (.string (str fe.tb))).setCell ⟨g2, k * 7 + 5, none⟩ (.string (str fe.nm))).setCell ⟨g2, k * 7 + 6, none⟩ (.slice A6 fe.l.length c6)) g2 _ at lb7
        generalize (((((((w6.setCell ⟨g2, k * 7, none⟩ (.string (str fe.op))).setCell ⟨g2, k * 7 + 1, none⟩ (.int .i64 fe.v.k)).setCell ⟨g2, k * 7 + 2, none⟩ (.int .i64 fe.v.i)).setCell ⟨g2, k * 7 + 3, none⟩ (.string (str fe.v.s))).setCell ⟨g2, k * 7 + 4, none⟩ (.string (str fe.tb))).setCell ⟨g2, k * 7 + 5, none⟩ (.string (str fe.nm))).setCell ⟨g2, k * 7 + 6, none⟩ (.slice A6 fe.l.length c6)) = W7 at *
        have hgw : g2 < Wb.heap.size := HLB.out.lt
        have hwp := HP.out.next (W7 := W7) hlt (bthen HBR.out hB6) ot7 zz7.symm HFE.out HS6.out (show g2 < Wb.drew.heap.size from hgw) (show w.heap.size + 1 + 1 ≤ Wb.heap.size by omega) (by omega)
        have hq7 := (HQ2.out.later hB6).same (w' := W7) (ot7 _ (by omega))
        have hp7 := (HPz2.out.later hB6).same (w' := W7) (ot7 _ (by omega))
        have HWP := Lib.hid hwp
        have HQ7 := Lib.hid hq7
        have HP7 := Lib.hid hp7
        have HL7 := Lib.hid lb7
        have HBl7 := Lib.hid bl7
        clear hwp hq7 hp7 lb7 bl7 ot7 zz7 d0 d1 d2 d3 d4 d5 d6 e0 e1 e2 e3 e4 e5 e6 y6 p0 p1 p2 p3 p4 p5 p6 z6 hB6 hz1 hgw hgz hen
        go_wp2_with fail
        go_roundw
        case measure => simp [intOf]; omega
        case rel => exact ⟨k + 1, _, by omega, by go_num, HWP, fun _ => ⟨trivial, HGZ.out, HL7.out⟩, HQ7, HP7, HBl7⟩
    · have hke : k = l.length := by omega
      have hkz : ¬ (k : Int) < (l.length : Int) := by omega
      obtain ⟨y0, y1, y2, y3, y4, y5, y6⟩ := HQ.out.cells
      obtain ⟨p0, p1, p2, p3, p4, p5, p6⟩ := HPz.out.cells
      obtain ⟨f0, f1, f2, f3, f4, f5, f6⟩ := HPz.out.free
      obtain ⟨W8, hW8, b8, z8, o8, l8⟩ := stored7 HPz.out (.string bo) (.int .i64 vk) (.int .i64 vi) (.string bs) (.string bt) (.string bn) (.slice A2 l.length c2)
      obtain ⟨l0, l1, l2, l3, l4, l5, l6⟩ := b8.cells
      have HB8 := Lib.hid (HB.out.trans (l8 w.heap.size (by omega)))
      have HW8 := Lib.hid hW8
      have hfinal : ∃ A' c', Ending.returned (.agg #[.string bo, .int .i64 vk, .int .i64 vi, .string bs, .string bt, .string bn, .slice A2 l.length c2]) = .returned (.agg #[.string bo, .int .i64 vk, .int .i64 vi, .string bs, .string bt, .string bn, .slice A' l.length c']) ∧ Sub (fun b => w.heap.size ≤ b) W8 (.mk o v t n (l.map f)) A' c' ∧ Below w.heap.size w W8 := by
        refine ⟨A2, c2, rfl, ?_, HB8.out⟩
        rcases Nat.eq_zero_or_pos l.length with h0 | h0
        · have hl0 := List.eq_nil_of_length_eq_zero h0
          subst hl0
          exact ⟨Nat.zero_le _, HC2.out, fun h => by simp at h⟩
        · obtain ⟨hA, hgz, hlb⟩ := HG.out h0
          have hz1 := Z1.out
          rw [hA]
          have hn2 := HN2.out
          exact HP.out.sub hke (by omega) hlb (fun b hb => o8 b (by omega)) (by omega) z8.symm o v t n c2 hn2 HC2.out fun j hj => by
            have hjl : j < l.length := by rw [← HP.out.len]; exact hj
            exact (HP.out.done j hjl hj (by omega)).2.keep (fun b hb _ => ⟨hb.1, rfl⟩) (Nat.le_refl _)
      have HFIN := Lib.hid hfinal
      clear hfinal hke hW8 b8 z8 o8 l8 HP HG HQ HPz HB
      go_wp2_with (rw [← HW8.out])
      exact bodyPost_ret (v := .agg #[.string bo, .int .i64 vk, .int .i64 vi, .string bs, .string bt, .string bn, .slice A2 l.length c2]) (by simp [results, Tryz.results37, go_sem, l0, l1, l2, l3, l4, l5, l6]) rfl HFIN.out
end Go.Proofs.YtcmbdghbicjljaaGreatDoor
