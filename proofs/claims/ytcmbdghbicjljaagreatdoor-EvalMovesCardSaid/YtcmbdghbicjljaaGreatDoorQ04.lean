/- What the rows of this seat give a walk: the library's one variable that is read is there. A world for the witness, in which every listed variable is laid. No condition. -/
import Derived.Test.YtcmbdghbicjljaaGreatDoorCards
import Derived.Test.YtcmbdghbicjljaaGreatDoorTie
import Derived.Test.YtcmbdghbicjljaaGreatDoorQ03
import Derived.Test.YtcmbdghbicjljaaGreatDoorQ01
import Derived.ProofKit
import Derived.OpenShut
import Derived.Deep.DeepHandedRow
import Derived.Lib.LaidTab
import Derived.Lib.LaidU8
import Derived.Stop.LaidErr
import Derived.Lay
import Derived.SevenTiedAt
import Derived.ChangeMaps5
import Derived.Test.YtcmbdghbicjljaaGreatDoorQ09
import Derived.Test.YtcmbdghbicjljaaGreatDoorQ12
set_option linter.unusedSimpArgs false
set_option linter.unusedVariables false
namespace Go.Proofs.YtcmbdghbicjljaaGreatDoor
open Go.ChangeShapes Go.WideShapes Go.ChangeAt Go.RowKit
theorem own : ownKnob Tryz.prog.godebug = none := by kernel_rfl
theorem laidOut : laidOutB Tryz.prog = true := by kernel_rfl
def laidL : List (String × DataW Unit) := [("unicode/utf8.acceptRanges", Rows.laid_unicode_utf8_acceptRanges), ("unicode.CaseRanges", Rows.laid_unicode_CaseRanges), ("unicode/utf8.first", Rows.laid_unicode_utf8_first)]
theorem env_of {W : World} (_hL : laidMetH Tryz.prog laidL W) (hsh : W.ShapedOpen Tryz.prog) : SC.Env W := by
  have hmax : ∃ m, W.cell? ⟨0, 0, none⟩ = some (.int .i64 m) := Go.Proofs.cell_of_shapedOpen_int (zero := #[.int .i64 0]) (t := 3) hsh (of_decide_eq_true (by kernel_rfl)) (by kernel_rfl) rfl (by kernel_rfl) (by kernel_rfl) Tryz.underlying3
  obtain ⟨m, hm⟩ := hmax
  have := BV.cell_in hm
  exact ⟨by omega, m, hm⟩
noncomputable def wWorld (os : Os) : World := World.laidAll Tryz.prog os laidL
theorem wWorld_met (os : Os) (args : Array Value) : laidMetH Tryz.prog laidL ((wWorld os).forCall (fun _ _ => 0) ⟨#[], args, []⟩).memory := by
  rw [MakeChecks.laidMetH_plain _ _ _ (by kernel_rfl)]
  exact laidMet_laidAll args (by kernel_rfl) (by kernel_rfl)
theorem witness_zip {H : Type} {enc : TypeId × Value → H} {C : Checked} {os : Os} {f : FuncId} {fn : Func} {s : OpenSpec} {conds : List PathCond} {apart : Bool} {laid : List (String × DataW Unit)} (modest : Bool) (w0 : World) (args : Array Value) (hos : w0.os = os)
    (hv : (w0.forCall (fun _ _ => 0) ⟨#[], args, []⟩).variablesZipB C.prog = true)
    (hr : ((w0.forCall (fun _ _ => 0) ⟨#[], args, []⟩).heap.toList.drop C.prog.globals.size).take ((begin C.prog (fun _ _ => 0) default).world.heap.size - C.prog.globals.size) =
      (begin C.prog (fun _ _ => 0) default).world.heap.toList.drop C.prog.globals.size)
    (hok : Input.okWideB C.prog (w0.forCall (fun _ _ => 0) ⟨#[], args, []⟩) f ⟨#[], args, []⟩ = true)
    (hrow : s.preRow enc C.prog fn conds apart laid (w0.forCall (fun _ _ => 0) ⟨#[], args, []⟩).memory args) :
    ∃ (w : World) (tape : Tape) (i : Input), w.os = os ∧ (w.forCall tape i).Shaped C.prog ∧ i.vars = [] ∧ Input.okWide C.prog (w.forCall tape i) .any w.heap.size f i ∧
      s.preRow enc C.prog fn conds apart laid (w.forCall tape i).memory i.args ∧ ({ modest := modest } : Assume).holds C.prog (lone (Frame.enter C.prog f i.args .normal) [] (w.forCall tape i)) :=
  ⟨w0, fun _ _ => 0, ⟨#[], args, []⟩, hos, World.shaped_of_ZipB hv hr, (Input.okWide_of_okWideB (base := 0) hok).1, (Input.okWide_of_okWideB hok).2, hrow, by
    simp only [Assume.holds]
    exact ⟨by simp, by simp, fun _ => Modest.zero, by simp, by simp⟩⟩
end Go.Proofs.YtcmbdghbicjljaaGreatDoor
namespace Go.Proofs.YtcmbdghbicjljaaGreatDoor
open Go.RowKit
def wAt : List UInt8 := [97, 116]
def zW : BV.V := ⟨0, 0, ⟨#[]⟩⟩
theorem emp_nil : BV.emp ⟨#[]⟩ = true := by rw [BV.emp, Lib.toList_data]; rfl
def toV (v : Vl) : BV.V := ⟨v.k, v.i, str v.s⟩
def ofV (v : BV.V) : Vl := ⟨v.k, v.i, v.s.data.toList⟩
theorem toV_ofV (v : BV.V) : toV (ofV v) = v := by cases v; simp [toV, ofV, str]
theorem ofV_toV (v : Vl) : ofV (toV v) = v := by cases v; simp [toV, ofV, str]
abbrev Ans := Int × BV.V
abbrev Deeds := List UInt8 → List UInt8 → List BV.V → Ans
def atP (r : List BV.V) (i : Int) : Ans := if 0 ≤ i ∧ i < r.length then (0, r.getD i.toNat zW) else (1, zW)
def opP (d : Deeds) (o n : List UInt8) (v : Vl) (r : List BV.V) (vs : List BV.V) : Ans := if o = wLit then (0, toV v) else if o = wAt then atP r v.i else d o n vs
mutual
def E.ev (d : Deeds) (r : List BV.V) : E → Ans
  | .mk o v _ n l => if (E.evL d r l).1 = 0 then opP d o n v r (E.evL d r l).2 else ((E.evL d r l).1, zW)
def E.evL (d : Deeds) (r : List BV.V) : List E → Int × List BV.V
  | [] => (0, [])
  | x :: l => if (x.ev d r).1 = 0 then ((E.evL d r l).1, (x.ev d r).2 :: (E.evL d r l).2) else ((x.ev d r).1, [])
end
theorem evL_ok {d : Deeds} {r : List BV.V} {l : List E} : (E.evL d r l).1 = 0 ↔ ∀ x ∈ l, (x.ev d r).1 = 0 := by
  induction l with
  | nil => simp [E.evL]
  | cons a l ih =>
    simp only [E.evL]
    by_cases h : (a.ev d r).1 = 0
    · simp [h, ih]
    · simp [h]
theorem evL_vals {d : Deeds} {r : List BV.V} {l : List E} (h : (E.evL d r l).1 = 0) : (E.evL d r l).2 = l.map fun x => (x.ev d r).2 := by
  induction l with
  | nil => simp [E.evL]
  | cons a l ih =>
    have h1 := evL_ok.1 h
    have ha := h1 a (by simp)
    have hl := evL_ok.2 (fun x (hx : x ∈ l) => h1 x (by simp [hx]))
    simp [E.evL, ha, ih hl]
theorem evL_first {d : Deeds} {r : List BV.V} {l : List E} (k : Nat) (hk : k < l.length) (h0 : ∀ j (hj : j < l.length), j < k → (l[j].ev d r).1 = 0) (h : ¬ (l[k].ev d r).1 = 0) : (E.evL d r l).1 = (l[k].ev d r).1 := by
  induction l generalizing k with
  | nil => simp at hk
  | cons a l ih =>
    cases k with
    | zero => simp only [List.getElem_cons_zero] at h ⊢; simp [E.evL, h]
    | succ k =>
      have ha : (a.ev d r).1 = 0 := h0 0 (by simp) (by omega)
      simp only [List.getElem_cons_succ] at h ⊢
      rw [← ih k (by simpa using hk) (fun j hj hlt => h0 (j + 1) (by simpa using hj) (by omega)) h]
      simp [E.evL, ha]
theorem evL_congr {d : Deeds} {r s : List BV.V} {f : E → E} {l : List E} (h : ∀ x ∈ l, (f x).ev d s = x.ev d r) : E.evL d s (l.map f) = E.evL d r l := by
  induction l with
  | nil => simp [E.evL]
  | cons a l ih => simp only [List.map_cons, E.evL, h a (by simp), ih fun x hx => h x (by simp [hx])]
theorem evL_same {d : Deeds} {r s : List BV.V} {l : List E} (h : ∀ x ∈ l, x.ev d s = x.ev d r) : E.evL d s l = E.evL d r l := by
  have := evL_congr (f := id) h
  simpa using this
/-! Whether an expression is bound within so many. -/
def wSum : List UInt8 := [115, 117, 109]
def wMin : List UInt8 := [109, 105, 110]
def wMax : List UInt8 := [109, 97, 120]
def aggB (n : List UInt8) : Bool := n == wCount || n == wSum || n == wMin || n == wMax
def placeB (W : Int) (v : Vl) (t n : List UInt8) (l : List E) : Bool := (v.k == 2 && v.s == [] && decide (0 ≤ v.i) && decide (v.i < W)) && (t == [] && n == [] && l.isEmpty)
mutual
def E.good (W : Int) : E → Bool
  | .mk o v t n l => if o = wAt then placeB W v t n l
    else if o = wLit then (t == [] && (n == []) && l.isEmpty) && v.may
    else if o = wCol then false
    else if o = wCall then (v == v0 && (t == [])) && nameB n && !aggB n && E.goodL W l
    else (v == v0 && (t == []) && (n == [])) && decide (least o ≤ l.length) && decide (l.length ≤ most o) && E.goodL W l
def E.goodL (W : Int) : List E → Bool
  | [] => true
  | a :: l => a.good W && E.goodL W l
end
theorem goodL_iff {W : Int} {l : List E} : E.goodL W l = true ↔ ∀ x ∈ l, x.good W = true := by
  induction l with
  | nil => simp [E.goodL]
  | cons a l ih => simp [E.goodL, ih]
theorem good_parts {W : Int} {o : List UInt8} {v : Vl} {t n : List UInt8} {l : List E} (h : (E.mk o v t n l).good W = true) : ∀ x ∈ l, x.good W = true := by
  simp only [E.good] at h
  split at h
  · simp only [placeB, Bool.and_eq_true, List.isEmpty_iff] at h
    rw [h.2.2]; simp
  · split at h
    · simp only [Bool.and_eq_true, List.isEmpty_iff] at h
      rw [h.1.2]; simp
    · split at h
      · simp at h
      · split at h
        · simp only [Bool.and_eq_true] at h
          exact goodL_iff.1 h.2
        · simp only [Bool.and_eq_true] at h
          exact goodL_iff.1 h.2
theorem good_at {W : Int} {v : Vl} {t n : List UInt8} {l : List E} (h : (E.mk wAt v t n l).good W = true) : v.k = 2 ∧ v.s = [] ∧ 0 ≤ v.i ∧ v.i < W ∧ t = [] ∧ n = [] ∧ l = [] := by
  simp only [E.good, if_true, placeB, Bool.and_eq_true, List.isEmpty_iff, beq_iff_eq, decide_eq_true_eq] at h
  exact ⟨h.1.1.1.1, h.1.1.1.2, h.1.1.2, h.1.2, h.2.1.1, h.2.1.2, h.2.2⟩
def chkW (W : Int) (e : E) : Int := if e.good W then (if 40 < e.deep then 3 else 0) else 1
theorem chkW_ok {W : Int} {e : E} : chkW W e = 0 ↔ e.good W = true ∧ e.deep ≤ 40 := by
  unfold chkW
  cases e.good W
  · simp
  · by_cases h : 40 < e.deep
    · simp [h]
    · simp [h]; omega
/-! Moved. -/
mutual
def E.mv (b : Int) : E → E
  | .mk o v t n l => if o = wAt then .mk o ⟨v.k, wrap64 (v.i + b), v.s⟩ t n l else .mk o v t n (E.mvL b l)
def E.mvL (b : Int) : List E → List E
  | [] => []
  | a :: l => a.mv b :: E.mvL b l
end
theorem mvL_map (b : Int) (l : List E) : E.mvL b l = l.map (E.mv b) := by
  induction l with
  | nil => rfl
  | cons a l ih => simp [E.mvL, ih]
theorem mv_ev (d : Deeds) (a r : List BV.V) (hs : a.length + r.length ≤ 1000000) (e : E) : e.good r.length = true → (e.mv a.length).ev d (a ++ r) = e.ev d r := by
  induction e using E.ind with
  | h o v t n l ih =>
    intro h
    by_cases ho : o = wAt
    · subst ho
      obtain ⟨h1, h2, h3, h4, rfl, rfl, rfl⟩ := good_at h
      have hw : wrap64 (v.i + (a.length : Int)) = v.i + a.length := by unfold wrap64; omega
      simp only [E.mv, if_true, E.ev, E.evL, opP, if_neg (show wAt ≠ wLit by decide), atP, hw]
      rw [if_pos (show 0 ≤ v.i + (a.length : Int) ∧ v.i + (a.length : Int) < ((a ++ r).length : Nat) from ⟨by omega, by rw [List.length_append]; omega⟩), if_pos (show 0 ≤ v.i ∧ v.i < (r.length : Int) from ⟨h3, h4⟩)]
      congr 1
      rw [show (v.i + (a.length : Int)).toNat = a.length + v.i.toNat by omega]
      simp [List.getD_eq_getElem?_getD, List.getElem?_append_right]
    · have hp := good_parts h
      have he : E.evL d (a ++ r) (E.mvL a.length l) = E.evL d r l := by rw [mvL_map]; exact evL_congr fun x hx => ih x hx (hp x hx)
      simp only [E.mv, if_neg ho, E.ev, he, opP]
theorem wrap_back {i b : Int} (h : -9223372036854775808 ≤ i ∧ i ≤ 9223372036854775807) : wrap64 (wrap64 (i + b) + -b) = i := by unfold wrap64; omega
theorem mv_back (b : Int) (e : E) : e.ints = true → (e.mv b).mv (-b) = e := by
  induction e using E.ind with
  | h o v t n l ih =>
    intro h
    simp only [E.ints, Bool.and_eq_true, decide_eq_true_eq] at h
    by_cases ho : o = wAt
    · simp only [E.mv, if_pos ho, wrap_back h.1]
    · simp only [E.mv, if_neg ho, mvL_map, List.map_map]
      congr 1
      conv => rhs; rw [← List.map_id l]
      exact List.map_congr_left fun x hx => ih x hx (intsL_iff.1 h.2 x hx)
/-! Folded. -/
mutual
def E.fd (d : Deeds) : E → E
  | .mk o v t n l => if ((E.mk o v t n (E.fdL d l)).ev d []).1 = 0 then lit (ofV ((E.mk o v t n (E.fdL d l)).ev d []).2) else .mk o v t n (E.fdL d l)
def E.fdL (d : Deeds) : List E → List E
  | [] => []
  | a :: l => a.fd d :: E.fdL d l
end
theorem fdL_map (d : Deeds) (l : List E) : E.fdL d l = l.map (E.fd d) := by
  induction l with
  | nil => rfl
  | cons a l ih => simp [E.fdL, ih]
theorem lit_ev (d : Deeds) (r : List BV.V) (v : Vl) : (lit v).ev d r = (0, toV v) := by simp [lit, E.ev, E.evL, opP]
theorem ev_none (d : Deeds) (r : List BV.V) (e : E) : (e.ev d []).1 = 0 → e.ev d r = e.ev d [] := by
  induction e using E.ind with
  | h o v t n l ih =>
    intro h
    simp only [E.ev] at h ⊢
    by_cases h0 : (E.evL d [] l).1 = 0
    · rw [if_pos h0] at h ⊢
      have he : E.evL d r l = E.evL d [] l := evL_same fun x hx => ih x hx (evL_ok.1 h0 x hx)
      rw [he, if_pos h0]
      simp only [opP] at h ⊢
      split
      · rfl
      · rename_i h1
        rw [if_neg h1] at h
        split
        · rename_i h2
          rw [if_pos h2] at h
          have h3 : atP [] v.i = (1, zW) := if_neg (by rintro ⟨a, b⟩; simp at b; omega)
          rw [h3] at h
          exact absurd h (by decide)
        · rfl
    · rw [if_neg h0] at h
      exact absurd h h0
theorem fd_ev (d : Deeds) (r : List BV.V) (e : E) : (e.fd d).ev d r = e.ev d r := by
  induction e using E.ind with
  | h o v t n l ih =>
    have he : (E.mk o v t n (E.fdL d l)).ev d r = (E.mk o v t n l).ev d r := by
      have : E.evL d r (E.fdL d l) = E.evL d r l := by rw [fdL_map]; exact evL_congr fun x hx => ih x hx
      simp only [E.ev, this]
    rw [← he, E.fd]
    split
    · rename_i h0
      rw [lit_ev, toV_ofV, ev_none d r _ h0]
      exact Prod.ext h0.symm rfl
    · rfl
theorem fdL_len (d : Deeds) (l : List E) : (E.fdL d l).length = l.length := by rw [fdL_map, List.length_map]
/-! On which places it hangs. -/
mutual
def E.us : E → List Int
  | .mk o v _ _ l => (if o = wAt then [v.i] else []) ++ E.usL l
def E.usL : List E → List Int
  | [] => []
  | a :: l => a.us ++ E.usL l
end
theorem usL_mem {l : List E} {i : Int} : i ∈ E.usL l ↔ ∃ x ∈ l, i ∈ x.us := by
  induction l with
  | nil => simp [E.usL]
  | cons a l ih => simp [E.usL, ih]
theorem us_ev (d : Deeds) (r s : List BV.V) (e : E) : (∀ i ∈ e.us, atP s i = atP r i) → e.ev d s = e.ev d r := by
  induction e using E.ind with
  | h o v t n l ih =>
    intro h
    have he : E.evL d s l = E.evL d r l := evL_same fun x hx => ih x hx fun i hi => h i (by simp only [E.us, List.mem_append]; exact Or.inr (usL_mem.2 ⟨x, hx, hi⟩))
    simp only [E.ev, he, opP]
    split
    · split
      · rfl
      · split
        · rename_i h2
          exact h v.i (by simp [E.us, h2])
        · rfl
    · rfl
/-! How great what it is may get. -/
def Fit8 (v : BV.V) : Prop := (-9223372036854775808 ≤ v.i ∧ v.i ≤ 9223372036854775807) ∧ v.s.size ≤ 100000000
mutual
def E.fit (d : Deeds) (r : List BV.V) : E → Prop
  | .mk _ v _ _ l => l.length ≤ 2000 ∧ (-9223372036854775808 ≤ v.i ∧ v.i ≤ 9223372036854775807) ∧ E.fitL d r l
def E.fitL (d : Deeds) (r : List BV.V) : List E → Prop
  | [] => True
  | a :: l => (a.fit d r ∧ Fit8 (a.ev d r).2) ∧ E.fitL d r l
end
theorem fitL_iff {d : Deeds} {r : List BV.V} {l : List E} : E.fitL d r l ↔ ∀ x ∈ l, x.fit d r ∧ Fit8 (x.ev d r).2 := by
  induction l with
  | nil => simp [E.fitL]
  | cons a l ih => simp [E.fitL, ih]
def sumS (vs : List BV.V) : Nat := (vs.map fun v => v.s.size).sum
def Small (d : Deeds) : Prop := ∀ o n vs, (∀ v ∈ vs, -9223372036854775808 ≤ v.i ∧ v.i ≤ 9223372036854775807) → sumS vs ≤ 100000000 → (-9223372036854775808 ≤ (d o n vs).2.i ∧ (d o n vs).2.i ≤ 9223372036854775807) ∧ (d o n vs).2.s.size ≤ max 100000 (sumS vs)
mutual
def E.lt : E → Bool
  | .mk _ v _ _ l => decide (v.s.length ≤ 100) && E.ltL l
def E.ltL : List E → Bool
  | [] => true
  | a :: l => a.lt && E.ltL l
end
theorem ltL_iff {l : List E} : E.ltL l = true ↔ ∀ x ∈ l, x.lt = true := by
  induction l with
  | nil => simp [E.ltL]
  | cons a l ih => simp [E.ltL, ih]
theorem size_mem {l : List E} {x : E} (hx : x ∈ l) : x.size ≤ E.sizeL l := by
  induction l with
  | nil => simp at hx
  | cons a l ih =>
    simp only [E.sizeL]
    rcases List.mem_cons.1 hx with rfl | h
    · omega
    · have := ih h; omega
theorem sumS_le {d : Deeds} {r : List BV.V} {l : List E} (h : ∀ x ∈ l, (x.ev d r).2.s.size ≤ 100000 * x.size) : sumS (l.map fun x => (x.ev d r).2) ≤ 100000 * E.sizeL l := by
  induction l with
  | nil => simp [sumS]
  | cons a l ih =>
    have h1 := h a (by simp)
    have h2 := ih fun x hx => h x (by simp [hx])
    simp only [sumS, List.map_cons, List.sum_cons, E.sizeL, Nat.mul_add] at h2 ⊢
    omega
theorem len_size (l : List E) : l.length ≤ E.sizeL l := by
  induction l with
  | nil => simp
  | cons a l ih =>
    have : 1 ≤ a.size := by cases a; simp [E.size]
    simp only [List.length_cons, E.sizeL]
    omega
theorem ev_fit {d : Deeds} (hd : Small d) {r : List BV.V} (hr : ∀ v ∈ r, (-9223372036854775808 ≤ v.i ∧ v.i ≤ 9223372036854775807) ∧ v.s.size ≤ 100000) (e : E) : e.size ≤ 1000 → e.ints = true → e.lt = true →
    e.fit d r ∧ (-9223372036854775808 ≤ (e.ev d r).2.i ∧ (e.ev d r).2.i ≤ 9223372036854775807) ∧ (e.ev d r).2.s.size ≤ 100000 * e.size := by
  induction e using E.ind with
  | h o v t n l ih =>
    intro hs hi ht
    simp only [E.size] at hs ⊢
    simp only [E.ints, E.lt, Bool.and_eq_true, decide_eq_true_eq] at hi ht
    have hx : ∀ x ∈ l, x.fit d r ∧ (-9223372036854775808 ≤ (x.ev d r).2.i ∧ (x.ev d r).2.i ≤ 9223372036854775807) ∧ (x.ev d r).2.s.size ≤ 100000 * x.size := fun x hx =>
      ih x hx (by have := size_mem hx; omega) (intsL_iff.1 hi.2 x hx) (ltL_iff.1 ht.2 x hx)
    have hsum := sumS_le (d := d) (r := r) (l := l) fun x h => (hx x h).2.2
    refine ⟨⟨by have := len_size l; omega, hi.1, fitL_iff.2 fun x h => ⟨(hx x h).1, (hx x h).2.1, ?_⟩⟩, ?_⟩
    · have h1 := (hx x h).2.2
      have h2 := size_mem h
      omega
    · simp only [E.ev]
      by_cases h0 : (E.evL d r l).1 = 0
      · rw [if_pos h0, evL_vals h0]
        simp only [opP]
        split
        · exact ⟨hi.1, by show (str v.s).size ≤ _; rw [str_size]; omega⟩
        · split
          · simp only [atP]
            split
            · rename_i h3
              rw [List.getD_eq_getElem?_getD, List.getElem?_eq_getElem (show v.i.toNat < r.length by omega)]
              have := hr _ (List.getElem_mem (show v.i.toNat < r.length by omega))
              exact ⟨this.1, by have := this.2; simp only [Option.getD_some]; omega⟩
            · exact ⟨by decide, Nat.zero_le _⟩
          · have := hd o n (l.map fun x => (x.ev d r).2) (fun u hu => by obtain ⟨x, h, rfl⟩ := List.mem_map.1 hu; exact (hx x h).2.1) (by omega)
            exact ⟨this.1, by have := this.2; omega⟩
      · rw [if_neg h0]
        exact ⟨by show (-9223372036854775808 : Int) ≤ 0 ∧ (0 : Int) ≤ _; omega, Nat.zero_le _⟩
/-! As Check turns it: each place put as a lit. -/
mutual
def E.unb (W : Int) : E → E
  | .mk o v t n l => if o = wAt ∧ placeB W v t n l = true then lit v0 else if o = wCol ∨ o = wCall ∧ aggB n = true then e0 else .mk o v t n (E.unbL W l)
def E.unbL (W : Int) : List E → List E
  | [] => []
  | a :: l => a.unb W :: E.unbL W l
end
theorem unbL_map (W : Int) (l : List E) : E.unbL W l = l.map (E.unb W) := by
  induction l with
  | nil => rfl
  | cons a l ih => simp [E.unbL, ih]
theorem mayL_unb {W : Int} {l : List E} (h : ∀ x ∈ l, (x.unb W).may = x.good W) : E.mayL (E.unbL W l) = E.goodL W l := by
  induction l with
  | nil => rfl
  | cons a l ih => simp only [E.unbL, E.mayL, E.goodL, h a (by simp), ih fun x hx => h x (by simp [hx])]
theorem agg_count {n : List UInt8} (h : aggB n = false) : (n == wCount) = false := by
  unfold aggB at h
  simp only [Bool.or_eq_false_iff] at h
  exact h.1.1.1
theorem no_word {o : List UInt8} (h : o ∉ allOps) {m : Nat} : (decide (least o ≤ m) && decide (m ≤ most o)) = false := by
  rw [(many_none h).1, (many_none h).2]
  cases m <;> simp
theorem unb_may (W : Int) (e : E) : (e.unb W).may = e.good W := by
  induction e using E.ind with
  | h o v t n l ih =>
    have hl := mayL_unb ih
    have hlen : (E.unbL W l).length = l.length := by rw [unbL_map, List.length_map]
    have hem : (E.unbL W l).isEmpty = l.isEmpty := by cases l <;> rfl
    by_cases ho : o = wAt
    · subst ho
      by_cases hp : placeB W v t n l = true
      · rw [E.unb, if_pos ⟨rfl, hp⟩, E.good, if_pos rfl, hp]
        have hv : v0.may = true := by simp [Vl.may, v0, str, BV.mayB, emp_nil]
        simp [lit, E.may, hv]
      · rw [E.unb, if_neg (fun h => hp h.2), if_neg (by rintro (h | ⟨h, -⟩) <;> exact absurd h (by decide)), E.good, if_pos rfl, E.may, if_neg (by decide), if_neg (by decide), if_neg (by decide)]
        rw [Bool.and_assoc, Bool.and_assoc, ← Bool.and_assoc (decide _) (decide _), no_word (by decide)]
        simp [Bool.not_eq_true] at hp ⊢
        simpa using hp
    · rw [E.unb, if_neg (fun h => ho h.1), E.good, if_neg ho]
      by_cases h1 : o = wLit
      · subst h1
        rw [if_neg (by rintro (h | ⟨h, -⟩) <;> exact absurd h (by decide)), if_pos rfl, E.may, if_pos rfl, hem]
      · rw [if_neg h1]
        by_cases h2 : o = wCol
        · rw [if_pos (Or.inl h2), if_pos h2]
          decide
        · rw [if_neg h2]
          by_cases h3 : o = wCall
          · subst h3
            rw [if_pos rfl]
            cases ha : aggB n
            · rw [if_neg (by rintro (h | ⟨-, h⟩) <;> exact absurd h (by decide)), E.may, if_neg (by decide), if_neg (by decide), if_pos rfl, hl]
              unfold countsL
              rw [agg_count ha]
              simp
            · rw [if_pos (Or.inr ⟨rfl, rfl⟩)]
              simp
              decide
          · rw [if_neg (by simp [h2, h3]), if_neg h3, E.may, if_neg h1, if_neg h2, if_neg h3, hl, hlen]
theorem unb_deep (W : Int) (e : E) : e.good W = true → (e.unb W).deep = e.deep := by
  induction e using E.ind with
  | h o v t n l ih =>
    intro h
    have hp := good_parts h
    by_cases ho : o = wAt
    · subst ho
      have h' := good_at h
      obtain ⟨-, -, -, -, -, -, rfl⟩ := h'
      rw [E.good, if_pos rfl] at h
      rw [E.unb, if_pos ⟨rfl, h⟩]
      rfl
    · have hn : ¬ (o = wCol ∨ o = wCall ∧ aggB n = true) := by
        rintro (rfl | ⟨rfl, ha⟩)
        · simp [E.good, wCol, wAt, wLit] at h
        · simp [E.good, wCall, wAt, wLit, wCol, ha] at h
      rw [E.unb, if_neg (fun h => ho h.1), if_neg hn, E.deep, E.deep]
      congr 1
      clear h hn ho
      induction l with
      | nil => rfl
      | cons a l ihl =>
        simp only [E.unbL, E.deepL, ih a (by simp) (hp a (by simp)), ihl (fun x hx => ih x (by simp [hx])) fun x hx => hp x (by simp [hx])]
/-! As the reference's Check turns it: each place put as a name. -/
mutual
def E.nok (W : Int) : E → Bool
  | .mk o v t n l => if o = wCol ∨ o = wStar ∨ o = wCall ∧ aggB n = true then false else if o = wAt then placeB W v t n l else E.nokL W l
def E.nokL (W : Int) : List E → Bool
  | [] => true
  | a :: l => a.nok W && E.nokL W l
end
theorem nokL_iff {W : Int} {l : List E} : E.nokL W l = true ↔ ∀ x ∈ l, x.nok W = true := by
  induction l with
  | nil => simp [E.nokL]
  | cons a l ih => simp [E.nokL, ih]
def colA : E := col [] [97]
mutual
def E.nmd : E → E
  | .mk o v t n l => if o = wAt then colA else .mk o v t n (E.nmdL l)
def E.nmdL : List E → List E
  | [] => []
  | a :: l => a.nmd :: E.nmdL l
end
theorem nmdL_map (l : List E) : E.nmdL l = l.map E.nmd := by
  induction l with
  | nil => rfl
  | cons a l ih => simp [E.nmdL, ih]
theorem nmd_may (W : Int) (e : E) : (e.nok W && e.nmd.may) = e.good W := by
  induction e using E.ind with
  | h o v t n l ih =>
    have hl : (E.nokL W l && E.mayL (E.nmdL l)) = E.goodL W l := by
      clear o v t n
      induction l with
      | nil => rfl
      | cons a l ihl =>
        have h1 := ih a (by simp)
        have h2 := ihl fun x hx => ih x (by simp [hx])
        simp only [E.nokL, E.nmdL, E.mayL, E.goodL, ← h1, ← h2]
        cases a.nok W <;> cases a.nmd.may <;> cases E.nokL W l <;> cases E.mayL (E.nmdL l) <;> rfl
    have hlen : (E.nmdL l).length = l.length := by rw [nmdL_map, List.length_map]
    have hem : (E.nmdL l).isEmpty = l.isEmpty := by cases l <;> rfl
    have hnil : l.isEmpty = true → E.nokL W l = true := by cases l <;> simp [E.nokL]
    by_cases ho : o = wAt
    · subst ho
      rw [E.nok, if_neg (by rintro (h | h | ⟨h, -⟩) <;> exact absurd h (by decide)), if_pos rfl, E.nmd, if_pos rfl, E.good, if_pos rfl, show colA.may = true by decide, Bool.and_true]
    · rw [E.nmd, if_neg ho, E.good, if_neg ho]
      by_cases h1 : o = wLit
      · subst h1
        rw [if_pos rfl, E.nok, if_neg (by rintro (h | h | ⟨h, -⟩) <;> exact absurd h (by decide)), if_neg (by decide), E.may, if_pos rfl, hem]
        cases hx : l.isEmpty
        · simp
        · rw [hnil hx]; simp
      · rw [if_neg h1]
        by_cases h2 : o = wCol
        · rw [if_pos h2, E.nok, if_pos (Or.inl h2)]; rfl
        · rw [if_neg h2]
          by_cases h3 : o = wCall
          · subst h3
            rw [if_pos rfl, E.nok]
            cases ha : aggB n
            · rw [if_neg (by rintro (h | h | ⟨-, h⟩) <;> exact absurd h (by decide)), if_neg (by decide), E.may, if_neg (by decide), if_neg (by decide), if_pos rfl, ← hl]
              unfold countsL
              rw [agg_count ha]
              cases E.nokL W l <;> simp
            · rw [if_pos (Or.inr (Or.inr ⟨rfl, rfl⟩))]
              simp
          · rw [if_neg h3, E.nok]
            by_cases h4 : o = wStar
            · rw [if_pos (Or.inr (Or.inl h4))]
              subst h4
              have hw := no_word (o := wStar) (by decide) (m := l.length)
              rw [Bool.false_and]
              revert hw
              cases decide (least wStar ≤ l.length) <;> cases decide (l.length ≤ most wStar) <;> simp
            · rw [if_neg (by simp [h2, h3, h4]), if_neg ho, E.may, if_neg h1, if_neg h2, if_neg h3, hlen, ← hl]
              cases E.nokL W l <;> simp
theorem nmd_deep (W : Int) (e : E) : e.good W = true → e.nmd.deep = e.deep := by
  induction e using E.ind with
  | h o v t n l ih =>
    intro h
    have hp := good_parts h
    by_cases ho : o = wAt
    · subst ho
      obtain ⟨-, -, -, -, -, -, rfl⟩ := good_at h
      rw [E.nmd, if_pos rfl]
      rfl
    · rw [E.nmd, if_neg ho, E.deep, E.deep]
      congr 1
      clear h ho
      induction l with
      | nil => rfl
      | cons a l ihl =>
        simp only [E.nmdL, E.deepL, ih a (by simp) (hp a (by simp)), ihl (fun x hx => ih x (by simp [hx])) fun x hx => hp x (by simp [hx])]
end Go.Proofs.YtcmbdghbicjljaaGreatDoor
namespace Go.Proofs.YtcmbdghbicjljaaGreatDoor
open Go.RowKit
theorem replaceK_len (old new : List UInt8) (h0 : old ≠ []) : ∀ (k : Nat) (s : List UInt8), k ≤ Lib.count s old → (Lib.replaceK old new k s).length + k * old.length = s.length + k * new.length := by
  intro k
  induction k with
  | zero => intro s _; simp [Lib.replaceK]
  | succ k ih =>
    intro s hk
    obtain ⟨i, hi⟩ := Lib.index_of_count (s := s) (old := old) (by omega)
    rw [Lib.replaceK_hit old new k s i hi]
    have h1 := Lib.count_hit h0 hi
    have h2 := ih (s.drop (i + old.length)) (by omega)
    have h3 : i + old.length ≤ s.length := by have := Lib.index_room s old (by omega); rw [hi] at this; omega
    simp only [List.length_append, List.length_take, List.length_drop, Nat.succ_mul] at *
    omega
theorem replaceAll_len (s old new : List UInt8) (h0 : old ≠ []) : (Lib.replaceAll s old new).length + Lib.count s old * old.length = s.length + Lib.count s old * new.length := by
  unfold Lib.replaceAll Lib.replace
  split
  · rename_i h
    rw [beq_iff_eq] at h
    rw [h]
  · have : Lib.replaceNum s old (-1) = Lib.count s old := by unfold Lib.replaceNum; simp
    rw [this]
    exact replaceK_len old new h0 _ s (Nat.le_refl _)
theorem trimB_len (s : List UInt8) (c : UInt8) : (Lib.trimB s c).length ≤ s.length := by
  unfold Lib.trimB Lib.trimLeftB Lib.trimRightB
  have h1 := (List.dropWhile_sublist (l := (s.reverse.dropWhile (· == c)).reverse) (· == c)).length_le
  have h2 := (List.dropWhile_sublist (l := s.reverse) (· == c)).length_le
  simp only [List.length_reverse] at *
  omega
theorem trimS_size (s : ByteArray) : (SC.trimS s).size ≤ s.size := by
  have := trimB_len s.data.toList 32
  unfold SC.trimS
  simp only [ByteArray.size, List.size_toArray, Array.length_toList] at *
  omega
theorem push_size (l : List Int) (r : ByteArray) : (l.foldl (fun r n => r.push (UInt8.ofNat n.toNat)) r).size = r.size + l.length := by
  induction l generalizing r with
  | nil => simp
  | cons a l ih =>
    have h : (r.push (UInt8.ofNat a.toNat)).size = r.size + 1 := by cases r; exact Array.size_push _
    rw [List.foldl_cons, ih, h, List.length_cons]
    omega
theorem turnedB_size (f : Nat) (s : ByteArray) : (SC.turnedB f s).size = s.size := by
  unfold SC.turnedB
  rw [push_size, SC.turnedL, List.length_map, List.length_range]
  exact Nat.zero_add _
theorem pc_size (s : ByteArray) (m k : Int) : (SC.pc s m k).size ≤ s.size := by
  unfold SC.pc
  simp only [ByteArray.size_extract]
  omega
end Go.Proofs.YtcmbdghbicjljaaGreatDoor
