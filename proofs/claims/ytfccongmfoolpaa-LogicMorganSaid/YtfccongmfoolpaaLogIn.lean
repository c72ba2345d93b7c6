/- The contract of logic's In, of any value among any others. Condition: no list is longer than 2000. -/
import Derived.Test.YtfccongmfoolpaaLogRRel
namespace Go.Proofs.Ytfccongmfoolpaa
open Go.RowKit
def eqB : ByteArray := ⟨#[61]⟩
def eqs (v : V) (xs : List V) : List V := xs.map (relR eqB v)
def firstE (v : V) : List V → Int
  | [] => 0
  | x :: l => if relE eqB v x = 0 then firstE v l else relE eqB v x
def okIn (v : V) (xs : List V) : Bool := allOk [v] && allOk xs
def inE (v : V) (xs : List V) : Int := if okIn v xs = true then (if firstE v xs = 0 then ctL (eqs v xs) else firstE v xs) else 1
def inR (v : V) (xs : List V) : V := if okIn v xs = true then (if firstE v xs = 0 then decV true (eqs v xs) else zV) else zV
theorem firstE_step {v : V} {xs : List V} {k : Nat} (h : k < xs.length) (h0 : firstE v (xs.take k) = 0) : (relE eqB v xs[k] = 0 → firstE v (xs.take (k + 1)) = 0) ∧ (¬ relE eqB v xs[k] = 0 → firstE v xs = relE eqB v xs[k]) := by
  induction xs generalizing k with
  | nil => simp at h
  | cons a l ih =>
    cases k with
    | zero =>
      simp only [List.getElem_cons_zero, List.take_succ_cons, List.take_zero]
      unfold firstE
      constructor
      · intro h1; rw [if_pos h1]; rfl
      · intro h1; rw [if_neg h1]
    | succ k =>
      simp only [List.getElem_cons_succ, List.take_succ_cons] at h0 ⊢
      unfold firstE at h0 ⊢
      have h1 : relE eqB v a = 0 := by
        by_cases e : relE eqB v a = 0
        · exact e
        · rw [if_neg e] at h0; exact absurd h0 e
      rw [if_pos h1] at h0 ⊢
      rw [if_pos h1]
      exact ih (by simpa using h) h0
theorem eqs_len (v : V) (xs : List V) : (eqs v xs).length = xs.length := by simp [eqs]
theorem made3 (n : Nat) : madeCells (Value.agg #[.int .i64 0, .int .i64 0, .string ⟨#[]⟩]).cells (n * 3) = (flat (List.replicate n zV)).toArray := by
  have hf : (flat (List.replicate n zV)).length = n * 3 := by rw [flat_len]; simp
  apply Array.ext
  · simp [size_madeCells, hf]
  · intro j h1 h2
    rw [size_madeCells] at h1
    have hq : j / 3 < (List.replicate n zV).length := by simp; omega
    have hg := flat_get (List.replicate n zV) (j / 3) (j % 3) hq (by omega)
    rw [show j / 3 * 3 + j % 3 = j by omega] at hg
    have hl : ((flat (List.replicate n zV)).toArray)[j] = (flat (List.replicate n zV))[j]'(by rw [hf]; exact h1) := by simp
    rw [hl]
    have hg' : (flat (List.replicate n zV))[j]'(by rw [hf]; exact h1) = (c3 zV)[j % 3]'(by simp [c3]; omega) := by
      rw [List.getElem?_eq_getElem (by rw [hf]; exact h1)] at hg
      simp only [List.getElem_replicate] at hg
      rw [List.getElem?_eq_getElem (by simp [c3]; omega)] at hg
      exact Option.some.inj hg
    rw [hg']
    simp only [madeCells, Array.getElem_map, Array.getElem_range]
    have h3 : j % 3 = 0 ∨ j % 3 = 1 ∨ j % 3 = 2 := by omega
    have hs : (Value.agg #[.int .i64 0, .int .i64 0, .string ⟨#[]⟩]).cells = #[.int .i64 0, .int .i64 0, .string ⟨#[]⟩] := by kernel_rfl
    rw [hs]
    show _ = (c3 zV)[j % 3]'_
    rcases h3 with h3 | h3 | h3 <;> simp [h3, c3, zV]
/-- A list of values that lies alone in a block of the call's own. -/
def RowBox (w : World) (g : Nat) (ys : List V) : Prop := w.heap[g]? = some (.cells (flat ys).toArray 24 (0, 0))
theorem RowBox.below {w w' : World} {B g : Nat} {ys : List V} (h : RowBox w g ys) (hb : Below B w w') (hB : g < B) : RowBox w' g ys := (hb.block g hB).trans h
theorem RowBox.lt {w : World} {g : Nat} {ys : List V} (h : RowBox w g ys) : g < w.heap.size := (Array.getElem?_eq_some_iff.1 h).1
theorem RowBox.row {w : World} {g : Nat} {ys : List V} (h : RowBox w g ys) : RowAt w w.heap.size (some ⟨g, 0, none⟩) ys := RowAt.of_heap h rfl
theorem RowBox.cell {w : World} {g : Nat} {ys : List V} (h : RowBox w g ys) (k : Nat) (hk : k < ys.length) : w.cell? ⟨g, k * 3, none⟩ = some (.int .i64 ys[k].k) ∧ w.cell? ⟨g, k * 3 + 1, none⟩ = some (.int .i64 ys[k].i) ∧ w.cell? ⟨g, k * 3 + 2, none⟩ = some (.string ys[k].s) := by
  refine ⟨?_, ?_, ?_⟩
  · rw [Lib.cell_of_heap h]; have := flat_get ys k 0 hk (by omega); simpa [c3] using this
  · rw [Lib.cell_of_heap h]; have := flat_get ys k 1 hk (by omega); simpa [c3] using this
  · rw [Lib.cell_of_heap h]; have := flat_get ys k 2 hk (by omega); simpa [c3] using this
theorem RowBox.free {w : World} {g : Nat} {ys : List V} (h : RowBox w g ys) (j : Nat) : w.frozen? ⟨g, j, none⟩ = false := Lib.frozen_of_heap h j
theorem flat_set (ys : List V) (k : Nat) (u : V) (hk : k < ys.length) : flat (ys.set k u) = (((flat ys).set (k * 3) (.int .i64 u.k)).set (k * 3 + 1) (.int .i64 u.i)).set (k * 3 + 2) (.string u.s) := by
  induction ys generalizing k with
  | nil => simp at hk
  | cons a l ih =>
    cases k with
    | zero => rfl
    | succ k =>
      show flat (a :: l.set k u) = _
      show c3 a ++ flat (l.set k u) = (((c3 a ++ flat l).set _ _).set _ _).set _ _
      rw [ih k (by simpa using hk)]
      have hl : (c3 a).length = 3 := rfl
      rw [List.set_append_right _ _ (by omega), List.set_append_right _ _ (by omega), List.set_append_right _ _ (by omega), hl]
      rw [show (k + 1) * 3 - 3 = k * 3 by omega, show (k + 1) * 3 + 1 - 3 = k * 3 + 1 by omega, show (k + 1) * 3 + 2 - 3 = k * 3 + 2 by omega]
theorem RowBox.set {w : World} {g : Nat} {ys : List V} (h : RowBox w g ys) (k : Nat) (u : V) (hk : k < ys.length) : RowBox (((w.setCell ⟨g, k * 3, none⟩ (.int .i64 u.k)).setCell ⟨g, k * 3 + 1, none⟩ (.int .i64 u.i)).setCell ⟨g, k * 3 + 2, none⟩ (.string u.s)) g (ys.set k u) := by
  unfold RowBox
  rw [Lib.heap_setCell_same (Lib.heap_setCell_same (Lib.heap_setCell_same h _) _) _, flat_set ys k u hk]
  simp
theorem far_set {v : V} {xs : List V} {k n : Nat} (hn : n = xs.length) (h : k < n) : ((eqs v xs).take k ++ List.replicate (n - k) zV).set k (relR eqB v (xs[k]'(by omega))) = (eqs v xs).take (k + 1) ++ List.replicate (n - (k + 1)) zV := by
  have hl : ((eqs v xs).take k).length = k := by rw [List.length_take, eqs_len]; omega
  rw [List.set_append_right _ _ (by omega), hl, Nat.sub_self, show n - k = (n - (k + 1)) + 1 by omega, List.replicate_succ, List.set_cons_zero]
  rw [take_snoc (xs := eqs v xs) (by rw [eqs_len]; omega)]
  simp [eqs]
theorem in_bad {v : V} {xs : List V} (h : okIn v xs = false) : inE v xs = 1 ∧ inR v xs = zV := by unfold inE inR; rw [h]; exact ⟨rfl, rfl⟩
theorem in_err {v : V} {xs : List V} (h : okIn v xs = true) (h0 : ¬ firstE v xs = 0) : inE v xs = firstE v xs ∧ inR v xs = zV := by unfold inE inR; rw [if_pos h, if_pos h, if_neg h0, if_neg h0]; exact ⟨rfl, rfl⟩
theorem in_good {v : V} {xs : List V} (h : okIn v xs = true) (h0 : firstE v xs = 0) : inE v xs = ctL (eqs v xs) ∧ inR v xs = decV true (eqs v xs) := by unfold inE inR; rw [if_pos h, if_pos h, if_pos h0, if_pos h0]; exact ⟨rfl, rfl⟩
set_option maxHeartbeats 1000000 in
theorem in_any_bad (v : V) (xs : List V) (A : Option Addr) (c : Nat) (w : World) (hr : RowAt w w.heap.size A xs) (hm : xs.length ≤ 2000) (hok : okIn v xs = false) :
    Calls Try.prog 23 #[.agg #[.int .i64 v.k, .int .i64 v.i, .string v.s], .slice A xs.length c] w fun e w' => e = .returned (.tuple #[.agg #[.int .i64 0, .int .i64 0, .string ⟨#[]⟩], .int .i64 1]) ∧ Below w.heap.size w w' := by
  have hcall := lcheck_any [v] _ 1 _ (w2of_row w v) (by simp)
  obtain ⟨h0, h1, hb, hsz⟩ := w2of_box w v
  have hc2 := fun w' (hb' : Below w.heap.size w w') => lcheck_any xs A c w' (hr.later hb') (by omega)
  rw [chkA_or] at hcall
  simp only [chkA_or] at hc2
  have HOK : Hid ((allOk [v] && allOk xs) = false) := hok
  generalize allOk [v] = ga at *
  generalize allOk xs = gb at *
  generalize xs.length = n at *
  have H0 := Lib.hid h0
  have H1 := Lib.hid h1
  have HZ := Lib.hid hsz
  have HB := Lib.hid hb
  have HC := Lib.hid hcall
  have HC2 := Lib.hid hc2
  clear h0 h1 hb hsz hcall hr hc2
  have HC : Hid (Calls Try.prog 38 #[.slice (some ⟨w.heap.size + 2, 0, none⟩) 1 1] (((w.alloc (.cells #[.int .i64 v.k, .int .i64 v.i, .string v.s] 24)).alloc (.cells #[.int .i64 0, .int .i64 0, .string ⟨#[]⟩] 24)).alloc (.cells #[.int .i64 v.k, .int .i64 v.i, .string v.s] 24)) fun e w' => e = .returned (.int .i64 (if ga then 0 else 1)) ∧ Below (w2of w v).heap.size (w2of w v) w') := HC.out
  cases ga
  · simp only [Bool.false_eq_true, if_false] at HC
    go_enter Try.func23, Try.ntmps23
    go_wp2_with fail
    refine HC.out.mono ?_
    rintro e w1 ⟨rfl, hb1⟩
    obtain ⟨d0, d1, d2⟩ := (H0.out.below hb1 (by rw [HZ.out]; omega)).cells
    obtain ⟨g0, g1, g2⟩ := (H1.out.below hb1 (by rw [HZ.out]; omega)).cells
    obtain ⟨f0, f1, f2⟩ := (H1.out.below hb1 (by rw [HZ.out]; omega)).free
    simp only [zV] at g0 g1 g2
    go_wp2_with fail
    exact bodyPost_ret (v := .tuple #[.agg #[.int .i64 0, .int .i64 0, .string ⟨#[]⟩], .int .i64 1]) (by simp [results, Try.results23, go_sem, g0, g1, g2]) rfl ⟨rfl, Below.set3 (HB.out.trans (hb1.mono (by rw [HZ.out]; omega))) (by omega) _ _ _⟩
  · simp only [if_true] at HC
    obtain rfl : gb = false := by have := HOK.out; simpa using this
    simp only [Bool.false_eq_true, if_false] at HC2
    go_enter Try.func23, Try.ntmps23
    go_wp2_with fail
    refine HC.out.mono ?_
    rintro e w1 ⟨rfl, hb1⟩
    obtain ⟨d0, d1, d2⟩ := (H0.out.below hb1 (by rw [HZ.out]; omega)).cells
    obtain ⟨g0, g1, g2⟩ := (H1.out.below hb1 (by rw [HZ.out]; omega)).cells
    obtain ⟨f0, f1, f2⟩ := (H1.out.below hb1 (by rw [HZ.out]; omega)).free
    simp only [zV] at g0 g1 g2
    have hbb := HB.out.trans (hb1.mono (by rw [HZ.out]; omega))
    go_wp2_with fail
    refine (HC2.out w1 hbb).mono ?_
    rintro e w2 ⟨rfl, hb2⟩
    have hb3 := bthen hb1 hb2
    obtain ⟨d0, d1, d2⟩ := (H0.out.below hb3 (by rw [HZ.out]; omega)).cells
    obtain ⟨g0, g1, g2⟩ := (H1.out.below hb3 (by rw [HZ.out]; omega)).cells
    obtain ⟨f0, f1, f2⟩ := (H1.out.below hb3 (by rw [HZ.out]; omega)).free
    simp only [zV] at g0 g1 g2
    go_wp2_with fail
    exact bodyPost_ret (v := .tuple #[.agg #[.int .i64 0, .int .i64 0, .string ⟨#[]⟩], .int .i64 1]) (by simp [results, Try.results23, go_sem, g0, g1, g2]) rfl ⟨rfl, Below.set3 (HB.out.trans (hb3.mono (by rw [HZ.out]; omega))) (by omega) _ _ _⟩
theorem info24 : (Try.prog.info? 24).map (fun i => (i.zero, i.size, i.bytes)) = some (some (.agg #[.int .i64 0, .int .i64 0, .string ⟨#[]⟩]), 3, 32) := by kernel_rfl
theorem make_vals (n : Nat) (h : n ≤ 2000) (w : World) : (Instr.makeSlice 22 (.int .i64 (n : Int)) (.int .i64 (n : Int))).run Try.prog w = .ok (.slice (some ⟨w.heap.size, 0, none⟩) n n) (w.alloc (.cells (flat (List.replicate n zV)).toArray 24)) := by
  obtain ⟨i0, hi, hz0, hz1, hz2⟩ := info_parts info24
  have := run_make (P := Try.prog) w 22 24 i0 _ Try.underlying22 hi hz0 .i64 .i64 n n (by omega) (by omega) (by rw [hz2]; omega) (by omega)
  rw [this, Int.toNat_natCast, hz1, made3]
end Go.Proofs.Ytfccongmfoolpaa
