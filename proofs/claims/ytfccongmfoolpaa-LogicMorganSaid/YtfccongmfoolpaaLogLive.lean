/- The law's own functions live (it answers true) and big, of whatever values lie in memory. Conditions: no list longer than 2 to the 47, no text either. -/
import Derived.Test.YtfccongmfoolpaaLogHeld
import Derived.Test.YtfccongmfoolpaaFew
import Derived.Outline
import Derived.Deep.DeepCutAuto
import Derived.Deep.RegionHeld3
namespace Go.Proofs.Ytfccongmfoolpaa
open Go.RowKit
theorem int1_any (n : Int) (w : World) : Calls Try.prog 27 #[.int .i64 n] w fun e w' => e = .returned (.agg #[.int .i64 2, .int .i64 n, .string ⟨#[]⟩]) ∧ Below w.heap.size w w' := by
  go_enter Try.func27, Try.ntmps27
  go_wp2
  exact bodyPost_ret (v := .agg #[.int .i64 2, .int .i64 n, .string ⟨#[]⟩]) (by simp [results, Try.results27, go_sem]) rfl ⟨rfl, (Below.refl _ w).alloc (Nat.le_refl _) _⟩
theorem text1_any (s : ByteArray) (w : World) : Calls Try.prog 28 #[.string s] w fun e w' => e = .returned (.agg #[.int .i64 3, .int .i64 0, .string s]) ∧ Below w.heap.size w w' := by
  go_enter Try.func28, Try.ntmps28
  go_wp2
  exact bodyPost_ret (v := .agg #[.int .i64 3, .int .i64 0, .string s]) (by simp [results, Try.results28, go_sem]) rfl ⟨rfl, (Below.refl _ w).alloc (Nat.le_refl _) _⟩
theorem emp_e : emp ⟨#[]⟩ = true := emp_iff.2 rfl
theorem chk_t (b : Bool) : (tV b).chk = 0 := by cases b <;> simp [V.chk, chkI, mayB, tV, bi, emp_e]
theorem chk_z : zV.chk = 0 := by simp [V.chk, chkI, mayB, zV, emp_e]
theorem chk_i (n : Int) : (⟨2, n, ⟨#[]⟩⟩ : V).chk = 0 := by simp [V.chk, chkI, mayB, emp_e]
theorem live_and1 (w : World) (H : Nat) (hH : w.heap.size = H) : Calls Try.prog 11 #[.slice (some ⟨H, 0, none⟩) 2 2] (w.alloc (.cells #[.int .i64 1, .int .i64 1, .string ⟨#[]⟩, .int .i64 0, .int .i64 0, .string ⟨#[]⟩] 24)) fun e w' => e = .returned (.tuple #[.agg #[.int .i64 0, .int .i64 0, .string ⟨#[]⟩], .int .i64 0]) ∧ Below w.heap.size w w' := by
  have h := and_any [tV true, zV] _ 2 _ (row2_at hH (tV true) zV) (by simp)
  have h1 : ctL [tV true, zV] = 0 := by unfold ctL allOk; simp [chk_t, chk_z]; rfl
  have h2 : decV false [tV true, zV] = zV := by unfold decV; rw [if_pos h1]; rfl
  rw [h1, h2] at h
  refine h.mono ?_
  rintro e w' ⟨rfl, hb⟩
  exact ⟨rfl, ((Below.refl _ w).alloc (Nat.le_refl _) _).trans (hb.mono (by simp))⟩
theorem live_and0 {X : World} {A : Option Addr} (h : RowAt X X.heap.size A [⟨1, 0, ⟨#[]⟩⟩, ⟨0, 0, ⟨#[]⟩⟩]) : Calls Try.prog 11 #[.slice A 2 2] X fun e w' => e = .returned (.tuple #[.agg #[.int .i64 1, .int .i64 0, .string ⟨#[]⟩], .int .i64 0]) ∧ Below X.heap.size X w' := by
  have h := and_any [tV false, zV] A 2 X h (by simp)
  have h1 : ctL [tV false, zV] = 0 := by unfold ctL allOk; simp [chk_t, chk_z]; rfl
  have h2 : decV false [tV false, zV] = tV false := by unfold decV; rw [if_pos h1]; rfl
  rw [h1, h2] at h
  exact h
theorem live_in {X : World} {A : Option Addr} (h : RowAt X X.heap.size A [⟨2, 2, ⟨#[]⟩⟩, ⟨0, 0, ⟨#[]⟩⟩]) : Calls Try.prog 23 #[.agg #[.int .i64 2, .int .i64 1, .string ⟨#[]⟩], .slice A 2 2] X fun e w' => e = .returned (.tuple #[.agg #[.int .i64 0, .int .i64 0, .string ⟨#[]⟩], .int .i64 0]) ∧ Below X.heap.size X w' := by
  have h := in_any ⟨2, 1, ⟨#[]⟩⟩ [⟨2, 2, ⟨#[]⟩⟩, zV] A 2 X h (by simp)
  have k1 : allOk [(⟨2, 1, ⟨#[]⟩⟩ : V)] = true := by unfold allOk; simp [chk_i]
  have k2 : allOk [(⟨2, 2, ⟨#[]⟩⟩ : V), zV] = true := by unfold allOk; simp [chk_i, chk_z]
  have kk : knB eqB = true := kn_eq.1
  have ka : allOk [(⟨2, 1, ⟨#[]⟩⟩ : V), ⟨2, 2, ⟨#[]⟩⟩] = true := by unfold allOk; simp [chk_i]
  have kb : allOk [(⟨2, 1, ⟨#[]⟩⟩ : V), zV] = true := by unfold allOk; simp [chk_i, chk_z]
  obtain ⟨e1, r1⟩ := rel_good (op := eqB) (a := ⟨2, 1, ⟨#[]⟩⟩) (b := ⟨2, 2, ⟨#[]⟩⟩) (by rw [ka, kk]; rfl) (by decide) (by decide) rfl
  obtain ⟨e2, r2⟩ := rel_null (op := eqB) (a := ⟨2, 1, ⟨#[]⟩⟩) (b := zV) (by rw [kb, kk]; rfl) (Or.inr rfl)
  have hs : soB eqB (cmpV 2 1 ⟨#[]⟩ 2 2 ⟨#[]⟩) = false := by
    rw [show cmpV 2 1 ⟨#[]⟩ 2 2 ⟨#[]⟩ = -1 from rfl]
    exact (so_eq (-1)).1
  have h0 : firstE ⟨2, 1, ⟨#[]⟩⟩ [⟨2, 2, ⟨#[]⟩⟩, zV] = 0 := by
    unfold firstE; rw [if_pos e1]; unfold firstE; rw [if_pos e2]; rfl
  have hq : eqs ⟨2, 1, ⟨#[]⟩⟩ [⟨2, 2, ⟨#[]⟩⟩, zV] = [tV false, zV] := by
    unfold eqs
    rw [List.map_cons, List.map_cons, List.map_nil, r1, r2]
    show [tV (soB eqB (cmpV 2 1 ⟨#[]⟩ 2 2 ⟨#[]⟩)), zV] = _
    rw [hs]
  obtain ⟨q1, q2⟩ := in_good (v := ⟨2, 1, ⟨#[]⟩⟩) (xs := [⟨2, 2, ⟨#[]⟩⟩, zV]) (by unfold okIn; rw [k1, k2]; rfl) h0
  have h1 : ctL [tV false, zV] = 0 := by unfold ctL allOk; simp [chk_t, chk_z]; rfl
  have h2 : decV true [tV false, zV] = zV := by unfold decV; rw [if_pos h1]; rfl
  rw [hq, h1] at q1
  rw [hq, h2] at q2
  rw [q1, q2] at h
  exact h
theorem live_is {X : World} : Calls Try.prog 21 #[.agg #[.int .i64 0, .int .i64 0, .string ⟨#[]⟩], .agg #[.int .i64 0, .int .i64 0, .string ⟨#[]⟩]] X fun e w' => e = .returned (.tuple #[.agg #[.int .i64 1, .int .i64 1, .string ⟨#[]⟩], .int .i64 0]) ∧ Below X.heap.size X w' := by
  have h := is_any zV zV X
  have k : allOk [zV, zV] = true := by unfold allOk; simp [chk_z]
  obtain ⟨e1, r1⟩ := isE_good k (Or.inl rfl)
  rw [e1, r1, show sameB zV.k zV.i zV.s zV.k zV.i zV.s = true by simp [sameB]] at h
  exact h
theorem live_rel {X : World} : Calls Try.prog 19 #[.string ⟨#[60]⟩, .agg #[.int .i64 2, .int .i64 1, .string ⟨#[]⟩], .agg #[.int .i64 3, .int .i64 0, .string ⟨#[97]⟩]] X fun e w' => e = .returned (.tuple #[.agg #[.int .i64 0, .int .i64 0, .string ⟨#[]⟩], .int .i64 20]) ∧ Below X.heap.size X w' := by
  have h := rel_any ⟨#[60]⟩ ⟨2, 1, ⟨#[]⟩⟩ ⟨3, 0, ⟨#[97]⟩⟩ X
  have k : allOk [(⟨2, 1, ⟨#[]⟩⟩ : V), ⟨3, 0, ⟨#[97]⟩⟩] = true := by unfold allOk; simp [chk_i]; simp [V.chk, chkI, mayB]
  obtain ⟨e1, r1⟩ := rel_kind (op := ⟨#[60]⟩) (a := ⟨2, 1, ⟨#[]⟩⟩) (b := ⟨3, 0, ⟨#[97]⟩⟩) (by rw [k, kn_eq.2.2.1]; rfl) (by decide) (by decide) (by decide)
  rw [e1, r1] at h
  exact h
theorem live_holds {X : World} : Calls Try.prog 17 #[.agg #[.int .i64 1, .int .i64 1, .string ⟨#[]⟩]] X fun e w' => e = .returned (.bool true) ∧ Below X.heap.size X w' := by
  have h := holds_any (tV true) X
  rw [show isV (tV true) true = true from isV_iff.2 rfl] at h
  exact h
theorem bool1_t (w : World) : Calls Try.prog 26 #[.bool true] w fun e w' => e = .returned (.agg #[.int .i64 1, .int .i64 1, .string ⟨#[]⟩]) ∧ Below w.heap.size w w' := bool1_any true w
theorem bool1_f (w : World) : Calls Try.prog 26 #[.bool false] w fun e w' => e = .returned (.agg #[.int .i64 1, .int .i64 0, .string ⟨#[]⟩]) ∧ Below w.heap.size w w' := bool1_any false w
def oV : V := ⟨1, 1, ⟨#[]⟩⟩
def fV : V := ⟨1, 0, ⟨#[]⟩⟩
set_option maxRecDepth 100000 in
set_option maxHeartbeats 16000000 in
theorem live_any (w : World) : Calls Try.prog 9 #[] w fun e w' => e = .returned (.bool true) ∧ Below w.heap.size w w' := by
  have HT := Lib.hid bool1_t
  have HF := Lib.hid bool1_f
  have HA := Lib.hid live_and1
  go_enter Try.func9, Try.ntmps9
  go_wp2_with fail
  refine (HT.out _).mono ?_
  rintro e w1 ⟨rfl, hb1⟩
  have v1 := Lib.hid (VBox.alloc (VBox.made w1 oV) (.cells #[.int .i64 0, .int .i64 0, .string ⟨#[]⟩] 24))
  have v2 := Lib.hid (VBox.made (w1.alloc (.cells #[.int .i64 1, .int .i64 1, .string ⟨#[]⟩] 24)) zV)
  have c2 := Lib.hid ((hb1.alloc hb1.size (.cells #[.int .i64 1, .int .i64 1, .string ⟨#[]⟩] 24)).alloc (by have := hb1.size; simp; omega) (.cells #[.int .i64 0, .int .i64 0, .string ⟨#[]⟩] 24))
  go_wp2_with fail
  refine (HA.out _ _ (by simp)).mono ?_
  rintro e w2 ⟨rfl, hb2⟩
  have v1 := Lib.hid (v1.out.later hb2)
  have v2 := Lib.hid (v2.out.later hb2)
  have v2 : Hid (VBox w2 (w1.heap.size + 1) zV) := by have := v2.out; show VBox _ _ _; simpa using this
  have hz2 : w1.heap.size + 2 ≤ w2.heap.size := by have := hb2.size; simp at this; omega
  have c2 := bthen c2.out hb2
  have l1 : AllLt (w2.heap.size + 1) [(w1.heap.size, oV), (w1.heap.size + 1, zV), (w2.heap.size, zV)] := allLt_cons (by simp; omega) (allLt_cons (by simp; omega) (allLt_cons (by simp) allLt_nil))
  have h1 : Held w (w2.heap.size + 1) [(w1.heap.size, oV), (w1.heap.size + 1, zV), (w2.heap.size, zV)] (w2.alloc (.cells #[.int .i64 0, .int .i64 0, .string ⟨#[]⟩] 24)) := Held.of (by simp) (c2.alloc c2.size _) (boxes_cons (v1.out.alloc _) (boxes_cons (v2.out.alloc _) (boxes_cons (VBox.made w2 zV) boxes_nil)))
  have hw : w.heap.size ≤ w2.heap.size + 1 := by have := c2.size; omega
  have L1 := Lib.hid l1
  have H1 := Lib.hid h1
  clear l1 h1
  have q2 : ∀ n : Nat, n < n + 1 + 1 := by omega
  have q3 : ∀ n : Nat, n < n + 1 + 1 + 1 := by omega
  have q4 : ∀ n : Nat, n + 1 < n + 1 + 1 + 1 := by omega
  go_upto_region 4 with fail
  go_cut [5, 6] (fun s5 s6 wx => ∃ g, s5 = .pointer (some ⟨g, 0, none⟩) ∧ s6 = .int .i64 0 ∧ w2.heap.size + 1 ≤ g ∧ Hid (VBox wx g fV) ∧ Hid (Held w (w2.heap.size + 1) [(w1.heap.size, oV), (w1.heap.size + 1, zV), (w2.heap.size, zV)] wx))
  case first =>
    go_region_held3 (fun w' => w2.heap.size + 1 ≤ w'.heap.size ∧ Below w.heap.size w w' ∧ w'.cell? ⟨w1.heap.size, 0, none⟩ = some (.int .i64 1) ∧ w'.cell? ⟨w1.heap.size, 1, none⟩ = some (.int .i64 1) ∧ w'.cell? ⟨w1.heap.size, 2, none⟩ = some (.string ⟨#[]⟩) ∧ w'.cell? ⟨w1.heap.size + 1, 0, none⟩ = some (.int .i64 0) ∧ w'.cell? ⟨w1.heap.size + 1, 1, none⟩ = some (.int .i64 0) ∧ w'.cell? ⟨w1.heap.size + 1, 2, none⟩ = some (.string ⟨#[]⟩) ∧ w'.cell? ⟨w2.heap.size, 0, none⟩ = some (.int .i64 0) ∧ w'.cell? ⟨w2.heap.size, 1, none⟩ = some (.int .i64 0) ∧ w'.cell? ⟨w2.heap.size, 2, none⟩ = some (.string ⟨#[]⟩) ∧ True) (first | exact H1.out.drew | exact (Held.alloc L1.out hw H1.out _).drew | (refine Held.later L1.out hw ?_ hb3; assumption) | (refine Held.later L1.out hw ?_ hb4; assumption) | (refine Held.alloc L1.out hw ?_ _; assumption) | (refine Held.realloc (o := .cells #[.int .i64 0, .int .i64 0, .string ⟨#[]⟩] 24) L1.out hw (by omega) ?_ _; assumption) | (refine Held.set3 L1.out hw ?_ ?_ _ _ _; assumption; omega)) (first | (go_at_call 26; go_must (refine (HF.out _).mono ?_); rintro e w3 ⟨rfl, hb3⟩; have hz3 := hb3.size; (try simp only [World.size_drew, World.size_alloc] at hz3); (try (((first | with_reducible refine with_fact (vt.later hb3) ?_ | with_reducible refine with_fact ((vt.alloc _).later hb3) ?_ | with_reducible refine with_fact (VBox.raw0z.later hb3) ?_ | with_reducible refine with_fact (VBox.raw0z.drew.later hb3) ?_ | with_reducible refine with_fact ((VBox.raw0z.alloc _).later hb3) ?_)); intro vt; (try simp only [World.size_alloc] at vt); obtain ⟨x0, x1, x2⟩ := vt.cells; obtain ⟨x3, x4, x5⟩ := vt.free; simp only [zV] at x0 x1 x2))) | (go_at_call 11; go_must (first | (refine (live_and0 (row2_raw ?_)).mono ?_; focus (simp; done)) | (refine (live_and0 ((row2_raw ?_).moreAlloc _)).mono ?_; focus (simp; done))); rintro e w4 ⟨rfl, hb4⟩; have hz4 := hb4.size; (try simp only [World.size_alloc] at hz4); (try (((first | with_reducible refine with_fact (vt.later hb4) ?_ | with_reducible refine with_fact ((vt.alloc _).later hb4) ?_ | with_reducible refine with_fact (VBox.raw0z.later hb4) ?_ | with_reducible refine with_fact (VBox.raw0z.drew.later hb4) ?_ | with_reducible refine with_fact ((VBox.raw0z.alloc _).later hb4) ?_)); intro vt; (try simp only [World.size_alloc] at vt); obtain ⟨x0, x1, x2⟩ := vt.cells; obtain ⟨x3, x4, x5⟩ := vt.free; simp only [zV] at x0 x1 x2))))
    all_goals (go_wp2_with fail; go_meet; refine ⟨_, rfl, rfl, by omega, ?_, ?_⟩; (first | exact VBox.made w4 fV | exact VBox.set' vt rfl rfl rfl); assumption)
  case rest =>
    obtain ⟨g, rfl, rfl, hg, hv5, hH⟩ := hcut
    have hE := hH.out.2.2
    obtain ⟨-, -, -, e0, e1, e2, -⟩ := hE
    have hgl := hv5.out.lt
    simp only [zV] at e0 e1 e2
    go_wp2_with fail
    refine live_is.mono ?_
    rintro e w5 ⟨rfl, hb5⟩
    have h5 := hH.out.later L1.out hw hb5
    have v5 := hv5.out.later hb5
    have hz5 : g < w5.heap.size := v5.lt
    have c5 := h5.2.1
    have hs5 := h5.1
    have bx : Boxes [(w1.heap.size, oV), (w1.heap.size + 1, zV), (w2.heap.size, zV)] (w5.alloc (.cells #[.int .i64 1, .int .i64 1, .string ⟨#[]⟩] 24)) := h5.2.2.same L1.out (fun b o hlt => World.cell?_alloc_lt _ _ _ (by show b < _; omega))
    have h6 : Held w (w5.heap.size + 1) [(g, fV), (w5.heap.size, oV), (w1.heap.size, oV), (w1.heap.size + 1, zV), (w2.heap.size, zV)] (w5.alloc (.cells #[.int .i64 1, .int .i64 1, .string ⟨#[]⟩] 24)) := Held.of (by simp) (c5.alloc c5.size _) (boxes_cons (v5.alloc _) (boxes_cons (VBox.made w5 oV) bx))
    have l6 : AllLt (w5.heap.size + 1) [(g, fV), (w5.heap.size, oV), (w1.heap.size, oV), (w1.heap.size + 1, zV), (w2.heap.size, zV)] := allLt_cons (by simp; omega) (allLt_cons (by simp) (allLt_cons (by simp; omega) (allLt_cons (by simp; omega) (allLt_cons (by simp; omega) allLt_nil))))
    have hw6 : w.heap.size ≤ w5.heap.size + 1 := by omega
    have L6 := Lib.hid l6
    have H6 := Lib.hid h6
    have HI1 := Lib.hid (fun w => int1_any 1 w)
    have HI2 := Lib.hid (fun w => int1_any 2 w)
    clear bx h6 l6 h5 v5 hH hv5 L1 H1 e0 e1 e2 c5 hb5 hb1 hb2 v1 v2 c2
    go_upto_region 6 with fail
    go_cut [9, 10] (fun s9 s10 wx => ∃ g', s9 = .pointer (some ⟨g', 0, none⟩) ∧ s10 = .int .i64 0 ∧ w5.heap.size + 1 ≤ g' ∧ Hid (VBox wx g' zV) ∧ Hid (Held w (w5.heap.size + 1) [(g, fV), (w5.heap.size, oV), (w1.heap.size, oV), (w1.heap.size + 1, zV), (w2.heap.size, zV)] wx))
    case first =>
      go_region_held3 (fun w' => w5.heap.size + 1 ≤ w'.heap.size ∧ Below w.heap.size w w' ∧ w'.cell? ⟨g, 0, none⟩ = some (.int .i64 1) ∧ w'.cell? ⟨g, 1, none⟩ = some (.int .i64 0) ∧ w'.cell? ⟨g, 2, none⟩ = some (.string ⟨#[]⟩) ∧ w'.cell? ⟨w5.heap.size, 0, none⟩ = some (.int .i64 1) ∧ w'.cell? ⟨w5.heap.size, 1, none⟩ = some (.int .i64 1) ∧ w'.cell? ⟨w5.heap.size, 2, none⟩ = some (.string ⟨#[]⟩) ∧ w'.cell? ⟨w1.heap.size, 0, none⟩ = some (.int .i64 1) ∧ w'.cell? ⟨w1.heap.size, 1, none⟩ = some (.int .i64 1) ∧ w'.cell? ⟨w1.heap.size, 2, none⟩ = some (.string ⟨#[]⟩) ∧ w'.cell? ⟨w1.heap.size + 1, 0, none⟩ = some (.int .i64 0) ∧ w'.cell? ⟨w1.heap.size + 1, 1, none⟩ = some (.int .i64 0) ∧ w'.cell? ⟨w1.heap.size + 1, 2, none⟩ = some (.string ⟨#[]⟩) ∧ w'.cell? ⟨w2.heap.size, 0, none⟩ = some (.int .i64 0) ∧ w'.cell? ⟨w2.heap.size, 1, none⟩ = some (.int .i64 0) ∧ w'.cell? ⟨w2.heap.size, 2, none⟩ = some (.string ⟨#[]⟩) ∧ True) (first | exact H6.out.drew | exact (Held.alloc L6.out hw6 H6.out _).drew | (refine Held.later L6.out hw6 ?_ hb6; assumption) | (refine Held.later L6.out hw6 ?_ hb7; assumption) | (refine Held.later L6.out hw6 ?_ hb8; assumption) | (refine Held.alloc L6.out hw6 ?_ _; assumption) | (refine Held.realloc (o := .cells #[.int .i64 0, .int .i64 0, .string ⟨#[]⟩] 24) L6.out hw6 (by omega) ?_ _; assumption) | (refine Held.set3 L6.out hw6 ?_ ?_ _ _ _; assumption; omega)) (first | (go_at_call_of 27 (Value.int .i64 1); go_must (refine (HI1.out _).mono ?_); rintro e w6 ⟨rfl, hb6⟩; have hz6 := hb6.size; (try simp only [World.size_drew, World.size_alloc] at hz6); (try (((first | with_reducible refine with_fact (vt.later hb6) ?_ | with_reducible refine with_fact ((vt.alloc _).later hb6) ?_ | with_reducible refine with_fact (VBox.raw0z.later hb6) ?_ | with_reducible refine with_fact (VBox.raw0z.drew.later hb6) ?_ | with_reducible refine with_fact ((VBox.raw0z.alloc _).later hb6) ?_)); intro vt; (try simp only [World.size_alloc] at vt); obtain ⟨x0, x1, x2⟩ := vt.cells; obtain ⟨x3, x4, x5⟩ := vt.free; simp only [zV] at x0 x1 x2)); (try (((first | with_reducible refine with_fact (vr.later hb6) ?_ | with_reducible refine with_fact ((vr.moreAlloc _).later hb6) ?_ | with_reducible refine with_fact (row2_rawz.later hb6) ?_ | with_reducible refine with_fact ((row2_rawz.moreAlloc _).later hb6) ?_)); intro vr; (try simp only [World.size_alloc] at vr)))) | (go_at_call_of 27 (Value.int .i64 2); go_must (refine (HI2.out _).mono ?_); rintro e w7 ⟨rfl, hb7⟩; have hz7 := hb7.size; (try simp only [World.size_alloc] at hz7); (try (((first | with_reducible refine with_fact (vt.later hb7) ?_ | with_reducible refine with_fact ((vt.alloc _).later hb7) ?_ | with_reducible refine with_fact (VBox.raw0z.later hb7) ?_ | with_reducible refine with_fact (VBox.raw0z.drew.later hb7) ?_ | with_reducible refine with_fact ((VBox.raw0z.alloc _).later hb7) ?_)); intro vt; (try simp only [World.size_alloc] at vt); obtain ⟨x0, x1, x2⟩ := vt.cells; obtain ⟨x3, x4, x5⟩ := vt.free; simp only [zV] at x0 x1 x2))) | (go_at_call 23; go_must (first | (refine (live_in (row2_raw ?_)).mono ?_; focus (simp; done)) | (refine (live_in ((row2_raw ?_).moreAlloc _)).mono ?_; focus (simp; done)) | refine (live_in vr).mono ?_ | refine (live_in (vr.moreAlloc _)).mono ?_); rintro e w8 ⟨rfl, hb8⟩; have hz8 := hb8.size; (try simp only [World.size_alloc] at hz8); (try (((first | with_reducible refine with_fact (vt.later hb8) ?_ | with_reducible refine with_fact ((vt.alloc _).later hb8) ?_ | with_reducible refine with_fact (VBox.raw0z.later hb8) ?_ | with_reducible refine with_fact (VBox.raw0z.drew.later hb8) ?_ | with_reducible refine with_fact ((VBox.raw0z.alloc _).later hb8) ?_)); intro vt; (try simp only [World.size_alloc] at vt); obtain ⟨x0, x1, x2⟩ := vt.cells; obtain ⟨x3, x4, x5⟩ := vt.free; simp only [zV] at x0 x1 x2))))
      all_goals (go_wp2_with fail; go_meet; refine ⟨_, rfl, rfl, by omega, ?_, ?_⟩; (first | exact VBox.made w8 zV | exact VBox.set' vt rfl rfl rfl); assumption)
    case rest =>
      obtain ⟨g', rfl, rfl, hg', hv9, hH9⟩ := hcut
      have hgl' := hv9.out.lt
      have hB9 := hH9.out.2.1
      have hs9 := hH9.out.1
      go_wp2_with fail
      refine (int1_any 1 _).mono ?_
      rintro e w9 ⟨rfl, hb9⟩
      go_wp2_with fail
      refine (text1_any _ _).mono ?_
      rintro e w10 ⟨rfl, hb10⟩
      have hb10 := bthen hb9 hb10
      go_wp2_with fail
      refine live_rel.mono ?_
      rintro e w11 ⟨rfl, hb11⟩
      have hb11 := bthen hb10 hb11
      have h11 := hH9.out.later L6.out hw6 hb11
      have v11 := hv9.out.later hb11
      have hz11 := h11.1
      have hg11 : g' < w11.heap.size := v11.lt
      have H11 := Lib.hid (Held.of (top := w11.heap.size) (Nat.le_refl _) h11.2.1 (boxes_cons v11 h11.2.2))
      have hw11 : w.heap.size ≤ w11.heap.size := by omega
      have L11 := Lib.hid (show AllLt w11.heap.size [(g', zV), (g, fV), (w5.heap.size, oV), (w1.heap.size, oV), (w1.heap.size + 1, zV), (w2.heap.size, zV)] from allLt_cons (by simp; omega) (allLt_cons (by simp; omega) (allLt_cons (by simp; omega) (allLt_cons (by simp; omega) (allLt_cons (by simp; omega) (allLt_cons (by simp; omega) allLt_nil))))))
      clear h11 v11 hb9 hb10 hb11 hv9 hH9 L6 H6 HI1 HI2
      go_wp2_with fail
      go_region_held3 (fun w' => w11.heap.size ≤ w'.heap.size ∧ Below w.heap.size w w' ∧ w'.cell? ⟨g', 0, none⟩ = some (.int .i64 0) ∧ w'.cell? ⟨g', 1, none⟩ = some (.int .i64 0) ∧ w'.cell? ⟨g', 2, none⟩ = some (.string ⟨#[]⟩) ∧ w'.cell? ⟨g, 0, none⟩ = some (.int .i64 1) ∧ w'.cell? ⟨g, 1, none⟩ = some (.int .i64 0) ∧ w'.cell? ⟨g, 2, none⟩ = some (.string ⟨#[]⟩) ∧ w'.cell? ⟨w5.heap.size, 0, none⟩ = some (.int .i64 1) ∧ w'.cell? ⟨w5.heap.size, 1, none⟩ = some (.int .i64 1) ∧ w'.cell? ⟨w5.heap.size, 2, none⟩ = some (.string ⟨#[]⟩) ∧ w'.cell? ⟨w1.heap.size, 0, none⟩ = some (.int .i64 1) ∧ w'.cell? ⟨w1.heap.size, 1, none⟩ = some (.int .i64 1) ∧ w'.cell? ⟨w1.heap.size, 2, none⟩ = some (.string ⟨#[]⟩) ∧ w'.cell? ⟨w1.heap.size + 1, 0, none⟩ = some (.int .i64 0) ∧ w'.cell? ⟨w1.heap.size + 1, 1, none⟩ = some (.int .i64 0) ∧ w'.cell? ⟨w1.heap.size + 1, 2, none⟩ = some (.string ⟨#[]⟩) ∧ w'.cell? ⟨w2.heap.size, 0, none⟩ = some (.int .i64 0) ∧ w'.cell? ⟨w2.heap.size, 1, none⟩ = some (.int .i64 0) ∧ w'.cell? ⟨w2.heap.size, 2, none⟩ = some (.string ⟨#[]⟩) ∧ True) (first | exact (Held.alloc L11.out hw11 H11.out _).drew | (refine Held.later L11.out hw11 ?_ hb12; assumption)) (first | (go_at_call 26; go_must (refine (HF.out _).mono ?_); rintro e w12 ⟨rfl, hb12⟩) | (go_at_call 17; go_must (refine live_holds.mono ?_); rintro e w12 ⟨rfl, hb12⟩))
      all_goals
        go_wp2_with fail
        go_ret
        have hs : Held w w11.heap.size [(g', zV), (g, fV), (w5.heap.size, oV), (w1.heap.size, oV), (w1.heap.size + 1, zV), (w2.heap.size, zV)] w12 := by assumption
        exact ⟨rfl, hs.2.1⟩

end Go.Proofs.Ytfccongmfoolpaa
