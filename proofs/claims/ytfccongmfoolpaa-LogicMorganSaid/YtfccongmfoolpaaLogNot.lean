/- Contracts of Not and Is of logic and of the reference, of any values. No condition. -/
import Derived.Test.YtfccongmfoolpaaLogAnd
namespace Go.Proofs.Ytfccongmfoolpaa
open Go.RowKit
def V.obj (v : V) : Obj := .cells #[.int .i64 v.k, .int .i64 v.i, .string v.s] 24
def w1of (w : World) (v : V) : World := (w.alloc (.cells #[.int .i64 v.k, .int .i64 v.i, .string v.s] 24)).alloc (.cells #[.int .i64 0, .int .i64 0, .string ⟨#[]⟩] 24)
def w2of (w : World) (v : V) : World := (w1of w v).alloc (.cells #[.int .i64 v.k, .int .i64 v.i, .string v.s] 24)
theorem w2of_row (w : World) (v : V) : RowAt (w2of w v) (w2of w v).heap.size (some ⟨w.heap.size + 2, 0, none⟩) [v] := by
  have h := RowAt.of_heap (xs := [v]) (heap_alloc_new (w1of w v) (.cells #[.int .i64 v.k, .int .i64 v.i, .string v.s] 24)) rfl
  rw [show (w1of w v).heap.size = w.heap.size + 2 by simp [w1of]] at h
  exact h
theorem w2of_box (w : World) (v : V) : VBox (w2of w v) w.heap.size v ∧ VBox (w2of w v) (w.heap.size + 1) zV ∧ Below w.heap.size w (w2of w v) ∧ (w2of w v).heap.size = w.heap.size + 3 := by
  have h0 := VBox.made w v
  have h1 := VBox.made (w.alloc (.cells #[.int .i64 v.k, .int .i64 v.i, .string v.s] 24)) zV
  have b1 := Below.alloc (Below.refl (w.heap.size + 1) (w.alloc (.cells #[.int .i64 v.k, .int .i64 v.i, .string v.s] 24))) (by simp) (.cells #[.int .i64 0, .int .i64 0, .string ⟨#[]⟩] 24)
  have b2 := Below.alloc (Below.refl (w.heap.size + 2) (w1of w v)) (by simp [w1of]) (.cells #[.int .i64 v.k, .int .i64 v.i, .string v.s] 24)
  refine ⟨(h0.below b1 (by omega)).below b2 (by omega), ?_, ?_, by simp [w2of, w1of]⟩
  · have := VBox.below h1 b2 (by simp)
    rwa [show (w.alloc (.cells #[.int .i64 v.k, .int .i64 v.i, .string v.s] 24)).heap.size = w.heap.size + 1 by simp] at this
  · exact (((Below.refl _ w).alloc (Nat.le_refl _) _).trans (b1.mono (by omega))).trans (b2.mono (by omega))
def notV (v : V) : V := if ctL [v] = 0 then (if v.k = 0 then zV else tV (!isV v true)) else zV
theorem ct1 {v : V} (h : ctL [v] = 0) : mayB v.k v.i v.s = true ∧ v.isT = true := by
  have h1 := (ok_of_ct h).1
  have h2 := (ok_of_ct h).2
  exact ⟨allOk_get (xs := [v]) h1 (k := 0) (by simp), by simpa [allT] using h2⟩
theorem notV_null {v : V} (h : ctL [v] = 0) (h0 : v.k = 0) : notV v = v := by
  unfold notV
  rw [if_pos h, if_pos h0]
  exact ((null_iff (ct1 h).1).1 h0).symm
theorem notV_some {v : V} (h : ctL [v] = 0) (h0 : ¬ v.k = 0) : notV v = tV (!isV v true) := by
  unfold notV
  rw [if_pos h, if_neg h0]
theorem notV_bad {v : V} (h : ¬ ctL [v] = 0) : notV v = zV := by unfold notV; rw [if_neg h]
theorem notV_ref {v : V} (h : ctL [v] = 0) (h0 : trN [v] = false) : notV v = tV (trB false [v]) := by
  have hm := (ct1 h).1
  have h1 : ¬ v.k = 0 := by
    unfold trN at h0
    rw [h] at h0
    simpa [anyN] using h0
  have h2 : v.k = 1 := by
    have := (ct1 h).2
    unfold V.isT at this
    simp [h1] at this
    exact this
  rw [notV_some h h1]
  have e1 : isV v true = v.isB true := by
    rw [Bool.eq_iff_iff, isV_iff, isB_iff hm]
  have e2 := isB_one (b := true) hm h2
  have e3 : trB false [v] = v.isB false := by unfold trB anyB; rw [h]; simp
  rw [e1, e3, ← show v.isB (!true) = v.isB false from rfl, e2]
theorem notV_ref0 {v : V} (h : ctL [v] = 0) (h0 : trN [v] = true) : notV v = zV := by
  have h1 : v.k = 0 := by
    unfold trN at h0
    rw [h] at h0
    simpa [anyN] using h0
  unfold notV
  rw [if_pos h, if_pos h1]
set_option maxHeartbeats 1000000 in
theorem not_any (v : V) (w : World) :
    Calls Try.prog 15 #[.agg #[.int .i64 v.k, .int .i64 v.i, .string v.s]] w fun e w' => e = .returned (.tuple #[.agg #[.int .i64 (notV v).k, .int .i64 (notV v).i, .string (notV v).s], .int .i64 (ctL [v])]) ∧ Below w.heap.size w w' := by
  have hcall := checkTruths_any [v] _ 1 _ (w2of_row w v) (by simp)
  obtain ⟨h0, h1, hb, hsz⟩ := w2of_box w v
  have HN0 := Lib.hid (@notV_null v)
  have HN1 := Lib.hid (@notV_some v)
  have HN2 := Lib.hid (@notV_bad v)
  have HT := Lib.hid (fun b => truth_any b)
  have HH := Lib.hid (fun w => holds_any v w)
  generalize ctL [v] = q at *
  generalize notV v = r at *
  generalize isV v true = p at *
  have H0 := Lib.hid h0
  have H1 := Lib.hid h1
  have HZ := Lib.hid hsz
  have HB := Lib.hid hb
  have HC := Lib.hid hcall
  clear h0 h1 hb hsz hcall
  have HC : Hid (Calls Try.prog 32 #[.slice (some ⟨w.heap.size + 2, 0, none⟩) 1 1] (((w.alloc (.cells #[.int .i64 v.k, .int .i64 v.i, .string v.s] 24)).alloc (.cells #[.int .i64 0, .int .i64 0, .string ⟨#[]⟩] 24)).alloc (.cells #[.int .i64 v.k, .int .i64 v.i, .string v.s] 24)) fun e w' => e = .returned (.int .i64 q) ∧ Below (w2of w v).heap.size (w2of w v) w') := HC.out
  by_cases hq : q = 0
  · by_cases hk : v.k = 0
    · subst hq
      have HE := Lib.hid (HN0.out rfl hk)
      have hk' : (v.k == 0) = true := by simpa using hk
      clear hk
      go_enter Try.func15, Try.ntmps15
      go_wp2_with (go_at_call 32; refine HC.out.mono ?_; rintro e w1 ⟨rfl, hb1⟩; obtain ⟨e0, e1, e2⟩ := (H0.out.below hb1 (by rw [HZ.out]; omega)).cells; obtain ⟨g0, g1, g2⟩ := (H1.out.below hb1 (by rw [HZ.out]; omega)).cells; obtain ⟨f0, f1, f2⟩ := (H1.out.below hb1 (by rw [HZ.out]; omega)).free; simp only [zV] at g0 g1 g2)
      exact bodyPost_ret (v := .tuple #[.agg #[.int .i64 v.k, .int .i64 v.i, .string v.s], .int .i64 0]) (by simp [results, Try.results15, go_sem, g0, g1, g2]) rfl ⟨ret_vx HE.out rfl, Below.set3 (HB.out.trans (hb1.mono (by rw [HZ.out]; omega))) (by omega) _ _ _⟩
    · subst hq
      have HE := Lib.hid (HN1.out rfl hk)
      have hk' : (v.k == 0) = false := by simpa using hk
      clear hk
      go_enter Try.func15, Try.ntmps15
      go_wp2_with (first | (go_at_call 32; refine HC.out.mono ?_; rintro e w1 ⟨rfl, hb1⟩; obtain ⟨e0, e1, e2⟩ := (H0.out.below hb1 (by rw [HZ.out]; omega)).cells) | (go_at_call 17; refine (HH.out _).mono ?_; rintro e w2 ⟨rfl, hb2⟩) | (go_at_call 33; refine (HT.out _ _).mono ?_; rintro e w3 ⟨rfl, hb3⟩; have HB3 := Lib.hid (bthen (bthen hb1 hb2) hb3); obtain ⟨g0, g1, g2⟩ := (H1.out.below HB3.out (by rw [HZ.out]; omega)).cells; obtain ⟨f0, f1, f2⟩ := (H1.out.below HB3.out (by rw [HZ.out]; omega)).free; simp only [zV] at g0 g1 g2))
      exact bodyPost_ret (v := .tuple #[.agg #[.int .i64 1, .int .i64 (bi (!p)), .string ⟨#[]⟩], .int .i64 0]) (by simp [results, Try.results15, go_sem, g0, g1, g2]) rfl ⟨ret_vx (u := tV (!p)) HE.out rfl, Below.set3 (HB.out.trans (HB3.out.mono (by rw [HZ.out]; omega))) (by omega) _ _ _⟩
  · have hk' : (q != 0) = true := by simpa using hq
    have HE := Lib.hid (HN2.out hq)
    clear hq
    go_enter Try.func15, Try.ntmps15
    go_wp2_with (go_at_call 32; refine HC.out.mono ?_; rintro e w1 ⟨rfl, hb1⟩; obtain ⟨g0, g1, g2⟩ := (H1.out.below hb1 (by rw [HZ.out]; omega)).cells; obtain ⟨f0, f1, f2⟩ := (H1.out.below hb1 (by rw [HZ.out]; omega)).free; simp only [zV] at g0 g1 g2)
    exact bodyPost_ret (v := .tuple #[.agg #[.int .i64 0, .int .i64 0, .string ⟨#[]⟩], .int .i64 q]) (by simp [results, Try.results15, go_sem, g0, g1, g2]) rfl ⟨ret_vx (u := zV) HE.out rfl, Below.set3 (HB.out.trans (hb1.mono (by rw [HZ.out]; omega))) (by omega) _ _ _⟩
set_option maxHeartbeats 1000000 in
theorem rnot_any (v : V) (w : World) :
    Calls Try.prog 16 #[.agg #[.int .i64 v.k, .int .i64 v.i, .string v.s]] w fun e w' => e = .returned (.tuple #[.agg #[.int .i64 (notV v).k, .int .i64 (notV v).i, .string (notV v).s], .int .i64 (ctL [v])]) ∧ Below w.heap.size w w' := by
  have hcall := truths_any [v] _ 1 _ (w2of_row w v) (by simp)
  obtain ⟨h0, h1, hb, hsz⟩ := w2of_box w v
  have HN0 := Lib.hid (@notV_ref v)
  have HN1 := Lib.hid (@notV_ref0 v)
  have HN2 := Lib.hid (@notV_bad v)
  have HT := Lib.hid (fun b => bool1_any b)
  generalize ctL [v] = q at *
  generalize notV v = r at *
  generalize trN [v] = x at *
  generalize trB false [v] = p at *
  generalize trB true [v] = z at *
  have H1 := Lib.hid h1
  have HZ := Lib.hid hsz
  have HB := Lib.hid hb
  have HC := Lib.hid hcall
  clear h0 h1 hb hsz hcall
  have HC : Hid (Calls Try.prog 31 #[.slice (some ⟨w.heap.size + 2, 0, none⟩) 1 1] (((w.alloc (.cells #[.int .i64 v.k, .int .i64 v.i, .string v.s] 24)).alloc (.cells #[.int .i64 0, .int .i64 0, .string ⟨#[]⟩] 24)).alloc (.cells #[.int .i64 v.k, .int .i64 v.i, .string v.s] 24)) fun e w' => e = .returned (.tuple #[.bool x, .bool p, .bool z, .int .i64 q]) ∧ Below (w2of w v).heap.size (w2of w v) w') := HC.out
  by_cases hq : q = 0
  · subst hq
    cases x
    · have HE := Lib.hid (HN0.out rfl rfl)
      go_enter Try.func16, Try.ntmps16
      go_wp2_with (first | (go_at_call 31; refine HC.out.mono ?_; rintro e w1 ⟨rfl, hb1⟩) | (go_at_call 26; refine (HT.out _ _).mono ?_; rintro e w3 ⟨rfl, hb3⟩; have HB3 := Lib.hid (bthen hb1 hb3); obtain ⟨g0, g1, g2⟩ := (H1.out.below HB3.out (by rw [HZ.out]; omega)).cells; obtain ⟨f0, f1, f2⟩ := (H1.out.below HB3.out (by rw [HZ.out]; omega)).free; simp only [zV] at g0 g1 g2))
      exact bodyPost_ret (v := .tuple #[.agg #[.int .i64 1, .int .i64 (bi p), .string ⟨#[]⟩], .int .i64 0]) (by simp [results, Try.results16, go_sem, g0, g1, g2]) rfl ⟨ret_vx (u := tV p) HE.out rfl, Below.set3 (HB.out.trans (HB3.out.mono (by rw [HZ.out]; omega))) (by omega) _ _ _⟩
    · have HE := Lib.hid (HN1.out rfl rfl)
      go_enter Try.func16, Try.ntmps16
      go_wp2_with (go_at_call 31; refine HC.out.mono ?_; rintro e w1 ⟨rfl, hb1⟩; obtain ⟨g0, g1, g2⟩ := (H1.out.below hb1 (by rw [HZ.out]; omega)).cells; obtain ⟨f0, f1, f2⟩ := (H1.out.below hb1 (by rw [HZ.out]; omega)).free; simp only [zV] at g0 g1 g2)
      exact bodyPost_ret (v := .tuple #[.agg #[.int .i64 0, .int .i64 0, .string ⟨#[]⟩], .int .i64 0]) (by simp [results, Try.results16, go_sem, g0, g1, g2]) rfl ⟨ret_vx (u := zV) HE.out rfl, Below.set3 (HB.out.trans (hb1.mono (by rw [HZ.out]; omega))) (by omega) _ _ _⟩
  · have hk' : (q != 0) = true := by simpa using hq
    have HE := Lib.hid (HN2.out hq)
    clear hq
    go_enter Try.func16, Try.ntmps16
    go_wp2_with (go_at_call 31; refine HC.out.mono ?_; rintro e w1 ⟨rfl, hb1⟩; obtain ⟨g0, g1, g2⟩ := (H1.out.below hb1 (by rw [HZ.out]; omega)).cells; obtain ⟨f0, f1, f2⟩ := (H1.out.below hb1 (by rw [HZ.out]; omega)).free; simp only [zV] at g0 g1 g2)
    exact bodyPost_ret (v := .tuple #[.agg #[.int .i64 0, .int .i64 0, .string ⟨#[]⟩], .int .i64 q]) (by simp [results, Try.results16, go_sem, g0, g1, g2]) rfl ⟨ret_vx (u := zV) HE.out rfl, Below.set3 (HB.out.trans (hb1.mono (by rw [HZ.out]; omega))) (by omega) _ _ _⟩
/-- Two values boxed, a result's place. -/
def w3of (w : World) (a b : V) : World := ((w.alloc (.cells #[.int .i64 a.k, .int .i64 a.i, .string a.s] 24)).alloc (.cells #[.int .i64 b.k, .int .i64 b.i, .string b.s] 24)).alloc (.cells #[.int .i64 0, .int .i64 0, .string ⟨#[]⟩] 24)
theorem w3of_box (w : World) (a b : V) : VBox (w3of w a b) w.heap.size a ∧ VBox (w3of w a b) (w.heap.size + 1) b ∧ VBox (w3of w a b) (w.heap.size + 2) zV ∧ Below w.heap.size w (w3of w a b) ∧ (w3of w a b).heap.size = w.heap.size + 3 := by
  have h0 := VBox.made w a
  have h1 := VBox.made (w.alloc (.cells #[.int .i64 a.k, .int .i64 a.i, .string a.s] 24)) b
  have h2 := VBox.made ((w.alloc (.cells #[.int .i64 a.k, .int .i64 a.i, .string a.s] 24)).alloc (.cells #[.int .i64 b.k, .int .i64 b.i, .string b.s] 24)) zV
  have b1 := Below.alloc (Below.refl (w.heap.size + 1) (w.alloc (.cells #[.int .i64 a.k, .int .i64 a.i, .string a.s] 24))) (by simp) (.cells #[.int .i64 b.k, .int .i64 b.i, .string b.s] 24)
  have b2 := Below.alloc (Below.refl (w.heap.size + 2) ((w.alloc (.cells #[.int .i64 a.k, .int .i64 a.i, .string a.s] 24)).alloc (.cells #[.int .i64 b.k, .int .i64 b.i, .string b.s] 24))) (by simp) (.cells #[.int .i64 0, .int .i64 0, .string ⟨#[]⟩] 24)
  rw [show (w.alloc (.cells #[.int .i64 a.k, .int .i64 a.i, .string a.s] 24)).heap.size = w.heap.size + 1 by simp] at h1
  rw [show ((w.alloc (.cells #[.int .i64 a.k, .int .i64 a.i, .string a.s] 24)).alloc (.cells #[.int .i64 b.k, .int .i64 b.i, .string b.s] 24)).heap.size = w.heap.size + 2 by simp] at h2
  exact ⟨(h0.below b1 (by omega)).below b2 (by omega), h1.below b2 (by omega), h2, (((Below.refl _ w).alloc (Nat.le_refl _) _).trans (b1.mono (by omega))).trans (b2.mono (by omega)), by simp [w3of]⟩
theorem w4of_row (w : World) (a b : V) : RowAt (w.alloc (.cells #[.int .i64 a.k, .int .i64 a.i, .string a.s, .int .i64 b.k, .int .i64 b.i, .string b.s] 24)) (w.alloc (.cells #[.int .i64 a.k, .int .i64 a.i, .string a.s, .int .i64 b.k, .int .i64 b.i, .string b.s] 24)).heap.size (some ⟨w.heap.size, 0, none⟩) [a, b] :=
  RowAt.of_heap (xs := [a, b]) (heap_alloc_new w _) rfl
def isE (a b : V) : Int := if chkA [a, b] = 0 then (if ¬ a.k = 0 ∧ ¬ b.k = 0 ∧ ¬ a.k = b.k then 20 else 0) else 1
def isR (a b : V) : V := if isE a b = 0 then tV (sameB a.k a.i a.s b.k b.i b.s) else zV
end Go.Proofs.Ytfccongmfoolpaa
