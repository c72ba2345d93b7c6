/- The walk of the law ValueTexts: it answers true, whatever row. Conditions: rows and texts shorter than 2 to the 47, numbers of 64 bits, and the library's two variables hold what they hold at the start. -/
import Derived.Test.YtpmigbhfhccegaaDoorRText
import Derived.Test.YtpmigbhfhccegaaDoorBegins
namespace Go.Proofs.YtpmigbhfhccegaaDoor
open Go.RowKit
theorem few_small {r : R} (h : few [r] 20000 = true) : ∀ v ∈ r.xs, v.s.size ≤ 20000 := by
  have : ∀ (l : List V) (v : V), v ∈ l → v.s.size ≤ rowN l := fun l => by
    induction l with
    | nil => simp
    | cons a l ih =>
      intro v hv
      have h1 : rowN (a :: l) = 1 + a.s.size + rowN l := by unfold rowN; simp
      rcases List.mem_cons.1 hv with rfl | hv
      · omega
      · have := ih v hv; omega
  intro v hv
  have h1 := this r.xs v hv
  unfold few rowsN at h
  simp at h
  omega
def rtB (xs : List V) : ByteArray := if chkR xs = 0 then ⟨(rowTxt xs).toArray⟩ else ⟨#[]⟩
theorem chkR_ok {xs : List V} (h : chkR xs = 0) (hs : ∀ v ∈ xs, v.s.size ≤ 20000) (hf : ∀ v ∈ xs, v.fits) : RowOk xs ∧ xs.length ≤ 64 := by
  unfold chkR at h
  split at h
  · rename_i ha
    split at h
    · omega
    · refine ⟨fun v hv => ⟨?_, (hf v hv).2.2.1, (hf v hv).2.2.2, by have := hs v hv; omega⟩, by omega⟩
      unfold allOk at ha
      rw [List.all_eq_true] at ha
      simpa using ha v hv
  · omega
theorem rowText_any (xs : List V) (A : Option Addr) (c : Nat) (w : World) (hr : RowAt w w.heap.size A xs) (hs : ∀ v ∈ xs, v.s.size ≤ 20000) (hf : ∀ v ∈ xs, v.fits) (hm : xs.length ≤ 9223372036854775807) (hE : Env w) :
    Calls Tryd.prog 29 #[.slice A xs.length c] w fun e w' => e = .returned (.tuple #[.string (rtB xs), .int .i64 (chkR xs)]) ∧ Below w.heap.size w w' := by
  by_cases h : chkR xs = 0
  · obtain ⟨h1, h2⟩ := chkR_ok h hs hf
    unfold rtB
    rw [if_pos h, h]
    exact rowText_ok xs A c w hr h1 h2 hE
  · unfold rtB
    rw [if_neg h]
    exact rowText_bad xs A c w hr hm h
theorem rRowText_any (xs : List V) (A : Option Addr) (c : Nat) (w : World) (hr : RowAt w w.heap.size A xs) (hs : ∀ v ∈ xs, v.s.size ≤ 20000) (hf : ∀ v ∈ xs, v.fits) (hm : xs.length ≤ 9223372036854775807) :
    Calls Tryd.prog 30 #[.slice A xs.length c] w fun e w' => e = .returned (.tuple #[.string (rtB xs), .int .i64 (chkR xs)]) ∧ Below w.heap.size w w' := by
  by_cases h : chkR xs = 0
  · obtain ⟨h1, h2⟩ := chkR_ok h hs hf
    unfold rtB
    rw [if_pos h, h]
    exact rRowText_ok xs A c w hr h1 h2
  · unfold rtB
    rw [if_neg h]
    exact rRowText_bad xs A c w hr hm h
set_option maxRecDepth 100000 in
set_option maxHeartbeats 4000000 in
theorem texts_core (r : R) (w : World) (hE : Env w) (hr : RowAt w w.heap.size r.A r.xs) (sr : RowSmall r.xs) (hf : ∀ v ∈ r.xs, v.fits) :
    Calls Tryd.prog 5 #[r.val] w fun e w' => e = .returned (.bool true) ∧ Below w.heap.size w w' := by
  have hbig : ∀ w', Below w.heap.size w w' → Calls Tryd.prog 11 #[.slice (some ⟨w'.heap.size, 0, none⟩) 1 1] (w'.alloc (.cells #[r.val] 23)) fun e w2 => e = .returned (.bool (!few [r] 20000)) ∧ Below (w'.alloc (.cells #[r.val] 23)).heap.size (w'.alloc (.cells #[r.val] 23)) w2 := fun w' h =>
    big_any [r] _ 1 _ (rows_made w' [r] (all1 (P := fun r => RowAt w' w'.heap.size r.A r.xs) (hr.later h)) _ rfl 23) (by simp) (all1 (P := fun r => RowSmall r.xs) sr)
  have HE := Lib.hid hE
  have hsz := hE.size
  have HR := Lib.hid hr
  have HBIG := Lib.hid hbig
  clear hE hr hbig
  cases hfew : few [r] 20000
  · rw [hfew] at HBIG
    unfold R.val at *
    clear hfew
    generalize r.xs.length = n at *
    go_enter Tryd.func5, Tryd.ntmps5
    go_wp2_with fail
    refine (live_any _ HE.out).mono ?_
    rintro e w1 ⟨rfl, c1⟩
    go_wp2_with fail
    refine (HBIG.out w1 c1).mono ?_
    rintro e w2 ⟨rfl, b2⟩
    have c2 : Below w.heap.size w w2 := (c1.alloc c1.size _).trans (b2.mono (by have := c1.size; simp; omega))
    go_wp2_with fail
    go_ret
    exact ⟨rfl, c2⟩
  · rw [hfew] at HBIG
    have hsm := few_small hfew
    clear hfew
    obtain ⟨aa, cc, xs⟩ := r
    unfold R.val at *
    simp only at *
    have hrt : ∀ w', Below w.heap.size w w' → Calls Tryd.prog 29 #[.slice aa xs.length cc] w' fun e w2 => e = .returned (.tuple #[.string (rtB xs), .int .i64 (chkR xs)]) ∧ Below w'.heap.size w' w2 := fun w' h => rowText_any xs aa cc w' (HR.out.later h) hsm hf (by have := sr.1; omega) (HE.out.below h hsz)
    have hrrt : ∀ w', Below w.heap.size w w' → Calls Tryd.prog 30 #[.slice aa xs.length cc] w' fun e w2 => e = .returned (.tuple #[.string (rtB xs), .int .i64 (chkR xs)]) ∧ Below w'.heap.size w' w2 := fun w' h => rRowText_any xs aa cc w' (HR.out.later h) hsm hf (by have := sr.1; omega)
    have hsr := sr.1
    generalize hn : xs.length = n at *
    have HN := Lib.hid hn
    have HRT := Lib.hid hrt
    have HRRT := Lib.hid hrrt
    have HSM := Lib.hid hsm
    have HF := Lib.hid hf
    clear hrt hrrt hsm hf hn sr
    generalize rtB xs = rt at *
    generalize chkR xs = rc at *
    go_enter Tryd.func5, Tryd.ntmps5
    go_wp2_with fail
    refine (live_any _ HE.out).mono ?_
    rintro e w1 ⟨rfl, c1⟩
    go_wp2_with fail
    refine (HBIG.out w1 c1).mono ?_
    rintro e w2 ⟨rfl, b2⟩
    have c2 : Below w.heap.size w w2 := (c1.alloc c1.size _).trans (b2.mono (by have := c1.size; simp; omega))
    clear b2
    go_wp2_with fail
    go_loopw [21] (fun i wr => ∃ k : Nat, k ≤ n ∧ i = .int .i64 (k : Int) ∧ Below w.heap.size w wr) (fun i _ => n - (intOf i).toNat)
    case atStart => exact ⟨0, Nat.zero_le _, rfl, c2⟩
    case round =>
      obtain ⟨k, hk, rfl, hb⟩ := hrel
      by_cases hlt : k < n
      · have hkx : k < xs.length := by rw [HN.out]; exact hlt
        obtain ⟨g, off, hA, hbl, hcl⟩ := HR.out (by omega)
        subst hA
        obtain ⟨c1', c2', c3'⟩ := hcl k hkx
        have d1 := (hb.cell (p := ⟨g, _, none⟩) hbl).trans c1'
        have d2 := (hb.cell (p := ⟨g, _, none⟩) hbl).trans c2'
        have d3 := (hb.cell (p := ⟨g, _, none⟩) hbl).trans c3'
        clear c1' c2' c3' hcl
        have hmem := List.getElem_mem hkx
        have ht := fun w' (hE' : Env w') => text_any xs[k] w' hE' (by have := HSM.out _ hmem; omega) (HF.out _ hmem)
        have hrt := fun w' => rText_any xs[k] w' (by have := HSM.out _ hmem; omega) (HF.out _ hmem)
        clear hmem
        generalize xs[k] = v at *
        generalize txtB v = tb at *
        generalize v.chk = ck at *
        have HT := Lib.hid ht
        have HRTX := Lib.hid hrt
        clear ht hrt
        go_wp2_with fail
        refine (HT.out _ (HE.out.below (hb.alloc hb.size _) hsz)).mono ?_
        rintro e w3 ⟨rfl, b3⟩
        obtain ⟨-, ⟨e0, e1, e2⟩, b3', hz3⟩ := box3 b3
        have c3 := bthen hb b3'
        clear b3 b3'
        go_wp2_with fail
        refine (HRTX.out _).mono ?_
        rintro e w4 ⟨rfl, b4⟩
        have c4 := bthen c3 b4
        clear b4
        go_wp2_with fail
        go_roundw
        case rel => exact ⟨k + 1, by omega, by go_num, c4⟩
        case measure => simp [intOf]; omega
      · obtain rfl : k = n := by omega
        go_wp2_with fail
        refine (HRT.out _ hb).mono ?_
        rintro e w3 ⟨rfl, b3⟩
        have c3 := bthen hb b3
        go_wp2_with fail
        refine (HRRT.out _ c3).mono ?_
        rintro e w4 ⟨rfl, b4⟩
        have c4 := bthen c3 b4
        go_wp2_with fail
        go_ret
        go_light
        exact ⟨by simp, c4⟩
end Go.Proofs.YtpmigbhfhccegaaDoor
