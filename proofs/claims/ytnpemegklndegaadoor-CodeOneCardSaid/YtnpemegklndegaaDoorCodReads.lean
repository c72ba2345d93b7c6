/- The walk of the law CodeReads: it answers true, whatever bytes lie in memory, of no more than 2 to the 47, and where the library's one variable that is read is there. -/
import Derived.Test.YtnpemegklndegaaDoorCodRUnk
namespace Go.Proofs.YtnpemegklndegaaDoor
open Go.RowKit
def rowD (o : Option (List V × Nat)) : List V := match o with | none => [] | some p => p.1
def numD (o : Option (List V × Nat)) : Nat := match o with | none => 0 | some p => p.2
def errD (o : Option (List V × Nat)) : Int := match o with | none => 50 | some _ => 0
def rowU (o : Option (List V)) : List V := match o with | none => [] | some p => p
def errU (o : Option (List V)) : Int := match o with | none => 50 | some _ => 0
theorem GaveD.take {w : World} {o : Option (List V × Nat)} {e : Ending} {w' : World} (h : GaveD w o e w') : ∃ A c, e = .returned (.tuple #[.slice A (rowD o).length c, .int .i64 (numD o : Nat), .int .i64 (errD o)]) ∧ Below w.heap.size w w' ∧ RowAt w' w'.heap.size A (rowD o) ∧ (rowD o).length ≤ c := by
  obtain ⟨hb, h⟩ := h
  cases o with
  | none => exact ⟨none, 0, h, hb, fun h => by simp [rowD] at h, by simp [rowD]⟩
  | some p =>
    obtain ⟨A, c, he, hc, hr⟩ := h
    exact ⟨A, c, he, hb, hr, hc⟩
theorem GaveU.take {w : World} {o : Option (List V)} {e : Ending} {w' : World} (h : GaveU w o e w') : ∃ A c, e = .returned (.tuple #[.slice A (rowU o).length c, .int .i64 (errU o)]) ∧ Below w.heap.size w w' ∧ RowAt w' w'.heap.size A (rowU o) ∧ (rowU o).length ≤ c := by
  obtain ⟨hb, h⟩ := h
  cases o with
  | none => exact ⟨none, 0, h, hb, fun h => by simp [rowU] at h, by simp [rowU]⟩
  | some p =>
    obtain ⟨A, c, he, hc, hr⟩ := h
    exact ⟨A, c, he, hb, hr, hc⟩
theorem rowD_len (l : List UInt8) : (rowD (dec l)).length ≤ 64 := by
  cases h : dec l with
  | none => simp [rowD]
  | some p => exact (dec_back l p.1 p.2 h).2.2.1
theorem rowU_len (l : List UInt8) : (rowU (rAll 64 l)).length ≤ 64 := by
  cases h : rAll 64 l with
  | none => simp [rowU]
  | some p => exact (wRow_rAll 64 l p h).1
/-- SameRow of a row and one of the same values. -/
theorem rsameRow_self (xs : List V) (A A' : Option Addr) (c c' : Nat) (w : World) (hr : RowAt w w.heap.size A xs) (hr' : RowAt w w.heap.size A' xs) (hm : xs.length ≤ 9223372036854775807) :
    Calls Tryd.prog 19 #[.slice A xs.length c, .slice A' xs.length c'] w fun e w' => e = .returned (.bool true) ∧ Below w.heap.size w w' := by
  have h := rcmpR_any xs xs A A' c c' w hr hr' hm
  rw [cmpR_ok.self xs] at h
  have H := Lib.hid h
  clear h hr hr' hm
  generalize xs.length = n at *
  go_enter Tryd.func19, Tryd.ntmps19
  go_wp2_with fail
  refine H.out.mono ?_
  rintro e w1 ⟨rfl, hb1⟩
  go_wp2_with fail
  go_ret
  exact ⟨rfl, hb1⟩
set_option maxRecDepth 100000 in
set_option maxHeartbeats 2000000 in
theorem reads_core (l : List UInt8) (A : Option Addr) (c : Nat) (w : World) (hE : Env w) (hy : BytesAt w w.heap.size A l) (hc : l.length ≤ c) :
    Calls Tryd.prog 4 #[.slice A l.length c] w fun e w' => e = .returned (.bool true) ∧ Below w.heap.size w w' := by
  have HL := Lib.hid (live_any w hE)
  have HY := Lib.hid hy
  have HN : Hid (∀ m, m = l.length → l.length = m) := fun m h => h.symm
  clear hE
  by_cases hbig : l.length > 100000
  · have hbi : (l.length : Int) > 100000 := by omega
    generalize l.length = n at *
    clear hy HN
    go_enter Tryd.func4, Tryd.ntmps4
    go_wp2_with fail
    refine HL.out.mono ?_
    rintro e w1 ⟨rfl, b1⟩
    go_wp2_with fail
    go_ret
    exact ⟨rfl, b1⟩
  · have hbi : ¬ ((l.length : Int) > 100000) := by omega
    have hm : l.length ≤ 100000 := by omega
    have HF : Hid (∀ w', Below w.heap.size w w' → Calls Tryd.prog 16 #[.slice A l.length c] w' (GaveD w' (dec l)) ∧ Calls Tryd.prog 18 #[.slice A l.length c] w' (GaveU w' (rAll 64 l)) ∧ (Calls Tryd.prog 21 #[.slice A l.length c] w' fun e w2 => e = .returned (.int .u64 (hashL l)) ∧ Below w'.heap.size w' w2) ∧ (convert 26 9 (.slice A l.length c)).run Tryd.prog w' = .ok (.string ⟨l.toArray⟩) w') := fun w' h =>
      ⟨rdecode_any l A c w' (hy.later h) hc (by omega), runkey_any l A c w' (hy.later h) hc (by omega), rhash_any l A c w' (hy.later h) (by omega), conv_at (hy.later h)⟩
    have HA : Hid (∀ w', Below w.heap.size w w' → ∃ A2 c2 w2, (Builtin.append_ #[26, 26] 26 #[.slice none 0 0, .slice A l.length c]).run Tryd.prog w' = .ok (.slice A2 l.length c2) w2 ∧ Below w'.heap.size w' w2 ∧
        ∀ w3, Below w2.heap.size w2 w3 → Calls Tryd.prog 15 #[.slice A2 l.length c2] w3 (GaveD w3 (dec l)) ∧ Calls Tryd.prog 17 #[.slice A2 l.length c2] w3 (GaveU w3 (rAll 64 l)) ∧ (Calls Tryd.prog 20 #[.slice A2 l.length c2] w3 fun e w4 => e = .returned (.int .u64 (hashL l)) ∧ Below w3.heap.size w3 w4) ∧ (convert 26 9 (.slice A2 l.length c2)).run Tryd.prog w3 = .ok (.string ⟨l.toArray⟩) w3) := fun w' h => by
      obtain ⟨v2, w2, r2, o2, g2, -⟩ := own_app (Own.nil w' w'.heap.size) l A c (hy.later h) (by simp; omega) (Nat.le_refl _)
      rw [List.nil_append] at o2
      obtain ⟨A2, c2, rfl, hc2, -, y2⟩ := o2.bytes
      exact ⟨A2, c2, w2, r2, grown_below (Below.refl _ w') (Own.nil w' w'.heap.size) g2 (Nat.le_refl _) (Nat.le_refl _), fun w3 h3 => ⟨decode_any l A2 c2 w3 (y2.later h3) hc2 (by omega), unkey_any l A2 c2 w3 (y2.later h3) hc2 (by omega), hash_any l A2 c2 w3 (y2.later h3) (by omega), conv_at (y2.later h3)⟩⟩
    have HX := Lib.hid (rowD_len l)
    have HU := Lib.hid (rowU_len l)
    clear hy HN hm hbig
    generalize dec l = od at *
    generalize rAll 64 l = ou at *
    generalize hashL l = hl at *
    generalize l.length = n at *
    generalize l.toArray = la at *
    go_enter Tryd.func4, Tryd.ntmps4
    go_wp2_with fail
    refine HL.out.mono ?_
    rintro e w1 ⟨rfl, b1⟩
    obtain ⟨A2, c2, w2, r2, b2, h2⟩ := HA.out w1 b1
    have H2 := Lib.hid h2
    have B2 := bthen b1 b2
    clear h2
    go_wp2_with (at_builtin; refine Lib.wpList_append_run_sl _ rfl _ _ 26 rfl _ _ rfl rfl r2 ?_)
    refine ((H2.out w2 (Below.refl _ w2)).1).mono ?_
    intro e w3 h3
    obtain ⟨A3, c3, rfl, b3, hr3, -⟩ := h3.take
    have HR3 := Lib.hid hr3
    have B3 := bthen B2 b3
    clear h3 hr3 r2
    go_wp2_with fail
    refine ((HF.out w3 B3).1).mono ?_
    intro e w4 h4
    obtain ⟨A4, c4, rfl, b4, hr4, -⟩ := h4.take
    have HR4 := Lib.hid hr4
    have B4 := bthen B3 b4
    clear h4 hr4
    go_wp2_with fail
    have b24 := bthen b3 b4
    refine ((H2.out w4 b24).2.1).mono ?_
    intro e w5 h5
    obtain ⟨A5, c5, rfl, b5, hr5, -⟩ := h5.take
    have HR5 := Lib.hid hr5
    have B5 := bthen B4 b5
    clear h5 hr5
    go_wp2_with fail
    refine ((HF.out w5 B5).2.1).mono ?_
    intro e w6 h6
    obtain ⟨A6, c6, rfl, b6, hr6, -⟩ := h6.take
    have HR6 := Lib.hid hr6
    have B6 := bthen B5 b6
    clear h6 hr6
    have hs1 := rsameRow_self (rowD od) A3 A4 c3 c4 w6 (((HR3.out.later b4).later b5).later b6) ((HR4.out.later b5).later b6) (by have := HX.out; omega)
    have HS1 := Lib.hid hs1
    clear hs1
    have hs2 := fun w7 (b7 : Below w6.heap.size w6 w7) => rsameRow_self (rowU ou) A5 A6 c5 c6 w7 ((HR5.out.later b6).later b7) (HR6.out.later b7) (by have := HU.out; omega)
    have HS2 := Lib.hid hs2
    clear hs2
    have b26 := bthen (bthen b24 b5) b6
    generalize (rowD od).length = nd at *
    generalize (rowU ou).length = nu at *
    generalize numD od = kd at *
    generalize errD od = ed at *
    generalize errU ou = eu at *
    clear b1 b2 b3 b4 b5 b24
    go_wp2_with fail
    refine HS1.out.mono ?_
    rintro e w7 ⟨rfl, b7⟩
    have B7 := bthen B6 b7
    go_wp2_with fail
    refine (HS2.out w7 b7).mono ?_
    rintro e w8 ⟨rfl, b8⟩
    have B8 := bthen B7 b8
    have b28 := bthen (bthen b26 b7) b8
    go_wp2_with fail
    refine ((H2.out w8 b28).2.2.1).mono ?_
    rintro e w9 ⟨rfl, b9⟩
    have B9 := bthen B8 b9
    have b29 := bthen b28 b9
    go_wp2_with fail
    refine ((HF.out w9 B9).2.2.1).mono ?_
    rintro e w10 ⟨rfl, b10⟩
    have B10 := bthen B9 b10
    have k1 := (H2.out w10 (bthen b29 b10)).2.2.2
    have k2 := (HF.out w10 B10).2.2.2
    clear HF HA H2 HS1 HS2
    go_wp2_with fail
    go_ret
    exact ⟨rfl, B10⟩
end Go.Proofs.YtnpemegklndegaaDoor
