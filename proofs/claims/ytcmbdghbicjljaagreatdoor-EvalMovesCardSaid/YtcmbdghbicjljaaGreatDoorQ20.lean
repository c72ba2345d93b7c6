/- Contract of scalar's replace, of any texts. Conditions: none longer than 100000000; the library's one variable is there. -/
import Derived.Test.YtcmbdghbicjljaaGreatDoorQ17
import Derived.Test.YtcmbdghbicjljaaGreatDoorQ12
set_option linter.unusedSimpArgs false
set_option linter.unusedVariables false
namespace Go.Proofs.YtcmbdghbicjljaaGreatDoor
open Go.RowKit
open Go.Proofs.YtcmbdghbicjljaaGreatDoor.SC (HV VBox zero_box Args)
theorem wrap_in {n : Int} (h : -9223372036854775808 ≤ n ∧ n ≤ 9223372036854775807) : IntKind.i64.wrap n = n := IntWalk.i64_in _ (by omega)
theorem text_out (s : ByteArray) (w : World) : Calls Tryz.prog 172 #[.string s] w fun e w' => e = .returned (.agg #[.int .i64 3, .int .i64 0, .string s]) ∧ Below w.heap.size w w' := SC.text_any s w
set_option maxRecDepth 100000 in
set_option maxHeartbeats 4000000 in
theorem doReplace (a b c : BV.V) (H : Nat) (w : World) (h : Args w H [a, b, c]) (hE : SC.Env w) (ha : a.s.size ≤ 100000000) (hb : b.s.size ≤ 100000000) (hc : c.s.size ≤ 100000000) :
    Calls Tryz.prog 157 #[.slice (some ⟨H, 0, none⟩) 3 3] w fun e w' => e = .returned (vA (dReplace a b c)) ∧ Below w.heap.size w w' := by
  have hl := h.lt
  have HZ := Lib.hid (zero_box w)
  have h1 := h.later ((Below.refl _ w).alloc (Nat.le_refl _) (.cells #[.int .i64 0, .int .i64 0, .string ⟨#[]⟩] 23))
  have HA := Lib.hid h1
  have HE := Lib.hid (hE.later HZ.out.below)
  clear h h1 hE
  unfold dReplace
  by_cases h0 : b.s = ⟨#[]⟩
  · rw [if_pos h0]
    unfold vA
    have c5' := HA.out.cell 5
    change _ = some (Value.string b.s) at c5'
    rw [h0] at c5'
    have C5 := Lib.hid c5'
    clear c5'
    go_enter Tryz.func157, Tryz.ntmps157
    go_wp2_with fail
    generalize w.alloc (.cells #[.int .i64 0, .int .i64 0, .string ⟨#[]⟩] 23) = W1 at *
    have c0 : W1.cell? ⟨H, 0, none⟩ = some (.int .i64 a.k) := HA.out.cell 0
    have c1 : W1.cell? ⟨H, 1, none⟩ = some (.int .i64 a.i) := HA.out.cell 1
    have c2 : W1.cell? ⟨H, 2, none⟩ = some (.string a.s) := HA.out.cell 2
    have c5 : W1.cell? ⟨H, 5, none⟩ = some (.string ⟨#[]⟩) := C5.out
    have c8 : W1.cell? ⟨H, 8, none⟩ = some (.string c.s) := HA.out.cell 8
    obtain ⟨g0, g1, g2⟩ := HZ.out.box.cells
    obtain ⟨f0, f1, f2⟩ := HZ.out.box.free
    simp only [SC.zV] at g0 g1 g2
    go_quiet (fail)
    go_wp2_with fail
    exact bodyPost_ret (v := .tuple #[.agg #[.int .i64 a.k, .int .i64 a.i, .string a.s], .int .i64 0]) (by simp [results, Tryz.results157, go_sem, g0, g1, g2]) rfl ⟨rfl, set3_new (SC.below_drewN HZ.out.below _) _ _ _⟩
  · rw [if_neg h0]
    have hsz : b.s.size ≠ 0 := fun h => h0 (SC.empty_of h)
    have hE1 : b.s.toList = [] → False := by
      intro h
      rw [Lib.toList_data] at h
      have := congrArg List.length h
      simp at this
      exact hsz (by simp [this])
    have m1 : (b.s.toList == []) = false := by simpa using hE1
    have m2 : b.s.toList.isEmpty = false := by
      cases hq : b.s.toList
      · exact absurd hq hE1
      · rfl
    have HC : Hid (∀ w m, w.cell? ⟨0, 0, none⟩ = some (.int .i64 m) → Calls Tryz.prog 177 #[.string a.s, .string b.s] w fun e w' => e = .returned (.int .i64 (Lib.countB a.s b.s)) ∧ w' = w) := fun w m hm => Tryz.strings_Count_any a.s b.s m w (by omega) hm (by omega)
    have hcm := Lib.countB_mul_le b.s (by omega) a.s.size a.s (Nat.le_refl _)
    have hcb : Lib.countB a.s b.s ≤ 100000000 := by
      have : Lib.countB a.s b.s * 1 ≤ Lib.countB a.s b.s * b.s.size := Nat.mul_le_mul_left _ (by omega)
      omega
    have hN : replN a b c = (a.s.size : Int) + (Lib.countB a.s b.s : Int) * ((c.s.size : Int) - b.s.size) := rfl
    have HRp : Hid (¬ 100000 < replN a b c → ∀ w m, w.cell? ⟨0, 0, none⟩ = some (.int .i64 m) → Calls Tryz.prog 178 #[.string a.s, .string b.s, .string c.s] w fun e w' => e = .returned (.string ⟨(Lib.replaceAll a.s.data.toList b.s.data.toList c.s.data.toList).toArray⟩) ∧ Below w.heap.size w w') := by
      intro hn w m hm
      refine Tryz.strings_ReplaceAll a.s b.s c.s m w (by omega) hm (by omega) ?_
      rw [hN, Int.mul_sub] at hn
      have e1 : ((Lib.countB a.s b.s * c.s.size : Nat) : Int) = (Lib.countB a.s b.s : Int) * c.s.size := by push_cast; rfl
      have e2 : ((Lib.countB a.s b.s * b.s.size : Nat) : Int) = (Lib.countB a.s b.s : Int) * b.s.size := by push_cast; rfl
      omega
    have hp1 : (Lib.countB a.s b.s : Int) * ((c.s.size : Int) - b.s.size) ≤ 10000000000000000 := by
      have h1 : (Lib.countB a.s b.s : Int) * ((c.s.size : Int) - b.s.size) ≤ (Lib.countB a.s b.s : Int) * 100000000 := Int.mul_le_mul_of_nonneg_left (by omega) (by omega)
      omega
    have hp2 : -10000000000000000 ≤ (Lib.countB a.s b.s : Int) * ((c.s.size : Int) - b.s.size) := by
      have h1 : (Lib.countB a.s b.s : Int) * (-100000000) ≤ (Lib.countB a.s b.s : Int) * ((c.s.size : Int) - b.s.size) := Int.mul_le_mul_of_nonneg_left (by omega) (by omega)
      omega
    have w1 : IntKind.i64.wrap ((c.s.size : Int) - b.s.size) = (c.s.size : Int) - b.s.size := wrap_in (by omega)
    have w2 : IntKind.i64.wrap ((Lib.countB a.s b.s : Int) * ((c.s.size : Int) - b.s.size)) = (Lib.countB a.s b.s : Int) * ((c.s.size : Int) - b.s.size) := wrap_in (by omega)
    have w3 : IntKind.i64.wrap ((a.s.size : Int) + (Lib.countB a.s b.s : Int) * ((c.s.size : Int) - b.s.size)) = (a.s.size : Int) + (Lib.countB a.s b.s : Int) * ((c.s.size : Int) - b.s.size) := wrap_in (by omega)
    rw [hN] at HRp ⊢
    have F1 := Lib.hid (fun (h : 100000 < (a.s.size : Int) + (Lib.countB a.s b.s : Int) * ((c.s.size : Int) - b.s.size)) => (if_pos h : (if 100000 < (a.s.size : Int) + (Lib.countB a.s b.s : Int) * ((c.s.size : Int) - b.s.size) then ((30, zW) : Ans) else (0, txtV ⟨(Lib.replaceAll a.s.data.toList b.s.data.toList c.s.data.toList).toArray⟩)) = _))
    have F2 := Lib.hid (fun (h : ¬ 100000 < (a.s.size : Int) + (Lib.countB a.s b.s : Int) * ((c.s.size : Int) - b.s.size)) => (if_neg h : (if 100000 < (a.s.size : Int) + (Lib.countB a.s b.s : Int) * ((c.s.size : Int) - b.s.size) then ((30, zW) : Ans) else (0, txtV ⟨(Lib.replaceAll a.s.data.toList b.s.data.toList c.s.data.toList).toArray⟩)) = _))
    unfold zW txtV at F1 F2
    generalize hfin : (if 100000 < (a.s.size : Int) + (Lib.countB a.s b.s : Int) * ((c.s.size : Int) - b.s.size) then ((30, zW) : Ans) else (0, txtV ⟨(Lib.replaceAll a.s.data.toList b.s.data.toList c.s.data.toList).toArray⟩)) = fin
    have F1' : Hid (100000 < (a.s.size : Int) + (Lib.countB a.s b.s : Int) * ((c.s.size : Int) - b.s.size) → fin = (30, ⟨0, 0, ⟨#[]⟩⟩)) := fun h => hfin.symm.trans (F1.out h)
    have F2' : Hid (¬ 100000 < (a.s.size : Int) + (Lib.countB a.s b.s : Int) * ((c.s.size : Int) - b.s.size) → fin = (0, ⟨3, 0, ⟨(Lib.replaceAll a.s.data.toList b.s.data.toList c.s.data.toList).toArray⟩⟩)) := fun h => hfin.symm.trans (F2.out h)
    obtain ⟨fe, fk, fi, fs⟩ := fin
    unfold vA
    clear hcm hE1 hN F1 F2 hfin h0 hsz hp1 hp2 hcb
    generalize (⟨(Lib.replaceAll a.s.data.toList b.s.data.toList c.s.data.toList).toArray⟩ : ByteArray) = rs at *
    generalize Lib.countB a.s b.s = cnt at *
    generalize hq : (a.s.size : Int) + (cnt : Int) * ((c.s.size : Int) - b.s.size) = q at *
    by_cases hbig : 100000 < q
    · have F := Lib.hid (F1'.out hbig)
      clear F1' F2' HRp
      go_enter Tryz.func157, Tryz.ntmps157
      go_wp2_with fail
      generalize w.alloc (.cells #[.int .i64 0, .int .i64 0, .string ⟨#[]⟩] 23) = W1 at *
      have c2 : W1.cell? ⟨H, 2, none⟩ = some (.string a.s) := HA.out.cell 2
      have c5 : W1.cell? ⟨H, 5, none⟩ = some (.string b.s) := HA.out.cell 5
      have c8 : W1.cell? ⟨H, 8, none⟩ = some (.string c.s) := HA.out.cell 8
      obtain ⟨m, hm⟩ := HE.out.max
      have HM := Lib.hid hm
      obtain ⟨g0, g1, g2⟩ := HZ.out.box.cells
      obtain ⟨f0, f1, f2⟩ := HZ.out.box.free
      simp only [SC.zV] at g0 g1 g2
      clear hm
      go_quiet (fail)
      go_wp2_with fail
      refine (HC.out (W1.drewN _) m HM.out).mono ?_
      rintro e w4 ⟨rfl, rfl⟩
      clear c2 c5 c8
      go_wp2_with fail
      exact bodyPost_ret (v := .tuple #[.agg #[.int .i64 0, .int .i64 0, .string ⟨#[]⟩], .int .i64 30]) (by simp [results, Tryz.results157, go_sem, g0, g1, g2]) rfl ⟨by cases F.out; rfl, by first | exact set3_new (SC.below_drewN HZ.out.below _) _ _ _ | exact SC.below_drewN HZ.out.below _⟩
    · have F := Lib.hid (F2'.out hbig)
      have HR := Lib.hid (HRp.out hbig)
      clear F1' F2' HRp
      go_enter Tryz.func157, Tryz.ntmps157
      go_wp2_with fail
      generalize w.alloc (.cells #[.int .i64 0, .int .i64 0, .string ⟨#[]⟩] 23) = W1 at *
      have c2 : W1.cell? ⟨H, 2, none⟩ = some (.string a.s) := HA.out.cell 2
      have c5 : W1.cell? ⟨H, 5, none⟩ = some (.string b.s) := HA.out.cell 5
      have c8 : W1.cell? ⟨H, 8, none⟩ = some (.string c.s) := HA.out.cell 8
      obtain ⟨m, hm⟩ := HE.out.max
      have HM := Lib.hid hm
      clear hm
      go_quiet (fail)
      go_wp2_with fail
      refine (HC.out (W1.drewN _) m HM.out).mono ?_
      rintro e w4 ⟨rfl, rfl⟩
      clear c2 c5 c8
      go_wp2_with fail
      refine (HR.out (W1.drewN _) m HM.out).mono ?_
      rintro e w5 ⟨rfl, b5⟩
      have P5 := Lib.hid ((HZ.out.drewN _).call b5)
      go_wp2_with fail
      refine (text_out _ _).mono ?_
      rintro e w6 ⟨rfl, b6⟩
      have P6 := Lib.hid (P5.out.call b6)
      obtain ⟨g0, g1, g2⟩ := P6.out.box.cells
      obtain ⟨f0, f1, f2⟩ := P6.out.box.free
      simp only [SC.zV] at g0 g1 g2
      go_wp2_with fail
      exact bodyPost_ret (v := .tuple #[.agg #[.int .i64 3, .int .i64 0, .string rs], .int .i64 0]) (by simp [results, Tryz.results157, go_sem, g0, g1, g2]) rfl ⟨by cases F.out; rfl, set3_new P6.out.below _ _ _⟩
end Go.Proofs.YtcmbdghbicjljaaGreatDoor
