/- The walk of the law LogicTwice: it answers true, whatever two values and word. Conditions: each text shorter than 2 to the 47. -/
import Derived.Test.YtgemopcnfklndaaLogTwice0
import Derived.Deep.DeepCutAuto
import Derived.Deep.RegionHeld3
import Derived.Deep.QuietTactic
import Derived.BigQuiet
import Derived.WalkSmall
namespace Go.Proofs.Ytgemopcnfklndaa
open Go.RowKit
set_option maxRecDepth 100000 in
set_option maxHeartbeats 16000000 in
theorem twice_in (a b : V) (op : ByteArray) (w : World) (h1 : a.chk = 0) (h2 : b.chk = 0) (h3 : ¬ 10000 < a.s.size) (h4 : ¬ 10000 < b.s.size) :
    Calls Try.prog 8 #[.agg #[.int .i64 a.k, .int .i64 a.i, .string a.s], .agg #[.int .i64 b.k, .int .i64 b.i, .string b.s], .string op] w fun e w' => e = .returned (.bool true) ∧ Below w.heap.size w w' := by
  have HCA := Lib.hid (fun w' => rcheck_any a.k a.i a.s w')
  have HCB := Lib.hid (fun w' => rcheck_any b.k b.i b.s w')
  rw [show chkI a.k a.i a.s = 0 from h1] at HCA
  rw [show chkI b.k b.i b.s = 0 from h2] at HCB
  have HB0 := Lib.hid (((HB.nil w).pushAt (H := w.heap.size) rfl a).pushAt (H := w.heap.size + 1) (by simp) b)
  have HN1 := Lib.hid (fun w' => not_any a w')
  have HN2 := Lib.hid (fun w' => not_any (notV a) w')
  have HREL := Lib.hid (fun w' => rel_any op a zV w')
  rw [rel_z] at HREL
  have HREL : Hid (∀ w', Calls Try.prog 19 #[.string op, .agg #[.int .i64 a.k, .int .i64 a.i, .string a.s], .agg #[.int .i64 0, .int .i64 0, .string ⟨#[]⟩]] w' fun e w2 => e = .returned (.tuple #[.agg #[.int .i64 0, .int .i64 0, .string ⟨#[]⟩], .int .i64 (relE op a zV)]) ∧ Below w'.heap.size w' w2) := HREL.out
  have HIS := Lib.hid (fun w' => is_any a b w')
  have HEQ := Lib.hid (fun w' => rel_any eqB a b w')
  have HTW := Lib.hid (@twice_not a)
  have hir := is_rel h1 h2
  generalize relE op a zV = g at *
  generalize ctL [a] = ne at *
  generalize ctL [notV a] = mf at *
  generalize notV (notV a) = mm at *
  generalize notV a = nn at *
  have d1 : decide ((10000 : Int) < (a.s.size : Int)) = false := decide_eq_false (by omega)
  have d2 : decide ((10000 : Int) < (b.s.size : Int)) = false := decide_eq_false (by omega)
  have HIR := Lib.hid hir
  have HNN : Hid (a.k = 0 → b.k = 0 → a = b) := fun ha hb => ((null_iff (chk_may.1 h1)).1 ha).trans ((null_iff (chk_may.1 h2)).1 hb).symm
  clear h1 h2 h3 h4 hir
  go_enter Try.func8, Try.ntmps8
  go_wp2_with fail
  refine (live_any _).mono ?_
  rintro e w1 ⟨rfl, b1⟩
  have H1 := Lib.hid (HB0.out.call b1)
  obtain ⟨e0, e1, e2, c0, c1, c2, -⟩ := H1.out.boxes
  go_wp2_with fail
  refine (HCA.out _).mono ?_
  rintro e w2 ⟨rfl, b2⟩
  have H2 := Lib.hid (H1.out.call b2)
  clear e0 e1 e2 c0 c1 c2
  obtain ⟨e0, e1, e2, c0, c1, c2, -⟩ := H2.out.boxes
  go_wp2_with fail
  refine (HCB.out _).mono ?_
  rintro e w3 ⟨rfl, b3⟩
  have H3 := Lib.hid (H2.out.call b3)
  clear e0 e1 e2 c0 c1 c2
  obtain ⟨e0, e1, e2, c0, c1, c2, -⟩ := H3.out.boxes
  go_wp2_with fail
  refine (HN1.out _).mono ?_
  rintro e w4 ⟨rfl, b4⟩
  have P4 := Lib.hid ((H3.out.call b4).push nn)
  clear e0 e1 e2 c0 c1 c2
  obtain ⟨x0, x1, x2, e0, e1, e2, c0, c1, c2, -⟩ := P4.out.boxes
  go_wp2_with fail
  refine (HN2.out _).mono ?_
  rintro e w5 ⟨rfl, b5⟩
  have P5 := Lib.hid ((P4.out.call b5).push mm)
  clear x0 x1 x2 e0 e1 e2 c0 c1 c2
  go_upto_region 6 with fail
  go_cut [60] (fun s60 wx => s60 = .bool false ∧ Hid (HB w [(w.heap.size + 1, b), (w.heap.size, a)] wx))
  case first =>
    obtain ⟨x0, x1, x2, -, -, -, e0, e1, e2, c0, c1, c2, -⟩ := P5.out.boxes
    by_cases hne : ne = 0
    · subst hne
      obtain ⟨hm, hmm⟩ := HTW.out rfl
      subst hm
      subst hmm
      go_wp2_with fail
      go_meet
      case rel => exact ⟨rfl, P5.out.tail.tail⟩
    · have he : (ne == 0) = false := by simpa using hne
      clear hne
      go_wp2_with fail
      go_meet
      case rel => exact ⟨rfl, P5.out.tail.tail⟩
  case rest =>
    obtain ⟨rfl, hH⟩ := hcut
    clear H1 H2 H3 P4 P5 b1 b2 b3 b4 b5 HB0
    obtain ⟨e0, e1, e2, c0, c1, c2, -⟩ := hH.out.boxes
    go_wp2_with fail
    refine (HREL.out _).mono ?_
    rintro e w6 ⟨rfl, b6⟩
    have P6 := Lib.hid ((hH.out.call b6).push zV)
    clear e0 e1 e2 c0 c1 c2
    go_upto_region 9 with fail
    go_cut [74] (fun s74 wx => s74 = .bool false ∧ Hid (HB w [(w.heap.size + 1, b), (w.heap.size, a)] wx))
    case first =>
      obtain ⟨x0, x1, x2, e0, e1, e2, c0, c1, c2, -⟩ := P6.out.boxes
      simp only [zV] at x0 x1 x2
      by_cases hg : g = 0
      · subst hg
        go_wp2_with fail
        go_meet
        case rel => exact ⟨rfl, P6.out.tail⟩
      · have he : (g == 0) = false := by simpa using hg
        clear hg
        go_wp2_with fail
        go_meet
        case rel => exact ⟨rfl, P6.out.tail⟩
    case rest =>
      obtain ⟨rfl, hH2⟩ := hcut
      clear P6 b6 hH HTW HREL
      rcases HIR.out with ⟨hE, hQ, -⟩ | ⟨hE, hQ, hR, hK⟩
      · rw [hE] at HIS
        rw [hQ] at HEQ
        generalize isR a b = ri at *
        generalize relR eqB a b = re at *
        clear hE hQ HIR
        obtain ⟨e0, e1, e2, c0, c1, c2, -⟩ := hH2.out.boxes
        go_wp2_with fail
        refine (HIS.out _).mono ?_
        rintro e w7 ⟨rfl, b7⟩
        have P7 : Hid (HB w [(w7.heap.size, ri), (w.heap.size + 1, b), (w.heap.size, a)] (w7.alloc (.cells #[.int .i64 ri.k, .int .i64 ri.i, .string ri.s] 24))) := (hH2.out.call b7).push ri
        clear e0 e1 e2 c0 c1 c2
        obtain ⟨-, -, -, e0, e1, e2, c0, c1, c2, -⟩ := P7.out.boxes
        go_wp2_with fail
        refine (HEQ.out _).mono ?_
        rintro e w8 ⟨rfl, b8⟩
        have P8 : Hid (HB w [(w8.heap.size, re), (w7.heap.size, ri), (w.heap.size + 1, b), (w.heap.size, a)] (w8.alloc (.cells #[.int .i64 re.k, .int .i64 re.i, .string re.s] 24))) := (P7.out.call b8).push re
        clear e0 e1 e2 c0 c1 c2
        have HD := Lib.hid P8.out.held.drew
        have HL := Lib.hid P8.out.lt
        have hw8 := P8.out.below.size
        go_wp2_with fail
        obtain ⟨f0, f1, f2, e0, e1, e2, c0, c1, c2, c3, c4, c5, -⟩ := P8.out.boxes
        go_quiet (fail)
        --go_region_held3 (fun w' => (w8.alloc (.cells #[.int .i64 re.k, .int .i64 re.i, .string re.s] 24)).heap.size ≤ w'.heap.size ∧ Below w.heap.size w w' ∧ w'.cell? ⟨w8.heap.size, 0, none⟩ = some (.int .i64 re.k) ∧ w'.cell? ⟨w8.heap.size, 1, none⟩ = some (.int .i64 re.i) ∧ w'.cell? ⟨w8.heap.size, 2, none⟩ = some (.string re.s) ∧ w'.cell? ⟨w7.heap.size, 0, none⟩ = some (.int .i64 ri.k) ∧ w'.cell? ⟨w7.heap.size, 1, none⟩ = some (.int .i64 ri.i) ∧ w'.cell? ⟨w7.heap.size, 2, none⟩ = some (.string ri.s) ∧ w'.cell? ⟨w.heap.size + 1, 0, none⟩ = some (.int .i64 b.k) ∧ w'.cell? ⟨w.heap.size + 1, 1, none⟩ = some (.int .i64 b.i) ∧ w'.cell? ⟨w.heap.size + 1, 2, none⟩ = some (.string b.s) ∧ w'.cell? ⟨w.heap.size, 0, none⟩ = some (.int .i64 a.k) ∧ w'.cell? ⟨w.heap.size, 1, none⟩ = some (.int .i64 a.i) ∧ w'.cell? ⟨w.heap.size, 2, none⟩ = some (.string a.s) ∧ True) (first | exact HD.out | (refine Held.later HL.out hw8 ?_ hb9; assumption)) (fail)
        all_goals
          go_wp2_with fail
          go_ret
          exact ⟨rfl, below_drewN P8.out.below _⟩
      · rw [hE, hR] at HIS
        rw [hQ] at HEQ
        rw [hR] at hK
        generalize relR eqB a b = re at *
        clear hE hQ hR HIR
        by_cases hab : a = b
        · subst hab
          rw [show sameB a.k a.i a.s a.k a.i a.s = true from same_iff.2 rfl] at HIS hK
          have hk' : (a.k == 0) = true ∨ ((a.k == 0) = false ∧ re = tV true) := by
            by_cases h0 : a.k = 0
            · exact Or.inl (by simpa using h0)
            · rcases hK with h | h | h
              · exact absurd h h0
              · exact absurd h h0
              · exact Or.inr ⟨by simpa using h0, h.2⟩
          have HIS : Hid (∀ w', Calls Try.prog 21 #[.agg #[.int .i64 a.k, .int .i64 a.i, .string a.s], .agg #[.int .i64 a.k, .int .i64 a.i, .string a.s]] w' fun e w2 => e = .returned (.tuple #[.agg #[.int .i64 1, .int .i64 1, .string ⟨#[]⟩], .int .i64 0]) ∧ Below w'.heap.size w' w2) := HIS.out
          have HHo := Lib.hid (fun w' => @live_holds w')
          clear hK
          rcases hk' with k1 | ⟨k1, rfl⟩
          · obtain ⟨e0, e1, e2, c0, c1, c2, -⟩ := hH2.out.boxes
            go_wp2_with fail
            refine (HIS.out _).mono ?_
            rintro e w7 ⟨rfl, b7⟩
            have P7 : Hid (HB w [(w7.heap.size, tV true), (w.heap.size + 1, a), (w.heap.size, a)] (w7.alloc (.cells #[.int .i64 1, .int .i64 1, .string ⟨#[]⟩] 24))) := (hH2.out.call b7).push (tV true)
            clear e0 e1 e2 c0 c1 c2
            obtain ⟨-, -, -, e0, e1, e2, c0, c1, c2, -⟩ := P7.out.boxes
            go_wp2_with fail
            refine (HEQ.out _).mono ?_
            rintro e w8 ⟨rfl, b8⟩
            have P8 : Hid (HB w [(w8.heap.size, re), (w7.heap.size, tV true), (w.heap.size + 1, a), (w.heap.size, a)] (w8.alloc (.cells #[.int .i64 re.k, .int .i64 re.i, .string re.s] 24))) := (P7.out.call b8).push re
            clear e0 e1 e2 c0 c1 c2
            go_wp2_with fail
            have HNE : Nonempty (HBT w [(w8.heap.size, re), (w7.heap.size, tV true), (w.heap.size + 1, a), (w.heap.size, a)]) := ⟨⟨_, P8.out.drew⟩⟩
            have f00 : ∀ x : HBT w [(w8.heap.size, re), (w7.heap.size, tV true), (w.heap.size + 1, a), (w.heap.size, a)], x.1.cell? ⟨w8.heap.size, 0, none⟩ = some (.int .i64 re.k) := fun x => x.2.boxes.1
            have f01 : ∀ x : HBT w [(w8.heap.size, re), (w7.heap.size, tV true), (w.heap.size + 1, a), (w.heap.size, a)], x.1.cell? ⟨w8.heap.size, 1, none⟩ = some (.int .i64 re.i) := fun x => x.2.boxes.2.1
            have f02 : ∀ x : HBT w [(w8.heap.size, re), (w7.heap.size, tV true), (w.heap.size + 1, a), (w.heap.size, a)], x.1.cell? ⟨w8.heap.size, 2, none⟩ = some (.string re.s) := fun x => x.2.boxes.2.2.1
            have f10 : ∀ x : HBT w [(w8.heap.size, re), (w7.heap.size, tV true), (w.heap.size + 1, a), (w.heap.size, a)], x.1.cell? ⟨w7.heap.size, 0, none⟩ = some (.int .i64 1) := fun x => x.2.boxes.2.2.2.1
            have f11 : ∀ x : HBT w [(w8.heap.size, re), (w7.heap.size, tV true), (w.heap.size + 1, a), (w.heap.size, a)], x.1.cell? ⟨w7.heap.size, 1, none⟩ = some (.int .i64 1) := fun x => x.2.boxes.2.2.2.2.1
            have f12 : ∀ x : HBT w [(w8.heap.size, re), (w7.heap.size, tV true), (w.heap.size + 1, a), (w.heap.size, a)], x.1.cell? ⟨w7.heap.size, 2, none⟩ = some (.string ⟨#[]⟩) := fun x => x.2.boxes.2.2.2.2.2.1
            have f20 : ∀ x : HBT w [(w8.heap.size, re), (w7.heap.size, tV true), (w.heap.size + 1, a), (w.heap.size, a)], x.1.cell? ⟨w.heap.size + 1, 0, none⟩ = some (.int .i64 a.k) := fun x => x.2.boxes.2.2.2.2.2.2.1
            have f21 : ∀ x : HBT w [(w8.heap.size, re), (w7.heap.size, tV true), (w.heap.size + 1, a), (w.heap.size, a)], x.1.cell? ⟨w.heap.size + 1, 1, none⟩ = some (.int .i64 a.i) := fun x => x.2.boxes.2.2.2.2.2.2.2.1
            have f22 : ∀ x : HBT w [(w8.heap.size, re), (w7.heap.size, tV true), (w.heap.size + 1, a), (w.heap.size, a)], x.1.cell? ⟨w.heap.size + 1, 2, none⟩ = some (.string a.s) := fun x => x.2.boxes.2.2.2.2.2.2.2.2.1
            have f30 : ∀ x : HBT w [(w8.heap.size, re), (w7.heap.size, tV true), (w.heap.size + 1, a), (w.heap.size, a)], x.1.cell? ⟨w.heap.size, 0, none⟩ = some (.int .i64 a.k) := fun x => x.2.boxes.2.2.2.2.2.2.2.2.2.1
            have f31 : ∀ x : HBT w [(w8.heap.size, re), (w7.heap.size, tV true), (w.heap.size + 1, a), (w.heap.size, a)], x.1.cell? ⟨w.heap.size, 1, none⟩ = some (.int .i64 a.i) := fun x => x.2.boxes.2.2.2.2.2.2.2.2.2.2.1
            have f32 : ∀ x : HBT w [(w8.heap.size, re), (w7.heap.size, tV true), (w.heap.size + 1, a), (w.heap.size, a)], x.1.cell? ⟨w.heap.size, 2, none⟩ = some (.string a.s) := fun x => x.2.boxes.2.2.2.2.2.2.2.2.2.2.2.1
            refine wp_region_class (fun w' => ∃ x : HBT w [(w8.heap.size, re), (w7.heap.size, tV true), (w.heap.size + 1, a), (w.heap.size, a)], w' = x.1) (by kernel_rfl) (by kernel_rfl) ⟨⟨_, P8.out.drew⟩, rfl⟩ ?_
            repeat (go_big_quiet_step ((rename_i x; go_at_call 17; refine (HHo.out _).mono ?_; rintro e w2 ⟨rfl, hb⟩; exact ⟨rfl, ⟨_, x.2.call hb⟩, rfl⟩)))
            refine wpQuiet_nil ?_
            rintro _ ⟨x9, rfl⟩
            go_wp2_with fail
            go_ret
            exact ⟨rfl, x9.2.below⟩
          · have HEQ : Hid (∀ w', Calls Try.prog 19 #[.string ⟨#[61]⟩, .agg #[.int .i64 a.k, .int .i64 a.i, .string a.s], .agg #[.int .i64 a.k, .int .i64 a.i, .string a.s]] w' fun e w2 => e = .returned (.tuple #[.agg #[.int .i64 1, .int .i64 1, .string ⟨#[]⟩], .int .i64 0]) ∧ Below w'.heap.size w' w2) := HEQ.out
            obtain ⟨e0, e1, e2, c0, c1, c2, -⟩ := hH2.out.boxes
            go_wp2_with fail
            refine (HIS.out _).mono ?_
            rintro e w7 ⟨rfl, b7⟩
            have P7 : Hid (HB w [(w7.heap.size, tV true), (w.heap.size + 1, a), (w.heap.size, a)] (w7.alloc (.cells #[.int .i64 1, .int .i64 1, .string ⟨#[]⟩] 24))) := (hH2.out.call b7).push (tV true)
            clear e0 e1 e2 c0 c1 c2
            obtain ⟨-, -, -, e0, e1, e2, c0, c1, c2, -⟩ := P7.out.boxes
            go_wp2_with fail
            refine (HEQ.out _).mono ?_
            rintro e w8 ⟨rfl, b8⟩
            have P8 : Hid (HB w [(w8.heap.size, tV true), (w7.heap.size, tV true), (w.heap.size + 1, a), (w.heap.size, a)] (w8.alloc (.cells #[.int .i64 1, .int .i64 1, .string ⟨#[]⟩] 24))) := (P7.out.call b8).push (tV true)
            clear e0 e1 e2 c0 c1 c2
            have HD := Lib.hid P8.out.held.drew
            have HL := Lib.hid P8.out.lt
            have hw8 := P8.out.below.size
            go_wp2_with fail
            go_region_held3 (fun w' => (w8.alloc (.cells #[.int .i64 1, .int .i64 1, .string ⟨#[]⟩] 24)).heap.size ≤ w'.heap.size ∧ Below w.heap.size w w' ∧ w'.cell? ⟨w8.heap.size, 0, none⟩ = some (.int .i64 1) ∧ w'.cell? ⟨w8.heap.size, 1, none⟩ = some (.int .i64 1) ∧ w'.cell? ⟨w8.heap.size, 2, none⟩ = some (.string ⟨#[]⟩) ∧ w'.cell? ⟨w7.heap.size, 0, none⟩ = some (.int .i64 1) ∧ w'.cell? ⟨w7.heap.size, 1, none⟩ = some (.int .i64 1) ∧ w'.cell? ⟨w7.heap.size, 2, none⟩ = some (.string ⟨#[]⟩) ∧ w'.cell? ⟨w.heap.size + 1, 0, none⟩ = some (.int .i64 a.k) ∧ w'.cell? ⟨w.heap.size + 1, 1, none⟩ = some (.int .i64 a.i) ∧ w'.cell? ⟨w.heap.size + 1, 2, none⟩ = some (.string a.s) ∧ w'.cell? ⟨w.heap.size, 0, none⟩ = some (.int .i64 a.k) ∧ w'.cell? ⟨w.heap.size, 1, none⟩ = some (.int .i64 a.i) ∧ w'.cell? ⟨w.heap.size, 2, none⟩ = some (.string a.s) ∧ True) (first | exact HD.out | (refine Held.later HL.out hw8 ?_ hb9; assumption)) ((go_at_call 17; go_must (refine (HHo.out _).mono ?_); rintro e w9 ⟨rfl, hb9⟩))
            all_goals
              go_wp2_with fail
              go_ret
              have hs : Held w (w8.alloc (.cells #[.int .i64 1, .int .i64 1, .string ⟨#[]⟩] 24)).heap.size [(w8.heap.size, tV true), (w7.heap.size, tV true), (w.heap.size + 1, a), (w.heap.size, a)] w9 := by assumption
              exact ⟨rfl, hs.2.1⟩
        · have hq : sameB a.k a.i a.s b.k b.i b.s = false := by
            cases h : sameB a.k a.i a.s b.k b.i b.s
            · rfl
            · exact absurd (same_iff.1 h) hab
          rw [hq] at HIS hK
          have hk' : ((a.k == 0) = true ∧ (a.k == b.k) = false) ∨ ((a.k == 0) = false ∧ (b.k == 0) = true ∧ (a.k == b.k) = false) ∨ ((a.k == 0) = false ∧ (b.k == 0) = false ∧ (a.k == b.k) = true ∧ (a.i == b.i) = false ∧ re = tV false) ∨ ((a.k == 0) = false ∧ (b.k == 0) = false ∧ (a.k == b.k) = true ∧ (a.i == b.i) = true ∧ (a.s.toList == b.s.toList) = false ∧ re = tV false) := by
            have hq' := hq
            unfold sameB at hq'
            simp only [beq_iff_eq, beq_eq_false_iff_ne, ne_eq]
            by_cases ha : a.k = 0
            · exact Or.inl ⟨ha, fun e => hab (HNN.out ha (by omega))⟩
            · by_cases hb : b.k = 0
              · exact Or.inr (Or.inl ⟨ha, hb, by omega⟩)
              · rcases hK with h | h | ⟨h, hre⟩
                · exact absurd h ha
                · exact absurd h hb
                · rw [show (a.k == b.k) = true by simpa using h, Bool.true_and] at hq'
                  by_cases hi : a.i = b.i
                  · rw [show (a.i == b.i) = true by simpa using hi, Bool.true_and] at hq'
                    exact Or.inr (Or.inr (Or.inr ⟨ha, hb, h, hi, by simpa using hq', hre⟩))
                  · exact Or.inr (Or.inr (Or.inl ⟨ha, hb, h, hi, hre⟩))
          have HIS : Hid (∀ w', Calls Try.prog 21 #[.agg #[.int .i64 a.k, .int .i64 a.i, .string a.s], .agg #[.int .i64 b.k, .int .i64 b.i, .string b.s]] w' fun e w2 => e = .returned (.tuple #[.agg #[.int .i64 1, .int .i64 0, .string ⟨#[]⟩], .int .i64 0]) ∧ Below w'.heap.size w' w2) := HIS.out
          have HHo : Hid (∀ w', Calls Try.prog 17 #[.agg #[.int .i64 1, .int .i64 0, .string ⟨#[]⟩]] w' fun e w2 => e = .returned (.bool false) ∧ Below w'.heap.size w' w2) := fun w' => by
            have h := holds_any (tV false) w'
            rw [show isV (tV false) true = false from isV_t false] at h
            exact h
          clear hK hab hq
          rcases hk' with ⟨k1, k2⟩ | ⟨k1, k2, k3⟩ | ⟨k1, k2, k3, k4, rfl⟩ | ⟨k1, k2, k3, k4, k5, rfl⟩
          · obtain ⟨e0, e1, e2, c0, c1, c2, -⟩ := hH2.out.boxes
            go_wp2_with fail
            refine (HIS.out _).mono ?_
            rintro e w7 ⟨rfl, b7⟩
            have P7 : Hid (HB w [(w7.heap.size, tV false), (w.heap.size + 1, b), (w.heap.size, a)] (w7.alloc (.cells #[.int .i64 1, .int .i64 0, .string ⟨#[]⟩] 24))) := (hH2.out.call b7).push (tV false)
            clear e0 e1 e2 c0 c1 c2
            obtain ⟨-, -, -, e0, e1, e2, c0, c1, c2, -⟩ := P7.out.boxes
            go_wp2_with fail
            refine (HEQ.out _).mono ?_
            rintro e w8 ⟨rfl, b8⟩
            have P8 : Hid (HB w [(w8.heap.size, re), (w7.heap.size, tV false), (w.heap.size + 1, b), (w.heap.size, a)] (w8.alloc (.cells #[.int .i64 re.k, .int .i64 re.i, .string re.s] 24))) := (P7.out.call b8).push re
            clear e0 e1 e2 c0 c1 c2
            go_wp2_with fail
            have HNE : Nonempty (HBT w [(w8.heap.size, re), (w7.heap.size, tV false), (w.heap.size + 1, b), (w.heap.size, a)]) := ⟨⟨_, P8.out.drew⟩⟩
            have f00 : ∀ x : HBT w [(w8.heap.size, re), (w7.heap.size, tV false), (w.heap.size + 1, b), (w.heap.size, a)], x.1.cell? ⟨w8.heap.size, 0, none⟩ = some (.int .i64 re.k) := fun x => x.2.boxes.1
            have f01 : ∀ x : HBT w [(w8.heap.size, re), (w7.heap.size, tV false), (w.heap.size + 1, b), (w.heap.size, a)], x.1.cell? ⟨w8.heap.size, 1, none⟩ = some (.int .i64 re.i) := fun x => x.2.boxes.2.1
            have f02 : ∀ x : HBT w [(w8.heap.size, re), (w7.heap.size, tV false), (w.heap.size + 1, b), (w.heap.size, a)], x.1.cell? ⟨w8.heap.size, 2, none⟩ = some (.string re.s) := fun x => x.2.boxes.2.2.1
            have f10 : ∀ x : HBT w [(w8.heap.size, re), (w7.heap.size, tV false), (w.heap.size + 1, b), (w.heap.size, a)], x.1.cell? ⟨w7.heap.size, 0, none⟩ = some (.int .i64 1) := fun x => x.2.boxes.2.2.2.1
            have f11 : ∀ x : HBT w [(w8.heap.size, re), (w7.heap.size, tV false), (w.heap.size + 1, b), (w.heap.size, a)], x.1.cell? ⟨w7.heap.size, 1, none⟩ = some (.int .i64 0) := fun x => x.2.boxes.2.2.2.2.1
            have f12 : ∀ x : HBT w [(w8.heap.size, re), (w7.heap.size, tV false), (w.heap.size + 1, b), (w.heap.size, a)], x.1.cell? ⟨w7.heap.size, 2, none⟩ = some (.string ⟨#[]⟩) := fun x => x.2.boxes.2.2.2.2.2.1
            have f20 : ∀ x : HBT w [(w8.heap.size, re), (w7.heap.size, tV false), (w.heap.size + 1, b), (w.heap.size, a)], x.1.cell? ⟨w.heap.size + 1, 0, none⟩ = some (.int .i64 b.k) := fun x => x.2.boxes.2.2.2.2.2.2.1
            have f21 : ∀ x : HBT w [(w8.heap.size, re), (w7.heap.size, tV false), (w.heap.size + 1, b), (w.heap.size, a)], x.1.cell? ⟨w.heap.size + 1, 1, none⟩ = some (.int .i64 b.i) := fun x => x.2.boxes.2.2.2.2.2.2.2.1
            have f22 : ∀ x : HBT w [(w8.heap.size, re), (w7.heap.size, tV false), (w.heap.size + 1, b), (w.heap.size, a)], x.1.cell? ⟨w.heap.size + 1, 2, none⟩ = some (.string b.s) := fun x => x.2.boxes.2.2.2.2.2.2.2.2.1
            have f30 : ∀ x : HBT w [(w8.heap.size, re), (w7.heap.size, tV false), (w.heap.size + 1, b), (w.heap.size, a)], x.1.cell? ⟨w.heap.size, 0, none⟩ = some (.int .i64 a.k) := fun x => x.2.boxes.2.2.2.2.2.2.2.2.2.1
            have f31 : ∀ x : HBT w [(w8.heap.size, re), (w7.heap.size, tV false), (w.heap.size + 1, b), (w.heap.size, a)], x.1.cell? ⟨w.heap.size, 1, none⟩ = some (.int .i64 a.i) := fun x => x.2.boxes.2.2.2.2.2.2.2.2.2.2.1
            have f32 : ∀ x : HBT w [(w8.heap.size, re), (w7.heap.size, tV false), (w.heap.size + 1, b), (w.heap.size, a)], x.1.cell? ⟨w.heap.size, 2, none⟩ = some (.string a.s) := fun x => x.2.boxes.2.2.2.2.2.2.2.2.2.2.2.1
            refine wp_region_class (fun w' => ∃ x : HBT w [(w8.heap.size, re), (w7.heap.size, tV false), (w.heap.size + 1, b), (w.heap.size, a)], w' = x.1) (by kernel_rfl) (by kernel_rfl) ⟨⟨_, P8.out.drew⟩, rfl⟩ ?_
            repeat (go_big_quiet_step ((rename_i x; go_at_call 17; refine (HHo.out _).mono ?_; rintro e w2 ⟨rfl, hb⟩; exact ⟨rfl, ⟨_, x.2.call hb⟩, rfl⟩)))
            refine wpQuiet_nil ?_
            rintro _ ⟨x9, rfl⟩
            go_wp2_with fail
            go_ret
            exact ⟨rfl, x9.2.below⟩
          · obtain ⟨e0, e1, e2, c0, c1, c2, -⟩ := hH2.out.boxes
            go_wp2_with fail
            refine (HIS.out _).mono ?_
            rintro e w7 ⟨rfl, b7⟩
            have P7 : Hid (HB w [(w7.heap.size, tV false), (w.heap.size + 1, b), (w.heap.size, a)] (w7.alloc (.cells #[.int .i64 1, .int .i64 0, .string ⟨#[]⟩] 24))) := (hH2.out.call b7).push (tV false)
            clear e0 e1 e2 c0 c1 c2
            obtain ⟨-, -, -, e0, e1, e2, c0, c1, c2, -⟩ := P7.out.boxes
            go_wp2_with fail
            refine (HEQ.out _).mono ?_
            rintro e w8 ⟨rfl, b8⟩
            have P8 : Hid (HB w [(w8.heap.size, re), (w7.heap.size, tV false), (w.heap.size + 1, b), (w.heap.size, a)] (w8.alloc (.cells #[.int .i64 re.k, .int .i64 re.i, .string re.s] 24))) := (P7.out.call b8).push re
            clear e0 e1 e2 c0 c1 c2
            go_wp2_with fail
            have HNE : Nonempty (HBT w [(w8.heap.size, re), (w7.heap.size, tV false), (w.heap.size + 1, b), (w.heap.size, a)]) := ⟨⟨_, P8.out.drew⟩⟩
            have f00 : ∀ x : HBT w [(w8.heap.size, re), (w7.heap.size, tV false), (w.heap.size + 1, b), (w.heap.size, a)], x.1.cell? ⟨w8.heap.size, 0, none⟩ = some (.int .i64 re.k) := fun x => x.2.boxes.1
            have f01 : ∀ x : HBT w [(w8.heap.size, re), (w7.heap.size, tV false), (w.heap.size + 1, b), (w.heap.size, a)], x.1.cell? ⟨w8.heap.size, 1, none⟩ = some (.int .i64 re.i) := fun x => x.2.boxes.2.1
            have f02 : ∀ x : HBT w [(w8.heap.size, re), (w7.heap.size, tV false), (w.heap.size + 1, b), (w.heap.size, a)], x.1.cell? ⟨w8.heap.size, 2, none⟩ = some (.string re.s) := fun x => x.2.boxes.2.2.1
            have f10 : ∀ x : HBT w [(w8.heap.size, re), (w7.heap.size, tV false), (w.heap.size + 1, b), (w.heap.size, a)], x.1.cell? ⟨w7.heap.size, 0, none⟩ = some (.int .i64 1) := fun x => x.2.boxes.2.2.2.1
            have f11 : ∀ x : HBT w [(w8.heap.size, re), (w7.heap.size, tV false), (w.heap.size + 1, b), (w.heap.size, a)], x.1.cell? ⟨w7.heap.size, 1, none⟩ = some (.int .i64 0) := fun x => x.2.boxes.2.2.2.2.1
            have f12 : ∀ x : HBT w [(w8.heap.size, re), (w7.heap.size, tV false), (w.heap.size + 1, b), (w.heap.size, a)], x.1.cell? ⟨w7.heap.size, 2, none⟩ = some (.string ⟨#[]⟩) := fun x => x.2.boxes.2.2.2.2.2.1
            have f20 : ∀ x : HBT w [(w8.heap.size, re), (w7.heap.size, tV false), (w.heap.size + 1, b), (w.heap.size, a)], x.1.cell? ⟨w.heap.size + 1, 0, none⟩ = some (.int .i64 b.k) := fun x => x.2.boxes.2.2.2.2.2.2.1
            have f21 : ∀ x : HBT w [(w8.heap.size, re), (w7.heap.size, tV false), (w.heap.size + 1, b), (w.heap.size, a)], x.1.cell? ⟨w.heap.size + 1, 1, none⟩ = some (.int .i64 b.i) := fun x => x.2.boxes.2.2.2.2.2.2.2.1
            have f22 : ∀ x : HBT w [(w8.heap.size, re), (w7.heap.size, tV false), (w.heap.size + 1, b), (w.heap.size, a)], x.1.cell? ⟨w.heap.size + 1, 2, none⟩ = some (.string b.s) := fun x => x.2.boxes.2.2.2.2.2.2.2.2.1
            have f30 : ∀ x : HBT w [(w8.heap.size, re), (w7.heap.size, tV false), (w.heap.size + 1, b), (w.heap.size, a)], x.1.cell? ⟨w.heap.size, 0, none⟩ = some (.int .i64 a.k) := fun x => x.2.boxes.2.2.2.2.2.2.2.2.2.1
            have f31 : ∀ x : HBT w [(w8.heap.size, re), (w7.heap.size, tV false), (w.heap.size + 1, b), (w.heap.size, a)], x.1.cell? ⟨w.heap.size, 1, none⟩ = some (.int .i64 a.i) := fun x => x.2.boxes.2.2.2.2.2.2.2.2.2.2.1
            have f32 : ∀ x : HBT w [(w8.heap.size, re), (w7.heap.size, tV false), (w.heap.size + 1, b), (w.heap.size, a)], x.1.cell? ⟨w.heap.size, 2, none⟩ = some (.string a.s) := fun x => x.2.boxes.2.2.2.2.2.2.2.2.2.2.2.1
            refine wp_region_class (fun w' => ∃ x : HBT w [(w8.heap.size, re), (w7.heap.size, tV false), (w.heap.size + 1, b), (w.heap.size, a)], w' = x.1) (by kernel_rfl) (by kernel_rfl) ⟨⟨_, P8.out.drew⟩, rfl⟩ ?_
            repeat (go_big_quiet_step ((rename_i x; go_at_call 17; refine (HHo.out _).mono ?_; rintro e w2 ⟨rfl, hb⟩; exact ⟨rfl, ⟨_, x.2.call hb⟩, rfl⟩)))
            refine wpQuiet_nil ?_
            rintro _ ⟨x9, rfl⟩
            go_wp2_with fail
            go_ret
            exact ⟨rfl, x9.2.below⟩
          · have HEQ : Hid (∀ w', Calls Try.prog 19 #[.string ⟨#[61]⟩, .agg #[.int .i64 a.k, .int .i64 a.i, .string a.s], .agg #[.int .i64 b.k, .int .i64 b.i, .string b.s]] w' fun e w2 => e = .returned (.tuple #[.agg #[.int .i64 1, .int .i64 0, .string ⟨#[]⟩], .int .i64 0]) ∧ Below w'.heap.size w' w2) := HEQ.out
            obtain ⟨e0, e1, e2, c0, c1, c2, -⟩ := hH2.out.boxes
            go_wp2_with fail
            refine (HIS.out _).mono ?_
            rintro e w7 ⟨rfl, b7⟩
            have P7 : Hid (HB w [(w7.heap.size, tV false), (w.heap.size + 1, b), (w.heap.size, a)] (w7.alloc (.cells #[.int .i64 1, .int .i64 0, .string ⟨#[]⟩] 24))) := (hH2.out.call b7).push (tV false)
            clear e0 e1 e2 c0 c1 c2
            obtain ⟨-, -, -, e0, e1, e2, c0, c1, c2, -⟩ := P7.out.boxes
            go_wp2_with fail
            refine (HEQ.out _).mono ?_
            rintro e w8 ⟨rfl, b8⟩
            have P8 : Hid (HB w [(w8.heap.size, tV false), (w7.heap.size, tV false), (w.heap.size + 1, b), (w.heap.size, a)] (w8.alloc (.cells #[.int .i64 1, .int .i64 0, .string ⟨#[]⟩] 24))) := (P7.out.call b8).push (tV false)
            clear e0 e1 e2 c0 c1 c2
            go_wp2_with fail
            have HNE : Nonempty (HBT w [(w8.heap.size, tV false), (w7.heap.size, tV false), (w.heap.size + 1, b), (w.heap.size, a)]) := ⟨⟨_, P8.out.drew⟩⟩
            have f00 : ∀ x : HBT w [(w8.heap.size, tV false), (w7.heap.size, tV false), (w.heap.size + 1, b), (w.heap.size, a)], x.1.cell? ⟨w8.heap.size, 0, none⟩ = some (.int .i64 1) := fun x => x.2.boxes.1
            have f01 : ∀ x : HBT w [(w8.heap.size, tV false), (w7.heap.size, tV false), (w.heap.size + 1, b), (w.heap.size, a)], x.1.cell? ⟨w8.heap.size, 1, none⟩ = some (.int .i64 0) := fun x => x.2.boxes.2.1
            have f02 : ∀ x : HBT w [(w8.heap.size, tV false), (w7.heap.size, tV false), (w.heap.size + 1, b), (w.heap.size, a)], x.1.cell? ⟨w8.heap.size, 2, none⟩ = some (.string ⟨#[]⟩) := fun x => x.2.boxes.2.2.1
            have f10 : ∀ x : HBT w [(w8.heap.size, tV false), (w7.heap.size, tV false), (w.heap.size + 1, b), (w.heap.size, a)], x.1.cell? ⟨w7.heap.size, 0, none⟩ = some (.int .i64 1) := fun x => x.2.boxes.2.2.2.1
            have f11 : ∀ x : HBT w [(w8.heap.size, tV false), (w7.heap.size, tV false), (w.heap.size + 1, b), (w.heap.size, a)], x.1.cell? ⟨w7.heap.size, 1, none⟩ = some (.int .i64 0) := fun x => x.2.boxes.2.2.2.2.1
            have f12 : ∀ x : HBT w [(w8.heap.size, tV false), (w7.heap.size, tV false), (w.heap.size + 1, b), (w.heap.size, a)], x.1.cell? ⟨w7.heap.size, 2, none⟩ = some (.string ⟨#[]⟩) := fun x => x.2.boxes.2.2.2.2.2.1
            have f20 : ∀ x : HBT w [(w8.heap.size, tV false), (w7.heap.size, tV false), (w.heap.size + 1, b), (w.heap.size, a)], x.1.cell? ⟨w.heap.size + 1, 0, none⟩ = some (.int .i64 b.k) := fun x => x.2.boxes.2.2.2.2.2.2.1
            have f21 : ∀ x : HBT w [(w8.heap.size, tV false), (w7.heap.size, tV false), (w.heap.size + 1, b), (w.heap.size, a)], x.1.cell? ⟨w.heap.size + 1, 1, none⟩ = some (.int .i64 b.i) := fun x => x.2.boxes.2.2.2.2.2.2.2.1
            have f22 : ∀ x : HBT w [(w8.heap.size, tV false), (w7.heap.size, tV false), (w.heap.size + 1, b), (w.heap.size, a)], x.1.cell? ⟨w.heap.size + 1, 2, none⟩ = some (.string b.s) := fun x => x.2.boxes.2.2.2.2.2.2.2.2.1
            have f30 : ∀ x : HBT w [(w8.heap.size, tV false), (w7.heap.size, tV false), (w.heap.size + 1, b), (w.heap.size, a)], x.1.cell? ⟨w.heap.size, 0, none⟩ = some (.int .i64 a.k) := fun x => x.2.boxes.2.2.2.2.2.2.2.2.2.1
            have f31 : ∀ x : HBT w [(w8.heap.size, tV false), (w7.heap.size, tV false), (w.heap.size + 1, b), (w.heap.size, a)], x.1.cell? ⟨w.heap.size, 1, none⟩ = some (.int .i64 a.i) := fun x => x.2.boxes.2.2.2.2.2.2.2.2.2.2.1
            have f32 : ∀ x : HBT w [(w8.heap.size, tV false), (w7.heap.size, tV false), (w.heap.size + 1, b), (w.heap.size, a)], x.1.cell? ⟨w.heap.size, 2, none⟩ = some (.string a.s) := fun x => x.2.boxes.2.2.2.2.2.2.2.2.2.2.2.1
            refine wp_region_class (fun w' => ∃ x : HBT w [(w8.heap.size, tV false), (w7.heap.size, tV false), (w.heap.size + 1, b), (w.heap.size, a)], w' = x.1) (by kernel_rfl) (by kernel_rfl) ⟨⟨_, P8.out.drew⟩, rfl⟩ ?_
            repeat (go_big_quiet_step ((rename_i x; go_at_call 17; refine (HHo.out _).mono ?_; rintro e w2 ⟨rfl, hb⟩; exact ⟨rfl, ⟨_, x.2.call hb⟩, rfl⟩)))
            refine wpQuiet_nil ?_
            rintro _ ⟨x9, rfl⟩
            go_wp2_with fail
            go_ret
            exact ⟨rfl, x9.2.below⟩
          · have HEQ : Hid (∀ w', Calls Try.prog 19 #[.string ⟨#[61]⟩, .agg #[.int .i64 a.k, .int .i64 a.i, .string a.s], .agg #[.int .i64 b.k, .int .i64 b.i, .string b.s]] w' fun e w2 => e = .returned (.tuple #[.agg #[.int .i64 1, .int .i64 0, .string ⟨#[]⟩], .int .i64 0]) ∧ Below w'.heap.size w' w2) := HEQ.out
            obtain ⟨e0, e1, e2, c0, c1, c2, -⟩ := hH2.out.boxes
            go_wp2_with fail
            refine (HIS.out _).mono ?_
            rintro e w7 ⟨rfl, b7⟩
            have P7 : Hid (HB w [(w7.heap.size, tV false), (w.heap.size + 1, b), (w.heap.size, a)] (w7.alloc (.cells #[.int .i64 1, .int .i64 0, .string ⟨#[]⟩] 24))) := (hH2.out.call b7).push (tV false)
            clear e0 e1 e2 c0 c1 c2
            obtain ⟨-, -, -, e0, e1, e2, c0, c1, c2, -⟩ := P7.out.boxes
            go_wp2_with fail
            refine (HEQ.out _).mono ?_
            rintro e w8 ⟨rfl, b8⟩
            have P8 : Hid (HB w [(w8.heap.size, tV false), (w7.heap.size, tV false), (w.heap.size + 1, b), (w.heap.size, a)] (w8.alloc (.cells #[.int .i64 1, .int .i64 0, .string ⟨#[]⟩] 24))) := (P7.out.call b8).push (tV false)
            clear e0 e1 e2 c0 c1 c2
            go_wp2_with fail
            have HNE : Nonempty (HBT w [(w8.heap.size, tV false), (w7.heap.size, tV false), (w.heap.size + 1, b), (w.heap.size, a)]) := ⟨⟨_, P8.out.drew⟩⟩
            have f00 : ∀ x : HBT w [(w8.heap.size, tV false), (w7.heap.size, tV false), (w.heap.size + 1, b), (w.heap.size, a)], x.1.cell? ⟨w8.heap.size, 0, none⟩ = some (.int .i64 1) := fun x => x.2.boxes.1
            have f01 : ∀ x : HBT w [(w8.heap.size, tV false), (w7.heap.size, tV false), (w.heap.size + 1, b), (w.heap.size, a)], x.1.cell? ⟨w8.heap.size, 1, none⟩ = some (.int .i64 0) := fun x => x.2.boxes.2.1
            have f02 : ∀ x : HBT w [(w8.heap.size, tV false), (w7.heap.size, tV false), (w.heap.size + 1, b), (w.heap.size, a)], x.1.cell? ⟨w8.heap.size, 2, none⟩ = some (.string ⟨#[]⟩) := fun x => x.2.boxes.2.2.1
            have f10 : ∀ x : HBT w [(w8.heap.size, tV false), (w7.heap.size, tV false), (w.heap.size + 1, b), (w.heap.size, a)], x.1.cell? ⟨w7.heap.size, 0, none⟩ = some (.int .i64 1) := fun x => x.2.boxes.2.2.2.1
            have f11 : ∀ x : HBT w [(w8.heap.size, tV false), (w7.heap.size, tV false), (w.heap.size + 1, b), (w.heap.size, a)], x.1.cell? ⟨w7.heap.size, 1, none⟩ = some (.int .i64 0) := fun x => x.2.boxes.2.2.2.2.1
            have f12 : ∀ x : HBT w [(w8.heap.size, tV false), (w7.heap.size, tV false), (w.heap.size + 1, b), (w.heap.size, a)], x.1.cell? ⟨w7.heap.size, 2, none⟩ = some (.string ⟨#[]⟩) := fun x => x.2.boxes.2.2.2.2.2.1
            have f20 : ∀ x : HBT w [(w8.heap.size, tV false), (w7.heap.size, tV false), (w.heap.size + 1, b), (w.heap.size, a)], x.1.cell? ⟨w.heap.size + 1, 0, none⟩ = some (.int .i64 b.k) := fun x => x.2.boxes.2.2.2.2.2.2.1
            have f21 : ∀ x : HBT w [(w8.heap.size, tV false), (w7.heap.size, tV false), (w.heap.size + 1, b), (w.heap.size, a)], x.1.cell? ⟨w.heap.size + 1, 1, none⟩ = some (.int .i64 b.i) := fun x => x.2.boxes.2.2.2.2.2.2.2.1
            have f22 : ∀ x : HBT w [(w8.heap.size, tV false), (w7.heap.size, tV false), (w.heap.size + 1, b), (w.heap.size, a)], x.1.cell? ⟨w.heap.size + 1, 2, none⟩ = some (.string b.s) := fun x => x.2.boxes.2.2.2.2.2.2.2.2.1
            have f30 : ∀ x : HBT w [(w8.heap.size, tV false), (w7.heap.size, tV false), (w.heap.size + 1, b), (w.heap.size, a)], x.1.cell? ⟨w.heap.size, 0, none⟩ = some (.int .i64 a.k) := fun x => x.2.boxes.2.2.2.2.2.2.2.2.2.1
            have f31 : ∀ x : HBT w [(w8.heap.size, tV false), (w7.heap.size, tV false), (w.heap.size + 1, b), (w.heap.size, a)], x.1.cell? ⟨w.heap.size, 1, none⟩ = some (.int .i64 a.i) := fun x => x.2.boxes.2.2.2.2.2.2.2.2.2.2.1
            have f32 : ∀ x : HBT w [(w8.heap.size, tV false), (w7.heap.size, tV false), (w.heap.size + 1, b), (w.heap.size, a)], x.1.cell? ⟨w.heap.size, 2, none⟩ = some (.string a.s) := fun x => x.2.boxes.2.2.2.2.2.2.2.2.2.2.2.1
            refine wp_region_class (fun w' => ∃ x : HBT w [(w8.heap.size, tV false), (w7.heap.size, tV false), (w.heap.size + 1, b), (w.heap.size, a)], w' = x.1) (by kernel_rfl) (by kernel_rfl) ⟨⟨_, P8.out.drew⟩, rfl⟩ ?_
            repeat (go_big_quiet_step ((rename_i x; go_at_call 17; refine (HHo.out _).mono ?_; rintro e w2 ⟨rfl, hb⟩; exact ⟨rfl, ⟨_, x.2.call hb⟩, rfl⟩)))
            refine wpQuiet_nil ?_
            rintro _ ⟨x9, rfl⟩
            go_wp2_with fail
            go_ret
            exact ⟨rfl, x9.2.below⟩
theorem twice_core (a b : V) (op : ByteArray) (w : World) : Calls Try.prog 8 #[.agg #[.int .i64 a.k, .int .i64 a.i, .string a.s], .agg #[.int .i64 b.k, .int .i64 b.i, .string b.s], .string op] w fun e w' => e = .returned (.bool true) ∧ Below w.heap.size w w' := by
  by_cases h : ¬ a.chk = 0 ∨ ¬ b.chk = 0 ∨ 10000 < a.s.size ∨ 10000 < b.s.size
  · exact twice_out a b op w h
  · exact twice_in a b op w (by omega) (by omega) (by omega) (by omega)
end Go.Proofs.Ytgemopcnfklndaa
