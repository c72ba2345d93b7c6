/- The walk of the law ScalarTurns: it answers true, whatever two numbers. Conditions: the library's one variable is there. -/
import Derived.Test.YtdffnkopbackiaaDoorScaTurns
import Derived.Outline
namespace Go.Proofs.YtdffnkopbackiaaDoor
open Go.RowKit
theorem op_43 : opk ⟨#[43]⟩ = 1 := by unfold opk; simp only [Lib.toList_data]; rfl
theorem op_45 : opk ⟨#[45]⟩ = 2 := by unfold opk; simp only [Lib.toList_data]; rfl
theorem op_42 : opk ⟨#[42]⟩ = 3 := by unfold opk; simp only [Lib.toList_data]; rfl
theorem op_37 : opk ⟨#[37]⟩ = 5 := by unfold opk; simp only [Lib.toList_data]; rfl
/-- What comes of two numbers, as a value. -/
def nrV (p : Nat) (a b : Int) : V := if numE p a b = 0 then nV (numR p a b) else zV
theorem ari (op : ByteArray) (p : Nat) (hop : opk op = p) (hp : ¬ p = 0) (a b : Int) (ha : In64 a) (hb : In64 b) (w : World) :
    Calls Tryd.prog 10 #[.string op, .agg #[.int .i64 2, .int .i64 a, .string ⟨#[]⟩], .agg #[.int .i64 2, .int .i64 b, .string ⟨#[]⟩]] w fun e w' => e = .returned (.tuple #[.agg #[.int .i64 (nrV p a b).k, .int .i64 (nrV p a b).i, .string (nrV p a b).s], .int .i64 (numE p a b)]) ∧ Below w.heap.size w w' := by
  have h := arith_any op (nV a) (nV b) w ha hb
  obtain ⟨h1, h2⟩ := ar_int op a b (by omega)
  rw [hop] at h1 h2
  rw [h1, h2] at h
  exact h
theorem nrV_turn (p : Nat) (a b : Int) (hp : p = 1 ∨ p = 3) : nrV p a b = nrV p b a := by unfold nrV; rw [(num_turn p a b hp).1, (num_turn p a b hp).2]
def StrBox (w : World) (g : Nat) : Prop := w.heap[g]? = some (.cells #[.string ⟨#[43]⟩, .string ⟨#[42]⟩] 9 (0, 0))
theorem str_made {w : World} {H : Nat} (hH : w.heap.size = H) : StrBox (w.alloc (.cells #[.string ⟨#[43]⟩, .string ⟨#[42]⟩] 9)) H := by subst hH; exact heap_alloc_new w _
theorem StrBox.later {w w' : World} {g : Nat} (h : StrBox w g) (hb : Below w.heap.size w w') : StrBox w' g := (hb.block g (Array.getElem?_eq_some_iff.1 h).1).trans h
set_option maxRecDepth 100000 in
set_option maxHeartbeats 8000000 in
theorem turns_core (a b : Int) (ha : In64 a) (hb : In64 b) (w : World) (hE : Env w) : Calls Tryd.prog 4 #[.int .i64 a, .int .i64 b] w fun e w' => e = .returned (.bool true) ∧ Below w.heap.size w w' := by
  have HE := Lib.hid hE
  have H0 := Lib.hid (HV.nil w)
  have HP := Lib.hid (fun w => ari ⟨#[43]⟩ 1 op_43 (by omega) a b ha hb w)
  have HPt : Hid (∀ w, Calls Tryd.prog 10 #[.string ⟨#[43]⟩, .agg #[.int .i64 2, .int .i64 b, .string ⟨#[]⟩], .agg #[.int .i64 2, .int .i64 a, .string ⟨#[]⟩]] w fun e w' => e = .returned (.tuple #[.agg #[.int .i64 (nrV 1 a b).k, .int .i64 (nrV 1 a b).i, .string (nrV 1 a b).s], .int .i64 (numE 1 a b)]) ∧ Below w.heap.size w w') := fun w => by
    rw [nrV_turn 1 a b (by omega), (num_turn 1 a b (by omega)).1]
    exact ari ⟨#[43]⟩ 1 op_43 (by omega) b a hb ha w
  have HM := Lib.hid (fun w => ari ⟨#[42]⟩ 3 op_42 (by omega) a b ha hb w)
  have HMt : Hid (∀ w, Calls Tryd.prog 10 #[.string ⟨#[42]⟩, .agg #[.int .i64 2, .int .i64 b, .string ⟨#[]⟩], .agg #[.int .i64 2, .int .i64 a, .string ⟨#[]⟩]] w fun e w' => e = .returned (.tuple #[.agg #[.int .i64 (nrV 3 a b).k, .int .i64 (nrV 3 a b).i, .string (nrV 3 a b).s], .int .i64 (numE 3 a b)]) ∧ Below w.heap.size w w') := fun w => by
    rw [nrV_turn 3 a b (by omega), (num_turn 3 a b (by omega)).1]
    exact ari ⟨#[42]⟩ 3 op_42 (by omega) b a hb ha w
  have HA := Lib.hid ha
  have HB := Lib.hid hb
  clear hE ha hb
  go_enter Tryd.func4, Tryd.ntmps4
  go_wp2_with fail
  refine (live_any w HE.out).mono ?_
  rintro e w1 ⟨rfl, b1⟩
  go_wp2_with fail
  refine (int1_any _ _).mono ?_
  rintro e w2 ⟨rfl, b2⟩
  have P1 : Hid (HV w [(w2.heap.size, nV a)] (w2.alloc (.cells #[.int .i64 2, .int .i64 a, .string ⟨#[]⟩] 23))) := ((H0.out.call b1).call b2).push (nV a)
  clear b1 b2
  go_wp2_with fail
  refine (int1_any _ _).mono ?_
  rintro e w3 ⟨rfl, b3⟩
  have P2 : Hid (HV w [(w3.heap.size, nV b), (w2.heap.size, nV a)] (w3.alloc (.cells #[.int .i64 2, .int .i64 b, .string ⟨#[]⟩] 23))) := (P1.out.call b3).push (nV b)
  have P3 : Hid (HV w [(w3.heap.size, nV b), (w2.heap.size, nV a)] ((w3.alloc (.cells #[.int .i64 2, .int .i64 b, .string ⟨#[]⟩] 23)).alloc (.cells #[.string ⟨#[43]⟩, .string ⟨#[42]⟩] 9))) := P2.out.alloc _
  have S3 := Lib.hid (str_made (w := w3.alloc (.cells #[.int .i64 2, .int .i64 b, .string ⟨#[]⟩] 23)) (H := w3.heap.size + 1) (by simp))
  clear b3
  go_wp2_with fail
  go_loopw [29] (fun i wr => (i = .int .i64 0 ∨ i = .int .i64 1 ∨ i = .int .i64 2) ∧ Hid (HV w [(w3.heap.size, nV b), (w2.heap.size, nV a)] wr) ∧ Hid (StrBox wr (w3.heap.size + 1))) (fun i _ => (2 - intOf i).toNat)
  case atStart => exact ⟨Or.inl rfl, P3.out, S3.out⟩
  case round =>
    obtain ⟨hi, HR, HS⟩ := hrel
    obtain ⟨y0, y1, y2, x0, x1, x2, -⟩ : wr.cell? ⟨w3.heap.size, 0, none⟩ = some (.int .i64 2) ∧ wr.cell? ⟨w3.heap.size, 1, none⟩ = some (.int .i64 b) ∧ wr.cell? ⟨w3.heap.size, 2, none⟩ = some (.string ⟨#[]⟩) ∧ wr.cell? ⟨w2.heap.size, 0, none⟩ = some (.int .i64 2) ∧ wr.cell? ⟨w2.heap.size, 1, none⟩ = some (.int .i64 a) ∧ wr.cell? ⟨w2.heap.size, 2, none⟩ = some (.string ⟨#[]⟩) ∧ True := ⟨HR.out.box.cells.1, HR.out.box.cells.2.1, HR.out.box.cells.2.2, HR.out.tail.box.cells.1, HR.out.tail.box.cells.2.1, HR.out.tail.box.cells.2.2, trivial⟩
    have s0 : wr.cell? ⟨w3.heap.size + 1, 0, none⟩ = some (.string ⟨#[43]⟩) := by rw [Lib.cell_of_heap HS.out]; rfl
    have s1 : wr.cell? ⟨w3.heap.size + 1, 1, none⟩ = some (.string ⟨#[42]⟩) := by rw [Lib.cell_of_heap HS.out]; rfl
    rcases hi with rfl | rfl | rfl
    · generalize nrV 1 a b = va at HP HPt
      generalize numE 1 a b = ve at HP HPt
      go_wp2_with fail
      refine (HP.out _).mono ?_
      rintro e w4 ⟨rfl, b4⟩
      have P4 := Lib.hid ((HR.out.call b4).push va)
      have S4 := Lib.hid ((HS.out.later b4).later ((Below.refl _ w4).alloc (Nat.le_refl _) (.cells #[.int .i64 va.k, .int .i64 va.i, .string va.s] 23)))
      clear y0 y1 y2 x0 x1 x2 s0 s1 b4
      obtain ⟨y0, y1, y2⟩ := P4.out.tail.box.cells
      obtain ⟨x0, x1, x2⟩ := P4.out.tail.tail.box.cells
      simp only [nV] at y0 y1 y2 x0 x1 x2
      go_wp2_with fail
      refine (HPt.out _).mono ?_
      rintro e w5 ⟨rfl, b5⟩
      have P5 := Lib.hid ((P4.out.call b5).push va)
      have S5 := Lib.hid ((S4.out.later b5).later ((Below.refl _ w5).alloc (Nat.le_refl _) (.cells #[.int .i64 va.k, .int .i64 va.i, .string va.s] 23)))
      clear y0 y1 y2 x0 x1 x2 b5
      obtain ⟨p0, p1, p2⟩ := P5.out.box.cells
      obtain ⟨q0, q1, q2⟩ := P5.out.tail.box.cells
      go_wp2_with fail
      go_roundw
      case rel => exact ⟨Or.inr (Or.inl rfl), P5.out.tail.tail, S5.out⟩
      case measure => simp [intOf]
    · generalize nrV 3 a b = va at HM HMt
      generalize numE 3 a b = ve at HM HMt
      go_wp2_with fail
      refine (HM.out _).mono ?_
      rintro e w4 ⟨rfl, b4⟩
      have P4 := Lib.hid ((HR.out.call b4).push va)
      have S4 := Lib.hid ((HS.out.later b4).later ((Below.refl _ w4).alloc (Nat.le_refl _) (.cells #[.int .i64 va.k, .int .i64 va.i, .string va.s] 23)))
      clear y0 y1 y2 x0 x1 x2 s0 s1 b4
      obtain ⟨y0, y1, y2⟩ := P4.out.tail.box.cells
      obtain ⟨x0, x1, x2⟩ := P4.out.tail.tail.box.cells
      simp only [nV] at y0 y1 y2 x0 x1 x2
      go_wp2_with fail
      refine (HMt.out _).mono ?_
      rintro e w5 ⟨rfl, b5⟩
      have P5 := Lib.hid ((P4.out.call b5).push va)
      have S5 := Lib.hid ((S4.out.later b5).later ((Below.refl _ w5).alloc (Nat.le_refl _) (.cells #[.int .i64 va.k, .int .i64 va.i, .string va.s] 23)))
      clear y0 y1 y2 x0 x1 x2 b5
      obtain ⟨p0, p1, p2⟩ := P5.out.box.cells
      obtain ⟨q0, q1, q2⟩ := P5.out.tail.box.cells
      go_wp2_with fail
      go_roundw
      case rel => exact ⟨Or.inr (Or.inr rfl), P5.out.tail.tail, S5.out⟩
      case measure => simp [intOf]
    · go_wp2_with fail
      clear s0 s1
      by_cases hv : numE 1 a b = 0
      · have hk := num_back HA.out hv
        have HN := Lib.hid (fun w => ari ⟨#[45]⟩ 2 op_45 (by omega) (a + b) b hk.2.2.2 HB.out w)
        unfold nrV at HP HN
        rw [hv, if_pos rfl, hk.1] at HP
        rw [hk.2.1, if_pos rfl, hk.2.2.1] at HN
        clear hk hv
        simp only [nV] at HP HN
        generalize hsab : a + b = sab at *
        clear hsab
        refine (HP.out _).mono ?_
        rintro e w6 ⟨rfl, b6⟩
        have P6 := Lib.hid ((HR.out.call b6).push (nV sab))
        clear y0 y1 y2 x0 x1 x2 b6
        obtain ⟨y0, y1, y2⟩ := P6.out.tail.box.cells
        obtain ⟨t0, t1, t2⟩ := P6.out.box.cells
        simp only [nV] at y0 y1 y2 t0 t1 t2
        go_wp2_with fail
        refine (HN.out _).mono ?_
        rintro e w7 ⟨rfl, b7⟩
        have P7 := Lib.hid ((P6.out.call b7).push (nV a))
        clear y0 y1 y2 t0 t1 t2 b7 HN
        obtain ⟨z0, z1, z2⟩ := P7.out.box.cells
        obtain ⟨y0, y1, y2⟩ := P7.out.tail.tail.box.cells
        obtain ⟨x0, x1, x2⟩ := P7.out.tail.tail.tail.box.cells
        simp only [nV] at y0 y1 y2 x0 x1 x2 z0 z1 z2
        go_wp2_with fail
        clear z0 z1 z2
        clear y0 y1 y2 x0 x1 x2
        obtain ⟨y0, y1, y2⟩ := P7.out.tail.tail.box.cells
        obtain ⟨x0, x1, x2⟩ := P7.out.tail.tail.tail.box.cells
        simp only [nV] at y0 y1 y2 x0 x1 x2
        have HQ := Lib.hid (fun w => ari ⟨#[47]⟩ 4 op_47 (by omega) a b HA.out HB.out w)
        have HR5 := Lib.hid (fun w => ari ⟨#[37]⟩ 5 op_37 (by omega) a b HA.out HB.out w)
        by_cases hb0 : b = 0
        · subst hb0
          unfold nrV at HQ HR5
          rw [(num_zero (p := 4) (a := a) (by omega)).2, if_neg (by omega)] at HQ
          rw [(num_zero (p := 5) (a := a) (by omega)).2, if_neg (by omega)] at HR5
          clear HP HM HPt HMt
          simp only [zV] at HQ HR5
          go_wp2_with fail
          refine (HQ.out _).mono ?_
          rintro e w8 ⟨rfl, b8⟩
          have P8 := Lib.hid ((P7.out.call b8).push zV)
          clear y0 y1 y2 x0 x1 x2 b8
          obtain ⟨y0, y1, y2⟩ := P8.out.tail.tail.tail.box.cells
          obtain ⟨x0, x1, x2⟩ := P8.out.tail.tail.tail.tail.box.cells
          simp only [nV, zV] at y0 y1 y2 x0 x1 x2
          go_wp2_with fail
          refine (HR5.out _).mono ?_
          rintro e w9 ⟨rfl, b9⟩
          have P9 := Lib.hid ((P8.out.call b9).push zV)
          clear y0 y1 y2 x0 x1 x2 b9
          obtain ⟨r0, r1, r2⟩ := P9.out.box.cells
          obtain ⟨q0, q1, q2⟩ := P9.out.tail.box.cells
          simp only [zV] at r0 r1 r2 q0 q1 q2
          go_wp2_with fail
          go_ret
          exact ⟨rfl, P9.out.below⟩
        · have hz : (b == 0) = false := by simpa using hb0
          unfold nrV at HQ HR5
          rcases num_quot HA.out HB.out hb0 with ⟨e4, hb1, e5⟩ | ⟨e4, v4, e5, v5, hsum, hin, hq64, hr64, hsign⟩
          · subst hb1
            rw [e4, if_neg (by omega)] at HQ
            rw [e5, if_pos rfl] at HR5
            generalize numR 5 a (-1) = rr at *
            clear HP HM HPt HMt e4 e5 hb0 hz
            simp only [nV, zV] at HQ HR5
            go_wp2_with fail
            refine (HQ.out _).mono ?_
            rintro e w8 ⟨rfl, b8⟩
            have P8 := Lib.hid ((P7.out.call b8).push zV)
            clear y0 y1 y2 x0 x1 x2 b8
            obtain ⟨y0, y1, y2⟩ := P8.out.tail.tail.tail.box.cells
            obtain ⟨x0, x1, x2⟩ := P8.out.tail.tail.tail.tail.box.cells
            simp only [nV, zV] at y0 y1 y2 x0 x1 x2
            go_wp2_with fail
            refine (HR5.out _).mono ?_
            rintro e w9 ⟨rfl, b9⟩
            have P9 := Lib.hid ((P8.out.call b9).push (nV rr))
            clear y0 y1 y2 x0 x1 x2 b9
            obtain ⟨r0, r1, r2⟩ := P9.out.box.cells
            obtain ⟨q0, q1, q2⟩ := P9.out.tail.box.cells
            simp only [nV, zV] at r0 r1 r2 q0 q1 q2
            go_wp2_with fail
            go_ret
            exact ⟨rfl, P9.out.below⟩
          · rw [e4, if_pos rfl, v4] at HQ
            rw [e5, if_pos rfl, v5] at HR5
            clear e4 e5 v4 v5 HP HM HPt HMt
            simp only [nV] at HQ HR5
            generalize a.tdiv b = q at *
            generalize a.tmod b = r at *
            unfold In64 at hin hq64 hr64
            have hab := HA.out
            unfold In64 at hab
            have HSUM := Lib.hid hsum
            by_cases hr0 : r = 0
            · subst hr0
              have hz0 : decide ((0 : Int) < 0) = false := rfl
              go_wp2_with fail
              refine (HQ.out _).mono ?_
              rintro e w8 ⟨rfl, b8⟩
              have P8 := Lib.hid ((P7.out.call b8).push (nV q))
              clear y0 y1 y2 x0 x1 x2 b8
              obtain ⟨y0, y1, y2⟩ := P8.out.tail.tail.tail.box.cells
              obtain ⟨x0, x1, x2⟩ := P8.out.tail.tail.tail.tail.box.cells
              simp only [nV] at y0 y1 y2 x0 x1 x2
              go_wp2_with fail
              refine (HR5.out _).mono ?_
              rintro e w9 ⟨rfl, b9⟩
              have P9 := Lib.hid ((P8.out.call b9).push (nV 0))
              clear y0 y1 y2 x0 x1 x2 b9
              obtain ⟨r0, r1, r2⟩ := P9.out.box.cells
              obtain ⟨q0, q1, q2⟩ := P9.out.tail.box.cells
              simp only [nV] at r0 r1 r2 q0 q1 q2
              go_wp2_with fail
              go_ret
              exact ⟨rfl, P9.out.below⟩
            · have hr0' : (r == 0) = false := by simpa using hr0
              have hs : (decide (r < 0) == decide (a < 0)) = true := by rw [beq_iff_eq, decide_eq_decide]; exact hsign.elim (fun h => absurd h hr0) id
              clear hsign
              go_wp2_with fail
              refine (HQ.out _).mono ?_
              rintro e w8 ⟨rfl, b8⟩
              have P8 := Lib.hid ((P7.out.call b8).push (nV q))
              clear y0 y1 y2 x0 x1 x2 b8
              obtain ⟨y0, y1, y2⟩ := P8.out.tail.tail.tail.box.cells
              obtain ⟨x0, x1, x2⟩ := P8.out.tail.tail.tail.tail.box.cells
              simp only [nV] at y0 y1 y2 x0 x1 x2
              go_wp2_with fail
              refine (HR5.out _).mono ?_
              rintro e w9 ⟨rfl, b9⟩
              have P9 := Lib.hid ((P8.out.call b9).push (nV r))
              clear y0 y1 y2 x0 x1 x2 b9
              obtain ⟨r0, r1, r2⟩ := P9.out.box.cells
              obtain ⟨q0, q1, q2⟩ := P9.out.tail.box.cells
              simp only [nV] at r0 r1 r2 q0 q1 q2
              go_wp2_with fail
              go_ret
              exact ⟨rfl, P9.out.below⟩
      · have hv' : (numE 1 a b == 0) = false := by simpa using hv
        generalize nrV 1 a b = va at HP
        generalize numE 1 a b = ve at HP hv'
        clear hv
        refine (HP.out _).mono ?_
        rintro e w6 ⟨rfl, b6⟩
        have P6 := Lib.hid ((HR.out.call b6).push va)
        clear y0 y1 y2 x0 x1 x2 b6
        obtain ⟨y0, y1, y2⟩ := P6.out.tail.box.cells
        obtain ⟨x0, x1, x2⟩ := P6.out.tail.tail.box.cells
        simp only [nV] at y0 y1 y2 x0 x1 x2
        go_wp2_with fail
        clear y0 y1 y2 x0 x1 x2
        obtain ⟨y0, y1, y2⟩ := P6.out.tail.box.cells
        obtain ⟨x0, x1, x2⟩ := P6.out.tail.tail.box.cells
        simp only [nV] at y0 y1 y2 x0 x1 x2
        have HQ := Lib.hid (fun w => ari ⟨#[47]⟩ 4 op_47 (by omega) a b HA.out HB.out w)
        have HR5 := Lib.hid (fun w => ari ⟨#[37]⟩ 5 op_37 (by omega) a b HA.out HB.out w)
        by_cases hb0 : b = 0
        · subst hb0
          unfold nrV at HQ HR5
          rw [(num_zero (p := 4) (a := a) (by omega)).2, if_neg (by omega)] at HQ
          rw [(num_zero (p := 5) (a := a) (by omega)).2, if_neg (by omega)] at HR5
          clear HP HM HPt HMt
          simp only [zV] at HQ HR5
          go_wp2_with fail
          refine (HQ.out _).mono ?_
          rintro e w8 ⟨rfl, b8⟩
          have P8 := Lib.hid ((P6.out.call b8).push zV)
          clear y0 y1 y2 x0 x1 x2 b8
          obtain ⟨y0, y1, y2⟩ := P8.out.tail.tail.box.cells
          obtain ⟨x0, x1, x2⟩ := P8.out.tail.tail.tail.box.cells
          simp only [nV, zV] at y0 y1 y2 x0 x1 x2
          go_wp2_with fail
          refine (HR5.out _).mono ?_
          rintro e w9 ⟨rfl, b9⟩
          have P9 := Lib.hid ((P8.out.call b9).push zV)
          clear y0 y1 y2 x0 x1 x2 b9
          obtain ⟨r0, r1, r2⟩ := P9.out.box.cells
          obtain ⟨q0, q1, q2⟩ := P9.out.tail.box.cells
          simp only [zV] at r0 r1 r2 q0 q1 q2
          go_wp2_with fail
          go_ret
          exact ⟨rfl, P9.out.below⟩
        · have hz : (b == 0) = false := by simpa using hb0
          unfold nrV at HQ HR5
          rcases num_quot HA.out HB.out hb0 with ⟨e4, hb1, e5⟩ | ⟨e4, v4, e5, v5, hsum, hin, hq64, hr64, hsign⟩
          · subst hb1
            rw [e4, if_neg (by omega)] at HQ
            rw [e5, if_pos rfl] at HR5
            generalize numR 5 a (-1) = rr at *
            clear HP HM HPt HMt e4 e5 hb0 hz
            simp only [nV, zV] at HQ HR5
            go_wp2_with fail
            refine (HQ.out _).mono ?_
            rintro e w8 ⟨rfl, b8⟩
            have P8 := Lib.hid ((P6.out.call b8).push zV)
            clear y0 y1 y2 x0 x1 x2 b8
            obtain ⟨y0, y1, y2⟩ := P8.out.tail.tail.box.cells
            obtain ⟨x0, x1, x2⟩ := P8.out.tail.tail.tail.box.cells
            simp only [nV, zV] at y0 y1 y2 x0 x1 x2
            go_wp2_with fail
            refine (HR5.out _).mono ?_
            rintro e w9 ⟨rfl, b9⟩
            have P9 := Lib.hid ((P8.out.call b9).push (nV rr))
            clear y0 y1 y2 x0 x1 x2 b9
            obtain ⟨r0, r1, r2⟩ := P9.out.box.cells
            obtain ⟨q0, q1, q2⟩ := P9.out.tail.box.cells
            simp only [nV, zV] at r0 r1 r2 q0 q1 q2
            go_wp2_with fail
            go_ret
            exact ⟨rfl, P9.out.below⟩
          · rw [e4, if_pos rfl, v4] at HQ
            rw [e5, if_pos rfl, v5] at HR5
            clear e4 e5 v4 v5 HP HM HPt HMt
            simp only [nV] at HQ HR5
            generalize a.tdiv b = q at *
            generalize a.tmod b = r at *
            unfold In64 at hin hq64 hr64
            have hab := HA.out
            unfold In64 at hab
            have HSUM := Lib.hid hsum
            by_cases hr0 : r = 0
            · subst hr0
              have hz0 : decide ((0 : Int) < 0) = false := rfl
              go_wp2_with fail
              refine (HQ.out _).mono ?_
              rintro e w8 ⟨rfl, b8⟩
              have P8 := Lib.hid ((P6.out.call b8).push (nV q))
              clear y0 y1 y2 x0 x1 x2 b8
              obtain ⟨y0, y1, y2⟩ := P8.out.tail.tail.box.cells
              obtain ⟨x0, x1, x2⟩ := P8.out.tail.tail.tail.box.cells
              simp only [nV] at y0 y1 y2 x0 x1 x2
              go_wp2_with fail
              refine (HR5.out _).mono ?_
              rintro e w9 ⟨rfl, b9⟩
              have P9 := Lib.hid ((P8.out.call b9).push (nV 0))
              clear y0 y1 y2 x0 x1 x2 b9
              obtain ⟨r0, r1, r2⟩ := P9.out.box.cells
              obtain ⟨q0, q1, q2⟩ := P9.out.tail.box.cells
              simp only [nV] at r0 r1 r2 q0 q1 q2
              go_wp2_with fail
              go_ret
              exact ⟨rfl, P9.out.below⟩
            · have hr0' : (r == 0) = false := by simpa using hr0
              have hs : (decide (r < 0) == decide (a < 0)) = true := by rw [beq_iff_eq, decide_eq_decide]; exact hsign.elim (fun h => absurd h hr0) id
              clear hsign
              go_wp2_with fail
              refine (HQ.out _).mono ?_
              rintro e w8 ⟨rfl, b8⟩
              have P8 := Lib.hid ((P6.out.call b8).push (nV q))
              clear y0 y1 y2 x0 x1 x2 b8
              obtain ⟨y0, y1, y2⟩ := P8.out.tail.tail.box.cells
              obtain ⟨x0, x1, x2⟩ := P8.out.tail.tail.tail.box.cells
              simp only [nV] at y0 y1 y2 x0 x1 x2
              go_wp2_with fail
              refine (HR5.out _).mono ?_
              rintro e w9 ⟨rfl, b9⟩
              have P9 := Lib.hid ((P8.out.call b9).push (nV r))
              clear y0 y1 y2 x0 x1 x2 b9
              obtain ⟨r0, r1, r2⟩ := P9.out.box.cells
              obtain ⟨q0, q1, q2⟩ := P9.out.tail.box.cells
              simp only [nV] at r0 r1 r2 q0 q1 q2
              go_wp2_with fail
              go_ret
              exact ⟨rfl, P9.out.below⟩
end Go.Proofs.YtdffnkopbackiaaDoor
