/- Contract of the reference's Arith, of any word and any two values. Conditions: both values' numbers have 64 bits. -/
import Derived.Test.YtdffnkopbackiaaDoorScaArith2
import Derived.Test.YtdffnkopbackiaaDoorScaArgs
import Derived.Test.YtdffnkopbackiaaDoorScaRar
namespace Go.Proofs.YtdffnkopbackiaaDoor
open Go.RowKit
theorem rmay2_any (a b : V) (w : World) (H : Nat) (hH : w.heap.size = H) : Calls Tryd.prog 26 #[.slice (some ⟨H, 0, none⟩) 2 2] (w.alloc (.cells #[.int .i64 a.k, .int .i64 a.i, .string a.s, .int .i64 b.k, .int .i64 b.i, .string b.s] 23)) fun e w' => e = .returned (.bool (allOk [a, b])) ∧ Below H w w' ∧ H + 1 ≤ w'.heap.size := by
  subst hH
  refine (rmay_any [a, b] _ 2 _ (by simpa using row2_made w a b) (by simp)).mono ?_
  rintro e w' ⟨rfl, hb⟩
  exact ⟨rfl, ((Below.refl _ w).alloc (Nat.le_refl _) _).trans (hb.mono (by simp)), by have := hb.size; simpa using this⟩
theorem rint1_any (n : Int) (w : World) : Calls Tryd.prog 16 #[.int .i64 n] w fun e w' => e = .returned (.agg #[.int .i64 2, .int .i64 n, .string ⟨#[]⟩]) ∧ Below w.heap.size w w' := by
  go_enter Tryd.func16, Tryd.ntmps16
  go_wp2
  exact bodyPost_ret (v := .agg #[.int .i64 2, .int .i64 n, .string ⟨#[]⟩]) (by simp [results, Tryd.results16, go_sem]) rfl ⟨rfl, (Below.refl _ w).alloc (Nat.le_refl _) _⟩
def fitI (v : V) : Prop := v.k = 0 ∨ v.k = 2
theorem okI {a b : V} : okK [4, 4, 0] [a, b] = true ↔ fitI a ∧ fitI b := by
  unfold okK fitI fitsK
  simp
theorem args_row2 {w : World} {H : Nat} (hH : w.heap.size = H) (a b : V) : Args (w.alloc (.cells #[.int .i64 a.k, .int .i64 a.i, .string a.s, .int .i64 b.k, .int .i64 b.i, .string b.s] 23)) H [a, b] := args2 hH
theorem Drawn.below {w w' : World} (h : Drawn w w') : Below w.heap.size w w' := by obtain ⟨n, rfl⟩ := h; exact below_drewN (Below.refl _ _) n
set_option maxRecDepth 100000 in
set_option maxHeartbeats 4000000 in
theorem rarith_bad (op : ByteArray) (a b : V) (w : World) (hok : allOk [a, b] = false) :
    Calls Tryd.prog 11 #[.string op, .agg #[.int .i64 a.k, .int .i64 a.i, .string a.s], .agg #[.int .i64 b.k, .int .i64 b.i, .string b.s]] w fun e w' => e = .returned (.tuple #[.agg #[.int .i64 (arV op a b).k, .int .i64 (arV op a b).i, .string (arV op a b).s], .int .i64 (arE op a b)]) ∧ Below w.heap.size w w' := by
  rw [(ar_bad hok).1, (ar_bad hok).2]
  have HB := Lib.hid (three_boxes w a b)
  have HM := Lib.hid (fun W H hH => rmay2_any a b W H hH)
  rw [hok] at HM
  clear hok
  go_enter Tryd.func11, Tryd.ntmps11
  go_wp2_with fail
  refine (HM.out _ _ (by simp)).mono ?_
  rintro e w1 ⟨rfl, b1, s1⟩
  have P1 := Lib.hid (HB.out.call (bele b1 (by simp)))
  clear b1
  obtain ⟨g0, g1, g2⟩ := P1.out.box.cells
  obtain ⟨f0, f1, f2⟩ := P1.out.box.free
  simp only [zV] at g0 g1 g2
  go_wp2_with fail
  exact bodyPost_ret (v := .tuple #[.agg #[.int .i64 0, .int .i64 0, .string ⟨#[]⟩], .int .i64 1]) (by simp [results, Tryd.results11, go_sem, g0, g1, g2]) rfl ⟨rfl, Below.set3 P1.out.below (by omega) _ _ _⟩
set_option maxRecDepth 100000 in
set_option maxHeartbeats 4000000 in
theorem rarith0 (op : ByteArray) (a b : V) (w : World) (hok : allOk [a, b] = true) (h1 : (op.toList == [43]) = false) (h2 : (op.toList == [45]) = false) (h3 : (op.toList == [42]) = false) (h4 : (op.toList == [47]) = false) (h5 : (op.toList == [37]) = false) (h0 : opk op = 0) :
    Calls Tryd.prog 11 #[.string op, .agg #[.int .i64 a.k, .int .i64 a.i, .string a.s], .agg #[.int .i64 b.k, .int .i64 b.i, .string b.s]] w fun e w' => e = .returned (.tuple #[.agg #[.int .i64 (arV op a b).k, .int .i64 (arV op a b).i, .string (arV op a b).s], .int .i64 (arE op a b)]) ∧ Below w.heap.size w w' := by
  rw [(ar_none h0).1, (ar_none h0).2]
  have HB := Lib.hid (three_boxes w a b)
  have HM := Lib.hid (fun W H hH => rmay2_any a b W H hH)
  rw [hok] at HM
  clear hok h0
  have m1 : (op.toList != [43]) = true := by simp only [bne, h1, Bool.not_false]
  have m2 : (op.toList != [45]) = true := by simp only [bne, h2, Bool.not_false]
  have m3 : (op.toList != [42]) = true := by simp only [bne, h3, Bool.not_false]
  have m4 : (op.toList != [47]) = true := by simp only [bne, h4, Bool.not_false]
  have m5 : (op.toList != [37]) = true := by simp only [bne, h5, Bool.not_false]
  go_enter Tryd.func11, Tryd.ntmps11
  go_wp2_with fail
  refine (HM.out _ _ (by simp)).mono ?_
  rintro e w1 ⟨rfl, b1, s1⟩
  have P1 := Lib.hid (HB.out.call (bele b1 (by simp)))
  clear b1
  obtain ⟨g0, g1, g2⟩ := P1.out.box.cells
  obtain ⟨f0, f1, f2⟩ := P1.out.box.free
  simp only [zV] at g0 g1 g2
  go_wp2_with fail
  exact bodyPost_ret (v := .tuple #[.agg #[.int .i64 0, .int .i64 0, .string ⟨#[]⟩], .int .i64 1]) (by simp [results, Tryd.results11, go_sem, g0, g1, g2]) rfl ⟨rfl, Below.set3 P1.out.below (by omega) _ _ _⟩
set_option maxRecDepth 100000 in
set_option maxHeartbeats 8000000 in
theorem rarith1 (a b : V) (w : World) (ha : In64 a.i) (hb : In64 b.i) (hok : allOk [a, b] = true) :
    Calls Tryd.prog 11 #[.string ⟨#[43]⟩, .agg #[.int .i64 a.k, .int .i64 a.i, .string a.s], .agg #[.int .i64 b.k, .int .i64 b.i, .string b.s]] w fun e w' => e = .returned (.tuple #[.agg #[.int .i64 (arV ⟨#[43]⟩ a b).k, .int .i64 (arV ⟨#[43]⟩ a b).i, .string (arV ⟨#[43]⟩ a b).s], .int .i64 (arE ⟨#[43]⟩ a b)]) ∧ Below w.heap.size w w' := by
  have hp : opk ⟨#[43]⟩ = 1 := by unfold opk; simp only [Lib.toList_data]; rfl
  have h0 : ¬ opk ⟨#[43]⟩ = 0 := by omega
  have HB := Lib.hid (three_boxes w a b)
  have HM := Lib.hid (fun W H hH => rmay2_any a b W H hH)
  rw [hok] at HM
  have HBAD : Hid (¬ (fitI a ∧ fitI b) → 20 = arE ⟨#[43]⟩ a b ∧ zV = arV ⟨#[43]⟩ a b) := fun h => by
    have h' : okK [4, 4, 0] [a, b] = false := by
      cases hq : okK [4, 4, 0] [a, b]
      · rfl
      · exact absurd (okI.1 hq) h
    exact ⟨(ar_kind h0 hok h').1.symm, (ar_kind h0 hok h').2.symm⟩
  have HNUL : Hid (fitI a ∧ fitI b → nulB [a, b] = true → 0 = arE ⟨#[43]⟩ a b ∧ zV = arV ⟨#[43]⟩ a b) := fun h hn => ⟨(ar_null h0 hok (okI.2 h) hn).1.symm, (ar_null h0 hok (okI.2 h) hn).2.symm⟩
  have HNUM : Hid (fitI a ∧ fitI b → nulB [a, b] = false → numE 1 a.i b.i = arE ⟨#[43]⟩ a b ∧ (if numE 1 a.i b.i = 0 then nV (numR 1 a.i b.i) else zV) = arV ⟨#[43]⟩ a b) := fun h hn => by
    obtain ⟨q1, q2⟩ := ar_num h0 hok (okI.2 h) hn
    rw [hp] at q1 q2
    exact ⟨q1.symm, q2.symm⟩
  have HG := Lib.hid (fun w => rar1 a.i b.i w ha hb)
  generalize arE ⟨#[43]⟩ a b = E at *
  generalize arV ⟨#[43]⟩ a b = R at *
  generalize numR 1 a.i b.i = x at *
  generalize numE 1 a.i b.i = y at *
  clear ha hb hok hp h0
  have HL := Lib.hid (fun (W : World) (H : Nat) (hH : W.heap.size = H) => args_row2 hH a b)
  go_enter Tryd.func11, Tryd.ntmps11
  go_wp2_with fail
  refine (HM.out _ _ (by simp)).mono ?_
  rintro e w1 ⟨rfl, b1, s1⟩
  have P1 := Lib.hid (HB.out.call (bele b1 (by simp)))
  clear b1
  obtain ⟨c0, c1, c2⟩ := P1.out.tail.box.cells
  obtain ⟨d0, d1, d2⟩ := P1.out.tail.tail.box.cells
  go_wp2_with fail
  clear c0 c1 c2 d0 d1 d2
  go_loopw [42] (fun i wr => (i = .int .i64 0 ∨ (i = .int .i64 1 ∧ fitI a) ∨ (i = .int .i64 2 ∧ fitI a ∧ fitI b)) ∧ Hid (HV w [(w.heap.size + 2, zV), (w.heap.size + 1, b), (w.heap.size, a)] wr) ∧ Hid (Args wr w1.heap.size [a, b])) (fun i _ => (2 - intOf i).toNat)
  case atStart => exact ⟨Or.inl rfl, P1.out.alloc _, HL.out w1 _ rfl⟩
  case round =>
    obtain ⟨hi, HR, HA⟩ := hrel
    have k0 : wr.cell? ⟨w1.heap.size, 0, none⟩ = some (.int .i64 a.k) := HA.out.cell 0
    have k1 : wr.cell? ⟨w1.heap.size, 1, none⟩ = some (.int .i64 a.i) := HA.out.cell 1
    have k2 : wr.cell? ⟨w1.heap.size, 2, none⟩ = some (.string a.s) := HA.out.cell 2
    have k3 : wr.cell? ⟨w1.heap.size, 3, none⟩ = some (.int .i64 b.k) := HA.out.cell 3
    have k4 : wr.cell? ⟨w1.heap.size, 4, none⟩ = some (.int .i64 b.i) := HA.out.cell 4
    have k5 : wr.cell? ⟨w1.heap.size, 5, none⟩ = some (.string b.s) := HA.out.cell 5
    rcases hi with rfl | ⟨rfl, hfa⟩ | ⟨rfl, hfa, hfb⟩
    · skip
      skip
      by_cases hz : a.k = 0
      · have hz' : (a.k != 0) = false := by simpa using hz
        have HF := Lib.hid (show fitI a from Or.inl hz)
        clear hz
        go_wp2_with fail
        go_roundw
        case rel => exact ⟨Or.inr (Or.inl ⟨rfl, HF.out⟩), HR.out.alloc _, HA.out.later ((Below.refl _ wr).alloc (Nat.le_refl _) _)⟩
        case measure => simp [intOf]
      · have hz' : (a.k != 0) = true := by simpa using hz
        by_cases ht : a.k = 2
        · have ht' : (a.k != 2) = false := by simpa using ht
          have HF := Lib.hid (show fitI a from Or.inr ht)
          clear hz ht
          go_wp2_with fail
          go_roundw
          case rel => exact ⟨Or.inr (Or.inl ⟨rfl, HF.out⟩), HR.out.alloc _, HA.out.later ((Below.refl _ wr).alloc (Nat.le_refl _) _)⟩
          case measure => simp [intOf]
        · have ht' : (a.k != 2) = true := by simpa using ht
          have HF := Lib.hid (show ¬ fitI a from fun h => h.elim hz ht)
          clear hz ht
          have H2 := Lib.hid (HR.out.alloc (.cells #[.int .i64 a.k, .int .i64 a.i, .string a.s] 23))
          obtain ⟨g0, g1, g2⟩ := H2.out.box.cells
          obtain ⟨f0, f1, f2⟩ := H2.out.box.free
          simp only [zV] at g0 g1 g2
          go_wp2_with fail
          obtain ⟨q1, q2⟩ := HBAD.out (fun h => HF.out h.1)
          exact bodyPost_ret (v := .tuple #[.agg #[.int .i64 0, .int .i64 0, .string ⟨#[]⟩], .int .i64 20]) (by simp [results, Tryd.results11, go_sem, g0, g1, g2]) rfl ⟨ret_vx q2 q1, Below.set3 H2.out.below (by omega) _ _ _⟩
    · have HFA := Lib.hid hfa
      clear hfa
      by_cases hz : b.k = 0
      · have hz' : (b.k != 0) = false := by simpa using hz
        have HF := Lib.hid (show fitI b from Or.inl hz)
        clear hz
        go_wp2_with fail
        go_roundw
        case rel => exact ⟨Or.inr (Or.inr ⟨rfl, HFA.out, HF.out⟩), HR.out.alloc _, HA.out.later ((Below.refl _ wr).alloc (Nat.le_refl _) _)⟩
        case measure => simp [intOf]
      · have hz' : (b.k != 0) = true := by simpa using hz
        by_cases ht : b.k = 2
        · have ht' : (b.k != 2) = false := by simpa using ht
          have HF := Lib.hid (show fitI b from Or.inr ht)
          clear hz ht
          go_wp2_with fail
          go_roundw
          case rel => exact ⟨Or.inr (Or.inr ⟨rfl, HFA.out, HF.out⟩), HR.out.alloc _, HA.out.later ((Below.refl _ wr).alloc (Nat.le_refl _) _)⟩
          case measure => simp [intOf]
        · have ht' : (b.k != 2) = true := by simpa using ht
          have HF := Lib.hid (show ¬ fitI b from fun h => h.elim hz ht)
          clear hz ht
          have H2 := Lib.hid (HR.out.alloc (.cells #[.int .i64 b.k, .int .i64 b.i, .string b.s] 23))
          obtain ⟨g0, g1, g2⟩ := H2.out.box.cells
          obtain ⟨f0, f1, f2⟩ := H2.out.box.free
          simp only [zV] at g0 g1 g2
          go_wp2_with fail
          obtain ⟨q1, q2⟩ := HBAD.out (fun h => HF.out h.2)
          exact bodyPost_ret (v := .tuple #[.agg #[.int .i64 0, .int .i64 0, .string ⟨#[]⟩], .int .i64 20]) (by simp [results, Tryd.results11, go_sem, g0, g1, g2]) rfl ⟨ret_vx q2 q1, Below.set3 H2.out.below (by omega) _ _ _⟩
    · have HFF := Lib.hid (And.intro hfa hfb)
      have HA0 := Lib.hid hfa
      have HB0 := Lib.hid hfb
      clear hfa hfb k0 k1 k2 k3 k4 k5
      obtain ⟨d0, d1, d2⟩ := HR.out.tail.tail.box.cells
      obtain ⟨c0, c1, c2⟩ := HR.out.tail.box.cells
      obtain ⟨g0, g1, g2⟩ := HR.out.box.cells
      obtain ⟨f0, f1, f2⟩ := HR.out.box.free
      simp only [zV] at g0 g1 g2
      cases hza : (a.k == 0)
      · cases hzb : (b.k == 0)
        · have HN := Lib.hid (HNUM.out HFF.out (by simp [nulB, hza, hzb]))
          go_wp2_with fail
          refine (HG.out _).mono ?_
          rintro e w5 ⟨rfl, hd⟩
          have H5 := Lib.hid (HR.out.call hd.below)
          clear d0 d1 d2 c0 c1 c2 g0 g1 g2 f0 f1 f2 hd
          by_cases hy : y = 0
          · have HY := Lib.hid hy
            subst hy
            go_wp2_with fail
            refine (rint1_any _ _).mono ?_
            rintro e w6 ⟨rfl, b6⟩
            have H6 := Lib.hid (H5.out.call b6)
            obtain ⟨g0, g1, g2⟩ := H6.out.box.cells
            obtain ⟨f0, f1, f2⟩ := H6.out.box.free
            simp only [zV] at g0 g1 g2
            go_wp2_with fail
            exact bodyPost_ret (v := .tuple #[.agg #[.int .i64 2, .int .i64 x, .string ⟨#[]⟩], .int .i64 0]) (by simp [results, Tryd.results11, go_sem, g0, g1, g2]) rfl ⟨ret_vx (u := nV x) (by rw [← HN.out.2]; rfl) HN.out.1, Below.set3 H6.out.below (by omega) _ _ _⟩
          · have hy' : (y != 0) = true := by simpa using hy
            have HY := Lib.hid hy
            clear hy
            obtain ⟨g0, g1, g2⟩ := H5.out.box.cells
            obtain ⟨f0, f1, f2⟩ := H5.out.box.free
            simp only [zV] at g0 g1 g2
            go_wp2_with fail
            exact bodyPost_ret (v := .tuple #[.agg #[.int .i64 0, .int .i64 0, .string ⟨#[]⟩], .int .i64 y]) (by simp [results, Tryd.results11, go_sem, g0, g1, g2]) rfl ⟨ret_vx (u := zV) (by rw [← HN.out.2, if_neg HY.out]) HN.out.1, Below.set3 H5.out.below (by omega) _ _ _⟩
        · have HN := Lib.hid (HNUL.out HFF.out (by simp [nulB, hza, hzb]))
          go_wp2_with fail
          exact bodyPost_ret (v := .tuple #[.agg #[.int .i64 0, .int .i64 0, .string ⟨#[]⟩], .int .i64 0]) (by simp [results, Tryd.results11, go_sem, g0, g1, g2]) rfl ⟨ret_vx HN.out.2 HN.out.1, Below.set3 HR.out.below (by omega) _ _ _⟩
      · have HN := Lib.hid (HNUL.out HFF.out (by simp [nulB, hza]))
        go_wp2_with fail
        exact bodyPost_ret (v := .tuple #[.agg #[.int .i64 0, .int .i64 0, .string ⟨#[]⟩], .int .i64 0]) (by simp [results, Tryd.results11, go_sem, g0, g1, g2]) rfl ⟨ret_vx HN.out.2 HN.out.1, Below.set3 HR.out.below (by omega) _ _ _⟩
set_option maxRecDepth 100000 in
set_option maxHeartbeats 8000000 in
theorem rarith2 (a b : V) (w : World) (ha : In64 a.i) (hb : In64 b.i) (hok : allOk [a, b] = true) :
    Calls Tryd.prog 11 #[.string ⟨#[45]⟩, .agg #[.int .i64 a.k, .int .i64 a.i, .string a.s], .agg #[.int .i64 b.k, .int .i64 b.i, .string b.s]] w fun e w' => e = .returned (.tuple #[.agg #[.int .i64 (arV ⟨#[45]⟩ a b).k, .int .i64 (arV ⟨#[45]⟩ a b).i, .string (arV ⟨#[45]⟩ a b).s], .int .i64 (arE ⟨#[45]⟩ a b)]) ∧ Below w.heap.size w w' := by
  have hp : opk ⟨#[45]⟩ = 2 := by unfold opk; simp only [Lib.toList_data]; rfl
  have h0 : ¬ opk ⟨#[45]⟩ = 0 := by omega
  have HB := Lib.hid (three_boxes w a b)
  have HM := Lib.hid (fun W H hH => rmay2_any a b W H hH)
  rw [hok] at HM
  have HBAD : Hid (¬ (fitI a ∧ fitI b) → 20 = arE ⟨#[45]⟩ a b ∧ zV = arV ⟨#[45]⟩ a b) := fun h => by
    have h' : okK [4, 4, 0] [a, b] = false := by
      cases hq : okK [4, 4, 0] [a, b]
      · rfl
      · exact absurd (okI.1 hq) h
    exact ⟨(ar_kind h0 hok h').1.symm, (ar_kind h0 hok h').2.symm⟩
  have HNUL : Hid (fitI a ∧ fitI b → nulB [a, b] = true → 0 = arE ⟨#[45]⟩ a b ∧ zV = arV ⟨#[45]⟩ a b) := fun h hn => ⟨(ar_null h0 hok (okI.2 h) hn).1.symm, (ar_null h0 hok (okI.2 h) hn).2.symm⟩
  have HNUM : Hid (fitI a ∧ fitI b → nulB [a, b] = false → numE 2 a.i b.i = arE ⟨#[45]⟩ a b ∧ (if numE 2 a.i b.i = 0 then nV (numR 2 a.i b.i) else zV) = arV ⟨#[45]⟩ a b) := fun h hn => by
    obtain ⟨q1, q2⟩ := ar_num h0 hok (okI.2 h) hn
    rw [hp] at q1 q2
    exact ⟨q1.symm, q2.symm⟩
  have HG := Lib.hid (fun w => rar2 a.i b.i w ha hb)
  generalize arE ⟨#[45]⟩ a b = E at *
  generalize arV ⟨#[45]⟩ a b = R at *
  generalize numR 2 a.i b.i = x at *
  generalize numE 2 a.i b.i = y at *
  clear ha hb hok hp h0
  have HL := Lib.hid (fun (W : World) (H : Nat) (hH : W.heap.size = H) => args_row2 hH a b)
  go_enter Tryd.func11, Tryd.ntmps11
  go_wp2_with fail
  refine (HM.out _ _ (by simp)).mono ?_
  rintro e w1 ⟨rfl, b1, s1⟩
  have P1 := Lib.hid (HB.out.call (bele b1 (by simp)))
  clear b1
  obtain ⟨c0, c1, c2⟩ := P1.out.tail.box.cells
  obtain ⟨d0, d1, d2⟩ := P1.out.tail.tail.box.cells
  go_wp2_with fail
  clear c0 c1 c2 d0 d1 d2
  go_loopw [42] (fun i wr => (i = .int .i64 0 ∨ (i = .int .i64 1 ∧ fitI a) ∨ (i = .int .i64 2 ∧ fitI a ∧ fitI b)) ∧ Hid (HV w [(w.heap.size + 2, zV), (w.heap.size + 1, b), (w.heap.size, a)] wr) ∧ Hid (Args wr w1.heap.size [a, b])) (fun i _ => (2 - intOf i).toNat)
  case atStart => exact ⟨Or.inl rfl, P1.out.alloc _, HL.out w1 _ rfl⟩
  case round =>
    obtain ⟨hi, HR, HA⟩ := hrel
    have k0 : wr.cell? ⟨w1.heap.size, 0, none⟩ = some (.int .i64 a.k) := HA.out.cell 0
    have k1 : wr.cell? ⟨w1.heap.size, 1, none⟩ = some (.int .i64 a.i) := HA.out.cell 1
    have k2 : wr.cell? ⟨w1.heap.size, 2, none⟩ = some (.string a.s) := HA.out.cell 2
    have k3 : wr.cell? ⟨w1.heap.size, 3, none⟩ = some (.int .i64 b.k) := HA.out.cell 3
    have k4 : wr.cell? ⟨w1.heap.size, 4, none⟩ = some (.int .i64 b.i) := HA.out.cell 4
    have k5 : wr.cell? ⟨w1.heap.size, 5, none⟩ = some (.string b.s) := HA.out.cell 5
    rcases hi with rfl | ⟨rfl, hfa⟩ | ⟨rfl, hfa, hfb⟩
    · skip
      skip
      by_cases hz : a.k = 0
      · have hz' : (a.k != 0) = false := by simpa using hz
        have HF := Lib.hid (show fitI a from Or.inl hz)
        clear hz
        go_wp2_with fail
        go_roundw
        case rel => exact ⟨Or.inr (Or.inl ⟨rfl, HF.out⟩), HR.out.alloc _, HA.out.later ((Below.refl _ wr).alloc (Nat.le_refl _) _)⟩
        case measure => simp [intOf]
      · have hz' : (a.k != 0) = true := by simpa using hz
        by_cases ht : a.k = 2
        · have ht' : (a.k != 2) = false := by simpa using ht
          have HF := Lib.hid (show fitI a from Or.inr ht)
          clear hz ht
          go_wp2_with fail
          go_roundw
          case rel => exact ⟨Or.inr (Or.inl ⟨rfl, HF.out⟩), HR.out.alloc _, HA.out.later ((Below.refl _ wr).alloc (Nat.le_refl _) _)⟩
          case measure => simp [intOf]
        · have ht' : (a.k != 2) = true := by simpa using ht
          have HF := Lib.hid (show ¬ fitI a from fun h => h.elim hz ht)
          clear hz ht
          have H2 := Lib.hid (HR.out.alloc (.cells #[.int .i64 a.k, .int .i64 a.i, .string a.s] 23))
          obtain ⟨g0, g1, g2⟩ := H2.out.box.cells
          obtain ⟨f0, f1, f2⟩ := H2.out.box.free
          simp only [zV] at g0 g1 g2
          go_wp2_with fail
          obtain ⟨q1, q2⟩ := HBAD.out (fun h => HF.out h.1)
          exact bodyPost_ret (v := .tuple #[.agg #[.int .i64 0, .int .i64 0, .string ⟨#[]⟩], .int .i64 20]) (by simp [results, Tryd.results11, go_sem, g0, g1, g2]) rfl ⟨ret_vx q2 q1, Below.set3 H2.out.below (by omega) _ _ _⟩
    · have HFA := Lib.hid hfa
      clear hfa
      by_cases hz : b.k = 0
      · have hz' : (b.k != 0) = false := by simpa using hz
        have HF := Lib.hid (show fitI b from Or.inl hz)
        clear hz
        go_wp2_with fail
        go_roundw
        case rel => exact ⟨Or.inr (Or.inr ⟨rfl, HFA.out, HF.out⟩), HR.out.alloc _, HA.out.later ((Below.refl _ wr).alloc (Nat.le_refl _) _)⟩
        case measure => simp [intOf]
      · have hz' : (b.k != 0) = true := by simpa using hz
        by_cases ht : b.k = 2
        · have ht' : (b.k != 2) = false := by simpa using ht
          have HF := Lib.hid (show fitI b from Or.inr ht)
          clear hz ht
          go_wp2_with fail
          go_roundw
          case rel => exact ⟨Or.inr (Or.inr ⟨rfl, HFA.out, HF.out⟩), HR.out.alloc _, HA.out.later ((Below.refl _ wr).alloc (Nat.le_refl _) _)⟩
          case measure => simp [intOf]
        · have ht' : (b.k != 2) = true := by simpa using ht
          have HF := Lib.hid (show ¬ fitI b from fun h => h.elim hz ht)
          clear hz ht
          have H2 := Lib.hid (HR.out.alloc (.cells #[.int .i64 b.k, .int .i64 b.i, .string b.s] 23))
          obtain ⟨g0, g1, g2⟩ := H2.out.box.cells
          obtain ⟨f0, f1, f2⟩ := H2.out.box.free
          simp only [zV] at g0 g1 g2
          go_wp2_with fail
          obtain ⟨q1, q2⟩ := HBAD.out (fun h => HF.out h.2)
          exact bodyPost_ret (v := .tuple #[.agg #[.int .i64 0, .int .i64 0, .string ⟨#[]⟩], .int .i64 20]) (by simp [results, Tryd.results11, go_sem, g0, g1, g2]) rfl ⟨ret_vx q2 q1, Below.set3 H2.out.below (by omega) _ _ _⟩
    · have HFF := Lib.hid (And.intro hfa hfb)
      have HA0 := Lib.hid hfa
      have HB0 := Lib.hid hfb
      clear hfa hfb k0 k1 k2 k3 k4 k5
      obtain ⟨d0, d1, d2⟩ := HR.out.tail.tail.box.cells
      obtain ⟨c0, c1, c2⟩ := HR.out.tail.box.cells
      obtain ⟨g0, g1, g2⟩ := HR.out.box.cells
      obtain ⟨f0, f1, f2⟩ := HR.out.box.free
      simp only [zV] at g0 g1 g2
      cases hza : (a.k == 0)
      · cases hzb : (b.k == 0)
        · have HN := Lib.hid (HNUM.out HFF.out (by simp [nulB, hza, hzb]))
          go_wp2_with fail
          refine (HG.out _).mono ?_
          rintro e w5 ⟨rfl, hd⟩
          have H5 := Lib.hid (HR.out.call hd.below)
          clear d0 d1 d2 c0 c1 c2 g0 g1 g2 f0 f1 f2 hd
          by_cases hy : y = 0
          · have HY := Lib.hid hy
            subst hy
            go_wp2_with fail
            refine (rint1_any _ _).mono ?_
            rintro e w6 ⟨rfl, b6⟩
            have H6 := Lib.hid (H5.out.call b6)
            obtain ⟨g0, g1, g2⟩ := H6.out.box.cells
            obtain ⟨f0, f1, f2⟩ := H6.out.box.free
            simp only [zV] at g0 g1 g2
            go_wp2_with fail
            exact bodyPost_ret (v := .tuple #[.agg #[.int .i64 2, .int .i64 x, .string ⟨#[]⟩], .int .i64 0]) (by simp [results, Tryd.results11, go_sem, g0, g1, g2]) rfl ⟨ret_vx (u := nV x) (by rw [← HN.out.2]; rfl) HN.out.1, Below.set3 H6.out.below (by omega) _ _ _⟩
          · have hy' : (y != 0) = true := by simpa using hy
            have HY := Lib.hid hy
            clear hy
            obtain ⟨g0, g1, g2⟩ := H5.out.box.cells
            obtain ⟨f0, f1, f2⟩ := H5.out.box.free
            simp only [zV] at g0 g1 g2
            go_wp2_with fail
            exact bodyPost_ret (v := .tuple #[.agg #[.int .i64 0, .int .i64 0, .string ⟨#[]⟩], .int .i64 y]) (by simp [results, Tryd.results11, go_sem, g0, g1, g2]) rfl ⟨ret_vx (u := zV) (by rw [← HN.out.2, if_neg HY.out]) HN.out.1, Below.set3 H5.out.below (by omega) _ _ _⟩
        · have HN := Lib.hid (HNUL.out HFF.out (by simp [nulB, hza, hzb]))
          go_wp2_with fail
          exact bodyPost_ret (v := .tuple #[.agg #[.int .i64 0, .int .i64 0, .string ⟨#[]⟩], .int .i64 0]) (by simp [results, Tryd.results11, go_sem, g0, g1, g2]) rfl ⟨ret_vx HN.out.2 HN.out.1, Below.set3 HR.out.below (by omega) _ _ _⟩
      · have HN := Lib.hid (HNUL.out HFF.out (by simp [nulB, hza]))
        go_wp2_with fail
        exact bodyPost_ret (v := .tuple #[.agg #[.int .i64 0, .int .i64 0, .string ⟨#[]⟩], .int .i64 0]) (by simp [results, Tryd.results11, go_sem, g0, g1, g2]) rfl ⟨ret_vx HN.out.2 HN.out.1, Below.set3 HR.out.below (by omega) _ _ _⟩
set_option maxRecDepth 100000 in
set_option maxHeartbeats 8000000 in
theorem rarith3 (a b : V) (w : World) (ha : In64 a.i) (hb : In64 b.i) (hok : allOk [a, b] = true) :
    Calls Tryd.prog 11 #[.string ⟨#[42]⟩, .agg #[.int .i64 a.k, .int .i64 a.i, .string a.s], .agg #[.int .i64 b.k, .int .i64 b.i, .string b.s]] w fun e w' => e = .returned (.tuple #[.agg #[.int .i64 (arV ⟨#[42]⟩ a b).k, .int .i64 (arV ⟨#[42]⟩ a b).i, .string (arV ⟨#[42]⟩ a b).s], .int .i64 (arE ⟨#[42]⟩ a b)]) ∧ Below w.heap.size w w' := by
  have hp : opk ⟨#[42]⟩ = 3 := by unfold opk; simp only [Lib.toList_data]; rfl
  have h0 : ¬ opk ⟨#[42]⟩ = 0 := by omega
  have HB := Lib.hid (three_boxes w a b)
  have HM := Lib.hid (fun W H hH => rmay2_any a b W H hH)
  rw [hok] at HM
  have HBAD : Hid (¬ (fitI a ∧ fitI b) → 20 = arE ⟨#[42]⟩ a b ∧ zV = arV ⟨#[42]⟩ a b) := fun h => by
    have h' : okK [4, 4, 0] [a, b] = false := by
      cases hq : okK [4, 4, 0] [a, b]
      · rfl
      · exact absurd (okI.1 hq) h
    exact ⟨(ar_kind h0 hok h').1.symm, (ar_kind h0 hok h').2.symm⟩
  have HNUL : Hid (fitI a ∧ fitI b → nulB [a, b] = true → 0 = arE ⟨#[42]⟩ a b ∧ zV = arV ⟨#[42]⟩ a b) := fun h hn => ⟨(ar_null h0 hok (okI.2 h) hn).1.symm, (ar_null h0 hok (okI.2 h) hn).2.symm⟩
  have HNUM : Hid (fitI a ∧ fitI b → nulB [a, b] = false → numE 3 a.i b.i = arE ⟨#[42]⟩ a b ∧ (if numE 3 a.i b.i = 0 then nV (numR 3 a.i b.i) else zV) = arV ⟨#[42]⟩ a b) := fun h hn => by
    obtain ⟨q1, q2⟩ := ar_num h0 hok (okI.2 h) hn
    rw [hp] at q1 q2
    exact ⟨q1.symm, q2.symm⟩
  have HG := Lib.hid (fun w => rar3 a.i b.i w ha hb)
  generalize arE ⟨#[42]⟩ a b = E at *
  generalize arV ⟨#[42]⟩ a b = R at *
  generalize numR 3 a.i b.i = x at *
  generalize numE 3 a.i b.i = y at *
  clear ha hb hok hp h0
  have HL := Lib.hid (fun (W : World) (H : Nat) (hH : W.heap.size = H) => args_row2 hH a b)
  go_enter Tryd.func11, Tryd.ntmps11
  go_wp2_with fail
  refine (HM.out _ _ (by simp)).mono ?_
  rintro e w1 ⟨rfl, b1, s1⟩
  have P1 := Lib.hid (HB.out.call (bele b1 (by simp)))
  clear b1
  obtain ⟨c0, c1, c2⟩ := P1.out.tail.box.cells
  obtain ⟨d0, d1, d2⟩ := P1.out.tail.tail.box.cells
  go_wp2_with fail
  clear c0 c1 c2 d0 d1 d2
  go_loopw [42] (fun i wr => (i = .int .i64 0 ∨ (i = .int .i64 1 ∧ fitI a) ∨ (i = .int .i64 2 ∧ fitI a ∧ fitI b)) ∧ Hid (HV w [(w.heap.size + 2, zV), (w.heap.size + 1, b), (w.heap.size, a)] wr) ∧ Hid (Args wr w1.heap.size [a, b])) (fun i _ => (2 - intOf i).toNat)
  case atStart => exact ⟨Or.inl rfl, P1.out.alloc _, HL.out w1 _ rfl⟩
  case round =>
    obtain ⟨hi, HR, HA⟩ := hrel
    have k0 : wr.cell? ⟨w1.heap.size, 0, none⟩ = some (.int .i64 a.k) := HA.out.cell 0
    have k1 : wr.cell? ⟨w1.heap.size, 1, none⟩ = some (.int .i64 a.i) := HA.out.cell 1
    have k2 : wr.cell? ⟨w1.heap.size, 2, none⟩ = some (.string a.s) := HA.out.cell 2
    have k3 : wr.cell? ⟨w1.heap.size, 3, none⟩ = some (.int .i64 b.k) := HA.out.cell 3
    have k4 : wr.cell? ⟨w1.heap.size, 4, none⟩ = some (.int .i64 b.i) := HA.out.cell 4
    have k5 : wr.cell? ⟨w1.heap.size, 5, none⟩ = some (.string b.s) := HA.out.cell 5
    rcases hi with rfl | ⟨rfl, hfa⟩ | ⟨rfl, hfa, hfb⟩
    · skip
      skip
      by_cases hz : a.k = 0
      · have hz' : (a.k != 0) = false := by simpa using hz
        have HF := Lib.hid (show fitI a from Or.inl hz)
        clear hz
        go_wp2_with fail
        go_roundw
        case rel => exact ⟨Or.inr (Or.inl ⟨rfl, HF.out⟩), HR.out.alloc _, HA.out.later ((Below.refl _ wr).alloc (Nat.le_refl _) _)⟩
        case measure => simp [intOf]
      · have hz' : (a.k != 0) = true := by simpa using hz
        by_cases ht : a.k = 2
        · have ht' : (a.k != 2) = false := by simpa using ht
          have HF := Lib.hid (show fitI a from Or.inr ht)
          clear hz ht
          go_wp2_with fail
          go_roundw
          case rel => exact ⟨Or.inr (Or.inl ⟨rfl, HF.out⟩), HR.out.alloc _, HA.out.later ((Below.refl _ wr).alloc (Nat.le_refl _) _)⟩
          case measure => simp [intOf]
        · have ht' : (a.k != 2) = true := by simpa using ht
          have HF := Lib.hid (show ¬ fitI a from fun h => h.elim hz ht)
          clear hz ht
          have H2 := Lib.hid (HR.out.alloc (.cells #[.int .i64 a.k, .int .i64 a.i, .string a.s] 23))
          obtain ⟨g0, g1, g2⟩ := H2.out.box.cells
          obtain ⟨f0, f1, f2⟩ := H2.out.box.free
          simp only [zV] at g0 g1 g2
          go_wp2_with fail
          obtain ⟨q1, q2⟩ := HBAD.out (fun h => HF.out h.1)
          exact bodyPost_ret (v := .tuple #[.agg #[.int .i64 0, .int .i64 0, .string ⟨#[]⟩], .int .i64 20]) (by simp [results, Tryd.results11, go_sem, g0, g1, g2]) rfl ⟨ret_vx q2 q1, Below.set3 H2.out.below (by omega) _ _ _⟩
    · have HFA := Lib.hid hfa
      clear hfa
      by_cases hz : b.k = 0
      · have hz' : (b.k != 0) = false := by simpa using hz
        have HF := Lib.hid (show fitI b from Or.inl hz)
        clear hz
        go_wp2_with fail
        go_roundw
        case rel => exact ⟨Or.inr (Or.inr ⟨rfl, HFA.out, HF.out⟩), HR.out.alloc _, HA.out.later ((Below.refl _ wr).alloc (Nat.le_refl _) _)⟩
        case measure => simp [intOf]
      · have hz' : (b.k != 0) = true := by simpa using hz
        by_cases ht : b.k = 2
        · have ht' : (b.k != 2) = false := by simpa using ht
          have HF := Lib.hid (show fitI b from Or.inr ht)
          clear hz ht
          go_wp2_with fail
          go_roundw
          case rel => exact ⟨Or.inr (Or.inr ⟨rfl, HFA.out, HF.out⟩), HR.out.alloc _, HA.out.later ((Below.refl _ wr).alloc (Nat.le_refl _) _)⟩
          case measure => simp [intOf]
        · have ht' : (b.k != 2) = true := by simpa using ht
          have HF := Lib.hid (show ¬ fitI b from fun h => h.elim hz ht)
          clear hz ht
          have H2 := Lib.hid (HR.out.alloc (.cells #[.int .i64 b.k, .int .i64 b.i, .string b.s] 23))
          obtain ⟨g0, g1, g2⟩ := H2.out.box.cells
          obtain ⟨f0, f1, f2⟩ := H2.out.box.free
          simp only [zV] at g0 g1 g2
          go_wp2_with fail
          obtain ⟨q1, q2⟩ := HBAD.out (fun h => HF.out h.2)
          exact bodyPost_ret (v := .tuple #[.agg #[.int .i64 0, .int .i64 0, .string ⟨#[]⟩], .int .i64 20]) (by simp [results, Tryd.results11, go_sem, g0, g1, g2]) rfl ⟨ret_vx q2 q1, Below.set3 H2.out.below (by omega) _ _ _⟩
    · have HFF := Lib.hid (And.intro hfa hfb)
      have HA0 := Lib.hid hfa
      have HB0 := Lib.hid hfb
      clear hfa hfb k0 k1 k2 k3 k4 k5
      obtain ⟨d0, d1, d2⟩ := HR.out.tail.tail.box.cells
      obtain ⟨c0, c1, c2⟩ := HR.out.tail.box.cells
      obtain ⟨g0, g1, g2⟩ := HR.out.box.cells
      obtain ⟨f0, f1, f2⟩ := HR.out.box.free
      simp only [zV] at g0 g1 g2
      cases hza : (a.k == 0)
      · cases hzb : (b.k == 0)
        · have HN := Lib.hid (HNUM.out HFF.out (by simp [nulB, hza, hzb]))
          go_wp2_with fail
          refine (HG.out _).mono ?_
          rintro e w5 ⟨rfl, hd⟩
          have H5 := Lib.hid (HR.out.call hd.below)
          clear d0 d1 d2 c0 c1 c2 g0 g1 g2 f0 f1 f2 hd
          by_cases hy : y = 0
          · have HY := Lib.hid hy
            subst hy
            go_wp2_with fail
            refine (rint1_any _ _).mono ?_
            rintro e w6 ⟨rfl, b6⟩
            have H6 := Lib.hid (H5.out.call b6)
            obtain ⟨g0, g1, g2⟩ := H6.out.box.cells
            obtain ⟨f0, f1, f2⟩ := H6.out.box.free
            simp only [zV] at g0 g1 g2
            go_wp2_with fail
            exact bodyPost_ret (v := .tuple #[.agg #[.int .i64 2, .int .i64 x, .string ⟨#[]⟩], .int .i64 0]) (by simp [results, Tryd.results11, go_sem, g0, g1, g2]) rfl ⟨ret_vx (u := nV x) (by rw [← HN.out.2]; rfl) HN.out.1, Below.set3 H6.out.below (by omega) _ _ _⟩
          · have hy' : (y != 0) = true := by simpa using hy
            have HY := Lib.hid hy
            clear hy
            obtain ⟨g0, g1, g2⟩ := H5.out.box.cells
            obtain ⟨f0, f1, f2⟩ := H5.out.box.free
            simp only [zV] at g0 g1 g2
            go_wp2_with fail
            exact bodyPost_ret (v := .tuple #[.agg #[.int .i64 0, .int .i64 0, .string ⟨#[]⟩], .int .i64 y]) (by simp [results, Tryd.results11, go_sem, g0, g1, g2]) rfl ⟨ret_vx (u := zV) (by rw [← HN.out.2, if_neg HY.out]) HN.out.1, Below.set3 H5.out.below (by omega) _ _ _⟩
        · have HN := Lib.hid (HNUL.out HFF.out (by simp [nulB, hza, hzb]))
          go_wp2_with fail
          exact bodyPost_ret (v := .tuple #[.agg #[.int .i64 0, .int .i64 0, .string ⟨#[]⟩], .int .i64 0]) (by simp [results, Tryd.results11, go_sem, g0, g1, g2]) rfl ⟨ret_vx HN.out.2 HN.out.1, Below.set3 HR.out.below (by omega) _ _ _⟩
      · have HN := Lib.hid (HNUL.out HFF.out (by simp [nulB, hza]))
        go_wp2_with fail
        exact bodyPost_ret (v := .tuple #[.agg #[.int .i64 0, .int .i64 0, .string ⟨#[]⟩], .int .i64 0]) (by simp [results, Tryd.results11, go_sem, g0, g1, g2]) rfl ⟨ret_vx HN.out.2 HN.out.1, Below.set3 HR.out.below (by omega) _ _ _⟩
set_option maxRecDepth 100000 in
set_option maxHeartbeats 8000000 in
theorem rarith4 (a b : V) (w : World) (ha : In64 a.i) (hb : In64 b.i) (hok : allOk [a, b] = true) :
    Calls Tryd.prog 11 #[.string ⟨#[47]⟩, .agg #[.int .i64 a.k, .int .i64 a.i, .string a.s], .agg #[.int .i64 b.k, .int .i64 b.i, .string b.s]] w fun e w' => e = .returned (.tuple #[.agg #[.int .i64 (arV ⟨#[47]⟩ a b).k, .int .i64 (arV ⟨#[47]⟩ a b).i, .string (arV ⟨#[47]⟩ a b).s], .int .i64 (arE ⟨#[47]⟩ a b)]) ∧ Below w.heap.size w w' := by
  have hp : opk ⟨#[47]⟩ = 4 := by unfold opk; simp only [Lib.toList_data]; rfl
  have h0 : ¬ opk ⟨#[47]⟩ = 0 := by omega
  have HB := Lib.hid (three_boxes w a b)
  have HM := Lib.hid (fun W H hH => rmay2_any a b W H hH)
  rw [hok] at HM
  have HBAD : Hid (¬ (fitI a ∧ fitI b) → 20 = arE ⟨#[47]⟩ a b ∧ zV = arV ⟨#[47]⟩ a b) := fun h => by
    have h' : okK [4, 4, 0] [a, b] = false := by
      cases hq : okK [4, 4, 0] [a, b]
      · rfl
      · exact absurd (okI.1 hq) h
    exact ⟨(ar_kind h0 hok h').1.symm, (ar_kind h0 hok h').2.symm⟩
  have HNUL : Hid (fitI a ∧ fitI b → nulB [a, b] = true → 0 = arE ⟨#[47]⟩ a b ∧ zV = arV ⟨#[47]⟩ a b) := fun h hn => ⟨(ar_null h0 hok (okI.2 h) hn).1.symm, (ar_null h0 hok (okI.2 h) hn).2.symm⟩
  have HNUM : Hid (fitI a ∧ fitI b → nulB [a, b] = false → numE 4 a.i b.i = arE ⟨#[47]⟩ a b ∧ (if numE 4 a.i b.i = 0 then nV (numR 4 a.i b.i) else zV) = arV ⟨#[47]⟩ a b) := fun h hn => by
    obtain ⟨q1, q2⟩ := ar_num h0 hok (okI.2 h) hn
    rw [hp] at q1 q2
    exact ⟨q1.symm, q2.symm⟩
  have HG := Lib.hid (fun w => rar4 a.i b.i w ha hb)
  generalize arE ⟨#[47]⟩ a b = E at *
  generalize arV ⟨#[47]⟩ a b = R at *
  generalize numR 4 a.i b.i = x at *
  generalize numE 4 a.i b.i = y at *
  clear ha hb hok hp h0
  have HL := Lib.hid (fun (W : World) (H : Nat) (hH : W.heap.size = H) => args_row2 hH a b)
  go_enter Tryd.func11, Tryd.ntmps11
  go_wp2_with fail
  refine (HM.out _ _ (by simp)).mono ?_
  rintro e w1 ⟨rfl, b1, s1⟩
  have P1 := Lib.hid (HB.out.call (bele b1 (by simp)))
  clear b1
  obtain ⟨c0, c1, c2⟩ := P1.out.tail.box.cells
  obtain ⟨d0, d1, d2⟩ := P1.out.tail.tail.box.cells
  go_wp2_with fail
  clear c0 c1 c2 d0 d1 d2
  go_loopw [42] (fun i wr => (i = .int .i64 0 ∨ (i = .int .i64 1 ∧ fitI a) ∨ (i = .int .i64 2 ∧ fitI a ∧ fitI b)) ∧ Hid (HV w [(w.heap.size + 2, zV), (w.heap.size + 1, b), (w.heap.size, a)] wr) ∧ Hid (Args wr w1.heap.size [a, b])) (fun i _ => (2 - intOf i).toNat)
  case atStart => exact ⟨Or.inl rfl, P1.out.alloc _, HL.out w1 _ rfl⟩
  case round =>
    obtain ⟨hi, HR, HA⟩ := hrel
    have k0 : wr.cell? ⟨w1.heap.size, 0, none⟩ = some (.int .i64 a.k) := HA.out.cell 0
    have k1 : wr.cell? ⟨w1.heap.size, 1, none⟩ = some (.int .i64 a.i) := HA.out.cell 1
    have k2 : wr.cell? ⟨w1.heap.size, 2, none⟩ = some (.string a.s) := HA.out.cell 2
    have k3 : wr.cell? ⟨w1.heap.size, 3, none⟩ = some (.int .i64 b.k) := HA.out.cell 3
    have k4 : wr.cell? ⟨w1.heap.size, 4, none⟩ = some (.int .i64 b.i) := HA.out.cell 4
    have k5 : wr.cell? ⟨w1.heap.size, 5, none⟩ = some (.string b.s) := HA.out.cell 5
    rcases hi with rfl | ⟨rfl, hfa⟩ | ⟨rfl, hfa, hfb⟩
    · skip
      skip
      by_cases hz : a.k = 0
      · have hz' : (a.k != 0) = false := by simpa using hz
        have HF := Lib.hid (show fitI a from Or.inl hz)
        clear hz
        go_wp2_with fail
        go_roundw
        case rel => exact ⟨Or.inr (Or.inl ⟨rfl, HF.out⟩), HR.out.alloc _, HA.out.later ((Below.refl _ wr).alloc (Nat.le_refl _) _)⟩
        case measure => simp [intOf]
      · have hz' : (a.k != 0) = true := by simpa using hz
        by_cases ht : a.k = 2
        · have ht' : (a.k != 2) = false := by simpa using ht
          have HF := Lib.hid (show fitI a from Or.inr ht)
          clear hz ht
          go_wp2_with fail
          go_roundw
          case rel => exact ⟨Or.inr (Or.inl ⟨rfl, HF.out⟩), HR.out.alloc _, HA.out.later ((Below.refl _ wr).alloc (Nat.le_refl _) _)⟩
          case measure => simp [intOf]
        · have ht' : (a.k != 2) = true := by simpa using ht
          have HF := Lib.hid (show ¬ fitI a from fun h => h.elim hz ht)
          clear hz ht
          have H2 := Lib.hid (HR.out.alloc (.cells #[.int .i64 a.k, .int .i64 a.i, .string a.s] 23))
          obtain ⟨g0, g1, g2⟩ := H2.out.box.cells
          obtain ⟨f0, f1, f2⟩ := H2.out.box.free
          simp only [zV] at g0 g1 g2
          go_wp2_with fail
          obtain ⟨q1, q2⟩ := HBAD.out (fun h => HF.out h.1)
          exact bodyPost_ret (v := .tuple #[.agg #[.int .i64 0, .int .i64 0, .string ⟨#[]⟩], .int .i64 20]) (by simp [results, Tryd.results11, go_sem, g0, g1, g2]) rfl ⟨ret_vx q2 q1, Below.set3 H2.out.below (by omega) _ _ _⟩
    · have HFA := Lib.hid hfa
      clear hfa
      by_cases hz : b.k = 0
      · have hz' : (b.k != 0) = false := by simpa using hz
        have HF := Lib.hid (show fitI b from Or.inl hz)
        clear hz
        go_wp2_with fail
        go_roundw
        case rel => exact ⟨Or.inr (Or.inr ⟨rfl, HFA.out, HF.out⟩), HR.out.alloc _, HA.out.later ((Below.refl _ wr).alloc (Nat.le_refl _) _)⟩
        case measure => simp [intOf]
      · have hz' : (b.k != 0) = true := by simpa using hz
        by_cases ht : b.k = 2
        · have ht' : (b.k != 2) = false := by simpa using ht
          have HF := Lib.hid (show fitI b from Or.inr ht)
          clear hz ht
          go_wp2_with fail
          go_roundw
          case rel => exact ⟨Or.inr (Or.inr ⟨rfl, HFA.out, HF.out⟩), HR.out.alloc _, HA.out.later ((Below.refl _ wr).alloc (Nat.le_refl _) _)⟩
          case measure => simp [intOf]
        · have ht' : (b.k != 2) = true := by simpa using ht
          have HF := Lib.hid (show ¬ fitI b from fun h => h.elim hz ht)
          clear hz ht
          have H2 := Lib.hid (HR.out.alloc (.cells #[.int .i64 b.k, .int .i64 b.i, .string b.s] 23))
          obtain ⟨g0, g1, g2⟩ := H2.out.box.cells
          obtain ⟨f0, f1, f2⟩ := H2.out.box.free
          simp only [zV] at g0 g1 g2
          go_wp2_with fail
          obtain ⟨q1, q2⟩ := HBAD.out (fun h => HF.out h.2)
          exact bodyPost_ret (v := .tuple #[.agg #[.int .i64 0, .int .i64 0, .string ⟨#[]⟩], .int .i64 20]) (by simp [results, Tryd.results11, go_sem, g0, g1, g2]) rfl ⟨ret_vx q2 q1, Below.set3 H2.out.below (by omega) _ _ _⟩
    · have HFF := Lib.hid (And.intro hfa hfb)
      have HA0 := Lib.hid hfa
      have HB0 := Lib.hid hfb
      clear hfa hfb k0 k1 k2 k3 k4 k5
      obtain ⟨d0, d1, d2⟩ := HR.out.tail.tail.box.cells
      obtain ⟨c0, c1, c2⟩ := HR.out.tail.box.cells
      obtain ⟨g0, g1, g2⟩ := HR.out.box.cells
      obtain ⟨f0, f1, f2⟩ := HR.out.box.free
      simp only [zV] at g0 g1 g2
      cases hza : (a.k == 0)
      · cases hzb : (b.k == 0)
        · have HN := Lib.hid (HNUM.out HFF.out (by simp [nulB, hza, hzb]))
          go_wp2_with fail
          refine (HG.out _).mono ?_
          rintro e w5 ⟨rfl, hd⟩
          have H5 := Lib.hid (HR.out.call hd.below)
          clear d0 d1 d2 c0 c1 c2 g0 g1 g2 f0 f1 f2 hd
          by_cases hy : y = 0
          · have HY := Lib.hid hy
            subst hy
            go_wp2_with fail
            refine (rint1_any _ _).mono ?_
            rintro e w6 ⟨rfl, b6⟩
            have H6 := Lib.hid (H5.out.call b6)
            obtain ⟨g0, g1, g2⟩ := H6.out.box.cells
            obtain ⟨f0, f1, f2⟩ := H6.out.box.free
            simp only [zV] at g0 g1 g2
            go_wp2_with fail
            exact bodyPost_ret (v := .tuple #[.agg #[.int .i64 2, .int .i64 x, .string ⟨#[]⟩], .int .i64 0]) (by simp [results, Tryd.results11, go_sem, g0, g1, g2]) rfl ⟨ret_vx (u := nV x) (by rw [← HN.out.2]; rfl) HN.out.1, Below.set3 H6.out.below (by omega) _ _ _⟩
          · have hy' : (y != 0) = true := by simpa using hy
            have HY := Lib.hid hy
            clear hy
            obtain ⟨g0, g1, g2⟩ := H5.out.box.cells
            obtain ⟨f0, f1, f2⟩ := H5.out.box.free
            simp only [zV] at g0 g1 g2
            go_wp2_with fail
            exact bodyPost_ret (v := .tuple #[.agg #[.int .i64 0, .int .i64 0, .string ⟨#[]⟩], .int .i64 y]) (by simp [results, Tryd.results11, go_sem, g0, g1, g2]) rfl ⟨ret_vx (u := zV) (by rw [← HN.out.2, if_neg HY.out]) HN.out.1, Below.set3 H5.out.below (by omega) _ _ _⟩
        · have HN := Lib.hid (HNUL.out HFF.out (by simp [nulB, hza, hzb]))
          go_wp2_with fail
          exact bodyPost_ret (v := .tuple #[.agg #[.int .i64 0, .int .i64 0, .string ⟨#[]⟩], .int .i64 0]) (by simp [results, Tryd.results11, go_sem, g0, g1, g2]) rfl ⟨ret_vx HN.out.2 HN.out.1, Below.set3 HR.out.below (by omega) _ _ _⟩
      · have HN := Lib.hid (HNUL.out HFF.out (by simp [nulB, hza]))
        go_wp2_with fail
        exact bodyPost_ret (v := .tuple #[.agg #[.int .i64 0, .int .i64 0, .string ⟨#[]⟩], .int .i64 0]) (by simp [results, Tryd.results11, go_sem, g0, g1, g2]) rfl ⟨ret_vx HN.out.2 HN.out.1, Below.set3 HR.out.below (by omega) _ _ _⟩
set_option maxRecDepth 100000 in
set_option maxHeartbeats 8000000 in
theorem rarith5 (a b : V) (w : World) (ha : In64 a.i) (hb : In64 b.i) (hok : allOk [a, b] = true) :
    Calls Tryd.prog 11 #[.string ⟨#[37]⟩, .agg #[.int .i64 a.k, .int .i64 a.i, .string a.s], .agg #[.int .i64 b.k, .int .i64 b.i, .string b.s]] w fun e w' => e = .returned (.tuple #[.agg #[.int .i64 (arV ⟨#[37]⟩ a b).k, .int .i64 (arV ⟨#[37]⟩ a b).i, .string (arV ⟨#[37]⟩ a b).s], .int .i64 (arE ⟨#[37]⟩ a b)]) ∧ Below w.heap.size w w' := by
  have hp : opk ⟨#[37]⟩ = 5 := by unfold opk; simp only [Lib.toList_data]; rfl
  have h0 : ¬ opk ⟨#[37]⟩ = 0 := by omega
  have HB := Lib.hid (three_boxes w a b)
  have HM := Lib.hid (fun W H hH => rmay2_any a b W H hH)
  rw [hok] at HM
  have HBAD : Hid (¬ (fitI a ∧ fitI b) → 20 = arE ⟨#[37]⟩ a b ∧ zV = arV ⟨#[37]⟩ a b) := fun h => by
    have h' : okK [4, 4, 0] [a, b] = false := by
      cases hq : okK [4, 4, 0] [a, b]
      · rfl
      · exact absurd (okI.1 hq) h
    exact ⟨(ar_kind h0 hok h').1.symm, (ar_kind h0 hok h').2.symm⟩
  have HNUL : Hid (fitI a ∧ fitI b → nulB [a, b] = true → 0 = arE ⟨#[37]⟩ a b ∧ zV = arV ⟨#[37]⟩ a b) := fun h hn => ⟨(ar_null h0 hok (okI.2 h) hn).1.symm, (ar_null h0 hok (okI.2 h) hn).2.symm⟩
  have HNUM : Hid (fitI a ∧ fitI b → nulB [a, b] = false → numE 5 a.i b.i = arE ⟨#[37]⟩ a b ∧ (if numE 5 a.i b.i = 0 then nV (numR 5 a.i b.i) else zV) = arV ⟨#[37]⟩ a b) := fun h hn => by
    obtain ⟨q1, q2⟩ := ar_num h0 hok (okI.2 h) hn
    rw [hp] at q1 q2
    exact ⟨q1.symm, q2.symm⟩
  have HG := Lib.hid (fun w => rar5 a.i b.i w ha hb)
  generalize arE ⟨#[37]⟩ a b = E at *
  generalize arV ⟨#[37]⟩ a b = R at *
  generalize numR 5 a.i b.i = x at *
  generalize numE 5 a.i b.i = y at *
  clear ha hb hok hp h0
  have HL := Lib.hid (fun (W : World) (H : Nat) (hH : W.heap.size = H) => args_row2 hH a b)
  go_enter Tryd.func11, Tryd.ntmps11
  go_wp2_with fail
  refine (HM.out _ _ (by simp)).mono ?_
  rintro e w1 ⟨rfl, b1, s1⟩
  have P1 := Lib.hid (HB.out.call (bele b1 (by simp)))
  clear b1
  obtain ⟨c0, c1, c2⟩ := P1.out.tail.box.cells
  obtain ⟨d0, d1, d2⟩ := P1.out.tail.tail.box.cells
  go_wp2_with fail
  clear c0 c1 c2 d0 d1 d2
  go_loopw [42] (fun i wr => (i = .int .i64 0 ∨ (i = .int .i64 1 ∧ fitI a) ∨ (i = .int .i64 2 ∧ fitI a ∧ fitI b)) ∧ Hid (HV w [(w.heap.size + 2, zV), (w.heap.size + 1, b), (w.heap.size, a)] wr) ∧ Hid (Args wr w1.heap.size [a, b])) (fun i _ => (2 - intOf i).toNat)
  case atStart => exact ⟨Or.inl rfl, P1.out.alloc _, HL.out w1 _ rfl⟩
  case round =>
    obtain ⟨hi, HR, HA⟩ := hrel
    have k0 : wr.cell? ⟨w1.heap.size, 0, none⟩ = some (.int .i64 a.k) := HA.out.cell 0
    have k1 : wr.cell? ⟨w1.heap.size, 1, none⟩ = some (.int .i64 a.i) := HA.out.cell 1
    have k2 : wr.cell? ⟨w1.heap.size, 2, none⟩ = some (.string a.s) := HA.out.cell 2
    have k3 : wr.cell? ⟨w1.heap.size, 3, none⟩ = some (.int .i64 b.k) := HA.out.cell 3
    have k4 : wr.cell? ⟨w1.heap.size, 4, none⟩ = some (.int .i64 b.i) := HA.out.cell 4
    have k5 : wr.cell? ⟨w1.heap.size, 5, none⟩ = some (.string b.s) := HA.out.cell 5
    rcases hi with rfl | ⟨rfl, hfa⟩ | ⟨rfl, hfa, hfb⟩
    · skip
      skip
      by_cases hz : a.k = 0
      · have hz' : (a.k != 0) = false := by simpa using hz
        have HF := Lib.hid (show fitI a from Or.inl hz)
        clear hz
        go_wp2_with fail
        go_roundw
        case rel => exact ⟨Or.inr (Or.inl ⟨rfl, HF.out⟩), HR.out.alloc _, HA.out.later ((Below.refl _ wr).alloc (Nat.le_refl _) _)⟩
        case measure => simp [intOf]
      · have hz' : (a.k != 0) = true := by simpa using hz
        by_cases ht : a.k = 2
        · have ht' : (a.k != 2) = false := by simpa using ht
          have HF := Lib.hid (show fitI a from Or.inr ht)
          clear hz ht
          go_wp2_with fail
          go_roundw
          case rel => exact ⟨Or.inr (Or.inl ⟨rfl, HF.out⟩), HR.out.alloc _, HA.out.later ((Below.refl _ wr).alloc (Nat.le_refl _) _)⟩
          case measure => simp [intOf]
        · have ht' : (a.k != 2) = true := by simpa using ht
          have HF := Lib.hid (show ¬ fitI a from fun h => h.elim hz ht)
          clear hz ht
          have H2 := Lib.hid (HR.out.alloc (.cells #[.int .i64 a.k, .int .i64 a.i, .string a.s] 23))
          obtain ⟨g0, g1, g2⟩ := H2.out.box.cells
          obtain ⟨f0, f1, f2⟩ := H2.out.box.free
          simp only [zV] at g0 g1 g2
          go_wp2_with fail
          obtain ⟨q1, q2⟩ := HBAD.out (fun h => HF.out h.1)
          exact bodyPost_ret (v := .tuple #[.agg #[.int .i64 0, .int .i64 0, .string ⟨#[]⟩], .int .i64 20]) (by simp [results, Tryd.results11, go_sem, g0, g1, g2]) rfl ⟨ret_vx q2 q1, Below.set3 H2.out.below (by omega) _ _ _⟩
    · have HFA := Lib.hid hfa
      clear hfa
      by_cases hz : b.k = 0
      · have hz' : (b.k != 0) = false := by simpa using hz
        have HF := Lib.hid (show fitI b from Or.inl hz)
        clear hz
        go_wp2_with fail
        go_roundw
        case rel => exact ⟨Or.inr (Or.inr ⟨rfl, HFA.out, HF.out⟩), HR.out.alloc _, HA.out.later ((Below.refl _ wr).alloc (Nat.le_refl _) _)⟩
        case measure => simp [intOf]
      · have hz' : (b.k != 0) = true := by simpa using hz
        by_cases ht : b.k = 2
        · have ht' : (b.k != 2) = false := by simpa using ht
          have HF := Lib.hid (show fitI b from Or.inr ht)
          clear hz ht
          go_wp2_with fail
          go_roundw
          case rel => exact ⟨Or.inr (Or.inr ⟨rfl, HFA.out, HF.out⟩), HR.out.alloc _, HA.out.later ((Below.refl _ wr).alloc (Nat.le_refl _) _)⟩
          case measure => simp [intOf]
        · have ht' : (b.k != 2) = true := by simpa using ht
          have HF := Lib.hid (show ¬ fitI b from fun h => h.elim hz ht)
          clear hz ht
          have H2 := Lib.hid (HR.out.alloc (.cells #[.int .i64 b.k, .int .i64 b.i, .string b.s] 23))
          obtain ⟨g0, g1, g2⟩ := H2.out.box.cells
          obtain ⟨f0, f1, f2⟩ := H2.out.box.free
          simp only [zV] at g0 g1 g2
          go_wp2_with fail
          obtain ⟨q1, q2⟩ := HBAD.out (fun h => HF.out h.2)
          exact bodyPost_ret (v := .tuple #[.agg #[.int .i64 0, .int .i64 0, .string ⟨#[]⟩], .int .i64 20]) (by simp [results, Tryd.results11, go_sem, g0, g1, g2]) rfl ⟨ret_vx q2 q1, Below.set3 H2.out.below (by omega) _ _ _⟩
    · have HFF := Lib.hid (And.intro hfa hfb)
      have HA0 := Lib.hid hfa
      have HB0 := Lib.hid hfb
      clear hfa hfb k0 k1 k2 k3 k4 k5
      obtain ⟨d0, d1, d2⟩ := HR.out.tail.tail.box.cells
      obtain ⟨c0, c1, c2⟩ := HR.out.tail.box.cells
      obtain ⟨g0, g1, g2⟩ := HR.out.box.cells
      obtain ⟨f0, f1, f2⟩ := HR.out.box.free
      simp only [zV] at g0 g1 g2
      cases hza : (a.k == 0)
      · cases hzb : (b.k == 0)
        · have HN := Lib.hid (HNUM.out HFF.out (by simp [nulB, hza, hzb]))
          go_wp2_with fail
          refine (HG.out _).mono ?_
          rintro e w5 ⟨rfl, hd⟩
          have H5 := Lib.hid (HR.out.call hd.below)
          clear d0 d1 d2 c0 c1 c2 g0 g1 g2 f0 f1 f2 hd
          by_cases hy : y = 0
          · have HY := Lib.hid hy
            subst hy
            go_wp2_with fail
            refine (rint1_any _ _).mono ?_
            rintro e w6 ⟨rfl, b6⟩
            have H6 := Lib.hid (H5.out.call b6)
            obtain ⟨g0, g1, g2⟩ := H6.out.box.cells
            obtain ⟨f0, f1, f2⟩ := H6.out.box.free
            simp only [zV] at g0 g1 g2
            go_wp2_with fail
            exact bodyPost_ret (v := .tuple #[.agg #[.int .i64 2, .int .i64 x, .string ⟨#[]⟩], .int .i64 0]) (by simp [results, Tryd.results11, go_sem, g0, g1, g2]) rfl ⟨ret_vx (u := nV x) (by rw [← HN.out.2]; rfl) HN.out.1, Below.set3 H6.out.below (by omega) _ _ _⟩
          · have hy' : (y != 0) = true := by simpa using hy
            have HY := Lib.hid hy
            clear hy
            obtain ⟨g0, g1, g2⟩ := H5.out.box.cells
            obtain ⟨f0, f1, f2⟩ := H5.out.box.free
            simp only [zV] at g0 g1 g2
            go_wp2_with fail
            exact bodyPost_ret (v := .tuple #[.agg #[.int .i64 0, .int .i64 0, .string ⟨#[]⟩], .int .i64 y]) (by simp [results, Tryd.results11, go_sem, g0, g1, g2]) rfl ⟨ret_vx (u := zV) (by rw [← HN.out.2, if_neg HY.out]) HN.out.1, Below.set3 H5.out.below (by omega) _ _ _⟩
        · have HN := Lib.hid (HNUL.out HFF.out (by simp [nulB, hza, hzb]))
          go_wp2_with fail
          exact bodyPost_ret (v := .tuple #[.agg #[.int .i64 0, .int .i64 0, .string ⟨#[]⟩], .int .i64 0]) (by simp [results, Tryd.results11, go_sem, g0, g1, g2]) rfl ⟨ret_vx HN.out.2 HN.out.1, Below.set3 HR.out.below (by omega) _ _ _⟩
      · have HN := Lib.hid (HNUL.out HFF.out (by simp [nulB, hza]))
        go_wp2_with fail
        exact bodyPost_ret (v := .tuple #[.agg #[.int .i64 0, .int .i64 0, .string ⟨#[]⟩], .int .i64 0]) (by simp [results, Tryd.results11, go_sem, g0, g1, g2]) rfl ⟨ret_vx HN.out.2 HN.out.1, Below.set3 HR.out.below (by omega) _ _ _⟩
theorem rarith_any (op : ByteArray) (a b : V) (w : World) (ha : In64 a.i) (hb : In64 b.i) :
    Calls Tryd.prog 11 #[.string op, .agg #[.int .i64 a.k, .int .i64 a.i, .string a.s], .agg #[.int .i64 b.k, .int .i64 b.i, .string b.s]] w fun e w' => e = .returned (.tuple #[.agg #[.int .i64 (arV op a b).k, .int .i64 (arV op a b).i, .string (arV op a b).s], .int .i64 (arE op a b)]) ∧ Below w.heap.size w w' := by
  cases hok : allOk [a, b]
  · exact rarith_bad op a b w hok
  · rcases opk_cases op with ⟨rfl, -⟩ | ⟨rfl, -⟩ | ⟨rfl, -⟩ | ⟨rfl, -⟩ | ⟨rfl, -⟩ | ⟨h0, h1, h2, h3, h4, h5⟩
    · exact rarith1 a b w ha hb hok
    · exact rarith2 a b w ha hb hok
    · exact rarith3 a b w ha hb hok
    · exact rarith4 a b w ha hb hok
    · exact rarith5 a b w ha hb hok
    · exact rarith0 op a b w hok h1 h2 h3 h4 h5 h0
end Go.Proofs.YtdffnkopbackiaaDoor
