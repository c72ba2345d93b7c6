import Derived.Test.YtkigddankkoahaaGreatDoorQ41
import Derived.Test.YtkigddankkoahaaGreatDoorQ40
set_option linter.unusedSimpArgs false
set_option linter.unusedVariables false
namespace Go.Proofs.YtkigddankkoahaaGreatDoor
open Go.RowKit
theorem turn_at (k : Int) (n : Nat) (h0 : 0 < n) (h : n ≤ 30) : ∃ K : Nat, K < n ∧ (wrap64 (k.tmod (n : Int) + n)).tmod (n : Int) = K ∧ (k.tmod (n : Int) + n).tmod (n : Int) = K ∧ -(n : Int) < k.tmod n ∧ k.tmod n < n := by
  have a := Int.tmod_lt_of_pos k (b := (n : Int)) (by omega)
  have b : -(n : Int) < k.tmod n := by
    have := Int.tmod_lt_of_pos (-k) (b := (n : Int)) (by omega)
    rw [Int.neg_tmod] at this
    omega
  have hw : wrap64 (k.tmod n + n) = k.tmod n + n := by unfold wrap64; omega
  have c := Int.tmod_lt_of_pos (k.tmod n + n) (b := (n : Int)) (by omega)
  have d := Int.tmod_nonneg (n : Int) (show 0 ≤ k.tmod n + n by omega)
  refine ⟨((k.tmod n + n).tmod n).toNat, by omega, ?_, by omega, b, a⟩
  rw [hw]
  omega
set_option maxRecDepth 100000 in
set_option maxHeartbeats 32000000 in
theorem bags_law (rs : List BV.R) (e : E) (W1 k0 : Int) (A : Option Addr) (ca : Nat) (xv : Value) (S : Nat → Prop) (w : World) (hE : SC.Env w) (hE' : BV.Env w) (ha : BV.RowsAt w w.heap.size A rs) (hla : rs.length ≤ 140737488355328) (hsa : BV.Small rs) (hca : ∀ r ∈ rs, r.xs.length ≤ r.c)
    (hia : ∀ r ∈ rs, ∀ v ∈ r.xs, -9223372036854775808 ≤ v.i ∧ v.i ≤ 9223372036854775807) (hx : EAt S w e xv) (hin : e.ints = true) :
    Calls Tryz.prog 4 #[.agg #[.int .i64 W1, .slice A rs.length ca], xv, .int .i64 k0] w fun q w' => q = .returned (.bool true) ∧ Below w.heap.size w w' := by
  obtain ⟨A7, c7, rfl, hs7⟩ := hx
  have hEV1 := Lib.hid (fun W (hb : Below w.heap.size w W) => even_la W1 rs A ca W (rowsL ha hb) hla hsa hca)
  have HX := Lib.hid (fun W (hb : Below w.heap.size w W) => (show EAt S W e (.agg #[.string (str e.op), .int .i64 e.v.k, .int .i64 e.v.i, .string (str e.v.s), .string (str e.tb), .string (str e.nm), .slice A7 e.l.length c7]) from ⟨A7, c7, rfl, sub_later hs7 hb⟩))
  have HS7 := Lib.hid hs7
  have HLV := Lib.hid (fun W (hb : Below w.heap.size w W) => liveR_any W (hE.later hb) (hE'.below hb hE'.size))
  have HE := Lib.hid hE
  have HE' := Lib.hid (fun W (hb : Below w.heap.size w W) => hE'.below hb hE'.size)
  obtain ⟨wa, hwa⟩ : ∃ wa, wa = evW W1 := ⟨_, rfl⟩
  have hwa5 : wa ≤ 5 := by rw [hwa]; exact (evW_eq W1).2
  obtain ⟨la, hla'⟩ : ∃ la, la = (rs.map BV.R.xs).map (evR wa) := ⟨_, rfl⟩
  have HVA : Hid (evOk rs = true → la.length ≤ 30) := Lib.hid fun h => by rw [hla']; exact (ev_of h hia wa).many
  have HBG : Hid (evOk rs = true → okB (wa : Int) e = true → Bg e la) := Lib.hid fun h ho => by rw [hla']; exact bg_of h hia wa hwa5 ho hin
  have HBD := Lib.hid (fun (V : Int) (W : World) (g : Nat) (hs : Sub (fun _ => True) W (.mk [] v0 [] [] [e]) (some ⟨g, 0, none⟩) 1) => bound_any V [e] v0 (some ⟨g, 0, none⟩) 1 (fun _ => True) W hs)
  unfold EvenT at hEV1
  rw [← hwa, ← hla'] at hEV1
  simp only [List.all_cons, List.all_nil, Bool.and_true, List.length_cons, List.length_nil] at HBD
  generalize rs.length = n at *
  obtain ⟨W0, hW0⟩ : ∃ W0 : World, W0 = (w.alloc (.cells #[.int .i64 W1, .slice A n ca] 24)).alloc (.cells #[.string (str e.op), .int .i64 e.v.k, .int .i64 e.v.i, .string (str e.v.s), .string (str e.tb), .string (str e.nm), .slice A7 e.l.length c7] 29) := ⟨_, rfl⟩
  have b0 : Below w.heap.size w W0 := by rw [hW0]; exact (one_alloc w _).alloc (by simp) _
  have HC : Hid (∀ W', Below W0.heap.size W0 W' → (W'.cell? ⟨w.heap.size, 0, none⟩ = some (.int .i64 W1) ∧ W'.cell? ⟨w.heap.size, 1, none⟩ = some (.slice A n ca) ∧ W'.cell? ⟨w.heap.size + 1, 0, none⟩ = some (.string (str e.op)) ∧ W'.cell? ⟨w.heap.size + 1, 1, none⟩ = some (.int .i64 e.v.k) ∧ W'.cell? ⟨w.heap.size + 1, 2, none⟩ = some (.int .i64 e.v.i) ∧ W'.cell? ⟨w.heap.size + 1, 3, none⟩ = some (.string (str e.v.s)) ∧ W'.cell? ⟨w.heap.size + 1, 4, none⟩ = some (.string (str e.tb)) ∧ W'.cell? ⟨w.heap.size + 1, 5, none⟩ = some (.string (str e.nm)) ∧ W'.cell? ⟨w.heap.size + 1, 6, none⟩ = some (.slice A7 e.l.length c7))) := Lib.hid fun W' hb => by
    have h1 := heap_alloc_new w (.cells #[.int .i64 W1, .slice A n ca] 24)
    have h3 := heap_alloc_new (w.alloc (.cells #[.int .i64 W1, .slice A n ca] 24)) (.cells #[.string (str e.op), .int .i64 e.v.k, .int .i64 e.v.i, .string (str e.v.s), .string (str e.tb), .string (str e.nm), .slice A7 e.l.length c7] 29)
    have z : W0.heap.size = w.heap.size + 2 := by rw [hW0]; simp
    have g1 : W0.heap[w.heap.size]? = some (.cells #[.int .i64 W1, .slice A n ca] 24 (0, 0)) := by rw [hW0, heap_alloc_old _ _ (by simp)]; exact h1
    have g3 : W0.heap[w.heap.size + 1]? = some (.cells #[.string (str e.op), .int .i64 e.v.k, .int .i64 e.v.i, .string (str e.v.s), .string (str e.tb), .string (str e.nm), .slice A7 e.l.length c7] 29 (0, 0)) := by rw [hW0]; simpa using h3
    have k1 := (hb.block w.heap.size (by omega)).trans g1
    have k3 := (hb.block (w.heap.size + 1) (by omega)).trans g3
    refine ⟨?_, ?_, ?_, ?_, ?_, ?_, ?_, ?_, ?_⟩
    · rw [Lib.cell_of_heap k1]; rfl
    · rw [Lib.cell_of_heap k1]; rfl
    all_goals (rw [Lib.cell_of_heap k3]; rfl)
  have HB0 := Lib.hid b0
  have HW0 := Lib.hid hW0
  have hsub1 : Hid (∀ W, Below w.heap.size w W → Sub (fun _ => True) (W.alloc (.cells #[.string (str e.op), .int .i64 e.v.k, .int .i64 e.v.i, .string (str e.v.s), .string (str e.tb), .string (str e.nm), .slice A7 e.l.length c7] 29)) (.mk [] v0 [] [] [e]) (some ⟨W.heap.size, 0, none⟩) 1) := Lib.hid fun W hb => oneS e A7 c7 (sub_later HS7.out hb) [] v0 [] []
  have HAGS : Hid (∀ W, Below w.heap.size w W → AgsAt (fun _ => True) (W.alloc (.cells #[.string ⟨#[99, 111, 117, 110, 116]⟩, .bool true, .string ⟨#[]⟩, .int .i64 0, .int .i64 0, .string ⟨#[]⟩, .string ⟨#[]⟩, .string ⟨#[]⟩, .slice none 0 0, .string ⟨#[109, 97, 120]⟩, .bool false, .string (str e.op), .int .i64 e.v.k, .int .i64 e.v.i, .string (str e.v.s), .string (str e.tb), .string (str e.nm), .slice A7 e.l.length c7, .string ⟨#[109, 105, 110]⟩, .bool false, .string (str e.op), .int .i64 e.v.k, .int .i64 e.v.i, .string (str e.v.s), .string (str e.tb), .string (str e.nm), .slice A7 e.l.length c7, .string ⟨#[99, 111, 117, 110, 116]⟩, .bool false, .string (str e.op), .int .i64 e.v.k, .int .i64 e.v.i, .string (str e.v.s), .string (str e.tb), .string (str e.nm), .slice A7 e.l.length c7] 46)) (some ⟨W.heap.size, 0, none⟩) (bagA e)) := Lib.hid fun W hb => ags4 e A7 c7 (sub_later HS7.out hb)
  unfold eVal
  clear ha hla hsa hca hia hs7 hE hE' hwa hla' hin b0 hW0 HS7
  generalize str e.op = s0 at *
  generalize e.v.k = i1 at *
  generalize e.v.i = i2 at *
  generalize str e.v.s = s3 at *
  generalize str e.tb = s4 at *
  generalize str e.nm = s5 at *
  generalize e.l.length = l7 at *
  cases h1 : evOk rs
  · rw [h1] at hEV1
    clear h1
    go_enter Tryz.func4, Tryz.ntmps4
    go_wp2_with fail
    rw [← HW0.out]
    refine (HLV.out W0 HB0.out).mono ?_
    rintro q w1 ⟨rfl, b1⟩
    have BW := Lib.hid b1
    have BB := Lib.hid (bthen HB0.out b1)
    obtain ⟨c0, c1, -, -, -, -, -, -, -⟩ := HC.out w1 BW.out
    clear b1 HW0 HLV
    go_wp2_with fail
    refine (hEV1.out w1 BB.out).mono ?_
    rintro q w2 ⟨va, rfl, HLa, b2⟩
    have BW := Lib.hid (bthen BW.out b2.out)
    have BB := Lib.hid (bthen BB.out b2.out)
    obtain ⟨-, -, e0, e1, e2, e3, e4, e5, e6⟩ := HC.out w2 BW.out
    clear b2 c0 c1 hEV1
    go_wp2_with fail
    go_ret
    exact ⟨rfl, BB.out⟩
  rw [h1] at hEV1
  cases h3 : okB (wa : Int) e
  · have HBD := Lib.hid (fun W g hs => by have := HBD.out (wa : Int) W g hs; rw [h3] at this; exact this)
    go_enter Tryz.func4, Tryz.ntmps4
    go_wp2_with fail
    rw [← HW0.out]
    refine (HLV.out W0 HB0.out).mono ?_
    rintro q w1 ⟨rfl, b1⟩
    have BW := Lib.hid b1
    have BB := Lib.hid (bthen HB0.out b1)
    obtain ⟨c0, c1, -, -, -, -, -, -, -⟩ := HC.out w1 BW.out
    clear b1 HW0 HLV
    go_wp2_with fail
    refine (hEV1.out w1 BB.out).mono ?_
    rintro q w2 ⟨va, rfl, HLa, b2⟩
    have BW := Lib.hid (bthen BW.out b2.out)
    have BB := Lib.hid (bthen BB.out b2.out)
    obtain ⟨-, -, e0, e1, e2, e3, e4, e5, e6⟩ := HC.out w2 BW.out
    clear b2 c0 c1 hEV1
    obtain ⟨Aa, xa, rfl, hA⟩ := HLa.out trivial
    have HA := Lib.hid hA
    obtain ⟨na, hna⟩ : ∃ na, na = la.length := ⟨_, rfl⟩
    have hna30 : na ≤ 30 := by rw [hna]; exact HVA.out h1
    rw [← hna] at HA ⊢
    have HNA := Lib.hid hna
    clear hA hna HLa HVA
    go_wp2_with fail
    refine (HBD.out (w2.alloc (.cells #[.string s0, .int .i64 i1, .int .i64 i2, .string s3, .string s4, .string s5, .slice A7 l7 c7] 29)) w2.heap.size (hsub1.out w2 BB.out)).mono ?_
    rintro q w4 ⟨rfl, b4⟩
    have b4 := bthen (one_alloc w2 _) b4
    have BW := Lib.hid (bthen BW.out b4)
    have BB := Lib.hid (bthen BB.out b4)
    have HA := Lib.hid (HA.out.later b4)
    clear e0 e1 e2 e3 e4 e5 e6 b4 HBD
    go_wp2_with fail
    go_ret
    exact ⟨rfl, BB.out⟩
  have HBD := Lib.hid (fun W g hs => by have := HBD.out (wa : Int) W g hs; rw [h3] at this; exact this)
  have BGA := Lib.hid (HBG.out h1 h3)
  go_enter Tryz.func4, Tryz.ntmps4
  go_wp2_with fail
  rw [← HW0.out]
  refine (HLV.out W0 HB0.out).mono ?_
  rintro q w1 ⟨rfl, b1⟩
  have BW := Lib.hid b1
  have BB := Lib.hid (bthen HB0.out b1)
  obtain ⟨c0, c1, -, -, -, -, -, -, -⟩ := HC.out w1 BW.out
  clear b1 HW0 HLV
  go_wp2_with fail
  refine (hEV1.out w1 BB.out).mono ?_
  rintro q w2 ⟨va, rfl, HLa, b2⟩
  have BW := Lib.hid (bthen BW.out b2.out)
  have BB := Lib.hid (bthen BB.out b2.out)
  obtain ⟨-, -, e0, e1, e2, e3, e4, e5, e6⟩ := HC.out w2 BW.out
  clear b2 c0 c1 hEV1
  obtain ⟨Aa, xa, rfl, hA⟩ := HLa.out trivial
  have HA := Lib.hid hA
  obtain ⟨na, hna⟩ : ∃ na, na = la.length := ⟨_, rfl⟩
  have hna30 : na ≤ 30 := by rw [hna]; exact HVA.out h1
  rw [← hna] at HA ⊢
  have HNA := Lib.hid hna
  clear hA hna HLa HVA
  go_wp2_with fail
  refine (HBD.out (w2.alloc (.cells #[.string s0, .int .i64 i1, .int .i64 i2, .string s3, .string s4, .string s5, .slice A7 l7 c7] 29)) w2.heap.size (hsub1.out w2 BB.out)).mono ?_
  rintro q w4 ⟨rfl, b4⟩
  have b4 := bthen (one_alloc w2 _) b4
  have BW := Lib.hid (bthen BW.out b4)
  have BB := Lib.hid (bthen BB.out b4)
  have HA := Lib.hid (HA.out.later b4)
  clear e0 e1 e2 e3 e4 e5 e6 b4 HBD
  by_cases hn0 : na = 0
  · subst hn0
    go_wp2_with fail
    go_ret
    exact ⟨rfl, BB.out⟩
  obtain ⟨K, hK, hKe, hKe2, hKa, hKb⟩ := turn_at k0 na (by omega) hna30
  obtain ⟨ga, oa, hAa⟩ : ∃ b off, Aa = some ⟨b, off, none⟩ := by
    obtain ⟨r, q1, -, -, q4, -⟩ := HA.out
    obtain ⟨b, off, h, -⟩ := q4.1 (by omega)
    exact ⟨b, off, h⟩
  subst hAa
  have hxa : na ≤ xa := by obtain ⟨r, -, -, q3, -, -⟩ := HA.out; exact q3
  have bd : Below w4.heap.size w4 w4.drew := (Below.refl _ _).drew
  have hAd := HA.out.later bd
  have hD : LA w4.drew (some ⟨ga, oa + K, none⟩) (na - K) (xa - K) (la.drop K) := by
    have := hAd.drop K (by omega)
    rw [WideShapes.add_plain] at this
    exact this
  obtain ⟨Ap, cp, wp, Aq, cq, wq, hrun1, hrun2, hq, bq⟩ := two_app hD (hAd.take K (by omega)) (show (na - K) + K ≤ 1000000 by omega)
  rw [show na - K + K = na by omega] at hrun2 hq
  have bqq := bthen bd bq
  have BW := Lib.hid (bthen BW.out bqq)
  have BB := Lib.hid (bthen BB.out bqq)
  have HA := Lib.hid (HA.out.later bqq)
  have HM := Lib.hid hq
  have HP := Lib.hid (rot_perm la K)
  obtain ⟨lm, hlm⟩ : ∃ lm, la.drop K ++ la.take K = lm := ⟨_, rfl⟩
  rw [hlm] at HM HP
  have BGM := Lib.hid (BGA.out.perm HP.out)
  obtain ⟨bz, hz1⟩ : ∃ b, (errsP (truP e) la == 0) = b := ⟨_, rfl⟩
  have hz2 : (errsP (truP e) lm == 0) = bz := by
    rw [← hz1, Bool.eq_iff_iff, beq_iff_eq, beq_iff_eq]
    exact (errs_perm HP.out).symm
  obtain ⟨bx, hx1⟩ : ∃ b, (eT e la == 0) = b := ⟨_, rfl⟩
  have hx2 : (eT e lm == 0) = bx := by
    rw [← hx1, Bool.eq_iff_iff, beq_iff_eq, beq_iff_eq]
    exact (eT_perm HP.out).symm
  have HF1 := Lib.hid (filt_la HA.out (HX.out wq BB.out) (HE.out.later BB.out) (by omega) (fun r hr => by have := BGA.out.wide r hr; omega) BGA.out.fit)
  have HF2 := Lib.hid (fun W (hb : Below wq.heap.size wq W) => filt_la (HM.out.later hb) (HX.out W (bthen BB.out hb)) (HE.out.later (bthen BB.out hb)) (by omega) (fun r hr => by have := BGM.out.wide r hr; omega) BGM.out.fit)
  have HFP := Lib.hid (fres_perm (t := truP e) HP.out)
  have HFL1 : Hid ((FRes (truP e) la).length ≤ 30 ∧ ∀ r ∈ FRes (truP e) la, r.length ≤ 60) := Lib.hid ⟨Nat.le_trans (fres_len _ _) BGA.out.many, fun r hr => BGA.out.wide r (fres_mem hr)⟩
  have HFL2 : Hid ((FRes (truP e) lm).length ≤ 30 ∧ ∀ r ∈ FRes (truP e) lm, r.length ≤ 60) := Lib.hid ⟨Nat.le_trans (fres_len _ _) BGM.out.many, fun r hr => BGM.out.wide r (fres_mem hr)⟩
  generalize errsP (truP e) la = f0 at *
  generalize errsP (truP e) lm = g0 at *
  generalize FRes (truP e) la = F1 at *
  generalize FRes (truP e) lm = F2 at *
  unfold Told at HF1 HF2
  obtain ⟨n1, hn1⟩ : ∃ n1, n1 = F1.length := ⟨_, rfl⟩
  obtain ⟨n2, hn2⟩ : ∃ n2, n2 = F2.length := ⟨_, rfl⟩
  rw [← hn1] at HF1 HFL1
  rw [← hn2] at HF2 HFL2
  have hKc : ¬ (xa = K) := by omega
  have hKc2 : K < xa := by omega
  have hKc3 : ¬ (K = xa) := by omega
  have hKi : K ≤ na := by omega
  have hKcc : K ≤ xa := by omega
  have hnz : ¬ ((na : Int) = 0) := by omega
  have hnz2 : ((na : Int) == 0) = false := by simp; omega
  clear hn0 h3 hAd hD hq bq bqq hn1 hn2 hlm bd b4
  -- @a
  go_wp2_with fail
  go_region_law (first
    | (refine step_append_runV _ ?_ (.const (.slice none 0 0)) (.tmp 55) 22 22 ?_ _ _ ?_ ?_ hrun1 ?_; rfl; rfl; rfl; rfl)
    | (refine step_append_runV _ ?_ (.tmp 56) (.tmp 59) 22 22 ?_ _ _ ?_ ?_ hrun2 ?_; rfl; rfl; rfl; rfl))
  clear hrun1 hrun2
  obtain ⟨-, -, e0, e1, e2, e3, e4, e5, e6⟩ := HC.out wq BW.out
  go_wp2_with fail
  refine (HF1.out).mono ?_
  rintro q w5 ⟨A5, c5, rfl, HL5, B5⟩
  have HFF := Lib.hid (HF2.out w5 B5.out)
  have BW := Lib.hid (bthen BW.out B5.out)
  have BB := Lib.hid (bthen BB.out B5.out)
  have HA := Lib.hid (HA.out.later B5.out)
  have HM := Lib.hid (HM.out.later B5.out)
  clear e0 e1 e2 e3 e4 e5 e6 B5 HF1 HF2
  obtain ⟨-, -, e0, e1, e2, e3, e4, e5, e6⟩ := HC.out w5 BW.out
  -- @b
  go_wp2_with fail
  refine (HFF.out).mono ?_
  rintro q w6 ⟨A6, c6, rfl, HL6, B6⟩
  have BW := Lib.hid (bthen BW.out B6.out)
  have BB := Lib.hid (bthen BB.out B6.out)
  have HA := Lib.hid (HA.out.later B6.out)
  have HM := Lib.hid (HM.out.later B6.out)
  have HSB := Lib.hid (bag_la (HL5.out.later B6.out) HL6.out HFP.out (by have := HFL1.out.1; omega) (by have := HFL2.out.1; omega) (fun r hr => by have := HFL1.out.2 r hr; omega) (fun r hr => by have := HFL2.out.2 r hr; omega))
  clear e0 e1 e2 e3 e4 e5 e6 B6 HFF HL5 HL6 HFP HFL1 HFL2
  -- @c
  go_wp2_with fail
  refine (HSB.out).mono ?_
  rintro q w7 ⟨rfl, b7⟩
  have BW := Lib.hid (bthen BW.out b7)
  have BB := Lib.hid (bthen BB.out b7)
  have HA := Lib.hid (HA.out.later b7)
  have HM := Lib.hid (HM.out.later b7)
  obtain ⟨-, -, e0, e1, e2, e3, e4, e5, e6⟩ := HC.out w7 BW.out
  obtain ⟨W8, hW8⟩ : ∃ W8 : World, W8 = w7.alloc (.cells #[.string ⟨#[99, 111, 117, 110, 116]⟩, .bool true, .string ⟨#[]⟩, .int .i64 0, .int .i64 0, .string ⟨#[]⟩, .string ⟨#[]⟩, .string ⟨#[]⟩, .slice none 0 0, .string ⟨#[109, 97, 120]⟩, .bool false, .string s0, .int .i64 i1, .int .i64 i2, .string s3, .string s4, .string s5, .slice A7 l7 c7, .string ⟨#[109, 105, 110]⟩, .bool false, .string s0, .int .i64 i1, .int .i64 i2, .string s3, .string s4, .string s5, .slice A7 l7 c7, .string ⟨#[99, 111, 117, 110, 116]⟩, .bool false, .string s0, .int .i64 i1, .int .i64 i2, .string s3, .string s4, .string s5, .slice A7 l7 c7] 46) := ⟨_, rfl⟩
  have b8 : Below w7.heap.size w7 W8 := by rw [hW8]; exact one_alloc _ _
  have HG8 : Hid (AgsAt (fun _ => True) W8 (some ⟨w7.heap.size, 0, none⟩) (bagA e)) := Lib.hid (by rw [hW8]; exact HAGS.out w7 BB.out)
  have HW8 := Lib.hid hW8
  have BW := Lib.hid (bthen BW.out b8)
  have BB := Lib.hid (bthen BB.out b8)
  have HA := Lib.hid (HA.out.later b8)
  have HM := Lib.hid (HM.out.later b8)
  obtain ⟨-, -, f0', f1, f2, f3, f4, f5, f6⟩ := HC.out W8 BW.out
  clear b7 b8 hW8 HSB HAGS
  -- @d
  go_wp2_with (rw [← HW8.out])
  have bE8 := one_alloc W8 (.cells #[.string s0, .int .i64 i1, .int .i64 i2, .string s3, .string s4, .string s5, .slice A7 l7 c7] 29)
  obtain ⟨W9, hW9⟩ : ∃ W9 : World, W9 = W8.alloc (.cells #[.string s0, .int .i64 i1, .int .i64 i2, .string s3, .string s4, .string s5, .slice A7 l7 c7] 29) := ⟨_, rfl⟩
  rw [← hW9] at bE8 ⊢
  have HS9 : Hid (Sub (fun _ => True) W9 (.mk [] v0 [] [] [e]) (some ⟨W8.heap.size, 0, none⟩) 1) := Lib.hid (by rw [hW9]; exact hsub1.out W8 BB.out)
  have BW := Lib.hid (bthen BW.out bE8)
  have BB := Lib.hid (bthen BB.out bE8)
  have HA := Lib.hid (HA.out.later bE8)
  have HM := Lib.hid (HM.out.later bE8)
  have HG9 := Lib.hid (ags_later HG8.out bE8)
  have HX1 := Lib.hid (group_la (gc := 4) HA.out HS9.out HG9.out (HE.out.later BB.out) (HE'.out W9 BB.out) BGA.out)
  have HGP := Lib.hid (gT_perm BGA.out HP.out)
  have HGL1 : Hid ((gT e la).length ≤ 30 ∧ ∀ r ∈ gT e la, r.length ≤ 60) := Lib.hid ⟨gT_many BGA.out, gT_wide BGA.out⟩
  have HGL2 : Hid ((gT e lm).length ≤ 30 ∧ ∀ r ∈ gT e lm, r.length ≤ 60) := Lib.hid ⟨gT_many BGM.out, gT_wide BGM.out⟩
  have HLEN := Lib.hid (gT_len BGA.out)
  have HPR := Lib.hid (pT_row BGA.out)
  have HX2 := Lib.hid (fun W (hb : Below W9.heap.size W9 W) (K' : Option Addr) (kc : Nat) (hs : Sub (fun _ => True) W (.mk [] v0 [] [] [e]) K' kc) => group_la (gc := 4) (HM.out.later hb) hs (ags_later HG9.out hb) (HE.out.later (bthen BB.out hb)) (HE'.out W (bthen BB.out hb)) BGM.out)
  have HX3 := Lib.hid (fun W (hb : Below W9.heap.size W9 W) (K' : Option Addr) (kc : Nat) (hs : Sub (fun _ => True) W (.mk [] v0 [] [] [e]) K' kc) => project_la (HA.out.later hb) hs (HE.out.later (bthen BB.out hb)) BGA.out)
  have HPL : Hid ((pT e la).length ≤ 30) := Lib.hid (Nat.le_trans pT_len BGA.out.many)
  generalize eT e la = u0 at *
  generalize eT e lm = u1 at *
  generalize gT e la = G1 at *
  generalize gT e lm = G2 at *
  generalize pT e la = P1 at *
  unfold Told at HX1 HX2 HX3
  obtain ⟨m1, hm1⟩ : ∃ m1, m1 = G1.length := ⟨_, rfl⟩
  obtain ⟨m2, hm2⟩ : ∃ m2, m2 = G2.length := ⟨_, rfl⟩
  obtain ⟨m3, hm3⟩ : ∃ m3, m3 = P1.length := ⟨_, rfl⟩
  rw [← hm1] at HX1 HGL1 HLEN
  rw [← hm2] at HX2 HGL2
  rw [← hm3] at HX3 HPL
  clear f0' f1 f2 f3 f4 f5 f6 e0 e1 e2 e3 e4 e5 e6 hW9 HS9 HG8 HG9 HW8 hm1 hm2 hm3 bE8
  refine (HX1.out).mono ?_
  rintro q w10 ⟨A10, c10, rfl, HL10, B10⟩
  have HX2 := Lib.hid (HX2.out _ (bthen B10.out (one_alloc w10 (.cells #[.string s0, .int .i64 i1, .int .i64 i2, .string s3, .string s4, .string s5, .slice A7 l7 c7] 29))) _ _ (hsub1.out w10 (bthen BB.out B10.out)))
  have HX3 := Lib.hid (fun W (hb : Below w10.heap.size w10 W) => HX3.out W (bthen B10.out hb))
  have BW := Lib.hid (bthen BW.out B10.out)
  have BB := Lib.hid (bthen BB.out B10.out)
  clear B10 HX1
  obtain ⟨-, -, e0, e1, e2, e3, e4, e5, e6⟩ := HC.out w10 BW.out
  -- @e
  go_wp2_with fail
  refine (HX2.out).mono ?_
  rintro q w11 ⟨A11, c11, rfl, HL11, B11⟩
  have B11 := Lib.hid (bthen (one_alloc w10 (.cells #[.string s0, .int .i64 i1, .int .i64 i2, .string s3, .string s4, .string s5, .slice A7 l7 c7] 29)) B11.out)
  have HX3 := Lib.hid (HX3.out _ (bthen B11.out (one_alloc w11 (.cells #[.string s0, .int .i64 i1, .int .i64 i2, .string s3, .string s4, .string s5, .slice A7 l7 c7] 29))) _ _ (hsub1.out w11 (bthen BB.out B11.out)))
  have BW := Lib.hid (bthen BW.out B11.out)
  have BB := Lib.hid (bthen BB.out B11.out)
  have HL10 := Lib.hid (HL10.out.later B11.out)
  clear B11 HX2 e0 e1 e2 e3 e4 e5 e6
  obtain ⟨-, -, e0, e1, e2, e3, e4, e5, e6⟩ := HC.out w11 BW.out
  -- @f
  go_wp2_with fail
  refine (HX3.out).mono ?_
  rintro q w12 ⟨A12, c12, rfl, HL12, B12⟩
  have B12 := Lib.hid (bthen (one_alloc w11 (.cells #[.string s0, .int .i64 i1, .int .i64 i2, .string s3, .string s4, .string s5, .slice A7 l7 c7] 29)) B12.out)
  have BB := Lib.hid (bthen BB.out B12.out)
  have HSB := Lib.hid (bag_la (HL10.out.later B12.out) (HL11.out.later B12.out) HGP.out (by have := HGL1.out.1; omega) (by have := HGL2.out.1; omega) (fun r hr => by have := HGL1.out.2 r hr; omega) (fun r hr => by have := HGL2.out.2 r hr; omega))
  have HDI := Lib.hid (fun W (hb : Below w12.heap.size w12 W) => dist_la (HL12.out.later hb) (HE'.out W (bthen BB.out hb)) (by have := HPL.out; omega) HPR.out)
  rw [← HLEN.out] at HDI
  clear B12 HX3 e0 e1 e2 e3 e4 e5 e6 HL10 HL11 HL12 HGP HGL1 HGL2 HPL HPR HLEN HC BW HX
  -- @g
  go_wp2_with fail
  refine (HSB.out).mono ?_
  rintro q w13 ⟨rfl, b13⟩
  have HDI := Lib.hid (HDI.out w13 b13)
  have BB := Lib.hid (bthen BB.out b13)
  clear b13 HSB
  -- @h
  go_wp2_with fail
  refine (HDI.out).mono ?_
  rintro q w14 ⟨A14, c14, rfl, B14⟩
  have BB := Lib.hid (bthen BB.out B14.out)
  clear B14 HDI
  -- @i
  go_wp2_with fail
  go_ret
  exact ⟨rfl, BB.out⟩
end Go.Proofs.YtkigddankkoahaaGreatDoor
