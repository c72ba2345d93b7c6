/- The walk of the law ScalarCases: it answers true, whatever two texts. Condition: the library's one variable is there. -/
import Derived.Test.YtdffnkopbackiaaDoorScaCasesP
namespace Go.Proofs.YtdffnkopbackiaaDoor
open Go.RowKit
theorem args3_text {w : World} {H : Nat} {s t u : ByteArray} (hH : w.heap.size = H) : Args (w.alloc (.cells #[.int .i64 3, .int .i64 0, .string s, .int .i64 3, .int .i64 0, .string t, .int .i64 3, .int .i64 0, .string u] 23)) H [sV s, sV t, sV u] := args3 (a := sV s) (b := sV t) (c := sV u) hH
theorem args1_text {w : World} {H : Nat} {s : ByteArray} (hH : w.heap.size = H) : Args (w.alloc (.cells #[.int .i64 3, .int .i64 0, .string s] 23)) H [sV s] := args1 (a := sV s) hH
theorem raw0z' {w : World} : VBox (w.alloc (.cells #[.int .i64 0, .int .i64 0, .string ⟨#[]⟩] 23)) w.heap.size zV := VBox.made w zV
theorem lower_call (s r : ByteArray) (hr : turnedB 65 s = r) (hs : s.size ≤ 3000) (W : World) (H : Nat) (hA : Args W H [sV s]) : Calls Tryd.prog 18 #[.string ⟨#[108, 111, 119, 101, 114]⟩, .slice (some ⟨H, 0, none⟩) 1 1] W fun e w' => e = .returned (.tuple #[.agg #[.int .i64 3, .int .i64 0, .string r], .int .i64 0]) ∧ Below W.heap.size W w' := by
  subst hr
  exact call_lower _ (sV (turnedB 65 s)) 0 H W hA (by simp [allOk, chk_s]) (by simp [okK, sV, fitsK]) (by simp [nulB, sV]) (fun W' h => lower_do s H W' (hA.later h) hs)
theorem upper_call (s r : ByteArray) (hr : turnedB 97 s = r) (hs : s.size ≤ 3000) (W : World) (H : Nat) (hA : Args W H [sV s]) : Calls Tryd.prog 18 #[.string ⟨#[117, 112, 112, 101, 114]⟩, .slice (some ⟨H, 0, none⟩) 1 1] W fun e w' => e = .returned (.tuple #[.agg #[.int .i64 3, .int .i64 0, .string r], .int .i64 0]) ∧ Below W.heap.size W w' := by
  subst hr
  exact call_upper _ (sV (turnedB 97 s)) 0 H W hA (by simp [allOk, chk_s]) (by simp [okK, sV, fitsK]) (by simp [nulB, sV]) (fun W' h => upper_do s H W' (hA.later h) hs)
theorem trim_call (s r : ByteArray) (hr : trimS s = r) (hs : s.size ≤ 3000) (W : World) (H : Nat) (hA : Args W H [sV s]) : Calls Tryd.prog 18 #[.string ⟨#[116, 114, 105, 109]⟩, .slice (some ⟨H, 0, none⟩) 1 1] W fun e w' => e = .returned (.tuple #[.agg #[.int .i64 3, .int .i64 0, .string r], .int .i64 0]) ∧ Below W.heap.size W w' := by
  subst hr
  exact call_trim _ (sV (trimS s)) 0 H W hA (by simp [allOk, chk_s]) (by simp [okK, sV, fitsK]) (by simp [nulB, sV]) (fun W' h => trim_do s H W' (hA.later h) hs)
theorem replace_call (s t : ByteArray) (hs : s.size ≤ 3000) (ht : t.size ≤ 3000) (W : World) (H : Nat) (hE : Env W) (hA : Args W H [sV s, sV t, sV t]) : Calls Tryd.prog 18 #[.string ⟨#[114, 101, 112, 108, 97, 99, 101]⟩, .slice (some ⟨H, 0, none⟩) 3 3] W fun e w' => e = .returned (.tuple #[.agg #[.int .i64 3, .int .i64 0, .string s], .int .i64 0]) ∧ Below W.heap.size W w' :=
  call_replace _ _ _ (sV s) 0 H W hA (by simp [allOk, chk_s]) (by simp [okK, sV, fitsK]) (by simp [nulB, sV]) (fun W' h => replace_do s t H W' (hA.later h) (hE.later h) hs ht)
set_option maxRecDepth 100000 in
set_option maxHeartbeats 16000000 in
theorem cases_in (s t U L T : ByteArray) (w : World) (hE : Env w) (h5 : s.size ≤ 500) (h1 : t.size ≤ 100) (hU : turnedB 97 s = U) (hL : turnedB 65 s = L) (hUL : turnedB 97 L = U) (hLU : turnedB 65 U = L) (hT : trimS s = T) (hTT : trimS T = T) (su : U.size = s.size) (sl : L.size = s.size) (st : T.size ≤ s.size) (he : T = ⟨#[]⟩ ∨ (T.toList = [] → False) ∧ ∃ h : 0 < T.size, (T[0]'h).toNat ≠ 32 ∧ (T[T.size - 1]'(by omega)).toNat ≠ 32) :
    Calls Tryd.prog 7 #[.string s, .string t] w fun e w' => e = .returned (.bool true) ∧ Below w.heap.size w w' := by
  have HE := Lib.hid hE
  have HU := Lib.hid (upper_call s U hU (by omega))
  have HL := Lib.hid (lower_call s L hL (by omega))
  have HUL := Lib.hid (upper_call L U hUL (by omega))
  have HLU := Lib.hid (lower_call U L hLU (by omega))
  have HT := Lib.hid (trim_call s T hT (by omega))
  have HTT := Lib.hid (trim_call T T hTT (by omega))
  have HR := Lib.hid (fun W H => replace_call s t (by omega) (by omega) W H)
  have HX := Lib.hid text1_any
  have SU : Hid ((U.size : Int) = s.size) := by show _ = _; omega
  have SL : Hid ((L.size : Int) = s.size) := by show _ = _; omega
  have HEND := Lib.hid he
  have hts : T.size ≤ 500 := by omega
  clear hE hU hL hUL hLU hT hTT su sl st he
  have d1 : decide ((500 : Int) < (s.size : Int)) = false := decide_eq_false (by omega)
  have d2 : decide ((100 : Int) < (t.size : Int)) = false := decide_eq_false (by omega)
  go_enter Tryd.func7, Tryd.ntmps7
  go_wp2_with fail
  refine (live_any w HE.out).mono ?_
  rintro e wv1 ⟨rfl, b1⟩
  have P0 := Lib.hid (((Go.Proofs.YtdffnkopbackiaaDoor.HB.nil w).call b1))
  clear b1
  go_wp2_with fail
  refine (HX.out _ _).mono ?_
  rintro e wv2 ⟨rfl, b2⟩
  have P1 : Hid (HB w [(wv2.heap.size, sV s)] (wv2.alloc (.cells #[.int .i64 3, .int .i64 0, .string s] 23))) := (P0.out.call b2).push (sV s)
  clear b2
  obtain ⟨v0, v1, v2, -⟩ := P1.out.boxes
  simp only [sV] at v0 v1 v2
  go_wp2_with fail
  refine (HU.out _ _ (args1_text (by simp))).mono ?_
  rintro e wv3 ⟨rfl, b9⟩
  have P2 : Hid (HB w [(wv3.heap.size, sV U), (wv2.heap.size, sV s)] (wv3.alloc (.cells #[.int .i64 3, .int .i64 0, .string U] 23))) := ((P1.out.alloc _).call b9).push (sV U)
  clear b9 v0 v1 v2
  obtain ⟨-, -, -, v0, v1, v2, -⟩ := P2.out.boxes
  simp only [sV] at v0 v1 v2
  go_wp2_with fail
  refine (HL.out _ _ (args1_text (by simp))).mono ?_
  rintro e wv4 ⟨rfl, b9⟩
  have P3 : Hid (HB w [(wv4.heap.size, sV L), (wv3.heap.size, sV U), (wv2.heap.size, sV s)] (wv4.alloc (.cells #[.int .i64 3, .int .i64 0, .string L] 23))) := ((P2.out.alloc _).call b9).push (sV L)
  clear b9 v0 v1 v2
  obtain ⟨v0, v1, v2, -⟩ := P3.out.boxes
  simp only [sV] at v0 v1 v2
  go_wp2_with fail
  refine (HUL.out _ _ (args1_text (by simp))).mono ?_
  rintro e wv5 ⟨rfl, b9⟩
  have P4 : Hid (HB w [(wv5.heap.size, sV U), (wv4.heap.size, sV L), (wv3.heap.size, sV U), (wv2.heap.size, sV s)] (wv5.alloc (.cells #[.int .i64 3, .int .i64 0, .string U] 23))) := ((P3.out.alloc _).call b9).push (sV U)
  clear b9 v0 v1 v2
  obtain ⟨-, -, -, -, -, -, v0, v1, v2, -⟩ := P4.out.boxes
  simp only [sV] at v0 v1 v2
  go_wp2_with fail
  refine (HLU.out _ _ (args1_text (by simp))).mono ?_
  rintro e wv6 ⟨rfl, b9⟩
  have P5 : Hid (HB w [(wv6.heap.size, sV L), (wv5.heap.size, sV U), (wv4.heap.size, sV L), (wv3.heap.size, sV U), (wv2.heap.size, sV s)] (wv6.alloc (.cells #[.int .i64 3, .int .i64 0, .string L] 23))) := ((P4.out.alloc _).call b9).push (sV L)
  clear b9 v0 v1 v2
  obtain ⟨-, -, -, -, -, -, -, -, -, -, -, -, v0, v1, v2, -⟩ := P5.out.boxes
  simp only [sV] at v0 v1 v2
  go_wp2_with fail
  refine (HT.out _ _ (args1_text (by simp))).mono ?_
  rintro e wv7 ⟨rfl, b9⟩
  have P6 : Hid (HB w [(wv7.heap.size, sV T), (wv6.heap.size, sV L), (wv5.heap.size, sV U), (wv4.heap.size, sV L), (wv3.heap.size, sV U), (wv2.heap.size, sV s)] (wv7.alloc (.cells #[.int .i64 3, .int .i64 0, .string T] 23))) := ((P5.out.alloc _).call b9).push (sV T)
  clear b9 v0 v1 v2
  obtain ⟨v0, v1, v2, -⟩ := P6.out.boxes
  simp only [sV] at v0 v1 v2
  go_wp2_with fail
  refine (HTT.out _ _ (args1_text (by simp))).mono ?_
  rintro e wv8 ⟨rfl, b9⟩
  have P7 : Hid (HB w [(wv8.heap.size, sV T), (wv7.heap.size, sV T), (wv6.heap.size, sV L), (wv5.heap.size, sV U), (wv4.heap.size, sV L), (wv3.heap.size, sV U), (wv2.heap.size, sV s)] (wv8.alloc (.cells #[.int .i64 3, .int .i64 0, .string T] 23))) := ((P6.out.alloc _).call b9).push (sV T)
  clear b9 v0 v1 v2
  have H6 := Lib.hid (show Held w (wv8.heap.size + 1) [(wv8.heap.size, sV T), (wv7.heap.size, sV T), (wv6.heap.size, sV L), (wv5.heap.size, sV U), (wv4.heap.size, sV L), (wv3.heap.size, sV U), (wv2.heap.size, sV s)] (wv8.alloc (.cells #[.int .i64 3, .int .i64 0, .string T] 23)) from Held.of (by simp) P7.out.below P7.out.boxes)
  have L6 := Lib.hid (show AllLt (wv8.heap.size + 1) [(wv8.heap.size, sV T), (wv7.heap.size, sV T), (wv6.heap.size, sV L), (wv5.heap.size, sV U), (wv4.heap.size, sV L), (wv3.heap.size, sV U), (wv2.heap.size, sV s)] from by have := P7.out.lt; simpa using this)
  have hw6 : w.heap.size ≤ wv8.heap.size + 1 := by have := P7.out.below.size; simpa using this
  have ENV : Hid (∀ W, Held w (wv8.heap.size + 1) [(wv8.heap.size, sV T), (wv7.heap.size, sV T), (wv6.heap.size, sV L), (wv5.heap.size, sV U), (wv4.heap.size, sV L), (wv3.heap.size, sV U), (wv2.heap.size, sV s)] W → Env W) := fun W h => HE.out.later h.2.1
  clear P0 P1 P2 P3 P4 P5 P6 P7
  go_upto_region 11 with fail
  go_cut [19, 20] (fun s8 s9 wx => ∃ g', s8 = .pointer (some ⟨g', 0, none⟩) ∧ s9 = .int .i64 0 ∧ wv8.heap.size + 1 ≤ g' ∧ Hid (VBox wx g' (sV s)) ∧ Hid (Held w (wv8.heap.size + 1) [(wv8.heap.size, sV T), (wv7.heap.size, sV T), (wv6.heap.size, sV L), (wv5.heap.size, sV U), (wv4.heap.size, sV L), (wv3.heap.size, sV U), (wv2.heap.size, sV s)] wx))
  case first =>
    go_region_held3 (fun w' => wv8.heap.size + 1 ≤ w'.heap.size ∧ Below w.heap.size w w' ∧ w'.cell? ⟨wv8.heap.size, 0, none⟩ = some (.int .i64 3) ∧ w'.cell? ⟨wv8.heap.size, 1, none⟩ = some (.int .i64 0) ∧ w'.cell? ⟨wv8.heap.size, 2, none⟩ = some (.string T) ∧ w'.cell? ⟨wv7.heap.size, 0, none⟩ = some (.int .i64 3) ∧ w'.cell? ⟨wv7.heap.size, 1, none⟩ = some (.int .i64 0) ∧ w'.cell? ⟨wv7.heap.size, 2, none⟩ = some (.string T) ∧ w'.cell? ⟨wv6.heap.size, 0, none⟩ = some (.int .i64 3) ∧ w'.cell? ⟨wv6.heap.size, 1, none⟩ = some (.int .i64 0) ∧ w'.cell? ⟨wv6.heap.size, 2, none⟩ = some (.string L) ∧ w'.cell? ⟨wv5.heap.size, 0, none⟩ = some (.int .i64 3) ∧ w'.cell? ⟨wv5.heap.size, 1, none⟩ = some (.int .i64 0) ∧ w'.cell? ⟨wv5.heap.size, 2, none⟩ = some (.string U) ∧ w'.cell? ⟨wv4.heap.size, 0, none⟩ = some (.int .i64 3) ∧ w'.cell? ⟨wv4.heap.size, 1, none⟩ = some (.int .i64 0) ∧ w'.cell? ⟨wv4.heap.size, 2, none⟩ = some (.string L) ∧ w'.cell? ⟨wv3.heap.size, 0, none⟩ = some (.int .i64 3) ∧ w'.cell? ⟨wv3.heap.size, 1, none⟩ = some (.int .i64 0) ∧ w'.cell? ⟨wv3.heap.size, 2, none⟩ = some (.string U) ∧ w'.cell? ⟨wv2.heap.size, 0, none⟩ = some (.int .i64 3) ∧ w'.cell? ⟨wv2.heap.size, 1, none⟩ = some (.int .i64 0) ∧ w'.cell? ⟨wv2.heap.size, 2, none⟩ = some (.string s) ∧ True) (first | exact H6.out.drew | exact (Held.alloc L6.out hw6 H6.out _).drew | (refine Held.later L6.out hw6 ?_ hb6; assumption) | (refine Held.later L6.out hw6 ?_ hb8; assumption) | (refine Held.alloc L6.out hw6 ?_ _; assumption) | (refine Held.realloc (o := .cells #[.int .i64 0, .int .i64 0, .string ⟨#[]⟩] 23) L6.out hw6 (by omega) ?_ _; assumption) | (refine Held.set3 L6.out hw6 ?_ ?_ _ _ _; assumption; omega)) (first | (go_at_call 17; go_must (refine (HX.out _ _).mono ?_); rintro e w6 ⟨rfl, hb6⟩; have hz6 := hb6.size; (try simp only [World.size_drew, World.size_alloc] at hz6); (try (((first | with_reducible refine with_fact (vt.later hb6) ?_ | with_reducible refine with_fact ((vt.alloc _).later hb6) ?_ | with_reducible refine with_fact (raw0z'.later hb6) ?_ | with_reducible refine with_fact (raw0z'.drew.later hb6) ?_ | with_reducible refine with_fact ((raw0z'.alloc _).later hb6) ?_)); intro vt; (try simp only [World.size_alloc] at vt); obtain ⟨x0, x1, x2⟩ := vt.cells; obtain ⟨x3, x4, x5⟩ := vt.free; simp only [zV] at x0 x1 x2))) | (go_at_call 18; go_must (first | (refine (HR.out _ _ ?_ (args3_text ?_)).mono ?_; (focus (refine ENV.out _ ?_; assumption)); (focus (simp; done))) | (refine (HR.out _ _ ?_ ((args3_text ?_).alloc _)).mono ?_; (focus (refine ENV.out _ ?_; assumption)); (focus (simp; done)))); rintro e w8x ⟨rfl, hb8⟩; have hz8 := hb8.size; (try simp only [World.size_alloc] at hz8); (try (((first | with_reducible refine with_fact (vt.later hb8) ?_ | with_reducible refine with_fact ((vt.alloc _).later hb8) ?_ | with_reducible refine with_fact (raw0z'.later hb8) ?_ | with_reducible refine with_fact (raw0z'.drew.later hb8) ?_ | with_reducible refine with_fact ((raw0z'.alloc _).later hb8) ?_)); intro vt; (try simp only [World.size_alloc] at vt); obtain ⟨x0, x1, x2⟩ := vt.cells; obtain ⟨x3, x4, x5⟩ := vt.free; simp only [zV] at x0 x1 x2))))
    all_goals (go_wp2_with fail; go_meet; refine ⟨_, rfl, rfl, by omega, ?_, ?_⟩; (first | exact VBox.made w8x (sV s) | exact VBox.set' vt rfl rfl rfl); assumption)
  case rest =>
    obtain ⟨g', rfl, rfl, hg', hv9, hH⟩ := hcut
    have hsu := SU.out
    have hsl := SL.out
    obtain ⟨r0, r1, r2⟩ := hv9.out.cells
    obtain ⟨-, hbel, a0, a1, a2, q0, q1, q2, j0, j1, j2, k0, k1, k2, l0, l1, l2, m0, m1, m2, n0, n1, n2, -⟩ := hH.out
    simp only [sV] at r0 r1 r2 a0 a1 a2 q0 q1 q2 j0 j1 j2 k0 k1 k2 l0 l1 l2 m0 m1 m2 n0 n1 n2
    have HBEL := Lib.hid hbel
    clear hbel hv9 hH H6 L6 HU HL HUL HLU HT HTT HR ENV
    rcases HEND.out with rfl | ⟨he1, h0, e1, e2⟩
    · go_wp2_with fail
      go_ret
      exact ⟨rfl, HBEL.out⟩
    · have m9 : (T.toList == []) = false := by simpa using he1
      have m8 : T.toList.isEmpty = false := by
        cases hq : T.toList
        · exact absurd hq he1
        · rfl
      have y1 : (((T[0]'h0).toNat : Int) != 32) = true := by simp; omega
      have y2 : (((T[T.size - 1]'(by omega)).toNat : Int) != 32) = true := by simp; omega
      clear he1 e1 e2
      go_wp2_with fail
      go_ret
      exact ⟨rfl, HBEL.out⟩
end Go.Proofs.YtdffnkopbackiaaDoor
