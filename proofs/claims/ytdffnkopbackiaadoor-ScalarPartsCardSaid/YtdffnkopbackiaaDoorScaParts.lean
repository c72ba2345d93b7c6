/- The walk of the law ScalarParts: it answers true, whatever text and number. Conditions: the library's one variable is there. -/
import Derived.Test.YtdffnkopbackiaaDoorScaPartsP
namespace Go.Proofs.YtdffnkopbackiaaDoor
open Go.RowKit
theorem args3_raw {w : World} {H : Nat} {s : ByteArray} {x y : Int} (hH : w.heap.size = H) : Args (w.alloc (.cells #[.int .i64 3, .int .i64 0, .string s, .int .i64 2, .int .i64 x, .string ⟨#[]⟩, .int .i64 2, .int .i64 y, .string ⟨#[]⟩] 23)) H [sV s, nV x, nV y] := args3 (a := sV s) (b := nV x) (c := nV y) hH
theorem sub_any (s : ByteArray) (m k : Int) (r : ByteArray) (hr : pc s m k = r) (hs : s.size ≤ 140737488355328) (hm : In64 m) (hk : 0 ≤ k) (hk' : k ≤ 9223372036854775807) (W : World) (H : Nat) (hA : Args W H [sV s, nV m, nV k]) : Calls Tryd.prog 18 #[.string ⟨#[115, 117, 98, 115, 116, 114]⟩, .slice (some ⟨H, 0, none⟩) 3 3] W fun e w' => e = .returned (.tuple #[.agg #[.int .i64 3, .int .i64 0, .string r], .int .i64 0]) ∧ Below W.heap.size W w' := by
  subst hr
  exact call_substr _ _ _ (sV (pc s m k)) 0 H W hA (by simp [allOk, chk_n, chk_s]) (by simp [okK, nV, sV, fitsK]) (by simp [nulB, nV, sV]) (fun W' h => substr_do (sV s) m k H W' (hA.later h) hs hm hk hk')
theorem len_any (s : ByteArray) (hs : s.size ≤ 140737488355328) (W : World) (H : Nat) (hA : Args W H [sV s]) : Calls Tryd.prog 18 #[.string ⟨#[108, 101, 110, 103, 116, 104]⟩, .slice (some ⟨H, 0, none⟩) 1 1] W fun e w' => e = .returned (.tuple #[.agg #[.int .i64 2, .int .i64 s.size, .string ⟨#[]⟩], .int .i64 0]) ∧ Below W.heap.size W w' :=
  call_length _ (nV s.size) 0 H W hA (by simp [allOk, chk_s]) (by simp [okK, sV, fitsK]) (by simp [nulB, sV]) (fun W' h => length_do (sV s) H W' (hA.later h) hs)
theorem ins_any (s t : ByteArray) (x : Int) (hx : Lib.index s.data.toList t.data.toList = x) (hs : s.size < 4294967281) (W : World) (H : Nat) (hE : Env W) (hA : Args W H [sV s, sV t]) : Calls Tryd.prog 18 #[.string ⟨#[105, 110, 115, 116, 114]⟩, .slice (some ⟨H, 0, none⟩) 2 2] W fun e w' => e = .returned (.tuple #[.agg #[.int .i64 2, .int .i64 (x + 1), .string ⟨#[]⟩], .int .i64 0]) ∧ Below W.heap.size W w' := by
  subst hx
  exact call_instr _ _ (nV (Lib.index s.data.toList t.data.toList + 1)) 0 H W hA (by simp [allOk, chk_s]) (by simp [okK, sV, fitsK]) (by simp [nulB, sV]) (fun W' h => instr_do (sV s) (sV t) H W' (hA.later h) (hE.later h) hs)
theorem jon_any (s t r : ByteArray) (hr : s ++ t = r) (hs : s.size ≤ 140737488355328) (ht : t.size ≤ 140737488355328) (w : World) : Calls Tryd.prog 14 #[.agg #[.int .i64 3, .int .i64 0, .string s], .agg #[.int .i64 3, .int .i64 0, .string t]] w fun e w' => e = .returned (.tuple #[.agg #[.int .i64 3, .int .i64 0, .string r], .int .i64 0]) ∧ Below w.heap.size w w' := by
  subst hr
  have h := join_any (sV s) (sV t) w hs ht
  obtain ⟨h1, h2⟩ := jo_one (a := sV s) (b := sV t) (by simp [allOk, chk_s]) (by simp [okK, sV, fitsK]) (by simp [nulB, sV]) rfl
  rw [h1, h2] at h
  exact h
theorem Env.of_below {w w' : World} (h : Env w) (hb : Below w.heap.size w w') : Env w' := h.later hb
theorem Held.hv {w W : World} {top : Nat} {l : List (Nat × V)} (h : Held w top l W) : Below w.heap.size w W := h.2.1
theorem raw0z {w : World} : VBox (w.alloc (.cells #[.int .i64 0, .int .i64 0, .string ⟨#[]⟩] 23)) w.heap.size zV := VBox.made w zV
set_option maxRecDepth 100000 in
set_option maxHeartbeats 16000000 in
theorem parts_in (s A B : ByteArray) (n : Int) (i : Nat) (w : World) (hE : Env w) (h0 : 0 ≤ n) (h4 : n ≤ 4000) (hs : s.size ≤ 3000) (hA : pc s 1 n = A) (hB : pc s (n + 1) 5000 = B) (hj : A ++ B = s) (hl : A.size + B.size = s.size) (hi : Lib.index s.data.toList B.data.toList = i) (hin : (i : Int) ≤ n) (hp : pc s ((i : Int) + 1) B.size = B) :
    Calls Tryd.prog 5 #[.string s, .int .i64 n] w fun e w' => e = .returned (.bool true) ∧ Below w.heap.size w w' := by
  have HE := Lib.hid hE
  have HS1 := Lib.hid (sub_any s 1 n A hA (by omega) (by unfold In64; omega) h0 (by omega))
  have HS2 := Lib.hid (sub_any s (n + 1) 5000 B hB (by omega) (by unfold In64; omega) (by omega) (by omega))
  have HS3 := Lib.hid (sub_any s ((i : Int) + 1) B.size B hp (by omega) (by unfold In64; omega) (by omega) (by omega))
  have HJ := Lib.hid (fun w => jon_any A B s hj (by omega) (by omega) w)
  have HLA := Lib.hid (len_any A (by omega))
  have HLB := Lib.hid (len_any B (by omega))
  have HLS := Lib.hid (len_any s (by omega))
  have HIN := Lib.hid (ins_any s B i hi (by omega))
  have HI := Lib.hid int1_any
  have HSUM : Hid ((A.size : Int) + B.size = s.size) := by show _ = _; omega
  have hla : A.size ≤ 3000 := by omega
  have hlb : B.size ≤ 3000 := by omega
  clear hE hA hB hj hl hi hp
  go_enter Tryd.func5, Tryd.ntmps5
  go_wp2_with fail
  refine (live_any w HE.out).mono ?_
  rintro e w1 ⟨rfl, b1⟩
  have P1 := Lib.hid ((HV.nil w).call b1)
  clear b1
  go_wp2_with fail
  refine (text1_any _ _).mono ?_
  rintro e w2 ⟨rfl, b2⟩
  have P2 : Hid (HV w [(w2.heap.size, sV s)] (w2.alloc (.cells #[.int .i64 3, .int .i64 0, .string s] 23))) := (P1.out.call b2).push (sV s)
  clear b2
  go_wp2_with fail
  refine (HI.out _ _).mono ?_
  rintro e w3 ⟨rfl, b3⟩
  have P3 : Hid (HV w [(w3.heap.size, nV 1), (w2.heap.size, sV s)] (w3.alloc (.cells #[.int .i64 2, .int .i64 1, .string ⟨#[]⟩] 23))) := (P2.out.call b3).push (nV 1)
  have hz32 : w2.heap.size < w3.heap.size := by have := b3.size; simp at this; omega
  have hz3 : w.heap.size ≤ w3.heap.size + 1 := by have := P3.out.below.size; simp at this; omega
  have h6 : Held w (w3.heap.size + 1) [(w3.heap.size, nV 1), (w2.heap.size, sV s)] (w3.alloc (.cells #[.int .i64 2, .int .i64 1, .string ⟨#[]⟩] 23)) := Held.of (by simp) P3.out.below ⟨P3.out.box.cells.1, P3.out.box.cells.2.1, P3.out.box.cells.2.2, P3.out.tail.box.cells.1, P3.out.tail.box.cells.2.1, P3.out.tail.box.cells.2.2, trivial⟩
  have l6 : AllLt (w3.heap.size + 1) [(w3.heap.size, nV 1), (w2.heap.size, sV s)] := allLt_cons (by simp) (allLt_cons (by simp; omega) allLt_nil)
  have hw6 : w.heap.size ≤ w3.heap.size + 1 := hz3
  have H6 := Lib.hid h6
  have L6 := Lib.hid l6
  clear b3 h6 l6 P1 P2 P3
  go_upto_region 6 with fail
  go_cut [8, 9] (fun s8 s9 wx => ∃ g', s8 = .pointer (some ⟨g', 0, none⟩) ∧ s9 = .int .i64 0 ∧ w3.heap.size + 1 ≤ g' ∧ Hid (VBox wx g' (sV A)) ∧ Hid (Held w (w3.heap.size + 1) [(w3.heap.size, nV 1), (w2.heap.size, sV s)] wx))
  case first =>
    go_region_held3 (fun w' => w3.heap.size + 1 ≤ w'.heap.size ∧ Below w.heap.size w w' ∧ w'.cell? ⟨w3.heap.size, 0, none⟩ = some (.int .i64 2) ∧ w'.cell? ⟨w3.heap.size, 1, none⟩ = some (.int .i64 1) ∧ w'.cell? ⟨w3.heap.size, 2, none⟩ = some (.string ⟨#[]⟩) ∧ w'.cell? ⟨w2.heap.size, 0, none⟩ = some (.int .i64 3) ∧ w'.cell? ⟨w2.heap.size, 1, none⟩ = some (.int .i64 0) ∧ w'.cell? ⟨w2.heap.size, 2, none⟩ = some (.string s) ∧ True) (first | exact H6.out.drew | exact (Held.alloc L6.out hw6 H6.out _).drew | (refine Held.later L6.out hw6 ?_ hb6; assumption) | (refine Held.later L6.out hw6 ?_ hb8; assumption) | (refine Held.alloc L6.out hw6 ?_ _; assumption) | (refine Held.realloc (o := .cells #[.int .i64 0, .int .i64 0, .string ⟨#[]⟩] 23) L6.out hw6 (by omega) ?_ _; assumption) | (refine Held.set3 L6.out hw6 ?_ ?_ _ _ _; assumption; omega)) (first | (go_at_call 16; go_must (refine (HI.out _ _).mono ?_); rintro e w6 ⟨rfl, hb6⟩; have hz6 := hb6.size; (try simp only [World.size_drew, World.size_alloc] at hz6); (try (((first | with_reducible refine with_fact (vt.later hb6) ?_ | with_reducible refine with_fact ((vt.alloc _).later hb6) ?_ | with_reducible refine with_fact (raw0z.later hb6) ?_ | with_reducible refine with_fact (raw0z.drew.later hb6) ?_ | with_reducible refine with_fact ((raw0z.alloc _).later hb6) ?_)); intro vt; (try simp only [World.size_alloc] at vt); obtain ⟨x0, x1, x2⟩ := vt.cells; obtain ⟨x3, x4, x5⟩ := vt.free; simp only [zV] at x0 x1 x2))) | (go_at_call 18; go_must (first | (refine (HS1.out _ _ (args3_raw ?_)).mono ?_; focus (simp; done)) | (refine (HS1.out _ _ ((args3_raw ?_).alloc _)).mono ?_; focus (simp; done))); rintro e w8 ⟨rfl, hb8⟩; have hz8 := hb8.size; (try simp only [World.size_alloc] at hz8); (try (((first | with_reducible refine with_fact (vt.later hb8) ?_ | with_reducible refine with_fact ((vt.alloc _).later hb8) ?_ | with_reducible refine with_fact (raw0z.later hb8) ?_ | with_reducible refine with_fact (raw0z.drew.later hb8) ?_ | with_reducible refine with_fact ((raw0z.alloc _).later hb8) ?_)); intro vt; (try simp only [World.size_alloc] at vt); obtain ⟨x0, x1, x2⟩ := vt.cells; obtain ⟨x3, x4, x5⟩ := vt.free; simp only [zV] at x0 x1 x2))))
    all_goals (go_wp2_with fail; go_meet; refine ⟨_, rfl, rfl, by omega, ?_, ?_⟩; (first | exact VBox.made w8 (sV A) | exact VBox.set' vt rfl rfl rfl); assumption)
  case rest =>
    obtain ⟨g1, rfl, rfl, hg1, hv1, hH1⟩ := hcut
    obtain ⟨wa, rfl⟩ : ∃ wa : World, wa = wc := ⟨_, rfl⟩
    have hgl1 := hv1.out.lt
    have hw7 : w.heap.size ≤ wa.heap.size := hH1.out.2.1.size
    have htop := hH1.out.1
    have bx7 : Boxes [(g1, sV A), (w3.heap.size, nV 1), (w2.heap.size, sV s)] wa := ⟨hv1.out.cells.1, hv1.out.cells.2.1, hv1.out.cells.2.2, hH1.out.2.2⟩
    have H7 := Lib.hid (Held.of (top := wa.heap.size) (Nat.le_refl _) hH1.out.2.1 bx7)
    have L7 := Lib.hid (show AllLt wa.heap.size [(g1, sV A), (w3.heap.size, nV 1), (w2.heap.size, sV s)] from allLt_cons hgl1 (allLt_cons (by simp; omega) (allLt_cons (by simp; omega) allLt_nil)))
    have VA := Lib.hid hv1.out
    have hsum1 : IntKind.i64.wrap (n + 1) = n + 1 := IntWalk.i64_in _ (by omega)
    clear bx7 hv1 hH1 H6 L6 HS1
    go_upto_region 7 with fail
    go_cut [10, 11] (fun s8 s9 wx => ∃ g', s8 = .pointer (some ⟨g', 0, none⟩) ∧ s9 = .int .i64 0 ∧ wa.heap.size ≤ g' ∧ Hid (VBox wx g' (sV B)) ∧ Hid (Held w wa.heap.size [(g1, sV A), (w3.heap.size, nV 1), (w2.heap.size, sV s)] wx))
    case first =>
      go_region_held3 (fun w' => wa.heap.size ≤ w'.heap.size ∧ Below w.heap.size w w' ∧ w'.cell? ⟨g1, 0, none⟩ = some (.int .i64 3) ∧ w'.cell? ⟨g1, 1, none⟩ = some (.int .i64 0) ∧ w'.cell? ⟨g1, 2, none⟩ = some (.string A) ∧ w'.cell? ⟨w3.heap.size, 0, none⟩ = some (.int .i64 2) ∧ w'.cell? ⟨w3.heap.size, 1, none⟩ = some (.int .i64 1) ∧ w'.cell? ⟨w3.heap.size, 2, none⟩ = some (.string ⟨#[]⟩) ∧ w'.cell? ⟨w2.heap.size, 0, none⟩ = some (.int .i64 3) ∧ w'.cell? ⟨w2.heap.size, 1, none⟩ = some (.int .i64 0) ∧ w'.cell? ⟨w2.heap.size, 2, none⟩ = some (.string s) ∧ True) (first | exact H7.out.drew | exact (Held.alloc L7.out hw7 H7.out _).drew | (refine Held.later L7.out hw7 ?_ hb6; assumption) | (refine Held.later L7.out hw7 ?_ hb8; assumption) | (refine Held.alloc L7.out hw7 ?_ _; assumption) | (refine Held.realloc (o := .cells #[.int .i64 0, .int .i64 0, .string ⟨#[]⟩] 23) L7.out hw7 (by omega) ?_ _; assumption) | (refine Held.set3 L7.out hw7 ?_ ?_ _ _ _; assumption; omega)) (first | (go_at_call 16; go_must (refine (HI.out _ _).mono ?_); rintro e w6 ⟨rfl, hb6⟩; have hz6 := hb6.size; (try simp only [World.size_drew, World.size_alloc] at hz6); (try (((first | with_reducible refine with_fact (vt.later hb6) ?_ | with_reducible refine with_fact ((vt.alloc _).later hb6) ?_ | with_reducible refine with_fact (raw0z.later hb6) ?_ | with_reducible refine with_fact (raw0z.drew.later hb6) ?_ | with_reducible refine with_fact ((raw0z.alloc _).later hb6) ?_)); intro vt; (try simp only [World.size_alloc] at vt); obtain ⟨x0, x1, x2⟩ := vt.cells; obtain ⟨x3, x4, x5⟩ := vt.free; simp only [zV] at x0 x1 x2))) | (go_at_call 18; go_must (first | (refine (HS2.out _ _ (args3_raw ?_)).mono ?_; focus (simp; done)) | (refine (HS2.out _ _ ((args3_raw ?_).alloc _)).mono ?_; focus (simp; done))); rintro e w8 ⟨rfl, hb8⟩; have hz8 := hb8.size; (try simp only [World.size_alloc] at hz8); (try (((first | with_reducible refine with_fact (vt.later hb8) ?_ | with_reducible refine with_fact ((vt.alloc _).later hb8) ?_ | with_reducible refine with_fact (raw0z.later hb8) ?_ | with_reducible refine with_fact (raw0z.drew.later hb8) ?_ | with_reducible refine with_fact ((raw0z.alloc _).later hb8) ?_)); intro vt; (try simp only [World.size_alloc] at vt); obtain ⟨x0, x1, x2⟩ := vt.cells; obtain ⟨x3, x4, x5⟩ := vt.free; simp only [zV] at x0 x1 x2))))
      all_goals (go_wp2_with fail; go_meet; refine ⟨_, rfl, rfl, by omega, ?_, ?_⟩; (first | exact VBox.made w8 (sV B) | exact VBox.set' vt rfl rfl rfl); assumption)
    case rest =>
      obtain ⟨g2, rfl, rfl, hg2, hv2, hH2⟩ := hcut
      have P0 : Hid (HB w [(g2, sV B), (g1, sV A), (w3.heap.size, nV 1), (w2.heap.size, sV s)] wc) := ⟨hH2.out.2.1, allLt_cons hv2.out.lt (allLt_cons (by have := hH2.out.1; simp; omega) (allLt_cons (by have := hH2.out.1; simp; omega) (allLt_cons (by have := hH2.out.1; simp; omega) allLt_nil))), ⟨hv2.out.cells.1, hv2.out.cells.2.1, hv2.out.cells.2.2, hH2.out.2.2⟩⟩
      clear hv2 hH2 H7 L7 VA hg1 hg2 hgl1 hw7 htop hsum1 HS2 hw6 hz3 hz32
      obtain ⟨b0, b1, b2, a0, a1, a2, -⟩ := P0.out.boxes
      simp only [sV] at b0 b1 b2 a0 a1 a2
      go_wp2_with fail
      refine (HJ.out _).mono ?_
      rintro e w6 ⟨rfl, b6⟩
      have P1 : Hid (HB w [(w6.heap.size, sV s), (g2, sV B), (g1, sV A), (w3.heap.size, nV 1), (w2.heap.size, sV s)] (w6.alloc (.cells #[.int .i64 3, .int .i64 0, .string s] 23))) := (P0.out.call b6).push (sV s)
      clear b6 b0 b1 b2 a0 a1 a2
      obtain ⟨-, -, -, b0, b1, b2, a0, a1, a2, o0, o1, o2, v0, v1, v2, -⟩ := P1.out.boxes
      simp only [sV] at b0 b1 b2 a0 a1 a2 v0 v1 v2
      go_wp2_with fail
      refine (HLA.out _ _ (args1_raw (by simp))).mono ?_
      rintro e w7 ⟨rfl, b7⟩
      have P2 : Hid (HB w [(w7.heap.size, nV A.size), (w6.heap.size, sV s), (g2, sV B), (g1, sV A), (w3.heap.size, nV 1), (w2.heap.size, sV s)] (w7.alloc (.cells #[.int .i64 2, .int .i64 A.size, .string ⟨#[]⟩] 23))) := ((P1.out.alloc _).call b7).push (nV A.size)
      clear b7 b0 b1 b2 a0 a1 a2 o0 o1 o2 v0 v1 v2
      obtain ⟨-, -, -, -, -, -, b0, b1, b2, -⟩ := P2.out.boxes
      simp only [sV] at b0 b1 b2
      go_wp2_with fail
      refine (HLB.out _ _ (args1_raw (by simp))).mono ?_
      rintro e w8 ⟨rfl, b8⟩
      have P3 : Hid (HB w [(w8.heap.size, nV B.size), (w7.heap.size, nV A.size), (w6.heap.size, sV s), (g2, sV B), (g1, sV A), (w3.heap.size, nV 1), (w2.heap.size, sV s)] (w8.alloc (.cells #[.int .i64 2, .int .i64 B.size, .string ⟨#[]⟩] 23))) := ((P2.out.alloc _).call b8).push (nV B.size)
      clear b8 b0 b1 b2
      obtain ⟨-, -, -, -, -, -, -, -, -, -, -, -, -, -, -, -, -, -, v0, v1, v2, -⟩ := P3.out.boxes
      simp only [sV] at v0 v1 v2
      go_wp2_with fail
      refine (HLS.out _ _ (args1_raw (by simp))).mono ?_
      rintro e w9 ⟨rfl, b9⟩
      have P4 : Hid (HB w [(w9.heap.size, nV s.size), (w8.heap.size, nV B.size), (w7.heap.size, nV A.size), (w6.heap.size, sV s), (g2, sV B), (g1, sV A), (w3.heap.size, nV 1), (w2.heap.size, sV s)] (w9.alloc (.cells #[.int .i64 2, .int .i64 s.size, .string ⟨#[]⟩] 23))) := ((P3.out.alloc _).call b9).push (nV s.size)
      clear b9 v0 v1 v2
      have E4 := Lib.hid (HE.out.later (P4.out.alloc (.cells #[.int .i64 3, .int .i64 0, .string s, .int .i64 3, .int .i64 0, .string B] 23)).below)
      obtain ⟨-, -, -, -, -, -, -, -, -, -, -, -, b0, b1, b2, -, -, -, -, -, -, v0, v1, v2, -⟩ := P4.out.boxes
      simp only [sV] at b0 b1 b2 v0 v1 v2
      go_wp2_with fail
      refine (HIN.out _ _ E4.out (args2_raw (by simp))).mono ?_
      rintro e w10 ⟨rfl, b10⟩
      have P5 : Hid (HB w [(w10.heap.size, nV ((i : Int) + 1)), (w9.heap.size, nV s.size), (w8.heap.size, nV B.size), (w7.heap.size, nV A.size), (w6.heap.size, sV s), (g2, sV B), (g1, sV A), (w3.heap.size, nV 1), (w2.heap.size, sV s)] (w10.alloc (.cells #[.int .i64 2, .int .i64 ((i : Int) + 1), .string ⟨#[]⟩] 23))) := ((P4.out.alloc _).call b10).push (nV ((i : Int) + 1))
      clear b10 b0 b1 b2 v0 v1 v2 E4
      obtain ⟨t0, t1, t2, -, -, -, l0, l1, l2, -, -, -, -, -, -, -, -, -, -, -, -, -, -, -, v0, v1, v2, -⟩ := P5.out.boxes
      simp only [sV, nV] at t0 t1 t2 l0 l1 l2 v0 v1 v2
      go_wp2_with fail
      refine (HS3.out _ _ (args3_raw (by simp))).mono ?_
      rintro e w11 ⟨rfl, b11⟩
      have P6 : Hid (HB w [(w11.heap.size, sV B), (w10.heap.size, nV ((i : Int) + 1)), (w9.heap.size, nV s.size), (w8.heap.size, nV B.size), (w7.heap.size, nV A.size), (w6.heap.size, sV s), (g2, sV B), (g1, sV A), (w3.heap.size, nV 1), (w2.heap.size, sV s)] (w11.alloc (.cells #[.int .i64 3, .int .i64 0, .string B] 23))) := ((P5.out.alloc _).call b11).push (sV B)
      clear b11 t0 t1 t2 l0 l1 l2 v0 v1 v2
      obtain ⟨p0, p1, p2, t0, t1, t2, q0, q1, q2, l0, l1, l2, m0, m1, m2, j0, j1, j2, b0, b1, b2, -, -, -, -, -, -, v0, v1, v2, -⟩ := P6.out.boxes
      simp only [sV, nV] at p0 p1 p2 t0 t1 t2 q0 q1 q2 l0 l1 l2 m0 m1 m2 j0 j1 j2 b0 b1 b2 v0 v1 v2
      have hsum := HSUM.out
      have e1 : decide ((1 : Int) ≤ (i : Int) + 1) = true := by simp; omega
      have e2 : decide ((i : Int) + 1 ≤ n + 1) = true := by simp; omega
      go_wp2_with fail
      go_ret
      exact ⟨rfl, P6.out.below⟩
end Go.Proofs.YtdffnkopbackiaaDoor
