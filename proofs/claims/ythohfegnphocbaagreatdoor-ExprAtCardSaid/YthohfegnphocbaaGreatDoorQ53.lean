/- Contract of the reference's Parse, where its first line is read as the grammar says. No condition. -/
import Derived.Test.YthohfegnphocbaaGreatDoorQ50
import Derived.Test.YthohfegnphocbaaGreatDoorQ27
import Derived.Test.YthohfegnphocbaaGreatDoorQ52
import Derived.Test.YthohfegnphocbaaGreatDoorQ35
namespace Go.Proofs.YthohfegnphocbaaGreatDoor
open Go.RowKit
set_option maxRecDepth 100000 in
set_option maxHeartbeats 16000000 in
theorem rParse (H1 : ∀ ts : List T, Toks ts → ∀ v, LineH ts 64 [] v 1) (s : ByteArray) (w : World) (hs : s.size ≤ 4096) :
    Calls Tryz.prog 11 #[.string s] w fun e w' => ∃ y, e = .returned (.tuple #[y, .int .i64 (parP s.data.toList).2.1, .int .i64 (parP s.data.toList).2.2]) ∧ EAt (fun k => w.heap.size ≤ k) w' (parP s.data.toList).1 y ∧ Below w.heap.size w w' := by
  obtain ⟨W1, hW1, q1, z1, r1⟩ := zero7 w
  have HW1 := Lib.hid hW1
  have hlen : s.data.toList.length = s.size := by show _ = s.data.size; exact Array.length_toList
  obtain ⟨k0, k1, k2, k3, k4, k5, k6⟩ := q1.cells
  obtain ⟨f0, f1, f2, f3, f4, f5, f6⟩ := q1.free
  have HC := Lib.hid (rCut_any s W1 hs)
  have hP : parP s.data.toList = match cutP 0 s.data.toList with
    | .error q => (e0, q, 60)
    | .ok ts => if (atX ts 0).2.2 = 0 then (if (here (ts.drop (atX ts 0).2.1)).k = 6 then ((atX ts 0).1, 0, 0) else (e0, (here (ts.drop (atX ts 0).2.1)).p, 70)) else (e0, (here (ts.drop (atX ts 0).2.1)).p, (atX ts 0).2.2) := by unfold parP; rw [if_neg (by omega)]; rfl
  rw [hP]
  clear hP
  cases hc : cutP 0 s.data.toList with
  | error q =>
    simp only
    have HX := Lib.hid (fun e w' (h : Gives W1 s.data.toList e w') => h.err hc)
    clear hc hs hlen H1
    go_enter Tryz.func11, Tryz.ntmps11
    go_wp2_with (rw [← HW1.out])
    refine (HC.out).mono ?_
    intro e w2 hg
    obtain ⟨rfl, b2⟩ := HX.out e w2 hg
    obtain ⟨W7, hW7, q7, z7, o7, b7⟩ := stored7 (q1.later b2) (.string ⟨#[]⟩) (.int .i64 0) (.int .i64 0) (.string ⟨#[]⟩) (.string ⟨#[]⟩) (.string ⟨#[]⟩) (.slice none 0 0)
    have HW7 := Lib.hid hW7
    obtain ⟨m0, m1, m2, m3, m4, m5, m6⟩ := (q1.later b2).cells
    obtain ⟨g0, g1, g2, g3, g4, g5, g6⟩ := (q1.later b2).free
    obtain ⟨l0, l1, l2, l3, l4, l5, l6⟩ := q7.cells
    have hfin : Below w.heap.size w W7 := (r1.trans (b2.mono (by omega))).trans (b7 _ (Nat.le_refl _))
    clear hg HX HC hW7
    go_wp2_with (rw [← HW7.out])
    exact bodyPost_ret (v := .tuple #[.agg #[.string ⟨#[]⟩, .int .i64 0, .int .i64 0, .string ⟨#[]⟩, .string ⟨#[]⟩, .string ⟨#[]⟩, .slice none 0 0], .int .i64 q, .int .i64 60]) (by simp [results, Tryz.results11, go_sem, l0, l1, l2, l3, l4, l5, l6]) rfl ⟨_, rfl, e0_at _ _, hfin⟩
  | ok ts =>
    simp only
    have HX := Lib.hid (fun e w' (h : Gives W1 s.data.toList e w') => h.ok hc)
    obtain ⟨hT, h0⟩ := toks_of hc (by omega)
    have hlt := atX_lt hT h0
    have her := atX_err ts 0
    have HAt := Lib.hid (fun V A c hA => rAt hT (H1 ts hT) V A c 0 h0 hA)
    have hlen5 := hT.len
    have hhd := here_drop hlt
    generalize hai : atX ts 0 = ai at *
    obtain ⟨a, i, r⟩ := ai
    simp only at hlt her HAt hhd ⊢
    rw [hhd]
    clear hc hs hlen H1 hT hai
    by_cases hr : r = 0
    · subst hr
      simp only [if_true]
      by_cases hk : ts[i].k = 6
      · simp only [hk, if_true]
        clear hhd
        go_enter Tryz.func11, Tryz.ntmps11
        go_wp2_with (rw [← HW1.out])
        refine (HC.out).mono ?_
        intro e w2 hg
        obtain ⟨⟨A, c, rfl, hcap, hta⟩, b2⟩ := HX.out e w2 hg
        have H2 := Lib.hid (HAt.out w2 A c hta)
        have q2 := q1.later b2
        clear hg HX HC HAt
        go_wp2_with fail
        refine (H2.out).mono ?_
        rintro e w3 ⟨y, rfl, a3, b3⟩
        obtain ⟨s0, i1, i2, s3, s4, s5, A9, n9, c9, rfl⟩ := a3.agg
        have q3 := q2.later b3
        obtain ⟨V6, V7, hV6, hV7, t6, t7, y7, kk6, kk7⟩ := made7 w3 (.string s0) (.int .i64 i1) (.int .i64 i2) (.string s3) (.string s4) (.string s5) (.slice A9 n9 c9)
        obtain ⟨x0, x1, x2, x3, x4, x5, x6⟩ := t6.free
        obtain ⟨X0, X1, X2, X3, X4, X5, X6⟩ := t6.cells
        obtain ⟨g, off, rfl, hg, hcl⟩ := ((hta.later b3).later kk7) h0
        obtain ⟨u0, u1, u2, u3⟩ := hcl i hlt
        obtain ⟨p0, p1, p2, p3, p4, p5, p6⟩ := t7.cells
        have q7 := q3.later kk7
        have hgne : g ≠ w.heap.size := by
          rintro rfl
          obtain ⟨v0, v1, v2, v3⟩ := hcl 0 h0
          rw [Nat.zero_mul, Nat.add_zero] at v0 v1 v2
          exact ne_box q7 v0 v1 v2
        have hgne2 : ¬ g = w.heap.size := hgne
        have hgne3 : ¬ w.heap.size = g := fun e => hgne e.symm
        have hz2 := b2.size
        have hz3 := b3.size
        have a7 := (a3.later kk7).wide (S' := fun k => w.heap.size + 1 ≤ k) (fun k hk => by omega)
        have hfin7 : Below w.heap.size w V7 := ((r1.trans (b2.mono (by omega))).trans (b3.mono (by omega))).trans (kk7.mono (by omega))
        have HV6 := Lib.hid hV6
        have HV7 := Lib.hid hV7
        have HA7 := Lib.hid a7
        have HF7 := Lib.hid hfin7
        have HQ7 := Lib.hid q7
        obtain ⟨k0', k1', k2', k3', k4', k5', k6'⟩ := q7.cells
        obtain ⟨f0', f1', f2', f3', f4', f5', f6'⟩ := q7.free
        have hiz : (i : Int) < (ts.length : Int) := by omega
        have hmin : min (i : Int) ((ts.length : Int) - 1) = (i : Int) := by omega
        clear hV6 hV7 a7 hfin7 q7 t6 t7 a3 kk6 kk7 q2 q3 hcl hta H2
        rw [hk] at u0
        obtain ⟨W9, hW9, q9, z9, o9, b9⟩ := stored7 HQ7.out (.string s0) (.int .i64 i1) (.int .i64 i2) (.string s3) (.string s4) (.string s5) (.slice A9 n9 c9)
        have HW9 := Lib.hid hW9
        obtain ⟨l0, l1, l2, l3, l4, l5, l6⟩ := q9.cells
        have HF9 := Lib.hid (HF7.out.trans (b9 _ (Nat.le_refl _)))
        have HA9 := Lib.hid (HA7.out.keep (S' := fun k => w.heap.size + 1 ≤ k) (fun k hk _ => ⟨hk, o9 k (by omega)⟩) (by omega))
        clear hW9 q9 b9 o9
        go_wp2_with (first | (rw [← HW9.out]) | (rw [← HV7.out]) | (rw [← HV6.out]))
        exact bodyPost_ret (v := .tuple #[.agg #[.string s0, .int .i64 i1, .int .i64 i2, .string s3, .string s4, .string s5, .slice A9 n9 c9], .int .i64 0, .int .i64 0]) (by simp [results, Tryz.results11, go_sem, l0, l1, l2, l3, l4, l5, l6]) rfl ⟨_, rfl, HA9.out.wide (fun k hk => by omega), HF9.out⟩
      · simp only [hk, if_false]
        clear hhd
        go_enter Tryz.func11, Tryz.ntmps11
        go_wp2_with (rw [← HW1.out])
        refine (HC.out).mono ?_
        intro e w2 hg
        obtain ⟨⟨A, c, rfl, hcap, hta⟩, b2⟩ := HX.out e w2 hg
        have H2 := Lib.hid (HAt.out w2 A c hta)
        have q2 := q1.later b2
        clear hg HX HC HAt
        go_wp2_with fail
        refine (H2.out).mono ?_
        rintro e w3 ⟨y, rfl, a3, b3⟩
        obtain ⟨s0, i1, i2, s3, s4, s5, A9, n9, c9, rfl⟩ := a3.agg
        have q3 := q2.later b3
        obtain ⟨V6, V7, hV6, hV7, t6, t7, y7, kk6, kk7⟩ := made7 w3 (.string s0) (.int .i64 i1) (.int .i64 i2) (.string s3) (.string s4) (.string s5) (.slice A9 n9 c9)
        obtain ⟨x0, x1, x2, x3, x4, x5, x6⟩ := t6.free
        obtain ⟨X0, X1, X2, X3, X4, X5, X6⟩ := t6.cells
        obtain ⟨g, off, rfl, hg, hcl⟩ := ((hta.later b3).later kk7) h0
        obtain ⟨u0, u1, u2, u3⟩ := hcl i hlt
        obtain ⟨p0, p1, p2, p3, p4, p5, p6⟩ := t7.cells
        have q7 := q3.later kk7
        have hgne : g ≠ w.heap.size := by
          rintro rfl
          obtain ⟨v0, v1, v2, v3⟩ := hcl 0 h0
          rw [Nat.zero_mul, Nat.add_zero] at v0 v1 v2
          exact ne_box q7 v0 v1 v2
        have hgne2 : ¬ g = w.heap.size := hgne
        have hgne3 : ¬ w.heap.size = g := fun e => hgne e.symm
        have hz2 := b2.size
        have hz3 := b3.size
        have a7 := (a3.later kk7).wide (S' := fun k => w.heap.size + 1 ≤ k) (fun k hk => by omega)
        have hfin7 : Below w.heap.size w V7 := ((r1.trans (b2.mono (by omega))).trans (b3.mono (by omega))).trans (kk7.mono (by omega))
        have HV6 := Lib.hid hV6
        have HV7 := Lib.hid hV7
        have HA7 := Lib.hid a7
        have HF7 := Lib.hid hfin7
        have HQ7 := Lib.hid q7
        obtain ⟨k0', k1', k2', k3', k4', k5', k6'⟩ := q7.cells
        obtain ⟨f0', f1', f2', f3', f4', f5', f6'⟩ := q7.free
        have hiz : (i : Int) < (ts.length : Int) := by omega
        have hmin : min (i : Int) ((ts.length : Int) - 1) = (i : Int) := by omega
        clear hV6 hV7 a7 hfin7 q7 t6 t7 a3 kk6 kk7 q2 q3 hcl hta H2
        have hkf : (ts[i].k == 6) = false := by simpa using hk
        generalize ts[i].k = tk at *
        obtain ⟨W9, hW9, q9, z9, o9, b9⟩ := stored7 HQ7.out (.string ⟨#[]⟩) (.int .i64 0) (.int .i64 0) (.string ⟨#[]⟩) (.string ⟨#[]⟩) (.string ⟨#[]⟩) (.slice none 0 0)
        have HW9 := Lib.hid hW9
        obtain ⟨l0, l1, l2, l3, l4, l5, l6⟩ := q9.cells
        have HF9 := Lib.hid (HF7.out.trans (b9 _ (Nat.le_refl _)))
        clear hW9 q9 b9 o9
        go_wp2_with (first | (rw [← HV7.out]) | (rw [← HV6.out]))
        go_region
        rw [← HW9.out]
        go_wp2_with fail
        exact bodyPost_ret (v := .tuple #[.agg #[.string ⟨#[]⟩, .int .i64 0, .int .i64 0, .string ⟨#[]⟩, .string ⟨#[]⟩, .string ⟨#[]⟩, .slice none 0 0], .int .i64 ts[i].p, .int .i64 70]) (by simp [results, Tryz.results11, go_sem, l0, l1, l2, l3, l4, l5, l6]) rfl ⟨_, rfl, e0_at _ _, HF9.out.drew⟩
    · simp only [hr, if_false]
      clear hhd
      go_enter Tryz.func11, Tryz.ntmps11
      go_wp2_with (rw [← HW1.out])
      refine (HC.out).mono ?_
      intro e w2 hg
      obtain ⟨⟨A, c, rfl, hcap, hta⟩, b2⟩ := HX.out e w2 hg
      have H2 := Lib.hid (HAt.out w2 A c hta)
      have q2 := q1.later b2
      clear hg HX HC HAt
      go_wp2_with fail
      refine (H2.out).mono ?_
      rintro e w3 ⟨y, rfl, a3, b3⟩
      obtain ⟨s0, i1, i2, s3, s4, s5, A9, n9, c9, rfl⟩ := a3.agg
      have q3 := q2.later b3
      obtain ⟨V6, V7, hV6, hV7, t6, t7, y7, kk6, kk7⟩ := made7 w3 (.string s0) (.int .i64 i1) (.int .i64 i2) (.string s3) (.string s4) (.string s5) (.slice A9 n9 c9)
      obtain ⟨x0, x1, x2, x3, x4, x5, x6⟩ := t6.free
      obtain ⟨X0, X1, X2, X3, X4, X5, X6⟩ := t6.cells
      obtain ⟨g, off, rfl, hg, hcl⟩ := ((hta.later b3).later kk7) h0
      obtain ⟨u0, u1, u2, u3⟩ := hcl i hlt
      obtain ⟨p0, p1, p2, p3, p4, p5, p6⟩ := t7.cells
      have q7 := q3.later kk7
      have hgne : g ≠ w.heap.size := by
        rintro rfl
        obtain ⟨v0, v1, v2, v3⟩ := hcl 0 h0
        rw [Nat.zero_mul, Nat.add_zero] at v0 v1 v2
        exact ne_box q7 v0 v1 v2
      have hgne2 : ¬ g = w.heap.size := hgne
      have hgne3 : ¬ w.heap.size = g := fun e => hgne e.symm
      have hz2 := b2.size
      have hz3 := b3.size
      have a7 := (a3.later kk7).wide (S' := fun k => w.heap.size + 1 ≤ k) (fun k hk => by omega)
      have hfin7 : Below w.heap.size w V7 := ((r1.trans (b2.mono (by omega))).trans (b3.mono (by omega))).trans (kk7.mono (by omega))
      have HV6 := Lib.hid hV6
      have HV7 := Lib.hid hV7
      have HA7 := Lib.hid a7
      have HF7 := Lib.hid hfin7
      have HQ7 := Lib.hid q7
      obtain ⟨k0', k1', k2', k3', k4', k5', k6'⟩ := q7.cells
      obtain ⟨f0', f1', f2', f3', f4', f5', f6'⟩ := q7.free
      have hiz : (i : Int) < (ts.length : Int) := by omega
      have hmin : min (i : Int) ((ts.length : Int) - 1) = (i : Int) := by omega
      clear hV6 hV7 a7 hfin7 q7 t6 t7 a3 kk6 kk7 q2 q3 hcl hta H2
      have hrf : (r == 0) = false := by simpa using hr
      generalize ts[i].k = tk at *
      obtain ⟨W9, hW9, q9, z9, o9, b9⟩ := stored7 HQ7.out (.string ⟨#[]⟩) (.int .i64 0) (.int .i64 0) (.string ⟨#[]⟩) (.string ⟨#[]⟩) (.string ⟨#[]⟩) (.slice none 0 0)
      have HW9 := Lib.hid hW9
      obtain ⟨l0, l1, l2, l3, l4, l5, l6⟩ := q9.cells
      have HF9 := Lib.hid (HF7.out.trans (b9 _ (Nat.le_refl _)))
      clear hW9 q9 b9 o9
      go_wp2_with (first | (rw [← HV7.out]) | (rw [← HV6.out]))
      go_region
      rw [← HW9.out]
      go_wp2_with fail
      exact bodyPost_ret (v := .tuple #[.agg #[.string ⟨#[]⟩, .int .i64 0, .int .i64 0, .string ⟨#[]⟩, .string ⟨#[]⟩, .string ⟨#[]⟩, .slice none 0 0], .int .i64 ts[i].p, .int .i64 r]) (by simp [results, Tryz.results11, go_sem, l0, l1, l2, l3, l4, l5, l6]) rfl ⟨_, rfl, e0_at _ _, HF9.out.drew⟩
set_option maxRecDepth 100000 in
set_option maxHeartbeats 8000000 in
theorem rParse_long (s : ByteArray) (w : World) (hs : 4096 < s.size) :
    Calls Tryz.prog 11 #[.string s] w fun e w' => ∃ y, e = .returned (.tuple #[y, .int .i64 (0 : Nat), .int .i64 2]) ∧ EAt (fun k => w.heap.size ≤ k) w' e0 y ∧ Below w.heap.size w w' := by
  obtain ⟨W1, hW1, q1, z1, r1⟩ := zero7 w
  have HW1 := Lib.hid hW1
  have HC := Lib.hid (rCut_long s W1 hs)
  obtain ⟨W7, hW7, q7, z7, o7, b7⟩ := stored7 q1 (.string ⟨#[]⟩) (.int .i64 0) (.int .i64 0) (.string ⟨#[]⟩) (.string ⟨#[]⟩) (.string ⟨#[]⟩) (.slice none 0 0)
  have HW7 := Lib.hid hW7
  obtain ⟨m0, m1, m2, m3, m4, m5, m6⟩ := q1.cells
  obtain ⟨g0, g1, g2, g3, g4, g5, g6⟩ := q1.free
  obtain ⟨l0, l1, l2, l3, l4, l5, l6⟩ := q7.cells
  have HF := Lib.hid (r1.trans (b7 _ (Nat.le_refl _)))
  clear hW1 hW7 q1 q7 o7 b7 r1 hs
  go_enter Tryz.func11, Tryz.ntmps11
  go_wp2_with (rw [← HW1.out])
  refine (HC.out).mono ?_
  rintro e w2 ⟨rfl, rfl⟩
  go_wp2_with (rw [← HW7.out])
  exact bodyPost_ret (v := .tuple #[.agg #[.string ⟨#[]⟩, .int .i64 0, .int .i64 0, .string ⟨#[]⟩, .string ⟨#[]⟩, .string ⟨#[]⟩, .slice none 0 0], .int .i64 0, .int .i64 2]) (by simp [results, Tryz.results11, go_sem, l0, l1, l2, l3, l4, l5, l6]) rfl ⟨_, rfl, e0_at _ _, HF.out⟩
theorem rParse_any (H1 : ∀ ts : List T, Toks ts → ∀ v, LineH ts 64 [] v 1) (s : ByteArray) (w : World) :
    Calls Tryz.prog 11 #[.string s] w fun e w' => ∃ y, e = .returned (.tuple #[y, .int .i64 (parP s.data.toList).2.1, .int .i64 (parP s.data.toList).2.2]) ∧ EAt (fun k => w.heap.size ≤ k) w' (parP s.data.toList).1 y ∧ Below w.heap.size w w' := by
  by_cases hs : s.size ≤ 4096
  · exact rParse H1 s w hs
  · have hlen : s.data.toList.length = s.size := by show _ = s.data.size; exact Array.length_toList
    have hP : parP s.data.toList = (e0, 0, 2) := by unfold parP; rw [if_pos (by omega)]
    rw [hP]
    exact rParse_long s w (by omega)
end Go.Proofs.YthohfegnphocbaaGreatDoor
namespace Go.Proofs.YthohfegnphocbaaGreatDoor
open Go.RowKit
theorem rAll {ts : List T} (hT : Toks ts) (t : TypeId) (ex : List Value) (v n : Nat) (h1 : 1 ≤ n) (h9 : n ≤ 9) : LineH ts t ex v n :=
  (rLines hT t ex (fun v h5 hl => rRel hT t ex v h5 hl) v).1 n h1 h9
theorem rAt_any {ts : List T} (hT : Toks ts) (w : World) (A : Option Addr) (c i : Nat) (hi : i < ts.length) (hA : TAt w w.heap.size A ts) :
    Calls Tryz.prog 15 #[.slice A ts.length c, .int .i64 i] w fun e w' => ∃ y, e = .returned (.tuple #[y, .int .i64 (atX ts i).2.1, .int .i64 (atX ts i).2.2]) ∧ EAt (fun k => w.heap.size ≤ k) w' (atX ts i).1 y ∧ Below w.heap.size w w' :=
  rAt hT (fun v => rAll hT 64 [] v 1 (by omega) (by omega)) w A c i hi hA
theorem rPar_any (s : ByteArray) (w : World) :
    Calls Tryz.prog 11 #[.string s] w fun e w' => ∃ y, e = .returned (.tuple #[y, .int .i64 (parP s.data.toList).2.1, .int .i64 (parP s.data.toList).2.2]) ∧ EAt (fun k => w.heap.size ≤ k) w' (parP s.data.toList).1 y ∧ Below w.heap.size w w' :=
  rParse_any (fun ts hT v => rAll hT 64 [] v 1 (by omega) (by omega)) s w
end Go.Proofs.YthohfegnphocbaaGreatDoor
namespace Go.Proofs.YthohfegnphocbaaGreatDoor
open Go.RowKit
set_option maxRecDepth 100000 in
set_option maxHeartbeats 4000000 in
theorem parses_any (s : ByteArray) (w : World) (hE : Env w) (hV : BV.Env w) : Calls Tryz.prog 3 #[.string s] w fun r w' => r = .returned (.bool true) ∧ Below w.heap.size w w' := by
  have HL := Lib.hid (live_any w hE hV)
  have HP := Lib.hid (fun W (hb : Below w.heap.size w W) => parse_any s W (hE.later hb))
  have HR := Lib.hid (fun W => rPar_any s W)
  generalize parP s.data.toList = pp at *
  obtain ⟨e, q, r0⟩ := pp
  simp only at HP HR
  have HSame := Lib.hid (fun (W : World) (x y : Value) (hx : EAt (fun _ => True) W e x) (hy : EAt (fun _ => True) W e y) => rSame_any e e x y _ _ W hx hy)
  rw [same_refl] at HSame
  clear hE hV
  go_enter Tryz.func3, Tryz.ntmps3
  go_wp2_with fail
  refine HL.out.mono ?_
  rintro r w2 ⟨rfl, b2⟩
  have HP2 := Lib.hid (HP.out w2 b2)
  have B2 := Lib.hid b2
  clear b2 HL HP
  go_wp2_with fail
  refine HP2.out.mono ?_
  rintro r w3 ⟨y, rfl, hy, b3⟩
  obtain ⟨s0, i1, i2, s3, s4, s5, A9, n9, c9, rfl⟩ := hy.agg
  obtain ⟨WB, hWB, qB, zB, mB⟩ := box7 w3 (.string s0) (.int .i64 i1) (.int .i64 i2) (.string s3) (.string s4) (.string s5) (.slice A9 n9 c9)
  have HY := Lib.hid ((hy.wide (S' := fun _ => True) (fun _ _ => trivial)).later mB)
  have HB3 := Lib.hid (bthen (bthen B2.out b3) mB)
  have HQ := Lib.hid qB
  have HWB := Lib.hid hWB
  have HR4 := Lib.hid (HR.out WB)
  clear hWB qB mB hy b3 B2 HP2 HR
  go_wp2_with (rw [← HWB.out])
  refine HR4.out.mono ?_
  rintro r w4 ⟨y2, rfl, hy2, b4⟩
  obtain ⟨r0', j1, j2, r3, r4, r5, B9, m9, k9, rfl⟩ := hy2.agg
  obtain ⟨WC, hWC, qC, zC, mC⟩ := box7 w4 (.string r0') (.int .i64 j1) (.int .i64 j2) (.string r3) (.string r4) (.string r5) (.slice B9 m9 k9)
  have HY2 := Lib.hid ((hy2.wide (S' := fun _ => True) (fun _ _ => trivial)).later mC)
  have HY1 := Lib.hid ((HY.out.later b4).later mC)
  have HB4 := Lib.hid (bthen (bthen HB3.out b4) mC)
  obtain ⟨v0, v1, v2, v3, v4, v5, v6⟩ := ((HQ.out.later b4).later mC).cells
  obtain ⟨u0, u1, u2, u3, u4, u5, u6⟩ := qC.cells
  have HS5 := Lib.hid (HSame.out WC _ _ HY1.out HY2.out)
  have HWC := Lib.hid hWC
  clear hWC qC mC hy2 b4 HQ HY HY1 HY2 HSame HB3 HR4
  go_wp2_with (rw [← HWC.out])
  refine HS5.out.mono ?_
  rintro r w5 ⟨rfl, b5⟩
  have HB5 := Lib.hid (bthen HB4.out b5)
  clear b5 HB4 HS5
  go_wp2_with fail
  go_ret
  exact ⟨rfl, HB5.out⟩
end Go.Proofs.YthohfegnphocbaaGreatDoor
namespace Go.Proofs.YthohfegnphocbaaGreatDoor
open Go.RowKit
theorem place_of (k : Int) (n : Nat) (hn : 0 < n) (hn5 : n ≤ 5000) : ∃ i : Nat, i < n ∧ (k.tmod n + n).tmod n = (i : Int) ∧ -5000 ≤ k.tmod n ∧ k.tmod n ≤ 5000 := by
  have h1 : k.tmod n < n := Int.tmod_lt_of_pos _ (by omega)
  have h2 : -(n : Int) < k.tmod n := by
    have := Int.tmod_lt_of_pos (-k) (b := (n : Int)) (by omega)
    rw [Int.neg_tmod] at this
    omega
  have h3 : 0 ≤ (k.tmod n + n).tmod n := Int.tmod_nonneg _ (by omega)
  have h4 : (k.tmod n + n).tmod n < n := Int.tmod_lt_of_pos _ (by omega)
  exact ⟨((k.tmod n + n).tmod n).toNat, by omega, by omega, by omega, by omega⟩
set_option maxRecDepth 100000 in
set_option maxHeartbeats 4000000 in
theorem lawAt_any (s : ByteArray) (k : Int) (w : World) (hE : Env w) (hV : BV.Env w) (_hk : -9223372036854775808 ≤ k ∧ k ≤ 9223372036854775807) : Calls Tryz.prog 4 #[.string s, .int .i64 k] w fun r w' => r = .returned (.bool true) ∧ Below w.heap.size w w' := by
  have HL := Lib.hid (live_any w hE hV)
  have hbad : ∀ q r : Int, r ≠ 0 → (∀ W, Below w.heap.size w W → Calls Tryz.prog 13 #[.string s] W fun e w' => e = .returned (.tuple #[.slice none 0 0, .int .i64 q, .int .i64 r]) ∧ Below W.heap.size W w') → Calls Tryz.prog 4 #[.string s, .int .i64 k] w fun r w' => r = .returned (.bool true) ∧ Below w.heap.size w w' := by
    intro q r hr HC0
    have HC := Lib.hid HC0
    have hrf : (r != 0) = true := by simpa using hr
    clear HC0 hE hV hr
    go_enter Tryz.func4, Tryz.ntmps4
    go_wp2_with fail
    refine HL.out.mono ?_
    rintro e w2 ⟨rfl, b2⟩
    have HC2 := Lib.hid (HC.out w2 b2)
    have B2 := Lib.hid b2
    clear b2 HL HC
    go_wp2_with fail
    refine HC2.out.mono ?_
    rintro e w3 ⟨rfl, b3⟩
    have B3 := Lib.hid (bthen B2.out b3)
    clear b3 HC2
    go_wp2_with fail
    go_ret
    exact ⟨rfl, B3.out⟩
  have hlen : s.data.toList.length = s.size := by show _ = s.data.size; exact Array.length_toList
  by_cases hs : s.size ≤ 4096
  · cases hc : cutP 0 s.data.toList with
    | error q => exact hbad q 60 (by decide) (fun W _ => (rCut_any s W hs).mono fun e w' h => h.err hc)
    | ok ts =>
      clear hbad
      obtain ⟨hT, h0⟩ := toks_of hc (by omega)
      obtain ⟨i, hi, hik, hk1, hk2⟩ := place_of k ts.length h0 hT.len
      have HC := Lib.hid (fun W => rCut_any s W hs)
      have HX := Lib.hid (fun W e w' (h : Gives W s.data.toList e w') => h.ok hc)
      have HA := Lib.hid (fun W A c (hA : TAt W W.heap.size A ts) => atE_any hT W A c i hi hA)
      have HR := Lib.hid (fun W A c (hA : TAt W W.heap.size A ts) => rAt_any hT W A c i hi hA)
      generalize atX ts i = pp at *
      obtain ⟨e, q, r0⟩ := pp
      simp only at HA HR
      have HSame := Lib.hid (fun (W : World) (x y : Value) (hx : EAt (fun _ => True) W e x) (hy : EAt (fun _ => True) W e y) => rSame_any e e x y _ _ W hx hy)
      rw [same_refl] at HSame
      have hlen5 := hT.len
      have hn0 : ¬ (ts.length : Int) = 0 := by omega
      have hwr : IntKind.i64.wrap (k.tmod (ts.length : Int) + (ts.length : Int)) = k.tmod (ts.length : Int) + (ts.length : Int) := IntWalk.i64_in _ (by omega)
      clear hE hV hc hs hlen
      go_enter Tryz.func4, Tryz.ntmps4
      go_wp2_with fail
      refine HL.out.mono ?_
      rintro e0' w2 ⟨rfl, b2⟩
      have HC2 := Lib.hid (HC.out w2)
      have B2 := Lib.hid b2
      clear b2 HL HC
      go_wp2_with fail
      refine HC2.out.mono ?_
      intro e1 w3 hg
      obtain ⟨⟨A, c, rfl, hcap, hta⟩, b3⟩ := HX.out _ _ _ hg
      have HA3 := Lib.hid (HA.out w3 A c hta)
      have HT3 := Lib.hid hta
      have B3 := Lib.hid (bthen B2.out b3)
      clear b3 hg HC2 HX HA hta B2
      go_wp2_with fail
      refine HA3.out.mono ?_
      rintro r w4 ⟨y, rfl, hy, b4⟩
      obtain ⟨s0, i1, i2, s3, s4, s5, A9, n9, c9, rfl⟩ := hy.agg
      obtain ⟨WB, hWB, qB, zB, mB⟩ := box7 w4 (.string s0) (.int .i64 i1) (.int .i64 i2) (.string s3) (.string s4) (.string s5) (.slice A9 n9 c9)
      have HY := Lib.hid ((hy.wide (S' := fun _ => True) (fun _ _ => trivial)).later mB)
      have HTB := Lib.hid ((HT3.out.later b4).later mB)
      have HB4 := Lib.hid (bthen (bthen B3.out b4) mB)
      have HQ := Lib.hid qB
      have HWB := Lib.hid hWB
      have HR4 := Lib.hid (HR.out WB A c HTB.out)
      clear hWB qB mB hy b4 B3 HA3 HR HTB HT3
      go_wp2_with (rw [← HWB.out])
      refine HR4.out.mono ?_
      rintro r w5 ⟨y2, rfl, hy2, b5⟩
      obtain ⟨r0', j1, j2, r3, r4, r5, B9, m9, k9, rfl⟩ := hy2.agg
      obtain ⟨WC, hWC, qC, zC, mC⟩ := box7 w5 (.string r0') (.int .i64 j1) (.int .i64 j2) (.string r3) (.string r4) (.string r5) (.slice B9 m9 k9)
      have HY2 := Lib.hid ((hy2.wide (S' := fun _ => True) (fun _ _ => trivial)).later mC)
      have HY1 := Lib.hid ((HY.out.later b5).later mC)
      have HB5 := Lib.hid (bthen (bthen HB4.out b5) mC)
      obtain ⟨v0, v1, v2, v3, v4, v5, v6⟩ := ((HQ.out.later b5).later mC).cells
      obtain ⟨u0, u1, u2, u3, u4, u5, u6⟩ := qC.cells
      have HS5 := Lib.hid (HSame.out WC _ _ HY1.out HY2.out)
      have HWC := Lib.hid hWC
      clear hWC qC mC hy2 b5 HQ HY HY1 HY2 HSame HB4 HR4
      go_wp2_with (rw [← HWC.out])
      refine HS5.out.mono ?_
      rintro r w6 ⟨rfl, b6⟩
      have HB6 := Lib.hid (bthen HB5.out b6)
      clear b6 HB5 HS5
      go_wp2_with fail
      go_ret
      exact ⟨rfl, HB6.out⟩
  · exact hbad 0 2 (by decide) (fun W _ => (rCut_long s W (by omega)).mono fun e w' ⟨h1, h2⟩ => ⟨h1, by rw [h2]; exact .refl _ _⟩)
end Go.Proofs.YthohfegnphocbaaGreatDoor
