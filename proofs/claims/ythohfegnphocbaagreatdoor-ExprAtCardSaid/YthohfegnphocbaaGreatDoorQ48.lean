/- Contract of the reference's list. No condition. -/
import Derived.Test.YthohfegnphocbaaGreatDoorQ47
namespace Go.Proofs.YthohfegnphocbaaGreatDoor
open Go.RowKit
theorem OwnL.nil (w : World) (B : Nat) (S : Nat → Prop) : OwnL w B S [] false (.slice none 0 0) :=
  ⟨[], World.ownsRow_nil w B 27 7, fun r hr => by simp at hr, rfl, fun _ => rfl⟩
theorem app_step {w wr w1 : World} {b : Nat} {ts : List T} {A : Option Addr} {c p1 : Nat} {dd : Bool} {t : TypeId} {ex : List Value} {xs : List E} {u : Value} {e : E} {s0 s3 s4 s5 : ByteArray} {i1 i2 : Int} {A9 : Option Addr} {n9 c9 : Nat}
    (R1 : RR w1 b ts A c p1 dd t ex) (hB : But b w wr) (b1 : But b wr w1) (HW : OwnL wr w.heap.size (fun k => w.heap.size ≤ k) xs false u) (g1 : Got w1 (fun k => wr.heap.size ≤ k) e dd (.agg #[.string s0, .int .i64 i1, .int .i64 i2, .string s3, .string s4, .string s5, .slice A9 n9 c9])) (hbw : b < w.heap.size) (hm : xs.length ≤ 1000000) :
    ∃ (WB : World) (f : E) (v6 : Value) (w6 : World), WB = w1.alloc (.cells #[.string s0, .int .i64 i1, .int .i64 i2, .string s3, .string s4, .string s5, .slice A9 n9 c9] 27) ∧ B7 WB w1.heap.size (.string s0) (.int .i64 i1) (.int .i64 i2) (.string s3) (.string s4) (.string s5) (.slice A9 n9 c9) ∧ (dd = false → f = e) ∧
      (Builtin.append_ #[25, 25] 25 #[u, .slice (some ⟨WB.heap.size, 0, none⟩) 1 1]).run Tryz.prog (WB.alloc (.cells #[.string s0, .int .i64 i1, .int .i64 i2, .string s3, .string s4, .string s5, .slice A9 n9 c9] 27)) = .ok v6 w6 ∧ Hid (OwnL w6 w.heap.size (fun k => w.heap.size ≤ k) (xs ++ [f]) false v6) ∧ Hid (But b w w6) ∧ Hid (RR w6 b ts A c p1 dd t ex) := by
  obtain ⟨WB, hWB, qB, zB, mB⟩ := box7 w1 (.string s0) (.int .i64 i1) (.int .i64 i2) (.string s3) (.string s4) (.string s5) (.slice A9 n9 c9)
  obtain ⟨r, hx, hs, hr⟩ := g1.row
  have hc := Value.agg.inj hx
  have hz := hB.size
  have hz1 := b1.size
  have HO1 := HW.keep (S' := fun k => w.heap.size ≤ k) (fun k hk hlt => ⟨hk, b1.block k hlt (by omega)⟩) (.inr ⟨b, hbw, b1⟩) (by omega)
  have HOB := HO1.keep (S' := fun k => w.heap.size ≤ k) (fun k hk hlt => ⟨hk, mB.block k hlt⟩) (.inr ⟨b, hbw, .of mB (Nat.le_refl _)⟩) (by omega)
  have hown : ∀ k, u.ownBlock = some k → w.heap.size ≤ k ∧ k < wr.heap.size := fun k hk => by
    obtain ⟨rs, h1, -⟩ := HW
    exact h1.lt k hk
  have hsB : Sub (fun k => w.heap.size ≤ k ∧ u.ownBlock ≠ some k) WB r.1 r.2.1 r.2.2 := hs.keep (fun k hk hlt => ⟨⟨by omega, fun e => by have := hown k e; omega⟩, mB.block k hlt⟩) mB.size
  have hbB := (hB.trans b1).then mB
  obtain ⟨v6, w6, r6, ho6, hb6, hk6, hz6⟩ := ownL_app HOB r (e := r.1) hsB (fun _ => rfl) hm (by omega) b hbB (Nat.le_refl _) WB.heap.size rfl
  rw [← hc] at r6
  refine ⟨WB, r.1, v6, w6, hWB, qB, hr, r6, Lib.hid ho6, Lib.hid hb6, Lib.hid ?_⟩
  have RB := R1.later mB
  refine ⟨(hk6 b (by omega) ?_).trans RB.box, ?_, RB.hp⟩
  · intro e
    have := (hown b e).1
    omega
  · refine RB.toks.below ⟨hb6.os.trans hbB.os.symm, hb6.tape.trans hbB.tape.symm, hb6.output.trans hbB.output.symm, hz6, fun k hk => hk6 k (by omega) ?_⟩
    intro e
    have := (hown k e).1
    omega
theorem rank_add {ts : List T} {p v M : Nat} {d : Bool} (h : rank ts p d ≤ v) : rank ts (p + M) d ≤ v := by
  unfold rank at *
  cases d
  · simp only [Bool.false_eq_true, if_false] at *; omega
  · simp
set_option maxRecDepth 100000 in
set_option maxHeartbeats 8000000 in
theorem rList {ts : List T} (hT : Toks ts) (t : TypeId) (ex : List Value) (v : Nat) (H1 : LineH ts t ex v 1) : ListH ts t ex v := by
  intro p d w b A c h hr
  have HT := Lib.hid hT
  have hlen := hT.len
  have hbw := h.lt
  have HL := Lib.hid (fun (M : Nat) (w : World) (R : RR w b ts A c (p + M) d t ex) => H1 (p + M) d w b A c R (rank_add hr))
  obtain ⟨xc, hxc⟩ : ∃ xc, xc = xd d (ls resB (ts.drop p)) := ⟨_, rfl⟩
  rw [← hxc]
  have HX0 : Hid (xc = seqX (okX () 0) fun _ _ => seqX (xd d (ls resB (ts.drop (p + 0)))) fun ys _ => okX ([] ++ ys) 0) := Lib.hid (by
    rw [hxc]
    simp only [Nat.add_zero, List.nil_append]
    rcases xd d (ls resB (ts.drop p)) with q | ⟨l, m⟩ <;> simp [seqX, okX])
  have H0 := Lib.hid (show RR w b ts A c (p + 0) d t ex from h)
  clear hT h hxc H1 hr
  go_enter Tryz.func112, Tryz.ntmps112
  go_wp2_with fail
  go_loopw [3] (fun lv wr => ∃ (xs : List E) (M : Nat) (u : Value), u = lv ∧ xs.length ≤ M ∧ Hid (RR wr b ts A c (p + M) d t ex) ∧ Hid (OwnL wr w.heap.size (fun k => w.heap.size ≤ k) xs false u) ∧ Hid (But b w wr) ∧ Hid (xc = seqX (okX () M) fun _ _ => seqX (xd d (ls resB (ts.drop (p + M)))) fun ys _ => okX (xs ++ ys) 0)) (fun _ wr => ts.length - posOf wr b)
  case atStart => exact ⟨[], 0, _, rfl, Nat.le_refl _, H0, Lib.hid (OwnL.nil _ _ _), Lib.hid (But.refl _ _), HX0⟩
  case round =>
    obtain ⟨xs, M, u, rfl, hxM, HR, HW, HB, HXC⟩ := hrel
    have hz := HB.out.size
    have hp := HR.out.hp
    have hpos := HR.out.pos
    have HC := Lib.hid (HL.out M wr HR.out)
    have hxc := HXC.out
    rw [ls_eq] at hxc
    obtain ⟨x1, hx1⟩ : ∃ x1, x1 = xd d (ln resB 1 (ts.drop (p + M))) := ⟨_, rfl⟩
    rw [← hx1] at HC
    have F1 : Hid (∀ q, x1 = .error q → xc = .error (M + q)) := Lib.hid (by
      intro q hq
      rw [hxc]
      cases d with
      | true => rw [hx1, xd_t] at hq; have : q = 0 := by simpa [badX] using hq.symm
                subst this; simp [xd_t, seqX, okX, badX]
      | false => rw [hx1, xd_f] at hq; simp [xd_f, hq, seqX, okX])
    have F2 : Hid (∀ a m, x1 = .ok (a, m) → d = false ∧ 1 ≤ m ∧ xc = seqX (okX () M) fun _ _ => seqX (seqX (okX a m) fun x m => if isS [44] (ts.drop (p + M + m)) then seqX (okX () 1) fun _ _ => seqX (ls resB (ts.drop (p + M + (m + 1)))) fun xs _ => okX (x :: xs) 0 else okX [x] 0) fun ys _ => okX (xs ++ ys) 0) := Lib.hid (by
      intro a m hq
      cases d with
      | true => rw [hx1, xd_t] at hq; cases hq
      | false =>
        rw [hx1, xd_f] at hq
        refine ⟨rfl, ln_pos resB (by omega) (by omega) hq, ?_⟩
        rw [hxc, xd_f, hq]
        simp only [List.drop_drop]
        rfl)
    clear hxc hx1 HXC
    go_wp2_with fail
    refine (HC.out).mono ?_
    rintro r w1 ⟨⟨y, rfl, g1, R1⟩, b1⟩
    obtain ⟨s0, i1, i2, s3, s4, s5, A9, n9, c9, rfl⟩ := g1.agg
    obtain ⟨WB, f, v6, w6, hWB, qB, hf, r6, HO6, HB6, HR6⟩ := app_step R1 HB.out b1 HW.out g1 hbw (by omega)
    obtain ⟨v0, v1, v2, v3, v4, v5, v6'⟩ := qB.cells
    have HWB := Lib.hid hWB
    clear hWB qB R1 b1 g1 HC HR HW HB
    have hz6 := HB6.out.size
    rcases x1 with q | ⟨a, m⟩
    · have hxe := F1.out q rfl
      change Hid (RR w6 b ts A c (p + M + q) true t ex) at HR6
      obtain ⟨c0, c1, c2, f1, f2⟩ := HR6.out.cells
      subst hxe
      clear F1 F2 hf
      go_wp2_with (first | (rw [← HWB.out]) | (at_builtin; refine Lib.wpList_append_run_sl _ rfl _ _ 25 rfl _ _ rfl rfl r6 ?_))
      go_ret
      exact ⟨⟨_, xs ++ [f], rfl, HO6.out, (fun hh => by cases hh), by simp; omega, HR6.out.eqp (by show _ = p + (M + q); omega)⟩, HB6.out⟩
    · obtain ⟨hd, hm, hxe⟩ := F2.out a m rfl
      change Hid (RR w6 b ts A c (p + M + m) false t ex) at HR6
      obtain rfl : f = a := hf rfl
      have hp6 := HR6.out.hp
      obtain ⟨c0, c1, c2, f1, f2⟩ := HR6.out.cells
      clear F1 F2
      by_cases hc : isS [44] (ts.drop (p + M + m)) = true
      · have hE := Lib.hid (rEatT HT.out ⟨#[44]⟩ w6 b A c (p + M + m) t ex HR6.out hc)
        have HXN : Hid (xc = seqX (okX () (M + m + 1)) fun _ _ => seqX (xd d (ls resB (ts.drop (p + (M + m + 1))))) fun ys _ => okX ((xs ++ [f]) ++ ys) 0) := Lib.hid (by
          rw [hxe, hd, xd_f, show p + (M + m + 1) = p + M + (m + 1) by omega]
          simp only [seqX, okX, hc, if_true]
          rcases ls resB (ts.drop (p + M + (m + 1))) with q | ⟨ys, q⟩ <;> simp <;> omega)
        clear hxe
        go_wp2_with (first | (rw [← HWB.out]) | (at_builtin; refine Lib.wpList_append_run_sl _ rfl _ _ 25 rfl _ _ rfl rfl r6 ?_))
        refine (hE.out).mono ?_
        rintro r w7 ⟨rfl, R7, b7⟩
        have hpos7 := R7.pos
        have hp7 := R7.hp
        have HO7 := HO6.out.keep (S' := fun k => w.heap.size ≤ k) (fun k hk hlt => ⟨hk, b7.block k hlt (by omega)⟩) (.inr ⟨b, hbw, b7⟩) (by omega)
        have HB7 := HB6.out.trans b7
        have HR7 : RR w7 b ts A c (p + (M + m + 1)) d t ex := by rw [hd]; exact R7.eqp (by omega)
        have h1 := Lib.hid HO7
        have h2 := Lib.hid HB7
        have h3 := Lib.hid HR7
        clear HO7 HB7 HR7 R7 b7 hE
        go_wp2_with fail
        go_roundw
        case measure => rw [hpos7, hpos]; omega
        case rel => exact ⟨xs ++ [f], M + m + 1, _, rfl, by simp; omega, h3, h1, h2, HXN⟩
      · have hcf : isS [44] (ts.drop (p + M + m)) = false := by simpa using hc
        have hE := Lib.hid (rEatF HT.out ⟨#[44]⟩ w6 b A c (p + M + m) t ex false HR6.out hcf)
        have HXN : xc = .ok (xs ++ [f], M + m) := by
          rw [hxe]
          simp [seqX, okX, hcf]
        subst HXN
        clear hxe
        go_wp2_with (first | (rw [← HWB.out]) | (at_builtin; refine Lib.wpList_append_run_sl _ rfl _ _ 25 rfl _ _ rfl rfl r6 ?_))
        refine (hE.out).mono ?_
        rintro r w7 ⟨rfl, R7, b7⟩
        have hp7 := R7.hp
        have HO7 := HO6.out.keep (S' := fun k => w.heap.size ≤ k) (fun k hk hlt => ⟨hk, b7.block k hlt (by omega)⟩) (.inr ⟨b, hbw, b7⟩) (by omega)
        have h1 := Lib.hid HO7
        have h2 := Lib.hid (HB6.out.trans b7)
        have h3 := Lib.hid (R7.eqp (show p + M + m = p + (M + m) by omega))
        clear HO7 R7 b7 hE
        go_wp2_with fail
        go_ret
        exact ⟨⟨_, xs ++ [f], rfl, h1.out, (fun _ => rfl), by simp; omega, h3.out⟩, h2.out⟩
end Go.Proofs.YthohfegnphocbaaGreatDoor
namespace Go.Proofs.YthohfegnphocbaaGreatDoor
open Go.RowKit
set_option maxRecDepth 100000 in
set_option maxHeartbeats 8000000 in
theorem line_4 {ts : List T} (t : TypeId) (ex : List Value) (w : World) (b : Nat) (A : Option Addr) (c p : Nat) (d : Bool) (h : RR w b ts A c p d t ex) (x : X E)
    (HP : ∀ w', RR w' b ts A c p d t ex → Calls Tryz.prog 70 #[.pointer (some ⟨b, 0, none⟩)] w' (Rq ts b A c p t ex w' (fun k => w'.heap.size ≤ k) x)) :
    Calls Tryz.prog 35 #[.pointer (some ⟨b, 0, none⟩), .int .i64 4] w (Rq ts b A c p t ex w (fun k => w.heap.size ≤ k) x) := by
  obtain ⟨W1, hW1, I3⟩ := Inv.start h
  have HW1 := Lib.hid hW1
  have H3 := Lib.hid (HP W1 I3.out.R)
  have hz3 := I3.out.lt2
  clear hW1 h HP
  go_enter Tryz.func35, Tryz.ntmps35
  go_wp2_with (rw [← HW1.out])
  refine H3.out.mono ?_
  rintro r w4 ⟨⟨y, rfl, G4, R4⟩, b4⟩
  have I4 := Lib.hid (I3.out.but b4 R4)
  obtain ⟨s0, i1, i2, s3, s4, s5, A9, n9, c9, rfl⟩ := G4.agg
  have G5 := G4.wide (S' := fun k => w.heap.size < k) (fun k hk _ => by omega)
  clear b4 R4 G4 H3 I3
  obtain ⟨W9, hW9, q9, HR9, HG9, HB9⟩ := I4.out.put G5
  have HW9 := Lib.hid hW9
  obtain ⟨x0, x1, x2, x3, x4, x5, x6⟩ := I4.out.q.cells
  obtain ⟨g0, g1, g2, g3, g4, g5, g6⟩ := I4.out.q.free
  obtain ⟨l0, l1, l2, l3, l4, l5, l6⟩ := q9.cells
  clear hW9 q9 G5
  go_wp2_with (rw [← HW9.out])
  exact bodyPost_ret (v := .agg #[.string s0, .int .i64 i1, .int .i64 i2, .string s3, .string s4, .string s5, .slice A9 n9 c9]) (by simp [results, Tryz.results35, go_sem, l0, l1, l2, l3, l4, l5, l6]) rfl ⟨⟨_, rfl, HG9.out, HR9.out⟩, HB9.out⟩
set_option maxRecDepth 100000 in
set_option maxHeartbeats 8000000 in
theorem line_8 {ts : List T} (t : TypeId) (ex : List Value) (w : World) (b : Nat) (A : Option Addr) (c p : Nat) (d : Bool) (h : RR w b ts A c p d t ex) (x : X E)
    (HP : ∀ w', RR w' b ts A c p d t ex → Calls Tryz.prog 71 #[.pointer (some ⟨b, 0, none⟩)] w' (Rq ts b A c p t ex w' (fun k => w'.heap.size ≤ k) x)) :
    Calls Tryz.prog 35 #[.pointer (some ⟨b, 0, none⟩), .int .i64 8] w (Rq ts b A c p t ex w (fun k => w.heap.size ≤ k) x) := by
  obtain ⟨W1, hW1, I3⟩ := Inv.start h
  have HW1 := Lib.hid hW1
  have H3 := Lib.hid (HP W1 I3.out.R)
  have hz3 := I3.out.lt2
  clear hW1 h HP
  go_enter Tryz.func35, Tryz.ntmps35
  go_wp2_with (rw [← HW1.out])
  refine H3.out.mono ?_
  rintro r w4 ⟨⟨y, rfl, G4, R4⟩, b4⟩
  have I4 := Lib.hid (I3.out.but b4 R4)
  obtain ⟨s0, i1, i2, s3, s4, s5, A9, n9, c9, rfl⟩ := G4.agg
  have G5 := G4.wide (S' := fun k => w.heap.size < k) (fun k hk _ => by omega)
  clear b4 R4 G4 H3 I3
  obtain ⟨W9, hW9, q9, HR9, HG9, HB9⟩ := I4.out.put G5
  have HW9 := Lib.hid hW9
  obtain ⟨x0, x1, x2, x3, x4, x5, x6⟩ := I4.out.q.cells
  obtain ⟨g0, g1, g2, g3, g4, g5, g6⟩ := I4.out.q.free
  obtain ⟨l0, l1, l2, l3, l4, l5, l6⟩ := q9.cells
  clear hW9 q9 G5
  go_wp2_with (rw [← HW9.out])
  exact bodyPost_ret (v := .agg #[.string s0, .int .i64 i1, .int .i64 i2, .string s3, .string s4, .string s5, .slice A9 n9 c9]) (by simp [results, Tryz.results35, go_sem, l0, l1, l2, l3, l4, l5, l6]) rfl ⟨⟨_, rfl, HG9.out, HR9.out⟩, HB9.out⟩
set_option maxRecDepth 100000 in
set_option maxHeartbeats 8000000 in
theorem line_9 {ts : List T} (t : TypeId) (ex : List Value) (w : World) (b : Nat) (A : Option Addr) (c p : Nat) (d : Bool) (h : RR w b ts A c p d t ex) (x : X E)
    (HP : ∀ w', RR w' b ts A c p d t ex → Calls Tryz.prog 72 #[.pointer (some ⟨b, 0, none⟩)] w' (Rq ts b A c p t ex w' (fun k => w'.heap.size ≤ k) x)) :
    Calls Tryz.prog 35 #[.pointer (some ⟨b, 0, none⟩), .int .i64 9] w (Rq ts b A c p t ex w (fun k => w.heap.size ≤ k) x) := by
  obtain ⟨W1, hW1, I3⟩ := Inv.start h
  have HW1 := Lib.hid hW1
  have H3 := Lib.hid (HP W1 I3.out.R)
  have hz3 := I3.out.lt2
  clear hW1 h HP
  go_enter Tryz.func35, Tryz.ntmps35
  go_wp2_with (rw [← HW1.out])
  refine H3.out.mono ?_
  rintro r w4 ⟨⟨y, rfl, G4, R4⟩, b4⟩
  have I4 := Lib.hid (I3.out.but b4 R4)
  obtain ⟨s0, i1, i2, s3, s4, s5, A9, n9, c9, rfl⟩ := G4.agg
  have G5 := G4.wide (S' := fun k => w.heap.size < k) (fun k hk _ => by omega)
  clear b4 R4 G4 H3 I3
  obtain ⟨W9, hW9, q9, HR9, HG9, HB9⟩ := I4.out.put G5
  have HW9 := Lib.hid hW9
  obtain ⟨x0, x1, x2, x3, x4, x5, x6⟩ := I4.out.q.cells
  obtain ⟨g0, g1, g2, g3, g4, g5, g6⟩ := I4.out.q.free
  obtain ⟨l0, l1, l2, l3, l4, l5, l6⟩ := q9.cells
  clear hW9 q9 G5
  go_wp2_with (rw [← HW9.out])
  exact bodyPost_ret (v := .agg #[.string s0, .int .i64 i1, .int .i64 i2, .string s3, .string s4, .string s5, .slice A9 n9 c9]) (by simp [results, Tryz.results35, go_sem, l0, l1, l2, l3, l4, l5, l6]) rfl ⟨⟨_, rfl, HG9.out, HR9.out⟩, HB9.out⟩
set_option maxRecDepth 100000 in
set_option maxHeartbeats 8000000 in
theorem line_3_no {ts : List T} (hT : Toks ts) (t : TypeId) (ex : List Value) (w : World) (b : Nat) (A : Option Addr) (c p : Nat) (d : Bool) (h : RR w b ts A c p d t ex) (z : isD d ⟨#[110, 111, 116]⟩ (ts.drop p) = false) (x : X E)
    (HP : ∀ w', RR w' b ts A c p d t ex → Calls Tryz.prog 35 #[.pointer (some ⟨b, 0, none⟩), .int .i64 4] w' (Rq ts b A c p t ex w' (fun k => w'.heap.size ≤ k) x)) :
    Calls Tryz.prog 35 #[.pointer (some ⟨b, 0, none⟩), .int .i64 3] w (Rq ts b A c p t ex w (fun k => w.heap.size ≤ k) x) := by
  obtain ⟨W1, hW1, I1⟩ := Inv.start h
  have HW1 := Lib.hid hW1
  have HE := Lib.hid (rEatF hT ⟨#[110, 111, 116]⟩ W1 b A c p t ex d I1.out.R z)
  have HL := Lib.hid HP
  clear hW1 h HP hT z
  go_enter Tryz.func35, Tryz.ntmps35
  go_wp2_with (rw [← HW1.out])
  refine HE.out.mono ?_
  rintro r w3 ⟨rfl, R3, b3⟩
  have I3 := Lib.hid (I1.out.but b3 R3)
  have H3 := Lib.hid (HL.out w3 R3)
  have hz3 := I3.out.lt2
  clear b3 R3 I1 HL HE HW1
  go_wp2_with fail
  refine H3.out.mono ?_
  rintro r w4 ⟨⟨y, rfl, G4, R4⟩, b4⟩
  have I4 := Lib.hid (I3.out.but b4 R4)
  obtain ⟨s0, i1, i2, s3, s4, s5, A9, n9, c9, rfl⟩ := G4.agg
  have G5 := G4.wide (S' := fun k => w.heap.size < k) (fun k hk _ => by omega)
  clear b4 R4 G4 H3 I3
  obtain ⟨W9, hW9, q9, HR9, HG9, HB9⟩ := I4.out.put G5
  have HW9 := Lib.hid hW9
  obtain ⟨x0, x1, x2, x3, x4, x5, x6⟩ := I4.out.q.cells
  obtain ⟨g0, g1, g2, g3, g4, g5, g6⟩ := I4.out.q.free
  obtain ⟨l0, l1, l2, l3, l4, l5, l6⟩ := q9.cells
  clear hW9 q9 G5
  go_wp2_with (rw [← HW9.out])
  exact bodyPost_ret (v := .agg #[.string s0, .int .i64 i1, .int .i64 i2, .string s3, .string s4, .string s5, .slice A9 n9 c9]) (by simp [results, Tryz.results35, go_sem, l0, l1, l2, l3, l4, l5, l6]) rfl ⟨⟨_, rfl, HG9.out, HR9.out⟩, HB9.out⟩
def oneX (o : List UInt8) : X E → X E
  | .error q => .error (1 + q)
  | .ok (a, m) => .ok (op1 o [a], 1 + m)
theorem oneX_eq (o : List UInt8) (xs : X E) : (seqX (okX () 1) fun _ _ => seqX xs fun x _ => okX (op1 o [x]) 0) = oneX o xs := by rcases xs with q | ⟨a, m⟩ <;> simp [seqX, okX, oneX]
theorem oneX_V {w : World} {S : Nat → Prop} {o : List UInt8} {x : X E} {y : Value} (h : Got w S (op1 o [endV x]) (endD x) y) : Got w S (endV (oneX o x)) (endD (oneX o x)) y := by
  rcases x with q | ⟨a, m⟩
  · exact h.bad _
  · exact h
theorem oneX_P {w : World} {b : Nat} {ts : List T} {A : Option Addr} {c p p1 : Nat} {t : TypeId} {ex : List Value} {o : List UInt8} {x : X E} (hpp : p1 = p + 1) (h : RR w b ts A c (endP p1 x) (endD x) t ex) : RR w b ts A c (endP p (oneX o x)) (endD (oneX o x)) t ex := by
  rcases x with q | ⟨a, m⟩
  · exact h.eqp (by show p1 + q = p + (1 + q); omega)
  · exact h.eqp (by show p1 + m = p + (1 + m); omega)
set_option maxRecDepth 100000 in
set_option maxHeartbeats 8000000 in
theorem line_3_yes {ts : List T} (hT : Toks ts) (t : TypeId) (ex : List Value) (w : World) (b : Nat) (A : Option Addr) (c p p1 : Nat) (hpp : p1 = p + 1) (h : RR w b ts A c p false t ex) (y : isS (⟨#[110, 111, 116]⟩ : ByteArray).data.toList (ts.drop p) = true) (x : X E)
    (HP : ∀ w', RR w' b ts A c p1 false t ex → Calls Tryz.prog 35 #[.pointer (some ⟨b, 0, none⟩), .int .i64 3] w' (Rq ts b A c p1 t ex w' (fun k => w'.heap.size ≤ k) x)) :
    Calls Tryz.prog 35 #[.pointer (some ⟨b, 0, none⟩), .int .i64 3] w (Rq ts b A c p t ex w (fun k => w.heap.size ≤ k) (oneX wNot x)) := by
  obtain ⟨W1, hW1, I1⟩ := Inv.start h
  have HW1 := Lib.hid hW1
  have hbw := h.lt
  have HE := Lib.hid (rEatT hT ⟨#[110, 111, 116]⟩ W1 b A c p t ex I1.out.R y)
  rw [← hpp] at HE
  have HL := Lib.hid HP
  have HP := Lib.hid hpp
  clear hW1 h hT y hpp
  go_enter Tryz.func35, Tryz.ntmps35
  go_wp2_with (rw [← HW1.out])
  refine HE.out.mono ?_
  rintro r w3 ⟨rfl, R3, b3⟩
  have I2 := Lib.hid (I1.out.but b3 R3)
  have H4 := Lib.hid (HL.out w3 R3)
  have hw2 := I2.out.lt2
  clear b3 R3 I1 HE HL HW1
  go_wp2_with fail
  refine H4.out.mono ?_
  rintro r w4 ⟨⟨y, rfl, G4, R4⟩, b4⟩
  have I4 := Lib.hid (I2.out.but b4 R4)
  obtain ⟨s0, i1, i2, s3, s4, s5, A9, n9, c9, rfl⟩ := G4.agg
  have hz4 := I4.out.lt2
  obtain ⟨WB, hWB, qB, zB, mB⟩ := box7 w4 (.string s0) (.int .i64 i1) (.int .i64 i2) (.string s3) (.string s4) (.string s5) (.slice A9 n9 c9)
  have IB := Lib.hid (I4.out.later mB)
  obtain ⟨WC, hWC, mC, L5⟩ := list_got1 (B := w.heap.size + 1) (G4.later mB) (by have := mB.size; omega) (fun k hk => by omega)
  have IC := Lib.hid (IB.out.later mC)
  have LC := Lib.hid L5
  have HWB := Lib.hid hWB
  have HWC := Lib.hid hWC
  obtain ⟨v0, v1, v2, v3, v4, v5, v6⟩ := qB.cells
  clear hWB hWC qB zB mB mC L5 G4 R4 b4 H4 I2 I4 IB
  go_wp2_with (first | (rw [← HWB.out]) | (rw [← HWC.out]))
  refine (rOp1 _ _ _ _ _).mono ?_
  rintro r w5 ⟨rfl, b5⟩
  have I6 := Lib.hid (IC.out.later b5)
  have G5 : Got w5 (fun k => w.heap.size < k) (endV (oneX wNot x)) (endD (oneX wNot x)) (.agg #[.string ⟨#[110, 111, 116]⟩, .int .i64 0, .int .i64 0, .string ⟨#[]⟩, .string ⟨#[]⟩, .string ⟨#[]⟩, .slice (some ⟨WB.heap.size, 0, none⟩) 1 1]) := oneX_V ((LC.out.later b5).whole wNot [])
  have hnd : endD (oneX wNot x) = endD x := by rcases x with q | ⟨a, m⟩ <;> rfl
  rw [hnd] at G5
  clear b5 LC IC
  obtain ⟨W9, hW9, q9, HR9, HG9, HB9⟩ := I6.out.put G5
  have HW9 := Lib.hid hW9
  obtain ⟨x0, x1, x2, x3, x4, x5, x6⟩ := I6.out.q.cells
  obtain ⟨g0, g1, g2, g3, g4, g5, g6⟩ := I6.out.q.free
  obtain ⟨l0, l1, l2, l3, l4, l5, l6⟩ := q9.cells
  have HGX : Hid (Got W9 (fun k => w.heap.size ≤ k) (endV (oneX wNot x)) (endD (oneX wNot x)) (.agg #[.string ⟨#[110, 111, 116]⟩, .int .i64 0, .int .i64 0, .string ⟨#[]⟩, .string ⟨#[]⟩, .string ⟨#[]⟩, .slice (some ⟨WB.heap.size, 0, none⟩) 1 1])) := Lib.hid (by rw [hnd]; exact HG9.out)
  have HRX := Lib.hid (oneX_P (o := wNot) HP.out HR9.out)
  clear hW9 q9 G5 hnd HG9 HR9
  go_wp2_with (rw [← HW9.out])
  exact bodyPost_ret (v := .agg #[.string ⟨#[110, 111, 116]⟩, .int .i64 0, .int .i64 0, .string ⟨#[]⟩, .string ⟨#[]⟩, .string ⟨#[]⟩, .slice (some ⟨WB.heap.size, 0, none⟩) 1 1]) (by simp [results, Tryz.results35, go_sem, l0, l1, l2, l3, l4, l5, l6]) rfl ⟨⟨_, rfl, HGX.out, HRX.out⟩, HB9.out⟩
end Go.Proofs.YthohfegnphocbaaGreatDoor
namespace Go.Proofs.YthohfegnphocbaaGreatDoor
open Go.RowKit
structure Lq (w : World) (b : Nat) (ts : List T) (A : Option Addr) (c p : Nat) (t : TypeId) (ex : List Value) (n : Nat) (x : X E) (z : Nat) (d : Bool) (wr : World) (P Q : Nat) (D : Bool) (a : E) (s0 : ByteArray) (i1 i2 : Int) (s3 s4 s5 : ByteArray) (A9 : Option Addr) (n9 c9 : Nat) : Prop where
  I : Inv w wr b ts A c Q D t ex
  qz : B7 wr z (.string s0) (.int .i64 i1) (.int .i64 i2) (.string s3) (.string s4) (.string s5) (.slice A9 n9 c9)
  G : Got wr (fun k => w.heap.size < k ∧ k ≠ z) a D (.agg #[.string s0, .int .i64 i1, .int .i64 i2, .string s3, .string s4, .string s5, .slice A9 n9 c9])
  zlt : w.heap.size < z
  le : p ≤ P
  dD : D = false → d = false
  f1 : D = true → endD x = true ∧ endP p x = P
  f2 : D = false → x = seqX (okX () (P - p)) fun _ _ => mr resB n a (ts.drop P)
section
variable {w : World} {b : Nat} {ts : List T} {A : Option Addr} {c p : Nat} {t : TypeId} {ex : List Value} {n : Nat} {x : X E} {z : Nat} {d : Bool} {wr wr' : World} {P Q : Nat} {D : Bool} {a : E} {s0 : ByteArray} {i1 i2 : Int} {s3 s4 s5 : ByteArray} {A9 : Option Addr} {n9 c9 : Nat}
theorem Lq.later (h : Lq w b ts A c p t ex n x z d wr P Q D a s0 i1 i2 s3 s4 s5 A9 n9 c9) (hb : Below wr.heap.size wr wr') : Lq w b ts A c p t ex n x z d wr' P Q D a s0 i1 i2 s3 s4 s5 A9 n9 c9 :=
  ⟨h.I.later hb, h.qz.later hb, h.G.later hb, h.zlt, h.le, h.dD, h.f1, h.f2⟩
theorem Lq.but {Q' : Nat} (h : Lq w b ts A c p t ex n x z d wr P Q D a s0 i1 i2 s3 s4 s5 A9 n9 c9) (hb : But b wr wr') (R : RR wr' b ts A c Q' D t ex) : Lq w b ts A c p t ex n x z d wr' P Q' D a s0 i1 i2 s3 s4 s5 A9 n9 c9 :=
  ⟨h.I.but hb R, h.qz.same (hb.block _ h.qz.lt (by have := h.zlt; have := h.I.lt; omega)), h.G.but hb (fun k hk => by have := h.I.lt; omega), h.zlt, h.le, h.dD, h.f1, h.f2⟩
theorem Lq.start {x1 : X E} {W : World} (hn : n = 1 ∨ n = 2 ∨ n = 5 ∨ n = 6 ∨ n = 7) (hx : x = xd d (ln resB n (ts.drop p))) (hx1 : x1 = xd d (ln resB (n + 1) (ts.drop p))) (h : Inv w wr b ts A c (endP p x1) (endD x1) t ex)
    (G : Got wr (fun k => w.heap.size < k) (endV x1) (endD x1) (.agg #[.string s0, .int .i64 i1, .int .i64 i2, .string s3, .string s4, .string s5, .slice A9 n9 c9]))
    (q : B7 W wr.heap.size (.string s0) (.int .i64 i1) (.int .i64 i2) (.string s3) (.string s4) (.string s5) (.slice A9 n9 c9)) (m : Below wr.heap.size wr W) :
    Lq w b ts A c p t ex n x wr.heap.size d W (endP p x1) (endP p x1) (endD x1) (endV x1) s0 i1 i2 s3 s4 s5 A9 n9 c9 := by
  have hl := ln_n resB (n := n) (ts.drop p) (by omega) (by omega) (by omega) (by omega)
  refine ⟨h.later m, q, (G.wide (S' := fun k => w.heap.size < k ∧ k ≠ wr.heap.size) (fun k hk hlt => ⟨hk, by omega⟩)).later m, h.lt2, ?_, ?_, ?_, ?_⟩
  · rcases x1 with q | ⟨a, m⟩
    · show p ≤ p + q; omega
    · show p ≤ p + m; omega
  · intro hD
    cases d with
    | false => rfl
    | true => rw [hx1, xd_t] at hD; cases hD
  · intro hD
    cases d with
    | true => rw [hx, hx1, xd_t, xd_t]; exact ⟨rfl, rfl⟩
    | false =>
      rw [xd_f] at hx hx1
      rw [hx, hl, ← hx1]
      rcases x1 with q | ⟨a, m⟩
      · exact ⟨rfl, rfl⟩
      · cases hD
  · intro hD
    cases d with
    | true => rw [hx1, xd_t] at hD; cases hD
    | false =>
      rw [xd_f] at hx hx1
      rw [hx, hl, ← hx1]
      rcases x1 with q | ⟨a, m⟩
      · cases hD
      · simp only [endP, endV, seqX, okX, List.drop_drop, Nat.add_sub_cancel_left]
theorem Lq.done (h : Lq w b ts A c p t ex n x z d wr P Q D a s0 i1 i2 s3 s4 s5 A9 n9 c9) (hno : D = false → opAt n (ts.drop P) = none) : endD x = D ∧ endP p x = P ∧ (D = false → endV x = a) := by
  cases D with
  | true => exact ⟨(h.f1 rfl).1, (h.f1 rfl).2, fun hh => by cases hh⟩
  | false =>
    have := h.f2 rfl
    rw [mr_none resB (hno rfl)] at this
    rw [this]
    have := h.le
    exact ⟨rfl, by show p + (P - p + 0) = P; omega, fun _ => rfl⟩
theorem MAt.but {g : Nat} {ms : List ByteArray} (h : MAt w g ms) (hb : But b w wr) (hg : g ≠ b) : MAt wr g ms :=
  ⟨by have := hb.size; have := h.1; omega, fun j hj => by rw [World.cell?_of_block (w := w) (a := ⟨g, j, none⟩) (hb.block g h.1 hg)]; exact h.2 j hj⟩
theorem Inv.own {r : Nat} (h : Inv w wr b ts A c P D t ex) (hr : w.heap.size < r) (o : ∀ k, k ≠ r → wr'.heap[k]? = wr.heap[k]?) (hB : ∀ B, B ≤ r → Below B wr wr') : Inv w wr' b ts A c P D t ex := by
  have h6 := hB w.heap.size (Nat.le_of_lt hr)
  have hl := h.lt
  exact ⟨h.R.own (by omega) o hB, h.q.same (o _ (by omega)), ⟨h6.os.trans h.B.os, h6.tape.trans h.B.tape, h6.output.trans h.B.output, by have := hB r (Nat.le_refl _); have := h.B.size; have := this; have h7 := h6.size; omega, fun k hk hkb => (o k (by omega)).trans (h.B.block k hk hkb)⟩, hl⟩
theorem Lq.next {o : List UInt8} {x2 : X E} {W : World} {r0 r3 r4 r5 : ByteArray} {j1 j2 : Int} {B9 : Option Addr} {m9 k9 : Nat} (h : Lq w b ts A c p t ex n x z d wr P Q D a s0 i1 i2 s3 s4 s5 A9 n9 c9) (hn8 : n ≤ 8) (hD : D = false) (hop : opAt n (ts.drop P) = some o) (hx2 : x2 = ln resB (n + 1) (ts.drop (P + 1)))
    (I : Inv w W b ts A c (endP (P + 1) x2) (endD x2) t ex) (q : B7 W z (.string r0) (.int .i64 j1) (.int .i64 j2) (.string r3) (.string r4) (.string r5) (.slice B9 m9 k9))
    (G : Got W (fun k => w.heap.size < k ∧ k ≠ z) (op1 o [a, endV x2]) (endD x2) (.agg #[.string r0, .int .i64 j1, .int .i64 j2, .string r3, .string r4, .string r5, .slice B9 m9 k9])) :
    Lq w b ts A c p t ex n x z d W (endP (P + 1) x2) (endP (P + 1) x2) (endD x2) (op1 o [a, endV x2]) r0 j1 j2 r3 r4 r5 B9 m9 k9 := by
  have hf := h.f2 hD
  have hle := h.le
  rw [mr_some resB hn8 hop, List.drop_drop, ← hx2] at hf
  refine ⟨I, q, G, h.zlt, ?_, fun _ => h.dD hD, ?_, ?_⟩
  · rcases x2 with q | ⟨e, m⟩
    · show p ≤ P + 1 + q; omega
    · show p ≤ P + 1 + m; omega
  · intro hh
    rcases x2 with q | ⟨e, m⟩
    · rw [hf]
      exact ⟨rfl, by show p + (P - p + (1 + q)) = P + 1 + q; omega⟩
    · cases hh
  · intro hh
    rcases x2 with q | ⟨e, m⟩
    · cases hh
    · rw [hf]
      simp only [endP, endV, seqX, okX, List.drop_drop]
      rw [show P + (1 + m) = P + 1 + m by omega]
      rcases mr resB n (op1 o [a, e]) (ts.drop (P + 1 + m)) with q | ⟨e2, m2⟩
      · simp; omega
      · simp; omega
theorem list_got2 {w : World} {S : Nat → Prop} {e f : E} {d : Bool} {s0 s3 s4 s5 r0 r3 r4 r5 : ByteArray} {i1 i2 j1 j2 : Int} {A9 B9 : Option Addr} {n9 c9 m9 k9 : Nat} (G : Got w S e d (.agg #[.string s0, .int .i64 i1, .int .i64 i2, .string s3, .string s4, .string s5, .slice A9 n9 c9])) (G2 : Got w S f d (.agg #[.string r0, .int .i64 j1, .int .i64 j2, .string r3, .string r4, .string r5, .slice B9 m9 k9])) (hW : S w.heap.size) :
    ∃ W : World, W = w.alloc (.cells #[.string s0, .int .i64 i1, .int .i64 i2, .string s3, .string s4, .string s5, .slice A9 n9 c9, .string r0, .int .i64 j1, .int .i64 j2, .string r3, .string r4, .string r5, .slice B9 m9 k9] 27) ∧ Below w.heap.size w W ∧ LGot W S [e, f] d (.slice (some ⟨w.heap.size, 0, none⟩) 2 2) := by
  obtain ⟨e', ⟨A', c', hx, hs⟩, hr⟩ := G
  obtain ⟨f', ⟨B', k', hy, hs2⟩, hr2⟩ := G2
  have mb := (Below.refl w.heap.size w).alloc (Nat.le_refl _) (.cells #[.string s0, .int .i64 i1, .int .i64 i2, .string s3, .string s4, .string s5, .slice A9 n9 c9, .string r0, .int .i64 j1, .int .i64 j2, .string r3, .string r4, .string r5, .slice B9 m9 k9] 27)
  refine ⟨_, rfl, mb, [e', f'], some ⟨w.heap.size, 0, none⟩, 2, rfl, ?_, fun hd => by rw [hr hd, hr2 hd]⟩
  refine ⟨Nat.le_refl _, by decide, fun _ => ⟨w.heap.size, 0, rfl, hW, by simp, ?_⟩⟩
  have hk := hs.keep (S' := S) (fun k hk hlt => ⟨hk, mb.block k hlt⟩) mb.size
  have hk2 := hs2.keep (S' := S) (fun k hk hlt => ⟨hk, mb.block k hlt⟩) mb.size
  have ha := heap_alloc_new w (.cells #[.string s0, .int .i64 i1, .int .i64 i2, .string s3, .string s4, .string s5, .slice A9 n9 c9, .string r0, .int .i64 j1, .int .i64 j2, .string r3, .string r4, .string r5, .slice B9 m9 k9] 27)
  have h1 := Value.agg.inj hx
  have h2 := Value.agg.inj hy
  simp at h1 h2
  obtain ⟨a0, a1, a2, a3, a4, a5, a6, a7, a8⟩ := h1
  obtain ⟨b0, b1, b2, b3, b4, b5, b6, b7, b8⟩ := h2
  refine ⟨⟨A', c', ?_, hk⟩, ⟨B', k', ?_, hk2⟩, trivial⟩
  · unfold Cells7
    simp only [Lib.cell_of_heap ha]
    simp [a0, a1, a2, a3, a4, a5, a6, a7, a8]
  · unfold Cells7
    simp only [Lib.cell_of_heap ha]
    simp [b0, b1, b2, b3, b4, b5, b6, b7, b8]
end
end Go.Proofs.YthohfegnphocbaaGreatDoor
namespace Go.Proofs.YthohfegnphocbaaGreatDoor
open Go.RowKit
set_option maxRecDepth 100000 in
set_option maxHeartbeats 8000000 in
theorem line_words {ts : List T} (hT : Toks ts) (t : TypeId) (ex : List Value) (v n : Nat) (hn : n = 1 ∨ n = 2 ∨ n = 5 ∨ n = 6 ∨ n = 7) (HN : LineH ts t ex v (n + 1)) (p : Nat) (d : Bool) (w : World) (b : Nat) (A : Option Addr) (c : Nat) (h : RR w b ts A c p d t ex) (hr : rank ts p d ≤ v) :
    Calls Tryz.prog 35 #[.pointer (some ⟨b, 0, none⟩), .int .i64 n] w (Rq ts b A c p t ex w (fun k => w.heap.size ≤ k) (xd d (ln resB n (ts.drop p)))) := by
  have HT := Lib.hid hT
  have hlen := hT.len
  have hbw := h.lt
  have hn8 : n ≤ 8 := by omega
  have hml : (wordsOf n).length ≤ 3 := by rcases hn with rfl | rfl | rfl | rfl | rfl <;> decide
  have hwn : Hid (∀ m ∈ wordsOf n, m ≠ []) := Lib.hid (by rcases hn with rfl | rfl | rfl | rfl | rfl <;> decide)
  obtain ⟨x, hx⟩ : ∃ x, x = xd d (ln resB n (ts.drop p)) := ⟨_, rfl⟩
  obtain ⟨x1, hx1⟩ : ∃ x1, x1 = xd d (ln resB (n + 1) (ts.drop p)) := ⟨_, rfl⟩
  rw [← hx]
  obtain ⟨N, hN⟩ : ∃ N : Int, N = (n : Int) := ⟨_, rfl⟩
  rw [← hN]
  have HL : Hid (∀ (P : Nat) (D : Bool) (w' : World), RR w' b ts A c P D t ex → rank ts P D ≤ v → Calls Tryz.prog 35 #[.pointer (some ⟨b, 0, none⟩), .int .i64 (N + 1)] w' (Rq ts b A c P t ex w' (fun k => w'.heap.size ≤ k) (xd D (ln resB (n + 1) (ts.drop P))))) := Lib.hid (fun P D w' R hP => by
    have := HN P D w' b A c R hP
    rwa [show ((n + 1 : Nat) : Int) = N + 1 by omega] at this)
  have HWd : Hid (∀ W : World, Calls Tryz.prog 73 #[.int .i64 N] W fun r w' => ∃ g, r = .returned (.slice (some ⟨g, 0, none⟩) (wordsOf n).length (wordsOf n).length) ∧ MAt w' g ((wordsOf n).map str) ∧ W.heap.size ≤ g ∧ Below W.heap.size W w') := Lib.hid (fun W => by
    have := rWords n hn W
    rwa [← hN] at this)
  obtain ⟨W1, hW1, I1⟩ := Inv.start h
  have HW1 := Lib.hid hW1
  have HL1 := Lib.hid (HL.out p d W1 I1.out.R hr)
  rw [← hx1] at HL1
  have n3 : (N == 3) = false := by simp; omega
  have n4 : (N == 4) = false := by simp; omega
  have n8 : (N == 8) = false := by simp; omega
  have n9 : (N == 9) = false := by simp; omega
  have hN0 : 0 ≤ N := by omega
  have hN7 : N ≤ 7 := by omega
  have HX := Lib.hid (And.intro hn (And.intro hx hx1))
  have HOP : Hid (∀ l, opAt n l = (wordsOf n).find? fun w => isS w l) := Lib.hid (fun l => rfl)
  have HRk := Lib.hid hr
  generalize wordsOf n = ms at *
  clear hx hx1 hW1 h hT HN hn hN hr
  go_enter Tryz.func35, Tryz.ntmps35
  go_wp2_with (rw [← HW1.out])
  refine HL1.out.mono ?_
  rintro r w2 ⟨⟨y, rfl, G2, R2⟩, b2⟩
  have I2 := I1.out.but b2 R2
  obtain ⟨s0, i1, i2, s3, s4, s5, A9, n9', c9, rfl⟩ := G2.agg
  have hz1 := I1.out.lt2
  obtain ⟨WB, hWB, qB, zB, mB⟩ := box7 w2 (.string s0) (.int .i64 i1) (.int .i64 i2) (.string s3) (.string s4) (.string s5) (.slice A9 n9' c9)
  have HS0 := Lib.hid (Lq.start HX.out.1 HX.out.2.1 HX.out.2.2 I2 (G2.wide (S' := fun k => w.heap.size < k) (fun k hk _ => by omega)) qB mB)
  have HWB := Lib.hid hWB
  clear hWB qB zB mB G2 R2 b2 I2 I1 HL1 HW1
  go_wp2_with (rw [← HWB.out])
  generalize w2.heap.size = z at *
  go_loopw [7] (fun _ wr => ∃ (P : Nat) (D : Bool) (a : E) (s0 : ByteArray) (i1 i2 : Int) (s3 s4 s5 : ByteArray) (A9 : Option Addr) (n9 c9 : Nat), Hid (Lq w b ts A c p t ex n x z d wr P P D a s0 i1 i2 s3 s4 s5 A9 n9 c9)) (fun _ wr => ts.length - posOf wr b)
  case atStart => exact ⟨_, _, _, _, _, _, _, _, _, _, _, _, HS0⟩
  case round =>
    obtain ⟨P, D, a, s0, i1, i2, s3, s4, s5, A9, n9, c9, HS⟩ := hrel
    have HWr := Lib.hid (HWd.out wr)
    have hpos := HS.out.I.R.pos
    have hP := HS.out.I.R.hp
    go_wp2_with fail
    refine HWr.out.mono ?_
    rintro r w3 ⟨g, rfl, hM, hg, b3⟩
    have HS3 := Lib.hid (HS.out.later b3)
    have HM := Lib.hid hM
    have hgb : g ≠ b := by have := HS.out.I.R.lt; omega
    clear b3 hM HWr HS
    go_wp2_with fail
    go_loopw [42, 7] (fun iv ov wq => ∃ (k Q : Nat) (o : List UInt8), k ≤ ms.length ∧ iv = .int .i64 k ∧ ov = .string (str o) ∧ Hid (Lq w b ts A c p t ex n x z d wq P Q D a s0 i1 i2 s3 s4 s5 A9 n9 c9) ∧ Hid (MAt wq g (ms.map str)) ∧ Hid ((o = [] ∧ Q = P ∧ (D = false → (ms.drop k).find? (fun w => isS w (ts.drop P)) = opAt n (ts.drop P))) ∨ (o ≠ [] ∧ Q = P + 1 ∧ D = false ∧ opAt n (ts.drop P) = some o))) (fun iv _ _ => ms.length - (intOf iv).toNat)
    case atStart => exact ⟨0, P, [], Nat.zero_le _, rfl, rfl, HS3, HM, Lib.hid (.inl ⟨rfl, rfl, fun _ => (by rw [List.drop_zero]; exact (HOP.out _).symm)⟩)⟩
    case round =>
      clear HS3 HM HS0
      obtain ⟨k, Q, o, hk, rfl, rfl, HSq, HMq, HO⟩ := hrel
      by_cases hlt : k < ms.length
      · have hkz : (k : Int) < (ms.length : Int) := by omega
        have hcell : wr.cell? ⟨g, k, none⟩ = some (.string (str ms[k])) := by
          have := HMq.out.2 k (by simpa using hlt)
          simpa using this
        have hd := List.drop_eq_getElem_cons hlt
        have hmm : ms[k] ≠ [] := hwn.out _ (List.getElem_mem hlt)
        rcases HO.out with ⟨ho, hQ, hf⟩ | ⟨ho, hQ, hD, hop⟩
        · subst ho
          rw [hd] at hf
          simp only [List.find?_cons] at hf
          rw [hQ] at HSq
          have HF := Lib.hid hf
          have HMM := Lib.hid hmm
          clear hf hd HO hQ hmm
          generalize ms[k] = m at *
          simp only [str_nil]
          cases hc : isD D (str m) (ts.drop P)
          · have HE := Lib.hid (rEatF HT.out (str m) wr b A c P t ex D HSq.out.I.R hc)
            have HF2 : Hid (D = false → (ms.drop (k + 1)).find? (fun w => isS w (ts.drop P)) = opAt n (ts.drop P)) := Lib.hid (fun hD => by
              have h1 := HF.out hD
              rw [hD, isD_f, str_list] at hc
              rw [hc] at h1
              exact h1)
            clear hc HF
            go_wp2_with fail
            refine HE.out.mono ?_
            rintro r w4 ⟨rfl, R4, b4⟩
            have h1 := Lib.hid (HSq.out.but b4 R4)
            have h2 := Lib.hid (HMq.out.but b4 hgb)
            clear b4 R4 HE HSq HMq
            go_wp2_with fail
            go_roundw
            case measure => simp [intOf]; omega
            case rel => exact ⟨k + 1, P, [], by omega, by simp, by rw [str_nil], h1, h2, Lib.hid (.inl ⟨rfl, rfl, HF2.out⟩)⟩
          · obtain rfl : D = false := by
              cases D with
              | false => rfl
              | true => rw [isD_t] at hc; cases hc
            rw [isD_f] at hc
            have HE := Lib.hid (rEatT HT.out (str m) wr b A c P t ex HSq.out.I.R hc)
            have HF2 : Hid (opAt n (ts.drop P) = some m) := Lib.hid (by
              have h1 := HF.out rfl
              rw [str_list] at hc
              rw [hc] at h1
              exact h1.symm)
            clear hc HF
            go_wp2_with fail
            refine HE.out.mono ?_
            rintro r w4 ⟨rfl, R4, b4⟩
            have h1 := Lib.hid (HSq.out.but b4 R4)
            have h2 := Lib.hid (HMq.out.but b4 hgb)
            clear b4 R4 HE HSq HMq
            go_wp2_with fail
            go_roundw
            case measure => simp [intOf]; omega
            case rel => exact ⟨k + 1, P + 1, m, by omega, by simp, rfl, h1, h2, Lib.hid (.inr ⟨HMM.out, rfl, by trivial, HF2.out⟩)⟩
        · have eo : ((str o).toList == []) = false := by rw [Lib.toList_data, str_list]; simpa using ho
          clear hd hmm
          generalize ms[k] = m at *
          go_wp2_with fail
          go_roundw
          case measure => simp [intOf]; omega
          case rel => exact ⟨k + 1, Q, o, by omega, by simp, rfl, HSq, HMq, Lib.hid (.inr ⟨ho, hQ, hD, hop⟩)⟩
      · have hkl : k = ms.length := by omega
        have hkz : ¬ (k : Int) < (ms.length : Int) := by omega
        rcases HO.out with ⟨ho, hQ, hf⟩ | ⟨ho, hQ, hD, hop⟩
        · subst ho
          rw [hQ] at HSq
          have hno : D = false → opAt n (ts.drop P) = none := fun hD => by
            have h1 := hf hD
            rw [hkl, List.drop_length] at h1
            exact h1.symm
          obtain ⟨d1, d2, d3⟩ := HSq.out.done hno
          obtain ⟨v0, v1, v2, v3, v4, v5, v6⟩ := HSq.out.qz.cells
          obtain ⟨W9, hW9, q9, HR9, HG9, HB9⟩ := HSq.out.I.put (HSq.out.G.wide (S' := fun k => w.heap.size < k) (fun k hk _ => hk.1))
          have HGX : Hid (Got W9 (fun k => w.heap.size ≤ k) (endV x) (endD x) (.agg #[.string s0, .int .i64 i1, .int .i64 i2, .string s3, .string s4, .string s5, .slice A9 n9 c9])) := Lib.hid (by
            rw [d1]
            cases D with
            | true => exact HG9.out.bad _
            | false => rw [d3 rfl]; exact HG9.out)
          have HRX : Hid (RR W9 b ts A c (endP p x) (endD x) t ex) := Lib.hid (by rw [d1, d2]; exact HR9.out)
          have HW9 := Lib.hid hW9
          obtain ⟨y0, y1, y2, y3, y4, y5, y6⟩ := HSq.out.I.q.cells
          obtain ⟨g0, g1, g2, g3, g4, g5, g6⟩ := HSq.out.I.q.free
          obtain ⟨l0, l1, l2, l3, l4, l5, l6⟩ := q9.cells
          clear hW9 q9 HR9 HG9 d1 d2 d3 hno hf HO hkl hQ
          simp only [str_nil]
          go_wp2_with (rw [← HW9.out])
          exact bodyPost_ret (v := .agg #[.string s0, .int .i64 i1, .int .i64 i2, .string s3, .string s4, .string s5, .slice A9 n9 c9]) (by simp [results, Tryz.results35, go_sem, l0, l1, l2, l3, l4, l5, l6]) rfl ⟨⟨_, rfl, HGX.out, HRX.out⟩, HB9.out⟩
        · subst hD
          rw [hQ] at HSq
          have hrk : rank ts (P + 1) false ≤ v := by
            have h1 := HSq.out.dD rfl
            have h2 := HRk.out
            have h3 := HSq.out.le
            rw [h1] at h2
            unfold rank at *
            simp only [Bool.false_eq_true, if_false] at *
            omega
          have H5 := Lib.hid (HL.out (P + 1) false wr HSq.out.I.R hrk)
          rw [xd_f] at H5
          obtain ⟨x2, hx2⟩ : ∃ x2, x2 = ln resB (n + 1) (ts.drop (P + 1)) := ⟨_, rfl⟩
          rw [← hx2] at H5
          have HX2 := Lib.hid hx2
          have HOPn := Lib.hid hop
          obtain ⟨c0, c1, c2, f1, f2⟩ := HSq.out.I.R.cells
          have eo : ((str o).toList == []) = false := by rw [Lib.toList_data, str_list]; simpa using ho
          have hzlt := HSq.out.zlt
          have hzr := HSq.out.qz.lt
          clear hx2 hop hrk HO hkl hQ ho HMq
          go_wp2_with fail
          refine H5.out.mono ?_
          rintro r w5 ⟨⟨y, rfl, G5, R5⟩, b5⟩
          obtain ⟨r0, j1, j2, r3, r4, r5, B9, m9, k9, rfl⟩ := G5.agg
          have h5z := b5.size
          obtain ⟨WC, hWC, qC, zC, mC⟩ := box7 w5 (.string r0) (.int .i64 j1) (.int .i64 j2) (.string r3) (.string r4) (.string r5) (.slice B9 m9 k9)
          have hmC := mC.size
          have Ga := ((HSq.out.G.but b5 (fun k hk => by omega)).later mC).more (d' := endD x2) (fun _ => rfl)
          have Gb := (G5.wide (S' := fun k => w.heap.size < k ∧ k ≠ z) (fun k hk _ => ⟨by omega, by omega⟩)).later mC
          obtain ⟨WD, hWD, mD, L5⟩ := list_got2 Ga Gb ⟨by omega, by omega⟩
          have IC := (HSq.out.I.but b5 R5).later mC
          have qzC := (HSq.out.qz.same (b5.block z hzr (by omega))).later mC
          obtain ⟨v0, v1, v2, v3, v4, v5, v6⟩ := qzC.cells
          obtain ⟨u0, u1, u2, u3, u4, u5, u6⟩ := qC.cells
          have HWC := Lib.hid hWC
          have HWD := Lib.hid hWD
          have HI := Lib.hid (IC.later mD)
          have HQ := Lib.hid (qzC.later mD)
          have HLG := Lib.hid L5
          clear hWC qC zC mC hWD mD L5 Ga Gb IC qzC G5 R5 b5 H5
          go_wp2_with (first | (rw [← HWC.out]) | (rw [← HWD.out]))
          refine (rOp1 _ _ _ _ _).mono ?_
          rintro r w6 ⟨rfl, b6⟩
          have I6 := HI.out.later b6
          have q6 := HQ.out.later b6
          have G6 : Got w6 (fun k => w.heap.size < k ∧ k ≠ z) (op1 o [a, endV x2]) (endD x2) (.agg #[.string (str o), .int .i64 0, .int .i64 0, .string ⟨#[]⟩, .string ⟨#[]⟩, .string ⟨#[]⟩, .slice (some ⟨WC.heap.size, 0, none⟩) 2 2]) := (HLG.out.later b6).whole o []
          obtain ⟨W7, hW7, q7, z7, o7, m7⟩ := stored7 q6 (.string (str o)) (.int .i64 0) (.int .i64 0) (.string ⟨#[]⟩) (.string ⟨#[]⟩) (.string ⟨#[]⟩) (.slice (some ⟨WC.heap.size, 0, none⟩) 2 2)
          have G7 : Got W7 (fun k => w.heap.size < k ∧ k ≠ z) (op1 o [a, endV x2]) (endD x2) (.agg #[.string (str o), .int .i64 0, .int .i64 0, .string ⟨#[]⟩, .string ⟨#[]⟩, .string ⟨#[]⟩, .slice (some ⟨WC.heap.size, 0, none⟩) 2 2]) := by
            obtain ⟨e', h1, h2⟩ := G6
            exact ⟨e', h1.keep (fun k hk _ => ⟨hk, o7 k hk.2⟩) (by omega), h2⟩
          have HNx := Lib.hid (HSq.out.next hn8 rfl HOPn.out HX2.out (I6.own hzlt o7 m7) q7 G7)
          have HW7 := Lib.hid hW7
          obtain ⟨y0, y1, y2, y3, y4, y5, y6⟩ := q6.cells
          obtain ⟨g0, g1, g2, g3, g4, g5, g6⟩ := q6.free
          have hpos7 := HNx.out.I.R.pos
          have hp7 := HNx.out.I.R.hp
          have hge : P + 1 ≤ endP (P + 1) x2 := by rcases x2 with q | ⟨e, m⟩ <;> exact Nat.le_add_right _ _
          clear hW7 q7 z7 o7 m7 G7 G6 q6 I6 b6 HI HQ HLG HSq
          go_wp2_with (rw [← HW7.out])
          go_roundw
          case measure => rw [hpos7, hpos]; omega
          case rel => exact ⟨_, _, _, _, _, _, _, _, _, _, _, _, HNx⟩
end Go.Proofs.YthohfegnphocbaaGreatDoor
namespace Go.Proofs.YthohfegnphocbaaGreatDoor
open Go.RowKit
def FnH (f n : Nat) (ts : List T) (t : TypeId) (ex : List Value) (v : Nat) : Prop := ∀ (p : Nat) (d : Bool) (w : World) (b : Nat) (A : Option Addr) (c : Nat), RR w b ts A c p d t ex → rank ts p d ≤ v →
  Calls Tryz.prog f #[.pointer (some ⟨b, 0, none⟩)] w (Rq ts b A c p t ex w (fun k => w.heap.size ≤ k) (xd d (ln resB n (ts.drop p))))
def RelH (ts : List T) (t : TypeId) (ex : List Value) (v : Nat) : Prop := FnH 70 4 ts t ex v
theorem lines {ts : List T} (hT : Toks ts) (t : TypeId) (ex : List Value) (v : Nat) (HP : FnH 72 9 ts t ex v) (HM : LineH ts t ex v 9 → FnH 71 8 ts t ex v) (HR : LineH ts t ex v 5 → RelH ts t ex v) (H3 : ∀ u, u + 1 ≤ v → LineH ts t ex u 3) :
    ∀ n, 1 ≤ n → n ≤ 9 → LineH ts t ex v n := by
  have h9 : LineH ts t ex v 9 := fun p d w b A c h hr => line_9 t ex w b A c p d h _ (fun w' R => HP p d w' b A c R hr)
  have h8 : LineH ts t ex v 8 := fun p d w b A c h hr => line_8 t ex w b A c p d h _ (fun w' R => HM h9 p d w' b A c R hr)
  have h7 : LineH ts t ex v 7 := fun p d w b A c h hr => line_words hT t ex v 7 (by decide) h8 p d w b A c h hr
  have h6 : LineH ts t ex v 6 := fun p d w b A c h hr => line_words hT t ex v 6 (by decide) h7 p d w b A c h hr
  have h5 : LineH ts t ex v 5 := fun p d w b A c h hr => line_words hT t ex v 5 (by decide) h6 p d w b A c h hr
  have h4 : LineH ts t ex v 4 := fun p d w b A c h hr => line_4 t ex w b A c p d h _ (fun w' R => HR h5 p d w' b A c R hr)
  have h3 : LineH ts t ex v 3 := fun p d w b A c h hr => by
    cases hc : isD d ⟨#[110, 111, 116]⟩ (ts.drop p)
    · have e : xd d (ln resB 3 (ts.drop p)) = xd d (ln resB 4 (ts.drop p)) := by
        cases d with
        | true => rfl
        | false =>
          rw [isD_f] at hc
          rw [xd_f, xd_f, ln_3, if_neg (by rw [show isS wNot (ts.drop p) = false from hc]; decide)]
      rw [e]
      exact line_3_no hT t ex w b A c p d h hc _ (fun w' R => h4 p d w' b A c R hr)
    · obtain rfl : d = false := by
        cases d with
        | false => rfl
        | true => rw [isD_t] at hc; cases hc
      rw [isD_f] at hc
      have hp := h.hp
      have hlt : rank ts (p + 1) false + 1 ≤ v := by
        unfold rank at *
        simp only [Bool.false_eq_true, if_false] at *
        omega
      rw [xd_f, ln_3, if_pos (show isS wNot (ts.drop p) = true from hc), List.drop_drop, oneX_eq]
      refine line_3_yes hT t ex w b A c p (p + 1) rfl h hc _ (fun w' R => ?_)
      have := H3 (rank ts (p + 1) false) hlt (p + 1) false w' b A c R (Nat.le_refl _)
      rwa [xd_f] at this
  have h2 : LineH ts t ex v 2 := fun p d w b A c h hr => line_words hT t ex v 2 (by decide) h3 p d w b A c h hr
  have h1 : LineH ts t ex v 1 := fun p d w b A c h hr => line_words hT t ex v 1 (by decide) h2 p d w b A c h hr
  intro n hn1 hn9
  have : n = 1 ∨ n = 2 ∨ n = 3 ∨ n = 4 ∨ n = 5 ∨ n = 6 ∨ n = 7 ∨ n = 8 ∨ n = 9 := by omega
  rcases this with rfl | rfl | rfl | rfl | rfl | rfl | rfl | rfl | rfl
  · exact h1
  · exact h2
  · exact h3
  · exact h4
  · exact h5
  · exact h6
  · exact h7
  · exact h8
  · exact h9
theorem rank_zero {ts : List T} {p : Nat} {d : Bool} (hp : p < ts.length) (hr : rank ts p d ≤ 0) : d = true := by
  cases d with
  | true => rfl
  | false =>
    unfold rank at hr
    simp only [Bool.false_eq_true, if_false] at hr
    omega
theorem rLines {ts : List T} (hT : Toks ts) (t : TypeId) (ex : List Value) (HR : ∀ v, LineH ts t ex v 5 → (∀ u, u + 1 ≤ v → LineH ts t ex u 5 ∧ ListH ts t ex u) → RelH ts t ex v) :
    ∀ v, (∀ n, 1 ≤ n → n ≤ 9 → LineH ts t ex v n) ∧ ListH ts t ex v := by
  have key : ∀ k v, v < k → (∀ n, 1 ≤ n → n ≤ 9 → LineH ts t ex v n) ∧ ListH ts t ex v := by
    intro k
    induction k with
    | zero => intro v hv; omega
    | succ k ih =>
      intro v hv
      have hlow : ∀ u, u + 1 ≤ v → (∀ n, 1 ≤ n → n ≤ 9 → LineH ts t ex u n) ∧ ListH ts t ex u := fun u hu => ih u (by omega)
      have HP : FnH 72 9 ts t ex v := fun p d w b A c h hr => by
        rw [ln_9]
        rcases v with _ | u
        · obtain rfl := rank_zero h.hp hr
          exact prim_bad hT t ex w b A c p h
        · exact rPrim hT t ex u ((hlow u (Nat.le_refl _)).1 1 (by omega) (by omega)) (hlow u (Nat.le_refl _)).2 p d w b A c h hr
      have HM : LineH ts t ex v 9 → FnH 71 8 ts t ex v := fun h9 p d w b A c h hr => by
        rcases v with _ | u
        · obtain rfl := rank_zero h.hp hr
          exact minus_no hT t ex 0 h9 w b A c p true h rfl hr
        · exact rMinus hT t ex u ((hlow u (Nat.le_refl _)).1 8 (by omega) (by omega)) h9 p d w b A c h hr
      have hl := lines hT t ex v HP HM (fun h5 => HR v h5 (fun u hu => ⟨(hlow u hu).1 5 (by omega) (by omega), (hlow u hu).2⟩)) (fun u hu => (hlow u hu).1 3 (by omega) (by omega))
      exact ⟨hl, rList hT t ex v (hl 1 (by omega) (by omega))⟩
  exact fun v => key (v + 1) v (Nat.lt_succ_self _)
end Go.Proofs.YthohfegnphocbaaGreatDoor
namespace Go.Proofs.YthohfegnphocbaaGreatDoor
open Go.RowKit
structure Lk (w : World) (b : Nat) (ts : List T) (A : Option Addr) (c p : Nat) (t : TypeId) (ex : List Value) (x : X E) (z : Nat) (d : Bool) (wr : World) (P Q : Nat) (D : Bool) (a : E) (s0 : ByteArray) (i1 i2 : Int) (s3 s4 s5 : ByteArray) (A9 : Option Addr) (n9 c9 : Nat) : Prop where
  I : Inv w wr b ts A c Q D t ex
  qz : B7 wr z (.string s0) (.int .i64 i1) (.int .i64 i2) (.string s3) (.string s4) (.string s5) (.slice A9 n9 c9)
  G : Got wr (fun k => w.heap.size < k ∧ k ≠ z) a D (.agg #[.string s0, .int .i64 i1, .int .i64 i2, .string s3, .string s4, .string s5, .slice A9 n9 c9])
  zlt : w.heap.size < z
  le : p ≤ P
  dD : D = false → d = false
  f1 : D = true → endD x = true ∧ endP p x = P
  f2 : D = false → x = seqX (okX () (P - p)) fun _ _ => rl resB a (ts.drop P)
section
variable {w : World} {b : Nat} {ts : List T} {A : Option Addr} {c p : Nat} {t : TypeId} {ex : List Value} {x : X E} {z : Nat} {d : Bool} {wr wr' : World} {P Q : Nat} {D : Bool} {a : E} {s0 : ByteArray} {i1 i2 : Int} {s3 s4 s5 : ByteArray} {A9 : Option Addr} {n9 c9 : Nat}
theorem Lk.later (h : Lk w b ts A c p t ex x z d wr P Q D a s0 i1 i2 s3 s4 s5 A9 n9 c9) (hb : Below wr.heap.size wr wr') : Lk w b ts A c p t ex x z d wr' P Q D a s0 i1 i2 s3 s4 s5 A9 n9 c9 :=
  ⟨h.I.later hb, h.qz.later hb, h.G.later hb, h.zlt, h.le, h.dD, h.f1, h.f2⟩
theorem Lk.but {Q' : Nat} (h : Lk w b ts A c p t ex x z d wr P Q D a s0 i1 i2 s3 s4 s5 A9 n9 c9) (hb : But b wr wr') (R : RR wr' b ts A c Q' D t ex) : Lk w b ts A c p t ex x z d wr' P Q' D a s0 i1 i2 s3 s4 s5 A9 n9 c9 :=
  ⟨h.I.but hb R, h.qz.same (hb.block _ h.qz.lt (by have := h.zlt; have := h.I.lt; omega)), h.G.but hb (fun k hk => by have := h.I.lt; omega), h.zlt, h.le, h.dD, h.f1, h.f2⟩
theorem Lk.start {x1 : X E} {W : World} (hx : x = xd d (ln resB 4 (ts.drop p))) (hx1 : x1 = xd d (ln resB 5 (ts.drop p))) (h : Inv w wr b ts A c (endP p x1) (endD x1) t ex)
    (G : Got wr (fun k => w.heap.size < k) (endV x1) (endD x1) (.agg #[.string s0, .int .i64 i1, .int .i64 i2, .string s3, .string s4, .string s5, .slice A9 n9 c9]))
    (q : B7 W wr.heap.size (.string s0) (.int .i64 i1) (.int .i64 i2) (.string s3) (.string s4) (.string s5) (.slice A9 n9 c9)) (m : Below wr.heap.size wr W) :
    Lk w b ts A c p t ex x wr.heap.size d W (endP p x1) (endP p x1) (endD x1) (endV x1) s0 i1 i2 s3 s4 s5 A9 n9 c9 := by
  have hl := ln_4 resB (ts.drop p)
  refine ⟨h.later m, q, (G.wide (S' := fun k => w.heap.size < k ∧ k ≠ wr.heap.size) (fun k hk hlt => ⟨hk, by omega⟩)).later m, h.lt2, ?_, ?_, ?_, ?_⟩
  · rcases x1 with q | ⟨a, m⟩
    · show p ≤ p + q; omega
    · show p ≤ p + m; omega
  · intro hD
    cases d with
    | false => rfl
    | true => rw [hx1, xd_t] at hD; cases hD
  · intro hD
    cases d with
    | true => rw [hx, hx1, xd_t, xd_t]; exact ⟨rfl, rfl⟩
    | false =>
      rw [xd_f] at hx hx1
      rw [hx, hl, ← hx1]
      rcases x1 with q | ⟨a, m⟩
      · exact ⟨rfl, rfl⟩
      · cases hD
  · intro hD
    cases d with
    | true => rw [hx1, xd_t] at hD; cases hD
    | false =>
      rw [xd_f] at hx hx1
      rw [hx, hl, ← hx1]
      rcases x1 with q | ⟨a, m⟩
      · cases hD
      · simp only [endP, endV, seqX, okX, List.drop_drop, Nat.add_sub_cancel_left]
theorem Lk.fin (h : Lk w b ts A c p t ex x z d wr P Q D a s0 i1 i2 s3 s4 s5 A9 n9 c9) {y : X E} (hD : D = false) (hy : rl resB a (ts.drop P) = y) : endD x = endD y ∧ endP p x = endP P y ∧ endV x = endV y := by
  have hf := h.f2 hD
  have hle := h.le
  rw [hy] at hf
  rw [hf]
  rcases y with q | ⟨e, m⟩
  · exact ⟨rfl, by show p + (P - p + q) = P + q; omega, rfl⟩
  · exact ⟨rfl, by show p + (P - p + m) = P + m; omega, rfl⟩
end
end Go.Proofs.YthohfegnphocbaaGreatDoor
