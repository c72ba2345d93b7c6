/- Contract of the reader's single at a bracket, and at any token. No condition. -/
import Derived.Test.YthohfegnphocbaaGreatDoorQ18
import Derived.Test.YthohfegnphocbaaGreatDoorQ19
namespace Go.Proofs.YthohfegnphocbaaGreatDoor
open Go.RowKit
set_option maxRecDepth 100000 in
set_option maxHeartbeats 8000000 in
theorem single_brk {ts : List T} (hT : Toks ts) (v : Nat) (hL : LineOk ts v) (w : World) (b : Nat) (A : Option Addr) (c p : Nat) (d : Bool) (h : RS w b ts A c p d) (hv : ts.length - p ≤ v) (hyes : isS [40] (ts.drop p) = true) :
    Calls Tryz.prog 140 #[.pointer (some ⟨b, 0, none⟩)] w (Rp ts b A c p d w (fun k => w.heap.size ≤ k) (seqX (okX () 1) fun _ _ => seqX (ln resB 1 (ts.drop (p + 1))) fun x m => seqX (needX [41] (ts.drop (p + 1 + m))) fun _ _ => okX x 0)) := by
  have hbw := h.lt
  have hp := h.hp
  obtain ⟨W1, hW1, q1, z1, r1⟩ := zero7 w
  have R1 := h.later r1
  have H1 := Lib.hid (take1 hT 5 ⟨#[40]⟩ [40] rfl (.inr ⟨rfl, rfl⟩) W1 b A c p d R1)
  rw [hyes] at H1
  simp only [if_true] at H1
  have HW1 := Lib.hid hW1
  have HLn := Lib.hid (fun w (h : RS w b ts A c (p + 1) d) => hL 1 (p + 1) (by omega) (by omega) (by omega) w b A c d h)
  have HWn := Lib.hid (fun w p d (h : RS w b ts A c p d) g hM hg => want1 hT 5 ⟨#[41]⟩ [41] rfl (.inr ⟨rfl, rfl⟩) w b A c p d h g hM hg)
  have hX : ∀ x : X E, ln resB 1 (ts.drop (p + 1)) = x → (seqX (okX () 1) fun _ _ => seqX (ln resB 1 (ts.drop (p + 1))) fun x m => seqX (needX [41] (ts.drop (p + 1 + m))) fun _ _ => okX x 0) = match x with
      | .error q => .error (1 + q)
      | .ok (a, m) => if isS [41] (ts.drop (p + 1 + m)) = true then .ok (a, 2 + m) else .error (1 + m) := fun x hx => by
    rw [hx]
    rcases x with q | ⟨a, m⟩
    · simp [seqX, okX]
    · simp only
      by_cases hc : isS [41] (ts.drop (p + 1 + m)) = true
      · rw [if_pos hc]; simp [seqX, okX, needX, hc]; omega
      · rw [if_neg hc]; simp [seqX, okX, badX, needX, hc]
  rw [hX _ rfl]
  generalize ln resB 1 (ts.drop (p + 1)) = xl at *
  clear hyes hT hL hX hW1
  rcases xl with q | ⟨a, m⟩
  · simp only
    go_enter Tryz.func140, Tryz.ntmps140
    go_wp2_with (rw [← HW1.out])
    refine (H1.out).mono ?_
    rintro e w2 ⟨rfl, R2, b2⟩
    have F2 := ((Fr.refl b w.heap.size w).below r1 (Nat.le_refl _)).but b2 (by omega)
    have hz2 := b2.size
    have H2 := Lib.hid (HLn.out w2 R2)
    clear R2
    go_wp2_with fail
    refine (H2.out).mono ?_
    rintro e w3 ⟨rfl, b3⟩
    have HB := Lib.hid (F2.but b3 (by omega)).end
    unfold gone
    clear b3 b2 F2 r1 q1
    go_wp2_with fail
    exact ⟨rfl, ret_gone (by omega), HB.out⟩
  · simp only
    cases hc : isS [41] (ts.drop (p + 1 + m))
    all_goals
      simp only [Bool.false_eq_true, if_false, if_true]
      have HWf := Lib.hid (fun w d (h : RS w b ts A c (p + 1 + m) d) g hM hg => HWn.out w (p + 1 + m) d h g hM hg)
      simp only [hc, Bool.false_eq_true, if_false, if_true] at HWf
      clear hc HWn
      go_enter Tryz.func140, Tryz.ntmps140
      go_wp2_with (rw [← HW1.out])
      refine (H1.out).mono ?_
      rintro e w2 ⟨rfl, R2, b2⟩
      have F2 := ((Fr.refl b w.heap.size w).below r1 (Nat.le_refl _)).but b2 (by omega)
      have q2 := b2.seven q1 (by omega)
      have hz2 := b2.size
      have H2 := Lib.hid (HLn.out w2 R2)
      clear R2
      go_wp2_with fail
      refine (H2.out).mono ?_
      rintro e w3 ⟨⟨y, rfl, g3, R3⟩, b3⟩
      have F3 := F2.but b3 (by omega)
      have q3 := b3.seven q2 (by omega)
      have hz3 := b3.size
      obtain ⟨t0, j1, j2, t3, t4, t5, A9, n9, c9, rfl⟩ := g3.agg
      obtain ⟨V1, V2, hV1, hV2, p1, p2, zV, rV1, rV2⟩ := made7 w3 (.string t0) (.int .i64 j1) (.int .i64 j2) (.string t3) (.string t4) (.string t5) (.slice A9 n9 c9)
      obtain ⟨W5, hW5, hM5, z5, r5⟩ := mark1 V2 ⟨#[41]⟩
      have R5 := (R3.later rV2).later r5
      have H5 := Lib.hid (HWf.out W5 _ R5 V2.heap.size hM5 (by have := R3.lt; omega))
      have g5 := (g3.later rV2).later r5
      have p5 := p2.later r5
      have q5 := (q3.later rV2).later r5
      have F5 := (F3.below rV2 (by omega)).below r5 (by omega)
      obtain ⟨x0, x1, x2, x3, x4, x5, x6⟩ := p1.cells
      obtain ⟨y0, y1, y2, y3, y4, y5, y6⟩ := p1.free
      have HV1 := Lib.hid hV1
      have HV2 := Lib.hid hV2
      have HW5 := Lib.hid hW5
      have HzV := Lib.hid zV
      have Hz5 := Lib.hid z5
      clear hV1 hV2 hW5 R3 g3 b3 b2 R5 q2 q3 p1 p2 rV1 rV2 r5 zV z5
      go_wp2_with (first | (rw [← HW5.out]) | (rw [← HV2.out]) | (rw [← HV1.out]))
      refine (H5.out).mono ?_
      rintro e w6 ⟨⟨rfl, R6⟩, b6⟩
      first
      | (have HB := Lib.hid (F5.but b6 (by have := HzV.out; have := Hz5.out; omega)).end
         unfold gone
         clear b6 R6 g5 p5 q5 F5 F3 F2 r1 q1
         go_wp2_with fail
         exact ⟨rfl, ret_gone (by omega), HB.out⟩)
      | (have e1 := HzV.out
         have e2 := Hz5.out
         have F6 := F5.but b6 (by omega)
         have q6 := b6.seven q5 (by omega)
         have p6 := b6.seven p5 (by omega)
         have g6 := g5.but b6 (fun k hk => by omega)
         clear e1 e2
         obtain ⟨W7, hW7, q7, R7, G7, b7, z7, o7⟩ := put7 R6 g6 q6 hbw (fun k hk => by omega)
         have HW7 := Lib.hid hW7
         obtain ⟨m0, m1, m2, m3, m4, m5, m6⟩ := p6.cells
         obtain ⟨k0, k1, k2, k3, k4, k5, k6⟩ := q6.cells
         obtain ⟨f0, f1, f2, f3, f4, f5, f6⟩ := q6.free
         obtain ⟨l0, l1, l2, l3, l4, l5, l6⟩ := q7.cells
         rw [show p + 1 + m + 1 = p + (2 + m) by omega] at R7
         have HR := Lib.hid R7
         have HGG := Lib.hid (G7.wide (S' := fun k => w.heap.size ≤ k) (fun k hk _ => by omega))
         have HB := Lib.hid (F6.below (b7 _ (Nat.le_refl _)) (Nat.le_refl _)).end
         clear hW7 q6 q7 R6 R7 G7 g6 g5 b6 b7 o7 F6 F5 F3 F2 p6 p5 q5 r1 q1
         go_wp2_with (rw [← HW7.out])
         exact bodyPost_ret (v := .agg #[.string t0, .int .i64 j1, .int .i64 j2, .string t3, .string t4, .string t5, .slice A9 n9 c9]) (by simp [results, Tryz.results140, go_sem, l0, l1, l2, l3, l4, l5, l6]) rfl ⟨⟨_, rfl, HGG.out, HR.out⟩, HB.out⟩)
theorem single_any {ts : List T} (hT : Toks ts) (v : Nat) (hL : LineOk ts v) (w : World) (b : Nat) (A : Option Addr) (c p : Nat) (d : Bool) (h : RS w b ts A c p d) (hv : ts.length - p ≤ v) :
    Calls Tryz.prog 140 #[.pointer (some ⟨b, 0, none⟩)] w (Rp ts b A c p d w (fun k => w.heap.size ≤ k) (pr resB (ts.drop p))) := by
  rw [pr_C (hT.here h.hp).1]
  cases hc : isS [40] (ts.drop p)
  · simp only [Bool.false_eq_true, if_false]
    cases hx : conX (here (ts.drop p)) with
    | none => exact single_none hT w b A c p d h v hL hv hc hx
    | some u => exact single_con hT w b A c p d h hc u hx
  · simp only [if_true]
    have := single_brk hT v hL w b A c p d h hv hc
    simp only [List.drop_drop]
    simp only [show ∀ m, p + (1 + m) = p + 1 + m from fun m => by omega]
    exact this
end Go.Proofs.YthohfegnphocbaaGreatDoor
namespace Go.Proofs.YthohfegnphocbaaGreatDoor
open Go.RowKit
theorem neg_wrap {i : Int} (h : -9223372036854775808 ≤ i ∧ i ≤ 9223372036854775807) : IntKind.i64.wrap (-i) = negI i := by
  unfold negI
  split
  · rename_i e; subst e; rfl
  · rw [IntKind.wrap_i64]; omega
def negX : X E → X E
  | .error q => .error (1 + q)
  | .ok (a, m) => .ok (op1 wNeg [a], 1 + m)
theorem negX_eq (xs : X E) : (seqX (okX () 1) fun _ _ => seqX xs fun x _ => okX (op1 wNeg [x]) 0) = negX xs := by rcases xs with q | ⟨a, m⟩ <;> simp [seqX, okX, negX]
theorem got_one {w : World} {S : Nat → Prop} {B : Nat} {e : E} {d : Bool} (r : Rw) (hs : Sub S w r.1 r.2.1 r.2.2) (hr : tooDp d e = false → r.1 = e) (hB : B ≤ w.heap.size) (hS : ∀ k, S k → B ≤ k) :
    LGot (w.alloc (.cells (rowCells r).toArray 27)) (fun k => B ≤ k) [e] (tooDpL d [e]) (.slice (some ⟨w.heap.size, 0, none⟩) 1 1) := by
  have := ownL_one (w := w) (B := B) (S := fun k => B ≤ k) (e := e) (d := tooDpL d [e]) r (hs.keep (fun k hk _ => ⟨hS k hk, rfl⟩) (Nat.le_refl _)) (by rw [tooDpL_one]; exact hr) hB
  exact this.got (fun k hk => hk)
set_option maxRecDepth 100000 in
set_option maxHeartbeats 8000000 in
theorem signed_neg {ts : List T} (hT : Toks ts) (w : World) (b : Nat) (A : Option Addr) (c p : Nat) (d : Bool) (h : RS w b ts A c p d) (hyes : isS [45] (ts.drop p) = true) (hk : (here (ts.drop (p + 1))).k = 2) :
    Calls Tryz.prog 105 #[.pointer (some ⟨b, 0, none⟩)] w (Rp ts b A c p d w (fun k => w.heap.size ≤ k) (okX (lit ⟨2, negI (here (ts.drop (p + 1))).i, []⟩) 2)) := by
  have hbw := h.lt
  have hp := h.hp
  obtain ⟨W1, hW1, q1, z1, r1⟩ := zero7 w
  have R1 := h.later r1
  have H1 := Lib.hid (take1 hT 5 ⟨#[45]⟩ [45] rfl (.inr ⟨rfl, rfl⟩) W1 b A c p d R1)
  rw [hyes] at H1
  simp only [if_true] at H1
  have HW1 := Lib.hid hW1
  have hp1 : p + 1 < ts.length := hT.next hp (isS_kind hyes)
  have hp2 : p + 1 + 1 < ts.length := hT.next hp1 (by rw [hk]; decide)
  have hrange := (hT.here hp1).2.2 hk
  rw [here_drop hp1] at hk hrange ⊢
  have HLit := Lib.hid (fun w => lit_any ⟨2, negI ts[p + 1].i, []⟩ w)
  have hneg := neg_wrap hrange
  unfold vVal at HLit
  simp only [str_nil] at HLit
  have hlen := hT.len
  generalize negI ts[p + 1].i = ni at *
  clear hyes hT hW1 hrange
  go_enter Tryz.func105, Tryz.ntmps105
  go_wp2_with (rw [← HW1.out])
  refine (H1.out).mono ?_
  rintro e w2 ⟨rfl, R2, b2⟩
  have F2 := ((Fr.refl b w.heap.size w).below r1 (Nat.le_refl _)).but b2 (by omega)
  have q2 := b2.seven q1 (by omega)
  have hz2 := b2.size
  obtain ⟨c0, c1, c2, f1, f2⟩ := R2.cells
  obtain ⟨g, off, rfl, hg, hc⟩ := R2.toks (by omega)
  obtain ⟨t0, t1, t2, t3⟩ := hc (p + 1) hp1
  obtain ⟨bx, hbx, bz, hbz⟩ := readT w2 ts[p + 1]
  obtain ⟨z0, z1', z2, z3⟩ := bz.zcells
  obtain ⟨y0, y1, y2, y3⟩ := bz.free
  obtain ⟨u0, u1, u2, u3⟩ := bx.cells
  have hR1 := R2.later hbz
  obtain ⟨d0, d1, d2, d3, d4⟩ := hR1.cells
  have hR := R2.later hbx
  obtain ⟨v0, v1, v2, v3, v4⟩ := hR.cells
  have hpz : ((p + 1 : Nat) : Int) < (ts.length : Int) := by omega
  have e0 := (hbz.cell (p := ⟨g, off + (p + 1) * 4, none⟩) (by have := R2.lt; show g < _; omega)).trans t0
  have e1 := (hbz.cell (p := ⟨g, off + (p + 1) * 4 + 1, none⟩) (by have := R2.lt; show g < _; omega)).trans t1
  have e2 := (hbz.cell (p := ⟨g, off + (p + 1) * 4 + 2, none⟩) (by have := R2.lt; show g < _; omega)).trans t2
  have e3 := (hbz.cell (p := ⟨g, off + (p + 1) * 4 + 3, none⟩) (by have := R2.lt; show g < _; omega)).trans t3
  have hwz : w2.heap.size < (w2.alloc (.cells #[.int .i64 ts[p + 1].k, .string (str ts[p + 1].s), .int .i64 ts[p + 1].i, .int .i64 ts[p + 1].p] 51)).drew.heap.size := by show _ < (w2.alloc _).heap.size; simp
  have HR := Lib.hid hR
  have HB := Lib.hid hbx
  have HF2 := Lib.hid F2
  have HQ2 := Lib.hid (q2.later hbx)
  rw [hk] at *
  have hbw2 := R2.lt
  generalize str ts[p + 1].s = tx at *
  generalize ts[p + 1].i = ti at *
  generalize ts[p + 1].p = tp at *
  generalize hpp : p + 1 = p1 at *
  clear R2 hR hR1 bx bz hbx hbz F2 q2 b2 hc hk r1 q1 R1 H1 h
  go_wp2_with fail
  go_region
  generalize (w2.alloc (.cells #[.int .i64 2, .string tx, .int .i64 ti, .int .i64 tp] 51)).drew = W at *
  have u2x := (World.cell?_setCell_other W ⟨b, 1, none⟩ ⟨w2.heap.size, 2, none⟩ (.int .i64 ((p1 : Int) + 1)) (by simp <;> omega)).trans u2
  have R5 := HR.out.at hp2
  have F5 := (HF2.out.below HB.out (by omega)).set 1 (.int .i64 (p1 + 1 : Nat))
  have q5 := HQ2.out.off (b := b) (by omega) 1 (.int .i64 (p1 + 1 : Nat))
  simp only [Int.natCast_add, Int.natCast_one] at R5 F5 q5
  have HR5 := Lib.hid R5
  have HF5 := Lib.hid F5
  have HQ5 := Lib.hid q5
  have hwW := HB.out.size
  clear R5 F5 q5 HR HF2 HQ2 HB
  go_wp2_with (simp only [hneg])
  refine (HLit.out _).mono ?_
  rintro e w6 ⟨y, rfl, a6, b6⟩
  have R6 := HR5.out.later b6
  have F6 := HF5.out.below b6 (by have := HF5.out.size; omega)
  have q6 := HQ5.out.later b6
  have g6 : Got w6 (fun k => w.heap.size + 1 ≤ k) (lit ⟨2, ni, []⟩) d y := ⟨_, a6.wide (fun _ hk => hk.elim), fun _ => rfl⟩
  obtain ⟨t0, j1, j2, t3, t4, t5, A9, n9, c9, rfl⟩ := g6.agg
  obtain ⟨W7, hW7, q7, R7, G7, b7, z7, o7⟩ := put7 R6 g6 q6 hbw (fun k hk => by omega)
  have HW7 := Lib.hid hW7
  obtain ⟨k0, k1, k2, k3, k4, k5, k6⟩ := q6.cells
  obtain ⟨f0, f1, f2, f3, f4, f5, f6⟩ := q6.free
  obtain ⟨l0, l1, l2, l3, l4, l5, l6⟩ := q7.cells
  rw [← tooDp_lit d ⟨2, ni, []⟩] at R7 G7
  rw [show p1 + 1 = p + 2 by omega] at R7
  have HR := Lib.hid R7
  have HGG := Lib.hid (G7.wide (S' := fun k => w.heap.size ≤ k) (fun k hk _ => by omega))
  have HB := Lib.hid (F6.below (b7 _ (Nat.le_refl _)) (Nat.le_refl _)).end
  clear hW7 q6 q7 R6 R7 G7 g6 a6 b6 b7 o7 F6
  go_wp2_with (rw [← HW7.out])
  exact bodyPost_ret (v := .agg #[.string t0, .int .i64 j1, .int .i64 j2, .string t3, .string t4, .string t5, .slice A9 n9 c9]) (by simp [results, Tryz.results105, go_sem, l0, l1, l2, l3, l4, l5, l6]) rfl ⟨⟨_, rfl, HGG.out, HR.out⟩, HB.out⟩
set_option maxRecDepth 100000 in
set_option maxHeartbeats 8000000 in
theorem signed_none {ts : List T} (hT : Toks ts) (v : Nat) (hL : LineOk ts v) (w : World) (b : Nat) (A : Option Addr) (c p : Nat) (d : Bool) (h : RS w b ts A c p d) (hv : ts.length - p ≤ v) (hno : isS [45] (ts.drop p) = false) :
    Calls Tryz.prog 105 #[.pointer (some ⟨b, 0, none⟩)] w (Rp ts b A c p d w (fun k => w.heap.size ≤ k) (pr resB (ts.drop p))) := by
  have hbw := h.lt
  obtain ⟨W1, hW1, q1, z1, r1⟩ := zero7 w
  have R1 := h.later r1
  have H1 := Lib.hid (take1 hT 5 ⟨#[45]⟩ [45] rfl (.inr ⟨rfl, rfl⟩) W1 b A c p d R1)
  rw [hno] at H1
  simp only [Bool.false_eq_true, if_false] at H1
  have HW1 := Lib.hid hW1
  have HS := Lib.hid (fun w (h : RS w b ts A c p d) => single_any hT v hL w b A c p d h hv)
  generalize pr resB (ts.drop p) = xn at *
  clear hno hT hW1 hL h R1
  go_enter Tryz.func105, Tryz.ntmps105
  go_wp2_with (rw [← HW1.out])
  refine (H1.out).mono ?_
  rintro e w2 ⟨rfl, R2, b2⟩
  have F2 := ((Fr.refl b w.heap.size w).below r1 (Nat.le_refl _)).but b2 (by omega)
  have q2 := b2.seven q1 (by omega)
  have hz2 := b2.size
  have H2 := Lib.hid (HS.out w2 R2)
  clear R2 b2 r1 q1 H1
  go_wp2_with fail
  refine (H2.out).mono ?_
  rcases xn with q | ⟨a, m⟩
  · rintro e w6 ⟨rfl, b6⟩
    have HB := Lib.hid (F2.but b6 (by omega)).end
    unfold gone
    clear b6 q2 F2
    go_wp2_with fail
    exact ⟨rfl, rfl, HB.out⟩
  · rintro e w6 ⟨⟨y, rfl, g6, R6⟩, b6⟩
    have F6 := F2.but b6 (by omega)
    have q6 := b6.seven q2 (by omega)
    obtain ⟨t0, j1, j2, t3, t4, t5, A9, n9, c9, rfl⟩ := g6.agg
    obtain ⟨W7, hW7, q7, R7, G7, b7, z7, o7⟩ := put7 R6 g6 q6 hbw (fun k hk => by omega)
    have HW7 := Lib.hid hW7
    obtain ⟨k0, k1, k2, k3, k4, k5, k6⟩ := q6.cells
    obtain ⟨f0, f1, f2, f3, f4, f5, f6⟩ := q6.free
    obtain ⟨l0, l1, l2, l3, l4, l5, l6⟩ := q7.cells
    have HR := Lib.hid R7
    have HGG := Lib.hid (G7.wide (S' := fun k => w.heap.size ≤ k) (fun k hk _ => by omega))
    have HB := Lib.hid (F6.below (b7 _ (Nat.le_refl _)) (Nat.le_refl _)).end
    clear hW7 q6 q7 R6 R7 G7 g6 b6 b7 o7 F6 F2 q2
    go_wp2_with (rw [← HW7.out])
    exact bodyPost_ret (v := .agg #[.string t0, .int .i64 j1, .int .i64 j2, .string t3, .string t4, .string t5, .slice A9 n9 c9]) (by simp [results, Tryz.results105, go_sem, l0, l1, l2, l3, l4, l5, l6]) rfl ⟨⟨_, rfl, HGG.out, HR.out⟩, HB.out⟩
set_option maxRecDepth 100000 in
set_option maxHeartbeats 8000000 in
theorem signed_more {ts : List T} (hT : Toks ts) (w : World) (b : Nat) (A : Option Addr) (c p : Nat) (d : Bool) (h : RS w b ts A c p d) (hyes : isS [45] (ts.drop p) = true) (hk : ¬ (here (ts.drop (p + 1))).k = 2) (xs : X E)
    (hS : ∀ w (d : Bool), RS w b ts A c (p + 1) d → Calls Tryz.prog 105 #[.pointer (some ⟨b, 0, none⟩)] w (Rp ts b A c (p + 1) d w (fun k => w.heap.size ≤ k) xs)) :
    Calls Tryz.prog 105 #[.pointer (some ⟨b, 0, none⟩)] w (Rp ts b A c p d w (fun k => w.heap.size ≤ k) (seqX (okX () 1) fun _ _ => seqX xs fun x _ => okX (op1 wNeg [x]) 0)) := by
  rw [negX_eq]
  have hbw := h.lt
  have hp := h.hp
  obtain ⟨W1, hW1, q1, z1, r1⟩ := zero7 w
  have R1 := h.later r1
  have H1 := Lib.hid (take1 hT 5 ⟨#[45]⟩ [45] rfl (.inr ⟨rfl, rfl⟩) W1 b A c p d R1)
  rw [hyes] at H1
  simp only [if_true] at H1
  have HW1 := Lib.hid hW1
  have hp1 : p + 1 < ts.length := hT.next hp (isS_kind hyes)
  rw [here_drop hp1] at hk
  have hlen := hT.len
  have HS := Lib.hid hS
  clear hyes hT hW1 hS
  go_enter Tryz.func105, Tryz.ntmps105
  go_wp2_with (rw [← HW1.out])
  refine (H1.out).mono ?_
  rintro e w2 ⟨rfl, R2, b2⟩
  have F2 := ((Fr.refl b w.heap.size w).below r1 (Nat.le_refl _)).but b2 (by omega)
  have q2 := b2.seven q1 (by omega)
  have hz2 := b2.size
  obtain ⟨c0, c1, c2, f1, f2⟩ := R2.cells
  obtain ⟨g, off, rfl, hg, hc⟩ := R2.toks (by omega)
  obtain ⟨t0, t1, t2, t3⟩ := hc (p + 1) hp1
  obtain ⟨bx, hbx, bz, hbz⟩ := readT w2 ts[p + 1]
  obtain ⟨z0, z1', z2, z3⟩ := bz.zcells
  obtain ⟨y0, y1, y2, y3⟩ := bz.free
  obtain ⟨u0, u1, u2, u3⟩ := bx.cells
  have hR1 := R2.later hbz
  obtain ⟨d0, d1, d2, d3, d4⟩ := hR1.cells
  have hR := R2.later hbx
  have hpz : ((p + 1 : Nat) : Int) < (ts.length : Int) := by omega
  have e0 := (hbz.cell (p := ⟨g, off + (p + 1) * 4, none⟩) (by have := R2.lt; show g < _; omega)).trans t0
  have e1 := (hbz.cell (p := ⟨g, off + (p + 1) * 4 + 1, none⟩) (by have := R2.lt; show g < _; omega)).trans t1
  have e2 := (hbz.cell (p := ⟨g, off + (p + 1) * 4 + 2, none⟩) (by have := R2.lt; show g < _; omega)).trans t2
  have e3 := (hbz.cell (p := ⟨g, off + (p + 1) * 4 + 3, none⟩) (by have := R2.lt; show g < _; omega)).trans t3
  have HR := Lib.hid hR
  have HB := Lib.hid hbx
  have HF2 := Lib.hid F2
  have HQ2 := Lib.hid (q2.later hbx)
  have hkf : (ts[p + 1].k == 2) = false := by simpa using hk
  generalize ts[p + 1].k = tk at *
  generalize str ts[p + 1].s = tx at *
  generalize ts[p + 1].i = ti at *
  generalize ts[p + 1].p = tp at *
  generalize hpp : p + 1 = p1 at *
  clear R2 hR hR1 bx bz hbx hbz F2 q2 b2 hc hk r1 q1 R1 H1 h
  go_wp2_with fail
  go_region
  generalize (w2.alloc (.cells #[.int .i64 tk, .string tx, .int .i64 ti, .int .i64 tp] 51)).drew = W at *
  have hwW := HB.out.size
  have H5 := Lib.hid (HS.out W d HR.out)
  have HF5 := Lib.hid (HF2.out.below HB.out (by omega))
  clear HR HF2 HB HS
  go_wp2_with fail
  refine (H5.out).mono ?_
  rcases xs with q | ⟨a, m⟩
  · rintro e w6 ⟨rfl, b6⟩
    have HBe := Lib.hid (HF5.out.but b6 (by have := HF5.out.size; omega)).end
    unfold gone
    clear b6
    go_wp2_with fail
    exact ⟨rfl, ret_gone (by omega), HBe.out⟩
  · rintro e w6 ⟨⟨y, rfl, g6, R6⟩, b6⟩
    have F6 := HF5.out.but b6 (by have := HF5.out.size; omega)
    have q6 := b6.seven HQ2.out (by omega)
    have hz6 := b6.size
    obtain ⟨r, rfl, hs, hr⟩ := g6.row
    have g7 := got_one (w := w6) (S := fun k => W.heap.size ≤ k) (B := W.heap.size) (e := a) (d := d) r hs hr hz6 (fun k hk => hk)
    have r7 := (Below.refl w6.heap.size w6).alloc (Nat.le_refl _) (.cells (rowCells r).toArray 27)
    have R7 := R6.later r7
    have q7 := q6.later r7
    have F7 := F6.below r7 (by have := HF5.out.size; omega)
    obtain ⟨V, hV⟩ : ∃ V, V = w6.alloc (.cells (rowCells r).toArray 27) := ⟨_, rfl⟩
    have hVz : V.heap.size = w6.heap.size + 1 := by rw [hV]; simp
    rw [← hV] at g7 r7 R7 q7 F7
    rw [← tooDpL_one] at R7
    have H7 := Lib.hid (made_any V b _ c (p1 + m) (tooDpL d [a]) R7 (fun k => W.heap.size ≤ k) wNeg [a] _ g7 (fun hh => (tooDpL_le hh).2) (fun k hk => by omega) ⟨#[110, 101, 103]⟩ rfl)
    have HF7 := Lib.hid F7
    have HQ7 := Lib.hid q7
    have HVz := Lib.hid hVz
    have hzF := HF5.out.size
    simp only [rowCells] at hV ⊢
    have HV := Lib.hid hV
    clear hV g7 r7 R7 q7 F7 g6 R6 b6 q6 F6 hs hr hVz
    go_wp2_with (rw [← HV.out])
    refine (H7.out).mono ?_
    rintro e w8 ⟨y, rfl, g8, R8, b8⟩
    have e1 := HVz.out
    have F8 := HF7.out.but b8 (by omega)
    have q8 := b8.seven HQ7.out (by omega)
    obtain ⟨t0, j1, j2, t3, t4, t5, A9, n9, c9, rfl⟩ := g8.agg
    obtain ⟨W9, hW9, q9, R9, G9, b9, z9, o9⟩ := put7 R8 g8 q8 hbw (fun k hk => by omega)
    have HW9 := Lib.hid hW9
    obtain ⟨k0, k1, k2, k3, k4, k5, k6⟩ := q8.cells
    obtain ⟨f0, f1, f2, f3, f4, f5, f6⟩ := q8.free
    obtain ⟨l0, l1, l2, l3, l4, l5, l6⟩ := q9.cells
    rw [show op1 wNeg [a] = E.mk wNeg v0 [] [] [a] from rfl, tooDp_of] at R9 G9
    rw [show p1 + m = p + (1 + m) by omega] at R9
    have HR := Lib.hid R9
    have HGG := Lib.hid (G9.wide (S' := fun k => w.heap.size ≤ k) (fun k hk _ => by omega))
    have HBe := Lib.hid (F8.below (b9 _ (Nat.le_refl _)) (Nat.le_refl _)).end
    clear hW9 q8 q9 R8 R9 G9 g8 b8 b9 o9 F8 e1
    go_wp2_with (rw [← HW9.out])
    exact bodyPost_ret (v := .agg #[.string t0, .int .i64 j1, .int .i64 j2, .string t3, .string t4, .string t5, .slice A9 n9 c9]) (by simp [results, Tryz.results105, go_sem, l0, l1, l2, l3, l4, l5, l6]) rfl ⟨⟨_, rfl, HGG.out, HR.out⟩, HBe.out⟩
theorem signed_any {ts : List T} (hT : Toks ts) (v : Nat) (hL : LineOk ts v) (k : Nat) : ∀ (p : Nat), ts.length - p < k → ts.length - p ≤ v → ∀ (w : World) (b : Nat) (A : Option Addr) (c : Nat) (d : Bool), RS w b ts A c p d →
    Calls Tryz.prog 105 #[.pointer (some ⟨b, 0, none⟩)] w (Rp ts b A c p d w (fun k => w.heap.size ≤ k) (ln resB 8 (ts.drop p))) := by
  induction k with
  | zero => intro p h; omega
  | succ k ih =>
    intro p hk hv w b A c d h
    have hp := h.hp
    rw [ln_8]
    cases hc : isS [45] (ts.drop p)
    · simp only [Bool.false_eq_true, if_false]
      exact signed_none hT v hL w b A c p d h hv hc
    · simp only [if_true, List.drop_drop]
      by_cases h2 : (here (ts.drop (p + 1))).k = 2
      · simp only [h2]
        exact signed_neg hT w b A c p d h hc h2
      · have : ((here (ts.drop (p + 1))).k == 2) = false := by simpa using h2
        simp only [this, Bool.false_eq_true, if_false]
        exact signed_more hT w b A c p d h hc h2 _ (fun w d h => ih (p + 1) (by omega) (by omega) w b A c d h)
end Go.Proofs.YthohfegnphocbaaGreatDoor
namespace Go.Proofs.YthohfegnphocbaaGreatDoor
open Go.RowKit
theorem keepAny {G : Prop} (h : G) (_ : wpAny Tryz.prog .any (#[] : Array Oper) (fun _ _ _ => True) 0 #[] { tmps := #[], defers := [] } default) : G := h
theorem tooDp_same {d : Bool} {a : E} (h : d = false → a.deep ≤ 40) : tooDp d a = d := by
  unfold tooDp
  cases d with
  | true => rfl
  | false => rw [decide_eq_false (by have := h rfl; omega)]; rfl
theorem tooDp_le {d : Bool} {a : E} (h : tooDp d a = false) : d = false ∧ a.deep ≤ 40 := by
  unfold tooDp at h
  simp only [Bool.or_eq_false_iff, decide_eq_false_iff_not] at h
  exact ⟨h.1, by omega⟩
theorem got_lit {w : World} {S : Nat → Prop} {B : Nat} {l : List E} {d : Bool} (rs : List Rw) (hs : ∀ r ∈ rs, Sub S w r.1 r.2.1 r.2.2) (hl : rs.length = l.length) (hr : d = false → rs.map (·.1) = l) (hB : B ≤ w.heap.size) (hm : rs.length ≤ maxLen) (n : Nat) (hn : rs.length = n) :
    LGot (w.alloc (.cells (flatE rs).toArray 27)) (fun k => S k ∨ B ≤ k) l d (.slice (some ⟨w.heap.size, 0, none⟩) n n) := by
  subst hn
  refine OwnL.got (B := B) ⟨rs, ?_, fun r hr => (hs r hr).keep (fun k hk hlt => ⟨⟨.inl hk, ?_⟩, Below.heap_alloc _ _ _ hlt⟩) (by simp), hl, hr⟩ (fun k hk => .inr hk)
  · have := World.ownsRow_lit (base := B) (e := 27) (size := 7) w (flatE rs).toArray rs.length hB hm (by simp [flatE_len])
    simpa using this
  · intro e
    injection e with e
    simp at e
    omega
theorem mark2 (w : World) (m m' : ByteArray) : ∃ W : World, W = w.alloc (.cells #[.string m, .string m'] 9) ∧ MAt W w.heap.size [m, m'] ∧ W.heap.size = w.heap.size + 1 ∧ Below w.heap.size w W := by
  refine ⟨_, rfl, ⟨by simp, fun j hj => ?_⟩, by simp, (Below.refl w.heap.size w).alloc (Nat.le_refl _) _⟩
  have hj2 : j < 2 := hj
  rw [Lib.cell_of_heap (heap_alloc_new w _)]
  have : j = 0 ∨ j = 1 := by omega
  rcases this with rfl | rfl <;> rfl
theorem mark3 (w : World) (m m' m2 : ByteArray) : ∃ W : World, W = w.alloc (.cells #[.string m, .string m', .string m2] 9) ∧ MAt W w.heap.size [m, m', m2] ∧ W.heap.size = w.heap.size + 1 ∧ Below w.heap.size w W := by
  refine ⟨_, rfl, ⟨by simp, fun j hj => ?_⟩, by simp, (Below.refl w.heap.size w).alloc (Nat.le_refl _) _⟩
  have hj2 : j < 3 := hj
  rw [Lib.cell_of_heap (heap_alloc_new w _)]
  have : j = 0 ∨ j = 1 ∨ j = 2 := by omega
  rcases this with rfl | rfl | rfl <;> rfl
theorem want2 {ts : List T} (hT : Toks ts) (k : Int) (m1 m2 : ByteArray) (s1 s2 : List UInt8) (he1 : m1.data.toList = s1) (he2 : m2.data.toList = s2) (hk : (k = 1 ∧ headIs s1 isLet = true ∧ headIs s2 isLet = true)) (w : World) (b : Nat) (A : Option Addr) (c p : Nat) (d : Bool) (h : RS w b ts A c p d) (g : Nat) (hM : MAt w g [m1, m2]) (hg : g ≠ b) :
    Calls Tryz.prog 108 #[.pointer (some ⟨b, 0, none⟩), .int .i64 k, .slice (some ⟨g, 0, none⟩) 2 2] w fun e w' => (if isS s1 (ts.drop p) = true then e = .returned (.string m1) ∧ RS w' b ts A c (p + 1) d else if isS s2 (ts.drop p) = true then e = .returned (.string m2) ∧ RS w' b ts A c (p + 1) d else e = gone p ∧ RS w' b ts A c p d) ∧ But b w w' := by
  refine (want_any hT w b A c p d h k [m1, m2] g hM hg (by simp) 2 rfl (by intro m' hm'; simp at hm'; rcases hm' with rfl | rfl; rw [he1]; exact .inl ⟨hk.1, hk.2.1⟩; rw [he2]; exact .inl ⟨hk.1, hk.2.2⟩)).mono fun e w' hh => ?_
  rw [List.find?_cons, List.find?_cons, List.find?_nil, he1, he2] at hh
  refine ⟨?_, hh.2⟩
  have h1 := hh.1
  cases hc : isS s1 (ts.drop p)
  · rw [hc] at h1
    cases hc2 : isS s2 (ts.drop p)
    · rw [hc2] at h1; exact h1
    · rw [hc2] at h1; exact h1
  · rw [hc] at h1; exact h1
def Rs (S : Nat → Prop) (w : World) : Nat → Prop := fun k => S k ∨ w.heap.size ≤ k
theorem isX_eq (a : E) (ts : List T) (p : Nat) : isX a (ts.drop p) = if isS wNull (ts.drop p) = true then okX (op1 wIsnull [a]) 1 else if isS wNot (ts.drop p) = true then (if isS wNull (ts.drop (p + 1)) = true then okX (op1 wNotnull [a]) 2 else badX 1) else badX 0 := by
  unfold isX needX
  simp only [List.drop_drop]
  split
  · rfl
  · split
    · split <;> rfl
    · rfl
theorem madeN {ts : List T} {w : World} {b : Nat} {A : Option Addr} {c p : Nat} {d : Bool} (R : RS w b ts A c p d) {S : Nat → Prop} (rs : List Rw) (l : List E) (hs : ∀ r ∈ rs, Sub S w r.1 r.2.1 r.2.2) (hl : rs.length = l.length) (hr : d = false → rs.map (·.1) = l) (hd : d = false → E.deepL l ≤ 40) (hS : ∀ k, S k → k ≠ b)
    (B : Nat) (hB : B ≤ w.heap.size) (hbB : b < B) (hm : rs.length ≤ 10) (n : Nat) (hn : rs.length = n) (o : List UInt8) (so : ByteArray) (hso : so = str o) :
    ∃ W : World, W = w.alloc (.cells (flatE rs).toArray 27) ∧ Below w.heap.size w W ∧ W.heap.size = w.heap.size + 1 ∧
      Calls Tryz.prog 68 #[.pointer (some ⟨b, 0, none⟩), .string so, .slice (some ⟨w.heap.size, 0, none⟩) n n] W fun r w' => ∃ y, r = .returned y ∧ Got w' (fun k => S k ∨ B ≤ k) (op1 o l) (tooDp d (op1 o l)) y ∧ RS w' b ts A c p (tooDp d (op1 o l)) ∧ But b W w' := by
  have r2 := (Below.refl w.heap.size w).alloc (Nat.le_refl _) (.cells (flatE rs).toArray 27)
  refine ⟨_, rfl, r2, by simp, ?_⟩
  exact made_any _ b A c p d (R.later r2) (fun k => S k ∨ B ≤ k) o l _ (got_lit rs hs hl hr hB (by unfold maxLen; omega) n hn) hd (fun k hk => by rcases hk with hk | hk; exact hS k hk; omega) so hso
theorem Got.keep {w w' : World} {S S' : Nat → Prop} {e : E} {d : Bool} {x : Value} (h : Got w S e d x) (hS : ∀ k, S k → k < w.heap.size → S' k ∧ w'.heap[k]? = w.heap[k]?) (hz : w.heap.size ≤ w'.heap.size) : Got w' S' e d x := by
  obtain ⟨e', h1, h2⟩ := h
  exact ⟨e', h1.keep hS hz, h2⟩
theorem Sub.but {S : Nat → Prop} {b : Nat} {w w' : World} {e : E} {A : Option Addr} {c : Nat} (h : Sub S w e A c) (hb : But b w w') (hS : ∀ k, S k → k ≠ b) : Sub S w' e A c := h.keep (fun k hk hlt => ⟨hk, hb.block k hlt (hS k hk)⟩) hb.size
theorem Sub.later {S : Nat → Prop} {w w' : World} {e : E} {A : Option Addr} {c : Nat} (h : Sub S w e A c) (hb : Below w.heap.size w w') : Sub S w' e A c := h.keep (fun k hk hlt => ⟨hk, hb.block k hlt⟩) hb.size
theorem Sub.lim {S : Nat → Prop} {w : World} {e : E} {A : Option Addr} {c : Nat} (h : Sub S w e A c) : Sub (fun k => S k ∧ k < w.heap.size) w e A c := h.keep (fun _ hk hlt => ⟨⟨hk, hlt⟩, rfl⟩) (Nat.le_refl _)
theorem is_eqs (a : E) {d : Bool} (h : d = false → a.deep ≤ 40) : d = false → E.deepL [a] ≤ 40 := fun hd => by have := h hd; simp [E.deepL]; omega
set_option maxRecDepth 100000 in
set_option maxHeartbeats 8000000 in
theorem is_any {ts : List T} (hT : Toks ts) (w : World) (b : Nat) (A : Option Addr) (c p : Nat) (d : Bool) (h : RS w b ts A c p d) (S : Nat → Prop) (a : E) (x : Value) (hx : Got w S a d x) (hd : d = false → a.deep ≤ 40) (hS : ∀ k, S k → k ≠ b) :
    Calls Tryz.prog 106 #[.pointer (some ⟨b, 0, none⟩), x] w (Rp ts b A c p d w (Rs S w) (isX a (ts.drop p))) := by
  rw [isX_eq]
  have hbw := h.lt
  obtain ⟨r, rfl, hs0, hr⟩ := hx.row
  have hs := hs0.lim
  simp only [rowCells]
  obtain ⟨W1, hW1, q1, z1, r1⟩ := box7 w (.string (str r.1.op)) (.int .i64 r.1.v.k) (.int .i64 r.1.v.i) (.string (str r.1.v.s)) (.string (str r.1.tb)) (.string (str r.1.nm)) (.slice r.2.1 r.1.l.length r.2.2)
  obtain ⟨W2, hW2, q2, z2, r2⟩ := zero7 W1
  rw [z1] at q2 z2
  obtain ⟨W3, hW3, hM3, z3, r3⟩ := mark2 W2 ⟨#[110, 117, 108, 108]⟩ ⟨#[110, 111, 116]⟩
  rw [z2] at hM3 z3
  have R3 := ((h.later r1).later r2).later r3
  have q1' := (q1.later r2).later r3
  have q2' := q2.later r3
  have hs3 := ((hs.later r1).later r2).later r3
  have F3 := (((Fr.refl b w.heap.size w).below r1 (Nat.le_refl _)).below r2 (by omega)).below r3 (by omega)
  have H3 := Lib.hid (want2 hT 1 ⟨#[110, 117, 108, 108]⟩ ⟨#[110, 111, 116]⟩ wNull wNot rfl rfl ⟨rfl, rfl, rfl⟩ W3 b A c p d R3 _ hM3 (by omega))
  have HWn := Lib.hid (fun w p d (h : RS w b ts A c p d) g hM hg => want1 hT 1 ⟨#[110, 117, 108, 108]⟩ wNull rfl (.inl ⟨rfl, rfl⟩) w b A c p d h g hM hg)
  have HW1 := Lib.hid hW1
  have HW2 := Lib.hid hW2
  have HW3 := Lib.hid hW3
  clear hW1 hW2 hW3 hT h hx hs0 q1 q2 r1 r2 r3 R3 hM3 hs
  -- the end, once the parts are known
  cases hc : isS wNull (ts.drop p)
  · cases hc2 : isS wNot (ts.drop p)
    · simp only [Bool.false_eq_true, if_false, badX]
      simp only [hc, hc2, Bool.false_eq_true, if_false] at H3
      clear hc hc2 HWn
      go_enter Tryz.func106, Tryz.ntmps106
      go_wp2_with (first | (rw [← HW3.out]) | (rw [← HW2.out]) | (rw [← HW1.out]))
      refine (H3.out).mono ?_
      rintro e w4 ⟨⟨rfl, R4⟩, b4⟩
      have HB := Lib.hid (F3.but b4 (by omega)).end
      unfold gone
      clear b4 R4 F3 q1' q2' hs3
      go_wp2_with fail
      exact ⟨rfl, rfl, HB.out⟩
    · simp only [Bool.false_eq_true, if_false, if_true]
      simp only [hc, hc2, Bool.false_eq_true, if_false, if_true] at H3
      cases hc3 : isS wNull (ts.drop (p + 1))
      all_goals
        simp only [Bool.false_eq_true, if_false, if_true, okX, badX]
        have HWf := Lib.hid (fun w d (h : RS w b ts A c (p + 1) d) g hM hg => HWn.out w (p + 1) d h g hM hg)
        simp only [hc3, Bool.false_eq_true, if_false, if_true] at HWf
        clear hc hc2 hc3 HWn
        go_enter Tryz.func106, Tryz.ntmps106
        go_wp2_with (first | (rw [← HW3.out]) | (rw [← HW2.out]) | (rw [← HW1.out]))
        refine (H3.out).mono ?_
        rintro e v4 ⟨⟨rfl, R4⟩, b4⟩
        have G4 := F3.but b4 (by omega)
        have p14 := b4.seven q1' (by omega)
        have p24 := b4.seven q2' (by omega)
        have ks4 := hs3.but b4 (fun k hk => hS k hk.1)
        have yz4 := b4.size
        obtain ⟨V5, hV5, hM5, y5, r5⟩ := mark1 v4 ⟨#[110, 117, 108, 108]⟩
        have R5 := R4.later r5
        have p15 := p14.later r5
        have p25 := p24.later r5
        have ks5 := ks4.later r5
        have G5 := G4.below r5 (by omega)
        have H5 := Lib.hid (HWf.out V5 d R5 _ hM5 (by have := R4.lt; omega))
        have HV5 := Lib.hid hV5
        have Hy5 := Lib.hid y5
        clear hV5 y5 r5 R5 R4 b4 hM5 p14 p24 ks4 G4 q1' q2' hs3 F3
        go_wp2_with (rw [← HV5.out])
        refine (H5.out).mono ?_
        rintro e w4 ⟨⟨rfl, R4⟩, b4⟩
        have e5 := Hy5.out
        first
        | (have HB := Lib.hid (G5.but b4 (by omega)).end
           unfold gone
           clear b4 R4 G5 p15 p25 ks5 e5
           go_wp2_with fail
           exact ⟨rfl, ret_gone (by omega), HB.out⟩)
        | (skip
           have F4 := G5.but b4 (by omega)
           have q14 := b4.seven p15 (by omega)
           have q24 := b4.seven p25 (by omega)
           have hs4 := ks5.but b4 (fun k hk => hS k hk.1)
           have hz4 := b4.size
           obtain ⟨W5, hW5, r5, z5, H5⟩ := madeN R4 [r] [a] (S := fun k => S k ∧ k < w.heap.size) (by simpa using hs4) rfl (fun hh => by simp [hr hh]) (is_eqs a hd) (fun k hk => hS k hk.1) (w.heap.size + 2) (by omega) (by omega) (by simp) 1 rfl wNotnull ⟨#[110, 111, 116, 110, 117, 108, 108]⟩ rfl
           have q25 := q24.later r5
           have F5 := F4.below r5 (by omega)
           obtain ⟨m0, m1, m2, m3, m4, m5, m6⟩ := q14.cells
           simp only [flatE, rowCells, List.flatMap_cons, List.flatMap_nil, List.append_nil] at hW5
           have HW5 := Lib.hid hW5
           have H5' := Lib.hid H5
           have HF5 := Lib.hid F5
           have HQ5 := Lib.hid q25
           have Hz5 := Lib.hid z5
           clear hW5 H5 R4 b4 G5 F4 F5 p15 p25 q24 q25 ks5 hs4 r5 q14 z5 e5
           go_wp2_with (rw [← HW5.out])
           refine (H5'.out).mono ?_
           rintro e w6 ⟨y, rfl, g6, R6, b6⟩
           have e6 := Hz5.out
           have e5 := Hy5.out
           have F6 := HF5.out.but b6 (by omega)
           have q6 := b6.seven HQ5.out (by omega)
           obtain ⟨t0, j1, j2, t3, t4, t5, A9, n9, c9, rfl⟩ := g6.agg
           obtain ⟨W7, hW7, q7, R7, G7, b7, z7, o7⟩ := put7 (S := fun k => (S k ∧ k < w.heap.size) ∨ w.heap.size + 2 ≤ k) R6 g6 q6 (by omega) (fun k hk => by rcases hk with hk | hk; have := hk.2; omega; omega)
           have HW7 := Lib.hid hW7
           obtain ⟨k0, k1, k2, k3, k4, k5, k6⟩ := q6.cells
           obtain ⟨f0, f1, f2, f3, f4, f5, f6⟩ := q6.free
           obtain ⟨l0, l1, l2, l3, l4, l5, l6⟩ := q7.cells
           have HR := Lib.hid R7
           have HGG := Lib.hid (G7.wide (S' := Rs S w) (fun k hk _ => Or.elim hk (fun h => .inl h.1) (fun h => .inr (by omega))))
           have HB := Lib.hid (F6.below (b7 _ (Nat.le_succ _)) (Nat.le_refl _)).end
           clear hW7 q6 q7 R6 R7 G7 g6 b6 b7 o7 F6 e6 e5
           go_wp2_with (rw [← HW7.out])
           exact bodyPost_ret (v := .agg #[.string t0, .int .i64 j1, .int .i64 j2, .string t3, .string t4, .string t5, .slice A9 n9 c9]) (by simp [results, Tryz.results106, go_sem, l0, l1, l2, l3, l4, l5, l6]) rfl ⟨⟨_, rfl, HGG.out, HR.out⟩, HB.out⟩)
  · simp only [if_true, okX]
    simp only [hc, if_true] at H3
    clear hc HWn
    go_enter Tryz.func106, Tryz.ntmps106
    go_wp2_with (first | (rw [← HW3.out]) | (rw [← HW2.out]) | (rw [← HW1.out]))
    refine (H3.out).mono ?_
    rintro e w4 ⟨⟨rfl, R4⟩, b4⟩
    have F4 := F3.but b4 (by omega)
    have q14 := b4.seven q1' (by omega)
    have q24 := b4.seven q2' (by omega)
    have hs4 := hs3.but b4 (fun k hk => hS k hk.1)
    have hz4 := b4.size
    obtain ⟨W5, hW5, r5, z5, H5⟩ := madeN R4 [r] [a] (S := fun k => S k ∧ k < w.heap.size) (by simpa using hs4) rfl (fun hh => by simp [hr hh]) (is_eqs a hd) (fun k hk => hS k hk.1) (w.heap.size + 2) (by omega) (by omega) (by simp) 1 rfl wIsnull ⟨#[105, 115, 110, 117, 108, 108]⟩ rfl
    have q25 := q24.later r5
    have F5 := F4.below r5 (by omega)
    obtain ⟨m0, m1, m2, m3, m4, m5, m6⟩ := q14.cells
    simp only [flatE, rowCells, List.flatMap_cons, List.flatMap_nil, List.append_nil] at hW5
    have HW5 := Lib.hid hW5
    have H5' := Lib.hid H5
    have HF5 := Lib.hid F5
    have HQ5 := Lib.hid q25
    have Hz5 := Lib.hid z5
    clear hW5 H5 R4 b4 F3 F4 F5 q1' q2' q24 q25 hs3 hs4 r5 q14 z5
    go_wp2_with (rw [← HW5.out])
    refine (H5'.out).mono ?_
    rintro e w6 ⟨y, rfl, g6, R6, b6⟩
    have e5 := Hz5.out
    have F6 := HF5.out.but b6 (by omega)
    have q6 := b6.seven HQ5.out (by omega)
    obtain ⟨t0, j1, j2, t3, t4, t5, A9, n9, c9, rfl⟩ := g6.agg
    obtain ⟨W7, hW7, q7, R7, G7, b7, z7, o7⟩ := put7 (S := fun k => (S k ∧ k < w.heap.size) ∨ w.heap.size + 2 ≤ k) R6 g6 q6 (by omega) (fun k hk => by rcases hk with hk | hk; have := hk.2; omega; omega)
    have HW7 := Lib.hid hW7
    obtain ⟨k0, k1, k2, k3, k4, k5, k6⟩ := q6.cells
    obtain ⟨f0, f1, f2, f3, f4, f5, f6⟩ := q6.free
    obtain ⟨l0, l1, l2, l3, l4, l5, l6⟩ := q7.cells
    have HR := Lib.hid R7
    have HGG := Lib.hid (G7.wide (S' := Rs S w) (fun k hk _ => Or.elim hk (fun h => .inl h.1) (fun h => .inr (by omega))))
    have HB := Lib.hid (F6.below (b7 _ (Nat.le_succ _)) (Nat.le_refl _)).end
    clear hW7 q6 q7 R6 R7 G7 g6 b6 b7 o7 F6 e5
    go_wp2_with (rw [← HW7.out])
    exact bodyPost_ret (v := .agg #[.string t0, .int .i64 j1, .int .i64 j2, .string t3, .string t4, .string t5, .slice A9 n9 c9]) (by simp [results, Tryz.results106, go_sem, l0, l1, l2, l3, l4, l5, l6]) rfl ⟨⟨_, rfl, HGG.out, HR.out⟩, HB.out⟩
end Go.Proofs.YthohfegnphocbaaGreatDoor
