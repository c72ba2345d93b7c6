/- Contract of the reader's named, where its lines are read as the grammar says. No condition. -/
import Derived.Test.YthohfegnphocbaaGreatDoorQ16
import Derived.Deep.DeepCutAuto
namespace Go.Proofs.YthohfegnphocbaaGreatDoor
open Go.RowKit
theorem tooDp_col (d : Bool) (t n : List UInt8) : tooDp d (col t n) = d := by cases d <;> rfl
theorem tooDp_lit (d : Bool) (v : Vl) : tooDp d (lit v) = d := by cases d <;> rfl
theorem col_got (S : Nat → Prop) (w : World) (d : Bool) (t n : List UInt8) : Got w S (col t n) d (.agg #[.string ⟨#[99, 111, 108]⟩, .int .i64 0, .int .i64 0, .string ⟨#[]⟩, .string (str t), .string (str n), .slice none 0 0]) := ⟨col t n, ⟨none, 0, rfl, by simp [Sub, col]⟩, fun _ => rfl⟩
theorem tooDp_of (d : Bool) (o : List UInt8) (v : Vl) (t n : List UInt8) (l : List E) : tooDp (tooDpL d l) (.mk o v t n l) = tooDp d (.mk o v t n l) := by
  unfold tooDp tooDpL
  rw [Bool.or_assoc]
  congr 1
  have : (E.mk o v t n l).deep = E.deepL l + 1 := rfl
  rw [this]
  rcases Nat.lt_or_ge 40 (E.deepL l) with h | h
  · rw [decide_eq_true h, decide_eq_true (show 40 < E.deepL l + 1 by omega)]; rfl
  · rw [decide_eq_false (show ¬ 40 < E.deepL l by omega)]; rfl
theorem tooDpL_le {d : Bool} {l : List E} (h : tooDpL d l = false) : d = false ∧ E.deepL l ≤ 40 := by
  unfold tooDpL at h
  simp only [Bool.or_eq_false_iff, decide_eq_false_iff_not] at h
  exact ⟨h.1, by omega⟩
set_option maxRecDepth 100000 in
set_option maxHeartbeats 8000000 in
theorem named_any {ts : List T} (hT : Toks ts) (v : Nat) (hL : LineOk ts v) (w : World) (b : Nat) (A : Option Addr) (c p : Nat) (d : Bool) (h : RS w b ts A c p d) (hv : ts.length - p ≤ v) :
    Calls Tryz.prog 171 #[.pointer (some ⟨b, 0, none⟩)] w (Rp ts b A c p d w (fun k => w.heap.size ≤ k) (nmX resB (ts.drop p))) := by
  have hbw := h.lt
  have H46 := Lib.hid (fun w p d (h : RS w b ts A c p d) => take1 hT 5 ⟨#[46]⟩ [46] rfl (.inr ⟨rfl, rfl⟩) w b A c p d h)
  have H40 := Lib.hid (fun w p d (h : RS w b ts A c p d) => take1 hT 5 ⟨#[40]⟩ [40] rfl (.inr ⟨rfl, rfl⟩) w b A c p d h)
  have HNm := Lib.hid (fun w p d (h : RS w b ts A c p d) => name_any hT w b A c p d h)
  have HAr := Lib.hid (fun w p d (h : RS w b ts A c p d) (hv : ts.length - p < v) n => arguments_any hT v hL w b A c p d h hv n)
  obtain ⟨W1, hW1, q1, z1, r1⟩ := zero7 w
  have R1 := h.later r1
  have hpl := h.hp
  have H1 := Lib.hid (HNm.out W1 p d R1)
  have HW1 := Lib.hid hW1
  have HX := nmX_eq (ts.drop p)
  simp only [List.drop_drop] at HX
  rw [HX]
  have hnm : ∀ q, nameX resB (ts.drop q) = badX 0 ∨ ∃ n, nameX resB (ts.drop q) = okX n 1 := fun q => by
    unfold nameX; split; exact .inr ⟨_, rfl⟩; exact .inl rfl
  rcases hnm p with hx | ⟨n, hx⟩
  · rw [hx] at H1 ⊢
    simp only [badX] at H1
    rw [seqX_bad]
    clear hx hnm HX h R1 hW1
    go_enter Tryz.func171, Tryz.ntmps171
    go_wp2_with (rw [← HW1.out])
    refine (H1.out).mono ?_
    rintro e w2 ⟨rfl, b2⟩
    have HB := Lib.hid (((Fr.refl b w.heap.size w).below r1 (Nat.le_refl _)).but b2 (by omega)).end
    unfold gone
    clear b2 r1 q1
    go_wp2_with fail
    exact ⟨rfl, rfl, HB.out⟩
  · rw [hx] at H1 ⊢
    simp only [okX] at H1
    have HX2 : Hid (∀ k : List UInt8 → Nat → X E, seqX (okX n 1) k = seqX (okX () 1) fun _ _ => k n 1) := fun _ => rfl
    rw [HX2.out]
    clear hx HX h R1 hW1 HX2
    -- the three ways, decided ahead
    cases hd1 : isS [46] (ts.drop (p + 1))
    · cases hd2 : isS [40] (ts.drop (p + 1))
      · -- a column
        simp only [Bool.false_eq_true, if_false]
        rw [show (seqX (okX () 1) fun _ _ => okX (col [] n) 0) = okX (col [] n) 1 from rfl]
        have H46' := Lib.hid (fun w d (h : RS w b ts A c (p + 1) d) => H46.out w (p + 1) d h)
        have H40' := Lib.hid (fun w d (h : RS w b ts A c (p + 1) d) => H40.out w (p + 1) d h)
        simp only [hd1, hd2, Bool.false_eq_true, if_false] at H46' H40'
        have HG := Lib.hid (fun S w d' => col_got S w d' [] n)
        simp only [str_nil] at HG
        generalize str n = sn at *
        clear hd1 hd2 hnm H46 H40 HNm HAr
        go_enter Tryz.func171, Tryz.ntmps171
        go_wp2_with (rw [← HW1.out])
        refine (H1.out).mono ?_
        rintro e w2 ⟨⟨rfl, R2⟩, b2⟩
        have F2 := ((Fr.refl b w.heap.size w).below r1 (Nat.le_refl _)).but b2 (by omega)
        have q2 := b2.seven q1 (by omega)
        have hz2 := b2.size
        have H2 := Lib.hid (H46'.out w2 d R2)
        clear R2
        go_wp2_with fail
        refine (H2.out).mono ?_
        rintro e w3 ⟨rfl, R3, b3⟩
        have F3 := F2.but b3 (by omega)
        have q3 := b3.seven q2 (by omega)
        have hz3 := b3.size
        have H3 := Lib.hid (H40'.out w3 d R3)
        clear R3
        go_wp2_with fail
        refine (H3.out).mono ?_
        rintro e w4 ⟨rfl, R4, b4⟩
        have F4 := F3.but b4 (by omega)
        have q4 := b4.seven q3 (by omega)
        obtain ⟨W5, hW5, q5, R5, G5, b5, z5, o5⟩ := put7 R4 (HG.out (fun k => w.heap.size + 1 ≤ k) w4 d) q4 hbw (fun k hk => by omega)
        have HW5 := Lib.hid hW5
        obtain ⟨k0, k1, k2, k3, k4, k5, k6⟩ := q4.cells
        obtain ⟨f0, f1, f2, f3, f4, f5, f6⟩ := q4.free
        obtain ⟨l0, l1, l2, l3, l4, l5, l6⟩ := q5.cells
        rw [← tooDp_col d [] n] at R5 G5
        have HR := Lib.hid R5
        have HGG := Lib.hid (G5.wide (S' := fun k => w.heap.size ≤ k) (fun k hk _ => by omega))
        have HB := Lib.hid (F4.below (b5 _ (Nat.le_refl _)) (Nat.le_refl _)).end
        clear hW5 q1 q2 q3 q4 q5 R4 R5 G5 b2 b3 b4 b5 r1 o5 F2 F3 F4
        go_wp2_with (rw [← HW5.out])
        exact bodyPost_ret (v := .agg #[.string ⟨#[99, 111, 108]⟩, .int .i64 0, .int .i64 0, .string ⟨#[]⟩, .string ⟨#[]⟩, .string sn, .slice none 0 0]) (by simp [results, Tryz.results171, go_sem, l0, l1, l2, l3, l4, l5, l6]) rfl ⟨⟨_, rfl, HGG.out, HR.out⟩, HB.out⟩
      · -- a call
        simp only [Bool.false_eq_true, if_false, if_true]
        have H46' := Lib.hid (fun w d (h : RS w b ts A c (p + 1) d) => H46.out w (p + 1) d h)
        have H40' := Lib.hid (fun w d (h : RS w b ts A c (p + 1) d) => H40.out w (p + 1) d h)
        simp only [hd1, hd2, Bool.false_eq_true, if_false, if_true] at H46' H40'
        have HA := Lib.hid (fun w d (h : RS w b ts A c (p + 1 + 1) d) => HAr.out w (p + 1 + 1) d h (by omega) n)
        have hX2 : ∀ x : X (List E), argX n (ts.drop (p + 2)) = x → (seqX (okX () 1) fun _ _ => seqX (okX () 1) fun _ _ => seqX (argX n (ts.drop (p + 2))) fun xs _ => okX (call1 n xs) 0) = match x with
            | .error q => .error (2 + q)
            | .ok (l, m) => .ok (call1 n l, 2 + m) := fun x hx => by
          rw [hx]
          rcases x with q | ⟨l, m⟩
          · simp [seqX, okX]; omega
          · simp [seqX, okX]; omega
        rw [hX2 _ rfl]
        rw [show p + 1 + 1 = p + 2 from rfl] at HA
        have HGW := Lib.hid (fun w S l d A n9 c9 (h : LGot w S l d (.slice A n9 c9)) => h.whole wCall n)
        simp only [str, wCall] at HGW
        generalize argX n (ts.drop (p + 2)) = xa at *
        have hsn : (⟨n.toArray⟩ : ByteArray) = str n := rfl
        rw [hsn] at HGW
        generalize str n = sn at *
        clear hd1 hd2 hnm H46 H40 HNm HAr hX2 hsn
        go_enter Tryz.func171, Tryz.ntmps171
        go_wp2_with (rw [← HW1.out])
        refine (H1.out).mono ?_
        rintro e w2 ⟨⟨rfl, R2⟩, b2⟩
        have F2 := ((Fr.refl b w.heap.size w).below r1 (Nat.le_refl _)).but b2 (by omega)
        have q2 := b2.seven q1 (by omega)
        have hz2 := b2.size
        have H2 := Lib.hid (H46'.out w2 d R2)
        clear R2
        go_wp2_with fail
        refine (H2.out).mono ?_
        rintro e w3 ⟨rfl, R3, b3⟩
        have F3 := F2.but b3 (by omega)
        have q3 := b3.seven q2 (by omega)
        have hz3 := b3.size
        have H3 := Lib.hid (H40'.out w3 d R3)
        clear R3
        go_wp2_with fail
        refine (H3.out).mono ?_
        rintro e w4 ⟨rfl, R4, b4⟩
        have F4 := F3.but b4 (by omega)
        have q4 := b4.seven q3 (by omega)
        have hz4 := b4.size
        have H4 := Lib.hid (HA.out w4 d R4)
        clear R4
        go_wp2_with fail
        refine (H4.out).mono ?_
        rcases xa with q | ⟨l, m⟩
        · rintro e w5 ⟨rfl, b5⟩
          have HB := Lib.hid (F4.but b5 (by omega)).end
          unfold gone
          clear b2 b3 b4 b5 q1 q2 q3 q4 r1 F2 F3 F4
          go_wp2_with fail
          exact ⟨rfl, ret_gone (by omega), HB.out⟩
        · rintro e w5 ⟨⟨y, rfl, g5, R5⟩, b5⟩
          have F5 := F4.but b5 (by omega)
          have q5 := b5.seven q4 (by omega)
          have hz5 := b5.size
          obtain ⟨l', A', c', rfl, -⟩ := id g5
          have hG := HGW.out _ _ _ _ _ _ _ g5
          have H5 := Lib.hid (kept_any w5 b A c (p + 2 + m) (tooDpL d l) R5 _ _ _ hG (fun hh => by have := (tooDpL_le hh).2; show E.deepL l + 1 ≤ _; omega) (fun k hk => by omega))
          clear R5 g5 hG
          go_wp2_with fail
          refine (H5.out).mono ?_
          rintro r w6 ⟨y, rfl, g6, R6, b6⟩
          obtain ⟨t0, j1, j2, t3, t4, t5, A9, n9, c9, rfl⟩ := g6.agg
          have F6 := F5.but b6 (by omega)
          have q6 := b6.seven q5 (by omega)
          obtain ⟨W7, hW7, q7, R7, G7, b7, z7, o7⟩ := put7 R6 g6 q6 hbw (fun k hk => by omega)
          have HW7 := Lib.hid hW7
          obtain ⟨k0, k1, k2, k3, k4, k5, k6⟩ := q6.cells
          obtain ⟨f0, f1, f2, f3, f4, f5, f6⟩ := q6.free
          obtain ⟨l0, l1, l2, l3, l4, l5, l6⟩ := q7.cells
          rw [tooDp_of, Nat.add_assoc] at R7
          rw [tooDp_of] at G7
          have HR := Lib.hid R7
          have HGG := Lib.hid (G7.wide (S' := fun k => w.heap.size ≤ k) (fun k hk _ => by omega))
          have HB := Lib.hid (F6.below (b7 _ (Nat.le_refl _)) (Nat.le_refl _)).end
          clear hW7 q1 q2 q3 q4 q5 q6 q7 R6 R7 G7 g6 b2 b3 b4 b5 b6 b7 r1 o7 F2 F3 F4 F5 F6
          go_wp2_with (rw [← HW7.out])
          exact bodyPost_ret (v := .agg #[.string t0, .int .i64 j1, .int .i64 j2, .string t3, .string t4, .string t5, .slice A9 n9 c9]) (by simp [results, Tryz.results171, go_sem, l0, l1, l2, l3, l4, l5, l6]) rfl ⟨⟨_, rfl, HGG.out, HR.out⟩, HB.out⟩
    · -- a column of a table
      simp only [if_true]
      have H46' := Lib.hid (fun w d (h : RS w b ts A c (p + 1) d) => H46.out w (p + 1) d h)
      simp only [hd1, if_true] at H46'
      have HN2 := Lib.hid (fun w d (h : RS w b ts A c (p + 2) d) => HNm.out w (p + 2) d h)
      rcases hnm (p + 2) with hy | ⟨cn, hy⟩
      · simp only [hy, badX] at HN2
        rw [hy, show (seqX (okX () 1) fun _ _ => seqX (okX () 1) fun _ _ => seqX (badX 0) fun c _ => okX (col n c) 0) = .error 2 from rfl]
        generalize str n = sn at *
        clear hd1 hnm H46 H40 HNm HAr hy
        go_enter Tryz.func171, Tryz.ntmps171
        go_wp2_with (rw [← HW1.out])
        refine (H1.out).mono ?_
        rintro e w2 ⟨⟨rfl, R2⟩, b2⟩
        have F2 := ((Fr.refl b w.heap.size w).below r1 (Nat.le_refl _)).but b2 (by omega)
        have hz2 := b2.size
        have H2 := Lib.hid (H46'.out w2 d R2)
        clear R2
        go_wp2_with fail
        refine (H2.out).mono ?_
        rintro e w3 ⟨rfl, R3, b3⟩
        have F3 := F2.but b3 (by omega)
        have hz3 := b3.size
        have H3 := Lib.hid (HN2.out w3 d R3)
        clear R3
        go_wp2_with fail
        refine (H3.out).mono ?_
        rintro e w4 ⟨rfl, b4⟩
        have HB := Lib.hid (F3.but b4 (by omega)).end
        unfold gone
        clear b2 b3 b4 q1 r1 F2 F3
        go_wp2_with fail
        exact ⟨rfl, rfl, HB.out⟩
      · simp only [hy, okX] at HN2
        rw [hy, show (seqX (okX () 1) fun _ _ => seqX (okX () 1) fun _ _ => seqX (okX cn 1) fun c _ => okX (col n c) 0) = .ok (col n cn, 3) from rfl]
        have HG := Lib.hid (fun S w d' => col_got S w d' n cn)
        generalize str n = sn at *
        generalize str cn = scn at *
        clear hd1 hnm H46 H40 HNm HAr hy
        go_enter Tryz.func171, Tryz.ntmps171
        go_wp2_with (rw [← HW1.out])
        refine (H1.out).mono ?_
        rintro e w2 ⟨⟨rfl, R2⟩, b2⟩
        have F2 := ((Fr.refl b w.heap.size w).below r1 (Nat.le_refl _)).but b2 (by omega)
        have q2 := b2.seven q1 (by omega)
        have hz2 := b2.size
        have H2 := Lib.hid (H46'.out w2 d R2)
        clear R2
        go_wp2_with fail
        refine (H2.out).mono ?_
        rintro e w3 ⟨rfl, R3, b3⟩
        have F3 := F2.but b3 (by omega)
        have q3 := b3.seven q2 (by omega)
        have hz3 := b3.size
        have H3 := Lib.hid (HN2.out w3 d R3)
        clear R3
        go_wp2_with fail
        refine (H3.out).mono ?_
        rintro e w4 ⟨⟨rfl, R4⟩, b4⟩
        have F4 := F3.but b4 (by omega)
        have q4 := b4.seven q3 (by omega)
        obtain ⟨W5, hW5, q5, R5, G5, b5, z5, o5⟩ := put7 R4 (HG.out (fun k => w.heap.size + 1 ≤ k) w4 d) q4 hbw (fun k hk => by omega)
        have HW5 := Lib.hid hW5
        obtain ⟨k0, k1, k2, k3, k4, k5, k6⟩ := q4.cells
        obtain ⟨f0, f1, f2, f3, f4, f5, f6⟩ := q4.free
        obtain ⟨l0, l1, l2, l3, l4, l5, l6⟩ := q5.cells
        rw [← tooDp_col d n cn] at R5 G5
        have HR := Lib.hid R5
        have HGG := Lib.hid (G5.wide (S' := fun k => w.heap.size ≤ k) (fun k hk _ => by omega))
        have HB := Lib.hid (F4.below (b5 _ (Nat.le_refl _)) (Nat.le_refl _)).end
        clear hW5 q1 q2 q3 q4 q5 R4 R5 G5 b2 b3 b4 b5 r1 o5 F2 F3 F4
        go_wp2_with (rw [← HW5.out])
        exact bodyPost_ret (v := .agg #[.string ⟨#[99, 111, 108]⟩, .int .i64 0, .int .i64 0, .string ⟨#[]⟩, .string sn, .string scn, .slice none 0 0]) (by simp [results, Tryz.results171, go_sem, l0, l1, l2, l3, l4, l5, l6]) rfl ⟨⟨_, rfl, HGG.out, HR.out⟩, HB.out⟩
end Go.Proofs.YthohfegnphocbaaGreatDoor
namespace Go.Proofs.YthohfegnphocbaaGreatDoor
open Go.RowKit
theorem pr_C {l : List T} (h : Tk1 (here l)) : pr resB l = if isS [40] l then seqX (okX () 1) fun _ _ => seqX (ln resB 1 (l.drop 1)) fun x m => seqX (needX [41] (l.drop (1 + m))) fun _ _ => okX x 0
    else match conX (here l) with
    | some v => okX (lit v) 1
    | none => nmX resB l := by
  rw [pr_eq]
  have w1 := isS_word (s := wNull) h (by decide)
  have w2 := isS_word (s := wTrue) h (by decide)
  have w3 := isS_word (s := wFalse) h (by decide)
  have g := isS_sign (s := [40]) h (by decide)
  unfold conX
  by_cases k2 : (here l).k = 2
  · rw [w1, w2, w3, g]
    simp only [k2]
    by_cases h0 : 0 ≤ (here l).i
    · simp [h0]
    · simp [h0]
  · by_cases k3 : (here l).k = 3
    · rw [g]; simp [k3]
    · by_cases k4 : (here l).k = 4
      · rw [g]; simp [k4]
      · by_cases k1 : (here l).k = 1
        · rw [w1, w2, w3, g]
          simp only [k1]
          by_cases e1 : (here l).s = wNull
          · simp [e1]
          · by_cases e2 : (here l).s = wTrue
            · simp [e2, wTrue, wFalse, wNull]
            · by_cases e3 : (here l).s = wFalse
              · simp [e3, wTrue, wFalse, wNull]
              · simp [e1, e2, e3]
        · rw [w1, w2, w3]
          simp [k1, k2, k3, k4]
theorem B3.zero (w : World) : B3 (w.alloc (.cells #[.int .i64 0, .int .i64 0, .string ⟨#[]⟩] 24)) w.heap.size (.int .i64 0) (.int .i64 0) (.string ⟨#[]⟩) := heap_alloc_new w _
theorem B3.but {b : Nat} {w w' : World} {k : Nat} {c0 c1 c2 : Value} (h : B3 w k c0 c1 c2) (hb : But b w w') (hk : k ≠ b) : B3 w' k c0 c1 c2 := (hb.block k h.lt hk).trans h
theorem B7.off {w : World} {k b : Nat} {c0 c1 c2 c3 c4 c5 c6 : Value} (h : B7 w k c0 c1 c2 c3 c4 c5 c6) (hk : k ≠ b) (o : Nat) (u : Value) : B7 (w.setCell ⟨b, o, none⟩ u) k c0 c1 c2 c3 c4 c5 c6 := h.same (Below.heap_setCell _ _ _ _ hk)
theorem B3.off {w : World} {k b : Nat} {c0 c1 c2 : Value} (h : B3 w k c0 c1 c2) (hk : k ≠ b) (o : Nat) (u : Value) : B3 (w.setCell ⟨b, o, none⟩ u) k c0 c1 c2 := (Below.heap_setCell _ _ _ _ hk).trans h
theorem con_after {w2 w5 : World} (hb : Below w2.drew.heap.size w2.drew w5) (c0 c1 c2 : Value) : B3 (w5.alloc (.cells #[c0, c1, c2] 24)) w5.heap.size c0 c1 c2 ∧ Below w2.heap.size w2 (w5.alloc (.cells #[c0, c1, c2] 24)) ∧ w2.heap.size ≤ w5.heap.size := by
  have h1 : Below w2.heap.size w2.drew w5 := hb
  have h2 : Below w2.heap.size w2 w5 := ((Below.refl w2.heap.size w2).drew).trans h1
  exact ⟨heap_alloc_new w5 _, h2.alloc h2.size _, h2.size⟩
theorem con_first {w2 w5 : World} (hb : Below (w2.alloc (.cells #[.int .i64 0, .int .i64 0, .string ⟨#[]⟩] 24)).drew.heap.size (w2.alloc (.cells #[.int .i64 0, .int .i64 0, .string ⟨#[]⟩] 24)).drew w5) (c0 c1 c2 : Value) :
    B3 (((w5.setCell ⟨w2.heap.size, 0, none⟩ c0).setCell ⟨w2.heap.size, 1, none⟩ c1).setCell ⟨w2.heap.size, 2, none⟩ c2) w2.heap.size c0 c1 c2 ∧ Below w2.heap.size w2 (((w5.setCell ⟨w2.heap.size, 0, none⟩ c0).setCell ⟨w2.heap.size, 1, none⟩ c1).setCell ⟨w2.heap.size, 2, none⟩ c2) := by
  have hz : B3 (w2.alloc (.cells #[.int .i64 0, .int .i64 0, .string ⟨#[]⟩] 24)).drew w2.heap.size (.int .i64 0) (.int .i64 0) (.string ⟨#[]⟩) := heap_alloc_new w2 _
  obtain ⟨W, h1, h2, h3, h4, h5⟩ := stored3 (hz.later hb) c0 c1 c2
  rw [← h1]
  have h6 : Below w2.heap.size w2 (w2.alloc (.cells #[.int .i64 0, .int .i64 0, .string ⟨#[]⟩] 24)).drew := ((Below.refl w2.heap.size w2).alloc (Nat.le_refl _) _).drew
  exact ⟨h2, (h6.trans (hb.mono (by show w2.heap.size ≤ (w2.alloc _).heap.size; simp))).trans (h5 _ (Nat.le_refl _))⟩
end Go.Proofs.YthohfegnphocbaaGreatDoor
