/- Contract of the reader's line: it reads what the grammar says. No condition. -/
import Derived.Test.YthohfegnphocbaaGreatDoorQ25
namespace Go.Proofs.YthohfegnphocbaaGreatDoor
open Go.RowKit
def sh {α : Type} (m : Nat) : X α → X α
  | .error q => .error (m + q)
  | .ok (a, q) => .ok (a, m + q)
theorem sh_seq {α β : Type} (a : α) (m : Nat) (k : α → Nat → X β) : seqX (okX a m) k = sh m (k a m) := by
  unfold seqX okX sh
  dsimp only
  rcases k a m with q | ⟨b, q⟩ <;> rfl
theorem sh_sh {α : Type} (m q : Nat) (x : X α) : sh m (sh q x) = sh (m + q) x := by rcases x with j | ⟨a, j⟩ <;> simp [sh, Nat.add_assoc]
theorem tooDp_in {d : Bool} {e a : E} (h : e.deep ≤ a.deep) : tooDp (tooDp d e) a = tooDp d a := by
  unfold tooDp
  cases d with
  | true => rfl
  | false =>
    simp only [Bool.false_or]
    by_cases h4 : 40 < e.deep
    · rw [decide_eq_true h4, decide_eq_true (show 40 < a.deep by omega)]; rfl
    · rw [decide_eq_false h4]; rfl
theorem deep_two (o : List UInt8) (a b : E) : a.deep ≤ (op1 o [a, b]).deep := by simp only [op1, E.deep, E.deepL]; omega
theorem askX_deep {a b : E} {o : List UInt8} {l : List T} {m : Nat} (h : askX resB a o l = okX b m) : a.deep ≤ b.deep := by
  by_cases h1 : o = wIn
  · subst h1
    unfold askX at h
    rw [if_pos rfl] at h
    unfold needX at h
    by_cases hc : isS [40] l = true
    · rw [if_pos hc, inX_eq] at h
      rcases hx : cls resB (l.drop 1) with q | ⟨xs, j⟩
      · rw [hx] at h; simp [inX, okX] at h
      · rw [hx] at h
        simp [inX, okX] at h
        rw [← h.1]
        simp only [op1, E.deep, E.deepL]; omega
    · rw [if_neg hc] at h; simp [seqX, badX, okX] at h
  · by_cases h2 : o = wBetween
    · subst h2
      rw [askX_bet] at h
      rcases hx : ln resB 5 l with q | ⟨x, j⟩
      · rw [hx] at h; simp [okX] at h
      · rw [hx] at h
        simp only at h
        by_cases hc : isS wAnd (l.drop j) = true
        · rw [if_pos hc] at h
          rcases hy : ln resB 5 (l.drop (j + 1)) with q | ⟨y, i⟩
          · rw [hy] at h; simp [okX] at h
          · rw [hy] at h
            simp [okX] at h
            rw [← h.1]
            simp only [op1, E.deep, E.deepL]; omega
        · rw [if_neg hc] at h; simp [okX] at h
    · unfold askX at h
      rw [if_neg h1, if_neg h2, opX_eq] at h
      rcases hx : ln resB 5 l with q | ⟨x, j⟩
      · rw [hx] at h; simp [opX, okX] at h
      · rw [hx] at h
        simp [opX, okX] at h
        rw [← h.1]
        exact deep_two _ _ _
theorem cmpX_deep {a b : E} {o : List UInt8} {l : List T} {m : Nat} (h : cmpX resB a o l = okX b m) : a.deep ≤ b.deep := by
  unfold cmpX at h
  split at h
  · unfold isX at h
    split at h
    · simp [okX] at h; rw [← h.1]; simp [op1, E.deep, E.deepL]
    · split at h
      · unfold needX at h
        split at h
        · simp [okX, seqX] at h; rw [← h.1]; simp [op1, E.deep, E.deepL]
        · simp [okX, badX, seqX] at h
      · simp [okX, badX] at h
  · split at h
    · rcases hn : notW l with _ | s
      · rw [hn] at h; simp [badX, okX] at h
      · rw [hn] at h
        simp only [notX_eq] at h
        rcases hc : askX resB a s (l.drop 1) with q | ⟨x, j⟩
        · rw [hc] at h; simp [notX, okX] at h
        · rw [hc] at h
          simp [notX, okX] at h
          have := askX_deep hc
          rw [← h.1]
          simp only [op1, E.deep, E.deepL]; omega
    · exact askX_deep h
structure LS (ts : List T) (b : Nat) (A : Option Addr) (c p n : Nat) (d : Bool) (w wr : World) (xt : X E) (k q : Nat) (e : E) (r : Rw) (G : Nat) : Prop where
  rs : RS wr b ts A c q (tooDp d e)
  box : B7 wr G (.string (str r.1.op)) (.int .i64 r.1.v.k) (.int .i64 r.1.v.i) (.string (str r.1.v.s)) (.string (str r.1.tb)) (.string (str r.1.nm)) (.slice r.2.1 r.1.l.length r.2.2)
  sub : Sub (fun j => w.heap.size + 1 ≤ j ∧ j ≠ G) wr r.1 r.2.1 r.2.2
  hr : tooDp d e = false → r.1 = e
  zero : B7 wr w.heap.size (.string ⟨#[]⟩) (.int .i64 0) (.int .i64 0) (.string ⟨#[]⟩) (.string ⟨#[]⟩) (.string ⟨#[]⟩) (.slice none 0 0)
  fr : Fr b w.heap.size w wr
  hG : w.heap.size + 1 ≤ G
  hq : p ≤ q
  hk : k ≤ 7
  hb : b < w.heap.size
  xt : xt = sh (q - p) (ct resB n k e (ts.drop q))
theorem LS.later {ts : List T} {b : Nat} {A : Option Addr} {c p n : Nat} {d : Bool} {w wr w' : World} {xt : X E} {k q : Nat} {e : E} {r : Rw} {G : Nat} (h : LS ts b A c p n d w wr xt k q e r G) (hb : Below wr.heap.size wr w') : LS ts b A c p n d w w' xt k q e r G :=
  ⟨h.rs.later hb, h.box.later hb, h.sub.later hb, h.hr, h.zero.later hb, h.fr.below hb (by have := h.zero.lt; omega), h.hG, h.hq, h.hk, h.hb, h.xt⟩
theorem LS.got {ts : List T} {b : Nat} {A : Option Addr} {c p n : Nat} {d : Bool} {w wr : World} {xt : X E} {k q : Nat} {e : E} {r : Rw} {G : Nat} (h : LS ts b A c p n d w wr xt k q e r G) : Got wr (fun j => w.heap.size + 1 ≤ j ∧ j ≠ G) e (tooDp d e) (.agg (rowCells r).toArray) := row_got h.sub h.hr
theorem LS.next {ts : List T} {b : Nat} {A : Option Addr} {c p n : Nat} {d : Bool} {w w5 W7 : World} {xt : X E} {k' q' : Nat} {e' : E} {r' : Rw} {G : Nat}
    (fr : Fr b w.heap.size w w5) (zero : B7 w5 w.heap.size (.string ⟨#[]⟩) (.int .i64 0) (.int .i64 0) (.string ⟨#[]⟩) (.string ⟨#[]⟩) (.string ⟨#[]⟩) (.slice none 0 0)) (hG : w.heap.size + 1 ≤ G) (hb : b < w.heap.size)
    (R7 : RS W7 b ts A c q' (tooDp d e')) (box7 : B7 W7 G (.string (str r'.1.op)) (.int .i64 r'.1.v.k) (.int .i64 r'.1.v.i) (.string (str r'.1.v.s)) (.string (str r'.1.tb)) (.string (str r'.1.nm)) (.slice r'.2.1 r'.1.l.length r'.2.2))
    (sub : Sub (fun j => w.heap.size + 1 ≤ j ∧ j ≠ G) W7 r'.1 r'.2.1 r'.2.2) (hr : tooDp d e' = false → r'.1 = e') (bW : ∀ B, B ≤ G → Below B w5 W7) (hq : p ≤ q') (hk : k' ≤ 7) (hx : xt = sh (q' - p) (ct resB n k' e' (ts.drop q'))) : LS ts b A c p n d w W7 xt k' q' e' r' G :=
  ⟨R7, box7, sub, hr, ((bW (w.heap.size + 1) hG).block _ (by omega)).trans zero, fr.below (bW _ (by omega)) (Nat.le_refl _), hG, hq, hk, hb, hx⟩
theorem wp_then {P : Program} {c : Code} {Q : Exit → Act → World → Prop} {a : Act} {w : World} (h : ∀ K : Act → World → Prop, (∀ a w, Q .normal a w → K a w) → c.wp P (Exit.then K Q) a w) : c.wp P Q a w := by
  have h1 := h (Q .normal) (fun _ _ h => h)
  have h2 : Exit.then (Q .normal) Q = Q := by
    funext e a w
    cases e <;> rfl
  rwa [h2] at h1
set_option maxRecDepth 100000 in
set_option maxHeartbeats 32000000 in
theorem line_step {ts : List T} (hT : Toks ts) (v : Nat) (hL : LineOk ts v) : LineOk ts (v + 1) := by
  intro n p hn1 hn8 hv w b A c d h
  have hbw := h.lt
  obtain ⟨W1, hW1, q1, z1, r1⟩ := zero7 w
  have R1 := h.later r1
  have HF1 := Lib.hid ((Fr.refl b w.heap.size w).below r1 (Nat.le_refl _))
  have HQ1 := Lib.hid q1
  have HBg := Lib.hid (begun_any hT v hL W1 b A c p d R1 (by omega) n)
  have HX := Lib.hid (ln_climb resB hn1 hn8 (ts.drop p))
  have HW1 := Lib.hid hW1
  have HT := Lib.hid hT
  have HL := Lib.hid hL
  generalize ln resB n (ts.drop p) = xt at *
  generalize hbg : bgX resB n (ts.drop p) = xb at *
  have hbm : bgM n (ts.drop p) ≤ 7 := by unfold bgM; split <;> omega
  generalize bgM n (ts.drop p) = k0 at *
  clear hbg hT hL q1 r1 R1 h hW1
  rcases xb with j | ⟨a, m⟩
  · have hxe : xt = .error j := by rw [HX.out]; rfl
    subst hxe
    go_enter Tryz.func34, Tryz.ntmps34
    go_wp2_with (rw [← HW1.out])
    refine (HBg.out).mono ?_
    rintro e w2 ⟨rfl, b2⟩
    have HB := Lib.hid (HF1.out.but b2 (by omega)).end
    unfold gone
    clear b2
    go_wp2_with fail
    exact ⟨rfl, rfl, HB.out⟩
  · have hxe : xt = sh m (ct resB n k0 a (ts.drop (p + m))) := by
      rw [HX.out]
      show seqX (okX a m) _ = _
      rw [sh_seq, List.drop_drop]
    have HXE := Lib.hid hxe
    clear hxe HX
    go_enter Tryz.func34, Tryz.ntmps34
    go_wp2_with (rw [← HW1.out])
    refine (HBg.out).mono ?_
    rintro e w2 ⟨⟨y, rfl, g2, R2⟩, b2⟩
    obtain ⟨r, rfl, ks2, kr2⟩ := g2.row
    have hz2 := b2.size
    obtain ⟨V6, V7, hV6, hV7, t6, t7, y7, k6, k7⟩ := made7 w2 (.string (str r.1.op)) (.int .i64 r.1.v.k) (.int .i64 r.1.v.i) (.string (str r.1.v.s)) (.string (str r.1.tb)) (.string (str r.1.nm)) (.slice r.2.1 r.1.l.length r.2.2)
    have hLS : LS ts b A c p n d w V7 xt k0 (p + m) a r w2.heap.size :=
      ⟨R2.later k7, t7, (ks2.lim.later k7).keep (fun k hk _ => ⟨⟨by have := hk.1; omega, by have := hk.2; omega⟩, rfl⟩) (Nat.le_refl _), kr2, (b2.seven HQ1.out (by omega)).later k7, (HF1.out.but b2 (by omega)).below k7 (by omega), by omega, by omega, hbm, hbw, by rw [show p + m - p = m by omega]; exact HXE.out⟩
    obtain ⟨x0, x1, x2, x3, x4, x5, x6⟩ := t6.free
    obtain ⟨X0, X1, X2, X3, X4, X5, X6⟩ := t6.cells
    have HLS := Lib.hid hLS
    have HV6 := Lib.hid hV6
    have HV7 := Lib.hid hV7
    simp only [rowCells]
    clear hV6 hV7 t6 t7 k6 k7 y7 R2 g2 ks2 kr2 b2 hLS HXE hbm
    go_wp2_with (first | (rw [← HV7.out]) | (rw [← HV6.out]))
    clear x0 x1 x2 x3 x4 x5 x6 X0 X1 X2 X3 X4 X5 X6
    generalize w2.heap.size = G at *
    go_loopw [6] (fun kv wr => ∃ (k q : Nat) (e : E) (r : Rw), kv = .int .i64 k ∧ Hid (LS ts b A c p n d w wr xt k q e r G)) (fun _ wr => ts.length - posOf wr b)
    case atStart => exact ⟨k0, p + m, a, r, rfl, HLS.out⟩
    case round =>
      clear HLS HV6 HV7 HBg HW1 HF1 HQ1
      obtain ⟨k, q, e, r', rfl, HS⟩ := hrel
      have R := HS.out.rs
      have hp := R.hp
      obtain ⟨c0, c1, c2, f1, f2⟩ := R.cells
      obtain ⟨g, off, rfl, hg, hc⟩ := R.toks (by omega)
      obtain ⟨t0, t1, t2, t3⟩ := hc q hp
      obtain ⟨bx, hbx, bz, hbz⟩ := readT wr ts[q]
      obtain ⟨z0, z1', z2, z3⟩ := bz.zcells
      obtain ⟨y0, y1, y2, y3⟩ := bz.free
      obtain ⟨u0, u1, u2, u3⟩ := bx.cells
      obtain ⟨d0, d1, d2, d3, d4⟩ := (R.later hbz).cells
      have hpz : (q : Int) < (ts.length : Int) := by omega
      have e0 := (hbz.cell (p := ⟨g, off + q * 4, none⟩) (by have := R.lt; show g < _; omega)).trans t0
      have e1 := (hbz.cell (p := ⟨g, off + q * 4 + 1, none⟩) (by have := R.lt; show g < _; omega)).trans t1
      have e2 := (hbz.cell (p := ⟨g, off + q * 4 + 2, none⟩) (by have := R.lt; show g < _; omega)).trans t2
      have e3 := (hbz.cell (p := ⟨g, off + q * 4 + 3, none⟩) (by have := R.lt; show g < _; omega)).trans t3
      have hwz : wr.heap.size < (wr.alloc (.cells #[.int .i64 ts[q].k, .string (str ts[q].s), .int .i64 ts[q].i, .int .i64 ts[q].p] 51)).drew.heap.size := by show _ < (wr.alloc _).heap.size; simp
      have HS1 := Lib.hid (HS.out.later hbx)
      have HTB := Lib.hid bx
      have hpos := R.pos
      have ht1 := HT.out.here hp
      rw [here_drop hp] at ht1
      have HLo := Lib.hid (fun W => lineOf_any ts[q] ht1.1 W)
      have hlen := HT.out.len
      have HH : Hid (here (ts.drop q) = ts[q]) := here_drop hp
      have hbwr := R.lt
      have hGw := HS.out.box.lt
      generalize ts[q] = t at *
      obtain ⟨W, hW⟩ : ∃ W, W = (wr.alloc (.cells #[.int .i64 t.k, .string (str t.s), .int .i64 t.i, .int .i64 t.p] 51)).drew := ⟨_, rfl⟩
      have HW := Lib.hid hW
      rw [← hW] at bx hbx hwz u0 u1 u2 u3 HS1 HTB
      clear R bz hbz hc HS hW hbx bx
      go_wp2_with fail
      go_region
      rw [← HW.out]
      go_wp2_with fail
      refine (HLo.out W).mono ?_
      rintro e9 w3 ⟨rfl, b3⟩
      have HS3 := Lib.hid (HS1.out.later b3)
      have HTB3 := Lib.hid (HTB.out.later b3)
      have hw3 := b3.size
      obtain ⟨v0, v1, v2, v3⟩ := HTB3.out.cells
      obtain ⟨n0, n1, n2, n3, n4, n5, n6⟩ := HS3.out.box.cells
      obtain ⟨o0, o1, o2, o3, o4, o5, o6⟩ := HS3.out.zero.cells
      obtain ⟨O0, O1, O2, O3, O4, O5, O6⟩ := HS3.out.zero.free
      obtain ⟨N0, N1, N2, N3, N4, N5, N6⟩ := HS3.out.box.free
      clear b3 HS1 HTB u0 u1 u2 u3 y0 y1 y2 y3 z0 z1' z2 z3 d0 d1 d2 d3 d4 e0 e1 e2 e3 t0 t1 t2 t3 c0 c1 c2 f1 f2 HLo
      have hstop : lineC t < n ∨ k < lineC t → xt = .ok (e, q - p) := fun hh => by
        rw [HS3.out.xt, ct_stop resB (l := ts.drop q) (by rw [HH.out]; exact ht1.1) k HS3.out.hk (by rw [HH.out]; exact hh)]
        rfl
      by_cases hst : lineC t < n ∨ k < lineC t
      · have hxe := hstop hst
        subst hxe
        have hpq := HS3.out.hq
        obtain ⟨W7, hW7, q7, z7, oW, bW⟩ := stored7 HS3.out.zero (.string (str r'.1.op)) (.int .i64 r'.1.v.k) (.int .i64 r'.1.v.i) (.string (str r'.1.v.s)) (.string (str r'.1.tb)) (.string (str r'.1.nm)) (.slice r'.2.1 r'.1.l.length r'.2.2)
        have R7 := HS3.out.rs.own hbw oW bW
        have G7 : Got W7 (fun j => w.heap.size ≤ j) e (tooDp d e) (.agg (rowCells r').toArray) := (HS3.out.got.keep (fun j hj _ => ⟨hj, oW j (by omega)⟩) (by omega)).wide (fun j hj _ => by omega)
        have HB := Lib.hid (HS3.out.fr.below (bW _ (Nat.le_refl _)) (Nat.le_refl _)).end
        rw [show q = p + (q - p) by omega] at R7
        have HR := Lib.hid R7
        have HGG := Lib.hid G7
        simp only [rowCells] at HGG
        obtain ⟨l0, l1, l2, l3, l4, l5, l6⟩ := q7.cells
        have HW7 := Lib.hid hW7
        clear hW7 q7 R7 G7 bW oW
        by_cases hln : lineC t < n
        · have hlz : ((lineC t : Nat) : Int) < (n : Int) := by omega
          generalize lineC t = L at *
          clear HS3 HTB3
          go_wp2_with (rw [← HW7.out])
          exact bodyPost_ret (by simp [results, Tryz.results34, go_sem, l0, l1, l2, l3, l4, l5, l6]) rfl ⟨⟨_, rfl, HGG.out, HR.out⟩, HB.out⟩
        · have hlz : ¬ ((lineC t : Nat) : Int) < (n : Int) := by omega
          have hkz : (k : Int) < ((lineC t : Nat) : Int) := by omega
          generalize lineC t = L at *
          clear HS3 HTB3
          go_wp2_with (rw [← HW7.out])
          exact bodyPost_ret (by simp [results, Tryz.results34, go_sem, l0, l1, l2, l3, l4, l5, l6]) rfl ⟨⟨_, rfl, HGG.out, HR.out⟩, HB.out⟩
      · have hlz : ¬ ((lineC t : Nat) : Int) < (n : Int) := by omega
        have hkz : ¬ (k : Int) < ((lineC t : Nat) : Int) := by omega
        have hL1 : n ≤ lineC t := by omega
        have hLk : lineC t ≤ k := by omega
        have hL7 := lineC_le t
        have hq1 : q + 1 < ts.length := HT.out.next hp (by
          rw [HH.out]
          intro e6
          have : lineC t = 0 := by unfold lineC; simp [e6]
          omega)
        have ht2 := (HT.out.here hq1).1
        have hdd : (ts.drop q).drop 1 = ts.drop (q + 1) := by rw [List.drop_drop]
        have hpq := HS3.out.hq
        have hk7 := HS3.out.hk
        have hG1 := HS3.out.hG
        have hGw3 : G < w3.heap.size := HS3.out.box.lt
        have hxt := HS3.out.xt
        obtain ⟨C0, C1, C2, F1, F2⟩ := HS3.out.rs.cells
        have R4 := HS3.out.rs.at hq1
        have q4 := HS3.out.box.off (b := b) (by omega) 1 (.int .i64 (q + 1 : Nat))
        have zz4 := HS3.out.zero.off (b := b) (by omega) 1 (.int .i64 (q + 1 : Nat))
        have F4 := HS3.out.fr.set 1 (.int .i64 (q + 1 : Nat))
        have s4 : Sub (fun j => w.heap.size + 1 ≤ j ∧ j ≠ G) (w3.setCell ⟨b, 1, none⟩ (.int .i64 (q + 1 : Nat))) r'.1 r'.2.1 r'.2.2 := HS3.out.sub.keep (fun j hj _ => ⟨hj, Below.heap_setCell _ _ _ _ (by show j ≠ b; omega)⟩) (by rw [size_setCell]; exact Nat.le_refl _)
        have tb4 : (w3.setCell ⟨b, 1, none⟩ (.int .i64 (q + 1 : Nat))).cell? ⟨wr.heap.size, 1, none⟩ = some (.string (str t.s)) := (World.cell?_setCell_other w3 ⟨b, 1, none⟩ ⟨wr.heap.size, 1, none⟩ (.int .i64 (q + 1 : Nat)) (by simp <;> omega)).trans v1
        simp only [Int.natCast_add, Int.natCast_one] at R4 q4 zz4 F4 s4 tb4
        obtain ⟨W4, hW4⟩ : ∃ W4, W4 = w3.setCell ⟨b, 1, none⟩ (.int .i64 ((q : Int) + 1)) := ⟨_, rfl⟩
        have hW4z : W4.heap.size = w3.heap.size := by rw [hW4, size_setCell]
        rw [← hW4] at R4 q4 zz4 F4 s4 tb4
        have hr3 := HS3.out.hr
        have HW4 := Lib.hid hW4
        have HQ4 := Lib.hid q4
        have HZ4 := Lib.hid zz4
        have HF4 := Lib.hid F4
        have HS4 := Lib.hid s4
        have HR4 := Lib.hid R4
        have HHr := Lib.hid hr3
        have hbW4 := R4.lt
        obtain ⟨g0, g1, g2, g3, g4, g5, g6⟩ := q4.cells
        clear hW4 HS3 HTB3 q4 zz4 F4 s4 R4 hr3 hstop v0 v2 v3 n0 n1 n2 n3 n4 n5 n6 o0 o1 o2 o3 o4 o5 o6 O0 O1 O2 O3 O4 O5 O6 N0 N1 N2 N3 N4 N5 N6
        by_cases hL4 : lineC t = 4
        · have hct := ct_cmp resB (n := n) (k := k) (l := ts.drop q) (a := e) (by rw [HH.out]; exact ht1.1) (by rw [hdd]; exact ht2) hn1 (by omega) hk7 (by omega) (by rw [HH.out]; exact hL4)
          rw [hct, HH.out, hdd] at hxt
          have HC := Lib.hid (compared_any HT.out v HL.out W4 b _ c (q + 1) (tooDp d e) HR4.out (by omega) (fun j => w.heap.size + 1 ≤ j ∧ j ≠ G) e _ (row_got HS4.out HHr.out) (fun hh => (tooDp_le hh).2) (fun j hj => by omega) t.s)
          simp only [rowCells] at HC
          have hcd : ∀ b' m', cmpX resB e t.s (ts.drop (q + 1)) = okX b' m' → e.deep ≤ b'.deep := fun b' m' hh => cmpX_deep hh
          generalize cmpX resB e t.s (ts.drop (q + 1)) = xc at *
          have e4 : ((lineC t : Nat) : Int) = 4 := by omega
          simp only [e4] at hlz hkz ⊢
          clear hct hdd e4 hL4 hL1 hLk hL7 hst ht1 ht2
          generalize str t.s = bs at *
          rcases xc with j | ⟨a2, m2⟩
          · have hxe : xt = .error (q - p + (1 + j)) := by
              rw [hxt, sh_seq]
              show sh (q - p) (sh 1 (Except.error j)) = _
              simp [sh]
            subst hxe
            clear hxt hcd
            go_wp2_with (rw [← HW4.out])
            refine (HC.out).mono ?_
            rintro e9 w5 ⟨rfl, b5⟩
            have HB := Lib.hid (HF4.out.but b5 (by omega)).end
            unfold gone
            clear b5
            go_wp2_with fail
            exact ⟨rfl, ret_gone (by omega), HB.out⟩
          · have hxe : xt = sh (q + 1 + m2 - p) (ct resB n 3 a2 (ts.drop (q + 1 + m2))) := by
              rw [hxt, sh_seq]
              show sh (q - p) (sh 1 (seqX (okX a2 m2) _)) = _
              rw [sh_seq, sh_sh, sh_sh, List.drop_drop, show q - p + 1 + m2 = q + 1 + m2 - p by omega, show q + (1 + m2) = q + 1 + m2 by omega]
            have HXT := Lib.hid hxe
            have hdp := hcd a2 m2 rfl
            clear hxt hcd hxe
            go_wp2_with (rw [← HW4.out])
            refine (HC.out).mono ?_
            rintro e9 w5 ⟨⟨y, rfl, g5', R5⟩, b5⟩
            obtain ⟨r2, rfl, ks5, kr5⟩ := g5'.row
            have hz5 := b5.size
            rw [tooDp_in hdp] at R5 kr5
            have q5 := b5.seven HQ4.out (by omega)
            obtain ⟨W7, hW7, q7, z7, oW, bW⟩ := stored7 q5 (.string (str r2.1.op)) (.int .i64 r2.1.v.k) (.int .i64 r2.1.v.i) (.string (str r2.1.v.s)) (.string (str r2.1.tb)) (.string (str r2.1.nm)) (.slice r2.2.1 r2.1.l.length r2.2.2)
            have hN : LS ts b _ c p n d w W7 xt 3 (q + 1 + m2) a2 r2 G := LS.next (w5 := w5) (HF4.out.but b5 (by omega)) (b5.seven HZ4.out (by omega)) hG1 hbw (R5.own (by omega) oW bW) q7 (ks5.keep (fun j hj _ => by
              have hj2 : w.heap.size + 1 ≤ j ∧ j ≠ G := by
                rcases hj with hj | hj
                · exact hj
                · omega
              exact ⟨hj2, oW j hj2.2⟩) (by omega)) kr5 bW (by omega) (by omega) HXT.out
            obtain ⟨k0', k1, k2, k3, k4, k5, k6⟩ := q5.cells
            obtain ⟨f0, f1, f2, f3, f4, f5, f6⟩ := q5.free
            have HN := Lib.hid hN
            have hpos7 := hN.rs.pos
            have hp7 := hN.rs.hp
            have HW7 := Lib.hid hW7
            simp only [rowCells]
            clear hW7 q7 q5 R5 g5' ks5 kr5 b5 oW bW hN
            go_wp2_with (rw [← HW7.out])
            go_roundw
            case measure => rw [hpos7, hpos]; omega
            case rel => exact ⟨3, q + 1 + m2, a2, r2, rfl, HN.out⟩
        · have hct := ct_op resB (n := n) (k := k) (l := ts.drop q) (a := e) (by rw [HH.out]; exact ht1.1) hn1 (by rw [HH.out]; exact hL1) hk7 (by rw [HH.out]; exact hLk) (by rw [HH.out]; exact hL4)
          rw [hct, HH.out, hdd] at hxt
          have HC := Lib.hid (fun V (h : RS V b ts (some ⟨g, off, none⟩) c (q + 1) (tooDp d e)) => HL.out (lineC t + 1) (q + 1) (by omega) (by omega) (by omega) V b (some ⟨g, off, none⟩) c (tooDp d e) h)
          simp only [Int.natCast_add, Int.natCast_one] at HC
          have e4 : (((lineC t : Nat) : Int) == 4) = false := by simp; omega
          have hL7z : ((lineC t : Nat) : Int) ≤ 7 := by omega
          have HdW := Lib.hid (show RS W4.drew b ts (some ⟨g, off, none⟩) c (q + 1) (tooDp d e) from HR4.out.later (Below.refl W4.heap.size W4).drew)
          have hdz : W4.drew.heap.size = W4.heap.size := rfl
          generalize hln : ln resB (lineC t + 1) (ts.drop (q + 1)) = xc at *
          have hLL : 1 ≤ lineC t ∧ lineC t ≤ 7 := by omega
          have HSt : Hid (str t.s = str t.s) := rfl
          generalize lineC t = L at *
          have hwrap : IntKind.i64.wrap ((L : Int) + 1) = (L : Int) + 1 := by rw [IntKind.wrap_i64]; omega
          clear hct hdd hL4 hL1 hLk hL7 hst ht1 ht2 hln HSt
          rcases xc with j | ⟨a2, m2⟩
          · have hxe : xt = .error (q - p + (1 + j)) := by
              rw [hxt, sh_seq]
              show sh (q - p) (sh 1 (Except.error j)) = _
              simp [sh]
            subst hxe
            clear hxt
            go_wp2_with (rw [← HW4.out])
            go_region_with (go_at_call 34; refine (HC.out _ HdW.out).mono ?_; rintro e9 w5 ⟨rfl, b5⟩; have HB := Lib.hid ((HF4.out.below (Below.refl W4.heap.size W4).drew (by omega)).but b5 (by omega)).end; unfold gone; refine keepAny ?_ ?_; focus (go_wp2_with fail; exact ⟨rfl, ret_gone (by omega), HB.out⟩))
            all_goals trivial
          · have hxe : xt = sh (q + 1 + m2 - p) (ct resB n L (op1 t.s [e, a2]) (ts.drop (q + 1 + m2))) := by
              rw [hxt, sh_seq]
              show sh (q - p) (sh 1 (seqX (okX a2 m2) _)) = _
              rw [sh_seq, sh_sh, sh_sh, List.drop_drop, show q - p + 1 + m2 = q + 1 + m2 - p by omega, show q + (1 + m2) = q + 1 + m2 by omega]
            have HXT := Lib.hid hxe
            have hso : ∃ so, so = str t.s := ⟨_, rfl⟩
            obtain ⟨so, hso⟩ := hso
            rw [← hso] at tb4
            have HSO := Lib.hid hso
            clear hxt hxe hso
            go_wp2_with (rw [← HW4.out])
            refine wp_then fun K1 hK1 => ?_
            go_cut [6] (fun s6 wx => s6 = .int .i64 L ∧ Hid (∃ r7 : Rw, LS ts b (some ⟨g, off, none⟩) c p n d w wx xt L (q + 1 + m2) (op1 t.s [e, a2]) r7 G))
            case first =>
              go_region_with (first
                | (go_at_call 34
                   refine (HC.out _ HdW.out).mono ?_
                   rintro e9 w5 ⟨⟨y, rfl, g5', R5⟩, b5⟩
                   obtain ⟨r2, rfl, ks5, kr5⟩ := g5'.row
                   simp only [rowCells]
                   have hz5 : W4.heap.size ≤ w5.heap.size := b5.size
                   have q5 := b5.seven (HQ4.out.later (Below.refl W4.heap.size W4).drew) (by omega)
                   have zz5 := b5.seven (HZ4.out.later (Below.refl W4.heap.size W4).drew) (by omega)
                   have F5 := (HF4.out.below (Below.refl W4.heap.size W4).drew (by omega)).but b5 (by omega)
                   have s5 := (HS4.out.later (Below.refl W4.heap.size W4).drew).but b5 (fun j hj => by omega)
                   have tb5 : w5.cell? ⟨wr.heap.size, 1, none⟩ = some (.string so) := (World.cell?_of_block (w := W4) (a := ⟨wr.heap.size, 1, none⟩) (b5.block wr.heap.size (by omega) (by omega))).trans tb4
                   obtain ⟨i0, i1, i2, i3, i4, i5, i6⟩ := q5.cells
                   obtain ⟨_, rfl, r6, z6, H6⟩ := madeN R5 (S := fun j => (w.heap.size + 1 ≤ j ∧ j ≠ G) ∨ W4.heap.size ≤ j) [r', r2] [e, a2] (fun qq hq => by
                     rcases List.mem_cons.1 hq with rfl | hq
                     · exact s5.keep (fun k hk _ => ⟨.inl hk, rfl⟩) (Nat.le_refl _)
                     · rw [List.mem_singleton] at hq
                       subst hq
                       exact ks5.keep (fun k hk _ => ⟨.inr hk, rfl⟩) (Nat.le_refl _)) rfl (fun hh => by simp [HHr.out (tooDp_le hh).1, kr5 hh]) (two_le (fun hh => (tooDp_le hh).2)) (fun k hk => by rcases hk with hk | hk <;> omega) W4.heap.size (by omega) (by omega) (by simp) 2 rfl t.s so HSO.out
                   have tb6 := (World.cell?_of_block (a := ⟨wr.heap.size, 1, none⟩) (r6.block wr.heap.size (by omega))).trans tb5
                   have q6 := q5.later r6
                   have zz6 := zz5.later r6
                   have F6 := F5.below r6 (by omega)
                   simp only [flatE, rowCells, List.flatMap_cons, List.flatMap_nil, List.append_nil, List.cons_append, List.nil_append] at H6 q6 zz6 F6 z6 tb6
                   have H6' := Lib.hid H6
                   have HQ6 := Lib.hid q6
                   have HZ6 := Lib.hid zz6
                   have HF6 := Lib.hid F6
                   have Hz6 := Lib.hid z6
                   have Hz5 := Lib.hid hz5
                   clear H6 q6 zz6 F6 z6 r6 s5 F5 zz5 q5 R5 g5' b5 ks5 kr5 hz5)
                | (go_at_call 68
                   refine (H6'.out).mono ?_
                   rintro e9 w7 ⟨y, rfl, g7, R7, b7⟩
                   have e6 := Hz6.out
                   have e5 := Hz5.out
                   have hz7 := b7.size
                   rw [tooDp_two _ _ _ _ (fun hh => (tooDp_le hh).2), tooDp_in (deep_two t.s e a2)] at R7 g7
                   obtain ⟨r7, rfl, ks7, kr7⟩ := g7.row
                   simp only [rowCells]
                   have q7 := b7.seven HQ6.out (by omega)
                   obtain ⟨W8, hW8, q8, z8, oW, bW⟩ := stored7 q7 (.string (str r7.1.op)) (.int .i64 r7.1.v.k) (.int .i64 r7.1.v.i) (.string (str r7.1.v.s)) (.string (str r7.1.tb)) (.string (str r7.1.nm)) (.slice r7.2.1 r7.1.l.length r7.2.2)
                   have hN : LS ts b _ c p n d w W8 xt L (q + 1 + m2) (op1 t.s [e, a2]) r7 G := LS.next (w5 := w7) (HF6.out.but b7 (by omega)) (b7.seven HZ6.out (by omega)) hG1 hbw (R7.own (by omega) oW bW) q8 (ks7.keep (fun j hj _ => by
                     have hj2 : w.heap.size + 1 ≤ j ∧ j ≠ G := by
                       rcases hj with (hj | hj) | hj
                       · exact hj
                       · omega
                       · omega
                     exact ⟨hj2, oW j hj2.2⟩) (by omega)) kr7 bW (by omega) (by omega) HXT.out
                   obtain ⟨k0', k1, k2, k3, k4, k5, k6⟩ := q7.cells
                   obtain ⟨f0, f1, f2, f3, f4, f5, f6⟩ := q7.free
                   have HN := Lib.hid hN
                   have hpos7 := hN.rs.pos
                   have hp7 := hN.rs.hp
                   have HW8 := Lib.hid hW8
                   clear hW8 q7 q8 R7 g7 ks7 kr7 b7 oW bW hN e6 e5 z8 hz7))
              all_goals
                go_wp2_with (rw [← HW8.out])
                go_meet
                exact ⟨rfl, _, HN.out⟩
            case rest =>
              obtain ⟨rfl, HNx⟩ := hcut
              obtain ⟨r7, hN⟩ := HNx.out
              have HN := Lib.hid hN
              have hpos7 := hN.rs.pos
              have hp7 := hN.rs.hp
              clear hN HNx
              refine hK1 _ _ ?_
              go_wp2_with fail
              go_roundw
              case measure => rw [hpos7, hpos]; omega
              case rel => exact ⟨L, q + 1 + m2, op1 t.s [e, a2], r7, rfl, HN.out⟩
theorem line_ok {ts : List T} (hT : Toks ts) : ∀ v, LineOk ts v
  | 0 => fun n p _ _ h => by omega
  | v + 1 => line_step hT v (line_ok hT v)
end Go.Proofs.YthohfegnphocbaaGreatDoor
