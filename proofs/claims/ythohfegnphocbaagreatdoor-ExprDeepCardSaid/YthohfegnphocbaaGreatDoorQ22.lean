/- Contract of the reader's asked at IN. Condition: what stands ahead is no deeper than forty, while nothing was too deep. -/
import Derived.Test.YthohfegnphocbaaGreatDoorQ21
import Derived.Test.YthohfegnphocbaaGreatDoorQ16
namespace Go.Proofs.YthohfegnphocbaaGreatDoor
open Go.RowKit
structure Pre (ts : List T) (b : Nat) (A : Option Addr) (c p : Nat) (d : Bool) (w V : World) (S : Nat → Prop) (r : Rw) : Prop where
  rs : RS V b ts A c p d
  sub : Sub (fun k => S k ∧ k < w.heap.size) V r.1 r.2.1 r.2.2
  box : B7 V (w.heap.size + 1) (.string ⟨#[]⟩) (.int .i64 0) (.int .i64 0) (.string ⟨#[]⟩) (.string ⟨#[]⟩) (.string ⟨#[]⟩) (.slice none 0 0)
  fr : Fr b w.heap.size w V
  size : w.heap.size + 2 ≤ V.heap.size
  hb : b < w.heap.size
theorem Pre.later {ts : List T} {b : Nat} {A : Option Addr} {c p : Nat} {d : Bool} {w V V' : World} {S : Nat → Prop} {r : Rw} (h : Pre ts b A c p d w V S r) (hb : Below V.heap.size V V') : Pre ts b A c p d w V' S r :=
  ⟨h.rs.later hb, h.sub.later hb, h.box.later hb, h.fr.below hb (by have := h.size; omega), Nat.le_trans h.size hb.size, h.hb⟩
theorem Pre.drew {ts : List T} {b : Nat} {A : Option Addr} {c p : Nat} {d : Bool} {w V : World} {S : Nat → Prop} {r : Rw} (h : Pre ts b A c p d w V S r) : Pre ts b A c p d w V.drew S r := h.later (Below.refl V.heap.size V).drew
theorem Pre.alloc {ts : List T} {b : Nat} {A : Option Addr} {c p : Nat} {d : Bool} {w V : World} {S : Nat → Prop} {r : Rw} (h : Pre ts b A c p d w V S r) (o : Obj) : Pre ts b A c p d w (V.alloc o) S r := h.later ((Below.refl V.heap.size V).alloc (Nat.le_refl _) o)
def InsQ (ts : List T) (b : Nat) (A : Option Addr) (c p : Nat) (d : Bool) (w : World) (S : Nat → Prop) (l : List E) (x : Ending) (w' : World) : Prop := ∃ v', x = .returned v' ∧
  LGot w' (fun k => (S k ∧ k < w.heap.size) ∨ w.heap.size + 2 ≤ k) l d v' ∧ RS w' b ts A c p d ∧
  B7 w' (w.heap.size + 1) (.string ⟨#[]⟩) (.int .i64 0) (.int .i64 0) (.string ⟨#[]⟩) (.string ⟨#[]⟩) (.string ⟨#[]⟩) (.slice none 0 0) ∧ Fr b w.heap.size w w' ∧ w.heap.size + 2 ≤ w'.heap.size
theorem ins_any {ts : List T} {b : Nat} {A : Option Addr} {c p p' : Nat} {d d' : Bool} {w V w6 : World} {S : Nat → Prop} {r : Rw} {a : E} {l : List E} {v : Value} (P : Pre ts b A c p d w V S r) (hS : ∀ k, S k → k ≠ b)
    (L : OwnL w6 V.heap.size (fun k => V.heap.size ≤ k) l d' v) (R6 : RS w6 b ts A c p' d') (b6 : But b V w6) (h1 : 1 ≤ l.length) (hm : l.length ≤ 5000) (hr : d' = false → r.1 = a) (H : Nat) (hH : w6.heap[H]? = some (.cells (rowCells r).toArray 27 (0, 0))) (hne : v.ownBlock ≠ some H) :
    Calls Tryz.prog 142 #[v, .int .i64 0, .slice (some ⟨H, 0, none⟩) 1 1] w6 (InsQ ts b A c p' d' w S (a :: l)) := by
  have hown : ∀ k, v.ownBlock = some k → V.heap.size ≤ k := fun k hk => by
    obtain ⟨rs, q1, -, -, -⟩ := L
    exact (q1.lt k hk).1
  have hsz := P.size
  have hbw := P.hb
  have L' : OwnL w6 V.heap.size (fun k => (S k ∧ k < w.heap.size) ∨ w.heap.size + 2 ≤ k) l d' v := L.keep (fun k hk _ => ⟨.inr (by omega), rfl⟩) (.inl (But.refl 0 w6)) (by omega)
  have sub6 : Sub (fun k => S k ∧ k < w.heap.size) w6 r.1 r.2.1 r.2.2 := P.sub.but b6 (fun k hk => hS k hk.1)
  refine (insert_any L' h1 hm r (e := a) (sub6.keep (fun k hk _ => ⟨⟨.inl hk, fun e => by have := hown k e; have := hk.2; omega⟩, rfl⟩) (Nat.le_refl _)) hr H hH hne b6.size).mono ?_
  rintro x w' ⟨v', rfl, L2, o1, o2, o3, o4, o5⟩
  have keepB : ∀ k, k < V.heap.size → w'.heap[k]? = w6.heap[k]? := fun k hk => o5 k (by have := b6.size; omega) (fun e => by have := hown k e; omega)
  refine ⟨v', rfl, L2.got (fun k hk => .inr (by omega)), ⟨(keepB b (by omega)).trans R6.box, R6.toks.below ⟨o1, o2, o3, o4, fun k hk => keepB k (by omega)⟩, R6.hp⟩, (keepB _ (by omega)).trans (b6.seven P.box (by omega)), ?_, by have := b6.size; omega⟩
  refine (P.fr.but b6 (by omega)).trans ⟨o1, o2, o3, o4, fun k hk _ => keepB k (by omega)⟩
def zRow (r : Rw) : Obj := .cells #[.string (str r.1.op), .int .i64 r.1.v.k, .int .i64 r.1.v.i, .string (str r.1.v.s), .string (str r.1.tb), .string (str r.1.nm), .slice r.2.1 r.1.l.length r.2.2] 27
theorem ins_A {ts : List T} {b : Nat} {A : Option Addr} {c p p' : Nat} {d d' : Bool} {w V w5 : World} {S : Nat → Prop} {r : Rw} {a : E} {l : List E} {v : Value} (P : Pre ts b A c p d w V S r) (hS : ∀ k, S k → k ≠ b)
    (L : OwnL w5 V.heap.size (fun k => V.heap.size ≤ k) l d' v) (R5 : RS w5 b ts A c p' d') (b5 : But b V w5) (h1 : 1 ≤ l.length) (hm : l.length ≤ 5000) (hr : d' = false → r.1 = a) :
    Calls Tryz.prog 142 #[v, .int .i64 0, .slice (some ⟨w5.heap.size, 0, none⟩) 1 1] (w5.alloc (zRow r)) (InsQ ts b A c p' d' w S (a :: l)) := by
  have r6 := (Below.refl w5.heap.size w5).alloc (Nat.le_refl _) (zRow r)
  have hVb := P.size
  have hbw := P.hb
  refine ins_any P hS (L.keep (fun k hk hlt => ⟨hk, r6.block k hlt⟩) (.inl (But.of r6 (Nat.le_refl _))) (by omega)) (R5.later r6) (b5.then r6) h1 hm hr _ (heap_alloc_new w5 _) ?_
  intro e
  obtain ⟨rs, q1, -, -, -⟩ := L
  have := (q1.lt _ e).2
  omega
theorem ins_B {ts : List T} {b : Nat} {A : Option Addr} {c p p' : Nat} {d d' : Bool} {w V w5 : World} {S : Nat → Prop} {r : Rw} {a : E} {l : List E} {v : Value} (P : Pre ts b A c p d w V S r) (hS : ∀ k, S k → k ≠ b)
    (L : OwnL w5 (V.alloc (zRow r)).heap.size (fun k => (V.alloc (zRow r)).heap.size ≤ k) l d' v) (R5 : RS w5 b ts A c p' d') (b5 : But b (V.alloc (zRow r)) w5) (h1 : 1 ≤ l.length) (hm : l.length ≤ 5000) (hr : d' = false → r.1 = a) :
    Calls Tryz.prog 142 #[v, .int .i64 0, .slice (some ⟨V.heap.size, 0, none⟩) 1 1] w5 (InsQ ts b A c p' d' w S (a :: l)) := by
  have hVb := P.size
  have hbw := P.hb
  refine ins_any (P.alloc _) hS L R5 b5 h1 hm hr _ ((b5.block _ (by simp) (by omega)).trans (heap_alloc_new V _)) ?_
  intro e
  obtain ⟨rs, q1, -, -, -⟩ := L
  have := (q1.lt _ e).1
  simp at this
  omega
theorem end_put {ts : List T} {b : Nat} {A : Option Addr} {c p : Nat} {d : Bool} {w w7 w8 : World} {S : Nat → Prop} {e : E} {y : Value}
    (q : B7 w7 (w.heap.size + 1) (.string ⟨#[]⟩) (.int .i64 0) (.int .i64 0) (.string ⟨#[]⟩) (.string ⟨#[]⟩) (.string ⟨#[]⟩) (.slice none 0 0)) (F : Fr b w.heap.size w w7) (hz : w.heap.size + 2 ≤ w7.heap.size) (hb : b < w.heap.size)
    (G : Got w8 (fun k => (S k ∧ k < w.heap.size) ∨ w.heap.size + 2 ≤ k) e d y) (R : RS w8 b ts A c p d) (b8 : But b w7 w8) :
    ∃ (s0 s3 s4 s5 : ByteArray) (i1 i2 : Int) (A9 : Option Addr) (n9 c9 : Nat) (W : World), y = .agg #[.string s0, .int .i64 i1, .int .i64 i2, .string s3, .string s4, .string s5, .slice A9 n9 c9] ∧
      W = (((((((w8.setCell ⟨w.heap.size + 1, 0, none⟩ (.string s0)).setCell ⟨w.heap.size + 1, 1, none⟩ (.int .i64 i1)).setCell ⟨w.heap.size + 1, 2, none⟩ (.int .i64 i2)).setCell ⟨w.heap.size + 1, 3, none⟩ (.string s3)).setCell ⟨w.heap.size + 1, 4, none⟩ (.string s4)).setCell ⟨w.heap.size + 1, 5, none⟩ (.string s5)).setCell ⟨w.heap.size + 1, 6, none⟩ (.slice A9 n9 c9)) ∧
      B7 w8 (w.heap.size + 1) (.string ⟨#[]⟩) (.int .i64 0) (.int .i64 0) (.string ⟨#[]⟩) (.string ⟨#[]⟩) (.string ⟨#[]⟩) (.slice none 0 0) ∧
      B7 W (w.heap.size + 1) (.string s0) (.int .i64 i1) (.int .i64 i2) (.string s3) (.string s4) (.string s5) (.slice A9 n9 c9) ∧ RS W b ts A c p d ∧
      Got W (Rs S w) e d (.agg #[.string s0, .int .i64 i1, .int .i64 i2, .string s3, .string s4, .string s5, .slice A9 n9 c9]) ∧ But b w W := by
  obtain ⟨t0, j1, j2, t3, t4, t5, A9, n9, c9, rfl⟩ := G.agg
  have q8 := b8.seven q (by omega)
  obtain ⟨W, hW, qW, RW, GW, bW, zW, oW⟩ := put7 R G q8 (by omega) (fun k hk => by
    rcases hk with hk | hk
    · have := hk.2; omega
    · omega)
  refine ⟨_, _, _, _, _, _, _, _, _, W, rfl, hW, q8, qW, RW, GW.wide (fun k hk _ => ?_), ((F.but b8 (by omega)).below (bW _ (Nat.le_succ _)) (Nat.le_refl _)).end⟩
  rcases hk with hk | hk
  · exact .inl hk.1
  · exact .inr (by omega)
noncomputable def inX (a : E) : X (List E) → X E
  | .error q => .error (1 + q)
  | .ok (xs, m) => .ok (op1 wIn (a :: xs), 1 + m)
theorem inX_eq (a : E) (x : X (List E)) : (seqX (okX () 1) fun _ _ => seqX x fun xs _ => okX (op1 wIn (a :: xs)) 0) = inX a x := by rcases x with q | ⟨a, m⟩ <;> simp [seqX, okX, inX]
theorem tooDpL_cons {d : Bool} {a : E} (h : d = false → a.deep ≤ 40) (l : List E) : tooDpL d l = tooDpL d (a :: l) := by
  unfold tooDpL
  cases d with
  | true => rfl
  | false =>
    have := h rfl
    simp only [E.deepL, Bool.false_or]
    congr 1
    exact propext ⟨fun h => by omega, fun h => by omega⟩
set_option maxRecDepth 100000 in
set_option maxHeartbeats 8000000 in
theorem asked_in {ts : List T} (hT : Toks ts) (v : Nat) (hL : LineOk ts v) (w : World) (b : Nat) (A : Option Addr) (c p : Nat) (d : Bool) (h : RS w b ts A c p d) (hv : ts.length - p < v) (S : Nat → Prop) (a : E) (x : Value) (hx : Got w S a d x) (hd : d = false → a.deep ≤ 40) (hS : ∀ k, S k → k ≠ b) :
    Calls Tryz.prog 107 #[.pointer (some ⟨b, 0, none⟩), x, .string (str wIn)] w (Rp ts b A c p d w (Rs S w) (askX resB a wIn (ts.drop p))) := by
  unfold askX
  rw [if_pos rfl]
  have hbw := h.lt
  obtain ⟨r, rfl, hs0, hr⟩ := hx.row
  have hs := hs0.lim
  simp only [rowCells]
  obtain ⟨W1, hW1, q1, z1, r1⟩ := box7 w (.string (str r.1.op)) (.int .i64 r.1.v.k) (.int .i64 r.1.v.i) (.string (str r.1.v.s)) (.string (str r.1.tb)) (.string (str r.1.nm)) (.slice r.2.1 r.1.l.length r.2.2)
  obtain ⟨W2, hW2, q2, z2, r2⟩ := zero7 W1
  rw [z1] at q2 z2
  obtain ⟨W3, hW3, hM3, z3, r3⟩ := mark1 W2 ⟨#[40]⟩
  rw [z2] at hM3 z3
  have R3 := ((h.later r1).later r2).later r3
  have q1' := (q1.later r2).later r3
  have q2' := q2.later r3
  have hs3 := ((hs.later r1).later r2).later r3
  have F3 := (((Fr.refl b w.heap.size w).below r1 (Nat.le_refl _)).below r2 (by omega)).below r3 (by omega)
  have H3 := Lib.hid (want1 hT 5 ⟨#[40]⟩ [40] rfl (.inr ⟨rfl, rfl⟩) W3 b A c p d R3 _ hM3 (by omega))
  have HW1 := Lib.hid hW1
  have HW2 := Lib.hid hW2
  have HW3 := Lib.hid hW3
  have hlen := hT.len
  have HLs := Lib.hid (fun V (h : RS V b ts A c (p + 1) d) => list_any hT v hL V b A c (p + 1) d h (by omega))
  have HL1 : Hid (∀ xs m, cls resB (ts.drop (p + 1)) = okX xs m → True) := fun _ _ _ => trivial
  have hso : str wIn = ⟨#[105, 110]⟩ := rfl
  rw [hso]
  clear hW1 hW2 hW3 h hx hs0 q1 q2 r1 r2 r3 R3 hM3 hs hL
  cases hc : isS [40] (ts.drop p)
  · simp only [needX, hc, Bool.false_eq_true, if_false, badX]
    simp only [hc, Bool.false_eq_true, if_false] at H3
    clear hc HLs hT
    go_enter Tryz.func107, Tryz.ntmps107
    go_wp2_with (first | (rw [← HW3.out]) | (rw [← HW2.out]) | (rw [← HW1.out]))
    refine (H3.out).mono ?_
    rintro e w4 ⟨⟨rfl, R4⟩, b4⟩
    have HB := Lib.hid (F3.but b4 (by omega)).end
    unfold gone
    clear b4 R4 F3 q1' q2' hs3
    go_wp2_with fail
    exact ⟨rfl, rfl, HB.out⟩
  · simp only [needX, hc, if_true, List.drop_drop]
    rw [inX_eq]
    simp only [hc, if_true] at H3
    generalize cls resB (ts.drop (p + 1)) = xl at *
    clear hc hT
    rcases xl with q | ⟨xs, m⟩
    · simp only [inX]
      go_enter Tryz.func107, Tryz.ntmps107
      go_wp2_with (first | (rw [← HW3.out]) | (rw [← HW2.out]) | (rw [← HW1.out]))
      refine (H3.out).mono ?_
      rintro e w4 ⟨⟨rfl, R4⟩, b4⟩
      have hb4 := b4.size
      have P4 : Pre ts b A c (p + 1) d w w4 S r := ⟨R4, hs3.but b4 (fun k hk => hS k hk.1), b4.seven q2' (by omega), F3.but b4 (by omega), by omega, hbw⟩
      obtain ⟨m0, m1, m2, m3, m4, m5, m6⟩ := (b4.seven q1' (by omega)).cells
      obtain ⟨n0, n1, n2, n3, n4, n5, n6⟩ := ((b4.seven q1' (by omega)).later ((Below.refl w4.heap.size w4).drew)).cells
      have HPA := Lib.hid P4.drew
      have HPB := Lib.hid (P4.alloc (zRow r)).drew
      have HP := Lib.hid P4
      clear b4 R4 F3 q1' q2' hs3 H3 P4 HL1
      go_wp2_with fail
      go_region_with (go_at_call 143; (first | (refine (HLs.out _ HPA.out.rs).mono ?_; rintro e w5 ⟨rfl, b5⟩; have HB := Lib.hid (HPA.out.fr.but b5 (by have := HPA.out.size; omega)).end) | (refine (HLs.out _ HPB.out.rs).mono ?_; rintro e w5 ⟨rfl, b5⟩; have HB := Lib.hid (HPB.out.fr.but b5 (by have := HPB.out.size; omega)).end)); unfold gone; refine keepAny ?_ ?_; focus (go_wp2_with fail; exact ⟨rfl, ret_gone (by omega), HB.out⟩))
      all_goals trivial
    · simp only [inX]
      have e1 : Hid (tooDpL d xs = tooDpL d (a :: xs)) := tooDpL_cons hd xs
      go_enter Tryz.func107, Tryz.ntmps107
      go_wp2_with (first | (rw [← HW3.out]) | (rw [← HW2.out]) | (rw [← HW1.out]))
      refine (H3.out).mono ?_
      rintro e w4 ⟨⟨rfl, R4⟩, b4⟩
      have hb4 := b4.size
      have P4 : Pre ts b A c (p + 1) d w w4 S r := ⟨R4, hs3.but b4 (fun k hk => hS k hk.1), b4.seven q2' (by omega), F3.but b4 (by omega), by omega, hbw⟩
      obtain ⟨m0, m1, m2, m3, m4, m5, m6⟩ := (b4.seven q1' (by omega)).cells
      obtain ⟨n0, n1, n2, n3, n4, n5, n6⟩ := ((b4.seven q1' (by omega)).later ((Below.refl w4.heap.size w4).drew)).cells
      have HB1 := Lib.hid ((b4.seven q1' (by omega)).later ((Below.refl w4.heap.size w4).drew))
      have HPA := Lib.hid P4.drew
      have HPB := Lib.hid (P4.alloc (zRow r)).drew
      have HP := Lib.hid P4
      clear b4 R4 F3 q1' q2' hs3 H3 P4 HL1
      go_wp2_with fail
      go_region_with (first
        | (go_at_call 143
           (first
           | (refine (HLs.out _ HPA.out.rs).mono ?_
              rintro e w5 ⟨⟨v5, rfl, L5, R5, l1, l2⟩, b5⟩
              have hp5 := R5.hp
              obtain ⟨o0, o1, o2, o3, o4, o5, o6⟩ := (b5.seven HB1.out (by omega)).cells
              have H6 := ins_A (a := a) HPA.out hS L5 R5 b5 l1 (by omega) (fun hh => hr (tooDpL_le hh).1))
           | (refine (HLs.out _ HPB.out.rs).mono ?_
              rintro e w5 ⟨⟨v5, rfl, L5, R5, l1, l2⟩, b5⟩
              have hp5 := R5.hp
              have H6 := ins_B (V := w4) (a := a) HP.out hS L5 R5 ⟨b5.os, b5.tape, b5.output, b5.size, b5.block⟩ l1 (by omega) (fun hh => hr (tooDpL_le hh).1)))
           try (simp only [zRow] at H6)
           have H6' := Lib.hid H6
           clear H6 L5 R5 b5)
        | (go_at_call 142
           refine (H6'.out).mono ?_
           rintro e w6 ⟨v6, rfl, L6, R6, q6, F6, z6⟩
           rw [e1.out] at L6 R6
           have H7 := Lib.hid (made_any w6 b A c _ _ R6 _ wIn (a :: xs) v6 L6 (fun hh => (tooDpL_le hh).2) (fun k hk => by rcases hk with hk | hk; exact hS k hk.1; omega) ⟨#[105, 110]⟩ rfl)
           have HQ6 := Lib.hid q6
           have HF6 := Lib.hid F6
           have HZ6 := Lib.hid z6
           clear L6 R6 q6 F6 z6)
        | (go_at_call 68
           refine (H7.out).mono ?_
           rintro e w7 ⟨y, rfl, g7, R7, b7⟩
           rw [show op1 wIn (a :: xs) = E.mk wIn v0 [] [] (a :: xs) from rfl, tooDp_of] at R7 g7
           obtain ⟨s0, s3, s4, s5, i1, i2, A9, n9, c9, W8, rfl, hW8, q7, q8, R8, G8, B8⟩ := end_put HQ6.out HF6.out HZ6.out hbw g7 R7 b7
           rw [show p + 1 + m = p + (1 + m) by omega] at R8
           have HW8 := Lib.hid hW8
           obtain ⟨k0, k1, k2, k3, k4, k5, k6⟩ := q7.cells
           obtain ⟨f0, f1, f2, f3, f4, f5, f6⟩ := q7.free
           obtain ⟨l0, l1, l2, l3, l4, l5, l6⟩ := q8.cells
           have HR := Lib.hid R8
           have HGG := Lib.hid G8
           have HB := Lib.hid B8
           clear hW8 q7 q8 R7 R8 G8 g7 b7 B8))
      all_goals
        go_wp2_with (rw [← HW8.out])
        exact bodyPost_ret (v := .agg #[.string s0, .int .i64 i1, .int .i64 i2, .string s3, .string s4, .string s5, .slice A9 n9 c9]) (by simp [results, Tryz.results107, go_sem, l0, l1, l2, l3, l4, l5, l6]) rfl ⟨⟨_, rfl, HGG.out, HR.out⟩, HB.out⟩
end Go.Proofs.YthohfegnphocbaaGreatDoor
