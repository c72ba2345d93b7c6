/- Contract of the reader's asked at BETWEEN, and at any word. Condition: what stands ahead is no deeper than forty, while nothing was too deep. -/
import Derived.Test.YthohfegnphocbaaGreatDoorQ22
namespace Go.Proofs.YthohfegnphocbaaGreatDoor
open Go.RowKit
theorem askX_bet (a : E) (l : List T) : askX resB a wBetween l = match ln resB 5 l with
    | .error q => .error q
    | .ok (b, m) => if isS wAnd (l.drop m) = true then (match ln resB 5 (l.drop (m + 1)) with
      | .error q => .error (m + 1 + q)
      | .ok (c, n) => .ok (op1 wBetween [a, b, c], m + 1 + n)) else .error m := by
  unfold askX
  rw [if_neg (by decide), if_pos rfl]
  rcases ln resB 5 l with q | ⟨b, m⟩
  · rfl
  · unfold needX
    simp only [seqX]
    cases isS wAnd (l.drop m)
    · simp [badX]
    · simp only [if_true, okX]
      rcases ln resB 5 (l.drop (m + 1)) with q | ⟨c, n⟩
      · simp [Nat.add_assoc]
      · simp [Nat.add_assoc]
theorem tooDp_three (d : Bool) (o : List UInt8) (a b c : E) (h : d = false → a.deep ≤ 40) : tooDp (tooDp (tooDp d b) c) (op1 o [a, b, c]) = tooDp d (op1 o [a, b, c]) := by
  have h1 : tooDpL d [a, b] = tooDp d b := by
    have := tooDpL_app d [a] b
    rw [tooDpL_one, tooDp_same h] at this
    exact this
  have h2 : tooDpL d [a, b, c] = tooDp (tooDp d b) c := by
    have := tooDpL_app d [a, b] c
    rw [h1] at this
    exact this
  rw [← h2]
  exact tooDp_of d o v0 [] [] [a, b, c]
theorem three_le {d : Bool} {a b c : E} (h : d = false → a.deep ≤ 40) : tooDp (tooDp d b) c = false → E.deepL [a, b, c] ≤ 40 := fun hh => by
  obtain ⟨h1, h2⟩ := tooDp_le hh
  obtain ⟨h3, h4⟩ := tooDp_le h1
  have := h h3
  simp only [E.deepL]; omega
structure Pre2 (ts : List T) (b : Nat) (A : Option Addr) (c p : Nat) (d : Bool) (w V : World) (S : Nat → Prop) (r r2 : Rw) (G : Nat) : Prop where
  pre : Pre ts b A c p d w V S r
  box1 : B7 V w.heap.size (.string (str r.1.op)) (.int .i64 r.1.v.k) (.int .i64 r.1.v.i) (.string (str r.1.v.s)) (.string (str r.1.tb)) (.string (str r.1.nm)) (.slice r.2.1 r.1.l.length r.2.2)
  box2 : B7 V G (.string (str r2.1.op)) (.int .i64 r2.1.v.k) (.int .i64 r2.1.v.i) (.string (str r2.1.v.s)) (.string (str r2.1.tb)) (.string (str r2.1.nm)) (.slice r2.2.1 r2.1.l.length r2.2.2)
  hG : w.heap.size + 2 ≤ G
  sub2 : Sub (fun k => w.heap.size + 2 ≤ k ∧ k < V.heap.size) V r2.1 r2.2.1 r2.2.2
theorem Pre2.later {ts : List T} {b : Nat} {A : Option Addr} {c p : Nat} {d : Bool} {w V V' : World} {S : Nat → Prop} {r r2 : Rw} {G : Nat} (h : Pre2 ts b A c p d w V S r r2 G) (hb : Below V.heap.size V V') : Pre2 ts b A c p d w V' S r r2 G :=
  ⟨h.pre.later hb, h.box1.later hb, h.box2.later hb, h.hG, (h.sub2.later hb).keep (fun k hk _ => ⟨⟨hk.1, by have := hb.size; omega⟩, rfl⟩) (Nat.le_refl _)⟩
theorem Pre2.but {ts : List T} {b : Nat} {A : Option Addr} {c p p' : Nat} {d d' : Bool} {w V V' : World} {S : Nat → Prop} {r r2 : Rw} {G : Nat} (h : Pre2 ts b A c p d w V S r r2 G) (hS : ∀ k, S k → k ≠ b) (hb : But b V V') (R : RS V' b ts A c p' d') : Pre2 ts b A c p' d' w V' S r r2 G :=
  have hbw := h.pre.hb
  have hz := h.pre.size
  have hG := h.hG
  ⟨⟨R, h.pre.sub.but hb (fun k hk => hS k hk.1), hb.seven h.pre.box (by omega), h.pre.fr.but hb (by omega), Nat.le_trans hz hb.size, hbw⟩, hb.seven h.box1 (by omega), hb.seven h.box2 (by omega), hG,
    (h.sub2.but hb (fun k hk => by have := hk.1; omega)).keep (fun k hk _ => ⟨⟨hk.1, by have := hb.size; omega⟩, rfl⟩) (Nat.le_refl _)⟩
set_option maxRecDepth 100000 in
set_option maxHeartbeats 16000000 in
theorem asked_bet {ts : List T} (hT : Toks ts) (v : Nat) (hL : LineOk ts v) (w : World) (b : Nat) (A : Option Addr) (c p : Nat) (d : Bool) (h : RS w b ts A c p d) (hv : ts.length - p < v) (S : Nat → Prop) (a : E) (x : Value) (hx : Got w S a d x) (hd : d = false → a.deep ≤ 40) (hS : ∀ k, S k → k ≠ b) :
    Calls Tryz.prog 107 #[.pointer (some ⟨b, 0, none⟩), x, .string (str wBetween)] w (Rp ts b A c p d w (Rs S w) (askX resB a wBetween (ts.drop p))) := by
  rw [askX_bet]
  have hbw := h.lt
  obtain ⟨r, rfl, hs0, hr⟩ := hx.row
  have hs := hs0.lim
  simp only [rowCells]
  obtain ⟨W1, hW1, q1, z1, r1⟩ := box7 w (.string (str r.1.op)) (.int .i64 r.1.v.k) (.int .i64 r.1.v.i) (.string (str r.1.v.s)) (.string (str r.1.tb)) (.string (str r.1.nm)) (.slice r.2.1 r.1.l.length r.2.2)
  obtain ⟨W2, hW2, q2, z2, r2⟩ := zero7 W1
  rw [z1] at q2 z2
  have R2 := (h.later r1).later r2
  have P2 : Pre ts b A c p d w W2 S r := ⟨R2, (hs.later r1).later r2, q2, ((Fr.refl b w.heap.size w).below r1 (Nat.le_refl _)).below r2 (by omega), by omega, hbw⟩
  have HQ1 := Lib.hid (q1.later r2)
  have HP2 := Lib.hid P2
  have HL := Lib.hid (fun p' V d (h : RS V b ts A c p' d) (hp : p ≤ p') => hL 5 p' (by omega) (by omega) (by omega) V b A c d h)
  have HL1 := Lib.hid (HL.out p W2 d R2 (Nat.le_refl _))
  have HWn := Lib.hid (fun w p d (h : RS w b ts A c p d) g hM hg => want1 hT 1 ⟨#[97, 110, 100]⟩ wAnd rfl (.inl ⟨rfl, rfl⟩) w b A c p d h g hM hg)
  have HW1 := Lib.hid hW1
  have HW2 := Lib.hid hW2
  have hlen := hT.len
  have hso : str wBetween = ⟨#[98, 101, 116, 119, 101, 101, 110]⟩ := rfl
  rw [hso]
  clear hW1 hW2 h hx hs0 q1 q2 r1 r2 R2 P2 hs hL hT
  rcases hx1 : ln resB 5 (ts.drop p) with q | ⟨a2, m⟩
  · simp only
    rw [hx1] at HL1
    clear hx1 HL HWn
    go_enter Tryz.func107, Tryz.ntmps107
    go_wp2_with (first | (rw [← HW2.out]) | (rw [← HW1.out]))
    refine (HL1.out).mono ?_
    rintro e w5 ⟨rfl, b5⟩
    have HB := Lib.hid (HP2.out.fr.but b5 (by have := HP2.out.size; omega)).end
    unfold gone
    clear b5
    go_wp2_with fail
    exact ⟨rfl, rfl, HB.out⟩
  · simp only [List.drop_drop]
    rw [hx1] at HL1
    rw [show ∀ m, p + (m + 1) = p + m + 1 from fun m => by omega]
    have HL2 := Lib.hid (fun V d (h : RS V b ts A c (p + m + 1) d) => HL.out (p + m + 1) V d h (by omega))
    have HN := Lib.hid (fun V d (h : RS V b ts A c (p + m) d) g hM hg => HWn.out V (p + m) d h g hM hg)
    clear hx1 HL HWn
    cases hc : isS wAnd (ts.drop (p + m))
    all_goals
      simp only [Bool.false_eq_true, if_false, if_true]
      simp only [hc, Bool.false_eq_true, if_false, if_true] at HN
      clear hc
      try (generalize ln resB 5 (ts.drop (p + m + 1)) = xl at *)
      try (rcases xl with q | ⟨a3, n⟩)
    all_goals
      try (simp only)
      go_enter Tryz.func107, Tryz.ntmps107
      go_wp2_with (first | (rw [← HW2.out]) | (rw [← HW1.out]))
      refine (HL1.out).mono ?_
      rintro e v5 ⟨⟨y, rfl, g5, R5⟩, b5⟩
      obtain ⟨r2, rfl, ks5, kr5⟩ := g5.row
      have hz5 := b5.size
      have hP2 := HP2.out.size
      obtain ⟨V6, V7, hV6, hV7, t6, t7, y7, k6, k7⟩ := made7 v5 (.string (str r2.1.op)) (.int .i64 r2.1.v.k) (.int .i64 r2.1.v.i) (.string (str r2.1.v.s)) (.string (str r2.1.tb)) (.string (str r2.1.nm)) (.slice r2.2.1 r2.1.l.length r2.2.2)
      have P7 : Pre2 ts b A c (p + m) (tooDp d a2) w V7 S r r2 v5.heap.size := by
        have hs2 := HP2.out.sub.but b5 (fun k hk => hS k hk.1)
        refine ⟨⟨R5.later k7, hs2.later k7, (b5.seven HP2.out.box (by omega)).later k7, (HP2.out.fr.but b5 (by omega)).below k7 (by omega), by omega, hbw⟩, (b5.seven HQ1.out (by omega)).later k7, t7, by omega, (ks5.lim.later k7).keep (fun k hk _ => ⟨⟨by have := hk.1; omega, by have := hk.2; omega⟩, rfl⟩) (Nat.le_refl _)⟩
      obtain ⟨x0, x1, x2, x3, x4, x5, x6⟩ := t6.free
      obtain ⟨X0, X1, X2, X3, X4, X5, X6⟩ := t6.cells
      obtain ⟨V8, hV8, hM8, y8, k8⟩ := mark1 V7 ⟨#[97, 110, 100]⟩
      have P8 := P7.later k8
      rw [y7] at y8 hM8
      have HV6 := Lib.hid hV6
      have HV7 := Lib.hid hV7
      have HV8 := Lib.hid hV8
      have HP8 := Lib.hid P8
      have H8 := Lib.hid (HN.out V8 (tooDp d a2) P8.pre.rs _ hM8 (by omega))
      have HK5 := Lib.hid kr5
      simp only [rowCells]
      clear hV6 hV7 hV8 hM8 y8 P7 P8 t6 t7 k6 k7 k8 R5 g5 ks5 kr5 b5 HN HL1 HP2 HQ1
      go_wp2_with (first | (rw [← HV8.out]) | (rw [← HV7.out]) | (rw [← HV6.out]))
      refine (H8.out).mono ?_
      rintro e v9 ⟨⟨rfl, R9⟩, b9⟩
      have P9 := HP8.out.but hS b9 R9
      have HP9 := Lib.hid P9
    · have HB := Lib.hid P9.pre.fr.end
      unfold gone
      clear b9 R9 P9
      go_wp2_with fail
      exact ⟨rfl, rfl, HB.out⟩
    · have HB := Lib.hid P9.pre.fr.end
      unfold gone
      clear b9 R9 P9
      go_wp2_with fail
      exact ⟨rfl, rfl, HB.out⟩
    · have HPd := Lib.hid (P9.later (Below.refl v9.heap.size v9).drew)
      obtain ⟨m0, m1, m2, m3, m4, m5, m6⟩ := P9.box1.cells
      obtain ⟨n0, n1, n2, n3, n4, n5, n6⟩ := P9.box2.cells
      clear b9 R9 P9
      go_wp2_with fail
      go_region_with (go_at_call 34; refine (HL2.out _ _ HPd.out.pre.rs).mono ?_; rintro e w10 ⟨rfl, b10⟩; have HB := Lib.hid (HPd.out.pre.fr.but b10 (by have := HPd.out.pre.size; omega)).end; unfold gone; refine keepAny ?_ ?_; focus (go_wp2_with fail; exact ⟨rfl, ret_gone (by omega), HB.out⟩))
      all_goals trivial
    · have HPd := Lib.hid (P9.later (Below.refl v9.heap.size v9).drew)
      obtain ⟨m0, m1, m2, m3, m4, m5, m6⟩ := P9.box1.cells
      obtain ⟨n0, n1, n2, n3, n4, n5, n6⟩ := P9.box2.cells
      clear b9 R9 P9
      go_wp2_with fail
      go_region_with (first
        | (go_at_call 34
           refine (HL2.out _ _ HPd.out.pre.rs).mono ?_
           rintro e w10 ⟨⟨y, rfl, g10, R10⟩, b10⟩
           obtain ⟨r3, rfl, ks10, kr10⟩ := g10.row
           simp only [rowCells]
           have hzd := HPd.out.pre.size
           have P10 := HPd.out.but hS b10 R10
           obtain ⟨o0, o1, o2, o3, o4, o5, o6⟩ := P10.box1.cells
           obtain ⟨u0, u1, u2, u3, u4, u5, u6⟩ := P10.box2.cells
           obtain ⟨_, rfl, r11, z11, H11⟩ := madeN R10 (S := fun k => (S k ∧ k < w.heap.size) ∨ w.heap.size + 2 ≤ k) [r, r2, r3] [a, a2, a3] (fun q hq => by
             rcases List.mem_cons.1 hq with rfl | hq
             · exact P10.pre.sub.keep (fun k hk _ => ⟨.inl hk, rfl⟩) (Nat.le_refl _)
             · rcases List.mem_cons.1 hq with rfl | hq
               · exact P10.sub2.keep (fun k hk _ => ⟨.inr hk.1, rfl⟩) (Nat.le_refl _)
               · rw [List.mem_singleton] at hq
                 subst hq
                 exact ks10.keep (fun k hk _ => ⟨.inr (by omega), rfl⟩) (Nat.le_refl _)) rfl (fun hh => by simp [hr (tooDp_le (tooDp_le hh).1).1, HK5.out (tooDp_le hh).1, kr10 hh]) (three_le hd) (fun k hk => by rcases hk with hk | hk; exact hS k hk.1; omega) (w.heap.size + 2) (by have := P10.pre.size; omega) (by omega) (by simp) 3 rfl wBetween ⟨#[98, 101, 116, 119, 101, 101, 110]⟩ rfl
           have P11 := P10.later r11
           simp only [flatE, rowCells, List.flatMap_cons, List.flatMap_nil, List.append_nil, List.cons_append, List.nil_append] at H11 P11
           have H11' := Lib.hid H11
           have HP11 := Lib.hid P11
           clear H11 P11 P10 z11 r11 R10 g10 b10 ks10 kr10)
        | (go_at_call 68
           refine (H11'.out).mono ?_
           rintro e w12 ⟨y, rfl, g12, R12, b12⟩
           rw [tooDp_three d wBetween a a2 a3 hd] at R12 g12
           obtain ⟨s0, s3, s4, s5, i1, i2, A9, n9, c9, W8, rfl, hW8, q7, q8, R8, G8, B8⟩ := end_put HP11.out.pre.box HP11.out.pre.fr HP11.out.pre.size hbw (g12.wide (S' := fun k => (S k ∧ k < w.heap.size) ∨ w.heap.size + 2 ≤ k) (fun k hk _ => by rcases hk with hk | hk; exact hk; exact .inr hk)) R12 b12
           rw [show p + m + 1 + n = p + (m + 1 + n) by omega] at R8
           have HW8 := Lib.hid hW8
           obtain ⟨k0, k1, k2, k3, k4, k5, k6⟩ := q7.cells
           obtain ⟨f0, f1, f2, f3, f4, f5, f6⟩ := q7.free
           obtain ⟨l0, l1, l2, l3, l4, l5, l6⟩ := q8.cells
           have HR := Lib.hid R8
           have HGG := Lib.hid G8
           have HB := Lib.hid B8
           clear hW8 q7 q8 R8 G8 B8 R12 g12 b12))
      all_goals
        go_wp2_with (rw [← HW8.out])
        exact bodyPost_ret (v := .agg #[.string s0, .int .i64 i1, .int .i64 i2, .string s3, .string s4, .string s5, .slice A9 n9 c9]) (by simp [results, Tryz.results107, go_sem, l0, l1, l2, l3, l4, l5, l6]) rfl ⟨⟨_, rfl, HGG.out, HR.out⟩, HB.out⟩
theorem asked_any {ts : List T} (hT : Toks ts) (v : Nat) (hL : LineOk ts v) (w : World) (b : Nat) (A : Option Addr) (c p : Nat) (d : Bool) (h : RS w b ts A c p d) (hv : ts.length - p < v) (S : Nat → Prop) (a : E) (x : Value) (hx : Got w S a d x) (hd : d = false → a.deep ≤ 40) (hS : ∀ k, S k → k ≠ b) (o : List UInt8) :
    Calls Tryz.prog 107 #[.pointer (some ⟨b, 0, none⟩), x, .string (str o)] w (Rp ts b A c p d w (Rs S w) (askX resB a o (ts.drop p))) := by
  by_cases h1 : o = wIn
  · subst h1; exact asked_in hT v hL w b A c p d h hv S a x hx hd hS
  by_cases h2 : o = wBetween
  · subst h2; exact asked_bet hT v hL w b A c p d h hv S a x hx hd hS
  have := asked_op v hL w b A c p d h hv S a x hx hd hS o h1 h2
  unfold askX
  rw [if_neg h1, if_neg h2]
  exact this
end Go.Proofs.YthohfegnphocbaaGreatDoor
