/- Contract of the reader's compared. Condition: what stands ahead is no deeper than forty, while nothing was too deep. -/
import Derived.Test.YthohfegnphocbaaGreatDoorQ23
namespace Go.Proofs.YthohfegnphocbaaGreatDoor
open Go.RowKit
theorem want3 {ts : List T} (hT : Toks ts) (w : World) (b : Nat) (A : Option Addr) (c p : Nat) (d : Bool) (h : RS w b ts A c p d) (g : Nat) (hM : MAt w g [⟨#[108, 105, 107, 101]⟩, ⟨#[105, 110]⟩, ⟨#[98, 101, 116, 119, 101, 101, 110]⟩]) (hg : g ≠ b) :
    Calls Tryz.prog 108 #[.pointer (some ⟨b, 0, none⟩), .int .i64 1, .slice (some ⟨g, 0, none⟩) 3 3] w fun e w' => (match notW (ts.drop p) with
      | none => e = gone p ∧ RS w' b ts A c p d
      | some s => e = .returned (.string (str s)) ∧ RS w' b ts A c (p + 1) d) ∧ But b w w' := by
  refine (want_any hT w b A c p d h 1 _ g hM hg (by simp) 3 rfl (by intro m' hm'; simp at hm'; rcases hm' with rfl | rfl | rfl <;> exact .inl ⟨rfl, rfl⟩)).mono fun e w' hh => ?_
  refine ⟨?_, hh.2⟩
  have h1 := hh.1
  rw [List.find?_cons, List.find?_cons, List.find?_cons, List.find?_nil] at h1
  unfold notW
  have e1 : isS (⟨#[108, 105, 107, 101]⟩ : ByteArray).data.toList (ts.drop p) = isS wLike (ts.drop p) := rfl
  have e2 : isS (⟨#[105, 110]⟩ : ByteArray).data.toList (ts.drop p) = isS wIn (ts.drop p) := rfl
  have e3 : isS (⟨#[98, 101, 116, 119, 101, 101, 110]⟩ : ByteArray).data.toList (ts.drop p) = isS wBetween (ts.drop p) := rfl
  rw [e1, e2, e3] at h1
  cases hc : isS wLike (ts.drop p)
  · rw [hc] at h1
    cases hc2 : isS wIn (ts.drop p)
    · rw [hc2] at h1
      cases hc3 : isS wBetween (ts.drop p)
      · rw [hc3] at h1; exact h1
      · rw [hc3] at h1; exact h1
    · rw [hc2] at h1; exact h1
  · rw [hc] at h1; exact h1
theorem row_got {w : World} {S : Nat → Prop} {r : Rw} {a : E} {d : Bool} (hs : Sub S w r.1 r.2.1 r.2.2) (hr : d = false → r.1 = a) : Got w S a d (.agg (rowCells r).toArray) := ⟨r.1, ⟨r.2.1, r.2.2, rfl, hs⟩, hr⟩
theorem rs_wide {S : Nat → Prop} {w V : World} (hV : V.heap.size = w.heap.size + 2) (k : Nat) : Rs (fun k => S k ∧ k < w.heap.size) V k → (S k ∧ k < w.heap.size) ∨ w.heap.size + 2 ≤ k := fun h => by
  rcases h with h | h
  · exact .inl h
  · exact .inr (by omega)
def notX : X E → X E
  | .error q => .error (1 + q)
  | .ok (a, m) => .ok (op1 wNot [a], 1 + m)
theorem notX_eq (xs : X E) : (seqX (okX () 1) fun _ _ => seqX xs fun x _ => okX (op1 wNot [x]) 0) = notX xs := by rcases xs with q | ⟨a, m⟩ <;> simp [seqX, okX, notX]
theorem tooDp_mk1 (d : Bool) (o : List UInt8) (a : E) : tooDp (tooDp d a) (op1 o [a]) = tooDp d (op1 o [a]) := by
  have := tooDp_of d o v0 [] [] [a]
  rw [tooDpL_one] at this
  exact this
set_option maxRecDepth 100000 in
set_option maxHeartbeats 16000000 in
theorem compared_any {ts : List T} (hT : Toks ts) (v : Nat) (hL : LineOk ts v) (w : World) (b : Nat) (A : Option Addr) (c p : Nat) (d : Bool) (h : RS w b ts A c p d) (hv : ts.length - p < v) (S : Nat → Prop) (a : E) (x : Value) (hx : Got w S a d x) (hd : d = false → a.deep ≤ 40) (hS : ∀ k, S k → k ≠ b) (o : List UInt8) :
    Calls Tryz.prog 67 #[.pointer (some ⟨b, 0, none⟩), x, .string (str o)] w (Rp ts b A c p d w (Rs S w) (cmpX resB a o (ts.drop p))) := by
  have hbw := h.lt
  obtain ⟨r, rfl, hs0, hr⟩ := hx.row
  have hs := hs0.lim
  obtain ⟨W1, hW1, q1, z1, r1⟩ := box7 w (.string (str r.1.op)) (.int .i64 r.1.v.k) (.int .i64 r.1.v.i) (.string (str r.1.v.s)) (.string (str r.1.tb)) (.string (str r.1.nm)) (.slice r.2.1 r.1.l.length r.2.2)
  obtain ⟨W2, hW2, q2, z2, r2⟩ := zero7 W1
  rw [z1] at q2 z2
  have R2 := (h.later r1).later r2
  have P2 : Pre ts b A c p d w W2 S r := ⟨R2, (hs.later r1).later r2, q2, ((Fr.refl b w.heap.size w).below r1 (Nat.le_refl _)).below r2 (by omega), by omega, hbw⟩
  obtain ⟨m0, m1, m2, m3, m4, m5, m6⟩ := (q1.later r2).cells
  have HQ1 := Lib.hid (q1.later r2)
  have HP2 := Lib.hid P2
  have HW1 := Lib.hid hW1
  have HW2 := Lib.hid hW2
  have HZ2 := Lib.hid (show W2.heap.size = w.heap.size + 2 by omega)
  have hg2 : Got W2 (fun k => S k ∧ k < w.heap.size) a d (.agg (rowCells r).toArray) := row_got P2.sub hr
  have HG2 := Lib.hid hg2
  by_cases h1 : o = wIs
  · subst h1
    have hX : cmpX resB a wIs (ts.drop p) = isX a (ts.drop p) := by unfold cmpX; rw [if_pos rfl]
    rw [hX]
    have HC := Lib.hid (is_any hT W2 b A c p d P2.rs _ a _ hg2 hd (fun k hk => hS k hk.1))
    simp only [rowCells] at HC ⊢
    generalize isX a (ts.drop p) = xn at *
    have hso : str wIs = ⟨#[105, 115]⟩ := rfl
    rw [hso]
    clear hX hW1 hW2 h hx hs0 q1 q2 r1 r2 R2 P2 hs hL hT hg2
    go_enter Tryz.func67, Tryz.ntmps67
    go_wp2_with (first | (rw [← HW2.out]) | (rw [← HW1.out]))
    refine (HC.out).mono ?_
    rcases xn with q | ⟨a6, m⟩
    · rintro e w6 ⟨rfl, b6⟩
      have HB := Lib.hid (HP2.out.fr.but b6 (by have := HP2.out.size; omega)).end
      unfold gone
      clear b6
      go_wp2_with fail
      exact ⟨rfl, rfl, HB.out⟩
    · rintro e w6 ⟨⟨y, rfl, g6, R6⟩, b6⟩
      obtain ⟨s0, s3, s4, s5, i1, i2, A9, n9, c9, W8, rfl, hW8, q7, q8, R8, G8, B8⟩ := end_put HP2.out.box HP2.out.fr HP2.out.size hbw (g6.wide (fun k hk _ => rs_wide HZ2.out k hk)) R6 b6
      have HW8 := Lib.hid hW8
      obtain ⟨k0, k1, k2, k3, k4, k5, k6⟩ := q7.cells
      obtain ⟨f0, f1, f2, f3, f4, f5, f6⟩ := q7.free
      obtain ⟨l0, l1, l2, l3, l4, l5, l6⟩ := q8.cells
      have HR := Lib.hid R8
      have HGG := Lib.hid G8
      have HB := Lib.hid B8
      clear hW8 q7 q8 R8 G8 B8 R6 g6 b6
      go_wp2_with (rw [← HW8.out])
      exact bodyPost_ret (v := .agg #[.string s0, .int .i64 i1, .int .i64 i2, .string s3, .string s4, .string s5, .slice A9 n9 c9]) (by simp [results, Tryz.results67, go_sem, l0, l1, l2, l3, l4, l5, l6]) rfl ⟨⟨_, rfl, HGG.out, HR.out⟩, HB.out⟩
  by_cases h2 : o = wNot
  · subst h2
    have hX : cmpX resB a wNot (ts.drop p) = match notW (ts.drop p) with
        | none => badX 0
        | some v => notX (askX resB a v (ts.drop (p + 1))) := by
      unfold cmpX
      rw [if_neg (by decide), if_pos rfl]
      cases notW (ts.drop p) with
      | none => rfl
      | some v => simp only [notX_eq, List.drop_drop]
    rw [hX]
    have HWt := Lib.hid (fun V (h : RS V b ts A c p d) g hM hg => want3 hT V b A c p d h g hM hg)
    have HA := Lib.hid (fun s V (h : RS V b ts A c (p + 1) d) hx => asked_any hT v hL V b A c (p + 1) d h (by omega) (fun k => S k ∧ k < w.heap.size) a (.agg (rowCells r).toArray) hx hd (fun k hk => hS k hk.1) s)
    simp only [rowCells] at HA ⊢
    have hso : str wNot = ⟨#[110, 111, 116]⟩ := rfl
    rw [hso]
    obtain ⟨V3, hV3, hM3, y3, k3⟩ := mark3 W2 ⟨#[108, 105, 107, 101]⟩ ⟨#[105, 110]⟩ ⟨#[98, 101, 116, 119, 101, 101, 110]⟩
    have P3 := (P2.later k3).drew
    have Q3' := HQ1.out.later k3
    have Q3 := Q3'.later (Below.refl V3.heap.size V3).drew
    obtain ⟨x0, x1, x2, x3, x4, x5, x6⟩ := Q3'.cells
    obtain ⟨X0, X1, X2, X3, X4, X5, X6⟩ := Q3.cells
    rw [z2] at hM3 y3
    have hM3' : MAt V3.drew (w.heap.size + 1 + 1) [⟨#[108, 105, 107, 101]⟩, ⟨#[105, 110]⟩, ⟨#[98, 101, 116, 119, 101, 101, 110]⟩] := hM3
    have H3 := Lib.hid (HWt.out V3.drew P3.rs _ hM3' (by omega))
    have HP3 := Lib.hid P3
    have HQ3 := Lib.hid Q3
    have HV3 := Lib.hid hV3
    have HY3 := Lib.hid y3
    clear hX hW1 hW2 h hx hs0 q1 q2 r1 r2 R2 P2 hs hL hT hg2 HWt hV3 hM3 hM3' k3 P3 Q3 Q3' y3
    cases hn : notW (ts.drop p) with
    | none =>
      simp only [hn] at H3 ⊢
      clear hn HA
      simp only [badX]
      go_enter Tryz.func67, Tryz.ntmps67
      go_wp2_with (first | (rw [← HW2.out]) | (rw [← HW1.out]))
      go_region_with (go_at_call 108; rw [← HV3.out]; refine (H3.out).mono ?_; rintro e w10 ⟨⟨rfl, R10⟩, b10⟩; have HB := Lib.hid (HP3.out.fr.but b10 (by have := HP3.out.size; omega)).end; unfold gone; refine keepAny ?_ ?_; focus (go_wp2_with fail; exact ⟨rfl, rfl, HB.out⟩))
      all_goals trivial
    | some s =>
      simp only [hn] at H3 ⊢
      have HA2 := Lib.hid (fun V h hx => HA.out s V h hx)
      generalize askX resB a s (ts.drop (p + 1)) = xa at *
      clear hn HA
      rcases xa with q | ⟨a6, m⟩
      · simp only [notX]
        go_enter Tryz.func67, Tryz.ntmps67
        go_wp2_with (first | (rw [← HW2.out]) | (rw [← HW1.out]))
        go_region_with (first
          | (go_at_call 108
             rw [← HV3.out]
             refine (H3.out).mono ?_
             rintro e w10 ⟨⟨rfl, R10⟩, b10⟩
             have hzd := HP3.out.size
             obtain ⟨o0, o1, o2, o3, o4, o5, o6⟩ := (b10.seven HQ3.out (by omega)).cells
             have P10 : Pre ts b A c (p + 1) d w w10 S r := ⟨R10, HP3.out.sub.but b10 (fun k hk => hS k hk.1), b10.seven HP3.out.box (by omega), HP3.out.fr.but b10 (by omega), by have := b10.size; omega, hbw⟩
             have HP10 := Lib.hid P10
             clear R10 b10 P10)
          | (go_at_call 107; refine (HA2.out _ HP10.out.rs (row_got HP10.out.sub hr)).mono ?_; rintro e w11 ⟨rfl, b11⟩; have HB := Lib.hid (HP10.out.fr.but b11 (by have := HP10.out.size; omega)).end; unfold gone; refine keepAny ?_ ?_; focus (go_wp2_with fail; exact ⟨rfl, ret_gone (by omega), HB.out⟩)))
        all_goals trivial
      · simp only [notX]
        go_enter Tryz.func67, Tryz.ntmps67
        go_wp2_with (first | (rw [← HW2.out]) | (rw [← HW1.out]))
        go_region_with (first
          | (go_at_call 108
             rw [← HV3.out]
             refine (H3.out).mono ?_
             rintro e w10 ⟨⟨rfl, R10⟩, b10⟩
             have hzd := HP3.out.size
             obtain ⟨o0, o1, o2, o3, o4, o5, o6⟩ := (b10.seven HQ3.out (by omega)).cells
             have P10 : Pre ts b A c (p + 1) d w w10 S r := ⟨R10, HP3.out.sub.but b10 (fun k hk => hS k hk.1), b10.seven HP3.out.box (by omega), HP3.out.fr.but b10 (by omega), by have := b10.size; omega, hbw⟩
             have HP10 := Lib.hid P10
             clear R10 b10 P10)
          | (go_at_call 107
             refine (HA2.out _ HP10.out.rs (row_got HP10.out.sub hr)).mono ?_
             rintro e w11 ⟨⟨y, rfl, g11, R11⟩, b11⟩
             obtain ⟨r11, rfl, ks11, kr11⟩ := g11.row
             simp only [rowCells]
             have hzd := HP10.out.size
             have hz11 := b11.size
             have q11 := b11.seven HP10.out.box (by omega)
             have F11 := HP10.out.fr.but b11 (by omega)
             obtain ⟨_, rfl, k12, y12, H12⟩ := madeN R11 (S := fun k => (S k ∧ k < w.heap.size) ∨ w.heap.size + 2 ≤ k) [r11] [a6] (fun q hq => by
               rw [List.mem_singleton] at hq
               subst hq
               exact ks11.keep (fun k hk _ => ⟨by rcases hk with hk | hk; exact .inl hk; exact .inr (by omega), rfl⟩) (Nat.le_refl _)) rfl (fun hh => by simp [kr11 hh]) (fun hh => by have := (tooDp_le hh).2; simp [E.deepL]; omega) (fun k hk => by rcases hk with hk | hk; exact hS k hk.1; omega) (w.heap.size + 2) (by omega) (by omega) (by simp) 1 rfl wNot ⟨#[110, 111, 116]⟩ rfl
             have q12 := q11.later k12
             have F12 := F11.below k12 (by omega)
             simp only [flatE, rowCells, List.flatMap_cons, List.flatMap_nil, List.append_nil] at H12 q12 F12 y12 k12
             have H12' := Lib.hid H12
             have HQ12 := Lib.hid q12
             have HF12 := Lib.hid F12
             have HZ12 := Lib.hid (Nat.le_trans (show w.heap.size + 2 ≤ w11.heap.size by omega) k12.size)
             clear H12 q12 F12 y12 k12 q11 F11 R11 g11 b11 ks11 kr11)
          | (go_at_call 68
             refine (H12'.out).mono ?_
             rintro e w13 ⟨y, rfl, g13, R13, b13⟩
             rw [tooDp_mk1] at R13 g13
             obtain ⟨s0, s3, s4, s5, i1, i2, A9, n9, c9, W8, rfl, hW8, q7, q8, R8, G8, B8⟩ := end_put HQ12.out HF12.out HZ12.out hbw (g13.wide (S' := fun k => (S k ∧ k < w.heap.size) ∨ w.heap.size + 2 ≤ k) (fun k hk _ => by rcases hk with hk | hk; exact hk; exact .inr hk)) R13 b13
             rw [show p + 1 + m = p + (1 + m) by omega] at R8
             have HW8 := Lib.hid hW8
             obtain ⟨k0, k1, k2, k3, k4, k5, k6⟩ := q7.cells
             obtain ⟨f0, f1, f2, f3, f4, f5, f6⟩ := q7.free
             obtain ⟨l0, l1, l2, l3, l4, l5, l6⟩ := q8.cells
             have HR := Lib.hid R8
             have HGG := Lib.hid G8
             have HB := Lib.hid B8
             clear hW8 q7 q8 R8 G8 B8 R13 g13 b13))
        all_goals
          go_wp2_with (rw [← HW8.out])
          exact bodyPost_ret (v := .agg #[.string s0, .int .i64 i1, .int .i64 i2, .string s3, .string s4, .string s5, .slice A9 n9 c9]) (by simp [results, Tryz.results67, go_sem, l0, l1, l2, l3, l4, l5, l6]) rfl ⟨⟨_, rfl, HGG.out, HR.out⟩, HB.out⟩
  · have hX : cmpX resB a o (ts.drop p) = askX resB a o (ts.drop p) := by unfold cmpX; rw [if_neg h1, if_neg h2]
    rw [hX]
    have HC := Lib.hid (asked_any hT v hL W2 b A c p d P2.rs hv _ a _ hg2 hd (fun k hk => hS k hk.1) o)
    simp only [rowCells] at HC ⊢
    generalize askX resB a o (ts.drop p) = xn at *
    have e1 : ((str o).toList == [105, 115]) = false := by rw [Lib.toList_data, str_list]; simpa [wIs] using h1
    have e2 : ((str o).toList == [110, 111, 116]) = false := by rw [Lib.toList_data, str_list]; simpa [wNot] using h2
    generalize str o = so at *
    clear hX hW1 hW2 h hx hs0 q1 q2 r1 r2 R2 P2 hs hL hT hg2 h1 h2
    go_enter Tryz.func67, Tryz.ntmps67
    go_wp2_with (first | (rw [← HW2.out]) | (rw [← HW1.out]))
    refine (HC.out).mono ?_
    rcases xn with q | ⟨a6, m⟩
    · rintro e w6 ⟨rfl, b6⟩
      have HB := Lib.hid (HP2.out.fr.but b6 (by have := HP2.out.size; omega)).end
      unfold gone
      clear b6
      go_wp2_with fail
      exact ⟨rfl, rfl, HB.out⟩
    · rintro e w6 ⟨⟨y, rfl, g6, R6⟩, b6⟩
      obtain ⟨s0, s3, s4, s5, i1, i2, A9, n9, c9, W8, rfl, hW8, q7, q8, R8, G8, B8⟩ := end_put HP2.out.box HP2.out.fr HP2.out.size hbw (g6.wide (fun k hk _ => rs_wide HZ2.out k hk)) R6 b6
      have HW8 := Lib.hid hW8
      obtain ⟨k0, k1, k2, k3, k4, k5, k6⟩ := q7.cells
      obtain ⟨f0, f1, f2, f3, f4, f5, f6⟩ := q7.free
      obtain ⟨l0, l1, l2, l3, l4, l5, l6⟩ := q8.cells
      have HR := Lib.hid R8
      have HGG := Lib.hid G8
      have HB := Lib.hid B8
      clear hW8 q7 q8 R8 G8 B8 R6 g6 b6
      go_wp2_with (rw [← HW8.out])
      exact bodyPost_ret (v := .agg #[.string s0, .int .i64 i1, .int .i64 i2, .string s3, .string s4, .string s5, .slice A9 n9 c9]) (by simp [results, Tryz.results67, go_sem, l0, l1, l2, l3, l4, l5, l6]) rfl ⟨⟨_, rfl, HGG.out, HR.out⟩, HB.out⟩
end Go.Proofs.YthohfegnphocbaaGreatDoor
