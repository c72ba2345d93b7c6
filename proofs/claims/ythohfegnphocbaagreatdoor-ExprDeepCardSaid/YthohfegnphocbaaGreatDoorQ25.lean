/- Contract of the reader's begun, where its lines are read as the grammar says. No condition. -/
import Derived.Test.YthohfegnphocbaaGreatDoorQ24
namespace Go.Proofs.YthohfegnphocbaaGreatDoor
open Go.RowKit
def Bp (ts : List T) (b : Nat) (A : Option Addr) (c p : Nat) (d : Bool) (w : World) (x : X E) (k : Nat) (e : Ending) (w' : World) : Prop := (match x with
  | .error q => e = gone (p + q)
  | .ok (a, m) => ∃ y, e = .returned (.tuple #[y, .int .i64 k]) ∧ Got w' (fun j => w.heap.size ≤ j) a (tooDp d a) y ∧ RS w' b ts A c (p + m) (tooDp d a)) ∧ But b w w'
set_option maxRecDepth 100000 in
set_option maxHeartbeats 16000000 in
theorem begun_any {ts : List T} (hT : Toks ts) (v : Nat) (hL : LineOk ts v) (w : World) (b : Nat) (A : Option Addr) (c p : Nat) (d : Bool) (h : RS w b ts A c p d) (hv : ts.length - p ≤ v) (n : Nat) :
    Calls Tryz.prog 65 #[.pointer (some ⟨b, 0, none⟩), .int .i64 n] w (Bp ts b A c p d w (bgX resB n (ts.drop p)) (bgM n (ts.drop p))) := by
  have hbw := h.lt
  obtain ⟨W1, hW1, q1, z1, r1⟩ := zero7 w
  have R1 := h.later r1
  have F1 := (Fr.refl b w.heap.size w).below r1 (Nat.le_refl _)
  have HS := Lib.hid (fun V (h : RS V b ts A c p d) => signed_any hT v hL (ts.length - p + 1) p (by omega) hv V b A c d h)
  have HF1 := Lib.hid F1
  have HQ1 := Lib.hid q1
  have HR1 := Lib.hid R1
  have HW1 := Lib.hid hW1
  -- what stands behind a call of signed
  by_cases h3 : n ≤ 3
  · have h3z : (n : Int) ≤ 3 := by omega
    have HT1 := Lib.hid (take1 hT 1 ⟨#[110, 111, 116]⟩ wNot rfl (.inl ⟨rfl, rfl⟩) W1 b A c p d R1)
    cases hc : isS wNot (ts.drop p)
    · have hX : bgX resB n (ts.drop p) = ln resB 8 (ts.drop p) := by unfold bgX; rw [if_neg (by simp [hc])]
      have hM : bgM n (ts.drop p) = 7 := by unfold bgM; rw [if_neg (by simp [hc])]
      rw [hX, hM]
      rw [hc] at HT1
      simp only [Bool.false_eq_true, if_false] at HT1
      generalize ln resB 8 (ts.drop p) = xn at *
      clear hX hM hc hT hL h R1 F1 q1 r1 hW1
      go_enter Tryz.func65, Tryz.ntmps65
      go_wp2_with (rw [← HW1.out])
      refine (HT1.out).mono ?_
      rintro e w2 ⟨rfl, R2, b2⟩
      have F2 := HF1.out.but b2 (by omega)
      have q2 := b2.seven HQ1.out (by omega)
      have hz2 := b2.size
      have H2 := Lib.hid (HS.out w2 R2)
      clear R2 b2
      go_wp2_with fail
      refine (H2.out).mono ?_
      rcases xn with q | ⟨a, m⟩
      · rintro e w6 ⟨rfl, b6⟩
        have HB := Lib.hid (F2.but b6 (by omega)).end
        unfold gone
        clear b6 q2 F2
        go_wp2_with fail
        exact ⟨rfl, rfl, HB.out⟩
      · rintro e w6 ⟨⟨y, rfl, g6, R6⟩, b6⟩
        have F6 := F2.but b6 (by omega)
        have q6 := b6.seven q2 (by omega)
        obtain ⟨t0, j1, j2, t3, t4, t5, A9, n9, c9, rfl⟩ := g6.agg
        obtain ⟨W7, hW7, q7, R7, G7, b7, z7, o7⟩ := put7 R6 g6 q6 hbw (fun k hk => by omega)
        have HW7 := Lib.hid hW7
        obtain ⟨k0, k1, k2, k3, k4, k5, k6⟩ := q6.cells
        obtain ⟨f0, f1, f2, f3, f4, f5, f6⟩ := q6.free
        obtain ⟨l0, l1, l2, l3, l4, l5, l6⟩ := q7.cells
        have HR := Lib.hid R7
        have HGG := Lib.hid (G7.wide (S' := fun k => w.heap.size ≤ k) (fun k hk _ => by omega))
        have HB := Lib.hid (F6.below (b7 _ (Nat.le_refl _)) (Nat.le_refl _)).end
        clear hW7 q6 q7 R6 R7 G7 g6 b6 b7 o7 F6 F2 q2
        go_wp2_with (rw [← HW7.out])
        exact bodyPost_ret (v := .tuple #[.agg #[.string t0, .int .i64 j1, .int .i64 j2, .string t3, .string t4, .string t5, .slice A9 n9 c9], .int .i64 7]) (by simp [results, Tryz.results65, go_sem, l0, l1, l2, l3, l4, l5, l6]) rfl ⟨⟨_, rfl, HGG.out, HR.out⟩, HB.out⟩
    · have hX : bgX resB n (ts.drop p) = notX (ln resB 3 (ts.drop (p + 1))) := by unfold bgX; rw [if_pos ⟨h3, hc⟩, notX_eq, List.drop_drop]
      have hM : bgM n (ts.drop p) = 3 := by unfold bgM; rw [if_pos ⟨h3, hc⟩]
      rw [hX, hM]
      rw [hc] at HT1
      simp only [if_true] at HT1
      have HL3 := Lib.hid (fun V (h : RS V b ts A c (p + 1) d) => hL 3 (p + 1) (by omega) (by omega) (by have := h.hp; omega) V b A c d h)
      generalize ln resB 3 (ts.drop (p + 1)) = xn at *
      clear hX hM hc hT hL h R1 F1 q1 r1 hW1 HS
      rcases xn with q | ⟨a, m⟩
      all_goals
        simp only [notX]
        go_enter Tryz.func65, Tryz.ntmps65
        go_wp2_with (rw [← HW1.out])
        refine (HT1.out).mono ?_
        rintro e w2 ⟨rfl, R2, b2⟩
        have F2 := HF1.out.but b2 (by omega)
        have q2 := b2.seven HQ1.out (by omega)
        have hz2 := b2.size
        have H2 := Lib.hid (HL3.out w2 R2)
        clear R2 b2
        go_wp2_with fail
        refine (H2.out).mono ?_
      · rintro e w6 ⟨rfl, b6⟩
        have HB := Lib.hid (F2.but b6 (by omega)).end
        unfold gone
        clear b6 q2 F2
        go_wp2_with fail
        exact ⟨rfl, ret_gone (by omega), HB.out⟩
      · rintro e w6 ⟨⟨y, rfl, g6, R6⟩, b6⟩
        have F6 := F2.but b6 (by omega)
        have q6 := b6.seven q2 (by omega)
        have hz6 := b6.size
        obtain ⟨r6, rfl, ks6, kr6⟩ := g6.row
        obtain ⟨W7, hW7, k7, y7, H7⟩ := madeN R6 (S := fun k => w.heap.size + 1 ≤ k) [r6] [a] (fun q hq => by
               rw [List.mem_singleton] at hq
               subst hq
               exact ks6.keep (fun k hk _ => ⟨by omega, rfl⟩) (Nat.le_refl _)) rfl (fun hh => by simp [kr6 hh]) (fun hh => by have := (tooDp_le hh).2; simp [E.deepL]; omega) (fun k hk => by omega) (w.heap.size + 1) (by omega) (by omega) (by simp) 1 rfl wNot ⟨#[110, 111, 116]⟩ rfl
        have q7 := q6.later k7
        have F7 := F6.below k7 (by omega)
        simp only [flatE, rowCells, List.flatMap_cons, List.flatMap_nil, List.append_nil] at hW7 ⊢
        have HW7 := Lib.hid hW7
        have H7' := Lib.hid H7
        have HQ7 := Lib.hid q7
        have HF7 := Lib.hid F7
        have HY7 := Lib.hid y7
        clear hW7 H7 q7 F7 y7 k7 q6 F6 R6 g6 b6 ks6 kr6 q2 F2
        go_wp2_with (rw [← HW7.out])
        refine (H7'.out).mono ?_
        rintro e w8 ⟨y, rfl, g8, R8, b8⟩
        rw [tooDp_mk1] at R8 g8
        have F8 := HF7.out.but b8 (by have := HY7.out; omega)
        have q8 := b8.seven HQ7.out (by omega)
        obtain ⟨t0, j1, j2, t3, t4, t5, A9, n9, c9, rfl⟩ := g8.agg
        obtain ⟨W9, hW9, q9, R9, G9, b9, z9, o9⟩ := put7 R8 g8 q8 hbw (fun k hk => by rcases hk with hk | hk <;> omega)
        have HW9 := Lib.hid hW9
        obtain ⟨k0, k1, k2, k3, k4, k5, k6⟩ := q8.cells
        obtain ⟨f0, f1, f2, f3, f4, f5, f6⟩ := q8.free
        obtain ⟨l0, l1, l2, l3, l4, l5, l6⟩ := q9.cells
        rw [show p + 1 + m = p + (1 + m) by omega] at R9
        have HR := Lib.hid R9
        have HGG := Lib.hid (G9.wide (S' := fun k => w.heap.size ≤ k) (fun k hk _ => by rcases hk with hk | hk <;> omega))
        have HB := Lib.hid (F8.below (b9 _ (Nat.le_refl _)) (Nat.le_refl _)).end
        clear hW9 q8 q9 R8 R9 G9 g8 b8 b9 o9 F8
        go_wp2_with (rw [← HW9.out])
        exact bodyPost_ret (v := .tuple #[.agg #[.string t0, .int .i64 j1, .int .i64 j2, .string t3, .string t4, .string t5, .slice A9 n9 c9], .int .i64 3]) (by simp [results, Tryz.results65, go_sem, l0, l1, l2, l3, l4, l5, l6]) rfl ⟨⟨_, rfl, HGG.out, HR.out⟩, HB.out⟩
  · have h3z : ¬ (n : Int) ≤ 3 := by omega
    have hX : bgX resB n (ts.drop p) = ln resB 8 (ts.drop p) := by unfold bgX; rw [if_neg (by simp [h3])]
    have hM : bgM n (ts.drop p) = 7 := by unfold bgM; rw [if_neg (by simp [h3])]
    rw [hX, hM]
    have H2 := Lib.hid (HS.out W1 R1)
    generalize ln resB 8 (ts.drop p) = xn at *
    clear hX hM hT hL h R1 F1 q1 r1 hW1
    go_enter Tryz.func65, Tryz.ntmps65
    go_wp2_with (rw [← HW1.out])
    refine (H2.out).mono ?_
    rcases xn with q | ⟨a, m⟩
    · rintro e w6 ⟨rfl, b6⟩
      have HB := Lib.hid (HF1.out.but b6 (by omega)).end
      unfold gone
      clear b6
      go_wp2_with fail
      exact ⟨rfl, rfl, HB.out⟩
    · rintro e w6 ⟨⟨y, rfl, g6, R6⟩, b6⟩
      have F6 := HF1.out.but b6 (by omega)
      have q6 := b6.seven HQ1.out (by omega)
      obtain ⟨t0, j1, j2, t3, t4, t5, A9, n9, c9, rfl⟩ := g6.agg
      obtain ⟨W7, hW7, q7, R7, G7, b7, z7, o7⟩ := put7 R6 g6 q6 hbw (fun k hk => by omega)
      have HW7 := Lib.hid hW7
      obtain ⟨k0, k1, k2, k3, k4, k5, k6⟩ := q6.cells
      obtain ⟨f0, f1, f2, f3, f4, f5, f6⟩ := q6.free
      obtain ⟨l0, l1, l2, l3, l4, l5, l6⟩ := q7.cells
      have HR := Lib.hid R7
      have HGG := Lib.hid (G7.wide (S' := fun k => w.heap.size ≤ k) (fun k hk _ => by omega))
      have HB := Lib.hid (F6.below (b7 _ (Nat.le_refl _)) (Nat.le_refl _)).end
      clear hW7 q6 q7 R6 R7 G7 g6 b6 b7 o7 F6
      go_wp2_with (rw [← HW7.out])
      exact bodyPost_ret (v := .tuple #[.agg #[.string t0, .int .i64 j1, .int .i64 j2, .string t3, .string t4, .string t5, .slice A9 n9 c9], .int .i64 7]) (by simp [results, Tryz.results65, go_sem, l0, l1, l2, l3, l4, l5, l6]) rfl ⟨⟨_, rfl, HGG.out, HR.out⟩, HB.out⟩
end Go.Proofs.YthohfegnphocbaaGreatDoor
