/- Contract of the reader's single at a token that stands for no value. No condition. -/
import Derived.Test.YthohfegnphocbaaGreatDoorQ17
namespace Go.Proofs.YthohfegnphocbaaGreatDoor
open Go.RowKit
set_option maxRecDepth 100000 in
set_option maxHeartbeats 8000000 in
theorem single_none {ts : List T} (hT : Toks ts) (w : World) (b : Nat) (A : Option Addr) (c p : Nat) (d : Bool) (h : RS w b ts A c p d) (v : Nat) (hL : LineOk ts v) (hv : ts.length - p ≤ v) (hno : isS [40] (ts.drop p) = false) (hcon : conX (here (ts.drop p)) = none) :
    Calls Tryz.prog 140 #[.pointer (some ⟨b, 0, none⟩)] w (Rp ts b A c p d w (fun k => w.heap.size ≤ k) (nmX resB (ts.drop p))) := by
  have hbw := h.lt
  have hp := h.hp
  obtain ⟨W1, hW1, q1, z1, r1⟩ := zero7 w
  have R1 := h.later r1
  have H1 := Lib.hid (take1 hT 5 ⟨#[40]⟩ [40] rfl (.inr ⟨rfl, rfl⟩) W1 b A c p d R1)
  rw [hno] at H1
  simp only [Bool.false_eq_true, if_false] at H1
  have HW1 := Lib.hid hW1
  have HC := Lib.hid (fun w => constant_any ts[p] w)
  rw [here_drop hp] at hcon
  simp only [hcon] at HC
  have hts : ∃ t, ts[p] = t := ⟨_, rfl⟩
  have hlen := hT.len
  have HNm := Lib.hid (fun w (h : RS w b ts A c p d) => named_any hT v hL w b A c p d h hv)
  generalize nmX resB (ts.drop p) = xn at *
  clear hcon hno hT hW1 hL
  go_enter Tryz.func140, Tryz.ntmps140
  go_wp2_with (rw [← HW1.out])
  refine (H1.out).mono ?_
  rintro e w2 ⟨rfl, R2, b2⟩
  have F2 := ((Fr.refl b w.heap.size w).below r1 (Nat.le_refl _)).but b2 (by omega)
  have q2 := b2.seven q1 (by omega)
  have hz2 := b2.size
  obtain ⟨c0, c1, c2, f1, f2⟩ := R2.cells
  obtain ⟨g, off, rfl, hg, hc⟩ := R2.toks (by omega)
  obtain ⟨t0, t1, t2, t3⟩ := hc p hp
  obtain ⟨V, hV, p3, zV, rV⟩ := box3 w2 (.int .i64 0) (.int .i64 0) (.string ⟨#[]⟩)
  have RV := R2.later rV
  obtain ⟨c0', c1', c2', f1', f2'⟩ := RV.cells
  have e0 := (rV.cell (p := ⟨g, off + p * 4, none⟩) (by have := R2.lt; show g < _; omega)).trans t0
  have e1 := (rV.cell (p := ⟨g, off + p * 4 + 1, none⟩) (by have := R2.lt; show g < _; omega)).trans t1
  have e2 := (rV.cell (p := ⟨g, off + p * 4 + 2, none⟩) (by have := R2.lt; show g < _; omega)).trans t2
  have e3 := (rV.cell (p := ⟨g, off + p * 4 + 3, none⟩) (by have := R2.lt; show g < _; omega)).trans t3
  have hpz : (p : Int) < (ts.length : Int) := by omega
  generalize ts[p].k = tk at *
  generalize str ts[p].s = tx at *
  generalize ts[p].i = ti at *
  generalize ts[p].p = tp at *
  have HF2 := Lib.hid F2
  have HQ2 := Lib.hid q2
  have HR2 := Lib.hid R2
  have HP3 := Lib.hid p3
  have HRV := Lib.hid rV
  have HzV := Lib.hid zV
  subst hV
  clear F2 q2 R2 RV p3 rV zV b2 hc q1 r1 R1 H1 h
  have HPd : Hid (B3 (w2.alloc (.cells #[.int .i64 0, .int .i64 0, .string ⟨#[]⟩] 24)).drew w2.heap.size (.int .i64 0) (.int .i64 0) (.string ⟨#[]⟩)) := HP3.out
  go_upto_region 0 with fail
  go_cut [4, 5] (fun _ s5 wx => s5 = .bool false ∧ Hid (Below w2.heap.size w2 wx))
  case first =>
    go_region_with (go_at_call 170; refine (HC.out _).mono ?_; rintro e w5 ⟨⟨vk, vi, vs, rfl⟩, hb5⟩; first | (have bx := HPd.out.later hb5; obtain ⟨x0, x1, x2⟩ := bx.cells; obtain ⟨y0, y1, y2⟩ := bx.free) | (have bx := B3.zero w5; obtain ⟨x0, x1, x2⟩ := bx.cells; obtain ⟨y0, y1, y2⟩ := bx.free))
    all_goals
      go_wp2_with fail
      go_meet
      first
      | (obtain ⟨a1, a2, a3⟩ := con_after hb5 (.int .i64 vk) (.int .i64 vi) (.string vs); exact ⟨rfl, a2⟩)
      | (obtain ⟨a1, a2⟩ := con_first hb5 (.int .i64 vk) (.int .i64 vi) (.string vs); exact ⟨rfl, a2⟩)
  case rest =>
    obtain ⟨rfl, HBX⟩ := hcut
    have bx := HBX.out
    have hwx := bx.size
    have F5 := HF2.out.below bx (by omega)
    have q5 := HQ2.out.later bx
    have R5 := HR2.out.later bx
    have H5 := Lib.hid (HNm.out _ R5)
    have HF5 := Lib.hid F5
    have HQ5 := Lib.hid q5
    clear q5 R5 F5 bx HBX HC HR2 HQ2 HF2 HNm
    go_wp2_with fail
    refine (H5.out).mono ?_
    rcases xn with q | ⟨a, m⟩
    · rintro e w6 ⟨rfl, b6⟩
      have HB := Lib.hid (HF5.out.but b6 (by omega)).end
      unfold gone
      clear b6
      go_wp2_with fail
      exact ⟨rfl, rfl, HB.out⟩
    · rintro e w6 ⟨⟨y, rfl, g6, R6⟩, b6⟩
      have F6 := HF5.out.but b6 (by omega)
      have q6 := b6.seven HQ5.out (by omega)
      obtain ⟨t0, j1, j2, t3, t4, t5, A9, n9, c9, rfl⟩ := g6.agg
      obtain ⟨W7, hW7, q7, R7, G7, b7, z7, o7⟩ := put7 R6 g6 q6 hbw (fun k hk => by omega)
      have HW7 := Lib.hid hW7
      obtain ⟨k0, k1, k2, k3, k4, k5, k6⟩ := q6.cells
      obtain ⟨f0, f1, f2, f3, f4, f5, f6⟩ := q6.free
      obtain ⟨l0, l1, l2, l3, l4, l5, l6⟩ := q7.cells
      have HR := Lib.hid R7
      have HGG := Lib.hid (G7.wide (S' := fun k => w.heap.size ≤ k) (fun k hk _ => by omega))
      have HB := Lib.hid (F6.below (b7 _ (Nat.le_refl _)) (Nat.le_refl _)).end
      clear hW7 q6 q7 R6 R7 G7 g6 b6 b7 o7 F6
      go_wp2_with (rw [← HW7.out])
      exact bodyPost_ret (v := .agg #[.string t0, .int .i64 j1, .int .i64 j2, .string t3, .string t4, .string t5, .slice A9 n9 c9]) (by simp [results, Tryz.results140, go_sem, l0, l1, l2, l3, l4, l5, l6]) rfl ⟨⟨_, rfl, HGG.out, HR.out⟩, HB.out⟩
end Go.Proofs.YthohfegnphocbaaGreatDoor
