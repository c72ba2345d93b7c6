/- The law's liveness. Condition: the variables of the readings and of the values' texts are there. -/
import Derived.Test.YthohfegnphocbaaGreatDoorQ33
import Derived.Deep.Quiet
namespace Go.Proofs.YthohfegnphocbaaGreatDoor
open Go.RowKit
theorem bv_later {w w' : World} (h : BV.Env w) (hb : Below w.heap.size w w') : BV.Env w' := h.below hb h.size
theorem wp_region_class {P : Program} {id : Nat} {Q : Exit → Act → World → Prop} {a : Act} {w : World} {l : List Oper} (C : World → Prop) (hm : P.follows .mixedOrders = true) (hB : Region.lexB .any l.toArray = true) (hC : C w.drew) (h : wpQuiet P l.toArray C (fun a' => ∀ w', C w' → Q .normal a' w') l a) : (Code.region id l.toArray true).wp P Q a w :=
  wp_region_quiet (C := C) hm hB hC (by simpa using h)
theorem live_keep (w1 w3 : World) (hb : Below (w1.alloc (.cells #[.string ⟨#[99, 111, 108]⟩, .int .i64 0, .int .i64 0, .string ⟨#[]⟩, .string ⟨#[]⟩, .string ⟨#[97]⟩, .slice none 0 0] 27)).heap.size (w1.alloc (.cells #[.string ⟨#[99, 111, 108]⟩, .int .i64 0, .int .i64 0, .string ⟨#[]⟩, .string ⟨#[]⟩, .string ⟨#[97]⟩, .slice none 0 0] 27)) w3) (w' : World) (h : Below (w3.alloc (.cells #[.string ⟨#[108, 105, 116]⟩, .int .i64 2, .int .i64 1, .string ⟨#[]⟩, .string ⟨#[]⟩, .string ⟨#[]⟩, .slice none 0 0] 27)).heap.size (w3.alloc (.cells #[.string ⟨#[108, 105, 116]⟩, .int .i64 2, .int .i64 1, .string ⟨#[]⟩, .string ⟨#[]⟩, .string ⟨#[]⟩, .slice none 0 0] 27)) w') : (fun w' => Below (w3.alloc (.cells #[.string ⟨#[108, 105, 116]⟩, .int .i64 2, .int .i64 1, .string ⟨#[]⟩, .string ⟨#[]⟩, .string ⟨#[]⟩, .slice none 0 0] 27)).heap.size (w3.alloc (.cells #[.string ⟨#[108, 105, 116]⟩, .int .i64 2, .int .i64 1, .string ⟨#[]⟩, .string ⟨#[]⟩, .string ⟨#[]⟩, .slice none 0 0] 27)) w' ∧ w'.cell? ⟨w1.heap.size, 0, none⟩ = some (.string ⟨#[99, 111, 108]⟩) ∧ w'.cell? ⟨w1.heap.size, 1, none⟩ = some (.int .i64 0) ∧ w'.cell? ⟨w1.heap.size, 2, none⟩ = some (.int .i64 0) ∧ w'.cell? ⟨w1.heap.size, 3, none⟩ = some (.string ⟨#[]⟩) ∧ w'.cell? ⟨w1.heap.size, 4, none⟩ = some (.string ⟨#[]⟩) ∧ w'.cell? ⟨w1.heap.size, 5, none⟩ = some (.string ⟨#[97]⟩) ∧ w'.cell? ⟨w1.heap.size, 6, none⟩ = some (.slice none 0 0) ∧ w'.cell? ⟨w3.heap.size, 0, none⟩ = some (.string ⟨#[108, 105, 116]⟩) ∧ w'.cell? ⟨w3.heap.size, 1, none⟩ = some (.int .i64 2) ∧ w'.cell? ⟨w3.heap.size, 2, none⟩ = some (.int .i64 1) ∧ w'.cell? ⟨w3.heap.size, 3, none⟩ = some (.string ⟨#[]⟩) ∧ w'.cell? ⟨w3.heap.size, 4, none⟩ = some (.string ⟨#[]⟩) ∧ w'.cell? ⟨w3.heap.size, 5, none⟩ = some (.string ⟨#[]⟩) ∧ w'.cell? ⟨w3.heap.size, 6, none⟩ = some (.slice none 0 0) ∧ True) w' := by
  have q1 : B7 w' w1.heap.size (.string ⟨#[99, 111, 108]⟩) (.int .i64 0) (.int .i64 0) (.string ⟨#[]⟩) (.string ⟨#[]⟩) (.string ⟨#[97]⟩) (.slice none 0 0) := ((B7.made w1 _ _ _ _ _ _ _).later hb).later (by exact (Below.refl w3.heap.size w3).alloc (Nat.le_refl _) _) |>.later h
  have q2 : B7 w' w3.heap.size (.string ⟨#[108, 105, 116]⟩) (.int .i64 2) (.int .i64 1) (.string ⟨#[]⟩) (.string ⟨#[]⟩) (.string ⟨#[]⟩) (.slice none 0 0) := (B7.made w3 _ _ _ _ _ _ _).later h
  obtain ⟨a0, a1, a2, a3, a4, a5, a6⟩ := q1.cells
  obtain ⟨l0, l1, l2, l3, l4, l5, l6⟩ := q2.cells
  exact ⟨h, a0, a1, a2, a3, a4, a5, a6, l0, l1, l2, l3, l4, l5, l6, trivial⟩
set_option linter.unusedSimpArgs false in
set_option maxRecDepth 100000 in
set_option maxHeartbeats 16000000 in
theorem live_any (w : World) (hE : Env w) (hV : BV.Env w) : Calls Tryz.prog 9 #[] w fun e w' => e = .returned (.bool true) ∧ Below w.heap.size w w' := by
  have HE := Lib.hid hE
  have HV := Lib.hid hV
  clear hE hV
  go_enter Tryz.func9, Tryz.ntmps9
  go_wp2_with fail
  refine (rCol _ _ _).mono ?_
  rintro e w1 ⟨rfl, b1⟩
  go_wp2_with fail
  refine (rInt1 _ _).mono ?_
  rintro e w2 ⟨rfl, b2⟩
  go_wp2_with fail
  refine (rLit _ _ _ _).mono ?_
  rintro e w3 ⟨rfl, b3⟩
  have b13 := bthen b2 b3
  have B0 := Lib.hid b1
  have K := Lib.hid (live_keep w1 w3 b13)
  have P := Lib.hid (HS.nil (w3.alloc (.cells #[.string ⟨#[108, 105, 116]⟩, .int .i64 2, .int .i64 1, .string ⟨#[]⟩, .string ⟨#[]⟩, .string ⟨#[]⟩, .slice none 0 0] 27)))
  have S0 := Lib.hid (K.out _ (Below.refl _ _))
  clear b1 b2 b3
  have B13 := Lib.hid b13
  clear b13
  go_upto_region 3 with fail
  go_cut [3] (fun s3 wx => ∃ g, s3 = .pointer (some ⟨g, 0, none⟩) ∧ Hid (FinX (w3.alloc (.cells #[.string ⟨#[108, 105, 116]⟩, .int .i64 2, .int .i64 1, .string ⟨#[]⟩, .string ⟨#[]⟩, .string ⟨#[]⟩, .slice none 0 0] 27)) wx g))
  case first =>
    go_region_held3 (fun w' => Below (w3.alloc (.cells #[.string ⟨#[108, 105, 116]⟩, .int .i64 2, .int .i64 1, .string ⟨#[]⟩, .string ⟨#[]⟩, .string ⟨#[]⟩, .slice none 0 0] 27)).heap.size (w3.alloc (.cells #[.string ⟨#[108, 105, 116]⟩, .int .i64 2, .int .i64 1, .string ⟨#[]⟩, .string ⟨#[]⟩, .string ⟨#[]⟩, .slice none 0 0] 27)) w' ∧ w'.cell? ⟨w1.heap.size, 0, none⟩ = some (.string ⟨#[99, 111, 108]⟩) ∧ w'.cell? ⟨w1.heap.size, 1, none⟩ = some (.int .i64 0) ∧ w'.cell? ⟨w1.heap.size, 2, none⟩ = some (.int .i64 0) ∧ w'.cell? ⟨w1.heap.size, 3, none⟩ = some (.string ⟨#[]⟩) ∧ w'.cell? ⟨w1.heap.size, 4, none⟩ = some (.string ⟨#[]⟩) ∧ w'.cell? ⟨w1.heap.size, 5, none⟩ = some (.string ⟨#[97]⟩) ∧ w'.cell? ⟨w1.heap.size, 6, none⟩ = some (.slice none 0 0) ∧ w'.cell? ⟨w3.heap.size, 0, none⟩ = some (.string ⟨#[108, 105, 116]⟩) ∧ w'.cell? ⟨w3.heap.size, 1, none⟩ = some (.int .i64 2) ∧ w'.cell? ⟨w3.heap.size, 2, none⟩ = some (.int .i64 1) ∧ w'.cell? ⟨w3.heap.size, 3, none⟩ = some (.string ⟨#[]⟩) ∧ w'.cell? ⟨w3.heap.size, 4, none⟩ = some (.string ⟨#[]⟩) ∧ w'.cell? ⟨w3.heap.size, 5, none⟩ = some (.string ⟨#[]⟩) ∧ w'.cell? ⟨w3.heap.size, 6, none⟩ = some (.slice none 0 0) ∧ True) ((refine K.out _ ?_; (repeat (first | with_reducible exact P.out.below | with_reducible refine bel_drew ?_ | with_reducible refine bel_alloc ?_ _ | (with_reducible refine bel_set ?_ ?_ _; focus (simp only [World.size_alloc, World.size_drew] at *; omega)))))) (first | (go_at_call 26; go_must (refine (rCol _ _ _).mono ?_); rintro e w6 ⟨rfl, hb⟩; go_must (apply HS.on hb); (focus (go_must (first  | with_reducible exact P.out | with_reducible exact P.out.drew | with_reducible exact (P.out.push _) | with_reducible exact P.out.drew.drew | with_reducible exact (P.out.drew.push _) | with_reducible exact (P.out.push _).drew | with_reducible exact ((P.out.push _).push _) | with_reducible exact P.out.drew.drew.drew | with_reducible exact (P.out.drew.drew.push _) | with_reducible exact (P.out.drew.push _).drew | with_reducible exact ((P.out.drew.push _).push _) | with_reducible exact (P.out.push _).drew.drew | with_reducible exact ((P.out.push _).drew.push _) | with_reducible exact ((P.out.push _).push _).drew | with_reducible exact (((P.out.push _).push _).push _) | with_reducible exact P.out.drew.drew.drew.drew | with_reducible exact (P.out.drew.drew.drew.push _) | with_reducible exact (P.out.drew.drew.push _).drew | with_reducible exact ((P.out.drew.drew.push _).push _) | with_reducible exact (P.out.drew.push _).drew.drew | with_reducible exact ((P.out.drew.push _).drew.push _) | with_reducible exact ((P.out.drew.push _).push _).drew | with_reducible exact (((P.out.drew.push _).push _).push _) | with_reducible exact (P.out.push _).drew.drew.drew | with_reducible exact ((P.out.push _).drew.drew.push _) | with_reducible exact ((P.out.push _).drew.push _).drew | with_reducible exact (((P.out.push _).drew.push _).push _) | with_reducible exact ((P.out.push _).push _).drew.drew | with_reducible exact (((P.out.push _).push _).drew.push _) | with_reducible exact (((P.out.push _).push _).push _).drew | with_reducible exact ((((P.out.push _).push _).push _).push _)))); intro P; (try simp only [World.size_drew, World.size_alloc] at P); have hz := P.out.below.size; (try (apply HS.box P; (focus (simp only [z7]; (repeat (first | with_reducible exact List.mem_cons_self | with_reducible refine List.mem_cons_of_mem _ ?_)))); rintro ⟨vg, vz⟩; obtain ⟨x0, x1, x2, x3, x4, x5, x6⟩ := vz.cells; obtain ⟨y0, y1, y2, y3, y4, y5, y6⟩ := vz.free))) | (go_at_call 21; go_must (refine (rOp1 _ _ _ _ _).mono ?_); rintro e w6 ⟨rfl, hb⟩; go_must (apply HS.on hb); (focus (go_must (first  | with_reducible exact P.out | with_reducible exact P.out.drew | with_reducible exact (P.out.push _) | with_reducible exact P.out.drew.drew | with_reducible exact (P.out.drew.push _) | with_reducible exact (P.out.push _).drew | with_reducible exact ((P.out.push _).push _) | with_reducible exact P.out.drew.drew.drew | with_reducible exact (P.out.drew.drew.push _) | with_reducible exact (P.out.drew.push _).drew | with_reducible exact ((P.out.drew.push _).push _) | with_reducible exact (P.out.push _).drew.drew | with_reducible exact ((P.out.push _).drew.push _) | with_reducible exact ((P.out.push _).push _).drew | with_reducible exact (((P.out.push _).push _).push _) | with_reducible exact P.out.drew.drew.drew.drew | with_reducible exact (P.out.drew.drew.drew.push _) | with_reducible exact (P.out.drew.drew.push _).drew | with_reducible exact ((P.out.drew.drew.push _).push _) | with_reducible exact (P.out.drew.push _).drew.drew | with_reducible exact ((P.out.drew.push _).drew.push _) | with_reducible exact ((P.out.drew.push _).push _).drew | with_reducible exact (((P.out.drew.push _).push _).push _) | with_reducible exact (P.out.push _).drew.drew.drew | with_reducible exact ((P.out.push _).drew.drew.push _) | with_reducible exact ((P.out.push _).drew.push _).drew | with_reducible exact (((P.out.push _).drew.push _).push _) | with_reducible exact ((P.out.push _).push _).drew.drew | with_reducible exact (((P.out.push _).push _).drew.push _) | with_reducible exact (((P.out.push _).push _).push _).drew | with_reducible exact ((((P.out.push _).push _).push _).push _)))); intro P; (try simp only [World.size_drew, World.size_alloc] at P); have hz := P.out.below.size; (try (apply HS.box P; (focus (simp only [z7]; (repeat (first | with_reducible exact List.mem_cons_self | with_reducible refine List.mem_cons_of_mem _ ?_)))); rintro ⟨vg, vz⟩; obtain ⟨x0, x1, x2, x3, x4, x5, x6⟩ := vz.cells; obtain ⟨y0, y1, y2, y3, y4, y5, y6⟩ := vz.free))) | (go_at_call 28; go_must (refine (rInt1 _ _).mono ?_); rintro e w6 ⟨rfl, hb⟩; go_must (apply HS.on hb); (focus (go_must (first  | with_reducible exact P.out | with_reducible exact P.out.drew | with_reducible exact (P.out.push _) | with_reducible exact P.out.drew.drew | with_reducible exact (P.out.drew.push _) | with_reducible exact (P.out.push _).drew | with_reducible exact ((P.out.push _).push _) | with_reducible exact P.out.drew.drew.drew | with_reducible exact (P.out.drew.drew.push _) | with_reducible exact (P.out.drew.push _).drew | with_reducible exact ((P.out.drew.push _).push _) | with_reducible exact (P.out.push _).drew.drew | with_reducible exact ((P.out.push _).drew.push _) | with_reducible exact ((P.out.push _).push _).drew | with_reducible exact (((P.out.push _).push _).push _) | with_reducible exact P.out.drew.drew.drew.drew | with_reducible exact (P.out.drew.drew.drew.push _) | with_reducible exact (P.out.drew.drew.push _).drew | with_reducible exact ((P.out.drew.drew.push _).push _) | with_reducible exact (P.out.drew.push _).drew.drew | with_reducible exact ((P.out.drew.push _).drew.push _) | with_reducible exact ((P.out.drew.push _).push _).drew | with_reducible exact (((P.out.drew.push _).push _).push _) | with_reducible exact (P.out.push _).drew.drew.drew | with_reducible exact ((P.out.push _).drew.drew.push _) | with_reducible exact ((P.out.push _).drew.push _).drew | with_reducible exact (((P.out.push _).drew.push _).push _) | with_reducible exact ((P.out.push _).push _).drew.drew | with_reducible exact (((P.out.push _).push _).drew.push _) | with_reducible exact (((P.out.push _).push _).push _).drew | with_reducible exact ((((P.out.push _).push _).push _).push _)))); intro P; (try simp only [World.size_drew, World.size_alloc] at P); have hz := P.out.below.size; (try (apply HS.box P; (focus (simp only [z7]; (repeat (first | with_reducible exact List.mem_cons_self | with_reducible refine List.mem_cons_of_mem _ ?_)))); rintro ⟨vg, vz⟩; obtain ⟨x0, x1, x2, x3, x4, x5, x6⟩ := vz.cells; obtain ⟨y0, y1, y2, y3, y4, y5, y6⟩ := vz.free))) | (go_at_call 27; go_must (refine (rLit _ _ _ _).mono ?_); rintro e w6 ⟨rfl, hb⟩; go_must (apply HS.on hb); (focus (go_must (first  | with_reducible exact P.out | with_reducible exact P.out.drew | with_reducible exact (P.out.push _) | with_reducible exact P.out.drew.drew | with_reducible exact (P.out.drew.push _) | with_reducible exact (P.out.push _).drew | with_reducible exact ((P.out.push _).push _) | with_reducible exact P.out.drew.drew.drew | with_reducible exact (P.out.drew.drew.push _) | with_reducible exact (P.out.drew.push _).drew | with_reducible exact ((P.out.drew.push _).push _) | with_reducible exact (P.out.push _).drew.drew | with_reducible exact ((P.out.push _).drew.push _) | with_reducible exact ((P.out.push _).push _).drew | with_reducible exact (((P.out.push _).push _).push _) | with_reducible exact P.out.drew.drew.drew.drew | with_reducible exact (P.out.drew.drew.drew.push _) | with_reducible exact (P.out.drew.drew.push _).drew | with_reducible exact ((P.out.drew.drew.push _).push _) | with_reducible exact (P.out.drew.push _).drew.drew | with_reducible exact ((P.out.drew.push _).drew.push _) | with_reducible exact ((P.out.drew.push _).push _).drew | with_reducible exact (((P.out.drew.push _).push _).push _) | with_reducible exact (P.out.push _).drew.drew.drew | with_reducible exact ((P.out.push _).drew.drew.push _) | with_reducible exact ((P.out.push _).drew.push _).drew | with_reducible exact (((P.out.push _).drew.push _).push _) | with_reducible exact ((P.out.push _).push _).drew.drew | with_reducible exact (((P.out.push _).push _).drew.push _) | with_reducible exact (((P.out.push _).push _).push _).drew | with_reducible exact ((((P.out.push _).push _).push _).push _)))); intro P; (try simp only [World.size_drew, World.size_alloc] at P); have hz := P.out.below.size; (try (apply HS.box P; (focus (simp only [z7]; (repeat (first | with_reducible exact List.mem_cons_self | with_reducible refine List.mem_cons_of_mem _ ?_)))); rintro ⟨vg, vz⟩; obtain ⟨x0, x1, x2, x3, x4, x5, x6⟩ := vz.cells; obtain ⟨y0, y1, y2, y3, y4, y5, y6⟩ := vz.free))))
    all_goals (go_wp2_with fail; go_meet; refine ⟨_, rfl, Lib.hid ?_⟩; (first | with_reducible apply fin_new P.out.below | with_reducible apply fin_new P.out.drew.below | with_reducible apply fin_set P.out.below vg vz); (try with_reducible apply HS.bl6 P.out); all_goals (simp only [iCells, nCells, oCells, List.cons_append, List.nil_append]; (repeat (first | with_reducible exact List.mem_cons_self | with_reducible refine List.mem_cons_of_mem _ ?_))))
  case rest =>
    obtain ⟨g, rfl, hF⟩ := hcut
    obtain ⟨hb0, hg, k1, k2, k3, k4, k5, k6, h6, q3⟩ := hF.out
    have hbW : Below w.heap.size w wc := bthen B0.out (bthen (bel_alloc (Below.refl _ _) _) (bthen B13.out (bthen (bel_alloc (Below.refl _ _) _) hb0)))
    have at3 := h6.at
    have E1 := Lib.hid (HE.out.later hbW)
    clear K P S0 B0 B13 hF hb0 h6
    have R0 := Lib.hid hbW
    clear hbW
    go_wp2_with fail
    refine (lparse ⟨#[97, 32, 43, 32, 49, 32, 42, 32, 98, 32, 60, 32, 51, 32, 79, 82, 32, 78, 79, 84, 32, 116, 46, 120, 32, 73, 83, 32, 78, 85, 76, 76]⟩ lvW 0 0 lpar1 _ E1.out).mono ?_
    rintro e w4 ⟨s10, i11, i12, s13, s14, s15, A1, n1, c1, rfl, at4, b4⟩
    have m4 : Below wc.heap.size wc (w4.alloc (.cells #[.string s10, .int .i64 i11, .int .i64 i12, .string s13, .string s14, .string s15, .slice A1 n1 c1] 27)) := bthen b4 (bel_alloc (Below.refl _ _) _)
    have q4 := B7.made w4 (.string s10) (.int .i64 i11) (.int .i64 i12) (.string s13) (.string s14) (.string s15) (.slice A1 n1 c1)
    have at4' := at4.later ((Below.refl w4.heap.size w4).alloc (Nat.le_refl _) (.cells #[.string s10, .int .i64 i11, .int .i64 i12, .string s13, .string s14, .string s15, .slice A1 n1 c1] 27))
    have E2 := Lib.hid (E1.out.later m4)
    have R1 := Lib.hid (bthen R0.out m4)
    have Q3 := Lib.hid (q3.later m4)
    have AT3 := Lib.hid (at3.later m4)
    have Q4 := Lib.hid q4
    have AT4 := Lib.hid at4'
    clear q3 at3 at4 at4' m4 b4 q4 E1 R0
    go_wp2_with fail
    refine (lparse ⟨#[45, 32, 53]⟩ (lit ⟨2, -5, []⟩) 0 0 lpar2 _ E2.out).mono ?_
    rintro e w5 ⟨s20, i21, i22, s23, s24, s25, A2, n2, c2, rfl, at5, b5⟩
    have m5 : Below (w4.alloc (.cells #[.string s10, .int .i64 i11, .int .i64 i12, .string s13, .string s14, .string s15, .slice A1 n1 c1] 27)).heap.size (w4.alloc (.cells #[.string s10, .int .i64 i11, .int .i64 i12, .string s13, .string s14, .string s15, .slice A1 n1 c1] 27)) (w5.alloc (.cells #[.string s20, .int .i64 i21, .int .i64 i22, .string s23, .string s24, .string s25, .slice A2 n2 c2] 27)) := bthen b5 (bel_alloc (Below.refl _ _) _)
    have Q5 := Lib.hid (B7.made w5 (.string s20) (.int .i64 i21) (.int .i64 i22) (.string s23) (.string s24) (.string s25) (.slice A2 n2 c2))
    have AT5 := Lib.hid (at5.later ((Below.refl w5.heap.size w5).alloc (Nat.le_refl _) (.cells #[.string s20, .int .i64 i21, .int .i64 i22, .string s23, .string s24, .string s25, .slice A2 n2 c2] 27)))
    have E3 := Lib.hid (E2.out.later m5)
    have R2 := Lib.hid (bthen R1.out m5)
    have Q3b := Lib.hid (Q3.out.later m5)
    have AT3b := Lib.hid (AT3.out.later m5)
    have Q4b := Lib.hid (Q4.out.later m5)
    have AT4b := Lib.hid (AT4.out.later m5)
    clear Q3 AT3 Q4 AT4 m5 b5 at5 E2 R1
    go_wp2_with fail
    refine (lparse ⟨#[97, 32, 60]⟩ e0 3 70 lpar3 _ E3.out).mono ?_
    rintro e w6 ⟨s30, i31, i32, s33, s34, s35, A3, n3, c3, rfl, -, b6⟩
    have m6 : Below (w5.alloc (.cells #[.string s20, .int .i64 i21, .int .i64 i22, .string s23, .string s24, .string s25, .slice A2 n2 c2] 27)).heap.size (w5.alloc (.cells #[.string s20, .int .i64 i21, .int .i64 i22, .string s23, .string s24, .string s25, .slice A2 n2 c2] 27)) (w6.alloc (.cells #[.string s30, .int .i64 i31, .int .i64 i32, .string s33, .string s34, .string s35, .slice A3 n3 c3] 27)) := bthen b6 (bel_alloc (Below.refl _ _) _)
    have R3 := Lib.hid (bthen R2.out m6)
    have q3 := Q3b.out.later m6
    have AT3c := Lib.hid (AT3b.out.later m6)
    have Q3c := Lib.hid q3
    have Q4c := Lib.hid (Q4b.out.later m6)
    have Q5c := Lib.hid (Q5.out.later m6)
    have AT4c := Lib.hid (AT4b.out.later m6)
    have AT5c := Lib.hid (AT5.out.later m6)
    have V3 := Lib.hid (bv_later HV.out R3.out)
    clear Q3b AT3b Q4b AT4b Q5 AT5 m6 b6 E3 R2
    obtain ⟨a0, a1, a2, a3, a4, a5, a6⟩ := q3.cells
    clear q3
    go_wp2_with fail
    refine (ltext _ _ _ AT3c.out V3.out).mono ?_
    rintro e w7 ⟨rfl, b7⟩
    have R4 := Lib.hid (bthen R3.out b7)
    have q3 := Q3c.out.later b7
    have q4 := Q4c.out.later b7
    have q5 := Q5c.out.later b7
    have AT3d := Lib.hid (AT3c.out.later b7)
    have AT4d := Lib.hid (AT4c.out.later b7)
    have AT5d := Lib.hid (AT5c.out.later b7)
    have F3 := Lib.hid (fun x : LT w7 => x.seven q3)
    have F4 := Lib.hid (fun x : LT w7 => x.seven q4)
    have F5 := Lib.hid (fun x : LT w7 => x.seven q5)
    clear a0 a1 a2 a3 a4 a5 a6 q3 q4 q5 Q3c Q4c Q5c AT3c AT4c AT5c V3 R3 b7
    go_wp2_with fail
    have HNE : Nonempty (LT w7) := ⟨⟨w7, Below.refl _ _⟩⟩
    have f30 : ∀ x : LT w7, x.1.cell? ⟨g, 0, none⟩ = some (.string ⟨#[111, 114]⟩) := fun x => (F3.out x).cells.1
    have f31 : ∀ x : LT w7, x.1.cell? ⟨g, 1, none⟩ = some (.int .i64 0) := fun x => (F3.out x).cells.2.1
    have f32 : ∀ x : LT w7, x.1.cell? ⟨g, 2, none⟩ = some (.int .i64 0) := fun x => (F3.out x).cells.2.2.1
    have f33 : ∀ x : LT w7, x.1.cell? ⟨g, 3, none⟩ = some (.string ⟨#[]⟩) := fun x => (F3.out x).cells.2.2.2.1
    have f34 : ∀ x : LT w7, x.1.cell? ⟨g, 4, none⟩ = some (.string ⟨#[]⟩) := fun x => (F3.out x).cells.2.2.2.2.1
    have f35 : ∀ x : LT w7, x.1.cell? ⟨g, 5, none⟩ = some (.string ⟨#[]⟩) := fun x => (F3.out x).cells.2.2.2.2.2.1
    have f36 : ∀ x : LT w7, x.1.cell? ⟨g, 6, none⟩ = some (.slice (some ⟨k6, 0, none⟩) 2 2) := fun x => (F3.out x).cells.2.2.2.2.2.2
    have f40 : ∀ x : LT w7, x.1.cell? ⟨w4.heap.size, 0, none⟩ = some (.string s10) := fun x => (F4.out x).cells.1
    have f41 : ∀ x : LT w7, x.1.cell? ⟨w4.heap.size, 1, none⟩ = some (.int .i64 i11) := fun x => (F4.out x).cells.2.1
    have f42 : ∀ x : LT w7, x.1.cell? ⟨w4.heap.size, 2, none⟩ = some (.int .i64 i12) := fun x => (F4.out x).cells.2.2.1
    have f43 : ∀ x : LT w7, x.1.cell? ⟨w4.heap.size, 3, none⟩ = some (.string s13) := fun x => (F4.out x).cells.2.2.2.1
    have f44 : ∀ x : LT w7, x.1.cell? ⟨w4.heap.size, 4, none⟩ = some (.string s14) := fun x => (F4.out x).cells.2.2.2.2.1
    have f45 : ∀ x : LT w7, x.1.cell? ⟨w4.heap.size, 5, none⟩ = some (.string s15) := fun x => (F4.out x).cells.2.2.2.2.2.1
    have f46 : ∀ x : LT w7, x.1.cell? ⟨w4.heap.size, 6, none⟩ = some (.slice A1 n1 c1) := fun x => (F4.out x).cells.2.2.2.2.2.2
    have f50 : ∀ x : LT w7, x.1.cell? ⟨w5.heap.size, 0, none⟩ = some (.string s20) := fun x => (F5.out x).cells.1
    have f51 : ∀ x : LT w7, x.1.cell? ⟨w5.heap.size, 1, none⟩ = some (.int .i64 i21) := fun x => (F5.out x).cells.2.1
    have f52 : ∀ x : LT w7, x.1.cell? ⟨w5.heap.size, 2, none⟩ = some (.int .i64 i22) := fun x => (F5.out x).cells.2.2.1
    have f53 : ∀ x : LT w7, x.1.cell? ⟨w5.heap.size, 3, none⟩ = some (.string s23) := fun x => (F5.out x).cells.2.2.2.1
    have f54 : ∀ x : LT w7, x.1.cell? ⟨w5.heap.size, 4, none⟩ = some (.string s24) := fun x => (F5.out x).cells.2.2.2.2.1
    have f55 : ∀ x : LT w7, x.1.cell? ⟨w5.heap.size, 5, none⟩ = some (.string s25) := fun x => (F5.out x).cells.2.2.2.2.2.1
    have f56 : ∀ x : LT w7, x.1.cell? ⟨w5.heap.size, 6, none⟩ = some (.slice A2 n2 c2) := fun x => (F5.out x).cells.2.2.2.2.2.2
    clear F3 F4 F5
    refine wp_region_class (fun w' => ∃ x : LT w7, w' = x.1) (by kernel_rfl) (by kernel_rfl) ⟨⟨_, (Below.refl w7.heap.size w7).drew⟩, rfl⟩ ?_
    (go_big_quiet_step ((rename_i x; first | (go_at_call 28; refine (rInt1 _ _).mono ?_; rintro e w2 ⟨rfl, hb⟩; exact ⟨rfl, ⟨_, bthen x.2 hb⟩, rfl⟩) | (go_at_call 27; refine (rLit _ _ _ _).mono ?_; rintro e w2 ⟨rfl, hb⟩; exact ⟨rfl, ⟨_, bthen x.2 hb⟩, rfl⟩) | (go_at_call 12; refine (lsame_want w7 _ _ _ _ AT4d.out AT3d.out x).mono ?_; rintro e w2 ⟨rfl, hb⟩; exact ⟨rfl, ⟨_, bthen x.2 hb⟩, rfl⟩))))
    (go_big_quiet_step ((rename_i x; first | (go_at_call 28; refine (rInt1 _ _).mono ?_; rintro e w2 ⟨rfl, hb⟩; exact ⟨rfl, ⟨_, bthen x.2 hb⟩, rfl⟩) | (go_at_call 27; refine (rLit _ _ _ _).mono ?_; rintro e w2 ⟨rfl, hb⟩; exact ⟨rfl, ⟨_, bthen x.2 hb⟩, rfl⟩) | (go_at_call 12; refine (lsame_want w7 _ _ _ _ AT4d.out AT3d.out x).mono ?_; rintro e w2 ⟨rfl, hb⟩; exact ⟨rfl, ⟨_, bthen x.2 hb⟩, rfl⟩))))
    (go_big_quiet_step ((rename_i x; first | (go_at_call 28; refine (rInt1 _ _).mono ?_; rintro e w2 ⟨rfl, hb⟩; exact ⟨rfl, ⟨_, bthen x.2 hb⟩, rfl⟩) | (go_at_call 27; refine (rLit _ _ _ _).mono ?_; rintro e w2 ⟨rfl, hb⟩; exact ⟨rfl, ⟨_, bthen x.2 hb⟩, rfl⟩) | (go_at_call 12; refine (lsame_want w7 _ _ _ _ AT4d.out AT3d.out x).mono ?_; rintro e w2 ⟨rfl, hb⟩; exact ⟨rfl, ⟨_, bthen x.2 hb⟩, rfl⟩))))
    (go_big_quiet_step ((rename_i x; first | (go_at_call 28; refine (rInt1 _ _).mono ?_; rintro e w2 ⟨rfl, hb⟩; exact ⟨rfl, ⟨_, bthen x.2 hb⟩, rfl⟩) | (go_at_call 27; refine (rLit _ _ _ _).mono ?_; rintro e w2 ⟨rfl, hb⟩; exact ⟨rfl, ⟨_, bthen x.2 hb⟩, rfl⟩) | (go_at_call 12; refine (lsame_want w7 _ _ _ _ AT4d.out AT3d.out x).mono ?_; rintro e w2 ⟨rfl, hb⟩; exact ⟨rfl, ⟨_, bthen x.2 hb⟩, rfl⟩))))
    (go_big_quiet_step ((rename_i x; first | (go_at_call 28; refine (rInt1 _ _).mono ?_; rintro e w2 ⟨rfl, hb⟩; exact ⟨rfl, ⟨_, bthen x.2 hb⟩, rfl⟩) | (go_at_call 27; refine (rLit _ _ _ _).mono ?_; rintro e w2 ⟨rfl, hb⟩; exact ⟨rfl, ⟨_, bthen x.2 hb⟩, rfl⟩) | (go_at_call 12; refine (lsame_want w7 _ _ _ _ AT4d.out AT3d.out x).mono ?_; rintro e w2 ⟨rfl, hb⟩; exact ⟨rfl, ⟨_, bthen x.2 hb⟩, rfl⟩))))
    (go_big_quiet_step ((rename_i x; first | (go_at_call 28; refine (rInt1 _ _).mono ?_; rintro e w2 ⟨rfl, hb⟩; exact ⟨rfl, ⟨_, bthen x.2 hb⟩, rfl⟩) | (go_at_call 27; refine (rLit _ _ _ _).mono ?_; rintro e w2 ⟨rfl, hb⟩; exact ⟨rfl, ⟨_, bthen x.2 hb⟩, rfl⟩) | (go_at_call 12; refine (lsame_want w7 _ _ _ _ AT4d.out AT3d.out x).mono ?_; rintro e w2 ⟨rfl, hb⟩; exact ⟨rfl, ⟨_, bthen x.2 hb⟩, rfl⟩))))
    (go_big_quiet_step ((rename_i x; first | (go_at_call 28; refine (rInt1 _ _).mono ?_; rintro e w2 ⟨rfl, hb⟩; exact ⟨rfl, ⟨_, bthen x.2 hb⟩, rfl⟩) | (go_at_call 27; refine (rLit _ _ _ _).mono ?_; rintro e w2 ⟨rfl, hb⟩; exact ⟨rfl, ⟨_, bthen x.2 hb⟩, rfl⟩) | (go_at_call 12; refine (lsame_want w7 _ _ _ _ AT4d.out AT3d.out x).mono ?_; rintro e w2 ⟨rfl, hb⟩; exact ⟨rfl, ⟨_, bthen x.2 hb⟩, rfl⟩))))
    (go_big_quiet_step ((rename_i x; first | (go_at_call 28; refine (rInt1 _ _).mono ?_; rintro e w2 ⟨rfl, hb⟩; exact ⟨rfl, ⟨_, bthen x.2 hb⟩, rfl⟩) | (go_at_call 27; refine (rLit _ _ _ _).mono ?_; rintro e w2 ⟨rfl, hb⟩; exact ⟨rfl, ⟨_, bthen x.2 hb⟩, rfl⟩) | (go_at_call 12; refine (lsame_want w7 _ _ _ _ AT4d.out AT3d.out x).mono ?_; rintro e w2 ⟨rfl, hb⟩; exact ⟨rfl, ⟨_, bthen x.2 hb⟩, rfl⟩))))
    (go_big_quiet_step ((rename_i x; first | (go_at_call 28; refine (rInt1 _ _).mono ?_; rintro e w2 ⟨rfl, hb⟩; exact ⟨rfl, ⟨_, bthen x.2 hb⟩, rfl⟩) | (go_at_call 27; refine (rLit _ _ _ _).mono ?_; rintro e w2 ⟨rfl, hb⟩; exact ⟨rfl, ⟨_, bthen x.2 hb⟩, rfl⟩) | (go_at_call 12; refine (lsame_want w7 _ _ _ _ AT4d.out AT3d.out x).mono ?_; rintro e w2 ⟨rfl, hb⟩; exact ⟨rfl, ⟨_, bthen x.2 hb⟩, rfl⟩))))
    (go_big_quiet_step ((rename_i x; first | (go_at_call 28; refine (rInt1 _ _).mono ?_; rintro e w2 ⟨rfl, hb⟩; exact ⟨rfl, ⟨_, bthen x.2 hb⟩, rfl⟩) | (go_at_call 27; refine (rLit _ _ _ _).mono ?_; rintro e w2 ⟨rfl, hb⟩; exact ⟨rfl, ⟨_, bthen x.2 hb⟩, rfl⟩) | (go_at_call 12; refine (lsame_want w7 _ _ _ _ AT4d.out AT3d.out x).mono ?_; rintro e w2 ⟨rfl, hb⟩; exact ⟨rfl, ⟨_, bthen x.2 hb⟩, rfl⟩))))
    repeat (go_big_quiet_step ((rename_i x; first | (go_at_call 28; refine (rInt1 _ _).mono ?_; rintro e w2 ⟨rfl, hb⟩; exact ⟨rfl, ⟨_, bthen x.2 hb⟩, rfl⟩) | (go_at_call 27; refine (rLit _ _ _ _).mono ?_; rintro e w2 ⟨rfl, hb⟩; exact ⟨rfl, ⟨_, bthen x.2 hb⟩, rfl⟩) | (go_at_call 12; refine (lsame_five w7 _ _ AT5d.out x).mono ?_; rintro e w2 ⟨rfl, hb⟩; exact ⟨rfl, ⟨_, bthen x.2 hb⟩, rfl⟩))))
    refine wpQuiet_nil ?_
    rintro _ ⟨x9, rfl⟩
    go_wp2_with fail
    go_ret
    exact ⟨rfl, bthen R4.out x9.2⟩
end Go.Proofs.YthohfegnphocbaaGreatDoor
