/- The law ExprBrackets, walked: it answers true whatever the text is. Conditions: the listed variables hold what they hold; the text is no longer than 2 to the 47. -/
import Derived.Test.YtcnpoinocnfnjaaGreatDoorQ07
import Derived.Test.YtcnpoinocnfnjaaGreatDoorQ35
import Derived.Test.YtcnpoinocnfnjaaGreatDoorQ34
import Derived.Deep.RegionWith
namespace Go.Proofs.YtcnpoinocnfnjaaGreatDoor
open Go.RowKit
theorem e0_op {S : Nat → Prop} {w : World} {s0 s3 s4 s5 : ByteArray} {i1 i2 : Int} {A : Option Addr} {n c : Nat} (h : EAt S w e0 (.agg #[.string s0, .int .i64 i1, .int .i64 i2, .string s3, .string s4, .string s5, .slice A n c])) : s0 = ⟨#[]⟩ := by
  obtain ⟨A', c', h1, -⟩ := h
  simp only [eVal, e0, E.op] at h1
  injection h1 with h1
  simp at h1
  rw [h1.1]; rfl
theorem parse_at (s : ByteArray) (w : World) (hE : Env w) : ∃ x q r, parP s.data.toList = (x, q, r) ∧ Calls Tryz.prog 10 #[.string s] w fun e w' => ∃ s0 i1 i2 s3 s4 s5 A n c, e = .returned (.tuple #[.agg #[.string s0, .int .i64 i1, .int .i64 i2, .string s3, .string s4, .string s5, .slice A n c], .int .i64 q, .int .i64 r]) ∧ EAt (fun _ => True) w' x (.agg #[.string s0, .int .i64 i1, .int .i64 i2, .string s3, .string s4, .string s5, .slice A n c]) ∧ Below w.heap.size w w' :=
  ⟨_, _, _, rfl, lparse s _ _ _ rfl w hE⟩
theorem not_at {S : Nat → Prop} {w W : World} {y : E} {s0 s3 s4 s5 : ByteArray} {i1 i2 : Int} {A : Option Addr} {n c : Nat} (h : EAt S w y (.agg #[.string s0, .int .i64 i1, .int .i64 i2, .string s3, .string s4, .string s5, .slice A n c])) (hb : Below w.heap.size w W) (g : Nat)
    (hg : W.heap[g]? = some (.cells #[.string s0, .int .i64 i1, .int .i64 i2, .string s3, .string s4, .string s5, .slice A n c] 27 (0, 0))) :
    EAt (fun _ => True) W (op1 wNot [y]) (.agg #[.string ⟨#[110, 111, 116]⟩, .int .i64 0, .int .i64 0, .string ⟨#[]⟩, .string ⟨#[]⟩, .string ⟨#[]⟩, .slice (some ⟨g, 0, none⟩) 1 1]) := by
  obtain ⟨A', c', h1, hs⟩ := (h.later hb).wide (S' := fun _ => True) (fun _ _ => trivial)
  unfold eVal at h1
  simp at h1
  obtain ⟨rfl, rfl, rfl, rfl, rfl, rfl, rfl, rfl, rfl⟩ := h1
  refine ⟨some ⟨g, 0, none⟩, 1, rfl, Nat.le_refl _, by decide, fun _ => ⟨g, 0, rfl, trivial, (Array.getElem?_eq_some_iff.1 hg).1, ⟨⟨A, c, ?_, hs⟩, trivial⟩⟩⟩
  exact B7.cells hg
theorem app_listB (a b : ByteArray) : (a ++ b).data.toList = a.data.toList ++ b.data.toList := by simp
set_option maxRecDepth 100000 in
set_option maxHeartbeats 8000000 in
theorem brk_any (s : ByteArray) (w : World) (hE : Env w) (hV : BV.Env w) (hs47 : s.size ≤ 140737488355328) :
    Calls Tryz.prog 7 #[.string s] w fun r w' => r = .returned (.bool true) ∧ Below w.heap.size w w' := by
  have HL := Lib.hid (fun W (hb : Below w.heap.size w W) => live_any W (hE.later hb) (bv_later hV hb))
  by_cases hlen : 4000 < s.size
  · have hz : (4000 : Int) < (s.size : Int) := by omega
    clear hE hV
    go_enter Tryz.func7, Tryz.ntmps7
    go_wp2_with fail
    refine (HL.out _ (.refl _ _)).mono ?_
    rintro r w2 ⟨rfl, b2⟩
    go_wp2_with fail
    go_ret
    exact ⟨rfl, b2⟩
  have hz : ¬ (4000 : Int) < (s.size : Int) := by omega
  have hcat1 : ¬ (9223372036854775807 < 1 + s.size) := by omega
  have hcat2 : ¬ (9223372036854775807 < 1 + s.size + 2) := by omega
  have hcat3 : ¬ (9223372036854775807 < 5 + s.size) := by omega
  have hcat4 : ¬ (9223372036854775807 < 5 + s.size + 2) := by omega
  have hl : s.data.toList.length ≤ 4000 := by rw [size_list]; omega
  have l2 : (⟨#[40]⟩ ++ s ++ ⟨#[10, 41]⟩ : ByteArray).data.toList = 40 :: (s.data.toList ++ [10, 41]) := by rw [app_listB, app_listB]; rfl
  have l3 : (⟨#[78, 79, 84, 32, 40]⟩ ++ s ++ ⟨#[10, 41]⟩ : ByteArray).data.toList = [78, 79, 84, 32] ++ 40 :: (s.data.toList ++ [10, 41]) := by rw [app_listB, app_listB]; simp
  obtain ⟨x, q1, r1, h1⟩ : ∃ x q r, parP s.data.toList = (x, q, r) := ⟨_, _, _, rfl⟩
  obtain ⟨y, q2, r2, h2⟩ : ∃ x q r, parP (⟨#[40]⟩ ++ s ++ ⟨#[10, 41]⟩ : ByteArray).data.toList = (x, q, r) := ⟨_, _, _, rfl⟩
  obtain ⟨z, q3, r3, h3⟩ : ∃ x q r, parP (⟨#[78, 79, 84, 32, 40]⟩ ++ s ++ ⟨#[10, 41]⟩ : ByteArray).data.toList = (x, q, r) := ⟨_, _, _, rfl⟩
  have HP1 := Lib.hid (fun W (hb : Below w.heap.size w W) => lparse s x q1 r1 h1 W (hE.later hb))
  have HP2 := Lib.hid (fun W (hb : Below w.heap.size w W) => lparse _ y q2 r2 h2 W (hE.later hb))
  have HP3 := Lib.hid (fun W (hb : Below w.heap.size w W) => lparse _ z q3 r3 h3 W (hE.later hb))
  rw [l2] at h2
  rw [l3] at h3
  have Q1 := Lib.hid h1
  have Q2 := Lib.hid h2
  have Q3 := Lib.hid h3
  have HLn := Lib.hid hl
  clear hE hV h1 h2 h3 l2 l3 hl hs47 hlen
  go_enter Tryz.func7, Tryz.ntmps7
  go_wp2_with fail
  refine (HL.out _ (.refl _ _)).mono ?_
  rintro r w2 ⟨rfl, b2⟩
  have R2 := Lib.hid b2
  clear b2
  go_wp2_with fail
  refine (HP1.out _ R2.out).mono ?_
  rintro r w3 ⟨s10, i11, i12, s13, s14, s15, A1, n1, c1, rfl, at3, b3⟩
  obtain ⟨W3, hW3, p3, z3, m3⟩ := box7 w3 (.string s10) (.int .i64 i11) (.int .i64 i12) (.string s13) (.string s14) (.string s15) (.slice A1 n1 c1)
  have HW3 := Lib.hid hW3
  have R3 := Lib.hid (bthen R2.out (bthen b3 m3))
  have AT3 := Lib.hid (at3.later m3)
  have P3 := Lib.hid p3
  clear hW3 p3 z3 m3 at3 b3 R2
  go_wp2_with (rw [← HW3.out])
  refine (HP2.out _ R3.out).mono ?_
  rintro r w4 ⟨s20, i21, i22, s23, s24, s25, A2, n2, c2, rfl, at4, b4⟩
  obtain ⟨W4, hW4, p4, z4, m4⟩ := box7 w4 (.string s20) (.int .i64 i21) (.int .i64 i22) (.string s23) (.string s24) (.string s25) (.slice A2 n2 c2)
  have HW4 := Lib.hid hW4
  have R4 := Lib.hid (bthen R3.out (bthen b4 m4))
  have AT4 := Lib.hid (at4.later m4)
  have P4 := Lib.hid p4
  have AT3b := Lib.hid ((AT3.out.later b4).later m4)
  have P3b := Lib.hid ((P3.out.later b4).later m4)
  clear hW4 p4 z4 m4 at4 b4 R3 AT3 P3
  go_wp2_with (rw [← HW4.out])
  refine (HP3.out _ R4.out).mono ?_
  rintro r w5 ⟨s30, i31, i32, s33, s34, s35, A3, n3, c3, rfl, at5, b5⟩
  obtain ⟨W5, hW5, p5, z5, m5⟩ := box7 w5 (.string s30) (.int .i64 i31) (.int .i64 i32) (.string s33) (.string s34) (.string s35) (.slice A3 n3 c3)
  have HW5 := Lib.hid hW5
  have R5 := Lib.hid (bthen R4.out (bthen b5 m5))
  have AT5 := Lib.hid (at5.later m5)
  have P5 := Lib.hid p5
  have AT4b := Lib.hid ((AT4.out.later b5).later m5)
  have P4b := Lib.hid ((P4.out.later b5).later m5)
  have AT3c := Lib.hid ((AT3b.out.later b5).later m5)
  have P3c := Lib.hid ((P3b.out.later b5).later m5)
  obtain ⟨a0, a1, a2, a3, a4, a5, a6⟩ := P3c.out.cells
  clear hW5 p5 z5 m5 at5 b5 R4 AT4 P4 AT3b P3b HL HP1 HP2 HP3
  by_cases hr : r1 = 0
  · subst hr
    obtain ⟨vs, f, x', -, -, -, -, hxx, -⟩ := par_inv (l := s.data.toList) (by rw [Q1.out])
    rw [Q1.out] at hxx
    have hq1 : q1 = 0 := congrArg (·.2.1) hxx
    have hb := par_brk HLn.out (x := x) (by rw [Q1.out, hq1])
    obtain ⟨hy, hz1, hz2, hd, hf⟩ := hb
    have hy' := Q2.out.symm.trans hy
    obtain ⟨rfl, hq2, rfl⟩ : y = x ∧ q2 = 0 ∧ r2 = 0 := by injection hy' with a b; injection b with b c; exact ⟨a, b, c⟩
    have hck : chkE y = 0 := chk_ok.2 ⟨fine_may hf (eat_lens AT3c.out), hd⟩
    have HS1 := Lib.hid (rSame_any y y _ _ _ _ W5 AT3c.out AT4b.out)
    rw [same_refl] at HS1
    have HCk := Lib.hid (fun W (hb : Below W5.heap.size W5 W) => eCheck_any y _ _ W (AT3c.out.later hb) (fine_sn hf) (by omega))
    rw [hck] at HCk
    have HD := Lib.hid (fun W (hb : Below W5.heap.size W5 W) => rDeep_any y _ _ W (AT3c.out.later hb) (by omega))
    obtain ⟨d0, d1, d2, d3, d4, d5, d6⟩ := P4b.out.cells
    have HDD := Lib.hid hd
    have HZ1 := Lib.hid hz1
    have HZ2 := Lib.hid hz2
    clear hxx hy hz1 hz2 hd hf hy' hck hq1 hq2
    go_wp2_with (rw [← HW5.out])
    refine (HS1.out).mono ?_
    rintro r w6 ⟨rfl, b6⟩
    obtain ⟨a0, a1, a2, a3, a4, a5, a6⟩ := (P3c.out.later b6).cells
    have B6 := Lib.hid b6
    clear b6
    go_wp2_with fail
    refine (HCk.out _ B6.out).mono ?_
    rintro r w7 ⟨rfl, b7⟩
    have B7' := Lib.hid (bthen B6.out b7)
    have P3d := Lib.hid (P3c.out.later B7'.out)
    have P5d := Lib.hid (P5.out.later B7'.out)
    have AT5d := Lib.hid (AT5.out.later B7'.out)
    have AT3d := Lib.hid (AT3c.out.later B7'.out)
    have R7 := Lib.hid (bthen R5.out B7'.out)
    clear b7 B6 HS1 HCk AT4b P4b AT3c P3c AT5 P5
    obtain ⟨a0, a1, a2, a3, a4, a5, a6⟩ := P3d.out.cells
    obtain ⟨d0, d1, d2, d3, d4, d5, d6⟩ := P5d.out.cells
    by_cases h40 : y.deep < 40
    · have hz' := Q3.out.symm.trans (HZ1.out h40)
      obtain ⟨rfl, -, rfl⟩ : z = op1 wNot [y] ∧ q3 = 0 ∧ r3 = 0 := by injection hz' with a b; injection b with b c; exact ⟨a, b, c⟩
      clear hz' HZ1 HZ2 Q3 HDD HD
      have P := Lib.hid (HS.nil w7)
      have hz7 := P5d.out.lt
      have hz8 := P3d.out.lt
      have HSm := Lib.hid (fun W (hb : Below w7.heap.size w7 W) (u : Value) (hu : EAt (fun _ => True) W (op1 wNot [y]) u) => rSame_any (op1 wNot [y]) (op1 wNot [y]) _ u _ _ W (AT5d.out.later hb) hu)
      rw [same_refl] at HSm
      go_wp2_with fail
      go_region_with (first | (go_at_call 21; go_must (refine (rOp1 _ _ _ _ _).mono ?_); rintro e w9 ⟨rfl, hb⟩; go_must (apply HS.on hb); (focus (go_must (first | with_reducible exact (P.out.push _) | with_reducible exact (P.out.drew.push _) | with_reducible exact (P.out.push _).drew | with_reducible exact (P.out.drew.push _).drew | with_reducible exact (P.out.drew.drew.push _)))); intro P; (try simp only [World.size_drew, World.size_alloc] at P); obtain ⟨z0, z1, z2, z3, z4, z5, z6⟩ := (P5d.out.later P.out.below).cells) | (go_at_call 12; refine (HSm.out _ P.out.below _ (not_at AT3d.out P.out.below _ (P.out.get List.mem_cons_self))).mono ?_; rintro e w10 ⟨rfl, hb10⟩; have R10 := Lib.hid (bthen P.out.below hb10)))
      all_goals (go_wp2_with fail; go_ret; exact ⟨rfl, bthen R7.out R10.out⟩)
    · have h40e : y.deep = 40 := by have := HDD.out; omega
      obtain ⟨q, hq⟩ := HZ2.out (by omega)
      have hz' := Q3.out.symm.trans hq
      obtain ⟨rfl, -, rfl⟩ : z = e0 ∧ q3 = q ∧ r3 = 3 := by injection hz' with a b; injection b with b c; exact ⟨a, b, c⟩
      have HD7 := Lib.hid (HD.out _ B7'.out)
      rw [h40e] at HD7
      clear hz' HZ1 HZ2 Q3 HDD hq
      go_wp2_with fail
      have HNE : Nonempty (LT w7) := ⟨⟨w7, Below.refl _ _⟩⟩
      have F3 := fun x : LT w7 => (P3d.out.later x.2).cells
      have f0 : ∀ x : LT w7, x.1.cell? ⟨w3.heap.size, 0, none⟩ = some (.string s10) := fun x => (F3 x).1
      have f1 : ∀ x : LT w7, x.1.cell? ⟨w3.heap.size, 1, none⟩ = some (.int .i64 i11) := fun x => (F3 x).2.1
      have f2 : ∀ x : LT w7, x.1.cell? ⟨w3.heap.size, 2, none⟩ = some (.int .i64 i12) := fun x => (F3 x).2.2.1
      have f3 : ∀ x : LT w7, x.1.cell? ⟨w3.heap.size, 3, none⟩ = some (.string s13) := fun x => (F3 x).2.2.2.1
      have f4 : ∀ x : LT w7, x.1.cell? ⟨w3.heap.size, 4, none⟩ = some (.string s14) := fun x => (F3 x).2.2.2.2.1
      have f5 : ∀ x : LT w7, x.1.cell? ⟨w3.heap.size, 5, none⟩ = some (.string s15) := fun x => (F3 x).2.2.2.2.2.1
      have f6 : ∀ x : LT w7, x.1.cell? ⟨w3.heap.size, 6, none⟩ = some (.slice A1 n1 c1) := fun x => (F3 x).2.2.2.2.2.2
      have HDx := Lib.hid (fun x : LT w7 => rDeep_any y _ _ x.1 (AT3d.out.later x.2) (by omega))
      rw [h40e] at HDx
      clear F3
      refine wp_region_class (fun w' => ∃ x : LT w7, w' = x.1) (by kernel_rfl) (by kernel_rfl) ⟨⟨_, (Below.refl w7.heap.size w7).drew⟩, rfl⟩ ?_
      repeat (go_big_quiet_step ((rename_i x; go_at_call 20; refine (HDx.out x).mono ?_; rintro e w2 ⟨rfl, hb⟩; exact ⟨rfl, ⟨_, bthen x.2 hb⟩, rfl⟩)))
      refine wpQuiet_nil ?_
      rintro _ ⟨x9, rfl⟩
      go_wp2_with fail
      go_ret
      exact ⟨rfl, bthen R7.out x9.2⟩
  · have hx0 := par_err (l := s.data.toList) (by rw [Q1.out]; exact hr)
    rw [Q1.out] at hx0
    simp only at hx0
    subst hx0
    obtain rfl := e0_op AT3c.out
    have hrf : (r1 != 0) = true := by simpa using hr
    go_wp2_with (rw [← HW5.out])
    go_ret
    exact ⟨rfl, R5.out⟩
end Go.Proofs.YtcnpoinocnfnjaaGreatDoor
