/- The law ExprBack, walked: it answers true whatever the expression is. Condition: the listed variables hold what they hold. -/
import Derived.Test.YtcnpoinocnfnjaaGreatDoorQ28
import Derived.Test.YtcnpoinocnfnjaaGreatDoorQ35
namespace Go.Proofs.YtcnpoinocnfnjaaGreatDoor
open Go.RowKit
theorem big_at (e : E) (A : Option Addr) (c : Nat) (w W : World) (hs : Sub (fun _ => True) w e A c) (hb : Below w.heap.size w W) :
    Calls Tryz.prog 16 #[.slice (some ⟨W.heap.size, 0, none⟩) 1 1] (W.alloc (.cells #[.string (str e.op), .int .i64 e.v.k, .int .i64 e.v.i, .string (str e.v.s), .string (str e.tb), .string (str e.nm), .slice A e.l.length c] 27)) fun r w' => r = .returned (.bool e.big) ∧ Below W.heap.size W w' := by
  have q := B7.made W (.string (str e.op)) (.int .i64 e.v.k) (.int .i64 e.v.i) (.string (str e.v.s)) (.string (str e.tb)) (.string (str e.nm)) (.slice A e.l.length c)
  obtain ⟨a0, a1, a2, a3, a4, a5, a6⟩ := q.cells
  have hb2 := bel_alloc (Below.refl W.heap.size W) (.cells #[.string (str e.op), .int .i64 e.v.k, .int .i64 e.v.i, .string (str e.v.s), .string (str e.tb), .string (str e.nm), .slice A e.l.length c] 27)
  refine (big_one e (fun _ => True) _ W.heap.size A c ⟨a0, a1, a2, a3, a4, a5, a6⟩ (sub_later (sub_later hs hb) hb2) q.lt).mono ?_
  rintro r w' ⟨rfl, h⟩
  exact ⟨rfl, bthen hb2 h⟩
set_option maxRecDepth 100000 in
set_option maxHeartbeats 4000000 in
theorem back_any (e : E) (x : Value) (w : World) (hE : Env w) (hV : BV.Env w) (hx : EAt (fun _ => True) w e x) (hi : e.ints = true) :
    Calls Tryz.prog 6 #[x] w fun r w' => r = .returned (.bool true) ∧ Below w.heap.size w w' := by
  obtain ⟨A, c, rfl, hs⟩ := hx
  have hx0 : EAt (fun _ => True) w e (eVal e.op e.v e.tb e.nm (.slice A e.l.length c)) := ⟨A, c, rfl, hs⟩
  obtain ⟨W1, hW1, q1, z1, r1⟩ := box7 w (.string (str e.op)) (.int .i64 e.v.k) (.int .i64 e.v.i) (.string (str e.v.s)) (.string (str e.tb)) (.string (str e.nm)) (.slice A e.l.length c)
  have HBig := Lib.hid (fun W hb => big_at e A c w W hs hb)
  have HTn := Lib.hid (fun W (hb : Below w.heap.size w W) (h : e.big = false) hc => text_no e _ _ W (hx0.later hb) (big_no h).2.2.1 (by have := (big_no h).2.2.2; omega) hc)
  have HTy := Lib.hid (fun W (hb : Below w.heap.size w W) (h : e.big = false) hc => text_yes e _ _ W (hx0.later hb) (may_fine e (chk_ok.1 hc).1 hi) (big_no h).2.2.1 (by have := (big_no h).2.2.2; omega) hc (txt_ne (may_fine e (chk_ok.1 hc).1 hi))
    (by have h1 := txt_len (may_fine e (chk_ok.1 hc).1 hi) (big_no h).2.1; have h2 := (big_no h).1; omega) (bv_later hV hb))
  have HPar := Lib.hid (fun W (hb : Below w.heap.size w W) (hc : chkE e = 0) (hl : e.txt.length ≤ 4096) => lparse ⟨e.txt.toArray⟩ e 0 0 (by rw [show (⟨e.txt.toArray⟩ : ByteArray).data.toList = e.txt by simp]; exact par_text (may_fine e (chk_ok.1 hc).1 hi) (chk_ok.1 hc).2 hl) W (hE.later hb))
  have HSame := Lib.hid (fun W (hb : Below w.heap.size w W) (y : Value) (hy : EAt (fun _ => True) W e y) => rSame_any e e _ y _ _ W (hx0.later hb) hy)
  rw [same_refl] at HSame
  have HL := Lib.hid (fun W (hb : Below w.heap.size w W) => live_any W (hE.later hb) (bv_later hV hb))
  have HW1 := Lib.hid hW1
  have HR1 := Lib.hid r1
  have HQ1 := Lib.hid q1
  have hts : (⟨e.txt.toArray⟩ : ByteArray).size = e.txt.length := by simp [ByteArray.size]
  rw [← hts] at HPar
  unfold eVal at *
  generalize e.big = bg at *
  generalize chkE e = ck at *
  generalize (⟨e.txt.toArray⟩ : ByteArray) = tx at *
  generalize str e.op = bo at *
  generalize str e.tb = bt at *
  generalize str e.nm = bn at *
  generalize str e.v.s = bs at *
  generalize e.v.k = vk at *
  generalize e.v.i = vi at *
  generalize e.l.length = ln at *
  clear hW1 hE hV hx0 hs hi q1 r1 hts
  go_enter Tryz.func6, Tryz.ntmps6
  go_wp2_with (rw [← HW1.out])
  refine (HL.out _ HR1.out).mono ?_
  rintro r w2 ⟨rfl, b2⟩
  have R2 := Lib.hid (bthen HR1.out b2)
  have Q2 := Lib.hid (HQ1.out.later b2)
  obtain ⟨a0, a1, a2, a3, a4, a5, a6⟩ := Q2.out.cells
  clear b2
  go_wp2_with fail
  refine (HBig.out w2 R2.out).mono ?_
  rintro r w3 ⟨rfl, b3⟩
  have R3 := Lib.hid (bthen R2.out b3)
  have Q3 := Lib.hid (Q2.out.later b3)
  clear b3 a0 a1 a2 a3 a4 a5 a6
  cases bg
  · obtain ⟨a0, a1, a2, a3, a4, a5, a6⟩ := Q3.out.cells
    by_cases hc : ck = 0
    · subst hc
      go_wp2_with fail
      refine (HTy.out w3 R3.out trivial trivial).mono ?_
      rintro r w4 ⟨rfl, b4⟩
      have R4 := Lib.hid (bthen R3.out b4)
      have Q4 := Lib.hid (Q3.out.later b4)
      clear b4 a0 a1 a2 a3 a4 a5 a6
      by_cases hlen : 4096 < tx.size
      · have hz : (4096 : Int) < (tx.size : Int) := by omega
        go_wp2_with fail
        go_ret
        exact ⟨rfl, R4.out⟩
      · have hz : ¬ (4096 : Int) < (tx.size : Int) := by omega
        go_wp2_with fail
        refine (HPar.out w4 R4.out trivial (by omega)).mono ?_
        rintro r w5 ⟨s10, i11, i12, s13, s14, s15, A1, n1, c1, rfl, at5, b5⟩
        have R5 := Lib.hid (bthen R4.out (bthen b5 (bel_alloc (Below.refl w5.heap.size w5) (.cells #[.string s10, .int .i64 i11, .int .i64 i12, .string s13, .string s14, .string s15, .slice A1 n1 c1] 27))))
        have at5' := Lib.hid (at5.later (bel_alloc (Below.refl w5.heap.size w5) (.cells #[.string s10, .int .i64 i11, .int .i64 i12, .string s13, .string s14, .string s15, .slice A1 n1 c1] 27)))
        have Q5 := (Q4.out.later b5).later (bel_alloc (Below.refl w5.heap.size w5) (.cells #[.string s10, .int .i64 i11, .int .i64 i12, .string s13, .string s14, .string s15, .slice A1 n1 c1] 27))
        have P5 := B7.made w5 (.string s10) (.int .i64 i11) (.int .i64 i12) (.string s13) (.string s14) (.string s15) (.slice A1 n1 c1)
        obtain ⟨a0, a1, a2, a3, a4, a5, a6⟩ := Q5.cells
        obtain ⟨d0, d1, d2, d3, d4, d5, d6⟩ := P5.cells
        clear b5 at5 Q5 P5
        go_wp2_with fail
        refine (HSame.out _ R5.out _ at5'.out).mono ?_
        rintro r w6 ⟨rfl, b6⟩
        have R6 := Lib.hid (bthen R5.out b6)
        clear b6
        go_wp2_with fail
        go_ret
        exact ⟨rfl, R6.out⟩
    · have h1 : (ck != 0) = true := by simpa using hc
      have h2 : (ck == 0) = false := by simpa using hc
      go_wp2_with fail
      refine (HTn.out w3 R3.out trivial hc).mono ?_
      rintro r w4 ⟨rfl, b4⟩
      have R4 := Lib.hid (bthen R3.out b4)
      clear b4
      go_wp2_with fail
      go_ret
      exact ⟨rfl, R4.out⟩
  · go_wp2_with fail
    go_ret
    exact ⟨rfl, R3.out⟩
end Go.Proofs.YtcnpoinocnfnjaaGreatDoor
