/- The law ExprTexts, walked: it answers true whatever the expression is. Condition: the listed variables hold what they hold. -/
import Derived.Test.YtcnpoinocnfnjaaGreatDoorQ36
import Derived.Test.YtcnpoinocnfnjaaGreatDoorQ38
import Derived.Test.YtcnpoinocnfnjaaGreatDoorQ41
namespace Go.Proofs.YtcnpoinocnfnjaaGreatDoor
open Go.RowKit
set_option maxRecDepth 100000 in
set_option maxHeartbeats 4000000 in
theorem rTextX (e : E) (x : Value) (S : Nat → Prop) (w : World) (hx : EAt S w e x) (hsh : e.short = true) (hd : e.deep ≤ 1000000) (hf : chkE e = 0 → Fine resB e) (hlen : e.txt.length ≤ 10000000000) :
    Calls Tryz.prog 18 #[x] w fun r w' => r = .returned (.tuple #[.string (if chkE e = 0 then ⟨e.txt.toArray⟩ else ⟨#[]⟩), .int .i64 (chkE e)]) ∧ Below w.heap.size w w' := by
  obtain ⟨s0, i1, i2, s3, s4, s5, A, n, c, rfl⟩ := hx.agg
  obtain ⟨W1, hW1, q1, z1, r1⟩ := box7 w (.string s0) (.int .i64 i1) (.int .i64 i2) (.string s3) (.string s4) (.string s5) (.slice A n c)
  have hx1 := hx.lim.later r1
  have HC := Lib.hid (rCheck_any e _ _ W1 hx1 (short_sn e hsh) hd)
  have HT := Lib.hid (fun (h : chkE e = 0) W (hb : Below W1.heap.size W1 W) => rText_fine (hf h) hsh _ _ W (hx1.later hb) hlen)
  have HQ := Lib.hid q1
  have HB := Lib.hid r1
  have HW1 := Lib.hid hW1
  obtain ⟨a0, a1, a2, a3, a4, a5, a6⟩ := q1.cells
  have ht : str e.txt = ⟨e.txt.toArray⟩ := rfl
  rw [ht] at HT
  generalize (⟨e.txt.toArray⟩ : ByteArray) = tx at *
  generalize chkE e = ck at *
  clear hW1 r1 hx hx1 hsh hd hf hlen q1 z1 ht
  by_cases hc : ck = 0
  · subst hc
    rw [if_pos rfl]
    go_enter Tryz.func18, Tryz.ntmps18
    go_wp2_with (rw [← HW1.out])
    refine (HC.out).mono ?_
    rintro r w3 ⟨rfl, b3⟩
    have HB3 := Lib.hid (bthen HB.out b3)
    have HT3 := Lib.hid (HT.out trivial w3 b3)
    obtain ⟨a0, a1, a2, a3, a4, a5, a6⟩ := (HQ.out.later b3).cells
    clear b3
    go_wp2_with fail
    refine (HT3.out).mono ?_
    rintro r w4 ⟨rfl, b4⟩
    go_wp2_with fail
    go_ret2
    exact ⟨rfl, bthen HB3.out b4⟩
  · rw [if_neg hc]
    have hcf : (ck != 0) = true := by simpa using hc
    clear hc
    go_enter Tryz.func18, Tryz.ntmps18
    go_wp2_with (rw [← HW1.out])
    refine (HC.out).mono ?_
    rintro r w3 ⟨rfl, b3⟩
    go_wp2_with fail
    go_ret2
    exact ⟨rfl, bthen HB.out b3⟩
set_option maxRecDepth 100000 in
set_option maxHeartbeats 4000000 in
theorem rTextN (e : E) (x : Value) (S : Nat → Prop) (w : World) (hx : EAt S w e x) (hsh : e.short = true) (hd : e.deep ≤ 1000000) (hc : chkE e ≠ 0) :
    Calls Tryz.prog 18 #[x] w fun r w' => r = .returned (.tuple #[.string (if chkE e = 0 then ⟨e.txt.toArray⟩ else ⟨#[]⟩), .int .i64 (chkE e)]) ∧ Below w.heap.size w w' := by
  rw [if_neg hc]
  obtain ⟨s0, i1, i2, s3, s4, s5, A, n, c, rfl⟩ := hx.agg
  obtain ⟨W1, hW1, q1, z1, r1⟩ := box7 w (.string s0) (.int .i64 i1) (.int .i64 i2) (.string s3) (.string s4) (.string s5) (.slice A n c)
  have hx1 := hx.lim.later r1
  have HC := Lib.hid (rCheck_any e _ _ W1 hx1 (short_sn e hsh) hd)
  have HB := Lib.hid r1
  have HW1 := Lib.hid hW1
  obtain ⟨a0, a1, a2, a3, a4, a5, a6⟩ := q1.cells
  generalize chkE e = ck at *
  have hcf : (ck != 0) = true := by simpa using hc
  clear hW1 r1 hx hx1 hsh hd q1 z1 hc
  go_enter Tryz.func18, Tryz.ntmps18
  go_wp2_with (rw [← HW1.out])
  refine (HC.out).mono ?_
  rintro r w3 ⟨rfl, b3⟩
  go_wp2_with fail
  go_ret2
  exact ⟨rfl, bthen HB.out b3⟩
set_option maxRecDepth 100000 in
set_option maxHeartbeats 4000000 in
theorem texts_any (e : E) (x : Value) (w : World) (hE : Env w) (hV : BV.Env w) (hx : EAt (fun _ => True) w e x) (hi : e.ints = true) :
    Calls Tryz.prog 5 #[x] w fun r w' => r = .returned (.bool true) ∧ Below w.heap.size w w' := by
  obtain ⟨A, c, rfl, hs⟩ := hx
  have hx0 : EAt (fun _ => True) w e (eVal e.op e.v e.tb e.nm (.slice A e.l.length c)) := ⟨A, c, rfl, hs⟩
  obtain ⟨W1, hW1, q1, z1, r1⟩ := box7 w (.string (str e.op)) (.int .i64 e.v.k) (.int .i64 e.v.i) (.string (str e.v.s)) (.string (str e.tb)) (.string (str e.nm)) (.slice A e.l.length c)
  have HBig := Lib.hid (fun W hb => big_at e A c w W hs hb)
  have HT := Lib.hid (fun W (hb : Below w.heap.size w W) (h : e.big = false) => show Calls Tryz.prog 17 #[eVal e.op e.v e.tb e.nm (.slice A e.l.length c)] W fun r w' => r = .returned (.tuple #[.string (if chkE e = 0 then ⟨e.txt.toArray⟩ else ⟨#[]⟩), .int .i64 (chkE e)]) ∧ Below W.heap.size W w' by
    by_cases hc : chkE e = 0
    · rw [if_pos hc, hc]
      exact text_yes e _ _ W (hx0.later hb) (may_fine e (chk_ok.1 hc).1 hi) (big_no h).2.2.1 (by have := (big_no h).2.2.2; omega) hc (txt_ne (may_fine e (chk_ok.1 hc).1 hi))
        (by have h1 := txt_len (may_fine e (chk_ok.1 hc).1 hi) (big_no h).2.1; have h2 := (big_no h).1; omega) (bv_later hV hb)
    · rw [if_neg hc]
      exact text_no e _ _ W (hx0.later hb) (big_no h).2.2.1 (by have := (big_no h).2.2.2; omega) hc)
  have HR := Lib.hid (fun W (hb : Below w.heap.size w W) (h : e.big = false) => show Calls Tryz.prog 18 #[eVal e.op e.v e.tb e.nm (.slice A e.l.length c)] W fun r w' => r = .returned (.tuple #[.string (if chkE e = 0 then ⟨e.txt.toArray⟩ else ⟨#[]⟩), .int .i64 (chkE e)]) ∧ Below W.heap.size W w' by
    by_cases hc : chkE e = 0
    · exact rTextX e _ _ W (hx0.later hb) (big_no h).2.2.1 (by have := (big_no h).2.2.2; omega) (fun hc => may_fine e (chk_ok.1 hc).1 hi) (by have h1 := txt_len (may_fine e (chk_ok.1 hc).1 hi) (big_no h).2.1; have h2 := (big_no h).1; omega)
    · exact rTextN e _ _ W (hx0.later hb) (big_no h).2.2.1 (by have := (big_no h).2.2.2; omega) hc)
  have HL := Lib.hid (fun W (hb : Below w.heap.size w W) => live_any W (hE.later hb) (bv_later hV hb))
  have HW1 := Lib.hid hW1
  have HR1 := Lib.hid r1
  have HQ1 := Lib.hid q1
  unfold eVal at *
  generalize (if chkE e = 0 then (⟨e.txt.toArray⟩ : ByteArray) else ⟨#[]⟩) = tx at *
  generalize e.big = bg at *
  generalize chkE e = ck at *
  generalize str e.op = bo at *
  generalize str e.tb = bt at *
  generalize str e.nm = bn at *
  generalize str e.v.s = bs at *
  generalize e.v.k = vk at *
  generalize e.v.i = vi at *
  generalize e.l.length = ln at *
  clear hW1 hE hV hx0 hs hi q1 r1 z1
  go_enter Tryz.func5, Tryz.ntmps5
  go_wp2_with (rw [← HW1.out])
  refine (HL.out _ HR1.out).mono ?_
  rintro r w2 ⟨rfl, b2⟩
  have R2 := Lib.hid (bthen HR1.out b2)
  have Q2 := Lib.hid (HQ1.out.later b2)
  obtain ⟨a0, a1, a2, a3, a4, a5, a6⟩ := Q2.out.cells
  clear b2
  go_wp2_with fail
  refine (HBig.out w2 R2.out).mono ?_
  rintro r w3 ⟨rfl, b3⟩
  have R3 := Lib.hid (bthen R2.out b3)
  have Q3 := Lib.hid (Q2.out.later b3)
  clear b3 a0 a1 a2 a3 a4 a5 a6
  cases bg
  · obtain ⟨a0, a1, a2, a3, a4, a5, a6⟩ := Q3.out.cells
    go_wp2_with fail
    refine (HT.out w3 R3.out trivial).mono ?_
    rintro r w4 ⟨rfl, b4⟩
    have R4 := Lib.hid (bthen R3.out b4)
    have Q4 := Lib.hid (Q3.out.later b4)
    clear b4 a0 a1 a2 a3 a4 a5 a6
    obtain ⟨a0, a1, a2, a3, a4, a5, a6⟩ := Q4.out.cells
    have htt : (tx.toList == tx.toList) = true := by simp
    go_wp2_with fail
    refine (HR.out w4 R4.out trivial).mono ?_
    rintro r w5 ⟨rfl, b5⟩
    have R5 := Lib.hid (bthen R4.out b5)
    clear b5
    go_wp2_with fail
    go_ret
    exact ⟨rfl, R5.out⟩
  · go_wp2_with fail
    go_ret
    exact ⟨rfl, R3.out⟩
end Go.Proofs.YtcnpoinocnfnjaaGreatDoor
