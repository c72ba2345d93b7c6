/- Contract of the reference's Light: whether an expression's texts are short. No condition. -/
import Derived.Test.YtcmbdghbicjljaaGreatDoorQ04
import Derived.Test.YtcmbdghbicjljaaGreatDoorQ36
import Derived.Test.YtcmbdghbicjljaaGreatDoorQ23
import Derived.Test.YtcmbdghbicjljaaGreatDoorQ01
set_option linter.unusedSimpArgs false
set_option linter.unusedVariables false
namespace Go.Proofs.YtcmbdghbicjljaaGreatDoor
open Go.RowKit
mutual
def E.light : E → Bool
  | .mk o v _ n l => decide (v.s.length ≤ 60) && decide (o.length ≤ 20) && decide (n.length ≤ 60) && E.lightL l
def E.lightL : List E → Bool
  | [] => true
  | a :: l => a.light && E.lightL l
end
set_option maxRecDepth 100000 in
set_option maxHeartbeats 2000000 in
theorem light_any (e : E) : ∀ (x : Value) (S : Nat → Prop) (w : World), EAt S w e x → Calls Tryz.prog 25 #[x] w fun r w' => r = .returned (.bool e.light) ∧ Below w.heap.size w w' := by
  induction e using E.ind with
  | h o v t n l ih =>
    rintro x S w ⟨A, c, rfl, hsub⟩
    obtain ⟨hlc, hcm, hmem⟩ := hsub
    have hm : l.length ≤ 9223372036854775807 := Nat.le_trans hlc hcm
    have HI := Lib.hid (fun (k : Nat) (hk : k < l.length) (x : Value) (S : Nat → Prop) (w : World) (hx : EAt S w l[k] x) => ih l[k] (List.getElem_mem hk) x S w hx)
    simp only [E.op, E.v, E.tb, E.nm, E.l, eVal, E.light]
    have HL : Hid (∀ k (hk : k < l.length), E.lightL (l.drop k) = (l[k].light && E.lightL (l.drop (k + 1)))) := fun k hk => by rw [List.drop_eq_getElem_cons hk]; simp only [E.lightL]
    generalize hR : E.lightL l = R at *
    have HR : Hid (E.lightL (l.drop 0) = R) := by rw [List.drop_zero]; exact hR
    clear hR
    have z1 : (str o).size = o.length := str_size o
    have z2 : (str n).size = n.length := str_size n
    have z3 : (str v.s).size = v.s.length := str_size v.s
    rw [← z1, ← z2, ← z3]
    clear z1 z2 z3
    generalize str o = bo at *
    generalize str t = bt at *
    generalize str n = bn at *
    generalize str v.s = bs at *
    generalize v.k = vk at *
    generalize v.i = vi at *
    obtain ⟨W1, hW1, q1, z1, r1⟩ := box7 w (.string bo) (.int .i64 vk) (.int .i64 vi) (.string bs) (.string bt) (.string bn) (.slice A l.length c)
    obtain ⟨x0, x1, x2, x3, x4, x5, x6⟩ := q1.cells
    have HM := Lib.hid hmem
    have HB0 := Lib.hid r1
    have HW1 := Lib.hid hW1
    clear ih hmem hlc hcm hW1 q1 z1 r1
    by_cases h1 : bs.size ≤ 60 ∧ bo.size ≤ 20 ∧ bn.size ≤ 60
    · obtain ⟨ha, hb, hc⟩ := h1
      have hd : (decide (bs.size ≤ 60) && decide (bo.size ≤ 20) && decide (bn.size ≤ 60) && R) = R := by simp [ha, hb, hc]
      rw [hd]
      clear hd
      go_enter Tryz.func25, Tryz.ntmps25
      go_wp2_with (rw [← HW1.out])
      clear x0 x1 x2 x3 x4 x5 x6 ha hb hc
      go_loopw [25] (fun iv wr => ∃ k : Nat, k ≤ l.length ∧ iv = .int .i64 k ∧ Hid (E.lightL (l.drop k) = R) ∧ Hid (Below w.heap.size w wr)) (fun iv _ => l.length - (intOf iv).toNat)
      case atStart => exact ⟨0, Nat.zero_le _, rfl, HR.out, HB0.out⟩
      case round =>
        obtain ⟨k, hk, rfl, HK, HB⟩ := hrel
        by_cases hlt : k < l.length
        · obtain ⟨g, off, rfl, hS, hg, hl⟩ := HM.out (by omega)
          obtain ⟨A', c', ⟨g0, g1, g2, g3, g4, g5, g6⟩, hs⟩ := hl.get k hlt
          have hkz : (k : Int) < (l.length : Int) := by omega
          have i0 := (HB.out.cell (p := ⟨g, off + k * 7, none⟩) hg).trans g0
          have i1 := (HB.out.cell (p := ⟨g, off + k * 7 + 1, none⟩) hg).trans g1
          have i2 := (HB.out.cell (p := ⟨g, off + k * 7 + 2, none⟩) hg).trans g2
          have i3 := (HB.out.cell (p := ⟨g, off + k * 7 + 3, none⟩) hg).trans g3
          have i4 := (HB.out.cell (p := ⟨g, off + k * 7 + 4, none⟩) hg).trans g4
          have i5 := (HB.out.cell (p := ⟨g, off + k * 7 + 5, none⟩) hg).trans g5
          have i6 := (HB.out.cell (p := ⟨g, off + k * 7 + 6, none⟩) hg).trans g6
          obtain ⟨W1, W, hW1, hW, b1, b2, hz, hb1, hb2⟩ := made7 wr (.string (str l[k].op)) (.int .i64 l[k].v.k) (.int .i64 l[k].v.i) (.string (str l[k].v.s)) (.string (str l[k].tb)) (.string (str l[k].nm)) (.slice A' l[k].l.length c')
          have f1 := b1.free
          have y1 := b2.cells
          obtain ⟨p10, p11, p12, p13, p14, p15, p16⟩ := b1.cells
          have hE : EAt S W l[k] (eVal l[k].op l[k].v l[k].tb l[k].nm (.slice A' l[k].l.length c')) := by
            have h0 : EAt S w l[k] (eVal l[k].op l[k].v l[k].tb l[k].nm (.slice A' l[k].l.length c')) := ⟨A', c', rfl, hs⟩
            exact (h0.later HB.out).later hb2
          have HC := Lib.hid (HI.out k hlt _ S W hE)
          have hKK := HL.out k hlt
          rw [HK.out] at hKK
          have HB2 := Lib.hid (bthen HB.out hb2)
          have HW1 := Lib.hid hW1
          have HW := Lib.hid hW
          obtain ⟨f10, f11, f12, f13, f14, f15, f16⟩ := f1
          obtain ⟨y10, y11, y12, y13, y14, y15, y16⟩ := y1
          unfold eVal at HC
          generalize str l[k].op = bo' at *
          generalize str l[k].tb = bt' at *
          generalize str l[k].nm = bn' at *
          generalize str l[k].v.s = bs' at *
          generalize l[k].v.k = vk' at *
          generalize l[k].v.i = vi' at *
          generalize l[k].l.length = ln' at *
          generalize hdp : l[k].light = Q at *
          have HKK := Lib.hid hKK
          clear hW1 hW hs hl hE g0 g1 g2 g3 g4 g5 g6 b1 b2 hb1 hb2 HB HI HM HB0 hdp HK HR HL hKK
          go_wp2_with (first | (rw [← HW.out]) | (rw [← HW1.out]))
          refine (HC.out).mono ?_
          rintro e w3 ⟨rfl, b3⟩
          have hk3 := HKK.out
          cases Q
          · rw [Bool.false_and] at hk3
            subst hk3
            go_wp2_with fail
            go_ret
            exact ⟨rfl, bthen HB2.out b3⟩
          · rw [Bool.true_and] at hk3
            have HK3 := Lib.hid hk3.symm
            clear hk3 HKK
            go_wp2_with fail
            go_roundw
            case measure => simp [intOf]; omega
            case rel => exact ⟨k + 1, by omega, by go_num, HK3.out, bthen HB2.out b3⟩
        · have hke : k = l.length := by omega
          have hkz : ¬ (k : Int) < (l.length : Int) := by omega
          subst hke
          have hKK := HK.out
          rw [List.drop_length] at hKK
          simp only [E.lightL] at hKK
          subst hKK
          clear HM HI HB0 HL HR HK
          go_wp2_with fail
          go_ret
          exact ⟨rfl, HB.out⟩
    · have hd : (decide (bs.size ≤ 60) && decide (bo.size ≤ 20) && decide (bn.size ≤ 60) && R) = false := by
        simp only [Bool.and_eq_false_iff, decide_eq_false_iff_not]
        omega
      rw [hd]
      have hd2 : (decide (60 < (bs.size : Int)) || decide (20 < (bo.size : Int)) || decide (60 < (bn.size : Int))) = true := by
        simp only [Bool.or_eq_true, decide_eq_true_eq]
        omega
      clear hd h1
      go_enter Tryz.func25, Tryz.ntmps25
      go_wp2_with (rw [← HW1.out])
      all_goals (go_ret; first | exact ⟨rfl, HB0.out⟩ | (exfalso; omega))
end Go.Proofs.YtcmbdghbicjljaaGreatDoor
namespace Go.Proofs.YtcmbdghbicjljaaGreatDoor
open Go.RowKit
theorem bel_allocB (w : World) (o : Obj) : Below w.heap.size w (w.alloc o) := (Below.refl w.heap.size w).alloc (Nat.le_refl _) o
def okE (e : E) : Bool := decide (0 ≤ e.left 60) && e.light
set_option maxRecDepth 100000 in
set_option maxHeartbeats 4000000 in
theorem big_any (xs : List BV.V) (A : Option Addr) (c : Nat) (es : List E) (v : Vl) (B : Option Addr) (c' : Nat) (S : Nat → Prop) (w : World) (hr : BV.RowAt w w.heap.size A xs) (hl : xs.length ≤ 140737488355328) (ht : ∀ v ∈ xs, v.s.size ≤ 140737488355328) (hsub : Sub S w (.mk [] v [] [] es) B c') :
    Calls Tryz.prog 8 #[.slice A xs.length c, .slice B es.length c'] w fun e w' => e = .returned (.bool (!(es.all okE && BV.few [⟨A, c, xs⟩] 600))) ∧ Below w.heap.size w w' := by
  have HCF : Hid (∀ W1, Below w.heap.size w W1 → Calls Tryz.prog 26 #[.slice (some ⟨W1.heap.size, 0, none⟩) 1 1, .int .i64 600] (W1.alloc (.cells #[.slice A xs.length c] 28)) fun e w' => e = .returned (.bool (BV.few [⟨A, c, xs⟩] 600)) ∧ Below W1.heap.size W1 w') := by
    refine Lib.hid fun W1 hb1 => ?_
    have hs : BV.Small [⟨A, c, xs⟩] := by
      intro r h
      simp at h
      subst h
      exact ⟨hl, ht⟩
    have hra := BV.rows_made W1 [⟨A, c, xs⟩] (by intro r h; simp at h; subst h; exact hr.later hb1) #[.slice A xs.length c] (by simp [BV.R.val]) 28
    refine (BV.few_any [⟨A, c, xs⟩] (some ⟨W1.heap.size, 0, none⟩) 1 600 _ hra (by simp) hs (by omega) (by omega)).mono ?_
    rintro e w2 ⟨rfl, b2⟩
    exact ⟨rfl, bthen (bel_allocB W1 _) b2⟩
  obtain ⟨hlc, hcm, hmem⟩ := hsub
  have hm : es.length ≤ 9223372036854775807 := Nat.le_trans hlc hcm
  have HM := Lib.hid hmem
  have HL : Hid (∀ k (hk : k < es.length), (es.drop k).all okE = (okE es[k] && (es.drop (k + 1)).all okE)) := fun k hk => by rw [List.drop_eq_getElem_cons hk, List.all_cons]
  clear hr hl ht hmem hlc hcm
  generalize BV.few [⟨A, c, xs⟩] 600 = b at *
  generalize xs.length = n at *
  generalize hR : es.all okE = R at *
  have HR : Hid ((es.drop 0).all okE = R) := by rw [List.drop_zero]; exact hR
  clear hR
  go_enter Tryz.func8, Tryz.ntmps8
  go_wp2_with fail
  go_loopw [9] (fun iv wr => ∃ k : Nat, k ≤ es.length ∧ iv = .int .i64 k ∧ Hid ((es.drop k).all okE = R) ∧ Hid (Below w.heap.size w wr)) (fun iv _ => es.length - (intOf iv).toNat)
  case atStart => exact ⟨0, Nat.zero_le _, rfl, HR.out, Below.refl _ _⟩
  case round =>
    obtain ⟨k, hk, rfl, HK, HB⟩ := hrel
    by_cases hlt : k < es.length
    · obtain ⟨g, off, rfl, hS, hg, hl⟩ := HM.out (by omega)
      obtain ⟨A', c'', ⟨g0, g1, g2, g3, g4, g5, g6⟩, hs⟩ := hl.get k hlt
      have hkz : (k : Int) < (es.length : Int) := by omega
      have i0 := (HB.out.cell (p := ⟨g, off + k * 7, none⟩) hg).trans g0
      have i1 := (HB.out.cell (p := ⟨g, off + k * 7 + 1, none⟩) hg).trans g1
      have i2 := (HB.out.cell (p := ⟨g, off + k * 7 + 2, none⟩) hg).trans g2
      have i3 := (HB.out.cell (p := ⟨g, off + k * 7 + 3, none⟩) hg).trans g3
      have i4 := (HB.out.cell (p := ⟨g, off + k * 7 + 4, none⟩) hg).trans g4
      have i5 := (HB.out.cell (p := ⟨g, off + k * 7 + 5, none⟩) hg).trans g5
      have i6 := (HB.out.cell (p := ⟨g, off + k * 7 + 6, none⟩) hg).trans g6
      obtain ⟨W1, W, hW1, hW, b1, b2, hz, hb1, hb2⟩ := made7 wr (.string (str es[k].op)) (.int .i64 es[k].v.k) (.int .i64 es[k].v.i) (.string (str es[k].v.s)) (.string (str es[k].tb)) (.string (str es[k].nm)) (.slice A' es[k].l.length c'')
      have f1 := b1.free
      have y1 := b2.cells
      obtain ⟨p10, p11, p12, p13, p14, p15, p16⟩ := b1.cells
      have hE : EAt S W es[k] (eVal es[k].op es[k].v es[k].tb es[k].nm (.slice A' es[k].l.length c'')) := by
        have h0 : EAt S w es[k] (eVal es[k].op es[k].v es[k].tb es[k].nm (.slice A' es[k].l.length c'')) := ⟨A', c'', rfl, hs⟩
        exact (h0.later HB.out).later hb2
      have HF := Lib.hid (few_e es[k] _ S W 60 hE (by omega) (by omega))
      have HG := Lib.hid (fun W2 (hb : Below W.heap.size W W2) => light_any es[k] _ S W2 (hE.later hb))
      have hKK := HL.out k hlt
      rw [HK.out] at hKK
      have hko : okE es[k] = (decide (0 ≤ es[k].left 60) && es[k].light) := rfl
      rw [hko] at hKK
      have HB2 := Lib.hid (bthen HB.out hb2)
      have HW1 := Lib.hid hW1
      have HW := Lib.hid hW
      obtain ⟨f10, f11, f12, f13, f14, f15, f16⟩ := f1
      have HQ2 := Lib.hid b2
      obtain ⟨y10, y11, y12, y13, y14, y15, y16⟩ := y1
      unfold eVal at HF HG
      generalize str es[k].op = bo' at *
      generalize str es[k].tb = bt' at *
      generalize str es[k].nm = bn' at *
      generalize str es[k].v.s = bs' at *
      generalize es[k].v.k = vk' at *
      generalize es[k].v.i = vi' at *
      generalize es[k].l.length = ln' at *
      generalize decide (0 ≤ es[k].left 60) = Q1 at *
      generalize es[k].light = Q2 at *
      have HKK := Lib.hid hKK
      clear hW1 hW hs hl hE g0 g1 g2 g3 g4 g5 g6 b1 b2 hb1 hb2 HB HM HK HR HL hKK hko
      go_wp2_with (first | (rw [← HW.out]) | (rw [← HW1.out]))
      refine (HF.out).mono ?_
      rintro e w3 ⟨rfl, b3⟩
      have hk3 := HKK.out
      have HB3 := Lib.hid (bthen HB2.out b3)
      have q3 := HQ2.out.later b3
      have HG3 := Lib.hid (HG.out w3 b3)
      obtain ⟨u0, u1, u2, u3, u4, u5, u6⟩ := q3.cells
      clear y10 y11 y12 y13 y14 y15 y16 q3 b3 HF HG HQ2
      cases Q1
      · rw [Bool.false_and, Bool.false_and] at hk3
        subst hk3
        go_wp2_with fail
        exact bodyPost_ret (v := .bool true) (by simp [results, Tryz.results8, go_sem]) rfl ⟨by rw [Bool.false_and]; rfl, HB3.out⟩
      · rw [Bool.true_and] at hk3
        have HK3 := Lib.hid hk3
        clear hk3 HKK
        go_wp2_with fail
        refine (HG3.out).mono ?_
        rintro e w4 ⟨rfl, b4⟩
        have HB4 := Lib.hid (bthen HB3.out b4)
        have hk3 := HK3.out
        clear b4 u0 u1 u2 u3 u4 u5 u6 HK3
        cases Q2
        · rw [Bool.false_and] at hk3
          subst hk3
          go_wp2_with fail
          exact bodyPost_ret (v := .bool true) (by simp [results, Tryz.results8, go_sem]) rfl ⟨by rw [Bool.false_and]; rfl, HB4.out⟩
        · rw [Bool.true_and] at hk3
          have HK3 := Lib.hid hk3.symm
          clear hk3
          go_wp2_with fail
          go_roundw
          case measure => simp [intOf]; omega
          case rel => exact ⟨k + 1, by omega, by go_num, HK3.out, HB4.out⟩
    · have hke : k = es.length := by omega
      have hkz : ¬ (k : Int) < (es.length : Int) := by omega
      subst hke
      have hKK := HK.out
      rw [List.drop_length, List.all_nil] at hKK
      subst hKK
      have HC := Lib.hid (HCF.out wr HB.out)
      clear HM HL HR HK HCF
      go_wp2_with fail
      refine (HC.out).mono ?_
      rintro e w2 ⟨rfl, b2⟩
      go_wp2_with fail
      exact bodyPost_ret (v := .bool (!b)) (by simp [results, Tryz.results8, go_sem]) rfl ⟨by rw [Bool.true_and], bthen HB.out b2⟩
end Go.Proofs.YtcmbdghbicjljaaGreatDoor
