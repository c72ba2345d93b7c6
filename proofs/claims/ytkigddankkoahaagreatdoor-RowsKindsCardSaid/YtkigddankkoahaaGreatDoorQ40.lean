import Derived.Test.YtkigddankkoahaaGreatDoorQ29
import Derived.Test.YtkigddankkoahaaGreatDoorQ26
import Derived.Test.YtkigddankkoahaaGreatDoorQ23
import Derived.Test.YtkigddankkoahaaGreatDoorQ32
import Derived.Test.YtkigddankkoahaaGreatDoorQ38
import Derived.Test.YtkigddankkoahaaGreatDoorQ01
set_option linter.unusedSimpArgs false
set_option linter.unusedVariables false
namespace Go.Proofs.YtkigddankkoahaaGreatDoor
open Go.RowKit
theorem gives_yes {w w' : World} {e f : E} {A : Option Addr} {c : Nat} (hn : e = f) (hs : Sub (fun b => w.heap.size ≤ b) w' f A c) (hb : Below w.heap.size w w') : GivesE w e (.returned (eVal f.op f.v f.tb f.nm (.slice A f.l.length c))) w' := ⟨A, c, by rw [hn], by rw [hn]; exact hs, hb⟩
theorem gives_at {w w' : World} {e : E} {i : Int} (hn : e = swE i) (hb : Below w.heap.size w w') : GivesE w e (.returned (.agg #[.string ⟨#[97, 116]⟩, .int .i64 2, .int .i64 i, .string ⟨#[]⟩, .string ⟨#[]⟩, .string ⟨#[]⟩, .slice none 0 0])) w' :=
  ⟨none, 0, by rw [hn]; rfl, by rw [hn]; exact sub_none _ _ _ _ _ _, hb⟩
set_option maxRecDepth 100000 in
set_option maxHeartbeats 4000000 in
theorem swap_at (a b : Int) (v : Vl) (t n : List UInt8) (l : List E) (A : Option Addr) (c : Nat) (w : World) : Calls Tryz.prog 12 #[eVal wAt v t n (.slice A l.length c), .int .i64 a, .int .i64 b] w (GivesE w ((E.mk wAt v t n l).sw a b)) := by
  show Calls Tryz.prog 12 #[.agg #[.string ⟨#[97, 116]⟩, .int .i64 v.k, .int .i64 v.i, .string (str v.s), .string (str t), .string (str n), .slice A l.length c], .int .i64 a, .int .i64 b] w _
  obtain ⟨W1, hW1, q1, z1, r1⟩ := box7 w (.string ⟨#[97, 116]⟩) (.int .i64 v.k) (.int .i64 v.i) (.string (str v.s)) (.string (str t)) (.string (str n)) (.slice A l.length c)
  obtain ⟨W2, hW2, q2, z2, r2⟩ := zero7 W1
  have HQ2 := Lib.hid q2
  have HB := Lib.hid (bthen r1 r2)
  have HW1 := Lib.hid hW1
  have HW2 := Lib.hid hW2
  obtain ⟨x0, x1, x2, x3, x4, x5, x6⟩ := (q1.later r2).cells
  have HZ := Lib.hid z1
  by_cases hi : v.i < a
  · have HE : Hid ((E.mk wAt v t n l).sw a b = swE (wrap64 (v.i + b))) := Lib.hid (by rw [E.sw, if_pos rfl, if_pos hi])
    generalize (E.mk wAt v t n l).sw a b = fe at *
    clear hW1 hW2 q1 q2 r1 r2 z1 z2
    go_enter Tryz.func12, Tryz.ntmps12
    go_wp2_with (first | (rw [← HW2.out]) | (rw [← HW1.out]))
    refine (at1_any (wrap64 (v.i + b)) W2).mono ?_
    rintro e w3 ⟨rfl, b3⟩
    obtain ⟨y0, y1, y2, y3, y4, y5, y6⟩ := (HQ2.out.later b3).cells
    obtain ⟨f0, f1, f2, f3, f4, f5, f6⟩ := (HQ2.out.later b3).free
    obtain ⟨Wf, hWf, qf, zf, kf, bf⟩ := stored7 (HQ2.out.later b3) (.string ⟨#[97, 116]⟩) (.int .i64 2) (.int .i64 (wrap64 (v.i + b))) (.string ⟨#[]⟩) (.string ⟨#[]⟩) (.string ⟨#[]⟩) (.slice none 0 0)
    have HFIN := Lib.hid (gives_at HE.out ((bthen HB.out b3).trans (bf w.heap.size (by have := HZ.out; omega))))
    obtain ⟨a0, a1, a2, a3, a4, a5, a6⟩ := qf.cells
    have HWF := Lib.hid hWf
    clear hWf qf zf kf bf b3 HE
    go_wp2_with (rw [← HWF.out])
    exact bodyPost_ret (v := .agg #[.string ⟨#[97, 116]⟩, .int .i64 2, .int .i64 (wrap64 (v.i + b)), .string ⟨#[]⟩, .string ⟨#[]⟩, .string ⟨#[]⟩, .slice none 0 0]) (by (simp [results, Tryz.results12, go_sem, a0, a1, a2, a3, a4, a5, a6]) <;> assumption) rfl HFIN.out
  · have HE : Hid ((E.mk wAt v t n l).sw a b = swE (wrap64 (v.i - a))) := Lib.hid (by rw [E.sw, if_pos rfl, if_neg hi])
    generalize (E.mk wAt v t n l).sw a b = fe at *
    clear hW1 hW2 q1 q2 r1 r2 z1 z2
    go_enter Tryz.func12, Tryz.ntmps12
    go_wp2_with (first | (rw [← HW2.out]) | (rw [← HW1.out]))
    refine (at1_any (wrap64 (v.i - a)) W2).mono ?_
    rintro e w3 ⟨rfl, b3⟩
    obtain ⟨y0, y1, y2, y3, y4, y5, y6⟩ := (HQ2.out.later b3).cells
    obtain ⟨f0, f1, f2, f3, f4, f5, f6⟩ := (HQ2.out.later b3).free
    obtain ⟨Wf, hWf, qf, zf, kf, bf⟩ := stored7 (HQ2.out.later b3) (.string ⟨#[97, 116]⟩) (.int .i64 2) (.int .i64 (wrap64 (v.i - a))) (.string ⟨#[]⟩) (.string ⟨#[]⟩) (.string ⟨#[]⟩) (.slice none 0 0)
    have HFIN := Lib.hid (gives_at HE.out ((bthen HB.out b3).trans (bf w.heap.size (by have := HZ.out; omega))))
    obtain ⟨a0, a1, a2, a3, a4, a5, a6⟩ := qf.cells
    have HWF := Lib.hid hWf
    clear hWf qf zf kf bf b3 HE
    go_wp2_with (rw [← HWF.out])
    exact bodyPost_ret (v := .agg #[.string ⟨#[97, 116]⟩, .int .i64 2, .int .i64 (wrap64 (v.i - a)), .string ⟨#[]⟩, .string ⟨#[]⟩, .string ⟨#[]⟩, .slice none 0 0]) (by (simp [results, Tryz.results12, go_sem, a0, a1, a2, a3, a4, a5, a6]) <;> assumption) rfl HFIN.out
set_option maxRecDepth 100000 in
set_option maxHeartbeats 4000000 in
theorem swap_any (a b : Int) (e : E) : ∀ (x : Value) (S : Nat → Prop) (w : World), EAt S w e x → e.size ≤ 100000 → Calls Tryz.prog 12 #[x, .int .i64 a, .int .i64 b] w (GivesE w (e.sw a b)) := by
  induction e using E.ind with
  | h o v t n l ih =>
    rintro x S w ⟨A, c, rfl, hsub⟩ hsz
    by_cases hat : o = wAt
    · subst hat
      exact swap_at a b v t n l A c w
    have HSW : Hid ((E.mk o v t n l).sw a b = .mk o v t n (E.swL a b l)) := Lib.hid (by rw [E.sw, if_neg hat])
    obtain ⟨hlc, hcm, hmem⟩ := hsub
    have hm : l.length ≤ 9223372036854775807 := Nat.le_trans hlc hcm
    have hlen := len_size l
    simp only [E.size] at hsz
    have HI := Lib.hid (fun (k : Nat) (hk : k < l.length) (x : Value) (S : Nat → Prop) (w : World) (hx : EAt S w l[k] x) => ih l[k] (List.getElem_mem hk) x S w hx (by have := size_mem (List.getElem_mem hk); omega))
    have eT : ((str o).toList == [97, 116]) = false := by
      rw [Lib.toList_data, str_list]
      show (o == wAt) = false
      simpa using hat
    obtain ⟨W1, hW1, q1, z1, r1⟩ := box7 w (.string (str o)) (.int .i64 v.k) (.int .i64 v.i) (.string (str v.s)) (.string (str t)) (.string (str n)) (.slice A l.length c)
    obtain ⟨W2, hW2, q2, z2, r2⟩ := zero7 W1
    have HQ1b := Lib.hid (q1.later r2)
    have HQ2b := Lib.hid q2
    have HBb := Lib.hid (bthen r1 r2)
    have HW1 := Lib.hid hW1
    have HW2 := Lib.hid hW2
    obtain ⟨x0, x1, x2, x3, x4, x5, x6⟩ := (q1.later r2).cells
    have HM := Lib.hid hmem
    clear hmem hlc hcm hW1 hW2 q1 q2 r1 r2 ih hat
    have HZ := Lib.hid (⟨z1, z2⟩ : W1.heap.size = w.heap.size + 1 ∧ W2.heap.size = W1.heap.size + 1)
    clear z1 z2
    have HLEN : Hid (∀ k, (E.swL a b (l.take k)).length ≤ 1000000) := Lib.hid fun k => by rw [swL_map, List.length_map, List.length_take]; omega
    generalize (E.mk o v t n l).sw a b = fe at *
    simp only [E.op, E.v, E.tb, E.nm, E.l, eVal]
    go_enter Tryz.func12, Tryz.ntmps12
    go_wp2_with (first | (rw [← HW2.out]) | (rw [← HW1.out]))
    clear x0 x1 x2 x3 x4 x5 x6 eT
    have hz0 : 0 < W2.heap.size := by have := HQ1b.out.lt; omega
    have HZ0 := Lib.hid hz0
    have HS12 := Lib.hid (⟨HQ1b.out.lt, HQ2b.out.lt⟩ : w.heap.size < W2.heap.size ∧ W1.heap.size < W2.heap.size)
    clear hz0
    go_loopw [33, 7] (fun iv lv wr => ∃ k : Nat, k ≤ l.length ∧ iv = .int .i64 k ∧ Hid (Below W2.heap.size W2 wr) ∧ Hid (OwnL wr W2.heap.size (fun j => W2.heap.size ≤ j) (E.swL a b (l.take k)) false lv)) (fun iv _ _ => l.length - (intOf iv).toNat)
    case atStart => exact ⟨0, Nat.zero_le _, rfl, Below.refl _ _, Lib.hid (by rw [List.take_zero]; exact ownL_nilE _ _ _)⟩
    case round =>
      obtain ⟨k, hk, rfl, HBr, HO⟩ := hrel
      have Q1 := Lib.hid (HQ1b.out.later HBr.out)
      have Q2 := Lib.hid (HQ2b.out.later HBr.out)
      have HBw := Lib.hid (bthen HBb.out HBr.out)
      by_cases hlt : k < l.length
      · obtain ⟨g, off, hA, hS, hg, hl⟩ := HM.out (by omega)
        obtain ⟨A', c', ⟨g0, g1, g2, g3, g4, g5, g6⟩, hs⟩ := hl.get k hlt
        have hkz : (k : Int) < (l.length : Int) := by omega
        subst hA
        have i0 := (HBw.out.cell (p := ⟨g, off + k * 7, none⟩) hg).trans g0
        have i1 := (HBw.out.cell (p := ⟨g, off + k * 7 + 1, none⟩) hg).trans g1
        have i2 := (HBw.out.cell (p := ⟨g, off + k * 7 + 2, none⟩) hg).trans g2
        have i3 := (HBw.out.cell (p := ⟨g, off + k * 7 + 3, none⟩) hg).trans g3
        have i4 := (HBw.out.cell (p := ⟨g, off + k * 7 + 4, none⟩) hg).trans g4
        have i5 := (HBw.out.cell (p := ⟨g, off + k * 7 + 5, none⟩) hg).trans g5
        have i6 := (HBw.out.cell (p := ⟨g, off + k * 7 + 6, none⟩) hg).trans g6
        obtain ⟨Wa, Wb, hWa, hWb, b1, b2, hz, hb1, hb2⟩ := made7 wr (.string (str l[k].op)) (.int .i64 l[k].v.k) (.int .i64 l[k].v.i) (.string (str l[k].v.s)) (.string (str l[k].tb)) (.string (str l[k].nm)) (.slice A' l[k].l.length c')
        have hf1 := b1.free
        have hy1 := b2.cells
        obtain ⟨p10, p11, p12, p13, p14, p15, p16⟩ := b1.cells
        have hE : EAt S Wb l[k] (eVal l[k].op l[k].v l[k].tb l[k].nm (.slice A' l[k].l.length c')) := by
          have h0 : EAt S w l[k] (eVal l[k].op l[k].v l[k].tb l[k].nm (.slice A' l[k].l.length c')) := ⟨A', c', rfl, hs⟩
          exact (h0.later HBw.out).later hb2
        have HC := Lib.hid (HI.out k hlt _ S Wb hE)
        have HTK : Hid (E.swL a b (l.take (k + 1)) = E.swL a b (l.take k) ++ [l[k].sw a b]) := Lib.hid (by rw [List.take_succ_eq_append_getElem hlt, swL_map, swL_map, List.map_append]; rfl)
        have HBa := Lib.hid hb2
        have HWa := Lib.hid hWa
        have HWb := Lib.hid hWb
        obtain ⟨f10, f11, f12, f13, f14, f15, f16⟩ := hf1
        obtain ⟨y10, y11, y12, y13, y14, y15, y16⟩ := hy1
        unfold eVal GivesE at HC
        generalize str l[k].op = bo' at *
        generalize str l[k].tb = bt' at *
        generalize str l[k].nm = bn' at *
        generalize str l[k].v.s = bs' at *
        generalize l[k].v.k = vk' at *
        generalize l[k].v.i = vi' at *
        generalize l[k].l.length = ln' at *
        generalize l[k].sw a b = ek at *
        clear hWa hWb hs hl hE g0 g1 g2 g3 g4 g5 g6 b1 b2 hb1 hb2 hz HI HM
        go_wp2_with (first | (rw [← HWb.out]) | (rw [← HWa.out]))
        refine (HC.out).mono ?_
        rintro r w4 ⟨An, cn, rfl, hs4, b4⟩
        obtain ⟨v6, w6, r6, HO6, HB6⟩ := app_nmd HZ0.out HBr.out HBa.out b4 (Below.refl _ _) HO.out hs4 (HLEN.out k)
        rw [← HTK.out] at HO6
        clear b4 HC f10 f11 f12 f13 f14 f15 f16 y10 y11 y12 y13 y14 y15 y16 p10 p11 p12 p13 p14 p15 p16 hs4 HTK HO HBr Q1 Q2 HBw
        unfold eVal
        generalize str ek.op = bo2 at *
        generalize str ek.tb = bt2 at *
        generalize str ek.nm = bn2 at *
        generalize str ek.v.s = bs2 at *
        generalize ek.v.k = vk2 at *
        generalize ek.v.i = vi2 at *
        generalize ek.l.length = ln2 at *
        go_wp2_with (at_builtin; refine Lib.wpList_append_run_sl _ rfl _ _ 27 rfl _ _ rfl rfl r6 ?_)
        go_roundw
        case measure => simp [intOf]; omega
        case rel => exact ⟨k + 1, by omega, by go_num, HB6.out, HO6⟩
      · have hke : k = l.length := by omega
        have hkz : ¬ (k : Int) < (l.length : Int) := by omega
        subst hke
        have ho := HO.out
        rw [List.take_length] at ho
        obtain ⟨ys, Ay, cy, rfl, hsy, hey⟩ := ho.got (fun k hk => hk)
        obtain rfl := hey rfl
        have HSY := Lib.hid hsy
        have Q1s := Lib.hid (set6 Q1.out (.slice Ay (E.swL a b l).length cy))
        obtain ⟨Ws, hWs⟩ : ∃ Ws : World, Ws = wr.setCell ⟨w.heap.size, 6, none⟩ (.slice Ay (E.swL a b l).length cy) := ⟨_, rfl⟩
        rw [← hWs] at Q1s
        have hbs : Below w.heap.size wr Ws := by rw [hWs]; exact (Below.refl _ _).setCell (p := ⟨w.heap.size, 6, none⟩) (Nat.le_refl _) _
        have hks : ∀ j, j ≠ w.heap.size → Ws.heap[j]? = wr.heap[j]? := fun j hj => by rw [hWs]; exact Below.heap_setCell _ _ _ _ hj
        have Q2s := Lib.hid (Q2.out.same (hks W1.heap.size (by have := HZ.out.1; omega)))
        have HBs := Lib.hid (HBw.out.trans hbs)
        have HKS := Lib.hid hks
        have HWs := Lib.hid hWs
        obtain ⟨e0, e1, e2, e3, e4, e5, e6⟩ := Q1.out.cells
        obtain ⟨h0, h1, h2, h3, h4, h5, h6⟩ := Q1.out.free
        obtain ⟨u0, u1, u2, u3, u4, u5, u6⟩ := Q1s.out.cells
        obtain ⟨o0, o1, o2, o3, o4, o5, o6⟩ := Q2s.out.cells
        obtain ⟨m0, m1, m2, m3, m4, m5, m6⟩ := Q2s.out.free
        clear HM HI ho hsy hWs hbs hks HO
        obtain ⟨Wf, hWf, qf, zf, kf, bf⟩ := stored7 Q2s.out (.string (str o)) (.int .i64 v.k) (.int .i64 v.i) (.string (str v.s)) (.string (str t)) (.string (str n)) (.slice Ay (E.swL a b l).length cy)
        have hfin : Sub (fun b => w.heap.size ≤ b) Wf (.mk o v t n (E.swL a b l)) Ay cy := HSY.out.keep (fun j hj hlt => ⟨by have := HBb.out.size; omega, (kf j (by have := HS12.out.2; omega)).trans (HKS.out j (by have := HS12.out.1; omega))⟩) (by rw [zf, HWs.out, size_setCell]; exact Nat.le_refl _)
        have HFIN : Hid (GivesE w fe (.returned (.agg #[.string (str o), .int .i64 v.k, .int .i64 v.i, .string (str v.s), .string (str t), .string (str n), .slice Ay (E.swL a b l).length cy])) Wf) := Lib.hid (gives_yes HSW.out hfin (HBs.out.trans (bf _ (by have := HZ.out.1; omega))))
        obtain ⟨a0, a1, a2, a3, a4, a5, a6⟩ := qf.cells
        have HWf := Lib.hid hWf
        clear hWf qf zf kf bf hfin
        go_wp2_with (first | (rw [← HWs.out]) | (rw [← HWf.out]))
        exact bodyPost_ret (v := .agg #[.string (str o), .int .i64 v.k, .int .i64 v.i, .string (str v.s), .string (str t), .string (str n), .slice Ay (E.swL a b l).length cy]) (by simp [results, Tryz.results12, go_sem, a0, a1, a2, a3, a4, a5, a6]) rfl HFIN.out
end Go.Proofs.YtkigddankkoahaaGreatDoor
namespace Go.Proofs.YtkigddankkoahaaGreatDoor
open Go.RowKit
def litT : E := lit ⟨1, 1, []⟩
theorem tru_lit (r : List BV.V) : truP litT r = (0, true) := by
  unfold truP litT
  have h : (lit ⟨1, 1, []⟩).ev deedP r = (0, toV ⟨1, 1, []⟩) := by simp [lit, E.ev, E.evL, opP]
  rw [h]
  simp [toV, LG.isV, BV.sameB, LG.bi, str]
theorem cross_la {a b : List (List BV.V)} {A B : Option Addr} {n ca m cb wa wb : Nat} {S : Nat → Prop} {e : E} {x : Value} {w : World} (ha : LA w A n ca a) (hb : LA w B m cb b) (hx : EAt S w e x) (hE : SC.Env w) (hla : n ≤ 500) (hlb : m ≤ 500) (hwa : ∀ r ∈ a, r.length ≤ 60) (hwb : ∀ r ∈ b, r.length ≤ 60) (hna : wa ≤ 60) (hnb : wb ≤ 60) :
    Calls Tryz.prog 9 #[.string ⟨#[99, 114, 111, 115, 115]⟩, .slice A n ca, .slice B m cb, .int .i64 wa, .int .i64 wb, x] w (Told w 0 (pairsP a b)) := by
  have hk : Asks w (.agg #[.string ⟨#[108, 105, 116]⟩, .int .i64 1, .int .i64 1, .string ⟨#[]⟩, .string ⟨#[]⟩, .string ⟨#[]⟩, .slice none 0 0]) (fun _ => (0, true)) a b := by
    have h := asks_of (S := fun _ => True) (e := litT) (xv := .agg #[.string ⟨#[108, 105, 116]⟩, .int .i64 1, .int .i64 1, .string ⟨#[]⟩, .string ⟨#[]⟩, .string ⟨#[]⟩, .slice none 0 0]) (w := w) ⟨none, 0, rfl, sub_none (fun _ => True) _ _ _ _ _⟩ hE (a := a) (b := b) (fun x h1 y h2 => by have := hwa x h1; have := hwb y h2; rw [List.length_append]; omega) (fun x h1 y h2 => ⟨by simp, by decide, trivial⟩)
    rw [show truP litT = fun _ => (0, true) from funext tru_lit] at h
    exact h
  obtain ⟨A1, c1, rfl, hs⟩ := hx
  obtain ⟨ra, rfl, rfl, -, h1, -⟩ := ha
  obtain ⟨rb, rfl, rfl, -, h2, -⟩ := hb
  unfold eVal
  have h := join_cross ra rb A B ca cb wa wb (str e.op) e.v.k e.v.i (str e.v.s) (str e.tb) (str e.nm) (.slice A1 e.l.length c1) (fun _ => (0, true)) w h1 h2 hla hlb (mem_xs rfl hwa) (mem_xs rfl hwb) hna hnb hk
  rw [cross_none, cross_res] at h
  exact h.mono fun _ _ h => told_of h
def EvenT (w : World) (W : Int) (rs : List BV.R) (q : Ending) (w' : World) : Prop := ∃ v, q = .returned (.tuple #[v, .int .i64 (evW W), .bool (evOk rs)]) ∧ Hid (evOk rs = true → ∃ A c, v = .slice A ((rs.map BV.R.xs).map (evR (evW W))).length c ∧ LA w' A ((rs.map BV.R.xs).map (evR (evW W))).length c ((rs.map BV.R.xs).map (evR (evW W)))) ∧ Hid (Below w.heap.size w w')
theorem even_la (W : Int) (rs : List BV.R) (A : Option Addr) (ca : Nat) (w : World) (ha : BV.RowsAt w w.heap.size A rs) (hl : rs.length ≤ 140737488355328) (hs : BV.Small rs) (hcap : ∀ r ∈ rs, r.xs.length ≤ r.c) :
    Calls Tryz.prog 7 #[.agg #[.int .i64 W, .slice A rs.length ca]] w (EvenT w W rs) := by
  refine (even_any W rs A ca w ha hl hs hcap).mono ?_
  rintro q w' ⟨v, rfl, ho, hb⟩
  exact ⟨v, rfl, Lib.hid fun h => la_own (ho.out h), hb⟩
set_option maxRecDepth 100000 in
set_option maxHeartbeats 32000000 in
theorem kinds_law (rs ss : List BV.R) (e : E) (W1 W2 : Int) (A B : Option Addr) (ca cb : Nat) (xv : Value) (S : Nat → Prop) (w : World) (hE : SC.Env w) (hE' : BV.Env w) (ha : BV.RowsAt w w.heap.size A rs) (hb : BV.RowsAt w w.heap.size B ss) (hla : rs.length ≤ 140737488355328) (hlb : ss.length ≤ 140737488355328) (hsa : BV.Small rs) (hsb : BV.Small ss) (hca : ∀ r ∈ rs, r.xs.length ≤ r.c) (hcb : ∀ r ∈ ss, r.xs.length ≤ r.c)
    (hia : ∀ r ∈ rs, ∀ v ∈ r.xs, -9223372036854775808 ≤ v.i ∧ v.i ≤ 9223372036854775807) (hib : ∀ r ∈ ss, ∀ v ∈ r.xs, -9223372036854775808 ≤ v.i ∧ v.i ≤ 9223372036854775807) (hx : EAt S w e xv) (hin : e.ints = true) :
    Calls Tryz.prog 3 #[.agg #[.int .i64 W1, .slice A rs.length ca], .agg #[.int .i64 W2, .slice B ss.length cb], xv] w fun q w' => q = .returned (.bool true) ∧ Below w.heap.size w w' := by
  obtain ⟨A7, c7, rfl, hs7⟩ := hx
  have hEV1 := Lib.hid (fun W (hb : Below w.heap.size w W) => even_la W1 rs A ca W (rowsL ha hb) hla hsa hca)
  have hEV2 := Lib.hid (fun W (hc : Below w.heap.size w W) => even_la W2 ss B cb W (rowsL hb hc) hlb hsb hcb)
  have HX := Lib.hid (fun W (hb : Below w.heap.size w W) => (show EAt S W e (.agg #[.string (str e.op), .int .i64 e.v.k, .int .i64 e.v.i, .string (str e.v.s), .string (str e.tb), .string (str e.nm), .slice A7 e.l.length c7]) from ⟨A7, c7, rfl, sub_later hs7 hb⟩))
  have HS7 := Lib.hid hs7
  have HLV := Lib.hid (fun W (hb : Below w.heap.size w W) => liveR_any W (hE.later hb) (hE'.below hb hE'.size))
  have HE := Lib.hid hE
  obtain ⟨wa, hwa⟩ : ∃ wa, wa = evW W1 := ⟨_, rfl⟩
  obtain ⟨wb, hwb⟩ : ∃ wb, wb = evW W2 := ⟨_, rfl⟩
  have hwa5 : wa ≤ 5 := by rw [hwa]; exact (evW_eq W1).2
  have hwb5 : wb ≤ 5 := by rw [hwb]; exact (evW_eq W2).2
  obtain ⟨la, hla'⟩ : ∃ la, la = (rs.map BV.R.xs).map (evR wa) := ⟨_, rfl⟩
  obtain ⟨lb, hlb'⟩ : ∃ lb, lb = (ss.map BV.R.xs).map (evR wb) := ⟨_, rfl⟩
  have HVA : Hid (evOk rs = true → Ev la wa) := Lib.hid fun h => by rw [hla']; exact ev_of h hia wa
  have HVB : Hid (evOk ss = true → Ev lb wb) := Lib.hid fun h => by rw [hlb']; exact ev_of h hib wb
  have HIN := Lib.hid hin
  have HBD := Lib.hid (fun (V : Int) (W : World) (g : Nat) (hs : Sub (fun _ => True) W (.mk [] v0 [] [] [e]) (some ⟨g, 0, none⟩) 1) => bound_any V [e] v0 (some ⟨g, 0, none⟩) 1 (fun _ => True) W hs)
  unfold EvenT at hEV1 hEV2
  rw [← hwa, ← hla'] at hEV1
  rw [← hwb, ← hlb'] at hEV2
  simp only [List.all_cons, List.all_nil, Bool.and_true, List.length_cons, List.length_nil] at HBD
  generalize rs.length = n at *
  generalize ss.length = m at *
  obtain ⟨W0, hW0⟩ : ∃ W0 : World, W0 = ((w.alloc (.cells #[.int .i64 W1, .slice A n ca] 24)).alloc (.cells #[.int .i64 W2, .slice B m cb] 24)).alloc (.cells #[.string (str e.op), .int .i64 e.v.k, .int .i64 e.v.i, .string (str e.v.s), .string (str e.tb), .string (str e.nm), .slice A7 e.l.length c7] 29) := ⟨_, rfl⟩
  have b0 : Below w.heap.size w W0 := by rw [hW0]; exact ((one_alloc w _).alloc (by simp) _).alloc (by simp; omega) _
  have HC : Hid (∀ W', Below W0.heap.size W0 W' → (W'.cell? ⟨w.heap.size, 0, none⟩ = some (.int .i64 W1) ∧ W'.cell? ⟨w.heap.size, 1, none⟩ = some (.slice A n ca) ∧ W'.cell? ⟨w.heap.size + 1, 0, none⟩ = some (.int .i64 W2) ∧ W'.cell? ⟨w.heap.size + 1, 1, none⟩ = some (.slice B m cb) ∧ W'.cell? ⟨w.heap.size + 2, 0, none⟩ = some (.string (str e.op)) ∧ W'.cell? ⟨w.heap.size + 2, 1, none⟩ = some (.int .i64 e.v.k) ∧ W'.cell? ⟨w.heap.size + 2, 2, none⟩ = some (.int .i64 e.v.i) ∧ W'.cell? ⟨w.heap.size + 2, 3, none⟩ = some (.string (str e.v.s)) ∧ W'.cell? ⟨w.heap.size + 2, 4, none⟩ = some (.string (str e.tb)) ∧ W'.cell? ⟨w.heap.size + 2, 5, none⟩ = some (.string (str e.nm)) ∧ W'.cell? ⟨w.heap.size + 2, 6, none⟩ = some (.slice A7 e.l.length c7))) := Lib.hid fun W' hb => by
    have h1 := heap_alloc_new w (.cells #[.int .i64 W1, .slice A n ca] 24)
    have h2 := heap_alloc_new (w.alloc (.cells #[.int .i64 W1, .slice A n ca] 24)) (.cells #[.int .i64 W2, .slice B m cb] 24)
    have h3 := heap_alloc_new ((w.alloc (.cells #[.int .i64 W1, .slice A n ca] 24)).alloc (.cells #[.int .i64 W2, .slice B m cb] 24)) (.cells #[.string (str e.op), .int .i64 e.v.k, .int .i64 e.v.i, .string (str e.v.s), .string (str e.tb), .string (str e.nm), .slice A7 e.l.length c7] 29)
    have z : W0.heap.size = w.heap.size + 3 := by rw [hW0]; simp
    have g1 : W0.heap[w.heap.size]? = some (.cells #[.int .i64 W1, .slice A n ca] 24 (0, 0)) := by rw [hW0, heap_alloc_old _ _ (by simp; omega), heap_alloc_old _ _ (by simp)]; exact h1
    have g2 : W0.heap[w.heap.size + 1]? = some (.cells #[.int .i64 W2, .slice B m cb] 24 (0, 0)) := by rw [hW0, heap_alloc_old _ _ (by simp)]; simpa using h2
    have g3 : W0.heap[w.heap.size + 2]? = some (.cells #[.string (str e.op), .int .i64 e.v.k, .int .i64 e.v.i, .string (str e.v.s), .string (str e.tb), .string (str e.nm), .slice A7 e.l.length c7] 29 (0, 0)) := by rw [hW0]; simpa using h3
    have k1 := (hb.block w.heap.size (by omega)).trans g1
    have k2 := (hb.block (w.heap.size + 1) (by omega)).trans g2
    have k3 := (hb.block (w.heap.size + 2) (by omega)).trans g3
    refine ⟨?_, ?_, ?_, ?_, ?_, ?_, ?_, ?_, ?_, ?_, ?_⟩
    · rw [Lib.cell_of_heap k1]; rfl
    · rw [Lib.cell_of_heap k1]; rfl
    · rw [Lib.cell_of_heap k2]; rfl
    · rw [Lib.cell_of_heap k2]; rfl
    all_goals (rw [Lib.cell_of_heap k3]; rfl)
  have HB0 := Lib.hid b0
  have HW0 := Lib.hid hW0
  have hsub1 : Hid (∀ W, Below w.heap.size w W → Sub (fun _ => True) (W.alloc (.cells #[.string (str e.op), .int .i64 e.v.k, .int .i64 e.v.i, .string (str e.v.s), .string (str e.tb), .string (str e.nm), .slice A7 e.l.length c7] 29)) (.mk [] v0 [] [] [e]) (some ⟨W.heap.size, 0, none⟩) 1) := Lib.hid fun W hb => oneS e A7 c7 (sub_later HS7.out hb) [] v0 [] []
  unfold eVal
  clear ha hb hla hlb hsa hsb hca hcb hia hib hs7 hE hE' hwa hwb hla' hlb' hin b0 hW0 HS7
  generalize str e.op = s0 at *
  generalize e.v.k = i1 at *
  generalize e.v.i = i2 at *
  generalize str e.v.s = s3 at *
  generalize str e.tb = s4 at *
  generalize str e.nm = s5 at *
  generalize e.l.length = l7 at *
  cases h1 : evOk rs
  · rw [h1] at hEV1
    clear h1
    go_enter Tryz.func3, Tryz.ntmps3
    go_wp2_with fail
    rw [← HW0.out]
    refine (HLV.out W0 HB0.out).mono ?_
    rintro q w1 ⟨rfl, b1⟩
    have BW := Lib.hid b1
    have BB := Lib.hid (bthen HB0.out b1)
    obtain ⟨c0, c1, -, -, -, -, -, -, -, -, -⟩ := HC.out w1 BW.out
    clear b1 HW0 HLV
    go_wp2_with fail
    refine (hEV1.out w1 BB.out).mono ?_
    rintro q w2 ⟨va, rfl, HLa, b2⟩
    have BW := Lib.hid (bthen BW.out b2.out)
    have BB := Lib.hid (bthen BB.out b2.out)
    have B2 := Lib.hid b2.out
    obtain ⟨-, -, c2, c3, -, -, -, -, -, -, -⟩ := HC.out w2 BW.out
    clear b2 c0 c1 hEV1
    go_wp2_with fail
    refine (hEV2.out w2 BB.out).mono ?_
    rintro q w3 ⟨vb, rfl, HLb, b3⟩
    have BW := Lib.hid (bthen BW.out b3.out)
    have BB := Lib.hid (bthen BB.out b3.out)
    have B3 := Lib.hid b3.out
    obtain ⟨-, -, -, -, e0, e1, e2, e3, e4, e5, e6⟩ := HC.out w3 BW.out
    clear b3 c2 c3 hEV2
    cases evOk ss
    · go_wp2_with fail
      go_ret
      exact ⟨rfl, BB.out⟩
    · go_wp2_with fail
      go_ret
      exact ⟨rfl, BB.out⟩
  rw [h1] at hEV1
  cases h2 : evOk ss
  · rw [h2] at hEV2
    clear h2
    go_enter Tryz.func3, Tryz.ntmps3
    go_wp2_with fail
    rw [← HW0.out]
    refine (HLV.out W0 HB0.out).mono ?_
    rintro q w1 ⟨rfl, b1⟩
    have BW := Lib.hid b1
    have BB := Lib.hid (bthen HB0.out b1)
    obtain ⟨c0, c1, -, -, -, -, -, -, -, -, -⟩ := HC.out w1 BW.out
    clear b1 HW0 HLV
    go_wp2_with fail
    refine (hEV1.out w1 BB.out).mono ?_
    rintro q w2 ⟨va, rfl, HLa, b2⟩
    have BW := Lib.hid (bthen BW.out b2.out)
    have BB := Lib.hid (bthen BB.out b2.out)
    have B2 := Lib.hid b2.out
    obtain ⟨-, -, c2, c3, -, -, -, -, -, -, -⟩ := HC.out w2 BW.out
    clear b2 c0 c1 hEV1
    go_wp2_with fail
    refine (hEV2.out w2 BB.out).mono ?_
    rintro q w3 ⟨vb, rfl, HLb, b3⟩
    have BW := Lib.hid (bthen BW.out b3.out)
    have BB := Lib.hid (bthen BB.out b3.out)
    have B3 := Lib.hid b3.out
    obtain ⟨-, -, -, -, e0, e1, e2, e3, e4, e5, e6⟩ := HC.out w3 BW.out
    clear b3 c2 c3 hEV2
    go_wp2_with fail
    go_ret
    exact ⟨rfl, BB.out⟩
  rw [h2] at hEV2
  cases h3 : okB ((wa : Int) + wb) e
  · have HBD := Lib.hid (fun W g hs => by have := HBD.out ((wa : Int) + wb) W g hs; rw [h3] at this; exact this)
    go_enter Tryz.func3, Tryz.ntmps3
    go_wp2_with fail
    rw [← HW0.out]
    refine (HLV.out W0 HB0.out).mono ?_
    rintro q w1 ⟨rfl, b1⟩
    have BW := Lib.hid b1
    have BB := Lib.hid (bthen HB0.out b1)
    obtain ⟨c0, c1, -, -, -, -, -, -, -, -, -⟩ := HC.out w1 BW.out
    clear b1 HW0 HLV
    go_wp2_with fail
    refine (hEV1.out w1 BB.out).mono ?_
    rintro q w2 ⟨va, rfl, HLa, b2⟩
    have BW := Lib.hid (bthen BW.out b2.out)
    have BB := Lib.hid (bthen BB.out b2.out)
    have B2 := Lib.hid b2.out
    obtain ⟨-, -, c2, c3, -, -, -, -, -, -, -⟩ := HC.out w2 BW.out
    clear b2 c0 c1 hEV1
    go_wp2_with fail
    refine (hEV2.out w2 BB.out).mono ?_
    rintro q w3 ⟨vb, rfl, HLb, b3⟩
    have BW := Lib.hid (bthen BW.out b3.out)
    have BB := Lib.hid (bthen BB.out b3.out)
    have B3 := Lib.hid b3.out
    obtain ⟨-, -, -, -, e0, e1, e2, e3, e4, e5, e6⟩ := HC.out w3 BW.out
    clear b3 c2 c3 hEV2
    obtain ⟨Aa, xa, rfl, hA⟩ := HLa.out trivial
    obtain ⟨Ab, xb, rfl, hB⟩ := HLb.out trivial
    have HA := Lib.hid (hA.later B3.out)
    have HB := Lib.hid hB
    have VA := Lib.hid (HVA.out h1)
    have VB := Lib.hid (HVB.out h2)
    have hwrap : IntKind.i64.wrap ((wa : Int) + wb) = (wa : Int) + wb := IntWalk.i64_in _ (by omega)
    obtain ⟨na, hna⟩ : ∃ na, na = la.length := ⟨_, rfl⟩
    obtain ⟨nb, hnb⟩ : ∃ nb, nb = lb.length := ⟨_, rfl⟩
    have hna30 : na ≤ 30 := by rw [hna]; exact VA.out.many
    have hnb30 : nb ≤ 30 := by rw [hnb]; exact VB.out.many
    rw [← hna] at HA ⊢
    rw [← hnb] at HB ⊢
    have HNA := Lib.hid hna
    have HNB := Lib.hid hnb
    clear hA hB hna hnb HLa HLb HVA HVB
    -- @b
    go_wp2_with fail
    refine (HBD.out (w3.alloc (.cells #[.string s0, .int .i64 i1, .int .i64 i2, .string s3, .string s4, .string s5, .slice A7 l7 c7] 29)) w3.heap.size (hsub1.out w3 BB.out)).mono ?_
    rintro q w4 ⟨rfl, b4⟩
    have b4 := bthen (one_alloc w3 _) b4
    have BW := Lib.hid (bthen BW.out b4)
    have BB := Lib.hid (bthen BB.out b4)
    have HA := Lib.hid (HA.out.later b4)
    have HB := Lib.hid (HB.out.later b4)
    obtain ⟨-, -, -, -, e0, e1, e2, e3, e4, e5, e6⟩ := HC.out w4 BW.out
    clear b4 HBD hsub1 B2 B3
    go_wp2_with fail
    go_ret
    exact ⟨rfl, BB.out⟩
  have HBD := Lib.hid (fun W g hs => by have := HBD.out ((wa : Int) + wb) W g hs; rw [h3] at this; exact this)
  by_cases h4 : errsP (truP e) (pairsP la lb) = 0
  · skip
    go_enter Tryz.func3, Tryz.ntmps3
    go_wp2_with fail
    rw [← HW0.out]
    refine (HLV.out W0 HB0.out).mono ?_
    rintro q w1 ⟨rfl, b1⟩
    have BW := Lib.hid b1
    have BB := Lib.hid (bthen HB0.out b1)
    obtain ⟨c0, c1, -, -, -, -, -, -, -, -, -⟩ := HC.out w1 BW.out
    clear b1 HW0 HLV
    go_wp2_with fail
    refine (hEV1.out w1 BB.out).mono ?_
    rintro q w2 ⟨va, rfl, HLa, b2⟩
    have BW := Lib.hid (bthen BW.out b2.out)
    have BB := Lib.hid (bthen BB.out b2.out)
    have B2 := Lib.hid b2.out
    obtain ⟨-, -, c2, c3, -, -, -, -, -, -, -⟩ := HC.out w2 BW.out
    clear b2 c0 c1 hEV1
    go_wp2_with fail
    refine (hEV2.out w2 BB.out).mono ?_
    rintro q w3 ⟨vb, rfl, HLb, b3⟩
    have BW := Lib.hid (bthen BW.out b3.out)
    have BB := Lib.hid (bthen BB.out b3.out)
    have B3 := Lib.hid b3.out
    obtain ⟨-, -, -, -, e0, e1, e2, e3, e4, e5, e6⟩ := HC.out w3 BW.out
    clear b3 c2 c3 hEV2
    obtain ⟨Aa, xa, rfl, hA⟩ := HLa.out trivial
    obtain ⟨Ab, xb, rfl, hB⟩ := HLb.out trivial
    have HA := Lib.hid (hA.later B3.out)
    have HB := Lib.hid hB
    have VA := Lib.hid (HVA.out h1)
    have VB := Lib.hid (HVB.out h2)
    have hwrap : IntKind.i64.wrap ((wa : Int) + wb) = (wa : Int) + wb := IntWalk.i64_in _ (by omega)
    obtain ⟨na, hna⟩ : ∃ na, na = la.length := ⟨_, rfl⟩
    obtain ⟨nb, hnb⟩ : ∃ nb, nb = lb.length := ⟨_, rfl⟩
    have hna30 : na ≤ 30 := by rw [hna]; exact VA.out.many
    have hnb30 : nb ≤ 30 := by rw [hnb]; exact VB.out.many
    rw [← hna] at HA ⊢
    rw [← hnb] at HB ⊢
    have HNA := Lib.hid hna
    have HNB := Lib.hid hnb
    clear hA hB hna hnb HLa HLb HVA HVB
    -- @b
    go_wp2_with fail
    refine (HBD.out (w3.alloc (.cells #[.string s0, .int .i64 i1, .int .i64 i2, .string s3, .string s4, .string s5, .slice A7 l7 c7] 29)) w3.heap.size (hsub1.out w3 BB.out)).mono ?_
    rintro q w4 ⟨rfl, b4⟩
    have b4 := bthen (one_alloc w3 _) b4
    have BW := Lib.hid (bthen BW.out b4)
    have BB := Lib.hid (bthen BB.out b4)
    have HA := Lib.hid (HA.out.later b4)
    have HB := Lib.hid (HB.out.later b4)
    obtain ⟨-, -, -, -, e0, e1, e2, e3, e4, e5, e6⟩ := HC.out w4 BW.out
    clear b4 HBD hsub1 B2 B3
    have FT := Lib.hid (pair_fit VA.out VB.out h3 HIN.out)
    have WA : Hid (∀ r ∈ la, r.length ≤ 60) := Lib.hid fun r hr => by rw [VA.out.wide r hr]; omega
    have WB : Hid (∀ r ∈ lb, r.length ≤ 60) := Lib.hid fun r hr => by rw [VB.out.wide r hr]; omega
    have PW : Hid (∀ r ∈ pairsP la lb, r.length ≤ 100000) := Lib.hid fun r hr => by rw [pair_wide VA.out.wide VB.out.wide r hr]; omega
    have FP : Hid (∀ x ∈ pairsP la lb, e.fit deedP x) := Lib.hid fun r hr => by
      obtain ⟨x, hx, y, hy, rfl⟩ := mem_pairs.1 hr
      exact FT.out x hx y hy
    have LN : Hid ((pairsP la lb).length = na * nb) := Lib.hid (by rw [pairs_len, ← HNA.out, ← HNB.out])
    have hmul : na * nb ≤ 900 := Nat.mul_le_mul hna30 hnb30
    have SZ : Hid (e.size ≤ 100000) := Lib.hid (by have := (okB_facts h3).1; omega)
    have IR : Hid (JRes (truP e) false false la lb wa wb = FRes (truP e) (pairsP la lb)) := Lib.hid (inner_res (truP e) la lb wa wb)
    -- @c
    go_wp2_with fail
    refine (cross_la HA.out HB.out (HX.out w4 BB.out) (HE.out.later BB.out) (by omega) (by omega) WA.out WB.out (by omega) (by omega)).mono ?_
    rintro q w5 ⟨Ac, xc, rfl, HCR, b5⟩
    have BW := Lib.hid (bthen BW.out b5.out)
    have BB := Lib.hid (bthen BB.out b5.out)
    have HA := Lib.hid (HA.out.later b5.out)
    have HB := Lib.hid (HB.out.later b5.out)
    clear e0 e1 e2 e3 e4 e5 e6
    obtain ⟨-, -, -, -, e0, e1, e2, e3, e4, e5, e6⟩ := HC.out w5 BW.out
    clear b5
    -- @d
    go_wp2_with fail
    refine (join_la ⟨#[105, 110, 110, 101, 114]⟩ false false sidesInner crossInner HA.out HB.out (HX.out w5 BB.out) (HE.out.later BB.out) (by omega) (by omega) WA.out WB.out (by omega) (by omega) FT.out).mono ?_
    rintro q w6 ⟨Ai, xi, rfl, HI, b6⟩
    have BW := Lib.hid (bthen BW.out b6.out)
    have BB := Lib.hid (bthen BB.out b6.out)
    have HA := Lib.hid (HA.out.later b6.out)
    have HB := Lib.hid (HB.out.later b6.out)
    have HCR := Lib.hid (HCR.out.later b6.out)
    clear e0 e1 e2 e3 e4 e5 e6
    obtain ⟨-, -, -, -, e0, e1, e2, e3, e4, e5, e6⟩ := HC.out w6 BW.out
    clear b6
    rw [IR.out] at HI ⊢
    -- @e
    go_wp2_with fail
    refine (filt_la HCR.out (HX.out w6 BB.out) (HE.out.later BB.out) (by rw [LN.out]; omega) PW.out FP.out).mono ?_
    rintro q w7 ⟨Af, xf, rfl, HF, b7⟩
    have BW := Lib.hid (bthen BW.out b7.out)
    have BB := Lib.hid (bthen BB.out b7.out)
    have HA := Lib.hid (HA.out.later b7.out)
    have HB := Lib.hid (HB.out.later b7.out)
    have HCR := Lib.hid (HCR.out.later b7.out)
    have HI := Lib.hid (HI.out.later b7.out)
    clear e0 e1 e2 e3 e4 e5 e6
    obtain ⟨-, -, -, -, e0, e1, e2, e3, e4, e5, e6⟩ := HC.out w7 BW.out
    clear b7
    have HSM := Lib.hid (same_la HI.out HF.out rfl (Nat.le_trans (fres_len _ _) (by rw [LN.out]; omega)) (fun r hr => PW.out r (fres_mem hr)))
    rw [LN.out]
    have hmw : IntKind.i64.wrap ((na : Int) * nb) = ((na * nb : Nat) : Int) := by rw [IntWalk.i64_in _ (by rw [← Int.natCast_mul]; omega), Int.natCast_mul]
    -- @f
    go_wp2_with fail
    refine (HSM.out).mono ?_
    rintro q w8 ⟨rfl, b8⟩
    have BW := Lib.hid (bthen BW.out b8)
    have BB := Lib.hid (bthen BB.out b8)
    have HA := Lib.hid (HA.out.later b8)
    have HB := Lib.hid (HB.out.later b8)
    have HI := Lib.hid (HI.out.later b8)
    clear e0 e1 e2 e3 e4 e5 e6 b8 HSM HCR HF
    obtain ⟨-, -, -, -, e0, e1, e2, e3, e4, e5, e6⟩ := HC.out w8 BW.out
    obtain ⟨inn, jr, lf, bk, q1, q2, q3, q4, q5, q6, q7, q8, q9, q10, q11, q12, q13⟩ := kinds_plain VA.out VB.out hwa5 hwb5 h3 HIN.out h4
    obtain ⟨hf2, -⟩ := back_fit VA.out VB.out hwa5 hwb5 h3 HIN.out
    rw [q1] at HI ⊢
    have Q2 := Lib.hid q2
    have Q3 := Lib.hid q3
    have Q4 := Lib.hid q4
    have Q5 := Lib.hid q5
    have Q6 := Lib.hid q6
    have Q7 := Lib.hid q7
    have Q8 := Lib.hid q8
    have Q9 := Lib.hid q9
    have Q10 := Lib.hid q10
    have HF2 := Lib.hid hf2
    obtain ⟨nI, hnI⟩ : ∃ nI, nI = inn.length := ⟨_, rfl⟩
    obtain ⟨nR, hnR⟩ : ∃ nR, nR = (inn ++ jr).length := ⟨_, rfl⟩
    obtain ⟨nU, hnU⟩ : ∃ nU, nU = (lf ++ jr).length := ⟨_, rfl⟩
    obtain ⟨nL, hnL⟩ : ∃ nL, nL = lf.length := ⟨_, rfl⟩
    obtain ⟨nK, hnK⟩ : ∃ nK, nK = bk.length := ⟨_, rfl⟩
    have hIR : nI ≤ nR := by rw [hnI, hnR, List.length_append]; omega
    have hLU : nL ≤ nU := by rw [hnL, hnU, List.length_append]; omega
    have hR1 : nR ≤ 1000 := by omega
    have hU1 : nU ≤ 1000 := by omega
    have hK1 : nK ≤ 1000 := by omega
    rw [← hnI] at HI ⊢
    have HNI := Lib.hid hnI
    have HNR := Lib.hid hnR
    have HNU := Lib.hid hnU
    have HNL := Lib.hid hnL
    have HNK := Lib.hid hnK
    clear q1 q2 q3 q4 q5 q6 q7 q8 q9 q10 q11 q12 q13 hf2 hnI hnR hnU hnL hnK
    -- @h
    go_wp2_with fail
    refine (join_la ⟨#[108, 101, 102, 116]⟩ true false sidesLeft crossLeft HA.out HB.out (HX.out w8 BB.out) (HE.out.later BB.out) (by omega) (by omega) WA.out WB.out (by omega) (by omega) FT.out).mono ?_
    rintro q w9 ⟨Al, xl, rfl, HLf, b9⟩
    have BW := Lib.hid (bthen BW.out b9.out)
    have BB := Lib.hid (bthen BB.out b9.out)
    have HA := Lib.hid (HA.out.later b9.out)
    have HB := Lib.hid (HB.out.later b9.out)
    have HI := Lib.hid (HI.out.later b9.out)
    clear e0 e1 e2 e3 e4 e5 e6
    obtain ⟨-, -, -, -, e0, e1, e2, e3, e4, e5, e6⟩ := HC.out w9 BW.out
    clear b9
    rw [Q2.out, ← HNL.out] at HLf ⊢
    -- @i
    go_wp2_with fail
    refine (join_la ⟨#[114, 105, 103, 104, 116]⟩ false true sidesRight crossRight HA.out HB.out (HX.out w9 BB.out) (HE.out.later BB.out) (by omega) (by omega) WA.out WB.out (by omega) (by omega) FT.out).mono ?_
    rintro q w10 ⟨Ar, xr, rfl, HR, b10⟩
    have BW := Lib.hid (bthen BW.out b10.out)
    have BB := Lib.hid (bthen BB.out b10.out)
    have HA := Lib.hid (HA.out.later b10.out)
    have HB := Lib.hid (HB.out.later b10.out)
    have HI := Lib.hid (HI.out.later b10.out)
    have HLf := Lib.hid (HLf.out.later b10.out)
    clear e0 e1 e2 e3 e4 e5 e6
    obtain ⟨-, -, -, -, e0, e1, e2, e3, e4, e5, e6⟩ := HC.out w10 BW.out
    clear b10
    rw [Q3.out, ← HNR.out] at HR ⊢
    -- @j
    go_wp2_with fail
    refine (join_la ⟨#[102, 117, 108, 108]⟩ true true sidesFull crossFull HA.out HB.out (HX.out w10 BB.out) (HE.out.later BB.out) (by omega) (by omega) WA.out WB.out (by omega) (by omega) FT.out).mono ?_
    rintro q w11 ⟨Au, xu, rfl, HU, b11⟩
    have BW := Lib.hid (bthen BW.out b11.out)
    have BB := Lib.hid (bthen BB.out b11.out)
    have HA := Lib.hid (HA.out.later b11.out)
    have HB := Lib.hid (HB.out.later b11.out)
    have HI := Lib.hid (HI.out.later b11.out)
    have HLf := Lib.hid (HLf.out.later b11.out)
    have HR := Lib.hid (HR.out.later b11.out)
    clear e0 e1 e2 e3 e4 e5 e6
    obtain ⟨-, -, -, -, e0, e1, e2, e3, e4, e5, e6⟩ := HC.out w11 BW.out
    clear b11
    rw [Q4.out, ← HNU.out] at HU ⊢
    -- @k
    go_wp2_with fail
    refine (swap_any (wa : Int) wb e _ S w11 (HX.out w11 BB.out) SZ.out).mono ?_
    rintro q w12 ⟨A12, c12, rfl, hs12, b12⟩
    have BW := Lib.hid (bthen BW.out b12)
    have BB := Lib.hid (bthen BB.out b12)
    have HI := Lib.hid (HI.out.later b12)
    have HLf := Lib.hid (HLf.out.later b12)
    have HR := Lib.hid (HR.out.later b12)
    have HU := Lib.hid (HU.out.later b12)
    have HJB := join_la ⟨#[108, 101, 102, 116]⟩ true false sidesLeft crossLeft (HB.out.later b12) (HA.out.later b12) (⟨A12, c12, rfl, hs12⟩ : EAt _ w12 (e.sw wa wb) _) (HE.out.later BB.out) (by omega) (by omega) WB.out WA.out (show wb ≤ 60 by omega) (show wa ≤ 60 by omega) HF2.out
    rw [Q5.out, Q6.out] at HJB
    have HJB := Lib.hid HJB
    clear e0 e1 e2 e3 e4 e5 e6 b12 hs12 HA HB
    generalize eVal (e.sw wa wb).op (e.sw wa wb).v (e.sw wa wb).tb (e.sw wa wb).nm (.slice A12 (e.sw wa wb).l.length c12) = xv12 at *
    -- @l
    go_wp2_with fail
    refine (HJB.out).mono ?_
    rintro q w13 ⟨Ak, xk, rfl, HK, b13⟩
    rw [← HNK.out] at HK ⊢
    have BW := Lib.hid (bthen BW.out b13.out)
    have BB := Lib.hid (bthen BB.out b13.out)
    have HI := Lib.hid (HI.out.later b13.out)
    have HLf := Lib.hid (HLf.out.later b13.out)
    have HR := Lib.hid (HR.out.later b13.out)
    have HU := Lib.hid (HU.out.later b13.out)
    obtain ⟨Ap, cp, wp, Aq, cq, wq, run1, run2, hq, bq⟩ := two_app HR.out HK.out (show nR + nK ≤ 1000000 by omega)
    obtain ⟨N, hN⟩ : ∃ N, N = nR + nK := ⟨_, rfl⟩
    have hN2 : N ≤ 2000 := by omega
    rw [← hN] at run2 hq
    obtain ⟨rq, g1, g2, g3, g4, g5⟩ := hq
    have BQ := Lib.hid bq
    have G4 := Lib.hid g4
    have G1 := Lib.hid g1
    have GW : Hid (∀ r ∈ rq, r.xs.length = wa + wb) := Lib.hid (mem_xs g2 fun r hr => by
      rcases List.mem_append.1 hr with h | h
      · exact Q8.out r h
      · exact Q10.out r h)
    obtain ⟨wab, hwab⟩ : ∃ wab, wab = wa + wb := ⟨_, rfl⟩
    have hneq : ((wab : Int) != (wa : Int) + wb) = false := by simp; omega
    rw [← hwab] at GW
    clear b13 HJB hN bq g1 g2 g3 g4 g5 hwab
    -- @m
    go_wp2_with (first
      | (at_builtin; refine Lib.wpList_append_run_sl _ rfl (.const (.slice none 0 0)) (.tmp 150) 22 rfl _ _ rfl rfl run1 ?_)
      | (at_builtin; refine Lib.wpList_append_run_sl _ rfl (.tmp 151) (.tmp 152) 22 rfl _ _ rfl rfl run2 ?_))
    -- @m1
    go_loopw [155] (fun i wr => ∃ k : Nat, k ≤ N ∧ i = .int .i64 k ∧ Hid (Below wq.heap.size wq wr)) (fun i _ => N - (intOf i).toNat)
    case atStart => exact ⟨0, Nat.zero_le _, rfl, Lib.hid (Below.refl _ _)⟩
    case round =>
      obtain ⟨k, hk, rfl, HBr⟩ := hrel
      by_cases hlt : k < N
      · have hkr : k < rq.length := by rw [G1.out]; exact hlt
        obtain ⟨bb, oo, hA, hbl, hcc⟩ := G4.out.1 (by omega)
        subst hA
        have r1 := (HBr.out.cell (p := ⟨bb, _, none⟩) hbl).trans (hcc k hkr)
        unfold BV.R.val at r1
        rw [GW.out _ (List.getElem_mem hkr)] at r1
        generalize rq[k].A = zA at *
        generalize rq[k].c = zc at *
        clear hcc
        -- @m2
        go_wp2_with fail
        go_roundw
        case rel => exact ⟨k + 1, by omega, by go_num, HBr⟩
        case measure => simp [intOf]; omega
      · obtain rfl : k = N := by omega
        -- @m3
        have bqr := bthen BQ.out HBr.out
        have BW := Lib.hid (bthen BW.out bqr)
        have BB := Lib.hid (bthen BB.out bqr)
        have HI := Lib.hid (HI.out.later bqr)
        have HLf := Lib.hid (HLf.out.later bqr)
        have HR := Lib.hid (HR.out.later bqr)
        have HU := Lib.hid (HU.out.later bqr)
        have HK := Lib.hid (HK.out.later bqr)
        have hmin : min (nI : Int) (nR : Int) = nI := by omega
        have hIRz : (nI : Int) ≤ (nR : Int) := by omega
        have hxr : nR ≤ xr := by
          obtain ⟨-, -, -, h, -⟩ := HR.out
          exact h
        have WLf : Hid (∀ r ∈ lf, r.length ≤ 100000) := Lib.hid fun r hr => by rw [Q9.out r (List.mem_append_left _ hr)]; omega
        have WR : Hid (∀ r ∈ inn ++ jr, r.length ≤ 100000) := Lib.hid fun r hr => by rw [Q8.out r hr]; omega
        have WU : Hid (∀ r ∈ lf ++ jr, r.length ≤ 100000) := Lib.hid fun r hr => by rw [Q9.out r hr]; omega
        have WD : Hid (∀ r ∈ (inn ++ jr).drop nI, r.length ≤ 100000) := Lib.hid fun r hr => WR.out r (List.mem_of_mem_drop hr)
        have DR : Hid (lf ++ (inn ++ jr).drop nI = lf ++ jr) := Lib.hid (by rw [HNI.out, List.drop_left])
        have TK : Hid ((inn ++ jr).take nI = inn) := Lib.hid (by rw [HNI.out, List.take_left])
        have WT : Hid (∀ r ∈ bk, wb ≤ r.length ∧ r.length ≤ 1000) := Lib.hid fun r hr => by rw [Q10.out r hr]; omega
        have WTT : Hid (∀ r ∈ bk.map (turnP wb), r.length ≤ 100000) := Lib.hid fun r hr => by
          have := (Q7.out.mem_iff (a := r)).2 hr
          exact WR.out r this
        have LT : Hid ((bk.map (turnP wb)).length = nK) := Lib.hid (by rw [List.length_map, ← HNK.out])
        clear bqr BQ G4 G1 GW run1 run2 HBr
        -- @m4
        rcases Ar with _ | pr
        · have hn0 := HR.out.none0
          have hi0 : nI = 0 := by omega
          subst hi0
          subst hn0
          have HD : Hid (LA wr none 0 xr ((inn ++ jr).drop 0)) := HR
          have HP := Lib.hid (put_la HLf.out HD.out (by omega) (by omega) WLf.out WD.out)
          rw [DR.out] at HP
          clear HD
          -- @Nn
          go_wp2_with fail
          -- @Nn1
          refine (HP.out).mono ?_
          rintro q w14 ⟨Am, xm, rfl, HM, b14⟩
          rw [← HNU.out] at HM ⊢
          have BB := Lib.hid (bthen BB.out b14.out)
          have HI := Lib.hid (HI.out.later b14.out)
          have HR := Lib.hid (HR.out.later b14.out)
          have HU := Lib.hid (HU.out.later b14.out)
          have HK := Lib.hid (HK.out.later b14.out)
          have HT := Lib.hid (turned_la HK.out (by omega) WT.out)
          clear b14 HP HK HLf
          -- @No
          go_wp2_with fail
          refine (HT.out).mono ?_
          rintro q w15 ⟨At, xt, rfl, HTR, b15⟩
          rw [LT.out] at HTR ⊢
          have BB := Lib.hid (bthen BB.out b15.out)
          have HI := Lib.hid (HI.out.later b15.out)
          have HR := Lib.hid (HR.out.later b15.out)
          have HU := Lib.hid (HU.out.later b15.out)
          have HM := Lib.hid (HM.out.later b15.out)
          have HG := Lib.hid (bag_la HR.out HTR.out Q7.out (by omega) (by omega) WR.out WTT.out)
          clear b15 HT
          go_wp2_with fail
          refine (HG.out).mono ?_
          rintro q w16 ⟨rfl, b16⟩
          have BB := Lib.hid (bthen BB.out b16)
          have HI := Lib.hid (HI.out.later b16)
          have HR := Lib.hid (HR.out.later b16)
          have HG2 := Lib.hid (bag_la (HU.out.later b16) (HM.out.later b16) (List.Perm.refl _) (by omega) (by omega) WU.out WU.out)
          clear b16 HG HTR HU HM
          -- @Np
          go_wp2_with fail
          refine (HG2.out).mono ?_
          rintro q w17 ⟨rfl, b17⟩
          have BB := Lib.hid (bthen BB.out b17)
          have HS := Lib.hid (same_la ((HR.out.later b17).take 0 (Nat.le_refl _)) (HI.out.later b17) TK.out (by omega) (fun r hr => WR.out r (List.mem_of_mem_take hr)))
          clear b17 HG2 HI HR
          -- @Nq
          go_wp2_with fail
          refine (HS.out).mono ?_
          rintro q w18 ⟨rfl, b18⟩
          have BB := Lib.hid (bthen BB.out b18)
          clear b18 HS
          go_wp2_with fail
          first | exact ⟨rfl, BB.out⟩ | (go_ret; exact ⟨rfl, BB.out⟩)
        · have HD := Lib.hid (HR.out.dropI nI hIR)
          generalize hD : (if xr = nI then some pr else some (pr.add nI)) = D at *
          have HP := Lib.hid (put_la HLf.out HD.out (by omega) (by omega) WLf.out WD.out)
          rw [DR.out] at HP
          clear HD
          -- @n
          go_wp2_with fail
          -- @n1
          refine (HP.out).mono ?_
          rintro q w14 ⟨Am, xm, rfl, HM, b14⟩
          rw [← HNU.out] at HM ⊢
          have BB := Lib.hid (bthen BB.out b14.out)
          have HI := Lib.hid (HI.out.later b14.out)
          have HR := Lib.hid (HR.out.later b14.out)
          have HU := Lib.hid (HU.out.later b14.out)
          have HK := Lib.hid (HK.out.later b14.out)
          have HT := Lib.hid (turned_la HK.out (by omega) WT.out)
          clear b14 HP HK HLf
          -- @o
          go_wp2_with fail
          refine (HT.out).mono ?_
          rintro q w15 ⟨At, xt, rfl, HTR, b15⟩
          rw [LT.out] at HTR ⊢
          have BB := Lib.hid (bthen BB.out b15.out)
          have HI := Lib.hid (HI.out.later b15.out)
          have HR := Lib.hid (HR.out.later b15.out)
          have HU := Lib.hid (HU.out.later b15.out)
          have HM := Lib.hid (HM.out.later b15.out)
          have HG := Lib.hid (bag_la HR.out HTR.out Q7.out (by omega) (by omega) WR.out WTT.out)
          clear b15 HT
          go_wp2_with fail
          refine (HG.out).mono ?_
          rintro q w16 ⟨rfl, b16⟩
          have BB := Lib.hid (bthen BB.out b16)
          have HI := Lib.hid (HI.out.later b16)
          have HR := Lib.hid (HR.out.later b16)
          have HG2 := Lib.hid (bag_la (HU.out.later b16) (HM.out.later b16) (List.Perm.refl _) (by omega) (by omega) WU.out WU.out)
          clear b16 HG HTR HU HM
          -- @p
          go_wp2_with fail
          refine (HG2.out).mono ?_
          rintro q w17 ⟨rfl, b17⟩
          have BB := Lib.hid (bthen BB.out b17)
          have HS := Lib.hid (same_la ((HR.out.later b17).take nI hIR) (HI.out.later b17) TK.out (by omega) (fun r hr => WR.out r (List.mem_of_mem_take hr)))
          clear b17 HG2 HI HR
          -- @q
          go_wp2_with fail
          refine (HS.out).mono ?_
          rintro q w18 ⟨rfl, b18⟩
          have BB := Lib.hid (bthen BB.out b18)
          clear b18 HS
          go_wp2_with fail
          first | exact ⟨rfl, BB.out⟩ | (go_ret; exact ⟨rfl, BB.out⟩)
  · skip
    go_enter Tryz.func3, Tryz.ntmps3
    go_wp2_with fail
    rw [← HW0.out]
    refine (HLV.out W0 HB0.out).mono ?_
    rintro q w1 ⟨rfl, b1⟩
    have BW := Lib.hid b1
    have BB := Lib.hid (bthen HB0.out b1)
    obtain ⟨c0, c1, -, -, -, -, -, -, -, -, -⟩ := HC.out w1 BW.out
    clear b1 HW0 HLV
    go_wp2_with fail
    refine (hEV1.out w1 BB.out).mono ?_
    rintro q w2 ⟨va, rfl, HLa, b2⟩
    have BW := Lib.hid (bthen BW.out b2.out)
    have BB := Lib.hid (bthen BB.out b2.out)
    have B2 := Lib.hid b2.out
    obtain ⟨-, -, c2, c3, -, -, -, -, -, -, -⟩ := HC.out w2 BW.out
    clear b2 c0 c1 hEV1
    go_wp2_with fail
    refine (hEV2.out w2 BB.out).mono ?_
    rintro q w3 ⟨vb, rfl, HLb, b3⟩
    have BW := Lib.hid (bthen BW.out b3.out)
    have BB := Lib.hid (bthen BB.out b3.out)
    have B3 := Lib.hid b3.out
    obtain ⟨-, -, -, -, e0, e1, e2, e3, e4, e5, e6⟩ := HC.out w3 BW.out
    clear b3 c2 c3 hEV2
    obtain ⟨Aa, xa, rfl, hA⟩ := HLa.out trivial
    obtain ⟨Ab, xb, rfl, hB⟩ := HLb.out trivial
    have HA := Lib.hid (hA.later B3.out)
    have HB := Lib.hid hB
    have VA := Lib.hid (HVA.out h1)
    have VB := Lib.hid (HVB.out h2)
    have hwrap : IntKind.i64.wrap ((wa : Int) + wb) = (wa : Int) + wb := IntWalk.i64_in _ (by omega)
    obtain ⟨na, hna⟩ : ∃ na, na = la.length := ⟨_, rfl⟩
    obtain ⟨nb, hnb⟩ : ∃ nb, nb = lb.length := ⟨_, rfl⟩
    have hna30 : na ≤ 30 := by rw [hna]; exact VA.out.many
    have hnb30 : nb ≤ 30 := by rw [hnb]; exact VB.out.many
    rw [← hna] at HA ⊢
    rw [← hnb] at HB ⊢
    have HNA := Lib.hid hna
    have HNB := Lib.hid hnb
    clear hA hB hna hnb HLa HLb HVA HVB
    -- @b
    go_wp2_with fail
    refine (HBD.out (w3.alloc (.cells #[.string s0, .int .i64 i1, .int .i64 i2, .string s3, .string s4, .string s5, .slice A7 l7 c7] 29)) w3.heap.size (hsub1.out w3 BB.out)).mono ?_
    rintro q w4 ⟨rfl, b4⟩
    have b4 := bthen (one_alloc w3 _) b4
    have BW := Lib.hid (bthen BW.out b4)
    have BB := Lib.hid (bthen BB.out b4)
    have HA := Lib.hid (HA.out.later b4)
    have HB := Lib.hid (HB.out.later b4)
    obtain ⟨-, -, -, -, e0, e1, e2, e3, e4, e5, e6⟩ := HC.out w4 BW.out
    clear b4 HBD hsub1 B2 B3
    have FT := Lib.hid (pair_fit VA.out VB.out h3 HIN.out)
    have WA : Hid (∀ r ∈ la, r.length ≤ 60) := Lib.hid fun r hr => by rw [VA.out.wide r hr]; omega
    have WB : Hid (∀ r ∈ lb, r.length ≤ 60) := Lib.hid fun r hr => by rw [VB.out.wide r hr]; omega
    have PW : Hid (∀ r ∈ pairsP la lb, r.length ≤ 100000) := Lib.hid fun r hr => by rw [pair_wide VA.out.wide VB.out.wide r hr]; omega
    have FP : Hid (∀ x ∈ pairsP la lb, e.fit deedP x) := Lib.hid fun r hr => by
      obtain ⟨x, hx, y, hy, rfl⟩ := mem_pairs.1 hr
      exact FT.out x hx y hy
    have LN : Hid ((pairsP la lb).length = na * nb) := Lib.hid (by rw [pairs_len, ← HNA.out, ← HNB.out])
    have hmul : na * nb ≤ 900 := Nat.mul_le_mul hna30 hnb30
    have SZ : Hid (e.size ≤ 100000) := Lib.hid (by have := (okB_facts h3).1; omega)
    have IR : Hid (JRes (truP e) false false la lb wa wb = FRes (truP e) (pairsP la lb)) := Lib.hid (inner_res (truP e) la lb wa wb)
    -- @c
    go_wp2_with fail
    refine (cross_la HA.out HB.out (HX.out w4 BB.out) (HE.out.later BB.out) (by omega) (by omega) WA.out WB.out (by omega) (by omega)).mono ?_
    rintro q w5 ⟨Ac, xc, rfl, HCR, b5⟩
    have BW := Lib.hid (bthen BW.out b5.out)
    have BB := Lib.hid (bthen BB.out b5.out)
    have HA := Lib.hid (HA.out.later b5.out)
    have HB := Lib.hid (HB.out.later b5.out)
    clear e0 e1 e2 e3 e4 e5 e6
    obtain ⟨-, -, -, -, e0, e1, e2, e3, e4, e5, e6⟩ := HC.out w5 BW.out
    clear b5
    -- @d
    go_wp2_with fail
    refine (join_la ⟨#[105, 110, 110, 101, 114]⟩ false false sidesInner crossInner HA.out HB.out (HX.out w5 BB.out) (HE.out.later BB.out) (by omega) (by omega) WA.out WB.out (by omega) (by omega) FT.out).mono ?_
    rintro q w6 ⟨Ai, xi, rfl, HI, b6⟩
    have BW := Lib.hid (bthen BW.out b6.out)
    have BB := Lib.hid (bthen BB.out b6.out)
    have HA := Lib.hid (HA.out.later b6.out)
    have HB := Lib.hid (HB.out.later b6.out)
    have HCR := Lib.hid (HCR.out.later b6.out)
    clear e0 e1 e2 e3 e4 e5 e6
    obtain ⟨-, -, -, -, e0, e1, e2, e3, e4, e5, e6⟩ := HC.out w6 BW.out
    clear b6
    rw [IR.out] at HI ⊢
    -- @e
    go_wp2_with fail
    refine (filt_la HCR.out (HX.out w6 BB.out) (HE.out.later BB.out) (by rw [LN.out]; omega) PW.out FP.out).mono ?_
    rintro q w7 ⟨Af, xf, rfl, HF, b7⟩
    have BW := Lib.hid (bthen BW.out b7.out)
    have BB := Lib.hid (bthen BB.out b7.out)
    have HA := Lib.hid (HA.out.later b7.out)
    have HB := Lib.hid (HB.out.later b7.out)
    have HCR := Lib.hid (HCR.out.later b7.out)
    have HI := Lib.hid (HI.out.later b7.out)
    clear e0 e1 e2 e3 e4 e5 e6
    obtain ⟨-, -, -, -, e0, e1, e2, e3, e4, e5, e6⟩ := HC.out w7 BW.out
    clear b7
    have HSM := Lib.hid (same_la HI.out HF.out rfl (Nat.le_trans (fres_len _ _) (by rw [LN.out]; omega)) (fun r hr => PW.out r (fres_mem hr)))
    rw [LN.out]
    have hmw : IntKind.i64.wrap ((na : Int) * nb) = ((na * nb : Nat) : Int) := by rw [IntWalk.i64_in _ (by rw [← Int.natCast_mul]; omega), Int.natCast_mul]
    -- @f
    go_wp2_with fail
    refine (HSM.out).mono ?_
    rintro q w8 ⟨rfl, b8⟩
    have BW := Lib.hid (bthen BW.out b8)
    have BB := Lib.hid (bthen BB.out b8)
    have HA := Lib.hid (HA.out.later b8)
    have HB := Lib.hid (HB.out.later b8)
    have HI := Lib.hid (HI.out.later b8)
    clear e0 e1 e2 e3 e4 e5 e6 b8 HSM HCR HF
    obtain ⟨-, -, -, -, e0, e1, e2, e3, e4, e5, e6⟩ := HC.out w8 BW.out
    -- @g
    have herr : (errsP (truP e) (pairsP la lb) != 0) = true := by simpa using h4
    go_wp2_with fail
    go_ret
    exact ⟨rfl, BB.out⟩
end Go.Proofs.YtkigddankkoahaaGreatDoor
namespace Go.Proofs.YtkigddankkoahaaGreatDoor
open Go.RowKit Go.ChangeShapes Go.WideShapes Go.Deep
section
variable {H : Type} {enc : TypeId × Value → H} {W : World}
set_option maxRecDepth 100000 in
theorem open_rowsT {ts : TypeId} (hts : Tryz.prog.underlying ts = some (.slice 41)) {fuel : Nat} {a0 : Option Addr} {len cap : Nat} {x : DataW H × List MemPlace} (hf : DataW.trod enc Tryz.prog W 0 (fun _ => true) true fuel ts [.slice a0 len cap] = some x) (hsz : ∀ n ∈ x.1.weights Tryz.prog ts, n ≤ reachBytes) :
    ∃ rs : List BV.R, rs.length = len ∧ BV.RowsAt W W.heap.size a0 rs ∧ rs.length ≤ 140737488355328 ∧ (∀ r ∈ rs, BV.RowSmall r.xs ∧ r.xs.length ≤ r.c ∧ ∀ v ∈ r.xs, v.fits) := by
  rcases open_slice hts hf with ⟨hcs, hx⟩ | ⟨a, len', cap', m, n, D, Pl, hcs, hb, hl, hm, hmm, hx, hi⟩
  · simp at hcs
    obtain ⟨rfl, rfl, rfl⟩ := hcs
    exact ⟨[], rfl, ⟨fun h => absurd h (by simp), fun r hr => by simp at hr⟩, by simp, by simp⟩
  · simp at hcs
    obtain ⟨rfl, rfl, rfl⟩ := hcs
    subst hx
    simp only [if_true] at hmm
    subst hmm
    have c28 : Tryz.prog.cellsOf 41 = 1 := by kernel_rfl
    have b28 : Tryz.prog.bytesOf 41 = 24 := by kernel_rfl
    have hcap : m ≤ 140737488355328 := by
      have := hsz ((((List.range len).map D).length + ((List.range (m - len)).map fun j => D (len + j)).length) * Tryz.prog.bytesOf 41) (by simp only [DataW.weights, hts, List.mem_cons]; exact Or.inl trivial)
      rw [b28] at this
      simp at this
      have := reachBytes_lt
      omega
    obtain ⟨b, o, spot⟩ := a
    have one : ∀ {l : List Value}, l.length = 1 → ∃ v, l = [v] := fun {l} h => by
      match l, h with
      | [v], _ => exact ⟨v, rfl⟩
    have hspot : 0 < len → spot = none := by
      intro h0
      obtain ⟨cs', hc, _⟩ := hi 0 (by omega)
      rw [c28] at hc
      obtain ⟨_, hcl, hat⟩ := World.cells?_some hc
      obtain ⟨v0, rfl⟩ := one hcl
      have q0 := hat 0 (by omega)
      have := World.cell?_spot (show W.cell? _ = some _ from q0)
      simpa [Addr.add] using this
    have key : ∀ i, i < len → ∃ r : BV.R, W.cell? ⟨b, o + i, none⟩ = some r.val ∧ BV.RowAt W W.heap.size r.A r.xs ∧ BV.RowSmall r.xs ∧ r.xs.length ≤ r.c ∧ ∀ v ∈ r.xs, v.fits := by
      intro i hil
      obtain ⟨cs', hc, ht⟩ := hi i (by omega)
      rw [c28] at hc
      obtain ⟨_, hcl, hat⟩ := World.cells?_some hc
      obtain ⟨v0, rfl⟩ := one hcl
      have hw : ∀ n ∈ (D i).weights Tryz.prog 41, n ≤ reachBytes := fun n hn => hsz n (BV.weights_elem hts (d := D i) (List.mem_map.2 ⟨i, List.mem_range.2 hil, rfl⟩) n hn)
      have hv : ∃ a1 l1 k1, v0 = .slice a1 l1 k1 := by
        rcases open_slice Tryz.underlying41 ht with ⟨h, _⟩ | ⟨a1, l1, k1, _, _, _, _, h, _⟩
        · simp at h
          exact ⟨_, _, _, h⟩
        · simp at h
          exact ⟨_, _, _, h⟩
      obtain ⟨a1, l1, k1, rfl⟩ := hv
      obtain ⟨xs, e, h1, h2, h3, h4, h5, -⟩ := BV.open_vals Tryz.underlying41 ht hw
      subst e
      have q0 := hat 0 (by omega)
      obtain rfl := hspot (by omega)
      rw [add_plain, add_plain] at q0
      exact ⟨⟨a1, k1, xs⟩, by simpa [BV.R.val] using q0, h1, ⟨h2, h3⟩, h5, h4⟩
    have : Inhabited BV.R := ⟨⟨none, 0, []⟩⟩
    obtain ⟨F, hF⟩ := choose_lt key
    have hmem : ∀ r ∈ (List.range len).map F, ∃ i, i < len ∧ F i = r := fun r hr => by
      obtain ⟨i, hi', rfl⟩ := List.mem_map.1 hr
      exact ⟨i, List.mem_range.1 hi', rfl⟩
    refine ⟨(List.range len).map F, by simp, ⟨fun hl0 => ?_, fun r hr => ?_⟩, by simp; omega, fun r hr => ?_⟩
    · have hl0' : 0 < len := by simpa using hl0
      obtain rfl := hspot hl0'
      refine ⟨b, o, rfl, BV.cell_in (hF 0 hl0').1, fun j hj => ?_⟩
      have hj' : j < len := by simpa using hj
      have := (hF j hj').1
      simpa using this
    · obtain ⟨i, hi', rfl⟩ := hmem r hr
      exact (hF i hi').2.1
    · obtain ⟨i, hi', rfl⟩ := hmem r hr
      exact (hF i hi').2.2
set_option maxRecDepth 100000 in
theorem open_table {r : Reach} {b0 : Nat} {v : Value} {d : DataW H} {p : List MemPlace} (hv : Value.okWide Tryz.prog W r b0 24 v) (h : DataW.Trod enc Tryz.prog W 0 (fun _ => true) true 24 v d p) (hsz : ∀ n ∈ d.weights Tryz.prog 24, n ≤ reachBytes) :
    ∃ (k : Int) (A : Option Addr) (c : Nat) (rs : List BV.R), v = .agg #[.int .i64 k, .slice A rs.length c] ∧ BV.RowsAt W W.heap.size A rs ∧ rs.length ≤ 140737488355328 ∧ ∀ r ∈ rs, BV.RowSmall r.xs ∧ r.xs.length ≤ r.c ∧ ∀ v ∈ r.xs, v.fits := by
  obtain ⟨v0, v1, y0, y1, n, rfl, rfl, rfl, g0, g1⟩ := Go.Joins.open_agg2 Tryz.underlying24 (by kernel_rfl) (by kernel_rfl) hv h
  obtain ⟨k, e0, e0', wk⟩ := DataW.trod_int Tryz.underlying3 (show DataW.trod enc Tryz.prog W 0 (fun _ => true) true n 3 [v0] = some y0 from g0)
  simp at e0
  subst e0
  have g1' : DataW.trod enc Tryz.prog W 0 (fun _ => true) true n 22 [v1] = some y1 := g1
  have hs : ∃ a1 l1 k1, v1 = .slice a1 l1 k1 := by
    rcases open_slice Tryz.underlying22 g1' with ⟨h, _⟩ | ⟨a1, l1, k1, _, _, _, _, h, _⟩
    · simp at h
      exact ⟨_, _, _, h⟩
    · simp at h
      exact ⟨_, _, _, h⟩
  obtain ⟨A, l, c, rfl⟩ := hs
  obtain ⟨rs, h1, h2, h3, h4⟩ := open_rowsT Tryz.underlying22 g1' (fun n hn => hsz n (by
    simp [DataW.weights, Tryz.underlying24, DataW.weightsEach, hn]))
  subst h1
  exact ⟨k, A, c, rs, rfl, h2, h3, h4⟩
end
end Go.Proofs.YtkigddankkoahaaGreatDoor
