/- Contracts of layer 10's reference Check and of the law's wide. Conditions: few parts, short names. -/
import Derived.Test.YtcmbdghbicjljaaGreatDoorQ39
import Derived.Test.YtcmbdghbicjljaaGreatDoorQ37
import Derived.Test.YtcmbdghbicjljaaGreatDoorQ28
import Derived.Test.YtcmbdghbicjljaaGreatDoorQ41
import Derived.Test.YtcmbdghbicjljaaGreatDoorQ01
import Derived.Test.YtcmbdghbicjljaaGreatDoorQ29
set_option linter.unusedSimpArgs false
set_option linter.unusedVariables false
namespace Go.Proofs.YtcmbdghbicjljaaGreatDoor
open Go.RowKit
theorem nmd_sn {W : Int} (e : E) : e.light = true → e.nok W = true → e.nmd.sn = true := by
  induction e using E.ind with
  | h o v t n l ih =>
    intro hl hn
    simp only [E.light, Bool.and_eq_true, decide_eq_true_eq] at hl
    rw [E.nok] at hn
    by_cases h1 : o = wCol ∨ o = wStar ∨ o = wCall ∧ aggB n = true
    · rw [if_pos h1] at hn
      cases hn
    rw [if_neg h1] at hn
    rw [E.nmd]
    by_cases h2 : o = wAt
    · rw [if_pos h2]; rfl
    rw [if_neg h2] at hn ⊢
    simp only [E.sn, Bool.and_eq_true, decide_eq_true_eq]
    refine ⟨⟨fun h => absurd (.inl h) h1, by omega⟩, ?_⟩
    rw [nmdL_map, snL_iff]
    intro y hy
    obtain ⟨x, hx, rfl⟩ := List.mem_map.1 hy
    have hll : ∀ m : List E, E.lightL m = true → ∀ x ∈ m, x.light = true := by
      intro m
      induction m with
      | nil => intro _ x hx; cases hx
      | cons a m ihm =>
        intro h x hx
        simp only [E.lightL, Bool.and_eq_true] at h
        rcases List.mem_cons.1 hx with rfl | hx
        · exact h.1
        · exact ihm h.2 x hx
    exact ih x hx (hll l hl.2 x hx) (nokL_iff.1 hn x hx)
theorem nmd_size (e : E) : e.nmd.size ≤ e.size := by
  induction e using E.ind with
  | h o v t n l ih =>
    rw [E.nmd]
    by_cases h2 : o = wAt
    · rw [if_pos h2]
      show 1 ≤ _
      simp only [E.size]
      omega
    rw [if_neg h2]
    simp only [E.size]
    have hl : ∀ m : List E, (∀ x ∈ m, x.nmd.size ≤ x.size) → E.sizeL (E.nmdL m) ≤ E.sizeL m := by
      intro m
      induction m with
      | nil => intro _; exact Nat.le_refl _
      | cons a m ihm =>
        intro h
        have h1 := h a (by simp)
        have h2 := ihm fun x hx => h x (by simp [hx])
        simp only [E.nmdL, E.sizeL]
        omega
    have := hl l ih
    omega
theorem chk_named (W : Int) (e : E) : (if e.nok W = true then chkE e.nmd else 1) = chkW W e := by
  have h := nmd_may W e
  unfold chkE chkW
  by_cases hn : e.nok W = true
  · rw [if_pos hn]
    rw [hn, Bool.true_and] at h
    rw [h]
    by_cases hg : e.good W = true
    · rw [nmd_deep W e hg]
    · rw [if_neg hg, if_neg hg]
  · have hn' : e.nok W = false := by simpa using hn
    rw [hn', Bool.false_and] at h
    rw [if_neg hn, ← h]
    rfl
set_option maxRecDepth 100000 in
set_option maxHeartbeats 2000000 in
theorem rck_any (W : Int) (e : E) (x : Value) (S : Nat → Prop) (w : World) (hx : EAt S w e x) (hsz : e.size ≤ 100000) (hl : e.light = true) : Calls Tryz.prog 27 #[x, .int .i64 W] w fun q w' => q = .returned (.int .i64 (chkW W e)) ∧ Below w.heap.size w w' := by
  obtain ⟨s0, i1, i2, s3, s4, s5, A, n, c, rfl⟩ := hx.agg
  obtain ⟨W1, hW1, q1, z1, r1⟩ := box7 w (.string s0) (.int .i64 i1) (.int .i64 i2) (.string s3) (.string s4) (.string s5) (.slice A n c)
  have HN := Lib.hid (named_any W e _ S W1 (hx.later r1) hsz)
  have HK : Hid (e.nok W = true → ∀ A c W2, Sub (fun b => W1.heap.size ≤ b) W2 e.nmd A c → Calls Tryz.prog 41 #[eVal e.nmd.op e.nmd.v e.nmd.tb e.nmd.nm (.slice A e.nmd.l.length c)] W2 fun q w' => q = .returned (.int .i64 (chkW W e)) ∧ Below W2.heap.size W2 w') := Lib.hid fun hn A c W2 hs => by
    have h1 := rCheck_any e.nmd _ _ W2 ⟨A, c, rfl, hs⟩ (nmd_sn e hl hn) (by have := nmd_size e; have := deep_sizeE e.nmd; omega)
    have h2 := chk_named W e
    rw [if_pos hn] at h2
    rw [h2] at h1
    exact h1
  have HF : Hid (e.nok W = false → chkW W e = 1) := Lib.hid fun hn => by
    have h2 := chk_named W e
    rw [if_neg (by rw [hn]; decide)] at h2
    exact h2.symm
  have HB := Lib.hid r1
  have HW1 := Lib.hid hW1
  obtain ⟨a0, a1, a2, a3, a4, a5, a6⟩ := q1.cells
  generalize chkW W e = R at *
  clear hx hW1 q1 z1 r1 hsz hl
  go_enter Tryz.func27, Tryz.ntmps27
  go_wp2_with (rw [← HW1.out])
  refine (HN.out).mono ?_
  rintro r w2 ⟨b2, hcase⟩
  have HB2 := Lib.hid (bthen HB.out b2)
  clear b2 HN HW1 a0 a1 a2 a3 a4 a5 a6
  rcases hcase with ⟨hn, An, cn, rfl, hs⟩ | ⟨hn, u0, j1, j2, u3, u4, u5, An, nn, cn, rfl⟩
  · have HC := Lib.hid (fun W3 (hb : Below w2.heap.size w2 W3) => HK.out hn An cn W3 (sub_later hs hb))
    clear hs HF HK hn
    unfold eVal at *
    generalize str e.nmd.op = bo2 at *
    generalize str e.nmd.tb = bt2 at *
    generalize str e.nmd.nm = bn2 at *
    generalize str e.nmd.v.s = bs2 at *
    generalize e.nmd.v.k = vk2 at *
    generalize e.nmd.v.i = vi2 at *
    generalize e.nmd.l.length = ln2 at *
    obtain ⟨Wc, Wd, hWc, hWd, b1, b2, hz, hb1, hb2⟩ := made7 w2 (.string bo2) (.int .i64 vk2) (.int .i64 vi2) (.string bs2) (.string bt2) (.string bn2) (.slice An ln2 cn)
    obtain ⟨p10, p11, p12, p13, p14, p15, p16⟩ := b1.cells
    obtain ⟨f10, f11, f12, f13, f14, f15, f16⟩ := b1.free
    obtain ⟨y10, y11, y12, y13, y14, y15, y16⟩ := b2.cells
    have HWc := Lib.hid hWc
    have HWd := Lib.hid hWd
    have HBd := Lib.hid (bthen HB2.out hb2)
    have HCd := Lib.hid (HC.out Wd hb2)
    clear hWc hWd b1 b2 hz hb1 hb2 HC
    go_wp2_with (first | (rw [← HWd.out]) | (rw [← HWc.out]))
    refine (HCd.out).mono ?_
    rintro r w3 ⟨rfl, b3⟩
    go_wp2_with fail
    go_ret
    exact ⟨rfl, bthen HBd.out b3⟩
  · have hR := HF.out hn
    subst hR
    obtain ⟨Wc, Wd, hWc, hWd, b1, b2, hz, hb1, hb2⟩ := made7 w2 (.string u0) (.int .i64 j1) (.int .i64 j2) (.string u3) (.string u4) (.string u5) (.slice An nn cn)
    obtain ⟨p10, p11, p12, p13, p14, p15, p16⟩ := b1.cells
    obtain ⟨f10, f11, f12, f13, f14, f15, f16⟩ := b1.free
    have HWc := Lib.hid hWc
    have HWd := Lib.hid hWd
    have HBd := Lib.hid (bthen HB2.out hb2)
    clear hWc hWd b1 b2 hz hb1 hb2 HF HK
    go_wp2_with (first | (rw [← HWd.out]) | (rw [← HWc.out]))
    go_ret
    exact ⟨rfl, HBd.out⟩
set_option maxRecDepth 100000 in
set_option maxHeartbeats 4000000 in
theorem wide_any (xs : List BV.V) (A : Option Addr) (c : Nat) (es : List E) (v : Vl) (B : Option Addr) (c' : Nat) (S : Nat → Prop) (w : World) (hr : BV.RowAt w w.heap.size A xs) (hxl : xs.length ≤ 100000) (hes : ∀ e ∈ es, e.size ≤ 100000 ∧ e.light = true) (hsub : Sub S w (.mk [] v [] [] es) B c') :
    Calls Tryz.prog 9 #[.slice A xs.length c, .slice B es.length c'] w fun e w' => e = .returned (.bool (es.all (fun e => chkW xs.length e == 0) && BV.chkR xs == 0)) ∧ Below w.heap.size w w' := by
  have HCF : Hid (∀ W1, Below w.heap.size w W1 → Calls Tryz.prog 14 #[.slice A xs.length c] W1 fun e w' => e = .returned (.int .i64 (BV.chkR xs)) ∧ Below W1.heap.size W1 w') := Lib.hid fun W1 hb1 => BV.rcheckRow_any xs A c W1 (hr.later hb1) (by omega)
  obtain ⟨hlc, hcm, hmem⟩ := hsub
  have hm : es.length ≤ 9223372036854775807 := Nat.le_trans hlc hcm
  have HM := Lib.hid hmem
  have HES : Hid (∀ k (hk : k < es.length) (x : Value) (W1 : World), EAt S W1 es[k] x → Calls Tryz.prog 27 #[x, .int .i64 xs.length] W1 fun q w' => q = .returned (.int .i64 (chkW xs.length es[k])) ∧ Below W1.heap.size W1 w') := Lib.hid fun k hk x W1 hx => rck_any xs.length es[k] x S W1 hx (hes _ (List.getElem_mem hk)).1 (hes _ (List.getElem_mem hk)).2
  clear hr hmem hlc hcm hes hxl
  generalize BV.chkR xs = b at *
  obtain ⟨fW, hfW⟩ : ∃ fW : E → Bool, fW = fun e => chkW xs.length e == 0 := ⟨_, rfl⟩
  rw [← hfW]
  have HL : Hid (∀ k (hk : k < es.length), (es.drop k).all fW = (fW es[k] && (es.drop (k + 1)).all fW)) := fun k hk => by rw [List.drop_eq_getElem_cons hk, List.all_cons]
  have HFW := Lib.hid hfW
  clear hfW
  generalize xs.length = n at *
  generalize hR : es.all fW = R at *
  have HR : Hid ((es.drop 0).all fW = R) := by rw [List.drop_zero]; exact hR
  clear hR
  go_enter Tryz.func9, Tryz.ntmps9
  go_wp2_with fail
  go_loopw [9] (fun iv wr => ∃ k : Nat, k ≤ es.length ∧ iv = .int .i64 k ∧ Hid ((es.drop k).all fW = R) ∧ Hid (Below w.heap.size w wr)) (fun iv _ => es.length - (intOf iv).toNat)
  case atStart => exact ⟨0, Nat.zero_le _, rfl, HR.out, Below.refl _ _⟩
  case round =>
    obtain ⟨k, hk, rfl, HK, HB⟩ := hrel
    by_cases hlt : k < es.length
    · obtain ⟨g, off, rfl, hS, hg, hl⟩ := HM.out (by omega)
      obtain ⟨A', c'', ⟨g0, g1, g2, g3, g4, g5, g6⟩, hs⟩ := hl.get k hlt
      have hkz : (k : Int) < (es.length : Int) := by omega
      have i0 := (HB.out.cell (p := ⟨g, off + k * 7, none⟩) hg).trans g0
      have i1 := (HB.out.cell (p := ⟨g, off + k * 7 + 1, none⟩) hg).trans g1
      have i2 := (HB.out.cell (p := ⟨g, off + k * 7 + 2, none⟩) hg).trans g2
      have i3 := (HB.out.cell (p := ⟨g, off + k * 7 + 3, none⟩) hg).trans g3
      have i4 := (HB.out.cell (p := ⟨g, off + k * 7 + 4, none⟩) hg).trans g4
      have i5 := (HB.out.cell (p := ⟨g, off + k * 7 + 5, none⟩) hg).trans g5
      have i6 := (HB.out.cell (p := ⟨g, off + k * 7 + 6, none⟩) hg).trans g6
      obtain ⟨W1, W, hW1, hW, b1, b2, hz, hb1, hb2⟩ := made7 wr (.string (str es[k].op)) (.int .i64 es[k].v.k) (.int .i64 es[k].v.i) (.string (str es[k].v.s)) (.string (str es[k].tb)) (.string (str es[k].nm)) (.slice A' es[k].l.length c'')
      have f1 := b1.free
      have y1 := b2.cells
      obtain ⟨p10, p11, p12, p13, p14, p15, p16⟩ := b1.cells
      have hE : EAt S W es[k] (eVal es[k].op es[k].v es[k].tb es[k].nm (.slice A' es[k].l.length c'')) := by
        have h0 : EAt S w es[k] (eVal es[k].op es[k].v es[k].tb es[k].nm (.slice A' es[k].l.length c'')) := ⟨A', c'', rfl, hs⟩
        exact (h0.later HB.out).later hb2
      have HF := Lib.hid (HES.out k hlt _ W hE)
      have hKK := HL.out k hlt
      rw [HK.out] at hKK
      have hko : fW es[k] = (chkW n es[k] == 0) := by rw [HFW.out]
      rw [hko] at hKK
      have HB2 := Lib.hid (bthen HB.out hb2)
      have HW1 := Lib.hid hW1
      have HW := Lib.hid hW
      obtain ⟨f10, f11, f12, f13, f14, f15, f16⟩ := f1
      have HQ2 := Lib.hid b2
      obtain ⟨y10, y11, y12, y13, y14, y15, y16⟩ := y1
      unfold eVal at HF
      generalize str es[k].op = bo' at *
      generalize str es[k].tb = bt' at *
      generalize str es[k].nm = bn' at *
      generalize str es[k].v.s = bs' at *
      generalize es[k].v.k = vk' at *
      generalize es[k].v.i = vi' at *
      generalize es[k].l.length = ln' at *
      generalize chkW n es[k] = Q1 at *
      have HKK := Lib.hid hKK
      clear hW1 hW hs hl hE g0 g1 g2 g3 g4 g5 g6 b1 b2 hb1 hb2 HB HM HK HR HL hKK hko HES HFW
      go_wp2_with (first | (rw [← HW.out]) | (rw [← HW1.out]))
      refine (HF.out).mono ?_
      rintro e w3 ⟨rfl, b3⟩
      have hk3 := HKK.out
      have HB3 := Lib.hid (bthen HB2.out b3)
      clear y10 y11 y12 y13 y14 y15 y16 b3 HF HQ2
      by_cases hq : Q1 = 0
      · rw [hq, beq_self_eq_true, Bool.true_and] at hk3
        have HK3 := Lib.hid hk3.symm
        subst hq
        clear hk3 HKK
        go_wp2_with fail
        go_roundw
        case measure => simp [intOf]; omega
        case rel => exact ⟨k + 1, by omega, by go_num, HK3.out, HB3.out⟩
      · have hqb : (Q1 == 0) = false := by simpa using hq
        have hqn : (Q1 != 0) = true := by simpa using hq
        rw [hqb, Bool.false_and] at hk3
        subst hk3
        clear HKK hqb
        go_wp2_with fail
        exact bodyPost_ret (v := .bool false) (by simp [results, Tryz.results9, go_sem]) rfl ⟨by rw [Bool.false_and], HB3.out⟩
    · have hke : k = es.length := by omega
      have hkz : ¬ (k : Int) < (es.length : Int) := by omega
      subst hke
      have hKK := HK.out
      rw [List.drop_length, List.all_nil] at hKK
      subst hKK
      have HC := Lib.hid (HCF.out wr HB.out)
      clear HM HL HR HK HCF HES HFW
      go_wp2_with fail
      refine (HC.out).mono ?_
      rintro e w2 ⟨rfl, b2⟩
      go_wp2_with fail
      exact bodyPost_ret (v := .bool (b == 0)) (by simp [results, Tryz.results9, go_sem]) rfl ⟨by rw [Bool.true_and], bthen HB.out b2⟩
end Go.Proofs.YtcmbdghbicjljaaGreatDoor
namespace Go.Proofs.YtcmbdghbicjljaaGreatDoor
open Go.RowKit
theorem lightL_iff {l : List E} : E.lightL l = true ↔ ∀ x ∈ l, x.light = true := by
  induction l with
  | nil => simp [E.lightL]
  | cons a l ih => simp [E.lightL, ih]
theorem light_lt (e : E) : e.light = true → e.lt = true := by
  induction e using E.ind with
  | h o v t n l ih =>
    intro h
    simp only [E.light, Bool.and_eq_true, decide_eq_true_eq] at h
    simp only [E.lt, Bool.and_eq_true, decide_eq_true_eq]
    exact ⟨by omega, ltL_iff.2 fun x hx => ih x hx (lightL_iff.1 h.2 x hx)⟩
theorem ok_size {e : E} (h : okE e = true) : e.size ≤ 60 ∧ e.light = true := by
  simp only [okE, Bool.and_eq_true, decide_eq_true_eq] at h
  have := (left_le e 60).2.2 h.1
  exact ⟨by omega, h.2⟩
end Go.Proofs.YtcmbdghbicjljaaGreatDoor
namespace Go.Proofs.YtcmbdghbicjljaaGreatDoor
open Go.RowKit
open Go.Proofs.YtcmbdghbicjljaaGreatDoor.SC (HV VBox zero_box Args)
theorem vnewE (w : World) (k i : Int) (s : ByteArray) : VBox (w.alloc (.cells #[.int .i64 k, .int .i64 i, .string s] 23)) w.heap.size ⟨k, i, s⟩ := VBox.made w ⟨k, i, s⟩
theorem few_rowE {xs : List BV.V} {A : Option Addr} {c : Nat} (h : BV.few [⟨A, c, xs⟩] 600 = true) : xs.length ≤ 600 ∧ ∀ v ∈ xs, v.s.size ≤ 600 := by
  have h1 : BV.rowN xs ≤ 600 := by
    simp only [BV.few, decide_eq_true_eq] at h
    simp only [BV.rowsN, List.map_cons, List.map_nil, List.sum_cons, List.sum_nil] at h
    omega
  have h2 : xs.length ≤ BV.rowN xs ∧ ∀ v ∈ xs, v.s.size ≤ BV.rowN xs := by
    clear h h1
    induction xs with
    | nil => simp
    | cons a l ih =>
      have e : BV.rowN (a :: l) = 1 + a.s.size + BV.rowN l := by simp [BV.rowN]
      refine ⟨by rw [e, List.length_cons]; omega, fun v hv => ?_⟩
      rcases List.mem_cons.1 hv with rfl | hv
      · omega
      · have := ih.2 v hv
        omega
  exact ⟨by omega, fun v hv => by have := h2.2 v hv; omega⟩
end Go.Proofs.YtcmbdghbicjljaaGreatDoor
