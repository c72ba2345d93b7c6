/- Contracts of layer 10's reference Check and of the law's wide. Conditions: few parts, short names. -/
import Derived.Test.YtbhcjaeomoibpaaGreatDoorQ39
import Derived.Test.YtbhcjaeomoibpaaGreatDoorQ37
import Derived.Test.YtbhcjaeomoibpaaGreatDoorQ28
import Derived.Test.YtbhcjaeomoibpaaGreatDoorQ41
import Derived.Test.YtbhcjaeomoibpaaGreatDoorQ01
import Derived.Test.YtbhcjaeomoibpaaGreatDoorQ29
set_option linter.unusedSimpArgs false
set_option linter.unusedVariables false
namespace Go.Proofs.YtbhcjaeomoibpaaGreatDoor
open Go.RowKit
theorem nmd_sn {W : Int} (e : E) : e.light = true → e.nok W = true → e.nmd.sn = true := by
  induction e using E.ind with
  | h o v t n l ih =>
    intro hl hn
    simp only [E.light, Bool.and_eq_true, decide_eq_true_eq] at hl
    rw [E.nok] at hn
    by_cases h1 : o = wCol ∨ o = wStar ∨ o = wCall ∧ aggB n = true
    · rw [if_pos h1] at hn
      cases hn
    rw [if_neg h1] at hn
    rw [E.nmd]
    by_cases h2 : o = wAt
    · rw [if_pos h2]; rfl
    rw [if_neg h2] at hn ⊢
    simp only [E.sn, Bool.and_eq_true, decide_eq_true_eq]
    refine ⟨⟨fun h => absurd (.inl h) h1, by omega⟩, ?_⟩
    rw [nmdL_map, snL_iff]
    intro y hy
    obtain ⟨x, hx, rfl⟩ := List.mem_map.1 hy
    have hll : ∀ m : List E, E.lightL m = true → ∀ x ∈ m, x.light = true := by
      intro m
      induction m with
      | nil => intro _ x hx; cases hx
      | cons a m ihm =>
        intro h x hx
        simp only [E.lightL, Bool.and_eq_true] at h
        rcases List.mem_cons.1 hx with rfl | hx
        · exact h.1
        · exact ihm h.2 x hx
    exact ih x hx (hll l hl.2 x hx) (nokL_iff.1 hn x hx)
theorem nmd_size (e : E) : e.nmd.size ≤ e.size := by
  induction e using E.ind with
  | h o v t n l ih =>
    rw [E.nmd]
    by_cases h2 : o = wAt
    · rw [if_pos h2]
      show 1 ≤ _
      simp only [E.size]
      omega
    rw [if_neg h2]
    simp only [E.size]
    have hl : ∀ m : List E, (∀ x ∈ m, x.nmd.size ≤ x.size) → E.sizeL (E.nmdL m) ≤ E.sizeL m := by
      intro m
      induction m with
      | nil => intro _; exact Nat.le_refl _
      | cons a m ihm =>
        intro h
        have h1 := h a (by simp)
        have h2 := ihm fun x hx => h x (by simp [hx])
        simp only [E.nmdL, E.sizeL]
        omega
    have := hl l ih
    omega
theorem chk_named (W : Int) (e : E) : (if e.nok W = true then chkE e.nmd else 1) = chkW W e := by
  have h := nmd_may W e
  unfold chkE chkW
  by_cases hn : e.nok W = true
  · rw [if_pos hn]
    rw [hn, Bool.true_and] at h
    rw [h]
    by_cases hg : e.good W = true
    · rw [nmd_deep W e hg]
    · rw [if_neg hg, if_neg hg]
  · have hn' : e.nok W = false := by simpa using hn
    rw [hn', Bool.false_and] at h
    rw [if_neg hn, ← h]
    rfl
set_option maxRecDepth 100000 in
set_option maxHeartbeats 2000000 in
theorem rck_any (W : Int) (e : E) (x : Value) (S : Nat → Prop) (w : World) (hx : EAt S w e x) (hsz : e.size ≤ 100000) (hl : e.light = true) : Calls Tryz.prog 27 #[x, .int .i64 W] w fun q w' => q = .returned (.int .i64 (chkW W e)) ∧ Below w.heap.size w w' := by
  obtain ⟨s0, i1, i2, s3, s4, s5, A, n, c, rfl⟩ := hx.agg
  obtain ⟨W1, hW1, q1, z1, r1⟩ := box7 w (.string s0) (.int .i64 i1) (.int .i64 i2) (.string s3) (.string s4) (.string s5) (.slice A n c)
  have HN := Lib.hid (named_any W e _ S W1 (hx.later r1) hsz)
  have HK : Hid (e.nok W = true → ∀ A c W2, Sub (fun b => W1.heap.size ≤ b) W2 e.nmd A c → Calls Tryz.prog 41 #[eVal e.nmd.op e.nmd.v e.nmd.tb e.nmd.nm (.slice A e.nmd.l.length c)] W2 fun q w' => q = .returned (.int .i64 (chkW W e)) ∧ Below W2.heap.size W2 w') := Lib.hid fun hn A c W2 hs => by
    have h1 := rCheck_any e.nmd _ _ W2 ⟨A, c, rfl, hs⟩ (nmd_sn e hl hn) (by have := nmd_size e; have := deep_sizeE e.nmd; omega)
    have h2 := chk_named W e
    rw [if_pos hn] at h2
    rw [h2] at h1
    exact h1
  have HF : Hid (e.nok W = false → chkW W e = 1) := Lib.hid fun hn => by
    have h2 := chk_named W e
    rw [if_neg (by rw [hn]; decide)] at h2
    exact h2.symm
  have HB := Lib.hid r1
  have HW1 := Lib.hid hW1
  obtain ⟨a0, a1, a2, a3, a4, a5, a6⟩ := q1.cells
  generalize chkW W e = R at *
  clear hx hW1 q1 z1 r1 hsz hl
  go_enter Tryz.func27, Tryz.ntmps27
  go_wp2_with (rw [← HW1.out])
  refine (HN.out).mono ?_
  rintro r w2 ⟨b2, hcase⟩
  have HB2 := Lib.hid (bthen HB.out b2)
  clear b2 HN HW1 a0 a1 a2 a3 a4 a5 a6
  rcases hcase with ⟨hn, An, cn, rfl, hs⟩ | ⟨hn, u0, j1, j2, u3, u4, u5, An, nn, cn, rfl⟩
  · have HC := Lib.hid (fun W3 (hb : Below w2.heap.size w2 W3) => HK.out hn An cn W3 (sub_later hs hb))
    clear hs HF HK hn
    unfold eVal at *
    generalize str e.nmd.op = bo2 at *
    generalize str e.nmd.tb = bt2 at *
    generalize str e.nmd.nm = bn2 at *
    generalize str e.nmd.v.s = bs2 at *
    generalize e.nmd.v.k = vk2 at *
    generalize e.nmd.v.i = vi2 at *
    generalize e.nmd.l.length = ln2 at *
    obtain ⟨Wc, Wd, hWc, hWd, b1, b2, hz, hb1, hb2⟩ := made7 w2 (.string bo2) (.int .i64 vk2) (.int .i64 vi2) (.string bs2) (.string bt2) (.string bn2) (.slice An ln2 cn)
    obtain ⟨p10, p11, p12, p13, p14, p15, p16⟩ := b1.cells
    obtain ⟨f10, f11, f12, f13, f14, f15, f16⟩ := b1.free
    obtain ⟨y10, y11, y12, y13, y14, y15, y16⟩ := b2.cells
    have HWc := Lib.hid hWc
    have HWd := Lib.hid hWd
    have HBd := Lib.hid (bthen HB2.out hb2)
    have HCd := Lib.hid (HC.out Wd hb2)
    clear hWc hWd b1 b2 hz hb1 hb2 HC
    go_wp2_with (first | (rw [← HWd.out]) | (rw [← HWc.out]))
    refine (HCd.out).mono ?_
    rintro r w3 ⟨rfl, b3⟩
    go_wp2_with fail
    go_ret
    exact ⟨rfl, bthen HBd.out b3⟩
  · have hR := HF.out hn
    subst hR
    obtain ⟨Wc, Wd, hWc, hWd, b1, b2, hz, hb1, hb2⟩ := made7 w2 (.string u0) (.int .i64 j1) (.int .i64 j2) (.string u3) (.string u4) (.string u5) (.slice An nn cn)
    obtain ⟨p10, p11, p12, p13, p14, p15, p16⟩ := b1.cells
    obtain ⟨f10, f11, f12, f13, f14, f15, f16⟩ := b1.free
    have HWc := Lib.hid hWc
    have HWd := Lib.hid hWd
    have HBd := Lib.hid (bthen HB2.out hb2)
    clear hWc hWd b1 b2 hz hb1 hb2 HF HK
    go_wp2_with (first | (rw [← HWd.out]) | (rw [← HWc.out]))
    go_ret
    exact ⟨rfl, HBd.out⟩
set_option maxRecDepth 100000 in
set_option maxHeartbeats 4000000 in
theorem wide_any (xs : List BV.V) (A : Option Addr) (c : Nat) (es : List E) (v : Vl) (B : Option Addr) (c' : Nat) (S : Nat → Prop) (w : World) (hr : BV.RowAt w w.heap.size A xs) (hxl : xs.length ≤ 100000) (hes : ∀ e ∈ es, e.size ≤ 100000 ∧ e.light = true) (hsub : Sub S w (.mk [] v [] [] es) B c') :
    Calls Tryz.prog 9 #[.slice A xs.length c, .slice B es.length c'] w fun e w' => e = .returned (.bool (es.all (fun e => chkW xs.length e == 0) && BV.chkR xs == 0)) ∧ Below w.heap.size w w' := by
  have HCF : Hid (∀ W1, Below w.heap.size w W1 → Calls Tryz.prog 14 #[.slice A xs.length c] W1 fun e w' => e = .returned (.int .i64 (BV.chkR xs)) ∧ Below W1.heap.size W1 w') := Lib.hid fun W1 hb1 => BV.rcheckRow_any xs A c W1 (hr.later hb1) (by omega)
  obtain ⟨hlc, hcm, hmem⟩ := hsub
  have hm : es.length ≤ 9223372036854775807 := Nat.le_trans hlc hcm
  have HM := Lib.hid hmem
  have HES : Hid (∀ k (hk : k < es.length) (x : Value) (W1 : World), EAt S W1 es[k] x → Calls Tryz.prog 27 #[x, .int .i64 xs.length] W1 fun q w' => q = .returned (.int .i64 (chkW xs.length es[k])) ∧ Below W1.heap.size W1 w') := Lib.hid fun k hk x W1 hx => rck_any xs.length es[k] x S W1 hx (hes _ (List.getElem_mem hk)).1 (hes _ (List.getElem_mem hk)).2
  clear hr hmem hlc hcm hes hxl
  generalize BV.chkR xs = b at *
  obtain ⟨fW, hfW⟩ : ∃ fW : E → Bool, fW = fun e => chkW xs.length e == 0 := ⟨_, rfl⟩
  rw [← hfW]
  have HL : Hid (∀ k (hk : k < es.length), (es.drop k).all fW = (fW es[k] && (es.drop (k + 1)).all fW)) := fun k hk => by rw [List.drop_eq_getElem_cons hk, List.all_cons]
  have HFW := Lib.hid hfW
  clear hfW
  generalize xs.length = n at *
  generalize hR : es.all fW = R at *
  have HR : Hid ((es.drop 0).all fW = R) := by rw [List.drop_zero]; exact hR
  clear hR
  go_enter Tryz.func9, Tryz.ntmps9
  go_wp2_with fail
  go_loopw [9] (fun iv wr => ∃ k : Nat, k ≤ es.length ∧ iv = .int .i64 k ∧ Hid ((es.drop k).all fW = R) ∧ Hid (Below w.heap.size w wr)) (fun iv _ => es.length - (intOf iv).toNat)
  case atStart => exact ⟨0, Nat.zero_le _, rfl, HR.out, Below.refl _ _⟩
  case round =>
    obtain ⟨k, hk, rfl, HK, HB⟩ := hrel
    by_cases hlt : k < es.length
    · obtain ⟨g, off, rfl, hS, hg, hl⟩ := HM.out (by omega)
      obtain ⟨A', c'', ⟨g0, g1, g2, g3, g4, g5, g6⟩, hs⟩ := hl.get k hlt
      have hkz : (k : Int) < (es.length : Int) := by omega
      have i0 := (HB.out.cell (p := ⟨g, off + k * 7, none⟩) hg).trans g0
      have i1 := (HB.out.cell (p := ⟨g, off + k * 7 + 1, none⟩) hg).trans g1
      have i2 := (HB.out.cell (p := ⟨g, off + k * 7 + 2, none⟩) hg).trans g2
      have i3 := (HB.out.cell (p := ⟨g, off + k * 7 + 3, none⟩) hg).trans g3
      have i4 := (HB.out.cell (p := ⟨g, off + k * 7 + 4, none⟩) hg).trans g4
      have i5 := (HB.out.cell (p := ⟨g, off + k * 7 + 5, none⟩) hg).trans g5
      have i6 := (HB.out.cell (p := ⟨g, off + k * 7 + 6, none⟩) hg).trans g6
      obtain ⟨W1, W, hW1, hW, b1, b2, hz, hb1, hb2⟩ := made7 wr (.string (str es[k].op)) (.int .i64 es[k].v.k) (.int .i64 es[k].v.i) (.string (str es[k].v.s)) (.string (str es[k].tb)) (.string (str es[k].nm)) (.slice A' es[k].l.length c'')
      have f1 := b1.free
      have y1 := b2.cells
      obtain ⟨p10, p11, p12, p13, p14, p15, p16⟩ := b1.cells
      have hE : EAt S W es[k] (eVal es[k].op es[k].v es[k].tb es[k].nm (.slice A' es[k].l.length c'')) := by
        have h0 : EAt S w es[k] (eVal es[k].op es[k].v es[k].tb es[k].nm (.slice A' es[k].l.length c'')) := ⟨A', c'', rfl, hs⟩
        exact (h0.later HB.out).later hb2
      have HF := Lib.hid (HES.out k hlt _ W hE)
      have hKK := HL.out k hlt
      rw [HK.out] at hKK
      have hko : fW es[k] = (chkW n es[k] == 0) := by rw [HFW.out]
      rw [hko] at hKK
      have HB2 := Lib.hid (bthen HB.out hb2)
      have HW1 := Lib.hid hW1
      have HW := Lib.hid hW
      obtain ⟨f10, f11, f12, f13, f14, f15, f16⟩ := f1
      have HQ2 := Lib.hid b2
      obtain ⟨y10, y11, y12, y13, y14, y15, y16⟩ := y1
      unfold eVal at HF
      generalize str es[k].op = bo' at *
      generalize str es[k].tb = bt' at *
      generalize str es[k].nm = bn' at *
      generalize str es[k].v.s = bs' at *
      generalize es[k].v.k = vk' at *
      generalize es[k].v.i = vi' at *
      generalize es[k].l.length = ln' at *
      generalize chkW n es[k] = Q1 at *
      have HKK := Lib.hid hKK
      clear hW1 hW hs hl hE g0 g1 g2 g3 g4 g5 g6 b1 b2 hb1 hb2 HB HM HK HR HL hKK hko HES HFW
      go_wp2_with (first | (rw [← HW.out]) | (rw [← HW1.out]))
      refine (HF.out).mono ?_
      rintro e w3 ⟨rfl, b3⟩
      have hk3 := HKK.out
      have HB3 := Lib.hid (bthen HB2.out b3)
      clear y10 y11 y12 y13 y14 y15 y16 b3 HF HQ2
      by_cases hq : Q1 = 0
      · rw [hq, beq_self_eq_true, Bool.true_and] at hk3
        have HK3 := Lib.hid hk3.symm
        subst hq
        clear hk3 HKK
        go_wp2_with fail
        go_roundw
        case measure => simp [intOf]; omega
        case rel => exact ⟨k + 1, by omega, by go_num, HK3.out, HB3.out⟩
      · have hqb : (Q1 == 0) = false := by simpa using hq
        have hqn : (Q1 != 0) = true := by simpa using hq
        rw [hqb, Bool.false_and] at hk3
        subst hk3
        clear HKK hqb
        go_wp2_with fail
        exact bodyPost_ret (v := .bool false) (by simp [results, Tryz.results9, go_sem]) rfl ⟨by rw [Bool.false_and], HB3.out⟩
    · have hke : k = es.length := by omega
      have hkz : ¬ (k : Int) < (es.length : Int) := by omega
      subst hke
      have hKK := HK.out
      rw [List.drop_length, List.all_nil] at hKK
      subst hKK
      have HC := Lib.hid (HCF.out wr HB.out)
      clear HM HL HR HK HCF HES HFW
      go_wp2_with fail
      refine (HC.out).mono ?_
      rintro e w2 ⟨rfl, b2⟩
      go_wp2_with fail
      exact bodyPost_ret (v := .bool (b == 0)) (by simp [results, Tryz.results9, go_sem]) rfl ⟨by rw [Bool.true_and], bthen HB.out b2⟩
end Go.Proofs.YtbhcjaeomoibpaaGreatDoor
namespace Go.Proofs.YtbhcjaeomoibpaaGreatDoor
open Go.RowKit
theorem lightL_iff {l : List E} : E.lightL l = true ↔ ∀ x ∈ l, x.light = true := by
  induction l with
  | nil => simp [E.lightL]
  | cons a l ih => simp [E.lightL, ih]
theorem light_lt (e : E) : e.light = true → e.lt = true := by
  induction e using E.ind with
  | h o v t n l ih =>
    intro h
    simp only [E.light, Bool.and_eq_true, decide_eq_true_eq] at h
    simp only [E.lt, Bool.and_eq_true, decide_eq_true_eq]
    exact ⟨by omega, ltL_iff.2 fun x hx => ih x hx (lightL_iff.1 h.2 x hx)⟩
theorem light_sn {W : Int} (e : E) : e.light = true → e.nok W = true → e.sn = true := by
  induction e using E.ind with
  | h o v t n l ih =>
    intro hl hn
    simp only [E.light, Bool.and_eq_true, decide_eq_true_eq] at hl
    rw [E.nok] at hn
    by_cases h1 : o = wCol ∨ o = wStar ∨ o = wCall ∧ aggB n = true
    · rw [if_pos h1] at hn
      cases hn
    rw [if_neg h1] at hn
    simp only [E.sn, Bool.and_eq_true, decide_eq_true_eq]
    refine ⟨⟨fun h => absurd (.inl h) h1, by omega⟩, ?_⟩
    by_cases h2 : o = wAt
    · rw [if_pos h2] at hn
      simp only [placeB, Bool.and_eq_true, List.isEmpty_iff] at hn
      rw [hn.2.2]
      rfl
    rw [if_neg h2] at hn
    exact snL_iff.2 fun x hx => ih x hx (lightL_iff.1 hl.2 x hx) (nokL_iff.1 hn x hx)
theorem fd_sn (d : Deeds) (e : E) : e.sn = true → (e.fd d).sn = true := by
  induction e using E.ind with
  | h o v t n l ih =>
    intro h
    simp only [E.sn, Bool.and_eq_true] at h
    rw [E.fd]
    split
    · rfl
    · simp only [E.sn, Bool.and_eq_true]
      refine ⟨h.1, ?_⟩
      rw [fdL_map, snL_iff]
      intro y hy
      obtain ⟨x, hx, rfl⟩ := List.mem_map.1 hy
      exact ih x hx (snL_iff.1 h.2 x hx)
theorem good_mono {W V : Int} (h : W ≤ V) (e : E) : e.good W = true → e.good V = true := by
  induction e using E.ind with
  | h o v t n l ih =>
    have hp : placeB W v t n l = true → placeB V v t n l = true := by
      simp only [placeB, Bool.and_eq_true, decide_eq_true_eq]
      rintro ⟨⟨⟨⟨a, b⟩, c⟩, d⟩, e⟩
      exact ⟨⟨⟨⟨a, b⟩, c⟩, by omega⟩, e⟩
    have hl : E.goodL W l = true → E.goodL V l = true := by
      clear hp
      induction l with
      | nil => exact id
      | cons a l ihl =>
        simp only [E.goodL, Bool.and_eq_true]
        exact fun h => ⟨ih a (by simp) h.1, ihl (fun x hx => ih x (by simp [hx])) h.2⟩
    unfold E.good
    split
    · exact hp
    · split
      · exact id
      · split
        · exact id
        · split <;> (simp only [Bool.and_eq_true]; exact fun h => ⟨h.1, hl h.2⟩)
theorem ok_size {e : E} (h : okE e = true) : e.size ≤ 60 ∧ e.light = true := by
  simp only [okE, Bool.and_eq_true, decide_eq_true_eq] at h
  have := (left_le e 60).2.2 h.1
  exact ⟨by omega, h.2⟩
structure Foldable (e : E) (xs : List BV.V) : Prop where
  size : e.size ≤ 100000
  sn : e.sn = true
  nfit : e.fit deedP []
  rfit : e.fit deedP xs
  max : chkW 9223372036854775807 e = 0
  ck : chkW xs.length e = 0
theorem same_facts {e : E} {xs : List BV.V} (hk : okE e = true) (hc : chkW xs.length e = 0) (hin : e.ints = true) (hx : ∀ v ∈ xs, (-9223372036854775808 ≤ v.i ∧ v.i ≤ 9223372036854775807) ∧ v.s.size ≤ 100000) (hl : xs.length ≤ 100000) : Foldable e xs ∧ Foldable (e.fd deedP) xs := by
  obtain ⟨h1, h2⟩ := ok_size hk
  have hg := chkW_ok.1 hc
  have hn : e.nok xs.length = true := by
    have h := nmd_may xs.length e
    rw [hg.1] at h
    simp only [Bool.and_eq_true] at h
    exact h.1
  have hsn := light_sn e h2 hn
  have hlt := light_lt e h2
  have f0 := ev_fit deeds_small (r := []) (by simp) e (by omega) hin hlt
  have fx := ev_fit deeds_small hx e (by omega) hin hlt
  have hm : chkW 9223372036854775807 e = 0 := chkW_ok.2 ⟨good_mono (by omega) e hg.1, hg.2⟩
  have hgf := fd_good deeds_keep xs.length e hg.1
  have hdf : (e.fd deedP).deep ≤ 40 := Nat.le_trans (fd_deep deedP e) hg.2
  have h8 : Fit8 (e.ev deedP []).2 := ⟨f0.2.1, by have := f0.2.2; have := Nat.mul_le_mul_left 100000 h1; omega⟩
  exact ⟨⟨by omega, hsn, f0.1, fx.1, hm, hc⟩, ⟨by have := fd_size deedP e; omega, fd_sn deedP e hsn, fd_fit deedP [] e f0.1 f0.1 h8, fd_fit deedP xs e fx.1 f0.1 h8, chkW_ok.2 ⟨good_mono (by omega) _ hgf, hdf⟩, chkW_ok.2 ⟨hgf, hdf⟩⟩⟩
end Go.Proofs.YtbhcjaeomoibpaaGreatDoor
namespace Go.Proofs.YtbhcjaeomoibpaaGreatDoor
open Go.RowKit
open Go.Proofs.YtbhcjaeomoibpaaGreatDoor.SC (HV VBox zero_box Args)
theorem vnewE (w : World) (k i : Int) (s : ByteArray) : VBox (w.alloc (.cells #[.int .i64 k, .int .i64 i, .string s] 23)) w.heap.size ⟨k, i, s⟩ := VBox.made w ⟨k, i, s⟩
theorem s13_of {W : World} {p q r : Nat} {v u : BV.V} {c0 c1 c2 c3 c4 c5 c6 : Value} (hp : VBox W p v) (hq : VBox W q u) (hr : B7 W r c0 c1 c2 c3 c4 c5 c6) (w' : World) (hb : Below W.heap.size W w') : Below W.heap.size W w' ∧ w'.cell? ⟨p, 0, none⟩ = some (.int .i64 v.k) ∧ w'.cell? ⟨p, 1, none⟩ = some (.int .i64 v.i) ∧ w'.cell? ⟨p, 2, none⟩ = some (.string v.s) ∧ w'.cell? ⟨q, 0, none⟩ = some (.int .i64 u.k) ∧ w'.cell? ⟨q, 1, none⟩ = some (.int .i64 u.i) ∧ w'.cell? ⟨q, 2, none⟩ = some (.string u.s) ∧ w'.cell? ⟨r, 0, none⟩ = some c0 ∧ w'.cell? ⟨r, 1, none⟩ = some c1 ∧ w'.cell? ⟨r, 2, none⟩ = some c2 ∧ w'.cell? ⟨r, 3, none⟩ = some c3 ∧ w'.cell? ⟨r, 4, none⟩ = some c4 ∧ w'.cell? ⟨r, 5, none⟩ = some c5 ∧ w'.cell? ⟨r, 6, none⟩ = some c6 ∧ True := by
  obtain ⟨z0, z1, z2⟩ := (hp.later hb).cells
  obtain ⟨a0, a1, a2⟩ := (hq.later hb).cells
  obtain ⟨b0, b1, b2, b3, b4, b5, b6⟩ := (hr.later hb).cells
  exact ⟨hb, z0, z1, z2, a0, a1, a2, b0, b1, b2, b3, b4, b5, b6, trivial⟩
theorem few_rowE {xs : List BV.V} {A : Option Addr} {c : Nat} (h : BV.few [⟨A, c, xs⟩] 600 = true) : xs.length ≤ 600 ∧ ∀ v ∈ xs, v.s.size ≤ 600 := by
  have h1 : BV.rowN xs ≤ 600 := by
    simp only [BV.few, decide_eq_true_eq] at h
    simp only [BV.rowsN, List.map_cons, List.map_nil, List.sum_cons, List.sum_nil] at h
    omega
  have h2 : xs.length ≤ BV.rowN xs ∧ ∀ v ∈ xs, v.s.size ≤ BV.rowN xs := by
    clear h h1
    induction xs with
    | nil => simp
    | cons a l ih =>
      have e : BV.rowN (a :: l) = 1 + a.s.size + BV.rowN l := by simp [BV.rowN]
      refine ⟨by rw [e, List.length_cons]; omega, fun v hv => ?_⟩
      rcases List.mem_cons.1 hv with rfl | hv
      · omega
      · have := ih.2 v hv
        omega
  exact ⟨by omega, fun v hv => by have := h2.2 v hv; omega⟩
set_option maxRecDepth 100000 in
set_option maxHeartbeats 8000000 in
theorem same_law (e : E) (S : Nat → Prop) (A1 : Option Addr) (c1 : Nat) (xs : List BV.V) (A : Option Addr) (c : Nat) (w : World) (hs : Sub S w e A1 c1) (hr : BV.RowAt w w.heap.size A xs) (hE : SC.Env w) (hl : xs.length ≤ 140737488355328) (ht : ∀ x ∈ xs, x.s.size ≤ 140737488355328) (hxi : ∀ x ∈ xs, -9223372036854775808 ≤ x.i ∧ x.i ≤ 9223372036854775807) (hin : e.ints = true) :
    Calls Tryz.prog 3 #[eVal e.op e.v e.tb e.nm (.slice A1 e.l.length c1), .slice A xs.length c] w fun q w' => q = .returned (.bool true) ∧ Below w.heap.size w w' := by
  obtain ⟨W1, hW1, q1, z1, r1⟩ := box7 w (.string (str e.op)) (.int .i64 e.v.k) (.int .i64 e.v.i) (.string (str e.v.s)) (.string (str e.tb)) (.string (str e.nm)) (.slice A1 e.l.length c1)
  obtain ⟨a0, a1, a2, a3, a4, a5, a6⟩ := q1.cells
  have HW1 := Lib.hid hW1
  have Q1 := Lib.hid q1
  have HB := Lib.hid r1
  have hs1 := sub_later hs r1
  have SE := Lib.hid hs1
  have R1 := Lib.hid (hr.later r1)
  have E1 := Lib.hid (hE.later r1)
  have HBIG : Hid (∀ W, Below W1.heap.size W1 W → Calls Tryz.prog 8 #[.slice A xs.length c, .slice (some ⟨W.heap.size, 0, none⟩) 1 1] (W.alloc (.cells #[.string (str e.op), .int .i64 e.v.k, .int .i64 e.v.i, .string (str e.v.s), .string (str e.tb), .string (str e.nm), .slice A1 e.l.length c1] 26)) fun q w' => q = .returned (.bool (!(okE e && BV.few [⟨A, c, xs⟩] 600))) ∧ Below W.heap.size W w') := Lib.hid fun W hb => by
    have h := big_any xs A c [e] v0 (some ⟨W.heap.size, 0, none⟩) 1 _ _ ((hr.later (bthen r1 hb)).later (bel_allocE (Below.refl _ _) _)) hl ht (one_sub e A1 c1 (sub_later hs1 hb) [] v0 [] [])
    simp only [List.all_cons, List.all_nil, Bool.and_true] at h
    exact h.mono fun q w' ⟨h1, h2⟩ => ⟨h1, bthen (bel_allocE (Below.refl _ _) _) h2⟩
  have HWID : Hid (okE e = true → xs.length ≤ 600 → ∀ W, Below W1.heap.size W1 W → Calls Tryz.prog 9 #[.slice A xs.length c, .slice (some ⟨W.heap.size, 0, none⟩) 1 1] (W.alloc (.cells #[.string (str e.op), .int .i64 e.v.k, .int .i64 e.v.i, .string (str e.v.s), .string (str e.tb), .string (str e.nm), .slice A1 e.l.length c1] 26)) fun q w' => q = .returned (.bool (chkW xs.length e == 0 && BV.chkR xs == 0)) ∧ Below W.heap.size W w') := Lib.hid fun hok hx6 W hb => by
    obtain ⟨k1, k2⟩ := ok_size hok
    have h := wide_any xs A c [e] v0 (some ⟨W.heap.size, 0, none⟩) 1 _ _ ((hr.later (bthen r1 hb)).later (bel_allocE (Below.refl _ _) _)) (by omega) (fun x hx => by rw [List.mem_singleton.1 hx]; exact ⟨by omega, k2⟩) (one_sub e A1 c1 (sub_later hs1 hb) [] v0 [] [])
    simp only [List.all_cons, List.all_nil, Bool.and_true] at h
    exact h.mono fun q w' ⟨h1, h2⟩ => ⟨h1, bthen (bel_allocE (Below.refl _ _) _) h2⟩
  have HFA : Hid (okE e = true → BV.few [⟨A, c, xs⟩] 600 = true → chkW xs.length e = 0 → Foldable e xs ∧ Foldable (e.fd deedP) xs ∧ xs.length ≤ 600) := Lib.hid fun hok hf hc => by
    obtain ⟨k1, k2⟩ := few_rowE hf
    obtain ⟨f1, f2⟩ := same_facts hok hc hin (fun v hv => ⟨hxi v hv, by have := k2 v hv; omega⟩) (by omega)
    exact ⟨f1, f2, k1⟩
  clear hW1 q1 z1 r1 hs hs1 hr hE hl ht hxi hin
  unfold eVal
  go_enter Tryz.func3, Tryz.ntmps3
  go_wp2_with (rw [← HW1.out])
  refine (live_any _ E1.out).mono ?_
  rintro r w2 ⟨rfl, b2⟩
  have B2 := Lib.hid b2
  obtain ⟨x0, x1, x2, x3, x4, x5, x6⟩ := (Q1.out.later b2).cells
  clear b2 a0 a1 a2 a3 a4 a5 a6
  go_wp2_with fail
  refine (HBIG.out w2 B2.out).mono ?_
  rintro r w3 ⟨rfl, b3⟩
  have B3 := Lib.hid (bthen B2.out b3)
  clear b3 x0 x1 x2 x3 x4 x5 x6 HBIG
  by_cases hok : (okE e && BV.few [⟨A, c, xs⟩] 600) = true
  · rw [hok]
    have hok1 : okE e = true := by
      rw [Bool.and_eq_true] at hok
      exact hok.1
    have hok2 : BV.few [⟨A, c, xs⟩] 600 = true := by
      rw [Bool.and_eq_true] at hok
      exact hok.2
    have HWD := Lib.hid (HWID.out hok1 (few_rowE hok2).1 w3 B3.out)
    have HFB := Lib.hid (HFA.out hok1 hok2)
    obtain ⟨x0, x1, x2, x3, x4, x5, x6⟩ := (Q1.out.later B3.out).cells
    clear hok hok1 hok2 HWID HFA
    go_wp2_with fail
    refine (HWD.out).mono ?_
    rintro r w3' ⟨rfl, b3'⟩
    have B3' := Lib.hid (bthen B3.out b3')
    clear b3' x0 x1 x2 x3 x4 x5 x6 HWD
    by_cases hwd : (chkW xs.length e == 0 && BV.chkR xs == 0) = true
    · rw [hwd]
      have hck : chkW xs.length e = 0 := by
        rw [Bool.and_eq_true] at hwd
        simpa using hwd.1
      obtain ⟨FE, FF, hx6⟩ := HFB.out hck
      have CF : Hid (∀ W, Below W1.heap.size W1 W → Calls Tryz.prog 10 #[.agg #[.string (str e.op), .int .i64 e.v.k, .int .i64 e.v.i, .string (str e.v.s), .string (str e.tb), .string (str e.nm), .slice A1 e.l.length c1]] W (GivesE W (e.fd deedP))) := Lib.hid fun W hb => foldE_any e _ S W ⟨_, _, rfl, sub_later SE.out hb⟩ FE.size FE.nfit (E1.out.later hb) FE.sn FE.max
      have CE : Hid (∀ W, Below W1.heap.size W1 W → Calls Tryz.prog 11 #[.agg #[.string (str e.op), .int .i64 e.v.k, .int .i64 e.v.i, .string (str e.v.s), .string (str e.tb), .string (str e.nm), .slice A1 e.l.length c1], .slice A xs.length c] W fun q w' => q = .returned (vA (e.ev deedP xs)) ∧ Below W.heap.size W w') := Lib.hid fun W hb => evalE_any xs (by omega) e _ S W A c ⟨_, _, rfl, sub_later SE.out hb⟩ (R1.out.later hb) (E1.out.later hb) FE.rfit
      have hev := fd_ev deedP xs e
      have hff := fd_fd deedP e
      clear FE
      generalize e.fd deedP = f at *
      generalize e.ev deedP xs = an at *
      have CE2 : Hid (∀ W Af cf, Sub (fun _ => True) W f Af cf → Below W1.heap.size W1 W → Calls Tryz.prog 11 #[eVal f.op f.v f.tb f.nm (.slice Af f.l.length cf), .slice A xs.length c] W fun q w' => q = .returned (vA an) ∧ Below W.heap.size W w') := Lib.hid fun W Af cf hsf hb => by
        have h := evalE_any xs (by omega) f _ _ W A c ⟨Af, cf, rfl, hsf⟩ (R1.out.later hb) (E1.out.later hb) FF.rfit
        rw [hev] at h
        exact h
      have CK : Hid (∀ W Af cf, Sub (fun _ => True) W f Af cf → Calls Tryz.prog 12 #[eVal f.op f.v f.tb f.nm (.slice Af f.l.length cf), .int .i64 xs.length] W fun q w' => q = .returned (.int .i64 0) ∧ Below W.heap.size W w') := Lib.hid fun W Af cf hsf => by
        have h := check_any xs.length f _ _ W ⟨Af, cf, rfl, hsf⟩ FF.size FF.sn
        rw [FF.ck] at h
        exact h
      have CF2 : Hid (∀ W Af cf, Sub (fun _ => True) W f Af cf → Below W1.heap.size W1 W → Calls Tryz.prog 10 #[eVal f.op f.v f.tb f.nm (.slice Af f.l.length cf)] W fun q w' => ∃ Ag cg, q = .returned (eVal f.op f.v f.tb f.nm (.slice Ag f.l.length cg)) ∧ Hid (Sub (fun _ => True) w' f Ag cg) ∧ Below W.heap.size W w') := Lib.hid fun W Af cf hsf hb => by
        have h := foldE_any f _ _ W ⟨Af, cf, rfl, hsf⟩ FF.size FF.nfit (E1.out.later hb) FF.sn FF.max
        rw [hff] at h
        refine h.mono ?_
        rintro q w' ⟨Ag, cg, rfl, h2, h3⟩
        exact ⟨Ag, cg, rfl, Lib.hid (h2.keep (S' := fun _ => True) (fun _ _ _ => ⟨trivial, rfl⟩) (Nat.le_refl _)), h3⟩
      have CS : Hid (∀ W Af cf Ag cg, Sub (fun _ => True) W f Ag cg → Sub (fun _ => True) W f Af cf → Calls Tryz.prog 13 #[eVal f.op f.v f.tb f.nm (.slice Ag f.l.length cg), eVal f.op f.v f.tb f.nm (.slice Af f.l.length cf)] W fun q w' => q = .returned (.bool true) ∧ Below W.heap.size W w') := Lib.hid fun W Af cf Ag cg h1 h2 => by
        have h := rSame_any f f _ _ _ _ W ⟨_, _, rfl, h1⟩ ⟨_, _, rfl, h2⟩
        rw [same_refl] at h
        exact h
      have CF' : Hid (∀ W, Below W1.heap.size W1 W → Calls Tryz.prog 10 #[.agg #[.string (str e.op), .int .i64 e.v.k, .int .i64 e.v.i, .string (str e.v.s), .string (str e.tb), .string (str e.nm), .slice A1 e.l.length c1]] W fun q w' => ∃ Ag cg, q = .returned (eVal f.op f.v f.tb f.nm (.slice Ag f.l.length cg)) ∧ Hid (Sub (fun _ => True) w' f Ag cg) ∧ Below W.heap.size W w') := Lib.hid fun W hb => by
        refine (CF.out W hb).mono ?_
        rintro q w' ⟨Ag, cg, rfl, h2, h3⟩
        exact ⟨Ag, cg, rfl, Lib.hid (h2.keep (S' := fun _ => True) (fun _ _ _ => ⟨trivial, rfl⟩) (Nat.le_refl _)), h3⟩
      clear FF hev hff hck hwd hx6 CF HFB
      unfold eVal at CE2 CK CF2 CS CF'
      generalize str f.op = fo at *
      generalize str f.tb = ft at *
      generalize str f.nm = fn at *
      generalize str f.v.s = fs at *
      generalize f.v.k = fk at *
      generalize f.v.i = fi at *
      generalize f.l.length = fl at *
      obtain ⟨er, uk, ui, us⟩ := an
      unfold vA at CE CE2
      dsimp only at CE CE2
      obtain ⟨x0, x1, x2, x3, x4, x5, x6⟩ := (Q1.out.later B3'.out).cells
      go_wp2_with fail
      refine (CF'.out w3' B3'.out).mono ?_
      rintro r w4 ⟨Af, cf, rfl, hsf, b4⟩
      obtain ⟨Wa, W5, hWa, hW5, p1, p2, hz, hb1, hb2⟩ := made7 w4 (.string fo) (.int .i64 fk) (.int .i64 fi) (.string fs) (.string ft) (.string fn) (.slice Af fl cf)
      have B5 := Lib.hid (bthen B3'.out (bthen b4 hb2))
      have SF5 := Lib.hid (sub_later hsf.out hb2)
      have Q5 := Lib.hid p2
      have HWa := Lib.hid hWa
      have HW5 := Lib.hid hW5
      obtain ⟨p10, p11, p12, p13, p14, p15, p16⟩ := p1.cells
      obtain ⟨f10, f11, f12, f13, f14, f15, f16⟩ := p1.free
      obtain ⟨x0, x1, x2, x3, x4, x5, x6⟩ := (Q1.out.later B5.out).cells
      clear b4 hb1 hb2 hz hWa hW5 p1 p2 hsf CF'
      go_wp2_with (first | (rw [← HW5.out]) | (rw [← HWa.out]))
      refine (CE.out W5 B5.out).mono ?_
      rintro r w6 ⟨rfl, b6⟩
      obtain ⟨W7, hW7⟩ : ∃ W7 : World, W7 = w6.alloc (.cells #[.int .i64 uk, .int .i64 ui, .string us] 23) := ⟨_, rfl⟩
      have hb7 : Below w6.heap.size w6 W7 := by rw [hW7]; exact bel_allocE (Below.refl _ _) _
      have V7 := Lib.hid (show VBox W7 w6.heap.size ⟨uk, ui, us⟩ by rw [hW7]; exact vnewE w6 uk ui us)
      have B7' := Lib.hid (bthen B5.out (bthen b6 hb7))
      have SF7 := Lib.hid (sub_later SF5.out (bthen b6 hb7))
      have Q7 := Lib.hid (Q5.out.later (bthen b6 hb7))
      have HW7 := Lib.hid hW7
      clear b6 hb7 hW7 x0 x1 x2 x3 x4 x5 x6 p10 p11 p12 p13 p14 p15 p16 f10 f11 f12 f13 f14 f15 f16 CE
      obtain ⟨y0, y1, y2, y3, y4, y5, y6⟩ := Q7.out.cells
      go_wp2_with (rw [← HW7.out])
      refine (CE2.out W7 _ _ SF7.out B7'.out).mono ?_
      rintro r w8 ⟨rfl, b8⟩
      obtain ⟨Wd, hWd⟩ : ∃ Wd : World, Wd = w8.alloc (.cells #[.int .i64 uk, .int .i64 ui, .string us] 23) := ⟨_, rfl⟩
      have hbd : Below w8.heap.size w8 Wd := by rw [hWd]; exact bel_allocE (Below.refl _ _) _
      have VD := Lib.hid (show VBox Wd w8.heap.size ⟨uk, ui, us⟩ by rw [hWd]; exact vnewE w8 uk ui us)
      have BD := Lib.hid (bthen B7'.out (bthen b8 hbd))
      have VD7 := Lib.hid (V7.out.later (bthen b8 hbd))
      have SFD := Lib.hid (sub_later SF7.out (bthen b8 hbd))
      have QD := Lib.hid (Q7.out.later (bthen b8 hbd))
      have HWd := Lib.hid hWd
      clear b8 hbd hWd y0 y1 y2 y3 y4 y5 y6 CE2
      go_upto_region 7 with (rw [← HWd.out])
      have KP := Lib.hid (s13_of VD7.out VD.out QD.out)
      have BB := Lib.hid (Below.refl Wd.heap.size Wd)
      have SS := Lib.hid (KP.out Wd BB.out)
      go_cut [4] (fun s0 wx => s0 = .bool true ∧ Below Wd.heap.size Wd wx)
      case first =>
        go_region_held3 (fun w' => Below Wd.heap.size Wd w' ∧ w'.cell? ⟨w6.heap.size, 0, none⟩ = some (.int .i64 uk) ∧ w'.cell? ⟨w6.heap.size, 1, none⟩ = some (.int .i64 ui) ∧ w'.cell? ⟨w6.heap.size, 2, none⟩ = some (.string us) ∧ w'.cell? ⟨w8.heap.size, 0, none⟩ = some (.int .i64 uk) ∧ w'.cell? ⟨w8.heap.size, 1, none⟩ = some (.int .i64 ui) ∧ w'.cell? ⟨w8.heap.size, 2, none⟩ = some (.string us) ∧ w'.cell? ⟨w4.heap.size, 0, none⟩ = some (.string fo) ∧ w'.cell? ⟨w4.heap.size, 1, none⟩ = some (.int .i64 fk) ∧ w'.cell? ⟨w4.heap.size, 2, none⟩ = some (.int .i64 fi) ∧ w'.cell? ⟨w4.heap.size, 3, none⟩ = some (.string fs) ∧ w'.cell? ⟨w4.heap.size, 4, none⟩ = some (.string ft) ∧ w'.cell? ⟨w4.heap.size, 5, none⟩ = some (.string fn) ∧ w'.cell? ⟨w4.heap.size, 6, none⟩ = some (.slice Af fl cf) ∧ True) ((refine KP.out _ ?_; (repeat (first | with_reducible exact BB.out | with_reducible refine bel_drewE ?_ | with_reducible refine bel_allocE ?_ _)))) ((first
          | (go_at_call 12; go_must (with_reducible refine (CK.out _ _ _ (sub_later SFD.out ?_)).mono ?_); (focus (repeat (first | with_reducible exact BB.out | with_reducible refine bel_drewE ?_ | with_reducible refine bel_allocE ?_ _))); rintro r w9 ⟨rfl, hb⟩; refine with_fct (bthen (w := Wd) ?_ hb) ?_; (focus (repeat (first | with_reducible exact BB.out | with_reducible refine bel_drewE ?_ | with_reducible refine bel_allocE ?_ _))); intro b6; have BB := Lib.hid b6)
          | (go_at_call 10; go_must (with_reducible refine (CF2.out _ _ _ (sub_later SFD.out ?_) (bthen BD.out ?_)).mono ?_); (focus (repeat (first | with_reducible exact BB.out | with_reducible refine bel_drewE ?_ | with_reducible refine bel_allocE ?_ _))); (focus (repeat (first | with_reducible exact BB.out | with_reducible refine bel_drewE ?_ | with_reducible refine bel_allocE ?_ _))); rintro r w9 ⟨Ag, cg, rfl, sy, hb⟩; refine with_fct (bthen (w := Wd) ?_ hb) ?_; (focus (repeat (first | with_reducible exact BB.out | with_reducible refine bel_drewE ?_ | with_reducible refine bel_allocE ?_ _))); intro b6; have BB := Lib.hid b6)
          | (go_at_call 13; go_must (with_reducible refine (CS.out _ _ _ _ _ sy.out (sub_later SFD.out ?_)).mono ?_); (focus (repeat (first | with_reducible exact BB.out | with_reducible refine bel_drewE ?_ | with_reducible refine bel_allocE ?_ _))); rintro r w9 ⟨rfl, hb⟩; refine with_fct (bthen (w := Wd) ?_ hb) ?_; (focus (repeat (first | with_reducible exact BB.out | with_reducible refine bel_drewE ?_ | with_reducible refine bel_allocE ?_ _))); intro b6; have BB := Lib.hid b6)))
        all_goals (go_wp2_with fail; go_meet; exact ⟨rfl, b6⟩)
      case rest =>
        obtain ⟨rfl, hcb⟩ := hcut
        have BQ := Lib.hid (bthen HB.out (bthen BD.out hcb))
        clear hcb
        go_wp2_with fail
        exact bodyPost_ret (v := .bool true) (by simp [results, Tryz.results3, go_sem]) rfl ⟨rfl, BQ.out⟩
    · have hwd' : (chkW xs.length e == 0 && BV.chkR xs == 0) = false := by simpa using hwd
      rw [hwd']
      clear hwd hwd' HFB
      (go_wp2_with fail; exact bodyPost_ret (v := .bool true) (by simp [results, Tryz.results3, go_sem]) rfl ⟨rfl, bthen HB.out B3'.out⟩)
  · have hok' : (okE e && BV.few [⟨A, c, xs⟩] 600) = false := by simpa using hok
    rw [hok']
    clear hok hok' HWID HFA
    (go_wp2_with fail; exact bodyPost_ret (v := .bool true) (by simp [results, Tryz.results3, go_sem]) rfl ⟨rfl, bthen HB.out B3.out⟩)
theorem same_lawE (e : E) (x : Value) (S : Nat → Prop) (xs : List BV.V) (A : Option Addr) (c : Nat) (w : World) (hx : EAt S w e x) (hr : BV.RowAt w w.heap.size A xs) (hE : SC.Env w) (hl : xs.length ≤ 140737488355328) (ht : ∀ x ∈ xs, x.s.size ≤ 140737488355328) (hxi : ∀ x ∈ xs, -9223372036854775808 ≤ x.i ∧ x.i ≤ 9223372036854775807) (hin : e.ints = true) :
    Calls Tryz.prog 3 #[x, .slice A xs.length c] w fun q w' => q = .returned (.bool true) ∧ Below w.heap.size w w' := by
  obtain ⟨A1, c1, rfl, hs⟩ := hx
  exact same_law e S A1 c1 xs A c w hs hr hE hl ht hxi hin
end Go.Proofs.YtbhcjaeomoibpaaGreatDoor
