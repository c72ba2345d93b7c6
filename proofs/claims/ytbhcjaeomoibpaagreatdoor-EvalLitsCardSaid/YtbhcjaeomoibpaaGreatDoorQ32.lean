/- The law EvalLits: holds of every row, value and place. Conditions: the library's one variable is there; integers of 64 bits. -/
import Derived.Test.YtbhcjaeomoibpaaGreatDoorQ31
import Derived.Test.YtbhcjaeomoibpaaGreatDoorQ01
import Derived.BigQuiet
import Derived.Deep.Quiet
import Derived.Deep.QuietTactic
set_option linter.unusedSimpArgs false
set_option linter.unusedVariables false
namespace Go.Proofs.YtbhcjaeomoibpaaGreatDoor
open Go.RowKit
open Go.Proofs.YtbhcjaeomoibpaaGreatDoor.SC (HV VBox zero_box Args)
theorem few_row {xs : List BV.V} {A : Option Addr} {c : Nat} (h : BV.few [⟨A, c, xs⟩] 600 = true) : xs.length ≤ 600 ∧ ∀ v ∈ xs, v.s.size ≤ 600 := by
  have h1 : BV.rowN xs ≤ 600 := by
    simp only [BV.few, decide_eq_true_eq] at h
    simp only [BV.rowsN, List.map_cons, List.map_nil, List.sum_cons, List.sum_nil] at h
    omega
  have h2 : xs.length ≤ BV.rowN xs ∧ ∀ v ∈ xs, v.s.size ≤ BV.rowN xs := by
    clear h h1
    induction xs with
    | nil => simp
    | cons a l ih =>
      have e : BV.rowN (a :: l) = 1 + a.s.size + BV.rowN l := by simp [BV.rowN]
      refine ⟨by rw [e, List.length_cons]; omega, fun v hv => ?_⟩
      rcases List.mem_cons.1 hv with rfl | hv
      · omega
      · have := ih.2 v hv
        omega
  exact ⟨by omega, fun v hv => by have := h2.2 v hv; omega⟩
theorem mod_in (i : Int) (n : Nat) (h0 : 0 < n) (h1 : n ≤ 600) : 0 ≤ (wrap64 (i.tmod n + n)).tmod n ∧ (wrap64 (i.tmod n + n)).tmod n < n := by
  have a := Int.tmod_lt_of_pos i (b := (n : Int)) (by omega)
  have b : -(n : Int) < i.tmod n := by
    have := Int.tmod_lt_of_pos (-i) (b := (n : Int)) (by omega)
    rw [Int.neg_tmod] at this
    omega
  have hw : wrap64 (i.tmod n + n) = i.tmod n + n := by unfold wrap64; omega
  rw [hw]
  exact ⟨Int.tmod_nonneg _ (by omega), Int.tmod_lt_of_pos _ (by omega)⟩
theorem s3_of {W : World} {b : Nat} {v : BV.V} (h : VBox W b v) (w' : World) (hb : Below W.heap.size W w') : Below W.heap.size W w' ∧ w'.cell? ⟨b, 0, none⟩ = some (.int .i64 v.k) ∧ w'.cell? ⟨b, 1, none⟩ = some (.int .i64 v.i) ∧ w'.cell? ⟨b, 2, none⟩ = some (.string v.s) ∧ True := by
  obtain ⟨a0, a1, a2⟩ := (h.later hb).cells
  exact ⟨hb, a0, a1, a2, trivial⟩
theorem empE {s : ByteArray} (h : BV.emp s = true) : s = ⟨#[]⟩ := by
  unfold BV.emp at h
  rw [Lib.toList_data] at h
  have h2 : s.data.toList = [] := by simpa using h
  rw [← list_str s, h2]
  rfl
theorem zero_only (i : Int) (s : ByteArray) (h : BV.mayB 0 i s = true) : (⟨0, i, s⟩ : BV.V) = zW := by
  simp [BV.mayB] at h
  rw [h.1, empE h.2]
  rfl
theorem wp_region_classE {P : Program} {id : Nat} {Q : Exit → Act → World → Prop} {a : Act} {w : World} {l : List Oper} (C : World → Prop) (hm : P.follows .mixedOrders = true) (hB : Region.lexB .any l.toArray = true) (hC : C w.drew) (h : wpQuiet P l.toArray C (fun a' => ∀ w', C w' → Q .normal a' w') l a) : (Code.region id l.toArray true).wp P Q a w :=
  wp_region_quiet (C := C) hm hB hC (by simpa using h)
def LatE (w : World) : Type := {W : World // Below w.heap.size w W}
theorem lits_cases (x v y : BV.V) (z : Int) (hy : y = if x.k = 0 then (if v.k = 0 then zW else v) else x) (hz : z = if x.k == 0 then 1 else 0) (hok : BV.allOk [x, v] = true) : (y = x ∧ z = 1 ∧ x.k = 0) ∨ (y = x ∧ z = 0 ∧ x.k ≠ 0) ∨ (y = v ∧ z = 1 ∧ x.k = 0 ∧ v.k ≠ 0) := by
  by_cases hx : x.k = 0
  · rw [if_pos hx] at hy
    have hz1 : z = 1 := by rw [hz, hx]; rfl
    by_cases hv : v.k = 0
    · rw [if_pos hv] at hy
      refine Or.inl ⟨?_, hz1, hx⟩
      rw [hy]
      simp only [BV.allOk, List.all_cons, Bool.and_eq_true, beq_iff_eq] at hok
      have h := (chk_iff x).1 hok.1
      obtain ⟨k, i, s⟩ := x
      simp only at hx
      subst hx
      exact (zero_only i s h).symm
    · rw [if_neg hv] at hy
      exact Or.inr (Or.inr ⟨hy, hz1, hx, hv⟩)
  · rw [if_neg hx] at hy
    have hx' : (x.k == 0) = false := by simpa using hx
    exact Or.inr (Or.inl ⟨hy, by rw [hz, hx']; rfl, hx⟩)
theorem vnew (w : World) (v : BV.V) : VBox (w.alloc (.cells #[.int .i64 v.k, .int .i64 v.i, .string v.s] 23)) w.heap.size v := VBox.made w v
set_option maxRecDepth 100000 in
set_option maxHeartbeats 8000000 in
theorem lits_any (xs : List BV.V) (A : Option Addr) (c : Nat) (v : BV.V) (i : Int) (w : World) (hr : BV.RowAt w w.heap.size A xs) (hE : SC.Env w) (hxi : ∀ x ∈ xs, -9223372036854775808 ≤ x.i ∧ x.i ≤ 9223372036854775807) (hvi : -9223372036854775808 ≤ v.i ∧ v.i ≤ 9223372036854775807) (hi : -9223372036854775808 ≤ i ∧ i ≤ 9223372036854775807)
    (hl : xs.length ≤ 140737488355328) (ht : ∀ x ∈ xs, x.s.size ≤ 140737488355328) :
    Calls Tryz.prog 6 #[.slice A xs.length c, .agg #[.int .i64 v.k, .int .i64 v.i, .string v.s], .int .i64 i] w fun e w' => e = .returned (.bool true) ∧ Below w.heap.size w w' := by
  obtain ⟨W0, hW0⟩ : ∃ W0 : World, W0 = w.alloc (.cells #[.int .i64 v.k, .int .i64 v.i, .string v.s] 23) := ⟨_, rfl⟩
  have hb0 : Below w.heap.size w W0 := by rw [hW0]; exact bel_allocE (Below.refl _ _) _
  have HW0 := Lib.hid hW0
  have HB0 := Lib.hid hb0
  have V0 := Lib.hid (show VBox W0 w.heap.size v by rw [hW0]; exact vnew w v)
  have R0 := Lib.hid (hr.later hb0)
  have E0 := Lib.hid (hE.later hb0)
  have HX := Lib.hid hxi
  have HVI := Lib.hid hvi
  have HI := Lib.hid hi
  have HL := Lib.hid hl
  have HT := Lib.hid ht
  clear hb0 hW0 hr hE hxi hvi hi hl ht
  go_enter Tryz.func6, Tryz.ntmps6
  go_wp2_with (rw [← HW0.out])
  refine (live_any _ E0.out).mono ?_
  rintro e w1 ⟨rfl, b1⟩
  have B1 := Lib.hid b1
  go_wp2_with fail
  refine (bigN_any xs A c w1 (R0.out.later b1) HL.out HT.out).mono ?_
  rintro e w2 ⟨rfl, b2⟩
  have B2 := Lib.hid (bthen b1 b2)
  clear b1 b2
  by_cases hf : BV.few [⟨A, c, xs⟩] 600 = true
  · rw [hf]
    obtain ⟨hl, ht⟩ := few_row hf
    have HL := Lib.hid hl
    have HT := Lib.hid ht
    clear hl ht hf
    go_wp2_with fail
    refine (BV.rcheckRow_any xs A c w2 (R0.out.later B2.out) (Nat.le_trans HL.out (by decide))).mono ?_
    rintro e w3 ⟨rfl, b3⟩
    have B3 := Lib.hid (bthen B2.out b3)
    clear b3
    by_cases hk : BV.chkR xs = 0
    · rw [hk]
      have HK := Lib.hid hk
      clear hk
      have V3 := Lib.hid (V0.out.later B3.out)
      obtain ⟨a0, a1, a2⟩ := V3.out.cells
      go_wp2_with fail
      refine (BV.rcheck_any v.k v.i v.s w3).mono ?_
      rintro e w4 ⟨rfl, b4⟩
      have B4 := Lib.hid (bthen B3.out b4)
      clear b4 a0 a1 a2
      by_cases hc : BV.chkI v.k v.i v.s = 0
      · rw [hc]
        have HC := Lib.hid hc
        clear hc
        have V4 := Lib.hid (V0.out.later B4.out)
        obtain ⟨a0, a1, a2⟩ := V4.out.cells
        by_cases hz : ((v.s.size : Int) > 1000)
        · (go_wp2_with fail; exact bodyPost_ret (v := .bool true) (by simp [results, Tryz.results6, go_sem]) rfl ⟨rfl, by first | exact bthen HB0.out B4.out | exact bthen HB0.out B3.out | exact bthen HB0.out B2.out⟩)
        · have HS := Lib.hid (show v.s.size ≤ 1000 by omega)
          go_wp2_with fail
          refine (rLit v.k v.i v.s w4).mono ?_
          rintro e w5 ⟨rfl, b5⟩
          have B5 := Lib.hid (bthen B4.out b5)
          have CLi := Lib.hid (c_lit xs A c v w5 (Nat.le_trans HL.out (by decide)) (R0.out.later B5.out) (E0.out.later B5.out) HVI.out)
          clear b5 a0 a1 a2
          go_wp2_with fail
          refine (CLi.out).mono ?_
          rintro e w6 ⟨rfl, b6⟩
          obtain ⟨W7, hW7⟩ : ∃ W7 : World, W7 = w6.alloc (.cells #[.int .i64 v.k, .int .i64 v.i, .string v.s] 23) := ⟨_, rfl⟩
          have hb7 : Below w6.heap.size w6 W7 := by rw [hW7]; exact bel_allocE (Below.refl _ _) _
          have V7 := Lib.hid (show VBox W7 w6.heap.size v by rw [hW7]; exact vnew w6 v)
          have B7 := Lib.hid (bthen B5.out (bthen b6 hb7))
          have V0' := Lib.hid (V0.out.later B7.out)
          have HW7 := Lib.hid hW7
          obtain ⟨a0, a1, a2⟩ := V0'.out.cells
          obtain ⟨d0, d1, d2⟩ := V7.out.cells
          clear b6 hb7 hW7
          by_cases hn : ((xs.length : Int) = 0)
          · go_wp2_with (rw [← HW7.out])
            exact bodyPost_ret (v := .bool true) (by simp [results, Tryz.results6, go_sem]) rfl ⟨rfl, bthen HB0.out B7.out⟩
          · have hm := mod_in i xs.length (by omega) HL.out
            generalize hmm : (wrap64 (i.tmod (xs.length : Int) + (xs.length : Int))).tmod (xs.length : Int) = m at hm
            obtain ⟨hm0, hm1⟩ := hm
            obtain ⟨x, hx⟩ : ∃ x, x = xs[m.toNat]'(by omega) := ⟨_, rfl⟩
            obtain ⟨y, hy⟩ : ∃ y, y = if x.k = 0 then (if v.k = 0 then zW else v) else x := ⟨_, rfl⟩
            obtain ⟨z, hzz⟩ : ∃ z : Int, z = if x.k == 0 then 1 else 0 := ⟨_, rfl⟩
            have hxm : x ∈ xs := by rw [hx]; exact List.getElem_mem _
            have hxc : x.chk = 0 := by
              have h := HK.out
              simp only [BV.chkR] at h
              by_cases ho : BV.allOk xs = true
              · simp only [BV.allOk, List.all_eq_true, beq_iff_eq] at ho
                exact ho x hxm
              · rw [if_neg ho] at h
                exact absurd h (by decide)
            have hvc : v.chk = 0 := HC.out
            have hok : BV.allOk [x, v] = true := by simp [BV.allOk, hxc, hvc]
            have hor : OkRow xs := fun u hu => ⟨HX.out u hu, Nat.le_trans (HT.out u hu) (by decide)⟩
            have hl5 : xs.length ≤ 100000 := Nat.le_trans HL.out (by decide)
            have CA := Lib.hid (fun W (hb : Below W0.heap.size W0 W) => c_at xs A c m x W hl5 (R0.out.later hb) (E0.out.later hb) hm0 hm1 hx)
            have CC := Lib.hid (fun W g (hb : Below W0.heap.size W0 W) hs => c_call xs A c m x v g W hl5 hor (R0.out.later hb) (E0.out.later hb) hm0 hm1 hx ⟨HVI.out, Nat.le_trans HS.out (by decide)⟩ hok hs y hy)
            have CI := Lib.hid (fun W g (hb : Below W0.heap.size W0 W) hs => c_is xs A c m x g W hl5 hor (R0.out.later hb) (E0.out.later hb) hm0 hm1 hx hs)
            simp only [← hzz] at CI
            have HX' : Hid (∃ hp : m.toNat < xs.length, x = xs[m.toNat]'hp) := Lib.hid ⟨by omega, hx⟩
            have HY := Lib.hid hy
            have HZ := Lib.hid hzz
            have HM0 := Lib.hid hm0
            have HM1 := Lib.hid hm1
            have HMM := Lib.hid hmm
            have HOK := Lib.hid hok
            clear hm0 hm1 hx hy hzz hxm hxc hvc hok hor hl5 hmm
            go_wp2_with (first | rw [← HW7.out] | rw [HMM.out])
            refine (at1_any _ W7).mono ?_
            rintro e w8 ⟨rfl, b8⟩
            have B8 := Lib.hid (bthen B7.out b8)
            clear b8 a0 a1 a2 d0 d1 d2
            go_wp2_with fail
            refine (CA.out w8 B8.out).mono ?_
            rintro e w9 ⟨rfl, b9⟩
            obtain ⟨Wx, hWx⟩ : ∃ Wx : World, Wx = w9.alloc (.cells #[.int .i64 x.k, .int .i64 x.i, .string x.s] 23) := ⟨_, rfl⟩
            have hbx : Below w9.heap.size w9 Wx := by rw [hWx]; exact bel_allocE (Below.refl _ _) _
            have VX := Lib.hid (show VBox Wx w9.heap.size x by rw [hWx]; exact vnew w9 x)
            have BX := Lib.hid (bthen B8.out (bthen b9 hbx))
            have VV := Lib.hid (V0.out.later BX.out)
            have HWx := Lib.hid hWx
            clear b9 hbx hWx
            go_upto_region 11 with (first | rw [← HWx.out] | rw [HMM.out])
            have KP := Lib.hid (s3_of VV.out)
            have BB := Lib.hid (Below.refl Wx.heap.size Wx)
            have SS := Lib.hid (KP.out Wx BB.out)
            go_cut [12, 13] (fun s4 s5 wx => ∃ g', s4 = .pointer (some ⟨g', 0, none⟩) ∧ s5 = .int .i64 0 ∧ Wx.heap.size ≤ g' ∧ Hid (VBox wx g' y) ∧ Hid (Below Wx.heap.size Wx wx))
            case first =>
              go_region_held3 (fun w' => Below Wx.heap.size Wx w' ∧ w'.cell? ⟨w.heap.size, 0, none⟩ = some (.int .i64 v.k) ∧ w'.cell? ⟨w.heap.size, 1, none⟩ = some (.int .i64 v.i) ∧ w'.cell? ⟨w.heap.size, 2, none⟩ = some (.string v.s) ∧ True) ((refine KP.out _ ?_; (repeat (first | with_reducible exact BB.out | with_reducible refine bel_drewE ?_ | with_reducible refine bel_allocE ?_ _ | (with_reducible refine bel_setE ?_ ?_ _; focus (first | with_reducible exact VG.out | with_reducible exact BB.out.size | with_reducible exact Nat.le_refl _)))))) ((first
                | (go_at_call 19; go_must (with_reducible refine (at1_any m _).mono ?_); rintro e w6 ⟨rfl, hb⟩; refine with_fct (bthen (w := Wx) ?_ hb) ?_; (focus (repeat (first | with_reducible exact BB.out | with_reducible refine bel_drewE ?_ | with_reducible refine bel_allocE ?_ _ | (with_reducible refine bel_setE ?_ ?_ _; focus (first | with_reducible exact VG.out | with_reducible exact BB.out.size | with_reducible exact Nat.le_refl _))))); intro b6; (try ((first | with_reducible refine with_fct (VT.out.later (bthen (by first | exact bel_allocE (Below.refl _ _) _ | exact Below.refl _ _) hb)) ?_ | (with_reducible refine with_fct (rawL0 (b := Wx) ?_ hb) ?_; (focus (repeat (first | with_reducible exact BB.out | with_reducible refine bel_drewE ?_ | with_reducible refine bel_allocE ?_ _ | (with_reducible refine bel_setE ?_ ?_ _; focus (first | with_reducible exact VG.out | with_reducible exact BB.out.size | with_reducible exact Nat.le_refl _))))); intro vg; (try simp only [World.size_alloc, World.size_drew] at vg); have VG := Lib.hid vg.2; replace vg := vg.1; revert vg) | (with_reducible refine with_fct (rawL1 (b := Wx) ?_ hb) ?_; (focus (repeat (first | with_reducible exact BB.out | with_reducible refine bel_drewE ?_ | with_reducible refine bel_allocE ?_ _ | (with_reducible refine bel_setE ?_ ?_ _; focus (first | with_reducible exact VG.out | with_reducible exact BB.out.size | with_reducible exact Nat.le_refl _))))); intro vg; (try simp only [World.size_alloc, World.size_drew] at vg); have VG := Lib.hid vg.2; replace vg := vg.1; revert vg) | (with_reducible refine with_fct (rawL2 (b := Wx) ?_ hb) ?_; (focus (repeat (first | with_reducible exact BB.out | with_reducible refine bel_drewE ?_ | with_reducible refine bel_allocE ?_ _ | (with_reducible refine bel_setE ?_ ?_ _; focus (first | with_reducible exact VG.out | with_reducible exact BB.out.size | with_reducible exact Nat.le_refl _))))); intro vg; (try simp only [World.size_alloc, World.size_drew] at vg); have VG := Lib.hid vg.2; replace vg := vg.1; revert vg)); intro vt; obtain ⟨x0, x1, x2⟩ := vt.cells; obtain ⟨y0, y1, y2⟩ := vt.free; simp only [SC.zV] at x0 x1 x2; have VT := Lib.hid vt)); have BB := Lib.hid b6)
                | (go_at_call 18; go_must (with_reducible refine (rLit v.k v.i v.s _).mono ?_); rintro e w6 ⟨rfl, hb⟩; refine with_fct (bthen (w := Wx) ?_ hb) ?_; (focus (repeat (first | with_reducible exact BB.out | with_reducible refine bel_drewE ?_ | with_reducible refine bel_allocE ?_ _ | (with_reducible refine bel_setE ?_ ?_ _; focus (first | with_reducible exact VG.out | with_reducible exact BB.out.size | with_reducible exact Nat.le_refl _))))); intro b6; (try ((first | with_reducible refine with_fct (VT.out.later (bthen (by first | exact bel_allocE (Below.refl _ _) _ | exact Below.refl _ _) hb)) ?_ | (with_reducible refine with_fct (rawL0 (b := Wx) ?_ hb) ?_; (focus (repeat (first | with_reducible exact BB.out | with_reducible refine bel_drewE ?_ | with_reducible refine bel_allocE ?_ _ | (with_reducible refine bel_setE ?_ ?_ _; focus (first | with_reducible exact VG.out | with_reducible exact BB.out.size | with_reducible exact Nat.le_refl _))))); intro vg; (try simp only [World.size_alloc, World.size_drew] at vg); have VG := Lib.hid vg.2; replace vg := vg.1; revert vg) | (with_reducible refine with_fct (rawL1 (b := Wx) ?_ hb) ?_; (focus (repeat (first | with_reducible exact BB.out | with_reducible refine bel_drewE ?_ | with_reducible refine bel_allocE ?_ _ | (with_reducible refine bel_setE ?_ ?_ _; focus (first | with_reducible exact VG.out | with_reducible exact BB.out.size | with_reducible exact Nat.le_refl _))))); intro vg; (try simp only [World.size_alloc, World.size_drew] at vg); have VG := Lib.hid vg.2; replace vg := vg.1; revert vg) | (with_reducible refine with_fct (rawL2 (b := Wx) ?_ hb) ?_; (focus (repeat (first | with_reducible exact BB.out | with_reducible refine bel_drewE ?_ | with_reducible refine bel_allocE ?_ _ | (with_reducible refine bel_setE ?_ ?_ _; focus (first | with_reducible exact VG.out | with_reducible exact BB.out.size | with_reducible exact Nat.le_refl _))))); intro vg; (try simp only [World.size_alloc, World.size_drew] at vg); have VG := Lib.hid vg.2; replace vg := vg.1; revert vg)); intro vt; obtain ⟨x0, x1, x2⟩ := vt.cells; obtain ⟨y0, y1, y2⟩ := vt.free; simp only [SC.zV] at x0 x1 x2; have VT := Lib.hid vt)); have BB := Lib.hid b6)
                | (go_at_call 20; go_must (refine (call1_any _ _ _ _ _).mono ?_); rintro e w6 ⟨rfl, hb⟩; refine with_fct (bthen (w := Wx) ?_ hb) ?_; (focus (repeat (first | with_reducible exact BB.out | with_reducible refine bel_drewE ?_ | with_reducible refine bel_allocE ?_ _ | (with_reducible refine bel_setE ?_ ?_ _; focus (first | with_reducible exact VG.out | with_reducible exact BB.out.size | with_reducible exact Nat.le_refl _))))); intro b6; (first | with_reducible refine with_fct (sub_later (sx_call _ m v) hb) ?_ | with_reducible refine with_fct (sub_later (sub_later (sx_call _ m v) (bel_allocE (Below.refl _ _) _)) hb) ?_); intro sx; (try simp only [World.size_alloc, World.size_drew] at sx); have SX := Lib.hid sx; (try ((first | with_reducible refine with_fct (VT.out.later (bthen (by first | exact bel_allocE (Below.refl _ _) _ | exact Below.refl _ _) hb)) ?_ | (with_reducible refine with_fct (rawL0 (b := Wx) ?_ hb) ?_; (focus (repeat (first | with_reducible exact BB.out | with_reducible refine bel_drewE ?_ | with_reducible refine bel_allocE ?_ _ | (with_reducible refine bel_setE ?_ ?_ _; focus (first | with_reducible exact VG.out | with_reducible exact BB.out.size | with_reducible exact Nat.le_refl _))))); intro vg; (try simp only [World.size_alloc, World.size_drew] at vg); have VG := Lib.hid vg.2; replace vg := vg.1; revert vg) | (with_reducible refine with_fct (rawL1 (b := Wx) ?_ hb) ?_; (focus (repeat (first | with_reducible exact BB.out | with_reducible refine bel_drewE ?_ | with_reducible refine bel_allocE ?_ _ | (with_reducible refine bel_setE ?_ ?_ _; focus (first | with_reducible exact VG.out | with_reducible exact BB.out.size | with_reducible exact Nat.le_refl _))))); intro vg; (try simp only [World.size_alloc, World.size_drew] at vg); have VG := Lib.hid vg.2; replace vg := vg.1; revert vg) | (with_reducible refine with_fct (rawL2 (b := Wx) ?_ hb) ?_; (focus (repeat (first | with_reducible exact BB.out | with_reducible refine bel_drewE ?_ | with_reducible refine bel_allocE ?_ _ | (with_reducible refine bel_setE ?_ ?_ _; focus (first | with_reducible exact VG.out | with_reducible exact BB.out.size | with_reducible exact Nat.le_refl _))))); intro vg; (try simp only [World.size_alloc, World.size_drew] at vg); have VG := Lib.hid vg.2; replace vg := vg.1; revert vg)); intro vt; obtain ⟨x0, x1, x2⟩ := vt.cells; obtain ⟨y0, y1, y2⟩ := vt.free; simp only [SC.zV] at x0 x1 x2; have VT := Lib.hid vt)); have BB := Lib.hid b6)
                | (go_at_call 11; go_must (first | with_reducible refine (CC.out _ _ (bthen BX.out ?_) SX.out).mono ?_ | with_reducible refine (CC.out _ _ (bthen BX.out ?_) (sub_later SX.out (bel_allocE (Below.refl _ _) _))).mono ?_); (focus (repeat (first | with_reducible exact BB.out | with_reducible refine bel_drewE ?_ | with_reducible refine bel_allocE ?_ _ | (with_reducible refine bel_setE ?_ ?_ _; focus (first | with_reducible exact VG.out | with_reducible exact BB.out.size | with_reducible exact Nat.le_refl _))))); rintro e w6 ⟨rfl, hb⟩; refine with_fct (bthen (w := Wx) ?_ hb) ?_; (focus (repeat (first | with_reducible exact BB.out | with_reducible refine bel_drewE ?_ | with_reducible refine bel_allocE ?_ _ | (with_reducible refine bel_setE ?_ ?_ _; focus (first | with_reducible exact VG.out | with_reducible exact BB.out.size | with_reducible exact Nat.le_refl _))))); intro b6; (try ((first | with_reducible refine with_fct (VT.out.later (bthen (by first | exact bel_allocE (Below.refl _ _) _ | exact Below.refl _ _) hb)) ?_ | (with_reducible refine with_fct (rawL0 (b := Wx) ?_ hb) ?_; (focus (repeat (first | with_reducible exact BB.out | with_reducible refine bel_drewE ?_ | with_reducible refine bel_allocE ?_ _ | (with_reducible refine bel_setE ?_ ?_ _; focus (first | with_reducible exact VG.out | with_reducible exact BB.out.size | with_reducible exact Nat.le_refl _))))); intro vg; (try simp only [World.size_alloc, World.size_drew] at vg); have VG := Lib.hid vg.2; replace vg := vg.1; revert vg) | (with_reducible refine with_fct (rawL1 (b := Wx) ?_ hb) ?_; (focus (repeat (first | with_reducible exact BB.out | with_reducible refine bel_drewE ?_ | with_reducible refine bel_allocE ?_ _ | (with_reducible refine bel_setE ?_ ?_ _; focus (first | with_reducible exact VG.out | with_reducible exact BB.out.size | with_reducible exact Nat.le_refl _))))); intro vg; (try simp only [World.size_alloc, World.size_drew] at vg); have VG := Lib.hid vg.2; replace vg := vg.1; revert vg) | (with_reducible refine with_fct (rawL2 (b := Wx) ?_ hb) ?_; (focus (repeat (first | with_reducible exact BB.out | with_reducible refine bel_drewE ?_ | with_reducible refine bel_allocE ?_ _ | (with_reducible refine bel_setE ?_ ?_ _; focus (first | with_reducible exact VG.out | with_reducible exact BB.out.size | with_reducible exact Nat.le_refl _))))); intro vg; (try simp only [World.size_alloc, World.size_drew] at vg); have VG := Lib.hid vg.2; replace vg := vg.1; revert vg)); intro vt; obtain ⟨x0, x1, x2⟩ := vt.cells; obtain ⟨y0, y1, y2⟩ := vt.free; simp only [SC.zV] at x0 x1 x2; have VT := Lib.hid vt)); have BB := Lib.hid b6)))
              all_goals (go_wp2_with fail; go_meet; first | exact ⟨_, rfl, rfl, b6.size, vnew w6 y, bel_allocE b6 _⟩ | exact ⟨_, rfl, rfl, VG.out, vset vt y.k y.i y.s, SC.Below.set3 b6 VG.out _ _ _⟩)
            case rest =>
              obtain ⟨g5, rfl, rfl, hg5, hv5, hb5⟩ := hcut
              obtain ⟨Wy, rfl⟩ : ∃ Wy : World, Wy = wc := ⟨_, rfl⟩
              have BY := Lib.hid (bthen BX.out hb5.out)
              have VY := Lib.hid hv5.out
              have VXY := Lib.hid (VX.out.later hb5.out)
              have VVY := Lib.hid (VV.out.later hb5.out)
              have G5 := Lib.hid hg5
              clear hg5 hv5 hb5 SS KP BB CC CA
              go_wp2_with fail
              refine (at1_any m Wy).mono ?_
              rintro e v1 ⟨rfl, c1⟩
              have SI := Lib.hid (sx_is v1 m)
              obtain ⟨V2, hV2⟩ : ∃ V2 : World, V2 = v1.alloc (.cells #[.string ⟨#[97, 116]⟩, .int .i64 2, .int .i64 m, .string ⟨#[]⟩, .string ⟨#[]⟩, .string ⟨#[]⟩, .slice none 0 0] 26) := ⟨_, rfl⟩
              have hb2 : Below v1.heap.size v1 V2 := by rw [hV2]; exact bel_allocE (Below.refl _ _) _
              rw [← hV2] at SI
              have C2 := Lib.hid (bthen c1 hb2)
              have HV2 := Lib.hid hV2
              clear c1 hb2 hV2
              go_wp2_with (rw [← HV2.out])
              refine (rOp1 _ _ _ _ _).mono ?_
              rintro e v3 ⟨rfl, c3⟩
              have CX := Lib.hid (CI.out v3 v1.heap.size (bthen BY.out (bthen C2.out c3)) (sub_later SI.out c3))
              have C3 := Lib.hid (bthen C2.out c3)
              clear c3 CI
              go_wp2_with fail
              refine (CX.out).mono ?_
              rintro e v4 ⟨rfl, c4⟩
              obtain ⟨Wz, hWz⟩ : ∃ Wz : World, Wz = v4.alloc (.cells #[.int .i64 1, .int .i64 z, .string ⟨#[]⟩] 23) := ⟨_, rfl⟩
              have hbz : Below v4.heap.size v4 Wz := by rw [hWz]; exact bel_allocE (Below.refl _ _) _
              have VZ := Lib.hid (show VBox Wz v4.heap.size ⟨1, z, ⟨#[]⟩⟩ by rw [hWz]; exact vmade v4 1 z ⟨#[]⟩)
              have CZ := bthen C3.out (bthen c4 hbz)
              have BZ := Lib.hid (bthen BY.out CZ)
              have VYZ := Lib.hid (VY.out.later CZ)
              have VXZ := Lib.hid (VXY.out.later CZ)
              have VVZ := Lib.hid (VVY.out.later CZ)
              have HWz := Lib.hid hWz
              clear c4 hbz hWz CZ CX
              go_upto_region 13 with (rw [← HWz.out])
              obtain ⟨hp, hx⟩ := HX'.out
              obtain ⟨p, hpm⟩ : ∃ p : Nat, m = (p : Int) := ⟨m.toNat, by have := HM0.out; omega⟩
              have hpn : m.toNat = p := by omega
              obtain ⟨rb, ro, rfl, hlt, hc⟩ := (R0.out.later BZ.out) (by omega)
              have hcx := hc m.toNat hp
              rw [← hx, hpn] at hcx
              have HR := Lib.hid (fun q : LatE Wz => (⟨(q.2.cell (p := ⟨rb, ro + p * 3, none⟩) hlt).trans hcx.1, (q.2.cell (p := ⟨rb, ro + p * 3 + 1, none⟩) hlt).trans hcx.2.1, (q.2.cell (p := ⟨rb, ro + p * 3 + 2, none⟩) hlt).trans hcx.2.2⟩ : q.1.cell? ⟨rb, ro + p * 3, none⟩ = some (.int .i64 x.k) ∧ q.1.cell? ⟨rb, ro + p * 3 + 1, none⟩ = some (.int .i64 x.i) ∧ q.1.cell? ⟨rb, ro + p * 3 + 2, none⟩ = some (.string x.s)))
              have HPL := Lib.hid (show (p : Int) < (xs.length : Int) by have := HM1.out; omega)
              subst hpm
              have hcase : (y = x ∧ z = 1 ∧ x.k = 0) ∨ (y = x ∧ z = 0 ∧ x.k ≠ 0) ∨ (y = v ∧ z = 1 ∧ x.k = 0 ∧ v.k ≠ 0) := lits_cases x v y z HY.out HZ.out HOK.out
              have HCS := Lib.hid hcase
              clear hcase hp hx hpn hlt hc hcx HY HZ
              have r0 := fun q => (HR.out q).1
              have r1 := fun q => (HR.out q).2.1
              have r2 := fun q => (HR.out q).2.2
              have x0 := fun q : LatE Wz => (VXZ.out.later q.2).cells.1
              have x1 := fun q : LatE Wz => (VXZ.out.later q.2).cells.2.1
              have x2 := fun q : LatE Wz => (VXZ.out.later q.2).cells.2.2
              have y0 := fun q : LatE Wz => (VYZ.out.later q.2).cells.1
              have y1 := fun q : LatE Wz => (VYZ.out.later q.2).cells.2.1
              have y2 := fun q : LatE Wz => (VYZ.out.later q.2).cells.2.2
              have v0' := fun q : LatE Wz => (VVZ.out.later q.2).cells.1
              have v1' := fun q : LatE Wz => (VVZ.out.later q.2).cells.2.1
              have v2' := fun q : LatE Wz => (VVZ.out.later q.2).cells.2.2
              have z1 := fun q : LatE Wz => (VZ.out.later q.2).cells.2.1
              have pl := HPL.out
              have HNE : Nonempty (LatE Wz) := ⟨⟨_, Below.refl _ Wz⟩⟩
              go_cut [6] (fun s0 wx => s0 = .bool true ∧ Below W0.heap.size W0 wx)
              case first =>
                refine wp_region_classE (fun w' => ∃ q : LatE Wz, w' = q.1) (by kernel_rfl) (by kernel_rfl) ⟨⟨_, (Below.refl _ Wz).drew⟩, rfl⟩ ?_
                rcases HCS.out with ⟨rfl, rfl, hk⟩ | ⟨rfl, rfl, hk⟩ | ⟨rfl, rfl, hk, hv⟩
                · have d1 : (y.k == 0) = true := by simpa using hk
                  repeat (go_big_quiet_step (fail))
                  refine wpQuiet_nil ?_
                  rintro w' ⟨q, rfl⟩
                  go_wp2_with fail
                  go_meet
                  exact ⟨rfl, bthen BZ.out q.2⟩
                · have d1 : (y.k == 0) = false := by simpa using hk
                  repeat (go_big_quiet_step (fail))
                  refine wpQuiet_nil ?_
                  rintro w' ⟨q, rfl⟩
                  go_wp2_with fail
                  go_meet
                  exact ⟨rfl, bthen BZ.out q.2⟩
                · have d1 : (x.k == 0) = true := by simpa using hk
                  have d2 : (y.k == x.k) = false := by rw [hk]; simpa using hv
                  repeat (go_big_quiet_step (fail))
                  refine wpQuiet_nil ?_
                  rintro w' ⟨q, rfl⟩
                  go_wp2_with fail
                  go_meet
                  exact ⟨rfl, bthen BZ.out q.2⟩
              case rest =>
                obtain ⟨rfl, hcb⟩ := hcut
                have BQ := Lib.hid hcb
                clear hcb
                go_wp2_with fail
                exact bodyPost_ret (v := .bool true) (by simp [results, Tryz.results6, go_sem]) rfl ⟨rfl, bthen HB0.out BQ.out⟩
      · have hb : (BV.chkI v.k v.i v.s != 0) = true := by simpa using hc
        (go_wp2_with fail; exact bodyPost_ret (v := .bool true) (by simp [results, Tryz.results6, go_sem]) rfl ⟨rfl, by first | exact bthen HB0.out B4.out | exact bthen HB0.out B3.out | exact bthen HB0.out B2.out⟩)
    · have hb : (BV.chkR xs != 0) = true := by simpa using hk
      (go_wp2_with fail; exact bodyPost_ret (v := .bool true) (by simp [results, Tryz.results6, go_sem]) rfl ⟨rfl, by first | exact bthen HB0.out B4.out | exact bthen HB0.out B3.out | exact bthen HB0.out B2.out⟩)
  · have hf' : BV.few [⟨A, c, xs⟩] 600 = false := by simpa using hf
    rw [hf']
    (go_wp2_with fail; exact bodyPost_ret (v := .bool true) (by simp [results, Tryz.results6, go_sem]) rfl ⟨rfl, by first | exact bthen HB0.out B4.out | exact bthen HB0.out B3.out | exact bthen HB0.out B2.out⟩)
end Go.Proofs.YtbhcjaeomoibpaaGreatDoor
