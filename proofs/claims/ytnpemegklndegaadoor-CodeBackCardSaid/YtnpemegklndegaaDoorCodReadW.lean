/- Contract of code's read at an Int: it, and what is left behind it; or that there is none. Condition: no more than a million bytes. -/
import Derived.Test.YtnpemegklndegaaDoorCodReadV
import Derived.BigRegion
namespace Go.Proofs.YtnpemegklndegaaDoor
open Go.RowKit
theorem arr_at (b o c : Nat) (w : World) : (Instr.arrayAt 65 (.slice (some ⟨b, o, none⟩) 8 c)).run Tryd.prog w = .ok (.pointer (some ⟨b, o, none⟩)) w := by
  unfold Instr.arrayAt
  go_light
  simp [go_sem]
set_option maxRecDepth 100000 in
set_option maxHeartbeats 4000000 in
theorem read_int (T : Int) (fn gn : Nat) (f : Bool) (hT : ∀ n : Nat, n < 18446744073709551616 → bits .xor .u64 (n : Int) T = ((trn f n : Nat) : Int)) (k : UInt8) (hk2 : k = 2) (t : List UInt8) (A : Option Addr) (c : Nat) (w : World) (hy : BytesAt w w.heap.size A (k :: t)) (hc : (k :: t).length ≤ c) (hm : (k :: t).length ≤ 1000000) :
    Calls Tryd.prog 32 #[.agg #[.int .u64 T, .func (.func fn) #[] #[], .func (.func gn) #[] #[]], .slice A (k :: t).length c] w (GaveV w A (rVal f (k :: t)) (k :: t)) := by
  have H0 := Lib.hid (Boxes.new w T fn gn)
  obtain ⟨b, off, rfl, hbl, hcl⟩ := hy (by simp)
  have ck := hcl 0 (by simp)
  simp only [List.getElem_cons_zero, Nat.add_zero] at ck
  obtain ⟨o1, hs1, hy1⟩ := slice_from b off (k :: t).length c 1 .i64 (by simp) hc
  have hyt := hy1 w _ _ rfl hy
  rw [List.drop_one, List.tail_cons] at hyt
  replace hs1 : ∀ w, (Instr.slice 26 (.slice (some ⟨b, off, none⟩) (t.length + 1) c) (some (.int .i64 1)) none none).run Tryd.prog w = .ok (.slice (some ⟨b, o1, none⟩) t.length (c - 1)) w := hs1
  rw [List.length_cons] at hm hc ⊢
  have hct : t.length ≤ c - 1 := by omega
  have HLT : Hid (LiesS w b (.slice (some ⟨b, o1, none⟩) t.length (c - 1)) t) := ⟨o1, _, rfl, hct, hyt⟩
  have HKC : Hid (∀ x : LatB w T fn gn, x.1.cell? ⟨b, off, none⟩ = some (.int .u8 k.toNat)) := fun x => (x.2.below.cell (p := ⟨b, off, none⟩) hbl).trans ck
  generalize c - 1 = c1 at *
  have hn1 : (0 : Int) < (t.length : Int) + 1 := by omega
  have hn2 : ((t.length : Int) + 1 == 0) = false := by rw [beq_eq_false_iff_ne]; omega
  clear hy hcl ck hy1
  have hku := k.toNat_lt
  have hkw : IntKind.i64.wrap (k.toNat : Int) = (k.toNat : Int) := by rw [IntWalk.i64_in _ (by omega)]
  subst hk2
  have hr : rVal f (2 :: t) = if 8 ≤ t.length then some (⟨2, ofU (trn f (unbe (t.take 8))), ⟨#[]⟩⟩, 9) else none := rfl
  rw [hr]
  by_cases h8 : t.length < 8
  · rw [if_neg (by omega)]
    have h8' : ¬ ((t.length : Int) ≥ 8) := by omega
    generalize t.length = n at *
    go_enter Tryd.func32, Tryd.ntmps32
    go_wp2_with fail
    have HNE : Nonempty (LatB w T fn gn) := ⟨⟨_, H0.out⟩⟩
    have ck := HKC.out
    simp only [show ((2 : UInt8).toNat : Int) = 2 from rfl] at ck
    refine wp_region_class (fun w' => ∃ x : LatB w T fn gn, w' = x.1) (by kernel_rfl) (by kernel_rfl) ⟨⟨_, H0.out.drew⟩, rfl⟩ ?_
    repeat (go_big_quiet_step (fail))
    refine wpQuiet_nil ?_
    rintro W2 ⟨⟨_, h2⟩, rfl⟩
    have H2 := Lib.hid h2
    obtain ⟨f0, f1, f2⟩ := h2.free
    obtain ⟨g0, g1, g2⟩ := h2.cells
    clear ck h2 HNE
    go_wp2_with fail
    exact bodyPost_ret (v := .tuple #[.agg #[.int .i64 0, .int .i64 0, .string ⟨#[]⟩], .slice none 0 0, .bool false]) (by simp [results, Tryd.results32, go_sem, g0, g1, g2]) rfl ⟨Below.set3' H2.out.below (by omega) _ _ _, rfl⟩
  · rw [if_pos (by omega)]
    have h8' : (t.length : Int) ≥ 8 := by omega
    obtain ⟨x0, x1, x2, x3, x4, x5, x6, x7, hx⟩ := take8 (l := t) (by omega)
    rw [hx]
    obtain ⟨b2, off2, hA2, -, hcx⟩ := hyt (by omega)
    simp at hA2
    obtain ⟨rfl, rfl⟩ := hA2
    have hxj : ∀ j (h : j < 8), ∀ u, ([x0, x1, x2, x3, x4, x5, x6, x7] : List UInt8)[j]? = some u → w.cell? ⟨b, o1 + j, none⟩ = some (.int .u8 u.toNat) := fun j h u hu => by
      rw [← hx, List.getElem?_take, if_pos h, List.getElem?_eq_getElem (by omega)] at hu
      rw [hcx j (by omega)]
      rw [Option.some.inj hu]
    have HXJ := Lib.hid hxj
    obtain ⟨o2, hs2, hy2⟩ := slice_from b o1 t.length c1 8 .i64 (by omega) hct
    replace hs2 : ∀ w, (Instr.slice 26 (.slice (some ⟨b, o1, none⟩) t.length c1) (some (.int .i64 8)) none none).run Tryd.prog w = .ok (.slice (some ⟨b, o2, none⟩) (t.length - 8) (c1 - 8)) w := hs2
    have hs3 : ∀ w, (Instr.slice 26 (.slice (some ⟨b, o1, none⟩) t.length c1) none (some (.int .i64 8)) none).run Tryd.prog w = .ok (.slice (some ⟨b, o1, none⟩) 8 c1) w := slice_to b o1 t.length c1 8 .i64 (by omega)
    have hyt2 := hy2 w _ t rfl hyt
    have HLT2 : Hid (LiesS w b (.slice (some ⟨b, o2, none⟩) (t.length - 8) (c1 - 8)) (t.drop 8)) := ⟨o2, _, by rw [List.length_drop], by rw [List.length_drop]; omega, hyt2⟩
    have HNUM := Lib.hid (number_any x0 x1 x2 x3 x4 x5 x6 x7)
    have hul := unbe_lt [x0, x1, x2, x3, x4, x5, x6, x7]
    simp only [List.length_cons, List.length_nil] at hul
    have hxor := hT (unbe [x0, x1, x2, x3, x4, x5, x6, x7]) (by omega)
    have htl := trn_lt f (unbe [x0, x1, x2, x3, x4, x5, x6, x7]) (by omega)
    have hwr := ofU_wrap _ htl
    clear hT hcx hxj hyt hyt2 hy2 hx hr
    unfold arrL at HNUM
    generalize unbe [x0, x1, x2, x3, x4, x5, x6, x7] = m at *
    generalize t.length - 8 = n2 at *
    generalize c1 - 8 = c2 at *
    generalize t.length = n at *
    go_enter Tryd.func32, Tryd.ntmps32
    go_wp2_with fail
    have HNE : Nonempty (LatB w T fn gn) := ⟨⟨_, H0.out⟩⟩
    have ck := HKC.out
    simp only [show ((2 : UInt8).toNat : Int) = 2 from rfl] at ck
    refine wp_region_class (fun w' => ∃ x : LatB w T fn gn, w' = x.1) (by kernel_rfl) (by kernel_rfl) ⟨⟨_, H0.out.drew⟩, rfl⟩ ?_
    repeat (go_big_quiet_step (fail))
    refine wpQuiet_nil ?_
    rintro W2 ⟨⟨_, h2⟩, rfl⟩
    have H2 := Lib.hid h2
    obtain ⟨f0, f1, f2⟩ := h2.free
    obtain ⟨g0, g1, g2⟩ := h2.cells
    clear ck h2 HNE
    go_wp2_with fail
    have HNE : Nonempty (LatB w T fn gn) := ⟨⟨_, H2.out⟩⟩
    have y0 := fun x : LatB w T fn gn => (x.2.below.cell (p := ⟨b, o1 + 0, none⟩) hbl).trans (HXJ.out 0 (by omega) x0 rfl)
    have y1 := fun x : LatB w T fn gn => (x.2.below.cell (p := ⟨b, o1 + 1, none⟩) hbl).trans (HXJ.out 1 (by omega) x1 rfl)
    have y2 := fun x : LatB w T fn gn => (x.2.below.cell (p := ⟨b, o1 + 2, none⟩) hbl).trans (HXJ.out 2 (by omega) x2 rfl)
    have y3 := fun x : LatB w T fn gn => (x.2.below.cell (p := ⟨b, o1 + 3, none⟩) hbl).trans (HXJ.out 3 (by omega) x3 rfl)
    have y4 := fun x : LatB w T fn gn => (x.2.below.cell (p := ⟨b, o1 + 4, none⟩) hbl).trans (HXJ.out 4 (by omega) x4 rfl)
    have y5 := fun x : LatB w T fn gn => (x.2.below.cell (p := ⟨b, o1 + 5, none⟩) hbl).trans (HXJ.out 5 (by omega) x5 rfl)
    have y6 := fun x : LatB w T fn gn => (x.2.below.cell (p := ⟨b, o1 + 6, none⟩) hbl).trans (HXJ.out 6 (by omega) x6 rfl)
    have y7 := fun x : LatB w T fn gn => (x.2.below.cell (p := ⟨b, o1 + 7, none⟩) hbl).trans (HXJ.out 7 (by omega) x7 rfl)
    rw [Nat.add_zero] at y0
    have ha := arr_at b o1 c1
    have fm := fun x : LatB w T fn gn => x.2.form.1
    refine wp_region_class (fun w' => ∃ x : LatB w T fn gn, w' = x.1) (by kernel_rfl) (by kernel_rfl) ⟨⟨_, H2.out.drew⟩, rfl⟩ ?_
    repeat (go_big_quiet_step ((rename_i x; (go_at_call 43; refine (HNUM.out _).mono ?_; rintro e w2 ⟨rfl, hb⟩; exact ⟨rfl, ⟨_, x.2.call hb⟩, rfl⟩))))
    refine wpQuiet_nil ?_
    rintro W3 ⟨⟨_, h3⟩, rfl⟩
    have H3 := Lib.hid h3
    obtain ⟨f0, f1, f2⟩ := h3.free
    obtain ⟨g0, g1, g2⟩ := h3.cells
    clear y0 y1 y2 y3 y4 y5 y6 y7 fm ha h3 HNE
    generalize trn f m = tm at *
    generalize ofU tm = om at *
    go_wp2_with fail
    go_region
    go_wp2_with fail
    exact bodyPost_ret (v := .tuple #[.agg #[.int .i64 2, .int .i64 om, .string ⟨#[]⟩], .slice (some ⟨b, o2, none⟩) n2 c2, .bool true]) (by simp [results, Tryd.results32, go_sem, g0, g1, g2]) rfl ⟨Below.set3' H3.out.below.drew (by omega) _ _ _, _, b, off, rfl, rfl, HLT2.out.later (Below.set3' H3.out.below.drew (by omega) _ _ _)⟩
end Go.Proofs.YtnpemegklndegaaDoor
