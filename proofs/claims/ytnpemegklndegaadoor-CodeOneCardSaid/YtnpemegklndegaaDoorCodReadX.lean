/- Contract of code's read: a value out of bytes, and what is left behind it; or that there is none. Conditions: no more than a million bytes; the way to read a text keeps its contract. -/
import Derived.Test.YtnpemegklndegaaDoorCodReadW
import Derived.Laws.EntriesVeiled
namespace Go.Proofs.YtnpemegklndegaaDoor
open Go.RowKit
set_option maxRecDepth 100000 in
set_option maxHeartbeats 4000000 in
theorem read_txt3 (T : Int) (fn gn : Nat) (f : Bool) (hG : RTxt gn f) (hgn : ∀ a w, (callFunc gn a).run Tryd.prog w = .ok (.enter gn a) w) (k : UInt8) (hk3 : k = 3) (t : List UInt8) (A : Option Addr) (c : Nat) (w : World) (hy : BytesAt w w.heap.size A (k :: t)) (hc : (k :: t).length ≤ c) (hm : (k :: t).length ≤ 1000000) :
    Calls Tryd.prog 32 #[.agg #[.int .u64 T, .func (.func fn) #[] #[], .func (.func gn) #[] #[]], .slice A (k :: t).length c] w (GaveV w A (rVal f (k :: t)) (k :: t)) := by
  have H0 := Lib.hid (Boxes.new w T fn gn)
  obtain ⟨b, off, rfl, hbl, hcl⟩ := hy (by simp)
  have ck := hcl 0 (by simp)
  simp only [List.getElem_cons_zero, Nat.add_zero] at ck
  obtain ⟨o1, hs1, hy1⟩ := slice_from b off (k :: t).length c 1 .i64 (by simp) hc
  have hyt := hy1 w _ _ rfl hy
  rw [List.drop_one, List.tail_cons] at hyt
  replace hs1 : ∀ w, (Instr.slice 26 (.slice (some ⟨b, off, none⟩) (t.length + 1) c) (some (.int .i64 1)) none none).run Tryd.prog w = .ok (.slice (some ⟨b, o1, none⟩) t.length (c - 1)) w := hs1
  rw [List.length_cons] at hm hc ⊢
  have hct : t.length ≤ c - 1 := by omega
  have HLT : Hid (LiesS w b (.slice (some ⟨b, o1, none⟩) t.length (c - 1)) t) := ⟨o1, _, rfl, hct, hyt⟩
  have HKC : Hid (∀ x : LatB w T fn gn, x.1.cell? ⟨b, off, none⟩ = some (.int .u8 k.toNat)) := fun x => (x.2.below.cell (p := ⟨b, off, none⟩) hbl).trans ck
  generalize c - 1 = c1 at *
  have hn1 : (0 : Int) < (t.length : Int) + 1 := by omega
  have hn2 : ((t.length : Int) + 1 == 0) = false := by rw [beq_eq_false_iff_ne]; omega
  clear hy hcl ck hy1
  have hku := k.toNat_lt
  have hkw : IntKind.i64.wrap (k.toNat : Int) = (k.toNat : Int) := by rw [IntWalk.i64_in _ (by omega)]
  subst hk3
  have hr : rVal f (3 :: t) = (rTxt f t).map fun p => (⟨3, 0, ⟨p.1.toArray⟩⟩, 1 + p.2) := rfl
  rw [hr]
  have HG := Lib.hid (fun W h => hG t b o1 c1 W h hct (by omega))
  have HYT : Hid (∀ W, Boxes w T fn gn W → BytesAt W W.heap.size (some ⟨b, o1, none⟩) t) := fun W h => hyt.later h.below
  clear hyt hr hG
  generalize rTxt f t = o at *
  generalize t.length = n at *
  go_enter Tryd.func32, Tryd.ntmps32
  go_wp2_with fail
  have HNE : Nonempty (LatB w T fn gn) := ⟨⟨_, H0.out⟩⟩
  have ck := HKC.out
  simp only [show ((3 : UInt8).toNat : Int) = 3 from rfl] at ck
  refine wp_region_class (fun w' => ∃ x : LatB w T fn gn, w' = x.1) (by kernel_rfl) (by kernel_rfl) ⟨⟨_, H0.out.drew⟩, rfl⟩ ?_
  repeat (go_big_quiet_step (fail))
  refine wpQuiet_nil ?_
  rintro W2 ⟨⟨_, h2⟩, rfl⟩
  have H2 := Lib.hid h2
  obtain ⟨f0, f1, f2⟩ := h2.free
  obtain ⟨g0, g1, g2⟩ := h2.cells
  clear ck h2 HNE
  obtain ⟨m0, m1, m2⟩ := H2.out.form
  go_wp2_with fail
  refine (HG.out W2 (HYT.out W2 H2.out)).mono ?_
  clear f0 f1 f2 g0 g1 g2 m0 m1 m2
  rintro e W3 ⟨hb3, he⟩
  have H3 := Lib.hid (H2.out.call hb3)
  obtain ⟨f0, f1, f2⟩ := H3.out.free
  obtain ⟨g0, g1, g2⟩ := H3.out.cells
  cases o with
  | none =>
    subst he
    go_wp2_with fail
    exact bodyPost_ret (v := .tuple #[.agg #[.int .i64 0, .int .i64 0, .string ⟨#[]⟩], .slice none 0 0, .bool false]) (by simp [results, Tryd.results32, go_sem, g0, g1, g2]) rfl ⟨Below.set3' H3.out.below (by omega) _ _ _, rfl⟩
  | some p =>
    obtain ⟨p, n⟩ := p
    obtain ⟨v, rfl, hv⟩ := he
    have HV := Lib.hid hv
    obtain ⟨o3, c3, rfl, -, hy3⟩ := hv
    generalize (t.drop n).length = n3 at *
    go_wp2_with fail
    exact bodyPost_ret (v := .tuple #[.agg #[.int .i64 3, .int .i64 0, .string ⟨p.toArray⟩], .slice (some ⟨b, o3, none⟩) n3 c3, .bool true]) (by simp [results, Tryd.results32, go_sem, g0, g1, g2]) rfl ⟨Below.set3' H3.out.below (by omega) _ _ _, _, b, off, rfl, rfl, by rw [Nat.add_comm 1 n, List.drop_succ_cons]; exact HV.out.set3 (by omega) (Nat.le_of_lt H3.out.size) _ _ _⟩
set_option maxRecDepth 100000 in
set_option maxHeartbeats 4000000 in
theorem read_txt4 (T : Int) (fn gn : Nat) (f : Bool) (hG : RTxt gn f) (hgn : ∀ a w, (callFunc gn a).run Tryd.prog w = .ok (.enter gn a) w) (k : UInt8) (hk3 : k = 4) (t : List UInt8) (A : Option Addr) (c : Nat) (w : World) (hy : BytesAt w w.heap.size A (k :: t)) (hc : (k :: t).length ≤ c) (hm : (k :: t).length ≤ 1000000) :
    Calls Tryd.prog 32 #[.agg #[.int .u64 T, .func (.func fn) #[] #[], .func (.func gn) #[] #[]], .slice A (k :: t).length c] w (GaveV w A (rVal f (k :: t)) (k :: t)) := by
  have H0 := Lib.hid (Boxes.new w T fn gn)
  obtain ⟨b, off, rfl, hbl, hcl⟩ := hy (by simp)
  have ck := hcl 0 (by simp)
  simp only [List.getElem_cons_zero, Nat.add_zero] at ck
  obtain ⟨o1, hs1, hy1⟩ := slice_from b off (k :: t).length c 1 .i64 (by simp) hc
  have hyt := hy1 w _ _ rfl hy
  rw [List.drop_one, List.tail_cons] at hyt
  replace hs1 : ∀ w, (Instr.slice 26 (.slice (some ⟨b, off, none⟩) (t.length + 1) c) (some (.int .i64 1)) none none).run Tryd.prog w = .ok (.slice (some ⟨b, o1, none⟩) t.length (c - 1)) w := hs1
  rw [List.length_cons] at hm hc ⊢
  have hct : t.length ≤ c - 1 := by omega
  have HLT : Hid (LiesS w b (.slice (some ⟨b, o1, none⟩) t.length (c - 1)) t) := ⟨o1, _, rfl, hct, hyt⟩
  have HKC : Hid (∀ x : LatB w T fn gn, x.1.cell? ⟨b, off, none⟩ = some (.int .u8 k.toNat)) := fun x => (x.2.below.cell (p := ⟨b, off, none⟩) hbl).trans ck
  generalize c - 1 = c1 at *
  have hn1 : (0 : Int) < (t.length : Int) + 1 := by omega
  have hn2 : ((t.length : Int) + 1 == 0) = false := by rw [beq_eq_false_iff_ne]; omega
  clear hy hcl ck hy1
  have hku := k.toNat_lt
  have hkw : IntKind.i64.wrap (k.toNat : Int) = (k.toNat : Int) := by rw [IntWalk.i64_in _ (by omega)]
  subst hk3
  have hr : rVal f (4 :: t) = (rTxt f t).map fun p => (⟨4, 0, ⟨p.1.toArray⟩⟩, 1 + p.2) := rfl
  rw [hr]
  have HG := Lib.hid (fun W h => hG t b o1 c1 W h hct (by omega))
  have HYT : Hid (∀ W, Boxes w T fn gn W → BytesAt W W.heap.size (some ⟨b, o1, none⟩) t) := fun W h => hyt.later h.below
  clear hyt hr hG
  generalize rTxt f t = o at *
  generalize t.length = n at *
  go_enter Tryd.func32, Tryd.ntmps32
  go_wp2_with fail
  have HNE : Nonempty (LatB w T fn gn) := ⟨⟨_, H0.out⟩⟩
  have ck := HKC.out
  simp only [show ((4 : UInt8).toNat : Int) = 4 from rfl] at ck
  refine wp_region_class (fun w' => ∃ x : LatB w T fn gn, w' = x.1) (by kernel_rfl) (by kernel_rfl) ⟨⟨_, H0.out.drew⟩, rfl⟩ ?_
  repeat (go_big_quiet_step (fail))
  refine wpQuiet_nil ?_
  rintro W2 ⟨⟨_, h2⟩, rfl⟩
  have H2 := Lib.hid h2
  obtain ⟨f0, f1, f2⟩ := h2.free
  obtain ⟨g0, g1, g2⟩ := h2.cells
  clear ck h2 HNE
  obtain ⟨m0, m1, m2⟩ := H2.out.form
  go_wp2_with fail
  refine (HG.out W2 (HYT.out W2 H2.out)).mono ?_
  clear f0 f1 f2 g0 g1 g2 m0 m1 m2
  rintro e W3 ⟨hb3, he⟩
  have H3 := Lib.hid (H2.out.call hb3)
  obtain ⟨f0, f1, f2⟩ := H3.out.free
  obtain ⟨g0, g1, g2⟩ := H3.out.cells
  cases o with
  | none =>
    subst he
    go_wp2_with fail
    exact bodyPost_ret (v := .tuple #[.agg #[.int .i64 0, .int .i64 0, .string ⟨#[]⟩], .slice none 0 0, .bool false]) (by simp [results, Tryd.results32, go_sem, g0, g1, g2]) rfl ⟨Below.set3' H3.out.below (by omega) _ _ _, rfl⟩
  | some p =>
    obtain ⟨p, n⟩ := p
    obtain ⟨v, rfl, hv⟩ := he
    have HV := Lib.hid hv
    obtain ⟨o3, c3, rfl, -, hy3⟩ := hv
    generalize (t.drop n).length = n3 at *
    go_wp2_with fail
    exact bodyPost_ret (v := .tuple #[.agg #[.int .i64 4, .int .i64 0, .string ⟨p.toArray⟩], .slice (some ⟨b, o3, none⟩) n3 c3, .bool true]) (by simp [results, Tryd.results32, go_sem, g0, g1, g2]) rfl ⟨Below.set3' H3.out.below (by omega) _ _ _, _, b, off, rfl, rfl, by rw [Nat.add_comm 1 n, List.drop_succ_cons]; exact HV.out.set3 (by omega) (Nat.le_of_lt H3.out.size) _ _ _⟩
set_option maxRecDepth 100000 in
set_option maxHeartbeats 4000000 in
theorem read_else (T : Int) (fn gn : Nat) (f : Bool) (k : UInt8) (h0 : k ≠ 0) (h1 : k ≠ 1) (h2 : k ≠ 2) (h3 : k ≠ 3) (h4 : k ≠ 4) (t : List UInt8) (A : Option Addr) (c : Nat) (w : World) (hy : BytesAt w w.heap.size A (k :: t)) (hc : (k :: t).length ≤ c) (hm : (k :: t).length ≤ 1000000) :
    Calls Tryd.prog 32 #[.agg #[.int .u64 T, .func (.func fn) #[] #[], .func (.func gn) #[] #[]], .slice A (k :: t).length c] w (GaveV w A (rVal f (k :: t)) (k :: t)) := by
  have H0 := Lib.hid (Boxes.new w T fn gn)
  obtain ⟨b, off, rfl, hbl, hcl⟩ := hy (by simp)
  have ck := hcl 0 (by simp)
  simp only [List.getElem_cons_zero, Nat.add_zero] at ck
  obtain ⟨o1, hs1, hy1⟩ := slice_from b off (k :: t).length c 1 .i64 (by simp) hc
  have hyt := hy1 w _ _ rfl hy
  rw [List.drop_one, List.tail_cons] at hyt
  replace hs1 : ∀ w, (Instr.slice 26 (.slice (some ⟨b, off, none⟩) (t.length + 1) c) (some (.int .i64 1)) none none).run Tryd.prog w = .ok (.slice (some ⟨b, o1, none⟩) t.length (c - 1)) w := hs1
  rw [List.length_cons] at hm hc ⊢
  have hct : t.length ≤ c - 1 := by omega
  have HLT : Hid (LiesS w b (.slice (some ⟨b, o1, none⟩) t.length (c - 1)) t) := ⟨o1, _, rfl, hct, hyt⟩
  have HKC : Hid (∀ x : LatB w T fn gn, x.1.cell? ⟨b, off, none⟩ = some (.int .u8 k.toNat)) := fun x => (x.2.below.cell (p := ⟨b, off, none⟩) hbl).trans ck
  generalize c - 1 = c1 at *
  have hn1 : (0 : Int) < (t.length : Int) + 1 := by omega
  have hn2 : ((t.length : Int) + 1 == 0) = false := by rw [beq_eq_false_iff_ne]; omega
  clear hy hcl ck hy1
  have hku := k.toNat_lt
  have hkw : IntKind.i64.wrap (k.toNat : Int) = (k.toNat : Int) := by rw [IntWalk.i64_in _ (by omega)]
  have hr : rVal f (k :: t) = none := by
    show rOf f k t = none
    unfold rOf
    rw [if_neg h0, if_neg h1, if_neg h2, if_neg (fun h => h.elim h3 h4)]
  rw [hr]
  have key : ∀ (u : UInt8) (i : Int), k ≠ u → (u.toNat : Int) = i → ((k.toNat : Int) == i) = false := fun u i h hi => by
    rw [beq_eq_false_iff_ne, ← hi]
    intro e
    exact h (UInt8.toNat_inj.1 (by omega))
  have e0 := key 0 0 h0 rfl
  have e1 := key 1 1 h1 rfl
  have e2 := key 2 2 h2 rfl
  have e3 := key 3 3 h3 rfl
  have e4 := key 4 4 h4 rfl
  clear h0 h1 h2 h3 h4 hr key
  generalize t.length = n at *
  generalize (k.toNat : Int) = kn at *
  go_enter Tryd.func32, Tryd.ntmps32
  go_wp2_with fail
  have HNE : Nonempty (LatB w T fn gn) := ⟨⟨_, H0.out⟩⟩
  have ck := HKC.out
  skip
  refine wp_region_class (fun w' => ∃ x : LatB w T fn gn, w' = x.1) (by kernel_rfl) (by kernel_rfl) ⟨⟨_, H0.out.drew⟩, rfl⟩ ?_
  repeat (go_big_quiet_step (fail))
  refine wpQuiet_nil ?_
  rintro W2 ⟨⟨_, h2⟩, rfl⟩
  have H2 := Lib.hid h2
  obtain ⟨f0, f1, f2⟩ := h2.free
  obtain ⟨g0, g1, g2⟩ := h2.cells
  clear ck h2 HNE
  go_wp2_with fail
  exact bodyPost_ret (v := .tuple #[.agg #[.int .i64 0, .int .i64 0, .string ⟨#[]⟩], .slice none 0 0, .bool false]) (by simp [results, Tryd.results32, go_sem, g0, g1, g2]) rfl ⟨Below.set3' H2.out.below (by omega) _ _ _, rfl⟩
/-- read, of any bytes. -/
theorem read_any (T : Int) (fn gn : Nat) (f : Bool) (hT : ∀ n : Nat, n < 18446744073709551616 → bits .xor .u64 (n : Int) T = ((trn f n : Nat) : Int)) (hG : RTxt gn f) (hgn : ∀ a w, (callFunc gn a).run Tryd.prog w = .ok (.enter gn a) w) (l : List UInt8) (A : Option Addr) (c : Nat) (w : World) (hy : BytesAt w w.heap.size A l) (hc : l.length ≤ c) (hm : l.length ≤ 1000000) :
    Calls Tryd.prog 32 #[.agg #[.int .u64 T, .func (.func fn) #[] #[], .func (.func gn) #[] #[]], .slice A (l).length c] w (GaveV w A (rVal f (l)) (l)) := by
  cases l with
  | nil => exact read_nil T fn gn f A c w
  | cons k t =>
    by_cases h0 : k = 0
    · exact read_null T fn gn f k h0 t A c w hy hc hm
    by_cases h1 : k = 1
    · exact read_bool T fn gn f k h1 t A c w hy hc hm
    by_cases h2 : k = 2
    · exact read_int T fn gn f hT k h2 t A c w hy hc hm
    by_cases h3 : k = 3
    · exact read_txt3 T fn gn f hG hgn k h3 t A c w hy hc hm
    by_cases h4 : k = 4
    · exact read_txt4 T fn gn f hG hgn k h4 t A c w hy hc hm
    exact read_else T fn gn f k h0 h1 h2 h3 h4 t A c w hy hc hm
end Go.Proofs.YtnpemegklndegaaDoor
