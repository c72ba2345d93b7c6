/- Contract of code's read: a value out of bytes, and what is left behind it; or that there is none. Conditions: no more than a million bytes; the two ways to read a text keep their contracts. -/
import Derived.Test.YtnpemegklndegaaDoorCodReadE
import Derived.Test.YtnpemegklndegaaDoorCodEnc
import Derived.BigRegion
namespace Go.Proofs.YtnpemegklndegaaDoor
open Go.RowKit
def RTxt (gn : Nat) (f : Bool) : Prop := ∀ (l : List UInt8) (b off c : Nat) (w : World), BytesAt w w.heap.size (some ⟨b, off, none⟩) l → l.length ≤ c → l.length ≤ 1000000 → Calls Tryd.prog gn #[.slice (some ⟨b, off, none⟩) l.length c] w (GaveT w b (rTxt f l) l)
theorem rTxt38 : RTxt 38 false := readCounted_any
theorem rTxt42 : RTxt 42 true := readEnded_any
theorem enter38 (a : Array Value) (w : World) : (callFunc 38 a).run Tryd.prog w = .ok (.enter 38 a) w := by kernel_rfl
theorem enter42 (a : Array Value) (w : World) : (callFunc 42 a).run Tryd.prog w = .ok (.enter 42 a) w := by kernel_rfl
def Lies (w : World) (v : Value) (l : List UInt8) : Prop := ∃ A c, v = .slice A l.length c ∧ l.length ≤ c ∧ BytesAt w w.heap.size A l
theorem LiesS.lies {w : World} {b : Nat} {v : Value} {l : List UInt8} (h : LiesS w b v l) : Lies w v l := by
  obtain ⟨off, c, hv, hc, hy⟩ := h
  exact ⟨_, c, hv, hc, hy⟩
theorem BytesAt.narrow {w : World} {B B' b off : Nat} {l : List UInt8} (h : BytesAt w B (some ⟨b, off, none⟩) l) (hb : b < B') : BytesAt w B' (some ⟨b, off, none⟩) l := fun h0 => by
  obtain ⟨b2, off2, hA, -, hc⟩ := h h0
  simp at hA
  obtain ⟨rfl, rfl⟩ := hA
  exact ⟨b, off, rfl, hb, hc⟩
theorem LiesS.set3 {W : World} {b g : Nat} {v : Value} {l : List UInt8} (h : LiesS W b v l) (hb : b < g) (hg : g ≤ W.heap.size) (x y z : Value) : LiesS (((W.setCell ⟨g, 0, none⟩ x).setCell ⟨g, 1, none⟩ y).setCell ⟨g, 2, none⟩ z) b v l := by
  obtain ⟨off, c, hv, hc, hy⟩ := h
  have hB := Below.set3' (Below.refl g W) (Nat.le_refl _) x y z
  exact ⟨off, c, hv, hc, ((hy.narrow hb).below hB).mono (Nat.le_trans hg hB.size)⟩
theorem Lies.later {w w' : World} {v : Value} {l : List UInt8} (h : Lies w v l) (hb : Below w.heap.size w w') : Lies w' v l := by
  obtain ⟨A, c, hv, hc, hy⟩ := h
  exact ⟨A, c, hv, hc, hy.later hb⟩
def valV (v : V) : Value := .agg #[.int .i64 v.k, .int .i64 v.i, .string v.s]
def GaveV (w : World) (A : Option Addr) (o : Option (V × Nat)) (l : List UInt8) (e : Ending) (w' : World) : Prop :=
  Below w.heap.size w w' ∧ match o with
  | none => e = .returned (.tuple #[.agg #[.int .i64 0, .int .i64 0, .string ⟨#[]⟩], .slice none 0 0, .bool false])
  | some (v, n) => ∃ u b off, A = some ⟨b, off, none⟩ ∧ e = .returned (.tuple #[valV v, u, .bool true]) ∧ LiesS w' b u (l.drop n)
/-- The two boxes that a reading makes first. -/
structure Boxes (w : World) (T : Int) (fn gn : Nat) (W : World) : Prop where
  below : Below w.heap.size w W
  fo : W.heap[w.heap.size]? = some (formO T fn gn 52)
  zo : W.heap[w.heap.size + 1]? = some (b3 ⟨0, 0, ⟨#[]⟩⟩ 43)
theorem Boxes.size {w W : World} {T : Int} {fn gn : Nat} (h : Boxes w T fn gn W) : w.heap.size + 1 < W.heap.size := (Array.getElem?_eq_some_iff.1 h.zo).1
theorem Boxes.call {w W W' : World} {T : Int} {fn gn : Nat} (h : Boxes w T fn gn W) (hb : Below W.heap.size W W') : Boxes w T fn gn W' := by
  have hs := h.size
  exact ⟨h.below.trans (hb.mono (by omega)), (hb.block _ (by omega)).trans h.fo, (hb.block _ hs).trans h.zo⟩
theorem Boxes.drew {w W : World} {T : Int} {fn gn : Nat} (h : Boxes w T fn gn W) : Boxes w T fn gn W.drew := h.call (Below.refl _ _).drew
theorem Boxes.new (w : World) (T : Int) (fn gn : Nat) : Boxes w T fn gn ((w.alloc (formO T fn gn 52)).alloc (b3 ⟨0, 0, ⟨#[]⟩⟩ 43)) :=
  ⟨((Below.refl _ w).alloc (Nat.le_refl _) _).alloc (by simp) _, (heap_alloc_old _ _ (by simp)).trans (heap_alloc_new w _), by
    have := heap_alloc_new (w.alloc (formO T fn gn 52)) (b3 ⟨0, 0, ⟨#[]⟩⟩ 43)
    rwa [alloc_size] at this⟩
def LatB (w : World) (T : Int) (fn gn : Nat) : Type := { W : World // Boxes w T fn gn W }
theorem Boxes.cells {w W : World} {T : Int} {fn gn : Nat} (h : Boxes w T fn gn W) : W.cell? ⟨w.heap.size + 1, 0, none⟩ = some (.int .i64 0) ∧ W.cell? ⟨w.heap.size + 1, 1, none⟩ = some (.int .i64 0) ∧ W.cell? ⟨w.heap.size + 1, 2, none⟩ = some (.string ⟨#[]⟩) := b3_cells h.zo
theorem Boxes.free {w W : World} {T : Int} {fn gn : Nat} (h : Boxes w T fn gn W) : W.frozen? ⟨w.heap.size + 1, 0, none⟩ = false ∧ W.frozen? ⟨w.heap.size + 1, 1, none⟩ = false ∧ W.frozen? ⟨w.heap.size + 1, 2, none⟩ = false := ⟨Lib.frozen_of_heap h.zo 0, Lib.frozen_of_heap h.zo 1, Lib.frozen_of_heap h.zo 2⟩
theorem Boxes.form {w W : World} {T : Int} {fn gn : Nat} (h : Boxes w T fn gn W) : W.cell? ⟨w.heap.size, 0, none⟩ = some (.int .u64 T) ∧ W.cell? ⟨w.heap.size, 1, none⟩ = some (.func (.func fn) #[] #[]) ∧ W.cell? ⟨w.heap.size, 2, none⟩ = some (.func (.func gn) #[] #[]) := form_cells h.fo
theorem take8 {l : List UInt8} (h : 8 ≤ l.length) : ∃ a b c d e f g i, l.take 8 = [a, b, c, d, e, f, g, i] := by
  match l, h with
  | a :: b :: c :: d :: e :: f :: g :: i :: t, _ => exact ⟨a, b, c, d, e, f, g, i, rfl⟩
theorem ofU_wrap (n : Nat) (h : n < 18446744073709551616) : IntKind.i64.wrap (n : Int) = ofU n := by
  rw [IntKind.wrap_i64]
  unfold ofU
  split <;> omega
set_option maxRecDepth 100000 in
set_option maxHeartbeats 400000 in
theorem read_nil (T : Int) (fn gn : Nat) (f : Bool) (A : Option Addr) (c : Nat) (w : World) :
    Calls Tryd.prog 32 #[.agg #[.int .u64 T, .func (.func fn) #[] #[], .func (.func gn) #[] #[]], .slice A ([] : List UInt8).length c] w (GaveV w A (rVal f ([])) ([])) := by
  have H0 := Lib.hid (Boxes.new w T fn gn)
  obtain ⟨f0, f1, f2⟩ := H0.out.free
  obtain ⟨g0, g1, g2⟩ := H0.out.cells
  unfold formO b3 at *
  rw [List.length_nil]
  go_enter Tryd.func32, Tryd.ntmps32
  go_wp2_with fail
  exact bodyPost_ret (v := .tuple #[.agg #[.int .i64 0, .int .i64 0, .string ⟨#[]⟩], .slice none 0 0, .bool false]) (by simp [results, Tryd.results32, go_sem, g0, g1, g2]) rfl ⟨H0.out.below, rfl⟩
set_option maxRecDepth 100000 in
set_option maxHeartbeats 4000000 in
theorem read_null (T : Int) (fn gn : Nat) (f : Bool) (k : UInt8) (hk0 : k = 0) (t : List UInt8) (A : Option Addr) (c : Nat) (w : World) (hy : BytesAt w w.heap.size A (k :: t)) (hc : (k :: t).length ≤ c) (hm : (k :: t).length ≤ 1000000) :
    Calls Tryd.prog 32 #[.agg #[.int .u64 T, .func (.func fn) #[] #[], .func (.func gn) #[] #[]], .slice A (k :: t).length c] w (GaveV w A (rVal f (k :: t)) (k :: t)) := by
  have H0 := Lib.hid (Boxes.new w T fn gn)
  obtain ⟨b, off, rfl, hbl, hcl⟩ := hy (by simp)
  have ck := hcl 0 (by simp)
  simp only [List.getElem_cons_zero, Nat.add_zero] at ck
  obtain ⟨o1, hs1, hy1⟩ := slice_from b off (k :: t).length c 1 .i64 (by simp) hc
  have hyt := hy1 w _ _ rfl hy
  rw [List.drop_one, List.tail_cons] at hyt
  replace hs1 : ∀ w, (Instr.slice 26 (.slice (some ⟨b, off, none⟩) (t.length + 1) c) (some (.int .i64 1)) none none).run Tryd.prog w = .ok (.slice (some ⟨b, o1, none⟩) t.length (c - 1)) w := hs1
  rw [List.length_cons] at hm hc ⊢
  have hct : t.length ≤ c - 1 := by omega
  have HLT : Hid (LiesS w b (.slice (some ⟨b, o1, none⟩) t.length (c - 1)) t) := ⟨o1, _, rfl, hct, hyt⟩
  have HKC : Hid (∀ x : LatB w T fn gn, x.1.cell? ⟨b, off, none⟩ = some (.int .u8 k.toNat)) := fun x => (x.2.below.cell (p := ⟨b, off, none⟩) hbl).trans ck
  generalize c - 1 = c1 at *
  have hn1 : (0 : Int) < (t.length : Int) + 1 := by omega
  have hn2 : ((t.length : Int) + 1 == 0) = false := by rw [beq_eq_false_iff_ne]; omega
  clear hy hcl ck hy1
  have hku := k.toNat_lt
  have hkw : IntKind.i64.wrap (k.toNat : Int) = (k.toNat : Int) := by rw [IntWalk.i64_in _ (by omega)]
  subst hk0
  have hr : rVal f (0 :: t) = some (⟨0, 0, ⟨#[]⟩⟩, 1) := rfl
  rw [hr]
  go_enter Tryd.func32, Tryd.ntmps32
  go_wp2_with fail
  have HNE : Nonempty (LatB w T fn gn) := ⟨⟨_, H0.out⟩⟩
  have ck := HKC.out
  simp only [show ((0 : UInt8).toNat : Int) = 0 from rfl] at ck
  refine wp_region_class (fun w' => ∃ x : LatB w T fn gn, w' = x.1) (by kernel_rfl) (by kernel_rfl) ⟨⟨_, H0.out.drew⟩, rfl⟩ ?_
  repeat (go_big_quiet_step (fail))
  refine wpQuiet_nil ?_
  rintro W2 ⟨⟨_, h2⟩, rfl⟩
  have H2 := Lib.hid h2
  obtain ⟨f0, f1, f2⟩ := h2.free
  obtain ⟨g0, g1, g2⟩ := h2.cells
  clear ck h2 HNE
  go_wp2_with fail
  exact bodyPost_ret (v := .tuple #[.agg #[.int .i64 0, .int .i64 0, .string ⟨#[]⟩], .slice (some ⟨b, o1, none⟩) t.length c1, .bool true]) (by simp [results, Tryd.results32, go_sem, g0, g1, g2]) rfl ⟨Below.set3' H2.out.below (by omega) _ _ _, _, b, off, rfl, rfl, by rw [List.drop_one]; exact HLT.out.later (Below.set3' H2.out.below (by omega) _ _ _)⟩
set_option maxRecDepth 100000 in
set_option maxHeartbeats 4000000 in
theorem read_bool (T : Int) (fn gn : Nat) (f : Bool) (k : UInt8) (hk1 : k = 1) (t : List UInt8) (A : Option Addr) (c : Nat) (w : World) (hy : BytesAt w w.heap.size A (k :: t)) (hc : (k :: t).length ≤ c) (hm : (k :: t).length ≤ 1000000) :
    Calls Tryd.prog 32 #[.agg #[.int .u64 T, .func (.func fn) #[] #[], .func (.func gn) #[] #[]], .slice A (k :: t).length c] w (GaveV w A (rVal f (k :: t)) (k :: t)) := by
  have H0 := Lib.hid (Boxes.new w T fn gn)
  obtain ⟨b, off, rfl, hbl, hcl⟩ := hy (by simp)
  have ck := hcl 0 (by simp)
  simp only [List.getElem_cons_zero, Nat.add_zero] at ck
  obtain ⟨o1, hs1, hy1⟩ := slice_from b off (k :: t).length c 1 .i64 (by simp) hc
  have hyt := hy1 w _ _ rfl hy
  rw [List.drop_one, List.tail_cons] at hyt
  replace hs1 : ∀ w, (Instr.slice 26 (.slice (some ⟨b, off, none⟩) (t.length + 1) c) (some (.int .i64 1)) none none).run Tryd.prog w = .ok (.slice (some ⟨b, o1, none⟩) t.length (c - 1)) w := hs1
  rw [List.length_cons] at hm hc ⊢
  have hct : t.length ≤ c - 1 := by omega
  have HLT : Hid (LiesS w b (.slice (some ⟨b, o1, none⟩) t.length (c - 1)) t) := ⟨o1, _, rfl, hct, hyt⟩
  have HKC : Hid (∀ x : LatB w T fn gn, x.1.cell? ⟨b, off, none⟩ = some (.int .u8 k.toNat)) := fun x => (x.2.below.cell (p := ⟨b, off, none⟩) hbl).trans ck
  generalize c - 1 = c1 at *
  have hn1 : (0 : Int) < (t.length : Int) + 1 := by omega
  have hn2 : ((t.length : Int) + 1 == 0) = false := by rw [beq_eq_false_iff_ne]; omega
  clear hy hcl ck hy1
  have hku := k.toNat_lt
  have hkw : IntKind.i64.wrap (k.toNat : Int) = (k.toNat : Int) := by rw [IntWalk.i64_in _ (by omega)]
  subst hk1
  have hr : rVal f (1 :: t) = if 0 < t.length ∧ (t.getD 0 0).toNat ≤ 1 then some (⟨1, (t.getD 0 0).toNat, ⟨#[]⟩⟩, 2) else none := rfl
  rw [hr]
  cases t with
  | nil =>
    rw [if_neg (by simp)]
    simp only [List.length_nil] at *
    go_enter Tryd.func32, Tryd.ntmps32
    go_wp2_with fail
    have HNE : Nonempty (LatB w T fn gn) := ⟨⟨_, H0.out⟩⟩
    have ck := HKC.out
    simp only [show ((1 : UInt8).toNat : Int) = 1 from rfl] at ck
    refine wp_region_class (fun w' => ∃ x : LatB w T fn gn, w' = x.1) (by kernel_rfl) (by kernel_rfl) ⟨⟨_, H0.out.drew⟩, rfl⟩ ?_
    repeat (go_big_quiet_step (fail))
    refine wpQuiet_nil ?_
    rintro W2 ⟨⟨_, h2⟩, rfl⟩
    have H2 := Lib.hid h2
    obtain ⟨f0, f1, f2⟩ := h2.free
    obtain ⟨g0, g1, g2⟩ := h2.cells
    clear ck h2 HNE
    go_wp2_with fail
    exact bodyPost_ret (v := .tuple #[.agg #[.int .i64 0, .int .i64 0, .string ⟨#[]⟩], .slice none 0 0, .bool false]) (by simp [results, Tryd.results32, go_sem, g0, g1, g2]) rfl ⟨Below.set3' H2.out.below (by omega) _ _ _, rfl⟩
  | cons x t =>
    obtain ⟨b2, off2, hA2, -, hcx⟩ := hyt (by simp)
    simp at hA2
    obtain ⟨rfl, rfl⟩ := hA2
    have cx := hcx 0 (by simp)
    simp only [List.getElem_cons_zero, Nat.add_zero] at cx
    obtain ⟨o2, hs2, hy2⟩ := slice_from b o1 (x :: t).length c1 1 .i64 (by simp) hct
    have hyt2 := hy2 w _ _ rfl hyt
    rw [List.drop_one, List.tail_cons] at hyt2
    rw [List.length_cons] at hs1 hct hs2 HLT hn1 hn2 hm hc ⊢
    replace hs2 : ∀ w, (Instr.slice 26 (.slice (some ⟨b, o1, none⟩) (t.length + 1) c1) (some (.int .i64 1)) none none).run Tryd.prog w = .ok (.slice (some ⟨b, o2, none⟩) t.length (c1 - 1)) w := hs2
    have hct2 : t.length ≤ c1 - 1 := by omega
    have HLT2 : Hid (LiesS w b (.slice (some ⟨b, o2, none⟩) t.length (c1 - 1)) t) := ⟨o2, _, rfl, hct2, hyt2⟩
    generalize c1 - 1 = c2 at *
    have HCX := Lib.hid cx
    clear hcx cx hy2 hyt hyt2 HLT
    have hxu := x.toNat_lt
    have hn3 : (0 : Int) < (t.length : Int) + 1 := by omega
    by_cases hx1 : x.toNat ≤ 1
    · rw [if_pos ⟨by simp, by simpa using hx1⟩]
      simp only [List.getD_cons_zero]
      have hx2 : (x.toNat : Int) ≤ 1 := by omega
      have hxw : IntKind.i64.wrap (x.toNat : Int) = (x.toNat : Int) := by rw [IntWalk.i64_in _ (by omega)]
      go_enter Tryd.func32, Tryd.ntmps32
      go_wp2_with fail
      have HNE : Nonempty (LatB w T fn gn) := ⟨⟨_, H0.out⟩⟩
      have ck := HKC.out
      simp only [show ((1 : UInt8).toNat : Int) = 1 from rfl] at ck
      refine wp_region_class (fun w' => ∃ x : LatB w T fn gn, w' = x.1) (by kernel_rfl) (by kernel_rfl) ⟨⟨_, H0.out.drew⟩, rfl⟩ ?_
      repeat (go_big_quiet_step (fail))
      refine wpQuiet_nil ?_
      rintro W2 ⟨⟨_, h2⟩, rfl⟩
      have H2 := Lib.hid h2
      obtain ⟨f0, f1, f2⟩ := h2.free
      obtain ⟨g0, g1, g2⟩ := h2.cells
      have cx := (h2.below.cell (p := ⟨b, o1, none⟩) hbl).trans HCX.out
      clear ck h2 HNE
      generalize (x.toNat : Int) = xn at *
      go_wp2_with fail
      go_region
      go_wp2_with fail
      exact bodyPost_ret (v := .tuple #[.agg #[.int .i64 1, .int .i64 xn, .string ⟨#[]⟩], .slice (some ⟨b, o2, none⟩) t.length c2, .bool true]) (by simp [results, Tryd.results32, go_sem, g0, g1, g2]) rfl ⟨Below.set3' H2.out.below.drew (by omega) _ _ _, _, b, off, rfl, rfl, HLT2.out.later (Below.set3' H2.out.below.drew (by omega) _ _ _)⟩
    · rw [if_neg (fun h => hx1 (by simpa using h.2))]
      have hx2 : ¬ ((x.toNat : Int) ≤ 1) := by omega
      go_enter Tryd.func32, Tryd.ntmps32
      go_wp2_with fail
      have HNE : Nonempty (LatB w T fn gn) := ⟨⟨_, H0.out⟩⟩
      have ck := HKC.out
      simp only [show ((1 : UInt8).toNat : Int) = 1 from rfl] at ck
      refine wp_region_class (fun w' => ∃ x : LatB w T fn gn, w' = x.1) (by kernel_rfl) (by kernel_rfl) ⟨⟨_, H0.out.drew⟩, rfl⟩ ?_
      repeat (go_big_quiet_step (fail))
      refine wpQuiet_nil ?_
      rintro W2 ⟨⟨_, h2⟩, rfl⟩
      have H2 := Lib.hid h2
      obtain ⟨f0, f1, f2⟩ := h2.free
      obtain ⟨g0, g1, g2⟩ := h2.cells
      have cx := (h2.below.cell (p := ⟨b, o1, none⟩) hbl).trans HCX.out
      clear ck h2 HNE
      generalize (x.toNat : Int) = xn at *
      go_wp2_with fail
      exact bodyPost_ret (v := .tuple #[.agg #[.int .i64 0, .int .i64 0, .string ⟨#[]⟩], .slice none 0 0, .bool false]) (by simp [results, Tryd.results32, go_sem, g0, g1, g2]) rfl ⟨Below.set3' H2.out.below (by omega) _ _ _, rfl⟩
end Go.Proofs.YtnpemegklndegaaDoor
