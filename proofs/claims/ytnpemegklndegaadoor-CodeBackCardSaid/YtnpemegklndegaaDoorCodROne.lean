/- Contract of the reference's one: a value out of bytes, and how many bytes it has; 0, if there is none. Condition: no more than a million bytes. -/
import Derived.Test.YtnpemegklndegaaDoorCodUnk
namespace Go.Proofs.YtnpemegklndegaaDoor
open Go.RowKit
def oneOf (l : List UInt8) : V × Nat := (rVal false l).getD (zeroV, 0)
def GaveO (w : World) (p : V × Nat) (e : Ending) (w' : World) : Prop := e = .returned (.tuple #[valV p.1, .int .i64 (p.2 : Nat)]) ∧ Below w.heap.size w w'
theorem slice_mid (b off n c lo hi : Nat) (kd kd' : IntKind) (h1 : lo ≤ hi) (h2 : hi ≤ n) (hn : n ≤ c) : ∃ o', (∀ w, (Instr.slice 26 (.slice (some ⟨b, off, none⟩) n c) (some (.int kd lo)) (some (.int kd' hi)) none).run Tryd.prog w = .ok (.slice (some ⟨b, o', none⟩) (hi - lo) (c - lo)) w) ∧ ∀ w B l, l.length = n → BytesAt w B (some ⟨b, off, none⟩) l → BytesAt w B (some ⟨b, o', none⟩) ((l.drop lo).take (hi - lo)) := by
  by_cases h : c = lo
  · obtain rfl : hi = lo := by omega
    subst h
    refine ⟨off, fun w => ?_, fun w B l hl _ => ?_⟩
    · go_light
      simp [go_sem]
    · rw [Nat.sub_self, List.take_zero]
      exact BytesAt.nil _ _ _
  · refine ⟨off + lo, fun w => ?_, fun w B l _ hy => (hy.drop lo).take _⟩
    go_light
    have h3 : ¬ ((hi : Int) < lo) := by omega
    simp [go_sem, h]
    rw [if_pos (by omega), if_pos h1]
theorem mkBool (x : Bool) (w : World) : Calls Tryd.prog 44 #[.bool x] w fun e w' => e = .returned (.agg #[.int .i64 1, .int .i64 (if x then 1 else 0), .string ⟨#[]⟩]) ∧ Below w.heap.size w w' := by
  cases x
  · go_enter Tryd.func44, Tryd.ntmps44
    go_wp2
    exact bodyPost_ret (v := .agg #[.int .i64 1, .int .i64 0, .string ⟨#[]⟩]) (by simp [results, Tryd.results44, go_sem]) rfl ⟨rfl, (Below.refl _ w).alloc (Nat.le_refl _) _⟩
  · go_enter Tryd.func44, Tryd.ntmps44
    go_wp2
    exact bodyPost_ret (v := .agg #[.int .i64 1, .int .i64 1, .string ⟨#[]⟩]) (by simp [results, Tryd.results44, go_sem]) rfl ⟨rfl, (Below.refl _ w).alloc (Nat.le_refl _) _⟩
theorem newBox (w : World) : (w.alloc (b3 ⟨0, 0, ⟨#[]⟩⟩ 43)).heap[w.heap.size]? = some (b3 ⟨0, 0, ⟨#[]⟩⟩ 43) := heap_alloc_new w _
theorem box_free {w : World} {b : Nat} {v : V} {T : TypeId} (h : w.heap[b]? = some (b3 v T)) : w.frozen? ⟨b, 0, none⟩ = false ∧ w.frozen? ⟨b, 1, none⟩ = false ∧ w.frozen? ⟨b, 2, none⟩ = false := ⟨Lib.frozen_of_heap h 0, Lib.frozen_of_heap h 1, Lib.frozen_of_heap h 2⟩
set_option maxRecDepth 100000 in
set_option maxHeartbeats 1000000 in
theorem rone_nil (A : Option Addr) (c : Nat) (w : World) : Calls Tryd.prog 33 #[.slice A 0 c] w (GaveO w (oneOf [])) := by
  show Calls Tryd.prog 33 #[.slice A 0 c] w (GaveO w (zeroV, 0))
  obtain ⟨f0, f1, f2⟩ := box_free (newBox w)
  obtain ⟨g0, g1, g2⟩ := b3_cells (newBox w)
  unfold b3 at *
  go_enter Tryd.func33, Tryd.ntmps33
  go_wp2_with fail
  exact bodyPost_ret (v := .tuple #[.agg #[.int .i64 0, .int .i64 0, .string ⟨#[]⟩], .int .i64 0]) (by simp [results, Tryd.results33, go_sem, g0, g1, g2]) rfl ⟨rfl, (Below.refl _ w).alloc (Nat.le_refl _) _⟩
set_option maxRecDepth 100000 in
set_option maxHeartbeats 2000000 in
theorem rone_null (k : UInt8) (hk0 : k = 0) (t : List UInt8) (A : Option Addr) (c : Nat) (w : World) (hy : BytesAt w w.heap.size A (k :: t)) (hc : (k :: t).length ≤ c) (hm : (k :: t).length ≤ 1000000) :
    Calls Tryd.prog 33 #[.slice A (k :: t).length c] w (GaveO w (oneOf (k :: t))) := by
  have HBX := Lib.hid (newBox w)
  have HBW := Lib.hid ((Below.refl _ w).alloc (Nat.le_refl _) (b3 ⟨0, 0, ⟨#[]⟩⟩ 43))
  have HY := Lib.hid hy
  obtain ⟨b, off, rfl, hbl, hcl⟩ := hy (by simp)
  have ck := (HBW.out.cell (p := ⟨b, off + 0, none⟩) hbl).trans (hcl 0 (by simp))
  simp only [List.getElem_cons_zero, Nat.add_zero] at ck
  obtain ⟨f0, f1, f2⟩ := box_free (newBox w)
  obtain ⟨g0, g1, g2⟩ := b3_cells (newBox w)
  have hku := k.toNat_lt
  have hkw : IntKind.i64.wrap (k.toNat : Int) = (k.toNat : Int) := by rw [IntWalk.i64_in _ (by omega)]
  subst hk0
  simp only [show ((0 : UInt8).toNat : Int) = 0 from rfl] at ck hkw
  rw [List.length_cons] at hm hc ⊢
  have hn1 : ¬ ((t.length : Int) + 1 = 0) := by omega
  have hn2 : ((t.length : Int) + 1 == 0) = false := by rw [beq_eq_false_iff_ne]; omega
  have hn3 : (0 : Int) < (t.length : Int) + 1 := by omega
  show Calls _ _ _ _ (GaveO w (zeroV, 1))
  clear hcl
  generalize t.length = q at *
  unfold b3 at *
  go_enter Tryd.func33, Tryd.ntmps33
  go_wp2_with fail
  exact bodyPost_ret (v := .tuple #[.agg #[.int .i64 0, .int .i64 0, .string ⟨#[]⟩], .int .i64 1]) (by simp [results, Tryd.results33, go_sem, g0, g1, g2]) rfl ⟨rfl, HBW.out⟩
set_option maxRecDepth 100000 in
set_option maxHeartbeats 2000000 in
theorem rone_bool (k : UInt8) (hk1 : k = 1) (t : List UInt8) (A : Option Addr) (c : Nat) (w : World) (hy : BytesAt w w.heap.size A (k :: t)) (hc : (k :: t).length ≤ c) (hm : (k :: t).length ≤ 1000000) :
    Calls Tryd.prog 33 #[.slice A (k :: t).length c] w (GaveO w (oneOf (k :: t))) := by
  have HBX := Lib.hid (newBox w)
  have HBW := Lib.hid ((Below.refl _ w).alloc (Nat.le_refl _) (b3 ⟨0, 0, ⟨#[]⟩⟩ 43))
  have HY := Lib.hid hy
  obtain ⟨b, off, rfl, hbl, hcl⟩ := hy (by simp)
  have ck := (HBW.out.cell (p := ⟨b, off + 0, none⟩) hbl).trans (hcl 0 (by simp))
  simp only [List.getElem_cons_zero, Nat.add_zero] at ck
  obtain ⟨f0, f1, f2⟩ := box_free (newBox w)
  obtain ⟨g0, g1, g2⟩ := b3_cells (newBox w)
  have hku := k.toNat_lt
  have hkw : IntKind.i64.wrap (k.toNat : Int) = (k.toNat : Int) := by rw [IntWalk.i64_in _ (by omega)]
  subst hk1
  simp only [show ((1 : UInt8).toNat : Int) = 1 from rfl] at ck hkw
  have hr : oneOf (1 :: t) = (if 0 < t.length ∧ (t.getD 0 0).toNat ≤ 1 then some ((⟨1, (t.getD 0 0).toNat, ⟨#[]⟩⟩ : V), 2) else none).getD (zeroV, 0) := rfl
  cases t with
  | nil =>
    rw [hr, if_neg (by simp)]
    show Calls _ _ _ _ (GaveO w (zeroV, 0))
    simp only [List.length_cons, List.length_nil, Nat.zero_add] at *
    clear hcl
    unfold b3 at *
    go_enter Tryd.func33, Tryd.ntmps33
    go_wp2_with fail
    exact bodyPost_ret (v := .tuple #[.agg #[.int .i64 0, .int .i64 0, .string ⟨#[]⟩], .int .i64 0]) (by simp [results, Tryd.results33, go_sem, g0, g1, g2]) rfl ⟨rfl, HBW.out⟩
  | cons x t =>
    have cx := (HBW.out.cell (p := ⟨b, off + 1, none⟩) hbl).trans (hcl 1 (by simp))
    simp only [List.getElem_cons_succ, List.getElem_cons_zero] at cx
    rw [hr, List.length_cons, List.length_cons] at *
    simp only [List.getD_cons_zero]
    have hn1 : ¬ ((t.length : Int) + 1 + 1 = 0) := by omega
    have hn2 : ((t.length : Int) + 1 + 1 == 0) = false := by rw [beq_eq_false_iff_ne]; omega
    have hn3 : (0 : Int) < (t.length : Int) + 1 + 1 := by omega
    have hn4 : (t.length : Int) + 1 + 1 > 1 := by omega
    have hn5 : (1 : Int) < (t.length : Int) + 1 + 1 := by omega
    have hxu := x.toNat_lt
    clear hcl hr
    generalize t.length = q at *
    by_cases hx : x.toNat ≤ 1
    · rw [if_pos ⟨by omega, hx⟩]
      have hx2 : (x.toNat : Int) < 2 := by omega
      have hxb : ((x.toNat : Int) == 1) = decide (x.toNat = 1) := by rw [Bool.eq_iff_iff, beq_iff_eq, decide_eq_true_iff]; omega
      have HE : Hid ((if decide (x.toNat = 1) = true then 1 else 0 : Int) = (x.toNat : Int)) := by show _ = _; by_cases h : x.toNat = 1 <;> simp [h]; omega
      generalize decide (x.toNat = 1) = d at *
      show Calls _ _ _ _ (GaveO w (⟨1, x.toNat, ⟨#[]⟩⟩, 2))
      unfold b3 at *
      generalize hxn : (x.toNat : Int) = xn at *
      go_enter Tryd.func33, Tryd.ntmps33
      go_wp2_with fail
      refine (mkBool d _).mono ?_
      rintro e w2 ⟨rfl, hb2⟩
      rw [HE.out]
      have HX2 : Hid (w2.heap[w.heap.size]? = some (b3 ⟨0, 0, ⟨#[]⟩⟩ 43)) := (hb2.block _ (by simp)).trans HBX.out
      have HBW2 := Lib.hid (HBW.out.trans (hb2.mono (by simp)))
      obtain ⟨f0, f1, f2⟩ := box_free HX2.out
      obtain ⟨g0, g1, g2⟩ := b3_cells HX2.out
      go_wp2_with fail
      exact bodyPost_ret (v := .tuple #[.agg #[.int .i64 1, .int .i64 xn, .string ⟨#[]⟩], .int .i64 2]) (by simp [results, Tryd.results33, go_sem, g0, g1, g2]) rfl ⟨by rw [← hxn]; rfl, Below.set3' HBW2.out (Nat.le_refl _) _ _ _⟩
    · rw [if_neg (fun h => hx h.2)]
      have hx2 : ¬ ((x.toNat : Int) < 2) := by omega
      show Calls _ _ _ _ (GaveO w (zeroV, 0))
      unfold b3 at *
      generalize (x.toNat : Int) = xn at *
      go_enter Tryd.func33, Tryd.ntmps33
      go_wp2_with fail
      exact bodyPost_ret (v := .tuple #[.agg #[.int .i64 0, .int .i64 0, .string ⟨#[]⟩], .int .i64 0]) (by simp [results, Tryd.results33, go_sem, g0, g1, g2]) rfl ⟨rfl, HBW.out⟩
set_option maxRecDepth 100000 in
set_option maxHeartbeats 2000000 in
theorem rone_int (k : UInt8) (hk2 : k = 2) (t : List UInt8) (A : Option Addr) (c : Nat) (w : World) (hy : BytesAt w w.heap.size A (k :: t)) (hc : (k :: t).length ≤ c) (hm : (k :: t).length ≤ 1000000) :
    Calls Tryd.prog 33 #[.slice A (k :: t).length c] w (GaveO w (oneOf (k :: t))) := by
  have HBX := Lib.hid (newBox w)
  have HBW := Lib.hid ((Below.refl _ w).alloc (Nat.le_refl _) (b3 ⟨0, 0, ⟨#[]⟩⟩ 43))
  have HY := Lib.hid hy
  obtain ⟨b, off, rfl, hbl, hcl⟩ := hy (by simp)
  have ck := (HBW.out.cell (p := ⟨b, off + 0, none⟩) hbl).trans (hcl 0 (by simp))
  simp only [List.getElem_cons_zero, Nat.add_zero] at ck
  obtain ⟨f0, f1, f2⟩ := box_free (newBox w)
  obtain ⟨g0, g1, g2⟩ := b3_cells (newBox w)
  have hku := k.toNat_lt
  have hkw : IntKind.i64.wrap (k.toNat : Int) = (k.toNat : Int) := by rw [IntWalk.i64_in _ (by omega)]
  subst hk2
  simp only [show ((2 : UInt8).toNat : Int) = 2 from rfl] at ck hkw
  rw [List.length_cons] at hm hc ⊢
  have hn1 : ¬ ((t.length : Int) + 1 = 0) := by omega
  have hn2 : ((t.length : Int) + 1 == 0) = false := by rw [beq_eq_false_iff_ne]; omega
  have hn3 : (0 : Int) < (t.length : Int) + 1 := by omega
  have hr : oneOf (2 :: t) = (if 8 ≤ t.length then some ((⟨2, ofU (trn false (unbe (t.take 8))), ⟨#[]⟩⟩ : V), 9) else none).getD (zeroV, 0) := rfl
  rw [hr]
  by_cases h8 : 8 ≤ t.length
  · rw [if_pos h8]
    have h8' : (t.length : Int) + 1 > 8 := by omega
    obtain ⟨o1, hs1, hy1⟩ := slice_mid b off (t.length + 1) c 1 9 .i64 .i64 (by omega) (by omega) hc
    replace hs1 : ∀ w, (Instr.slice 26 (.slice (some ⟨b, off, none⟩) (t.length + 1) c) (some (.int .i64 1)) (some (.int .i64 9)) none).run Tryd.prog w = .ok (.slice (some ⟨b, o1, none⟩) 8 (c - 1)) w := hs1
    have hyb := hy1 _ _ _ rfl (HY.out.later HBW.out)
    rw [List.drop_one, List.tail_cons, show (9 - 1 : Nat) = 8 from rfl] at hyb
    have h8l : (t.take 8).length = 8 := by rw [List.length_take]; omega
    have hbk := back_any (t.take 8) _ (c - 1) (w.alloc (b3 ⟨0, 0, ⟨#[]⟩⟩ 43)) hyb (by omega)
    rw [h8l] at hbk
    have hul := unbe_lt (t.take 8)
    rw [h8l] at hul
    rw [Option.getD_some]
    have hwr := ofU_wrap (unbe (t.take 8)) (by omega)
    rw [trn_no]
    clear hcl hr hyb hy1 h8l h8
    generalize unbe (t.take 8) = m at *
    generalize t.length = q at *
    unfold b3 at *
    have HBK := Lib.hid hbk
    clear hbk
    generalize ofU m = om at *
    go_enter Tryd.func33, Tryd.ntmps33
    go_wp2_with fail
    refine HBK.out.mono ?_
    rintro e w1 ⟨rfl, hb1⟩
    go_wp2_with fail
    refine (mkInt om _).mono ?_
    rintro e w2 ⟨rfl, hb2⟩
    have hb12 := bthen hb1 hb2
    have HX2 : Hid (w2.heap[w.heap.size]? = some (b3 ⟨0, 0, ⟨#[]⟩⟩ 43)) := (hb12.block _ (by simp)).trans HBX.out
    have HBW2 := Lib.hid (HBW.out.trans (hb12.mono (by simp)))
    obtain ⟨f0, f1, f2⟩ := box_free HX2.out
    obtain ⟨g0, g1, g2⟩ := b3_cells HX2.out
    go_wp2_with fail
    exact bodyPost_ret (v := .tuple #[.agg #[.int .i64 2, .int .i64 om, .string ⟨#[]⟩], .int .i64 9]) (by simp [results, Tryd.results33, go_sem, g0, g1, g2]) rfl ⟨rfl, Below.set3' HBW2.out (Nat.le_refl _) _ _ _⟩
  · rw [if_neg h8]
    have h8' : ¬ ((t.length : Int) + 1 > 8) := by omega
    show Calls _ _ _ _ (GaveO w (zeroV, 0))
    clear hcl hr
    generalize t.length = q at *
    unfold b3 at *
    go_enter Tryd.func33, Tryd.ntmps33
    go_wp2_with fail
    exact bodyPost_ret (v := .tuple #[.agg #[.int .i64 0, .int .i64 0, .string ⟨#[]⟩], .int .i64 0]) (by simp [results, Tryd.results33, go_sem, g0, g1, g2]) rfl ⟨rfl, HBW.out⟩
set_option maxRecDepth 100000 in
set_option maxHeartbeats 2000000 in
theorem rone_txt3 (k : UInt8) (hk3 : k = 3) (t : List UInt8) (A : Option Addr) (c : Nat) (w : World) (hy : BytesAt w w.heap.size A (k :: t)) (hc : (k :: t).length ≤ c) (hm : (k :: t).length ≤ 1000000) :
    Calls Tryd.prog 33 #[.slice A (k :: t).length c] w (GaveO w (oneOf (k :: t))) := by
  have HBX := Lib.hid (newBox w)
  have HBW := Lib.hid ((Below.refl _ w).alloc (Nat.le_refl _) (b3 ⟨0, 0, ⟨#[]⟩⟩ 43))
  have HY := Lib.hid hy
  obtain ⟨b, off, rfl, hbl, hcl⟩ := hy (by simp)
  have ck := (HBW.out.cell (p := ⟨b, off + 0, none⟩) hbl).trans (hcl 0 (by simp))
  simp only [List.getElem_cons_zero, Nat.add_zero] at ck
  obtain ⟨f0, f1, f2⟩ := box_free (newBox w)
  obtain ⟨g0, g1, g2⟩ := b3_cells (newBox w)
  have hku := k.toNat_lt
  have hkw : IntKind.i64.wrap (k.toNat : Int) = (k.toNat : Int) := by rw [IntWalk.i64_in _ (by omega)]
  subst hk3
  simp only [show ((3 : UInt8).toNat : Int) = 3 from rfl] at ck hkw
  rw [List.length_cons] at hm hc ⊢
  have hn1 : ¬ ((t.length : Int) + 1 = 0) := by omega
  have hn2 : ((t.length : Int) + 1 == 0) = false := by rw [beq_eq_false_iff_ne]; omega
  have hn3 : (0 : Int) < (t.length : Int) + 1 := by omega
  have hr : oneOf (3 :: t) = ((rTxt false t).map fun p => ((⟨3, 0, ⟨p.1.toArray⟩⟩ : V), 1 + p.2)).getD (zeroV, 0) := rfl
  have hrt : rTxt false t = if 4 ≤ t.length ∧ unbe (t.take 4) ≤ 2147483647 ∧ unbe (t.take 4) ≤ t.length - 4 then some ((t.drop 4).take (unbe (t.take 4)), 4 + unbe (t.take 4)) else none := rfl
  rw [hr, hrt]
  clear hr hrt
  by_cases h4 : 4 ≤ t.length
  · have h4' : ¬ ((t.length : Int) + 1 < 5) := by omega
    obtain ⟨o1, hs1, hy1⟩ := slice_mid b off (t.length + 1) c 1 5 .i64 .i64 (by omega) (by omega) hc
    replace hs1 : ∀ w, (Instr.slice 26 (.slice (some ⟨b, off, none⟩) (t.length + 1) c) (some (.int .i64 1)) (some (.int .i64 5)) none).run Tryd.prog w = .ok (.slice (some ⟨b, o1, none⟩) 4 (c - 1)) w := hs1
    have hyb := hy1 _ _ _ rfl (HY.out.later HBW.out)
    rw [List.drop_one, List.tail_cons] at hyb
    have h4l : (t.take (5 - 1)).length = 4 := by rw [List.length_take]; omega
    have hbk := back_any (t.take (5 - 1)) _ (c - 1) (w.alloc (b3 ⟨0, 0, ⟨#[]⟩⟩ 43)) hyb (by omega)
    rw [h4l] at hbk
    have hul := unbe_lt (t.take (5 - 1))
    rw [h4l] at hul
    have HBK := Lib.hid hbk
    rw [show (4 : Nat) = 5 - 1 from rfl]
    by_cases hc2 : unbe (t.take (5 - 1)) ≤ 2147483647 ∧ unbe (t.take (5 - 1)) ≤ t.length - (5 - 1)
    · rw [if_pos ⟨by omega, hc2.1, hc2.2⟩]
      obtain ⟨q1, q2⟩ := hc2
      obtain ⟨o2, hs2, hy2⟩ := slice_mid b off (t.length + 1) c 5 (5 + unbe (t.take (5 - 1))) .i64 .u64 (by omega) (by omega) hc
      have hys := hy2 w _ _ rfl HY.out
      rw [Nat.add_sub_cancel_left] at hys hs2
      have HYS := Lib.hid hys
      have hsl : ((((3 :: t).drop 5).take (unbe (t.take (5 - 1)))).length) = unbe (t.take (5 - 1)) := by rw [List.length_take, List.length_drop, List.length_cons]; omega
      have HSL := Lib.hid hsl
      show Calls _ _ _ _ (GaveO w (⟨3, 0, ⟨((t.drop (5 - 1)).take (unbe (t.take (5 - 1)))).toArray⟩⟩, 1 + (5 - 1 + unbe (t.take (5 - 1)))))
      have HTX : Hid ((t.drop (5 - 1)).take (unbe (t.take (5 - 1))) = (((3 :: t).drop 5).take (unbe (t.take (5 - 1))))) := rfl
      rw [HTX.out, show 1 + (5 - 1 + unbe (t.take (5 - 1))) = 5 + unbe (t.take (5 - 1)) by omega]
      clear hys hsl hy1 hy2 hyb hbk h4l hcl h4 HTX
      generalize (((3 :: t).drop 5).take (unbe (t.take (5 - 1)))) = S at *
      generalize unbe (t.take (5 - 1)) = m at *
      generalize t.length = q at *
      have q3 : (m : Int) ≤ 2147483647 := by omega
      have w1 : IntKind.i64.wrap ((q : Int) + 1 - 5) = ((q - 4 : Nat) : Int) := by rw [IntWalk.i64_in _ (by omega)]; omega
      have w2 : IntKind.u64.wrap (((q - 4 : Nat) : Int)) = ((q - 4 : Nat) : Int) := by rw [IntKind.wrap_u64]; omega
      have w3 : (m : Int) ≤ ((q - 4 : Nat) : Int) := by omega
      have w4 : IntKind.u64.wrap (5 + (m : Int)) = 5 + (m : Int) := by rw [IntKind.wrap_u64]; omega
      have w5 : IntKind.i64.wrap (m : Int) = (m : Int) := IntWalk.i64_in _ (by omega)
      have w6 : IntKind.i64.wrap (5 + (m : Int)) = 5 + (m : Int) := IntWalk.i64_in _ (by omega)
      have w7 : IntKind.u64.wrap ((q : Int) + 1 - 5) = ((q - 4 : Nat) : Int) := by rw [IntKind.wrap_u64]; omega
      replace hs2 : ∀ w, (Instr.slice 26 (.slice (some ⟨b, off, none⟩) (q + 1) c) (some (.int .i64 5)) (some (.int .u64 (5 + (m : Int)))) none).run Tryd.prog w = .ok (.slice (some ⟨b, o2, none⟩) m (c - 5)) w := fun w => by
        have := hs2 w
        rwa [show ((5 + m : Nat) : Int) = 5 + (m : Int) by omega] at this
      unfold b3 at *
      go_enter Tryd.func33, Tryd.ntmps33
      go_wp2_with fail
      refine HBK.out.mono ?_
      clear f0 f1 f2 g0 g1 g2
      rintro e W1 ⟨rfl, hb1⟩
      have HX1 : Hid (W1.heap[w.heap.size]? = some (b3 ⟨0, 0, ⟨#[]⟩⟩ 43)) := (hb1.block _ (by simp)).trans HBX.out
      have HBW1 := Lib.hid (HBW.out.trans (hb1.mono (by simp)))
      obtain ⟨f0, f1, f2⟩ := box_free HX1.out
      obtain ⟨g0, g1, g2⟩ := b3_cells HX1.out
      have ck1 := (hb1.cell (p := ⟨b, off, none⟩) (by simp; omega)).trans ck
      have hcv := conv_at (c := c - 5) ((HYS.out.below HBW1.out.drew))
      rw [HSL.out] at hcv
      clear hb1 ck
      go_wp2_with fail
      go_region
      go_wp2_with fail
      exact bodyPost_ret (v := .tuple #[.agg #[.int .i64 3, .int .i64 0, .string ⟨S.toArray⟩], .int .i64 (5 + (m : Int))]) (by simp [results, Tryd.results33, go_sem, g0, g1, g2]) rfl ⟨rfl, Below.set3' HBW1.out.drew (Nat.le_refl _) _ _ _⟩
    · rw [if_neg (fun h => hc2 h.2)]
      show Calls _ _ _ _ (GaveO w (zeroV, 0))
      clear hy1 hyb hbk h4l hcl h4
      generalize unbe (t.take (5 - 1)) = m at *
      generalize t.length = q at *
      have w1 : IntKind.i64.wrap ((q : Int) + 1 - 5) = ((q - 4 : Nat) : Int) := by rw [IntWalk.i64_in _ (by omega)]; omega
      have w2 : IntKind.u64.wrap (((q - 4 : Nat) : Int)) = ((q - 4 : Nat) : Int) := by rw [IntKind.wrap_u64]; omega
      have w7 : IntKind.u64.wrap ((q : Int) + 1 - 5) = ((q - 4 : Nat) : Int) := by rw [IntKind.wrap_u64]; omega
      unfold b3 at *
      by_cases q1 : m ≤ 2147483647
      · have q2 : ¬ ((m : Int) ≤ ((q - 4 : Nat) : Int)) := by have : ¬ m ≤ q - (5 - 1) := fun h => hc2 ⟨q1, h⟩; omega
        have q3 : (m : Int) ≤ 2147483647 := by omega
        clear hc2 q1
        go_enter Tryd.func33, Tryd.ntmps33
        go_wp2_with fail
        refine HBK.out.mono ?_
        clear f0 f1 f2 g0 g1 g2
        rintro e W1 ⟨rfl, hb1⟩
        have HX1 : Hid (W1.heap[w.heap.size]? = some (b3 ⟨0, 0, ⟨#[]⟩⟩ 43)) := (hb1.block _ (by simp)).trans HBX.out
        have HBW1 := Lib.hid (HBW.out.trans (hb1.mono (by simp)))
        obtain ⟨f0, f1, f2⟩ := box_free HX1.out
        obtain ⟨g0, g1, g2⟩ := b3_cells HX1.out
        clear hb1
        go_wp2_with fail
        exact bodyPost_ret (v := .tuple #[.agg #[.int .i64 0, .int .i64 0, .string ⟨#[]⟩], .int .i64 0]) (by simp [results, Tryd.results33, go_sem, g0, g1, g2]) rfl ⟨rfl, Below.set3' HBW1.out (Nat.le_refl _) _ _ _⟩
      · have q3 : ¬ ((m : Int) ≤ 2147483647) := by omega
        clear hc2 q1
        go_enter Tryd.func33, Tryd.ntmps33
        go_wp2_with fail
        refine HBK.out.mono ?_
        clear f0 f1 f2 g0 g1 g2
        rintro e W1 ⟨rfl, hb1⟩
        have HX1 : Hid (W1.heap[w.heap.size]? = some (b3 ⟨0, 0, ⟨#[]⟩⟩ 43)) := (hb1.block _ (by simp)).trans HBX.out
        have HBW1 := Lib.hid (HBW.out.trans (hb1.mono (by simp)))
        obtain ⟨f0, f1, f2⟩ := box_free HX1.out
        obtain ⟨g0, g1, g2⟩ := b3_cells HX1.out
        clear hb1
        go_wp2_with fail
        exact bodyPost_ret (v := .tuple #[.agg #[.int .i64 0, .int .i64 0, .string ⟨#[]⟩], .int .i64 0]) (by simp [results, Tryd.results33, go_sem, g0, g1, g2]) rfl ⟨rfl, Below.set3' HBW1.out (Nat.le_refl _) _ _ _⟩
  · rw [if_neg (fun h => h4 h.1)]
    have h4' : (t.length : Int) + 1 < 5 := by omega
    show Calls _ _ _ _ (GaveO w (zeroV, 0))
    clear hcl
    generalize t.length = q at *
    unfold b3 at *
    go_enter Tryd.func33, Tryd.ntmps33
    go_wp2_with fail
    exact bodyPost_ret (v := .tuple #[.agg #[.int .i64 0, .int .i64 0, .string ⟨#[]⟩], .int .i64 0]) (by simp [results, Tryd.results33, go_sem, g0, g1, g2]) rfl ⟨rfl, HBW.out⟩
set_option maxRecDepth 100000 in
set_option maxHeartbeats 2000000 in
theorem rone_txt4 (k : UInt8) (hk3 : k = 4) (t : List UInt8) (A : Option Addr) (c : Nat) (w : World) (hy : BytesAt w w.heap.size A (k :: t)) (hc : (k :: t).length ≤ c) (hm : (k :: t).length ≤ 1000000) :
    Calls Tryd.prog 33 #[.slice A (k :: t).length c] w (GaveO w (oneOf (k :: t))) := by
  have HBX := Lib.hid (newBox w)
  have HBW := Lib.hid ((Below.refl _ w).alloc (Nat.le_refl _) (b3 ⟨0, 0, ⟨#[]⟩⟩ 43))
  have HY := Lib.hid hy
  obtain ⟨b, off, rfl, hbl, hcl⟩ := hy (by simp)
  have ck := (HBW.out.cell (p := ⟨b, off + 0, none⟩) hbl).trans (hcl 0 (by simp))
  simp only [List.getElem_cons_zero, Nat.add_zero] at ck
  obtain ⟨f0, f1, f2⟩ := box_free (newBox w)
  obtain ⟨g0, g1, g2⟩ := b3_cells (newBox w)
  have hku := k.toNat_lt
  have hkw : IntKind.i64.wrap (k.toNat : Int) = (k.toNat : Int) := by rw [IntWalk.i64_in _ (by omega)]
  subst hk3
  simp only [show ((4 : UInt8).toNat : Int) = 4 from rfl] at ck hkw
  rw [List.length_cons] at hm hc ⊢
  have hn1 : ¬ ((t.length : Int) + 1 = 0) := by omega
  have hn2 : ((t.length : Int) + 1 == 0) = false := by rw [beq_eq_false_iff_ne]; omega
  have hn3 : (0 : Int) < (t.length : Int) + 1 := by omega
  have hr : oneOf (4 :: t) = ((rTxt false t).map fun p => ((⟨4, 0, ⟨p.1.toArray⟩⟩ : V), 1 + p.2)).getD (zeroV, 0) := rfl
  have hrt : rTxt false t = if 4 ≤ t.length ∧ unbe (t.take 4) ≤ 2147483647 ∧ unbe (t.take 4) ≤ t.length - 4 then some ((t.drop 4).take (unbe (t.take 4)), 4 + unbe (t.take 4)) else none := rfl
  rw [hr, hrt]
  clear hr hrt
  by_cases h4 : 4 ≤ t.length
  · have h4' : ¬ ((t.length : Int) + 1 < 5) := by omega
    obtain ⟨o1, hs1, hy1⟩ := slice_mid b off (t.length + 1) c 1 5 .i64 .i64 (by omega) (by omega) hc
    replace hs1 : ∀ w, (Instr.slice 26 (.slice (some ⟨b, off, none⟩) (t.length + 1) c) (some (.int .i64 1)) (some (.int .i64 5)) none).run Tryd.prog w = .ok (.slice (some ⟨b, o1, none⟩) 4 (c - 1)) w := hs1
    have hyb := hy1 _ _ _ rfl (HY.out.later HBW.out)
    rw [List.drop_one, List.tail_cons] at hyb
    have h4l : (t.take (5 - 1)).length = 4 := by rw [List.length_take]; omega
    have hbk := back_any (t.take (5 - 1)) _ (c - 1) (w.alloc (b3 ⟨0, 0, ⟨#[]⟩⟩ 43)) hyb (by omega)
    rw [h4l] at hbk
    have hul := unbe_lt (t.take (5 - 1))
    rw [h4l] at hul
    have HBK := Lib.hid hbk
    rw [show (4 : Nat) = 5 - 1 from rfl]
    by_cases hc2 : unbe (t.take (5 - 1)) ≤ 2147483647 ∧ unbe (t.take (5 - 1)) ≤ t.length - (5 - 1)
    · rw [if_pos ⟨by omega, hc2.1, hc2.2⟩]
      obtain ⟨q1, q2⟩ := hc2
      obtain ⟨o2, hs2, hy2⟩ := slice_mid b off (t.length + 1) c 5 (5 + unbe (t.take (5 - 1))) .i64 .u64 (by omega) (by omega) hc
      have hys := hy2 w _ _ rfl HY.out
      rw [Nat.add_sub_cancel_left] at hys hs2
      have HYS := Lib.hid hys
      have hsl : ((((4 :: t).drop 5).take (unbe (t.take (5 - 1)))).length) = unbe (t.take (5 - 1)) := by rw [List.length_take, List.length_drop, List.length_cons]; omega
      have HSL := Lib.hid hsl
      show Calls _ _ _ _ (GaveO w (⟨4, 0, ⟨((t.drop (5 - 1)).take (unbe (t.take (5 - 1)))).toArray⟩⟩, 1 + (5 - 1 + unbe (t.take (5 - 1)))))
      have HTX : Hid ((t.drop (5 - 1)).take (unbe (t.take (5 - 1))) = (((4 :: t).drop 5).take (unbe (t.take (5 - 1))))) := rfl
      rw [HTX.out, show 1 + (5 - 1 + unbe (t.take (5 - 1))) = 5 + unbe (t.take (5 - 1)) by omega]
      clear hys hsl hy1 hy2 hyb hbk h4l hcl h4 HTX
      generalize (((4 :: t).drop 5).take (unbe (t.take (5 - 1)))) = S at *
      generalize unbe (t.take (5 - 1)) = m at *
      generalize t.length = q at *
      have q3 : (m : Int) ≤ 2147483647 := by omega
      have w1 : IntKind.i64.wrap ((q : Int) + 1 - 5) = ((q - 4 : Nat) : Int) := by rw [IntWalk.i64_in _ (by omega)]; omega
      have w2 : IntKind.u64.wrap (((q - 4 : Nat) : Int)) = ((q - 4 : Nat) : Int) := by rw [IntKind.wrap_u64]; omega
      have w3 : (m : Int) ≤ ((q - 4 : Nat) : Int) := by omega
      have w4 : IntKind.u64.wrap (5 + (m : Int)) = 5 + (m : Int) := by rw [IntKind.wrap_u64]; omega
      have w5 : IntKind.i64.wrap (m : Int) = (m : Int) := IntWalk.i64_in _ (by omega)
      have w6 : IntKind.i64.wrap (5 + (m : Int)) = 5 + (m : Int) := IntWalk.i64_in _ (by omega)
      have w7 : IntKind.u64.wrap ((q : Int) + 1 - 5) = ((q - 4 : Nat) : Int) := by rw [IntKind.wrap_u64]; omega
      replace hs2 : ∀ w, (Instr.slice 26 (.slice (some ⟨b, off, none⟩) (q + 1) c) (some (.int .i64 5)) (some (.int .u64 (5 + (m : Int)))) none).run Tryd.prog w = .ok (.slice (some ⟨b, o2, none⟩) m (c - 5)) w := fun w => by
        have := hs2 w
        rwa [show ((5 + m : Nat) : Int) = 5 + (m : Int) by omega] at this
      unfold b3 at *
      go_enter Tryd.func33, Tryd.ntmps33
      go_wp2_with fail
      refine HBK.out.mono ?_
      clear f0 f1 f2 g0 g1 g2
      rintro e W1 ⟨rfl, hb1⟩
      have HX1 : Hid (W1.heap[w.heap.size]? = some (b3 ⟨0, 0, ⟨#[]⟩⟩ 43)) := (hb1.block _ (by simp)).trans HBX.out
      have HBW1 := Lib.hid (HBW.out.trans (hb1.mono (by simp)))
      obtain ⟨f0, f1, f2⟩ := box_free HX1.out
      obtain ⟨g0, g1, g2⟩ := b3_cells HX1.out
      have ck1 := (hb1.cell (p := ⟨b, off, none⟩) (by simp; omega)).trans ck
      have hcv := conv_at (c := c - 5) ((HYS.out.below HBW1.out.drew))
      rw [HSL.out] at hcv
      clear hb1 ck
      go_wp2_with fail
      go_region
      go_wp2_with fail
      exact bodyPost_ret (v := .tuple #[.agg #[.int .i64 4, .int .i64 0, .string ⟨S.toArray⟩], .int .i64 (5 + (m : Int))]) (by simp [results, Tryd.results33, go_sem, g0, g1, g2]) rfl ⟨rfl, Below.set3' HBW1.out.drew (Nat.le_refl _) _ _ _⟩
    · rw [if_neg (fun h => hc2 h.2)]
      show Calls _ _ _ _ (GaveO w (zeroV, 0))
      clear hy1 hyb hbk h4l hcl h4
      generalize unbe (t.take (5 - 1)) = m at *
      generalize t.length = q at *
      have w1 : IntKind.i64.wrap ((q : Int) + 1 - 5) = ((q - 4 : Nat) : Int) := by rw [IntWalk.i64_in _ (by omega)]; omega
      have w2 : IntKind.u64.wrap (((q - 4 : Nat) : Int)) = ((q - 4 : Nat) : Int) := by rw [IntKind.wrap_u64]; omega
      have w7 : IntKind.u64.wrap ((q : Int) + 1 - 5) = ((q - 4 : Nat) : Int) := by rw [IntKind.wrap_u64]; omega
      unfold b3 at *
      by_cases q1 : m ≤ 2147483647
      · have q2 : ¬ ((m : Int) ≤ ((q - 4 : Nat) : Int)) := by have : ¬ m ≤ q - (5 - 1) := fun h => hc2 ⟨q1, h⟩; omega
        have q3 : (m : Int) ≤ 2147483647 := by omega
        clear hc2 q1
        go_enter Tryd.func33, Tryd.ntmps33
        go_wp2_with fail
        refine HBK.out.mono ?_
        clear f0 f1 f2 g0 g1 g2
        rintro e W1 ⟨rfl, hb1⟩
        have HX1 : Hid (W1.heap[w.heap.size]? = some (b3 ⟨0, 0, ⟨#[]⟩⟩ 43)) := (hb1.block _ (by simp)).trans HBX.out
        have HBW1 := Lib.hid (HBW.out.trans (hb1.mono (by simp)))
        obtain ⟨f0, f1, f2⟩ := box_free HX1.out
        obtain ⟨g0, g1, g2⟩ := b3_cells HX1.out
        clear hb1
        go_wp2_with fail
        exact bodyPost_ret (v := .tuple #[.agg #[.int .i64 0, .int .i64 0, .string ⟨#[]⟩], .int .i64 0]) (by simp [results, Tryd.results33, go_sem, g0, g1, g2]) rfl ⟨rfl, Below.set3' HBW1.out (Nat.le_refl _) _ _ _⟩
      · have q3 : ¬ ((m : Int) ≤ 2147483647) := by omega
        clear hc2 q1
        go_enter Tryd.func33, Tryd.ntmps33
        go_wp2_with fail
        refine HBK.out.mono ?_
        clear f0 f1 f2 g0 g1 g2
        rintro e W1 ⟨rfl, hb1⟩
        have HX1 : Hid (W1.heap[w.heap.size]? = some (b3 ⟨0, 0, ⟨#[]⟩⟩ 43)) := (hb1.block _ (by simp)).trans HBX.out
        have HBW1 := Lib.hid (HBW.out.trans (hb1.mono (by simp)))
        obtain ⟨f0, f1, f2⟩ := box_free HX1.out
        obtain ⟨g0, g1, g2⟩ := b3_cells HX1.out
        clear hb1
        go_wp2_with fail
        exact bodyPost_ret (v := .tuple #[.agg #[.int .i64 0, .int .i64 0, .string ⟨#[]⟩], .int .i64 0]) (by simp [results, Tryd.results33, go_sem, g0, g1, g2]) rfl ⟨rfl, Below.set3' HBW1.out (Nat.le_refl _) _ _ _⟩
  · rw [if_neg (fun h => h4 h.1)]
    have h4' : (t.length : Int) + 1 < 5 := by omega
    show Calls _ _ _ _ (GaveO w (zeroV, 0))
    clear hcl
    generalize t.length = q at *
    unfold b3 at *
    go_enter Tryd.func33, Tryd.ntmps33
    go_wp2_with fail
    exact bodyPost_ret (v := .tuple #[.agg #[.int .i64 0, .int .i64 0, .string ⟨#[]⟩], .int .i64 0]) (by simp [results, Tryd.results33, go_sem, g0, g1, g2]) rfl ⟨rfl, HBW.out⟩
set_option maxRecDepth 100000 in
set_option maxHeartbeats 2000000 in
theorem rone_else (k : UInt8) (h0 : k ≠ 0) (h1 : k ≠ 1) (h2 : k ≠ 2) (h3 : k ≠ 3) (h4 : k ≠ 4) (t : List UInt8) (A : Option Addr) (c : Nat) (w : World) (hy : BytesAt w w.heap.size A (k :: t)) (hm : (k :: t).length ≤ 1000000) :
    Calls Tryd.prog 33 #[.slice A (k :: t).length c] w (GaveO w (oneOf (k :: t))) := by
  have HBX := Lib.hid (newBox w)
  have HBW := Lib.hid ((Below.refl _ w).alloc (Nat.le_refl _) (b3 ⟨0, 0, ⟨#[]⟩⟩ 43))
  have HY := Lib.hid hy
  obtain ⟨b, off, rfl, hbl, hcl⟩ := hy (by simp)
  have ck := (HBW.out.cell (p := ⟨b, off + 0, none⟩) hbl).trans (hcl 0 (by simp))
  simp only [List.getElem_cons_zero, Nat.add_zero] at ck
  obtain ⟨f0, f1, f2⟩ := box_free (newBox w)
  obtain ⟨g0, g1, g2⟩ := b3_cells (newBox w)
  have hku := k.toNat_lt
  have hkw : IntKind.i64.wrap (k.toNat : Int) = (k.toNat : Int) := by rw [IntWalk.i64_in _ (by omega)]
  rw [List.length_cons] at hm ⊢
  have hn1 : ¬ ((t.length : Int) + 1 = 0) := by omega
  have hn2 : ((t.length : Int) + 1 == 0) = false := by rw [beq_eq_false_iff_ne]; omega
  have hn3 : (0 : Int) < (t.length : Int) + 1 := by omega
  have hr : oneOf (k :: t) = (zeroV, 0) := by
    show (rOf false k t).getD _ = _
    unfold rOf
    rw [if_neg h0, if_neg h1, if_neg h2, if_neg (fun h => h.elim h3 h4)]
    rfl
  rw [hr]
  have key : ∀ (u : UInt8) (i : Int), k ≠ u → (u.toNat : Int) = i → ((k.toNat : Int) == i) = false := fun u i h hi => by
    rw [beq_eq_false_iff_ne, ← hi]
    intro e
    exact h (UInt8.toNat_inj.1 (by omega))
  have e0 := key 0 0 h0 rfl
  have e1 := key 1 1 h1 rfl
  have e2 := key 2 2 h2 rfl
  have e3 := key 3 3 h3 rfl
  have e4 := key 4 4 h4 rfl
  clear h0 h1 h2 h3 h4 hr key hcl
  generalize t.length = q at *
  generalize (k.toNat : Int) = kn at *
  unfold b3 at *
  go_enter Tryd.func33, Tryd.ntmps33
  go_wp2_with fail
  exact bodyPost_ret (v := .tuple #[.agg #[.int .i64 0, .int .i64 0, .string ⟨#[]⟩], .int .i64 0]) (by simp [results, Tryd.results33, go_sem, g0, g1, g2]) rfl ⟨rfl, HBW.out⟩
/-- one, of any bytes. -/
theorem rone_any (l : List UInt8) (A : Option Addr) (c : Nat) (w : World) (hy : BytesAt w w.heap.size A l) (hc : l.length ≤ c) (hm : l.length ≤ 1000000) :
    Calls Tryd.prog 33 #[.slice A l.length c] w (GaveO w (oneOf l)) := by
  cases l with
  | nil => exact rone_nil A c w
  | cons k t =>
    by_cases h0 : k = 0
    · exact rone_null k h0 t A c w hy hc hm
    by_cases h1 : k = 1
    · exact rone_bool k h1 t A c w hy hc hm
    by_cases h2 : k = 2
    · exact rone_int k h2 t A c w hy hc hm
    by_cases h3 : k = 3
    · exact rone_txt3 k h3 t A c w hy hc hm
    by_cases h4 : k = 4
    · exact rone_txt4 k h4 t A c w hy hc hm
    exact rone_else k h0 h1 h2 h3 h4 t A c w hy hm
end Go.Proofs.YtnpemegklndegaaDoor
