/- Contract of the reference's Unkey: the row whose key the bytes are; or that they are none's. Condition: no more than a million bytes. -/
import Derived.Test.YtnpemegklndegaaDoorCodRDec
namespace Go.Proofs.YtnpemegklndegaaDoor
open Go.RowKit
structure ReadQ (w : World) (b : Nat) (l : List UInt8) (ys : List V) (bv : Value) (r : List UInt8) : Prop where
  lies : LiesS w b bv r
  le : ys.length + r.length ≤ l.length
  row : if ys.length ≤ 64 then rAll 64 l = (rAll (64 - ys.length) r).map (fun q => ys ++ q) else rAll 64 l = none
theorem ReadQ.start {w : World} {b : Nat} {l : List UInt8} {bv : Value} (h : LiesS w b bv l) : ReadQ w b l [] bv l := ⟨h, by simp, by simp⟩
theorem ReadQ.keyed {w : World} {b : Nat} {l : List UInt8} {ys : List V} {bv : Value} {r : List UInt8} (h : ReadQ w b l ys bv r) (hn : ys.length ≤ 64) : ReadK w b l ys bv r := ⟨h.lies, hn, by have := h.le; omega, by have := h.row; rwa [if_pos hn] at this⟩
theorem ReadQ.big {w : World} {b : Nat} {l : List UInt8} {ys : List V} {bv : Value} {r : List UInt8} (h : ReadQ w b l ys bv r) (hn : ¬ ys.length ≤ 64) : rAll 64 l = none := by have := h.row; rwa [if_neg hn] at this
theorem ReadQ.non {w : World} {b : Nat} {l : List UInt8} {ys : List V} {bv : Value} {r : List UInt8} (h : ReadQ w b l ys bv r) (h0 : r ≠ []) (hr : rVal true r = none) : rAll 64 l = none := by
  by_cases hn : ys.length ≤ 64
  · exact (h.keyed hn).non h0 hr
  · exact h.big hn
theorem ReadQ.more {w : World} {b : Nat} {l : List UInt8} {ys : List V} {bv : Value} {r : List UInt8} (h : ReadQ w b l ys bv r) (h0 : r ≠ []) {v : V} {k : Nat} (hr : rVal true r = some (v, k)) {u : Value} (hu : LiesS w b u (r.drop k)) : ReadQ w b l (ys ++ [v]) u (r.drop k) := by
  obtain ⟨hk0, hk, -⟩ := wVal_rVal true r v k hr
  have hle := h.le
  refine ⟨hu, by rw [List.length_append, List.length_singleton, List.length_drop]; omega, ?_⟩
  rw [List.length_append, List.length_singleton]
  by_cases hn : ys.length < 64
  · rw [if_pos (by omega)]
    have := ((h.keyed (by omega)).more h0 hn hr hu).row
    rwa [List.length_append, List.length_singleton] at this
  · rw [if_neg (by omega)]
    by_cases hn2 : ys.length = 64
    · exact (h.keyed (by omega)).full h0 hn2
    · exact h.big (by omega)
theorem lies_from {w : World} {b o c n : Nat} {r : List UInt8} (h : LiesS w b (.slice (some ⟨b, o, none⟩) r.length c) r) (hc : r.length ≤ c) (hn : n ≤ r.length) : ∃ o', (∀ w, (Instr.slice 26 (.slice (some ⟨b, o, none⟩) r.length c) (some (.int .i64 n)) none none).run Tryd.prog w = .ok (.slice (some ⟨b, o', none⟩) (r.length - n) (c - n)) w) ∧ LiesS w b (.slice (some ⟨b, o', none⟩) (r.length - n) (c - n)) (r.drop n) := by
  obtain ⟨o', hs, hy⟩ := slice_from b o r.length c n .i64 hn hc
  obtain ⟨-, -, hb⟩ := h.bytes (Below.refl _ w)
  exact ⟨o', hs, o', _, by rw [List.length_drop], by rw [List.length_drop]; omega, hy w _ r rfl hb⟩
/-- One value more behind those that the call owns, from a box that was built for it. -/
theorem own_next {w W : World} {ys : List V} {rv : Value} (hb : Below w.heap.size w W) (ho : OwnV W w.heap.size rv ys) (hn : ys.length ≤ 1000000) (v : V) :
    ∃ v' w', (Builtin.append_ #[23, 23] 23 #[rv, .slice (some ⟨W.heap.size, 0, none⟩) 1 1]).run Tryd.prog (W.alloc (.cells #[.int .i64 v.k, .int .i64 v.i, .string v.s] 43)) = .ok v' w' ∧ OwnV w' w.heap.size v' (ys ++ [v]) ∧ Below w.heap.size w w' := by
  have hz := hb.size
  obtain ⟨v5, w5, hr5, ho5, hg5, -⟩ := ownV_app (ho.later ((Below.refl _ W).alloc (Nat.le_refl _) (b3 v 43))) [v] (some ⟨W.heap.size, 0, none⟩) 1 (row_new W v) (by simp; omega) (by simp; omega)
  exact ⟨v5, w5, hr5, ho5, ownV_below (hb.alloc hz (b3 v 43)) (ho.later ((Below.refl _ W).alloc (Nat.le_refl _) (b3 v 43))) hg5 (by simp; omega)⟩
theorem cells_set3 {W : World} {g : Nat} {v : V} {T : TypeId} (h : W.heap[g]? = some (b3 v T)) (u : V) : (((W.setCell ⟨g, 0, none⟩ (.int .i64 u.k)).setCell ⟨g, 1, none⟩ (.int .i64 u.i)).setCell ⟨g, 2, none⟩ (.string u.s)).heap[g]? = some (b3 u T) := by
  have h1 := heap_setCell_same W g 0 _ T (.int .i64 u.k) h
  have h2 := heap_setCell_same _ g 1 _ T (.int .i64 u.i) h1
  have h3 := heap_setCell_same _ g 2 _ T (.string u.s) h2
  simpa [b3] using h3
theorem OwnV.set3 {W : World} {B g : Nat} {rv : Value} {ys : List V} (h : OwnV W B rv ys) (hne : rv.ownBlock ≠ some g) (x y z : Value) : OwnV (((W.setCell ⟨g, 0, none⟩ x).setCell ⟨g, 1, none⟩ y).setCell ⟨g, 2, none⟩ z) B rv ys := by
  refine h.kept (row := some g) ⟨rfl, rfl, rfl, by simp, fun k _ hk => ?_⟩ (Or.inr hne)
  have hk' : k ≠ g := fun e => hk (by rw [e])
  rw [heap_setCell_other _ _ _ _ hk', heap_setCell_other _ _ _ _ hk', heap_setCell_other _ _ _ _ hk']
theorem OwnV.set1 {W : World} {B g : Nat} {rv : Value} {ys : List V} (h : OwnV W B rv ys) (hne : rv.ownBlock ≠ some g) (j : Nat) (x : Value) : OwnV (W.setCell ⟨g, j, none⟩ x) B rv ys := by
  refine h.kept (row := some g) ⟨rfl, rfl, rfl, by simp, fun k _ hk => ?_⟩ (Or.inr hne)
  exact heap_setCell_other _ _ _ _ (fun e => hk (by rw [e]))
theorem ownV_new {w : World} {B b : Nat} {v : Value} {l : List V} (h : OwnV w B v l) (hb : w.heap.size ≤ b) : v.ownBlock ≠ some b := fun e => by
  have := (h.lt _ e).2
  omega
/-- What a round starts from: the bytes, the box for the value, the values before. -/
structure Round (w wr : World) (b : Nat) (rv : Value) (ys : List V) : Prop where
  below : Below w.heap.size w wr
  own : OwnV wr w.heap.size rv ys
set_option maxRecDepth 100000 in
set_option maxHeartbeats 2000000 in
theorem runkey_nil (A : Option Addr) (c : Nat) (w : World) : Calls Tryd.prog 18 #[.slice A 0 c] w (GaveU w (some [])) := by
  go_enter Tryd.func18, Tryd.ntmps18
  go_wp2_with fail
  go_loopw [0, 4] (fun bv rv wr => bv = .slice A 0 c ∧ rv = .slice none 0 0 ∧ wr = w) (fun bv _ _ => slLen bv)
  case atStart => exact ⟨rfl, rfl, rfl⟩
  case round =>
    obtain ⟨rfl, rfl, rfl⟩ := hrel
    go_wp2_with fail
    exact bodyPost_ret (v := .tuple #[.slice none 0 0, .int .i64 0]) (by simp [results, Tryd.results18, go_sem]) rfl ⟨Below.refl _ _, none, 0, rfl, by simp, fun h => by simp at h⟩
set_option maxRecDepth 100000 in
set_option maxHeartbeats 8000000 in
theorem runkey_any (l : List UInt8) (A : Option Addr) (c : Nat) (w : World) (hy : BytesAt w w.heap.size A l) (hc : l.length ≤ c) (hm : l.length ≤ 1000000) :
    Calls Tryd.prog 18 #[.slice A l.length c] w (GaveU w (rAll 64 l)) := by
  by_cases hl0 : l = []
  · subst hl0
    exact runkey_nil A c w
  · have hpos : 0 < l.length := by cases l <;> simp at hl0 ⊢
    obtain ⟨b, off, rfl, hbl, -⟩ := hy hpos
    have HLT : Hid (LiesS w b (.slice (some ⟨b, off, none⟩) l.length c) l) := ⟨off, _, rfl, hc, hy⟩
    clear hy hc hpos hl0
    generalize hn : l.length = n at *
    have HN := Lib.hid hn
    clear hn
    go_enter Tryd.func18, Tryd.ntmps18
    go_wp2_with fail
    go_loopw [0, 4] (fun bv rv wr => ∃ (ys : List V) (r : List UInt8), slLen bv = r.length ∧ Hid (ReadQ w b l ys bv r) ∧ Hid (OwnV wr w.heap.size rv ys) ∧ Hid (Below w.heap.size w wr)) (fun bv _ _ => slLen bv)
    case atStart => exact ⟨[], l, HN.out.symm, ReadQ.start HLT.out, OwnV.nil _ _, Below.refl _ _⟩
    case round =>
      obtain ⟨ys, r, hsl, HR, HO, HB⟩ := hrel
      have hyl : ys.length + r.length ≤ 1000000 := by have h1 := HR.out.le; have h2 := HN.out; omega
      cases r with
      | nil =>
        obtain ⟨o', c', rfl, -, -⟩ := HR.out.lies
        obtain ⟨Ar, cr, rfl, hyc, -, hrow⟩ := HO.out.row
        have HROW := Lib.hid hrow
        have HD : Hid (rAll 64 l = if ys.length ≤ 64 then some ys else none) := by
          show _ = _
          by_cases hn : ys.length ≤ 64
          · rw [if_pos hn]; exact (HR.out.keyed hn).done
          · rw [if_neg hn]; exact HR.out.big hn
        clear hrow hsl HR
        obtain ⟨ny, hny⟩ : ∃ ny, ny = ys.length := ⟨_, rfl⟩
        have HNY := Lib.hid hny
        rw [← hny] at hyc HD ⊢
        clear hny
        simp only [List.length_nil] at hyl ⊢
        by_cases h64 : ny ≤ 64
        · have h64' : ¬ ((ny : Int) > 64) := by omega
          rw [if_pos h64] at HD
          go_wp2_with fail
          exact bodyPost_ret (v := .tuple #[.slice Ar ny cr, .int .i64 0]) (by simp [results, Tryd.results18, go_sem]) rfl ⟨HB.out, by rw [HD.out]; exact ⟨Ar, cr, by rw [HNY.out], by rw [← HNY.out]; exact hyc, HROW.out⟩⟩
        · have h64' : (ny : Int) > 64 := by omega
          rw [if_neg h64] at HD
          go_wp2_with fail
          exact bodyPost_ret (v := .tuple #[.slice none 0 0, .int .i64 50]) (by simp [results, Tryd.results18, go_sem]) rfl ⟨HB.out, by rw [HD.out]⟩
      | cons k t =>
        have hr0 : k :: t ≠ [] := by simp
        obtain ⟨o', c', rfl, hcr, -⟩ := HR.out.lies
        have HL := Lib.hid HR.out.lies
        obtain ⟨rn, hrn⟩ : ∃ rn, rn = (k :: t).length := ⟨_, rfl⟩
        have hrp : (rn : Int) > 0 := by rw [hrn]; simp
        have hrp2 : (0 : Int) < (rn : Int) := hrp
        have hrp3 : 0 < rn := by omega
        have HXB := Lib.hid (newBox wr)
        have HBW := Lib.hid (HB.out.alloc HB.out.size (b3 ⟨0, 0, ⟨#[]⟩⟩ 43))
        have HOW := Lib.hid (HO.out.later ((Below.refl _ wr).alloc (Nat.le_refl _) (b3 ⟨0, 0, ⟨#[]⟩⟩ 43)))
        have HNB := Lib.hid (ownV_new HO.out (Nat.le_refl _))
        have hyW := (HL.out.bytes HBW.out).2.2
        have ck : (wr.alloc (b3 ⟨0, 0, ⟨#[]⟩⟩ 43)).cell? ⟨b, o', none⟩ = some (.int .u8 k.toNat) := by
          obtain ⟨b2, o2, hA, -, hcl⟩ := hyW (by simp)
          simp at hA
          obtain ⟨rfl, rfl⟩ := hA
          exact hcl 0 (by simp)
        obtain ⟨f0, f1, f2⟩ := box_free (newBox wr)
        obtain ⟨g0, g1, g2⟩ := b3_cells (newBox wr)
        have hku := k.toNat_lt
        have hkw : IntKind.i64.wrap (k.toNat : Int) = (k.toNat : Int) := by rw [IntWalk.i64_in _ (by omega)]
        have hzw := HB.out.size
        have hW1 : (wr.alloc (b3 ⟨0, 0, ⟨#[]⟩⟩ 43)).heap.size = wr.heap.size + 1 := alloc_size _ _
        rw [← hrn] at hcr hyl HL HR ⊢
        have HRN := Lib.hid hrn
        clear hsl HO hrn
        by_cases hk0 : k = 0
        · subst hk0
          simp only [show ((0 : UInt8).toNat : Int) = 0 from rfl] at ck hkw
          have hvf : rVal true (0 :: t) = rVal false (0 :: t) := by simp [rVal, rOf]
          unfold b3 at *
          go_wp2_with fail
          have h1 := rone_any (0 :: t) (some ⟨b, o', none⟩) c' _ hyW (by rw [← HRN.out]; exact hcr) (by rw [← HRN.out]; omega)
          rw [← HRN.out] at h1
          refine h1.mono ?_
          clear h1 hyW ck f0 f1 f2 g0 g1 g2
          rintro e w1 ⟨rfl, hb1⟩
          have HX1 : Hid (w1.heap[wr.heap.size]? = some (b3 ⟨0, 0, ⟨#[]⟩⟩ 43)) := (hb1.block _ (by simp)).trans HXB.out
          have HB1 := Lib.hid (HBW.out.trans (hb1.mono (by simp; omega)))
          have HO1 := Lib.hid (HOW.out.later hb1)
          have hz1 : wr.heap.size < w1.heap.size := by have := hb1.size; simp at this; omega
          obtain ⟨f0, f1, f2⟩ := box_free HX1.out
          obtain ⟨g0, g1, g2⟩ := b3_cells HX1.out
          clear hb1
          have HSB : Hid (∀ x y z, Below w.heap.size w (((w1.setCell ⟨wr.heap.size, 0, none⟩ x).setCell ⟨wr.heap.size, 1, none⟩ y).setCell ⟨wr.heap.size, 2, none⟩ z)) := fun x y z => Below.set3' HB1.out hzw x y z
          cases hrv : rVal true (0 :: t) with
          | none =>
            have ho : oneOf (0 :: t) = (zeroV, 0) := by unfold oneOf; rw [← hvf, hrv]; rfl
            rw [ho]
            have HNON := Lib.hid (HR.out.non hr0 hrv)
            clear hrv ho hvf
            unfold valV zeroV
            go_wp2_with fail
            exact bodyPost_ret (v := .tuple #[.slice none 0 0, .int .i64 50]) (by simp [results, Tryd.results18, go_sem]) rfl ⟨HSB.out _ _ _, by rw [HNON.out]⟩
          | some p =>
            obtain ⟨v, k2⟩ := p
            have ho : oneOf (0 :: t) = (v, k2) := by unfold oneOf; rw [← hvf, hrv]; rfl
            rw [ho]
            obtain ⟨hk0, hk1, -⟩ := wVal_rVal true _ v k2 hrv
            rw [← HRN.out] at hk1
            have hk3 : ((k2 : Int) == 0) = false := by rw [beq_eq_false_iff_ne]; omega
            obtain ⟨o3, hs3, hl3⟩ := lies_from (n := k2) (by rw [← HRN.out]; exact HL.out) (by rw [← HRN.out]; exact hcr) (by rw [← HRN.out]; exact hk1)
            rw [← HRN.out] at hs3 hl3
            have HM := Lib.hid (HR.out.more hr0 hrv hl3)
            have HL3 : ((0 :: t).drop k2).length = rn - k2 := by rw [List.length_drop, ← HRN.out]
            obtain ⟨v5, w5, hr5, ho5, hb5⟩ := own_next (HSB.out (.int .i64 v.k) (.int .i64 v.i) (.string v.s)) (HO1.out.set3 HNB.out _ _ _) (by omega) v
            obtain ⟨q0, q1, q2⟩ := b3_cells (cells_set3 HX1.out v)
            have H5 := Lib.hid ho5
            have HB5 := Lib.hid hb5
            clear ho5 hb5 hl3
            simp only [World.size_setCell] at hr5
            clear hrv ho hvf f0 f1 f2 g0 g1 g2
            obtain ⟨f0, f1, f2⟩ := box_free HX1.out
            obtain ⟨g0, g1, g2⟩ := b3_cells HX1.out
            unfold valV
            go_wp2_with (at_builtin; refine Lib.wpList_append_run_sl _ rfl _ _ 23 rfl _ _ rfl rfl hr5 ?_)
            go_roundw
            case rel => exact ⟨ys ++ [v], _, by show rn - k2 = _; rw [HL3], HM.out, H5.out, HB5.out⟩
            case measure => simp [slLen]; omega
        by_cases hk1 : k = 1
        · subst hk1
          simp only [show ((1 : UInt8).toNat : Int) = 1 from rfl] at ck hkw
          have hvf : rVal true (1 :: t) = rVal false (1 :: t) := by simp [rVal, rOf]
          unfold b3 at *
          go_wp2_with fail
          have h1 := rone_any (1 :: t) (some ⟨b, o', none⟩) c' _ hyW (by rw [← HRN.out]; exact hcr) (by rw [← HRN.out]; omega)
          rw [← HRN.out] at h1
          refine h1.mono ?_
          clear h1 hyW ck f0 f1 f2 g0 g1 g2
          rintro e w1 ⟨rfl, hb1⟩
          have HX1 : Hid (w1.heap[wr.heap.size]? = some (b3 ⟨0, 0, ⟨#[]⟩⟩ 43)) := (hb1.block _ (by simp)).trans HXB.out
          have HB1 := Lib.hid (HBW.out.trans (hb1.mono (by simp; omega)))
          have HO1 := Lib.hid (HOW.out.later hb1)
          have hz1 : wr.heap.size < w1.heap.size := by have := hb1.size; simp at this; omega
          obtain ⟨f0, f1, f2⟩ := box_free HX1.out
          obtain ⟨g0, g1, g2⟩ := b3_cells HX1.out
          clear hb1
          have HSB : Hid (∀ x y z, Below w.heap.size w (((w1.setCell ⟨wr.heap.size, 0, none⟩ x).setCell ⟨wr.heap.size, 1, none⟩ y).setCell ⟨wr.heap.size, 2, none⟩ z)) := fun x y z => Below.set3' HB1.out hzw x y z
          cases hrv : rVal true (1 :: t) with
          | none =>
            have ho : oneOf (1 :: t) = (zeroV, 0) := by unfold oneOf; rw [← hvf, hrv]; rfl
            rw [ho]
            have HNON := Lib.hid (HR.out.non hr0 hrv)
            clear hrv ho hvf
            unfold valV zeroV
            go_wp2_with fail
            exact bodyPost_ret (v := .tuple #[.slice none 0 0, .int .i64 50]) (by simp [results, Tryd.results18, go_sem]) rfl ⟨HSB.out _ _ _, by rw [HNON.out]⟩
          | some p =>
            obtain ⟨v, k2⟩ := p
            have ho : oneOf (1 :: t) = (v, k2) := by unfold oneOf; rw [← hvf, hrv]; rfl
            rw [ho]
            obtain ⟨hk0, hk1, -⟩ := wVal_rVal true _ v k2 hrv
            rw [← HRN.out] at hk1
            have hk3 : ((k2 : Int) == 0) = false := by rw [beq_eq_false_iff_ne]; omega
            obtain ⟨o3, hs3, hl3⟩ := lies_from (n := k2) (by rw [← HRN.out]; exact HL.out) (by rw [← HRN.out]; exact hcr) (by rw [← HRN.out]; exact hk1)
            rw [← HRN.out] at hs3 hl3
            have HM := Lib.hid (HR.out.more hr0 hrv hl3)
            have HL3 : ((1 :: t).drop k2).length = rn - k2 := by rw [List.length_drop, ← HRN.out]
            obtain ⟨v5, w5, hr5, ho5, hb5⟩ := own_next (HSB.out (.int .i64 v.k) (.int .i64 v.i) (.string v.s)) (HO1.out.set3 HNB.out _ _ _) (by omega) v
            obtain ⟨q0, q1, q2⟩ := b3_cells (cells_set3 HX1.out v)
            have H5 := Lib.hid ho5
            have HB5 := Lib.hid hb5
            clear ho5 hb5 hl3
            simp only [World.size_setCell] at hr5
            clear hrv ho hvf f0 f1 f2 g0 g1 g2
            obtain ⟨f0, f1, f2⟩ := box_free HX1.out
            obtain ⟨g0, g1, g2⟩ := b3_cells HX1.out
            unfold valV
            go_wp2_with (at_builtin; refine Lib.wpList_append_run_sl _ rfl _ _ 23 rfl _ _ rfl rfl hr5 ?_)
            go_roundw
            case rel => exact ⟨ys ++ [v], _, by show rn - k2 = _; rw [HL3], HM.out, H5.out, HB5.out⟩
            case measure => simp [slLen]; omega
        by_cases hk2 : k = 2
        · subst hk2
          simp only [show ((2 : UInt8).toNat : Int) = 2 from rfl] at ck hkw
          unfold b3 at *
          go_wp2_with fail
          have h1 := rone_any (2 :: t) (some ⟨b, o', none⟩) c' _ hyW (by rw [← HRN.out]; exact hcr) (by rw [← HRN.out]; omega)
          rw [← HRN.out] at h1
          refine h1.mono ?_
          clear h1 hyW ck f0 f1 f2 g0 g1 g2
          rintro e w1 ⟨rfl, hb1⟩
          have HX1 : Hid (w1.heap[wr.heap.size]? = some (b3 ⟨0, 0, ⟨#[]⟩⟩ 43)) := (hb1.block _ (by simp)).trans HXB.out
          have HB1 := Lib.hid (HBW.out.trans (hb1.mono (by simp; omega)))
          have HO1 := Lib.hid (HOW.out.later hb1)
          have hz1 : wr.heap.size < w1.heap.size := by have := hb1.size; simp at this; omega
          obtain ⟨f0, f1, f2⟩ := box_free HX1.out
          obtain ⟨g0, g1, g2⟩ := b3_cells HX1.out
          clear hb1
          have HSB : Hid (∀ x y z, Below w.heap.size w (((w1.setCell ⟨wr.heap.size, 0, none⟩ x).setCell ⟨wr.heap.size, 1, none⟩ y).setCell ⟨wr.heap.size, 2, none⟩ z)) := fun x y z => Below.set3' HB1.out hzw x y z
          have HSB4 : Hid (∀ x y z u, Below w.heap.size w ((((w1.setCell ⟨wr.heap.size, 0, none⟩ x).setCell ⟨wr.heap.size, 1, none⟩ y).setCell ⟨wr.heap.size, 2, none⟩ z).setCell ⟨wr.heap.size, 1, none⟩ u)) := fun x y z u => (Below.set3' HB1.out hzw x y z).setCell hzw u
          have hrt : rVal true (2 :: t) = if 8 ≤ t.length then some (⟨2, ofU (trn true (unbe (t.take 8))), ⟨#[]⟩⟩, 9) else none := rfl
          have hrf : oneOf (2 :: t) = (if 8 ≤ t.length then some ((⟨2, ofU (trn false (unbe (t.take 8))), ⟨#[]⟩⟩ : V), 9) else none).getD (zeroV, 0) := rfl
          rw [hrf]
          clear hrf
          by_cases h8 : 8 ≤ t.length
          · rw [if_pos h8, Option.getD_some, trn_no]
            rw [if_pos h8] at hrt
            have hul := unbe_lt (t.take 8)
            have h8l : (t.take 8).length = 8 := by rw [List.length_take]; omega
            rw [h8l] at hul
            have hx := xor_ordered (ofU (unbe (t.take 8)))
            rw [toU_ofU _ (by omega)] at hx
            have hx2 := ofU_wrap (trn true (unbe (t.take 8))) (trn_lt true _ (by omega))
            clear h8 h8l hul
            generalize ofU (trn true (unbe (t.take 8))) = i1 at *
            generalize trn true (unbe (t.take 8)) = m1 at *
            generalize ofU (unbe (t.take 8)) = i0 at *
            have hrv := hrt
            clear hrt
            obtain ⟨v, hv⟩ : ∃ v : V, v = ⟨2, i1, ⟨#[]⟩⟩ := ⟨_, rfl⟩
            obtain ⟨hk0, hk1, -⟩ := wVal_rVal true _ _ _ hrv
            rw [← HRN.out] at hk1
            have hk3 : (((9 : Nat) : Int) == 0) = false := by rw [beq_eq_false_iff_ne]; omega
            obtain ⟨o3, hs3, hl3⟩ := lies_from (n := 9) (by rw [← HRN.out]; exact HL.out) (by rw [← HRN.out]; exact hcr) (by rw [← HRN.out]; exact hk1)
            rw [← HRN.out] at hs3 hl3
            have HM := Lib.hid (HR.out.more hr0 hrv hl3)
            have HL3 : ((2 :: t).drop 9).length = rn - 9 := by rw [List.length_drop, ← HRN.out]
            obtain ⟨W3, hW3⟩ : ∃ W3, W3 = ((w1.setCell ⟨wr.heap.size, 0, none⟩ (.int .i64 2)).setCell ⟨wr.heap.size, 1, none⟩ (.int .i64 i0)).setCell ⟨wr.heap.size, 2, none⟩ (.string ⟨#[]⟩) := ⟨_, rfl⟩
            have HX3 : Hid (W3.heap[wr.heap.size]? = some (b3 ⟨2, i0, ⟨#[]⟩⟩ 43)) := by show _ = _; rw [hW3]; exact cells_set3 HX1.out ⟨2, i0, ⟨#[]⟩⟩
            have HS3 : Hid (Below w.heap.size w W3) := by rw [hW3]; exact HSB.out _ _ _
            have HO3 : Hid (OwnV W3 w.heap.size u4 ys) := by rw [hW3]; exact HO1.out.set3 HNB.out _ _ _
            have hz3 : wr.heap.size < W3.heap.size := by rw [hW3]; simpa using hz1
            have HW3 := Lib.hid hW3
            clear hW3
            have HX4 : Hid ((W3.setCell ⟨wr.heap.size, 1, none⟩ (.int .i64 i1)).heap[wr.heap.size]? = some (b3 ⟨2, i1, ⟨#[]⟩⟩ 43)) := by
              show _ = _
              have := heap_setCell_same W3 wr.heap.size 1 _ 43 (.int .i64 i1) HX3.out
              simpa [b3] using this
            obtain ⟨v5, w5, hr5, ho5, hb5⟩ := own_next (HS3.out.setCell (p := ⟨wr.heap.size, 1, none⟩) hzw (.int .i64 i1)) (HO3.out.set1 HNB.out 1 _) (by omega) ⟨2, i1, ⟨#[]⟩⟩
            have H5 := Lib.hid ho5
            have HB5 := Lib.hid hb5
            clear ho5 hb5 hl3 hrv f0 f1 f2 g0 g1 g2
            simp only [World.size_setCell] at hr5
            try dsimp only at hr5
            obtain ⟨f0, f1, f2⟩ := box_free HX1.out
            obtain ⟨g0, g1, g2⟩ := b3_cells HX1.out
            obtain ⟨t0, t1, t2⟩ := box_free HX3.out
            obtain ⟨r0, r1, r2⟩ := b3_cells HX3.out
            try dsimp only at r0 r1 r2
            replace hs3 : ∀ w, (Instr.slice 26 (.slice (some ⟨b, o', none⟩) rn c') (some (.int .i64 9)) none none).run Tryd.prog w = .ok (.slice (some ⟨b, o3, none⟩) (rn - 9) (c' - 9)) w := hs3
            clear hv v
            unfold valV
            go_wp2_with (first | (rw [← HW3.out]) | (at_builtin; refine Lib.wpList_append_run_sl _ rfl _ _ 23 rfl _ _ rfl rfl hr5 ?_))
            go_roundw
            case rel => exact ⟨ys ++ [(⟨2, i1, ⟨#[]⟩⟩ : V)], (2 :: t).drop 9, by show rn - 9 = _; rw [HL3], HM.out, H5.out, HB5.out⟩
            case measure => simp [slLen]; omega
          · rw [if_neg h8]
            rw [if_neg h8] at hrt
            have HNON := Lib.hid (HR.out.non hr0 hrt)
            clear hrt
            rw [Option.getD_none]
            obtain ⟨W3, hW3⟩ : ∃ W3, W3 = ((w1.setCell ⟨wr.heap.size, 0, none⟩ (.int .i64 0)).setCell ⟨wr.heap.size, 1, none⟩ (.int .i64 0)).setCell ⟨wr.heap.size, 2, none⟩ (.string ⟨#[]⟩) := ⟨_, rfl⟩
            have HX3 : Hid (W3.heap[wr.heap.size]? = some (b3 ⟨0, 0, ⟨#[]⟩⟩ 43)) := by show _ = _; rw [hW3]; exact cells_set3 HX1.out ⟨0, 0, ⟨#[]⟩⟩
            have HS3 : Hid (Below w.heap.size w W3) := by rw [hW3]; exact HSB.out _ _ _
            have HO3 : Hid (OwnV W3 w.heap.size u4 ys) := by rw [hW3]; exact HO1.out.set3 HNB.out _ _ _
            have hz3 : wr.heap.size < W3.heap.size := by rw [hW3]; simpa using hz1
            have HW3 := Lib.hid hW3
            clear hW3
            clear f0 f1 f2 g0 g1 g2
            obtain ⟨f0, f1, f2⟩ := box_free HX1.out
            obtain ⟨g0, g1, g2⟩ := b3_cells HX1.out
            obtain ⟨t0, t1, t2⟩ := box_free HX3.out
            obtain ⟨r0, r1, r2⟩ := b3_cells HX3.out
            try dsimp only at r0 r1 r2
            unfold valV zeroV
            go_wp2_with (rw [← HW3.out])
            exact bodyPost_ret (v := .tuple #[.slice none 0 0, .int .i64 50]) (by simp [results, Tryd.results18, go_sem]) rfl ⟨HS3.out.setCell hzw _, by rw [HNON.out]⟩
        by_cases hk3 : k = 3
        · subst hk3
          simp only [show ((3 : UInt8).toNat : Int) = 3 from rfl] at ck hkw
          obtain ⟨o1, hs1, hl1⟩ := lies_from (n := 1) (by rw [← HRN.out]; exact HL.out) (by rw [← HRN.out]; exact hcr) (by rw [← HRN.out]; omega)
          rw [← HRN.out, List.drop_one, List.tail_cons] at hl1
          rw [← HRN.out] at hs1
          replace hs1 : ∀ w, (Instr.slice 26 (.slice (some ⟨b, o', none⟩) rn c') (some (.int .i64 1)) none none).run Tryd.prog w = .ok (.slice (some ⟨b, o1, none⟩) (rn - 1) (c' - 1)) w := hs1
          have ht1 : t.length = rn - 1 := by rw [HRN.out]; simp
          have hyt := (hl1.bytes HBW.out).2.2
          have h1 := rtext_any t (some ⟨b, o1, none⟩) (c' - 1) _ hyt (by omega)
          rw [ht1] at h1
          unfold b3 at *
          generalize hc1 : c' - 1 = c1 at *
          generalize hrn1 : rn - 1 = rn1 at *
          have HT1 := Lib.hid h1
          clear h1 hyt hyW
          go_wp2_with fail
          refine HT1.out.mono ?_
          clear ck f0 f1 f2 g0 g1 g2
          rintro e w1 ⟨rfl, hb1⟩
          have HX1 : Hid (w1.heap[wr.heap.size]? = some (b3 ⟨0, 0, ⟨#[]⟩⟩ 43)) := (hb1.block _ (by simp)).trans HXB.out
          have HB1 := Lib.hid (HBW.out.trans (hb1.mono (by simp; omega)))
          have HO1 := Lib.hid (HOW.out.later hb1)
          have hz1 : wr.heap.size < w1.heap.size := by have := hb1.size; simp at this; omega
          have ck : w1.cell? ⟨b, o', none⟩ = some (.int .u8 3) := by
            obtain ⟨b2, o2, hA, -, hcl⟩ := (HL.out.bytes HB1.out).2.2 (by simp)
            simp at hA
            obtain ⟨rfl, rfl⟩ := hA
            exact hcl 0 (by simp)
          obtain ⟨f0, f1, f2⟩ := box_free HX1.out
          obtain ⟨g0, g1, g2⟩ := b3_cells HX1.out
          clear hb1
          have HSB : Hid (∀ x y z, Below w.heap.size w (((w1.setCell ⟨wr.heap.size, 0, none⟩ x).setCell ⟨wr.heap.size, 1, none⟩ y).setCell ⟨wr.heap.size, 2, none⟩ z)) := fun x y z => Below.set3' HB1.out hzw x y z
          have hrt : rVal true (3 :: t) = (unesc t).map fun p => (⟨3, 0, ⟨p.1.toArray⟩⟩, 1 + p.2) := rfl
          unfold textOf
          cases hu : unesc t with
          | none =>
            rw [hu] at hrt
            have HNON := Lib.hid (HR.out.non hr0 hrt)
            clear hrt hu
            rw [Option.getD_none]
            go_wp2_with fail
            exact bodyPost_ret (v := .tuple #[.slice none 0 0, .int .i64 50]) (by simp [results, Tryd.results18, go_sem]) rfl ⟨HB1.out, by rw [HNON.out]⟩
          | some p =>
            obtain ⟨p, k2⟩ := p
            rw [hu] at hrt
            have hrv : rVal true (3 :: t) = some (⟨3, 0, ⟨p.toArray⟩⟩, 1 + k2) := hrt
            rw [Option.getD_some]
            have hp : 0 < k2 := by
              obtain ⟨h1, h2⟩ := esc_unesc _ _ _ hu
              have := congrArg List.length h2
              rw [List.length_append, List.length_take] at this
              simp at this
              omega
            have hpi : (k2 : Int) > 0 := by omega
            have hwk : IntKind.i64.wrap ((k2 : Int) + 1) = ((1 + k2 : Nat) : Int) := by
              obtain ⟨h1, -⟩ := esc_unesc _ _ _ hu
              rw [IntWalk.i64_in _ (by omega)]
              omega
            clear hu hrt
            generalize hkk : 1 + k2 = kk at *
            obtain ⟨hk0, hk1, -⟩ := wVal_rVal true _ _ _ hrv
            rw [← HRN.out] at hk1
            have hk3 : ((kk : Int) == 0) = false := by rw [beq_eq_false_iff_ne]; omega
            obtain ⟨o3, hs3, hl3⟩ := lies_from (n := kk) (by rw [← HRN.out]; exact HL.out) (by rw [← HRN.out]; exact hcr) (by rw [← HRN.out]; exact hk1)
            rw [← HRN.out] at hs3 hl3
            have HM := Lib.hid (HR.out.more hr0 hrv hl3)
            have HL3 : ((3 :: t).drop kk).length = rn - kk := by rw [List.length_drop, ← HRN.out]
            obtain ⟨v5, w5, hr5, ho5, hb5⟩ := own_next (HSB.out (.int .i64 3) (.int .i64 0) (.string ⟨p.toArray⟩)) (HO1.out.set3 HNB.out _ _ _) (by omega) ⟨3, 0, ⟨p.toArray⟩⟩
            obtain ⟨q0, q1, q2⟩ := b3_cells (cells_set3 HX1.out ⟨3, 0, ⟨p.toArray⟩⟩)
            have H5 := Lib.hid ho5
            have HB5 := Lib.hid hb5
            clear ho5 hb5 hl3 hrv
            simp only [World.size_setCell] at hr5
            try dsimp only at hr5 q0 q1 q2
            go_wp2_with (at_builtin; refine Lib.wpList_append_run_sl _ rfl _ _ 23 rfl _ _ rfl rfl hr5 ?_)
            go_roundw
            case rel => exact ⟨ys ++ [(⟨3, 0, ⟨p.toArray⟩⟩ : V)], (3 :: t).drop kk, by show rn - kk = _; rw [HL3], HM.out, H5.out, HB5.out⟩
            case measure => simp [slLen]; omega
        by_cases hk4 : k = 4
        · subst hk4
          simp only [show ((4 : UInt8).toNat : Int) = 4 from rfl] at ck hkw
          obtain ⟨o1, hs1, hl1⟩ := lies_from (n := 1) (by rw [← HRN.out]; exact HL.out) (by rw [← HRN.out]; exact hcr) (by rw [← HRN.out]; omega)
          rw [← HRN.out, List.drop_one, List.tail_cons] at hl1
          rw [← HRN.out] at hs1
          replace hs1 : ∀ w, (Instr.slice 26 (.slice (some ⟨b, o', none⟩) rn c') (some (.int .i64 1)) none none).run Tryd.prog w = .ok (.slice (some ⟨b, o1, none⟩) (rn - 1) (c' - 1)) w := hs1
          have ht1 : t.length = rn - 1 := by rw [HRN.out]; simp
          have hyt := (hl1.bytes HBW.out).2.2
          have h1 := rtext_any t (some ⟨b, o1, none⟩) (c' - 1) _ hyt (by omega)
          rw [ht1] at h1
          unfold b3 at *
          generalize hc1 : c' - 1 = c1 at *
          generalize hrn1 : rn - 1 = rn1 at *
          have HT1 := Lib.hid h1
          clear h1 hyt hyW
          go_wp2_with fail
          refine HT1.out.mono ?_
          clear ck f0 f1 f2 g0 g1 g2
          rintro e w1 ⟨rfl, hb1⟩
          have HX1 : Hid (w1.heap[wr.heap.size]? = some (b3 ⟨0, 0, ⟨#[]⟩⟩ 43)) := (hb1.block _ (by simp)).trans HXB.out
          have HB1 := Lib.hid (HBW.out.trans (hb1.mono (by simp; omega)))
          have HO1 := Lib.hid (HOW.out.later hb1)
          have hz1 : wr.heap.size < w1.heap.size := by have := hb1.size; simp at this; omega
          have ck : w1.cell? ⟨b, o', none⟩ = some (.int .u8 4) := by
            obtain ⟨b2, o2, hA, -, hcl⟩ := (HL.out.bytes HB1.out).2.2 (by simp)
            simp at hA
            obtain ⟨rfl, rfl⟩ := hA
            exact hcl 0 (by simp)
          obtain ⟨f0, f1, f2⟩ := box_free HX1.out
          obtain ⟨g0, g1, g2⟩ := b3_cells HX1.out
          clear hb1
          have HSB : Hid (∀ x y z, Below w.heap.size w (((w1.setCell ⟨wr.heap.size, 0, none⟩ x).setCell ⟨wr.heap.size, 1, none⟩ y).setCell ⟨wr.heap.size, 2, none⟩ z)) := fun x y z => Below.set3' HB1.out hzw x y z
          have hrt : rVal true (4 :: t) = (unesc t).map fun p => (⟨4, 0, ⟨p.1.toArray⟩⟩, 1 + p.2) := rfl
          unfold textOf
          cases hu : unesc t with
          | none =>
            rw [hu] at hrt
            have HNON := Lib.hid (HR.out.non hr0 hrt)
            clear hrt hu
            rw [Option.getD_none]
            go_wp2_with fail
            exact bodyPost_ret (v := .tuple #[.slice none 0 0, .int .i64 50]) (by simp [results, Tryd.results18, go_sem]) rfl ⟨HB1.out, by rw [HNON.out]⟩
          | some p =>
            obtain ⟨p, k2⟩ := p
            rw [hu] at hrt
            have hrv : rVal true (4 :: t) = some (⟨4, 0, ⟨p.toArray⟩⟩, 1 + k2) := hrt
            rw [Option.getD_some]
            have hp : 0 < k2 := by
              obtain ⟨h1, h2⟩ := esc_unesc _ _ _ hu
              have := congrArg List.length h2
              rw [List.length_append, List.length_take] at this
              simp at this
              omega
            have hpi : (k2 : Int) > 0 := by omega
            have hwk : IntKind.i64.wrap ((k2 : Int) + 1) = ((1 + k2 : Nat) : Int) := by
              obtain ⟨h1, -⟩ := esc_unesc _ _ _ hu
              rw [IntWalk.i64_in _ (by omega)]
              omega
            clear hu hrt
            generalize hkk : 1 + k2 = kk at *
            obtain ⟨hk0, hk1, -⟩ := wVal_rVal true _ _ _ hrv
            rw [← HRN.out] at hk1
            have hk3 : ((kk : Int) == 0) = false := by rw [beq_eq_false_iff_ne]; omega
            obtain ⟨o3, hs3, hl3⟩ := lies_from (n := kk) (by rw [← HRN.out]; exact HL.out) (by rw [← HRN.out]; exact hcr) (by rw [← HRN.out]; exact hk1)
            rw [← HRN.out] at hs3 hl3
            have HM := Lib.hid (HR.out.more hr0 hrv hl3)
            have HL3 : ((4 :: t).drop kk).length = rn - kk := by rw [List.length_drop, ← HRN.out]
            obtain ⟨v5, w5, hr5, ho5, hb5⟩ := own_next (HSB.out (.int .i64 4) (.int .i64 0) (.string ⟨p.toArray⟩)) (HO1.out.set3 HNB.out _ _ _) (by omega) ⟨4, 0, ⟨p.toArray⟩⟩
            obtain ⟨q0, q1, q2⟩ := b3_cells (cells_set3 HX1.out ⟨4, 0, ⟨p.toArray⟩⟩)
            have H5 := Lib.hid ho5
            have HB5 := Lib.hid hb5
            clear ho5 hb5 hl3 hrv
            simp only [World.size_setCell] at hr5
            try dsimp only at hr5 q0 q1 q2
            go_wp2_with (at_builtin; refine Lib.wpList_append_run_sl _ rfl _ _ 23 rfl _ _ rfl rfl hr5 ?_)
            go_roundw
            case rel => exact ⟨ys ++ [(⟨4, 0, ⟨p.toArray⟩⟩ : V)], (4 :: t).drop kk, by show rn - kk = _; rw [HL3], HM.out, H5.out, HB5.out⟩
            case measure => simp [slLen]; omega
        have hr : rVal true (k :: t) = none := by
          show rOf true k t = _
          unfold rOf
          rw [if_neg hk0, if_neg hk1, if_neg hk2, if_neg (fun h => h.elim hk3 hk4)]
        have HNON := Lib.hid (HR.out.non hr0 hr)
        have key : ∀ (u : UInt8) (i : Int), k ≠ u → (u.toNat : Int) = i → ((k.toNat : Int) == i) = false := fun u i h hi => by
          rw [beq_eq_false_iff_ne, ← hi]
          intro e
          exact h (UInt8.toNat_inj.1 (by omega))
        have e0 := key 0 0 hk0 rfl
        have e1 := key 1 1 hk1 rfl
        have e2 := key 2 2 hk2 rfl
        have e3 := key 3 3 hk3 rfl
        have e4 := key 4 4 hk4 rfl
        clear hk0 hk1 hk2 hk3 hk4 hr key hyW
        generalize (k.toNat : Int) = kn at *
        unfold b3 at *
        go_wp2_with fail
        exact bodyPost_ret (v := .tuple #[.slice none 0 0, .int .i64 50]) (by simp [results, Tryd.results18, go_sem]) rfl ⟨HBW.out, by rw [HNON.out]⟩
end Go.Proofs.YtnpemegklndegaaDoor
