/- Contract of the reference's Decode: the row whose bytes stand at the beginning, and how many these are; or that there is none. Condition: no more than a million bytes. -/
import Derived.Test.YtnpemegklndegaaDoorCodRText
namespace Go.Proofs.YtnpemegklndegaaDoor
open Go.RowKit
structure RowR (n : Nat) (t : List UInt8) (j : Nat) (ys : List V) (m : Nat) : Prop where
  le : m ≤ t.length
  len : ys.length = j
  row : rVals false n t = (rVals false (n - j) (t.drop m)).map fun q => (ys ++ q.1, m + q.2)
theorem RowR.start (n : Nat) (t : List UInt8) : RowR n t 0 [] 0 := ⟨Nat.zero_le _, rfl, by rw [List.drop_zero, Nat.sub_zero]; cases rVals false n t <;> simp⟩
theorem RowR.non {n : Nat} {t : List UInt8} {j : Nat} {ys : List V} {m : Nat} (h : RowR n t j ys m) (hj : j < n) (hr : rVal false (t.drop m) = none) : rVals false n t = none := by
  rw [h.row, show n - j = (n - (j + 1)) + 1 by omega]
  simp [rVals, hr]
theorem RowR.more {n : Nat} {t : List UInt8} {j : Nat} {ys : List V} {m : Nat} (h : RowR n t j ys m) (hj : j < n) {v : V} {k : Nat} (hr : rVal false (t.drop m) = some (v, k)) : RowR n t (j + 1) (ys ++ [v]) (m + k) := by
  obtain ⟨-, hk, -⟩ := wVal_rVal false _ v k hr
  have hle := h.le
  rw [List.length_drop] at hk
  refine ⟨by omega, by rw [List.length_append, h.len]; rfl, ?_⟩
  rw [h.row, show n - j = (n - (j + 1)) + 1 by omega]
  simp only [rVals, hr, Option.bind_some, List.drop_drop]
  cases rVals false (n - (j + 1)) (t.drop (m + k)) with
  | none => rfl
  | some q => simp; omega
theorem RowR.done {n : Nat} {t : List UInt8} {ys : List V} {m : Nat} (h : RowR n t n ys m) : rVals false n t = some (ys, m) := by
  rw [h.row, Nat.sub_self]
  simp [rVals]
set_option maxRecDepth 100000 in
set_option maxHeartbeats 2000000 in
theorem rdecode_nil (A : Option Addr) (c : Nat) (w : World) : Calls Tryd.prog 16 #[.slice A 0 c] w (GaveD w none) := by
  go_enter Tryd.func16, Tryd.ntmps16
  go_wp2_with fail
  exact bodyPost_ret (v := .tuple #[.slice none 0 0, .int .i64 0, .int .i64 50]) (by simp [results, Tryd.results16, go_sem]) rfl ⟨Below.refl _ _, rfl⟩
set_option maxRecDepth 100000 in
set_option maxHeartbeats 2000000 in
theorem rdecode_any (l : List UInt8) (A : Option Addr) (c : Nat) (w : World) (hy : BytesAt w w.heap.size A l) (hc : l.length ≤ c) (hm : l.length ≤ 1000000) :
    Calls Tryd.prog 16 #[.slice A l.length c] w (GaveD w (dec l)) := by
  cases l with
  | nil => exact rdecode_nil A c w
  | cons k t =>
    have HY := Lib.hid hy
    obtain ⟨b, off, rfl, hbl, hcl⟩ := hy (by simp)
    have ck := hcl 0 (by simp)
    simp only [List.getElem_cons_zero, Nat.add_zero] at ck
    rw [List.length_cons] at hm hc ⊢
    have hn1 : ¬ ((t.length : Int) + 1 = 0) := by omega
    have hn2 : ((t.length : Int) + 1 == 0) = false := by rw [beq_eq_false_iff_ne]; omega
    have hn3 : (0 : Int) < (t.length : Int) + 1 := by omega
    clear hcl
    have hd : dec (k :: t) = if 64 < k.toNat then none else (rVals false k.toNat t).map fun q => (q.1, 1 + q.2) := rfl
    rw [hd]
    have hku := k.toNat_lt
    have hkw : IntKind.i64.wrap (k.toNat : Int) = (k.toNat : Int) := by rw [IntWalk.i64_in _ (by omega)]
    by_cases h64 : 64 < k.toNat
    · rw [if_pos h64]
      have h64' : (k.toNat : Int) > 64 := by omega
      generalize t.length = q at *
      generalize (k.toNat : Int) = kn at *
      go_enter Tryd.func16, Tryd.ntmps16
      go_wp2_with fail
      exact bodyPost_ret (v := .tuple #[.slice none 0 0, .int .i64 0, .int .i64 50]) (by simp [results, Tryd.results16, go_sem]) rfl ⟨Below.refl _ _, rfl⟩
    · rw [if_neg h64]
      have h64' : ¬ ((k.toNat : Int) > 64) := by omega
      generalize hn : k.toNat = n at *
      have hn64 : n ≤ 64 := by omega
      obtain ⟨q, hq⟩ : ∃ q, q = t.length := ⟨_, rfl⟩
      rw [← hq] at hn1 hn2 hn3 hm hc ⊢
      have HQ := Lib.hid hq
      have hqm : q ≤ 1000000 := by omega
      clear hq hd h64
      go_enter Tryd.func16, Tryd.ntmps16
      go_wp2_with fail
      clear ck
      go_loopw [5, 6, 22] (fun rv at_ i wr => ∃ (j : Nat) (ys : List V) (m : Nat), j ≤ n ∧ i = .int .i64 j ∧ at_ = .int .i64 ((1 + m : Nat) : Int) ∧ Hid (RowR n t j ys m) ∧ Hid (OwnV wr w.heap.size rv ys) ∧ Hid (Below w.heap.size w wr)) (fun _ _ i _ => n - (intOf i).toNat)
      case atStart => exact ⟨0, [], 0, Nat.zero_le _, rfl, rfl, RowR.start n t, OwnV.nil _ _, Below.refl _ _⟩
      case round =>
        obtain ⟨j, ys, m, hj, rfl, rfl, HR, HO, HB⟩ := hrel
        by_cases hlt : j < n
        · have hmq : m ≤ q := by have := HR.out.le; have := HQ.out; omega
          obtain ⟨o', hs1, hy1⟩ := slice_from b off (q + 1) c (1 + m) .i64 (by omega) hc
          rw [show q + 1 - (1 + m) = q - m by omega] at hs1
          have hyr := (hy1 w _ (k :: t) (by rw [List.length_cons, HQ.out]) HY.out).later HB.out
          rw [Nat.add_comm 1 m, List.drop_succ_cons] at hyr
          have hlen : (t.drop m).length = q - m := by rw [List.length_drop, HQ.out]
          have h1 := rone_any (t.drop m) (some ⟨b, o', none⟩) (c - (1 + m)) wr hyr (by rw [hlen]; omega) (by rw [hlen]; omega)
          rw [hlen] at h1
          have H1 := Lib.hid h1
          clear h1 hyr hy1 hlen
          generalize hmm : 1 + m = mm at *
          generalize q - m = qm at *
          go_wp2_with fail
          refine H1.out.mono ?_
          rintro e w1 ⟨rfl, hb1⟩
          have HB1 := Lib.hid (HB.out.trans (hb1.mono HB.out.size))
          have HO1 := Lib.hid (HO.out.later hb1)
          have HFB : Hid (∀ o, Below w.heap.size w (w1.alloc o)) := fun o => HB1.out.alloc HB1.out.size o
          clear hb1
          cases hrv : rVal false (t.drop m) with
          | none =>
            have ho : oneOf (t.drop m) = (zeroV, 0) := by unfold oneOf; rw [hrv]; rfl
            rw [ho]
            have HNON := Lib.hid (HR.out.non hlt hrv)
            clear hrv ho
            unfold valV zeroV
            go_wp2_with fail
            exact bodyPost_ret (v := .tuple #[.slice none 0 0, .int .i64 0, .int .i64 50]) (by simp [results, Tryd.results16, go_sem]) rfl ⟨HFB.out _, by rw [HNON.out]; rfl⟩
          | some p =>
            obtain ⟨v, k2⟩ := p
            have ho : oneOf (t.drop m) = (v, k2) := by unfold oneOf; rw [hrv]; rfl
            rw [ho]
            obtain ⟨hk0, hk1, -⟩ := wVal_rVal false _ v k2 hrv
            rw [List.length_drop] at hk1
            have hk1' : m + k2 ≤ q := by have := HQ.out; omega
            have HM := Lib.hid (HR.out.more hlt hrv)
            have hk3 : ((k2 : Int) == 0) = false := by rw [beq_eq_false_iff_ne]; omega
            have hk4 : IntKind.i64.wrap ((mm : Int) + (k2 : Int)) = ((1 + (m + k2) : Nat) : Int) := by rw [IntWalk.i64_in _ (by omega)]; omega
            have hyl : ys.length ≤ 64 := by have := HR.out.len; omega
            clear hrv ho hk1
            obtain ⟨g0, g1, g2⟩ := b3_cells (heap_alloc_new w1 (b3 v 43))
            have HO3 := HO1.out.later ((Below.refl _ w1).alloc (Nat.le_refl _) (b3 v 43))
            have HO4 := HO3.later ((Below.refl _ _).alloc (Nat.le_refl _) (b3 v 43))
            obtain ⟨v5, w5, hr5, ho5, hg5, -⟩ := ownV_app HO4 [v] (some ⟨(w1.alloc (b3 v 43)).heap.size, 0, none⟩) 1 (row_new _ v) (by simp; omega) (by have := HB1.out.size; simp; omega)
            have hb5 := ownV_below ((HFB.out (b3 v 43)).alloc (HFB.out (b3 v 43)).size (b3 v 43)) HO4 hg5 (by have := HB1.out.size; simp; omega)
            have H5 := Lib.hid ho5
            have HB5 := Lib.hid hb5
            clear HO3 HO4 ho5 hg5 hb5
            simp only [List.length_singleton] at hr5
            rw [alloc_size] at hr5
            unfold b3 at *
            unfold valV
            go_wp2_with (at_builtin; refine Lib.wpList_append_run_sl _ rfl _ _ 23 rfl _ _ rfl rfl hr5 ?_)
            go_roundw
            case rel => exact ⟨j + 1, ys ++ [v], m + k2, by omega, by go_num, rfl, HM.out, H5.out, HB5.out⟩
            case measure => simp [intOf]; omega
        · obtain rfl : j = n := by omega
          have H2 : Hid ((rVals false j t).map (fun q => (q.1, 1 + q.2)) = some (ys, 1 + m)) := by show _ = _; rw [HR.out.done]; rfl
          have hyl := HR.out.len
          obtain ⟨Ar, cr, rfl, hyc, -, hrow⟩ := HO.out.row
          have HROW := Lib.hid hrow
          clear hrow
          rw [hyl] at hyc ⊢
          have HYL := Lib.hid hyl
          clear hyl HO
          generalize 1 + m = mm at *
          go_wp2_with fail
          exact bodyPost_ret (v := .tuple #[.slice Ar j cr, .int .i64 mm, .int .i64 0]) (by simp [results, Tryd.results16, go_sem]) rfl ⟨HB.out, by rw [H2.out]; exact ⟨Ar, cr, by rw [HYL.out], by rw [HYL.out]; exact hyc, HROW.out⟩⟩
end Go.Proofs.YtnpemegklndegaaDoor
