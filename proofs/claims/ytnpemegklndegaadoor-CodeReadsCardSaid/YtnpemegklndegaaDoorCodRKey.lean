/- Contract of the reference's Key: a row's key, or why it has none. Condition: the row's texts have no more than some hundred thousand bytes in all. -/
import Derived.Test.YtnpemegklndegaaDoorCodREnc
namespace Go.Proofs.YtnpemegklndegaaDoor
open Go.RowKit
set_option maxRecDepth 100000 in
set_option maxHeartbeats 4000000 in
theorem rkey_any (xs : List V) (A : Option Addr) (c : Nat) (w : World) (hr : RowAt w w.heap.size A xs) (hf : ∀ v ∈ xs, v.fits) (hw : rowW xs ≤ 1000000) (hm : xs.length ≤ 1000000) :
    Calls Tryd.prog 14 #[.slice A xs.length c] w (Gave w (encL true xs) (chkR xs)) := by
  have HC := Lib.hid (rcheckRow_any xs A c w hr (by omega))
  have HR := Lib.hid hr
  have HL := Lib.hid (show encL true xs = if chkR xs = 0 then wRow true xs else [] from rfl)
  have HK := Lib.hid (fun h => chk_okv (xs := xs) h hf)
  generalize encL true xs = E at *
  generalize hcr : chkR xs = r at *
  clear hr hf
  by_cases h0 : r = 0
  · subst h0
    obtain ⟨hok, hn⟩ := HK.out rfl
    have HO := Lib.hid hok
    clear hok
    have HX := HL.out
    rw [if_pos rfl] at HX
    have HX' := Lib.hid HX
    clear HX
    obtain ⟨n, hnn⟩ : ∃ n, n = xs.length := ⟨_, rfl⟩
    rw [← hnn] at HC hn ⊢
    have HN := Lib.hid hnn
    clear hnn
    go_enter Tryd.func14, Tryd.ntmps14
    go_wp2_with fail
    refine HC.out.mono ?_
    rintro e w1 ⟨rfl, hb1⟩
    have hz1 := hb1.size
    have H1 := Lib.hid (Own.nil w1 w.heap.size)
    have HB1 := Lib.hid hb1
    go_wp2_with fail
    generalize w1 = W2 at *
    generalize hv0 : Value.slice none 0 0 = v0 at H1
    go_loopw [5, 16] (fun b i wr => ∃ k : Nat, k ≤ n ∧ i = .int .i64 k ∧ Hid (Wrote W2 w.heap.size v0 b ([] ++ wRow true (xs.take k)) wr)) (fun _ i _ => n - (intOf i).toNat)
    case atStart => exact ⟨0, Nat.zero_le _, rfl, by show Wrote _ _ _ _ _ _; simpa [wRow] using Wrote.refl H1.out⟩
    case round =>
      obtain ⟨k, hk, rfl, HW⟩ := hrel
      by_cases hlt : k < n
      · have hkx : k < xs.length := by rw [← HN.out]; exact hlt
        have HX : Hid ([] ++ wRow true (xs.take (k + 1)) = ([] ++ wRow true (xs.take k)) ++ wVal true xs[k]) := by show _ = _; rw [wRow_snoc _ _ _ hkx, List.append_assoc]
        have hLL : ([] ++ wRow true (xs.take k)).length ≤ 2000000 := by
          have h1 := wRow_len true (xs.take k)
          have h2 := rowW_take xs k
          simp only [List.length_append, List.length_nil]
          omega
        have hvs : xs[k].s.size ≤ 500000 := by have := rowW_mem (List.getElem_mem hkx); omega
        have hzr : W2.heap.size ≤ wr.heap.size := HW.out.size
        have hzw : w.heap.size ≤ W2.heap.size := by omega
        have HBl := Lib.hid (HB1.out.trans (HW.out.below H1.out hzw))
        obtain ⟨b', off, hA, hbl, hc⟩ := HR.out (by omega)
        subst hA
        obtain ⟨c1, c2, c3⟩ := hc k hkx
        have d1 := (HBl.out.cell (p := ⟨b', _, none⟩) hbl).trans c1
        have d2 := (HBl.out.cell (p := ⟨b', _, none⟩) hbl).trans c2
        have d3 := (HBl.out.cell (p := ⟨b', _, none⟩) hbl).trans c3
        clear c1 c2 c3 hc
        have hv := (HO.out xs[k] (List.getElem_mem hkx)).1
        generalize [] ++ wRow true (xs.take k) = L at *
        generalize xs[k] = v at *
        rcases may_cases hv with rfl | rfl | rfl | ⟨i, rfl⟩ | ⟨s, rfl⟩ | ⟨s, rfl⟩
        · obtain ⟨v2, w2, hr2, hW2⟩ := (Wrote.refl (own_alloc HW.out.own (b3 ⟨0, 0, ⟨#[]⟩⟩ 43))).one 0 (by omega) (by simp; omega)
          have HW2 := Lib.hid ((HW.out.alloc (b3 ⟨0, 0, ⟨#[]⟩⟩ 43)).trans hW2)
          obtain ⟨g1, g2, g3⟩ := b3_cells (hW2.at (heap_alloc_new wr (b3 ⟨0, 0, ⟨#[]⟩⟩ 43)) (own_new HW.out.own (Nat.le_refl _)))
          have hz2' := hW2.size
          simp at hz2'
          have H2 := Lib.hid hW2
          have HOF := Lib.hid (own_new HW.out.own (Nat.le_refl _))
          clear hW2 hv
          rw [alloc_size] at hr2
          simp only [b3, show ((0 : UInt8).toNat : Int) = 0 from rfl] at hr2 d1 d2 d3 g1 g2 g3
          go_wp2_with (at_builtin; first | (refine Lib.wpList_append_run_sl _ rfl _ _ 26 rfl _ _ rfl rfl hr2 ?_))
          go_roundw
          case rel => exact ⟨k + 1, by omega, by go_num, by show Wrote _ _ _ _ _ _; rw [HX.out]; exact HW2.out⟩
          case measure => simp [intOf]; omega
        · obtain ⟨v2, w2, hr2, hW2⟩ := (Wrote.refl (own_alloc HW.out.own (b3 ⟨1, 0, ⟨#[]⟩⟩ 43))).one 1 (by omega) (by simp; omega)
          have HW2 := Lib.hid ((HW.out.alloc (b3 ⟨1, 0, ⟨#[]⟩⟩ 43)).trans hW2)
          obtain ⟨g1, g2, g3⟩ := b3_cells (hW2.at (heap_alloc_new wr (b3 ⟨1, 0, ⟨#[]⟩⟩ 43)) (own_new HW.out.own (Nat.le_refl _)))
          have hz2' := hW2.size
          simp at hz2'
          have H2 := Lib.hid hW2
          have HOF := Lib.hid (own_new HW.out.own (Nat.le_refl _))
          clear hW2 hv
          rw [alloc_size] at hr2
          simp only [b3, show ((1 : UInt8).toNat : Int) = 1 from rfl] at hr2 d1 d2 d3 g1 g2 g3
          obtain ⟨v3, w3, hr3, hW3⟩ := HW2.out.one 0 (by simp; omega) (by omega)
          have HW3 := Lib.hid hW3
          simp only [show ((0 : UInt8).toNat : Int) = 0 from rfl] at hr3
          clear hW3
          go_wp2_with (at_builtin; first | (refine Lib.wpList_append_run_sl _ rfl _ _ 26 rfl _ _ rfl rfl hr2 ?_) | (refine Lib.wpList_append_run_sl _ rfl _ _ 26 rfl _ _ rfl rfl hr3 ?_))
          go_roundw
          case rel => exact ⟨k + 1, by omega, by go_num, by show Wrote _ _ _ _ _ _; rw [HX.out]; exact by have h := HW3.out; rw [List.append_assoc] at h; exact h⟩
          case measure => simp [intOf]; omega
        · obtain ⟨v2, w2, hr2, hW2⟩ := (Wrote.refl (own_alloc HW.out.own (b3 ⟨1, 1, ⟨#[]⟩⟩ 43))).one 1 (by omega) (by simp; omega)
          have HW2 := Lib.hid ((HW.out.alloc (b3 ⟨1, 1, ⟨#[]⟩⟩ 43)).trans hW2)
          obtain ⟨g1, g2, g3⟩ := b3_cells (hW2.at (heap_alloc_new wr (b3 ⟨1, 1, ⟨#[]⟩⟩ 43)) (own_new HW.out.own (Nat.le_refl _)))
          have hz2' := hW2.size
          simp at hz2'
          have H2 := Lib.hid hW2
          have HOF := Lib.hid (own_new HW.out.own (Nat.le_refl _))
          clear hW2 hv
          rw [alloc_size] at hr2
          simp only [b3, show ((1 : UInt8).toNat : Int) = 1 from rfl] at hr2 d1 d2 d3 g1 g2 g3
          obtain ⟨v3, w3, hr3, hW3⟩ := HW2.out.one 1 (by simp; omega) (by omega)
          have HW3 := Lib.hid hW3
          simp only [show ((1 : UInt8).toNat : Int) = 1 from rfl] at hr3
          clear hW3
          go_wp2_with (at_builtin; first | (refine Lib.wpList_append_run_sl _ rfl _ _ 26 rfl _ _ rfl rfl hr2 ?_) | (refine Lib.wpList_append_run_sl _ rfl _ _ 26 rfl _ _ rfl rfl hr3 ?_))
          go_roundw
          case rel => exact ⟨k + 1, by omega, by go_num, by show Wrote _ _ _ _ _ _; rw [HX.out]; exact by have h := HW3.out; rw [List.append_assoc] at h; exact h⟩
          case measure => simp [intOf]; omega
        · obtain ⟨v2, w2, hr2, hW2⟩ := (Wrote.refl (own_alloc HW.out.own (b3 ⟨2, i, ⟨#[]⟩⟩ 43))).one 2 (by omega) (by simp; omega)
          have HW2 := Lib.hid ((HW.out.alloc (b3 ⟨2, i, ⟨#[]⟩⟩ 43)).trans hW2)
          obtain ⟨g1, g2, g3⟩ := b3_cells (hW2.at (heap_alloc_new wr (b3 ⟨2, i, ⟨#[]⟩⟩ 43)) (own_new HW.out.own (Nat.le_refl _)))
          have hz2' := hW2.size
          simp at hz2'
          have H2 := Lib.hid hW2
          have HOF := Lib.hid (own_new HW.out.own (Nat.le_refl _))
          clear hW2 hv
          rw [alloc_size] at hr2
          simp only [b3, show ((2 : UInt8).toNat : Int) = 2 from rfl] at hr2 d1 d2 d3 g1 g2 g3
          have hx := xor_ordered i
          go_wp2_with (at_builtin; first | (refine Lib.wpList_append_run_sl _ rfl _ _ 26 rfl _ _ rfl rfl hr2 ?_))
          refine (wide8 (trn true (toU i)) _ (trn_lt true _ (toU_lt i))).mono ?_
          rintro e w4 ⟨x4, rfl, ho4, hb4⟩
          obtain ⟨A4, c4, rfl, -, -, hy4⟩ := ho4.bytes
          obtain ⟨v3, w3, hr3, hW3⟩ := (HW2.out.call hb4).app (be (trn true (toU i)) 8) A4 c4 hy4 (by rw [be_length]; simp; omega) (by omega)
          have HW3 := Lib.hid hW3
          rw [be_length] at hr3
          rw [be_length]
          clear hW3 g1 g2 g3 hx hy4 ho4
          go_wp2_with (at_builtin; refine Lib.wpList_append_run_sl _ rfl _ _ 26 rfl _ _ rfl rfl hr3 ?_)
          go_roundw
          case rel => exact ⟨k + 1, by omega, by go_num, by show Wrote _ _ _ _ _ _; rw [HX.out]; exact by have h := HW3.out; rw [List.append_assoc] at h; exact h⟩
          case measure => simp [intOf]; omega
        · obtain ⟨v2, w2, hr2, hW2⟩ := (Wrote.refl (own_alloc HW.out.own (b3 ⟨3, 0, s⟩ 43))).one 3 (by omega) (by simp; omega)
          have HW2 := Lib.hid ((HW.out.alloc (b3 ⟨3, 0, s⟩ 43)).trans hW2)
          obtain ⟨g1, g2, g3⟩ := b3_cells (hW2.at (heap_alloc_new wr (b3 ⟨3, 0, s⟩ 43)) (own_new HW.out.own (Nat.le_refl _)))
          have hz2' := hW2.size
          simp at hz2'
          have H2 := Lib.hid hW2
          have HOF := Lib.hid (own_new HW.out.own (Nat.le_refl _))
          clear hW2 hv
          rw [alloc_size] at hr2
          simp only [b3, show ((3 : UInt8).toNat : Int) = 3 from rfl] at hr2 d1 d2 d3 g1 g2 g3
          have hse : s.data.toList.length = s.size := by simp
          simp only at hvs
          go_wp2_with (at_builtin; first | (refine Lib.wpList_append_run_sl _ rfl _ _ 26 rfl _ _ rfl rfl hr2 ?_))
          have HOG : Hid (v2.ownBlock ≠ some wr.heap.size) := H2.out.offOld HOF.out (by simp)
          have HBX := Lib.hid (H2.out.at (heap_alloc_new wr (b3 ⟨3, 0, s⟩ 43)) (own_new HW.out.own (Nat.le_refl _)))
          obtain ⟨wo, hwo⟩ : ∃ wo : World, wo = wr := ⟨_, rfl⟩
          subst hwo
          have hLL2 : (L ++ [3]).length ≤ 2000001 := by simp; omega
          have HX3 : Hid (wVal true ⟨3, 0, s⟩ = [3] ++ (esc s.data.toList ++ [0, 0])) := by show _ = _; simp [wVal, wOf, wTxt]
          go_loopw [5, 8] (fun o i wi => ∃ j : Nat, j ≤ s.size ∧ i = .int .i64 j ∧ Hid (Wrote w2 w.heap.size v2 o ((L ++ [3]) ++ esc (s.data.toList.take j)) wi)) (fun _ i _ => s.size - (intOf i).toNat)
          case atStart => exact ⟨0, Nat.zero_le _, rfl, by show Wrote _ _ _ _ _ _; simpa [esc] using Wrote.refl HW2.out.own⟩
          case round =>
            obtain ⟨j, hj, rfl, HJ⟩ := hrel
            have k3 := (b3_cells (HJ.out.at HBX.out HOG.out)).2.2
            simp only at k3
            have hzj := HJ.out.size
            have hel := esc_len (s.data.toList.take j)
            have htl : (s.data.toList.take j).length ≤ s.size := by rw [List.length_take]; omega
            by_cases hjl : j < s.size
            · have HX2 : Hid (esc (s.data.toList.take (j + 1)) = esc (s.data.toList.take j) ++ (if s[j] = 0 then [0, 255] else [s[j]])) := esc_snoc _ _ (by simpa using hjl)
              obtain ⟨v4, w4, hr4, hW4⟩ := (Wrote.refl HJ.out.own).one s[j] (by rw [List.length_append]; omega) (by omega)
              have H4 := Lib.hid (HJ.out.trans hW4)
              have k4 := (b3_cells (H4.out.at HBX.out HOG.out)).2.2
              simp only at k4
              have hz4 := hW4.size
              clear hW4
              by_cases hq : s[j] = 0
              · have hb : ((s[j].toNat : Int) == 0) = true := by rw [hq]; rfl
                obtain ⟨v5, w5, hr5, hW5⟩ := H4.out.one 255 (by simp only [List.length_append, List.length_cons, List.length_nil] at hLL2 ⊢; omega) (by omega)
                have HW5 := Lib.hid hW5
                simp only [show ((255 : UInt8).toNat : Int) = 255 from rfl] at hr5
                have HQ := Lib.hid hq
                clear hW5 hq
                go_wp2_with (at_builtin; first | (refine Lib.wpList_append_run_sl _ rfl _ _ 26 rfl _ _ rfl rfl hr4 ?_) | (refine Lib.wpList_append_run_sl _ rfl _ _ 26 rfl _ _ rfl rfl hr5 ?_))
                go_roundw
                case rel => exact ⟨j + 1, by omega, by go_num, by show Wrote _ _ _ _ _ _; rw [HX2.out, if_pos HQ.out]; have h := HW5.out; rw [List.append_assoc, List.append_assoc, HQ.out] at h; exact h⟩
                case measure => simp [intOf]; omega
              · have hb : ((s[j].toNat : Int) == 0) = false := by
                  simp only [beq_eq_false_iff_ne]
                  intro h
                  exact hq (UInt8.toNat_inj.1 (by show s[j].toNat = 0; omega))
                have HQ := Lib.hid hq
                clear hq
                go_wp2_with (at_builtin; refine Lib.wpList_append_run_sl _ rfl _ _ 26 rfl _ _ rfl rfl hr4 ?_)
                go_roundw
                case rel => exact ⟨j + 1, by omega, by go_num, by show Wrote _ _ _ _ _ _; rw [HX2.out, if_neg HQ.out]; have h := H4.out; rw [List.append_assoc] at h; exact h⟩
                case measure => simp [intOf]; omega
            · obtain rfl : j = s.size := by omega
              obtain ⟨v4, w4, hr4, hW4⟩ := (HJ.out).two 0 0 (by rw [List.length_append]; omega) (by omega)
              have H4 := Lib.hid (HW2.out.trans hW4)
              simp only [UInt8.toNat_zero] at hr4
              rw [List.take_of_length_le (by omega)] at H4
              clear hW4
              go_wp2_with (at_builtin; refine Lib.wpList_append_run_sl _ rfl _ _ 26 rfl _ _ rfl rfl hr4 ?_)
              go_roundw
              case rel => exact ⟨k + 1, by omega, by go_num, by show Wrote _ _ _ _ _ _; rw [HX.out, HX3.out]; have h := H4.out; rw [List.append_assoc, List.append_assoc] at h; exact h⟩
              case measure => simp [intOf]; omega
        · obtain ⟨v2, w2, hr2, hW2⟩ := (Wrote.refl (own_alloc HW.out.own (b3 ⟨4, 0, s⟩ 43))).one 4 (by omega) (by simp; omega)
          have HW2 := Lib.hid ((HW.out.alloc (b3 ⟨4, 0, s⟩ 43)).trans hW2)
          obtain ⟨g1, g2, g3⟩ := b3_cells (hW2.at (heap_alloc_new wr (b3 ⟨4, 0, s⟩ 43)) (own_new HW.out.own (Nat.le_refl _)))
          have hz2' := hW2.size
          simp at hz2'
          have H2 := Lib.hid hW2
          have HOF := Lib.hid (own_new HW.out.own (Nat.le_refl _))
          clear hW2 hv
          rw [alloc_size] at hr2
          simp only [b3, show ((4 : UInt8).toNat : Int) = 4 from rfl] at hr2 d1 d2 d3 g1 g2 g3
          have hse : s.data.toList.length = s.size := by simp
          simp only at hvs
          go_wp2_with (at_builtin; first | (refine Lib.wpList_append_run_sl _ rfl _ _ 26 rfl _ _ rfl rfl hr2 ?_))
          have HOG : Hid (v2.ownBlock ≠ some wr.heap.size) := H2.out.offOld HOF.out (by simp)
          have HBX := Lib.hid (H2.out.at (heap_alloc_new wr (b3 ⟨4, 0, s⟩ 43)) (own_new HW.out.own (Nat.le_refl _)))
          obtain ⟨wo, hwo⟩ : ∃ wo : World, wo = wr := ⟨_, rfl⟩
          subst hwo
          have hLL2 : (L ++ [4]).length ≤ 2000001 := by simp; omega
          have HX3 : Hid (wVal true ⟨4, 0, s⟩ = [4] ++ (esc s.data.toList ++ [0, 0])) := by show _ = _; simp [wVal, wOf, wTxt]
          go_loopw [5, 8] (fun o i wi => ∃ j : Nat, j ≤ s.size ∧ i = .int .i64 j ∧ Hid (Wrote w2 w.heap.size v2 o ((L ++ [4]) ++ esc (s.data.toList.take j)) wi)) (fun _ i _ => s.size - (intOf i).toNat)
          case atStart => exact ⟨0, Nat.zero_le _, rfl, by show Wrote _ _ _ _ _ _; simpa [esc] using Wrote.refl HW2.out.own⟩
          case round =>
            obtain ⟨j, hj, rfl, HJ⟩ := hrel
            have k3 := (b3_cells (HJ.out.at HBX.out HOG.out)).2.2
            simp only at k3
            have hzj := HJ.out.size
            have hel := esc_len (s.data.toList.take j)
            have htl : (s.data.toList.take j).length ≤ s.size := by rw [List.length_take]; omega
            by_cases hjl : j < s.size
            · have HX2 : Hid (esc (s.data.toList.take (j + 1)) = esc (s.data.toList.take j) ++ (if s[j] = 0 then [0, 255] else [s[j]])) := esc_snoc _ _ (by simpa using hjl)
              obtain ⟨v4, w4, hr4, hW4⟩ := (Wrote.refl HJ.out.own).one s[j] (by rw [List.length_append]; omega) (by omega)
              have H4 := Lib.hid (HJ.out.trans hW4)
              have k4 := (b3_cells (H4.out.at HBX.out HOG.out)).2.2
              simp only at k4
              have hz4 := hW4.size
              clear hW4
              by_cases hq : s[j] = 0
              · have hb : ((s[j].toNat : Int) == 0) = true := by rw [hq]; rfl
                obtain ⟨v5, w5, hr5, hW5⟩ := H4.out.one 255 (by simp only [List.length_append, List.length_cons, List.length_nil] at hLL2 ⊢; omega) (by omega)
                have HW5 := Lib.hid hW5
                simp only [show ((255 : UInt8).toNat : Int) = 255 from rfl] at hr5
                have HQ := Lib.hid hq
                clear hW5 hq
                go_wp2_with (at_builtin; first | (refine Lib.wpList_append_run_sl _ rfl _ _ 26 rfl _ _ rfl rfl hr4 ?_) | (refine Lib.wpList_append_run_sl _ rfl _ _ 26 rfl _ _ rfl rfl hr5 ?_))
                go_roundw
                case rel => exact ⟨j + 1, by omega, by go_num, by show Wrote _ _ _ _ _ _; rw [HX2.out, if_pos HQ.out]; have h := HW5.out; rw [List.append_assoc, List.append_assoc, HQ.out] at h; exact h⟩
                case measure => simp [intOf]; omega
              · have hb : ((s[j].toNat : Int) == 0) = false := by
                  simp only [beq_eq_false_iff_ne]
                  intro h
                  exact hq (UInt8.toNat_inj.1 (by show s[j].toNat = 0; omega))
                have HQ := Lib.hid hq
                clear hq
                go_wp2_with (at_builtin; refine Lib.wpList_append_run_sl _ rfl _ _ 26 rfl _ _ rfl rfl hr4 ?_)
                go_roundw
                case rel => exact ⟨j + 1, by omega, by go_num, by show Wrote _ _ _ _ _ _; rw [HX2.out, if_neg HQ.out]; have h := H4.out; rw [List.append_assoc] at h; exact h⟩
                case measure => simp [intOf]; omega
            · obtain rfl : j = s.size := by omega
              obtain ⟨v4, w4, hr4, hW4⟩ := (HJ.out).two 0 0 (by rw [List.length_append]; omega) (by omega)
              have H4 := Lib.hid (HW2.out.trans hW4)
              simp only [UInt8.toNat_zero] at hr4
              rw [List.take_of_length_le (by omega)] at H4
              clear hW4
              go_wp2_with (at_builtin; refine Lib.wpList_append_run_sl _ rfl _ _ 26 rfl _ _ rfl rfl hr4 ?_)
              go_roundw
              case rel => exact ⟨k + 1, by omega, by go_num, by show Wrote _ _ _ _ _ _; rw [HX.out, HX3.out]; have h := H4.out; rw [List.append_assoc, List.append_assoc] at h; exact h⟩
              case measure => simp [intOf]; omega
      · obtain rfl : n = k := by omega
        have HT : Hid (Wrote W2 w.heap.size v0 u5 ([] ++ wRow true xs) wr) := by have := HW.out; rw [List.take_of_length_le (by rw [← HN.out]; omega)] at this; exact this
        go_wp2_with fail
        go_ret2
        exact ⟨_, rfl, by rw [HX'.out]; simpa using HT.out.own, HB1.out.trans (HT.out.below H1.out (by omega))⟩
  · have h1 : (r != 0) = true := by simpa using h0
    have HX : Hid (E = []) := by have h := HL.out; rw [if_neg h0] at h; exact h
    obtain ⟨n, hnn⟩ : ∃ n, n = xs.length := ⟨_, rfl⟩
    rw [← hnn] at HC ⊢
    clear hnn h0 hcr
    go_enter Tryd.func14, Tryd.ntmps14
    go_wp2_with fail
    refine HC.out.mono ?_
    rintro e w1 ⟨rfl, hb1⟩
    go_wp2_with fail
    go_ret2
    exact ⟨_, rfl, by rw [HX.out]; exact Own.nil _ _, hb1⟩
end Go.Proofs.YtnpemegklndegaaDoor
