/- Contract of code's Decode: the row whose bytes stand at the beginning, and how many these are; or that there is none. Condition: no more than a million bytes. -/
import Derived.Test.YtnpemegklndegaaDoorCodDec0
import Derived.BigRegion
namespace Go.Proofs.YtnpemegklndegaaDoor
open Go.RowKit
set_option maxRecDepth 100000 in
set_option maxHeartbeats 2000000 in
theorem decode_nil (A : Option Addr) (c : Nat) (w : World) : Calls Tryd.prog 15 #[.slice A 0 c] w (GaveD w none) := by
  go_enter Tryd.func15, Tryd.ntmps15
  go_wp2_with fail
  exact bodyPost_ret (v := .tuple #[.slice none 0 0, .int .i64 0, .int .i64 50]) (by simp [results, Tryd.results15, go_sem]) rfl ⟨Below.refl _ _, rfl⟩
set_option maxRecDepth 100000 in
set_option maxHeartbeats 2000000 in
theorem decode_any (l : List UInt8) (A : Option Addr) (c : Nat) (w : World) (hy : BytesAt w w.heap.size A l) (hc : l.length ≤ c) (hm : l.length ≤ 1000000) :
    Calls Tryd.prog 15 #[.slice A l.length c] w (GaveD w (dec l)) := by
  cases l with
  | nil => exact decode_nil A c w
  | cons k t =>
    obtain ⟨b, off, rfl, hbl, hcl⟩ := hy (by simp)
    have ck := hcl 0 (by simp)
    simp only [List.getElem_cons_zero, Nat.add_zero] at ck
    obtain ⟨o1, hs1, hy1⟩ := slice_from b off (k :: t).length c 1 .i64 (by simp) hc
    have hyt := hy1 w _ _ rfl hy
    rw [List.drop_one, List.tail_cons] at hyt
    replace hs1 : ∀ w, (Instr.slice 26 (.slice (some ⟨b, off, none⟩) (t.length + 1) c) (some (.int .i64 1)) none none).run Tryd.prog w = .ok (.slice (some ⟨b, o1, none⟩) t.length (c - 1)) w := hs1
    rw [List.length_cons] at hm hc ⊢
    have hct : t.length ≤ c - 1 := by omega
    have HLT : Hid (LiesS w b (.slice (some ⟨b, o1, none⟩) t.length (c - 1)) t) := ⟨o1, _, rfl, hct, hyt⟩
    generalize c - 1 = c1 at *
    have hn1 : ¬ ((t.length : Int) + 1 = 0) := by omega
    have hn2 : ((t.length : Int) + 1 == 0) = false := by rw [beq_eq_false_iff_ne]; omega
    have hn3 : (0 : Int) < (t.length : Int) + 1 := by omega
    clear hy hcl hy1 hyt
    have hd : dec (k :: t) = if 64 < k.toNat then none else (rVals false k.toNat t).map fun q => (q.1, 1 + q.2) := rfl
    rw [hd]
    by_cases h64 : 64 < k.toNat
    · rw [if_pos h64]
      have h64' : (k.toNat : Int) > 64 := by omega
      generalize t.length = q at *
      generalize (k.toNat : Int) = kn at *
      go_enter Tryd.func15, Tryd.ntmps15
      go_wp2_with fail
      exact bodyPost_ret (v := .tuple #[.slice none 0 0, .int .i64 0, .int .i64 50]) (by simp [results, Tryd.results15, go_sem]) rfl ⟨Below.refl _ _, rfl⟩
    · rw [if_neg h64]
      have h64' : ¬ ((k.toNat : Int) > 64) := by omega
      have hmk := make_any k
      have HOWN : Hid (∀ w' : World, w'.heap.size = w.heap.size → OwnV (w'.alloc (.cells (madeCells #[.int .i64 0, .int .i64 0, .string ⟨#[]⟩] (k.toNat * 3)) 43)) w.heap.size (.slice (some ⟨w.heap.size, 0, none⟩) k.toNat k.toNat) (List.replicate k.toNat zeroV)) := fun w' h => by
        rw [← h]
        exact ownV_made w' _ _ (Nat.le_refl _) (by omega)
      generalize madeCells #[.int .i64 0, .int .i64 0, .string ⟨#[]⟩] (k.toNat * 3) = O at *
      generalize hn : k.toNat = n at *
      have hn64 : n ≤ 64 := by omega
      obtain ⟨q, hq⟩ : ∃ q, q = t.length := ⟨_, rfl⟩
      rw [← hq] at hs1 HLT hct hn1 hn2 hn3 hm hc ⊢
      have HQ := Lib.hid hq
      have hqm : q ≤ 1000000 := by omega
      clear hq hd h64
      go_enter Tryd.func15, Tryd.ntmps15
      go_wp2_with fail
      go_region
      go_wp2_with fail
      have HOW := Lib.hid ((HOWN.out w rfl).later (Below.refl _ _).drew)
      have HBW := Lib.hid (((Below.refl _ w).alloc (Nat.le_refl _) (.cells O 43)).drew)
      clear HOWN hmk ck
      generalize (w.alloc (.cells O 43)).drew = W3 at *
      go_loopw [6, 26] (fun bv i wr => ∃ (j : Nat) (zs : List V) (r : List UInt8) (m : Nat), j ≤ n ∧ i = .int .i64 j ∧ zs.length = n ∧ Hid (Read w b n t j (zs.take j) bv r m) ∧ Hid (OwnV wr w.heap.size (.slice (some ⟨w.heap.size, 0, none⟩) n n) zs) ∧ Hid (Below w.heap.size w wr)) (fun _ i _ => n - (intOf i).toNat)
      case atStart => exact ⟨0, List.replicate n zeroV, t, 0, Nat.zero_le _, rfl, by simp, Read.start HLT.out, HOW.out, HBW.out⟩
      case round =>
        obtain ⟨j, zs, r, m, hj, rfl, hzs, HR, HO, HB⟩ := hrel
        by_cases hlt : j < n
        · obtain ⟨o', c', rfl, hcr, -⟩ := HR.out.lies
          have hrm : r.length ≤ 1000000 := by have h1 := HR.out.rest; have h2 := HQ.out; rw [h1, List.length_drop]; omega
          go_wp2_with fail
          refine (plain_any _).mono ?_
          rintro e w1 ⟨rfl, hb1⟩
          have HB1 := Lib.hid (HB.out.trans (hb1.mono HB.out.size))
          have hrd := readPlain r (some ⟨b, o', none⟩) c' w1 (HR.out.lies.bytes HB1.out).2.2 hcr hrm
          unfold formV at hrd ⊢
          have HRD := Lib.hid hrd
          have HO1 := Lib.hid (HO.out.later hb1)
          clear hrd hb1
          generalize hrl : r.length = rl at *
          go_wp2_with fail
          refine HRD.out.mono ?_
          rintro e w2 ⟨hb2, he⟩
          have HB2 := Lib.hid (HB1.out.trans (hb2.mono HB1.out.size))
          have HO2 := Lib.hid (HO1.out.later hb2)
          obtain ⟨g0, g1, g2⟩ := HO2.out.cellsAt hzs j hlt
          have f0 := HO2.out.thaw hzs (j * 3)
          have f1 := HO2.out.thaw hzs (j * 3 + 1)
          have f2 := HO2.out.thaw hzs (j * 3 + 2)
          clear hb2
          cases hrv : rVal false r with
          | none =>
            rw [hrv] at he
            subst he
            have HNON := Lib.hid (HR.out.non hlt hrv)
            have HFB : Hid (∀ x y z, Below w.heap.size w (((w2.setCell ⟨w.heap.size, j * 3, none⟩ x).setCell ⟨w.heap.size, j * 3 + 1, none⟩ y).setCell ⟨w.heap.size, j * 3 + 2, none⟩ z)) := fun x y z => ((HB2.out.setCell (Nat.le_refl _) _).setCell (Nat.le_refl _) _).setCell (Nat.le_refl _) _
            clear hrv
            go_wp2_with fail
            exact bodyPost_ret (v := .tuple #[.slice none 0 0, .int .i64 0, .int .i64 50]) (by simp [results, Tryd.results15, go_sem]) rfl ⟨HFB.out _ _ _, by rw [HNON.out]; rfl⟩
          | some p =>
            obtain ⟨v, k2⟩ := p
            rw [hrv] at he
            obtain ⟨u, b', off', hbb, rfl, hu⟩ := he
            simp only [Option.some.injEq, Addr.mk.injEq, and_true] at hbb
            obtain ⟨rfl, rfl⟩ := hbb
            have hu0 := hu.back HB2.out hbl
            have HM := Lib.hid (HR.out.more hlt hrv hu0)
            obtain ⟨o3, c3', rfl, -, -⟩ := hu0
            have HS := Lib.hid (HO2.out.stored hzs j hlt v)
            have HFB : Hid (∀ x y z, Below w.heap.size w (((w2.setCell ⟨w.heap.size, j * 3, none⟩ x).setCell ⟨w.heap.size, j * 3 + 1, none⟩ y).setCell ⟨w.heap.size, j * 3 + 2, none⟩ z)) := fun x y z => ((HB2.out.setCell (Nat.le_refl _) _).setCell (Nat.le_refl _) _).setCell (Nat.le_refl _) _
            have HT : Hid ((zs.set j v).take (j + 1) = zs.take j ++ [v]) := by
              show _ = _
              rw [List.take_succ_eq_append_getElem (by rw [List.length_set]; omega), List.take_set_of_le (Nat.le_refl _)]
              simp
            clear hrv hu
            generalize (r.drop k2).length = n3 at *
            unfold valV
            go_wp2_with fail
            go_roundw
            case rel => exact ⟨j + 1, zs.set j v, r.drop k2, m + k2, by omega, by go_num, by rw [List.length_set]; exact hzs, by show Read _ _ _ _ _ _ _ _ _; rw [HT.out]; exact HM.out, HS.out, HFB.out _ _ _⟩
            case measure => simp [intOf]; omega
        · obtain rfl : j = n := by omega
          have HT : Hid (zs.take zs.length = zs) := List.take_length
          obtain ⟨o', c', rfl, -, -⟩ := HR.out.lies
          have h1 := HR.out
          rw [← hzs, HT.out] at h1
          obtain ⟨h2, h3⟩ := h1.done
          rw [hzs] at h2
          have h4 := HQ.out
          have hsub : (q : Int) + 1 - (r.length : Int) = ((1 + m : Nat) : Int) := by omega
          have hsw := IntWalk.i64_in ((q : Int) + 1 - (r.length : Int)) (by omega)
          rw [hsub] at hsw
          have H2 : Hid ((rVals false zs.length t).map (fun q => (q.1, 1 + q.2)) = some (zs, 1 + m)) := by show _ = _; rw [hzs, h2]; rfl
          rw [hzs] at H2
          clear h1 h2 h3 h4
          generalize r.length = rl at *
          generalize 1 + m = mm at *
          go_wp2_with fail
          exact bodyPost_ret (v := .tuple #[.slice (some ⟨w.heap.size, 0, none⟩) j j, .int .i64 mm, .int .i64 0]) (by simp [results, Tryd.results15, go_sem]) rfl ⟨HB.out, by rw [H2.out]; obtain ⟨A, cc, hv, hcc, -, hrow⟩ := HO.out.row; cases hv; exact ⟨_, _, by rw [hzs], by omega, hrow⟩⟩
end Go.Proofs.YtnpemegklndegaaDoor
