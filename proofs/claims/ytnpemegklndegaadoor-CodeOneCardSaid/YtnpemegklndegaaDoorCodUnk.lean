/- Contract of code's Unkey: the row whose key the bytes are; or that they are none's. Condition: no more than a million bytes. -/
import Derived.Test.YtnpemegklndegaaDoorCodDec
namespace Go.Proofs.YtnpemegklndegaaDoor
open Go.RowKit
set_option maxRecDepth 100000 in
set_option maxHeartbeats 2000000 in
theorem unkey_nil (A : Option Addr) (c : Nat) (w : World) : Calls Tryd.prog 17 #[.slice A 0 c] w (GaveU w (some [])) := by
  go_enter Tryd.func17, Tryd.ntmps17
  go_wp2_with fail
  go_loopw [0, 4] (fun bv rv wr => bv = .slice A 0 c ∧ rv = .slice none 0 0 ∧ wr = w) (fun bv _ _ => slLen bv)
  case atStart => exact ⟨rfl, rfl, rfl⟩
  case round =>
    obtain ⟨rfl, rfl, rfl⟩ := hrel
    go_wp2_with fail
    exact bodyPost_ret (v := .tuple #[.slice none 0 0, .int .i64 0]) (by simp [results, Tryd.results17, go_sem]) rfl ⟨Below.refl _ _, none, 0, rfl, by simp, fun h => by simp at h⟩
set_option maxRecDepth 100000 in
set_option maxHeartbeats 2000000 in
theorem unkey_any (l : List UInt8) (A : Option Addr) (c : Nat) (w : World) (hy : BytesAt w w.heap.size A l) (hc : l.length ≤ c) (hm : l.length ≤ 1000000) :
    Calls Tryd.prog 17 #[.slice A l.length c] w (GaveU w (rAll 64 l)) := by
  by_cases hl0 : l = []
  · subst hl0
    exact unkey_nil A c w
  · have hpos : 0 < l.length := by cases l <;> simp at hl0 ⊢
    obtain ⟨b, off, rfl, hbl, -⟩ := hy hpos
    have HLT : Hid (LiesS w b (.slice (some ⟨b, off, none⟩) l.length c) l) := ⟨off, _, rfl, hc, hy⟩
    clear hy hc hpos hl0
    generalize hn : l.length = n at *
    have HN := Lib.hid hn
    clear hn
    go_enter Tryd.func17, Tryd.ntmps17
    go_wp2_with fail
    go_loopw [0, 4] (fun bv rv wr => ∃ (ys : List V) (r : List UInt8), slLen bv = r.length ∧ Hid (ReadK w b l ys bv r) ∧ Hid (OwnV wr w.heap.size rv ys) ∧ Hid (Below w.heap.size w wr)) (fun bv _ _ => slLen bv)
    case atStart => exact ⟨[], l, HN.out.symm, ReadK.start HLT.out, OwnV.nil _ _, Below.refl _ _⟩
    case round =>
      obtain ⟨ys, r, hsl, HR, HO, HB⟩ := hrel
      obtain ⟨o', c', rfl, hcr, -⟩ := HR.out.lies
      have hrm : r.length ≤ 1000000 := by have h1 := HR.out.le; have h2 := HN.out; omega
      have hyl := HR.out.len
      obtain ⟨Ar, cr, rfl, hyc, -, hrow⟩ := HO.out.row
      have HROW := Lib.hid hrow
      clear hrow hsl
      have HYL : Hid (∀ z, z = ys.length → ys.length = z) := fun z h => h.symm
      by_cases hr0 : r = []
      · subst hr0
        have HD := Lib.hid (HR.out.done)
        obtain ⟨ny, hny⟩ : ∃ ny, ny = ys.length := ⟨_, rfl⟩
        have HNY := Lib.hid hny
        rw [← hny] at hyc ⊢
        clear hny
        simp only [List.length_nil] at hcr hrm ⊢
        go_wp2_with fail
        exact bodyPost_ret (v := .tuple #[.slice Ar ny cr, .int .i64 0]) (by simp [results, Tryd.results17, go_sem]) rfl ⟨HB.out, by rw [HD.out]; exact ⟨Ar, cr, by rw [HNY.out], by rw [← HNY.out]; exact hyc, HROW.out⟩⟩
      · have hrp : (r.length : Int) > 0 := by cases r <;> simp at hr0 ⊢
        go_wp2_with fail
        refine (ordered_any _).mono ?_
        rintro e w1 ⟨rfl, hb1⟩
        have HB1 := Lib.hid (HB.out.trans (hb1.mono HB.out.size))
        have hrd := readOrdered r (some ⟨b, o', none⟩) c' w1 (HR.out.lies.bytes HB1.out).2.2 hcr hrm
        unfold formV at hrd ⊢
        have HRD := Lib.hid hrd
        have HO1 := Lib.hid (HO.out.later hb1)
        clear hrd hb1
        generalize hrl : r.length = rl at *
        generalize hny : ys.length = ny at *
        go_wp2_with fail
        refine HRD.out.mono ?_
        rintro e w2 ⟨hb2, he⟩
        have HB2 := Lib.hid (HB1.out.trans (hb2.mono HB1.out.size))
        have HO2 := Lib.hid (HO1.out.later hb2)
        have HFB : Hid (∀ o, Below w.heap.size w (w2.alloc o)) := fun o => HB2.out.alloc HB2.out.size o
        clear hb2
        cases hrv : rVal true r with
        | none =>
          rw [hrv] at he
          subst he
          have HNON := Lib.hid (HR.out.non hr0 hrv)
          clear hrv
          go_wp2_with fail
          exact bodyPost_ret (v := .tuple #[.slice none 0 0, .int .i64 50]) (by simp [results, Tryd.results17, go_sem]) rfl ⟨HFB.out _, by rw [HNON.out]⟩
        | some p =>
          obtain ⟨v, k2⟩ := p
          rw [hrv] at he
          obtain ⟨u, b', off', hbb, rfl, hu⟩ := he
          simp only [Option.some.injEq, Addr.mk.injEq, and_true] at hbb
          obtain ⟨rfl, rfl⟩ := hbb
          obtain ⟨hk0, hk1, -⟩ := wVal_rVal true r v k2 hrv
          have hu0 := hu.back HB2.out hbl
          unfold valV
          by_cases h64 : ny = 64
          · subst h64
            have HNON := Lib.hid (HR.out.full hr0 hny)
            obtain ⟨o3, c3', rfl, -, -⟩ := hu0
            clear hrv hu
            generalize (r.drop k2).length = n3 at *
            go_wp2_with fail
            exact bodyPost_ret (v := .tuple #[.slice none 0 0, .int .i64 50]) (by simp [results, Tryd.results17, go_sem]) rfl ⟨HFB.out _, by rw [HNON.out]⟩
          · have h64' : ((ny : Int) == 64) = false := by rw [beq_eq_false_iff_ne]; omega
            have HM := Lib.hid (HR.out.more hr0 (by omega) hrv hu0)
            obtain ⟨o3, c3', rfl, -, -⟩ := hu0
            clear hrv hu h64
            obtain ⟨g0, g1, g2⟩ := b3_cells (heap_alloc_new w2 (b3 v 43))
            have HO3 := HO2.out.later ((Below.refl _ w2).alloc (Nat.le_refl _) (b3 v 43))
            have HO4 := HO3.later ((Below.refl _ _).alloc (Nat.le_refl _) (b3 v 43))
            obtain ⟨v5, w5, hr5, ho5, hg5, -⟩ := ownV_app HO4 [v] (some ⟨(w2.alloc (b3 v 43)).heap.size, 0, none⟩) 1 (row_new _ v) (by simp; omega) (by have := HB2.out.size; simp; omega)
            have hb5 := ownV_below ((HFB.out (b3 v 43)).alloc (HFB.out (b3 v 43)).size (b3 v 43)) HO4 hg5 (by have := HB2.out.size; simp; omega)
            have H5 := Lib.hid ho5
            have HB5 := Lib.hid hb5
            clear HO3 HO4 ho5 hg5 hb5
            simp only [List.length_singleton] at hr5
            rw [alloc_size] at hr5
            unfold b3 at *
            rw [List.length_drop, hrl] at HM ⊢
            go_wp2_with (at_builtin; refine Lib.wpList_append_run_sl _ rfl _ _ 23 rfl _ _ rfl rfl hr5 ?_)
            go_roundw
            case rel => exact ⟨ys ++ [v], r.drop k2, by simp [slLen, hrl], HM.out, H5.out, HB5.out⟩
            case measure => simp [slLen]; omega
end Go.Proofs.YtnpemegklndegaaDoor
