/- Contract of like's stands: whether a text is what units stand for. Conditions: the text and the units are no longer than 2000. -/
import Derived.Test.YtimlkgbhmkmacaaLikFind
import Derived.Lib.Strings
namespace Go.Proofs.Ytimlkgbhmkmacaa
open Go.RowKit
theorem ext_list (s : ByteArray) (i j : Nat) : (s.extract i j).data.toList = (s.data.toList.drop i).take (j - i) := Lib.extract_data s i j
theorem ext_end (s : ByteArray) (i : Nat) : (s.extract i s.size).data.toList = s.data.toList.drop i := by
  rw [ext_list, List.take_of_length_le (by rw [List.length_drop, size_list]; exact Nat.le_refl _)]
theorem fndI_neg {p : List Int} {l : List UInt8} (h : (fnd p l).isSome = false) : fndI p l < 0 := by
  unfold fndI
  cases e : fnd p l with
  | none => simp
  | some i => rw [e] at h; cases h
theorem fndI_pos {p : List Int} {l : List UInt8} (h : (fnd p l).isSome = true) : 0 ≤ fndI p l := by
  unfold fndI
  cases e : fnd p l with
  | none => rw [e] at h; cases h
  | some i => simp
set_option maxRecDepth 100000 in
set_option maxHeartbeats 2000000 in
theorem stands_none (us : List Int) (s : ByteArray) (A : Option Addr) (c : Nat) (w : World) (h : UAt w A us) (hm : us.length ≤ 2000) (hs : s.size ≤ 2000) (hf : fm us = none) :
    Calls Try.prog 16 #[.string s, .slice A us.length c] w fun e w' => e = .returned (.bool (M us s.data.toList)) ∧ Below w.heap.size w w' := by
  have HC := cut_none us A c w h hm hf
  have HM : Hid (M us s.data.toList = (fits us s.data.toList && M [] (s.data.toList.drop us.length))) := by
    have := M_first (fm_none hf) [] s.data.toList
    rwa [List.append_nil] at this
  obtain ⟨t, ht⟩ : ∃ t, t = s.extract 0 (min us.length s.size) := ⟨_, rfl⟩
  have htl : t.data.toList = s.data.toList.take (min us.length s.data.toList.length) := by rw [ht, ext_list, size_list]; simp
  have hts : t.size ≤ 2000 := by rw [ht, ByteArray.size_extract]; omega
  have HF := fun w' (hb : Below w.heap.size w w') => find_any us t A c w' (h.later hb) hm hts
  rw [htl] at HF
  have hfi := fnd_take us s.data.toList
  obtain ⟨r, hr⟩ : ∃ r, r = fndI us (s.data.toList.take (min us.length s.data.toList.length)) := ⟨_, rfl⟩
  rw [← hr] at HF
  clear htl hts
  by_cases hn : us.length ≤ s.size
  · have hmin : min (us.length : Int) (s.size : Int) = (us.length : Int) := by omega
    rw [show min us.length s.size = us.length by omega] at ht
    subst ht
    cases hfit : fits us s.data.toList
    · rw [hfit] at hfi
      have hr0 : r < 0 := by rw [hr]; exact fndI_neg hfi
      rw [hfit] at HM
      have HC := Lib.hid HC
      have HF := Lib.hid HF
      clear hfi hr hfit hf h
      generalize us.length = n at *
      go_enter Try.func16, Try.ntmps16
      go_wp2_with fail
      refine HC.out.mono ?_
      rintro e w1 ⟨rfl, hb1⟩
      go_wp2_with fail
      refine (HF.out w1 hb1).mono ?_
      rintro e w2 ⟨rfl, rfl⟩
      go_wp2_with fail
      go_ret
      exact ⟨ret_bool (by rw [HM.out]; rfl), hb1⟩
    · rw [hfit] at hfi
      have hr0 : 0 ≤ r := by rw [hr]; exact fndI_pos hfi
      have hr1 : ¬ r < 0 := by omega
      rw [hfit, Bool.true_and] at HM
      have HC := Lib.hid HC
      have HF := Lib.hid HF
      clear hfi hr hfit hf h
      generalize us.length = n at *
      go_enter Try.func16, Try.ntmps16
      go_wp2_with fail
      refine HC.out.mono ?_
      rintro e w1 ⟨rfl, hb1⟩
      go_wp2_with fail
      refine (HF.out w1 hb1).mono ?_
      rintro e w2 ⟨rfl, rfl⟩
      go_wp2_with fail
      go_ret
      refine ⟨ret_bool ?_, hb1⟩
      rw [HM.out, Lib.toList_data, ext_end]
      rfl
  · have hmin : min (us.length : Int) (s.size : Int) = (s.size : Int) := by omega
    have hfit : fits us s.data.toList = false := by
      cases e : fits us s.data.toList with
      | false => rfl
      | true => have := fits_len e; rw [size_list] at this; omega
    rw [show min us.length s.size = s.size by omega, show s.extract 0 s.size = s by apply ByteArray.ext; simp] at ht
    subst ht
    rw [hfit] at hfi
    have hr0 : r < 0 := by rw [hr]; exact fndI_neg hfi
    rw [hfit] at HM
    have HC := Lib.hid HC
    have HF := Lib.hid HF
    clear hfi hr hfit hf h
    generalize us.length = n at *
    go_enter Try.func16, Try.ntmps16
    go_wp2_with fail
    refine HC.out.mono ?_
    rintro e w1 ⟨rfl, hb1⟩
    go_wp2_with fail
    refine (HF.out w1 hb1).mono ?_
    rintro e w2 ⟨rfl, rfl⟩
    go_wp2_with fail
    go_ret
    exact ⟨ret_bool (by rw [HM.out]; rfl), hb1⟩
theorem fndI_some {p : List Int} {l : List UInt8} : decide (0 ≤ fndI p l) = (fnd p l).isSome := by
  cases e : (fnd p l).isSome
  · have := fndI_neg e
    rw [decide_eq_false_iff_not]; omega
  · have := fndI_pos e
    rw [decide_eq_true_iff]; omega
/-- Where a piece is looked for at a text's end. -/
theorem tail_of (s : ByteArray) (n : Nat) : (s.extract (s.size - n) s.size).data.toList = s.data.toList.drop (s.data.toList.length - n) := by rw [ext_end, size_list]
set_option maxRecDepth 100000 in
set_option maxHeartbeats 4000000 in
theorem stands_some (us : List Int) (s : ByteArray) (b off : Nat) (c k : Nat) (w : World) (h : UAt w (some ⟨b, off, none⟩) us) (hm : us.length ≤ 2000) (hcap : us.length ≤ c) (hs : s.size ≤ 2000) (hf : fm us = some k) :
    Calls Try.prog 16 #[.string s, .slice (some ⟨b, off, none⟩) us.length c] w fun e w' => e = .returned (.bool (M us s.data.toList)) ∧ Below w.heap.size w w' := by
  have HC := cut_some us b off c k w h hm hcap hf
  obtain ⟨hk, hpc, hsplit⟩ := fm_some hf
  have hlen : (us.take k).length = k := by rw [List.length_take]; omega
  have HM : Hid (M us s.data.toList = (fits (us.take k) s.data.toList && M (-2 :: us.drop (k + 1)) (s.data.toList.drop k))) := by
    have := M_first hpc (-2 :: us.drop (k + 1)) s.data.toList
    rw [← hsplit, hlen] at this
    exact this
  have HU1 : Hid (UAt w (addrAt (some ⟨b, off, none⟩) c (k + 1)) (us.drop (k + 1))) := h.addr hcap (k + 1)
  have HV : Hid (us.length - (k + 1) = (us.drop (k + 1)).length) := by
    show _ = _
    rw [List.length_drop]
  obtain ⟨t, ht⟩ : ∃ t, t = s.extract 0 (min k s.size) := ⟨_, rfl⟩
  have htl : t.data.toList = s.data.toList.take (min (us.take k).length s.data.toList.length) := by rw [ht, ext_list, size_list, hlen]; simp
  have hts : t.size ≤ 2000 := by rw [ht, ByteArray.size_extract]; omega
  have HF := fun w' (hb : Below w.heap.size w w') => find_any (us.take k) t _ c w' ((h.take k).later hb) (by omega) hts
  rw [htl, hlen] at HF
  have hfi := fnd_take (us.take k) s.data.toList
  rw [hlen] at hfi
  obtain ⟨r, hr⟩ : ∃ r, r = fndI (us.take k) (s.data.toList.take (min k s.data.toList.length)) := ⟨_, rfl⟩
  rw [← hr] at HF
  clear htl hts
  by_cases hn : k ≤ s.size
  · have hmin : min (k : Int) (s.size : Int) = (k : Int) := by omega
    rw [show min k s.size = k by omega] at ht
    subst ht
    cases hfit : fits (us.take k) s.data.toList
    · rw [hfit] at hfi
      have hr0 : r < 0 := by rw [hr]; exact fndI_neg hfi
      rw [hfit] at HM
      have HC := Lib.hid HC
      have HF := Lib.hid HF
      clear hfi hr hfit hf h hpc hsplit hlen HU1 HV
      generalize us.length = n at *
      generalize addrAt (some ⟨b, off, none⟩) c (k + 1) = A2 at *
      go_enter Try.func16, Try.ntmps16
      go_wp2_with fail
      refine HC.out.mono ?_
      rintro e w1 ⟨rfl, hb1⟩
      go_wp2_with fail
      refine (HF.out w1 hb1).mono ?_
      rintro e w2 ⟨rfl, rfl⟩
      go_wp2_with fail
      go_ret
      exact ⟨ret_bool (by rw [HM.out]; rfl), hb1⟩
    · rw [hfit] at hfi
      have hr0 : 0 ≤ r := by rw [hr]; exact fndI_pos hfi
      have hr1 : ¬ r < 0 := by omega
      rw [hfit, Bool.true_and] at HM
      have HC := Lib.hid HC
      have HF := Lib.hid HF
      have HD : Hid ((us.drop (k + 1)).length ≤ 2000 ∧ (us.drop (k + 1)).length ≤ c - (k + 1)) := by
        show _ ∧ _
        rw [List.length_drop]; omega
      clear hfi hr hfit hf h hpc hsplit hlen
      generalize us.length = n at *
      generalize addrAt (some ⟨b, off, none⟩) c (k + 1) = A2 at *
      go_enter Try.func16, Try.ntmps16
      go_wp2_with fail
      refine HC.out.mono ?_
      rintro e w1 ⟨rfl, hb1⟩
      go_wp2_with fail
      refine (HF.out w1 hb1).mono ?_
      rintro e w2 ⟨rfl, rfl⟩
      go_wp2_with fail
      go_loopg [0, 1] (n - (k + 1)) (fun g s0 s1 wx => ∃ (t : ByteArray) (vs : List Int) (A' : Option Addr) (m c' : Nat), s0 = .string t ∧ s1 = .slice A' m c' ∧ m ≤ g ∧ m ≤ c' ∧ t.size ≤ 2000 ∧ m ≤ 2000 ∧ Hid (m = vs.length) ∧ Hid (UAt wx A' vs) ∧ Hid (M us s.data.toList = M (-2 :: vs) t.data.toList) ∧ Below w.heap.size w wx)
      case atStart => exact ⟨_, us.drop (k + 1), A2, _, _, rfl, rfl, Nat.le_refl _, by omega, by rw [ByteArray.size_extract]; omega, by omega, HV.out, HU1.out.later hb1, by show _ = _; rw [HM.out, ext_end], hb1⟩
      case round =>
        obtain ⟨t, vs, A', m, c', rfl, rfl, hmg, hmc, hts, hm2, HL, HUv, HMv, hbr⟩ := hrel
        cases hfv : fm vs with
        | none =>
          have HC2 := Lib.hid (cut_none vs A' c' wr HUv.out (by rw [← HL.out]; omega) hfv)
          rw [← HL.out] at HC2
          obtain ⟨q, hq⟩ : ∃ q, q = t.size - m := ⟨_, rfl⟩
          have hqs : q ≤ t.size := by omega
          have hmax : max ((t.size : Int) - (m : Int)) 0 = (q : Int) := by omega
          have HR := M_last (fm_none hfv) t.data.toList
          rw [← HL.out, size_list, ← hq, ← ext_end] at HR
          have HF2 := Lib.hid (fun w' (hb : Below wr.heap.size wr w') => find_any vs (t.extract q t.size) A' c' w' (HUv.out.later hb) (by rw [← HL.out]; omega) (by rw [ByteArray.size_extract]; omega))
          rw [← HL.out] at HF2
          have HR := Lib.hid HR
          clear hfv hq
          obtain ⟨r2, hr2⟩ : ∃ r2, r2 = fndI vs (t.extract q t.size).data.toList := ⟨_, rfl⟩
          rw [← hr2] at HF2
          have HR2 := Lib.hid hr2
          clear hr2
          go_wp2_with fail
          refine HC2.out.mono ?_
          rintro e w2 ⟨rfl, hb2⟩
          go_wp2_with fail
          refine (HF2.out w2 hb2).mono ?_
          rintro e w3 ⟨rfl, rfl⟩
          go_wp2_with fail
          go_ret
          exact ⟨ret_bool (by rw [HMv.out, HR.out, HR2.out, fndI_some]), bthen hbr hb2⟩
        | some k2 =>
          have hlv := (fm_some hfv).1
          rw [← HL.out] at hlv
          obtain ⟨b', off', hA', -, -⟩ := HUv.out (by rw [← HL.out]; omega)
          subst hA'
          have HC2 := Lib.hid (cut_some vs b' off' c' k2 wr HUv.out (by rw [← HL.out]; omega) (by rw [← HL.out]; exact hmc) hfv)
          rw [← HL.out] at HC2
          have hlk : (vs.take k2).length = k2 := by rw [List.length_take, ← HL.out]; omega
          have HF2 := Lib.hid (fun w' (hb : Below wr.heap.size wr w') => find_any (vs.take k2) t (some ⟨b', off', none⟩) c' w' ((HUv.out.take k2).later hb) (by rw [hlk]; omega) hts)
          rw [hlk] at HF2
          have HR := M_mid (fm_some hfv).2.1 (vs.drop (k2 + 1)) t.data.toList
          rw [← (fm_some hfv).2.2, hlk] at HR
          have HUd := Lib.hid (HUv.out.addr (c := c') (by rw [← HL.out]; exact hmc) (k2 + 1))
          have HLd : Hid (m - (k2 + 1) = (vs.drop (k2 + 1)).length) := by
            show _ = _
            rw [List.length_drop, ← HL.out]
          have HK2 := Lib.hid hlk
          clear hfv hlk
          cases hfd : fnd (vs.take k2) t.data.toList with
          | none =>
            rw [hfd] at HR
            have HR := Lib.hid HR
            rw [show fndI (vs.take k2) t.data.toList = -1 by unfold fndI; rw [hfd]] at HF2
            clear hfd
            go_wp2_with fail
            refine HC2.out.mono ?_
            rintro e w2 ⟨rfl, hb2⟩
            go_wp2_with fail
            refine (HF2.out w2 hb2).mono ?_
            rintro e w3 ⟨rfl, rfl⟩
            go_wp2_with fail
            go_ret
            exact ⟨ret_bool (by rw [HMv.out, HR.out]), bthen hbr hb2⟩
          | some i =>
            rw [hfd] at HR
            have HR := Lib.hid HR
            rw [show fndI (vs.take k2) t.data.toList = i by unfold fndI; rw [hfd]] at HF2
            have hik : i + k2 ≤ t.size := by
              obtain ⟨i1, i2, -⟩ := fnd_some hfd
              have := fits_len i2
              rw [List.length_drop, size_list, HK2.out] at this
              rw [size_list] at i1
              omega
            clear hfd
            go_wp2_with fail
            refine HC2.out.mono ?_
            rintro e w2 ⟨rfl, hb2⟩
            go_wp2_with fail
            refine (HF2.out w2 hb2).mono ?_
            rintro e w3 ⟨rfl, rfl⟩
            go_wp2_with fail
            go_roundg (m - (k2 + 1))
            case measure => omega
            case rel => exact ⟨_, vs.drop (k2 + 1), _, _, _, rfl, rfl, Nat.le_refl _, by omega, by rw [ByteArray.size_extract]; omega, by omega, HLd.out, HUd.out.later hb2, by show _ = _; rw [HMv.out, HR.out, ext_end], bthen hbr hb2⟩
  · have hmin : min (k : Int) (s.size : Int) = (s.size : Int) := by omega
    have hfit : fits (us.take k) s.data.toList = false := by
      cases e : fits (us.take k) s.data.toList with
      | false => rfl
      | true => have := fits_len e; rw [size_list, hlen] at this; omega
    rw [show min k s.size = s.size by omega, show s.extract 0 s.size = s by apply ByteArray.ext; simp] at ht
    subst ht
    rw [hfit] at hfi
    have hr0 : r < 0 := by rw [hr]; exact fndI_neg hfi
    rw [hfit] at HM
    have HC := Lib.hid HC
    have HF := Lib.hid HF
    clear hfi hr hfit hf h hpc hsplit hlen HU1 HV
    generalize us.length = n at *
    generalize addrAt (some ⟨b, off, none⟩) c (k + 1) = A2 at *
    go_enter Try.func16, Try.ntmps16
    go_wp2_with fail
    refine HC.out.mono ?_
    rintro e w1 ⟨rfl, hb1⟩
    go_wp2_with fail
    refine (HF.out w1 hb1).mono ?_
    rintro e w2 ⟨rfl, rfl⟩
    go_wp2_with fail
    go_ret
    exact ⟨ret_bool (by rw [HM.out]; rfl), hb1⟩
end Go.Proofs.Ytimlkgbhmkmacaa
