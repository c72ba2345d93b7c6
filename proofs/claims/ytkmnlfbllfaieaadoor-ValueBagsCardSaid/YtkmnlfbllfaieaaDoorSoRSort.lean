/- Contract of the reference's Sorted: the rows, in order. Conditions: no more than a million rows, no row longer than 2 to the 47. -/
import Derived.Test.YtkmnlfbllfaieaaDoorSoApp
namespace Go.Proofs.YtkmnlfbllfaieaaDoor
open Go.RowKit
/-- What the sorting leaves. -/
def RSorted (rs : List R) (w : World) (e : Ending) (w' : World) : Prop := ∃ A c out, e = .returned (.slice A rs.length c) ∧ rs.length ≤ c ∧ RowsAt w' w'.heap.size A out ∧ out.Perm rs ∧ out.Pairwise leR ∧ Below w.heap.size w w'
def RSortOk (n : Nat) : Prop := ∀ (rs : List R) (A : Option Addr) (c : Nat) (w : World), rs.length = n → RowsAt w w.heap.size A rs → (∀ r ∈ rs, r.xs.length ≤ 140737488355328) → rs.length ≤ c → n ≤ 1000000 → Calls Tryd.prog 9 #[.slice A rs.length c] w (RSorted rs w)
set_option maxRecDepth 100000 in
set_option maxHeartbeats 1000000 in
theorem rsort_short (n : Nat) (h2 : n < 2) : RSortOk n := by
  intro rs A c w hn hr hs hc hm
  obtain ⟨v, w2, hrun, ho, hb⟩ := run_append_copy w rs A c hr (by omega)
  obtain ⟨A2, c2, hv, hc2, ha2⟩ := own_rows ho (fun r hr' => (hr.2 r hr').later hb)
  have HP : Hid (RSorted rs w (.returned v) w2) := ⟨A2, c2, rs, by rw [hv], hc2, ha2, List.Perm.refl _, short_sorted (by omega), hb⟩
  clear hr hs ho hb hv hc2 ha2
  rw [hn] at hrun hc ⊢
  clear hn
  have hlt : ((n : Int) < 2) := by omega
  go_enter Tryd.func9, Tryd.ntmps9
  go_wp2_with (at_builtin; refine Lib.wpList_append_run_sl _ rfl _ _ 22 rfl _ _ rfl rfl hrun ?_)
  go_wp2_with fail
  go_ret
  exact HP.out
/-- What is left of both lists is appended. -/
theorem rsort_end (rs la lb out M : List R) (w w2 wr : World) (v : Value) (Aa Ab : Option Addr) (ca cb na nb no : Nat) (hna : na = la.length) (hnb : nb = lb.length) (hno : no = out.length) (hBw : Below w.heap.size w w2) (hb : Below w2.heap.size w2 wr) (ha : RowsAt w2 w2.heap.size Aa la) (hbb : RowsAt w2 w2.heap.size Ab lb)
    (ho : wr.ownsRow w2.heap.size 28 1 v no (vals out)) (e1 : out ++ (la ++ lb) = M) (hp : M.Perm rs) (hsm : M.Pairwise leR) (hrw : ∀ r ∈ rs, RowAt w2 w2.heap.size r.A r.xs) (hm : rs.length ≤ 1000000) :
    ∃ v1 w3 v2 w4, (Builtin.append_ #[22, 22] 22 #[v, .slice Aa na ca]).run Tryd.prog wr = .ok v1 w3 ∧ (Builtin.append_ #[22, 22] 22 #[v1, .slice Ab nb cb]).run Tryd.prog w3 = .ok v2 w4 ∧ RSorted rs w (.returned v2) w4 := by
  subst hna hnb hno
  have hl : out.length + (la.length + lb.length) = rs.length := by rw [← hp.length_eq, ← e1]; simp
  obtain ⟨v1, w3, hrun1, ho3, hg3⟩ := run_append_rows ho la Aa ca (ha.after hb) (by omega) hb.size
  have hb3 : Below w2.heap.size w2 w3 := hb.trans (grown_own ho hg3 hb.size)
  obtain ⟨v2, w4, hrun2, ho4, hg4⟩ := run_append_rows ho3 lb Ab cb (hbb.after hb3) (by omega) hb3.size
  have hb4 : Below w2.heap.size w2 w4 := hb3.trans (grown_own ho3 hg4 hb3.size)
  refine ⟨v1, w3, v2, w4, hrun1, hrun2, ?_⟩
  have e2 : vals out ++ vals la ++ vals lb = vals M := by rw [← e1]; simp [vals]
  have e3 : out.length + la.length + lb.length = M.length := by rw [← e1]; simp; omega
  rw [e2, e3] at ho4
  obtain ⟨A, c', hv, hc', hR⟩ := own_rows ho4 (fun r hr => (hrw r (hp.mem_iff.1 hr)).later hb4)
  exact ⟨A, c', M, by rw [hv, hp.length_eq], by rw [← hp.length_eq]; exact hc', hR, hp, hsm, bthen hBw hb4⟩
set_option maxRecDepth 100000 in
set_option maxHeartbeats 4000000 in
theorem rsort_long (n : Nat) (h2 : 2 ≤ n) (ih : ∀ k, k < n → RSortOk k) : RSortOk n := by
  intro rs A c w hn hr hs hc hm
  obtain ⟨b, off, rfl, -, -⟩ := hr.1 (by omega)
  have H1 : Hid (∀ w', Below w.heap.size w w' → Calls Tryd.prog 9 #[.slice (some ⟨b, off, none⟩) (n / 2) c] w' (RSorted (rs.take (n / 2)) w')) := by
    intro w' hb
    have hl : (rs.take (n / 2)).length = n / 2 := by rw [List.length_take]; omega
    have := ih (n / 2) (by omega) (rs.take (n / 2)) (some ⟨b, off, none⟩) c w' hl (RowsAt.take (hr.after hb) _) (fun r hr' => hs r (List.mem_of_mem_take hr')) (by omega) (by omega)
    rwa [hl] at this
  have H2 : Hid (∀ w', Below w.heap.size w w' → Calls Tryd.prog 9 #[.slice (some ⟨b, off + n / 2, none⟩) (n - n / 2) (c - n / 2)] w' (RSorted (rs.drop (n / 2)) w')) := by
    intro w' hb
    have hl : (rs.drop (n / 2)).length = n - n / 2 := by rw [List.length_drop]; omega
    have := ih (n - n / 2) (by omega) (rs.drop (n / 2)) (some ⟨b, off + n / 2, none⟩) (c - n / 2) w' hl (RowsAt.drop (hr.after hb) _) (fun r hr' => hs r (List.mem_of_mem_drop hr')) (by omega) (by omega)
    rwa [hl] at this
  have HR := Lib.hid hr
  have HS := Lib.hid hs
  have HN := Lib.hid hn
  rw [hn] at hc ⊢
  clear hr hs hn ih
  have hlt : ¬ ((n : Int) < 2) := by omega
  have hq : (n : Int).tdiv 2 = ((n / 2 : Nat) : Int) := rfl
  have hk : n / 2 ≤ n := by omega
  have HK : Hid (n / 2 + n / 2 ≤ n ∧ n ≤ n / 2 + n / 2 + 1) := by show _ ∧ _; omega
  generalize n / 2 = k at *
  go_enter Tryd.func9, Tryd.ntmps9
  go_wp2_with fail
  have HL1 : Hid ((rs.take k).length = k) := by show _ = _; rw [List.length_take, HN.out]; omega
  have HL2 : Hid ((rs.drop k).length = n - k) := by show _ = _; rw [List.length_drop, HN.out]
  have hkc : k < c := by have := HK.out; omega
  have hkc1 : ¬ (c = k) := by omega
  have hkc2 : ¬ (k = c) := by omega
  refine (H1.out w (Below.refl _ w)).mono ?_
  rintro e w1 ⟨A1, c1, l1, rfl, hc1, ha1, hp1, hs1, hb1⟩
  rw [HL1.out] at hc1 ⊢
  have HB1 := Lib.hid hb1
  have HA1 := Lib.hid ha1
  have HP1 := Lib.hid hp1
  have HS1 := Lib.hid hs1
  clear hb1 ha1 hp1 hs1
  go_wp2_with fail
  refine (H2.out w1 HB1.out).mono ?_
  rintro e w2 ⟨A2, c2, l2, rfl, hc2, ha2, hp2, hs2, hb2⟩
  rw [HL2.out] at hc2 ⊢
  have HBw : Hid (Below w.heap.size w w2) := bthen HB1.out hb2
  have HA : Hid (RowsAt w2 w2.heap.size A1 l1) := HA1.out.after hb2
  have HB : Hid (RowsAt w2 w2.heap.size A2 l2) := ha2
  have HPM : Hid ((List.merge l1 l2 rle).Perm rs) := (mrg_perm l1 l2).trans ((HP1.out.append hp2).trans (by rw [List.take_append_drop]))
  have HSM : Hid ((List.merge l1 l2 rle).Pairwise leR) := mrg_sorted HS1.out hs2
  have HRW : Hid (∀ r ∈ rs, RowAt w2 w2.heap.size r.A r.xs) := fun r hr => (HR.out.2 r hr).later HBw.out
  have HN1 : Hid (l1.length = k) := by show _ = _; rw [HP1.out.length_eq, HL1.out]
  have HN2 : Hid (l2.length = n - k) := by show _ = _; rw [hp2.length_eq, HL2.out]
  have HM0 : Hid (([] : List R) ++ List.merge l1 l2 rle = List.merge l1 l2 rle) := rfl
  generalize hM : List.merge l1 l2 rle = M at HPM HSM
  rw [hM] at HM0
  have HM0 : Hid (([] : List R) ++ List.merge l1 l2 rle = M) := hM
  clear hM ha2 hp2 hs2 hb2 H1 H2 HA1 HP1 HS1 HB1 HL1 HL2 hq
  go_wp2_with fail
  go_loopg [3, 4, 5] n (fun g s3 s4 s5 wr => ∃ (Aa : Option Addr) (ca na : Nat) (la : List R) (Ab : Option Addr) (cb nb : Nat) (lb : List R) (no : Nat) (out : List R), s3 = .slice Aa na ca ∧ na ≤ ca ∧ s4 = .slice Ab nb cb ∧ nb ≤ cb ∧ na + nb = g ∧ no + g = n ∧ Hid (na = la.length) ∧ Hid (nb = lb.length) ∧ Hid (no = out.length) ∧ Hid (RowsAt w2 w2.heap.size Aa la) ∧ Hid (RowsAt w2 w2.heap.size Ab lb) ∧ Hid (wr.ownsRow w2.heap.size 28 1 s5 no (vals out)) ∧ Hid (out ++ List.merge la lb rle = M) ∧ Below w2.heap.size w2 wr)
  case atStart =>
    exact ⟨A1, c1, k, l1, A2, c2, n - k, l2, 0, [], rfl, hc1, rfl, hc2, by omega, by omega, HN1.out.symm, HN2.out.symm, rfl, HA, HB, World.ownsRow_nil _ _ _ _, HM0, Below.refl _ _⟩
  case round =>
    obtain ⟨Aa, ca, na, la, Ab, cb, nb, lb, no, out, rfl, hca, rfl, hcb, hg, hog, HNa, HNb, HNo, HAa, HAb, HO, HM, hb⟩ := hrel
    by_cases h0a : na = 0
    · subst h0a
      obtain ⟨v1, w3, v2, w4, hrun1, hrun2, hP⟩ := rsort_end rs la lb out M w w2 wr _ Aa Ab ca cb _ _ _ HNa.out HNb.out HNo.out HBw.out hb HAa.out HAb.out HO.out (by rw [← HM.out]; congr 1; rw [List.eq_nil_of_length_eq_zero HNa.out.symm]; simp) HPM.out HSM.out HRW.out (by rw [HN.out]; exact hm)
      have HP := Lib.hid hP
      clear hP HO HM HAa HAb
      go_wp2_with (first | (at_builtin; refine Lib.wpList_append_run_sl _ rfl _ _ 22 rfl _ _ rfl rfl hrun1 ?_) | (at_builtin; refine Lib.wpList_append_run_sl _ rfl _ _ 22 rfl _ _ rfl rfl hrun2 ?_))
      go_wp2_with fail
      go_ret
      exact HP.out

    · by_cases h0b : nb = 0
      · subst h0b
        obtain ⟨v1, w3, v2, w4, hrun1, hrun2, hP⟩ := rsort_end rs la lb out M w w2 wr _ Aa Ab ca cb _ _ _ HNa.out HNb.out HNo.out HBw.out hb HAa.out HAb.out HO.out (by rw [← HM.out]; congr 1; rw [List.eq_nil_of_length_eq_zero HNb.out.symm]; simp) HPM.out HSM.out HRW.out (by rw [HN.out]; exact hm)
        have HP := Lib.hid hP
        clear hP HO HM HAa HAb
        go_wp2_with (first | (at_builtin; refine Lib.wpList_append_run_sl _ rfl _ _ 22 rfl _ _ rfl rfl hrun1 ?_) | (at_builtin; refine Lib.wpList_append_run_sl _ rfl _ _ 22 rfl _ _ rfl rfl hrun2 ?_))
        go_wp2_with fail
        go_ret
        exact HP.out

      · have h1a : 0 < na := by omega
        have h1b : 0 < nb := by omega
        obtain ⟨i0, hi, hz0, hz1, hz2⟩ := info_parts info28
        obtain ⟨ra, la, rfl⟩ : ∃ r l, la = r :: l := List.exists_cons_of_length_pos (by rw [← HNa.out]; omega)
        obtain ⟨rb, lb, rfl⟩ : ∃ r l, lb = r :: l := List.exists_cons_of_length_pos (by rw [← HNb.out]; omega)
        obtain ⟨ga, oa, hA, hal, hca'⟩ := HAa.out.1 (by simp)
        obtain ⟨gb, ob, hB, hbl, hcb'⟩ := HAb.out.1 (by simp)
        subst hA hB
        have c0a : w2.cell? ⟨ga, oa, none⟩ = some (.slice ra.A ra.xs.length ra.c) := hca' 0 (by simp)
        have c0b : w2.cell? ⟨gb, ob, none⟩ = some (.slice rb.A rb.xs.length rb.c) := hcb' 0 (by simp)
        clear hca' hcb'
        have d1 := (hb.cell (p := ⟨ga, oa, none⟩) hal).trans c0a
        have d2 := (hb.cell (p := ⟨gb, ob, none⟩) hbl).trans c0b
        have HTa : Hid (RowsAt w2 w2.heap.size (some ⟨ga, oa + 1, none⟩) la) := Lib.hid (by simpa using HAa.out.drop 1)
        have HTb : Hid (RowsAt w2 w2.heap.size (some ⟨gb, ob + 1, none⟩) lb) := Lib.hid (by simpa using HAb.out.drop 1)
        have hmb : rb ∈ rs := HPM.out.mem_iff.1 (by rw [← HM.out]; exact List.mem_append_right _ (List.mem_merge_right _ (by simp)))
        have hcall := rcmpR_any rb.xs ra.xs rb.A ra.A rb.c ra.c wr.drew ((HAb.out.2 rb (by simp)).later hb.drew) ((HAa.out.2 ra (by simp)).later hb.drew) (by have := HS.out rb hmb; omega)
        have HX := Lib.hid hcall
        clear hcall hmb
        by_cases hr : cmpR rb.xs ra.xs < 0
        · have HMb : Hid ((out ++ [rb]) ++ List.merge (ra :: la) lb rle = M) := by
            have := HM.out
            rw [mrg_right hr] at this
            rw [List.append_assoc]
            exact this
          generalize cmpR rb.xs ra.xs = r at *
          by_cases hone : cb = 1
          · obtain rfl : nb = 1 := by omega
            subst hone
            have HT0 : Hid (lb = []) := List.eq_nil_of_length_eq_zero (by have := HNb.out; rw [List.length_cons] at this; omega)
            go_wp2_with fail
            go_still_tail 6, (by kernel_rfl)
            change wpList _ _ _ _ _ wr.drew
            go_wp2_with fail
            refine HX.out.mono ?_
            rintro e w3 ⟨rfl, hb3⟩
            have hb3' : Below w2.heap.size w2 w3 := hb.drew.trans (hb3.mono hb.size)
            have HO3 := Lib.hid (own_later HO.out.drew hb3)
            have HB3 := Lib.hid hb3'
            have e1 := (hb3'.cell (p := ⟨gb, ob, none⟩) hbl).trans c0b
            have hz3 := hb3'.size
            clear hb3 d1 d2 HO
            go_wp2_with (at_builtin; refine wpList_append_own _ rfl _ _ 22 rfl w2.heap.size 28 i0 (.slice none 0 0) 1 24 Tryd.underlying22 hi hz0 hz1 hz2 rfl (by decide) _ _ _ rfl (HO3.out.alloc _) ⟨w3.heap.size, 0, none⟩ 1 1 [.slice rb.A rb.xs.length rb.c] rfl rfl (World.news_of_block (heap_alloc_new w3 _)) (by intro u hu; simp at hu; subst hu; rfl) (by unfold maxLen; omega) (by omega) (by simp; omega) ?_)
            intro v5 w4 hown' hgrow _
            obtain ⟨ho4, hb4⟩ := rows_step (r := rb) HB3.out HB3.out.size HO3.out hown' hgrow
            have HO4 := Lib.hid ho4
            clear ho4 hown' hgrow HO3
            go_wp2_with fail
            go_roundg (gk - 1)
            case measure => omega
            case rel => exact ⟨some ⟨ga, oa, none⟩, ca, na, ra :: la, some ⟨gb, ob, none⟩, 0, 0, [], no + 1, out ++ [rb], rfl, hca, rfl, Nat.le_refl _, by omega, by omega, HNa, rfl, by show _ = _; rw [List.length_append, ← HNo.out]; rfl, HAa, ⟨fun h => by simp at h, fun r hr => by simp at hr⟩, HO4, by have h := HMb.out; rw [HT0.out] at h; exact h, hb4⟩
          · have hone1 : ¬ (1 = cb) := by omega
            have hone2 : 1 < cb := by omega
            go_wp2_with fail
            go_still_tail 6, (by kernel_rfl)
            change wpList _ _ _ _ _ wr.drew
            go_wp2_with fail
            refine HX.out.mono ?_
            rintro e w3 ⟨rfl, hb3⟩
            have hb3' : Below w2.heap.size w2 w3 := hb.drew.trans (hb3.mono hb.size)
            have HO3 := Lib.hid (own_later HO.out.drew hb3)
            have HB3 := Lib.hid hb3'
            have e1 := (hb3'.cell (p := ⟨gb, ob, none⟩) hbl).trans c0b
            have hz3 := hb3'.size
            clear hb3 d1 d2 HO
            go_wp2_with (at_builtin; refine wpList_append_own _ rfl _ _ 22 rfl w2.heap.size 28 i0 (.slice none 0 0) 1 24 Tryd.underlying22 hi hz0 hz1 hz2 rfl (by decide) _ _ _ rfl (HO3.out.alloc _) ⟨w3.heap.size, 0, none⟩ 1 1 [.slice rb.A rb.xs.length rb.c] rfl rfl (World.news_of_block (heap_alloc_new w3 _)) (by intro u hu; simp at hu; subst hu; rfl) (by unfold maxLen; omega) (by omega) (by simp; omega) ?_)
            intro v5 w4 hown' hgrow _
            obtain ⟨ho4, hb4⟩ := rows_step (r := rb) HB3.out HB3.out.size HO3.out hown' hgrow
            have HO4 := Lib.hid ho4
            clear ho4 hown' hgrow HO3
            go_wp2_with fail
            go_roundg (gk - 1)
            case measure => omega
            case rel => exact ⟨some ⟨ga, oa, none⟩, ca, na, ra :: la, some ⟨gb, ob + 1, none⟩, cb - 1, nb - 1, lb, no + 1, out ++ [rb], rfl, hca, rfl, by omega, by omega, by omega, HNa, by show _ = _; have := HNb.out; rw [List.length_cons] at this; omega, by show _ = _; rw [List.length_append, ← HNo.out]; rfl, HAa, HTb, HO4, HMb, hb4⟩
        · have HMa : Hid ((out ++ [ra]) ++ List.merge la (rb :: lb) rle = M) := by
            have := HM.out
            rw [mrg_left hr] at this
            rw [List.append_assoc]
            exact this
          generalize cmpR rb.xs ra.xs = r at *
          by_cases hone : ca = 1
          · obtain rfl : na = 1 := by omega
            subst hone
            have HT0 : Hid (la = []) := List.eq_nil_of_length_eq_zero (by have := HNa.out; rw [List.length_cons] at this; omega)
            go_wp2_with fail
            go_still_tail 6, (by kernel_rfl)
            change wpList _ _ _ _ _ wr.drew
            go_wp2_with fail
            refine HX.out.mono ?_
            rintro e w3 ⟨rfl, hb3⟩
            have hb3' : Below w2.heap.size w2 w3 := hb.drew.trans (hb3.mono hb.size)
            have HO3 := Lib.hid (own_later HO.out.drew hb3)
            have HB3 := Lib.hid hb3'
            have e1 := (hb3'.cell (p := ⟨ga, oa, none⟩) hal).trans c0a
            have hz3 := hb3'.size
            clear hb3 d1 d2 HO
            go_wp2_with (at_builtin; refine wpList_append_own _ rfl _ _ 22 rfl w2.heap.size 28 i0 (.slice none 0 0) 1 24 Tryd.underlying22 hi hz0 hz1 hz2 rfl (by decide) _ _ _ rfl (HO3.out.alloc _) ⟨w3.heap.size, 0, none⟩ 1 1 [.slice ra.A ra.xs.length ra.c] rfl rfl (World.news_of_block (heap_alloc_new w3 _)) (by intro u hu; simp at hu; subst hu; rfl) (by unfold maxLen; omega) (by omega) (by simp; omega) ?_)
            intro v5 w4 hown' hgrow _
            obtain ⟨ho4, hb4⟩ := rows_step (r := ra) HB3.out HB3.out.size HO3.out hown' hgrow
            have HO4 := Lib.hid ho4
            clear ho4 hown' hgrow HO3
            go_wp2_with fail
            go_roundg (gk - 1)
            case measure => omega
            case rel => exact ⟨some ⟨ga, oa, none⟩, 0, 0, [], some ⟨gb, ob, none⟩, cb, nb, rb :: lb, no + 1, out ++ [ra], rfl, Nat.le_refl _, rfl, hcb, by omega, by omega, rfl, HNb, by show _ = _; rw [List.length_append, ← HNo.out]; rfl, ⟨fun h => by simp at h, fun r hr => by simp at hr⟩, HAb, HO4, by have h := HMa.out; rw [HT0.out] at h; exact h, hb4⟩
          · have hone1 : ¬ (1 = ca) := by omega
            have hone2 : 1 < ca := by omega
            go_wp2_with fail
            go_still_tail 6, (by kernel_rfl)
            change wpList _ _ _ _ _ wr.drew
            go_wp2_with fail
            refine HX.out.mono ?_
            rintro e w3 ⟨rfl, hb3⟩
            have hb3' : Below w2.heap.size w2 w3 := hb.drew.trans (hb3.mono hb.size)
            have HO3 := Lib.hid (own_later HO.out.drew hb3)
            have HB3 := Lib.hid hb3'
            have e1 := (hb3'.cell (p := ⟨ga, oa, none⟩) hal).trans c0a
            have hz3 := hb3'.size
            clear hb3 d1 d2 HO
            go_wp2_with (at_builtin; refine wpList_append_own _ rfl _ _ 22 rfl w2.heap.size 28 i0 (.slice none 0 0) 1 24 Tryd.underlying22 hi hz0 hz1 hz2 rfl (by decide) _ _ _ rfl (HO3.out.alloc _) ⟨w3.heap.size, 0, none⟩ 1 1 [.slice ra.A ra.xs.length ra.c] rfl rfl (World.news_of_block (heap_alloc_new w3 _)) (by intro u hu; simp at hu; subst hu; rfl) (by unfold maxLen; omega) (by omega) (by simp; omega) ?_)
            intro v5 w4 hown' hgrow _
            obtain ⟨ho4, hb4⟩ := rows_step (r := ra) HB3.out HB3.out.size HO3.out hown' hgrow
            have HO4 := Lib.hid ho4
            clear ho4 hown' hgrow HO3
            go_wp2_with fail
            go_roundg (gk - 1)
            case measure => omega
            case rel => exact ⟨some ⟨ga, oa + 1, none⟩, ca - 1, na - 1, la, some ⟨gb, ob, none⟩, cb, nb, rb :: lb, no + 1, out ++ [ra], rfl, by omega, rfl, hcb, by omega, by omega, by show _ = _; have := HNa.out; rw [List.length_cons] at this; omega, HNb, by show _ = _; rw [List.length_append, ← HNo.out]; rfl, HTa, HAb, HO4, HMa, hb4⟩
theorem rsort_any (n : Nat) : RSortOk n := by
  induction n using Nat.strongRecOn with
  | _ n ih =>
    by_cases h : n < 2
    · exact rsort_short n h
    · exact rsort_long n (by omega) ih
end Go.Proofs.YtkmnlfbllfaieaaDoor
