/- The law TokenParts, walked: it answers true whatever the statement and the number are. Conditions: the number has 64 bits; the listed variables hold what they hold. -/
import Derived.Test.YtjnecobamobieaaDoorTokJoins
namespace Go.Proofs.YtjnecobamobieaaDoor
open Go.RowKit
def T.down (d : Nat) (t : T) : T := ⟨t.k, t.s, t.i, t.p - d⟩
theorem T.up_down (d : Nat) (t : T) : (t.up d).down d = t := by
  cases t
  simp [T.up, T.down]
/-- Cut again from a token on. -/
theorem cut_again {l : List UInt8} {ts : List T} (h : cutP 0 l = .ok ts) (i : Nat) (hi : i < ts.length) : cutP 0 (l.drop ts[i].p) = .ok ((ts.drop i).map (T.down ts[i].p)) := by
  have h1 := (cut_parts l 0 ts h).2.2.2 i hi
  rw [Nat.sub_zero, cutP_at] at h1
  cases hc : cutP 0 (l.drop ts[i].p) with
  | error q => rw [hc] at h1; cases h1
  | ok xs =>
    rw [hc] at h1
    simp only [upE, Except.ok.injEq] at h1
    rw [← h1, List.map_map]
    congr 1
    conv => lhs; rw [← List.map_id xs]
    apply List.map_congr_left
    intro t _
    exact (T.up_down _ t).symm
theorem rising {l : List UInt8} {ts : List T} (h : cutP 0 l = .ok ts) (i : Nat) (hi : i + 1 < ts.length) : (ts[i]'(by omega)).p < ts[i + 1].p := (cut_parts l 0 ts h).2.2.1 i hi
theorem rising_le {l : List UInt8} {ts : List T} (h : cutP 0 l = .ok ts) (i j : Nat) (hij : i + j < ts.length) : (ts[i]'(by omega)).p ≤ ts[i + j].p := by
  induction j with
  | zero => exact Nat.le_refl _
  | succ j ih =>
    have h1 := ih (by omega)
    have h2 := rising h (i + j) (by omega)
    simp only [Nat.add_assoc] at h2
    exact Nat.le_trans h1 (Nat.le_of_lt h2)
theorem tmodN (k : Int) (n : Nat) (hn : 0 < n) : ∃ (t : Int) (i : Nat), k.tmod n = t ∧ -(n : Int) < t ∧ t < n ∧ (t + n).tmod n = (i : Int) ∧ i < n := by
  have hb : -(n : Int) < k.tmod n ∧ k.tmod n < n := by
    have hn0 : (0 : Int) < n := by omega
    rcases Int.le_total 0 k with h | h
    · rw [Int.tmod_eq_emod_of_nonneg h]
      have h1 := Int.emod_nonneg k (show (n : Int) ≠ 0 by omega)
      have h2 := Int.emod_lt_of_pos k hn0
      omega
    · have e : (-k).tmod n = -(k.tmod n) := Int.neg_tmod k n
      rw [Int.tmod_eq_emod_of_nonneg (by omega)] at e
      have h1 := Int.emod_nonneg (-k) (show (n : Int) ≠ 0 by omega)
      have h2 := Int.emod_lt_of_pos (-k) hn0
      omega
  have h1 := Int.emod_nonneg (k.tmod n + n) (show (n : Int) ≠ 0 by omega)
  have h2 := Int.emod_lt_of_pos (k.tmod n + n) (show (0 : Int) < n by omega)
  refine ⟨k.tmod n, ((k.tmod n + n).tmod n).toNat, rfl, hb.1, hb.2, ?_, ?_⟩
  · rw [Int.tmod_eq_emod_of_nonneg (by omega)]
    omega
  · rw [Int.tmod_eq_emod_of_nonneg (by omega)]
    omega
set_option maxRecDepth 100000 in
set_option maxHeartbeats 8000000 in
theorem parts_core (s : ByteArray) (z : Int) (w : World) (hE : Env w) (hz : -9223372036854775808 ≤ z ∧ z ≤ 9223372036854775807) : Calls Tryd.prog 5 #[.string s, .int .i64 z] w fun e w' => e = .returned (.bool true) ∧ Below w.heap.size w w' := by
  have HE := Lib.hid hE
  have HL := Lib.hid live_any
  have HA := Lib.hid (cut_all s)
  obtain ⟨hz1, hz2⟩ := hz
  clear hE
  go_enter Tryd.func5, Tryd.ntmps5
  go_wp2_with fail
  refine (HL.out _ HE.out).mono ?_
  rintro e w1 ⟨rfl, b1⟩
  go_wp2_with fail
  refine (HA.out _ (HE.out.later b1)).mono ?_
  intro e w2 h2
  obtain ⟨h2, b2⟩ := h2
  have B2 := bthen b1 b2
  rcases h2 with ⟨ts, A, c, hs, hca, he2, hlc, t2⟩ | ⟨q, r, hr, -, rfl⟩
  · obtain ⟨n, hn⟩ : ∃ n, n = ts.length := ⟨_, rfl⟩
    obtain ⟨vs, hvs⟩ := cut_ends hca
    rw [size_list] at hvs
    have hn0 : 0 < n := by rw [hn, hvs]; simp
    have hnb := cut_len _ _ _ hca
    rw [size_list, ← hn] at hnb
    rw [← hn] at he2 hlc
    subst he2
    obtain ⟨p, off, rfl, hpl, d⟩ := t2 (by omega)
    have HT := Lib.hid t2
    have HN := Lib.hid hn
    have HCA := Lib.hid hca
    obtain ⟨l0, l1, l2, l3⟩ := d (n - 1) (by omega)
    have hlast : ts[n - 1]'(by omega) = ⟨6, [], 0, s.size⟩ := by
      subst hvs
      have : n - 1 = vs.length := by rw [hn]; simp
      simp only [this]
      simp
    rw [hlast] at l0 l1 l2 l3
    simp only [show str [] = ⟨#[]⟩ from rfl] at l1
    obtain ⟨t, i, z1, z2, z3, z4, z5⟩ := tmodN z n hn0
    have hii : i < ts.length := by rw [← hn]; exact z5
    have nz : ((n : Int) == 0) = false := by
      rw [beq_eq_false_iff_ne]
      omega
    have p0 : (0 : Int) ≤ (n : Int) - 1 := by omega
    have p1 : ((n : Int) - 1).toNat = n - 1 := by omega
    have HD := Lib.hid d
    have HB2 := Lib.hid B2
    clear d hlast hvs hn t2 hca b1 b2 B2
    go_wp2_with fail
    go_loopw [9] (fun iv wr => ∃ k : Nat, 1 ≤ k ∧ k ≤ n ∧ iv = .int .i64 k ∧ Hid (Below w2.heap.size w2 wr)) (fun iv _ => n - (intOf iv).toNat)
    case atStart => exact ⟨1, Nat.le_refl _, hn0, rfl, Below.refl _ _⟩
    case round =>
      obtain ⟨k, hk1, hk, rfl, HB⟩ := hrel
      by_cases hlt : k < n
      · have hkt : k < ts.length := by rw [← HN.out]; exact hlt
        obtain ⟨-, -, -, c3⟩ := HD.out (k - 1) (by omega)
        obtain ⟨-, -, -, e3⟩ := HD.out k hkt
        have hris := rising HCA.out (k - 1) (by omega)
        simp only [Nat.sub_add_cancel hk1] at hris
        have c3' := (HB.out.cell (p := ⟨p, off + (k - 1) * 4 + 3, none⟩) hpl).trans c3
        have e3' := (HB.out.cell (p := ⟨p, off + k * 4 + 3, none⟩) hpl).trans e3
        have k0 : (0 : Int) ≤ (k : Int) - 1 := by omega
        have k1 : ((k : Int) - 1).toNat = k - 1 := by omega
        have HB2' := Lib.hid HB.out.drew
        clear l0 l1 l2 l3 c3 e3
        generalize ts[k - 1].p = pa at *
        generalize ts[k].p = pb at *
        have hab : ¬ ((pb : Int) ≤ (pa : Int)) := by omega
        go_wp2_with fail
        go_region
        go_wp2_with fail
        go_roundw
        case measure => simp [intOf]; omega
        case rel => exact ⟨k + 1, by omega, by omega, by go_num, HB2'⟩
      · have hkn : k = n := by omega
        have q2 := Int.toNat_natCast i
        obtain ⟨-, -, -, e3⟩ := HD.out i hii
        have hpi := places HCA.out i hii
        rw [size_list] at hpi
        have e3' := (HB.out.cell (p := ⟨p, off + i * 4 + 3, none⟩) hpl).trans e3
        have HAG := Lib.hid (cut_again HCA.out i hii)
        have HLE : Hid (∀ j (hj : i + j < ts.length), ts[i].p ≤ ts[i + j].p) := fun j hj => rising_le HCA.out i j hj
        obtain ⟨f, hf⟩ : ∃ f, f = ts[i].p := ⟨_, rfl⟩
        rw [← hf] at hpi e3' HAG HLE
        have HE3 := Lib.hid (HE.out.later (bthen HB2.out HB.out))
        have HC := Lib.hid (cut_any (s.extract f s.size) wr HE3.out (by rw [ByteArray.size_extract]; omega))
        rw [ext_end] at HC
        have f0 : ¬ ((f : Int) < 0) := by omega
        have f1 : ¬ ((s.size : Int) < (f : Int)) := by omega
        clear l0 l1 l2 l3 e3 hf
        subst hkn
        go_wp2_with fail
        refine HC.out.mono ?_
        intro e w3 h3
        obtain ⟨⟨A3, c3, he3, -, t3⟩, b3⟩ := h3.ok HAG.out
        obtain ⟨m, hm⟩ : ∃ m, m = k - i := ⟨_, rfl⟩
        have hml : ((ts.drop i).map (T.down f)).length = m := by rw [List.length_map, List.length_drop, ← HN.out, hm]
        rw [hml] at he3
        subst he3
        have HML := Lib.hid hml
        have HT3 := Lib.hid t3
        have HB3 := Lib.hid b3
        have hmi : ((k : Int) - (i : Int)) = (m : Int) := by omega
        have hmn : k - i = m := hm.symm
        have hm0 : m ≤ 4097 := by omega
        have ik : i ≤ k := by omega
        have ikz : (i : Int) ≤ (k : Int) := by omega
        have ikc : (i : Int) ≤ (c : Int) := by omega
        have kc : (k : Int) ≤ (c : Int) := by omega
        clear h3 hml t3 b3 hm
        go_wp2_with fail
        go_loopw [101, 15] (fun iv wv wr => ∃ j : Nat, j ≤ m ∧ iv = .int .i64 j ∧ Hid (OwnT wr w3.heap.size wv (((ts.drop i).take j).map (T.down f))) ∧ Hid (Below w3.heap.size w3 wr)) (fun iv _ _ => m - (intOf iv).toNat)
        case atStart => exact ⟨0, Nat.zero_le _, rfl, (by show OwnT _ _ _ _; simpa using OwnT.nil w3 w3.heap.size), Below.refl _ _⟩
        case round =>
          obtain ⟨j, hj, rfl, HO, HBq⟩ := hrel
          have B5 := bthen (bthen HB.out HB3.out) HBq.out
          by_cases hlj : j < m
          · have hjd : j < (ts.drop i).length := by rw [List.length_drop, ← HN.out]; omega
            have hju : i + j < ts.length := by rw [← HN.out]; omega
            have TD := ((HT.out.drop i).below B5)
            obtain ⟨pp, oo, hpp, -, d⟩ := TD (by omega)
            simp at hpp
            obtain ⟨rfl, rfl⟩ := hpp
            obtain ⟨c0, c1, c2, c3'⟩ := d j hjd
            have hle := HLE.out j hju
            have hpk := places HCA.out (i + j) hju
            rw [size_list] at hpk
            have htk : (ts.drop i).take (j + 1) = (ts.drop i).take j ++ [(ts.drop i)[j]] := List.take_succ_eq_append_getElem hjd
            have HTK : Hid (((ts.drop i).take (j + 1)).map (T.down f) = ((ts.drop i).take j).map (T.down f) ++ [T.down f (ts.drop i)[j]]) := by
              show _ = _
              rw [htk, List.map_append]
              rfl
            have hll : (((ts.drop i).take j).map (T.down f)).length ≤ 1000000 := by
              rw [List.length_map, List.length_take]
              omega
            rw [← List.getElem_drop (h := hjd)] at hle hpk
            clear d htk TD
            generalize (ts.drop i)[j] = u at *
            obtain ⟨W2, W3, W4, hW2, hW3, hW4, ⟨x0, x1, x2, x3⟩, ⟨g0, g1, g2, g3⟩, ⟨y0, y1, y2, y3⟩, yf, ⟨q0, q1, q2', q3⟩, b4, hzw⟩ := moved wr u ((u.p : Int) - (f : Int))
            have hHO := HO.out.later b4
            have hHB := bthen HBq.out b4
            obtain ⟨v6, w6, r6, ho6, hb6⟩ := ownT_app hHO (T.down f u) hll hHB.size hHB W4.heap.size rfl
            unfold T.down at r6
            simp only at r6
            have e6 : ((u.p - f : Nat) : Int) = (u.p : Int) - (f : Int) := by omega
            rw [e6] at r6
            have HO6 : Hid (OwnT w6 w3.heap.size v6 (((ts.drop i).take (j + 1)).map (T.down f))) := by
              rw [HTK.out]
              exact ho6
            have HB6 := Lib.hid hb6
            have HW2 := Lib.hid hW2
            have HW3 := Lib.hid hW3
            have HW4 := Lib.hid hW4
            have hlez : (f : Int) ≤ (u.p : Int) := by omega
            clear hW2 hW3 hW4 b4 hHO hHB ho6 hb6 HO HBq hll e6 B5
            go_wp2_with (first | (rw [← HW4.out]) | (rw [← HW3.out]) | (rw [← HW2.out]) | (at_builtin; refine Lib.wpList_append_run_sl _ rfl _ _ 23 rfl _ _ rfl rfl r6 ?_))
            go_roundw
            case measure => simp [intOf]; omega
            case rel => exact ⟨j + 1, by omega, by go_num, HO6, HB6⟩
          · have hjm : j = m := by omega
            subst hjm
            have ho := HO.out
            rw [List.take_of_length_le (by rw [List.length_drop, ← HN.out]; omega)] at ho
            obtain ⟨A7, c7, hv7, -, -, t7⟩ := ho.row
            rw [HML.out] at hv7
            subst hv7
            have HS : Hid (Calls Tryd.prog 12 #[.slice A3 j c3, .slice A7 j c7] wr fun e w' => e = .returned (.bool true) ∧ Below wr.heap.size wr w') := by
              have := same_any ((ts.drop i).map (T.down f)) ((ts.drop i).map (T.down f)) A3 A7 c3 c7 wr (HT3.out.later HBq.out) t7 (by rw [HML.out]; omega) (by rw [HML.out]; omega)
              rw [HML.out, sameT_self] at this
              exact this
            have B7 := Lib.hid (bthen HB2.out B5)
            clear ho t7 HO B5
            go_wp2_with fail
            refine HS.out.mono ?_
            rintro e w8 ⟨rfl, b8⟩
            go_wp2_with fail
            go_ret
            exact ⟨rfl, bthen B7.out b8⟩
  · go_wp2_with fail
    go_ret
    exact ⟨rfl, B2⟩
end Go.Proofs.YtjnecobamobieaaDoor
