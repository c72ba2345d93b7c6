/- The law TokenJoins, walked: it answers true whatever the two statements are. Condition: the listed variables hold what they hold. -/
import Derived.Test.YtjnecobamobieaaDoorTokMove
namespace Go.Proofs.YtjnecobamobieaaDoor
open Go.RowKit
theorem cut_ends {l : List UInt8} {ts : List T} (h : cutP 0 l = .ok ts) : ∃ vs, ts = vs ++ [⟨6, [], 0, l.length⟩] := by
  obtain ⟨us, h1⟩ := (cut_parts l 0 ts h).1
  rw [Nat.zero_add] at h1
  exact ⟨us, h1⟩
theorem cut_both {l m : List UInt8} {vs us : List T} (h1 : cutP 0 l = .ok (vs ++ [⟨6, [], 0, l.length⟩])) (h2 : cutP 0 m = .ok us) : cutP 0 (l ++ 10 :: m) = .ok (vs ++ us.map (T.up (l.length + 1))) := by
  refine cut_join m l 0 vs (by rw [Nat.zero_add]; exact h1) _ ?_
  rw [Nat.zero_add, cutP_at, h2]
  rfl
theorem sameT_self (ts : List T) : sameT ts ts = true := decide_eq_true rfl
set_option maxRecDepth 100000 in
set_option maxHeartbeats 8000000 in
theorem joins_core (a b : ByteArray) (w : World) (hE : Env w) : Calls Tryd.prog 7 #[.string a, .string b] w fun e w' => e = .returned (.bool true) ∧ Below w.heap.size w w' := by
  have HE := Lib.hid hE
  have HL := Lib.hid live_any
  have HA := Lib.hid (cut_all a)
  have HB := Lib.hid (cut_all b)
  clear hE
  by_cases hs : 2000 < a.size ∨ 2000 < b.size
  · have hs' : 2000 < a.size ∨ (¬ ((2000 : Int) < (a.size : Int)) ∧ (2000 : Int) < (b.size : Int)) := by omega
    go_enter Tryd.func7, Tryd.ntmps7
    go_wp2_with fail
    refine (HL.out _ HE.out).mono ?_
    rintro e w1 ⟨rfl, b1⟩
    go_wp2_with fail
    refine (HA.out _ (HE.out.later b1)).mono ?_
    intro e w2 h2
    obtain ⟨h2, b2⟩ := h2
    have B2 := bthen b1 b2
    rcases h2 with ⟨ts, A, c, -, -, rfl, -, -⟩ | ⟨q, r, hr, -, rfl⟩
    all_goals
      go_wp2_with fail
      refine (HB.out _ (HE.out.later B2)).mono ?_
      intro e w3 h3
      obtain ⟨h3, b3⟩ := h3
      have B3 := bthen B2 b3
      rcases h3 with ⟨us, A', c', -, -, rfl, -, -⟩ | ⟨q', r', hr', -, rfl⟩
      all_goals
        rcases hs' with hz | ⟨hz1, hz2⟩
        all_goals
          try have hz0 : (2000 : Int) < (a.size : Int) := by omega
          go_wp2_with fail
          go_ret
          exact ⟨rfl, B3⟩
  · have hs1 : ¬ ((2000 : Int) < (a.size : Int)) := by omega
    have hs2 : ¬ ((2000 : Int) < (b.size : Int)) := by omega
    go_enter Tryd.func7, Tryd.ntmps7
    go_wp2_with fail
    refine (HL.out _ HE.out).mono ?_
    rintro e w1 ⟨rfl, b1⟩
    go_wp2_with fail
    refine (HA.out _ (HE.out.later b1)).mono ?_
    intro e w2 h2
    obtain ⟨h2, b2⟩ := h2
    have B2 := bthen b1 b2
    rcases h2 with ⟨ts, A, c, -, hca, he2, hlc, t2⟩ | ⟨q, r, hr, -, rfl⟩
    · obtain ⟨vs, hvs⟩ := cut_ends hca
      have hn : ts.length = vs.length + 1 := by rw [hvs]; simp
      have hnb := cut_len _ _ _ hca
      rw [hn] at he2 hnb hlc
      rw [size_list] at hnb
      have HT2 : Hid (TAt w2 w2.heap.size A vs) := by
        have := t2.take vs.length
        rw [hvs, List.take_left] at this
        exact this
      rw [hvs, size_list] at hca
      have HCA := Lib.hid hca
      have HVS := Lib.hid hvs
      obtain ⟨n, hvn⟩ : ∃ n, n = vs.length := ⟨_, rfl⟩
      have HVN := Lib.hid hvn
      rw [← hvn] at he2 hnb hlc
      subst he2
      clear hca hvs hn t2 hvn
      go_wp2_with fail
      refine (HB.out _ (HE.out.later B2)).mono ?_
      intro e w3 h3
      obtain ⟨h3, b3⟩ := h3
      have B3 := bthen B2 b3
      rcases h3 with ⟨us, A', c', -, hcb, he3, -, t3⟩ | ⟨q', r', hr', -, rfl⟩
      · have hmb := cut_len _ _ _ hcb
        have hpl := places hcb
        rw [size_list] at hmb hpl
        obtain ⟨m, hm⟩ : ∃ m, m = us.length := ⟨_, rfl⟩
        rw [← hm] at he3 hmb
        subst he3
        have HM := Lib.hid hm
        have HPL := Lib.hid hpl
        have HT3 := Lib.hid t3
        have HJ : Hid (cutP 0 (a ++ ⟨#[10]⟩ ++ b).data.toList = .ok (vs ++ us.map (T.up (a.size + 1)))) := by
          have := cut_both (l := a.data.toList) (m := b.data.toList) (vs := vs) (by rw [size_list]; exact HCA.out) hcb
          rw [size_list] at this
          show _ = _
          rw [app_list, app_list, List.append_assoc]
          exact this
        have HC := Lib.hid (fun w hE => cut_any (a ++ ⟨#[10]⟩ ++ b) w hE (by rw [size_app, size_app, show (⟨#[10]⟩ : ByteArray).size = 1 from rfl]; omega))
        have hcat1 : ¬ (9223372036854775807 < a.size + 1) := by omega
        have hcat2 : ¬ (9223372036854775807 < a.size + 1 + b.size) := by omega
        have hnz : ((n : Int) + 1 == 0) = false := by
          rw [beq_eq_false_iff_ne]
          omega
        clear hcb hpl hm t3
        go_wp2_with fail
        refine (HC.out _ (HE.out.later B3)).mono ?_
        intro e w4 h4
        obtain ⟨⟨A4, c4, he4, -, t4⟩, b4⟩ := h4.ok HJ.out
        have B4 := Lib.hid (bthen B3 b4)
        have T3 := Lib.hid (HT3.out.later b4)
        have T2 := (HT2.out.later b3).later b4
        have HT4 := Lib.hid t4
        have hzl : (vs ++ us.map (T.up (a.size + 1))).length = n + m := by rw [List.length_append, List.length_map, HVN.out, HM.out]
        rw [hzl] at he4
        subst he4
        obtain ⟨v5, w5, r5, ho5, hb5⟩ := ownT_copy w4 vs A c T2 (by rw [← HVN.out]; omega)
        rw [← HVN.out] at r5
        have HO5 := Lib.hid ho5
        have HB5 := Lib.hid hb5
        have hsl : n ≤ n + 1 := by omega
        have hslc : n ≤ c := by omega
        clear b2 b3 b4 B2 B3 T2 t4 h4 hzl ho5 hb5
        go_wp2_with (at_builtin; refine Lib.wpList_append_run_sl _ rfl _ _ 23 rfl _ _ rfl rfl r5 ?_)
        go_loopw [70, 15] (fun i wv wr => ∃ k : Nat, k ≤ m ∧ i = .int .i64 k ∧ Hid (OwnT wr w4.heap.size wv (vs ++ (us.take k).map (T.up (a.size + 1)))) ∧ Hid (Below w4.heap.size w4 wr)) (fun i _ _ => m - (intOf i).toNat)
        case atStart => exact ⟨0, Nat.zero_le _, rfl, (by show OwnT _ _ _ _; have := HO5.out; simpa using this), HB5.out⟩
        case round =>
          obtain ⟨k, hk, rfl, HO, HB⟩ := hrel
          by_cases hlt : k < m
          · have hku : k < us.length := by rw [← HM.out]; exact hlt
            have hwz := HB.out.size
            obtain ⟨p1, o1, rfl, -, d⟩ := (T3.out.later HB.out) (by omega)
            obtain ⟨c0, c1, c2, c3⟩ := d k hku
            have hpk := HPL.out k hku
            have htk : us.take (k + 1) = us.take k ++ [us[k]] := List.take_succ_eq_append_getElem hku
            have HTK : Hid ((us.take (k + 1)).map (T.up (a.size + 1)) = (us.take k).map (T.up (a.size + 1)) ++ [T.up (a.size + 1) us[k]]) := by
              show _ = _
              rw [htk, List.map_append]
              rfl
            have hll : (vs ++ (us.take k).map (T.up (a.size + 1))).length ≤ 1000000 := by
              rw [List.length_append, List.length_map, List.length_take, ← HVN.out]
              omega
            clear d htk
            generalize us[k] = u at *
            obtain ⟨W2, W3, W4, hW2, hW3, hW4, ⟨x0, x1, x2, x3⟩, ⟨f0, f1, f2, f3⟩, ⟨y0, y1, y2, y3⟩, yf, ⟨q0, q1, q2, q3⟩, b4, hz2⟩ := moved wr u ((u.p : Int) + ((a.size : Int) + 1))
            have hHO := HO.out.later b4
            have hHB := bthen HB.out b4
            obtain ⟨v6, w6, r6, ho6, hb6⟩ := ownT_app hHO (T.up (a.size + 1) u) hll hHB.size hHB W4.heap.size rfl
            unfold T.up at r6
            simp only at r6
            rw [Int.natCast_add, Int.natCast_add] at r6
            have HO6 : Hid (OwnT w6 w4.heap.size v6 (vs ++ (us.take (k + 1)).map (T.up (a.size + 1)))) := by
              rw [HTK.out, ← List.append_assoc]
              exact ho6
            have HB6 := Lib.hid hb6
            have HW2 := Lib.hid hW2
            have HW3 := Lib.hid hW3
            have HW4 := Lib.hid hW4
            clear hW2 hW3 hW4 b4 hHO hHB ho6 hb6 HO HB hll
            go_wp2_with (first | (rw [← HW4.out]) | (rw [← HW3.out]) | (rw [← HW2.out]) | (at_builtin; refine Lib.wpList_append_run_sl _ rfl _ _ 23 rfl _ _ rfl rfl r6 ?_))
            go_roundw
            case measure => simp [intOf]; omega
            case rel => exact ⟨k + 1, by omega, by go_num, HO6, HB6⟩
          · have hkm : k = m := by omega
            subst hkm
            have ho := HO.out
            rw [List.take_of_length_le (by rw [← HM.out]; exact Nat.le_refl _)] at ho
            obtain ⟨A7, c7, rfl, -, -, t7⟩ := ho.row
            have t4' := HT4.out.later HB.out
            have hS := same_any (vs ++ us.map (T.up (a.size + 1))) (vs ++ us.map (T.up (a.size + 1))) (some ⟨0, 0, none⟩) A7 0 c7 wr
            have hzl : (vs ++ us.map (T.up (a.size + 1))).length = n + k := by rw [List.length_append, List.length_map, HVN.out, HM.out]
            have HS : Hid (Calls Tryd.prog 12 #[.slice A4 (n + k : Nat) c4, .slice A7 (n + k : Nat) c7] wr fun e w' => e = .returned (.bool true) ∧ Below wr.heap.size wr w') := by
              have := same_any (vs ++ us.map (T.up (a.size + 1))) (vs ++ us.map (T.up (a.size + 1))) A4 A7 c4 c7 wr t4' t7 (by rw [hzl]; omega) (by rw [hzl]; omega)
              rw [hzl, sameT_self] at this
              exact this
            rw [hzl]
            have B7 := Lib.hid (bthen B4.out HB.out)
            clear ho t7 t4' hS hzl HO
            go_wp2_with fail
            refine HS.out.mono ?_
            rintro e w8 ⟨rfl, b8⟩
            go_wp2_with fail
            go_ret
            exact ⟨rfl, bthen B7.out b8⟩
      · skip
        go_wp2_with fail
        go_ret
        exact ⟨rfl, B3⟩
    · skip
      go_wp2_with fail
      refine (HB.out _ (HE.out.later B2)).mono ?_
      intro e w3 h3
      obtain ⟨h3, b3⟩ := h3
      have B3 := bthen B2 b3
      rcases h3 with ⟨us, A', c', -, -, rfl, -, -⟩ | ⟨q', r', hr', -, rfl⟩
      all_goals
        go_wp2_with fail
        go_ret
        exact ⟨rfl, B3⟩
end Go.Proofs.YtjnecobamobieaaDoor
