/- The walk of the law LogicMorgan, of a list that is not empty and not too great. Conditions: the list is no longer than 1000, its room no more than 2 to the 47. -/
import Derived.Test.YtfccongmfoolpaaLogMorg0
import Derived.Test.YtfccongmfoolpaaLogRIn
import Derived.Deep.RegionLaw
import Derived.Deep.DeepCutAuto
namespace Go.Proofs.Ytfccongmfoolpaa
open Go.RowKit
theorem own_cap {w : World} {base e size n cap g : Nat} {xs : List Value} (h : w.ownsRow base e size (.slice (some ⟨g, 0, none⟩) n cap) n xs) : n ≤ cap := by
  rcases h.2 with ⟨hv, -⟩ | ⟨g', cap', cur, hv, hb, hg, hnc, -⟩
  · cases hv
  · cases hv; exact hnc
theorem flat_two (xs ys : List V) : flat xs ++ flat ys = flat (xs ++ ys) := by simp [flat]
theorem flat_each (xs : List V) : ∀ u ∈ flat xs, u.oneCell' = true := flat_one xs
theorem RowAt.dropAt {w : World} {B b off : Nat} {xs : List V} (h : RowAt w B (some ⟨b, off, none⟩) xs) (k : Nat) : RowAt w B (some ⟨b, off + k * 3, none⟩) (xs.drop k) := fun hl => by
  have hl' : k < xs.length := by rw [List.length_drop] at hl; omega
  obtain ⟨b', off', hA, hlt, hc⟩ := h (by omega)
  simp at hA
  obtain ⟨rfl, rfl⟩ := hA
  refine ⟨b, off + k * 3, rfl, hlt, fun j hj => ?_⟩
  rw [List.length_drop] at hj
  have := hc (k + j) (by omega)
  rw [List.getElem_drop]
  rw [show off + k * 3 + j * 3 = off + (k + j) * 3 by omega]
  exact this
theorem RowAt.takeOf {w : World} {B : Nat} {A : Option Addr} {xs : List V} (h : RowAt w B A xs) (k : Nat) : RowAt w B A (xs.take k) := fun hl => by
  obtain ⟨b, off, hA, hlt, hc⟩ := h (by rw [List.length_take] at hl; omega)
  refine ⟨b, off, hA, hlt, fun j hj => ?_⟩
  have := hc j (by rw [List.length_take] at hj; omega)
  simpa using this
theorem mod_at (k : Int) (n : Nat) (hn : 0 < n) : ∃ K : Nat, K < n ∧ (k.tmod (n : Int) + n) % (n : Int) = K := by
  have h0 := Int.emod_nonneg (k.tmod (n : Int) + n) (show (n : Int) ≠ 0 by omega)
  have h1 := Int.emod_lt_of_pos (k.tmod (n : Int) + n) (show 0 < (n : Int) by omega)
  exact ⟨((k.tmod (n : Int) + n) % (n : Int)).toNat, by omega, by omega⟩
theorem tmod_at (k : Int) (n : Nat) (hn : 0 < n) : -(n : Int) < k.tmod (n : Int) ∧ k.tmod (n : Int) < n := by
  have h := Int.natAbs_tmod k (n : Int)
  have h2 : k.natAbs % (n : Int).natAbs < (n : Int).natAbs := Nat.mod_lt _ (by omega)
  omega
theorem grown_below' {w w' : World} (h : w.grownBy w' (Value.slice none 0 0).ownBlock) : Below w.heap.size w w' := ⟨h.os, h.tape, h.output, h.size, fun k hk => h.block k hk (by simp [Value.ownBlock])⟩
set_option maxRecDepth 100000 in
set_option maxHeartbeats 8000000 in
theorem morg_in (rA : Option Addr) (rc : Nat) (xs : List V) (k : Int) (w : World) (n : Nat) (hn : n = xs.length) (h0 : 0 < n) (h1 : n ≤ 1000) (hcap : n ≤ rc) (hcap2 : rc ≤ 140737488355328) (_hk : -9223372036854775808 ≤ k ∧ k ≤ 9223372036854775807) (hr : RowAt w w.heap.size rA xs) (hbig : ∀ w', Below w.heap.size w w' → Calls Try.prog 10 #[.slice rA n rc] w' fun e w2 => e = .returned (.bool false) ∧ Below w'.heap.size w' w2) :
    Calls Try.prog 5 #[.slice rA n rc, .int .i64 k] w fun e w' => e = .returned (.bool true) ∧ Below w.heap.size w w' := by
  have HN := Lib.hid hn
  have HR := Lib.hid hr
  have HBIG := Lib.hid hbig
  have ht := tmod_at k n h0
  obtain ⟨K, hKn, hKeq⟩ := mod_at k n h0
  have ht1 := ht.1
  have ht2 := ht.2
  obtain ⟨b, off, hA, hbl, -⟩ := hr (by omega)
  subst hA
  clear hr hbig hn ht
  have hne : decide ((n : Int) = 0) = false := decide_eq_false (by omega)
  have hne' : ((n : Int) == 0) = false := by simp; omega
  go_enter Try.func5, Try.ntmps5
  go_wp2_with fail
  refine (live_any _).mono ?_
  rintro e w1 ⟨rfl, b1⟩
  go_wp2_with fail
  refine (HBIG.out w1 b1).mono ?_
  rintro e w2 ⟨rfl, b2⟩
  have c2 := bthen b1 b2
  have HC2 := Lib.hid c2
  have hR2 := HR.out.later c2
  have HR2 := Lib.hid hR2
  clear b1 b2 c2 hR2
  go_upto_region 5 with fail
  have hE : k.tmod (n : Int) % (n : Int) = (K : Int) := by rw [← hKeq, Int.add_emod_right]
  have HS := Lib.hid hE
  clear hKeq ht1 ht2 hE
  obtain ⟨i0, hi, hz0, hz1, hz2⟩ := info_parts info24
  have hfl : (flat (xs.drop K)).length = (n - K) * 3 := by rw [flat_len, List.length_drop, HN.out]
  have hft : (flat (xs.take K)).length = K * 3 := by rw [flat_len, List.length_take, ← HN.out, Nat.min_eq_left (by omega)]
  have HFL := Lib.hid hfl
  have HFT := Lib.hid hft
  have HRD := Lib.hid (show RowAt w2.drew w2.heap.size (some ⟨b, off + K * 3, none⟩) (xs.drop K) from HR2.out.dropAt K)
  have hb2 : b < w2.heap.size := by have := HC2.out.size; omega
  have hkc : (rc == K) = false := by simp; omega
  have hkc' : ((rc : Int) == (K : Int)) = false := by simp; omega
  clear hfl hft
  go_cut [1, 6, 42] (fun _ s6 _ wx => ∃ g cap, s6 = .slice (some ⟨g, 0, none⟩) n cap ∧ Hid (RowAt wx wx.heap.size (some ⟨g, 0, none⟩) (xs.drop K ++ xs.take K)) ∧ Hid (Below w2.heap.size w2 wx))
  case first =>
    by_cases hK0 : K = 0
    · subst hK0
      have hE : k.tmod (n : Int) % (n : Int) = 0 := by simpa using HS.out
      simp only [Nat.zero_mul, Nat.add_zero] at HRD
      go_region_law (first | (refine step_append_lies _ rfl (.const (.slice none 0 0)) (.tmp 45) 22 rfl w2.heap.size 24 i0 _ 3 32 Try.underlying22 hi hz0 hz1 hz2 rfl (by decide) (.slice none 0 0) 0 [] rfl (World.ownsRow_nil _ _ _ _) ⟨b, off, none⟩ n rc (flat xs) rfl (by have := HFL.out; simpa using this) (by have := HRD.out.flat; simpa using this) (flat_one _) (by omega) (by unfold maxLen; omega) (by omega) (by simp) _ rfl ?_; intro g1 cap1 w5 hown1 hgrow1 hat1 hlt1; have hcp1 : n ≤ cap1 := by simpa using own_cap hown1))
      all_goals
        go_wp2_with fail
        go_meet
        exact ⟨g1, cap1, rfl, by rw [show xs.drop 0 ++ xs.take 0 = xs by simp]; exact RowAt.of_flat (by have h := hown1.cells (g := g1) rfl; simpa using h) hlt1, (show Below w2.heap.size w2 w2.drew from (Below.refl _ _).drew).trans (grown_below' hgrow1)⟩
    · have hE := HS.out
      have hK1 : 0 < K := by omega
      have hKle : K ≤ n := by omega
      have hkc2 : ¬ rc = K := by omega
      have hKrc : K ≤ rc := by omega
      go_region_law (first | (refine step_append_lies _ rfl (.const (.slice none 0 0)) (.tmp 45) 22 rfl w2.heap.size 24 i0 _ 3 32 Try.underlying22 hi hz0 hz1 hz2 rfl (by decide) (.slice none 0 0) 0 [] rfl (World.ownsRow_nil _ _ _ _) ⟨b, off + K * 3, none⟩ (n - K) (rc - K) (flat (xs.drop K)) rfl HFL.out HRD.out.flat (flat_one _) (by omega) (by unfold maxLen; omega) (by omega) (by simp) _ rfl ?_; intro g1 cap1 w5 hown1 hgrow1 hat1 hlt1; (simp only [Nat.zero_add, List.nil_append] at hown1)) | (refine step_append_lies _ rfl (.tmp 46) (.tmp 49) 22 rfl w2.heap.size 24 i0 _ 3 32 Try.underlying22 hi hz0 hz1 hz2 rfl (by decide) (.slice (some ⟨g1, 0, none⟩) (n - K) cap1) (n - K) (flat (xs.drop K)) rfl hown1 ⟨b, off, none⟩ K rc (flat (xs.take K)) rfl HFT.out (((show RowAt w2.drew w2.drew.heap.size (some ⟨b, off, none⟩) (xs.take K) from HR2.out.takeOf K).below (grown_below' hgrow1)).flat) (flat_one _) (by omega) (by unfold maxLen; omega) (by omega) (by have := hgrow1.size; simpa using this) _ rfl ?_; intro g2 cap2 w6 hown2 hgrow2 hat2 hlt2))
      all_goals
        go_wp2_with fail
        go_meet
        exact ⟨g2, cap2, by first | rfl | (congr 1; omega), RowAt.of_flat (by have h := hown2.cells (g := g2) rfl; rwa [flat_two] at h) hlt2, ((show Below w2.heap.size w2 w2.drew from (Below.refl _ _).drew).trans (grown_below' hgrow1)).grown hgrow2 (by have := hgrow1.size; simpa using this) (fun k hk => own_ge hown1 hk)⟩
  case rest =>
    obtain ⟨g, cap, rfl, HT, HB2⟩ := hcut
    have HCW := Lib.hid (bthen HC2.out HB2.out)
    have hbw : b < wc.heap.size := by have := HCW.out.size; omega
    clear HRD HFL HFT hkc hkc' hi hz0 hz1 hz2 HB2 hb2 HC2 HR2 HBIG HS
    go_wp2_with fail
    go_loopw [53, 7] (fun i s wr => ∃ j : Nat, j ≤ n ∧ i = .int .i64 j ∧ Hid (Below wc.heap.size wc wr) ∧ Hid (wr.ownsRow wc.heap.size 24 3 s j (flat ((xs.take j).map notV))) ∧ Hid (∀ v ∈ xs.take j, ctL [v] = 0)) (fun i _ _ => n - (intOf i).toNat)
    case atStart => exact ⟨0, Nat.zero_le _, rfl, Below.refl _ _, World.ownsRow_nil _ _ _ _, fun v hv => by simp at hv⟩
    case round =>
      obtain ⟨j, hj, rfl, HB, HO, HV⟩ := hrel
      by_cases hlt : j < n
      · have hjx : j < xs.length := by rw [← HN.out]; exact hlt
        obtain ⟨b', off', hA, -, hc⟩ := HR.out (by omega)
        simp only [Option.some.injEq, Addr.mk.injEq, and_true] at hA
        obtain ⟨rfl, rfl⟩ := hA
        obtain ⟨c1, c2, c3'⟩ := hc j hjx
        have hWr := bthen HCW.out HB.out
        have d1 := (hWr.cell (p := ⟨b, _, none⟩) hbl).trans c1
        have d2 := (hWr.cell (p := ⟨b, _, none⟩) hbl).trans c2
        have d3 := (hWr.cell (p := ⟨b, _, none⟩) hbl).trans c3'
        have HX := Lib.hid (show (xs.take (j + 1)).map notV = (xs.take j).map notV ++ [notV xs[j]] by rw [take_snoc hjx, List.map_append]; rfl)
        have HY := Lib.hid (show ctL [xs[j]] = 0 → ∀ v ∈ xs.take (j + 1), ctL [v] = 0 by
          intro h v hv
          rw [take_snoc hjx] at hv
          rcases List.mem_append.1 hv with h' | h'
          · exact HV.out v h'
          · simp at h'; rw [h']; exact h)
        have HNOT := Lib.hid (fun w => not_any xs[j] w)
        have hsz := HB.out.size
        generalize ctL [xs[j]] = re at *
        generalize notV xs[j] = nx at *
        generalize xs[j] = x at *
        clear c1 c2 c3' hc hWr
        have HO1 := Lib.hid (HO.out.alloc (.cells #[.int .i64 x.k, .int .i64 x.i, .string x.s] 24))
        have HB1 := Lib.hid (HB.out.alloc hsz (.cells #[.int .i64 x.k, .int .i64 x.i, .string x.s] 24))
        by_cases hre : re = 0
        · subst hre
          go_wp2_with fail
          refine (HNOT.out _).mono ?_
          rintro e w4 ⟨rfl, hb4⟩
          have hown4 := own_later HO1.out hb4
          have HB4 := Lib.hid (bthen HB1.out hb4)
          have hz4 : wc.heap.size < w4.heap.size := by have := hb4.size; simp at this; omega
          have HOWN := Lib.hid ((hown4.alloc (.cells #[.int .i64 nx.k, .int .i64 nx.i, .string nx.s] 24)).alloc (.cells #[.int .i64 nx.k, .int .i64 nx.i, .string nx.s] 24))
          obtain ⟨i0, hi, hz0, hz1, hz2⟩ := info_parts info24
          clear d1 d2 d3 hown4 hb4
          go_wp2_with (at_builtin; (refine wpList_append_lies _ rfl (.tmp 65) (.tmp 67) 22 rfl wc.heap.size 24 i0 _ 3 32 Try.underlying22 hi hz0 hz1 hz2 rfl (by decide) _ j (flat ((xs.take j).map notV)) rfl HOWN.out ⟨w4.heap.size + 1, 0, none⟩ 1 1 (c3 nx) rfl rfl (news_at (by simp) nx) (c3_each nx) (by decide) (by unfold maxLen; omega) (by omega) (by simp; omega) _ rfl ?_); intro g2 cap2 w6 hown7 hgrow7 hat7 hlt7; have HOO := Lib.hid hown7; have HG := Lib.hid hgrow7; clear hown7 hgrow7 hat7)
          go_roundw
          case rel =>
            have hbG := (Below.refl wc.heap.size ((w4.alloc (.cells #[.int .i64 nx.k, .int .i64 nx.i, .string nx.s] 24)).alloc (.cells #[.int .i64 nx.k, .int .i64 nx.i, .string nx.s] 24))).grown HG.out (by simp; omega) (fun k hk => own_ge HOWN.out hk)
            have ho := HOO.out
            rw [flat_app, ← HX.out] at ho
            exact ⟨j + 1, by omega, by go_num, ((HB4.out.alloc (by omega) _).alloc (by simp; omega) _).trans hbG, ho, HY.out trivial⟩
          case measure => simp [intOf]; omega
        · have hre' : (re != 0) = true := by simpa using hre
          clear hre HY
          go_wp2_with fail
          refine (HNOT.out _).mono ?_
          rintro e w4 ⟨rfl, hb4⟩
          have HB4 := Lib.hid (bthen HB1.out hb4)
          clear d1 d2 d3 hb4
          go_wp2_with fail
          go_ret
          exact ⟨rfl, bthen HCW.out (HB4.out.alloc HB4.out.size _)⟩
      · obtain rfl : j = n := by omega
        have hown := HO.out
        rw [List.take_of_length_le (show xs.length ≤ j by rw [← HN.out]; omega)] at hown
        have hv := HV.out
        rw [List.take_of_length_le (show xs.length ≤ j by rw [← HN.out]; omega)] at hv
        obtain ⟨A2, c2, rfl, hl2, hrow2⟩ := own_row hown
        have hct := ct_of_each hv
        have hcn := ct_nots hv
        obtain ⟨hm1, hm2⟩ := morgan hv
        have hml : (xs.map notV).length = j := by rw [List.length_map]; exact HN.out.symm
        have htl : (xs.drop K ++ xs.take K).length = j := by rw [List.length_append, List.length_drop, List.length_take, ← HN.out]; omega
        have hWr := bthen HCW.out HB.out
        have HA : Hid (∀ W, Below wr.heap.size wr W → Calls Try.prog 11 #[.slice (some ⟨b, off, none⟩) j rc] W fun e w' => e = .returned (.tuple #[.agg #[.int .i64 (decV false xs).k, .int .i64 (decV false xs).i, .string (decV false xs).s], .int .i64 0]) ∧ Below W.heap.size W w') := fun W hW => by
          have h := and_any xs _ rc W (HR.out.later (bthen hWr hW)) (by rw [← HN.out]; omega)
          rwa [hct, ← HN.out] at h
        have HO3 : Hid (∀ W, Below wr.heap.size wr W → Calls Try.prog 13 #[.slice (some ⟨b, off, none⟩) j rc] W fun e w' => e = .returned (.tuple #[.agg #[.int .i64 (decV true xs).k, .int .i64 (decV true xs).i, .string (decV true xs).s], .int .i64 0]) ∧ Below W.heap.size W w') := fun W hW => by
          have h := or_any xs _ rc W (HR.out.later (bthen hWr hW)) (by rw [← HN.out]; omega)
          rwa [hct, ← HN.out] at h
        have HO1 : Hid (∀ W, Below wr.heap.size wr W → Calls Try.prog 13 #[.slice A2 j c2] W fun e w' => e = .returned (.tuple #[.agg #[.int .i64 (decV true (xs.map notV)).k, .int .i64 (decV true (xs.map notV)).i, .string (decV true (xs.map notV)).s], .int .i64 0]) ∧ Below W.heap.size W w') := fun W hW => by
          have h := or_any (xs.map notV) _ c2 W (hrow2.later hW) (by omega)
          rwa [hcn, hml] at h
        have HNT : Hid (∀ W, Calls Try.prog 15 #[.agg #[.int .i64 (decV true (xs.map notV)).k, .int .i64 (decV true (xs.map notV)).i, .string (decV true (xs.map notV)).s]] W fun e w' => e = .returned (.tuple #[.agg #[.int .i64 (decV false xs).k, .int .i64 (decV false xs).i, .string (decV false xs).s], .int .i64 0]) ∧ Below W.heap.size W w') := fun W => by
          have h := not_any (decV true (xs.map notV)) W
          rwa [hm1, hm2] at h
        have HA2 : Hid (∀ W, Below wr.heap.size wr W → Calls Try.prog 11 #[.slice (some ⟨g, 0, none⟩) j cap] W fun e w' => e = .returned (.tuple #[.agg #[.int .i64 (decV false xs).k, .int .i64 (decV false xs).i, .string (decV false xs).s], .int .i64 0]) ∧ Below W.heap.size W w') := fun W hW => by
          have h := and_any (xs.drop K ++ xs.take K) _ cap W (HT.out.later (bthen HB.out hW)) (by omega)
          rwa [ct_turn, hct, dec_turn, htl] at h
        have HO2 : Hid (∀ W, Below wr.heap.size wr W → Calls Try.prog 13 #[.slice (some ⟨g, 0, none⟩) j cap] W fun e w' => e = .returned (.tuple #[.agg #[.int .i64 (decV true xs).k, .int .i64 (decV true xs).i, .string (decV true xs).s], .int .i64 0]) ∧ Below W.heap.size W w') := fun W hW => by
          have h := or_any (xs.drop K ++ xs.take K) _ cap W (HT.out.later (bthen HB.out hW)) (by omega)
          rwa [ct_turn, hct, dec_turn, htl] at h
        have HWR := Lib.hid hWr
        clear hown hv hl2 hrow2 hct hcn hm1 hm2 hml htl hWr
        generalize decV false xs = va at *
        generalize decV true xs = vo at *
        generalize decV true (xs.map notV) = vb at *
        have P0 := Lib.hid (Go.Proofs.Ytfccongmfoolpaa.HB.nil wr)
        go_wp2_with fail
        refine (HA.out _ P0.out.below).mono ?_
        rintro e v1 ⟨rfl, b1⟩
        have P1 := Lib.hid ((P0.out.call b1).push va)
        go_wp2_with fail
        refine (HO1.out _ P1.out.below).mono ?_
        rintro e v2 ⟨rfl, b2⟩
        have P2 := Lib.hid ((P1.out.call b2).push vb)
        obtain ⟨e0, e1, e2, -⟩ := P2.out.boxes
        go_wp2_with fail
        refine (HNT.out _).mono ?_
        rintro e v3 ⟨rfl, b3⟩
        have P3 := Lib.hid ((P2.out.call b3).push va)
        clear e0 e1 e2
        go_wp2_with fail
        refine (HA2.out _ P3.out.below).mono ?_
        rintro e v4 ⟨rfl, b4⟩
        have P4 := Lib.hid ((P3.out.call b4).push va)
        go_wp2_with fail
        refine (HO2.out _ P4.out.below).mono ?_
        rintro e v5 ⟨rfl, b5⟩
        have P5 := Lib.hid ((P4.out.call b5).push vo)
        go_wp2_with fail
        refine (HO3.out _ P5.out.below).mono ?_
        rintro e v6 ⟨rfl, b6⟩
        have P6 := Lib.hid ((P5.out.call b6).push vo)
        have hfin := Lib.hid (bthen HWR.out P6.out.below)
        obtain ⟨g0, g1, g2, f0, f1, f2, a0, a1, a2, q0, q1, q2, o0, o1, o2, x0, x1, x2, -⟩ := P6.out.boxes
        go_wp2_with fail
        go_ret
        exact ⟨rfl, hfin.out⟩
end Go.Proofs.Ytfccongmfoolpaa
