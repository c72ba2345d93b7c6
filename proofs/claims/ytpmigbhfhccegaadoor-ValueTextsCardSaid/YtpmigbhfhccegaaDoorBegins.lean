/- The walk of the law ValueBegins: it answers true, whatever row, number and value. Conditions: rows and texts shorter than 2 to the 47, and the library's two variables hold what they hold at the start. -/
import Derived.Test.YtpmigbhfhccegaaDoorApart
import Derived.Deep.RegionLaw
import Derived.Test.YtpmigbhfhccegaaDoorFlat
namespace Go.Proofs.YtpmigbhfhccegaaDoor
open Go.RowKit
theorem few_len {r : R} (h : few [r] 20000 = true) : r.xs.length ≤ 20000 := by
  have : ∀ l : List V, l.length ≤ rowN l := fun l => by
    induction l with
    | nil => simp
    | cons a l ih => unfold rowN at ih ⊢; simp only [List.map_cons, List.sum_cons, List.length_cons]; omega
  have h1 := this r.xs
  unfold few rowsN at h
  simp at h
  omega
theorem cmpR_take (xs : List V) (k : Nat) (hk : k < xs.length) : cmpR (xs.take k) xs = -1 := by
  induction xs generalizing k with
  | nil => simp at hk
  | cons a l ih =>
    cases k with
    | zero => rfl
    | succ k =>
      show (if cmpVV a a = 0 then cmpL cmpVV (l.take k) l else _) = _
      rw [if_pos (cmpVV_ok.self a)]
      exact ih k (by simpa using hk)
theorem RowAt.take {w : World} {B : Nat} {A : Option Addr} {xs : List V} (h : RowAt w B A xs) (k : Nat) : RowAt w B A (xs.take k) := fun hl => by
  obtain ⟨b, off, hA, hlt, hc⟩ := h (by rw [List.length_take] at hl; omega)
  refine ⟨b, off, hA, hlt, fun j hj => ?_⟩
  have := hc j (by rw [List.length_take] at hj; omega)
  simpa using this
theorem mod_in (k : Int) (n : Nat) : ∃ K : Nat, K ≤ n ∧ (k.tmod ((n : Int) + 1) + n + 1) % ((n : Int) + 1) = K := by
  have h0 := Int.emod_nonneg (k.tmod ((n : Int) + 1) + n + 1) (show ((n : Int) + 1) ≠ 0 by omega)
  have h1 := Int.emod_lt_of_pos (k.tmod ((n : Int) + 1) + n + 1) (show 0 < ((n : Int) + 1) by omega)
  exact ⟨((k.tmod ((n : Int) + 1) + n + 1) % ((n : Int) + 1)).toNat, by omega, by omega⟩
theorem tmod_in (k : Int) (n : Nat) : -(n : Int) ≤ k.tmod ((n : Int) + 1) ∧ k.tmod ((n : Int) + 1) ≤ n := by
  have h := Int.natAbs_tmod k ((n : Int) + 1)
  have h2 : k.natAbs % ((n : Int) + 1).natAbs < ((n : Int) + 1).natAbs := Nat.mod_lt _ (by omega)
  omega
theorem take_cmp (xs : List V) (n K : Nat) (hn : xs.length = n) (hK : K ≤ n) : (K = n ∧ cmpR (xs.take K) xs = 0) ∨ (((K : Int) == n) = false ∧ cmpR (xs.take K) xs = -1) := by
  by_cases h : K = n
  · exact Or.inl ⟨h, by rw [List.take_of_length_le (by omega)]; exact cmpR_ok.self xs⟩
  · exact Or.inr ⟨by simp; omega, cmpR_take xs K (by omega)⟩
theorem flat_snoc (xs : List V) (v : V) : flat (xs ++ [v]) = flat xs ++ c3 v := by unfold flat; rw [List.flatMap_append]; simp
theorem cmpR_snoc (xs : List V) (v : V) : cmpR xs (xs ++ [v]) = -1 := by
  have := cmpR_take (xs ++ [v]) xs.length (by simp)
  rwa [List.take_left] at this
theorem grown_below {w w' : World} (h : w.grownBy w' (Value.slice none 0 0).ownBlock) : Below w.heap.size w w' := ⟨h.os, h.tape, h.output, h.size, fun k hk => h.block k hk (by simp [Value.ownBlock])⟩
theorem box_parts {w : World} {g : Nat} {v : V} (h : Box w g v) : w.cell? ⟨g, 0, none⟩ = some (.int .i64 v.k) ∧ w.cell? ⟨g, 1, none⟩ = some (.int .i64 v.i) ∧ w.cell? ⟨g, 2, none⟩ = some (.string v.s) := ⟨h.1.1, by simpa using h.1.2.1, by simpa using h.1.2.2⟩
theorem own_base {w : World} {B g n cap : Nat} {xs : List Value} (h : w.ownsRow B 29 3 (.slice (some ⟨g, 0, none⟩) n cap) n xs) : ∀ k, (Value.slice (some ⟨g, 0, none⟩) n cap).ownBlock = some k → B ≤ k := fun k hk => by
  rcases h.2 with ⟨hv, _⟩ | ⟨g', cap', cur, hv, hb, _⟩
  · cases hv
  · cases hv
    simp [Value.ownBlock] at hk
    omega
theorem c3_one (v : V) : ∀ u ∈ c3 v, u.oneCell' = true := by
  intro u hu
  simp [c3] at hu
  rcases hu with rfl | rfl | rfl <;> rfl
set_option maxRecDepth 100000 in
set_option maxHeartbeats 4000000 in
theorem begins_core (r : R) (k : Int) (v : V) (w : World) (hE : Env w) (hr : RowAt w w.heap.size r.A r.xs) (sr : RowSmall r.xs) (hcap : r.xs.length ≤ r.c) (hcap2 : r.c ≤ 140737488355328) (_hk : -9223372036854775808 ≤ k ∧ k ≤ 9223372036854775807) (sv : v.s.size ≤ 140737488355328) :
    Calls Tryd.prog 9 #[r.val, .int .i64 k, .agg #[.int .i64 v.k, .int .i64 v.i, .string v.s]] w fun e w' => e = .returned (.bool true) ∧ Below w.heap.size w w' := by
  have hbig : ∀ w', Below w.heap.size w w' → Calls Tryd.prog 11 #[.slice (some ⟨w'.heap.size, 0, none⟩) 1 1] (w'.alloc (.cells #[r.val] 23)) fun e w2 => e = .returned (.bool (!few [r] 20000)) ∧ Below (w'.alloc (.cells #[r.val] 23)).heap.size (w'.alloc (.cells #[r.val] 23)) w2 := fun w' h =>
    big_any [r] _ 1 _ (rows_made w' [r] (all1 (P := fun r => RowAt w' w'.heap.size r.A r.xs) (hr.later h)) _ rfl 23) (by simp) (all1 (P := fun r => RowSmall r.xs) sr)
  have hbox := Box.made w v
  have HE := Lib.hid (hE.below ((Below.refl _ w).alloc (Nat.le_refl _) (.cells #[.int .i64 v.k, .int .i64 v.i, .string v.s] 29)) hE.size)
  have HBOX := Lib.hid hbox
  have HR := Lib.hid hr
  have HBIG := Lib.hid hbig
  clear hE hbox hr hbig
  cases hf : few [r] 20000
  · rw [hf] at HBIG
    unfold R.val at *
    clear hf
    generalize r.xs.length = n at *
    go_enter Tryd.func9, Tryd.ntmps9
    go_wp2_with fail
    refine (live_any _ HE.out).mono ?_
    rintro e w1 ⟨rfl, b1⟩
    have c1 : Below w.heap.size w w1 := ((Below.refl _ w).alloc (Nat.le_refl _) _).trans (b1.mono (by simp))
    go_wp2_with fail
    refine (HBIG.out w1 c1).mono ?_
    rintro e w2 ⟨rfl, b2⟩
    have c2 : Below w.heap.size w w2 := (c1.alloc c1.size _).trans (b2.mono (by have := c1.size; simp; omega))
    go_wp2_with fail
    go_ret
    exact ⟨rfl, c2⟩
  · rw [hf] at HBIG
    have hn := few_len hf
    clear hf
    obtain ⟨aa, cc, xs⟩ := r
    unfold R.val at *
    simp only at *
    generalize hnn : xs.length = n at *
    have HN := Lib.hid hnn
    clear hnn
    have ht0 := tmod_in k n
    obtain ⟨K, hKn, hKeq⟩ := mod_in k n
    have ht1 := ht0.1
    have ht2 := ht0.2
    clear ht0
    by_cases hv : 10000 < v.s.size
    · go_enter Tryd.func9, Tryd.ntmps9
      go_wp2_with fail
      refine (live_any _ HE.out).mono ?_
      rintro e w1 ⟨rfl, b1⟩
      have c1 : Below w.heap.size w w1 := ((Below.refl _ w).alloc (Nat.le_refl _) _).trans (b1.mono (by simp))
      go_wp2_with fail
      refine (HBIG.out w1 c1).mono ?_
      rintro e w2 ⟨rfl, b2⟩
      have c2 : Below w.heap.size w w2 := (c1.alloc c1.size _).trans (b2.mono (by have := c1.size; simp; omega))
      have HB2 := Lib.hid ((HBOX.out.below b1).below ((Below.alloc (Below.refl _ _) (Nat.le_refl _) _).trans (b2.mono (by simp))))
      obtain ⟨⟨e0, e1, e2⟩, -⟩ := HB2.out
      simp only [Nat.zero_add] at e1 e2
      go_wp2_with fail
      go_ret
      exact ⟨rfl, c2⟩
    · go_enter Tryd.func9, Tryd.ntmps9
      go_wp2_with fail
      refine (live_any _ HE.out).mono ?_
      rintro e w1 ⟨rfl, b1⟩
      have c1 : Below w.heap.size w w1 := ((Below.refl _ w).alloc (Nat.le_refl _) _).trans (b1.mono (by simp))
      go_wp2_with fail
      refine (HBIG.out w1 c1).mono ?_
      rintro e w2 ⟨rfl, b2⟩
      have c2 : Below w.heap.size w w2 := (c1.alloc c1.size _).trans (b2.mono (by have := c1.size; simp; omega))
      have HB2 := Lib.hid ((HBOX.out.below b1).below ((Below.alloc (Below.refl _ _) (Nat.le_refl _) _).trans (b2.mono (by simp))))
      obtain ⟨⟨e0, e1, e2⟩, -⟩ := HB2.out
      simp only [Nat.zero_add] at e1 e2
      go_wp2_with fail
      have hR2 := HR.out.later c2
      have hcm := cmpR_any (xs.take K) xs aa aa cc cc w2 (hR2.take K) hR2 (by rw [List.length_take]; omega)
      rw [List.length_take, HN.out, Nat.min_eq_left hKn] at hcm
      refine hcm.mono ?_
      clear hcm hR2
      rintro e w3 ⟨rfl, b3⟩
      have c3 := bthen c2 b3
      go_wp2_with fail
      have HS := Lib.hid hKeq
      have HC3 := Lib.hid c3
      have hbx := (HB2.out.below b3)
      have HBX := Lib.hid hbx
      obtain ⟨⟨e0, e1, e2⟩, hbl⟩ := hbx
      simp only [Nat.zero_add] at e1 e2
      have hR3 := HR.out.later c3
      have hR3a : ∀ o, RowAt (w3.drew.alloc o) w3.heap.size aa xs := fun o => (show RowAt w3.drew w3.heap.size aa xs from hR3).below (Below.alloc (Below.refl w3.heap.size w3.drew) (Nat.le_refl _) o)
      have HR3 := Lib.hid (show RowAt w3.drew w3.heap.size aa xs from hR3)
      have HR3a := Lib.hid hR3a
      clear hKeq hR3 hR3a c1 c2 b1 b2 b3 c3
      by_cases h0 : n = 0
      · subst h0
        obtain rfl : K = 0 := by omega
        obtain rfl : xs = [] := List.eq_nil_of_length_eq_zero HN.out
        obtain ⟨i0, hi, hz0, hz1, hz2⟩ := info_parts info29
        have HB0 := Lib.hid (show Box w3.drew w.heap.size v from HBX.out)
        obtain ⟨x0, x1, x2⟩ := box_parts HB0.out
        cases aa
        all_goals
          go_region_law (first
            | (refine step_append_lies _ rfl (.tmp 40) (.tmp 42) 23 rfl w.heap.size 29 i0 _ 3 32 Tryd.underlying23 hi hz0 hz1 hz2 rfl (by decide) (.slice none 0 0) 0 [] rfl (World.ownsRow_nil _ _ _ _) ⟨w3.heap.size, 0, none⟩ 1 1 (c3 v) rfl rfl (World.news_of_block (heap_alloc_new w3.drew _)) (c3_one v) (by decide) (by unfold maxLen; omega) (by omega) (by simp; omega) _ rfl ?_; intro g2 cap2 w6 hown2 hgrow2 hat2 hlt2; have cf : Below w.heap.size w w6 := (HC3.out.drew.alloc (by simp; omega) _).grown hgrow2 (by simp; omega) (by simp [Value.ownBlock])))
          all_goals
            have hmore : RowAt w6 w6.heap.size (some ⟨g2, 0, none⟩) [v] := RowAt.of_flat (by have h := hown2.cells (g := g2) rfl; simpa [flat] using h) hlt2
            have hcm2 := cmpR_any [] [v] _ (some ⟨g2, 0, none⟩) cc cap2 w6 (HR.out.later cf) hmore (by simp)
            rw [show cmpR [] [v] = -1 from rfl] at hcm2
            simp only [List.length_nil, List.length_cons, Nat.zero_add] at hcm2
            have hq : cmpR [] [] = 0 := rfl
            have HCM2 := Lib.hid hcm2
            clear hcm2 hmore hown2 hgrow2 hat2 x0 x1 x2 e0 e1 e2 hi hz0 hz1 hz2 HB0
            go_wp2_with fail
            refine HCM2.out.mono ?_
            rintro e w7 ⟨rfl, b7⟩
            go_wp2_with fail
            go_ret
            exact ⟨rfl, bthen cf b7⟩
      · obtain ⟨bb, off, hA, hbl2, -⟩ := HR.out (by rw [HN.out]; omega)
        subst hA
        obtain ⟨i0, hi, hz0, hz1, hz2⟩ := info_parts info29
        have hfl : (flat xs).length = n * 3 := by rw [flat_len, HN.out]
        have HFL := Lib.hid hfl
        clear hfl
        have HB0 := Lib.hid (show Box w3.drew w.heap.size v from HBX.out)
        go_region_law (first
          | (refine step_append_lies _ rfl (.const (.slice none 0 0)) (.tmp 39) 23 rfl w.heap.size 29 i0 _ 3 32 Tryd.underlying23 hi hz0 hz1 hz2 rfl (by decide) (.slice none 0 0) 0 [] rfl (World.ownsRow_nil _ _ _ _) ⟨bb, off, none⟩ n cc (flat xs) rfl HFL.out (by first | exact HR3.out.flat | exact (HR3a.out _).flat) (flat_one xs) (by omega) (by unfold maxLen; omega) (by omega) (by simp; omega) _ rfl ?_; intro g1 cap1 w5 hown1 hgrow1 hat1 hlt1; obtain ⟨x0, x1, x2⟩ := box_parts (show Box w5 w.heap.size v by first | exact HB0.out.below (grown_below hgrow1) | exact (HB0.out.below (Below.alloc (Below.refl _ _) (Nat.le_refl _) _)).below (grown_below hgrow1)); simp only [Nat.zero_add, List.nil_append] at hown1; have hz5 := hgrow1.size)
          | (refine step_append_lies _ rfl (.tmp 40) (.tmp 42) 23 rfl w.heap.size 29 i0 _ 3 32 Tryd.underlying23 hi hz0 hz1 hz2 rfl (by decide) (.slice (some ⟨g1, 0, none⟩) n cap1) n (flat xs) rfl (hown1.alloc _) ⟨w5.heap.size, 0, none⟩ 1 1 (c3 v) rfl rfl (World.news_of_block (heap_alloc_new w5 _)) (c3_one v) (by decide) (by unfold maxLen; omega) (by omega) (by simp; simp at hz5; omega) _ rfl ?_; intro g2 cap2 w6 hown2 hgrow2 hat2 hlt2; have cf : Below w.heap.size w w6 := ((HC3.out.drew.grown hgrow1 (by simp; omega) (by simp [Value.ownBlock])).alloc (by simp at hz5; omega) _).grown hgrow2 (by simp; simp at hz5; omega) (own_base hown1))
          | (refine step_append_lies _ rfl (.tmp 40) (.tmp 42) 23 rfl w.heap.size 29 i0 _ 3 32 Tryd.underlying23 hi hz0 hz1 hz2 rfl (by decide) (.slice (some ⟨g1, 0, none⟩) n cap1) n (flat xs) rfl hown1 ⟨w3.heap.size, 0, none⟩ 1 1 (c3 v) rfl rfl (World.news_of_block ((hgrow1.block w3.heap.size (by simp) (by simp [Value.ownBlock])).trans (heap_alloc_new w3.drew _))) (c3_one v) (by decide) (by unfold maxLen; omega) (by omega) (by simp at hz5; omega) _ rfl ?_; intro g2 cap2 w6 hown2 hgrow2 hat2 hlt2; have cf : Below w.heap.size w w6 := ((HC3.out.drew.alloc (by simp; omega) _).grown hgrow1 (by simp; omega) (by simp [Value.ownBlock])).grown hgrow2 (by simp at hz5; omega) (own_base hown1)))
        all_goals
          have hmore : RowAt w6 w6.heap.size (some ⟨g2, 0, none⟩) (xs ++ [v]) := RowAt.of_flat (by rw [flat_snoc]; exact hown2.cells (g := g2) rfl) hlt2
          have hcm2 := cmpR_any xs (xs ++ [v]) (some ⟨bb, off, none⟩) (some ⟨g2, 0, none⟩) cc cap2 w6 (HR.out.later cf) hmore (by rw [HN.out]; omega)
          rw [cmpR_snoc, List.length_append, HN.out] at hcm2
          have hq := take_cmp xs n K HN.out hKn
          generalize cmpR (List.take K xs) xs = q at *
          have HCM2 := Lib.hid hcm2
          clear hcm2 hmore hown2 hown1 hgrow1 hgrow2 hat1 hat2 x0 x1 x2 e0 e1 e2 hi hz0 hz1 hz2 HB0 hz5
          rcases hq with ⟨hq1, hq2⟩ | ⟨hq1, hq2⟩
          all_goals
            go_wp2_with fail
            refine HCM2.out.mono ?_
            rintro e w7 ⟨rfl, b7⟩
            go_wp2_with fail
            go_ret
            exact ⟨rfl, bthen cf b7⟩
end Go.Proofs.YtpmigbhfhccegaaDoor
