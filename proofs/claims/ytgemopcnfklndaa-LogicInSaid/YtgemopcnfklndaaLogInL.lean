/- The walk of the law LogicIn where all checks ahead are passed. Conditions: the list and each text shorter than 2 to the 47. -/
import Derived.Test.YtgemopcnfklndaaLogInL0
import Derived.Deep.DeepCutAuto
import Derived.Deep.RegionHeld3
import Derived.Deep.QuietTactic
import Derived.BigQuiet
namespace Go.Proofs.Ytgemopcnfklndaa
open Go.RowKit
theorem Held.grown {w W W' : World} {top : Nat} {l : List (Nat × V)} {row : Option Nat} (hl : AllLt top l) (hw : w.heap.size ≤ top) (h : Held w top l W) (hg : W.grownBy W' row) (hr : ∀ k, row = some k → top ≤ k) : Held w top l W' := by
  have hb := (Below.refl top W).grown hg h.1 hr
  exact ⟨Nat.le_trans h.1 hb.size, h.2.1.trans (hb.mono hw), h.2.2.same hl (fun b o hlt => hb.cell (p := ⟨b, o, none⟩) hlt)⟩
theorem cell_in' {w : World} {b o : Nat} {v : Value} (h : w.cell? ⟨b, o, none⟩ = some v) : b < w.heap.size := by
  rcases Nat.lt_or_ge b w.heap.size with h' | h'
  · exact h'
  · simp [World.cell?, Array.getElem?_eq_none h'] at h
theorem news_drew {w : World} {ad : Addr} {vs : List Value} (h : ∀ j u, vs[j]? = some u → w.cell? (ad.add j) = some u) : ∀ j u, vs[j]? = some u → w.drew.cell? (ad.add j) = some u := h
theorem news_alloc {w : World} {g : Nat} {o : Obj} {vs : List Value} (h : ∀ j u, vs[j]? = some u → w.cell? ((⟨g, 0, none⟩ : Addr).add j) = some u) : ∀ j u, vs[j]? = some u → (w.alloc o).cell? ((⟨g, 0, none⟩ : Addr).add j) = some u := fun j u hu => by
  have h1 := h j u hu
  rw [WideShapes.add_plain] at h1 ⊢
  exact (World.cell?_alloc_lt _ _ _ (cell_in' h1)).trans h1
theorem own_rowg {w : World} {base g n cap : Nat} {ys : List V} {v : V} (h : w.ownsRow base 24 3 (.slice (some ⟨g, 0, none⟩) n cap) n (flat ys ++ c3 v)) (hg : g < w.heap.size) : RowAt w w.heap.size (some ⟨g, 0, none⟩) (ys ++ [v]) :=
  RowAt.of_flat (by have := h.cells (g := g) rfl; rwa [flat_app] at this) hg
theorem VBox.grown {w w' : World} {b : Nat} {v : V} {row : Option Nat} (h : VBox w b v) (hg : w.grownBy w' row) (hne : row ≠ some b) : VBox w' b v := (hg.block b h.lt (fun e => hne e.symm)).trans h
theorem own_ne {w : World} {base : Nat} {e : TypeId} {size : Nat} {v : Value} {n : Nat} {xs : List Value} (h : w.ownsRow base e size v n xs) {H : Nat} (hH : w.heap.size ≤ H) : v.ownBlock ≠ some H := by
  rcases h.2 with ⟨rfl, -⟩ | ⟨g, cap, cur, rfl, -, h2, -⟩
  · simp [Value.ownBlock]
  · have := (Array.getElem?_eq_some_iff.1 h2).1
    simp [Value.ownBlock]
    omega
set_option maxRecDepth 100000 in
set_option maxHeartbeats 16000000 in
theorem lin_in (v : V) (r : R) (w : World) (hr : RowAt w w.heap.size r.A r.xs) (sr : RowSmall r.xs) (hbg : bigL r = false) (h1 : v.chk = 0) (h2 : ¬ v.k = 0) (h3 : ¬ 10000 < v.s.size) :
    Calls Try.prog 7 #[.agg #[.int .i64 v.k, .int .i64 v.i, .string v.s], r.val] w fun e w' => e = .returned (.bool true) ∧ Below w.heap.size w w' := by
  have HBIG := Lib.hid (fun w' (h : Below w.heap.size w w') => big_any r w' (hr.later h) sr)
  rw [hbg] at HBIG
  have hlen := big_len hbg
  have HCA := Lib.hid (fun w' => rcheck_any v.k v.i v.s w')
  rw [show chkI v.k v.i v.s = 0 from h1] at HCA
  have HB0 := Lib.hid ((HB.nil w).push v)
  have HSELF := Lib.hid (in_self h1 h2 r.xs)
  have HNONE := Lib.hid (in_none h1)
  obtain ⟨rA, rc, xs⟩ := r
  unfold R.val at *
  simp only at *
  have k1 : (v.k == 0) = false := by simpa using h2
  have d1 : decide ((10000 : Int) < (v.s.size : Int)) = false := decide_eq_false (by omega)
  obtain ⟨n, hn⟩ : ∃ n, n = xs.length := ⟨_, rfl⟩
  rw [← hn] at hlen HBIG ⊢
  have HN := Lib.hid hn
  have HR := Lib.hid hr
  clear hr sr hbg h1 h2 h3 hn
  go_enter Try.func7, Try.ntmps7
  go_wp2_with fail
  refine (live_any _).mono ?_
  rintro e w1 ⟨rfl, b1⟩
  have H1 := Lib.hid (HB0.out.call b1)
  go_wp2_with fail
  refine (HBIG.out w1 H1.out.below).mono ?_
  rintro e w2 ⟨rfl, b2⟩
  have H2 := Lib.hid (H1.out.call b2)
  obtain ⟨e0, e1, e2, -⟩ := H2.out.boxes
  go_wp2_with fail
  refine (HCA.out _).mono ?_
  rintro e w3 ⟨rfl, b3⟩
  have H3 := Lib.hid (H2.out.call b3)
  clear e0 e1 e2
  obtain ⟨e0, e1, e2, -⟩ := H3.out.boxes
  go_wp2_with fail
  clear e0 e1 e2
  have hsz3 := H3.out.lt _ (List.mem_cons_self ..)
  go_loopw [35, 6] (fun i s wr => ∃ k : Nat, k ≤ n ∧ i = .int .i64 k ∧ w3.heap.size ≤ wr.heap.size ∧ Hid (HB w [(w.heap.size, v)] wr) ∧ Hid (wr.ownsRow w3.heap.size 24 3 s (sl v (xs.take k)).length (flat (sl v (xs.take k))))) (fun i _ _ => n - (intOf i).toNat)
  case atStart => exact ⟨0, Nat.zero_le _, rfl, Nat.le_refl _, H3.out, World.ownsRow_nil _ _ _ _⟩
  case round =>
    obtain ⟨k, hk, rfl, hgl, hhb, hown⟩ := hrel
    by_cases hlt : k < n
    · have hkx : k < xs.length := by rw [← HN.out]; exact hlt
      obtain ⟨b, off, hA, hbl, hc⟩ := HR.out (by omega)
      subst hA
      obtain ⟨q1, q2, q3⟩ := hc k hkx
      have d2 := (hhb.out.below.cell (p := ⟨b, _, none⟩) hbl).trans q1
      have d3 := (hhb.out.below.cell (p := ⟨b, _, none⟩) hbl).trans q2
      have d4 := (hhb.out.below.cell (p := ⟨b, _, none⟩) hbl).trans q3
      clear q1 q2 q3 hc
      have HSN := Lib.hid (sl_snoc (v := v) hkx)
      have HLS := Lib.hid (show (sl v (xs.take k)).length ≤ k from Nat.le_trans (sl_len v _) (List.length_take_le _ _))
      have hfit : fit v xs[k] = (chkI xs[k].k xs[k].i xs[k].s == 0 && (xs[k].k == v.k || xs[k].k == 0)) := rfl
      have HCX := Lib.hid (fun w' => rcheck_any xs[k].k xs[k].i xs[k].s w')
      rw [hfit] at HSN
      clear hfit
      generalize chkI xs[k].k xs[k].i xs[k].s = cx at *
      generalize xs[k] = x at *
      have HA := Lib.hid (hhb.out.push x)
      have hownA := Lib.hid (hown.out.alloc (.cells #[.int .i64 x.k, .int .i64 x.i, .string x.s] 24))
      have hcase : (cx == 0) = false ∨ ((cx == 0) = true ∧ (x.k == v.k) = false ∧ (x.k == 0) = false) ∨ ((cx == 0) = true ∧ (x.k == v.k) = true) ∨ ((cx == 0) = true ∧ (x.k == v.k) = false ∧ (x.k == 0) = true) := by
        cases cx == 0 <;> cases x.k == v.k <;> cases x.k == 0 <;> simp
      rcases hcase with y1 | ⟨y1, y2, y3⟩ | ⟨y1, y2⟩ | ⟨y1, y2, y3⟩
      · have HS2 := Lib.hid (show sl v (xs.take (k + 1)) = sl v (xs.take k) by have := HSN.out; rw [y1] at this; simpa using this)
        go_wp2_with fail
        refine (HCX.out _).mono ?_
        rintro e w4 ⟨rfl, b4⟩
        have H4 := Lib.hid (HA.out.call b4)
        have hown4 := Lib.hid (own_later hownA.out b4)
        have hz4 : w3.heap.size < w4.heap.size := by have := b4.size; simp at this; omega
        clear d2 d3 d4
        obtain ⟨x0, x1, x2, e0, e1, e2, -⟩ := H4.out.boxes
        go_wp2_with fail
        go_roundw
        case rel => exact ⟨k + 1, by omega, by go_num, by omega, H4.out.tail, by have := hown4.out; rw [HS2.out]; exact this⟩
        case measure => simp [intOf]; omega
      · have HS2 := Lib.hid (show sl v (xs.take (k + 1)) = sl v (xs.take k) by have := HSN.out; rw [y1, y2, y3] at this; simpa using this)
        go_wp2_with fail
        refine (HCX.out _).mono ?_
        rintro e w4 ⟨rfl, b4⟩
        have H4 := Lib.hid (HA.out.call b4)
        have hown4 := Lib.hid (own_later hownA.out b4)
        have hz4 : w3.heap.size < w4.heap.size := by have := b4.size; simp at this; omega
        clear d2 d3 d4
        obtain ⟨x0, x1, x2, e0, e1, e2, -⟩ := H4.out.boxes
        go_wp2_with fail
        go_roundw
        case rel => exact ⟨k + 1, by omega, by go_num, by omega, H4.out.tail, by have := hown4.out; rw [HS2.out]; exact this⟩
        case measure => simp [intOf]; omega
      · have HS2 := Lib.hid (show sl v (xs.take (k + 1)) = sl v (xs.take k) ++ [x] by have := HSN.out; rw [y1, y2] at this; simpa using this)
        go_wp2_with fail
        refine (HCX.out _).mono ?_
        rintro e w4 ⟨rfl, b4⟩
        have H4 := Lib.hid (HA.out.call b4)
        have hown4 := own_later hownA.out b4
        have HOWN4 := Lib.hid (hown4.alloc (.cells #[.int .i64 x.k, .int .i64 x.i, .string x.s] 24))
        have hz4 : w3.heap.size < w4.heap.size := by have := b4.size; simp at this; omega
        have hls := HLS.out
        clear d2 d3 d4 hown4
        obtain ⟨x0, x1, x2, e0, e1, e2, -⟩ := H4.out.boxes
        obtain ⟨i0, hi, hz0, hz1, hz2⟩ := info_parts info24
        go_wp2_with (at_builtin; refine wpList_append_lies _ rfl (.tmp 54) (.tmp 56) 22 rfl w3.heap.size 24 i0 _ 3 32 Try.underlying22 hi hz0 hz1 hz2 rfl (by decide) _ (sl v (xs.take k)).length (flat (sl v (xs.take k))) rfl HOWN4.out ⟨w4.heap.size, 0, none⟩ 1 1 (c3 x) rfl rfl (news_at rfl x) (c3_each x) (by decide) (by unfold maxLen; omega) (by omega) (by simp; omega) _ rfl ?_; intro g2 cap2 w6 hown7 hgrow7 hat7 hlt7; have HO := Lib.hid hown7; have HG := Lib.hid hgrow7; clear hown7 hgrow7 hat7)
        go_roundw
        case rel =>
          have hbG := (Below.refl w3.heap.size (w4.alloc (.cells #[.int .i64 x.k, .int .i64 x.i, .string x.s] 24))).grown HG.out (by simp; omega) (fun k hk => own_ge HOWN4.out hk)
          have ho := HO.out
          rw [flat_app] at ho
          refine ⟨k + 1, by omega, by go_num, by have := hbG.size; simp at this; omega, ?_, ?_⟩
          · have hH := H4.out.tail.alloc (.cells #[.int .i64 x.k, .int .i64 x.i, .string x.s] 24)
            exact ⟨hH.below.trans (hbG.mono (by omega)), fun p hp => Nat.lt_of_lt_of_le (hH.lt p hp) hbG.size, hH.boxes.same (top := w3.heap.size) (allLt_cons hsz3 allLt_nil) (fun b o hlt => hbG.cell (p := ⟨b, o, none⟩) hlt)⟩
          · rw [HS2.out, List.length_append]; exact ho
        case measure => simp [intOf]; omega
      · have HS2 := Lib.hid (show sl v (xs.take (k + 1)) = sl v (xs.take k) ++ [x] by have := HSN.out; rw [y1, y2, y3] at this; simpa using this)
        go_wp2_with fail
        refine (HCX.out _).mono ?_
        rintro e w4 ⟨rfl, b4⟩
        have H4 := Lib.hid (HA.out.call b4)
        have hown4 := own_later hownA.out b4
        have HOWN4 := Lib.hid (hown4.alloc (.cells #[.int .i64 x.k, .int .i64 x.i, .string x.s] 24))
        have hz4 : w3.heap.size < w4.heap.size := by have := b4.size; simp at this; omega
        have hls := HLS.out
        clear d2 d3 d4 hown4
        obtain ⟨x0, x1, x2, e0, e1, e2, -⟩ := H4.out.boxes
        obtain ⟨i0, hi, hz0, hz1, hz2⟩ := info_parts info24
        go_wp2_with (at_builtin; refine wpList_append_lies _ rfl (.tmp 54) (.tmp 56) 22 rfl w3.heap.size 24 i0 _ 3 32 Try.underlying22 hi hz0 hz1 hz2 rfl (by decide) _ (sl v (xs.take k)).length (flat (sl v (xs.take k))) rfl HOWN4.out ⟨w4.heap.size, 0, none⟩ 1 1 (c3 x) rfl rfl (news_at rfl x) (c3_each x) (by decide) (by unfold maxLen; omega) (by omega) (by simp; omega) _ rfl ?_; intro g2 cap2 w6 hown7 hgrow7 hat7 hlt7; have HO := Lib.hid hown7; have HG := Lib.hid hgrow7; clear hown7 hgrow7 hat7)
        go_roundw
        case rel =>
          have hbG := (Below.refl w3.heap.size (w4.alloc (.cells #[.int .i64 x.k, .int .i64 x.i, .string x.s] 24))).grown HG.out (by simp; omega) (fun k hk => own_ge HOWN4.out hk)
          have ho := HO.out
          rw [flat_app] at ho
          refine ⟨k + 1, by omega, by go_num, by have := hbG.size; simp at this; omega, ?_, ?_⟩
          · have hH := H4.out.tail.alloc (.cells #[.int .i64 x.k, .int .i64 x.i, .string x.s] 24)
            exact ⟨hH.below.trans (hbG.mono (by omega)), fun p hp => Nat.lt_of_lt_of_le (hH.lt p hp) hbG.size, hH.boxes.same (top := w3.heap.size) (allLt_cons hsz3 allLt_nil) (fun b o hlt => hbG.cell (p := ⟨b, o, none⟩) hlt)⟩
          · rw [HS2.out, List.length_append]; exact ho
        case measure => simp [intOf]; omega
    · obtain rfl : k = n := by omega
      have hown' := hown.out
      rw [List.take_of_length_le (by rw [← HN.out]; omega)] at hown'
      obtain ⟨e1s, r1s⟩ := HSELF.out
      have hsl := sl_len v xs
      rw [← HN.out] at hsl
      generalize sl v xs = ys at *
      obtain ⟨sA, sc, rfl, -, -⟩ := own_row hown'
      obtain ⟨m, hmm⟩ : ∃ m, m = ys.length := ⟨_, rfl⟩
      rw [← hmm] at hown' hsl ⊢
      have HOWN := Lib.hid hown'
      have HYS := Lib.hid hmm
      have HIN : Hid (∀ (X : World) (g c : Nat), RowAt X X.heap.size (some ⟨g, 0, none⟩) (ys ++ [v]) → Calls Try.prog 23 #[.agg #[.int .i64 v.k, .int .i64 v.i, .string v.s], .slice (some ⟨g, 0, none⟩) (m + 1) c] X fun e w' => e = .returned (.tuple #[.agg #[.int .i64 1, .int .i64 1, .string ⟨#[]⟩], .int .i64 0]) ∧ Below X.heap.size X w') := by
        intro X g c hX
        have h := in_any v (ys ++ [v]) _ c X hX (by rw [List.length_append, ← HYS.out]; simp; omega)
        rw [e1s, r1s, List.length_append, ← HYS.out] at h
        exact h
      clear hown' e1s r1s HSELF hown hmm
      obtain ⟨wo, rfl⟩ : ∃ wo : World, wo = wr := ⟨_, rfl⟩
      have hown0 := HOWN.out
      obtain ⟨i0, hi, hz0, hz1, hz2⟩ := info_parts info24
      have HOa := Lib.hid ((hown0.alloc (.cells #[.int .i64 v.k, .int .i64 v.i, .string v.s] 24)).drew)
      have HOb := Lib.hid (((hown0.alloc (.cells #[.int .i64 0, .int .i64 0, .string ⟨#[]⟩] 24)).alloc (.cells #[.int .i64 v.k, .int .i64 v.i, .string v.s] 24)).drew)
      have HOc := Lib.hid (((hown0.alloc (.cells #[.int .i64 v.k, .int .i64 v.i, .string v.s] 24)).alloc (.cells #[.int .i64 0, .int .i64 0, .string ⟨#[]⟩] 24)).drew)
      have H0 := Lib.hid (Held.of (top := w3.heap.size) hgl hhb.out.below hhb.out.boxes)
      have L0 := Lib.hid (show AllLt w3.heap.size [(w.heap.size, v)] from allLt_cons hsz3 allLt_nil)
      have hw0 : w.heap.size ≤ w3.heap.size := by have : w.heap.size < w3.heap.size := hsz3; omega
      have VB1 := Lib.hid ((VBox.raw0z (w := wo)).alloc (.cells #[.int .i64 v.k, .int .i64 v.i, .string v.s] 24)).drew
      have VB2 := Lib.hid (VBox.raw0z (w := wo.alloc (.cells #[.int .i64 v.k, .int .i64 v.i, .string v.s] 24))).drew
      clear hown0
      go_upto_region 11 with fail
      go_cut [9, 10] (fun s9 s10 wx => ∃ g', s9 = .pointer (some ⟨g', 0, none⟩) ∧ s10 = .int .i64 0 ∧ w3.heap.size ≤ g' ∧ Hid (VBox wx g' (tV true)) ∧ Hid (Held w w3.heap.size [(w.heap.size, v)] wx))
      case first =>
        go_region_held3 (fun w' => w3.heap.size ≤ w'.heap.size ∧ Below w.heap.size w w' ∧ w'.cell? ⟨w.heap.size, 0, none⟩ = some (.int .i64 v.k) ∧ w'.cell? ⟨w.heap.size, 1, none⟩ = some (.int .i64 v.i) ∧ w'.cell? ⟨w.heap.size, 2, none⟩ = some (.string v.s) ∧ True) (first | exact H0.out.drew | exact (Held.alloc L0.out hw0 H0.out _).drew | exact (Held.alloc L0.out hw0 (Held.alloc L0.out hw0 H0.out _) _).drew | (refine Held.grown L0.out hw0 ?_ hgrow7 hbase7; assumption) | (refine Held.later L0.out hw0 ?_ hb8; assumption) | (refine Held.alloc L0.out hw0 ?_ _; assumption) | (refine Held.realloc (o := (.cells #[.int .i64 0, .int .i64 0, .string ⟨#[]⟩] 24)) L0.out hw0 (by omega) ?_ _; assumption) | (refine Held.set3 L0.out hw0 ?_ ?_ _ _ _; assumption; omega)) (first
          | (refine step_append_lies _ rfl (.tmp 61) (.tmp 63) 22 rfl w3.heap.size 24 i0 _ 3 32 Try.underlying22 hi hz0 hz1 hz2 rfl (by decide) (.slice sA m sc) m (flat ys) rfl HOa.out ⟨wo.heap.size, 0, none⟩ 1 1 (c3 v) rfl rfl (news_drew (news_at rfl v)) (c3_each v) (by decide) (by unfold maxLen; omega) (by omega) (by simp; omega) _ rfl ?_; intro g2 cap2 w6 hown7 hgrow7 hat7 hlt7; have hbase7 : ∀ k, (Value.slice sA m sc).ownBlock = some k → w3.heap.size ≤ k := fun k hk => own_ge HOWN.out hk; have hz7 := hgrow7.size; (try simp only [World.size_drew, World.size_alloc] at hz7))
          | (refine step_append_lies _ rfl (.tmp 61) (.tmp 63) 22 rfl w3.heap.size 24 i0 _ 3 32 Try.underlying22 hi hz0 hz1 hz2 rfl (by decide) (.slice sA m sc) m (flat ys) rfl HOb.out ⟨wo.heap.size + 1, 0, none⟩ 1 1 (c3 v) rfl rfl (news_drew (news_at (by simp) v)) (c3_each v) (by decide) (by unfold maxLen; omega) (by omega) (by simp; omega) _ rfl ?_; intro g2 cap2 w6 hown7 hgrow7 hat7 hlt7; have hbase7 : ∀ k, (Value.slice sA m sc).ownBlock = some k → w3.heap.size ≤ k := fun k hk => own_ge HOWN.out hk; have hz7 := hgrow7.size; (try simp only [World.size_drew, World.size_alloc] at hz7); have vt := VBox.grown VB1.out hgrow7 (own_ne HOWN.out (Nat.le_refl _)))
          | (refine step_append_lies _ rfl (.tmp 61) (.tmp 63) 22 rfl w3.heap.size 24 i0 _ 3 32 Try.underlying22 hi hz0 hz1 hz2 rfl (by decide) (.slice sA m sc) m (flat ys) rfl HOc.out ⟨wo.heap.size, 0, none⟩ 1 1 (c3 v) rfl rfl (news_drew (news_alloc (news_at rfl v))) (c3_each v) (by decide) (by unfold maxLen; omega) (by omega) (by simp; omega) _ rfl ?_; intro g2 cap2 w6 hown7 hgrow7 hat7 hlt7; have hbase7 : ∀ k, (Value.slice sA m sc).ownBlock = some k → w3.heap.size ≤ k := fun k hk => own_ge HOWN.out hk; have hz7 := hgrow7.size; (try simp only [World.size_drew, World.size_alloc] at hz7); have vt := VBox.grown VB2.out hgrow7 (own_ne HOWN.out (by simp)); simp only [World.size_alloc] at vt)
          | (go_at_call 23; go_must (first | refine (HIN.out _ _ _ (own_rowg hown7 hlt7)).mono ?_ | refine (HIN.out _ _ _ ((own_rowg hown7 hlt7).moreAlloc _)).mono ?_); rintro e w8 ⟨rfl, hb8⟩; have hz8 := hb8.size; (try simp only [World.size_alloc] at hz8); (try (((first | with_reducible refine with_fact (vt.later hb8) ?_ | with_reducible refine with_fact ((vt.alloc _).later hb8) ?_ | with_reducible refine with_fact (VBox.raw0z.later hb8) ?_)); intro vt; (try simp only [World.size_alloc] at vt); obtain ⟨x0, x1, x2⟩ := vt.cells; obtain ⟨x3, x4, x5⟩ := vt.free; simp only [zV] at x0 x1 x2))))
        all_goals (go_wp2_with fail; go_meet; refine ⟨_, rfl, rfl, by omega, ?_, ?_⟩; (first | exact VBox.made w8 (tV true) | exact VBox.set' vt rfl rfl rfl); assumption)
      case rest =>
        obtain ⟨g', rfl, rfl, hg', hv9, hH⟩ := hcut
        have hgl' := hv9.out.lt
        have P9 := Lib.hid (show HB w [(g', tV true), (w.heap.size, v)] wc from ⟨hH.out.2.1, allLt_cons hgl' (allLt_cons (Nat.lt_of_lt_of_le hsz3 hH.out.1) allLt_nil), boxes_cons hv9.out hH.out.2.2⟩)
        have HIN0 : Hid (∀ X : World, Calls Try.prog 23 #[.agg #[.int .i64 v.k, .int .i64 v.i, .string v.s], .slice none 0 0] X fun e w' => e = .returned (.tuple #[.agg #[.int .i64 1, .int .i64 0, .string ⟨#[]⟩], .int .i64 0]) ∧ Below X.heap.size X w') := by
          intro X
          have h := in_any v [] none 0 X (fun h => absurd h (by simp)) (by simp)
          rw [HNONE.out.1, HNONE.out.2] at h
          exact h
        obtain ⟨-, -, -, e0, e1, e2, -⟩ := P9.out.boxes
        clear hv9 hH HOa HOb HOc H0 L0 VB1 VB2 HIN HOWN hi hz0 hz1 hz2
        go_wp2_with fail
        refine (HIN0.out _).mono ?_
        rintro e w10 ⟨rfl, b10⟩
        have P10 : Hid (HB w [(w10.heap.size, tV false), (g', tV true), (w.heap.size, v)] (w10.alloc (.cells #[.int .i64 1, .int .i64 0, .string ⟨#[]⟩] 24))) := (P9.out.call b10).push (tV false)
        clear e0 e1 e2
        have HHo := Lib.hid (fun w' => @live_holds w')
        have HF := Lib.hid bool1_f
        go_wp2_with fail
        have HNE : Nonempty (HBT w [(w10.heap.size, tV false), (g', tV true), (w.heap.size, v)]) := ⟨⟨_, P10.out.drew⟩⟩
        have f00 : ∀ x : HBT w [(w10.heap.size, tV false), (g', tV true), (w.heap.size, v)], x.1.cell? ⟨w10.heap.size, 0, none⟩ = some (.int .i64 1) := fun x => x.2.boxes.1
        have f01 : ∀ x : HBT w [(w10.heap.size, tV false), (g', tV true), (w.heap.size, v)], x.1.cell? ⟨w10.heap.size, 1, none⟩ = some (.int .i64 0) := fun x => x.2.boxes.2.1
        have f02 : ∀ x : HBT w [(w10.heap.size, tV false), (g', tV true), (w.heap.size, v)], x.1.cell? ⟨w10.heap.size, 2, none⟩ = some (.string ⟨#[]⟩) := fun x => x.2.boxes.2.2.1
        have f10 : ∀ x : HBT w [(w10.heap.size, tV false), (g', tV true), (w.heap.size, v)], x.1.cell? ⟨g', 0, none⟩ = some (.int .i64 1) := fun x => x.2.boxes.2.2.2.1
        have f11 : ∀ x : HBT w [(w10.heap.size, tV false), (g', tV true), (w.heap.size, v)], x.1.cell? ⟨g', 1, none⟩ = some (.int .i64 1) := fun x => x.2.boxes.2.2.2.2.1
        have f12 : ∀ x : HBT w [(w10.heap.size, tV false), (g', tV true), (w.heap.size, v)], x.1.cell? ⟨g', 2, none⟩ = some (.string ⟨#[]⟩) := fun x => x.2.boxes.2.2.2.2.2.1
        have f20 : ∀ x : HBT w [(w10.heap.size, tV false), (g', tV true), (w.heap.size, v)], x.1.cell? ⟨w.heap.size, 0, none⟩ = some (.int .i64 v.k) := fun x => x.2.boxes.2.2.2.2.2.2.1
        have f21 : ∀ x : HBT w [(w10.heap.size, tV false), (g', tV true), (w.heap.size, v)], x.1.cell? ⟨w.heap.size, 1, none⟩ = some (.int .i64 v.i) := fun x => x.2.boxes.2.2.2.2.2.2.2.1
        have f22 : ∀ x : HBT w [(w10.heap.size, tV false), (g', tV true), (w.heap.size, v)], x.1.cell? ⟨w.heap.size, 2, none⟩ = some (.string v.s) := fun x => x.2.boxes.2.2.2.2.2.2.2.2.1
        refine wp_region_class (fun w' => ∃ x : HBT w [(w10.heap.size, tV false), (g', tV true), (w.heap.size, v)], w' = x.1) (by kernel_rfl) (by kernel_rfl) ⟨⟨_, P10.out.drew⟩, rfl⟩ ?_
        repeat (go_big_quiet_step ((rename_i x; first | (go_at_call 17; refine (HHo.out _).mono ?_; rintro e w2 ⟨rfl, hb⟩; exact ⟨rfl, ⟨_, x.2.call hb⟩, rfl⟩) | (go_at_call 26; refine (HF.out _).mono ?_; rintro e w2 ⟨rfl, hb⟩; exact ⟨rfl, ⟨_, x.2.call hb⟩, rfl⟩))))
        refine wpQuiet_nil ?_
        rintro _ ⟨x9, rfl⟩
        go_wp2_with fail
        go_ret
        exact ⟨rfl, x9.2.below⟩
theorem lin_core (v : V) (r : R) (w : World) (hr : RowAt w w.heap.size r.A r.xs) (sr : RowSmall r.xs) :
    Calls Try.prog 7 #[.agg #[.int .i64 v.k, .int .i64 v.i, .string v.s], r.val] w fun e w' => e = .returned (.bool true) ∧ Below w.heap.size w w' := by
  by_cases h : bigL r = true ∨ ¬ v.chk = 0 ∨ v.k = 0 ∨ 10000 < v.s.size
  · exact lin_out v r w hr sr h
  · refine lin_in v r w hr sr ?_ ?_ ?_ ?_
    · cases hb : bigL r
      · rfl
      · exact absurd (Or.inl hb) h
    · exact Decidable.byContradiction fun e => h (Or.inr (Or.inl e))
    · exact fun e => h (Or.inr (Or.inr (Or.inl e)))
    · exact fun e => h (Or.inr (Or.inr (Or.inr e)))
end Go.Proofs.Ytgemopcnfklndaa
