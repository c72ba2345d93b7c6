/- The walk of the law CodeJoins: it answers true, whatever two rows lie in memory, of no more than 2 to the 47 values and texts no longer, whatever byte, and where the library's one variable that is read is there. -/
import Derived.Test.YtnpemegklndegaaDoorCodRowOwn
namespace Go.Proofs.YtnpemegklndegaaDoor
open Go.RowKit
theorem wpList_append_held {P : Program} (w : World) {ops : Array Oper} {rest : List Oper} {o : Oper} {a : Act} {Q : Exit → Act → World → Prop} (hw : Region.wanted o (yielded ops a.tmps) = true) (s x : Operand) (t : TypeId)
    (ho : o.op = .call { callee := .builtin .append, args := #[s, x], argTypes := #[t, t] }) (v u : Value) (hs : a.eval s = v) (hx : a.eval x = u) {v' : Value} {w' : World}
    (hr : (Builtin.append_ #[t, t] o.type #[v, u]).run P w = .ok v' w') (h : wpList P ops Q rest (a.put o.dst v') w') : wpList P ops Q (o :: rest) a w :=
  wpList_step fun K hK => by
    rw [if_pos hw]
    exact Lib.wp_append_run_sl w s x t ho v u hs hx hr (hK _ _ h)
theorem chk_join {xs ys : List V} (h : xs.length + ys.length ≤ 64) : (chkR xs = 0 → chkR ys = 0 → chkR (xs ++ ys) = 0 ∧ encL true (xs ++ ys) = encL true xs ++ encL true ys) ∧ (¬ (chkR xs = 0 ∧ chkR ys = 0) → chkR (xs ++ ys) ≠ 0) := by
  have ha : allOk (xs ++ ys) = (allOk xs && allOk ys) := by unfold allOk; rw [List.all_append]
  have key : ∀ l : List V, l.length ≤ 64 → chkR l = if allOk l = true then 0 else 1 := fun l hl => by
    unfold chkR
    rw [if_neg (show ¬ 64 < l.length by omega)]
  have e1 := key (xs ++ ys) (by rw [List.length_append]; omega)
  have e2 := key xs (by omega)
  have e3 := key ys (by omega)
  refine ⟨fun hx hy => ?_, fun hn => ?_⟩
  · have hx' : allOk xs = true := by rw [e2] at hx; split at hx <;> first | assumption | omega
    have hy' : allOk ys = true := by rw [e3] at hy; split at hy <;> first | assumption | omega
    have hz : chkR (xs ++ ys) = 0 := by rw [e1, ha, hx', hy']; rfl
    refine ⟨hz, ?_⟩
    unfold encL
    rw [if_pos hz, if_pos hx, if_pos hy]
    simp only [if_true]
    exact wRow_append true xs ys
  · rw [e1, ha]
    rw [e2, e3] at hn
    cases hx : allOk xs <;> cases hy : allOk ys <;> simp_all
theorem rowW_le (l : List V) : rowW l ≤ 9 * rowN l := by
  induction l with
  | nil => simp [rowW, rowN]
  | cons v l ih => simp only [rowW, rowN, List.map_cons, List.sum_cons] at ih ⊢; omega
theorem rowW_append (xs ys : List V) : rowW (xs ++ ys) = rowW xs + rowW ys := by simp [rowW]
set_option maxRecDepth 100000 in
set_option maxHeartbeats 2000000 in
theorem joins_core (a b : R) (c : UInt8) (w : World) (hE : Env w) (ha : RowAt w w.heap.size a.A a.xs) (hb : RowAt w w.heap.size b.A b.xs) (sa : RowSmall a.xs) (sb : RowSmall b.xs) (fa : ∀ v ∈ a.xs, v.fits) (fb : ∀ v ∈ b.xs, v.fits) :
    Calls Tryd.prog 8 #[a.val, b.val, .int .u8 c.toNat] w fun e w' => e = .returned (.bool true) ∧ Below w.heap.size w w' := by
  have hsz := hE.size
  have HL := Lib.hid (live_any w hE)
  have HB : Hid (∀ w', Below w.heap.size w w' → Calls Tryd.prog 10 #[.slice (some ⟨w'.heap.size, 0, none⟩) 2 2] (w'.alloc (.cells #[a.val, b.val] 23)) fun e w2 => e = .returned (.bool (!few [a, b] 20000)) ∧ Below w'.heap.size w' w2) := fun w' h => big2_at a b w' (ha.later h) sa (hb.later h) sb
  have HF : Hid (few [a, b] 20000 = true → ∀ w', Below w.heap.size w w' → Gives 13 a.val (encL true a.xs) (chkR a.xs) w' ∧ Gives 13 b.val (encL true b.xs) (chkR b.xs) w' ∧ ∃ v1 w1 v2 w2, (Builtin.append_ #[23, 23] 23 #[.slice none 0 0, a.val]).run Tryd.prog w' = .ok v1 w1 ∧ (Builtin.append_ #[23, 23] 23 #[v1, b.val]).run Tryd.prog w1 = .ok v2 w2 ∧ Below w'.heap.size w' w2 ∧ Gives 13 v2 (encL true (a.xs ++ b.xs)) (chkR (a.xs ++ b.xs)) w2) := fun h0 w' h => by
    obtain ⟨⟨h1, h2⟩, h3, h4, h5⟩ := few2 h0
    refine ⟨.of (key_any _ _ _ _ (ha.later h) fa h1 (by omega) (hE.below h hsz)), .of (key_any _ _ _ _ (hb.later h) fb h3 (by omega) (hE.below h hsz)), ?_⟩
    obtain ⟨v1, w1, r1, o1, g1, -⟩ := ownV_app (OwnV.nil w' w'.heap.size) a.xs a.A a.c (ha.later h) (by simp; omega) (Nat.le_refl _)
    have c1 := ownV_below (Below.refl _ w') (OwnV.nil w' w'.heap.size) g1 (Nat.le_refl _)
    obtain ⟨v2, w2, r2, o2, g2, -⟩ := ownV_app o1 b.xs b.A b.c ((hb.later h).later c1) (by simp; omega) c1.size
    have c2 := ownV_below c1 o1 g2 c1.size
    have hW := h.trans (c2.mono h.size)
    obtain ⟨A, cc, hv, -, -, hrow⟩ := o2.row
    refine ⟨v1, w1, v2, w2, r1, r2, c2, ?_⟩
    subst hv
    refine .of (key_any _ _ _ _ hrow (fun v hv => ?_) (by rw [List.nil_append, rowW_append]; have := rowW_le a.xs; have := rowW_le b.xs; omega) (by simp; omega) (hE.below hW hsz))
    rcases List.mem_append.1 (by simpa using hv) with h | h
    · exact fa v h
    · exact fb v h
  have HJ : Hid (a.xs.length + b.xs.length ≤ 64 → (chkR a.xs = 0 → chkR b.xs = 0 → chkR (a.xs ++ b.xs) = 0 ∧ encL true (a.xs ++ b.xs) = encL true a.xs ++ encL true b.xs) ∧ (¬ (chkR a.xs = 0 ∧ chkR b.xs = 0) → chkR (a.xs ++ b.xs) ≠ 0)) := fun h => chk_join h
  have HN : Hid (few [a, b] 20000 = true → a.xs.length + b.xs.length ≤ 40000 ∧ (encL true a.xs).length ≤ 1000000 ∧ (encL true b.xs).length ≤ 1000000) := fun h0 => by
    obtain ⟨⟨h1, h2⟩, h3, h4, h5⟩ := few2 h0
    refine ⟨by omega, ?_, ?_⟩
    · unfold encL
      split
      · rw [if_pos rfl]; exact Nat.le_trans (wRow_len true a.xs) h1
      · simp
    · unfold encL
      split
      · rw [if_pos rfl]; exact Nat.le_trans (wRow_len true b.xs) h3
      · simp
  have hna := chk_cases a.xs
  have hnb := chk_cases b.xs
  have hnz := chk_cases (a.xs ++ b.xs)
  have hc := c.toNat_lt
  have hw : IntKind.u64.wrap (c.toNat : Int) = c.toNat := by rw [IntKind.wrap_u64]; omega
  generalize few [a, b] 20000 = f at *
  generalize encL true (a.xs ++ b.xs) = z at *
  generalize encL true a.xs = l at *
  generalize encL true b.xs = m at *
  generalize chkR (a.xs ++ b.xs) = nz at *
  generalize chkR a.xs = na at *
  generalize chkR b.xs = nb at *
  clear ha hb sa sb fa fb hE
  unfold Gives R.val at *
  generalize a.xs.length = la at *
  generalize b.xs.length = lb at *
  generalize a.A = aa at *
  generalize b.A = ab at *
  generalize a.c = ca at *
  generalize b.c = cb at *
  go_enter Tryd.func8, Tryd.ntmps8
  go_wp2_with fail
  refine HL.out.mono ?_
  rintro e w1 ⟨rfl, b1⟩
  go_wp2_with fail
  refine (HB.out w1 b1).mono ?_
  rintro e w2 ⟨rfl, b2⟩
  have B2 := bthen b1 b2
  cases f
  · go_wp2_with fail
    go_ret
    exact ⟨rfl, B2⟩
  · obtain ⟨hlen, hll, hlm⟩ := HN.out rfl
    by_cases h64 : la + lb ≤ 64
    · have hj := HJ.out h64
      clear HJ HN
      go_wp2_with fail
      obtain ⟨hg1, hg2, -⟩ := HF.out (by trivial) w2 B2
      refine hg1.mono ?_
      clear hg1 hg2
      rintro e w3 ⟨A3, c3, rfl, y3, b3, hc3, hc3'⟩
      have B3 := bthen B2 b3
      go_wp2_with fail
      obtain ⟨hg1, hg2, -⟩ := HF.out (by trivial) w3 B3
      refine hg2.mono ?_
      clear hg1 hg2
      rintro e w4 ⟨A4, c4, rfl, y4, b4, -, -⟩
      have B4 := bthen B3 b4
      obtain ⟨-, -, v5, w5, v6, w6, r5, r6, b6, hg⟩ := HF.out (by trivial) w4 B4
      go_wp2_with (at_builtin; first | (refine Lib.wpList_append_run_sl _ rfl _ _ 23 rfl _ _ rfl rfl r5 ?_) | (refine Lib.wpList_append_run_sl _ rfl _ _ 23 rfl _ _ rfl rfl r6 ?_))
      refine hg.mono ?_
      clear hg r5 r6
      rintro e w7 ⟨A7, c7, rfl, y7, b7, -, -⟩
      have b67 := b6.trans (b7.mono b6.size)
      have B7 := bthen B4 b67
      have y47 := y4.later b67
      have y37 := (y3.later b4).later b67
      clear y3 y4
      by_cases h0 : na = 0 ∧ nb = 0
      · obtain ⟨rfl, rfl⟩ := h0
        obtain ⟨rfl, rfl⟩ := hj.1 rfl rfl
        clear hj hna hnb hnz
        have HH := Lib.hid (hash_any l A3 c3 w7 y37 (by omega))
        have Y3 := Lib.hid y37
        have Y4 := Lib.hid y47
        have Y7 := Lib.hid y7
        clear y37 y47 y7
        go_wp2_with fail
        refine HH.out.mono ?_
        rintro e w8 ⟨rfl, b8⟩
        have B8 := bthen B7 b8
        have k7 := conv_at (c := c7) (Y7.out.later b8)
        rw [List.length_append] at k7
        have k4 := conv_at (c := c4) (Y4.out.later b8)
        have k3 := conv_at (c := c3) (Y3.out.later b8)
        obtain ⟨v9, w9, r9, o9, g9, f9⟩ := own_app (Own.nil w8 w8.heap.size) l A3 c3 (Y3.out.later b8) (by simp; omega) (Nat.le_refl _)
        have b9 := grown_below (Below.refl _ w8) (Own.nil w8 w8.heap.size) g9 (Nat.le_refl _) (Nat.le_refl _)
        have b9' := b9.alloc b9.size (.cells #[.int .u8 c.toNat] 5)
        obtain ⟨v10, w10, r10, o10, g10, f10⟩ := own_app (own_alloc o9 (.cells #[.int .u8 c.toNat] 5)) [c] (some ⟨w9.heap.size, 0, none⟩) 1 (laid_at w9 [c] _ 5 rfl) (by simp; omega) b9'.size
        have b10 := grown_below b9' (own_alloc o9 _) g10 b9'.size (Nat.le_refl _)
        obtain ⟨A10, c10, rfl, -, -, y10⟩ := o10.bytes
        have HH2 := hash_any _ A10 c10 w10 y10 (by simp; omega)
        rw [List.nil_append, hashL_snoc] at HH2
        unfold hstep at HH2
        generalize hashL l = hx at *
        skip
        have e11 : (l ++ [c]).length = l.length + 1 := by simp
        simp only [List.nil_append] at r10
        rw [e11] at HH2
        have HH2 := Lib.hid HH2
        have B10 := bthen B8 b10
        have r10' : (Builtin.append_ #[26, 26] 26 #[v9, .slice (some ⟨w9.heap.size, 0, none⟩) 1 1]).run Tryd.prog (w9.alloc (.cells #[.int .u8 c.toNat] 5)) = .ok (.slice A10 (l.length + 1) c10) w10 := by rw [← e11]; exact r10
        clear r10 e11 o9 o10 g9 g10 f9 f10 b9 b9' b10 y10
        have hcat : ((⟨l.toArray⟩ : ByteArray) ++ ⟨m.toArray⟩).toList = l ++ m := by rw [Lib.toList_data]; simp
        go_wp2_with (at_builtin; first | (refine wpList_append_held w8 (by rfl) _ _ 26 rfl (.slice none 0 0) (.slice A3 l.length c3) rfl rfl r9 ?_) | (refine wpList_append_held (w9.alloc (.cells #[.int .u8 c.toNat] 5)) (by rfl) _ _ 26 rfl v9 (.slice (some ⟨w9.heap.size, 0, none⟩) 1 1) rfl rfl r10' ?_))
        refine HH2.out.mono ?_
        rintro e w11 ⟨rfl, b11⟩
        go_wp2_with fail
        go_ret
        exact ⟨rfl, bthen B10 b11⟩
      · have hz := hj.2 h0
        clear hj y7 y37 y47
        rcases hnz with rfl | rfl | rfl <;> (first | (exfalso; exact hz rfl) | skip)
        all_goals
          clear hz
          rcases hna with rfl | rfl | rfl <;> rcases hnb with rfl | rfl | rfl <;> (first | (exfalso; simp at h0; done) | skip)
          all_goals
            clear h0
            go_wp2_with fail
            go_ret
            exact ⟨rfl, B7⟩
    · clear HJ HN HF
      go_wp2_with fail
      go_ret
      exact ⟨rfl, B2⟩
end Go.Proofs.YtnpemegklndegaaDoor
