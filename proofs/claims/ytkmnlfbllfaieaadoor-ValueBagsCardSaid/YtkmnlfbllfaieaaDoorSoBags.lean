/- The walk of the law ValueBags: it answers true, whatever list of rows, row and number. Conditions: lists, rows and texts shorter than 2 to the 47, and the library's two variables hold what they hold at the start. -/
import Derived.Test.YtkmnlfbllfaieaaDoorSoLawP
import Derived.Deep.RegionLaw
import Derived.BigQuiet
namespace Go.Proofs.YtkmnlfbllfaieaaDoor
open Go.RowKit
/-- At a step of a region that draws: an append whose run is known. -/
theorem step_append_run {P : Program} {ops : Array Oper} (w : World) {o : Oper} {a : Act} {K : Act → World → Prop} {Q : Exit → Act → World → Prop} {E : Prop} (hgd : o.guard = none) (s x : Operand) (t : TypeId)
    (ho : o.op = .call { callee := .builtin .append, args := #[s, x], argTypes := #[t, t] }) (v u : Value) (hs : a.eval s = v) (hx : a.eval x = u) {v' : Value} {w' : World}
    (hr : (Builtin.append_ #[t, t] o.type #[v, u]).run P w = .ok v' w') (h : K (a.put o.dst v') w') : if Region.wanted o (yielded ops a.tmps) = true then Oper.wp P o a w K Q else E := by
  have hw : Region.wanted o (yielded ops a.tmps) = true := by simp [Region.wanted, hgd]
  rw [if_pos hw]
  exact Lib.wp_append_run_sl w s x t ho v u hs hx hr h
/-- At an operation of a plain region that has a guard, which is met: an append whose run is known. -/
theorem wpList_append_held {P : Program} (w : World) {ops : Array Oper} {rest : List Oper} {o : Oper} {a : Act} {Q : Exit → Act → World → Prop} (hw : Region.wanted o (yielded ops a.tmps) = true) (s x : Operand) (t : TypeId)
    (ho : o.op = .call { callee := .builtin .append, args := #[s, x], argTypes := #[t, t] }) (v u : Value) (hs : a.eval s = v) (hx : a.eval x = u) {v' : Value} {w' : World}
    (hr : (Builtin.append_ #[t, t] o.type #[v, u]).run P w = .ok v' w') (h : wpList P ops Q rest (a.put o.dst v') w') : wpList P ops Q (o :: rest) a w :=
  wpList_step fun K hK => by
    rw [if_pos hw]
    exact Lib.wp_append_run_sl w s x t ho v u hs hx hr (hK _ _ h)
/-- A world that came of another one. -/
def LaterOf (w0 : World) : Type := { W : World // Below w0.heap.size w0 W }
theorem srt_self {outs rs : List R} (h : keys outs = srt rs) : srt outs = srt rs :=
  (srt_uniq (rs := outs) (l := srt rs) (by rw [← h]; exact List.Perm.refl _) (srt_sorted rs)).symm
theorem srt_turned {tl rs : List R} (h : tl.Perm rs) : srt tl = srt rs := srt_uniq ((srt_perm tl).trans (h.map _)) (srt_sorted tl)
theorem srt_more {tl rs : List R} {r : R} (h : tl.Perm rs) : srt rs ≠ srt (tl ++ [r]) := fun e => by
  have := congrArg List.length e
  rw [srt_len, srt_len, List.length_append, h.length_eq] at this
  simp at this
theorem in_order {outs rs : List R} (h : keys outs = srt rs) {i : Nat} (hi : i + 1 < outs.length) : cmpR outs[i].xs outs[i + 1].xs ≤ 0 := by
  have h1 := srt_sorted rs
  rw [← h, List.pairwise_iff_getElem] at h1
  have := h1 i (i + 1) (by rw [keys_len]; omega) (by rw [keys_len]; omega) (by omega)
  simpa [keys] using this
theorem turn_in (k : Int) (n : Nat) (h : 0 < n) : ∃ K : Nat, K < n ∧ (k.tmod (n : Int) + n) % (n : Int) = K := by
  have h0 := Int.emod_nonneg (k.tmod (n : Int) + n) (show (n : Int) ≠ 0 by omega)
  have h1 := Int.emod_lt_of_pos (k.tmod (n : Int) + n) (show 0 < (n : Int) by omega)
  exact ⟨((k.tmod (n : Int) + n) % (n : Int)).toNat, by omega, by omega⟩
theorem turn_tmod (k : Int) (n : Nat) (h : 0 < n) : -(n : Int) < k.tmod (n : Int) ∧ k.tmod (n : Int) < n := by
  have h1 := Int.natAbs_tmod k (n : Int)
  have h2 : k.natAbs % ((n : Int)).natAbs < ((n : Int)).natAbs := Nat.mod_lt _ (by omega)
  omega
set_option maxRecDepth 100000 in
set_option maxHeartbeats 4000000 in
theorem bags_core (ls : List R) (r : R) (k : Int) (A : Option Addr) (c : Nat) (w : World) (hE : Env w) (ha : RowsAt w w.heap.size A ls) (hr : RowAt w w.heap.size r.A r.xs) (hs : ∀ r ∈ ls, RowSmall r.xs) (sr : RowSmall r.xs) (hc : ls.length ≤ c) (hm : ls.length ≤ 140737488355328) (hk : -9223372036854775808 ≤ k ∧ k ≤ 9223372036854775807) :
    Calls Tryd.prog 4 #[.slice A ls.length c, r.val, .int .i64 k] w fun e w' => e = .returned (.bool true) ∧ Below w.heap.size w w' := by
  have HG1 := Lib.hid (fun w' (h : Below w.heap.size w w') => big_any ls A c w' (ha.after h) hm hs)
  have HG2 : Hid (∀ w', Below w.heap.size w w' → Calls Tryd.prog 6 #[.slice (some ⟨w'.heap.size, 0, none⟩) 1 1] (w'.alloc (.cells #[r.val] 28)) fun e w2 => e = .returned (.bool (!few [r] 20000)) ∧ Below (w'.alloc (.cells #[r.val] 28)).heap.size (w'.alloc (.cells #[r.val] 28)) w2) := fun w' h =>
    big_any [r] _ 1 _ (rows_made w' [r] (all1 (P := fun r => RowAt w' w'.heap.size r.A r.xs) (hr.later h)) _ rfl 28) (by simp) (all1 (P := fun r => RowSmall r.xs) sr)
  have HE := Lib.hid hE
  have HA := Lib.hid ha
  have HR := Lib.hid hr
  have hk1 := hk.1
  have hk2 := hk.2
  clear hs sr hE ha hr hk
  obtain ⟨n, hn⟩ : ∃ n, n = ls.length := ⟨_, rfl⟩
  rw [← hn] at HG1 hm hc ⊢
  have HN := Lib.hid hn
  clear hn
  cases hf : few ls 20000
  · rw [hf] at HG1
    clear hf HG2
    unfold R.val
    generalize r.xs.length = rn at *
    go_enter Tryd.func4, Tryd.ntmps4
    go_wp2_with fail
    refine (live_any w HE.out).mono ?_
    rintro e w1 ⟨rfl, b1⟩
    go_wp2_with fail
    refine (HG1.out w1 b1).mono ?_
    rintro e w2 ⟨rfl, b2⟩
    have c2 := bthen b1 b2
    go_wp2_with fail
    go_ret
    exact ⟨rfl, c2⟩
  · cases hf' : few [r] 20000
    · rw [hf] at HG1
      rw [hf'] at HG2
      clear hf hf'
      unfold R.val at *
      generalize r.xs.length = rn at *
      go_enter Tryd.func4, Tryd.ntmps4
      go_wp2_with fail
      refine (live_any w HE.out).mono ?_
      rintro e w1 ⟨rfl, b1⟩
      go_wp2_with fail
      refine (HG1.out w1 b1).mono ?_
      rintro e w2 ⟨rfl, b2⟩
      have c2 := bthen b1 b2
      go_wp2_with fail
      refine (HG2.out w2 c2).mono ?_
      rintro e w3 ⟨rfl, b3⟩
      have c3 : Below w.heap.size w w3 := (c2.alloc c2.size _).trans (b3.mono (by have := c2.size; simp; omega))
      go_wp2_with fail
      go_ret
      exact ⟨rfl, c3⟩
    · have hsl := few_rows hf
      have hol := few_ok hf
      have hor : r.xs.length ≤ 140737488355328 := by have := few_rows hf' r (by simp); omega
      rw [hf] at HG1
      rw [hf'] at HG2
      clear hf hf'
      have HSL := Lib.hid hsl
      have HOL := Lib.hid hol
      have HOR := Lib.hid hor
      clear hsl hol hor
      by_cases hl1 : n ≤ 500
      · have hl1' : ¬ ((n : Int) > 500) := by omega
        unfold R.val at HG2 ⊢
        go_enter Tryd.func4, Tryd.ntmps4
        go_wp2_with fail
        refine (live_any w HE.out).mono ?_
        rintro e w1 ⟨rfl, b1⟩
        go_wp2_with fail
        refine (HG1.out w1 b1).mono ?_
        rintro e w2 ⟨rfl, b2⟩
        have c2 := bthen b1 b2
        go_wp2_with fail
        refine (HG2.out w2 c2).mono ?_
        rintro e w3 ⟨rfl, b3⟩
        have c3 : Below w.heap.size w w3 := (c2.alloc c2.size _).trans (b3.mono (by have := c2.size; simp; omega))
        have C3 := Lib.hid c3
        have HS3 := Lib.hid (sorted_any ls A c w3 (HA.out.after c3) HSL.out (by rw [← HN.out]; omega))
        rw [← HN.out] at HS3
        clear b1 b2 c2 b3 c3 HG1 HG2
        go_wp2_with fail
        refine HS3.out.mono ?_
        rintro e w4 ⟨outs, rfl, ho4, hh4, hn4, hb4⟩
        rw [← HN.out]
        have hlen := outs_len ho4
        have HK := Lib.hid ho4
        have C4 := Lib.hid (bthen C3.out hb4)
        have HX4 := Lib.hid (sorted_rows hh4 hn4)
        have HL : Hid (outs.length = n) := hlen.trans HN.out.symm
        have HSO := Lib.hid (outs_short ho4 HSL.out)
        have HOO : Hid (RowsOk outs) := fun r hr => by have := HSO.out r hr; omega
        have HS4 := Lib.hid (sameBag_any ls outs A (some ⟨w3.heap.size, 0, none⟩) c n w4 (HA.out.after C4.out) HX4.out HOL.out HOO.out (by rw [← HN.out]; omega) (by rw [HL.out]; omega))
        rw [← HN.out, HL.out, same_yes (srt_self HK.out).symm] at HS4
        have h3 : w3.heap.size < w4.heap.size := (Array.getElem?_eq_some_iff.1 hh4).1
        clear ho4 hh4 hn4 hb4 hlen HS3
        generalize w3.heap.size = g at *
        go_wp2_with fail
        refine HS4.out.mono ?_
        rintro e w5 ⟨rfl, hb5⟩
        have C5 := Lib.hid (bthen C4.out hb5)
        have HX5 := Lib.hid (HX4.out.after hb5)
        have HS5 := Lib.hid (sorted_any outs (some ⟨g, 0, none⟩) n w5 HX5.out HSO.out (by rw [HL.out]; omega))
        rw [HL.out] at HS5
        clear hb5 HX4 HS4
        go_wp2_with fail
        refine HS5.out.mono ?_
        rintro e w6 ⟨outs2, rfl, ho6, hh6, hn6, hb6⟩
        rw [HL.out]
        have C6 := Lib.hid (bthen C5.out hb6)
        have HX6 := Lib.hid (HX5.out.after hb6)
        have HS6 := Lib.hid (sameRows_any outs2 outs (some ⟨w5.heap.size, 0, none⟩) (some ⟨g, 0, none⟩) n n w6 (sorted_rows hh6 hn6) HX6.out (fun r hr => by have := outs_short ho6 HSO.out r hr; omega) (by rw [outs_len ho6, HL.out]; omega))
        rw [outs_len ho6, HL.out, same_yes ((ho6.trans (srt_self HK.out)).trans HK.out.symm)] at HS6
        clear ho6 hh6 hn6 hb6 HX5 HS5
        go_wp2_with fail
        refine HS6.out.mono ?_
        rintro e w7 ⟨rfl, hb7⟩
        have C7 := Lib.hid (bthen C6.out hb7)
        have HX7 := Lib.hid (HX6.out.after hb7)
        clear hb7 HX6 HS6
        go_wp2_with fail
        go_loopw [48] (fun i wr => ∃ k : Nat, k ≤ n ∧ i = .int .i64 k ∧ Hid (Below w7.heap.size w7 wr)) (fun i _ => n - (intOf i).toNat)
        case atStart => exact ⟨0, Nat.zero_le _, rfl, Below.refl _ _⟩
        case round =>
          obtain ⟨i, hi, rfl, D⟩ := hrel
          by_cases hlt : i < n
          · by_cases h0 : i = 0
            · subst h0
              go_wp2_with fail
              go_quiet (fail)
              go_wp2_with fail
              go_roundw
              case rel => exact ⟨0 + 1, by omega, by go_num, by first | exact D.out | exact D.out.drew | exact below_drewN D.out _⟩
              case measure => simp [intOf]; omega
            · obtain ⟨j, rfl⟩ : ∃ j, i = j + 1 := ⟨i - 1, by omega⟩
              have hj : j + 1 < outs.length := by rw [HL.out]; omega
              obtain ⟨g', o', hA, hgl, hcs⟩ := HX7.out.1 (by omega)
              injection hA with hA
              injection hA with e1 e2 e3
              subst e1 e2
              have c1 := hcs j (by omega)
              have c2 := hcs (j + 1) hj
              rw [Nat.zero_add] at c1 c2
              have HQ := Lib.hid (fun X (hX : Below w7.heap.size w7 X) => cmpR_any outs[j].xs outs[j + 1].xs outs[j].A outs[j + 1].A outs[j].c outs[j + 1].c X ((HX7.out.2 outs[j] (List.getElem_mem _)).later hX) ((HX7.out.2 outs[j + 1] (List.getElem_mem _)).later hX) (by have := HSO.out outs[j] (List.getElem_mem _); omega))
              have hle := in_order HK.out hj
              clear hcs
              unfold R.val at c1 c2
              generalize cmpR outs[j].xs outs[j + 1].xs = q at *
              generalize outs[j] = ra at *
              generalize outs[j + 1] = rb at *
              have H1 := Lib.hid (fun (x : LaterOf w7) => (x.2.cell (p := ⟨g, j, none⟩) hgl).trans c1)
              have H2 := Lib.hid (fun (x : LaterOf w7) => (x.2.cell (p := ⟨g, j + 1, none⟩) hgl).trans c2)
              have hq : ¬ (q > 0) := by omega
              clear c1 c2
              have jz : (0 : Int) < (j : Int) + 1 := by omega
              have jz1 : (j : Int) < (n : Int) := by omega
              have jz2 : (j : Int) + 1 < (n : Int) := by omega
              have p0 : (0 : Int) ≤ (j : Int) + 1 := by omega
              have e0 : ((j : Int) + 1).toNat = j + 1 := by omega
              go_wp2_with fail
              have HNE : Nonempty (LaterOf w7) := ⟨⟨_, D.out⟩⟩
              have f1 := H1.out
              have f2 := H2.out
              refine wp_region_class (fun w' => ∃ x : LaterOf w7, w' = x.1) (by kernel_rfl) (by kernel_rfl) ⟨⟨_, D.out.drew⟩, rfl⟩ ?_
              repeat (go_big_quiet_step ((rename_i x; (go_at_call 12; refine (HQ.out _ x.2).mono ?_; rintro e w2 ⟨rfl, hb⟩; exact ⟨rfl, ⟨_, x.2.trans (hb.mono x.2.size)⟩, rfl⟩))))
              refine wpQuiet_nil ?_
              rintro Wc ⟨⟨W1, h1⟩, rfl⟩
              have D2 := Lib.hid h1
              clear f1 f2 h1 HNE
              go_wp2_with fail
              go_roundw
              case rel => exact ⟨j + 1 + 1, by omega, by go_num, D2⟩
              case measure => simp [intOf]; omega
          · obtain rfl : i = n := by omega
            obtain ⟨i0, hi', hz0, hz1, hz2⟩ := info_parts info28
            have C := Lib.hid (bthen C7.out D.out)
            obtain ⟨v8, w8, hrun, ho, b8⟩ := run_append_copy wr ls A c (HA.out.after C.out) (by rw [← HN.out]; omega)
            obtain ⟨A8, c8, rfl, hc8, hr8⟩ := own_rows ho (fun x hx => (HA.out.2 x hx).later (bthen C.out b8))
            rw [← HN.out] at hrun ho hc8
            have C8 := Lib.hid (bthen C.out b8)
            have HO8 := Lib.hid ho
            have HR8 := Lib.hid hr8
            have hB8 : wr.heap.size ≤ w8.heap.size := b8.size
            have hB0 : w.heap.size ≤ wr.heap.size := C.out.size
            clear ho hr8 b8 HK HL HSO HOO HX7 C3 C4 C5 C6 C7 D h3
            by_cases h0 : i = 0
            · have h0' : ¬ ((i : Int) > 0) := by omega
              clear h0
              go_wp2_with (at_builtin; refine Lib.wpList_append_run_sl _ rfl _ _ 22 rfl _ _ rfl rfl hrun ?_)
              clear hrun
              have HS8 := Lib.hid (sameBag_any ls (ls) A A8 c c8 w8 (HA.out.after C8.out) HR8.out HOL.out (HOL.out.perm (List.Perm.refl ls)) (by rw [← HN.out]; omega) (by rw [(List.Perm.refl ls).length_eq, ← HN.out]; omega))
              rw [(List.Perm.refl ls).length_eq, ← HN.out, same_yes (srt_turned (List.Perm.refl ls)).symm] at HS8
              go_wp2_with fail
              refine HS8.out.mono ?_
              rintro e w12 ⟨rfl, hb12⟩
              have HO12 := Lib.hid (own_later HO8.out hb12)
              have hBB : wr.heap.size ≤ w8.heap.size := hB8
              have hwBB : w.heap.size ≤ wr.heap.size := hB0
              have D12 : Hid (Below wr.heap.size w8 w12) := hb12.mono hBB
              have C12 : Hid (Below w.heap.size w w12) := bthen C8.out hb12
              have hz12 := hb12.size
              clear hb12 HS8
              obtain ⟨v13, w13, hrun3, hown', hgrow, -⟩ := run_append_own (P := Tryd.prog) (w12.alloc (.cells #[.slice r.A r.xs.length r.c] 28)) (wr.heap.size) 22 22 28 i0 (.slice none 0 0) 1 24 Tryd.underlying22 hi' hz0 hz1 hz2 rfl (by decide) _ i (vals _) (HO12.out.alloc _) ⟨w12.heap.size, 0, none⟩ 1 1 [.slice r.A r.xs.length r.c] rfl (World.news_of_block (heap_alloc_new w12 _)) (by intro u hu; simp at hu; subst hu; rfl) (by unfold maxLen; omega) (by omega) (by simp; omega)
              obtain ⟨ho13, hb13⟩ := rows_step (r := r) D12.out (Nat.le_trans hBB hz12) HO12.out hown' hgrow
              have c13 : Below w.heap.size w w13 := (C8.out).trans (hb13.mono hwBB)
              have hl13 : i + 1 = (ls ++ [r]).length := by rw [List.length_append, (List.Perm.refl ls).length_eq, ← HN.out]; rfl
              rw [hl13] at ho13
              obtain ⟨A13, c13', rfl, -, hr13⟩ := own_rows ho13 (fun x hx => by
                rcases List.mem_append.1 hx with hx | hx
                · exact (HA.out.2 x ((List.Perm.refl ls).mem_iff.1 hx)).later c13
                · simp at hx
                  subst hx
                  exact HR.out.later c13)
              have HS9 := Lib.hid (sameBag_any ls (ls ++ [r]) A A13 c c13' w13 (HA.out.after c13) hr13 HOL.out (fun x hx => by
                rcases List.mem_append.1 hx with hx | hx
                · exact HOL.out x ((List.Perm.refl ls).mem_iff.1 hx)
                · simp at hx
                  subst hx
                  exact HOR.out) (by rw [← HN.out]; omega) (by rw [← hl13]; omega))
              rw [← hl13, ← HN.out, same_no (srt_more (List.Perm.refl ls))] at HS9
              rw [← hl13] at hrun3
              have C13 := Lib.hid c13
              clear hown' hgrow ho13 hb13 c13 hr13 hl13
              go_wp2_with (at_builtin; refine wpList_append_held _ (by rfl) _ _ 22 rfl _ _ rfl rfl hrun3 ?_)
              clear hrun3
              go_wp2_with fail
              refine HS9.out.mono ?_
              rintro e w14 ⟨rfl, hb14⟩
              go_wp2_with fail
              go_ret
              exact ⟨rfl, bthen C13.out hb14⟩
            · have hn0 : 0 < i := by omega
              obtain ⟨K, hK, hKe⟩ := turn_in k i hn0
              obtain ⟨ht1, ht2⟩ := turn_tmod k i hn0
              have h0' : ((i : Int) > 0) := by omega
              obtain ⟨ga, oa, hA, hal, -⟩ := HA.out.1 (by rw [← HN.out]; omega)
              subst hA
              have C8d : Hid (Below w.heap.size w w8.drew) := C8.out.drew
              have hKc : ¬ (c = K) := by omega
              have hKc2 : K < c := by omega
              have hKc3 : ¬ (K = c) := by omega
              have hKi : K ≤ i := by omega
              have hKcc : K ≤ c := by omega
              obtain ⟨v9, w9, hrun1, ho9, b9⟩ := run_append_copy w8.drew (ls.drop K) (some ⟨ga, oa + K, none⟩) (c - K) ((HA.out.after C8d.out).drop K) (by rw [List.length_drop, ← HN.out]; omega)
              have C9 := Lib.hid (bthen C8d.out b9)
              obtain ⟨v10, w10, hrun2, ho10, g10⟩ := run_append_rows ho9 (ls.take K) (some ⟨ga, oa, none⟩) c ((HA.out.after C9.out).take K) (by rw [List.length_drop, List.length_take, ← HN.out]; omega) b9.size
              have b10 := b9.trans (grown_own ho9 g10 b9.size)
              have hl1 : (ls.drop K).length = i - K := by rw [List.length_drop, ← HN.out]
              have hl2 : (ls.take K).length = K := by rw [List.length_take, ← HN.out]; omega
              have HP : Hid ((ls.drop K ++ ls.take K).Perm ls) := List.perm_append_comm.trans (by rw [List.take_append_drop])
              have hl3 : i - K + K = (ls.drop K ++ ls.take K).length := by rw [List.length_append, hl1, hl2]
              have hv : vals (ls.drop K) ++ vals (ls.take K) = vals (ls.drop K ++ ls.take K) := by simp [vals]
              rw [hl1] at hrun1
              rw [hl2] at hrun2
              rw [hl1, hl2, hl3, hv] at ho10
              have C10 := Lib.hid (bthen C8d.out b10)
              obtain ⟨A10, c10, rfl, -, hr10⟩ := own_rows ho10 (fun x hx => (HA.out.2 x (HP.out.mem_iff.1 hx)).later C10.out)
              have hl4 : (ls.drop K ++ ls.take K).length = i := by rw [← hl3]; omega
              rw [hl4] at hrun2 ho10
              have HO10 := Lib.hid ho10
              have HR10 := Lib.hid hr10
              have hB10 : w8.drew.heap.size ≤ w10.heap.size := b10.size
              have hB1 : w.heap.size ≤ w8.drew.heap.size := C8d.out.size
              clear ho9 ho10 hr10 b9 b10 g10 hl1 hl2 hl3 hl4 hv HO8 HR8 C8d C9
              generalize ls.drop K ++ ls.take K = tl at *
              go_wp2_with (at_builtin; refine Lib.wpList_append_run_sl _ rfl _ _ 22 rfl _ _ rfl rfl hrun ?_)
              clear hrun
              go_wp2_with fail
              go_region_law (first | (refine step_append_run _ rfl _ _ 22 rfl _ _ rfl rfl hrun1 ?_) | (refine step_append_run _ rfl _ _ 22 rfl _ _ rfl rfl hrun2 ?_))
              clear hrun1 hrun2
              have hdr : w8.drew.heap.size = w8.heap.size := rfl
              have HS8 := Lib.hid (sameBag_any ls (tl) (some ⟨ga, oa, none⟩) A10 c c10 w10 (HA.out.after C10.out) HR10.out HOL.out (HOL.out.perm HP.out) (by rw [← HN.out]; omega) (by rw [(HP.out).length_eq, ← HN.out]; omega))
              rw [(HP.out).length_eq, ← HN.out, same_yes (srt_turned HP.out).symm] at HS8
              go_wp2_with fail
              refine HS8.out.mono ?_
              rintro e w12 ⟨rfl, hb12⟩
              have HO12 := Lib.hid (own_later HO10.out hb12)
              have hBB : w8.drew.heap.size ≤ w10.heap.size := hB10
              have hwBB : w.heap.size ≤ w8.drew.heap.size := hB1
              have D12 : Hid (Below w8.drew.heap.size w10 w12) := hb12.mono hBB
              have C12 : Hid (Below w.heap.size w w12) := bthen C10.out hb12
              have hz12 := hb12.size
              clear hb12 HS8
              obtain ⟨v13, w13, hrun3, hown', hgrow, -⟩ := run_append_own (P := Tryd.prog) (w12.alloc (.cells #[.slice r.A r.xs.length r.c] 28)) (w8.drew.heap.size) 22 22 28 i0 (.slice none 0 0) 1 24 Tryd.underlying22 hi' hz0 hz1 hz2 rfl (by decide) _ i (vals _) (HO12.out.alloc _) ⟨w12.heap.size, 0, none⟩ 1 1 [.slice r.A r.xs.length r.c] rfl (World.news_of_block (heap_alloc_new w12 _)) (by intro u hu; simp at hu; subst hu; rfl) (by unfold maxLen; omega) (by omega) (by simp; omega)
              obtain ⟨ho13, hb13⟩ := rows_step (r := r) D12.out (Nat.le_trans hBB hz12) HO12.out hown' hgrow
              have c13 : Below w.heap.size w w13 := (C10.out).trans (hb13.mono hwBB)
              have hl13 : i + 1 = (tl ++ [r]).length := by rw [List.length_append, (HP.out).length_eq, ← HN.out]; rfl
              rw [hl13] at ho13
              obtain ⟨A13, c13', rfl, -, hr13⟩ := own_rows ho13 (fun x hx => by
                rcases List.mem_append.1 hx with hx | hx
                · exact (HA.out.2 x ((HP.out).mem_iff.1 hx)).later c13
                · simp at hx
                  subst hx
                  exact HR.out.later c13)
              have HS9 := Lib.hid (sameBag_any ls (tl ++ [r]) (some ⟨ga, oa, none⟩) A13 c c13' w13 (HA.out.after c13) hr13 HOL.out (fun x hx => by
                rcases List.mem_append.1 hx with hx | hx
                · exact HOL.out x ((HP.out).mem_iff.1 hx)
                · simp at hx
                  subst hx
                  exact HOR.out) (by rw [← HN.out]; omega) (by rw [← hl13]; omega))
              rw [← hl13, ← HN.out, same_no (srt_more HP.out)] at HS9
              rw [← hl13] at hrun3
              have C13 := Lib.hid c13
              clear hown' hgrow ho13 hb13 c13 hr13 hl13
              go_wp2_with (at_builtin; refine wpList_append_held _ (by rfl) _ _ 22 rfl _ _ rfl rfl hrun3 ?_)
              clear hrun3
              go_wp2_with fail
              refine HS9.out.mono ?_
              rintro e w14 ⟨rfl, hb14⟩
              go_wp2_with fail
              go_ret
              exact ⟨rfl, bthen C13.out hb14⟩
      · have hl1' : ((n : Int) > 500) := by omega
        unfold R.val at *
        generalize r.xs.length = rn at *
        go_enter Tryd.func4, Tryd.ntmps4
        go_wp2_with fail
        refine (live_any w HE.out).mono ?_
        rintro e w1 ⟨rfl, b1⟩
        go_wp2_with fail
        refine (HG1.out w1 b1).mono ?_
        rintro e w2 ⟨rfl, b2⟩
        have c2 := bthen b1 b2
        go_wp2_with fail
        refine (HG2.out w2 c2).mono ?_
        rintro e w3 ⟨rfl, b3⟩
        have c3 : Below w.heap.size w w3 := (c2.alloc c2.size _).trans (b3.mono (by have := c2.size; simp; omega))
        go_wp2_with fail
        go_ret
        exact ⟨rfl, c3⟩
end Go.Proofs.YtkmnlfbllfaieaaDoor
