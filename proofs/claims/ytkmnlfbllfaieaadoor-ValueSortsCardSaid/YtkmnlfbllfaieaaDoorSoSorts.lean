/- The walk of the law ValueSorts: it answers true, whatever two lists of rows. Conditions: lists, rows and texts shorter than 2 to the 47, and the library's two variables hold what they hold at the start. -/
import Derived.Test.YtkmnlfbllfaieaaDoorSoLawP
namespace Go.Proofs.YtkmnlfbllfaieaaDoor
open Go.RowKit
/-- A block of n values, of which nothing else is known. -/
def BoxOf (g n : Nat) (W : World) : Prop := ∃ cs : Array Value, W.heap[g]? = some (.cells cs 28 (0, 0)) ∧ cs.size = n
theorem BoxOf.cell {g n k : Nat} {W : World} (h : BoxOf g n W) (hk : k < n) : ∃ u, W.cell? ⟨g, k, none⟩ = some u := by
  obtain ⟨cs, h1, h2⟩ := h
  exact ⟨cs[k]'(by omega), by rw [Lib.cell_of_heap h1]; simp [h2, hk]⟩
theorem BoxOf.free {g n k : Nat} {W : World} (h : BoxOf g n W) : W.frozen? ⟨g, k, none⟩ = false := by
  obtain ⟨cs, h1, _⟩ := h
  exact Lib.frozen_of_heap h1 k
theorem BoxOf.set {g n k : Nat} {W : World} {v : Value} (h : BoxOf g n W) : BoxOf g n (W.setCell ⟨g, k, none⟩ v) := by
  obtain ⟨cs, h1, h2⟩ := h
  exact ⟨_, Lib.heap_setCell_same h1 _, by simpa using h2⟩
theorem BoxOf.later {g n : Nat} {W W' : World} (h : BoxOf g n W) (hb : Below W.heap.size W W') : BoxOf g n W' := by
  obtain ⟨cs, h1, h2⟩ := h
  exact ⟨cs, (hb.block g (Array.getElem?_eq_some_iff.1 h1).1).trans h1, h2⟩
set_option maxRecDepth 100000 in
set_option maxHeartbeats 4000000 in
theorem sorts_core (ls ms : List R) (A A' : Option Addr) (c c' : Nat) (w : World) (hE : Env w) (ha : RowsAt w w.heap.size A ls) (hb : RowsAt w w.heap.size A' ms) (hs : ∀ r ∈ ls, RowSmall r.xs) (hs' : ∀ r ∈ ms, RowSmall r.xs) (hc : ls.length ≤ c) (hc' : ms.length ≤ c') (hm : ls.length ≤ 140737488355328) (hm' : ms.length ≤ 140737488355328) :
    Calls Tryd.prog 3 #[.slice A ls.length c, .slice A' ms.length c'] w fun e w' => e = .returned (.bool true) ∧ Below w.heap.size w w' := by
  have HG1 := Lib.hid (fun w' (h : Below w.heap.size w w') => big_any ls A c w' (ha.after h) hm hs)
  have HG2 := Lib.hid (fun w' (h : Below w.heap.size w w') => big_any ms A' c' w' (hb.after h) hm' hs')
  have HE := Lib.hid hE
  have HA := Lib.hid ha
  have HB := Lib.hid hb
  clear hs hs' hE ha hb
  obtain ⟨n, hn⟩ : ∃ n, n = ls.length := ⟨_, rfl⟩
  obtain ⟨m, hn'⟩ : ∃ m, m = ms.length := ⟨_, rfl⟩
  rw [← hn] at HG1 hm hc ⊢
  rw [← hn'] at HG2 hm' hc' ⊢
  have HN := Lib.hid hn
  have HM := Lib.hid hn'
  clear hn hn'
  cases hf : few ls 20000
  · rw [hf] at HG1
    clear hf
    go_enter Tryd.func3, Tryd.ntmps3
    go_wp2_with fail
    refine (live_any w HE.out).mono ?_
    rintro e w1 ⟨rfl, b1⟩
    go_wp2_with fail
    refine (HG1.out w1 b1).mono ?_
    rintro e w2 ⟨rfl, b2⟩
    have c2 := bthen b1 b2
    go_wp2_with fail
    go_ret
    exact ⟨rfl, c2⟩
  · cases hf' : few ms 20000
    · rw [hf] at HG1
      rw [hf'] at HG2
      clear hf hf'
      go_enter Tryd.func3, Tryd.ntmps3
      go_wp2_with fail
      refine (live_any w HE.out).mono ?_
      rintro e w1 ⟨rfl, b1⟩
      go_wp2_with fail
      refine (HG1.out w1 b1).mono ?_
      rintro e w2 ⟨rfl, b2⟩
      have c2 := bthen b1 b2
      go_wp2_with fail
      refine (HG2.out w2 c2).mono ?_
      rintro e w3 ⟨rfl, b3⟩
      have c3 := bthen c2 b3
      go_wp2_with fail
      go_ret
      exact ⟨rfl, c3⟩
    · have hsl := few_rows hf
      have hsm := few_rows hf'
      have hol := few_ok hf
      have hom := few_ok hf'
      rw [hf] at HG1
      rw [hf'] at HG2
      clear hf hf'
      have HSL := Lib.hid hsl
      have HSM := Lib.hid hsm
      have HOL := Lib.hid hol
      have HOM := Lib.hid hom
      clear hsl hsm hol hom
      by_cases hlim : n ≤ 1000 ∧ m ≤ 1000
      · obtain ⟨hl1, hl2⟩ := hlim
        have hl1' : ¬ ((n : Int) > 1000) := by omega
        have hl2' : ¬ ((m : Int) > 1000) := by omega
        go_enter Tryd.func3, Tryd.ntmps3
        go_wp2_with fail
        refine (live_any w HE.out).mono ?_
        rintro e w1 ⟨rfl, b1⟩
        go_wp2_with fail
        refine (HG1.out w1 b1).mono ?_
        rintro e w2 ⟨rfl, b2⟩
        have c2 := bthen b1 b2
        go_wp2_with fail
        refine (HG2.out w2 c2).mono ?_
        rintro e w3 ⟨rfl, b3⟩
        have c3 := bthen c2 b3
        obtain ⟨v, w4, hrun, ho, b4⟩ := run_append_copy w3 ls A c (HA.out.after c3) (by rw [← HN.out]; omega)
        rw [← HN.out] at hrun
        have c4 := bthen c3 b4
        obtain ⟨A4, k4, rfl, hk4, hr4⟩ := own_rows ho (fun r hr => (HA.out.2 r hr).later c4)
        rw [← HN.out] at hrun
        have C4 := Lib.hid c4
        have HR4 := Lib.hid hr4
        have HS4 := Lib.hid (sorted_any ls A4 k4 w4 hr4 HSL.out (by rw [← HN.out]; omega))
        rw [← HN.out] at HS4
        clear b1 b2 c2 b3 c3 ho b4 c4 hr4 hk4 HG1 HG2
        go_wp2_with (at_builtin; refine Lib.wpList_append_run_sl _ rfl _ _ 22 rfl _ _ rfl rfl hrun ?_)
        clear hrun
        go_wp2_with fail
        refine HS4.out.mono ?_
        rintro e w5 ⟨outs, rfl, ho5, hh5, hn5, hb5⟩
        rw [← HN.out]
        have hlen := outs_len ho5
        have HK5 := Lib.hid ho5
        have C5 := Lib.hid (bthen C4.out hb5)
        have D5 := Lib.hid hb5
        have HX5 := Lib.hid (sorted_rows hh5 hn5)
        have HBX5 : Hid (BoxOf w4.heap.size n w5) := ⟨_, hh5, by simp [vals, hlen, ← HN.out]⟩
        have HL5 : Hid (outs.length = n) := hlen.trans HN.out.symm
        have HS5 := Lib.hid (rsort_any _ ls A c w5 rfl (HA.out.after C5.out) HOL.out (by rw [← HN.out]; exact hc) (by rw [← HN.out]; omega))
        rw [← HN.out] at HS5
        clear ho5 hh5 hn5 hb5 hlen HS4
        go_wp2_with fail
        refine HS5.out.mono ?_
        rintro e w6 ⟨A6, c6, l6, rfl, -, hr6, hp6, hs6, hb6⟩
        rw [← HN.out]
        have C6 := Lib.hid (bthen C5.out hb6)
        have D6 := Lib.hid (D5.out.trans (hb6.mono D5.out.size))
        have HX6 := Lib.hid (sameRows_any outs l6 (some ⟨w4.heap.size, 0, none⟩) A6 n c6 w6 (HX5.out.after hb6) hr6 (fun r hr => by have := outs_short HK5.out HSL.out r hr; omega) (by rw [HL5.out]; omega))
        rw [HL5.out, hp6.length_eq, ← HN.out, same_yes (HK5.out.trans (sorted_keys hp6 hs6).symm)] at HX6
        have HBX6 := Lib.hid (HBX5.out.later hb6)
        clear hr6 hp6 hs6 hb6 HS5 HX5 HBX5
        go_wp2_with fail
        refine HX6.out.mono ?_
        rintro e w7 ⟨rfl, hb7⟩
        have C7 := Lib.hid (bthen C6.out hb7)
        have D7 := Lib.hid (D6.out.trans (hb7.mono D6.out.size))
        have HBX7 := Lib.hid (HBX6.out.later hb7)
        have HX7 := Lib.hid (sameBag_any ls ms A A' c c' w7 (HA.out.after C7.out) (HB.out.after C7.out) HOL.out HOM.out (by rw [← HN.out]; omega) (by rw [← HM.out]; omega))
        rw [← HN.out, ← HM.out] at HX7
        clear hb7 HX6 HBX6
        go_wp2_with fail
        refine HX7.out.mono ?_
        rintro e w8 ⟨rfl, hb8⟩
        have C8 := Lib.hid (bthen C7.out hb8)
        have D8 := Lib.hid (D7.out.trans (hb8.mono D7.out.size))
        have HBX8 := Lib.hid (HBX7.out.later hb8)
        have HX8 := Lib.hid (rsameBag_any ls ms A A' c c' w8 (HA.out.after C8.out) (HB.out.after C8.out) HOL.out HOM.out (by rw [← HN.out]; exact hc) (by rw [← HM.out]; exact hc') (by rw [← HN.out]; omega) (by rw [← HM.out]; omega))
        rw [← HN.out, ← HM.out] at HX8
        clear hb8 HX7 HBX7
        generalize same (srt ls) (srt ms) = q at *
        go_wp2_with fail
        refine HX8.out.mono ?_
        rintro e w9 ⟨rfl, hb9⟩
        have C9 := Lib.hid (bthen C8.out hb9)
        have D9 := Lib.hid (D8.out.trans (hb9.mono D8.out.size))
        have HBX9 := Lib.hid (HBX8.out.later hb9)
        clear hb9 HX8 HBX8
        have hq : (q == q) = true := by simp
        go_wp2_with fail
        have HR4' : Hid (∀ w', Below w4.heap.size w4 w' → RowsAt w' w'.heap.size A4 ls) := fun w' h => HR4.out.after h
        clear HR4
        generalize hg : w4.heap.size = g at *
        go_loopw [47] (fun i wr => ∃ k : Nat, k ≤ n ∧ i = .int .i64 k ∧ Hid (BoxOf g n wr) ∧ Hid (Below g w4 wr) ∧ Hid (Below w.heap.size w wr)) (fun i _ => n - (intOf i).toNat)
        case atStart => exact ⟨0, Nat.zero_le _, rfl, HBX9, D9, C9⟩
        case round =>
          clear HBX9 D9 C9
          obtain ⟨k, hk, rfl, HBX, D, C⟩ := hrel
          by_cases hlt : k < n
          · obtain ⟨u, c1⟩ := HBX.out.cell hlt
            have f1 := HBX.out.free (k := k)
            have HBX2 := Lib.hid (HBX.out.set (k := k) (v := .slice none 0 0))
            have hgw : w.heap.size ≤ g := by rw [← hg]; exact C4.out.size
            have D2 := Lib.hid (D.out.setCell (p := ⟨g, k, none⟩) (Nat.le_refl _) (.slice none 0 0))
            have C2 := Lib.hid (C.out.setCell (p := ⟨g, k, none⟩) hgw (.slice none 0 0))
            go_wp2_with fail
            go_roundw
            case rel => exact ⟨k + 1, by omega, by go_num, HBX2, D2, C2⟩
            case measure => simp [intOf]; omega
          · obtain rfl : k = n := by omega
            have HX := Lib.hid (sameRows_any ls ls A4 A k4 c wr (HR4'.out wr D.out) (HA.out.after C.out) HOL.out (by rw [← HN.out]; omega))
            rw [← HN.out, same_yes rfl] at HX
            go_wp2_with fail
            refine HX.out.mono ?_
            rintro e w10 ⟨rfl, hb10⟩
            go_wp2_with fail
            go_ret
            exact ⟨rfl, bthen C.out hb10⟩
      · have hlim' : 1000 < n ∨ 1000 < m := by omega
        clear hlim
        by_cases hl1 : 1000 < n
        · have hl1' : ((n : Int) > 1000) := by omega
          go_enter Tryd.func3, Tryd.ntmps3
          go_wp2_with fail
          refine (live_any w HE.out).mono ?_
          rintro e w1 ⟨rfl, b1⟩
          go_wp2_with fail
          refine (HG1.out w1 b1).mono ?_
          rintro e w2 ⟨rfl, b2⟩
          have c2 := bthen b1 b2
          go_wp2_with fail
          refine (HG2.out w2 c2).mono ?_
          rintro e w3 ⟨rfl, b3⟩
          have c3 := bthen c2 b3
          go_wp2_with fail
          go_ret
          exact ⟨rfl, c3⟩
        · have hl1' : ¬ ((n : Int) > 1000) := by omega
          have hl2' : ((m : Int) > 1000) := by omega
          go_enter Tryd.func3, Tryd.ntmps3
          go_wp2_with fail
          refine (live_any w HE.out).mono ?_
          rintro e w1 ⟨rfl, b1⟩
          go_wp2_with fail
          refine (HG1.out w1 b1).mono ?_
          rintro e w2 ⟨rfl, b2⟩
          have c2 := bthen b1 b2
          go_wp2_with fail
          refine (HG2.out w2 c2).mono ?_
          rintro e w3 ⟨rfl, b3⟩
          have c3 := bthen c2 b3
          go_wp2_with fail
          go_ret
          exact ⟨rfl, c3⟩
end Go.Proofs.YtkmnlfbllfaieaaDoor
