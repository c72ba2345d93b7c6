/- Contract of the reference's Like, by a pattern's units. Conditions: the text and the pattern are no longer than 2000. -/
import Derived.Test.YtimlkgbhmkmacaaLikRDp
import Derived.StillTailTactics
namespace Go.Proofs.Ytimlkgbhmkmacaa
open Go.RowKit
set_option maxHeartbeats 1000000 in
theorem rlike_none (s p : ByteArray) (w : World) (hp : p.size ≤ 2000) (h : rd p.data.toList = none) :
    Calls Try.prog 9 #[.string s, .string p] w fun e w' => e = .returned (.tuple #[.bool false, .int .i64 40]) ∧ Below w.heap.size w w' := by
  have HR := Lib.hid (pieces_none p w hp h)
  clear h
  go_enter Try.func9, Try.ntmps9
  go_wp2_with fail
  refine HR.out.mono ?_
  rintro e w1 ⟨rfl, hb1⟩
  go_wp2_with fail
  go_ret2
  exact ⟨rfl, hb1⟩
/-- What holds at the head of the outer loop. -/
def Outer (w1 : World) (us : List Int) (l : List UInt8) (k : Nat) (gN : Nat) (wx : World) : Prop := BB wx gN (dpL us l k) ∧ w1.heap.size ≤ gN ∧ Below w1.heap.size w1 wx
/-- What holds at the head of the inner loop. -/
def Inner (w1 : World) (us : List Int) (l : List UInt8) (k i : Nat) (gN gX gB : Nat) (e1 e2 : Bool) (v : Int) (wx : World) : Prop := BB wx gN (dpL us l k) ∧ BB wx gX (nxL us l k i) ∧ XB wx gB e1 e2 v ∧ Below w1.heap.size w1 wx
theorem Inner.set {w1 wx : World} {us : List Int} {l : List UInt8} {k i gN gX gB : Nat} {e1 e2 : Bool} {v : Int} (h : Inner w1 us l k i gN gX gB e1 e2 v wx) (hX : w1.heap.size ≤ gX) (h1 : gN ≠ gX) (h2 : gB ≠ gX) {b : Bool} (hb : b = M (us.take (k + 1)) (l.take i)) : Inner w1 us l k (i + 1) gN gX gB e1 e2 v (wx.setCell ⟨gX, i, none⟩ (.bool b)) :=
  ⟨h.1.other h1, by rw [← nxL_step us l k i hb]; exact h.2.1.set i b, h.2.2.1.other h2, h.2.2.2.setCell (p := ⟨gX, i, none⟩) hX _⟩
theorem Inner.skip {w1 wx : World} {us : List Int} {l : List UInt8} {k i gN gX gB : Nat} {e1 e2 : Bool} {v : Int} (h : Inner w1 us l k i gN gX gB e1 e2 v wx) (hb : M (us.take (k + 1)) (l.take i) = false) : Inner w1 us l k (i + 1) gN gX gB e1 e2 v wx :=
  ⟨h.1, by rw [← nxL_skip us l k i hb]; exact h.2.1, h.2.2.1, h.2.2.2⟩
theorem Inner.drew {w1 wx : World} {us : List Int} {l : List UInt8} {k i gN gX gB : Nat} {e1 e2 : Bool} {v : Int} (h : Inner w1 us l k i gN gX gB e1 e2 v wx) : Inner w1 us l k i gN gX gB e1 e2 v wx.drew := ⟨h.1, h.2.1, h.2.2.1, h.2.2.2.drew⟩
theorem ok_box {u v : Int} {e2 : Bool} {x : UInt8} (hu : Unit1 u) (h1 : false = (u == -2)) (h2 : e2 = (u == -1)) (hv : v = max u 0) : okU u x = (e2 || ((x.toNat : Int) == v)) := by
  subst h2 hv
  unfold okU
  rcases hu with rfl | rfl | ⟨h3, h4⟩
  · simp at h1
  · rfl
  · rw [show max u 0 = u by omega]
    congr 1
    exact Bool.beq_comm
/-- What is left of a region that only reads, under a name that nothing takes apart. -/
structure WS (P : Program) (ops : Array Oper) (w : World) (Q : Act → Prop) (l : List Oper) (a : Act) : Prop where
  out : wpStill P ops w Q l a
theorem WS.step {P : Program} {ops : Array Oper} {w : World} {Q : Act → Prop} {a : Act} {o : Oper} {rest : List Oper} (h : ∀ K : Act → Prop, (∀ a, WS P ops w Q rest a → K a) → if Region.wanted o (yielded ops a.tmps) then o.still P a w K else K (a.put o.dst undef)) : WS P ops w Q (o :: rest) a :=
  ⟨wpStill_step fun K hK => h K fun a h => hK a h.out⟩
theorem WS.nil {P : Program} {ops : Array Oper} {w : World} {Q : Act → Prop} {a : Act} (h : Q a) : WS P ops w Q [] a := ⟨wpStill_nil h⟩
set_option maxRecDepth 100000 in
set_option maxHeartbeats 4000000 in
theorem rlike_some (s p : ByteArray) (us : List Int) (w : World) (hs : s.size ≤ 2000) (hp : p.size ≤ 2000) (h : rd p.data.toList = some us) :
    Calls Try.prog 9 #[.string s, .string p] w fun e w' => e = .returned (.tuple #[.bool (M us s.data.toList), .int .i64 0]) ∧ Below w.heap.size w w' := by
  obtain ⟨i0, hi, hz0, hz1, hz2⟩ := info_parts info4
  have HR := Lib.hid (pieces_some p us w hp h)
  have hm := units_len hp h
  have HU := Lib.hid (rd_units _ _ _ (Nat.le_refl _) h).2
  clear h
  obtain ⟨n, hn⟩ : ∃ n, n = us.length := ⟨_, rfl⟩
  have HN := Lib.hid hn
  rw [← hn] at hm
  clear hn
  have HL : Hid (s.data.toList.length = s.size) := size_list s
  obtain ⟨N1, hN1⟩ : ∃ N1, N1 = s.size + 1 := ⟨_, rfl⟩
  have HN1 := Lib.hid hN1
  have hN2 : (s.size : Int) + 1 = (N1 : Int) := by omega
  have hN3 : N1 ≤ 2001 := by omega
  have hN4 : 0 < N1 := by omega
  clear hN1
  go_enter Try.func9, Try.ntmps9
  go_wp2_with fail
  refine HR.out.mono ?_
  rintro e w1 ⟨A, c, rfl, hu, hb1⟩
  have HA := Lib.hid hu
  rw [← HN.out]
  clear hu
  have hbs := hb1.size
  go_wp2_with (at_make; refine wpList_make_full _ rfl _ _ 40 rfl w1.heap.size 4 i0 (.bool false) 1 Try.underlying40 hi hz0 hz1 _ _ _ _ N1 rfl rfl (by first | rfl | exact hN2) (by first | rfl | exact hN2) (by rw [hz2]; omega) (by unfold maxLen; omega) (Nat.le_refl _) ?_)
  intro w2 hown2 hgrow2
  have HB0 := Lib.hid (bb_made hown2)
  have hb2 := (Below.refl w1.heap.size w1).grown hgrow2 (Nat.le_refl _) (by simp)
  clear hown2 hgrow2
  have c0 := HB0.out.cell 0 (by simp; omega)
  rw [List.getElem_replicate] at c0
  have f0 := HB0.out.free 0
  have HO0 : Hid (Outer w1 us s.data.toList 0 w1.heap.size (w2.setCell ⟨w1.heap.size, 0, none⟩ (.bool true))) := by
    refine ⟨?_, Nat.le_refl _, hb2.setCell (p := ⟨w1.heap.size, 0, none⟩) (Nat.le_refl _) _⟩
    rw [dpL_zero, HL.out, ← HN1.out]
    exact HB0.out.set 0 true
  have HB2 := Lib.hid hb2
  clear hb2
  go_wp2_with fail
  clear c0 f0
  go_loopg [8, 28] n (fun g s8 s28 wx => ∃ (k gN : Nat), k + g = n ∧ s28 = .int .i64 k ∧ s8 = .slice (some ⟨gN, 0, none⟩) N1 N1 ∧ Hid (Outer w1 us s.data.toList k gN wx))
  case atStart => exact ⟨0, _, by omega, rfl, rfl, HO0.out⟩
  case round =>
    obtain ⟨k, gN, hkg, rfl, rfl, HO⟩ := hrel
    cases gk with
    | zero =>
      have hkz : ¬ ((k : Int) < (n : Int)) := by omega
      have cN := HO.out.1.cell s.size (by rw [dpL_len, HL.out]; omega)
      rw [dpL_get, List.take_of_length_le (by rw [← HN.out]; omega), List.take_of_length_le (by rw [HL.out]; exact Nat.le_refl _)] at cN
      have hNs : (s.size : Int) < (N1 : Int) := by omega
      go_wp2_with fail
      go_ret2
      exact ⟨rfl, bthen hb1 HO.out.2.2⟩
    | succ g =>
      have hkz : (k : Int) < (n : Int) := by omega
      have hkl : k < us.length := by rw [← HN.out]; omega
      obtain ⟨b, off, hA, hbl, hcell⟩ := HA.out (by omega)
      subst hA
      obtain ⟨c1, c2, c3⟩ := hcell k hkl
      have d1 := (HO.out.2.2.cell (p := ⟨b, _, none⟩) hbl).trans c1
      have d2 := (HO.out.2.2.cell (p := ⟨b, _, none⟩) hbl).trans c2
      have d3 := (HO.out.2.2.cell (p := ⟨b, _, none⟩) hbl).trans c3
      clear hcell c1 c2 c3
      obtain ⟨e1, he1⟩ : ∃ e1, e1 = (us[k] == -2) := ⟨_, rfl⟩
      obtain ⟨e2, he2⟩ : ∃ e2, e2 = (us[k] == -1) := ⟨_, rfl⟩
      obtain ⟨v, hv⟩ : ∃ v, v = max us[k] 0 := ⟨_, rfl⟩
      rw [← he1] at d1
      rw [← he2] at d2
      rw [← hv] at d3
      have HE1 := Lib.hid he1
      have HE2 := Lib.hid he2
      have HV := Lib.hid hv
      clear he1 he2 hv
      have hBw := HO.out.2.2.size
      go_wp2_with (at_make; refine wpList_make_full _ rfl _ _ 40 rfl w1.heap.size 4 i0 (.bool false) 1 Try.underlying40 hi hz0 hz1 _ _ _ _ N1 rfl rfl (by first | rfl | exact hN2) (by first | rfl | exact hN2) (by rw [hz2]; omega) (by unfold maxLen; omega) (by simp; omega) ?_)
      intro w3 hown3 hgrow3
      have HI0 : Hid (Inner w1 us s.data.toList k 0 gN (wr.heap.size + 1) wr.heap.size e1 e2 v w3) := by
        refine ⟨?_, ?_, ?_, ?_⟩
        · have h1 : BB (wr.alloc (.cells #[.bool e1, .bool e2, .int .u8 v] 42)) gN _ := HO.out.1.below ((Below.refl wr.heap.size wr).alloc (Nat.le_refl _) _) HO.out.1.lt
          exact (hgrow3.block gN h1.lt (by simp)).trans h1
        · rw [nxL_zero, HL.out, ← HN1.out]
          exact bb_made hown3
        · have h1 := XB.made wr e1 e2 v
          exact (hgrow3.block wr.heap.size (by simp) (by simp)).trans h1
        · exact (HO.out.2.2.alloc hBw _).grown hgrow3 (by simp; omega) (by simp)
      obtain ⟨gB, hgB⟩ : ∃ gB, gB = wr.heap.size := ⟨_, rfl⟩
      rw [← hgB] at HI0
      have hNB : gN < gB := by rw [hgB]; exact HO.out.1.lt
      have hX : w1.heap.size ≤ gB + 1 := by omega
      clear hown3 hgrow3 d1 d2 d3 hBw HO
      rw [← hgB]
      clear hgB
      go_wp2_with fail
      go_loopg [38] N1 (fun g2 s38 wy => ∃ i : Nat, i + g2 = N1 ∧ s38 = .int .i64 i ∧ Hid (Inner w1 us s.data.toList k i gN (gB + 1) gB e1 e2 v wy))
      case atStart => exact ⟨0, by omega, rfl, HI0.out⟩
      case round =>
        obtain ⟨i, hig, rfl, HI⟩ := hrel
        cases gk with
        | zero =>
          have hiz : ¬ ((i : Int) < (N1 : Int)) := by omega
          have HE : Hid (Outer w1 us s.data.toList (k + 1) (gB + 1) wr) := by
            refine ⟨?_, hX, HI.out.2.2.2⟩
            rw [← nxL_all, HL.out, ← HN1.out, show N1 = i by omega]
            exact HI.out.2.1
          go_wp2_with fail
          go_roundg g
          case measure => omega
          case rel => exact ⟨k + 1, _, by omega, by go_num, rfl, HE.out⟩
        | succ g2 =>
          have hiz : (i : Int) < (N1 : Int) := by omega
          obtain ⟨x1, x2, x3⟩ := HI.out.2.2.1.cells
          have cX := HI.out.2.1.free i
          have cI := HI.out.2.1.cell i (by rw [nxL_len, HL.out]; omega)
          generalize (nxL us s.data.toList k i)[i]'(by rw [nxL_len, HL.out]; omega) = old at cI
          by_cases hi0 : i = 0
          · subst hi0
            cases e1
            · have HS := Lib.hid (HI.out.skip (st_byte0 hkl (by have := HE1.out; simpa using this) _))
              go_wp2_with fail
              go_roundg g2
              case measure => omega
              case rel => exact ⟨1, by omega, by go_num, HS.out⟩
            · have cN := HI.out.1.cell 0 (by rw [dpL_len]; omega)
              rw [dpL_get] at cN
              have HS := Lib.hid (HI.out.set hX (by omega) (by omega) (st_many0 hkl (by have := HE1.out; simpa using this) _).symm)
              generalize M (us.take k) (s.data.toList.take 0) = b1 at *
              cases b1
              · go_wp2_with fail
                go_roundg g2
                case measure => omega
                case rel => exact ⟨1, by omega, by go_num, HS.out⟩
              · go_wp2_with fail
                go_roundg g2
                case measure => omega
                case rel => exact ⟨1, by omega, by go_num, HS.out⟩
          · obtain ⟨j, rfl⟩ : ∃ j, i = j + 1 := ⟨i - 1, by omega⟩
            have hjl : j < s.data.toList.length := by rw [HL.out]; omega
            have hjs : (j : Int) < (s.size : Int) := by omega
            clear hi0
            cases e1
            · have cN := HI.out.1.cell j (by rw [dpL_len]; omega)
              rw [dpL_get] at cN
              have HS := Lib.hid (HI.out.drew.set hX (by omega) (by omega) (st_byte hkl (by have := HE1.out; simpa using this) hjl).symm)
              rw [ok_box (HU.out _ (List.getElem_mem hkl)) HE1.out HE2.out HV.out, show s.data.toList[j] = s[j]'(by omega) from rfl] at HS
              generalize M (us.take k) (s.data.toList.take j) = b1 at *
              have ew : IntKind.i64.wrap (j : Int) = (j : Int) := IntWalk.i64_in _ (by omega)
              have hjN : (j : Int) < (N1 : Int) := by omega
              have hiz2 : (j : Int) + 1 < (N1 : Int) := by omega
              have hj1 : (0 : Int) ≤ (j : Int) + 1 := by omega
              have hj2 : ((j : Int) + 1).toNat = j + 1 := by omega
              cases b1
              · rw [Bool.false_and] at HS
                go_wp2_with fail
                refine wp_region_still_tail 21 (by kernel_rfl) (by kernel_rfl) (WS.out ?_)
                simp only [List.take_succ_cons, List.take_zero, List.drop_succ_cons, List.drop_zero]
                repeat (refine WS.step (fun K hK => ?_); go_simp; refine hK _ ?_; clear hK K)
                refine WS.nil ?_
                change wpList _ _ _ _ _ wr.drew
                go_wp2_with fail
                go_roundg g2
                case measure => omega
                case rel => exact ⟨j + 1 + 1, by omega, by go_num, HS.out⟩
              · rw [Bool.true_and] at HS
                cases e2
                · rw [Bool.false_or] at HS
                  go_wp2_with fail
                  refine wp_region_still_tail 21 (by kernel_rfl) (by kernel_rfl) (WS.out ?_)
                  simp only [List.take_succ_cons, List.take_zero, List.drop_succ_cons, List.drop_zero]
                  repeat (refine WS.step (fun K hK => ?_); go_simp; refine hK _ ?_; clear hK K)
                  refine WS.nil ?_
                  change wpList _ _ _ _ _ wr.drew
                  go_wp2_with fail
                  go_roundg g2
                  case measure => omega
                  case rel => exact ⟨j + 1 + 1, by omega, by go_num, HS.out⟩
                · rw [Bool.true_or] at HS
                  go_wp2_with fail
                  refine wp_region_still_tail 21 (by kernel_rfl) (by kernel_rfl) (WS.out ?_)
                  simp only [List.take_succ_cons, List.take_zero, List.drop_succ_cons, List.drop_zero]
                  repeat (refine WS.step (fun K hK => ?_); go_simp; refine hK _ ?_; clear hK K)
                  refine WS.nil ?_
                  change wpList _ _ _ _ _ wr.drew
                  go_wp2_with fail
                  go_roundg g2
                  case measure => omega
                  case rel => exact ⟨j + 1 + 1, by omega, by go_num, HS.out⟩
            · have cN := HI.out.1.cell (j + 1) (by rw [dpL_len]; omega)
              rw [dpL_get] at cN
              have cJ := HI.out.2.1.cell j (by rw [nxL_len]; omega)
              rw [nxL_get _ _ _ _ _ _ (by omega)] at cJ
              have HS := Lib.hid (HI.out.set hX (by omega) (by omega) (st_many hkl (by have := HE1.out; simpa using this) hjl).symm)
              generalize M (us.take k) (s.data.toList.take (j + 1)) = b1 at *
              generalize M (us.take (k + 1)) (s.data.toList.take j) = b2 at *
              cases b1
              · rw [Bool.false_or] at HS
                go_wp2_with fail
                go_roundg g2
                case measure => omega
                case rel => exact ⟨j + 1 + 1, by omega, by go_num, HS.out⟩
              · rw [Bool.true_or] at HS
                go_wp2_with fail
                go_roundg g2
                case measure => omega
                case rel => exact ⟨j + 1 + 1, by omega, by go_num, HS.out⟩
end Go.Proofs.Ytimlkgbhmkmacaa
