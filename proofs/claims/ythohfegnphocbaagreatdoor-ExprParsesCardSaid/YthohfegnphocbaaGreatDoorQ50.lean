/- Contract of the reference's rel. No condition. -/
import Derived.Test.YthohfegnphocbaaGreatDoorQ49
import Derived.Deep.RegionLaw
import Derived.Test.YthohfegnphocbaaGreatDoorQ08
import Derived.Test.YthohfegnphocbaaGreatDoorQ07
import Derived.Test.YthohfegnphocbaaGreatDoorQ48
import Derived.Test.YthohfegnphocbaaGreatDoorQ27
import Derived.Test.YthohfegnphocbaaGreatDoorQ34
import Derived.BigRegion
namespace Go.Proofs.YthohfegnphocbaaGreatDoor
open Go.RowKit
set_option maxRecDepth 100000 in
set_option maxHeartbeats 16000000 in
theorem rRel {ts : List T} (hT : Toks ts) (t : TypeId) (ex : List Value) (v : Nat) (H5 : LineH ts t ex v 5) (HLs : ∀ u, u + 1 ≤ v → LineH ts t ex u 5 ∧ ListH ts t ex u) : RelH ts t ex v := by
  intro p d w b A c h hr
  have HT := Lib.hid hT
  have hlen := hT.len
  have hbw := h.lt
  obtain ⟨x, hx⟩ : ∃ x, x = xd d (ln resB 4 (ts.drop p)) := ⟨_, rfl⟩
  obtain ⟨x1, hx1⟩ : ∃ x1, x1 = xd d (ln resB 5 (ts.drop p)) := ⟨_, rfl⟩
  rw [← hx]
  obtain ⟨W1, hW1, I1⟩ := Inv.start h
  have HW1 := Lib.hid hW1
  have HL1 := Lib.hid (H5 p d W1 b A c I1.out.R hr)
  rw [← hx1] at HL1
  have HL5 : Hid (∀ (P : Nat) (D : Bool) (w' : World), RR w' b ts A c P D t ex → (1 ≤ v ∧ rank ts P D ≤ v - 1) → Calls Tryz.prog 35 #[.pointer (some ⟨b, 0, none⟩), .int .i64 5] w' (Rq ts b A c P t ex w' (fun k => w'.heap.size ≤ k) (xd D (ln resB 5 (ts.drop P))))) := Lib.hid (fun P D w' R h => (HLs (v - 1) (by omega)).1 P D w' b A c R h.2)
  have HLL : Hid (∀ (P : Nat) (D : Bool) (w' : World), RR w' b ts A c P D t ex → (1 ≤ v ∧ rank ts P D ≤ v - 1) → Calls Tryz.prog 112 #[.pointer (some ⟨b, 0, none⟩)] w' (Rl ts b A c P t ex w' (xd D (ls resB (ts.drop P))))) := Lib.hid (fun P D w' R h => (HLs (v - 1) (by omega)).2 P D w' b A c R h.2)
  have HX := Lib.hid (And.intro hx hx1)
  have HR0 := Lib.hid hr
  clear hx hx1 hW1 h hT H5 HLs hr
  go_enter Tryz.func70, Tryz.ntmps70
  go_wp2_with (rw [← HW1.out])
  refine HL1.out.mono ?_
  rintro r w2 ⟨⟨y, rfl, G2, R2⟩, b2⟩
  have I2 := I1.out.but b2 R2
  obtain ⟨s0, i1, i2, s3, s4, s5, A9, n9, c9, rfl⟩ := G2.agg
  have hz1 := I1.out.lt2
  obtain ⟨WB, hWB, qB, zB, mB⟩ := box7 w2 (.string s0) (.int .i64 i1) (.int .i64 i2) (.string s3) (.string s4) (.string s5) (.slice A9 n9 c9)
  obtain ⟨WM, hWM⟩ : ∃ WM, WM = WB.alloc (.cells #[.string ⟨#[61]⟩, .string ⟨#[60, 62]⟩, .string ⟨#[60, 61]⟩, .string ⟨#[62, 61]⟩, .string ⟨#[60]⟩, .string ⟨#[62]⟩] 9) := ⟨_, rfl⟩
  have mM : Below WB.heap.size WB WM := by rw [hWM]; exact (Below.refl _ _).alloc (Nat.le_refl _) _
  have HM0 : Hid (MAt WM WB.heap.size (rels.map str)) := Lib.hid (by rw [hWM]; exact rels_at WB)
  have HS0 := Lib.hid ((Lk.start HX.out.1 HX.out.2 I2 (G2.wide (S' := fun k => w.heap.size < k) (fun k hk _ => by omega)) qB mB).later mM)
  have hgb : WB.heap.size ≠ b := by have := I2.lt; have := I2.lt2; omega
  have HWB := Lib.hid hWB
  have HWM := Lib.hid hWM
  clear hWB hWM qB zB mB mM G2 R2 b2 I2 I1 HL1 HW1 HX
  go_wp2_with (first | (rw [← HWB.out]) | (rw [← HWM.out]))
  generalize w2.heap.size = z at *
  generalize WB.heap.size = g at *
  generalize endP p x1 = P at *
  generalize endD x1 = D at *
  generalize endV x1 = a at *
  go_loopw [19] (fun iv wr => ∃ k : Nat, k ≤ 6 ∧ iv = .int .i64 k ∧ Hid (Lk w b ts A c p t ex x z d wr P P D a s0 i1 i2 s3 s4 s5 A9 n9 c9) ∧ Hid (MAt wr g (rels.map str)) ∧ Hid (D = false → (rels.drop k).find? (fun w => isS w (ts.drop P)) = relAt (ts.drop P))) (fun iv _ => 6 - (intOf iv).toNat)
  case atStart => exact ⟨0, by omega, rfl, HS0, HM0, Lib.hid (fun _ => rfl)⟩
  case round =>
    clear HS0 HM0
    obtain ⟨k, hk, rfl, HS, HM, HF⟩ := hrel
    have hz0 := HS.out.zlt
    have HRK : Hid (D = false → ∀ P' D', P + 1 ≤ P' → 1 ≤ v ∧ rank ts P' D' ≤ v - 1) := Lib.hid (fun hD P' D' hp => HS.out.rank hD HR0.out HS.out.I.R.hp P' hp D')
    by_cases hlt : k < rels.length
    · have hl6 : k < 6 := hlt
      have hkz : (k : Int) < 6 := by omega
      have hcell : wr.cell? ⟨g, k, none⟩ = some (.string (str rels[k])) := by
        have := HM.out.2 k (by rw [List.length_map]; exact hlt)
        rw [List.getElem_map] at this
        exact this
      have hd := List.drop_eq_getElem_cons hlt
      have hf := HF.out
      rw [hd] at hf
      simp only [List.find?_cons] at hf
      have HFx := Lib.hid hf
      clear hf hd HF
      generalize rels[k] = m at *
      cases hc : isD D (str m) (ts.drop P)
      · have HE := Lib.hid (rEatF HT.out (str m) wr b A c P t ex D HS.out.I.R hc)
        have HF2 : Hid (D = false → (rels.drop (k + 1)).find? (fun w => isS w (ts.drop P)) = relAt (ts.drop P)) := Lib.hid (fun hD => by
          have h1 := HFx.out hD
          rw [hD, isD_f, str_list] at hc
          rw [hc] at h1
          exact h1)
        clear hc HFx
        go_wp2_with fail
        refine HE.out.mono ?_
        rintro r w4 ⟨rfl, R4, b4⟩
        have h1 := Lib.hid (HS.out.but b4 R4)
        have h2 := Lib.hid (HM.out.but b4 hgb)
        clear b4 R4 HE HS HM
        go_wp2_with fail
        go_roundw
        case measure => simp [intOf]; omega
        case rel => exact ⟨k + 1, by omega, by simp, h1, h2, HF2⟩
      · obtain rfl : D = false := by
          cases D with
          | false => rfl
          | true => rw [isD_t] at hc; cases hc
        rw [isD_f] at hc
        have HE := Lib.hid (rEatT HT.out (str m) wr b A c P t ex HS.out.I.R hc)
        have hop : relAt (ts.drop P) = some m := by
          have h1 := HFx.out rfl
          rw [str_list] at hc
          rw [hc] at h1
          exact h1.symm
        obtain ⟨x2, hx2⟩ : ∃ x2, x2 = ln resB 5 (ts.drop (P + 1)) := ⟨_, rfl⟩
        have HTL := Lib.hid (HS.out.rtd rfl (rl_sign (a := a) hop hx2))
        have H5 := Lib.hid (fun W R => HL5.out (P + 1) false W R (HRK.out (by trivial) (P + 1) false (Nat.le_refl _)))
        simp only [xd_f, ← hx2] at H5
        clear hc HFx hop hx2 HL5 HLL HRK
        go_wp2_with fail
        refine HE.out.mono ?_
        rintro r w4 ⟨rfl, R4, b4⟩
        have h1 := HS.out.but b4 R4
        have HI4 := Lib.hid h1.I
        have HQ4 := Lib.hid h1.qz
        have HG4 := Lib.hid h1.G
        have H6 := Lib.hid (H5.out w4 R4)
        have hzr := h1.qz.lt
        clear h1 R4 b4 HE HS HM H5
        go_wp2_with fail
        refine H6.out.mono ?_
        rintro r w5 ⟨⟨y, rfl, G5, R5⟩, b5⟩
        obtain ⟨r0, j1, j2, r3, r4, r5, B9, m9, k9, rfl⟩ := G5.agg
        have h5z := b5.size
        obtain ⟨WC, hWC, qC, zC, mC⟩ := box7 w5 (.string r0) (.int .i64 j1) (.int .i64 j2) (.string r3) (.string r4) (.string r5) (.slice B9 m9 k9)
        have hmC := mC.size
        have Ga := ((HG4.out.but b5 (fun k hk => by omega)).later mC).more (d' := endD x2) (fun _ => rfl)
        have Gb := (G5.wide (S' := fun k => w.heap.size < k ∧ k ≠ z) (fun k hk _ => ⟨by omega, by omega⟩)).later mC
        obtain ⟨WD, hWD, mD, L5⟩ := list_got2 Ga Gb ⟨by omega, by omega⟩
        have IC := (HI4.out.but b5 R5).later mC
        have qzC := (HQ4.out.same (b5.block z hzr (by omega))).later mC
        obtain ⟨v0, v1, v2, v3, v4, v5, v6⟩ := qzC.cells
        obtain ⟨u0, u1, u2, u3, u4, u5, u6⟩ := qC.cells
        have HWC := Lib.hid hWC
        have HWD := Lib.hid hWD
        have HI := Lib.hid (IC.later mD)
        have HLG := Lib.hid L5
        clear hWC qC zC mC hWD mD L5 Ga Gb IC qzC G5 R5 b5 H6 HI4 HQ4 HG4
        go_wp2_with (first | (rw [← HWC.out]) | (rw [← HWD.out]))
        refine (rOp1 _ _ _ _ _).mono ?_
        rintro r w6 ⟨rfl, b6⟩
        have I6 := HI.out.later b6
        have G6 : Got w6 (fun k => w.heap.size < k ∧ k ≠ z) (op1 m [a, endV x2]) (endD x2) (.agg #[.string (str m), .int .i64 0, .int .i64 0, .string ⟨#[]⟩, .string ⟨#[]⟩, .string ⟨#[]⟩, .slice (some ⟨WC.heap.size, 0, none⟩) 2 2]) := (HLG.out.later b6).whole m []
        obtain ⟨W9, hW9, q9, HRQ⟩ := I6.tell HTL.out (G6.wide (fun k hk _ => hk.1))
        obtain ⟨y0, y1, y2, y3, y4, y5, y6⟩ := I6.q.cells
        obtain ⟨g0, g1, g2, g3, g4, g5, g6⟩ := I6.q.free
        clear G6 I6 b6 HI HLG HTL
        have HW9 := Lib.hid hW9
        obtain ⟨l0, l1, l2, l3, l4, l5, l6⟩ := q9.cells
        clear hW9 q9
        go_wp2_with (rw [← HW9.out])
        exact bodyPost_ret (v := .agg #[.string (str m), .int .i64 0, .int .i64 0, .string ⟨#[]⟩, .string ⟨#[]⟩, .string ⟨#[]⟩, .slice (some ⟨WC.heap.size, 0, none⟩) 2 2]) (by simp [results, Tryz.results70, go_sem, l0, l1, l2, l3, l4, l5, l6]) rfl HRQ.out
    · have hl6 : k = 6 := by have : rels.length = 6 := rfl; omega
      have hkz : ¬ (k : Int) < 6 := by omega
      have hno : D = false → relAt (ts.drop P) = none := fun hD => by
        have h1 := HF.out hD
        rw [hl6] at h1
        exact h1.symm
      have HN := Lib.hid hno
      clear hno HF hgb HM
      cases hi : isD D ⟨#[105, 115]⟩ (ts.drop P)
      · have HE := Lib.hid (rEatF HT.out ⟨#[105, 115]⟩ wr b A c P t ex D HS.out.I.R hi)
        have HIs : Hid (D = false → isS wIs (ts.drop P) = false) := Lib.hid (fun hD => by rw [hD, isD_f] at hi; exact hi)
        clear hi
        go_wp2_with fail
        refine HE.out.mono ?_
        rintro r w4 ⟨rfl, R4, b4⟩
        have h1 := Lib.hid (HS.out.but b4 R4)
        have HE2 := Lib.hid (rEat HT.out ⟨#[110, 111, 116]⟩ w4 b A c P D t ex R4)
        obtain ⟨N, hN⟩ : ∃ N, N = isD D ⟨#[110, 111, 116]⟩ (ts.drop P) := ⟨_, rfl⟩
        obtain ⟨P1, hP1⟩ : ∃ P1, P1 = stepP N P := ⟨_, rfl⟩
        rw [← hN, ← hP1] at HE2
        have HNN : Hid ((D = false → isS wNot (ts.drop P) = N) ∧ (D = true → N = false) ∧ P ≤ P1) := Lib.hid ⟨fun hD => by rw [hN, hD, isD_f]; rfl, fun hD => by rw [hN, hD]; rfl, by rw [hP1]; cases N <;> simp [stepP]⟩
        have HP1 := Lib.hid hP1
        obtain ⟨c0, c1, c2, f1, f2⟩ := R4.cells
        clear hN hP1 b4 R4 HE HS
        go_wp2_with fail
        refine HE2.out.mono ?_
        rintro r w5 ⟨rfl, R5, b5⟩
        have h2 := h1.out.but b5 R5
        obtain ⟨v0, v1, v2, v3, v4, v5, v6⟩ := h2.qz.cells
        obtain ⟨WX, hWX, qX, zX, mX⟩ := box7 w5 (.string s0) (.int .i64 i1) (.int .i64 i2) (.string s3) (.string s4) (.string s5) (.slice A9 n9 c9)
        have HX := Lib.hid (h2.lx qX mX)
        have HWX := Lib.hid hWX
        have HE3 := Lib.hid (fun m => rEat HT.out m WX b A c P1 D t ex HX.out.I.R)
        have HKT : Hid (∀ (Q' : Nat) (D' : Bool) (e : E) (r : X E), D = false → th resB a (ts.drop P1) = some r → Rtd P1 r Q' D' e → Rtd p x Q' D' (if N = true then op1 wNot [e] else e)) := Lib.hid (fun Q' D' e r hD hr hy => h1.out.rtd hD (rl_any (HN.out hD) (HIs.out hD) (HNN.out.1 hD) (by rw [← HP1.out]; exact hr) (by rw [← HP1.out]; exact hy)))
        have HKN : Hid ((D = false → th resB a (ts.drop P1) = none) → Rtd p x P1 (D || N) a) := Lib.hid (fun hr => by
          cases hD : D with
          | true =>
            have hN := HNN.out.2.1 hD
            rw [HP1.out, hN]
            exact h1.out.rtd_bad hD a
          | false =>
            have := h1.out.rtd hD (rl_anyno (HN.out hD) (HIs.out hD) (HNN.out.1 hD) (by rw [← HP1.out]; exact hr hD))
            rw [← HP1.out] at this
            exact this)
        clear hWX qX mX h2 R5 b5 HE2 h1 HN HIs
        go_wp2_with (rw [← HWX.out])
        generalize w5.heap.size = xz at *
        have HE3' := HE3.out ⟨#[108, 105, 107, 101]⟩
        cases hlk : isD D ⟨#[108, 105, 107, 101]⟩ (ts.drop P1)
        · rw [hlk, stepP_f] at HE3'
          have HE4 := Lib.hid HE3'
          clear HE3'
          go_wp2_with fail
          refine HE4.out.mono ?_
          rintro r w7 ⟨rfl, R7, b7⟩
          have HX7 := Lib.hid (HX.out.but b7 R7 (fun h => h))
          have HE5 := Lib.hid (fun m => rEat HT.out m w7 b A c P1 D t ex R7)
          clear b7 R7 HE4 HE3 HX
          have HE5' := HE5.out ⟨#[105, 110]⟩
          cases hin : isD D ⟨#[105, 110]⟩ (ts.drop P1)
          · rw [hin, stepP_f] at HE5'
            have HE6 := Lib.hid HE5'
            clear HE5'
            go_wp2_with fail
            refine HE6.out.mono ?_
            rintro r w8 ⟨rfl, R8, b8⟩
            have HX8 := Lib.hid (HX7.out.but b8 R8 (fun h => h))
            have HE7 := rEat HT.out ⟨#[98, 101, 116, 119, 101, 101, 110]⟩ w8 b A c P1 D t ex R8
            clear b8 R8 HE6 HE5 HX7
            cases hbt : isD D ⟨#[98, 101, 116, 119, 101, 101, 110]⟩ (ts.drop P1)
            · rw [hbt, stepP_f] at HE7
              have HE8 := Lib.hid HE7
              have HTL := Lib.hid (HKN.out (fun hD => by
                rw [hD, isD_f] at hlk hin hbt
                exact th_none hlk hin hbt))
              clear HE7 hlk hin hbt HKT HKN HL5 HLL HRK
              go_wp2_with fail
              refine HE8.out.mono ?_
              rintro r w9 ⟨rfl, R9, b9⟩
              have HX9 := HX8.out.but b9 R9 (fun h => h)
              have HI7 := Lib.hid HX9.I
              have HG7 := Lib.hid HX9.G
              have HQ7 := Lib.hid HX9.qz
              have HQX := Lib.hid HX9.qx
              obtain ⟨c0, c1, c2, f1, f2⟩ := R9.cells
              have hzx := HX9.zx
              have hbz : b ≠ z := by omega
              clear HX9 R9 b9 HE8 HX8
              cases N
              · have Htd' : Rtd p x P1 D a := by have := HTL.out; rwa [Bool.or_false] at this
                obtain ⟨W9, hW9, q9, HRQ⟩ := HI7.out.tell Htd' (HG7.out.wide (fun k hk _ => hk.1))
                obtain ⟨v0, v1, v2, v3, v4, v5, v6⟩ := HQ7.out.cells
                obtain ⟨y0, y1, y2, y3, y4, y5, y6⟩ := HI7.out.q.cells
                obtain ⟨g0, g1, g2, g3, g4, g5, g6⟩ := HI7.out.q.free
                clear Htd' HTL c0 c1 c2 f1 f2
                have HW9 := Lib.hid hW9
                obtain ⟨l0, l1, l2, l3, l4, l5, l6⟩ := q9.cells
                clear hW9 q9
                go_wp2_with (rw [← HW9.out])
                exact bodyPost_ret (v := .agg #[.string s0, .int .i64 i1, .int .i64 i2, .string s3, .string s4, .string s5, .slice A9 n9 c9]) (by simp [results, Tryz.results70, go_sem, l0, l1, l2, l3, l4, l5, l6]) rfl HRQ.out
              · obtain rfl : D = false := by
                  cases D with
                  | false => rfl
                  | true => have := HNN.out.2.1 rfl; cases this
                have hp1 : P1 = P + 1 := HP1.out
                have hp1l := HI7.out.R.hp
                have I8 := (HI7.out.at HI7.out.R.hp).bad true
                have B8 : But b w9 ((w9.setCell ⟨b, 1, none⟩ (.int .i64 P1)).setCell ⟨b, 2, none⟩ (.bool true)) := ((But.refl b w9).setCell 1 _).setCell 2 _
                have Q8 := HQ7.out.same (B8.block z HQ7.out.lt (Ne.symm hbz))
                have G8 := (HG7.out.but B8 (fun k hk => by omega)).more (d' := true) (fun h => by cases h)
                obtain ⟨W9, hW9, q9, HRQ⟩ := I8.tell HTL.out (G8.wide (fun k hk _ => hk.1))
                have hi8 : (((P1 : Nat) : Int)) = (P : Int) + 1 := by omega
                rw [hi8] at hW9 I8 Q8
                have f2' : (w9.setCell ⟨b, 1, none⟩ (.int .i64 ((P : Int) + 1))).frozen? ⟨b, 2, none⟩ = false := by simpa using f2
                obtain ⟨v0, v1, v2, v3, v4, v5, v6⟩ := Q8.cells
                obtain ⟨y0, y1, y2, y3, y4, y5, y6⟩ := I8.q.cells
                obtain ⟨g0, g1, g2, g3, g4, g5, g6⟩ := I8.q.free
                clear HTL G8 I8 B8 Q8
                have hPl : P + 1 < ts.length := by omega
                clear hp1 hi8 hp1l
                have HW9 := Lib.hid hW9
                obtain ⟨l0, l1, l2, l3, l4, l5, l6⟩ := q9.cells
                clear hW9 q9
                go_wp2_with (rw [← HW9.out])
                exact bodyPost_ret (v := .agg #[.string s0, .int .i64 i1, .int .i64 i2, .string s3, .string s4, .string s5, .slice A9 n9 c9]) (by simp [results, Tryz.results70, go_sem, l0, l1, l2, l3, l4, l5, l6]) rfl HRQ.out
            · obtain rfl : D = false := by
                cases D with
                | false => rfl
                | true => rw [isD_t] at hbt; cases hbt
              rw [hbt, stepP_t] at HE7
              have HE8 := Lib.hid HE7
              rw [isD_f] at hlk hin hbt
              obtain ⟨x2, hx2⟩ : ∃ x2, x2 = ln resB 5 (ts.drop (P1 + 1)) := ⟨_, rfl⟩
              have hpp := HNN.out.2.2
              have H5 := Lib.hid (fun W R => HL5.out (P1 + 1) false W R (HRK.out (by trivial) (P1 + 1) false (by omega)))
              simp only [xd_f, ← hx2] at H5
              obtain ⟨z1, hz1'⟩ : ∃ z1, z1 = isD (endD x2) ⟨#[97, 110, 100]⟩ (ts.drop (endP (P1 + 1) x2)) := ⟨_, rfl⟩
              obtain ⟨P3, hP3⟩ : ∃ P3, P3 = stepP z1 (endP (P1 + 1) x2) := ⟨_, rfl⟩
              obtain ⟨x3, hx3⟩ : ∃ x3, x3 = xd (!z1) (ln resB 5 (ts.drop P3)) := ⟨_, rfl⟩
              have hge : P1 + 1 ≤ endP (P1 + 1) x2 := by rcases x2 with q | ⟨e, m⟩ <;> exact Nat.le_add_right _ _
              have hge3 : P1 + 1 ≤ P3 := by rw [hP3]; cases z1 <;> simp [stepP] <;> omega
              have HND := Lib.hid (fun W R => rNeed HT.out ⟨#[97, 110, 100]⟩ W b A c (endP (P1 + 1) x2) (endD x2) t ex R)
              rw [← hz1', ← hP3] at HND
              have H53 := Lib.hid (fun W R => HL5.out P3 (!z1) W R (HRK.out (by trivial) P3 (!z1) (by omega)))
              rw [← hx3] at H53
              obtain ⟨rr, hr1, hr2⟩ := th_btw (a := a) hlk hin hbt hx2 hz1'.symm hP3 hx3
              have HTL := Lib.hid (HKT.out _ _ _ rr rfl hr1 hr2)
              have hd2 : endD x3 = false → endD x2 = false := by
                intro h3
                cases z1 with
                | false => rw [hx3, show (!false) = true from rfl, xd_t] at h3; cases h3
                | true =>
                  cases hh : endD x2 with
                  | false => rfl
                  | true => rw [hh, isD_t] at hz1'; cases hz1'
              have HD2 := Lib.hid hd2
              clear HE7 hlk hin hbt HKT HKN HL5 HLL HRK hx2 hz1' hP3 hx3 hr1 hr2 hd2 hge hge3
              go_wp2_with fail
              refine HE8.out.mono ?_
              rintro r w9 ⟨rfl, R9, b9⟩
              have HX9 := Lib.hid (HX8.out.but b9 R9 (fun h => h))
              have H6 := Lib.hid (H5.out w9 R9)
              have hzx := HX9.out.zx
              have hzr := HX9.out.qx.lt
              clear R9 b9 HE8 HX8 H5
              go_wp2_with fail
              refine H6.out.mono ?_
              rintro r w10 ⟨⟨y, rfl, G10, R10⟩, b10⟩
              obtain ⟨r0, j1, j2, r3, r4, r5, B9, m9, k9, rfl⟩ := G10.agg
              have h10z := b10.size
              obtain ⟨WC, hWC, qC, zC, mC⟩ := box7 w10 (.string r0) (.int .i64 j1) (.int .i64 j2) (.string r3) (.string r4) (.string r5) (.slice B9 m9 k9)
              have hmC := mC.size
              have HXC := Lib.hid ((HX9.out.but b10 R10 (fun _ => rfl)).later mC)
              have HGC := Lib.hid ((G10.wide (S' := fun k => w.heap.size < k ∧ k ≠ xz) (fun k hk _ => ⟨by omega, by omega⟩)).later mC)
              have HQC := Lib.hid qC
              have HWC := Lib.hid hWC
              have HN3 := Lib.hid (HND.out WC HXC.out.I.R)
              have hcb : w10.heap.size ≠ b := by omega
              clear hWC qC zC mC G10 R10 b10 H6 HX9 HND
              go_wp2_with (rw [← HWC.out])
              refine HN3.out.mono ?_
              rintro r w11 ⟨rfl, R11, b11⟩
              have H7 := Lib.hid (H53.out w11 R11)
              have HXE := Lib.hid (HXC.out.I.but b11 R11)
              have HG1 := Lib.hid (HXC.out.G.but b11 (fun k hk => by omega))
              have HQ1 := Lib.hid (HXC.out.qz.same (b11.block _ HXC.out.qz.lt (by omega)))
              have HQ2 := Lib.hid (HXC.out.qx.same (b11.block _ HXC.out.qx.lt (by omega)))
              have HG2 := Lib.hid (HGC.out.but b11 (fun k hk => by omega))
              have HQ3 := Lib.hid (HQC.out.same (b11.block _ HQC.out.lt hcb))
              have h11z := b11.size
              clear R11 b11 H53 HXC HGC HQC HN3
              go_wp2_with fail
              refine H7.out.mono ?_
              rintro r w12 ⟨⟨y, rfl, G12, R12⟩, b12⟩
              obtain ⟨q0, h1, h2, q3, q4, q5, C9, l9, h9, rfl⟩ := G12.agg
              have h12z := b12.size
              obtain ⟨WF, hWF, qF, zF, mF⟩ := box7 w12 (.string q0) (.int .i64 h1) (.int .i64 h2) (.string q3) (.string q4) (.string q5) (.slice C9 l9 h9)
              have hmF := mF.size
              have hqr1 := HQ1.out.lt
              have hqr2 := HQ2.out.lt
              have hqr3 := HQ3.out.lt
              have Ga := ((HG1.out.but b12 (fun k hk => by omega)).later mF).more (d' := endD x3) HD2.out
              have Gb := ((HG2.out.but b12 (fun k hk => by omega)).later mF).more (d' := endD x3) HD2.out
              have Gc := (G12.wide (S' := fun k => w.heap.size < k ∧ k ≠ xz) (fun k hk _ => ⟨by omega, by omega⟩)).later mF
              obtain ⟨WG, hWG, mG, LG⟩ := list_got3 Ga Gb Gc ⟨by omega, by omega⟩
              have IF := (HXE.out.but b12 R12).later mF
              have q1F := (HQ1.out.same (b12.block _ hqr1 (by omega))).later mF
              have q2F := (HQ2.out.same (b12.block _ hqr2 (by omega))).later mF
              have q3F := (HQ3.out.same (b12.block _ hqr3 hcb)).later mF
              obtain ⟨v0, v1, v2, v3, v4, v5, v6⟩ := q1F.cells
              obtain ⟨u0, u1, u2, u3, u4, u5, u6⟩ := q3F.cells
              obtain ⟨e0', e1', e2', e3', e4', e5', e6'⟩ := qF.cells
              have HWF := Lib.hid hWF
              have HWG := Lib.hid hWG
              have HI := Lib.hid (IF.later mG)
              have HQX := Lib.hid (q2F.later mG)
              have HLG := Lib.hid LG
              clear hWF hWG qF zF mF mG LG Ga Gb Gc IF q1F q2F q3F G12 R12 b12 H7 HXE HG1 HG2 HQ1 HQ2 HQ3
              go_wp2_with (first | (rw [← HWF.out]) | (rw [← HWG.out]))
              refine (rOp1 _ _ _ _ _).mono ?_
              rintro r w14 ⟨rfl, b14⟩
              have I14 := HI.out.later b14
              have Q14 := HQX.out.later b14
              have G14 := (HLG.out.later b14).whole wBetween []
              change Got w14 _ _ _ (.agg #[.string ⟨#[98, 101, 116, 119, 101, 101, 110]⟩, .int .i64 0, .int .i64 0, .string ⟨#[]⟩, .string ⟨#[]⟩, .string ⟨#[]⟩, .slice (some ⟨WF.heap.size, 0, none⟩) 3 3]) at G14
              obtain ⟨W7, hW7, HI7, HQ7, HG7⟩ := I14.putx Q14 (by omega) G14
              have HW7 := Lib.hid hW7
              obtain ⟨y0, y1, y2, y3, y4, y5, y6⟩ := Q14.cells
              obtain ⟨g0, g1, g2, g3, g4, g5, g6⟩ := Q14.free
              clear hW7 G14 I14 Q14 b14 HI HQX HLG HD2 v0 v1 v2 v3 v4 v5 v6 u0 u1 u2 u3 u4 u5 u6 e0' e1' e2' e3' e4' e5' e6'
              have hq7 := HQ7.out.lt
              have hx7 := HI7.out.lt2
              obtain ⟨n0, n1, n2, n3, n4, n5, n6⟩ := HQ7.out.cells
              cases N
              · have Htd' : Rtd p x _ _ _ := HTL.out
                rw [if_neg (by decide)] at Htd'
                obtain ⟨W9, hW9, q9, HRQ⟩ := HI7.out.tell Htd' (HG7.out.wide (fun k hk _ => hk.1))
                obtain ⟨m0, m1, m2, m3, m4, m5, m6⟩ := HI7.out.q.cells
                obtain ⟨o0, o1, o2, o3, o4, o5, o6⟩ := HI7.out.q.free
                clear Htd' HTL
                have HW9 := Lib.hid hW9
                obtain ⟨l0, l1, l2, l3, l4, l5, l6⟩ := q9.cells
                clear hW9 q9
                go_wp2_with (first | (rw [← HW7.out]) | (rw [← HW9.out]))
                exact bodyPost_ret (v := .agg #[.string ⟨#[98, 101, 116, 119, 101, 101, 110]⟩, .int .i64 0, .int .i64 0, .string ⟨#[]⟩, .string ⟨#[]⟩, .string ⟨#[]⟩, .slice (some ⟨WF.heap.size, 0, none⟩) 3 3]) (by simp [results, Tryz.results70, go_sem, l0, l1, l2, l3, l4, l5, l6]) rfl HRQ.out
              · have Htd' : Rtd p x _ _ _ := HTL.out
                rw [if_pos rfl] at Htd'
                have HTD := Lib.hid Htd'
                obtain ⟨WE, hWE, mE, LE⟩ := list_got1k HG7.out ⟨by omega, by omega⟩
                have HIE := Lib.hid (HI7.out.later mE)
                have HLE := Lib.hid LE
                have HWE := Lib.hid hWE
                clear Htd' HTL hWE mE LE
                go_wp2_with (first | (rw [← HW7.out]) | (rw [← HWE.out]))
                refine (rOp1 _ _ _ _ _).mono ?_
                rintro r w8 ⟨rfl, b8⟩
                have I8 := HIE.out.later b8
                have G8 := (HLE.out.later b8).whole wNot []
                change Got w8 _ _ _ (.agg #[.string ⟨#[110, 111, 116]⟩, .int .i64 0, .int .i64 0, .string ⟨#[]⟩, .string ⟨#[]⟩, .string ⟨#[]⟩, .slice (some ⟨W7.heap.size, 0, none⟩) 1 1]) at G8
                obtain ⟨W9, hW9, q9, HRQ⟩ := I8.tell HTD.out (G8.wide (fun k hk _ => hk.1))
                obtain ⟨m0, m1, m2, m3, m4, m5, m6⟩ := I8.q.cells
                obtain ⟨o0, o1, o2, o3, o4, o5, o6⟩ := I8.q.free
                clear HTD G8 I8 b8 HIE HLE
                have HW9 := Lib.hid hW9
                obtain ⟨l0, l1, l2, l3, l4, l5, l6⟩ := q9.cells
                clear hW9 q9
                go_wp2_with (first | (rw [← HW9.out]))
                exact bodyPost_ret (v := .agg #[.string ⟨#[110, 111, 116]⟩, .int .i64 0, .int .i64 0, .string ⟨#[]⟩, .string ⟨#[]⟩, .string ⟨#[]⟩, .slice (some ⟨W7.heap.size, 0, none⟩) 1 1]) (by simp [results, Tryz.results70, go_sem, l0, l1, l2, l3, l4, l5, l6]) rfl HRQ.out
          · obtain rfl : D = false := by
              cases D with
              | false => rfl
              | true => rw [isD_t] at hin; cases hin
            rw [hin, stepP_t] at HE5'
            have HE6 := Lib.hid HE5'
            rw [isD_f] at hlk hin
            have hpp := HNN.out.2.2
            obtain ⟨z1, hz1'⟩ : ∃ z1, z1 = isD false ⟨#[40]⟩ (ts.drop (P1 + 1)) := ⟨_, rfl⟩
            obtain ⟨P3, hP3⟩ : ∃ P3, P3 = stepP z1 (P1 + 1) := ⟨_, rfl⟩
            obtain ⟨x2, hx2⟩ : ∃ x2, x2 = xd (!z1) (ls resB (ts.drop P3)) := ⟨_, rfl⟩
            have hge3 : P1 + 1 ≤ P3 := by rw [hP3]; cases z1 <;> simp [stepP]
            have HND := Lib.hid (fun W R => rNeed HT.out ⟨#[40]⟩ W b A c (P1 + 1) false t ex R)
            rw [← hz1', ← hP3] at HND
            have HLI := Lib.hid (fun W R => HLL.out P3 (!z1) W R (HRK.out (by trivial) P3 (!z1) (by omega)))
            rw [← hx2] at HLI
            obtain ⟨z2, hz2'⟩ : ∃ z2, z2 = isD (endD x2) ⟨#[41]⟩ (ts.drop (endP P3 x2)) := ⟨_, rfl⟩
            have HND2 := Lib.hid (fun W R => rNeed HT.out ⟨#[41]⟩ W b A c (endP P3 x2) (endD x2) t ex R)
            rw [← hz2'] at HND2
            have HTL := Lib.hid (fun (l : List E) (hl : endD x2 = false → l = endL x2) => (by
              obtain ⟨rr, hr1, hr2⟩ := th_in (a := a) hlk hin (by rw [isD_f] at hz1'; exact hz1'.symm) hP3 hx2 hz2'.symm hl
              exact HKT.out _ _ _ rr rfl hr1 hr2 : Rtd p x _ _ _))
            have hd2 : (!z2) = false → endD x2 = false := by
              intro h3
              cases hh : endD x2 with
              | false => rfl
              | true => rw [hh, isD_t] at hz2'; rw [hz2'] at h3; cases h3
            have hd1 : endD x2 = false → (!z1) = false := by
              intro h3
              cases z1 with
              | true => rfl
              | false => rw [hx2, show (!false) = true from rfl, xd_t] at h3; cases h3
            have HD2 := Lib.hid hd2
            have HD1 := Lib.hid hd1
            clear HE5' hlk hin HKT HKN HL5 HLL HRK hx2 hz1' hz2' hP3 hd1 hd2 hge3 HE5
            go_wp2_with fail
            refine HE6.out.mono ?_
            rintro r w8 ⟨rfl, R8, b8⟩
            have HX8 := Lib.hid (HX7.out.but b8 R8 (fun h => h))
            have HN2 := Lib.hid (HND.out w8 R8)
            clear R8 b8 HE6 HX7 HND
            go_wp2_with fail
            refine HN2.out.mono ?_
            rintro r w9 ⟨rfl, R9, b9⟩
            have HX9 := Lib.hid (HX8.out.but b9 R9 (fun _ => rfl))
            have HXd := Lib.hid (HX9.out.later (show Below w9.heap.size w9 w9.drew from ⟨rfl, rfl, rfl, Nat.le_refl _, fun _ _ => rfl⟩))
            have Hq := HXd.out.qz
            obtain ⟨v0, v1, v2, v3, v4, v5, v6⟩ := Hq.cells
            have HLa := Lib.hid (HLI.out (w9.drew.alloc (.cells #[.string s0, .int .i64 i1, .int .i64 i2, .string s3, .string s4, .string s5, .slice A9 n9 c9] 27)) (HXd.out.I.R.later ((Below.refl _ _).alloc (Nat.le_refl _) _)))
            have HLb := Lib.hid (HLI.out w9.drew HXd.out.I.R)
            clear R9 b9 HN2 HX8 HX9 HLI Hq
            go_wp2_with fail
            go_region_law (first
              | (refine step_append_runx _ rfl (.tmp 76) (.tmp 78) 25 25 rfl _ _ rfl rfl hrun ?_)
              | (go_simp; go_at_call 112; refine HLa.out.mono ?_; rintro r w10 ⟨⟨u, l, rfl, ho, hl, hll, R10⟩, b10⟩; obtain ⟨v', w11, hrun, HX11, HO11⟩ := in_a HXd.out b10 R10 HD1.out hll ho; have HTD := Lib.hid (HTL.out l hl); clear ho R10 b10 hl hll)
              | (go_simp; go_at_call 112; refine HLb.out.mono ?_; rintro r w10 ⟨⟨u, l, rfl, ho, hl, hll, R10⟩, b10⟩; obtain ⟨t0, t1, t2, t3, t4, t5, t6⟩ := (HXd.out.qz.same (b10.block _ HXd.out.qz.lt (by have := HXd.out.zlt; omega))).cells; obtain ⟨v', w11, hrun, HX11, HO11⟩ := in_b HXd.out b10 R10 HD1.out hll ho; have HTD := Lib.hid (HTL.out l hl); clear ho R10 b10 hl hll))
            all_goals
              clear hrun v0 v1 v2 v3 v4 v5 v6 HTL HLa HLb HXd
              have HN4 := Lib.hid (HND2.out w11 HX11.out.I.R)
              have hzx := HX11.out.zx
              have hzl := HX11.out.zlt
              go_wp2_with fail
              refine HN4.out.mono ?_
              rintro r w12 ⟨rfl, R12, b12⟩
              have HX12 := Lib.hid (HX11.out.but b12 R12 HD2.out)
              have hq12 := HX12.out.qx.lt
              have h11 := HX11.out.qx.lt
              have HO12 := HO11.out.keep (S' := fun k => w.heap.size < k ∧ k ≠ xz) (fun k hk hlt => ⟨hk, b12.block k hlt (by omega)⟩) (.inr ⟨b, by omega, b12⟩) (by omega)
              have LG := ((HO12.more HD2.out).got (fun k hk => ⟨by omega, by omega⟩))
              obtain ⟨es, A7, c7, hv7, hat7, hr7⟩ := LG
              subst hv7
              have HLG : Hid (LGot w12 (fun k => w.heap.size < k ∧ k ≠ xz) (a :: l) (!z2) (.slice A7 es.length c7)) := Lib.hid ⟨es, A7, c7, rfl, hat7, hr7⟩
              clear HO12 HO11 HX11 R12 b12 HN4 HND2 hat7 hr7
              go_wp2_with fail
              refine (rOp1 _ _ _ _ _).mono ?_
              rintro r w14 ⟨rfl, b14⟩
              have X14 := HX12.out.later b14
              have G14 := (HLG.out.later b14).whole wIn []
              change Got w14 _ _ _ (.agg #[.string ⟨#[105, 110]⟩, .int .i64 0, .int .i64 0, .string ⟨#[]⟩, .string ⟨#[]⟩, .string ⟨#[]⟩, .slice A7 es.length c7]) at G14
              obtain ⟨W7, hW7, HI7, HQ7, HG7⟩ := X14.put G14
              have HW7 := Lib.hid hW7
              obtain ⟨y0, y1, y2, y3, y4, y5, y6⟩ := X14.qx.cells
              obtain ⟨g0, g1, g2, g3, g4, g5, g6⟩ := X14.qx.free
              clear hW7 G14 X14 b14 HX12 HLG HD2 HD1
              have HTL := HTD
              clear HTD
              have hq7 := HQ7.out.lt
              have hx7 := HI7.out.lt2
              obtain ⟨n0, n1, n2, n3, n4, n5, n6⟩ := HQ7.out.cells
              cases N
              · have Htd' : Rtd p x _ _ _ := HTL.out
                rw [if_neg (by decide)] at Htd'
                obtain ⟨W9, hW9, q9, HRQ⟩ := HI7.out.tell Htd' (HG7.out.wide (fun k hk _ => hk.1))
                obtain ⟨m0, m1, m2, m3, m4, m5, m6⟩ := HI7.out.q.cells
                obtain ⟨o0, o1, o2, o3, o4, o5, o6⟩ := HI7.out.q.free
                clear Htd' HTL
                have HW9 := Lib.hid hW9
                obtain ⟨l0, l1, l2, l3, l4, l5, l6⟩ := q9.cells
                clear hW9 q9
                go_wp2_with (first | (rw [← HW7.out]) | (rw [← HW9.out]))
                exact bodyPost_ret (v := .agg #[.string ⟨#[105, 110]⟩, .int .i64 0, .int .i64 0, .string ⟨#[]⟩, .string ⟨#[]⟩, .string ⟨#[]⟩, .slice A7 es.length c7]) (by simp [results, Tryz.results70, go_sem, l0, l1, l2, l3, l4, l5, l6]) rfl HRQ.out
              · have Htd' : Rtd p x _ _ _ := HTL.out
                rw [if_pos rfl] at Htd'
                have HTD := Lib.hid Htd'
                obtain ⟨WE, hWE, mE, LE⟩ := list_got1k HG7.out ⟨by omega, by omega⟩
                have HIE := Lib.hid (HI7.out.later mE)
                have HLE := Lib.hid LE
                have HWE := Lib.hid hWE
                clear Htd' HTL hWE mE LE
                go_wp2_with (first | (rw [← HW7.out]) | (rw [← HWE.out]))
                refine (rOp1 _ _ _ _ _).mono ?_
                rintro r w8 ⟨rfl, b8⟩
                have I8 := HIE.out.later b8
                have G8 := (HLE.out.later b8).whole wNot []
                change Got w8 _ _ _ (.agg #[.string ⟨#[110, 111, 116]⟩, .int .i64 0, .int .i64 0, .string ⟨#[]⟩, .string ⟨#[]⟩, .string ⟨#[]⟩, .slice (some ⟨W7.heap.size, 0, none⟩) 1 1]) at G8
                obtain ⟨W9, hW9, q9, HRQ⟩ := I8.tell HTD.out (G8.wide (fun k hk _ => hk.1))
                obtain ⟨m0, m1, m2, m3, m4, m5, m6⟩ := I8.q.cells
                obtain ⟨o0, o1, o2, o3, o4, o5, o6⟩ := I8.q.free
                clear HTD G8 I8 b8 HIE HLE
                have HW9 := Lib.hid hW9
                obtain ⟨l0, l1, l2, l3, l4, l5, l6⟩ := q9.cells
                clear hW9 q9
                go_wp2_with (first | (rw [← HW9.out]))
                exact bodyPost_ret (v := .agg #[.string ⟨#[110, 111, 116]⟩, .int .i64 0, .int .i64 0, .string ⟨#[]⟩, .string ⟨#[]⟩, .string ⟨#[]⟩, .slice (some ⟨W7.heap.size, 0, none⟩) 1 1]) (by simp [results, Tryz.results70, go_sem, l0, l1, l2, l3, l4, l5, l6]) rfl HRQ.out
        · obtain rfl : D = false := by
            cases D with
            | false => rfl
            | true => rw [isD_t] at hlk; cases hlk
          rw [hlk, stepP_t] at HE3'
          have HE4 := Lib.hid HE3'
          rw [isD_f] at hlk
          obtain ⟨x2, hx2⟩ : ∃ x2, x2 = ln resB 5 (ts.drop (P1 + 1)) := ⟨_, rfl⟩
          have hpp := HNN.out.2.2
          have H5 := Lib.hid (fun W R => HL5.out (P1 + 1) false W R (HRK.out (by trivial) (P1 + 1) false (by omega)))
          simp only [xd_f, ← hx2] at H5
          obtain ⟨rr, hr1, hr2⟩ := th_like (a := a) hlk hx2
          have HTL := Lib.hid (HKT.out _ _ _ rr rfl hr1 hr2)
          clear HE3' HE3 hlk HKT HKN HL5 HLL HRK hx2 hr1 hr2
          go_wp2_with fail
          refine HE4.out.mono ?_
          rintro r w9 ⟨rfl, R9, b9⟩
          have HX9 := Lib.hid (HX.out.but b9 R9 (fun h => h))
          have H6 := Lib.hid (H5.out w9 R9)
          have hzx := HX9.out.zx
          have hzr := HX9.out.qx.lt
          clear R9 b9 HE4 HX H5
          go_wp2_with fail
          refine H6.out.mono ?_
          rintro r w10 ⟨⟨y, rfl, G10, R10⟩, b10⟩
          obtain ⟨r0, j1, j2, r3, r4, r5, B9, m9, k9, rfl⟩ := G10.agg
          have h10z := b10.size
          obtain ⟨WC, hWC, qC, zC, mC⟩ := box7 w10 (.string r0) (.int .i64 j1) (.int .i64 j2) (.string r3) (.string r4) (.string r5) (.slice B9 m9 k9)
          have hmC := mC.size
          have XC := (HX9.out.but b10 R10 (fun _ => rfl)).later mC
          have Gb := (G10.wide (S' := fun k => w.heap.size < k ∧ k ≠ xz) (fun k hk _ => ⟨by omega, by omega⟩)).later mC
          obtain ⟨WG, hWG, mG, LG⟩ := list_got2 XC.G Gb ⟨by omega, by omega⟩
          obtain ⟨v0, v1, v2, v3, v4, v5, v6⟩ := XC.qz.cells
          obtain ⟨u0, u1, u2, u3, u4, u5, u6⟩ := qC.cells
          have HWC := Lib.hid hWC
          have HWG := Lib.hid hWG
          have HXG := Lib.hid (XC.later mG)
          have HLG := Lib.hid LG
          clear hWC hWG qC zC mC mG LG Gb XC G10 R10 b10 H6 HX9
          go_wp2_with (first | (rw [← HWC.out]) | (rw [← HWG.out]))
          refine (rOp1 _ _ _ _ _).mono ?_
          rintro r w14 ⟨rfl, b14⟩
          have X14 := HXG.out.later b14
          have G14 := (HLG.out.later b14).whole wLike []
          change Got w14 _ _ _ (.agg #[.string ⟨#[108, 105, 107, 101]⟩, .int .i64 0, .int .i64 0, .string ⟨#[]⟩, .string ⟨#[]⟩, .string ⟨#[]⟩, .slice (some ⟨WC.heap.size, 0, none⟩) 2 2]) at G14
          obtain ⟨W7, hW7, HI7, HQ7, HG7⟩ := X14.put G14
          have HW7 := Lib.hid hW7
          obtain ⟨y0, y1, y2, y3, y4, y5, y6⟩ := X14.qx.cells
          obtain ⟨g0, g1, g2, g3, g4, g5, g6⟩ := X14.qx.free
          clear hW7 G14 X14 b14 HXG HLG
          have hq7 := HQ7.out.lt
          have hx7 := HI7.out.lt2
          obtain ⟨n0, n1, n2, n3, n4, n5, n6⟩ := HQ7.out.cells
          cases N
          · have Htd' : Rtd p x _ _ _ := HTL.out
            rw [if_neg (by decide)] at Htd'
            obtain ⟨W9, hW9, q9, HRQ⟩ := HI7.out.tell Htd' (HG7.out.wide (fun k hk _ => hk.1))
            obtain ⟨m0, m1, m2, m3, m4, m5, m6⟩ := HI7.out.q.cells
            obtain ⟨o0, o1, o2, o3, o4, o5, o6⟩ := HI7.out.q.free
            clear Htd' HTL
            have HW9 := Lib.hid hW9
            obtain ⟨l0, l1, l2, l3, l4, l5, l6⟩ := q9.cells
            clear hW9 q9
            go_wp2_with (first | (rw [← HW7.out]) | (rw [← HW9.out]))
            exact bodyPost_ret (v := .agg #[.string ⟨#[108, 105, 107, 101]⟩, .int .i64 0, .int .i64 0, .string ⟨#[]⟩, .string ⟨#[]⟩, .string ⟨#[]⟩, .slice (some ⟨WC.heap.size, 0, none⟩) 2 2]) (by simp [results, Tryz.results70, go_sem, l0, l1, l2, l3, l4, l5, l6]) rfl HRQ.out
          · have Htd' : Rtd p x _ _ _ := HTL.out
            rw [if_pos rfl] at Htd'
            have HTD := Lib.hid Htd'
            obtain ⟨WE, hWE, mE, LE⟩ := list_got1k HG7.out ⟨by omega, by omega⟩
            have HIE := Lib.hid (HI7.out.later mE)
            have HLE := Lib.hid LE
            have HWE := Lib.hid hWE
            clear Htd' HTL hWE mE LE
            go_wp2_with (first | (rw [← HW7.out]) | (rw [← HWE.out]))
            refine (rOp1 _ _ _ _ _).mono ?_
            rintro r w8 ⟨rfl, b8⟩
            have I8 := HIE.out.later b8
            have G8 := (HLE.out.later b8).whole wNot []
            change Got w8 _ _ _ (.agg #[.string ⟨#[110, 111, 116]⟩, .int .i64 0, .int .i64 0, .string ⟨#[]⟩, .string ⟨#[]⟩, .string ⟨#[]⟩, .slice (some ⟨W7.heap.size, 0, none⟩) 1 1]) at G8
            obtain ⟨W9, hW9, q9, HRQ⟩ := I8.tell HTD.out (G8.wide (fun k hk _ => hk.1))
            obtain ⟨m0, m1, m2, m3, m4, m5, m6⟩ := I8.q.cells
            obtain ⟨o0, o1, o2, o3, o4, o5, o6⟩ := I8.q.free
            clear HTD G8 I8 b8 HIE HLE
            have HW9 := Lib.hid hW9
            obtain ⟨l0, l1, l2, l3, l4, l5, l6⟩ := q9.cells
            clear hW9 q9
            go_wp2_with (first | (rw [← HW9.out]))
            exact bodyPost_ret (v := .agg #[.string ⟨#[110, 111, 116]⟩, .int .i64 0, .int .i64 0, .string ⟨#[]⟩, .string ⟨#[]⟩, .string ⟨#[]⟩, .slice (some ⟨W7.heap.size, 0, none⟩) 1 1]) (by simp [results, Tryz.results70, go_sem, l0, l1, l2, l3, l4, l5, l6]) rfl HRQ.out
      · obtain rfl : D = false := by
          cases D with
          | false => rfl
          | true => rw [isD_t] at hi; cases hi
        rw [isD_f] at hi
        have HE := Lib.hid (rEatT HT.out ⟨#[105, 115]⟩ wr b A c P t ex HS.out.I.R hi)
        go_wp2_with fail
        refine HE.out.mono ?_
        rintro r w4 ⟨rfl, R4, b4⟩
        cases hn : isS (⟨#[110, 111, 116]⟩ : ByteArray).data.toList (ts.drop (P + 1))
        · have HE2 := Lib.hid (rEatF HT.out ⟨#[110, 111, 116]⟩ w4 b A c (P + 1) t ex false R4 hn)
          have h1 := Lib.hid (HS.out.but b4 R4)
          obtain ⟨zz, hzz⟩ : ∃ zz, zz = isD false ⟨#[110, 117, 108, 108]⟩ (ts.drop (P + 1)) := ⟨_, rfl⟩
          have HND := Lib.hid (fun W R => rNeed HT.out ⟨#[110, 117, 108, 108]⟩ W b A c (P + 1) false t ex R)
          rw [← hzz] at HND
          have HTL := Lib.hid (HS.out.rtd rfl (rl_is0 (z := zz) (a := a) (HN.out (by trivial)) hi hn (by rw [isD_f] at hzz; exact hzz.symm)))
          clear hzz hn hi HE HS b4 R4 HL5 HLL HRK HN
          go_wp2_with fail
          refine HE2.out.mono ?_
          rintro r w5 ⟨rfl, R5, b5⟩
          have h2 := Lib.hid (h1.out.but b5 R5)
          have HN3 := Lib.hid (HND.out w5 R5)
          clear R5 b5 h1 HND HE2
          go_wp2_with fail
          refine HN3.out.mono ?_
          rintro r w6 ⟨rfl, R6, b6⟩
          have hzr := h2.out.qz.lt
          have hz6 := b6.size
          have Ga := (h2.out.G.but b6 (fun k hk => by omega)).more (d' := !zz) (fun _ => rfl)
          obtain ⟨WD, hWD, mD, L5⟩ := list_got1k Ga ⟨by omega, by omega⟩
          have qz6 := h2.out.qz.same (b6.block z hzr (by omega))
          obtain ⟨v0, v1, v2, v3, v4, v5, v6⟩ := qz6.cells
          have HI := Lib.hid ((h2.out.I.but b6 R6).later mD)
          have HWD := Lib.hid hWD
          have HLG := Lib.hid L5
          clear hWD mD L5 Ga qz6 R6 b6 HN3 h2
          go_wp2_with (rw [← HWD.out])
          refine (rOp1 _ _ _ _ _).mono ?_
          rintro r w8 ⟨rfl, b8⟩
          have I8 := HI.out.later b8
          have G8 := (HLG.out.later b8).whole wIsnull []
          change Got w8 _ _ _ (.agg #[.string ⟨#[105, 115, 110, 117, 108, 108]⟩, .int .i64 0, .int .i64 0, .string ⟨#[]⟩, .string ⟨#[]⟩, .string ⟨#[]⟩, .slice (some ⟨w6.heap.size, 0, none⟩) 1 1]) at G8
          obtain ⟨W9, hW9, q9, HRQ⟩ := I8.tell HTL.out (G8.wide (fun k hk _ => hk.1))
          obtain ⟨y0, y1, y2, y3, y4, y5, y6⟩ := I8.q.cells
          obtain ⟨g0, g1, g2, g3, g4, g5, g6⟩ := I8.q.free
          clear HTL G8 I8 b8 HI HLG
          have HW9 := Lib.hid hW9
          obtain ⟨l0, l1, l2, l3, l4, l5, l6⟩ := q9.cells
          clear hW9 q9
          go_wp2_with (rw [← HW9.out])
          exact bodyPost_ret (v := .agg #[.string ⟨#[105, 115, 110, 117, 108, 108]⟩, .int .i64 0, .int .i64 0, .string ⟨#[]⟩, .string ⟨#[]⟩, .string ⟨#[]⟩, .slice (some ⟨w6.heap.size, 0, none⟩) 1 1]) (by simp [results, Tryz.results70, go_sem, l0, l1, l2, l3, l4, l5, l6]) rfl HRQ.out
        · have HE2 := Lib.hid (rEatT HT.out ⟨#[110, 111, 116]⟩ w4 b A c (P + 1) t ex R4 hn)
          have h1 := Lib.hid (HS.out.but b4 R4)
          obtain ⟨zz, hzz⟩ : ∃ zz, zz = isD false ⟨#[110, 117, 108, 108]⟩ (ts.drop (P + 1 + 1)) := ⟨_, rfl⟩
          have HND := Lib.hid (fun W R => rNeed HT.out ⟨#[110, 117, 108, 108]⟩ W b A c (P + 1 + 1) false t ex R)
          rw [← hzz] at HND
          have HTL := Lib.hid (HS.out.rtd rfl (rl_is1 (z := zz) (a := a) (HN.out (by trivial)) hi hn (by rw [isD_f] at hzz; exact hzz.symm)))
          clear hzz hn hi HE HS b4 R4 HL5 HLL HRK HN
          go_wp2_with fail
          refine HE2.out.mono ?_
          rintro r w5 ⟨rfl, R5, b5⟩
          have h2 := Lib.hid (h1.out.but b5 R5)
          have HN3 := Lib.hid (HND.out w5 R5)
          clear R5 b5 h1 HND HE2
          go_wp2_with fail
          refine HN3.out.mono ?_
          rintro r w6 ⟨rfl, R6, b6⟩
          have hzr := h2.out.qz.lt
          have hz6 := b6.size
          have Ga := (h2.out.G.but b6 (fun k hk => by omega)).more (d' := !zz) (fun _ => rfl)
          obtain ⟨WD, hWD, mD, L5⟩ := list_got1k Ga ⟨by omega, by omega⟩
          have qz6 := h2.out.qz.same (b6.block z hzr (by omega))
          obtain ⟨v0, v1, v2, v3, v4, v5, v6⟩ := qz6.cells
          have HI := Lib.hid ((h2.out.I.but b6 R6).later mD)
          have HWD := Lib.hid hWD
          have HLG := Lib.hid L5
          clear hWD mD L5 Ga qz6 R6 b6 HN3 h2
          go_wp2_with (rw [← HWD.out])
          refine (rOp1 _ _ _ _ _).mono ?_
          rintro r w8 ⟨rfl, b8⟩
          have I8 := HI.out.later b8
          have G8 := (HLG.out.later b8).whole wNotnull []
          change Got w8 _ _ _ (.agg #[.string ⟨#[110, 111, 116, 110, 117, 108, 108]⟩, .int .i64 0, .int .i64 0, .string ⟨#[]⟩, .string ⟨#[]⟩, .string ⟨#[]⟩, .slice (some ⟨w6.heap.size, 0, none⟩) 1 1]) at G8
          obtain ⟨W9, hW9, q9, HRQ⟩ := I8.tell HTL.out (G8.wide (fun k hk _ => hk.1))
          obtain ⟨y0, y1, y2, y3, y4, y5, y6⟩ := I8.q.cells
          obtain ⟨g0, g1, g2, g3, g4, g5, g6⟩ := I8.q.free
          clear HTL G8 I8 b8 HI HLG
          have HW9 := Lib.hid hW9
          obtain ⟨l0, l1, l2, l3, l4, l5, l6⟩ := q9.cells
          clear hW9 q9
          go_wp2_with (rw [← HW9.out])
          exact bodyPost_ret (v := .agg #[.string ⟨#[110, 111, 116, 110, 117, 108, 108]⟩, .int .i64 0, .int .i64 0, .string ⟨#[]⟩, .string ⟨#[]⟩, .string ⟨#[]⟩, .slice (some ⟨w6.heap.size, 0, none⟩) 1 1]) (by simp [results, Tryz.results70, go_sem, l0, l1, l2, l3, l4, l5, l6]) rfl HRQ.out
end Go.Proofs.YthohfegnphocbaaGreatDoor
namespace Go.Proofs.YthohfegnphocbaaGreatDoor
def Dq {α : Type} (g : α → Nat) (D : Nat) (r : R α) : Prop := ∀ a m, r = okR a m → g a ≤ D + m
section
variable {α β : Type} {g : α → Nat} {h : β → Nat} {D : Nat}
theorem dq_ok {a : α} {m : Nat} (hd : g a ≤ D + m) : Dq g D (okR a m) := by
  intro a' m' e
  simp only [okR, Option.some.injEq, Except.ok.injEq, Prod.mk.injEq] at e
  obtain ⟨rfl, rfl⟩ := e
  exact hd
theorem dq_bad (p : Nat) : Dq g D (badR p) := by
  intro a m e
  simp [okR, badR] at e
theorem dq_none : Dq g D none := by
  intro a m e
  simp [okR] at e
theorem dq_seq {r : R α} {k : α → Nat → R β} (hk : ∀ a m, r = okR a m → Dq h (D + m) (k a m)) : Dq h D (seqR r k) := by
  intro b q e
  rcases r with - | (p | ⟨a, m⟩)
  · simp [seqR, okR] at e
  · simp [seqR, okR] at e
  · have h1 := hk a m rfl
    simp only [seqR] at e
    rcases hka : k a m with - | (p | ⟨b', q'⟩)
    · rw [hka] at e; simp [okR] at e
    · rw [hka] at e; simp [okR] at e
    · rw [hka] at e
      simp only [okR, Option.some.injEq, Except.ok.injEq, Prod.mk.injEq] at e
      obtain ⟨rfl, rfl⟩ := e
      have := h1 b' q' hka
      omega
theorem dq_one {k : Unit → Nat → R β} (hk : Dq h (D + 1) (k () 1)) : Dq h D (seqR (okR () 1) k) := by
  refine dq_seq fun a m e => ?_
  simp only [okR, Option.some.injEq, Except.ok.injEq, Prod.mk.injEq] at e
  obtain ⟨-, rfl⟩ := e
  exact hk
theorem dq_if {c : Prop} [Decidable c] {r r' : R α} (h1 : Dq g D r) (h2 : Dq g D r') : Dq g D (if c then r else r') := by
  by_cases hc : c
  · rw [if_pos hc]; exact h1
  · rw [if_neg hc]; exact h2
theorem need_one {s : List UInt8} {l : List T} {a : Unit} {m : Nat} (e : needR s l = okR a m) : m = 1 := by
  unfold needR at e
  split at e
  · simp only [okR, Option.some.injEq, Except.ok.injEq, Prod.mk.injEq] at e; exact e.2.symm
  · simp [badR, okR] at e
theorem name_one {res : List UInt8 → Bool} {l : List T} {a : List UInt8} {m : Nat} (e : nameR res l = okR a m) : m = 1 := by
  unfold nameR at e
  split at e
  · simp only [okR, Option.some.injEq, Except.ok.injEq, Prod.mk.injEq] at e; exact e.2.symm
  · simp [badR, okR] at e
end
theorem size_op1 (o : List UInt8) (l : List E) : (op1 o l).size = E.sizeL l + 1 := rfl
theorem size_call1 (o : List UInt8) (l : List E) : (call1 o l).size = E.sizeL l + 1 := rfl
theorem size_lit (v : Vl) : (lit v).size = 1 := rfl
theorem size_col (t n : List UInt8) : (col t n).size = 1 := rfl
theorem dqs (res : List UInt8 → Bool) (f : Nat) :
    (∀ n l, Dq E.size 0 (pLine res f n l)) ∧ (∀ n a l D, a.size ≤ D → Dq E.size D (pMore res f n a l)) ∧
    (∀ a l D, a.size ≤ D → Dq E.size D (pRel res f a l)) ∧ (∀ a l r D, a.size ≤ D → pThree res f a l = some r → Dq E.size D r) ∧
    (∀ l, Dq E.sizeL 0 (pList res f l)) ∧ (∀ l, Dq E.size 0 (pPrim res f l)) := by
  induction f with
  | zero =>
    refine ⟨fun n l => ?_, fun n a l D _ => ?_, fun a l D _ => ?_, fun a l r D _ h => ?_, fun l => ?_, fun l => ?_⟩
    · simp only [pLine]; exact dq_none
    · simp only [pMore]; exact dq_none
    · simp only [pRel]; exact dq_none
    · simp only [pThree, Option.some.injEq] at h; subst h; exact dq_none
    · simp only [pList]; exact dq_none
    · simp only [pPrim]; exact dq_none
  | succ f ih =>
    obtain ⟨hl, hm, hr, ht, hs, hp⟩ := ih
    refine ⟨fun n l => ?_, fun n a l D ha => ?_, fun a l D ha => ?_, fun a l r D ha h => ?_, fun l => ?_, fun l => ?_⟩
    · by_cases h3 : n = 3
      · subst h3; rw [pLine]
        refine dq_if (dq_one (dq_seq fun x m e => dq_ok ?_)) (hl _ _)
        have := hl _ _ x m e
        rw [size_op1]; simp only [E.sizeL]; omega
      by_cases h4 : n = 4
      · subst h4; rw [pLine]
        exact dq_seq fun a m e => hr _ _ _ (hl _ _ a m e)
      by_cases h8 : n = 8
      · subst h8; rw [pLine]
        refine dq_if (dq_one (dq_if (dq_ok (by rw [size_lit]; omega)) (dq_seq fun x m e => dq_ok ?_))) (hl _ _)
        have := hl _ _ x m e
        rw [size_op1]; simp only [E.sizeL]; omega
      by_cases h9 : n = 9
      · subst h9; rw [pLine]
        exact hp _
      rw [pLine.eq_6 res n l f h3 h4 h8 h9]
      exact dq_seq fun a m e => hm _ _ _ _ (hl _ _ a m e)
    · rw [pMore]
      cases ho : opAt n l with
      | none => exact dq_ok (by omega)
      | some w =>
        refine dq_one (dq_seq fun b m e => hm _ _ _ _ ?_)
        have := hl _ _ b m e
        rw [size_op1]; simp only [E.sizeL]; omega
    · rw [pRel]
      cases ho : relAt l with
      | some w =>
        refine dq_one (dq_seq fun b m e => dq_ok ?_)
        have := hl _ _ b m e
        rw [size_op1]; simp only [E.sizeL]; omega
      | none =>
        refine dq_if (dq_one (dq_if (dq_one (dq_seq fun u m e => dq_ok ?_)) (dq_seq fun u m e => dq_ok ?_))) (dq_if (dq_one ?_) ?_)
        · have := need_one e
          rw [size_op1]; simp only [E.sizeL]; omega
        · have := need_one e
          rw [size_op1]; simp only [E.sizeL]; omega
        · cases h3 : pThree res f a (l.drop 1) with
          | none => exact dq_bad _
          | some r =>
            refine dq_seq fun x m e => dq_ok ?_
            have := ht _ _ _ _ ha h3 x m e
            rw [size_op1]; simp only [E.sizeL]; omega
        · cases h3 : pThree res f a l with
          | none => exact dq_ok (by omega)
          | some r => exact ht _ _ _ _ ha h3
    · rw [pThree] at h
      by_cases c1 : isS wLike l = true
      · simp only [if_pos c1, Option.some.injEq] at h; subst h
        refine dq_one (dq_seq fun b m e => dq_ok ?_)
        have := hl _ _ b m e
        rw [size_op1]; simp only [E.sizeL]; omega
      by_cases c2 : isS wIn l = true
      · simp only [if_neg c1, if_pos c2, Option.some.injEq] at h; subst h
        refine dq_one (dq_seq fun _ m1 _ => dq_seq fun xs m e => dq_seq fun _ m2 _ => dq_ok ?_)
        have := hs _ xs m e
        rw [size_op1]; simp only [E.sizeL]; omega
      by_cases c3 : isS wBetween l = true
      · simp only [if_neg c1, if_neg c2, if_pos c3, Option.some.injEq] at h; subst h
        refine dq_one (dq_seq fun b m e => dq_seq fun _ m1 _ => dq_seq fun c m2 e2 => dq_ok ?_)
        have := hl _ _ b m e
        have := hl _ _ c m2 e2
        rw [size_op1]; simp only [E.sizeL]; omega
      simp only [if_neg c1, if_neg c2, if_neg c3] at h; cases h
    · rw [pList]
      refine dq_seq fun x m e => dq_if (dq_one (dq_seq fun xs m2 e2 => dq_ok ?_)) (dq_ok ?_)
      · have := hl _ _ x m e
        have := hs _ xs m2 e2
        simp only [E.sizeL]; omega
      · have := hl _ _ x m e
        simp only [E.sizeL]; omega
    · rw [pPrim]
      refine dq_if (dq_ok (by rw [size_lit]; omega)) (dq_if (dq_ok (by rw [size_lit]; omega)) (dq_if (dq_ok (by rw [size_lit]; omega)) (dq_if (dq_ok (by rw [size_lit]; omega)) (dq_if (dq_ok (by rw [size_lit]; omega)) (dq_if (dq_ok (by rw [size_lit]; omega)) (dq_if ?_ ?_))))))
      · refine dq_one (dq_seq fun x m e => dq_seq fun _ m2 _ => dq_ok ?_)
        have := hl _ _ x m e
        omega
      · refine dq_seq fun n m e => dq_if (dq_one (dq_seq fun c m2 _ => dq_ok ?_)) (dq_if (dq_one (dq_if (dq_ok ?_) (dq_if (dq_one (dq_seq fun _ m2 _ => dq_ok ?_)) (dq_seq fun xs m2 e2 => dq_seq fun _ m3 _ => dq_ok ?_)))) (dq_ok ?_))
        · have := name_one e
          rw [size_col]; omega
        · have := name_one e
          rw [size_call1]; simp only [E.sizeL]; omega
        · have := name_one e
          rw [size_call1]; simp only [E.sizeL, star, size_op1]; omega
        · have := name_one e
          have := hs _ xs m2 e2
          rw [size_call1]; omega
        · have := name_one e
          rw [size_col]; omega
theorem ln_size {res : List UInt8 → Bool} {n : Nat} {l : List T} {a : E} {m : Nat} (h1 : 1 ≤ n) (h9 : n ≤ 9) (h : ln res n l = .ok (a, m)) : a.size ≤ l.length := by
  obtain ⟨f, hf⟩ := lm_line res l h1 h9
  have := hf f (Nat.le_refl _)
  rw [h] at this
  have h2 := (dqs res f).1 n l a m this
  have h3 := (fit_line res this).2
  have h4 := ahd_le l
  omega
theorem ln_deep {res : List UInt8 → Bool} {n : Nat} {l : List T} {a : E} {m : Nat} (h1 : 1 ≤ n) (h9 : n ≤ 9) (h : ln res n l = .ok (a, m)) : a.deep ≤ l.length :=
  Nat.le_trans (deep_size a) (ln_size h1 h9 h)
end Go.Proofs.YthohfegnphocbaaGreatDoor
namespace Go.Proofs.YthohfegnphocbaaGreatDoor
open Go.RowKit
def atY (i : Nat) : X E → E × Nat × Int
  | .error q => (e0, i + q, 70)
  | .ok (a, m) => if 40 < a.deep then (e0, i, 3) else (a, i + m, 0)
theorem atX_eq (ts : List T) (i : Nat) : atX ts i = atY i (ln resB 1 (ts.drop i)) := by
  unfold atX atY
  rcases ln resB 1 (ts.drop i) with q | ⟨a, m⟩ <;> rfl
set_option maxRecDepth 100000 in
set_option maxHeartbeats 16000000 in
theorem rAt {ts : List T} (hT : Toks ts) (H1 : ∀ v, LineH ts 64 [] v 1) (w : World) (A : Option Addr) (c i : Nat) (hi : i < ts.length) (hA : TAt w w.heap.size A ts) :
    Calls Tryz.prog 15 #[.slice A ts.length c, .int .i64 i] w fun e w' => ∃ y, e = .returned (.tuple #[y, .int .i64 (atX ts i).2.1, .int .i64 (atX ts i).2.2]) ∧ EAt (fun k => w.heap.size ≤ k) w' (atX ts i).1 y ∧ Below w.heap.size w w' := by
  have hlen := hT.len
  have hdp : ∀ a m, ln resB 1 (ts.drop i) = .ok (a, m) → a.deep ≤ 1000000 := fun a m h => by
    have h1 := ln_deep (by omega) (by omega) h
    rw [List.length_drop] at h1
    omega
  obtain ⟨W1, hW1, q1, z1, r1⟩ := zero7 w
  obtain ⟨W2, hW2⟩ : ∃ W2, W2 = W1.alloc (.cells #[.slice A ts.length c, .int .i64 i, .bool false] 64) := ⟨_, rfl⟩
  have p2 : W2.heap[W1.heap.size]? = some (.cells #[.slice A ts.length c, .int .i64 i, .bool false] 64 (0, 0)) := by rw [hW2]; exact heap_alloc_new W1 _
  have r2 : Below W1.heap.size W1 W2 := by rw [hW2]; exact (Below.refl _ _).alloc (Nat.le_refl _) _
  have hzz : w.heap.size < W1.heap.size := by omega
  have R2 : RR W2 W1.heap.size ts A c i false 64 [] := ⟨p2, fun h0 => by
    obtain ⟨g, off, hA', hg, hc⟩ := ((hA.below r1).below (r2.mono (Nat.le_of_lt hzz))) h0
    exact ⟨g, off, hA', by omega, hc⟩, hi⟩
  have H := Lib.hid (H1 (rank ts i false) i false W2 W1.heap.size A c R2 (Nat.le_refl _))
  rw [xd_f] at H
  obtain ⟨x, hx⟩ : ∃ x, x = ln resB 1 (ts.drop i) := ⟨_, rfl⟩
  rw [← hx] at H hdp
  have HAX : Hid (atX ts i = atY i x) := Lib.hid (by rw [hx]; exact atX_eq ts i)
  have HDP := Lib.hid hdp
  have HQ := Lib.hid (q1.later r2)
  have HB0 := Lib.hid (r1.trans (r2.mono (Nat.le_of_lt hzz)))
  have HW1 := Lib.hid hW1
  have HW2 := Lib.hid hW2
  generalize atX ts i = ax at *
  clear hx hdp hW1 hW2 q1 z1 r1 r2 p2 R2 H1 hT hA
  go_enter Tryz.func15, Tryz.ntmps15
  go_wp2_with (first | (rw [← HW1.out]) | (rw [← HW2.out]))
  refine H.out.mono ?_
  rintro r w3 ⟨⟨y, rfl, G3, R3⟩, b3⟩
  obtain ⟨s0, i1, i2, s3, s4, s5, A9, n9, c9, rfl⟩ := G3.agg
  have h3z := b3.size
  obtain ⟨WB, hWB, qB, zB, mB⟩ := box7 w3 (.string s0) (.int .i64 i1) (.int .i64 i2) (.string s3) (.string s4) (.string s5) (.slice A9 n9 c9)
  have hWz := HQ.out.lt
  have HRB := Lib.hid (R3.later mB)
  have HQB := Lib.hid ((HQ.out.same (b3.block _ HQ.out.lt (by omega))).later mB)
  have HGB := Lib.hid (G3.later mB)
  have HQ8 := Lib.hid qB
  have hWBw : W2.heap.size ≤ WB.heap.size := by have := mB.size; omega
  have HBB : Hid (Below w.heap.size w WB) := Lib.hid (by
    have h1 : Below w.heap.size W2 w3 := ⟨b3.os, b3.tape, b3.output, b3.size, fun k hk => b3.block k (by omega) (by omega)⟩
    exact (HB0.out.trans h1).trans (mB.mono (by omega)))
  have HWB := Lib.hid hWB
  clear hWB qB zB mB R3 G3 b3 H HB0 HQ
  rcases x with q | ⟨a, m⟩
  · have hax : ax = (e0, i + q, 70) := HAX.out
    subst hax
    have R := HRB.out
    change RR WB W1.heap.size ts A c (i + q) true 64 [] at R
    obtain ⟨c0, c1, c2, f1, f2⟩ := R.cells
    clear R HAX HDP
    obtain ⟨W9, hW9, q9, z9, o9, m9⟩ := stored7 HQB.out (.string ⟨#[]⟩) (.int .i64 0) (.int .i64 0) (.string ⟨#[]⟩) (.string ⟨#[]⟩) (.string ⟨#[]⟩) (.slice none 0 0)
    have HW9 := Lib.hid hW9
    have HB9 : Hid (Below w.heap.size w W9) := Lib.hid (HBB.out.trans (m9 _ (Nat.le_refl _)))
    obtain ⟨y0, y1, y2, y3, y4, y5, y6⟩ := HQB.out.cells
    obtain ⟨g0, g1, g2, g3, g4, g5, g6⟩ := HQB.out.free
    obtain ⟨l0, l1, l2, l3, l4, l5, l6⟩ := q9.cells
    clear hW9 q9 z9 o9 m9
    go_wp2_with (rw [← HWB.out])
    go_region
    rw [← HW9.out]
    go_wp2_with fail
    exact bodyPost_ret (v := .tuple #[.agg #[.string ⟨#[]⟩, .int .i64 0, .int .i64 0, .string ⟨#[]⟩, .string ⟨#[]⟩, .string ⟨#[]⟩, .slice none 0 0], .int .i64 ((i : Int) + q), .int .i64 70]) (by simp [results, Tryz.results15, go_sem, l0, l1, l2, l3, l4, l5, l6]) rfl ⟨_, by simp, e0_at _ _, ⟨HB9.out.os, HB9.out.tape, HB9.out.output, HB9.out.size, HB9.out.block⟩⟩
  · have R := HRB.out
    change RR WB W1.heap.size ts A c (i + m) false 64 [] at R
    obtain ⟨c0, c1, c2, f1, f2⟩ := R.cells
    obtain ⟨e', ha, he⟩ := HGB.out
    obtain rfl : e' = a := he rfl
    have HA := Lib.hid ha
    have HD := Lib.hid (rDeep_any e' _ _ WB ha (HDP.out e' m rfl))
    obtain ⟨v0, v1, v2, v3, v4, v5, v6⟩ := HQ8.out.cells
    clear R ha he HGB HDP
    go_wp2_with (rw [← HWB.out])
    refine HD.out.mono ?_
    rintro r w5 ⟨rfl, b5⟩
    have HQ5 := Lib.hid (HQB.out.later b5)
    have HQ85 := Lib.hid (HQ8.out.later b5)
    have HA5 := Lib.hid (HA.out.later b5)
    have HB5 := Lib.hid (HBB.out.trans (b5.mono (by have := HQB.out.lt; omega)))
    obtain ⟨c0, c1, c2, f1, f2⟩ := (HRB.out.later b5).cells
    obtain ⟨v0, v1, v2, v3, v4, v5, v6⟩ := HQ85.out.cells
    change w5.cell? ⟨W1.heap.size, 1, none⟩ = some (.int .i64 ((i + m : Nat) : Int)) at c1
    clear b5 HQB HQ8 HA HD HBB HRB
    by_cases hd : 40 < e'.deep
    · have hdz : (40 : Int) < (e'.deep : Int) := by omega
      have hax : ax = (e0, i, 3) := HAX.out.trans (if_pos hd)
      subst hax
      clear HAX
      obtain ⟨W9, hW9, q9, z9, o9, m9⟩ := stored7 HQ5.out (.string ⟨#[]⟩) (.int .i64 0) (.int .i64 0) (.string ⟨#[]⟩) (.string ⟨#[]⟩) (.string ⟨#[]⟩) (.slice none 0 0)
      have HW9 := Lib.hid hW9
      have HB9 : Hid (Below w.heap.size w W9) := Lib.hid (HB5.out.trans (m9 _ (Nat.le_refl _)))
      obtain ⟨y0, y1, y2, y3, y4, y5, y6⟩ := HQ5.out.cells
      obtain ⟨g0, g1, g2, g3, g4, g5, g6⟩ := HQ5.out.free
      obtain ⟨l0, l1, l2, l3, l4, l5, l6⟩ := q9.cells
      clear hW9 q9 z9 o9 m9
      go_wp2_with (rw [← HW9.out])
      exact bodyPost_ret (v := .tuple #[.agg #[.string ⟨#[]⟩, .int .i64 0, .int .i64 0, .string ⟨#[]⟩, .string ⟨#[]⟩, .string ⟨#[]⟩, .slice none 0 0], .int .i64 i, .int .i64 3]) (by simp [results, Tryz.results15, go_sem, l0, l1, l2, l3, l4, l5, l6]) rfl ⟨_, by simp, e0_at _ _, HB9.out⟩
    · have hdz : ¬ (40 : Int) < (e'.deep : Int) := by omega
      have hax : ax = (e', i + m, 0) := HAX.out.trans (if_neg hd)
      subst hax
      clear HAX
      obtain ⟨W9, hW9, q9, z9, o9, m9⟩ := stored7 HQ5.out (.string s0) (.int .i64 i1) (.int .i64 i2) (.string s3) (.string s4) (.string s5) (.slice A9 n9 c9)
      have HW9 := Lib.hid hW9
      have HB9 : Hid (Below w.heap.size w W9) := Lib.hid (HB5.out.trans (m9 _ (Nat.le_refl _)))
      obtain ⟨y0, y1, y2, y3, y4, y5, y6⟩ := HQ5.out.cells
      obtain ⟨g0, g1, g2, g3, g4, g5, g6⟩ := HQ5.out.free
      obtain ⟨l0, l1, l2, l3, l4, l5, l6⟩ := q9.cells
      have HA9 : Hid (EAt (fun k => w.heap.size ≤ k) W9 e' (.agg #[.string s0, .int .i64 i1, .int .i64 i2, .string s3, .string s4, .string s5, .slice A9 n9 c9])) := Lib.hid (HA5.out.keep (fun k hk _ => ⟨by omega, o9 k (by omega)⟩) (by omega))
      clear hW9 q9 z9 o9 m9
      go_wp2_with fail
      go_region
      rw [← HW9.out]
      go_wp2_with fail
      exact bodyPost_ret (v := .tuple #[.agg #[.string s0, .int .i64 i1, .int .i64 i2, .string s3, .string s4, .string s5, .slice A9 n9 c9], .int .i64 ((i : Int) + m), .int .i64 0]) (by simp [results, Tryz.results15, go_sem, l0, l1, l2, l3, l4, l5, l6]) rfl ⟨_, by simp, (HA9.out.keep (fun k hk _ => ⟨hk, rfl⟩) (Nat.le_refl _)), ⟨HB9.out.os, HB9.out.tape, HB9.out.output, HB9.out.size, HB9.out.block⟩⟩
end Go.Proofs.YthohfegnphocbaaGreatDoor
