import Derived.Test.YtkigddankkoahaaGreatDoorQ45
import Derived.Deep.CutRange
import Derived.Test.YtkigddankkoahaaGreatDoorQ43
import Derived.Test.YtkigddankkoahaaGreatDoorQ35
import Derived.Test.YtkigddankkoahaaGreatDoorQ26
import Derived.Test.YtkigddankkoahaaGreatDoorQ31
set_option maxRecDepth 100000
set_option maxHeartbeats 16000000
set_option linter.unusedSimpArgs false
set_option linter.unusedVariables false
namespace Go.Proofs.YtkigddankkoahaaGreatDoor
open Go.RowKit
theorem sym_walk (w : World) (b c n : Nat) (P : Int → Prop) (cf : Int → Int → Int) (c1 c2 : Value) (hc : CmpC w b P cf c1 c2) (hm : n ≤ 1000000000) (row : List Int) (a0 m0 b0 mid s0 r0 ll rl : Nat) (H : Nat → Nat → Prop) (G1 : Nat → List Int → List Int → Prop) (row2 : Nat → List Int) (PO : Ending → World → Prop) (W : World) (h : SL w b row W) (h1 : 1 < ll) (h2 : 1 < rl) (hmm : m0 = a0 + ll) (hb : b0 = m0 + rl) (hbn : b0 ≤ n) (hmid : mid = (a0 + b0) / 2) (hcase : (mid < m0 ∧ s0 + b0 = mid + m0 ∧ r0 = mid) ∨ (¬ mid < m0 ∧ s0 = a0 ∧ r0 = m0)) (hsk : Sk w b P cf row a0 m0 b0 mid s0 r0 H)
  (hsf : ∀ i, s0 ≤ i → i ≤ r0 → H i i → ∀ e, e + i = mid + m0 → Sf w b c n (.func (.func 48) #[] #[c1, c2]) row (row2 i) (G1 i) PO a0 m0 b0 mid i e) :
  Calls Tryz.prog 87 #[.slice (some ⟨b, 0, none⟩) n c, .int .i64 a0, .int .i64 m0, .int .i64 b0, .func (.func 48) #[] #[c1, c2]] W PO := by
 have S0 := Lib.hid h
 have HK := Lib.hid hsk
 have HF := Lib.hid hsf
 have HC := Lib.hid hc
 have HCA := Lib.hid hcase
 have k1 := hsk.s0a
 have k2 := hsk.sr
 have k3 := hsk.rm
 have k4 := hsk.rd
 have w1 : IntKind.i64.wrap ((m0 : Int) - (a0 : Int)) = (ll : Int) := by rw [IntKind.wrap_i64]; omega
 have w2 : IntKind.i64.wrap ((b0 : Int) - (m0 : Int)) = (rl : Int) := by rw [IntKind.wrap_i64]; omega
 have hq1 : ((ll : Int) == 1) = false := by simp; omega
 have hq2 : ((rl : Int) == 1) = false := by simp; omega
 have hq3 : ¬ ((ll : Int) = 1) := by omega
 have hq4 : ¬ ((rl : Int) = 1) := by omega
 have hdiv : ((a0 : Int) + (b0 : Int)) / 2 = (mid : Int) := by omega
 have hmn : mid < n := by omega
 have hmn' : m0 < n := by omega
 have v1 : IntKind.i64.wrap ((mid : Int) + (m0 : Int)) = (mid : Int) + (m0 : Int) := by rw [IntKind.wrap_i64]; omega
 have v2 : IntKind.i64.wrap ((mid : Int) + (m0 : Int) - (b0 : Int)) = (mid : Int) + (m0 : Int) - (b0 : Int) := by rw [IntKind.wrap_i64]; omega
 have v3 : IntKind.i64.wrap ((mid : Int) + (m0 : Int) - 1) = (mid : Int) + (m0 : Int) - 1 := by rw [IntKind.wrap_i64]; omega
 have HMM := Lib.hid hmm
 have HB := Lib.hid hb
 have HMID := Lib.hid hmid
 have h0 : 0 < m0 := by omega
 have hmb : mid < b0 := by omega
 have hmb' : m0 < b0 := by omega
 clear h hc hsk hsf h1 h2 hmm hb hmid hcase
 go_enter Tryz.func87, Tryz.ntmps87
 go_upto_if 140 with fail
 go_cut [20, 21] from 140 to 146 (fun s20 s21 wx => s20 = .int .i64 (s0 : Int) ∧ s21 = .int .i64 (r0 : Int) ∧ Hid (SL w b row wx))
 case first =>
  by_cases hg : mid < m0
  ·have g1 : (m0 : Int) > (mid : Int) := by omega
   have g2 : (mid : Int) < (m0 : Int) := by omega
   have HQ := Lib.hid (HCA.out.resolve_right (fun g => g.1 hg))
   clear HCA hg
   go_wp2_with fail
   go_meet
   exact ⟨by have := HQ.out; congr 1; omega, by have := HQ.out; congr 1; omega, S0⟩
  ·have g1 : ¬ (m0 : Int) > (mid : Int) := by omega
   have g2 : ¬ (mid : Int) < (m0 : Int) := by omega
   have HQ := Lib.hid (HCA.out.resolve_left (fun g => hg g.1))
   clear HCA hg
   go_wp2_with fail
   go_meet
   exact ⟨by have := HQ.out; congr 1; omega, by have := HQ.out; congr 1; omega, S0⟩
 case rest =>
  clear S0 w1 w2 hq1 hq2 hq3 hq4 hdiv HCA v2
  obtain ⟨rfl, rfl, S0⟩ := hcut
  go_wp2_with fail
  go_loopw [20, 21] (fun iv jv wr => ∃ (i j : Nat), iv = .int .i64 (i : Int) ∧ jv = .int .i64 (j : Int) ∧ s0 ≤ i ∧ i ≤ j ∧ j ≤ r0 ∧ Hid (H i j) ∧ Hid (SL w b row wr)) (fun i j _ => (intOf j).toNat - (intOf i).toNat)
  case atStart => exact ⟨s0, r0, rfl, rfl, Nat.le_refl _, k2, Nat.le_refl _, Lib.hid HK.out.start, S0⟩
  case round =>
   clear S0
   obtain ⟨i, j, rfl, rfl, hmi, hij, hjb, HH, S1⟩ := hrel
   by_cases hlt : i < j
   ·have hltz : (i : Int) < (j : Int) := by omega
    obtain ⟨h, hh⟩ : ∃ h, h = (i + j) / 2 := ⟨_, rfl⟩
    have hdiv : ((i : Int) + (j : Int)) / 2 = (h : Int) := by omega
    have hih : i ≤ h := by omega
    have hhj : h < j := by omega
    obtain ⟨p1, p2, x, y, hx, hy, q1, q2, q3, q4⟩ := HK.out.ask i j h HH.out hmi hih hhj hjb
    obtain ⟨g, hg⟩ : ∃ g, g = mid + m0 - 1 - h := ⟨_, rfl⟩
    rw [← hg] at p2 q2
    have hhn : (h : Int) < (n : Int) := by omega
    have hgn : (g : Int) < (n : Int) := by omega
    have v4 : IntKind.i64.wrap ((mid : Int) + (m0 : Int) - 1 - (h : Int)) = (g : Int) := by rw [IntKind.wrap_i64]; omega
    have H1 := Lib.hid (fun (z : SLT w b row) => q1 z.1 z.2)
    have H2 := Lib.hid (fun (z : SLT w b row) => q2 z.1 z.2)
    have HQQ := Lib.hid (fun X' (hX : SL w b row X') => HC.out row X' hX y x hy hx)
    have HGG := Lib.hid (And.intro q3 q4)
    clear hh hg q1 q2 q3 q4 hx hy p1 p2
    generalize hrr : cf y x = r at *
    have HRR := Lib.hid hrr
    clear hrr
    by_cases hlv : r < 0
    ·go_wp2_with fail
     have HNE : Nonempty (SLT w b row) := ⟨⟨_, S1.out⟩⟩
     have f1 := H1.out
     have f2 := H2.out
     refine wp_region_classR (fun w' => ∃ z : SLT w b row, w' = z.1) (by kernel_rfl) (by kernel_rfl) ⟨⟨_, S1.out.drew⟩, rfl⟩ ?_
     repeat (go_big_quiet_step ((rename_i z; (go_at_call 48; refine (HQQ.out _ z.2).mono ?_; rintro e w2 ⟨rfl, hb⟩; exact ⟨rfl, ⟨_, z.2.call hb⟩, rfl⟩))))
     refine wpQuiet_nil ?_
     rintro Wc ⟨⟨W1, h1⟩, rfl⟩
     have S2 : Hid (SL w b row Wc) := Lib.hid h1
     clear f1 f2 S1 h1 HNE H1 H2 HQQ v4
     have HH2 : Hid (H i h) := Lib.hid (HGG.out.2 (by omega))
     go_wp2_with fail
     go_roundw
     case measure => simp [intOf]; omega
     case rel => exact ⟨i, h, rfl, by go_num, hmi, hih, by omega, HH2, S2⟩
    ·have hle : 0 ≤ r := by omega
     have hlf : decide (r < 0) = false := by simp; omega
     go_wp2_with fail
     have HNE : Nonempty (SLT w b row) := ⟨⟨_, S1.out⟩⟩
     have f1 := H1.out
     have f2 := H2.out
     refine wp_region_classR (fun w' => ∃ z : SLT w b row, w' = z.1) (by kernel_rfl) (by kernel_rfl) ⟨⟨_, S1.out.drew⟩, rfl⟩ ?_
     repeat (go_big_quiet_step ((rename_i z; (go_at_call 48; refine (HQQ.out _ z.2).mono ?_; rintro e w2 ⟨rfl, hb⟩; exact ⟨rfl, ⟨_, z.2.call hb⟩, rfl⟩))))
     refine wpQuiet_nil ?_
     rintro Wc ⟨⟨W1, h1⟩, rfl⟩
     have S2 : Hid (SL w b row Wc) := Lib.hid h1
     clear f1 f2 S1 h1 HNE H1 H2 HQQ v4
     have HH2 : Hid (H (h + 1) j) := Lib.hid (HGG.out.1 (by omega))
     go_wp2_with fail
     go_roundw
     case measure => simp [intOf]; omega
     case rel => exact ⟨h + 1, j, by go_num, rfl, by omega, by omega, hjb, HH2, S2⟩
   ·obtain rfl : i = j := by omega
    have hltz : ¬ ((i : Int) < (i : Int)) := by omega
    obtain ⟨e, he⟩ : ∃ e, e = mid + m0 - i := ⟨_, rfl⟩
    have FF := Lib.hid (HF.out i hmi hjb HH.out e (by omega))
    have v5 : IntKind.i64.wrap ((mid : Int) + (m0 : Int) - (i : Int)) = (e : Int) := by rw [IntKind.wrap_i64]; omega
    obtain ⟨B1, hB1⟩ : ∃ B1, B1 = decide (i < m0 ∧ m0 < e) := ⟨_, rfl⟩
    obtain ⟨B2, hB2⟩ : ∃ B2, B2 = decide (a0 < i ∧ i < mid) := ⟨_, rfl⟩
    obtain ⟨B3, hB3⟩ : ∃ B3, B3 = decide (mid < e ∧ e < b0) := ⟨_, rfl⟩
    have HB1 := Lib.hid hB1
    have HB2 := Lib.hid hB2
    have HB3 := Lib.hid hB3
    clear hB1 hB2 hB3 he HF HK HH
    generalize row2 i = ro2 at *
    generalize G1 i = G at *
    go_upto_region 39 with fail
    go_cut [185] from 178 to 185 (fun v wx => v = .bool B1 ∧ Hid (SL w b row wx))
    case first =>
     by_cases g1 : i < m0
     ·have g1z : (i : Int) < (m0 : Int) := by omega
      by_cases g2 : m0 < e
      ·have g2z : (m0 : Int) < (e : Int) := by omega
       go_wp2_with fail
       go_meet
       exact ⟨by rw [HB1.out]; simp [g1, g2], S1⟩
      ·have g2z : ¬ (m0 : Int) < (e : Int) := by omega
       go_wp2_with fail
       go_meet
       exact ⟨by rw [HB1.out]; simp [g2], S1⟩
     ·have g1z : ¬ (i : Int) < (m0 : Int) := by omega
      go_wp2_with fail
      go_meet
      exact ⟨by rw [HB1.out]; simp [g1], S1⟩
    case rest =>
     clear S1
     obtain ⟨rfl, S1⟩ := hcut
     go_upto_if 185 with fail
     go_cut [] from 185 to 191 (fun wx => Hid (SL w b ro2 wx))
     case first =>
      cases B1
      ·have hs := FF.out.stay (of_decide_eq_false HB1.out.symm)
       rw [hs] at S1
       clear hs
       go_wp2_with fail
       go_meet
       exact S1
      ·have hd := of_decide_eq_true HB1.out.symm
       have HX := Lib.hid (FF.out.turn hd.1 hd.2 _ S1.out)
       clear hd
       go_wp2_with fail
       refine HX.out.mono ?_
       rintro q w3 ⟨rfl, h3⟩
       have S3 := Lib.hid h3
       clear h3 HX
       go_wp2_with fail
       go_meet
       exact S3
     case rest =>
      clear S1
      have S1 := hcut
      clear hcut
      go_upto_region 41 with fail
      go_cut [199] from 192 to 199 (fun v wx => v = .bool B2 ∧ Hid (SL w b ro2 wx))
      case first =>
       by_cases g1 : a0 < i
       ·have g1z : (a0 : Int) < (i : Int) := by omega
        by_cases g2 : i < mid
        ·have g2z : (i : Int) < (mid : Int) := by omega
         go_wp2_with fail
         go_meet
         exact ⟨by rw [HB2.out]; simp [g1, g2], S1⟩
        ·have g2z : ¬ (i : Int) < (mid : Int) := by omega
         go_wp2_with fail
         go_meet
         exact ⟨by rw [HB2.out]; simp [g2], S1⟩
       ·have g1z : ¬ (a0 : Int) < (i : Int) := by omega
        go_wp2_with fail
        go_meet
        exact ⟨by rw [HB2.out]; simp [g1], S1⟩
      case rest =>
       clear S1
       obtain ⟨rfl, S1⟩ := hcut
       go_upto_if 199 with fail
       go_cut [] from 199 to 205 (fun wx => Hid (∃ Z1 r, G Z1 r ∧ SL w b r wx))
       case first =>
        cases B2
        ·obtain ⟨Z1, hz⟩ := FF.out.one' (of_decide_eq_false HB2.out.symm)
         have S2 : Hid (∃ Z1 r, G Z1 r ∧ SL w b r _) := Lib.hid ⟨Z1, _, hz, S1.out⟩
         clear hz
         go_wp2_with fail
         go_meet
         exact S2
        ·have hd := of_decide_eq_true HB2.out.symm
         have HX := Lib.hid (FF.out.one hd.1 hd.2 _ S1.out)
         clear hd
         go_wp2_with fail
         refine HX.out.mono ?_
         rintro q w3 ⟨rfl, h3⟩
         have S3 := Lib.hid h3
         clear h3 HX
         go_wp2_with fail
         go_meet
         exact S3
       case rest =>
        clear S1
        obtain ⟨Z1, r, hG, S1⟩ := hcut.out
        have S1 := Lib.hid S1
        have HG := Lib.hid hG
        clear hcut hG
        go_upto_region 43 with fail
        go_cut [213] from 206 to 213 (fun v wx => v = .bool B3 ∧ Hid (SL w b r wx))
        case first =>
         by_cases g1 : mid < e
         ·have g1z : (mid : Int) < (e : Int) := by omega
          by_cases g2 : e < b0
          ·have g2z : (e : Int) < (b0 : Int) := by omega
           go_wp2_with fail
           go_meet
           exact ⟨by rw [HB3.out]; simp [g1, g2], S1⟩
          ·have g2z : ¬ (e : Int) < (b0 : Int) := by omega
           go_wp2_with fail
           go_meet
           exact ⟨by rw [HB3.out]; simp [g2], S1⟩
         ·have g1z : ¬ (mid : Int) < (e : Int) := by omega
          go_wp2_with fail
          go_meet
          exact ⟨by rw [HB3.out]; simp [g1], S1⟩
        case rest =>
         clear S1
         obtain ⟨rfl, S1⟩ := hcut
         cases B3
         ·have HX := Lib.hid (FF.out.two' (of_decide_eq_false HB3.out.symm) Z1 r HG.out _ S1.out)
          go_wp2_with fail
          go_end0
          exact HX.out
         ·have hd := of_decide_eq_true HB3.out.symm
          have HX := Lib.hid (FF.out.two hd.1 hd.2 Z1 r HG.out _ S1.out)
          clear hd
          go_wp2_with fail
          refine HX.out.mono ?_
          rintro q w3 ⟨rfl, h3⟩
          have S3 := Lib.hid h3
          clear h3 HX
          go_wp2_with fail
          go_end0
          exact S3.out
theorem sym_any (w : World) (b c n : Nat) (P : Int → Prop) (cf : Int → Int → Int) (c1 c2 : Value) (hc : CmpC w b P cf c1 c2) (hr : Rule P cf) (hm : n ≤ 1000000000) (k : Nat) : SymOk w b c n P cf c1 c2 k := by
 induction k using Nat.strongRecOn with
 | _ k ih =>
 intro X L R Y W hk h1 h2 hS hn hL hR sL sR hlt a0 m0 b0 ha hmm hb
 by_cases c1' : L.length = 1
 ·obtain ⟨x, rfl⟩ := List.length_eq_one_iff.1 c1'
  exact sym_left w b c n P cf c1 c2 hc hr hm X R Y x W hS hn (hL x (by simp)) hR sR (fun y hy => hlt x (by simp) y hy) a0 m0 b0 ha (by simpa using hmm) hb
 by_cases c2' : R.length = 1
 ·obtain ⟨y, rfl⟩ := List.length_eq_one_iff.1 c2'
  exact sym_right w b c n P cf c1 c2 hc hr hm X L Y y W hS hn (hR y (by simp)) hL sL (fun x hx => hlt x hx y (by simp)) (by omega) a0 m0 b0 ha hmm (by simpa using hb)
 obtain ⟨mid, hmid⟩ : ∃ mid, mid = (a0 + b0) / 2 := ⟨_, rfl⟩
 obtain ⟨s0, r0, hcase, H, hsk, hpt⟩ := sk_make (w := w) (b := b) (X := X) (Y := Y) hr hL hR sL sR hlt ha hmm hb hmid (by omega) (by omega)
 have hsf : ∀ i, ∃ row2 G1, s0 ≤ i → i ≤ r0 → H i i → ∀ e, e + i = mid + m0 → Sf w b c n (.func (.func 48) #[] #[c1, c2]) (X ++ L ++ R ++ Y) row2 G1 (MPost w b cf X L R Y) a0 m0 b0 mid i e := by
  intro i
  by_cases hq : s0 ≤ i ∧ i ≤ r0 ∧ H i i ∧ i ≤ mid + m0
  ·obtain ⟨row2, G1, hf⟩ := sf_make (e := mid + m0 - i) (Y := Y) ih hm hk hn hL hR sL sR hlt ha hmm hb hmid (by omega) (by omega) (by have := hsk.s0a; omega) (hpt i hq.1 hq.2.1 hq.2.2.1) (by omega)
   refine ⟨row2, G1, fun _ _ _ e he => ?_⟩
   obtain rfl : e = mid + m0 - i := by omega
   exact hf
  ·exact ⟨[], fun _ _ => True, fun g1 g2 g3 e he => absurd ⟨g1, g2, g3, by omega⟩ hq⟩
 have hbn : b0 ≤ n := by rw [← hn, hb, hmm, ha]; simp only [List.length_append]; omega
 exact sym_walk w b c n P cf c1 c2 hc hm (X ++ L ++ R ++ Y) a0 m0 b0 mid s0 r0 L.length R.length H (fun i => (hsf i).choose_spec.choose) (fun i => (hsf i).choose) (MPost w b cf X L R Y) W hS (by omega) (by omega) hmm hb hbn hmid hcase hsk (fun i h1 h2 h3 e he => (hsf i).choose_spec.choose_spec h1 h2 h3 e he)
inductive Blk (cf : Int → Int → Int) (m : Nat) : List Int → List Int → Prop
 | last {S Z : List Int} : S.length ≤ m → Z.Perm S → Z.Pairwise (TO cf) → Blk cf m S Z
 | cons {S1 Z1 S Z : List Int} : S1.length = m → Z1.Perm S1 → Z1.Pairwise (TO cf) → Blk cf m S Z → Blk cf m (S1 ++ S) (Z1 ++ Z)
variable {cf : Int → Int → Int} {m : Nat}
theorem Blk.perm {S Z : List Int} (h : Blk cf m S Z) : Z.Perm S := by
 induction h with
 | last _ h _ => exact h
 | cons _ h _ _ ih => exact h.append ih
theorem Blk.split {S Z : List Int} (h : Blk cf m S Z) (hl : m < S.length) : ∃ S1 S2 Z1 Z2, S = S1 ++ S2 ∧ Z = Z1 ++ Z2 ∧ S1.length = m ∧ Z1.Perm S1 ∧ Z1.Pairwise (TO cf) ∧ Blk cf m S2 Z2 := by
 cases h with
 | last h1 _ _ => omega
 | cons h1 h2 h3 h4 => exact ⟨_, _, _, _, rfl, rfl, h1, h2, h3, h4⟩
theorem Blk.short {S Z : List Int} (h : Blk cf m S Z) (hl : S.length ≤ m) (hm : 0 < m) : Z.Pairwise (TO cf) := by
 cases h with
 | last _ _ h => exact h
 | @cons S1 Z1 S Z h1 h2 h3 h4 =>
  rw [List.length_append] at hl
  have : S = [] := List.length_eq_zero_iff.1 (by omega)
  subst this
  have := h4.perm
  rw [List.perm_nil] at this
  subst this
  simpa using h3
theorem Blk.two {S Z : List Int} (h : Blk cf m S Z) (hm : 0 < m) (hl : 2 * m ≤ S.length) : ∃ S1 S2 S3 Z1 Z2 Z3, S = S1 ++ S2 ++ S3 ∧ Z = Z1 ++ Z2 ++ Z3 ∧ S1.length = m ∧ S2.length = m ∧ Z1.Perm S1 ∧ Z2.Perm S2 ∧ Z1.Pairwise (TO cf) ∧ Z2.Pairwise (TO cf) ∧ Blk cf m S3 Z3 := by
 obtain ⟨S1, S2, Z1, Z2, rfl, rfl, h1, h2, h3, h4⟩ := h.split (by omega)
 rw [List.length_append] at hl
 by_cases hc : S2.length = m
 ·exact ⟨S1, S2, [], Z1, Z2, [], by simp, by simp, h1, hc, h2, h4.perm, h3, h4.short (by omega) hm, .last (by simp) (List.Perm.refl _) List.Pairwise.nil⟩
 ·obtain ⟨S3, S4, Z3, Z4, rfl, rfl, k1, k2, k3, k4⟩ := h4.split (by omega)
  exact ⟨S1, S3, S4, Z1, Z3, Z4, by simp, by simp, h1, k1, h2, k2, h3, k3, k4⟩
def Ahead (cf : Int → Int → Int) (m : Nat) (S D : List Int) : Prop := ∀ S' Z', Blk cf m S' Z' → Blk cf m (S ++ S') (D ++ Z')
theorem Ahead.nil : Ahead cf m [] [] := fun _ _ h => h
theorem Ahead.next {S D S1 Z1 : List Int} (h : Ahead cf m S D) (h1 : S1.length = m) (h2 : Z1.Perm S1) (h3 : Z1.Pairwise (TO cf)) : Ahead cf m (S ++ S1) (D ++ Z1) := fun S' Z' hb => by
 rw [List.append_assoc, List.append_assoc]
 exact h _ _ (.cons h1 h2 h3 hb)
theorem Ahead.done {S D S1 Z1 : List Int} (h : Ahead cf m S D) (h1 : S1.length ≤ m) (h2 : Z1.Perm S1) (h3 : Z1.Pairwise (TO cf)) : Blk cf m (S ++ S1) (D ++ Z1) := h _ _ (.last h1 h2 h3)
theorem rise_apart {A B C : List Int} (h : (A ++ B ++ C).Pairwise (· < ·)) : (∀ x ∈ A, ∀ y ∈ B, x < y) ∧ (A ++ B).Pairwise (· < ·) := by
 have h1 := (List.pairwise_append.1 h).1
 exact ⟨(List.pairwise_append.1 h1).2.2, h1⟩
end Go.Proofs.YtkigddankkoahaaGreatDoor
namespace Go.Proofs.YtkigddankkoahaaGreatDoor
open Go.RowKit
def Bi (w : World) (b : Nat) (cf : Int → Int → Int) (S : List Int) (M a : Nat) (W : World) : Prop := ∃ D S1 S2, S = S1 ++ S2 ∧ S1.length = a ∧ D.Perm S1 ∧ Ahead cf M S1 D ∧ SL w b (D ++ S2) W
def Bs (w : World) (b : Nat) (cf : Int → Int → Int) (S : List Int) (M m a : Nat) (W : World) : Prop := ∃ D E S1 S2, S = S1 ++ S2 ∧ S1.length = a ∧ D.Perm S1 ∧ Ahead cf M S1 D ∧ Blk cf m S2 E ∧ SL w b (D ++ E) W
def Bd (w : World) (b : Nat) (cf : Int → Int → Int) (S : List Int) (m : Nat) (W : World) : Prop := ∃ Z, Blk cf m S Z ∧ SL w b Z W
section
variable {w W : World} {b c n : Nat} {P : Int → Prop} {cf : Int → Int → Int} {c1 c2 : Value} {S : List Int}
theorem bi_zero (M : Nat) (hs : SL w b S W) : Bi w b cf S M 0 W := ⟨[], [], S, by simp, rfl, List.Perm.refl _, Ahead.nil, by simpa using hs⟩
theorem bs_zero (M m : Nat) (h : Bd w b cf S m W) : Bs w b cf S M m 0 W := by
 obtain ⟨Z, hb, hs⟩ := h
 exact ⟨[], Z, [], S, by simp, rfl, List.Perm.refl _, Ahead.nil, hb, by simpa using hs⟩
theorem bi_ins (hc : CmpC w b P cf c1 c2) (hr : Rule P cf) (hm : n ≤ 1000000000) (hn : S.length = n) (hP : ∀ s ∈ S, P s) (hS : S.Pairwise (· < ·)) (M a : Nat) (W : World) (h : Bi w b cf S M a W) (z : Nat) (hz : z = a + M) (hzn : z ≤ n) :
  Calls Tryz.prog 86 #[.slice (some ⟨b, 0, none⟩) n c, .int .i64 a, .int .i64 z, .func (.func 48) #[] #[c1, c2]] W fun e w' => e = .returned (.tuple #[]) ∧ Bi w b cf S M z w' := by
 obtain ⟨D, S1, S2, rfl, h1, h2, h3, h4⟩ := h
 have hn' := hn
 rw [List.length_append] at hn'
 have hd := h2.length_eq
 have e1 := List.take_append_drop M S2
 have hS2 := (List.pairwise_append.1 hS).2.1
 refine (insertion_any w b c n P cf c1 c2 hc hr D (S2.take M) (S2.drop M) W (by rw [List.append_assoc, e1]; exact h4) (by rw [List.append_assoc, e1, List.length_append]; omega) hm (fun s hs => hP s (List.mem_append_right _ (List.mem_of_mem_take hs))) (hS2.sublist (List.take_sublist _ _)) a z (by omega) (by rw [List.length_take]; omega)).mono ?_
 rintro e w' ⟨he, Z, k1, k2, k3⟩
 exact ⟨he, D ++ Z, S1 ++ S2.take M, S2.drop M, by rw [List.append_assoc, e1], by rw [List.length_append, List.length_take]; omega, h2.append k2, h3.next (by rw [List.length_take]; omega) k2 k3, k1⟩
theorem bi_end (hc : CmpC w b P cf c1 c2) (hr : Rule P cf) (hm : n ≤ 1000000000) (hn : S.length = n) (hP : ∀ s ∈ S, P s) (hS : S.Pairwise (· < ·)) (M a : Nat) (W : World) (h : Bi w b cf S M a W) (hz : n ≤ a + M) :
  Calls Tryz.prog 86 #[.slice (some ⟨b, 0, none⟩) n c, .int .i64 a, .int .i64 n, .func (.func 48) #[] #[c1, c2]] W fun e w' => e = .returned (.tuple #[]) ∧ Bd w b cf S M w' := by
 obtain ⟨D, S1, S2, rfl, h1, h2, h3, h4⟩ := h
 have hn' := hn
 rw [List.length_append] at hn'
 have hd := h2.length_eq
 have hS2 := (List.pairwise_append.1 hS).2.1
 refine (insertion_any w b c n P cf c1 c2 hc hr D S2 [] W (by simpa using h4) (by simp; omega) hm (fun s hs => hP s (List.mem_append_right _ hs)) hS2 a n (by omega) (by omega)).mono ?_
 rintro e w' ⟨he, Z, k1, k2, k3⟩
 exact ⟨he, D ++ Z, h3.done (by omega) k2 k3, by simpa using k1⟩
theorem perm_apart {A B Z1 Z2 : List Int} (h : ∀ x ∈ A, ∀ y ∈ B, x < y) (h1 : Z1.Perm A) (h2 : Z2.Perm B) : ∀ x ∈ Z1, ∀ y ∈ Z2, x < y := fun x hx y hy => h x (h1.mem_iff.1 hx) y (h2.mem_iff.1 hy)
theorem bs_two (hc : CmpC w b P cf c1 c2) (hr : Rule P cf) (hm : n ≤ 1000000000) (hn : S.length = n) (hP : ∀ s ∈ S, P s) (hS : S.Pairwise (· < ·)) (m a : Nat) (hm0 : 0 < m) (W : World) (h : Bs w b cf S (2 * m) m a W) (q z : Nat) (hq : q = a + m) (hz : z = a + 2 * m) (hzn : z ≤ n) :
  Calls Tryz.prog 87 #[.slice (some ⟨b, 0, none⟩) n c, .int .i64 a, .int .i64 q, .int .i64 z, .func (.func 48) #[] #[c1, c2]] W fun e w' => e = .returned (.tuple #[]) ∧ Bs w b cf S (2 * m) m z w' := by
 obtain ⟨D, E, S1, S2, rfl, h1, h2, h3, h4, h5⟩ := h
 have hn' := hn
 rw [List.length_append] at hn'
 have hd := h2.length_eq
 obtain ⟨T1, T2, T3, Z1, Z2, Z3, rfl, rfl, g1, g2, g3, g4, g5, g6, g7⟩ := h4.two hm0 (by omega)
 have l1 := g3.length_eq
 have l2 := g4.length_eq
 have l3 := g7.perm.length_eq
 have hS2 := (List.pairwise_append.1 hS).2.1
 simp only [List.length_append] at hn'
 refine (sym_any w b c n P cf c1 c2 hc hr hm (Z1.length + Z2.length) D Z1 Z2 Z3 W (Nat.le_refl _) (by omega) (by omega) (by simpa using h5) (by simp only [List.length_append]; omega) (fun s hs => hP s (by have := g3.mem_iff.1 hs; simp [this])) (fun s hs => hP s (by have := g4.mem_iff.1 hs; simp [this])) g5 g6 (perm_apart (rise_apart hS2).1 g3 g4) a q z (by omega) (by omega) (by omega)).mono ?_
 rintro e w' ⟨he, Z, k1, k2, k3⟩
 have k4 := k2.trans (g3.append g4)
 exact ⟨he, D ++ Z, Z3, S1 ++ (T1 ++ T2), T3, by simp, by simp only [List.length_append]; omega, h2.append k4, h3.next (by simp only [List.length_append]; omega) k4 k3, g7, k1⟩
theorem bs_one (hc : CmpC w b P cf c1 c2) (hr : Rule P cf) (hm : n ≤ 1000000000) (hn : S.length = n) (hP : ∀ s ∈ S, P s) (hS : S.Pairwise (· < ·)) (m a : Nat) (hm0 : 0 < m) (W : World) (h : Bs w b cf S (2 * m) m a W) (q : Nat) (hq : q = a + m) (hz : n ≤ a + 2 * m) (hqn : q < n) :
  Calls Tryz.prog 87 #[.slice (some ⟨b, 0, none⟩) n c, .int .i64 a, .int .i64 q, .int .i64 n, .func (.func 48) #[] #[c1, c2]] W fun e w' => e = .returned (.tuple #[]) ∧ Bd w b cf S (2 * m) w' := by
 obtain ⟨D, E, S1, S2, rfl, h1, h2, h3, h4, h5⟩ := h
 have hn' := hn
 rw [List.length_append] at hn'
 have hd := h2.length_eq
 obtain ⟨T1, T2, Z1, Z2, rfl, rfl, g1, g3, g5, g7⟩ := h4.split (by omega)
 have l1 := g3.length_eq
 have g4 := g7.perm
 have l2 := g4.length_eq
 have hS2 := (List.pairwise_append.1 hS).2.1
 simp only [List.length_append] at hn'
 have g6 := g7.short (by omega) hm0
 refine (sym_any w b c n P cf c1 c2 hc hr hm (Z1.length + Z2.length) D Z1 Z2 [] W (Nat.le_refl _) (by omega) (by omega) (by simpa using h5) (by simp; omega) (fun s hs => hP s (by have := g3.mem_iff.1 hs; simp [this])) (fun s hs => hP s (by have := g4.mem_iff.1 hs; simp [this])) g5 g6 (perm_apart (List.pairwise_append.1 hS2).2.2 g3 g4) a q n (by omega) (by omega) (by omega)).mono ?_
 rintro e w' ⟨he, Z, k1, k2, k3⟩
 have k4 := k2.trans (g3.append g4)
 exact ⟨he, D ++ Z, h3.done (by simp only [List.length_append]; omega) k4 k3, by simpa using k1⟩
theorem bs_none (hn : S.length = n) (m a : Nat) (hm0 : 0 < m) (W : World) (h : Bs w b cf S (2 * m) m a W) (hq : n ≤ a + m) : Bd w b cf S (2 * m) W := by
 obtain ⟨D, E, S1, S2, rfl, h1, h2, h3, h4, h5⟩ := h
 rw [List.length_append] at hn
 exact ⟨D ++ E, h3.done (by omega) h4.perm (h4.short (by omega) hm0), h5⟩
end
theorem stable_walk (w : World) (b c n : Nat) (P : Int → Prop) (cf : Int → Int → Int) (c1 c2 : Value) (hc : CmpC w b P cf c1 c2) (hr : Rule P cf) (hm : n ≤ 1000000000) (S : List Int) (W : World) (hs : SL w b S W) (hn : S.length = n) (hP : ∀ s ∈ S, P s) (hS : S.Pairwise (· < ·)) :
  Calls Tryz.prog 67 #[.slice (some ⟨b, 0, none⟩) n c, .int .i64 n, .func (.func 48) #[] #[c1, c2]] W fun e w' => e = .returned (.tuple #[]) ∧ ∃ Z, SL w b Z w' ∧ Z.Perm S ∧ Z.Pairwise (TO cf) := by
 have CI := Lib.hid (fun a W (h : Hid (Bi w b cf S 20 a W)) z hz hzn => bi_ins (c := c) hc hr hm hn hP hS 20 a W h.out z hz hzn)
 have CE := Lib.hid (fun a W (h : Hid (Bi w b cf S 20 a W)) hz => bi_end (c := c) hc hr hm hn hP hS 20 a W h.out hz)
 have CT := Lib.hid (fun m a hm0 W (h : Hid (Bs w b cf S (2 * m) m a W)) q z hq hz hzn => bs_two (c := c) hc hr hm hn hP hS m a hm0 W h.out q z hq hz hzn)
 have CO := Lib.hid (fun m a hm0 W (h : Hid (Bs w b cf S (2 * m) m a W)) q hq hz hzn => bs_one (c := c) hc hr hm hn hP hS m a hm0 W h.out q hq hz hzn)
 have CN := Lib.hid (fun m a hm0 W (h : Hid (Bs w b cf S (2 * m) m a W)) hq => bs_none hn m a hm0 W h.out hq)
 have S0 : Hid (Bi w b cf S 20 0 W) := Lib.hid (bi_zero 20 hs)
 have HFIN : Hid (∀ m W', n ≤ m → 0 < m → Bd w b cf S m W' → ∃ Z, SL w b Z W' ∧ Z.Perm S ∧ Z.Pairwise (TO cf)) := Lib.hid fun m W' h1 h2 h3 => by
  obtain ⟨Z, k1, k2⟩ := h3
  exact ⟨Z, k2, k1.perm, k1.short (by omega) h2⟩
 clear hc hr hn hP hS hs
 go_enter Tryz.func67, Tryz.ntmps67
 go_wp2_with fail
 go_loopw [7, 8] (fun av zv wr => ∃ (a z : Nat), av = .int .i64 (a : Int) ∧ zv = .int .i64 (z : Int) ∧ Hid (z = a + 20) ∧ a ≤ n ∧ z ≤ n + 20 ∧ Hid (Bi w b cf S 20 a wr)) (fun _ z _ => n + 21 - (intOf z).toNat)
 case atStart => exact ⟨0, 20, rfl, rfl, Lib.hid rfl, by omega, by omega, S0⟩
 case round =>
  clear S0
  obtain ⟨a, z, rfl, rfl, HZ, han, hzn, S1⟩ := hrel
  by_cases hlt : z ≤ n
  ·have hltz : (z : Int) ≤ (n : Int) := by omega
   have HX := Lib.hid (CI.out a wr S1 z HZ.out hlt)
   clear S1
   go_wp2_with fail
   refine HX.out.mono ?_
   rintro e w1 ⟨rfl, S2⟩
   have S2 := Lib.hid S2
   clear HX
   go_wp2_with fail
   go_roundw
   case measure => simp [intOf]; omega
   case rel => exact ⟨z, z + 20, rfl, by go_num, Lib.hid rfl, hlt, by omega, S2⟩
  ·have hltz : ¬ (z : Int) ≤ (n : Int) := by omega
   have hltz2 : (n : Int) < (z : Int) := by omega
   have HX := Lib.hid (CE.out a wr S1 (by have := HZ.out; omega))
   clear S1
   go_wp2_with fail
   refine HX.out.mono ?_
   rintro e w1 ⟨rfl, S2⟩
   have S2 := Lib.hid S2
   clear HX HZ han hzn hlt hltz hltz2 CI CE
   go_wp2_with fail
   go_loopw [6] (fun mv wr => ∃ (m : Nat), mv = .int .i64 (m : Int) ∧ 20 ≤ m ∧ m ≤ 2 * n + 20 ∧ Hid (Bd w b cf S m wr)) (fun m _ => n - (intOf m).toNat)
   case atStart => exact ⟨20, rfl, by omega, by omega, S2⟩
   case round =>
    clear S2
    obtain ⟨m, rfl, hm1, hm2, S1⟩ := hrel
    by_cases hlt : m < n
    ·have hltz : (m : Int) < (n : Int) := by omega
     have S2 : Hid (Bs w b cf S (2 * m) m 0 wr) := Lib.hid (bs_zero _ _ S1.out)
     clear S1
     go_wp2_with fail
     go_loopw [7, 8] (fun av zv wr => ∃ (a z : Nat), av = .int .i64 (a : Int) ∧ zv = .int .i64 (z : Int) ∧ Hid (z = a + 2 * m) ∧ a ≤ n ∧ z ≤ 3 * n ∧ Hid (Bs w b cf S (2 * m) m a wr)) (fun _ z _ => n + 1 - (intOf z).toNat)
     case atStart => exact ⟨0, 2 * m, rfl, by go_num, Lib.hid (by omega), by omega, by omega, S2⟩
     case round =>
      clear S2
      obtain ⟨a, z, rfl, rfl, HZ, han, hzn, S1⟩ := hrel
      by_cases hlt2 : z ≤ n
      ·have hltz2 : (z : Int) ≤ (n : Int) := by omega
       have HX := CT.out m a (by omega) wr S1 (a + m) z rfl HZ.out hlt2
       rw [show ((a + m : Nat) : Int) = (a : Int) + (m : Int) by omega] at HX
       have HX := Lib.hid HX
       have ham : a + m ≤ 1000000000 := by have := HZ.out; omega
       clear S1
       go_wp2_with fail
       refine HX.out.mono ?_
       rintro e w1 ⟨rfl, S2⟩
       have S2 := Lib.hid S2
       clear HX
       go_wp2_with fail
       go_roundw
       case measure => simp [intOf]; omega
       case rel => exact ⟨z, z + 2 * m, rfl, by go_num, Lib.hid rfl, hlt2, by omega, S2⟩
      ·have hltz2 : ¬ (z : Int) ≤ (n : Int) := by omega
       have hltz3 : (n : Int) < (z : Int) := by omega
       by_cases hlt3 : a + m < n
       ·have hlt4 : (a : Int) + (m : Int) < (n : Int) := by omega
        have HX := CO.out m a (by omega) wr S1 (a + m) rfl (by have := HZ.out; omega) hlt3
        rw [show ((a + m : Nat) : Int) = (a : Int) + (m : Int) by omega] at HX
        have HX := Lib.hid HX
        clear S1 HZ
        go_wp2_with fail
        refine HX.out.mono ?_
        rintro e w1 ⟨rfl, S2⟩
        have S2 := Lib.hid S2
        clear HX
        go_wp2_with fail
        go_roundw
        case measure => simp [intOf]; omega
        case rel => exact ⟨2 * m, by go_num, by omega, by omega, S2⟩
       ·have hlt4 : ¬ (a : Int) + (m : Int) < (n : Int) := by omega
        have S2 := Lib.hid (CN.out m a (by omega) wr S1 (by omega))
        clear S1 HZ
        go_wp2_with fail
        go_roundw
        case measure => simp [intOf]; omega
        case rel => exact ⟨2 * m, by go_num, by omega, by omega, S2⟩
    ·have hltz : ¬ (m : Int) < (n : Int) := by omega
     have HX := Lib.hid (HFIN.out m wr (by omega) (by omega) S1.out)
     clear S1
     go_wp2_with fail
     go_end0
     exact ⟨rfl, HX.out⟩
theorem stable_any (w : World) (b c n : Nat) (P : Int → Prop) (cf : Int → Int → Int) (c1 c2 : Value) (hc : CmpC w b P cf c1 c2) (hr : Rule P cf) (hm : n ≤ 1000000000) (S : List Int) (W : World) (hs : SL w b S W) (hn : S.length = n) (hP : ∀ s ∈ S, P s) (hS : S.Pairwise (· < ·)) :
  Calls Tryz.prog 47 #[.slice (some ⟨b, 0, none⟩) n c, .func (.func 48) #[] #[c1, c2]] W fun e w' => e = .returned (.tuple #[]) ∧ ∃ Z, SL w b Z w' ∧ Z.Perm S ∧ Z.Pairwise (TO cf) := by
 have HX := Lib.hid (stable_walk w b c n P cf c1 c2 hc hr hm S W hs hn hP hS)
 clear hc hr hs hn hP hS
 go_enter Tryz.func47, Tryz.ntmps47
 go_wp2_with fail
 refine HX.out.mono ?_
 rintro e w1 ⟨rfl, S2⟩
 have S2 := Lib.hid S2
 clear HX
 go_wp2_with fail
 go_end0
 exact ⟨rfl, S2.out⟩
theorem info3 : (Tryz.prog.info? 3).map (fun i => (i.zero, i.size, i.bytes)) = some (some (.int .i64 0), 1, 8) := by kernel_rfl
theorem made_ints (n : Nat) (h : n ≤ 1000000) (w : World) : (Instr.makeSlice 94 (.int .i64 (n : Int)) (.int .i64 (n : Int))).run Tryz.prog w = .ok (.slice (some ⟨w.heap.size, 0, none⟩) n n) (w.alloc (.cells ((List.replicate n (0 : Int)).map (Value.int .i64)).toArray 3)) := by
 obtain ⟨i0, hi, hz0, hz1, hz2⟩ : ∃ i, Tryz.prog.info? 3 = some i ∧ i.zero = some (.int .i64 0) ∧ i.size = 1 ∧ i.bytes = 8 := by
  cases hq : Tryz.prog.info? 3 with
  | none => have h := info3; rw [hq] at h; cases h
  | some i =>
   have h := info3
   rw [hq] at h
   simp only [Option.map_some, Option.some.injEq, Prod.mk.injEq] at h
   exact ⟨i, rfl, h.1, h.2.1, h.2.2⟩
 have := run_make (P := Tryz.prog) w 94 3 i0 _ Tryz.underlying94 hi hz0 .i64 .i64 n n (by omega) (by omega) (by rw [hz2]; omega) (by omega)
 rw [this, Int.toNat_natCast, hz1]
 have e : madeCells (Value.int .i64 0).cells (n * 1) = ((List.replicate n (0 : Int)).map (Value.int .i64)).toArray := by
  apply Array.ext
  ·simp [madeCells, Value.cells]
  ·intro i h1 h2
   have hz : (Value.int .i64 0).cells = #[Value.int .i64 0] := rfl
   simp [madeCells, hz, Nat.mod_one]
 rw [e]
theorem sl_made (w : World) (n : Nat) : SL (w.alloc (.cells ((List.replicate n (0 : Int)).map (Value.int .i64)).toArray 3)) w.heap.size (List.replicate n 0) (w.alloc (.cells ((List.replicate n (0 : Int)).map (Value.int .i64)).toArray 3)) :=
 ⟨rfl, rfl, rfl, Nat.le_refl _, fun _ _ _ => rfl, heap_alloc_new w _⟩
theorem SL.bel {w W : World} {b : Nat} {l : List Int} (h : SL w b l W) (hb : b ≤ w.heap.size) : Below b w W := ⟨h.os, h.tape, h.output, h.size, fun k hk => h.other k (by omega) (by omega)⟩
theorem es_app {S : Nat → Prop} {w0 w wr Wb : World} {xs : List E} {u : Value} {e : E} {A : Option Addr} {c : Nat} (h0 : Below w0.heap.size w0 w) (h1 : 0 < w.heap.size) (hb : Below w.heap.size w wr) (h5 : Below wr.heap.size wr Wb) (HO : OwnL wr w.heap.size (fun _ => True) xs false u) (hs : Sub S w0 e A c) (hm : xs.length ≤ 1000000) :
  ∃ v' w', (Builtin.append_ #[27, 27] 27 #[u, .slice (some ⟨Wb.heap.size, 0, none⟩) 1 1]).run Tryz.prog (Wb.alloc (.cells #[.string (str e.op), .int .i64 e.v.k, .int .i64 e.v.i, .string (str e.v.s), .string (str e.tb), .string (str e.nm), .slice A e.l.length c] 29)) = .ok v' w' ∧ Hid (OwnL w' w.heap.size (fun _ => True) (xs ++ [e]) false v') ∧ Hid (Below w.heap.size w w') := by
 have hown : ∀ k, u.ownBlock = some k → w.heap.size ≤ k ∧ k < wr.heap.size := fun k hk => by
  obtain ⟨rs, h1, -⟩ := HO
  exact h1.lt k hk
 have z0 := h0.size
 have z1 := hb.size
 have z2 := h5.size
 have HO5 := HO.keep (S' := fun _ => True) (fun k _ hlt => ⟨trivial, h5.block k hlt⟩) (.inr ⟨0, h1, .of h5 (Nat.le_refl _)⟩) h1
 have ht := bthen h0 (bthen hb h5)
 have hs5 : Sub (fun k => True ∧ u.ownBlock ≠ some k) Wb e A c := hs.keep (fun k _ hlt => ⟨⟨trivial, fun he => by have := hown k he; omega⟩, ht.block k hlt⟩) ht.size
 have hbt : But w.heap.size w Wb := .of (bthen hb h5) (Nat.le_refl _)
 obtain ⟨v6, w6, r6, ho6, hb6, hk6, hz6⟩ := ownL_app HO5 (e, A, c) (e := e) hs5 (fun _ => rfl) hm (by omega) w.heap.size hbt (Nat.le_refl _) Wb.heap.size rfl
 exact ⟨v6, w6, r6, Lib.hid ho6, Lib.hid ⟨hb6.os, hb6.tape, hb6.output, hb6.size, fun k hk => hb6.block k hk (by omega)⟩⟩
theorem boxR (w : World) (v : Value) : ∃ Wa Wb : World, Wa = w.alloc (.cells #[.slice none 0 0] 22) ∧ Wb = Wa.setCell ⟨w.heap.size, 0, none⟩ v ∧ Wa.cell? ⟨w.heap.size, 0, none⟩ = some (.slice none 0 0) ∧ Wa.frozen? ⟨w.heap.size, 0, none⟩ = false ∧ Wb.cell? ⟨w.heap.size, 0, none⟩ = some v ∧ Wb.heap.size = w.heap.size + 1 ∧ Below w.heap.size w Wb := by
 have hh := heap_alloc_new w (.cells #[.slice none 0 0] 22)
 refine ⟨_, _, rfl, rfl, by rw [Lib.cell_of_heap hh]; rfl, Lib.frozen_of_heap hh 0, ?_, by simp, ((Below.refl _ w).alloc (Nat.le_refl _) _).setCell (p := ⟨w.heap.size, 0, none⟩) (Nat.le_refl _) _⟩
 have := heap_set_same v (o := 0) hh
 rw [Lib.cell_of_heap this]
 rfl
def SortT (ks : List Ky) (l : List (List BV.V)) (er : Int) (w : World) (q : Ending) (w' : World) : Prop := ∃ out, Hid (RowsE w er out q w') ∧ Hid (er = 0 → ∃ Z, Z.Perm (plN l.length) ∧ Z.Pairwise (TO (byC ks (l.map (projV (ks.map Ky.e))))) ∧ out = pick l Z)
theorem projV_len (es : List E) (r : List BV.V) : (projV es r).length = es.length := by simp [projV]
theorem sl_next {n k : Nat} (h : k < n) : ((plN n).take k ++ List.replicate (n - k) (0 : Int)).set k (k : Int) = (plN n).take (k + 1) ++ List.replicate (n - (k + 1)) 0 := by
 have hl : k < (plN n).length := by rw [plN_len]; exact h
 have h1 : ((plN n).take k).length = k := by rw [List.length_take, plN_len]; omega
 rw [List.set_append_right _ _ (by omega), h1, Nat.sub_self, List.take_succ_eq_append_getElem hl, plN_at h, show n - k = (n - (k + 1)) + 1 by omega, List.replicate_succ, List.set_cons_zero, List.append_assoc]
 rfl
theorem sub_list {S : Nat → Prop} {w : World} {l : List E} {o t n : List UInt8} {v : Vl} {A : Option Addr} {c : Nat} (h : Sub S w (op1 [] l) A c) : Sub S w (.mk o v t n l) A c := by
 unfold op1 at h
 simp only [Sub] at h ⊢
 exact h
end Go.Proofs.YtkigddankkoahaaGreatDoor
