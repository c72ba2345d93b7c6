import Derived.Test.YtkigddankkoahaaGreatDoorQ43
set_option maxRecDepth 100000
set_option maxHeartbeats 8000000
set_option linter.unusedSimpArgs false
set_option linter.unusedVariables false
namespace Go.Proofs.YtkigddankkoahaaGreatDoor
open Go.RowKit
def CmpC (w : World) (b : Nat) (P : Int → Prop) (cf : Int → Int → Int) (c1 c2 : Value) : Prop :=
 ∀ (l : List Int) (W : World), SL w b l W → ∀ x y, P x → P y → Calls Tryz.prog 48 #[.int .i64 x, .int .i64 y, c1, c2] W fun e w' => e = .returned (.int .i64 (cf x y)) ∧ Below W.heap.size W w'
def SLT (w : World) (b : Nat) (l : List Int) : Type := { W : World // SL w b l W }
theorem insertion_any (w : World) (b c n : Nat) (P : Int → Prop) (cf : Int → Int → Int) (c1 c2 : Value) (hc : CmpC w b P cf c1 c2) (hr : Rule P cf) (X S Y : List Int) (W : World) (h : SL w b (X ++ S ++ Y) W) (hn : (X ++ S ++ Y).length = n) (hm : n ≤ 1000000000) (hP : ∀ s ∈ S, P s) (hS : S.Pairwise (· < ·)) (lo hi : Nat) (hlo : lo = X.length) (hhi : hi = X.length + S.length) :
  Calls Tryz.prog 86 #[.slice (some ⟨b, 0, none⟩) n c, .int .i64 lo, .int .i64 hi, .func (.func 48) #[] #[c1, c2]] W fun e w' => e = .returned (.tuple #[]) ∧ ∃ Z, SL w b (X ++ Z ++ Y) w' ∧ Z.Perm S ∧ Z.Pairwise (TO cf) := by
 have HC := Lib.hid hc
 have HR := Lib.hid hr
 have HP := Lib.hid hP
 have HSS := Lib.hid hS
 have HN := Lib.hid hn
 have HLO := Lib.hid hlo
 have HHI := Lib.hid hhi
 have hhn : hi ≤ n := by rw [← hn, hhi]; simp only [List.length_append]; omega
 have hlh : lo ≤ hi := by omega
 have S0 : Hid (∃ Z, SL w b (X ++ Z ++ (S.drop 1 ++ Y)) W ∧ Z.Perm (S.take 1) ∧ Z.Pairwise (TO cf)) := Lib.hid ⟨S.take 1, by rw [List.append_assoc, ← List.append_assoc (S.take 1), List.take_append_drop, ← List.append_assoc]; exact h, List.Perm.refl _, by cases S <;> simp⟩
 clear hc hr hP hS hn hlo hhi h
 have w1 : IntKind.i64.wrap ((lo : Int) + 1) = (lo : Int) + 1 := by rw [IntKind.wrap_i64]; omega
 go_enter Tryz.func86, Tryz.ntmps86
 go_wp2_with fail
 go_loopg [8] (hi - lo) (fun g1 vi wr => ∃ (t i : Nat), vi = .int .i64 (i : Int) ∧ Hid (i = lo + t) ∧ lo < i ∧ i ≤ hi + 1 ∧ hi + 1 - i ≤ g1 + 1 ∧ Hid (∃ Z, SL w b (X ++ Z ++ (S.drop t ++ Y)) wr ∧ Z.Perm (S.take t) ∧ Z.Pairwise (TO cf)))
 case atStart => exact ⟨1, lo + 1, by go_num, Lib.hid rfl, by omega, by omega, by omega, S0⟩
 case round =>
  clear S0 w1
  obtain ⟨t, i, rfl, HIT, hai, hib, hg1, HZ⟩ := hrel
  obtain ⟨Z, S1, hZp, hZs⟩ := HZ.out
  by_cases hlt : i < hi
  ·have hltz : (i : Int) < (hi : Int) := by omega
   have htS : t < S.length := by have := HLO.out; have := HHI.out; have := HIT.out; omega
   obtain ⟨s, hs⟩ : ∃ s, s = S[t] := ⟨_, rfl⟩
   have HPS : Hid (P s) := Lib.hid (by rw [hs]; exact HP.out _ (List.getElem_mem htS))
   have HZL : Hid (∀ z ∈ Z, z < s) := Lib.hid (by rw [hs]; exact mem_perm_take hZp HSS.out htS)
   have HZP : Hid (∀ z ∈ Z, P z) := Lib.hid fun z hz => HP.out z (List.mem_of_mem_take (hZp.mem_iff.1 hz))
   have HNX : Hid (∀ Z1 Z2, Z1 ++ Z2 = Z → (Z1 ++ s :: Z2).Perm (S.take (t + 1))) := Lib.hid fun Z1 Z2 e => by rw [hs]; exact perm_next hZp htS e
   have HZS := Lib.hid hZs
   have hZl : Z.length = t := by rw [hZp.length_eq, List.length_take]; omega
   have S2 : Hid (SL w b (X ++ Z ++ s :: ([] ++ (S.drop (t + 1) ++ Y))) wr) := Lib.hid (by rw [hs, List.nil_append, ← List.cons_append, ← List.drop_eq_getElem_cons htS]; exact S1)
   have HZLN := Lib.hid hZl
   clear S1 hZp hZs HZ hs hZl
   go_wp2
   go_loopg [9] i (fun g2 vj wr2 => ∃ (Z1 Z2 : List Int) (j : Nat), vj = .int .i64 (j : Int) ∧ lo ≤ j ∧ j ≤ i ∧ j ≤ g2 ∧ Hid (j = lo + Z1.length) ∧ Hid (Z1 ++ Z2 = Z ∧ ∀ z ∈ Z2, TO cf s z) ∧ Hid (SL w b (X ++ Z1 ++ s :: (Z2 ++ (S.drop (t + 1) ++ Y))) wr2))
   case atStart => exact ⟨Z, [], i, rfl, by omega, Nat.le_refl _, Nat.le_refl _, Lib.hid (by rw [HZLN.out]; exact HIT.out), Lib.hid ⟨by simp, by simp⟩, S2⟩
   case round =>
    clear S2
    obtain ⟨Z1, Z2, j, rfl, haj, hji, hg2, HJ, HE, S1⟩ := hrel
    have OUT : Hid (∀ wX, SL w b (X ++ Z1 ++ s :: (Z2 ++ (S.drop (t + 1) ++ Y))) wX → (∀ z, Z1.getLast? = some z → TO cf z s) → Hid (∃ Z, SL w b (X ++ Z ++ (S.drop (t + 1) ++ Y)) wX ∧ Z.Perm (S.take (t + 1)) ∧ Z.Pairwise (TO cf))) := Lib.hid fun wX hX hl => Lib.hid ⟨Z1 ++ s :: Z2, by simpa using hX, HNX.out Z1 Z2 HE.out.1, ins_sorted HR.out (by rw [HE.out.1]; exact HZP.out) HPS.out (by rw [HE.out.1]; exact HZS.out) HE.out.2 hl⟩
    by_cases hja : lo < j
    ·obtain ⟨jp, rfl⟩ : ∃ jp, j = jp + 1 := ⟨j - 1, by omega⟩
     obtain ⟨Z0, z, hz0⟩ : ∃ Z0 z, Z1 = Z0 ++ [z] := by
      have hl : Z1 ≠ [] := by intro e; have := HJ.out; rw [e] at this; simp at this; omega
      exact ⟨Z1.dropLast, Z1.getLast hl, (List.dropLast_concat_getLast hl).symm⟩
     subst hz0
     have hzm : z ∈ Z := by rw [← HE.out.1]; simp
     have hzs := HZL.out z hzm
     have hjl : jp = (X ++ Z0).length := by have := HJ.out; have := HLO.out; simp only [List.length_append, List.length_cons, List.length_nil] at *; omega
     have eL : X ++ (Z0 ++ [z]) ++ s :: (Z2 ++ (S.drop (t + 1) ++ Y)) = (X ++ Z0) ++ z :: ([] ++ s :: (Z2 ++ (S.drop (t + 1) ++ Y))) := by simp
     rw [eL] at S1
     have hjaz : (lo : Int) < (jp : Int) + 1 := by omega
     have jz : (jp : Int) + 1 < (n : Int) := by omega
     have jz1 : (jp : Int) < (n : Int) := by omega
     have p0 : (0 : Int) ≤ (jp : Int) + 1 := by omega
     have e0 : ((jp : Int) + 1).toNat = jp + 1 := by omega
     have hwp : IntKind.i64.wrap (jp : Int) = (jp : Int) := by rw [IntKind.wrap_i64]; omega
     obtain ⟨LL, hLL⟩ : ∃ LL, LL = (X ++ Z0) ++ z :: ([] ++ s :: (Z2 ++ (S.drop (t + 1) ++ Y))) := ⟨_, rfl⟩
     have HSW := Lib.hid (fun (W' : World) (h' : SL w b LL W') => h'.swap (i := jp) (j := jp + 1) hLL hjl (by rw [hjl]; simp))
     rw [← hLL] at S1
     have H1 := Lib.hid (fun (x : SLT w b LL) => (HSW.out x.1 x.2).cj)
     have H2 := Lib.hid (fun (x : SLT w b LL) => (HSW.out x.1 x.2).ci)
     have HQ := Lib.hid (fun X' (hX : SL w b LL X') => HC.out LL X' hX s z HPS.out (HZP.out z hzm))
     have HT : Hid (TO cf s z ↔ cf s z < 0) := Lib.hid (to_less hzs)
     have HTT : Hid (¬ cf s z < 0 → TO cf z s) := Lib.hid fun hh => HR.out.total HPS.out (HZP.out z hzm) (by omega) (fun h2 => hh (HT.out.1 h2))
     have HJL := Lib.hid hjl
     have HLL := Lib.hid hLL
     clear hjl hLL
     generalize hrr : cf s z = r at *
     by_cases hlv : r < 0
     ·go_wp2_with fail
      have HNE : Nonempty (SLT w b LL) := ⟨⟨_, S1.out⟩⟩
      have f1 := H1.out
      have f2 := H2.out
      refine wp_region_classR (fun w' => ∃ x : SLT w b LL, w' = x.1) (by kernel_rfl) (by kernel_rfl) ⟨⟨_, S1.out.drew⟩, rfl⟩ ?_
      repeat (go_big_quiet_step ((rename_i x; (go_at_call 48; refine (HQ.out _ x.2).mono ?_; rintro e w2 ⟨rfl, hb⟩; exact ⟨rfl, ⟨_, x.2.call hb⟩, rfl⟩))))
      refine wpQuiet_nil ?_
      rintro Wc ⟨⟨W1, h1⟩, rfl⟩
      have sw := HSW.out Wc h1
      have d1 := sw.cj
      have d2 := sw.ci
      have q1 := sw.fj
      have q2 := sw.fi
      obtain ⟨u, d3⟩ := sw.cji
      have S2 := Lib.hid sw.got'.drew
      obtain ⟨j1, hj1⟩ : ∃ j1, j1 = jp + 1 := ⟨_, rfl⟩
      have J1 := Lib.hid hj1
      rw [← hj1] at d1 q1 e0 d3
      clear f1 f2 S1 h1 sw hj1 HNE HSW H1 H2 HQ eL hrr
      go_wp2_with fail
      go_big_region
      clear d1 d2 d3 q1 q2
      rw [J1.out]
      generalize (World.setCell (Wc.setCell ⟨b, jp + 1, none⟩ (.int .i64 z)) ⟨b, jp, none⟩ (.int .i64 s)).drew = w2 at *
      go_wp2
      go_roundg jp
      case measure => omega
      case rel =>
       refine ⟨Z0, z :: Z2, jp, by first | rfl | go_num | (congr 1; omega), by omega, by omega, Nat.le_refl _, Lib.hid (by have := HLO.out; have := HJL.out; rw [List.length_append] at this; omega), Lib.hid ⟨by rw [← HE.out.1]; simp, fun y hy => ?_⟩, Lib.hid (by simpa using S2.out)⟩
       rcases List.mem_cons.1 hy with rfl | hy
       ·exact HT.out.2 hlv
       ·exact HE.out.2 y hy
     ·go_wp2_with fail
      have HNE : Nonempty (SLT w b LL) := ⟨⟨_, S1.out⟩⟩
      have f1 := H1.out
      have f2 := H2.out
      refine wp_region_classR (fun w' => ∃ x : SLT w b LL, w' = x.1) (by kernel_rfl) (by kernel_rfl) ⟨⟨_, S1.out.drew⟩, rfl⟩ ?_
      repeat (go_big_quiet_step ((rename_i x; (go_at_call 48; refine (HQ.out _ x.2).mono ?_; rintro e w2 ⟨rfl, hb⟩; exact ⟨rfl, ⟨_, x.2.call hb⟩, rfl⟩))))
      refine wpQuiet_nil ?_
      rintro Wc ⟨⟨W1, h1⟩, rfl⟩
      have S2 := OUT.out Wc (by rw [eL, ← HLL.out]; exact h1) (fun y hy => by
       rw [List.getLast?_append] at hy
       simp at hy
       subst hy
       exact HTT.out hlv)
      clear f1 f2 S1 h1 HNE HSW H1 H2 HQ
      go_wp2
      go_roundg (hi - (i + 1))
      case measure => omega
      case rel => exact ⟨t + 1, i + 1, by go_num, Lib.hid (by have := HIT.out; omega), by omega, by omega, by omega, S2⟩
    ·have hjaz' : ¬ (lo : Int) < (j : Int) := by omega
     have hz1 : Z1 = [] := by
      have := HJ.out
      exact List.length_eq_zero_iff.1 (by omega)
     have S2 := OUT.out _ S1.out.drew (fun y hy => by rw [hz1] at hy; simp at hy)
     clear S1 OUT
     go_wp2_with fail
     go_big_region
     all_goals go_wp2
     go_roundg (hi - (i + 1))
     case measure => omega
     case rel => exact ⟨t + 1, i + 1, by go_num, Lib.hid (by have := HIT.out; omega), by omega, by omega, by omega, S2⟩
  ·have hltz : ¬ (i : Int) < (hi : Int) := by omega
   have htS : S.length ≤ t := by have := HLO.out; have := HHI.out; have := HIT.out; omega
   rw [List.drop_eq_nil_of_le htS, List.nil_append] at S1
   rw [List.take_of_length_le htS] at hZp
   go_wp2
   go_end0
   exact ⟨rfl, Z, by simpa using S1, hZp, hZs⟩
section
variable {P : Int → Prop} {cf : Int → Int → Int}
theorem sorted_le (h : Rule P cf) {L : List Int} (hp : ∀ z ∈ L, P z) (hs : L.Pairwise (TO cf)) {i j : Nat} (hij : i ≤ j) (hj : j < L.length) {x : Int} (hx : P x) (hxt : TO cf L[j] x) : TO cf (L[i]'(by omega)) x := by
 rcases Nat.lt_or_eq_of_le hij with g | g
 ·exact h.trans _ _ _ (hp _ (List.getElem_mem _)) (hp _ (List.getElem_mem _)) hx (List.pairwise_iff_getElem.1 hs i j (by omega) hj g) hxt
 ·subst g; exact hxt
theorem sorted_ge (h : Rule P cf) {L : List Int} (hp : ∀ z ∈ L, P z) (hs : L.Pairwise (TO cf)) {i j : Nat} (hij : i ≤ j) (hj : j < L.length) {x : Int} (hx : P x) (hxt : TO cf x (L[i]'(by omega))) : TO cf x L[j] := by
 rcases Nat.lt_or_eq_of_le hij with g | g
 ·exact h.trans _ _ _ hx (hp _ (List.getElem_mem _)) (hp _ (List.getElem_mem _)) hxt (List.pairwise_iff_getElem.1 hs i j (by omega) hj g)
 ·subst g; exact hxt
structure Half (G B : Nat → Prop) (lo hi i j : Nat) : Prop where
 l1 : lo ≤ i
 l2 : i ≤ j
 l3 : j ≤ hi
 good : ∀ c, lo ≤ c → c < i → G c
 bad : ∀ c, j ≤ c → c < hi → B c
theorem Half.start {G B : Nat → Prop} {lo hi : Nat} (h : lo ≤ hi) : Half G B lo hi lo hi := ⟨Nat.le_refl _, h, Nat.le_refl _, fun c h1 h2 => by omega, fun c h1 h2 => by omega⟩
theorem Half.up {G B : Nat → Prop} {lo hi i j h : Nat} (H : Half G B lo hi i j) (h1 : i ≤ h) (h2 : h < j) (hg : ∀ c, lo ≤ c → c ≤ h → G c) : Half G B lo hi (h + 1) j := ⟨by have := H.l1; omega, by omega, H.l3, fun c a b => hg c a (by omega), H.bad⟩
theorem Half.down {G B : Nat → Prop} {lo hi i j h : Nat} (H : Half G B lo hi i j) (h1 : i ≤ h) (h2 : h < j) (hb : ∀ c, h ≤ c → c < hi → B c) : Half G B lo hi i h := ⟨H.l1, h1, by have := H.l3; omega, H.good, hb⟩
def mvL (X R Y : List Int) (x : Int) (u : Nat) : List Int := X ++ R.take u ++ x :: (R.drop u ++ Y)
theorem mv_step (X R Y : List Int) (x : Int) (u : Nat) (h : u < R.length) : ∃ A y B, mvL X R Y x u = A ++ x :: ([] ++ y :: B) ∧ mvL X R Y x (u + 1) = A ++ y :: ([] ++ x :: B) ∧ A.length = X.length + u := by
 refine ⟨X ++ R.take u, R[u], R.drop (u + 1) ++ Y, ?_, ?_, ?_⟩
 ·unfold mvL
  rw [List.drop_eq_getElem_cons h]
  rfl
 ·unfold mvL
  rw [List.take_succ_eq_append_getElem h]
  simp only [List.append_assoc, List.cons_append, List.nil_append]
 ·rw [List.length_append, List.length_take]; omega
theorem mv_sorted (h : Rule P cf) {R : List Int} {x : Int} {t : Nat} (hp : ∀ z ∈ R, P z) (hx : P x) (hs : R.Pairwise (TO cf)) (h1 : ∀ c (hc : c < R.length), c < t → TO cf R[c] x) (h2 : ∀ c (hc : c < R.length), t ≤ c → TO cf x R[c]) : (R.take t ++ x :: R.drop t).Pairwise (TO cf) := by
 refine ins_sorted h (by rw [List.take_append_drop]; exact hp) hx (by rw [List.take_append_drop]; exact hs) (fun z hz => ?_) (fun z hz => ?_)
 ·obtain ⟨i, hi, rfl⟩ := List.getElem_of_mem hz
  rw [List.length_drop] at hi
  rw [List.getElem_drop]
  exact h2 _ (by omega) (by omega)
 ·have hm := List.mem_of_getLast? hz
  obtain ⟨i, hi, rfl⟩ := List.getElem_of_mem hm
  rw [List.length_take] at hi
  rw [List.getElem_take]
  exact h1 _ (by omega) (by omega)
structure Part (cf : Int → Int → Int) (L R : List Int) (d s : Nat) : Prop where
 s1 : s ≤ L.length
 s2 : s ≤ d
 s3 : d - s ≤ R.length
 low : ∀ x ∈ L.take s, ∀ y ∈ R.drop (d - s), TO cf x y
 up : ∀ y ∈ R.take (d - s), ∀ x ∈ L.drop s, TO cf y x
def GoodC (cf : Int → Int → Int) (L R : List Int) (d c : Nat) : Prop := ∀ (h1 : c < L.length) (h2 : d - 1 - c < R.length), TO cf L[c] R[d - 1 - c]
def BadC (cf : Int → Int → Int) (L R : List Int) (d c : Nat) : Prop := ∀ (h1 : c < L.length) (h2 : d - 1 - c < R.length), TO cf R[d - 1 - c] L[c]
theorem good_down (h : Rule P cf) {L R : List Int} {d lo c : Nat} (hL : ∀ z ∈ L, P z) (hR : ∀ z ∈ R, P z) (sL : L.Pairwise (TO cf)) (sR : R.Pairwise (TO cf)) (hc : c < L.length) (hd : c < d) (hlo : d ≤ lo + R.length) (hg : ∀ (h2 : d - 1 - c < R.length), TO cf L[c] R[d - 1 - c]) : ∀ e, lo ≤ e → e ≤ c → GoodC cf L R d e := fun e h1 h2 h3 h4 => by
 have h5 : d - 1 - c < R.length := by omega
 have a := hg h5
 have b := sorted_le h hL sL h2 hc (hR _ (List.getElem_mem h5)) a
 exact sorted_ge h hR sR (show d - 1 - c ≤ d - 1 - e by omega) h4 (hL _ (List.getElem_mem h3)) b
theorem bad_up (h : Rule P cf) {L R : List Int} {d c hi : Nat} (hL : ∀ z ∈ L, P z) (hR : ∀ z ∈ R, P z) (sL : L.Pairwise (TO cf)) (sR : R.Pairwise (TO cf)) (hd : hi ≤ d) (hq : d - 1 - c < R.length) (hg : ∀ (h2 : c < L.length), TO cf R[d - 1 - c] L[c]) : ∀ e, c ≤ e → e < hi → BadC cf L R d e := fun e h1 h2 h3 h4 => by
 have h5 : c < L.length := by omega
 have a := hg h5
 have b := sorted_ge h hL sL h1 h3 (hR _ (List.getElem_mem hq)) a
 exact sorted_le h hR sR (show d - 1 - e ≤ d - 1 - c by omega) hq (hL _ (List.getElem_mem h3)) b
theorem part_of (h : Rule P cf) {L R : List Int} {d lo hi s : Nat} (hL : ∀ z ∈ L, P z) (hR : ∀ z ∈ R, P z) (sL : L.Pairwise (TO cf)) (sR : R.Pairwise (TO cf)) (H : Half (GoodC cf L R d) (BadC cf L R d) lo hi s s) (hhi : (hi = L.length ∧ hi ≤ d) ∨ (hi = d ∧ hi ≤ L.length)) (hlo : (lo = 0 ∧ d ≤ R.length) ∨ (lo + R.length = d)) : Part cf L R d s := by
 have a1 := H.l1
 have a3 := H.l3
 refine ⟨by omega, by omega, by omega, fun x hx y hy => ?_, fun y hy x hx => ?_⟩
 ·obtain ⟨i, hi', rfl⟩ := List.getElem_of_mem hx
  obtain ⟨j, hj, rfl⟩ := List.getElem_of_mem hy
  rw [List.length_take] at hi'
  rw [List.length_drop] at hj
  rw [List.getElem_take, List.getElem_drop]
  have hs0 : lo < s := by omega
  have g := H.good (s - 1) (by omega) (by omega) (by omega) (by omega)
  have g2 := sorted_le h hL sL (show i ≤ s - 1 by omega) (by omega) (hR _ (List.getElem_mem _)) g
  exact sorted_ge h hR sR (show d - 1 - (s - 1) ≤ d - s + j by omega) (by omega) (hL _ (List.getElem_mem _)) g2
 ·obtain ⟨i, hi', rfl⟩ := List.getElem_of_mem hy
  obtain ⟨j, hj, rfl⟩ := List.getElem_of_mem hx
  rw [List.length_take] at hi'
  rw [List.length_drop] at hj
  rw [List.getElem_take, List.getElem_drop]
  have hs0 : s < hi := by omega
  have g := H.bad s (Nat.le_refl _) hs0 (by omega) (by omega)
  have g2 := sorted_ge h hL sL (show s ≤ s + j by omega) (by omega) (hR _ (List.getElem_mem _)) g
  exact sorted_le h hR sR (show i ≤ d - 1 - s by omega) (by omega) (hL _ (List.getElem_mem _)) g2
theorem part_sorted {L R Z1 Z2 : List Int} {d s : Nat} (H : Part cf L R d s) (sL : L.Pairwise (TO cf)) (sR : R.Pairwise (TO cf)) (p1 : Z1.Perm (L.take s ++ R.take (d - s))) (p2 : Z2.Perm (L.drop s ++ R.drop (d - s))) (s1 : Z1.Pairwise (TO cf)) (s2 : Z2.Pairwise (TO cf)) : (Z1 ++ Z2).Pairwise (TO cf) ∧ (Z1 ++ Z2).Perm (L ++ R) := by
 constructor
 ·refine List.pairwise_append.2 ⟨s1, s2, fun x hx y hy => ?_⟩
  have e1 := List.take_append_drop s L
  have e2 := List.take_append_drop (d - s) R
  rw [← e1] at sL
  rw [← e2] at sR
  have q1 := (List.pairwise_append.1 sL).2.2
  have q2 := (List.pairwise_append.1 sR).2.2
  rcases List.mem_append.1 (p1.mem_iff.1 hx) with g | g <;> rcases List.mem_append.1 (p2.mem_iff.1 hy) with k | k
  ·exact q1 x g y k
  ·exact H.low x g y k
  ·exact H.up x g y k
  ·exact q2 x g y k
 ·refine (p1.append p2).trans ?_
  have e : (L ++ R) = (L.take s ++ L.drop s) ++ (R.take (d - s) ++ R.drop (d - s)) := by rw [List.take_append_drop, List.take_append_drop]
  rw [e, List.append_assoc, List.append_assoc]
  refine List.Perm.append_left _ ?_
  rw [← List.append_assoc, ← List.append_assoc]
  exact List.Perm.append_right _ List.perm_append_comm
end
def MPost (w : World) (b : Nat) (cf : Int → Int → Int) (X L R Y : List Int) (e : Ending) (w' : World) : Prop := e = .returned (.tuple #[]) ∧ ∃ Z, SL w b (X ++ Z ++ Y) w' ∧ Z.Perm (L ++ R) ∧ Z.Pairwise (TO cf)
theorem SL.at_ {w W : World} {b i : Nat} {l A B : List Int} {x : Int} (h : SL w b l W) (hl : l = A ++ x :: B) (hi : i = A.length) : W.cell? ⟨b, i, none⟩ = some (.int .i64 x) := by
 subst hl hi
 rw [h.cell _ (by simp)]
 simp
theorem sym_left (w : World) (b c n : Nat) (P : Int → Prop) (cf : Int → Int → Int) (c1 c2 : Value) (hc : CmpC w b P cf c1 c2) (hr : Rule P cf) (hm : n ≤ 1000000000) (X R Y : List Int) (x : Int) (W : World) (h : SL w b (X ++ [x] ++ R ++ Y) W) (hn : (X ++ [x] ++ R ++ Y).length = n) (hx : P x) (hR : ∀ z ∈ R, P z) (sR : R.Pairwise (TO cf)) (hlt : ∀ y ∈ R, x < y) (a0 m0 b0 : Nat) (ha : a0 = X.length) (hmm : m0 = a0 + 1) (hb : b0 = m0 + R.length) :
  Calls Tryz.prog 87 #[.slice (some ⟨b, 0, none⟩) n c, .int .i64 a0, .int .i64 m0, .int .i64 b0, .func (.func 48) #[] #[c1, c2]] W (MPost w b cf X [x] R Y) := by
 have hbn : b0 ≤ n := by rw [← hn, hb, hmm, ha]; simp only [List.length_append, List.length_cons, List.length_nil]; omega
 obtain ⟨LL, hLL⟩ : ∃ LL, LL = X ++ [x] ++ R ++ Y := ⟨_, rfl⟩
 rw [← hLL] at h
 obtain ⟨q, hq⟩ : ∃ q, q = R.length := ⟨_, rfl⟩
 rw [← hq] at hb
 have HLL := Lib.hid hLL
 have HQ := Lib.hid hq
 have HA := Lib.hid ha
 have HX := Lib.hid hx
 have HG : Hid (∀ t (ht : t < R.length), (cf R[t] x < 0 → ∀ e, 0 ≤ e → e ≤ t → (∀ he : e < R.length, TO cf R[e] x)) ∧ (¬ cf R[t] x < 0 → ∀ e, t ≤ e → e < q → (∀ he : e < R.length, TO cf x R[e]))) := Lib.hid fun t ht => by
  have hrt := hR _ (List.getElem_mem ht)
  have hl := hlt _ (List.getElem_mem ht)
  refine ⟨fun h1 e _ he hh => sorted_le hr hR sR he ht hx ((to_less hl).2 h1), fun h1 e he _ hh => sorted_ge hr hR sR he hh hx (hr.total hrt hx (by omega) fun h2 => h1 ((to_less hl).1 h2))⟩
 have HCE : Hid (∀ t (ht : t < R.length) W', SL w b LL W' → W'.cell? ⟨b, m0 + t, none⟩ = some (.int .i64 R[t])) := Lib.hid fun t ht W' h' => h'.at_ (A := X ++ [x] ++ R.take t) (B := R.drop (t + 1) ++ Y) (by
  rw [hLL]
  conv => lhs; rw [← List.take_append_drop t R, List.drop_eq_getElem_cons ht]
  simp only [List.append_assoc, List.cons_append]) (by simp; omega)
 have HCX : Hid (∀ W', SL w b LL W' → W'.cell? ⟨b, a0, none⟩ = some (.int .i64 x)) := Lib.hid fun W' h' => h'.at_ (A := X) (B := R ++ Y) (by rw [hLL]; simp) ha
 have HCM := Lib.hid hc
 have HPR := Lib.hid hR
 have HFIN : Hid (∀ t W', Half (fun e => ∀ he : e < R.length, TO cf R[e] x) (fun e => ∀ he : e < R.length, TO cf x R[e]) 0 q t t → SL w b (mvL X R Y x t) W' → MPost w b cf X [x] R Y (.returned (.tuple #[])) W') := Lib.hid fun t W' H h' => by
  refine ⟨rfl, R.take t ++ x :: R.drop t, ?_, ?_, mv_sorted hr hR hx sR (fun c hc h1 => H.good c (Nat.zero_le _) h1 hc) (fun c hc h1 => H.bad c h1 (by omega) hc)⟩
  ·unfold mvL at h'
   simpa using h'
  ·refine List.perm_middle.trans ?_
   rw [List.take_append_drop]
   exact List.Perm.refl _
 have HMV : Hid (∀ u, u < q → ∃ A y B, mvL X R Y x u = A ++ x :: ([] ++ y :: B) ∧ mvL X R Y x (u + 1) = A ++ y :: ([] ++ x :: B) ∧ A.length = a0 + u) := Lib.hid fun u hu => by rw [ha]; exact mv_step X R Y x u (by omega)
 have S0 := Lib.hid h
 have w1 : IntKind.i64.wrap ((m0 : Int) - (a0 : Int)) = 1 := by rw [IntKind.wrap_i64]; omega
 have hz0 : LL = mvL X R Y x 0 := by rw [hLL]; simp [mvL]
 have HZ0 := Lib.hid hz0
 have HM := Lib.hid hmm
 have HB := Lib.hid hb
 have hab : a0 < n := by omega
 have hmb : m0 ≤ b0 := by omega
 clear h hn hx hR sR hlt ha hq hc hr hz0 hLL hmm hb
 generalize MPost w b cf X [x] R Y = PO at *
 go_enter Tryz.func87, Tryz.ntmps87
 go_wp2_with fail
 go_loopw [10, 11] (fun iv jv wr => ∃ (i j : Nat), iv = .int .i64 (i : Int) ∧ jv = .int .i64 (j : Int) ∧ m0 ≤ i ∧ i ≤ j ∧ j ≤ b0 ∧ Hid (Half (fun e => ∀ he : e < R.length, TO cf R[e] x) (fun e => ∀ he : e < R.length, TO cf x R[e]) 0 q (i - m0) (j - m0)) ∧ Hid (SL w b LL wr)) (fun i j _ => (intOf j).toNat - (intOf i).toNat)
 case atStart => exact ⟨m0, b0, rfl, rfl, Nat.le_refl _, hmb, Nat.le_refl _, Lib.hid (by rw [Nat.sub_self, show b0 - m0 = q by have := HB.out; omega]; exact Half.start (Nat.zero_le _)), S0⟩
 case round =>
  clear S0 w1
  obtain ⟨i, j, rfl, rfl, hmi, hij, hjb, HH, S1⟩ := hrel
  by_cases hlt : i < j
  ·have hltz : (i : Int) < (j : Int) := by omega
   obtain ⟨h, hh⟩ : ∃ h, h = (i + j) / 2 := ⟨_, rfl⟩
   have hdiv : ((i : Int) + (j : Int)) / 2 = (h : Int) := by omega
   have hih : i ≤ h := by omega
   have hhj : h < j := by omega
   have htR : h - m0 < R.length := by have := HB.out; have := HQ.out; omega
   have hhn : (h : Int) < (n : Int) := by omega
   have hhm : m0 + (h - m0) = h := by omega
   have hG := HG.out (h - m0) htR
   have hC1 := HCE.out (h - m0) htR
   rw [hhm] at hC1
   obtain ⟨y, hy⟩ : ∃ y, y = R[h - m0] := ⟨_, rfl⟩
   have HPY : Hid (P y) := Lib.hid (by rw [hy]; exact HPR.out _ (List.getElem_mem htR))
   rw [← hy] at hG hC1
   have H1 := Lib.hid (fun (z : SLT w b LL) => hC1 z.1 z.2)
   have H2 := Lib.hid (fun (z : SLT w b LL) => HCX.out z.1 z.2)
   have HQQ := Lib.hid (fun X' (hX : SL w b LL X') => HCM.out LL X' hX y x HPY.out HX.out)
   have HGG := Lib.hid hG
   clear hh hC1 hy hG hhm
   generalize hrr : cf y x = r at *
   have HRR := Lib.hid hrr
   clear hrr
   go_wp2_with fail
   have HNE : Nonempty (SLT w b LL) := ⟨⟨_, S1.out⟩⟩
   have f1 := H1.out
   have f2 := H2.out
   refine wp_region_classR (fun w' => ∃ z : SLT w b LL, w' = z.1) (by kernel_rfl) (by kernel_rfl) ⟨⟨_, S1.out.drew⟩, rfl⟩ ?_
   repeat (go_big_quiet_step ((rename_i z; (go_at_call 48; refine (HQQ.out _ z.2).mono ?_; rintro e w2 ⟨rfl, hb⟩; exact ⟨rfl, ⟨_, z.2.call hb⟩, rfl⟩))))
   refine wpQuiet_nil ?_
   rintro Wc ⟨⟨W1, h1⟩, rfl⟩
   have S2 : Hid (SL w b LL Wc) := Lib.hid h1
   clear f1 f2 S1 h1 HNE H1 H2 HQQ
   by_cases hlv : r < 0
   ·have HH2 : Hid (Half (fun e => ∀ he : e < R.length, TO cf R[e] x) (fun e => ∀ he : e < R.length, TO cf x R[e]) 0 q (h + 1 - m0) (j - m0)) := Lib.hid (by
     have := HH.out.up (h := h - m0) (by omega) (by omega) (HGG.out.1 hlv)
     rwa [show h - m0 + 1 = h + 1 - m0 by omega] at this)
    go_wp2_with fail
    go_roundw
    case measure => simp [intOf]; omega
    case rel => exact ⟨h + 1, j, by go_num, rfl, by omega, by omega, hjb, HH2, S2⟩
   ·have HH2 : Hid (Half (fun e => ∀ he : e < R.length, TO cf R[e] x) (fun e => ∀ he : e < R.length, TO cf x R[e]) 0 q (i - m0) (h - m0)) := Lib.hid (HH.out.down (h := h - m0) (by omega) (by omega) (HGG.out.2 (by omega)))
    go_wp2_with fail
    go_roundw
    case measure => simp [intOf]; omega
    case rel => exact ⟨i, h, rfl, by go_num, hmi, hih, by omega, HH2, S2⟩
  ·obtain rfl : i = j := by omega
   have hltz : ¬ ((i : Int) < (i : Int)) := by omega
   obtain ⟨t, ht⟩ : ∃ t, t = i - m0 := ⟨_, rfl⟩
   have htq : t ≤ q := by have := HB.out; omega
   have hit : (i : Int) = (a0 : Int) + 1 + (t : Int) := by have := HM.out; omega
   have HIT := Lib.hid hit
   rw [← ht] at HH
   have S2 : Hid (SL w b (mvL X R Y x 0) wr) := Lib.hid (by rw [← HZ0.out]; exact S1.out)
   have HTN : Hid (a0 + t < n) := Lib.hid (by omega)
   have v1 : IntKind.i64.wrap ((i : Int) - 1) = ((a0 + t : Nat) : Int) := by rw [IntKind.wrap_i64]; omega
   have v2 : (i : Int) - 1 = ((a0 + t : Nat) : Int) := by omega
   clear ht hit S1 HZ0 HG HCE HCX
   go_wp2_with fail
   go_loopw [13] (fun kv wr => ∃ (u k : Nat), kv = .int .i64 (k : Int) ∧ Hid (k = a0 + u) ∧ k ≤ a0 + t ∧ Hid (SL w b (mvL X R Y x u) wr)) (fun k _ => a0 + t - (intOf k).toNat)
   case atStart => exact ⟨0, a0, rfl, Lib.hid rfl, by omega, S2⟩
   case round =>
    clear S2
    obtain ⟨u, k, rfl, HK, hkt, S3⟩ := hrel
    by_cases hlt2 : k < a0 + t
    ·have hk1 := HK.out
     have hTn := HTN.out
     obtain ⟨A, y, B, e1, e2, e3⟩ := HMV.out u (by omega)
     have sw := S3.out.swap (i := k) (j := k + 1) e1 (by omega) (by simp; omega)
     rw [← e2] at sw
     have d1 := sw.ci
     have d2 := sw.cj
     have q1 := sw.fi
     have q2 := sw.fj
     obtain ⟨v, d3⟩ := sw.cij
     have S4 := Lib.hid sw.got.drew
     have hkz : (k : Int) < ((a0 + t : Nat) : Int) := by omega
     have hkn : (k : Int) < (n : Int) := by omega
     have hkn1 : (k : Int) + 1 < (n : Int) := by omega
     obtain ⟨k1, hk2⟩ : ∃ k1, k1 = k + 1 := ⟨_, rfl⟩
     have ez : ((k : Int) + 1).toNat = k1 := by omega
     have hk1n : (k1 : Int) < (n : Int) := by omega
     have hkk : (k : Int) + 1 = (k1 : Int) := by omega
     have HK2 := Lib.hid hk2
     rw [← hk2] at d2 q2 d3 S4
     clear sw e1 e2 e3 S3 hk1 hk2 hTn
     go_wp2_with fail
     go_big_region
     clear d1 d2 d3 q1 q2
     go_wp2
     go_roundw
     case measure => simp [intOf]; omega
     case rel => exact ⟨u + 1, k + 1, by go_num, Lib.hid (by have := HK.out; omega), by omega, S4⟩
    ·have hu : u = t := by have := HK.out; omega
     subst hu
     have HF := Lib.hid (HFIN.out u wr HH.out S3.out)
     have hkz : ¬ (k : Int) < ((a0 + u : Nat) : Int) := by omega
     clear S3 HFIN HMV
     go_wp2_with fail
     go_end0
     exact HF.out
end Go.Proofs.YtkigddankkoahaaGreatDoor
