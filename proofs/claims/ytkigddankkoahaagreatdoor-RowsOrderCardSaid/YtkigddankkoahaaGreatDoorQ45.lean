import Derived.Test.YtkigddankkoahaaGreatDoorQ44
set_option maxRecDepth 100000
set_option maxHeartbeats 8000000
set_option linter.unusedSimpArgs false
set_option linter.unusedVariables false
namespace Go.Proofs.YtkigddankkoahaaGreatDoor
open Go.RowKit
theorem sym_right (w : World) (b c n : Nat) (P : Int → Prop) (cf : Int → Int → Int) (c1 c2 : Value) (hc : CmpC w b P cf c1 c2) (hr : Rule P cf) (hm : n ≤ 1000000000) (X L Y : List Int) (y : Int) (W : World) (h : SL w b (X ++ L ++ [y] ++ Y) W) (hn : (X ++ L ++ [y] ++ Y).length = n) (hy : P y) (hL : ∀ z ∈ L, P z) (sL : L.Pairwise (TO cf)) (hlt : ∀ x ∈ L, x < y) (hL2 : 1 < L.length) (a0 m0 b0 : Nat) (ha : a0 = X.length) (hmm : m0 = a0 + L.length) (hb : b0 = m0 + 1) :
  Calls Tryz.prog 87 #[.slice (some ⟨b, 0, none⟩) n c, .int .i64 a0, .int .i64 m0, .int .i64 b0, .func (.func 48) #[] #[c1, c2]] W (MPost w b cf X L [y] Y) := by
 have hbn : b0 ≤ n := by rw [← hn, hb, hmm, ha]; simp only [List.length_append, List.length_cons, List.length_nil]; omega
 obtain ⟨LL, hLL⟩ : ∃ LL, LL = X ++ L ++ [y] ++ Y := ⟨_, rfl⟩
 rw [← hLL] at h
 obtain ⟨q, hq⟩ : ∃ q, q = L.length := ⟨_, rfl⟩
 rw [← hq] at hmm hL2
 have HLL := Lib.hid hLL
 have HQ := Lib.hid hq
 have HA := Lib.hid ha
 have HX := Lib.hid hy
 have HG : Hid (∀ t (ht : t < L.length), (¬ cf y L[t] < 0 → ∀ e, 0 ≤ e → e ≤ t → (∀ he : e < L.length, TO cf L[e] y)) ∧ (cf y L[t] < 0 → ∀ e, t ≤ e → e < q → (∀ he : e < L.length, TO cf y L[e]))) := Lib.hid fun t ht => by
  have hrt := hL _ (List.getElem_mem ht)
  have hl := hlt _ (List.getElem_mem ht)
  refine ⟨fun h1 e _ he hh => sorted_le hr hL sL he ht hy (hr.total hy hrt (by omega) fun h2 => h1 ((to_less hl).1 h2)), fun h1 e he _ hh => sorted_ge hr hL sL he hh hy ((to_less hl).2 h1)⟩
 have HCE : Hid (∀ t (ht : t < L.length) W', SL w b LL W' → W'.cell? ⟨b, a0 + t, none⟩ = some (.int .i64 L[t])) := Lib.hid fun t ht W' h' => h'.at_ (A := X ++ L.take t) (B := L.drop (t + 1) ++ [y] ++ Y) (by
  rw [hLL]
  conv => lhs; rw [← List.take_append_drop t L, List.drop_eq_getElem_cons ht]
  simp only [List.append_assoc, List.cons_append]) (by simp; omega)
 have HCX : Hid (∀ W', SL w b LL W' → W'.cell? ⟨b, m0, none⟩ = some (.int .i64 y)) := Lib.hid fun W' h' => h'.at_ (A := X ++ L) (B := Y) (by rw [hLL]; simp) (by simp; omega)
 have HCM := Lib.hid hc
 have HPR := Lib.hid hL
 have HFIN : Hid (∀ t W', Half (fun e => ∀ he : e < L.length, TO cf L[e] y) (fun e => ∀ he : e < L.length, TO cf y L[e]) 0 q t t → SL w b (mvL X L Y y t) W' → MPost w b cf X L [y] Y (.returned (.tuple #[])) W') := Lib.hid fun t W' H h' => by
  refine ⟨rfl, L.take t ++ y :: L.drop t, ?_, ?_, mv_sorted hr hL hy sL (fun c hc h1 => H.good c (Nat.zero_le _) h1 hc) (fun c hc h1 => H.bad c h1 (by omega) hc)⟩
  ·unfold mvL at h'
   simpa using h'
  ·refine List.perm_middle.trans ?_
   rw [List.take_append_drop]
   exact (List.perm_append_singleton _ _).symm
 have HMV : Hid (∀ u, u < q → ∃ A z B, mvL X L Y y u = A ++ y :: ([] ++ z :: B) ∧ mvL X L Y y (u + 1) = A ++ z :: ([] ++ y :: B) ∧ A.length = a0 + u) := Lib.hid fun u hu => by rw [ha]; exact mv_step X L Y y u (by omega)
 have S0 := Lib.hid h
 have w1 : IntKind.i64.wrap ((m0 : Int) - (a0 : Int)) = (q : Int) := by rw [IntKind.wrap_i64]; omega
 have w2 : IntKind.i64.wrap ((b0 : Int) - (m0 : Int)) = 1 := by rw [IntKind.wrap_i64]; omega
 have hq1 : ((q : Int) == 1) = false := by simp; omega
 have hq2 : ¬ ((q : Int) = 1) := by omega
 have hz0 : LL = mvL X L Y y q := by rw [hLL, hq]; simp [mvL]
 have HZ0 := Lib.hid hz0
 have HM := Lib.hid hmm
 have HB := Lib.hid hb
 have hab : a0 ≤ m0 := by omega
 have hmb : m0 < n := by omega
 clear h hn hy hL sL hlt ha hq hc hr hz0 hLL hmm hb hL2
 generalize MPost w b cf X L [y] Y = PO at *
 go_enter Tryz.func87, Tryz.ntmps87
 go_wp2_with fail
 go_loopw [14, 15] (fun iv jv wr => ∃ (i j : Nat), iv = .int .i64 (i : Int) ∧ jv = .int .i64 (j : Int) ∧ a0 ≤ i ∧ i ≤ j ∧ j ≤ m0 ∧ Hid (Half (fun e => ∀ he : e < L.length, TO cf L[e] y) (fun e => ∀ he : e < L.length, TO cf y L[e]) 0 q (i - a0) (j - a0)) ∧ Hid (SL w b LL wr)) (fun i j _ => (intOf j).toNat - (intOf i).toNat)
 case atStart => exact ⟨a0, m0, rfl, rfl, Nat.le_refl _, hab, Nat.le_refl _, Lib.hid (by rw [Nat.sub_self, show m0 - a0 = q by have := HM.out; omega]; exact Half.start (Nat.zero_le _)), S0⟩
 case round =>
  clear S0 w1 w2 hq1 hq2
  obtain ⟨i, j, rfl, rfl, hmi, hij, hjb, HH, S1⟩ := hrel
  by_cases hlt : i < j
  ·have hltz : (i : Int) < (j : Int) := by omega
   obtain ⟨h, hh⟩ : ∃ h, h = (i + j) / 2 := ⟨_, rfl⟩
   have hdiv : ((i : Int) + (j : Int)) / 2 = (h : Int) := by omega
   have hih : i ≤ h := by omega
   have hhj : h < j := by omega
   have htR : h - a0 < L.length := by have := HM.out; have := HQ.out; omega
   have hhn : (h : Int) < (n : Int) := by omega
   have hmn : (m0 : Int) < (n : Int) := by omega
   have hhm : a0 + (h - a0) = h := by omega
   have hG := HG.out (h - a0) htR
   have hC1 := HCE.out (h - a0) htR
   rw [hhm] at hC1
   obtain ⟨x, hy⟩ : ∃ x, x = L[h - a0] := ⟨_, rfl⟩
   have HPY : Hid (P x) := Lib.hid (by rw [hy]; exact HPR.out _ (List.getElem_mem htR))
   rw [← hy] at hG hC1
   have H1 := Lib.hid (fun (z : SLT w b LL) => hC1 z.1 z.2)
   have H2 := Lib.hid (fun (z : SLT w b LL) => HCX.out z.1 z.2)
   have HQQ := Lib.hid (fun X' (hX : SL w b LL X') => HCM.out LL X' hX y x HX.out HPY.out)
   have HGG := Lib.hid hG
   clear hh hC1 hy hG hhm
   generalize hrr : cf y x = r at *
   have HRR := Lib.hid hrr
   clear hrr
   by_cases hlv : r < 0
   ·go_wp2_with fail
    have HNE : Nonempty (SLT w b LL) := ⟨⟨_, S1.out⟩⟩
    have f1 := H1.out
    have f2 := H2.out
    refine wp_region_classR (fun w' => ∃ z : SLT w b LL, w' = z.1) (by kernel_rfl) (by kernel_rfl) ⟨⟨_, S1.out.drew⟩, rfl⟩ ?_
    repeat (go_big_quiet_step ((rename_i z; (go_at_call 48; refine (HQQ.out _ z.2).mono ?_; rintro e w2 ⟨rfl, hb⟩; exact ⟨rfl, ⟨_, z.2.call hb⟩, rfl⟩))))
    refine wpQuiet_nil ?_
    rintro Wc ⟨⟨W1, h1⟩, rfl⟩
    have S2 : Hid (SL w b LL Wc) := Lib.hid h1
    clear f1 f2 S1 h1 HNE H1 H2 HQQ
    have HH2 : Hid (Half (fun e => ∀ he : e < L.length, TO cf L[e] y) (fun e => ∀ he : e < L.length, TO cf y L[e]) 0 q (i - a0) (h - a0)) := Lib.hid (HH.out.down (h := h - a0) (by omega) (by omega) (HGG.out.2 (by omega)))
    go_wp2_with fail
    go_roundw
    case measure => simp [intOf]; omega
    case rel => exact ⟨i, h, rfl, by go_num, hmi, hih, by omega, HH2, S2⟩
   ·have hle : 0 ≤ r := by omega
    have hlf : decide (r < 0) = false := by simp; omega
    go_wp2_with fail
    have HNE : Nonempty (SLT w b LL) := ⟨⟨_, S1.out⟩⟩
    have f1 := H1.out
    have f2 := H2.out
    refine wp_region_classR (fun w' => ∃ z : SLT w b LL, w' = z.1) (by kernel_rfl) (by kernel_rfl) ⟨⟨_, S1.out.drew⟩, rfl⟩ ?_
    repeat (go_big_quiet_step ((rename_i z; (go_at_call 48; refine (HQQ.out _ z.2).mono ?_; rintro e w2 ⟨rfl, hb⟩; exact ⟨rfl, ⟨_, z.2.call hb⟩, rfl⟩))))
    refine wpQuiet_nil ?_
    rintro Wc ⟨⟨W1, h1⟩, rfl⟩
    have S2 : Hid (SL w b LL Wc) := Lib.hid h1
    clear f1 f2 S1 h1 HNE H1 H2 HQQ
    have HH2 : Hid (Half (fun e => ∀ he : e < L.length, TO cf L[e] y) (fun e => ∀ he : e < L.length, TO cf y L[e]) 0 q (h + 1 - a0) (j - a0)) := Lib.hid (by
     have := HH.out.up (h := h - a0) (by omega) (by omega) (HGG.out.1 (by omega))
     rwa [show h - a0 + 1 = h + 1 - a0 by omega] at this)
    go_wp2_with fail
    go_roundw
    case measure => simp [intOf]; omega
    case rel => exact ⟨h + 1, j, by go_num, rfl, by omega, by omega, hjb, HH2, S2⟩
  ·obtain rfl : i = j := by omega
   have hltz : ¬ ((i : Int) < (i : Int)) := by omega
   obtain ⟨t, ht⟩ : ∃ t, t = i - a0 := ⟨_, rfl⟩
   have htq : t ≤ q := by have := HM.out; omega
   have HIT : Hid (i = a0 + t) := Lib.hid (by omega)
   rw [← ht] at HH
   have S2 : Hid (SL w b (mvL X L Y y q) wr) := Lib.hid (by rw [← HZ0.out]; exact S1.out)
   have HIM : Hid (i ≤ m0) := Lib.hid (by omega)
   clear ht S1 HZ0 HG HCE HCX hij hmi hjb hab
   go_wp2_with fail
   go_loopw [17] (fun kv wr => ∃ (u k : Nat), kv = .int .i64 (k : Int) ∧ Hid (k = a0 + u ∧ u ≤ q) ∧ i ≤ k ∧ Hid (SL w b (mvL X L Y y u) wr)) (fun k _ => (intOf k).toNat - i)
   case atStart => exact ⟨q, m0, rfl, Lib.hid ⟨HM.out, Nat.le_refl _⟩, HIM.out, S2⟩
   case round =>
    clear S2
    obtain ⟨u, k, rfl, HK, hkt, S3⟩ := hrel
    by_cases hlt2 : i < k
    ·obtain ⟨kp, rfl⟩ : ∃ kp, k = kp + 1 := ⟨k - 1, by omega⟩
     obtain ⟨up, rfl⟩ : ∃ up, u = up + 1 := ⟨u - 1, by have := HK.out; have := HIT.out; omega⟩
     have hk1 := HK.out
     have hM1 := HM.out
     obtain ⟨A, z, B, e1, e2, e3⟩ := HMV.out up (by omega)
     have sw := S3.out.swap (i := kp) (j := kp + 1) e2 (by omega) (by simp; omega)
     rw [← e1] at sw
     have d1 := sw.cj
     have d2 := sw.ci
     have q1 := sw.fj
     have q2 := sw.fi
     obtain ⟨v, d3⟩ := sw.cji
     have S4 := Lib.hid sw.got'.drew
     have hkz : (i : Int) < (kp : Int) + 1 := by omega
     have jz : (kp : Int) + 1 < (n : Int) := by omega
     have jz1 : (kp : Int) < (n : Int) := by omega
     have p0 : (0 : Int) ≤ (kp : Int) + 1 := by omega
     have e0 : ((kp : Int) + 1).toNat = kp + 1 := by omega
     have hwp : IntKind.i64.wrap (kp : Int) = (kp : Int) := by rw [IntKind.wrap_i64]; omega
     obtain ⟨j1, hj1⟩ : ∃ j1, j1 = kp + 1 := ⟨_, rfl⟩
     have J1 := Lib.hid hj1
     rw [← hj1] at d1 q1 e0 d3
     clear sw e1 e2 e3 S3 hk1 hj1 hM1
     go_wp2_with fail
     go_big_region
     clear d1 d2 d3 q1 q2
     rw [J1.out]
     generalize (World.setCell (wr.setCell ⟨b, kp + 1, none⟩ (.int .i64 z)) ⟨b, kp, none⟩ (.int .i64 y)).drew = w2 at *
     go_wp2
     go_roundw
     case measure => simp [intOf]; omega
     case rel => exact ⟨up, kp, by first | rfl | go_num | (congr 1; omega), Lib.hid (by have := HK.out; omega), by omega, S4⟩
    ·have hu : u = t := by have := HK.out; have := HIT.out; omega
     subst hu
     have HF := Lib.hid (HFIN.out u wr HH.out S3.out)
     have hkz : ¬ (i : Int) < (k : Int) := by omega
     clear S3 HFIN HMV
     go_wp2_with fail
     go_end0
     exact HF.out
def SymOk (w : World) (b c n : Nat) (P : Int → Prop) (cf : Int → Int → Int) (c1 c2 : Value) (k : Nat) : Prop :=
 ∀ (X L R Y : List Int) (W : World), L.length + R.length ≤ k → 0 < L.length → 0 < R.length → SL w b (X ++ L ++ R ++ Y) W → (X ++ L ++ R ++ Y).length = n → (∀ z ∈ L, P z) → (∀ z ∈ R, P z) → L.Pairwise (TO cf) → R.Pairwise (TO cf) → (∀ x ∈ L, ∀ y ∈ R, x < y) → ∀ a0 m0 b0 : Nat, a0 = X.length → m0 = a0 + L.length → b0 = m0 + R.length →
  Calls Tryz.prog 87 #[.slice (some ⟨b, 0, none⟩) n c, .int .i64 a0, .int .i64 m0, .int .i64 b0, .func (.func 48) #[] #[c1, c2]] W (MPost w b cf X L R Y)
structure Sk (w : World) (b : Nat) (P : Int → Prop) (cf : Int → Int → Int) (row : List Int) (a0 m0 b0 mid s0 r0 : Nat) (H : Nat → Nat → Prop) : Prop where
 s0a : a0 ≤ s0
 sr : s0 ≤ r0
 rm : r0 ≤ m0
 rd : r0 ≤ mid
 start : H s0 r0
 ask : ∀ i j h, H i j → s0 ≤ i → i ≤ h → h < j → j ≤ r0 → h < mid + m0 ∧ mid + m0 - 1 - h < b0 ∧ ∃ x y, P x ∧ P y ∧ (∀ W', SL w b row W' → W'.cell? ⟨b, h, none⟩ = some (.int .i64 x)) ∧ (∀ W', SL w b row W' → W'.cell? ⟨b, mid + m0 - 1 - h, none⟩ = some (.int .i64 y)) ∧ (¬ cf y x < 0 → H (h + 1) j) ∧ (cf y x < 0 → H i h)
theorem sk_make {w : World} {b : Nat} {P : Int → Prop} {cf : Int → Int → Int} (hr : Rule P cf) {X L R Y : List Int} {a0 m0 b0 mid : Nat} (hL : ∀ z ∈ L, P z) (hR : ∀ z ∈ R, P z) (sL : L.Pairwise (TO cf)) (sR : R.Pairwise (TO cf)) (hlt : ∀ x ∈ L, ∀ y ∈ R, x < y) (ha : a0 = X.length) (hm : m0 = a0 + L.length) (hb : b0 = m0 + R.length) (hmid : mid = (a0 + b0) / 2) (h1 : 1 < L.length) (h2 : 1 < R.length) :
  ∃ s0 r0, ((mid < m0 ∧ s0 + b0 = mid + m0 ∧ r0 = mid) ∨ (¬ mid < m0 ∧ s0 = a0 ∧ r0 = m0)) ∧ ∃ H, Sk w b P cf (X ++ L ++ R ++ Y) a0 m0 b0 mid s0 r0 H ∧ ∀ i, s0 ≤ i → i ≤ r0 → H i i → Part cf L R (mid - a0) (i - a0) := by
 have key : ∀ s0 r0, ((mid < m0 ∧ s0 + b0 = mid + m0 ∧ r0 = mid) ∨ (¬ mid < m0 ∧ s0 = a0 ∧ r0 = m0)) → ∃ H, Sk w b P cf (X ++ L ++ R ++ Y) a0 m0 b0 mid s0 r0 H ∧ ∀ i, s0 ≤ i → i ≤ r0 → H i i → Part cf L R (mid - a0) (i - a0) := by
  intro s0 r0 hc
  have b1 : a0 ≤ s0 := by omega
  have b2 : s0 ≤ r0 := by omega
  have b3 : r0 ≤ m0 := by omega
  have b4 : r0 ≤ mid := by omega
  refine ⟨fun i j => Half (GoodC cf L R (mid - a0)) (BadC cf L R (mid - a0)) (s0 - a0) (r0 - a0) (i - a0) (j - a0), ⟨b1, b2, b3, b4, Half.start (by omega), ?_⟩, ?_⟩
  ·intro i j h hH hi hih hhj hj
   have q1 : h - a0 < L.length := by omega
   have q2 : mid - a0 - 1 - (h - a0) < R.length := by omega
   have p1 := hL _ (List.getElem_mem q1)
   have p2 := hR _ (List.getElem_mem q2)
   have lt := hlt _ (List.getElem_mem q1) _ (List.getElem_mem q2)
   refine ⟨by omega, by omega, L[h - a0], R[mid - a0 - 1 - (h - a0)], p1, p2, fun W' h' => ?_, fun W' h' => ?_, fun hn => ?_, fun hn => ?_⟩
   ·refine h'.at_ (A := X ++ L.take (h - a0)) (B := L.drop (h - a0 + 1) ++ R ++ Y) ?_ (by simp; omega)
    conv => lhs; rw [← List.take_append_drop (h - a0) L, List.drop_eq_getElem_cons q1]
    simp only [List.append_assoc, List.cons_append]
   ·refine h'.at_ (A := X ++ L ++ R.take (mid - a0 - 1 - (h - a0))) (B := R.drop (mid - a0 - 1 - (h - a0) + 1) ++ Y) ?_ (by simp; omega)
    conv => lhs; rw [← List.take_append_drop (mid - a0 - 1 - (h - a0)) R, List.drop_eq_getElem_cons q2]
    simp only [List.append_assoc, List.cons_append]
   ·have := hH.up (h := h - a0) (by omega) (by omega) (good_down hr hL hR sL sR q1 (by omega) (by omega) fun _ => hr.total p2 p1 (by omega) fun h2 => hn ((to_less lt).1 h2))
    rwa [show h - a0 + 1 = h + 1 - a0 by omega] at this
   ·exact hH.down (h := h - a0) (by omega) (by omega) (bad_up hr hL hR sL sR (by omega) q2 fun _ => (to_less lt).2 hn)
  ·intro i h1 h2 hH
   exact part_of hr hL hR sL sR hH (by omega) (by omega)
 by_cases h : mid < m0
 ·exact ⟨mid + m0 - b0, mid, .inl ⟨h, by omega, rfl⟩, key _ _ (.inl ⟨h, by omega, rfl⟩)⟩
 ·exact ⟨a0, m0, .inr ⟨h, rfl, rfl⟩, key _ _ (.inr ⟨h, rfl, rfl⟩)⟩
structure Sf (w : World) (b c n : Nat) (fv : Value) (row row2 : List Int) (G1 : List Int → List Int → Prop) (PO : Ending → World → Prop) (a0 m0 b0 mid i e : Nat) : Prop where
 turn : i < m0 → m0 < e → ∀ W', SL w b row W' → Calls Tryz.prog 125 #[.slice (some ⟨b, 0, none⟩) n c, .int .i64 i, .int .i64 m0, .int .i64 e, fv] W' fun q w' => q = .returned (.tuple #[]) ∧ SL w b row2 w'
 stay : ¬ (i < m0 ∧ m0 < e) → row = row2
 one : a0 < i → i < mid → ∀ W', SL w b row2 W' → Calls Tryz.prog 87 #[.slice (some ⟨b, 0, none⟩) n c, .int .i64 a0, .int .i64 i, .int .i64 mid, fv] W' fun q w' => q = .returned (.tuple #[]) ∧ ∃ Z1 r, G1 Z1 r ∧ SL w b r w'
 one' : ¬ (a0 < i ∧ i < mid) → ∃ Z1, G1 Z1 row2
 two : mid < e → e < b0 → ∀ Z1 r, G1 Z1 r → ∀ W', SL w b r W' → Calls Tryz.prog 87 #[.slice (some ⟨b, 0, none⟩) n c, .int .i64 mid, .int .i64 e, .int .i64 b0, fv] W' fun q w' => q = .returned (.tuple #[]) ∧ PO (.returned (.tuple #[])) w'
 two' : ¬ (mid < e ∧ e < b0) → ∀ Z1 r, G1 Z1 r → ∀ W', SL w b r W' → PO (.returned (.tuple #[])) W'
theorem sf_make {w : World} {b c n : Nat} {P : Int → Prop} {cf : Int → Int → Int} {c1 c2 : Value} {k : Nat} (ih : ∀ l, l < k → SymOk w b c n P cf c1 c2 l) (hm : n ≤ 1000000000) {X L R Y : List Int} {a0 m0 b0 mid i e : Nat} (hk : L.length + R.length ≤ k) (hn : (X ++ L ++ R ++ Y).length = n) (hL : ∀ z ∈ L, P z) (hR : ∀ z ∈ R, P z) (sL : L.Pairwise (TO cf)) (sR : R.Pairwise (TO cf)) (hlt : ∀ x ∈ L, ∀ y ∈ R, x < y) (ha : a0 = X.length) (hmm : m0 = a0 + L.length) (hb : b0 = m0 + R.length) (hmid : mid = (a0 + b0) / 2) (h1 : 1 < L.length) (h2 : 1 < R.length) (hi : a0 ≤ i) (PT : Part cf L R (mid - a0) (i - a0)) (he : e + i = mid + m0) :
  ∃ row2 G1, Sf w b c n (.func (.func 48) #[] #[c1, c2]) (X ++ L ++ R ++ Y) row2 G1 (MPost w b cf X L R Y) a0 m0 b0 mid i e := by
 obtain ⟨s, hs⟩ : ∃ s, s = i - a0 := ⟨_, rfl⟩
 obtain ⟨t, ht⟩ : ∃ t, t = (mid - a0) - s := ⟨_, rfl⟩
 rw [← hs] at PT
 have x1 := PT.s1
 have x2 := PT.s2
 have x3 := PT.s3
 rw [← ht] at x3
 have lA : (L.take s ++ R.take t).length = s + t := by rw [List.length_append, List.length_take, List.length_take]; omega
 have lB : (L.drop s ++ R.drop t).length = (L.length - s) + (R.length - t) := by rw [List.length_append, List.length_drop, List.length_drop]
 have mtl : ∀ z ∈ L.take s, z ∈ L := fun z hz => List.mem_of_mem_take hz
 have mtr : ∀ z ∈ R.take t, z ∈ R := fun z hz => List.mem_of_mem_take hz
 have mdl : ∀ z ∈ L.drop s, z ∈ L := fun z hz => List.mem_of_mem_drop hz
 have mdr : ∀ z ∈ R.drop t, z ∈ R := fun z hz => List.mem_of_mem_drop hz
 have stl : (L.take s ++ L.drop s).Pairwise (TO cf) := by rw [List.take_append_drop]; exact sL
 have str : (R.take t ++ R.drop t).Pairwise (TO cf) := by rw [List.take_append_drop]; exact sR
 have sl1 := (List.pairwise_append.1 stl).1
 have sl2 := (List.pairwise_append.1 stl).2.1
 have sr1 := (List.pairwise_append.1 str).1
 have sr2 := (List.pairwise_append.1 str).2.1
 have hfin : ∀ Z1 Z2 W', SL w b (X ++ Z1 ++ Z2 ++ Y) W' → Z1.Perm (L.take s ++ R.take t) → Z1.Pairwise (TO cf) → Z2.Perm (L.drop s ++ R.drop t) → Z2.Pairwise (TO cf) → MPost w b cf X L R Y (.returned (.tuple #[])) W' := fun Z1 Z2 W' hS p1 s1 p2 s2 => by
  have := part_sorted PT sL sR (ht ▸ p1) (ht ▸ p2) s1 s2
  exact ⟨rfl, Z1 ++ Z2, by simpa using hS, this.2, this.1⟩
 refine ⟨X ++ (L.take s ++ R.take t) ++ (L.drop s ++ R.drop t) ++ Y, fun Z1 r => Z1.Perm (L.take s ++ R.take t) ∧ Z1.Pairwise (TO cf) ∧ r = X ++ Z1 ++ (L.drop s ++ R.drop t) ++ Y, ?_⟩
 have hrow : X ++ L ++ R ++ Y = (X ++ L.take s) ++ L.drop s ++ R.take t ++ (R.drop t ++ Y) := by
  conv => lhs; rw [← List.take_append_drop s L, ← List.take_append_drop t R]
  simp only [List.append_assoc]
 have hlen2 : (X ++ (L.take s ++ R.take t) ++ (L.drop s ++ R.drop t) ++ Y).length = n := by
  rw [← hn]
  simp only [List.length_append, List.length_take, List.length_drop]
  omega
 refine ⟨fun g1 g2 W' hS => ?_, fun g => ?_, fun g1 g2 W' hS => ?_, fun g => ⟨_, List.Perm.refl _, ?_, rfl⟩, ?_, ?_⟩
 ·rw [hrow] at hS
  rw [hrow] at hn
  refine (rotate_any w b c n (X ++ L.take s) (L.drop s) (R.take t) (R.drop t ++ Y) W' _ hS hn hm (by rw [List.length_drop]; omega) (by rw [List.length_take]; omega) i m0 e (by simp; omega) (by simp; omega) (by simp; omega)).mono ?_
  rintro q w' ⟨h1, h2⟩
  exact ⟨h1, by simpa using h2⟩
 ·have : L.drop s = [] ∨ R.take t = [] := by
   by_cases hA : i < m0
   ·right
    have : t = 0 := by omega
    rw [this, List.take_zero]
   ·left
    exact List.drop_eq_nil_of_le (by omega)
  rw [hrow]
  rcases this with h | h <;> simp only [List.append_assoc, h, List.nil_append]
 ·refine (ih (s + t) (by omega) X (L.take s) (R.take t) (L.drop s ++ R.drop t ++ Y) W' (by rw [List.length_take, List.length_take]; omega) (by rw [List.length_take]; omega) (by rw [List.length_take]; omega) (by simpa using hS) (by rw [← hlen2]; simp only [List.length_append]; omega) (fun z hz => hL z (mtl z hz)) (fun z hz => hR z (mtr z hz)) sl1 sr1 (fun x hx y hy => hlt x (mtl x hx) y (mtr y hy)) a0 i mid ha (by rw [List.length_take]; omega) (by rw [List.length_take]; omega)).mono ?_
  rintro q w' ⟨h1, Z, h2, h3, h4⟩
  exact ⟨h1, Z, _, ⟨h3, h4, rfl⟩, by simpa using h2⟩
 ·have : L.take s = [] ∨ R.take t = [] := by
   by_cases hA : a0 < i
   ·right
    have : t = 0 := by omega
    rw [this, List.take_zero]
   ·left
    have : s = 0 := by omega
    rw [this, List.take_zero]
  rcases this with h | h
  ·simpa [h] using sr1
  ·simpa [h] using sl1
 ·rintro g1 g2 Z1 r ⟨p1, s1, rfl⟩ W' hS
  have l1 : Z1.length = s + t := by rw [p1.length_eq, lA]
  refine (ih (L.length - s + (R.length - t)) (by omega) (X ++ Z1) (L.drop s) (R.drop t) Y W' (by rw [List.length_drop, List.length_drop]; omega) (by rw [List.length_drop]; omega) (by rw [List.length_drop]; omega) (by simpa using hS) (by rw [← hlen2]; simp only [List.length_append, List.length_take, List.length_drop]; omega) (fun z hz => hL z (mdl z hz)) (fun z hz => hR z (mdr z hz)) sl2 sr2 (fun x hx y hy => hlt x (mdl x hx) y (mdr y hy)) mid e b0 (by rw [List.length_append]; omega) (by rw [List.length_drop]; omega) (by rw [List.length_drop]; omega)).mono ?_
  rintro q w' ⟨h1, Z, h2, h3, h4⟩
  exact ⟨h1, hfin Z1 Z w' (by simpa using h2) p1 s1 h3 h4⟩
 ·rintro g Z1 r ⟨p1, s1, rfl⟩ W' hS
  refine hfin Z1 _ W' hS p1 s1 (List.Perm.refl _) ?_
  have : L.drop s = [] ∨ R.drop t = [] := by
   by_cases hA : mid < e
   ·right
    exact List.drop_eq_nil_of_le (by omega)
   ·left
    exact List.drop_eq_nil_of_le (by omega)
  rcases this with h | h
  ·simpa [h] using sr2
  ·simpa [h] using sl2
end Go.Proofs.YtkigddankkoahaaGreatDoor
