/- Contract of the reference's Check of one value. No condition. -/
import Derived.Test.YtcnpoinocnfnjaaGreatDoorQ06
import Derived.Laws.IdiomStrings
import Derived.Deep.RegionLaw
namespace Go.Proofs.YtcnpoinocnfnjaaGreatDoor.BV
open Go.RowKit
set_option maxHeartbeats 400000 in
theorem rcheck_any (k i : Int) (s : ByteArray) (w : World) :
    Calls Tryz.prog 126 #[.agg #[.int .i64 k, .int .i64 i, .string s]] w fun e w' => e = .returned (.int .i64 (chkI k i s)) ∧ Below w.heap.size w w' := by
  go_enter Tryz.func126, Tryz.ntmps126
  go_wp2
  all_goals go_ret
  all_goals refine ⟨?_, (Below.refl _ _).alloc (Nat.le_refl _) _⟩
  all_goals (go_light; simp_all [chkI, mayB, emp])
end Go.Proofs.YtcnpoinocnfnjaaGreatDoor.BV
namespace Go.Proofs.YtcnpoinocnfnjaaGreatDoor.BV
def dval (l : List UInt8) : Nat := l.foldl (fun a c => 10 * a + (c.toNat - 48)) 0
theorem dval_snoc (l : List UInt8) (c : UInt8) : dval (l ++ [c]) = 10 * dval l + (c.toNat - 48) := by unfold dval; rw [List.foldl_append]; rfl
theorem digit_val (u : Nat) (h : u < 10) : (UInt8.ofNat (48 + u)).toNat = 48 + u := by
  have : (48 + u) % 256 = 48 + u := by omega
  simp [this]
theorem dval_dec (u : Nat) : dval (Lib.decDigits u) = u := by
  induction u using Nat.strongRecOn with
  | _ u ih =>
    rw [Lib.decDigits]
    split
    · rename_i h
      show 10 * 0 + ((UInt8.ofNat (48 + u)).toNat - 48) = u
      rw [digit_val u h]; omega
    · rw [dval_snoc, ih (u / 10) (by omega), digit_val _ (by omega)]
      omega
theorem dec_inj {u v : Nat} (h : Lib.decDigits u = Lib.decDigits v) : u = v := by rw [← dval_dec u, ← dval_dec v, h]
theorem dec_head (u : Nat) : ∃ c l, Lib.decDigits u = c :: l ∧ 48 ≤ c.toNat ∧ c.toNat ≤ 57 := by
  induction u using Nat.strongRecOn with
  | _ u ih =>
    rw [Lib.decDigits]
    split
    · rename_i h
      exact ⟨_, _, rfl, by rw [digit_val u h]; omega, by rw [digit_val u h]; omega⟩
    · obtain ⟨c, l, h1, h2, h3⟩ := ih (u / 10) (by omega)
      exact ⟨c, _, by rw [h1]; rfl, h2, h3⟩
theorem itoa_head (n : Int) : ∃ c l, Lib.itoa n = c :: l ∧ (c = 45 ∨ 48 ≤ c.toNat ∧ c.toNat ≤ 57) := by
  unfold Lib.itoa
  split
  · exact ⟨45, _, rfl, Or.inl rfl⟩
  · obtain ⟨c, l, h1, h2⟩ := dec_head n.toNat
    exact ⟨c, l, h1, Or.inr h2⟩
theorem itoa_inj {n m : Int} (h : Lib.itoa n = Lib.itoa m) : n = m := by
  unfold Lib.itoa at h
  split at h <;> split at h
  · have := dec_inj (List.cons.inj h).2; omega
  · obtain ⟨c, l, h1, h2, h3⟩ := dec_head m.toNat
    rw [h1] at h
    have := (List.cons.inj h).1
    subst this
    simp at h2
  · obtain ⟨c, l, h1, h2, h3⟩ := dec_head n.toNat
    rw [h1] at h
    have := (List.cons.inj h).1
    subst this
    simp at h2
  · have := dec_inj h; omega
theorem dbl_inj : ∀ {l m : List UInt8}, dbl l = dbl m → l = m
  | [], [], _ => rfl
  | [], b :: m, h => by rw [dbl_cons] at h; split at h <;> simp [dbl] at h
  | a :: l, [], h => by rw [dbl_cons] at h; split at h <;> simp [dbl] at h
  | a :: l, b :: m, h => by
    rw [dbl_cons, dbl_cons] at h
    by_cases ha : a = 39
    · by_cases hb : b = 39
      · rw [if_pos ha, if_pos hb] at h
        simp at h
        rw [ha, hb, dbl_inj h]
      · rw [if_pos ha, if_neg hb] at h
        simp at h
        exact absurd h.1.symm hb
    · by_cases hb : b = 39
      · rw [if_neg ha, if_pos hb] at h
        simp at h
        exact absurd h.1 ha
      · rw [if_neg ha, if_neg hb] at h
        simp at h
        rw [h.1, dbl_inj h.2]
theorem hexd_inj : ∀ a b : Fin 16, hexd a.1 = hexd b.1 → a = b := by decide +kernel
theorem hex2_inj {a b : UInt8} (h : hex2 a = hex2 b) : a = b := by
  unfold hex2 at h
  simp only [List.cons.injEq, and_true] at h
  have ha := a.toNat_lt
  have hb := b.toNat_lt
  have h1 := hexd_inj ⟨a.toNat / 16, by omega⟩ ⟨b.toNat / 16, by omega⟩ h.1
  have h2 := hexd_inj ⟨a.toNat % 16, by omega⟩ ⟨b.toNat % 16, by omega⟩ h.2
  simp only [Fin.mk.injEq] at h1 h2
  exact UInt8.toNat_inj.1 (by omega)
theorem hexs_inj : ∀ {l m : List UInt8}, hexs l = hexs m → l = m
  | [], [], _ => rfl
  | [], b :: m, h => by have h : [] = hex2 b ++ hexs m := h; simp [hex2] at h
  | a :: l, [], h => by have h : hex2 a ++ hexs l = [] := h; simp [hex2] at h
  | a :: l, b :: m, h => by
    have h : hex2 a ++ hexs l = hex2 b ++ hexs m := h
    obtain ⟨h1, h2⟩ := List.append_inj h (by simp [hex2])
    rw [hex2_inj h1, hexs_inj h2]
theorem bytes_ext {s t : ByteArray} (h : s.data.toList = t.data.toList) : s = t := by
  cases s; cases t; simp only [ByteArray.mk.injEq]; exact Array.toList_inj.1 h

theorem may_cases {k i : Int} {s : ByteArray} (h : mayB k i s = true) : (k = 0 ∧ i = 0 ∧ s.data.toList = []) ∨ (k = 1 ∧ (i = 0 ∨ i = 1) ∧ s.data.toList = []) ∨ (k = 2 ∧ s.data.toList = []) ∨ (k = 3 ∧ i = 0) ∨ (k = 4 ∧ i = 0) := by
  unfold mayB emp at h
  rw [Lib.toList_data] at h
  by_cases h0 : k = 0
  · subst h0; simp at h; exact Or.inl ⟨rfl, h.1, by simpa using h.2⟩
  by_cases h1 : k = 1
  · subst h1; simp at h; exact Or.inr (Or.inl ⟨rfl, h.1, by simpa using h.2⟩)
  by_cases h2 : k = 2
  · subst h2; simp at h; exact Or.inr (Or.inr (Or.inl ⟨rfl, by simpa using h⟩))
  by_cases h3 : k = 3
  · subst h3; simp at h; exact Or.inr (Or.inr (Or.inr (Or.inl ⟨rfl, h⟩)))
  by_cases h4 : k = 4
  · subst h4; simp at h; exact Or.inr (Or.inr (Or.inr (Or.inr ⟨rfl, h⟩)))
  simp [h0, h1, h2, h3, h4] at h

def kindOf (l : List UInt8) : Int :=
  match l with
  | [] => 9
  | c :: _ => if c = 78 then 0 else if c = 84 then 1 else if c = 70 then 1 else if c = 39 then 3 else if c = 120 then 4 else 2
theorem kind_txt {k i : Int} {s : ByteArray} (h : mayB k i s = true) : kindOf (txt k i s) = k := by
  rcases may_cases h with ⟨rfl, rfl, hs⟩ | ⟨rfl, hi, hs⟩ | ⟨rfl, hs⟩ | ⟨rfl, rfl⟩ | ⟨rfl, rfl⟩
  · rfl
  · rcases hi with rfl | rfl <;> rfl
  · obtain ⟨c, l, h1, h2⟩ := itoa_head i
    unfold txt
    rw [if_neg (by decide), if_neg (by decide), if_pos rfl, h1]
    unfold kindOf
    have hc : c ≠ 78 ∧ c ≠ 84 ∧ c ≠ 70 ∧ c ≠ 39 ∧ c ≠ 120 := by
      rcases h2 with rfl | h2
      · decide
      · refine ⟨?_, ?_, ?_, ?_, ?_⟩ <;> (rintro rfl; simp at h2)
    simp [hc]
  · rfl
  · rfl
theorem txt_inj {k i k' i' : Int} {s s' : ByteArray} (h : mayB k i s = true) (h' : mayB k' i' s' = true) (he : txt k i s = txt k' i' s') : k = k' ∧ i = i' ∧ s = s' := by
  have hk : k = k' := by rw [← kind_txt h, ← kind_txt h', he]
  subst hk
  refine ⟨rfl, ?_⟩
  rcases may_cases h with ⟨rfl, rfl, hs⟩ | ⟨rfl, hi, hs⟩ | ⟨rfl, hs⟩ | ⟨rfl, rfl⟩ | ⟨rfl, rfl⟩ <;> rcases may_cases h' with ⟨hk, hi', hs'⟩ | ⟨hk, hi', hs'⟩ | ⟨hk, hs'⟩ | ⟨hk, hi'⟩ | ⟨hk, hi'⟩ <;> first | (exfalso; omega) | skip
  · exact ⟨hi'.symm, bytes_ext (hs.trans hs'.symm)⟩
  · refine ⟨?_, bytes_ext (hs.trans hs'.symm)⟩
    rcases hi with rfl | rfl <;> rcases hi' with rfl | rfl <;> first | rfl | (unfold txt at he; simp at he)
  · exact ⟨itoa_inj he, bytes_ext (hs.trans hs'.symm)⟩
  · refine ⟨hi'.symm, bytes_ext (dbl_inj ?_)⟩
    unfold txt at he
    simpa using he
  · refine ⟨hi'.symm, bytes_ext (hexs_inj ?_)⟩
    unfold txt at he
    simpa using he
end Go.Proofs.YtcnpoinocnfnjaaGreatDoor.BV
namespace Go.Proofs.YtcnpoinocnfnjaaGreatDoor.BV
open Go.RowKit
def dgt (m : Nat) : UInt8 := UInt8.ofNat (48 + m % 10)
def digz (m : Nat) : List UInt8 := if m = 0 then [] else Lib.decDigits m
theorem digz_step (m : Nat) (h : 0 < m) : digz m = digz (m / 10) ++ [dgt m] := by
  unfold digz
  rw [if_neg (by omega), Lib.decDigits]
  split
  · rename_i h10
    rw [if_pos (by omega)]
    unfold dgt
    rw [show m % 10 = m by omega]
    rfl
  · rename_i h10
    rw [if_neg (by omega)]
    rfl
theorem conv1 (w : World) (u : UInt8) (c : Int) (hc : c = u.toNat) : (convert 67 9 (.slice (some ⟨w.heap.size, 0, none⟩) 1 1)).run Tryz.prog (w.alloc (.cells #[.int .u8 c] 5)) = .ok (.string ⟨#[u]⟩) (w.alloc (.cells #[.int .u8 c] 5)) := by
  subst hc
  have hn : (w.alloc (.cells #[.int .u8 (u.toNat : Int)] 5)).heap[w.heap.size]? = some (.cells #[.int .u8 (u.toNat : Int)] 5 (0, 0)) := heap_alloc_new w _
  exact run_convert_bytes_back (P := Tryz.prog) (w.alloc (.cells #[.int .u8 (u.toNat : Int)] 5)) 67 9 5 ⟨w.heap.size, 0, none⟩ 1 [u] Tryz.underlying67 Tryz.underlying5 Tryz.underlying9 (fun j hj => by
    obtain rfl : j = 0 := by simp at hj; omega
    rw [show (⟨w.heap.size, 0, none⟩ : Addr).add 0 = ⟨w.heap.size, 0, none⟩ by simp [Addr.add], Lib.cell_of_heap hn]
    rfl)
theorem dg_val (m : Nat) : 48 + (m : Int) % 10 = ((dgt m).toNat : Int) := by
  have : (dgt m).toNat = 48 + m % 10 := by
    unfold dgt
    have : (48 + m % 10) % 256 = 48 + m % 10 := by omega
    simp [this]
  rw [this]
  omega
theorem digz_len (m : Nat) (h : m ≤ 9223372036854775808) : (digz m).length ≤ 21 := by
  unfold digz
  split
  · simp
  · rename_i h0
    have := Lib.itoa_length_le (-(m : Int)) (by omega) (by omega)
    rw [Lib.itoa_neg m (by omega)] at this
    simp at this
    omega
theorem digz_pos {m : Nat} (h : 0 < m) : digz m = Lib.decDigits m := by unfold digz; rw [if_neg (by omega)]
theorem digz_room {N m : Nat} {b : ByteArray} (hl : (digz N).length ≤ 21) (h : digz N = digz m ++ b.data.toList) : b.size ≤ 21 := by
  have := congrArg List.length h
  rw [List.length_append] at this
  have h2 : b.data.toList.length = b.size := by simp
  omega
theorem digz_next {N m : Nat} {b : ByteArray} (h0 : 0 < m) (h : digz N = digz m ++ b.data.toList) : digz N = digz (m / 10) ++ ((⟨#[dgt m]⟩ : ByteArray) ++ b).data.toList := by
  rw [h, digz_step m h0]
  simp
set_option maxRecDepth 100000 in
set_option maxHeartbeats 1000000 in
theorem digits_neg (N : Nat) (hN : 0 < N) (hN2 : N ≤ 9223372036854775808) (w : World) :
    Calls Tryz.prog 159 #[.int .i64 (-(N : Int))] w fun e w' => e = .returned (.string ⟨(Lib.itoa (-(N : Int))).toArray⟩) ∧ Below w.heap.size w w' := by
  have HL := Lib.hid (digz_len N hN2)
  have HP : Hid (Lib.itoa (-(N : Int)) = 45 :: digz N) := by show _ = _; rw [Lib.itoa_neg N hN, digz_pos hN]
  go_enter Tryz.func159, Tryz.ntmps159
  go_wp2_with fail
  go_loopw [0, 3] (fun n s wr => ∃ (m : Nat) (b : ByteArray), m ≤ N ∧ n = .int .i64 (-(m : Int)) ∧ s = .string b ∧ Below w.heap.size w wr ∧ Hid (digz N = digz m ++ b.data.toList)) (fun n _ _ => (intOf n).natAbs)
  case atStart => exact ⟨N, ⟨#[]⟩, Nat.le_refl _, rfl, rfl, Below.refl _ _, by show _ = _; simp⟩
  case round =>
    obtain ⟨m, b, hm, rfl, rfl, hb, hd⟩ := hrel
    have hbs := digz_room HL.out hd.out
    by_cases h0 : m = 0
    · subst h0
      have HB : Hid (digz N = b.data.toList) := by have h := hd.out; rw [show digz 0 = [] from rfl, List.nil_append] at h; exact h
      go_wp2_with fail
      go_ret
      go_light
      refine ⟨?_, hb⟩
      rw [HP.out, HB.out]
      simp
      exact bytes_ext (by simp)
    · have kc := conv1 wr (dgt m) (48 + (m : Int) % 10) (dg_val m)
      have HD := Lib.hid (digz_next (by omega) hd.out)
      have hne : (-(m : Int) != 0) = true := by simp; omega
      clear hd
      go_wp2_with fail
      go_roundw
      case rel => exact ⟨m / 10, (⟨#[dgt m]⟩ : ByteArray) ++ b, by omega, by simp, rfl, hb.alloc hb.size _, HD.out⟩
      case measure => simp [intOf]; omega
theorem dec_first (N : Nat) : Lib.decDigits N = digz (N / 10) ++ [dgt N] := by
  by_cases h : N = 0
  · subst h; rw [Lib.decDigits_one (by decide)]; rfl
  · rw [← digz_pos (by omega), digz_step N (by omega)]
theorem dec_len (N : Nat) (h : N ≤ 9223372036854775807) : (Lib.decDigits N).length ≤ 21 := by
  have := Lib.itoa_length_le (N : Int) (by omega) (by omega)
  rwa [Lib.itoa_nonneg] at this
theorem dec_room {l : List UInt8} {m : Nat} {b : ByteArray} (hl : l.length ≤ 21) (h : l = digz m ++ b.data.toList) : b.size ≤ 21 := by
  have := congrArg List.length h
  rw [List.length_append] at this
  have h2 : b.data.toList.length = b.size := by simp
  omega
theorem dec_next {l : List UInt8} {m : Nat} {b : ByteArray} (h0 : 0 < m) (h : l = digz m ++ b.data.toList) : l = digz (m / 10) ++ ((⟨#[dgt m]⟩ : ByteArray) ++ b).data.toList := by
  rw [h, digz_step m h0]
  simp
set_option maxRecDepth 100000 in
set_option maxHeartbeats 1000000 in
theorem digits_pos (N : Nat) (hN2 : N ≤ 9223372036854775807) (w : World) :
    Calls Tryz.prog 159 #[.int .i64 (N : Int)] w fun e w' => e = .returned (.string ⟨(Lib.decDigits N).toArray⟩) ∧ Below w.heap.size w w' := by
  have HL := Lib.hid (dec_len N hN2)
  have HF := Lib.hid (dec_first N)
  have kc0 := conv1 w (dgt N) (48 + (N : Int) % 10) (dg_val N)
  generalize Lib.decDigits N = L at *
  go_enter Tryz.func159, Tryz.ntmps159
  go_wp2_with fail
  go_loopw [0, 4] (fun n s wr => ∃ (m : Nat) (b : ByteArray), m ≤ N ∧ n = .int .i64 (m : Int) ∧ s = .string b ∧ Below w.heap.size w wr ∧ Hid (L = digz m ++ b.data.toList)) (fun n _ _ => (intOf n).natAbs)
  case atStart => exact ⟨N / 10, ⟨#[dgt N]⟩, by omega, by simp, rfl, (Below.refl _ w).alloc (Nat.le_refl _) _, HF.out⟩
  case round =>
    obtain ⟨m, b, hm, rfl, rfl, hb, hd⟩ := hrel
    have hbs := dec_room HL.out hd.out
    by_cases h0 : m = 0
    · subst h0
      have HB : Hid (L = b.data.toList) := by have h := hd.out; rw [show digz 0 = [] from rfl, List.nil_append] at h; exact h
      go_wp2_with fail
      go_ret
      go_light
      refine ⟨?_, hb⟩
      rw [HB.out]
      simp
    · have kc := conv1 wr (dgt m) (48 + (m : Int) % 10) (dg_val m)
      have HD := Lib.hid (dec_next (by omega) hd.out)
      have hpos : 0 < (m : Int) := by omega
      clear hd
      go_wp2_with fail
      go_roundw
      case rel => exact ⟨m / 10, (⟨#[dgt m]⟩ : ByteArray) ++ b, by omega, by simp, rfl, hb.alloc hb.size _, HD.out⟩
      case measure => simp [intOf]; omega
theorem digits_any (n : Int) (h0 : -9223372036854775808 ≤ n) (h1 : n ≤ 9223372036854775807) (w : World) :
    Calls Tryz.prog 159 #[.int .i64 n] w fun e w' => e = .returned (.string ⟨(Lib.itoa n).toArray⟩) ∧ Below w.heap.size w w' := by
  by_cases h : n < 0
  · obtain ⟨N, rfl⟩ : ∃ N : Nat, n = -(N : Int) := ⟨n.natAbs, by omega⟩
    exact digits_neg N (by omega) (by omega) w
  · obtain ⟨N, rfl⟩ := Int.eq_ofNat_of_zero_le (show 0 ≤ n by omega)
    have := digits_pos N (by omega) w
    rwa [← Lib.itoa_nonneg] at this
end Go.Proofs.YtcnpoinocnfnjaaGreatDoor.BV
