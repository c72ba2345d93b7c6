/- The contract of the reference digits: a number of 64 bits in tens. No other condition. -/
import Derived.Test.YtpmigbhfhccegaaDoorText
import Derived.Test.YtpmigbhfhccegaaDoorTxtInj
import Derived.Laws.IdiomStrings
import Derived.Deep.RegionLaw
namespace Go.Proofs.YtpmigbhfhccegaaDoor
open Go.RowKit
def dgt (m : Nat) : UInt8 := UInt8.ofNat (48 + m % 10)
def digz (m : Nat) : List UInt8 := if m = 0 then [] else Lib.decDigits m
theorem digz_step (m : Nat) (h : 0 < m) : digz m = digz (m / 10) ++ [dgt m] := by
  unfold digz
  rw [if_neg (by omega), Lib.decDigits]
  split
  · rename_i h10
    rw [if_pos (by omega)]
    unfold dgt
    rw [show m % 10 = m by omega]
    rfl
  · rename_i h10
    rw [if_neg (by omega)]
    rfl
theorem conv1 (w : World) (u : UInt8) (c : Int) (hc : c = u.toNat) : (convert 59 9 (.slice (some ⟨w.heap.size, 0, none⟩) 1 1)).run Tryd.prog (w.alloc (.cells #[.int .u8 c] 5)) = .ok (.string ⟨#[u]⟩) (w.alloc (.cells #[.int .u8 c] 5)) := by
  subst hc
  have hn : (w.alloc (.cells #[.int .u8 (u.toNat : Int)] 5)).heap[w.heap.size]? = some (.cells #[.int .u8 (u.toNat : Int)] 5 (0, 0)) := heap_alloc_new w _
  exact run_convert_bytes_back (P := Tryd.prog) (w.alloc (.cells #[.int .u8 (u.toNat : Int)] 5)) 59 9 5 ⟨w.heap.size, 0, none⟩ 1 [u] Tryd.underlying59 Tryd.underlying5 Tryd.underlying9 (fun j hj => by
    obtain rfl : j = 0 := by simp at hj; omega
    rw [show (⟨w.heap.size, 0, none⟩ : Addr).add 0 = ⟨w.heap.size, 0, none⟩ by simp [Addr.add], Lib.cell_of_heap hn]
    rfl)
theorem dg_val (m : Nat) : 48 + (m : Int) % 10 = ((dgt m).toNat : Int) := by
  have : (dgt m).toNat = 48 + m % 10 := by
    unfold dgt
    have : (48 + m % 10) % 256 = 48 + m % 10 := by omega
    simp [this]
  rw [this]
  omega
theorem digz_len (m : Nat) (h : m ≤ 9223372036854775808) : (digz m).length ≤ 21 := by
  unfold digz
  split
  · simp
  · rename_i h0
    have := Lib.itoa_length_le (-(m : Int)) (by omega) (by omega)
    rw [Lib.itoa_neg m (by omega)] at this
    simp at this
    omega
theorem digz_pos {m : Nat} (h : 0 < m) : digz m = Lib.decDigits m := by unfold digz; rw [if_neg (by omega)]
theorem digz_room {N m : Nat} {b : ByteArray} (hl : (digz N).length ≤ 21) (h : digz N = digz m ++ b.data.toList) : b.size ≤ 21 := by
  have := congrArg List.length h
  rw [List.length_append] at this
  have h2 : b.data.toList.length = b.size := by simp
  omega
theorem digz_next {N m : Nat} {b : ByteArray} (h0 : 0 < m) (h : digz N = digz m ++ b.data.toList) : digz N = digz (m / 10) ++ ((⟨#[dgt m]⟩ : ByteArray) ++ b).data.toList := by
  rw [h, digz_step m h0]
  simp
set_option maxRecDepth 100000 in
set_option maxHeartbeats 1000000 in
theorem digits_neg (N : Nat) (hN : 0 < N) (hN2 : N ≤ 9223372036854775808) (w : World) :
    Calls Tryd.prog 58 #[.int .i64 (-(N : Int))] w fun e w' => e = .returned (.string ⟨(Lib.itoa (-(N : Int))).toArray⟩) ∧ Below w.heap.size w w' := by
  have HL := Lib.hid (digz_len N hN2)
  have HP : Hid (Lib.itoa (-(N : Int)) = 45 :: digz N) := by show _ = _; rw [Lib.itoa_neg N hN, digz_pos hN]
  go_enter Tryd.func58, Tryd.ntmps58
  go_wp2_with fail
  go_loopw [0, 3] (fun n s wr => ∃ (m : Nat) (b : ByteArray), m ≤ N ∧ n = .int .i64 (-(m : Int)) ∧ s = .string b ∧ Below w.heap.size w wr ∧ Hid (digz N = digz m ++ b.data.toList)) (fun n _ _ => (intOf n).natAbs)
  case atStart => exact ⟨N, ⟨#[]⟩, Nat.le_refl _, rfl, rfl, Below.refl _ _, by show _ = _; simp⟩
  case round =>
    obtain ⟨m, b, hm, rfl, rfl, hb, hd⟩ := hrel
    have hbs := digz_room HL.out hd.out
    by_cases h0 : m = 0
    · subst h0
      have HB : Hid (digz N = b.data.toList) := by have h := hd.out; rw [show digz 0 = [] from rfl, List.nil_append] at h; exact h
      go_wp2_with fail
      go_ret
      go_light
      refine ⟨?_, hb⟩
      rw [HP.out, HB.out]
      simp
      exact bytes_ext (by simp)
    · have kc := conv1 wr (dgt m) (48 + (m : Int) % 10) (dg_val m)
      have HD := Lib.hid (digz_next (by omega) hd.out)
      have hne : (-(m : Int) != 0) = true := by simp; omega
      clear hd
      go_wp2_with fail
      go_roundw
      case rel => exact ⟨m / 10, (⟨#[dgt m]⟩ : ByteArray) ++ b, by omega, by simp, rfl, hb.alloc hb.size _, HD.out⟩
      case measure => simp [intOf]; omega
theorem dec_first (N : Nat) : Lib.decDigits N = digz (N / 10) ++ [dgt N] := by
  by_cases h : N = 0
  · subst h; rw [Lib.decDigits_one (by decide)]; rfl
  · rw [← digz_pos (by omega), digz_step N (by omega)]
theorem dec_len (N : Nat) (h : N ≤ 9223372036854775807) : (Lib.decDigits N).length ≤ 21 := by
  have := Lib.itoa_length_le (N : Int) (by omega) (by omega)
  rwa [Lib.itoa_nonneg] at this
theorem dec_room {l : List UInt8} {m : Nat} {b : ByteArray} (hl : l.length ≤ 21) (h : l = digz m ++ b.data.toList) : b.size ≤ 21 := by
  have := congrArg List.length h
  rw [List.length_append] at this
  have h2 : b.data.toList.length = b.size := by simp
  omega
theorem dec_next {l : List UInt8} {m : Nat} {b : ByteArray} (h0 : 0 < m) (h : l = digz m ++ b.data.toList) : l = digz (m / 10) ++ ((⟨#[dgt m]⟩ : ByteArray) ++ b).data.toList := by
  rw [h, digz_step m h0]
  simp
set_option maxRecDepth 100000 in
set_option maxHeartbeats 1000000 in
theorem digits_pos (N : Nat) (hN2 : N ≤ 9223372036854775807) (w : World) :
    Calls Tryd.prog 58 #[.int .i64 (N : Int)] w fun e w' => e = .returned (.string ⟨(Lib.decDigits N).toArray⟩) ∧ Below w.heap.size w w' := by
  have HL := Lib.hid (dec_len N hN2)
  have HF := Lib.hid (dec_first N)
  have kc0 := conv1 w (dgt N) (48 + (N : Int) % 10) (dg_val N)
  generalize Lib.decDigits N = L at *
  go_enter Tryd.func58, Tryd.ntmps58
  go_wp2_with fail
  go_loopw [0, 4] (fun n s wr => ∃ (m : Nat) (b : ByteArray), m ≤ N ∧ n = .int .i64 (m : Int) ∧ s = .string b ∧ Below w.heap.size w wr ∧ Hid (L = digz m ++ b.data.toList)) (fun n _ _ => (intOf n).natAbs)
  case atStart => exact ⟨N / 10, ⟨#[dgt N]⟩, by omega, by simp, rfl, (Below.refl _ w).alloc (Nat.le_refl _) _, HF.out⟩
  case round =>
    obtain ⟨m, b, hm, rfl, rfl, hb, hd⟩ := hrel
    have hbs := dec_room HL.out hd.out
    by_cases h0 : m = 0
    · subst h0
      have HB : Hid (L = b.data.toList) := by have h := hd.out; rw [show digz 0 = [] from rfl, List.nil_append] at h; exact h
      go_wp2_with fail
      go_ret
      go_light
      refine ⟨?_, hb⟩
      rw [HB.out]
      simp
    · have kc := conv1 wr (dgt m) (48 + (m : Int) % 10) (dg_val m)
      have HD := Lib.hid (dec_next (by omega) hd.out)
      have hpos : 0 < (m : Int) := by omega
      clear hd
      go_wp2_with fail
      go_roundw
      case rel => exact ⟨m / 10, (⟨#[dgt m]⟩ : ByteArray) ++ b, by omega, by simp, rfl, hb.alloc hb.size _, HD.out⟩
      case measure => simp [intOf]; omega
theorem digits_any (n : Int) (h0 : -9223372036854775808 ≤ n) (h1 : n ≤ 9223372036854775807) (w : World) :
    Calls Tryd.prog 58 #[.int .i64 n] w fun e w' => e = .returned (.string ⟨(Lib.itoa n).toArray⟩) ∧ Below w.heap.size w w' := by
  by_cases h : n < 0
  · obtain ⟨N, rfl⟩ : ∃ N : Nat, n = -(N : Int) := ⟨n.natAbs, by omega⟩
    exact digits_neg N (by omega) (by omega) w
  · obtain ⟨N, rfl⟩ := Int.eq_ofNat_of_zero_le (show 0 ≤ n by omega)
    have := digits_pos N (by omega) w
    rwa [← Lib.itoa_nonneg] at this
end Go.Proofs.YtpmigbhfhccegaaDoor
