/- Contract of the library's ParseUint at two signs, in base 16, of 8 bits: the byte that they write, or an error. Condition: the library's errors are there. -/
import Derived.Test.YthohfegnphocbaaGreatDoorQ02
import Derived.Laws.Strings3
import Derived.Laws.Closers25
import Derived.Laws.Closers25b
import Derived.BigCall
import Derived.BigGuard
namespace Go.Proofs.YthohfegnphocbaaGreatDoor
open Go.RowKit
def hx (c d : UInt8) : Nat → Option Nat
  | 0 => some 0
  | 1 => hexV c
  | _ => (hexV c).bind fun h => (hexV d).map fun g => 16 * h + g
def sx (c d : UInt8) : Nat → UInt8
  | 0 => c
  | _ => d
theorem hx_some {c d : UInt8} {k a h : Nat} (hk : k < 2) (e : hx c d k = some a) (e2 : hexV (sx c d k) = some h) : hx c d (k + 1) = some (16 * a + h) := by
  match k, hk with
  | 0, _ => injection e with e; subst e; simp only [sx] at e2; simp [hx, e2]
  | 1, _ =>
    simp only [hx] at e
    simp only [sx] at e2
    simp [hx, e, e2]
theorem hx_none {c d : UInt8} {k a : Nat} (hk : k < 2) (e : hx c d k = some a) (e2 : hexV (sx c d k) = none) : hx c d 2 = none := by
  match k, hk with
  | 0, _ => simp only [sx] at e2; simp [hx, e2]
  | 1, _ =>
    simp only [hx] at e
    simp only [sx] at e2
    simp [hx, e, e2]
theorem hx_small {c d : UInt8} {k a : Nat} (hk : k < 2) (e : hx c d k = some a) : a < 16 := by
  match k, hk with
  | 0, _ => injection e with e; omega
  | 1, _ => exact hexV_lt e
theorem low_bits : ∀ b : Nat, b < 256 → (0 ≤ bits .or .u8 (b : Int) 32 ∧ bits .or .u8 (b : Int) 32 < 256 ∧ (65 ≤ b → b ≤ 90 → bits .or .u8 (b : Int) 32 = (b : Int) + 32) ∧ (97 ≤ b → b ≤ 122 → bits .or .u8 (b : Int) 32 = b) ∧ (b < 65 ∨ (90 < b ∧ b < 97) ∨ 122 < b → bits .or .u8 (b : Int) 32 < 97 ∨ 122 < bits .or .u8 (b : Int) 32)) := by decide +kernel
def hexOut (o : Option Nat) : Value := match o with
  | some v => .tuple #[.int .u64 v, .nilIface]
  | none => .tuple #[.int .u64 0, .iface 158 (.int .i64 2)]
set_option maxHeartbeats 4000000 in
set_option maxRecDepth 100000 in
theorem hex_parse (t : ByteArray) (c d : UInt8) (ht : t.data.toList = [c, d]) (w : World) :
    Calls Tryz.prog 135 #[.string t, .int .i64 16, .int .i64 8] w fun e w' => e = .returned (hexOut (hx c d 2)) ∧ w' = Lib.bytesWorld w 5 t := by
  have hsz : t.size = 2 := by rw [← size_list, ht]; rfl
  have hemp : t.toList.isEmpty = false := by
    rw [Lib.toList_data, ht]
    rfl
  have hcv := Lib.run_convert_string_bytes (P := Tryz.prog) w 9 67 5 t Tryz.underlying9 Tryz.underlying67 Tryz.underlying5
  have hB : ∀ j, j < 2 → (Lib.bytesWorld w 5 t).cell? ⟨w.heap.size, j, none⟩ = some (.int .u8 (sx c d j).toNat) := fun j hj => by
    rw [Lib.bytesWorld_cell w 5 t j (by omega), ht]
    match j, hj with
    | 0, _ => rfl
    | 1, _ => rfl
  have HB := Lib.hid hB
  rw [hsz] at hcv
  obtain ⟨W1, hW1⟩ : ∃ W1, W1 = Lib.bytesWorld w 5 t := ⟨_, rfl⟩
  rw [← hW1] at hcv HB ⊢
  clear hW1 hB
  have hmv : IntKind.u64.wrap (IntKind.u64.wrap 256 - 1) = 255 := by
    rw [IntKind.wrap_u64, IntKind.wrap_u64]
    decide
  have HL : Hid (∀ x w, Calls Tryz.prog 162 #[.int .u8 x] w fun e w' => e = .returned (.int .u8 (bits .or .u8 x 32)) ∧ w' = w) := fun x w => AnyPu.internal_strconv_lower { Tryz.laysPu14 with } x w
  go_enter Tryz.func135, Tryz.ntmps135
  go_wp2
  go_loop [12, 13, 101] (fun vu vn vi => ∃ (k : Nat) (x : Int), vu = .bool false ∧ vn = .int .u64 x ∧ vi = .int .i64 k ∧ k ≤ 2 ∧ Hid (∃ a : Nat, x = a ∧ hx c d k = some a))
    (fun _ _ vi => 2 - (intOf vi).toNat)
  case atStart => exact ⟨0, 0, rfl, rfl, rfl, by omega, 0, rfl, rfl⟩
  case round =>
    obtain ⟨k, x, rfl, rfl, rfl, hk, hh0⟩ := hrel
    obtain ⟨a, hxa, hh1⟩ := hh0.out
    have hh := Lib.hid hh1
    clear hh0 hh1
    by_cases hkn : k < 2
    · have hc := HB.out k hkn
      have ha := hx_small hkn hh.out
      have x0 : 0 ≤ x := by omega
      have x1 : x < 16 := by omega
      have HXA := Lib.hid hxa
      clear hxa ha
      have HS := Lib.hid (fun h => hx_some (h := h) hkn hh.out)
      have HN := Lib.hid (hx_none hkn hh.out)
      have hbb := low_bits (sx c d k).toNat (UInt8.toNat_lt _)
      have hx256 := u8_lt (sx c d k)
      rw [hexV_eq] at HN
      simp only [hexV_eq] at HS
      clear hh
      generalize (sx c d k).toNat = n at *
      obtain ⟨r0, r1, r2, r3, r4⟩ := hbb
      have HLn : Hid (∀ w, Calls Tryz.prog 162 #[.int .u8 n] w fun e w' => e = .returned (.int .u8 (bits .or .u8 n 32)) ∧ w' = w) := fun w => HL.out n w
      clear HL
      generalize bits .or .u8 (n : Int) 32 = r at *
      have hn : (48 ≤ n ∧ n ≤ 57) ∨ (97 ≤ n ∧ n ≤ 102) ∨ (65 ≤ n ∧ n ≤ 70) ∨ (103 ≤ n ∧ n ≤ 122) ∨ (71 ≤ n ∧ n ≤ 90) ∨ n = 95 ∨ (n < 48 ∨ (57 < n ∧ n < 65)) ∨ ((90 < n ∧ n < 95) ∨ n = 96 ∨ 122 < n) := by omega
      rcases hn with hn | hn | hn | hn | hn | hn | hn | hn
      · have r5 : (n : Int) ≠ 95 := by omega
        have HF : Hid (∃ b : Nat, x * 16 + ((n : Int) - 48) = b ∧ hx c d (k + 1) = some b) := ⟨16 * a + (n - 48), by have := HXA.out; omega, HS.out (n - 48) (by rw [if_pos hn])⟩
        clear HS HN
        go_wp2_with (go_at_call 162; refine (HLn.out _).mono ?_; rintro e w' ⟨rfl, rfl⟩)
        refine ⟨⟨k + 1, x * 16 + ((n : Int) - 48), rfl, (by first | rfl | (congr 1; omega)), (by first | rfl | (congr 1; omega)), by omega, HF⟩, by simp [intOf]; omega⟩
      · have r5 := r3 (by omega) (by omega)
        clear r2 r3 r4
        have r6 : (n : Int) ≠ 95 := by omega
        subst r5
        have HF : Hid (∃ b : Nat, x * 16 + ((n : Int) - 87) = b ∧ hx c d (k + 1) = some b) := ⟨16 * a + (n - 87), by have := HXA.out; omega, HS.out (n - 87) (by rw [if_neg (by omega), if_pos hn])⟩
        clear HS HN
        go_wp2_with (go_at_call 162; refine (HLn.out _).mono ?_; rintro e w' ⟨rfl, rfl⟩)
        refine ⟨⟨k + 1, x * 16 + ((n : Int) - 87), rfl, (by first | rfl | (congr 1; omega)), (by first | rfl | (congr 1; omega)), by omega, HF⟩, by simp [intOf]; omega⟩
      · have r5 := r2 (by omega) (by omega)
        clear r2 r3 r4
        have r6 : (n : Int) ≠ 95 := by omega
        have q0 : 97 ≤ r := by omega
        have q1 : r ≤ 102 := by omega
        have HR := Lib.hid r5
        clear r5
        have n0 : (57 : Int) < n := by omega
        have HF : Hid (∃ b : Nat, x * 16 + (r - 87) = b ∧ hx c d (k + 1) = some b) := ⟨16 * a + (n - 55), by have := HXA.out; have := HR.out; omega, HS.out (n - 55) (by rw [if_neg (by omega), if_neg (by omega), if_pos hn])⟩
        clear HS HN
        go_wp2_with (go_at_call 162; refine (HLn.out _).mono ?_; rintro e w' ⟨rfl, rfl⟩)
        refine ⟨⟨k + 1, x * 16 + (r - 87), rfl, (by first | rfl | (congr 1; omega)), (by first | rfl | (congr 1; omega)), by omega, HF⟩, by simp [intOf]; omega⟩
      · have r5 := r3 (by omega) (by omega)
        clear r2 r3 r4
        have r6 : (n : Int) ≠ 95 := by omega
        subst r5
        have HF := HN.out (by rw [if_neg (by omega), if_neg (by omega), if_neg (by omega)])
        have HF2 : Hid (hexOut (hx c d 2) = .tuple #[.int .u64 0, .iface 158 (.int .i64 2)]) := by show _ = _; rw [HF]; rfl
        clear HS HN HF
        go_wp2_with (go_at_call 162; refine (HLn.out _).mono ?_; rintro e w' ⟨rfl, rfl⟩)
        all_goals go_ret2
        all_goals exact ⟨by rw [HF2.out]; rfl, rfl⟩
      · have r5 := r2 (by omega) (by omega)
        clear r2 r3 r4
        have r6 : (n : Int) ≠ 95 := by omega
        have q0 : 103 ≤ r := by omega
        have q1 : r ≤ 122 := by omega
        have HR := Lib.hid r5
        clear r5
        have n0 : (57 : Int) < n := by omega
        have HF := HN.out (by rw [if_neg (by omega), if_neg (by omega), if_neg (by omega)])
        have HF2 : Hid (hexOut (hx c d 2) = .tuple #[.int .u64 0, .iface 158 (.int .i64 2)]) := by show _ = _; rw [HF]; rfl
        clear HS HN HF
        go_wp2_with (go_at_call 162; refine (HLn.out _).mono ?_; rintro e w' ⟨rfl, rfl⟩)
        all_goals go_ret2
        all_goals exact ⟨by rw [HF2.out]; rfl, rfl⟩
      · have r5 := r4 (by omega)
        clear r2 r3 r4
        subst hn
        have HF := HN.out (by rw [if_neg (by omega), if_neg (by omega), if_neg (by omega)])
        have HF2 : Hid (hexOut (hx c d 2) = .tuple #[.int .u64 0, .iface 158 (.int .i64 2)]) := by show _ = _; rw [HF]; rfl
        clear HS HN HF
        go_wp2_with (go_at_call 162; refine (HLn.out _).mono ?_; rintro e w' ⟨rfl, rfl⟩)
        all_goals go_ret2
        all_goals exact ⟨by rw [HF2.out]; rfl, rfl⟩
      · have r5 := r4 (by omega)
        clear r2 r3 r4
        have r6 : (n : Int) ≠ 95 := by omega
        have HF := HN.out (by rw [if_neg (by omega), if_neg (by omega), if_neg (by omega)])
        have HF2 : Hid (hexOut (hx c d 2) = .tuple #[.int .u64 0, .iface 158 (.int .i64 2)]) := by show _ = _; rw [HF]; rfl
        clear HS HN HF
        go_wp2_with (go_at_call 162; refine (HLn.out _).mono ?_; rintro e w' ⟨rfl, rfl⟩)
        all_goals go_ret2
        all_goals exact ⟨by rw [HF2.out]; rfl, rfl⟩
      · have r5 := r4 (by omega)
        clear r2 r3 r4
        have r6 : (n : Int) ≠ 95 := by omega
        have HF := HN.out (by rw [if_neg (by omega), if_neg (by omega), if_neg (by omega)])
        have HF2 : Hid (hexOut (hx c d 2) = .tuple #[.int .u64 0, .iface 158 (.int .i64 2)]) := by show _ = _; rw [HF]; rfl
        clear HS HN HF
        go_wp2_with (go_at_call 162; refine (HLn.out _).mono ?_; rintro e w' ⟨rfl, rfl⟩)
        all_goals go_ret2
        all_goals exact ⟨by rw [HF2.out]; rfl, rfl⟩
    · have hkk : k = 2 := by omega
      subst hkk
      have HF2 : Hid (hexOut (hx c d 2) = .tuple #[.int .u64 x, .nilIface]) := by show _ = _; rw [hh.out, hxa]; rfl
      clear hh hxa
      go_wp2
      go_ret2
      exact ⟨by rw [HF2.out]; rfl, rfl⟩
end Go.Proofs.YthohfegnphocbaaGreatDoor
