/- Contracts of code's number, of the reference's wide and back. Condition: numbers are less than 2 to the 64. -/
import Derived.Test.YtnpemegklndegaaDoorCodSplit
namespace Go.Proofs.YtnpemegklndegaaDoor
open Go.RowKit
def arrL (a b c d e f g h : UInt8) : Value := .agg #[.int .u8 a.toNat, .int .u8 b.toNat, .int .u8 c.toNat, .int .u8 d.toNat, .int .u8 e.toNat, .int .u8 f.toNat, .int .u8 g.toNat, .int .u8 h.toNat]
theorem or_byte (m c : Nat) (hm : m < 72057594037927936) (hc : c < 256) : bits .or .u64 ((m * 256 : Nat) : Int) (c : Int) = ((m * 256 + c : Nat) : Int) := by
  have h1 : (BitVec.ofInt 64 ((m * 256 : Nat) : Int)).toNat = m * 256 := by
    rw [BitVec.ofInt_natCast, BitVec.toNat_ofNat]; exact Nat.mod_eq_of_lt (by omega)
  have h2 : (BitVec.ofInt 64 (c : Int)).toNat = c := by
    rw [BitVec.ofInt_natCast, BitVec.toNat_ofNat]; exact Nat.mod_eq_of_lt (by omega)
  show IntKind.u64.wrap ((BitVec.ofInt 64 ((m * 256 : Nat) : Int) ||| BitVec.ofInt 64 (c : Int)).toNat : Int) = _
  have h3 : m * 256 ||| c = m * 256 + c := by
    have := Nat.two_pow_add_eq_or_of_lt (i := 8) (b := c) (by omega) m
    rw [show m * 256 = 2 ^ 8 * m by omega]
    omega
  rw [BitVec.toNat_or, h1, h2, IntKind.wrap_u64, h3]
  omega
theorem or_byte' (m c : Nat) (hm : m < 72057594037927936) (hc : c < 256) : bits .or .u64 ((m : Int) * 256) (c : Int) = ((m * 256 + c : Nat) : Int) := by
  rw [← or_byte m c hm hc]
  congr 1
theorem pow_room {k m : Nat} (hk : k < 8) (hm : m < 256 ^ k) : m < 72057594037927936 := Nat.lt_of_lt_of_le hm (by have := Nat.pow_le_pow_right (n := 256) (by omega) (show k ≤ 7 by omega); omega)
theorem unbe_take {l : List UInt8} {k m : Nat} {c : UInt8} (h : m = unbe (l.take k)) (hc : l[k]? = some c) : m * 256 + c.toNat = unbe (l.take (k + 1)) := by
  obtain ⟨hk, rfl⟩ := List.getElem?_eq_some_iff.1 hc
  rw [List.take_succ_eq_append_getElem hk, unbe_snoc, h]
set_option maxRecDepth 100000 in
set_option maxHeartbeats 400000 in
theorem number_any (a b c d e f g h : UInt8) (w : World) : Calls Tryd.prog 43 #[arrL a b c d e f g h] w fun e' w' => e' = .returned (.int .u64 (unbe [a, b, c, d, e, f, g, h])) ∧ Below w.heap.size w w' := by
  unfold arrL
  go_enter Tryd.func43, Tryd.ntmps43
  go_wp2_with fail
  go_loopw [3, 7] (fun nn i wr => ∃ k m : Nat, k ≤ 8 ∧ i = .int .i64 k ∧ nn = .int .u64 m ∧ m < 256 ^ k ∧ Hid (m = unbe ([a, b, c, d, e, f, g, h].take k)) ∧ Hid (Below w.heap.size w wr)) (fun _ i _ => 8 - (intOf i).toNat)
  case atStart => exact ⟨0, 0, Nat.zero_le _, rfl, rfl, by decide, rfl, (Below.refl _ w).alloc (Nat.le_refl _) _⟩
  case round =>
    obtain ⟨k, m, hk, rfl, rfl, hm, HM, HB⟩ := hrel
    by_cases hlt : k < 8
    · have hr := pow_room hlt hm
      obtain ⟨ki, hki⟩ : ∃ ki : Int, ki = (k : Int) := ⟨_, rfl⟩
      rw [← hki]
      rcases (show k = 0 ∨ k = 1 ∨ k = 2 ∨ k = 3 ∨ k = 4 ∨ k = 5 ∨ k = 6 ∨ k = 7 by omega) with rfl | rfl | rfl | rfl | rfl | rfl | rfl | rfl
      · obtain rfl : ki = 0 := by omega
        have hu := a.toNat_lt
        have hw : IntKind.u64.wrap (a.toNat : Int) = a.toNat := by rw [IntKind.wrap_u64]; omega
        have ho := or_byte' m a.toNat hr hu
        have hx : ∀ w : World, (Instr.index 65 (.agg #[.int .u8 a.toNat, .int .u8 b.toNat, .int .u8 c.toNat, .int .u8 d.toNat, .int .u8 e.toNat, .int .u8 f.toNat, .int .u8 g.toNat, .int .u8 h.toNat]) (.int .i64 0)).run Tryd.prog w = .ok (.int .u8 a.toNat) w := fun _ => by kernel_rfl
        clear hr hki
        go_wp2_with fail
        go_roundw
        case rel => exact ⟨1, m * 256 + a.toNat, by omega, rfl, by simp, by rw [show 256 ^ 1 = 256 ^ 0 * 256 from rfl]; omega, unbe_take HM.out rfl, HB.out⟩
        case measure => simp [intOf]
      · obtain rfl : ki = 1 := by omega
        have hu := b.toNat_lt
        have hw : IntKind.u64.wrap (b.toNat : Int) = b.toNat := by rw [IntKind.wrap_u64]; omega
        have ho := or_byte' m b.toNat hr hu
        have hx : ∀ w : World, (Instr.index 65 (.agg #[.int .u8 a.toNat, .int .u8 b.toNat, .int .u8 c.toNat, .int .u8 d.toNat, .int .u8 e.toNat, .int .u8 f.toNat, .int .u8 g.toNat, .int .u8 h.toNat]) (.int .i64 1)).run Tryd.prog w = .ok (.int .u8 b.toNat) w := fun _ => by kernel_rfl
        clear hr hki
        go_wp2_with fail
        go_roundw
        case rel => exact ⟨2, m * 256 + b.toNat, by omega, rfl, by simp, by rw [show 256 ^ 2 = 256 ^ 1 * 256 from rfl]; omega, unbe_take HM.out rfl, HB.out⟩
        case measure => simp [intOf]
      · obtain rfl : ki = 2 := by omega
        have hu := c.toNat_lt
        have hw : IntKind.u64.wrap (c.toNat : Int) = c.toNat := by rw [IntKind.wrap_u64]; omega
        have ho := or_byte' m c.toNat hr hu
        have hx : ∀ w : World, (Instr.index 65 (.agg #[.int .u8 a.toNat, .int .u8 b.toNat, .int .u8 c.toNat, .int .u8 d.toNat, .int .u8 e.toNat, .int .u8 f.toNat, .int .u8 g.toNat, .int .u8 h.toNat]) (.int .i64 2)).run Tryd.prog w = .ok (.int .u8 c.toNat) w := fun _ => by kernel_rfl
        clear hr hki
        go_wp2_with fail
        go_roundw
        case rel => exact ⟨3, m * 256 + c.toNat, by omega, rfl, by simp, by rw [show 256 ^ 3 = 256 ^ 2 * 256 from rfl]; omega, unbe_take HM.out rfl, HB.out⟩
        case measure => simp [intOf]
      · obtain rfl : ki = 3 := by omega
        have hu := d.toNat_lt
        have hw : IntKind.u64.wrap (d.toNat : Int) = d.toNat := by rw [IntKind.wrap_u64]; omega
        have ho := or_byte' m d.toNat hr hu
        have hx : ∀ w : World, (Instr.index 65 (.agg #[.int .u8 a.toNat, .int .u8 b.toNat, .int .u8 c.toNat, .int .u8 d.toNat, .int .u8 e.toNat, .int .u8 f.toNat, .int .u8 g.toNat, .int .u8 h.toNat]) (.int .i64 3)).run Tryd.prog w = .ok (.int .u8 d.toNat) w := fun _ => by kernel_rfl
        clear hr hki
        go_wp2_with fail
        go_roundw
        case rel => exact ⟨4, m * 256 + d.toNat, by omega, rfl, by simp, by rw [show 256 ^ 4 = 256 ^ 3 * 256 from rfl]; omega, unbe_take HM.out rfl, HB.out⟩
        case measure => simp [intOf]
      · obtain rfl : ki = 4 := by omega
        have hu := e.toNat_lt
        have hw : IntKind.u64.wrap (e.toNat : Int) = e.toNat := by rw [IntKind.wrap_u64]; omega
        have ho := or_byte' m e.toNat hr hu
        have hx : ∀ w : World, (Instr.index 65 (.agg #[.int .u8 a.toNat, .int .u8 b.toNat, .int .u8 c.toNat, .int .u8 d.toNat, .int .u8 e.toNat, .int .u8 f.toNat, .int .u8 g.toNat, .int .u8 h.toNat]) (.int .i64 4)).run Tryd.prog w = .ok (.int .u8 e.toNat) w := fun _ => by kernel_rfl
        clear hr hki
        go_wp2_with fail
        go_roundw
        case rel => exact ⟨5, m * 256 + e.toNat, by omega, rfl, by simp, by rw [show 256 ^ 5 = 256 ^ 4 * 256 from rfl]; omega, unbe_take HM.out rfl, HB.out⟩
        case measure => simp [intOf]
      · obtain rfl : ki = 5 := by omega
        have hu := f.toNat_lt
        have hw : IntKind.u64.wrap (f.toNat : Int) = f.toNat := by rw [IntKind.wrap_u64]; omega
        have ho := or_byte' m f.toNat hr hu
        have hx : ∀ w : World, (Instr.index 65 (.agg #[.int .u8 a.toNat, .int .u8 b.toNat, .int .u8 c.toNat, .int .u8 d.toNat, .int .u8 e.toNat, .int .u8 f.toNat, .int .u8 g.toNat, .int .u8 h.toNat]) (.int .i64 5)).run Tryd.prog w = .ok (.int .u8 f.toNat) w := fun _ => by kernel_rfl
        clear hr hki
        go_wp2_with fail
        go_roundw
        case rel => exact ⟨6, m * 256 + f.toNat, by omega, rfl, by simp, by rw [show 256 ^ 6 = 256 ^ 5 * 256 from rfl]; omega, unbe_take HM.out rfl, HB.out⟩
        case measure => simp [intOf]
      · obtain rfl : ki = 6 := by omega
        have hu := g.toNat_lt
        have hw : IntKind.u64.wrap (g.toNat : Int) = g.toNat := by rw [IntKind.wrap_u64]; omega
        have ho := or_byte' m g.toNat hr hu
        have hx : ∀ w : World, (Instr.index 65 (.agg #[.int .u8 a.toNat, .int .u8 b.toNat, .int .u8 c.toNat, .int .u8 d.toNat, .int .u8 e.toNat, .int .u8 f.toNat, .int .u8 g.toNat, .int .u8 h.toNat]) (.int .i64 6)).run Tryd.prog w = .ok (.int .u8 g.toNat) w := fun _ => by kernel_rfl
        clear hr hki
        go_wp2_with fail
        go_roundw
        case rel => exact ⟨7, m * 256 + g.toNat, by omega, rfl, by simp, by rw [show 256 ^ 7 = 256 ^ 6 * 256 from rfl]; omega, unbe_take HM.out rfl, HB.out⟩
        case measure => simp [intOf]
      · obtain rfl : ki = 7 := by omega
        have hu := h.toNat_lt
        have hw : IntKind.u64.wrap (h.toNat : Int) = h.toNat := by rw [IntKind.wrap_u64]; omega
        have ho := or_byte' m h.toNat hr hu
        have hx : ∀ w : World, (Instr.index 65 (.agg #[.int .u8 a.toNat, .int .u8 b.toNat, .int .u8 c.toNat, .int .u8 d.toNat, .int .u8 e.toNat, .int .u8 f.toNat, .int .u8 g.toNat, .int .u8 h.toNat]) (.int .i64 7)).run Tryd.prog w = .ok (.int .u8 h.toNat) w := fun _ => by kernel_rfl
        clear hr hki
        go_wp2_with fail
        go_roundw
        case rel => exact ⟨8, m * 256 + h.toNat, by omega, rfl, by simp, by rw [show 256 ^ 8 = 256 ^ 7 * 256 from rfl]; omega, unbe_take HM.out rfl, HB.out⟩
        case measure => simp [intOf]
    · obtain rfl : k = 8 := by omega
      go_wp2_with fail
      go_ret
      exact ⟨by rw [HM.out]; rfl, HB.out⟩
set_option maxRecDepth 100000 in
set_option maxHeartbeats 400000 in
theorem back_any (l : List UInt8) (A : Option Addr) (c : Nat) (w : World) (hr : BytesAt w w.heap.size A l) (hm : l.length ≤ 8) :
    Calls Tryd.prog 45 #[.slice A l.length c] w fun e w' => e = .returned (.int .u64 (unbe l)) ∧ Below w.heap.size w w' := by
  obtain ⟨n, hn⟩ : ∃ n, n = l.length := ⟨_, rfl⟩
  have HN := Lib.hid hn
  rw [← hn] at hm ⊢
  clear hn
  have HR := Lib.hid hr
  clear hr
  go_enter Tryd.func45, Tryd.ntmps45
  go_wp2_with fail
  go_loopw [3, 8] (fun h i wr => ∃ (k m : Nat), k ≤ n ∧ i = .int .i64 k ∧ h = .int .u64 m ∧ wr = w ∧ m < 256 ^ k ∧ Hid (m = unbe (l.take k))) (fun _ i _ => n - (intOf i).toNat)
  case atStart => exact ⟨0, 0, Nat.zero_le _, rfl, rfl, rfl, by decide, rfl⟩
  case round =>
    obtain ⟨k, m, hk, rfl, rfl, rfl, hmp, hx⟩ := hrel
    by_cases hlt : k < n
    · have hkx : k < l.length := by rw [← HN.out]; exact hlt
      obtain ⟨b, off, hA, hbl, hc⟩ := HR.out (by omega)
      subst hA
      have c1 := hc k hkx
      have HX := Lib.hid (unbe_take hx.out (List.getElem?_eq_getElem hkx))
      clear hc
      have hu := l[k].toNat_lt
      have hr := pow_room (show k < 8 by omega) hmp
      have hmp2 : m * 256 + l[k].toNat < 256 ^ (k + 1) := by rw [Nat.pow_succ]; omega
      have HP := Lib.hid hmp2
      clear hmp2
      generalize l[k] = u at *
      have hw : IntKind.u64.wrap (u.toNat : Int) = u.toNat := by rw [IntKind.wrap_u64]; omega
      have ho := or_byte' m u.toNat hr hu
      go_wp2_with fail
      go_roundw
      case rel => exact ⟨k + 1, m * 256 + u.toNat, by omega, by go_num, by simp, (by first | trivial | rfl), HP.out, HX.out⟩
      case measure => simp [intOf]; omega
    · obtain rfl : k = n := by omega
      have HT : Hid (m = unbe l) := by have := hx.out; rw [List.take_of_length_le (by rw [← HN.out]; omega)] at this; exact this
      go_wp2_with fail
      go_ret
      exact ⟨by rw [HT.out]; rfl, Below.refl _ _⟩
end Go.Proofs.YtnpemegklndegaaDoor
