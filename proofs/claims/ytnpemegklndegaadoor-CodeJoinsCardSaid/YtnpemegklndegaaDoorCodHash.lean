/- Contracts of Hash, in code and in the reference: 64 bits of bytes, whatever bytes lie in memory. Condition: no more bytes than the greatest int. -/
import Derived.Test.YtnpemegklndegaaDoorCodBytes
import Derived.StillTailTactics
import Derived.Laws.Bits64
namespace Go.Proofs.YtnpemegklndegaaDoor
open Go.RowKit
def hstep (h : Int) (c : UInt8) : Int := IntKind.u64.wrap (bits .xor .u64 h c.toNat * 1099511628211)
def hashL (l : List UInt8) : Int := l.foldl hstep 14695981039346656037
theorem hashL_snoc (l : List UInt8) (c : UInt8) : hashL (l ++ [c]) = hstep (hashL l) c := by unfold hashL; rw [List.foldl_append]; rfl
theorem hashL_take {l : List UInt8} {k : Nat} (h : k < l.length) : hashL (l.take (k + 1)) = hstep (hashL (l.take k)) l[k] := by rw [List.take_succ_eq_append_getElem h, hashL_snoc]
set_option maxRecDepth 100000 in
set_option maxHeartbeats 400000 in
theorem hash_any (l : List UInt8) (A : Option Addr) (c : Nat) (w : World) (hr : BytesAt w w.heap.size A l) (hm : l.length ≤ 140737488355328) :
    Calls Tryd.prog 20 #[.slice A l.length c] w fun e w' => e = .returned (.int .u64 (hashL l)) ∧ Below w.heap.size w w' := by
  obtain ⟨n, hn⟩ : ∃ n, n = l.length := ⟨_, rfl⟩
  have HN := Lib.hid hn
  rw [← hn] at hm ⊢
  clear hn
  have HR := Lib.hid hr
  clear hr
  go_enter Tryd.func20, Tryd.ntmps20
  go_wp2_with fail
  go_loopw [3, 8] (fun h i wr => ∃ (k : Nat) (x : Int), k ≤ n ∧ i = .int .i64 k ∧ h = .int .u64 x ∧ wr = w ∧ Hid (x = hashL (l.take k))) (fun _ i _ => n - (intOf i).toNat)
  case atStart => exact ⟨0, 14695981039346656037, Nat.zero_le _, rfl, rfl, rfl, rfl⟩
  case round =>
    obtain ⟨k, x, hk, rfl, rfl, rfl, hx⟩ := hrel
    by_cases hlt : k < n
    · have hkx : k < l.length := by rw [← HN.out]; exact hlt
      obtain ⟨b, off, hA, hbl, hc⟩ := HR.out (by omega)
      subst hA
      have c1 := hc k hkx
      have HX : Hid (hstep x l[k] = hashL (l.take (k + 1))) := by show _ = _; rw [hashL_take hkx, hx.out]
      clear hc
      have hu := l[k].toNat_lt
      generalize l[k] = u at *
      have hw : IntKind.u64.wrap (u.toNat : Int) = u.toNat := by rw [IntKind.wrap_u64]; omega
      go_wp2_with fail
      go_roundw
      case rel => exact ⟨k + 1, hstep x u, by omega, by go_num, (by first | trivial | rfl), (by first | trivial | rfl), HX.out⟩
      case measure => simp [intOf]; omega
    · obtain rfl : k = n := by omega
      have HT : Hid (x = hashL l) := by have := hx.out; rw [List.take_of_length_le (by rw [← HN.out]; omega)] at this; exact this
      go_wp2_with fail
      go_ret
      exact ⟨ret_int HT.out, Below.refl _ _⟩
set_option maxRecDepth 100000 in
set_option maxHeartbeats 400000 in
theorem rhash_any (l : List UInt8) (A : Option Addr) (c : Nat) (w : World) (hr : BytesAt w w.heap.size A l) (hm : l.length ≤ 140737488355328) :
    Calls Tryd.prog 21 #[.slice A l.length c] w fun e w' => e = .returned (.int .u64 (hashL l)) ∧ Below w.heap.size w w' := by
  obtain ⟨n, hn⟩ : ∃ n, n = l.length := ⟨_, rfl⟩
  have HN := Lib.hid hn
  rw [← hn] at hm ⊢
  clear hn
  have HR := Lib.hid hr
  clear hr
  go_enter Tryd.func21, Tryd.ntmps21
  go_wp2_with fail
  go_loopw [3, 8] (fun h i wr => ∃ (k : Nat) (x : Int), k ≤ n ∧ i = .int .i64 k ∧ h = .int .u64 x ∧ wr = w ∧ Hid (x = hashL (l.take k))) (fun _ i _ => n - (intOf i).toNat)
  case atStart => exact ⟨0, 14695981039346656037, Nat.zero_le _, rfl, rfl, rfl, rfl⟩
  case round =>
    obtain ⟨k, x, hk, rfl, rfl, rfl, hx⟩ := hrel
    by_cases hlt : k < n
    · have hkx : k < l.length := by rw [← HN.out]; exact hlt
      obtain ⟨b, off, hA, hbl, hc⟩ := HR.out (by omega)
      subst hA
      have c1 := hc k hkx
      have HX : Hid (hstep x l[k] = hashL (l.take (k + 1))) := by show _ = _; rw [hashL_take hkx, hx.out]
      clear hc
      have hu := l[k].toNat_lt
      generalize l[k] = u at *
      have hw : IntKind.u64.wrap (u.toNat : Int) = u.toNat := by rw [IntKind.wrap_u64]; omega
      go_wp2_with fail
      go_roundw
      case rel => exact ⟨k + 1, hstep x u, by omega, by go_num, (by first | trivial | rfl), (by first | trivial | rfl), HX.out⟩
      case measure => simp [intOf]; omega
    · obtain rfl : k = n := by omega
      have HT : Hid (x = hashL l) := by have := hx.out; rw [List.take_of_length_le (by rw [← HN.out]; omega)] at this; exact this
      go_wp2_with fail
      go_ret
      exact ⟨ret_int HT.out, Below.refl _ _⟩
end Go.Proofs.YtnpemegklndegaaDoor
