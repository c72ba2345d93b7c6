/- Contract of like's cut: the piece ahead of the first unit for any bytes, and what stands behind it. Condition: there are at most 2000 units. -/
import Derived.Test.YtimlkgbhmkmacaaLikIndex
import Derived.BigQuiet
import Derived.Deep.QuietTactic
namespace Go.Proofs.Ytimlkgbhmkmacaa
open Go.RowKit
set_option maxHeartbeats 1000000 in
theorem cut_none (us : List Int) (A : Option Addr) (c : Nat) (w : World) (h : UAt w A us) (hm : us.length ≤ 2000) (hf : fm us = none) :
    Calls Try.prog 19 #[.slice A us.length c] w fun e w' => e = .returned (.tuple #[.slice A us.length c, .slice none 0 0, .bool false]) ∧ Below w.heap.size w w' := by
  have HI := index_any us A c w h hm
  rw [show fmI us = -1 by unfold fmI; rw [hf]] at HI
  generalize us.length = n at *
  clear h hf
  go_enter Try.func19, Try.ntmps19
  go_wp2_with (go_at_call 21; refine HI.mono ?_; rintro e w' ⟨rfl, rfl⟩)
  go_ret3
  exact ⟨rfl, Below.refl _ _⟩
theorem below_drewN (w : World) (n : Nat) : Below w.heap.size w (w.drewN n) := ⟨rfl, rfl, rfl, Nat.le_refl _, fun _ _ => rfl⟩
/-- The address behind the first k units, as the language reckons it. -/
def addrAt (A : Option Addr) (c k : Nat) : Option Addr := if c = k then A else A.map fun a => a.add k
theorem UAt.addr {w : World} {A : Option Addr} {us : List Int} {c : Nat} (h : UAt w A us) (hc : us.length ≤ c) (k : Nat) : UAt w (addrAt A c k) (us.drop k) := fun h0 => by
  have h1 := h0
  rw [List.length_drop] at h1
  obtain ⟨b, off, rfl, _, _⟩ := h (by omega)
  unfold addrAt
  rw [if_neg (by omega), show (some (⟨b, off, none⟩ : Addr)).map (fun a => a.add k) = some ⟨b, off + k, none⟩ by simp [Addr.add]]
  exact h.drop k h0
set_option maxHeartbeats 1000000 in
theorem cut_some (us : List Int) (b off : Nat) (c k : Nat) (w : World) (h : UAt w (some ⟨b, off, none⟩) us) (hm : us.length ≤ 2000) (hcap : us.length ≤ c) (hf : fm us = some k) :
    Calls Try.prog 19 #[.slice (some ⟨b, off, none⟩) us.length c] w fun e w' => e = .returned (.tuple #[.slice (some ⟨b, off, none⟩) k c, .slice (addrAt (some ⟨b, off, none⟩) c (k + 1)) (us.length - (k + 1)) (c - (k + 1)), .bool true]) ∧ Below w.heap.size w w' := by
  have HI := index_any us _ c w h hm
  rw [show fmI us = k by unfold fmI; rw [hf]] at HI
  have hk := (fm_some hf).1
  generalize us.length = n at *
  clear h hf
  go_enter Try.func19, Try.ntmps19
  go_wp2_with (go_at_call 21; refine HI.mono ?_; rintro e w' ⟨rfl, rfl⟩)
  have e1 : IntKind.i64.wrap ((k : Int) + 1) = (k : Int) + 1 := IntWalk.i64_in _ (by omega)
  have e2 : ((k : Int) + 1).toNat = k + 1 := by omega
  go_quiet (fail)
  go_wp2
  all_goals
    go_ret3
    refine ⟨?_, below_drewN w nq⟩
    clear HI e1 e2 hk hcap hm
    simp_all [addrAt, Addr.add]
end Go.Proofs.Ytimlkgbhmkmacaa
