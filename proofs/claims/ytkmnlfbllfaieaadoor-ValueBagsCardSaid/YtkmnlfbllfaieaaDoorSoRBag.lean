/- Contract of the reference's SameBag: whether two bags are the same. Conditions: no more than a million rows, no row longer than 2 to the 47. -/
import Derived.Test.YtkmnlfbllfaieaaDoorSoPlc
import Derived.Test.YtkmnlfbllfaieaaDoorSoRSort
namespace Go.Proofs.YtkmnlfbllfaieaaDoor
open Go.RowKit
theorem sorted_keys {rs l : List R} (h1 : l.Perm rs) (h2 : l.Pairwise leR) : keys l = srt rs :=
  srt_uniq (h1.map _) (List.pairwise_map.2 h2)
theorem RowsOk.perm {rs l : List R} (h : RowsOk rs) (h1 : l.Perm rs) : RowsOk l := fun r hr => h r (h1.mem_iff.1 hr)
set_option maxRecDepth 100000 in
set_option maxHeartbeats 1000000 in
theorem rsameBag_any (ls ms : List R) (A A' : Option Addr) (c c' : Nat) (w : World) (ha : RowsAt w w.heap.size A ls) (hb : RowsAt w w.heap.size A' ms) (hs : RowsOk ls) (hs' : RowsOk ms) (hc : ls.length ≤ c) (hc' : ms.length ≤ c') (hm : ls.length ≤ 1000000) (hm' : ms.length ≤ 1000000) :
    Calls Tryd.prog 11 #[.slice A ls.length c, .slice A' ms.length c'] w fun e w' => e = .returned (.bool (same (srt ls) (srt ms))) ∧ Below w.heap.size w w' := by
  have H1 := Lib.hid (rsort_any _ ls A c w rfl ha hs hc hm)
  have H2 := Lib.hid (fun w' (h : Below w.heap.size w w') => rsort_any _ ms A' c' w' rfl (hb.after h) hs' hc' hm')
  have HS := Lib.hid hs
  clear ha hb hs'
  obtain ⟨n, hn⟩ : ∃ n, n = ls.length := ⟨_, rfl⟩
  obtain ⟨m, hn'⟩ : ∃ m, m = ms.length := ⟨_, rfl⟩
  rw [← hn] at H1 hm ⊢
  rw [← hn'] at H2 ⊢
  have HN := Lib.hid hn
  have HM := Lib.hid hn'
  clear hn hn' hc hc' hm' hs
  go_enter Tryd.func11, Tryd.ntmps11
  go_wp2_with fail
  refine H1.out.mono ?_
  rintro e w1 ⟨A1, c1, l1, rfl, -, ha1, hp1, hs1, hb1⟩
  rw [← HN.out]
  have HA1 := Lib.hid ha1
  have HP1 := Lib.hid hp1
  have HS1 := Lib.hid hs1
  have HB1 := Lib.hid hb1
  clear ha1 hp1 hs1 hb1
  go_wp2_with fail
  refine (H2.out w1 HB1.out).mono ?_
  rintro e w2 ⟨A2, c2, l2, rfl, -, ha2, hp2, hs2, hb2⟩
  rw [← HM.out]
  have hcall := sameRows_any l1 l2 A1 A2 c1 c2 w2 (HA1.out.after hb2) ha2 (HS.out.perm HP1.out) (by rw [HP1.out.length_eq, ← HN.out]; omega)
  rw [HP1.out.length_eq, ← HN.out, hp2.length_eq, ← HM.out, sorted_keys HP1.out HS1.out, sorted_keys hp2 hs2] at hcall
  have HX := Lib.hid hcall
  have HB2 := Lib.hid (bthen HB1.out hb2)
  clear hcall ha2 hp2 hs2 hb2
  go_wp2_with fail
  refine HX.out.mono ?_
  rintro e w3 ⟨rfl, hb3⟩
  go_wp2_with fail
  go_ret
  exact ⟨rfl, bthen HB2.out hb3⟩
end Go.Proofs.YtkmnlfbllfaieaaDoor
