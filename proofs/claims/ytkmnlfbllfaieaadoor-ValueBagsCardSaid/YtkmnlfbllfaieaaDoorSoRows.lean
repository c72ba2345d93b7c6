/- Contracts of the reference's SameRow and SameRows: whether two lists have the same rows. Condition: no list or row is longer than 2 to the 47. -/
import Derived.Test.YtkmnlfbllfaieaaDoorRow
import Derived.Test.YtkmnlfbllfaieaaDoorSoKit
namespace Go.Proofs.YtkmnlfbllfaieaaDoor
open Go.RowKit
/-- What the rows hold. -/
def keys (rs : List R) : List (List V) := rs.map R.xs
/-- Whether two lists hold the same. -/
noncomputable def same (l m : List (List V)) : Bool := @decide (l = m) (Classical.propDecidable _)
theorem same_yes {l m : List (List V)} (h : l = m) : same l m = true := by
  unfold same
  simpa using h
theorem same_no {l m : List (List V)} (h : l ≠ m) : same l m = false := by
  unfold same
  simpa using h
theorem keys_len (rs : List R) : (keys rs).length = rs.length := by simp [keys]
theorem keys_snoc {ls ms : List R} {k : Nat} (hx : k < ls.length) (hy : k < ms.length) (h : (keys ls).take k = (keys ms).take k) (e : ls[k].xs = ms[k].xs) : (keys ls).take (k + 1) = (keys ms).take (k + 1) := by
  rw [List.take_succ_eq_append_getElem (by rw [keys_len]; exact hx), List.take_succ_eq_append_getElem (by rw [keys_len]; exact hy), h]
  simp [keys, e]
theorem keys_ne {ls ms : List R} {k : Nat} (hx : k < ls.length) (hy : k < ms.length) (e : ls[k].xs ≠ ms[k].xs) : keys ls ≠ keys ms := fun h => e (by
  have := congrArg (fun l => l[k]?) h
  simpa [keys, hx, hy] using this)
theorem keys_all {ls ms : List R} {n : Nat} (hx : n = ls.length) (hy : n = ms.length) (h : (keys ls).take n = (keys ms).take n) : keys ls = keys ms := by
  rw [List.take_of_length_le (by rw [keys_len]; omega), List.take_of_length_le (by rw [keys_len]; omega)] at h
  exact h
theorem sameRow_any (xs ys : List V) (A A' : Option Addr) (c c' : Nat) (w : World) (hr : RowAt w w.heap.size A xs) (hr' : RowAt w w.heap.size A' ys) (hm : xs.length ≤ 140737488355328) :
    Calls Tryd.prog 25 #[.slice A xs.length c, .slice A' ys.length c'] w fun e w' => e = .returned (.bool (cmpR xs ys == 0)) ∧ Below w.heap.size w w' := by
  have h26 := rcmpR_any xs ys A A' c c' w hr hr' (by omega)
  generalize cmpR xs ys = r at *
  generalize xs.length = n at *
  generalize ys.length = m at *
  clear hr hr'
  go_enter Tryd.func25, Tryd.ntmps25
  go_wp2_with (go_at_call 26; refine h26.mono ?_; rintro e w1 ⟨rfl, hb1⟩)
  go_ret
  exact ⟨rfl, hb1⟩
set_option maxRecDepth 100000 in
set_option maxHeartbeats 1000000 in
theorem sameRows_any (ls ms : List R) (A A' : Option Addr) (c c' : Nat) (w : World) (ha : RowsAt w w.heap.size A ls) (hb : RowsAt w w.heap.size A' ms) (hs : ∀ r ∈ ls, r.xs.length ≤ 140737488355328) (hm : ls.length ≤ 140737488355328) :
    Calls Tryd.prog 8 #[.slice A ls.length c, .slice A' ms.length c'] w fun e w' => e = .returned (.bool (same (keys ls) (keys ms))) ∧ Below w.heap.size w w' := by
  obtain ⟨n, hn⟩ : ∃ n, n = ls.length := ⟨_, rfl⟩
  obtain ⟨m, hn'⟩ : ∃ m, m = ms.length := ⟨_, rfl⟩
  have HN := Lib.hid hn
  have HM := Lib.hid hn'
  rw [← hn] at hm ⊢
  rw [← hn']
  clear hn hn'
  have HA := Lib.hid ha
  have HB := Lib.hid hb
  have HS := Lib.hid hs
  clear ha hb hs
  by_cases hnm : n = m
  · subst hnm
    go_enter Tryd.func8, Tryd.ntmps8
    go_wp2_with fail
    go_loopw [13] (fun i wr => ∃ k : Nat, k ≤ n ∧ i = .int .i64 k ∧ Below w.heap.size w wr ∧ Hid ((keys ls).take k = (keys ms).take k)) (fun i _ => n - (intOf i).toNat)
    case atStart => exact ⟨0, Nat.zero_le _, rfl, Below.refl _ _, rfl⟩
    case round =>
      obtain ⟨k, hk, rfl, hb, heq⟩ := hrel
      by_cases hlt : k < n
      · have hkx : k < ls.length := by rw [← HN.out]; exact hlt
        have hky : k < ms.length := by rw [← HM.out]; exact hlt
        obtain ⟨ga, oa, hA, hal, hca⟩ := HA.out.1 (by omega)
        obtain ⟨gb, ob, hB, hbl, hcb⟩ := HB.out.1 (by omega)
        subst hA hB
        have d1 := (hb.cell (p := ⟨ga, _, none⟩) hal).trans (hca k hkx)
        have d2 := (hb.cell (p := ⟨gb, _, none⟩) hbl).trans (hcb k hky)
        have hcall := sameRow_any ls[k].xs ms[k].xs ls[k].A ms[k].A ls[k].c ms[k].c wr.drew ((HA.out.2 ls[k] (List.getElem_mem hkx)).later hb.drew) ((HB.out.2 ms[k] (List.getElem_mem hky)).later hb.drew) (HS.out ls[k] (List.getElem_mem hkx))
        clear hca hcb
        obtain ⟨r, hr⟩ : ∃ r, r = (cmpR ls[k].xs ms[k].xs == 0) := ⟨_, rfl⟩
        rw [← hr] at hcall
        have HT : Hid (r = true → (keys ls).take (k + 1) = (keys ms).take (k + 1)) := fun h => keys_snoc hkx hky heq.out ((cmpR_ok.zero _ _).1 (by simpa using hr.symm.trans h))
        have HF : Hid (r = false → same (keys ls) (keys ms) = false) := fun h => same_no (keys_ne hkx hky fun e => by rw [(cmpR_ok.zero _ _).2 e] at hr; rw [hr] at h; cases h)
        clear hr
        have HC := Lib.hid hcall
        clear hcall
        unfold R.val at d1 d2
        generalize ls[k] = ra at *
        generalize ms[k] = rb at *
        cases r
        · have HF2 := Lib.hid (HF.out rfl)
          clear HF HT
          go_wp2_with fail
          go_still_tail 8, (by kernel_rfl)
          change wpList _ _ _ _ _ wr.drew
          go_wp2_with fail
          refine HC.out.mono ?_
          rintro e w1 ⟨rfl, hb1⟩
          go_wp2_with fail
          go_ret
          exact ⟨by rw [HF2.out]; rfl, bthen hb.drew hb1⟩
        · have HT2 := Lib.hid (HT.out rfl)
          clear HF HT
          go_wp2_with fail
          go_still_tail 8, (by kernel_rfl)
          change wpList _ _ _ _ _ wr.drew
          go_wp2_with fail
          refine HC.out.mono ?_
          rintro e w1 ⟨rfl, hb1⟩
          go_wp2_with fail
          go_roundw
          case rel => exact ⟨k + 1, by omega, by go_num, bthen hb.drew hb1, HT2.out⟩
          case measure => simp [intOf]; omega
      · obtain rfl : k = n := by omega
        go_wp2_with fail
        go_ret
        exact ⟨by rw [same_yes (keys_all HN.out HM.out heq.out)]; rfl, hb⟩
  · have hf : same (keys ls) (keys ms) = false := same_no fun h => hnm (by have := congrArg List.length h; rw [keys_len, keys_len] at this; rw [HN.out, HM.out]; exact this)
    have hne : (((n : Int) != (m : Int)) = true) := by simp; omega
    have HF := Lib.hid hf
    clear hf hnm
    go_enter Tryd.func8, Tryd.ntmps8
    go_wp2_with fail
    go_ret
    exact ⟨by rw [HF.out]; rfl, Below.refl _ _⟩
end Go.Proofs.YtkmnlfbllfaieaaDoor
