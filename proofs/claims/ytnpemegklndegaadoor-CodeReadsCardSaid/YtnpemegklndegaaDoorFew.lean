/- Contract of the reference Few: whether rows have no more values and bytes than so many, whatever rows lie in memory. Conditions: no list, row or text longer than 2 to the 47. -/
import Derived.Test.YtnpemegklndegaaDoorRowDef
namespace Go.Proofs.YtnpemegklndegaaDoor
open Go.RowKit
def rowN (xs : List V) : Nat := (xs.map fun v => 1 + v.s.size).sum
def rowsN (rs : List R) : Nat := (rs.map fun r => 1 + rowN r.xs).sum
theorem rowN_snoc {xs : List V} {k : Nat} (h : k < xs.length) : rowN (xs.take (k + 1)) = rowN (xs.take k) + (1 + xs[k].s.size) := by
  unfold rowN; rw [List.take_succ_eq_append_getElem h, List.map_append, List.sum_append]; simp only [List.map_cons, List.map_nil, List.sum_cons, List.sum_nil, Nat.add_zero]
theorem rowsN_snoc {rs : List R} {k : Nat} (h : k < rs.length) : rowsN (rs.take (k + 1)) = rowsN (rs.take k) + (1 + rowN rs[k].xs) := by
  unfold rowsN; rw [List.take_succ_eq_append_getElem h, List.map_append, List.sum_append]; simp only [List.map_cons, List.map_nil, List.sum_cons, List.sum_nil, Nat.add_zero]
theorem sum_take_le (l : List Nat) (k : Nat) : (l.take k).sum ≤ l.sum := by
  induction l generalizing k with
  | nil => simp
  | cons a l ih => cases k with
    | zero => simp
    | succ k => simp; exact ih k
theorem rowN_take (xs : List V) (k : Nat) : rowN (xs.take k) ≤ rowN xs := by unfold rowN; rw [List.map_take]; exact sum_take_le _ _
theorem rowsN_take (rs : List R) (k : Nat) : rowsN (rs.take k) ≤ rowsN rs := by unfold rowsN; rw [List.map_take]; exact sum_take_le _ _
def few (rs : List R) (M : Int) : Bool := decide ((rowsN rs : Int) ≤ M)
theorem few_no {rs : List R} {M : Int} {k j t t' : Nat} (hk : k < rs.length) (hj : j < rs[k].xs.length) (h1 : t = rowsN (rs.take k)) (h2 : t' = t + 1 + rowN (rs[k].xs.take j)) (h3 : M < (t' : Int) + (1 + rs[k].xs[j].s.size)) : few rs M = false := by
  have a := rowsN_snoc hk
  have b := rowsN_take rs (k + 1)
  have c := rowN_snoc hj
  have d := rowN_take rs[k].xs (j + 1)
  unfold few
  simp only [decide_eq_false_iff_not]
  omega
def Small (rs : List R) : Prop := ∀ r ∈ rs, r.xs.length ≤ 140737488355328 ∧ ∀ v ∈ r.xs, v.s.size ≤ 140737488355328
set_option maxRecDepth 100000 in
set_option maxHeartbeats 400000 in
theorem few_any (rs : List R) (A : Option Addr) (c : Nat) (M : Int) (w : World) (hr : RowsAt w w.heap.size A rs) (hm : rs.length ≤ 140737488355328) (hs : Small rs) (hM : 0 ≤ M) (hM' : M ≤ 1000000000) :
    Calls Tryd.prog 25 #[.slice A rs.length c, .int .i64 M] w fun e w' => e = .returned (.bool (few rs M)) ∧ Below w.heap.size w w' := by
  obtain ⟨n, hn⟩ : ∃ n, n = rs.length := ⟨_, rfl⟩
  have HN := Lib.hid hn
  rw [← hn] at hm ⊢
  clear hn
  have HR := Lib.hid hr
  have HS := Lib.hid hs
  clear hr hs
  go_enter Tryd.func25, Tryd.ntmps25
  go_wp2_with fail
  go_loopw [12, 5] (fun i s wr => ∃ k t : Nat, k ≤ n ∧ i = .int .i64 k ∧ s = .int .i64 t ∧ (t : Int) ≤ M + k ∧ Below w.heap.size w wr ∧ Hid (t = rowsN (rs.take k))) (fun i _ _ => n - (intOf i).toNat)
  case atStart => exact ⟨0, 0, Nat.zero_le _, rfl, rfl, by omega, Below.refl _ _, rfl⟩
  case round =>
    obtain ⟨k, t, hk, rfl, rfl, htM, hb, hsum⟩ := hrel
    by_cases hlt : k < n
    · have hkx : k < rs.length := by rw [← HN.out]; exact hlt
      obtain ⟨b, off, hA, hbl, hc⟩ := HR.out.1 (by omega)
      subst hA
      have d1 := (hb.cell (p := ⟨b, _, none⟩) hbl).trans (hc k hkx)
      have hrow := HR.out.2 rs[k] (List.getElem_mem hkx)
      have hsm := HS.out rs[k] (List.getElem_mem hkx)
      have HK : Hid (∀ j t' (hj : j < rs[k].xs.length), t' = t + 1 + rowN (rs[k].xs.take j) → M < (t' : Int) + (1 + rs[k].xs[j].s.size) → few rs M = false) := fun j t' hj h2 h3 => few_no hkx hj hsum.out h2 h3
      have HE : Hid (t + 1 + rowN rs[k].xs = rowsN (rs.take (k + 1))) := by
        have := rowsN_snoc hkx
        have := hsum.out
        show _ = _
        omega
      clear hc
      unfold R.val at d1
      generalize rs[k].xs = xs at *
      generalize rs[k].A = A2 at *
      generalize rs[k].c = c2 at *
      obtain ⟨l, hl⟩ : ∃ l, l = xs.length := ⟨_, rfl⟩
      rw [← hl] at d1 hsm
      have hsm1 := hsm.1
      have HL := Lib.hid hl
      have HW := Lib.hid hrow
      have HZ := Lib.hid hsm.2
      clear hl hrow hsm
      have hbs := hb.size
      go_wp2_with fail
      obtain ⟨wo, rfl⟩ : ∃ wo : World, wo = wr := ⟨_, rfl⟩
      go_loopw [20, 5] (fun i s wr => ∃ k' t' : Nat, k' ≤ l ∧ i = .int .i64 k' ∧ s = .int .i64 t' ∧ (t' : Int) ≤ M + k + 1 ∧ Below w.heap.size w wr ∧ Hid (t' = t + 1 + rowN (xs.take k'))) (fun i _ _ => l - (intOf i).toNat)
      case atStart => exact ⟨0, t + 1, Nat.zero_le _, rfl, by go_num, by omega, hb, rfl⟩
      case round =>
        obtain ⟨k', t', hk', rfl, rfl, htM', hb', hsum'⟩ := hrel
        by_cases hlt' : k' < l
        · have hkx' : k' < xs.length := by rw [← HL.out]; exact hlt'
          obtain ⟨b', off', hA', hbl', hc'⟩ := HW.out (by omega)
          subst hA'
          obtain ⟨c1, c2, c3⟩ := hc' k' hkx'
          have e1 := (hb'.cell (p := ⟨b', _, none⟩) hbl').trans c1
          have e2 := (hb'.cell (p := ⟨b', _, none⟩) hbl').trans c2
          have e3 := (hb'.cell (p := ⟨b', _, none⟩) hbl').trans c3
          have hz := HZ.out xs[k'] (List.getElem_mem hkx')
          have HF : Hid (M < (t' : Int) + (1 + xs[k'].s.size) → few rs M = false) := fun h3 => HK.out k' t' hkx' hsum'.out h3
          have HG : Hid (t' + (1 + xs[k'].s.size) = t + 1 + rowN (xs.take (k' + 1))) := by
            have := rowN_snoc hkx'
            have := hsum'.out
            show _ = _
            omega
          clear c1 c2 c3 hc'
          have hbs' := hb'.size
          generalize xs[k'].k = vk at *
          generalize xs[k'].i = vi at *
          generalize xs[k'].s = vs at *
          by_cases hgt : M < (t' : Int) + (1 + vs.size)
          · go_wp2_with fail
            go_ret
            exact ⟨by rw [HF.out hgt]; rfl, hb'.alloc (by omega) _⟩
          · go_wp2_with fail
            go_roundw
            case rel => exact ⟨k' + 1, t' + (1 + vs.size), by omega, by go_num, by go_num, by omega, hb'.alloc (by omega) _, HG.out⟩
            case measure => simp [intOf]; omega
        · obtain rfl : k' = l := by omega
          go_wp2_with fail
          go_roundw
          case rel => exact ⟨k + 1, t', by omega, by go_num, rfl, by omega, hb', by have := HE.out; have h := hsum'.out; rw [List.take_of_length_le (by rw [← HL.out]; omega)] at h; show _ = _; omega⟩
          case measure => simp [intOf]; omega
    · obtain rfl : k = n := by omega
      have HT : Hid ((t : Int) = rowsN rs) := by have := hsum.out; rw [List.take_of_length_le (by rw [← HN.out]; omega)] at this; show _ = _; omega
      by_cases hle : (t : Int) ≤ M
      · go_wp2_with fail
        go_ret
        exact ⟨by rw [show few rs M = true by unfold few; rw [← HT.out]; simpa using hle]; rfl, hb⟩
      · go_wp2_with fail
        go_ret
        exact ⟨by rw [show few rs M = false by unfold few; rw [← HT.out]; simpa using hle]; rfl, hb⟩
end Go.Proofs.YtnpemegklndegaaDoor
