/- Contract of value.Sorted: the rows in order, copied. Conditions: no more than a million rows, none longer than a million. -/
import Derived.Test.YtkmnlfbllfaieaaDoorSoSame
import Derived.Test.YtkmnlfbllfaieaaDoorSoClone
namespace Go.Proofs.YtkmnlfbllfaieaaDoor
open Go.RowKit
/-- The rows that stand in the new list so far. -/
def OutAt (g n : Nat) (outs : List R) (W : World) : Prop := W.heap[g]? = some (.cells (vals outs ++ List.replicate (n - outs.length) (Value.slice none 0 0)).toArray 28 (0, 0)) ∧ ∀ r ∈ outs, RowNew W g r.A r.xs
theorem out_made {W : World} {B g n : Nat} (h : W.ownsRow B 28 1 (.slice (some ⟨g, 0, none⟩) n n) n (madeCells #[Value.slice none 0 0] n).toList) : OutAt g n [] W := by
  refine ⟨?_, fun r hr => by simp at hr⟩
  rcases h.2 with ⟨hv, _⟩ | ⟨g', cap, cur, hv, _, hg, hn, _, hs, ht⟩
  · cases hv
  · injection hv with e1 e2 e3
    simp at e1
    subst e1 e3
    rw [hg]
    have hc : cur = (vals [] ++ List.replicate (n - ([] : List R).length) (Value.slice none 0 0)).toArray := by
      apply Array.toList_inj.1
      rw [List.take_of_length_le (by simp; omega)] at ht
      rw [ht]
      apply List.ext_getElem
      · simp [vals, size_madeCells]
      · intro i h1 h2
        simp [madeCells, vals, Nat.mod_one]
    rw [hc]
theorem OutAt.cell {g n k : Nat} {outs : List R} {W : World} (h : OutAt g n outs W) (hk : outs.length = k) (hkn : k < n) : W.cell? ⟨g, k, none⟩ = some (.slice none 0 0) := by
  rw [Lib.cell_of_heap h.1]
  have hv : (vals outs).length = k := by rw [vals_len, hk]
  rw [List.getElem?_toArray, List.getElem?_append_right (by omega), hv, hk, Nat.sub_self, List.getElem?_replicate, if_pos (by omega)]
theorem OutAt.free {g n k : Nat} {outs : List R} {W : World} (h : OutAt g n outs W) : W.frozen? ⟨g, k, none⟩ = false := Lib.frozen_of_heap h.1 k
theorem OutAt.later {g n : Nat} {outs : List R} {W W3 : World} (h : OutAt g n outs W) (hb : Below W.heap.size W W3) : OutAt g n outs W3 :=
  ⟨(hb.block g (Array.getElem?_eq_some_iff.1 h.1).1).trans h.1, fun r hr => (h.2 r hr).later hb⟩
theorem OutAt.set {g n k c : Nat} {outs : List R} {W : World} {A : Option Addr} {xs : List V} (h : OutAt g n outs W) (hk : outs.length = k) (hkn : k < n) (hr : RowNew W g A xs) : OutAt g n (outs ++ [⟨A, c, xs⟩]) (W.setCell ⟨g, k, none⟩ (.slice A xs.length c)) := by
  refine ⟨?_, fun r hr' => ?_⟩
  · rw [Lib.heap_setCell_same h.1 _]
    congr 2
    apply Array.toList_inj.1
    have hv : (vals outs).length = k := by rw [vals_len, hk]
    obtain ⟨m, hm⟩ : ∃ m, n - outs.length = m + 1 := ⟨n - outs.length - 1, by omega⟩
    have hm2 : n - (outs ++ [(⟨A, c, xs⟩ : R)]).length = m := by rw [List.length_append]; simp; omega
    rw [hm, hm2]
    simp only [Array.toList_setIfInBounds, List.replicate_succ]
    rw [List.set_append_right _ _ (by omega), hv, Nat.sub_self]
    simp [vals, R.val]
  · rcases List.mem_append.1 hr' with hr' | hr'
    · exact (h.2 r hr').set
    · simp at hr'
      subst hr'
      exact hr.set
/-- What Sorted leaves. -/
def VSorted (rs : List R) (w : World) (e : Ending) (w' : World) : Prop := ∃ outs, e = .returned (.slice (some ⟨w.heap.size, 0, none⟩) rs.length rs.length) ∧ keys outs = srt rs ∧ w'.heap[w.heap.size]? = some (.cells (vals outs).toArray 28 (0, 0)) ∧ (∀ r ∈ outs, RowNew w' w.heap.size r.A r.xs) ∧ Below w.heap.size w w'
theorem keys_step {outs : List R} {l : List (List V)} {k : Nat} {A : Option Addr} {c : Nat} {xs : List V} (h : keys outs = l.take k) (hx : l[k]? = some xs) : keys (outs ++ [⟨A, c, xs⟩]) = l.take (k + 1) := by
  rw [List.take_add_one, ← h, hx]
  simp [keys]
theorem placed_set {W : World} {g g2 k : Nat} {x : Obj} {v : Value} (h : W.heap[g2]? = some x) (hne : g2 ≠ g) : (W.setCell ⟨g, k, none⟩ v).heap[g2]? = some x := by
  rw [Below.heap_setCell _ _ _ _ (by show g2 ≠ g; omega)]; exact h
set_option maxRecDepth 100000 in
set_option maxHeartbeats 2000000 in
theorem sorted_any (rs : List R) (A : Option Addr) (c : Nat) (w : World) (ha : RowsAt w w.heap.size A rs) (hs : ∀ r ∈ rs, r.xs.length ≤ 1000000) (hm : rs.length ≤ 1000000) :
    Calls Tryd.prog 7 #[.slice A rs.length c] w (VSorted rs w) := by
  obtain ⟨i0, hi, hz0, hz1, hz2⟩ := info_parts info28
  have H1 := Lib.hid (fun w' (h : Below w.heap.size w w') => places_any rs A c w' (ha.after h) (fun r hr => by have := hs r hr; omega) hm)
  have HA := Lib.hid ha
  have HS := Lib.hid hs
  clear ha hs
  obtain ⟨n, hn⟩ : ∃ n, n = rs.length := ⟨_, rfl⟩
  rw [← hn] at H1 hm ⊢
  have HN := Lib.hid hn
  clear hn
  go_enter Tryd.func7, Tryd.ntmps7
  go_wp2_with (at_make; refine wpList_make_full _ rfl _ _ 22 rfl w.heap.size 28 i0 (.slice none 0 0) 1 Tryd.underlying22 hi hz0 hz1 _ _ _ _ n rfl rfl rfl rfl (by rw [hz2]; omega) (by unfold maxLen; omega) (Nat.le_refl _) ?_)
  intro w2 hown2 hgrow2
  have hb2 := (Below.refl w.heap.size w).grown hgrow2 (Nat.le_refl _) (by simp)
  have HO := Lib.hid (out_made hown2)
  have HB := Lib.hid hb2
  clear hown2 hgrow2 hb2
  go_wp2_with fail
  refine (H1.out w2 HB.out).mono ?_
  rintro e w3 ⟨rfl, hb3, hg3, hk3⟩
  have hlt : w.heap.size < w2.heap.size := (Array.getElem?_eq_some_iff.1 HO.out.1).1
  have HO3 := Lib.hid (HO.out.later hb3)
  have HB3 := Lib.hid (bthen HB.out hb3)
  have HG3 := Lib.hid hg3
  have HK3 := Lib.hid hk3
  clear HO HB hb3 hg3 hk3 H1
  generalize hg2 : w2.heap.size = g2 at *
  clear hg2
  go_wp2_with fail
  go_loopw [12] (fun i wr => ∃ (k : Nat) (outs : List R), k ≤ n ∧ i = .int .i64 k ∧ Hid (outs.length = k) ∧ Hid (OutAt w.heap.size n outs wr) ∧ Hid (keys outs = (srt rs).take k) ∧ Below w.heap.size w wr ∧ Hid (wr.heap[g2]? = some (.cells ((plc rs).map (Value.int .i64)) 3 (0, 0)))) (fun i _ => n - (intOf i).toNat)
  case atStart => exact ⟨0, [], Nat.zero_le _, rfl, rfl, HO3, rfl, HB3.out, HG3⟩
  case round =>
    clear HO3 HB3 HG3
    obtain ⟨k, outs, hk, rfl, HL, HO, HK, hb, HG⟩ := hrel
    by_cases hltk : k < n
    · obtain ⟨kp, cp, hkp, sp⟩ := place_at HG.out HK3.out (j := k) (by rw [← HN.out]; exact hltk)
      obtain ⟨ga, oa, hA, hal, hca⟩ := HA.out.1 (by omega)
      subst hA
      have d1 := (hb.cell (p := ⟨ga, _, none⟩) hal).trans (hca kp hkp)
      have ikp : (kp : Int) < n := by have := HN.out; omega
      have hgw : w.heap.size < wr.heap.size := (Array.getElem?_eq_some_iff.1 HO.out.1).1
      have hcall := clone_any rs[kp].xs rs[kp].A rs[kp].c w.heap.size wr ((HA.out.2 rs[kp] (List.getElem_mem hkp)).later hb) (HS.out rs[kp] (List.getElem_mem hkp)) hgw
      have HX := Lib.hid hcall
      have HSP := Lib.hid sp
      clear hca hcall sp
      unfold R.val at d1
      generalize rs[kp] = ra at *
      go_wp2_with fail
      refine HX.out.mono ?_
      rintro e w4 ⟨A4, c4, rfl, hr4, hb4⟩
      have HO4 := Lib.hid (HO.out.later hb4)
      have c1 := HO4.out.cell HL.out hltk
      have f1 := HO4.out.free (k := k)
      have HO5 := Lib.hid (HO4.out.set (c := c4) HL.out hltk hr4)
      have HG4 : Hid (w4.heap[g2]? = some (.cells ((plc rs).map (Value.int .i64)) 3 (0, 0))) := (hb4.block _ (Array.getElem?_eq_some_iff.1 HG.out).1).trans HG.out
      have HG5 := Lib.hid (placed_set (g := w.heap.size) (k := k) (v := .slice A4 ra.xs.length c4) HG4.out (by omega))
      have hb5 := (hb.trans (hb4.mono hb.size)).setCell (p := ⟨w.heap.size, k, none⟩) (Nat.le_refl _) (.slice A4 ra.xs.length c4)
      clear hr4 hb4 HO HO4 HG HG4
      go_wp2_with fail
      go_roundw
      case rel => exact ⟨k + 1, _, by omega, by go_num, by show _ = _; rw [List.length_append, HL.out]; rfl, HO5, keys_step HK.out HSP.out, hb5, HG5⟩
      case measure => simp [intOf]; omega
    · obtain rfl : k = n := by omega
      go_wp2_with fail
      go_ret
      have h1 := HO.out.1
      rw [HL.out, Nat.sub_self, List.replicate_zero, List.append_nil] at h1
      have h2 := HK.out
      rw [List.take_of_length_le (by rw [srt_len, ← HN.out]; omega)] at h2
      exact ⟨outs, by rw [← HN.out]; rfl, h2, h1, HO.out.2, hb⟩
end Go.Proofs.YtkmnlfbllfaieaaDoor
