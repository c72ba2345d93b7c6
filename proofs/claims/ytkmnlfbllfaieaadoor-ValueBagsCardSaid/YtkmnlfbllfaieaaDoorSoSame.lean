/- Contract of value.SameBag: whether two bags are the same. Conditions: no more than a million rows, no row longer than 2 to the 47. -/
import Derived.Test.YtkmnlfbllfaieaaDoorSoRBag
namespace Go.Proofs.YtkmnlfbllfaieaaDoor
open Go.RowKit
theorem placed_cell {W : World} {g : Nat} {d : Array Int} (h : W.heap[g]? = some (.cells (d.map (Value.int .i64)) 3 (0, 0))) {j : Nat} (hj : j < d.size) : W.cell? ⟨g, j, none⟩ = some (.int .i64 d[j]!) := by
  rw [Lib.cell_of_heap h]
  simp [hj]
/-- At a place of the order stands a row. -/
theorem place_at {rs : List R} {W : World} {g j : Nat} (h : W.heap[g]? = some (.cells ((plc rs).map (Value.int .i64)) 3 (0, 0))) (hk : Kept (InBag rs.length) rs.length (plc rs)) (hj : j < rs.length) :
    ∃ k : Nat, W.cell? ⟨g, j, none⟩ = some (.int .i64 k) ∧ ∃ h : k < rs.length, (srt rs)[j]? = some rs[k].xs := by
  obtain ⟨k, e, hkn, h2⟩ := plc_get hk hj
  refine ⟨k, ?_, hkn, ?_⟩
  · rw [← e]; exact placed_cell h (by rw [plc_size]; exact hj)
  · rw [← h2]; exact List.getElem?_eq_getElem _
theorem srt_snoc {ls ms : List R} {k : Nat} {x y : List V} (hx : (srt ls)[k]? = some x) (hy : (srt ms)[k]? = some y) (h : (srt ls).take k = (srt ms).take k) (e : x = y) : (srt ls).take (k + 1) = (srt ms).take (k + 1) := by
  rw [List.take_add_one, List.take_add_one, h, hx, hy, e]
theorem srt_ne {ls ms : List R} {k : Nat} {x y : List V} (hx : (srt ls)[k]? = some x) (hy : (srt ms)[k]? = some y) (e : x ≠ y) : srt ls ≠ srt ms := fun h => e (by
  rw [h, hy] at hx
  exact (Option.some.inj hx).symm)
theorem srt_all {ls ms : List R} {n : Nat} (hx : n = ls.length) (hy : n = ms.length) (h : (srt ls).take n = (srt ms).take n) : srt ls = srt ms := by
  rw [List.take_of_length_le (by rw [srt_len]; omega), List.take_of_length_le (by rw [srt_len]; omega)] at h
  exact h
set_option maxRecDepth 100000 in
set_option maxHeartbeats 2000000 in
theorem sameBag_any (ls ms : List R) (A A' : Option Addr) (c c' : Nat) (w : World) (ha : RowsAt w w.heap.size A ls) (hb : RowsAt w w.heap.size A' ms) (hs : RowsOk ls) (hs' : RowsOk ms) (hm : ls.length ≤ 1000000) (hm' : ms.length ≤ 1000000) :
    Calls Tryd.prog 10 #[.slice A ls.length c, .slice A' ms.length c'] w fun e w' => e = .returned (.bool (same (srt ls) (srt ms))) ∧ Below w.heap.size w w' := by
  have H1 := Lib.hid (fun w' (h : Below w.heap.size w w') => places_any ls A c w' (ha.after h) hs hm)
  have H2 := Lib.hid (places_any ms A' c' w hb hs' hm')
  have HA := Lib.hid ha
  have HB := Lib.hid hb
  have HS := Lib.hid hs
  clear ha hb hs hs'
  obtain ⟨n, hn⟩ : ∃ n, n = ls.length := ⟨_, rfl⟩
  obtain ⟨m, hn'⟩ : ∃ m, m = ms.length := ⟨_, rfl⟩
  rw [← hn] at H1 hm ⊢
  rw [← hn'] at H2 ⊢
  have HN := Lib.hid hn
  have HM := Lib.hid hn'
  clear hn hn' hm'
  by_cases hnm : n = m
  · subst hnm
    have hne : (((n : Int) != (n : Int)) = false) := by simp
    go_enter Tryd.func10, Tryd.ntmps10
    go_wp2_with fail
    refine H2.out.mono ?_
    rintro e w1 ⟨rfl, hb1, hg1, hk1⟩
    have HB1 := Lib.hid hb1
    have HG1 := Lib.hid hg1
    have HK1 := Lib.hid hk1
    have hlt1 : w.heap.size < w1.heap.size := (Array.getElem?_eq_some_iff.1 hg1).1
    clear hb1 hg1 hk1
    go_wp2_with fail
    refine (H1.out w1 HB1.out).mono ?_
    rintro e w2 ⟨rfl, hb2, hg2, hk2⟩
    have HA2 := Lib.hid (HA.out.after (bthen HB1.out hb2))
    have HB2 := Lib.hid (HB.out.after (bthen HB1.out hb2))
    have HW2 := Lib.hid (bthen HB1.out hb2)
    have HG2 := Lib.hid hg2
    have HK2 := Lib.hid hk2
    have HG1' : Hid (w2.heap[w.heap.size]? = some (.cells ((plc ms).map (Value.int .i64)) 3 (0, 0))) := (hb2.block _ hlt1).trans HG1.out
    have hlt2 : w1.heap.size < w2.heap.size := (Array.getElem?_eq_some_iff.1 hg2).1
    clear hb2 hg2 hk2 HG1 HA HB H1 H2 HB1
    generalize hg1 : w.heap.size = g1 at *
    generalize w1.heap.size = g2 at *
    go_wp2_with fail
    go_loopw [18] (fun i wr => ∃ k : Nat, k ≤ n ∧ i = .int .i64 k ∧ Below w2.heap.size w2 wr ∧ Hid ((srt ls).take k = (srt ms).take k)) (fun i _ => n - (intOf i).toNat)
    case atStart => exact ⟨0, Nat.zero_le _, rfl, Below.refl _ _, rfl⟩
    case round =>
      obtain ⟨k, hk, rfl, hb, heq⟩ := hrel
      by_cases hlt : k < n
      · obtain ⟨ka, ca, hka, sa⟩ := place_at HG2.out HK2.out (j := k) (by rw [← HN.out]; exact hlt)
        obtain ⟨kb, cb, hkb, sb⟩ := place_at HG1'.out HK1.out (j := k) (by rw [← HM.out]; exact hlt)
        have d3 := (hb.cell (p := ⟨g2, k, none⟩) hlt2).trans ca
        have d4 := (hb.cell (p := ⟨g1, k, none⟩) (by show g1 < _; omega)).trans cb
        obtain ⟨ga, oa, hA, hal, hca⟩ := HA2.out.1 (by omega)
        obtain ⟨gb, ob, hB, hbl, hcb⟩ := HB2.out.1 (by omega)
        subst hA hB
        have d1 := (hb.cell (p := ⟨ga, _, none⟩) hal).trans (hca ka hka)
        have d2 := (hb.cell (p := ⟨gb, _, none⟩) hbl).trans (hcb kb hkb)
        have hcall := cmpR_any ls[ka].xs ms[kb].xs ls[ka].A ms[kb].A ls[ka].c ms[kb].c wr.drew ((HA2.out.2 ls[ka] (List.getElem_mem hka)).later hb.drew) ((HB2.out.2 ms[kb] (List.getElem_mem hkb)).later hb.drew) (by have := HS.out ls[ka] (List.getElem_mem hka); omega)
        have ika : (ka : Int) < n := by have := HN.out; omega
        have ikb : (kb : Int) < n := by have := HM.out; omega
        have HX := Lib.hid hcall
        clear hca hcb ca cb hcall
        by_cases h0 : cmpR ls[ka].xs ms[kb].xs = 0
        · have HT := Lib.hid (srt_snoc sa sb heq.out ((cmpR_ok.zero _ _).1 h0))
          rw [h0] at HX
          clear h0 sa sb
          unfold R.val at d1 d2
          generalize ls[ka] = ra at *
          generalize ms[kb] = rb at *
          go_wp2_with fail
          go_still_tail 11, (by kernel_rfl)
          change wpList _ _ _ _ _ wr.drew
          go_wp2_with fail
          refine HX.out.mono ?_
          rintro e w3 ⟨rfl, hb3⟩
          go_wp2_with fail
          go_roundw
          case rel => exact ⟨k + 1, by omega, by go_num, hb.drew.trans (hb3.mono hb.size), HT.out⟩
          case measure => simp [intOf]; omega
        · have HF := Lib.hid (same_no (srt_ne sa sb fun e => h0 ((cmpR_ok.zero _ _).2 e)))
          clear sa sb
          unfold R.val at d1 d2
          generalize hr : cmpR ls[ka].xs ms[kb].xs = r at *
          clear hr
          generalize ls[ka] = ra at *
          generalize ms[kb] = rb at *
          have h1 : (r != 0) = true := by simpa using h0
          clear h0
          go_wp2_with fail
          go_still_tail 11, (by kernel_rfl)
          change wpList _ _ _ _ _ wr.drew
          go_wp2_with fail
          refine HX.out.mono ?_
          rintro e w3 ⟨rfl, hb3⟩
          go_wp2_with fail
          go_ret
          exact ⟨by rw [HF.out]; rfl, by rw [hg1]; exact HW2.out.trans ((hb.drew.trans (hb3.mono hb.size)).mono (by omega))⟩
      · obtain rfl : k = n := by omega
        have HT := Lib.hid (same_yes (srt_all HN.out HM.out heq.out))
        go_wp2_with fail
        go_ret
        exact ⟨by rw [HT.out]; rfl, by rw [hg1]; exact HW2.out.trans (hb.mono (by omega))⟩
  · have hf : same (srt ls) (srt ms) = false := same_no fun h => hnm (by have := congrArg List.length h; rw [srt_len, srt_len] at this; rw [HN.out, HM.out]; exact this)
    have hne : (((n : Int) != (m : Int)) = true) := by simp; omega
    have HF := Lib.hid hf
    clear hf hnm
    go_enter Tryd.func10, Tryd.ntmps10
    go_wp2_with fail
    go_ret
    exact ⟨by rw [HF.out]; rfl, Below.refl _ _⟩
end Go.Proofs.YtkmnlfbllfaieaaDoor
