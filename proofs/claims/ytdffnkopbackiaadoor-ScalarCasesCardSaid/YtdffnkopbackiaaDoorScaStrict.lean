/- Contract of scalar's strict: whether values are of the Kinds wanted, and whether one is NULL. Conditions: at most three values, all of which may be. -/
import Derived.Test.YtdffnkopbackiaaDoorScaMay
import Derived.Deep.QuietTactic
import Derived.BigQuiet
namespace Go.Proofs.YtdffnkopbackiaaDoor
open Go.RowKit
def fitsK (m k : Int) : Bool := (m == 4 && k == 2) || (m == 8 && k == 3) || (m == 24 && (k == 3 || k == 4))
def okK (ks : List Int) (xs : List V) : Bool := (ks.zip xs).all fun p => p.2.k == 0 || fitsK p.1 p.2.k
def nulB (xs : List V) : Bool := xs.any fun v => v.k == 0
def stE (ks : List Int) (xs : List V) : Int := if okK ks xs then 0 else 20
def stN (ks : List Int) (xs : List V) : Bool := okK ks xs && nulB xs
theorem zip_take_right {α β : Type} : ∀ (j : Nat) (l : List α) (m : List β), l.zip (m.take j) = (l.zip m).take j
  | 0, _, _ => by simp
  | _ + 1, [], _ => by simp
  | _ + 1, _ :: _, [] => by simp
  | j + 1, a :: l, b :: m => by simp [zip_take_right j l m]
theorem okK_snoc {ks : List Int} {xs : List V} {k : Nat} (h1 : k < ks.length) (h2 : k < xs.length) : okK ks (xs.take (k + 1)) = (okK ks (xs.take k) && (xs[k].k == 0 || fitsK ks[k] xs[k].k)) := by
  unfold okK
  rw [zip_take_right, zip_take_right]
  have hz : k < (ks.zip xs).length := by simp; omega
  rw [List.take_succ_eq_append_getElem hz, List.all_append]
  simp
theorem okK_no {ks : List Int} {xs : List V} {k : Nat} (h1 : k < ks.length) (h2 : k < xs.length) (h : (xs[k].k == 0 || fitsK ks[k] xs[k].k) = false) : okK ks xs = false := by
  unfold okK
  rw [List.all_eq_false]
  exact ⟨(ks[k], xs[k]), by rw [List.mem_iff_getElem]; exact ⟨k, by simp; omega, by simp⟩, by simpa using h⟩
theorem nulB_snoc {xs : List V} {k : Nat} (h : k < xs.length) : nulB (xs.take (k + 1)) = (nulB (xs.take k) || xs[k].k == 0) := by
  unfold nulB
  rw [List.take_succ_eq_append_getElem h, List.any_append]
  simp
theorem kinds_of {v : V} (h : v.chk = 0) : v.k = 0 ∨ v.k = 1 ∨ v.k = 2 ∨ v.k = 3 ∨ v.k = 4 := by
  unfold V.chk chkI mayB at h
  by_cases h0 : v.k = 0
  · omega
  by_cases h1 : v.k = 1
  · omega
  by_cases h2 : v.k = 2
  · omega
  by_cases h3 : v.k = 3
  · omega
  by_cases h4 : v.k = 4
  · omega
  simp [h0, h1, h2, h3, h4] at h
theorem st_bad {ks : List Int} {xs : List V} (h : okK ks xs = false) : Ending.returned (.tuple #[.bool false, .int .i64 20]) = .returned (.tuple #[.bool (stN ks xs), .int .i64 (stE ks xs)]) := by
  unfold stN stE; rw [h]; rfl
theorem st_good {ks : List Int} {xs : List V} {n : Nat} {b : Bool} (hn : n = xs.length) (h : okK ks (xs.take n) = true) (h' : b = nulB (xs.take n)) : Ending.returned (.tuple #[.bool b, .int .i64 0]) = .returned (.tuple #[.bool (stN ks xs), .int .i64 (stE ks xs)]) := by
  subst hn
  rw [List.take_length] at h h'
  unfold stN stE; rw [h, h']; rfl
theorem below_drewN {B : Nat} {w w' : World} (h : Below B w w') (n : Nat) : Below B w (w'.drewN n) := ⟨h.os, h.tape, h.output, h.size, h.block⟩
theorem box_below {w w' : World} {o : Obj} (h : Below (w.heap.size + 1) (w.alloc o) w') : Below w.heap.size w w' := ((Below.refl _ w).alloc (Nat.le_refl _) o).trans (h.mono (by omega))
def KindOk (m : Int) : Prop := m = 4 ∨ m = 8 ∨ m = 24
set_option maxRecDepth 100000 in
set_option maxHeartbeats 4000000 in
theorem strict_any (k0 k1 k2 : Int) (xs : List V) (A : Option Addr) (c : Nat) (w : World) (hr : RowAt w w.heap.size A xs) (h3 : xs.length ≤ 3) (hk : ∀ j (h : j < xs.length), KindOk ([k0, k1, k2][j]'(by simp; omega))) (hok : allOk xs = true) :
    Calls Tryd.prog 24 #[.agg #[.int .u64 k0, .int .u64 k1, .int .u64 k2], .slice A xs.length c] w fun e w' => e = .returned (.tuple #[.bool (stN [k0, k1, k2] xs), .int .i64 (stE [k0, k1, k2] xs)]) ∧ Below w.heap.size w w' := by
  obtain ⟨n, hn⟩ : ∃ n, n = xs.length := ⟨_, rfl⟩
  have HN := Lib.hid hn
  rw [← hn] at h3 ⊢
  have HK := Lib.hid hk
  have HO := Lib.hid hok
  have HR := Lib.hid hr
  clear hr hn hk hok
  go_enter Tryd.func24, Tryd.ntmps24
  go_wp2_with fail
  go_loopw [10, 4] (fun i s wr => ∃ (k : Nat) (b : Bool), k ≤ n ∧ i = .int .i64 k ∧ s = .bool b ∧ Hid (Below (w.heap.size + 1) (w.alloc (.cells #[.int .u64 k0, .int .u64 k1, .int .u64 k2] 53)) wr) ∧ Hid (okK [k0, k1, k2] (xs.take k) = true ∧ b = nulB (xs.take k))) (fun i _ _ => n - (intOf i).toNat)
  case atStart => exact ⟨0, false, Nat.zero_le _, rfl, rfl, by have := Below.refl (w.heap.size + 1) (w.alloc (.cells #[.int .u64 k0, .int .u64 k1, .int .u64 k2] 53)); exact this, ⟨by unfold okK; simp, rfl⟩⟩
  case round =>
    obtain ⟨k, b, hk, rfl, rfl, HB, HI⟩ := hrel
    by_cases hlt : k < n
    · have hkx : k < xs.length := by rw [← HN.out]; exact hlt
      obtain ⟨g, off, hA, hbl, hc⟩ := HR.out (by omega)
      subst hA
      obtain ⟨c1, c2, c3⟩ := hc k hkx
      have hm := HK.out k hkx
      have hv := kinds_of (show xs[k].chk = 0 by have := HO.out; unfold allOk at this; rw [List.all_eq_true] at this; simpa using this _ (List.getElem_mem hkx))
      have hsn := okK_snoc (ks := [k0, k1, k2]) (xs := xs) (k := k) (by simp; omega) hkx
      have hno := okK_no (ks := [k0, k1, k2]) (xs := xs) (k := k) (by simp; omega) hkx
      have hnu := nulB_snoc hkx
      have hs1 : (w.alloc (.cells #[.int .u64 k0, .int .u64 k1, .int .u64 k2] 53)).heap.size = w.heap.size + 1 := by simp
      have ce : ∀ o, (w.alloc (.cells #[.int .u64 k0, .int .u64 k1, .int .u64 k2] 53)).cell? ⟨g, o, none⟩ = w.cell? ⟨g, o, none⟩ := fun o => World.cell?_alloc_lt _ _ _ hbl
      have d1 := ((HB.out.cell (p := ⟨g, _, none⟩) (by show g < _; omega)).trans (ce _)).trans c1
      have d2 := ((HB.out.cell (p := ⟨g, _, none⟩) (by show g < _; omega)).trans (ce _)).trans c2
      have d3 := ((HB.out.cell (p := ⟨g, _, none⟩) (by show g < _; omega)).trans (ce _)).trans c3
      have hnb : (w.alloc (.cells #[.int .u64 k0, .int .u64 k1, .int .u64 k2] 53)).heap[w.heap.size]? = some (.cells #[.int .u64 k0, .int .u64 k1, .int .u64 k2] 53 (0, 0)) := heap_alloc_new w _
      have d4 : wr.cell? ⟨w.heap.size, k, none⟩ = some (.int .u64 ([k0, k1, k2][k]'(by simp; omega))) := by
        rw [HB.out.cell (p := ⟨w.heap.size, k, none⟩) (by show w.heap.size < _; omega), Lib.cell_of_heap hnb]
        have : k = 0 ∨ k = 1 ∨ k = 2 := by omega
        rcases this with h | h | h <;> (subst h; rfl)
      have hsz : w.heap.size < wr.heap.size := by have := HB.out.size; omega
      clear c1 c2 c3 hc ce hs1 hnb
      generalize xs[k].k = vk at *
      generalize xs[k].i = vi at *
      generalize xs[k].s = vs at *
      generalize [k0, k1, k2][k]'(by simp; omega) = m at *
      have HS := Lib.hid hsn
      have HX := Lib.hid hno
      have HU := Lib.hid hnu
      clear hsn hno hnu
      rcases hv with rfl | hv
      · go_wp2_with fail
        go_roundw
        case rel => exact ⟨k + 1, true, by omega, by go_num, rfl, (HB.out.alloc (by omega) _), ⟨by rw [HS.out, HI.out.1]; rfl, by rw [HU.out]; simp⟩⟩
        case measure => simp [intOf]; omega
      · have hv0 : (vk == 0) = false := by simp; omega
        rcases hm with rfl | rfl | rfl <;> rcases hv with rfl | rfl | rfl | rfl
        all_goals
          clear hv0
          go_wp2_with fail
          go_quiet (fail)
          go_wp2_with fail
          first
          | (go_ret2; exact ⟨st_bad (HX.out (by rfl)), box_below (below_drewN (HB.out.alloc (by omega) _) _)⟩)
          | (go_roundw
             case rel => exact ⟨k + 1, b, by omega, by go_num, rfl, (below_drewN (HB.out.alloc (by omega) _) _), ⟨by rw [HS.out, HI.out.1]; rfl, by rw [HU.out, ← HI.out.2]; simp⟩⟩
             case measure => simp [intOf]; omega)
    · obtain rfl : k = n := by omega
      go_wp2_with fail
      go_ret2
      exact ⟨st_good HN.out HI.out.1 HI.out.2, box_below HB.out⟩
end Go.Proofs.YtdffnkopbackiaaDoor
