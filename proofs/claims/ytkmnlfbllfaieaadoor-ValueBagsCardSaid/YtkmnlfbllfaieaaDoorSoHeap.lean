/- Contract of slices.heapSortCmpFunc at a bound method. Condition: the range is in the row. Written by gen/genheap.py. -/
import Derived.Test.YtkmnlfbllfaieaaDoorSoSift
import Derived.Sort.WalkB3
namespace Go.Proofs.YtkmnlfbllfaieaaDoor
open Go.RowKit Go.Sort
set_option maxRecDepth 100000 in
set_option maxHeartbeats 8000000 in
theorem heap_any (w : World) (b c n : Nat) (P : Int → Prop) (cf : Int → Int → Int) (rv : Value) (hc : CmpOf w b P cf rv) (d : Array Int) (W : World) (hn : d.size = n) (hm : n ≤ 140737488355328) (h : SW w b d W) (hP : ∀ j, j < n → P d[j]!) (lo hi : Nat) (hlo : lo ≤ hi) (hhi : hi ≤ n) :
    Calls Tryd.prog 56 #[.slice (some ⟨b, 0, none⟩) n c, .int .i64 lo, .int .i64 hi, .func (.func 37) #[rv] #[]] W fun e w' => e = .returned (.tuple #[]) ∧ SW w b (Sort.heapSort (ltOf cf) d lo hi) w' ∧ Kept P n (Sort.heapSort (ltOf cf) d lo hi) := by
  have S := Lib.hid h
  have HP := Lib.hid hP
  have SF := Lib.hid (fun d hn W h hP l h' f h1 h2 => sift_any w b c n P cf rv hc d W hn hm h hP l h' f h1 h2)
  have ecast : ((hi - lo : Nat) : Int) = (hi : Int) - (lo : Int) := by omega
  clear h hc hP
  go_enter Tryd.func56, Tryd.ntmps56
  go_wp2
  go_loopg [11] ((hi - lo - 1) / 2 + 1) (fun kx s11 wr => s11 = .int .i64 ((kx : Int) - 1) ∧ kx ≤ (hi - lo - 1) / 2 + 1 ∧ ∃ (dk : Array Int), dk.size = n ∧ Hid (∀ j, j < n → P dk[j]!) ∧ Hid (SW w b dk wr) ∧ Hid (heapBuild (ltOf cf) (hi - lo) lo kx dk = heapBuild (ltOf cf) (hi - lo) lo ((hi - lo - 1) / 2 + 1) d))
  case atStart => exact ⟨by rw [half_start hlo], Nat.le_refl _, d, hn, HP, S, rfl⟩
  case round =>
    clear S HP
    obtain ⟨rfl, hkk, dk, hds, HP, S, HE⟩ := hrel
    cases gk with
    | zero =>
      have HB := Lib.hid HE.out
      clear HE hkk
      go_wp2
      go_loopg [12] (hi - lo) (fun kx s12 wr2 => s12 = .int .i64 ((kx : Int) - 1) ∧ kx ≤ hi - lo ∧ ∃ (dj : Array Int), dj.size = n ∧ Hid (∀ j, j < n → P dj[j]!) ∧ Hid (SW w b dj wr2) ∧ Hid (heapPop (ltOf cf) lo kx dj = heapPop (ltOf cf) lo (hi - lo) dk))
      case atStart => exact ⟨by rw [ecast], Nat.le_refl _, dk, hds, HP, S, rfl⟩
      case round =>
        clear S HP
        obtain ⟨rfl, hkk, dj, hdj, HP, S, HE2⟩ := hrel
        cases gk with
        | zero =>
          go_wp2
          go_end0
          have e : dj = Sort.heapSort (ltOf cf) d lo hi := by
            have h1 : dj = heapPop (ltOf cf) lo (hi - lo) dk := HE2.out
            have h2 : dk = heapBuild (ltOf cf) (hi - lo) lo ((hi - lo - 1) / 2 + 1) d := HB.out
            rw [Sort.heapSort, ← h2, ← h1]
          rw [← e]
          exact ⟨rfl, S.out, hdj, HP.out⟩
        | succ kx =>
          have ekx : ((kx + 1 : Nat) : Int) - 1 = (kx : Int) := by omega
          rw [ekx]
          go_wp2_with fail
          obtain ⟨i1, hi1⟩ : ∃ q, q = lo := ⟨_, rfl⟩
          have ei1 : ((lo : Int)).toNat = i1 := by omega
          have pi1 : (0 : Int) ≤ (lo : Int) := by omega
          have bi1 : (lo : Int) < (n : Int) := by omega
          have ri1 : IntKind.i64.wrap ((lo : Int)) = (lo : Int) := by rw [IntKind.wrap_i64]; omega
          obtain ⟨j1, hj1⟩ : ∃ q, q = lo + kx := ⟨_, rfl⟩
          have ej1 : ((lo : Int) + (kx : Int)).toNat = j1 := by omega
          have pj1 : (0 : Int) ≤ (lo : Int) + (kx : Int) := by omega
          have bj1 : (lo : Int) + (kx : Int) < (n : Int) := by omega
          have rj1 : IntKind.i64.wrap ((lo : Int) + (kx : Int)) = (lo : Int) + (kx : Int) := by rw [IntKind.wrap_i64]; omega
          obtain ⟨x1, hx1⟩ : ∃ x, x = dj[lo]! := ⟨_, rfl⟩
          obtain ⟨y1, hy1⟩ : ∃ x, x = dj[lo + kx]! := ⟨_, rfl⟩
          have T1 : Hid (SW w b (Sort.swp dj (lo) (lo + kx)) (World.setCell (World.setCell wr ⟨b, i1, none⟩ (.int .i64 y1)) ⟨b, j1, none⟩ (.int .i64 x1)).drew) := by rw [hi1, hj1, hx1, hy1]; exact (S.out.swp (lo) (lo + kx)).drew
          have c1a := S.out.cell (lo) (by omega)
          have c1b := S.out.cell (lo + kx) (by omega)
          have f1a := S.out.free (lo)
          have f1b := S.out.free (lo + kx)
          obtain ⟨u1, c1c⟩ := S.out.cell2 (lo) (lo + kx) (by omega) y1
          rw [← hj1, ← hi1] at c1c
          rw [← hx1, ← hi1] at c1a
          rw [← hy1, ← hj1] at c1b
          rw [← hi1] at f1a
          rw [← hj1] at f1b
          clear S hx1 hy1 hi1 hj1
          go_wp2_with fail
          go_big_region
          clear c1a c1b c1c f1a f1b
          generalize (World.setCell (World.setCell wr ⟨b, i1, none⟩ (.int .i64 y1)) ⟨b, j1, none⟩ (.int .i64 x1)).drew = V1 at T1 ⊢
          clear ei1 ej1
          have S := T1
          clear T1
          have hd2 : (Sort.swp dj lo (lo + kx)).size = n := by rw [size_swp]; exact hdj
          have C2 := Lib.hid (SF.out _ hd2 _ S.out (swpIn hdj HP.out (by omega) (by omega)) 0 kx lo (Nat.zero_le _) (by omega))
          clear S
          go_wp2_with fail
          refine C2.out.mono ?_
          rintro e w1 ⟨rfl, S3, hz, HZ⟩
          have HZ := Lib.hid HZ
          have S3 := Lib.hid S3
          clear C2
          go_wp2
          go_roundg kx
          case measure => omega
          case rel => exact ⟨by first | rfl | go_num | simp, by omega, _, hz, HZ, S3, HE2⟩
    | succ kx =>
      have C2 := Lib.hid (SF.out _ hds _ S.out HP.out kx (hi - lo) lo (by omega) (by omega))
      rw [ecast] at C2
      clear S
      have ekx : ((kx + 1 : Nat) : Int) - 1 = (kx : Int) := by omega
      rw [ekx]
      go_wp2_with fail
      refine C2.out.mono ?_
      rintro e w1 ⟨rfl, S3, hz, HZ⟩
      have HZ := Lib.hid HZ
      have S3 := Lib.hid S3
      clear C2
      go_wp2
      go_roundg kx
      case measure => omega
      case rel => exact ⟨by first | rfl | go_num | simp, by omega, _, hz, HZ, S3, HE⟩
end Go.Proofs.YtkmnlfbllfaieaaDoor
