/- Contract of slices.order2CmpFunc at a bound method. Condition: the two places are in the row. -/
import Derived.Test.YtkmnlfbllfaieaaDoorSoKit
namespace Go.Proofs.YtkmnlfbllfaieaaDoor
open Go.RowKit
def SPT (w : World) (b : Nat) (d : Array Int) (p s : Nat) : Type := { X : World // SW w b d X ∧ PBox w p s X }
def OrdPost (w : World) (b : Nat) (d : Array Int) (p : Nat) (r : Nat × Nat × Nat) (e : Ending) (w' : World) : Prop := e = .returned (.tuple #[.int .i64 r.1, .int .i64 r.2.1]) ∧ SW w b d w' ∧ PBox w p r.2.2 w'
set_option maxRecDepth 100000 in
set_option maxHeartbeats 2000000 in
theorem order2_any (w : World) (b c n : Nat) (P : Int → Prop) (cf : Int → Int → Int) (rv : Value) (hc : CmpOf w b P cf rv) (hbw : b < w.heap.size) (d : Array Int) (W : World) (hn : d.size = n) (_hm : n ≤ 140737488355328) (h : SW w b d W) (hP : ∀ j, j < n → P d[j]!) (i j : Nat) (hi : i < n) (hj : j < n) (p s : Nat) (hp : PBox w p s W) (hs : s ≤ 100) :
    Calls Tryd.prog 84 #[.slice (some ⟨b, 0, none⟩) n c, .int .i64 i, .int .i64 j, .pointer (some ⟨p, 0, none⟩), .func (.func 37) #[rv] #[]] W (OrdPost w b d p (Sort.order2 (ltOf cf) d i j s)) := by
  have hbi : (i : Int) < (n : Int) := by omega
  have hbj : (j : Int) < (n : Int) := by omega
  have HC := Lib.hid (fun X (hX : SW w b d X) => hc d X hX d[j]! d[i]! (hP j hj) (hP i hi))
  have H := Lib.hid h
  have HP := Lib.hid hp
  have H1 := Lib.hid (fun (x : SPT w b d p s) => x.2.1.cell i (by omega))
  have H2 := Lib.hid (fun (x : SPT w b d p s) => x.2.1.cell j (by omega))
  have HO : Hid (Sort.order2 (ltOf cf) d i j s = if decide (cf d[j]! d[i]! < 0) = true then (j, i, s + 1) else (i, j, s)) := rfl
  clear h hP hc hp
  generalize Sort.order2 (ltOf cf) d i j s = R at *
  generalize d[i]! = vi at *
  generalize d[j]! = vj at *
  generalize cf vj vi = r at *
  by_cases hr : r < 0
  all_goals
    go_enter Tryd.func84, Tryd.ntmps84
    go_wp2_with fail
    have HNE : Nonempty (SPT w b d p s) := ⟨⟨_, H.out, HP.out⟩⟩
    have f1 := H1.out
    have f2 := H2.out
    refine wp_region_class (fun w' => ∃ x : SPT w b d p s, w' = x.1) (by kernel_rfl) (by kernel_rfl) ⟨⟨_, H.out.drew, HP.out⟩, rfl⟩ ?_
    repeat (go_big_quiet_step ((rename_i x; (go_at_call 37; refine (HC.out _ x.2.1).mono ?_; rintro e w2 ⟨rfl, hb⟩; exact ⟨rfl, ⟨_, x.2.1.call hb, x.2.2.call hb⟩, rfl⟩))))
    refine wpQuiet_nil ?_
    rintro _ ⟨⟨W1, h1, hp1⟩, rfl⟩
    have HR := Lib.hid h1
    have HQ := Lib.hid hp1
    obtain ⟨p0, p1⟩ := hp1.cell
    clear f1 f2 h1 hp1
    go_wp2_with fail
    go_ret2
    first
    | exact ⟨by rw [HO.out, if_pos (by simpa using hr)]; rfl, HR.out.setOut hbw HQ.out.1 _, by rw [HO.out, if_pos (by simpa using hr)]; exact HQ.out.set (by simp)⟩
    | exact ⟨by rw [HO.out, if_neg (by simpa using hr)]; rfl, HR.out, by rw [HO.out, if_neg (by simpa using hr)]; exact HQ.out⟩
end Go.Proofs.YtkmnlfbllfaieaaDoor
