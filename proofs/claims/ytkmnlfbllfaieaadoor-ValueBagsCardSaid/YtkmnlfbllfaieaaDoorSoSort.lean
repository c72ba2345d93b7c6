/- Contract of slices.SortFunc at a bound method. Conditions: the comparison is an order, the slice is the whole row. -/
import Derived.Test.YtkmnlfbllfaieaaDoorSoPdq
namespace Go.Proofs.YtkmnlfbllfaieaaDoor
open Go.RowKit Go.Sort
theorem pdq_any (w : World) (b c n : Nat) (P : Int → Prop) (cf : Int → Int → Int) (rv : Value) (hc : CmpOf w b P cf rv) (hS : SWO (ltOf cf)) (hbw : b < w.heap.size) (hm : n ≤ 140737488355328) (len : Nat) : PdqOk w b c n P cf rv len := by
  induction len using Nat.strongRecOn with
  | _ len ih => exact pdq_step w b c n P cf rv hc hS hbw hm len ih
set_option maxHeartbeats 2000000 in
theorem sortFunc_any (w : World) (b c n : Nat) (P : Int → Prop) (cf : Int → Int → Int) (rv : Value) (hc : CmpOf w b P cf rv) (hS : SWO (ltOf cf)) (hbw : b < w.heap.size) (hm : n ≤ 140737488355328) (d : Array Int) (hn : d.size = n) (h : SW w b d w) (hP : ∀ j, j < n → P d[j]!) :
    Calls Tryd.prog 36 #[.slice (some ⟨b, 0, none⟩) n c, .func (.func 37) #[rv] #[]] w fun e w' => e = .returned (.tuple #[]) ∧ SW w b (Sort.sort (ltOf cf) d) w' ∧ Kept P n (Sort.sort (ltOf cf) d) := by
  have hl : bitsLen n ≤ 64 := (bitsLen_le_iff n 64).2 (by omega)
  have HQ := Lib.hid (pdq_any w b c n P cf rv hc hS hbw hm n 0 n (bitsLen n) d w (by omega) hn h hP (Nat.zero_le _) (Nat.le_refl _) hl (Or.inl rfl))
  have HT : Hid (Sort.pdq (ltOf cf) d 0 n (bitsLen n) true true = Sort.sort (ltOf cf) d) := by
    show _ = _
    unfold Sort.sort
    rw [hn]
  have hLen : ∀ w, Calls Tryd.prog 49 #[.int .u64 (n : Int)] w fun e w' => e = .returned (.int .i64 (bitsLen n : Nat)) ∧ w' = w := fun w => by
    have h := Tryd.bits_Len (n : Int) w (by omega) (by omega)
    rwa [Int.toNat_natCast, bitLen_eq _ (by omega)] at h
  have wr : IntKind.u64.wrap (n : Int) = n := by rw [IntKind.wrap_u64]; omega
  clear h hc hS hP hn
  go_enter Tryd.func36, Tryd.ntmps36
  go_wp2_with (go_at_call 49; refine (hLen _).mono ?_; rintro e w' ⟨rfl, rfl⟩)
  refine HQ.out.mono ?_
  rintro e w2 ⟨rfl, h2⟩
  have H2 := Lib.hid h2
  clear h2
  go_wp2_with fail
  go_end0
  rw [← HT.out]
  exact ⟨rfl, H2.out⟩
end Go.Proofs.YtkmnlfbllfaieaaDoor
