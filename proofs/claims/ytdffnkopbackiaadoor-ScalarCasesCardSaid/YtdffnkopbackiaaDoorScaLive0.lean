/- What the law's own function live asks of Arith, substr, instr, Join and Arity. Condition: the library's one variable is there. -/
import Derived.Test.YtdffnkopbackiaaDoorScaCallA
import Derived.Test.YtdffnkopbackiaaDoorScaCallD
import Derived.Test.YtdffnkopbackiaaDoorScaArith2
import Derived.Test.YtdffnkopbackiaaDoorScaJoin
import Derived.Deep.Cut
import Derived.Deep.Quiet
namespace Go.Proofs.YtdffnkopbackiaaDoor
open Go.RowKit
def sV (s : ByteArray) : V := ⟨3, 0, s⟩
theorem int1_any (n : Int) (w : World) : Calls Tryd.prog 16 #[.int .i64 n] w fun e w' => e = .returned (.agg #[.int .i64 2, .int .i64 n, .string ⟨#[]⟩]) ∧ Below w.heap.size w w' := by
  go_enter Tryd.func16, Tryd.ntmps16
  go_wp2
  exact bodyPost_ret (v := .agg #[.int .i64 2, .int .i64 n, .string ⟨#[]⟩]) (by simp [results, Tryd.results16, go_sem]) rfl ⟨rfl, (Below.refl _ w).alloc (Nat.le_refl _) _⟩
theorem text1_any (s : ByteArray) (w : World) : Calls Tryd.prog 17 #[.string s] w fun e w' => e = .returned (.agg #[.int .i64 3, .int .i64 0, .string s]) ∧ Below w.heap.size w w' := by
  go_enter Tryd.func17, Tryd.ntmps17
  go_wp2
  exact bodyPost_ret (v := .agg #[.int .i64 3, .int .i64 0, .string s]) (by simp [results, Tryd.results17, go_sem]) rfl ⟨rfl, (Below.refl _ w).alloc (Nat.le_refl _) _⟩
theorem emp_e : emp ⟨#[]⟩ = true := by unfold emp; simp [Lib.toList_data]
theorem chk_n (n : Int) : (nV n).chk = 0 := by simp [V.chk, chkI, mayB, nV, emp_e]
theorem chk_s (s : ByteArray) : (sV s).chk = 0 := by simp [V.chk, chkI, mayB, sV]
theorem chk_z : zV.chk = 0 := by simp [V.chk, chkI, mayB, zV, emp_e]
theorem ar_int (op : ByteArray) (x y : Int) (h : ¬ opk op = 0) : arE op (nV x) (nV y) = numE (opk op) x y ∧ arV op (nV x) (nV y) = if numE (opk op) x y = 0 then nV (numR (opk op) x y) else zV :=
  ar_num h (by simp [allOk, chk_n]) (by simp [okK, nV, fitsK]) (by simp [nulB, nV])
theorem op_47 : opk ⟨#[47]⟩ = 4 := by unfold opk; simp only [Lib.toList_data]; rfl
theorem live_arith (w : World) : Calls Tryd.prog 10 #[.string ⟨#[47]⟩, .agg #[.int .i64 2, .int .i64 (-7), .string ⟨#[]⟩], .agg #[.int .i64 2, .int .i64 2, .string ⟨#[]⟩]] w fun e w' => e = .returned (.tuple #[.agg #[.int .i64 2, .int .i64 (-3), .string ⟨#[]⟩], .int .i64 0]) ∧ Below w.heap.size w w' := by
  have h := arith_any ⟨#[47]⟩ (nV (-7)) (nV 2) w (show In64 (-7) by unfold In64; omega) (show In64 2 by unfold In64; omega)
  obtain ⟨h1, h2⟩ := ar_int ⟨#[47]⟩ (-7) 2 (by rw [op_47]; omega)
  rw [op_47] at h1 h2
  rw [h1, h2] at h
  exact h
theorem live_substr (W : World) (H : Nat) (hA : Args W H [sV ⟨#[97, 98, 99, 100]⟩, nV 0, nV 2]) : Calls Tryd.prog 18 #[.string ⟨#[115, 117, 98, 115, 116, 114]⟩, .slice (some ⟨H, 0, none⟩) 3 3] W fun e w' => e = .returned (.tuple #[.agg #[.int .i64 3, .int .i64 0, .string ⟨#[97]⟩], .int .i64 0]) ∧ Below W.heap.size W w' :=
  call_substr _ _ _ (sV ⟨#[97]⟩) 0 H W hA (by simp [allOk, chk_n, chk_s]) (by simp [okK, nV, sV, fitsK]) (by simp [nulB, nV, sV])
    (fun W' h => substr_do (sV ⟨#[97, 98, 99, 100]⟩) 0 2 H W' (hA.later h) (by decide) (by unfold In64; omega) (by omega) (by omega))
theorem live_instr (W : World) (H : Nat) (hE : Env W) (hA : Args W H [sV ⟨#[97, 98, 99]⟩, sV ⟨#[99]⟩]) : Calls Tryd.prog 18 #[.string ⟨#[105, 110, 115, 116, 114]⟩, .slice (some ⟨H, 0, none⟩) 2 2] W fun e w' => e = .returned (.tuple #[.agg #[.int .i64 2, .int .i64 3, .string ⟨#[]⟩], .int .i64 0]) ∧ Below W.heap.size W w' :=
  call_instr _ _ (nV 3) 0 H W hA (by simp [allOk, chk_s]) (by simp [okK, sV, fitsK]) (by simp [nulB, sV])
    (fun W' h => instr_do (sV ⟨#[97, 98, 99]⟩) (sV ⟨#[99]⟩) H W' (hA.later h) (hE.later h) (by decide))
theorem live_join (w : World) : Calls Tryd.prog 14 #[.agg #[.int .i64 3, .int .i64 0, .string ⟨#[97]⟩], .agg #[.int .i64 3, .int .i64 0, .string ⟨#[98]⟩]] w fun e w' => e = .returned (.tuple #[.agg #[.int .i64 3, .int .i64 0, .string ⟨#[97, 98]⟩], .int .i64 0]) ∧ Below w.heap.size w w' := by
  have h := join_any (sV ⟨#[97]⟩) (sV ⟨#[98]⟩) w (by decide) (by decide)
  obtain ⟨h1, h2⟩ := jo_one (a := sV ⟨#[97]⟩) (b := sV ⟨#[98]⟩) (by simp [allOk, chk_s]) (by simp [okK, sV, fitsK]) (by simp [nulB, sV]) rfl
  rw [h1, h2] at h
  exact h
theorem live_arity (w : World) : Calls Tryd.prog 20 #[.string ⟨#[99, 111, 97, 108, 101, 115, 99, 101]⟩] w fun e w' => e = .returned (.tuple #[.int .i64 1, .int .i64 (-1), .bool true]) ∧ Below w.heap.size w w' := by
  have h := arity_any ⟨#[99, 111, 97, 108, 101, 115, 99, 101]⟩ w
  rw [look_coalesce] at h
  exact h
/-- One walk in the order of the text serves every order, of a region whose operations each yield one value in every world of a class, and leave the class. -/
theorem wp_region_class {P : Program} {id : Nat} {Q : Exit → Act → World → Prop} {a : Act} {w : World} {l : List Oper} (C : World → Prop) (hm : P.follows .mixedOrders = true) (hB : Region.lexB .any l.toArray = true) (hC : C w.drew) (h : wpQuiet P l.toArray C (fun a' => ∀ w', C w' → Q .normal a' w') l a) : (Code.region id l.toArray true).wp P Q a w :=
  wp_region_quiet (C := C) hm hB hC (by simpa using h)
def HVT (w : World) (l : List (Nat × V)) : Type := { W : World // HV w l W }
end Go.Proofs.YtdffnkopbackiaaDoor
