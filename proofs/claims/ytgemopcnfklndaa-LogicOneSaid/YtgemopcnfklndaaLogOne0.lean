/- The walk of the law LogicOne: it answers true, whatever two values. Conditions: each text shorter than 2 to the 47. -/
import Derived.Test.YtgemopcnfklndaaLogTwice0
namespace Go.Proofs.Ytgemopcnfklndaa
open Go.RowKit
set_option maxRecDepth 100000 in
set_option maxHeartbeats 4000000 in
theorem one_out (a b : V) (w : World) (h : ¬ a.chk = 0 ∨ ¬ b.chk = 0 ∨ 10000 < a.s.size ∨ 10000 < b.s.size) :
    Calls Try.prog 6 #[.agg #[.int .i64 a.k, .int .i64 a.i, .string a.s], .agg #[.int .i64 b.k, .int .i64 b.i, .string b.s]] w fun e w' => e = .returned (.bool true) ∧ Below w.heap.size w w' := by
  have HCA := Lib.hid (fun w' => rcheck_any a.k a.i a.s w')
  have HCB := Lib.hid (fun w' => rcheck_any b.k b.i b.s w')
  have HB0 := Lib.hid (((HB.nil w).pushAt (H := w.heap.size) rfl a).pushAt (H := w.heap.size + 1) (by simp) b)
  have ca : a.chk = chkI a.k a.i a.s := rfl
  have cb : b.chk = chkI b.k b.i b.s := rfl
  rw [ca, cb] at h
  clear ca cb
  generalize chkI a.k a.i a.s = x at *
  generalize chkI b.k b.i b.s = y at *
  have hx : (¬ x = 0) ∨ (x = 0 ∧ ¬ y = 0) ∨ (x = 0 ∧ y = 0 ∧ 10000 < a.s.size) ∨ (x = 0 ∧ y = 0 ∧ ¬ 10000 < a.s.size ∧ 10000 < b.s.size) := by omega
  clear h
  rcases hx with hx | ⟨rfl, hy⟩ | ⟨rfl, rfl, h1⟩ | ⟨rfl, rfl, h1, h2⟩
  · have e : (x != 0) = true := by simpa using hx
    clear hx
    go_enter Try.func6, Try.ntmps6
    go_wp2_with fail
    refine (live_any _).mono ?_
    rintro e w1 ⟨rfl, b1⟩
    have H1 := Lib.hid (HB0.out.call b1)
    obtain ⟨e0, e1, e2, c0, c1, c2, -⟩ := H1.out.boxes
    go_wp2_with fail
    refine (HCA.out _).mono ?_
    rintro e w2 ⟨rfl, b2⟩
    have H2 := Lib.hid (H1.out.call b2)
    clear e0 e1 e2 c0 c1 c2
    obtain ⟨e0, e1, e2, c0, c1, c2, -⟩ := H2.out.boxes
    go_wp2_with fail
    go_ret
    exact ⟨rfl, H2.out.below⟩
  · have e : (y != 0) = true := by simpa using hy
    clear hy
    go_enter Try.func6, Try.ntmps6
    go_wp2_with fail
    refine (live_any _).mono ?_
    rintro e w1 ⟨rfl, b1⟩
    have H1 := Lib.hid (HB0.out.call b1)
    obtain ⟨e0, e1, e2, c0, c1, c2, -⟩ := H1.out.boxes
    go_wp2_with fail
    refine (HCA.out _).mono ?_
    rintro e w2 ⟨rfl, b2⟩
    have H2 := Lib.hid (H1.out.call b2)
    clear e0 e1 e2 c0 c1 c2
    obtain ⟨e0, e1, e2, c0, c1, c2, -⟩ := H2.out.boxes
    go_wp2_with fail
    refine (HCB.out _).mono ?_
    rintro e w3 ⟨rfl, b3⟩
    have H3 := Lib.hid (H2.out.call b3)
    clear e0 e1 e2 c0 c1 c2
    obtain ⟨e0, e1, e2, c0, c1, c2, -⟩ := H3.out.boxes
    go_wp2_with fail
    go_ret
    exact ⟨rfl, H3.out.below⟩
  · have e : decide ((10000 : Int) < (a.s.size : Int)) = true := decide_eq_true (by omega)
    clear h1
    go_enter Try.func6, Try.ntmps6
    go_wp2_with fail
    refine (live_any _).mono ?_
    rintro e w1 ⟨rfl, b1⟩
    have H1 := Lib.hid (HB0.out.call b1)
    obtain ⟨e0, e1, e2, c0, c1, c2, -⟩ := H1.out.boxes
    go_wp2_with fail
    refine (HCA.out _).mono ?_
    rintro e w2 ⟨rfl, b2⟩
    have H2 := Lib.hid (H1.out.call b2)
    clear e0 e1 e2 c0 c1 c2
    obtain ⟨e0, e1, e2, c0, c1, c2, -⟩ := H2.out.boxes
    go_wp2_with fail
    refine (HCB.out _).mono ?_
    rintro e w3 ⟨rfl, b3⟩
    have H3 := Lib.hid (H2.out.call b3)
    clear e0 e1 e2 c0 c1 c2
    obtain ⟨e0, e1, e2, c0, c1, c2, -⟩ := H3.out.boxes
    go_wp2_with fail
    go_ret
    exact ⟨rfl, H3.out.below⟩
  · have e : decide ((10000 : Int) < (a.s.size : Int)) = false := decide_eq_false (by omega)
    have e' : decide ((10000 : Int) < (b.s.size : Int)) = true := decide_eq_true (by omega)
    clear h1 h2
    go_enter Try.func6, Try.ntmps6
    go_wp2_with fail
    refine (live_any _).mono ?_
    rintro e w1 ⟨rfl, b1⟩
    have H1 := Lib.hid (HB0.out.call b1)
    obtain ⟨e0, e1, e2, c0, c1, c2, -⟩ := H1.out.boxes
    go_wp2_with fail
    refine (HCA.out _).mono ?_
    rintro e w2 ⟨rfl, b2⟩
    have H2 := Lib.hid (H1.out.call b2)
    clear e0 e1 e2 c0 c1 c2
    obtain ⟨e0, e1, e2, c0, c1, c2, -⟩ := H2.out.boxes
    go_wp2_with fail
    refine (HCB.out _).mono ?_
    rintro e w3 ⟨rfl, b3⟩
    have H3 := Lib.hid (H2.out.call b3)
    clear e0 e1 e2 c0 c1 c2
    obtain ⟨e0, e1, e2, c0, c1, c2, -⟩ := H3.out.boxes
    go_wp2_with fail
    go_ret
    exact ⟨rfl, H3.out.below⟩
def opsA : Nat → ByteArray
  | 0 => ⟨#[60]⟩
  | 1 => ⟨#[61]⟩
  | _ => ⟨#[62]⟩
def opsB : Nat → ByteArray
  | 0 => ⟨#[60, 61]⟩
  | 1 => ⟨#[62, 61]⟩
  | _ => ⟨#[60, 62]⟩
def opsC : Nat → ByteArray
  | 0 => ⟨#[62]⟩
  | 1 => ⟨#[60]⟩
  | _ => ⟨#[61]⟩
def cnt (h : Nat → Bool) : Nat → Int
  | 0 => 0
  | k + 1 => cnt h k + bi (h k)
theorem cnt_le (h : Nat → Bool) (k : Nat) : 0 ≤ cnt h k ∧ cnt h k ≤ k := by
  induction k with
  | zero => exact ⟨Int.le_refl _, Int.le_refl _⟩
  | succ k ih =>
    have : bi (h k) = 0 ∨ bi (h k) = 1 := by cases h k <;> simp [bi]
    show 0 ≤ cnt h k + bi (h k) ∧ cnt h k + bi (h k) ≤ _
    omega
theorem three {P : Nat → Prop} (h0 : P 0) (h1 : P 1) (h2 : P 2) : ∀ k, k < 3 → P k := by
  intro k hk
  have : k = 0 ∨ k = 1 ∨ k = 2 := by omega
  rcases this with rfl | rfl | rfl <;> assumption
theorem ops_kn (k : Nat) (hk : k < 3) : knB (opsA k) = true ∧ knB (opsB k) = true ∧ knB (opsC k) = true := by
  obtain ⟨b1, b2, b3, b4, b5, b6⟩ := kn_eq
  exact three (P := fun k => knB (opsA k) = true ∧ knB (opsB k) = true ∧ knB (opsC k) = true) ⟨b3, b4, b5⟩ ⟨b1, b6, b3⟩ ⟨b5, b2, b1⟩ k hk
theorem ops_so (n : Int) (k : Nat) (hk : k < 3) : soB (opsB k) n = !soB (opsC k) n := by
  obtain ⟨a1, a2, a3, a4, a5, a6⟩ := so_eq n
  refine three (P := fun k => soB (opsB k) n = !soB (opsC k) n) ?_ ?_ ?_ k hk
  · show soB ⟨#[60, 61]⟩ n = !soB ⟨#[62]⟩ n
    rw [a4, a5, Bool.eq_iff_iff]; simp
  · show soB ⟨#[62, 61]⟩ n = !soB ⟨#[60]⟩ n
    rw [a6, a3, Bool.eq_iff_iff]; simp
  · show soB ⟨#[60, 62]⟩ n = !soB ⟨#[61]⟩ n
    rw [a2, a1]; rfl
/-- What the words say of two values that may be. -/
theorem one_key {a b : V} (ha : a.chk = 0) (hb : b.chk = 0) : ∃ (E N : Int) (h : Nat → Bool), (∀ k, k < 3 → relE (opsA k) a b = E ∧ isV (relR (opsA k) a b) true = h k ∧ relE (opsB k) a b = E ∧ relE (opsC k) a b = E ∧ notV (relR (opsC k) a b) = relR (opsB k) a b) ∧ cnt h 3 = N ∧
    ((E = 20 ∧ N = 0 ∧ (a.k == 0) = false ∧ (a.k != 0) = true ∧ (b.k != 0) = true ∧ (a.k != b.k) = true) ∨ (E = 0 ∧ N = 0 ∧ (a.k == 0) = true ∧ (a.k != 0) = false ∧ (a.k != b.k) = false) ∨ (E = 0 ∧ N = 0 ∧ (a.k == 0) = true ∧ (a.k != 0) = false ∧ (a.k != b.k) = true) ∨ (E = 0 ∧ N = 0 ∧ (a.k == 0) = false ∧ (a.k != 0) = true ∧ (b.k != 0) = false ∧ (a.k != b.k) = true) ∨ (E = 0 ∧ N = 1 ∧ (a.k == 0) = false ∧ (a.k != b.k) = false)) := by
  have hok := allOk2 ha hb
  have hk : ∀ op, knB op = true → (allOk [a, b] && knB op) = true := fun op h => by rw [hok, h]; rfl
  simp only [beq_iff_eq, beq_eq_false_iff_ne, bne_iff_ne, bne_eq_false_iff_eq, ne_eq]
  by_cases h : ¬ a.k = 0 ∧ ¬ b.k = 0 ∧ ¬ a.k = b.k
  · refine ⟨20, 0, fun _ => false, fun k hk3 => ?_, rfl, Or.inl ⟨rfl, rfl, h.1, h.1, h.2.1, h.2.2⟩⟩
    obtain ⟨k1, k2, k3⟩ := ops_kn k hk3
    obtain ⟨e1, r1⟩ := rel_kind (hk _ k1) h.1 h.2.1 h.2.2
    obtain ⟨e2, r2⟩ := rel_kind (hk _ k2) h.1 h.2.1 h.2.2
    obtain ⟨e3, r3⟩ := rel_kind (hk _ k3) h.1 h.2.1 h.2.2
    exact ⟨e1, by rw [r1]; exact isV_z _, e2, e3, by rw [r3, r2]; exact not_z⟩
  · by_cases hn : a.k = 0 ∨ b.k = 0
    · refine ⟨0, 0, fun _ => false, fun k hk3 => ?_, rfl, ?_⟩
      · obtain ⟨k1, k2, k3⟩ := ops_kn k hk3
        obtain ⟨e1, r1⟩ := rel_null (hk _ k1) hn
        obtain ⟨e2, r2⟩ := rel_null (hk _ k2) hn
        obtain ⟨e3, r3⟩ := rel_null (hk _ k3) hn
        exact ⟨e1, by rw [r1]; exact isV_z _, e2, e3, by rw [r3, r2]; exact not_z⟩
      · by_cases h1 : a.k = 0
        · by_cases h2 : a.k = b.k
          · exact Or.inr (Or.inl ⟨rfl, rfl, h1, h1, h2⟩)
          · exact Or.inr (Or.inr (Or.inl ⟨rfl, rfl, h1, h1, h2⟩))
        · exact Or.inr (Or.inr (Or.inr (Or.inl ⟨rfl, rfl, h1, h1, by omega, by omega⟩)))
    · have h1 : ¬ a.k = 0 := by omega
      have h2 : ¬ b.k = 0 := by omega
      have h3 : a.k = b.k := by omega
      refine ⟨0, 1, fun k => soB (opsA k) (cmpV a.k a.i a.s b.k b.i b.s), fun k hk3 => ?_, ?_, Or.inr (Or.inr (Or.inr (Or.inr ⟨rfl, rfl, h1, h3⟩)))⟩
      · obtain ⟨k1, k2, k3⟩ := ops_kn k hk3
        obtain ⟨e1, r1⟩ := rel_good (hk _ k1) h1 h2 h3
        obtain ⟨e2, r2⟩ := rel_good (hk _ k2) h1 h2 h3
        obtain ⟨e3, r3⟩ := rel_good (hk _ k3) h1 h2 h3
        refine ⟨e1, by rw [r1]; exact isV_t _, e2, e3, ?_⟩
        rw [r3, r2, not_t, ops_so _ _ hk3]
      · have hr := cmpVV_ok.range a b
        rw [show cmpVV a b = cmpV a.k a.i a.s b.k b.i b.s from rfl] at hr
        obtain ⟨a1, -, a3, -, a5, -⟩ := so_eq (cmpV a.k a.i a.s b.k b.i b.s)
        show 0 + bi (soB ⟨#[60]⟩ _) + bi (soB ⟨#[61]⟩ _) + bi (soB ⟨#[62]⟩ _) = 1
        rw [a1, a3, a5]
        rcases hr with e | e | e <;> rw [e] <;> rfl
theorem strs_at {w : World} {g : Nat} {T : TypeId} {s0 s1 s2 : ByteArray} (h : w.heap[g]? = some (.cells #[.string s0, .string s1, .string s2] T (0, 0))) : w.cell? ⟨g, 0, none⟩ = some (.string s0) ∧ w.cell? ⟨g, 1, none⟩ = some (.string s1) ∧ w.cell? ⟨g, 2, none⟩ = some (.string s2) :=
  ⟨by rw [Lib.cell_of_heap h]; rfl, by rw [Lib.cell_of_heap h]; rfl, by rw [Lib.cell_of_heap h]; rfl⟩
/-- The words' block. -/
def SA (w : World) (g : Nat) : Prop := w.heap[g]? = some (.cells #[.string ⟨#[60]⟩, .string ⟨#[61]⟩, .string ⟨#[62]⟩] 9 (0, 0))
theorem SA.at {w : World} {g : Nat} (h : SA w g) (k : Nat) (hk : k < 3) : w.cell? ⟨g, k, none⟩ = some (.string (opsA k)) :=
  three (P := fun k => w.cell? ⟨g, k, none⟩ = some (.string (opsA k))) (strs_at h).1 (strs_at h).2.1 (strs_at h).2.2 k hk
theorem SA.later {w w' : World} {g : Nat} (h : SA w g) (hb : Below w.heap.size w w') : SA w' g := (hb.block g (Array.getElem?_eq_some_iff.1 h).1).trans h
/-- The pairs' block. -/
def SB (w : World) (g : Nat) : Prop := w.heap[g]? = some (.cells #[.string ⟨#[60, 61]⟩, .string ⟨#[62]⟩, .string ⟨#[62, 61]⟩, .string ⟨#[60]⟩, .string ⟨#[60, 62]⟩, .string ⟨#[61]⟩] 40 (0, 0))
theorem SB.at {w : World} {g : Nat} (h : SB w g) (k : Nat) (hk : k < 3) : w.cell? ⟨g, k * 2, none⟩ = some (.string (opsB k)) ∧ w.cell? ⟨g, k * 2 + 1, none⟩ = some (.string (opsC k)) :=
  three (P := fun k => w.cell? ⟨g, k * 2, none⟩ = some (.string (opsB k)) ∧ w.cell? ⟨g, k * 2 + 1, none⟩ = some (.string (opsC k))) ⟨by rw [Lib.cell_of_heap h]; rfl, by rw [Lib.cell_of_heap h]; rfl⟩ ⟨by rw [Lib.cell_of_heap h]; rfl, by rw [Lib.cell_of_heap h]; rfl⟩ ⟨by rw [Lib.cell_of_heap h]; rfl, by rw [Lib.cell_of_heap h]; rfl⟩ k hk
theorem SB.later {w w' : World} {g : Nat} (h : SB w g) (hb : Below w.heap.size w w') : SB w' g := (hb.block g (Array.getElem?_eq_some_iff.1 h).1).trans h
/-- A pair's block. -/
def SC (w : World) (g : Nat) (s0 s1 : ByteArray) : Prop := w.heap[g]? = some (.cells #[.string s0, .string s1] 40 (0, 0))
theorem SC.at {w : World} {g : Nat} {s0 s1 : ByteArray} (h : SC w g s0 s1) : w.cell? ⟨g, 0, none⟩ = some (.string s0) ∧ w.cell? ⟨g, 1, none⟩ = some (.string s1) := ⟨by rw [Lib.cell_of_heap h]; rfl, by rw [Lib.cell_of_heap h]; rfl⟩
theorem SC.later {w w' : World} {g : Nat} {s0 s1 : ByteArray} (h : SC w g s0 s1) (hb : Below w.heap.size w w') : SC w' g s0 s1 := (hb.block g (Array.getElem?_eq_some_iff.1 h).1).trans h
theorem SC.made (w : World) (s0 s1 : ByteArray) : SC (w.alloc (.cells #[.string s0, .string s1] 40)) w.heap.size s0 s1 := heap_alloc_new w _
end Go.Proofs.Ytgemopcnfklndaa
