/- The walk of the law ValueOrders: it answers true, whatever three rows lie in memory, each shorter than 2 to the 47, with texts shorter than that, and where the library's two variables hold what they hold at the start. -/
import Derived.Test.YtpmigbhfhccegaaDoorLive
namespace Go.Proofs.YtpmigbhfhccegaaDoor
open Go.RowKit
theorem RowAt.mono {w : World} {B B' : Nat} {A : Option Addr} {xs : List V} (h : RowAt w B A xs) (hB : B ≤ B') : RowAt w B' A xs := fun hl => by
  obtain ⟨b, off, hA, hlt, hc⟩ := h hl
  exact ⟨b, off, hA, by omega, hc⟩
theorem RowAt.later {w w' : World} {A : Option Addr} {xs : List V} (h : RowAt w w.heap.size A xs) (hb : Below w.heap.size w w') : RowAt w' w'.heap.size A xs := (h.below hb).mono hb.size
theorem bthen {w w1 w2 : World} (h : Below w.heap.size w w1) (h' : Below w1.heap.size w1 w2) : Below w.heap.size w w2 := h.trans (h'.mono h.size)
/-- Rows laid side by side in a block of their own: what a call of a variadic function makes. -/
theorem rows_made (w : World) (rs : List R) (hrs : ∀ r ∈ rs, RowAt w w.heap.size r.A r.xs) (cs : Array Value) (hcs : cs = (rs.map R.val).toArray) (T : TypeId) :
    RowsAt (w.alloc (.cells cs T)) (w.alloc (.cells cs T)).heap.size (some ⟨w.heap.size, 0, none⟩) rs := by
  refine ⟨fun _ => ⟨w.heap.size, 0, rfl, by simp, fun j hj => ?_⟩, fun r hr => (hrs r hr).later (Below.alloc (Below.refl _ _) (Nat.le_refl _) _)⟩
  have hn : (w.alloc (.cells cs T)).heap[w.heap.size]? = some (.cells cs T (0, 0)) := heap_alloc_new w _
  rw [Lib.cell_of_heap hn, hcs]
  simp [hj]
def RowSmall (xs : List V) : Prop := xs.length ≤ 140737488355328 ∧ ∀ v ∈ xs, v.s.size ≤ 140737488355328
theorem all1 {P : R → Prop} {a : R} (h1 : P a) : ∀ r ∈ [a], P r := by
  intro r hr
  simp at hr
  exact hr ▸ h1
theorem all2 {P : R → Prop} {a b : R} (h1 : P a) (h2 : P b) : ∀ r ∈ [a, b], P r := by
  intro r hr
  simp at hr
  rcases hr with h | h
  · exact h ▸ h1
  · exact h ▸ h2
theorem all3 {P : R → Prop} {a b c : R} (h1 : P a) (h2 : P b) (h3 : P c) : ∀ r ∈ [a, b, c], P r := by
  intro r hr
  simp at hr
  rcases hr with h | h | h
  · exact h ▸ h1
  · exact h ▸ h2
  · exact h ▸ h3
theorem orders_z {a b c : List V} : ¬ (cmpR a b ≤ 0 ∧ cmpR b c ≤ 0 ∧ 0 < cmpR a c) ∧ ¬ (cmpR a b < 0 ∧ cmpR b c ≤ 0 ∧ 0 ≤ cmpR a c) := by
  constructor
  · rintro ⟨h1, h2, h3⟩
    have := cmpR_ok.le_trans h1 h2
    omega
  · rintro ⟨h1, h2, h3⟩
    have := cmpR_ok.lt_le h1 h2
    omega
set_option maxRecDepth 100000 in
set_option maxHeartbeats 4000000 in
theorem orders_core (a b c : R) (w : World) (hE : Env w) (ha : RowAt w w.heap.size a.A a.xs) (hb : RowAt w w.heap.size b.A b.xs) (hc : RowAt w w.heap.size c.A c.xs) (sa : RowSmall a.xs) (sb : RowSmall b.xs) (sc : RowSmall c.xs) :
    Calls Tryd.prog 7 #[a.val, b.val, c.val] w fun e w' => e = .returned (.bool true) ∧ Below w.heap.size w w' := by
  have hx := cmpR_ok.range a.xs b.xs
  have hy := cmpR_ok.range b.xs c.xs
  have hz := cmpR_ok.range a.xs c.xs
  have hzz := @orders_z a.xs b.xs c.xs
  have hab : ∀ w', Below w.heap.size w w' → Calls Tryd.prog 20 #[a.val, b.val] w' fun e w2 => e = .returned (.int .i64 (cmpR a.xs b.xs)) ∧ Below w'.heap.size w' w2 := fun w' h => cmpR_any _ _ _ _ _ _ w' (ha.later h) (hb.later h) (by have := sa.1; omega)
  have hbc : ∀ w', Below w.heap.size w w' → Calls Tryd.prog 20 #[b.val, c.val] w' fun e w2 => e = .returned (.int .i64 (cmpR b.xs c.xs)) ∧ Below w'.heap.size w' w2 := fun w' h => cmpR_any _ _ _ _ _ _ w' (hb.later h) (hc.later h) (by have := sb.1; omega)
  have hac : ∀ w', Below w.heap.size w w' → Calls Tryd.prog 20 #[a.val, c.val] w' fun e w2 => e = .returned (.int .i64 (cmpR a.xs c.xs)) ∧ Below w'.heap.size w' w2 := fun w' h => cmpR_any _ _ _ _ _ _ w' (ha.later h) (hc.later h) (by have := sa.1; omega)
  have hba : ∀ w', Below w.heap.size w w' → Calls Tryd.prog 20 #[b.val, a.val] w' fun e w2 => e = .returned (.int .i64 (-cmpR a.xs b.xs)) ∧ Below w'.heap.size w' w2 := fun w' h => by
    have := cmpR_any b.xs a.xs b.A a.A b.c a.c w' (hb.later h) (ha.later h) (by have := sb.1; omega)
    rwa [cmpR_ok.flip a.xs b.xs] at this
  have haa : ∀ w', Below w.heap.size w w' → Calls Tryd.prog 20 #[a.val, a.val] w' fun e w2 => e = .returned (.int .i64 0) ∧ Below w'.heap.size w' w2 := fun w' h => by
    have := cmpR_any a.xs a.xs a.A a.A a.c a.c w' (ha.later h) (ha.later h) (by have := sa.1; omega)
    rwa [cmpR_ok.self a.xs] at this
  have hbig : ∀ w', Below w.heap.size w w' → ∃ f : Bool, Calls Tryd.prog 11 #[.slice (some ⟨w'.heap.size, 0, none⟩) 3 3] (w'.alloc (.cells #[a.val, b.val, c.val] 23)) fun e w2 => e = .returned (.bool f) ∧ Below (w'.alloc (.cells #[a.val, b.val, c.val] 23)).heap.size (w'.alloc (.cells #[a.val, b.val, c.val] 23)) w2 := fun w' h =>
    ⟨_, big_any [a, b, c] _ 3 _ (rows_made w' [a, b, c] (all3 (P := fun r => RowAt w' w'.heap.size r.A r.xs) (ha.later h) (hb.later h) (hc.later h)) _ rfl 23) (by simp) (all3 (P := fun r => RowSmall r.xs) sa sb sc)⟩
  generalize cmpR a.xs b.xs = x at *
  generalize cmpR b.xs c.xs = y at *
  generalize cmpR a.xs c.xs = z at *
  clear sa sb sc ha hb hc
  unfold R.val at *
  generalize a.xs.length = na at *
  generalize b.xs.length = nb at *
  generalize c.xs.length = nc at *
  generalize a.A = aa at *
  generalize b.A = ab at *
  generalize c.A = ac at *
  generalize a.c = ca at *
  generalize b.c = cb at *
  generalize c.c = cc at *
  have HE := Lib.hid hE
  have HAB := Lib.hid hab
  have HBC := Lib.hid hbc
  have HAC := Lib.hid hac
  have HBA := Lib.hid hba
  have HAA := Lib.hid haa
  have HBIG := Lib.hid hbig
  clear hE hab hbc hac hba haa hbig
  go_enter Tryd.func7, Tryd.ntmps7
  go_wp2_with fail
  refine (live_any w HE.out).mono ?_
  rintro e w1 ⟨rfl, b1⟩
  go_wp2_with fail
  obtain ⟨f, hf⟩ := HBIG.out w1 b1
  refine hf.mono ?_
  clear hf
  rintro e w2 ⟨rfl, b2⟩
  have c2 : Below w.heap.size w w2 := (b1.alloc b1.size _).trans (b2.mono (by have := b1.size; simp; omega))
  clear b2
  cases f
  · go_wp2_with fail
    refine (HAB.out _ c2).mono ?_
    rintro e w3 ⟨rfl, b3⟩
    have c3 := bthen c2 b3
    clear b3
    go_wp2_with fail
    refine (HBC.out _ c3).mono ?_
    rintro e w4 ⟨rfl, b4⟩
    have c4 := bthen c3 b4
    clear b4
    go_wp2_with fail
    refine (HAC.out _ c4).mono ?_
    rintro e w5 ⟨rfl, b5⟩
    have c5 := bthen c4 b5
    clear b5
    go_wp2_with fail
    refine (HBA.out _ c5).mono ?_
    rintro e w6 ⟨rfl, b6⟩
    have c6 := bthen c5 b6
    clear b6
    go_wp2_with fail
    refine (HAA.out _ c6).mono ?_
    rintro e w7 ⟨rfl, b7⟩
    have c7 := bthen c6 b7
    clear b7
    go_wp2_with fail
    all_goals go_ret
    all_goals (go_light; refine ⟨?_, c7⟩)
    all_goals first | rfl | (simp; omega)
  · go_wp2_with fail
    go_ret
    exact ⟨rfl, c2⟩
end Go.Proofs.YtpmigbhfhccegaaDoor
