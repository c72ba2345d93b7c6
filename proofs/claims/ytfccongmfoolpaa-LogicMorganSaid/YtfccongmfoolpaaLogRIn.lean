/- The contract of the reference's In, of any value among any others. Condition: no list is longer than 2000. -/
import Derived.Test.YtfccongmfoolpaaLogIn2
import Derived.Deep.AppendLies
namespace Go.Proofs.Ytfccongmfoolpaa
open Go.RowKit
theorem own_ge {w : World} {base : Nat} {e : TypeId} {size : Nat} {v : Value} {n : Nat} {xs : List Value} (h : w.ownsRow base e size v n xs) {k : Nat} (hk : v.ownBlock = some k) : base ≤ k := by
  rcases h.2 with ⟨rfl, -⟩ | ⟨g, cap, cur, rfl, hb, -⟩
  · simp [Value.ownBlock] at hk
  · simp [Value.ownBlock] at hk; omega
theorem own_later {w w' : World} {base : Nat} {e : TypeId} {size : Nat} {v : Value} {n : Nat} {xs : List Value} (h : w.ownsRow base e size v n xs) (hb : Below w.heap.size w w') : w'.ownsRow base e size v n xs := by
  refine ⟨h.1, ?_⟩
  rcases h.2 with ⟨rfl, h0⟩ | ⟨g, cap, cur, rfl, h1, h2, h3⟩
  · exact Or.inl ⟨rfl, h0⟩
  · exact Or.inr ⟨g, cap, cur, rfl, h1, (hb.block g (Array.getElem?_eq_some_iff.1 h2).1).trans h2, h3⟩
theorem own_row {w : World} {base : Nat} {v : Value} {n : Nat} {ys : List V} (h : w.ownsRow base 24 3 v n (flat ys)) : ∃ A c, v = .slice A n c ∧ ys.length = n ∧ RowAt w w.heap.size A ys := by
  have hl : ys.length = n := by have := h.1; rw [flat_len] at this; omega
  rcases h.2 with ⟨rfl, rfl⟩ | ⟨g, cap, cur, rfl, hb, hg, -⟩
  · exact ⟨none, 0, rfl, hl, fun h0 => by omega⟩
  · exact ⟨some ⟨g, 0, none⟩, cap, rfl, hl, RowAt.of_flat (h.cells (g := g) rfl) (Array.getElem?_eq_some_iff.1 hg).1⟩
theorem news_at {w : World} {H : Nat} (hH : w.heap.size = H) (v : V) : ∀ j u, (c3 v)[j]? = some u → (w.alloc (.cells #[.int .i64 v.k, .int .i64 v.i, .string v.s] 24)).cell? ((⟨H, 0, none⟩ : Addr).add j) = some u := by
  subst hH
  exact World.news_of_block (heap_alloc_new w _)
theorem c3_each (v : V) : ∀ u ∈ c3 v, u.oneCell' = true := by
  intro u hu
  simp [c3] at hu
  rcases hu with rfl | rfl | rfl <;> rfl
theorem flat_app (xs : List V) (v : V) : flat xs ++ c3 v = flat (xs ++ [v]) := by simp [flat]
theorem eqs_snoc {v : V} {xs : List V} {k : Nat} (h : k < xs.length) : (eqs v xs).take (k + 1) = (eqs v xs).take k ++ [relR eqB v xs[k]] := by
  rw [take_snoc (xs := eqs v xs) (by rw [eqs_len]; omega)]
  simp [eqs]
set_option maxRecDepth 100000 in
set_option maxHeartbeats 4000000 in
theorem rin_bad (v : V) (xs : List V) (A : Option Addr) (c : Nat) (w : World) (hr : RowAt w w.heap.size A xs) (hm : xs.length ≤ 2000) (hok : okIn v xs = false) :
    Calls Try.prog 24 #[.agg #[.int .i64 v.k, .int .i64 v.i, .string v.s], .slice A xs.length c] w fun e w' => e = .returned (.tuple #[.agg #[.int .i64 0, .int .i64 0, .string ⟨#[]⟩], .int .i64 1]) ∧ Below w.heap.size w w' := by
  have hcall := may_any [v] _ 1 _ (w2of_row w v) (by simp)
  obtain ⟨h0, h1, hb, hsz⟩ := w2of_box w v
  have hc2 := fun w' (hb' : Below w.heap.size w w') => may_any xs A c w' (hr.later hb') (by omega)
  have HOK : Hid ((allOk [v] && allOk xs) = false) := hok
  generalize allOk [v] = ga at *
  generalize allOk xs = gb at *
  generalize xs.length = n at *
  have H1 := Lib.hid h1
  have HZ := Lib.hid hsz
  have HB := Lib.hid hb
  have HC' := Lib.hid hcall
  have HC2 := Lib.hid hc2
  clear h0 h1 hb hsz hcall hr hc2
  have HC : Hid (Calls Try.prog 39 #[.slice (some ⟨w.heap.size + 2, 0, none⟩) 1 1] (((w.alloc (.cells #[.int .i64 v.k, .int .i64 v.i, .string v.s] 24)).alloc (.cells #[.int .i64 0, .int .i64 0, .string ⟨#[]⟩] 24)).alloc (.cells #[.int .i64 v.k, .int .i64 v.i, .string v.s] 24)) fun e w' => e = .returned (.bool ga) ∧ Below (w2of w v).heap.size (w2of w v) w') := HC'.out
  clear HC'
  cases ga
  · go_enter Try.func24, Try.ntmps24
    go_wp2_with fail
    refine HC.out.mono ?_
    rintro e w1 ⟨rfl, hb1⟩
    obtain ⟨g0, g1, g2⟩ := (H1.out.below hb1 (by rw [HZ.out]; omega)).cells
    obtain ⟨f0, f1, f2⟩ := (H1.out.below hb1 (by rw [HZ.out]; omega)).free
    simp only [zV] at g0 g1 g2
    go_wp2_with fail
    exact bodyPost_ret (v := .tuple #[.agg #[.int .i64 0, .int .i64 0, .string ⟨#[]⟩], .int .i64 1]) (by simp [results, Try.results24, go_sem, g0, g1, g2]) rfl ⟨rfl, Below.set3 (HB.out.trans (hb1.mono (by rw [HZ.out]; omega))) (by omega) _ _ _⟩
  · obtain rfl : gb = false := by have := HOK.out; simpa using this
    go_enter Try.func24, Try.ntmps24
    go_wp2_with fail
    refine HC.out.mono ?_
    rintro e w1 ⟨rfl, hb1⟩
    have hbb := HB.out.trans (hb1.mono (by rw [HZ.out]; omega))
    go_wp2_with fail
    refine (HC2.out w1 hbb).mono ?_
    rintro e w2 ⟨rfl, hb2⟩
    have hb3 := bthen hb1 hb2
    obtain ⟨g0, g1, g2⟩ := (H1.out.below hb3 (by rw [HZ.out]; omega)).cells
    obtain ⟨f0, f1, f2⟩ := (H1.out.below hb3 (by rw [HZ.out]; omega)).free
    simp only [zV] at g0 g1 g2
    go_wp2_with fail
    exact bodyPost_ret (v := .tuple #[.agg #[.int .i64 0, .int .i64 0, .string ⟨#[]⟩], .int .i64 1]) (by simp [results, Try.results24, go_sem, g0, g1, g2]) rfl ⟨rfl, Below.set3 (HB.out.trans (hb3.mono (by rw [HZ.out]; omega))) (by omega) _ _ _⟩
end Go.Proofs.Ytfccongmfoolpaa
