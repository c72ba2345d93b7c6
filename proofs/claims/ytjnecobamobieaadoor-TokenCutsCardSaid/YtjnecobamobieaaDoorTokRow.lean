/- Tokens in memory, one behind the other; tokens that a call owns, one more behind them. No condition. -/
import Derived.Test.YtjnecobamobieaaDoorTokBlob
namespace Go.Proofs.YtjnecobamobieaaDoor
open Go.RowKit
def t4 (t : T) : List Value := [.int .i64 t.k, .string (str t.s), .int .i64 t.i, .int .i64 t.p]
def flatT (ts : List T) : List Value := ts.flatMap t4
theorem flatT_len (ts : List T) : (flatT ts).length = ts.length * 4 := by
  induction ts with
  | nil => rfl
  | cons a l ih => show (t4 a ++ flatT l).length = _; rw [List.length_append, ih]; simp [t4]; omega
theorem flatT_one (ts : List T) : ∀ u ∈ flatT ts, u.oneCell' = true := by
  intro u hu
  obtain ⟨v, _, hv⟩ := List.mem_flatMap.1 hu
  simp [t4] at hv
  rcases hv with rfl | rfl | rfl | rfl <;> rfl
theorem flatT_get (ts : List T) (j t : Nat) (hj : j < ts.length) (ht : t < 4) : (flatT ts)[j * 4 + t]? = (t4 ts[j])[t]? := by
  induction ts generalizing j with
  | nil => simp at hj
  | cons a l ih =>
    show (t4 a ++ flatT l)[j * 4 + t]? = _
    cases j with
    | zero =>
      rw [List.getElem?_append_left (by simp [t4]; omega)]
      simp
    | succ j =>
      rw [List.getElem?_append_right (by simp [t4]; omega)]
      rw [show (j + 1) * 4 + t - (t4 a).length = j * 4 + t by simp [t4]; omega, ih j (by simpa using hj)]
      simp
theorem flatT_append (xs ys : List T) : flatT (xs ++ ys) = flatT xs ++ flatT ys := by unfold flatT; rw [List.flatMap_append]
def TAt (w : World) (B : Nat) (A : Option Addr) (ts : List T) : Prop := 0 < ts.length → ∃ b off, A = some ⟨b, off, none⟩ ∧ b < B ∧ ∀ j (h : j < ts.length), w.cell? ⟨b, off + j * 4, none⟩ = some (.int .i64 ts[j].k) ∧ w.cell? ⟨b, off + j * 4 + 1, none⟩ = some (.string (str ts[j].s)) ∧ w.cell? ⟨b, off + j * 4 + 2, none⟩ = some (.int .i64 ts[j].i) ∧ w.cell? ⟨b, off + j * 4 + 3, none⟩ = some (.int .i64 ts[j].p)
theorem TAt.below {w w' : World} {B : Nat} {A : Option Addr} {ts : List T} (h : TAt w B A ts) (hb : Below B w w') : TAt w' B A ts := fun h0 => by
  obtain ⟨b, off, hA, hlt, hc⟩ := h h0
  refine ⟨b, off, hA, hlt, fun j hj => ?_⟩
  obtain ⟨c0, c1, c2, c3⟩ := hc j hj
  exact ⟨(hb.cell (p := ⟨b, _, none⟩) hlt).trans c0, (hb.cell (p := ⟨b, _, none⟩) hlt).trans c1, (hb.cell (p := ⟨b, _, none⟩) hlt).trans c2, (hb.cell (p := ⟨b, _, none⟩) hlt).trans c3⟩
theorem TAt.mono {w : World} {B B' : Nat} {A : Option Addr} {ts : List T} (h : TAt w B A ts) (hB : B ≤ B') : TAt w B' A ts := fun h0 => by
  obtain ⟨b, off, hA, hlt, hc⟩ := h h0
  exact ⟨b, off, hA, by omega, hc⟩
theorem TAt.later {w w' : World} {A : Option Addr} {ts : List T} (h : TAt w w.heap.size A ts) (hb : Below w.heap.size w w') : TAt w' w'.heap.size A ts := (h.below hb).mono hb.size
theorem TAt.nil (w : World) (B : Nat) (A : Option Addr) : TAt w B A [] := fun h => by simp at h
theorem TAt.flat {w : World} {B : Nat} {b off : Nat} {ts : List T} (h : TAt w B (some ⟨b, off, none⟩) ts) : ∀ j u, (flatT ts)[j]? = some u → w.cell? ((⟨b, off, none⟩ : Addr).add j) = some u := by
  intro j u hu
  have hl : j < ts.length * 4 := by
    have := (List.getElem?_eq_some_iff.1 hu).1
    rwa [flatT_len] at this
  obtain ⟨b', off', hA, hlt, hc⟩ := h (by omega)
  simp at hA
  obtain ⟨rfl, rfl⟩ := hA
  have hq : j / 4 < ts.length := by omega
  obtain ⟨h0, h1, h2, h3⟩ := hc (j / 4) hq
  rw [show j = j / 4 * 4 + j % 4 by omega, flatT_get ts (j / 4) (j % 4) hq (by omega)] at hu
  rw [WideShapes.add_plain]
  have h4 : j % 4 = 0 ∨ j % 4 = 1 ∨ j % 4 = 2 ∨ j % 4 = 3 := by omega
  rcases h4 with h4 | h4 | h4 | h4
  · rw [h4] at hu
    simp [t4] at hu
    rw [← hu, show off + j = off + j / 4 * 4 by omega]; exact h0
  · rw [h4] at hu
    simp [t4] at hu
    rw [← hu, show off + j = off + j / 4 * 4 + 1 by omega]; exact h1
  · rw [h4] at hu
    simp [t4] at hu
    rw [← hu, show off + j = off + j / 4 * 4 + 2 by omega]; exact h2
  · rw [h4] at hu
    simp [t4] at hu
    rw [← hu, show off + j = off + j / 4 * 4 + 3 by omega]; exact h3
theorem TAt.of_flat {w : World} {g : Nat} {ts : List T} (h : ∀ j u, (flatT ts)[j]? = some u → w.cell? ((⟨g, 0, none⟩ : Addr).add j) = some u) (hg : g < w.heap.size) : TAt w w.heap.size (some ⟨g, 0, none⟩) ts := fun _ => by
  refine ⟨g, 0, rfl, hg, fun j hj => ?_⟩
  have e0 := h (j * 4 + 0) _ (flatT_get ts j 0 hj (by omega))
  have e1 := h (j * 4 + 1) _ (flatT_get ts j 1 hj (by omega))
  have e2 := h (j * 4 + 2) _ (flatT_get ts j 2 hj (by omega))
  have e3 := h (j * 4 + 3) _ (flatT_get ts j 3 hj (by omega))
  rw [WideShapes.add_plain] at e0 e1 e2 e3
  exact ⟨e0, e1, e2, e3⟩
theorem info30 : (Tryd.prog.info? 30).map (fun i => (i.zero, i.size, i.bytes)) = some (some (.agg #[.int .i64 0, .string ⟨#[]⟩, .int .i64 0, .int .i64 0]), 4, 40) := by kernel_rfl
def OwnT (w : World) (B : Nat) (v : Value) (ts : List T) : Prop := w.ownsRow B 30 4 v ts.length (flatT ts)
theorem OwnT.nil (w : World) (B : Nat) : OwnT w B (.slice none 0 0) [] := World.ownsRow_nil w B 30 4
theorem OwnT.row {w : World} {B : Nat} {v : Value} {ts : List T} (h : OwnT w B v ts) : ∃ A c, v = .slice A ts.length c ∧ ts.length ≤ c ∧ c ≤ maxLen ∧ TAt w w.heap.size A ts := by
  rcases h.2 with ⟨hv, h0⟩ | ⟨g, cap, cur, hv, _, hg, hn, hm, _⟩
  · exact ⟨none, 0, by rw [hv, h0], by omega, by decide, fun h => by omega⟩
  · exact ⟨_, cap, hv, hn, hm, TAt.of_flat (h.cells (g := g) (by rw [hv]; rfl)) (Array.getElem?_eq_some_iff.1 hg).1⟩
theorem OwnT.later {w w' : World} {B : Nat} {v : Value} {ts : List T} (h : OwnT w B v ts) (hb : Below w.heap.size w w') : OwnT w' B v ts :=
  h.kept (row := none) ⟨hb.os, hb.tape, hb.output, hb.size, fun k hk _ => hb.block k hk⟩ (by cases v.ownBlock <;> simp)
/-- One token more behind those that the call owns. -/
theorem ownT_app {w0 w : World} {B : Nat} {v : Value} {ts : List T} (hown : OwnT w B v ts) (t : T) (hm : ts.length ≤ 1000000) (hB : B ≤ w.heap.size) (hb : Below B w0 w) (H : Nat) (hH : w.heap.size = H) :
    ∃ v' w', (Builtin.append_ #[23, 23] 23 #[v, .slice (some ⟨H, 0, none⟩) 1 1]).run Tryd.prog (w.alloc (.cells #[.int .i64 t.k, .string (str t.s), .int .i64 t.i, .int .i64 t.p] 30)) = .ok v' w' ∧ OwnT w' B v' (ts ++ [t]) ∧ Below B w0 w' := by
  subst hH
  obtain ⟨i0, hi, hz0, hz1, hz2⟩ := info_parts info30
  have ho := (TBox.made w t).cells
  have hbox := TBox.made w t
  have ho2 := hown.later ((Below.refl w.heap.size w).alloc (Nat.le_refl _) (.cells #[.int .i64 t.k, .string (str t.s), .int .i64 t.i, .int .i64 t.p] 30))
  have hb2 := hb.alloc hB (.cells #[.int .i64 t.k, .string (str t.s), .int .i64 t.i, .int .i64 t.p] 30)
  have hz : w.heap.size < (w.alloc (.cells #[.int .i64 t.k, .string (str t.s), .int .i64 t.i, .int .i64 t.p] 30)).heap.size := by simp
  generalize w.alloc (.cells #[.int .i64 t.k, .string (str t.s), .int .i64 t.i, .int .i64 t.p] 30) = W at *
  have hat : TAt W W.heap.size (some ⟨w.heap.size, 0, none⟩) [t] := fun _ => ⟨_, 0, rfl, hz, fun j hj => by
    have : j = 0 := by simpa using hj
    subst this
    exact ho⟩
  obtain ⟨v', w', h1, h2, h3, -, h5⟩ := run_append_own_at (P := Tryd.prog) W B 23 23 30 i0 _ 4 40 Tryd.underlying23 hi hz0 hz1 hz2 rfl (by decide) v ts.length (flatT ts) ho2 ⟨w.heap.size, 0, none⟩ 1 1 (flatT [t]) (by rw [flatT_len]; simp) hat.flat (flatT_one [t]) (by unfold maxLen; omega) (by omega) (by omega)
  refine ⟨v', w', h1, ?_, hb2.grown h3 (by omega) (fun k hk => (ho2.lt k hk).1)⟩
  unfold OwnT
  rw [List.length_append, flatT_append]
  exact h2
end Go.Proofs.YtjnecobamobieaaDoor
