/- A token read, moved and stored in a box of its own; a list of tokens copied; Cut of any text. Condition: the listed variables hold what they hold. -/
import Derived.Test.YtjnecobamobieaaDoorTokBlanks
import Derived.Test.YtjnecobamobieaaDoorTokSame
namespace Go.Proofs.YtjnecobamobieaaDoor
open Go.RowKit
theorem moved (wr : World) (u : T) (x : Int) : ∃ W2 W3 W4 : World, W2 = wr.alloc (.cells #[.int .i64 0, .string ⟨#[]⟩, .int .i64 0, .int .i64 0] 30) ∧
    W3 = ((((W2.setCell ⟨wr.heap.size, 0, none⟩ (.int .i64 u.k)).setCell ⟨wr.heap.size, 1, none⟩ (.string (str u.s))).setCell ⟨wr.heap.size, 2, none⟩ (.int .i64 u.i)).setCell ⟨wr.heap.size, 3, none⟩ (.int .i64 u.p)) ∧
    W4 = W3.setCell ⟨wr.heap.size, 3, none⟩ (.int .i64 x) ∧
    (W2.cell? ⟨wr.heap.size, 0, none⟩ = some (.int .i64 0) ∧ W2.cell? ⟨wr.heap.size, 1, none⟩ = some (.string ⟨#[]⟩) ∧ W2.cell? ⟨wr.heap.size, 2, none⟩ = some (.int .i64 0) ∧ W2.cell? ⟨wr.heap.size, 3, none⟩ = some (.int .i64 0)) ∧
    (W2.frozen? ⟨wr.heap.size, 0, none⟩ = false ∧ W2.frozen? ⟨wr.heap.size, 1, none⟩ = false ∧ W2.frozen? ⟨wr.heap.size, 2, none⟩ = false ∧ W2.frozen? ⟨wr.heap.size, 3, none⟩ = false) ∧
    (W3.cell? ⟨wr.heap.size, 0, none⟩ = some (.int .i64 u.k) ∧ W3.cell? ⟨wr.heap.size, 1, none⟩ = some (.string (str u.s)) ∧ W3.cell? ⟨wr.heap.size, 2, none⟩ = some (.int .i64 u.i) ∧ W3.cell? ⟨wr.heap.size, 3, none⟩ = some (.int .i64 u.p)) ∧
    W3.frozen? ⟨wr.heap.size, 3, none⟩ = false ∧
    (W4.cell? ⟨wr.heap.size, 0, none⟩ = some (.int .i64 u.k) ∧ W4.cell? ⟨wr.heap.size, 1, none⟩ = some (.string (str u.s)) ∧ W4.cell? ⟨wr.heap.size, 2, none⟩ = some (.int .i64 u.i) ∧ W4.cell? ⟨wr.heap.size, 3, none⟩ = some (.int .i64 x)) ∧
    Below wr.heap.size wr W4 ∧ W2.heap.size = wr.heap.size + 1 := by
  have bz := zbox wr
  have hb0 := (Below.refl wr.heap.size wr).alloc (Nat.le_refl _) (.cells #[.int .i64 0, .string ⟨#[]⟩, .int .i64 0, .int .i64 0] 30)
  refine ⟨_, _, _, rfl, rfl, rfl, bz.zcells, bz.free, ?_⟩
  obtain ⟨y0, y1, y2, y3, yf⟩ := kept4 bz u
  refine ⟨⟨y0, y1, y2, y3⟩, yf 3 (by omega), ?_, (Below.set4 hb0 (Nat.le_refl _) _ _ _ _).setCell (Nat.le_refl _) _, by simp⟩
  have o4 := fun (W : World) (j : Nat) (h : j ≠ 3) => World.cell?_setCell_other W ⟨wr.heap.size, 3, none⟩ ⟨wr.heap.size, j, none⟩ (.int .i64 x) (by simp <;> omega)
  exact ⟨(o4 _ 0 (by omega)).trans y0, (o4 _ 1 (by omega)).trans y1, (o4 _ 2 (by omega)).trans y2, World.cell?_setCell_same _ _ _ y3⟩
/-- A list of tokens, copied. -/
theorem ownT_copy (w : World) (ys : List T) (A : Option Addr) (c : Nat) (hr : TAt w w.heap.size A ys) (hm : ys.length ≤ 1000000) :
    ∃ v' w', (Builtin.append_ #[23, 23] 23 #[.slice none 0 0, .slice A ys.length c]).run Tryd.prog w = .ok v' w' ∧ OwnT w' w.heap.size v' ys ∧ Below w.heap.size w w' := by
  have hown := OwnT.nil w w.heap.size
  obtain ⟨i0, hi, hz0, hz1, hz2⟩ := info_parts info30
  rcases Nat.eq_zero_or_pos ys.length with h0 | h0
  · have hx := List.eq_nil_of_length_eq_zero h0
    subst hx
    refine ⟨.slice none 0 0, w, run_append_nothing (P := Tryd.prog) w 23 23 23 30 i0 Tryd.underlying23 hi none 0 0 (Nat.le_refl _) _ ?_, hown, Below.refl _ _⟩
    cases A with
    | none => exact Src.ofNil w Tryd.underlying23 c
    | some a => exact Src.ofSlice w Tryd.underlying23 a 0 c [] (by simp) (by intro j u h; simp at h) (by simp)
  · obtain ⟨b, off, rfl, -, -⟩ := hr h0
    obtain ⟨v', w', h1, h2, h3, -, h5⟩ := run_append_own_at (P := Tryd.prog) w w.heap.size 23 23 30 i0 _ 4 40 Tryd.underlying23 hi hz0 hz1 hz2 rfl (by decide) (.slice none 0 0) 0 [] hown ⟨b, off, none⟩ ys.length c (flatT ys) (by rw [flatT_len]) hr.flat (flatT_one ys) (by unfold maxLen; omega) (by omega) (Nat.le_refl _)
    refine ⟨v', w', h1, ?_, (Below.refl _ w).grown h3 (Nat.le_refl _) (fun k hk => (hown.lt k hk).1)⟩
    unfold OwnT
    rw [Nat.zero_add, List.nil_append] at h2
    exact h2
/-- Cut of any text. -/
theorem cut_all (s : ByteArray) (w : World) (hE : Env w) : Calls Tryd.prog 10 #[.string s] w fun e w' => ((∃ (ts : List T) (A : Option Addr) (c : Nat), s.size ≤ 4096 ∧ cutP 0 s.data.toList = .ok ts ∧ e = .returned (.tuple #[.slice A ts.length c, .int .i64 0, .int .i64 0]) ∧ ts.length ≤ c ∧ TAt w' w'.heap.size A ts) ∨
    ∃ (q r : Int), (r != 0) = true ∧ (s.size ≤ 4096 → ∃ k, cutP 0 s.data.toList = .error k) ∧ e = .returned (.tuple #[.slice none 0 0, .int .i64 q, .int .i64 r])) ∧ Below w.heap.size w w' := by
  by_cases hs : s.size ≤ 4096
  · refine (cut_any s w hE hs).mono fun e w' h => ?_
    cases hc : cutP 0 s.data.toList with
    | error q =>
      obtain ⟨h1, h2⟩ := h.err hc
      exact ⟨Or.inr ⟨_, _, rfl, fun _ => ⟨_, rfl⟩, h1⟩, h2⟩
    | ok ts =>
      obtain ⟨⟨A, c, h1, h3, h4⟩, h2⟩ := h.ok hc
      exact ⟨Or.inl ⟨ts, A, c, hs, rfl, h1, h3, h4⟩, h2⟩
  · refine (cut_long s w (by omega)).mono ?_
    rintro e w' ⟨rfl, rfl⟩
    exact ⟨Or.inr ⟨_, _, rfl, fun h => absurd h hs, rfl⟩, Below.refl _ _⟩
theorem TAt.drop {w : World} {B b off : Nat} {ts : List T} (h : TAt w B (some ⟨b, off, none⟩) ts) (k : Nat) : TAt w B (some ⟨b, off + k * 4, none⟩) (ts.drop k) := fun h0 => by
  obtain ⟨b', off', hA, hlt, hc⟩ := h (by rw [List.length_drop] at h0; omega)
  simp at hA
  obtain ⟨rfl, rfl⟩ := hA
  refine ⟨b, off + k * 4, rfl, hlt, fun j hj => ?_⟩
  have := hc (k + j) (by rw [List.length_drop] at hj; omega)
  rw [List.getElem_drop, show off + k * 4 + j * 4 = off + (k + j) * 4 by omega]
  exact this
theorem TAt.take {w : World} {B : Nat} {A : Option Addr} {ts : List T} (h : TAt w B A ts) (k : Nat) : TAt w B A (ts.take k) := fun h0 => by
  obtain ⟨b, off, hA, hlt, hc⟩ := h (by rw [List.length_take] at h0; omega)
  refine ⟨b, off, hA, hlt, fun j hj => ?_⟩
  rw [List.getElem_take]
  exact hc j (by rw [List.length_take] at hj; omega)
end Go.Proofs.YtjnecobamobieaaDoor
