/- Bytes in memory: read one by one, cut, copied; bytes that a call owns. No condition. -/
import Derived.Test.YtjnecobamobieaaDoorTokKit
import Derived.Deep.AppendLies
import Derived.Lib.AppendStr
import Derived.Deep.Upon
import Derived.Lib.SlFresh
import Derived.Laws.BytesString
import Derived.Laws.Cells
namespace Go.Proofs.YtjnecobamobieaaDoor
open Go.RowKit
def BytesAt (w : World) (B : Nat) (A : Option Addr) (l : List UInt8) : Prop := 0 < l.length → ∃ b off, A = some ⟨b, off, none⟩ ∧ b < B ∧ ∀ j (h : j < l.length), w.cell? ⟨b, off + j, none⟩ = some (.int .u8 l[j].toNat)
theorem BytesAt.below {w w' : World} {B : Nat} {A : Option Addr} {l : List UInt8} (h : BytesAt w B A l) (hb : Below B w w') : BytesAt w' B A l := fun h0 => by
  obtain ⟨b, off, hA, hlt, hc⟩ := h h0
  exact ⟨b, off, hA, hlt, fun j hj => (hb.cell (p := ⟨b, _, none⟩) hlt).trans (hc j hj)⟩
theorem BytesAt.mono {w : World} {B B' : Nat} {A : Option Addr} {l : List UInt8} (h : BytesAt w B A l) (hB : B ≤ B') : BytesAt w B' A l := fun h0 => by
  obtain ⟨b, off, hA, hlt, hc⟩ := h h0
  exact ⟨b, off, hA, by omega, hc⟩
theorem BytesAt.later {w w' : World} {A : Option Addr} {l : List UInt8} (h : BytesAt w w.heap.size A l) (hb : Below w.heap.size w w') : BytesAt w' w'.heap.size A l := (h.below hb).mono hb.size
theorem BytesAt.nil (w : World) (B : Nat) (A : Option Addr) : BytesAt w B A [] := fun h => by simp at h
theorem BytesAt.drop {w : World} {B b off : Nat} {l : List UInt8} (h : BytesAt w B (some ⟨b, off, none⟩) l) (k : Nat) : BytesAt w B (some ⟨b, off + k, none⟩) (l.drop k) := fun h0 => by
  obtain ⟨b', off', hA, hlt, hc⟩ := h (by rw [List.length_drop] at h0; omega)
  simp at hA
  obtain ⟨rfl, rfl⟩ := hA
  refine ⟨b, off + k, rfl, hlt, fun j hj => ?_⟩
  have := hc (k + j) (by rw [List.length_drop] at hj; omega)
  rw [Nat.add_assoc]
  simpa using this
theorem BytesAt.take {w : World} {B : Nat} {A : Option Addr} {l : List UInt8} (h : BytesAt w B A l) (k : Nat) : BytesAt w B A (l.take k) := fun h0 => by
  obtain ⟨b, off, hA, hlt, hc⟩ := h (by rw [List.length_take] at h0; omega)
  refine ⟨b, off, hA, hlt, fun j hj => ?_⟩
  have := hc j (by rw [List.length_take] at hj; omega)
  simpa using this
/-- Bytes as cells. -/
def u8s (l : List UInt8) : List Value := l.map fun x => .int .u8 x.toNat
theorem u8s_len (l : List UInt8) : (u8s l).length = l.length := by simp [u8s]
theorem u8s_append (l m : List UInt8) : u8s (l ++ m) = u8s l ++ u8s m := by simp [u8s]
theorem u8s_one (l : List UInt8) : ∀ u ∈ u8s l, u.oneCell' = true := by
  intro u hu
  obtain ⟨r, _, rfl⟩ := List.mem_map.1 hu
  rfl
theorem u8s_str (s : ByteArray) : Lib.strCells s = u8s s.data.toList := rfl
theorem info5 : (Tryd.prog.info? 5).map (fun i => (i.zero, i.size, i.bytes)) = some (some (.int .u8 0), 1, 1) := by kernel_rfl
theorem BytesAt.cells {w : World} {B b off : Nat} {l : List UInt8} (h : BytesAt w B (some ⟨b, off, none⟩) l) : ∀ j u, (u8s l)[j]? = some u → w.cell? ((⟨b, off, none⟩ : Addr).add j) = some u := by
  intro j u hu
  have hj : j < l.length := by
    have := (List.getElem?_eq_some_iff.1 hu).1
    rwa [u8s_len] at this
  obtain ⟨b', off', hA, -, hc⟩ := h (by omega)
  simp at hA
  obtain ⟨rfl, rfl⟩ := hA
  have := hc j hj
  rw [WideShapes.add_plain]
  simp [u8s, hj] at hu
  rw [← hu]
  exact this
/-- Bytes that the call owns. -/
def Own (w : World) (B : Nat) (v : Value) (l : List UInt8) : Prop := w.ownsRow B 5 1 v l.length (u8s l)
theorem Own.nil (w : World) (B : Nat) : Own w B (.slice none 0 0) [] := World.ownsRow_nil w B 5 1
theorem Own.shape {w : World} {B : Nat} {v : Value} {l : List UInt8} (h : Own w B v l) : ∃ A c, v = .slice A l.length c ∧ l.length ≤ c := by
  rcases h.2 with ⟨hv, h0⟩ | ⟨g, cap, cur, hv, _, hg, hn, _⟩
  · exact ⟨none, 0, by rw [hv, h0], by omega⟩
  · exact ⟨_, cap, hv, by assumption⟩
theorem Own.bytes {w : World} {B : Nat} {v : Value} {l : List UInt8} (h : Own w B v l) : ∃ A c, v = .slice A l.length c ∧ l.length ≤ c ∧ c ≤ maxLen ∧ BytesAt w w.heap.size A l := by
  rcases h.2 with ⟨hv, h0⟩ | ⟨g, cap, cur, hv, _, hg, hn, hm, _⟩
  · exact ⟨none, 0, by rw [hv, h0], by omega, by decide, fun h => by omega⟩
  · refine ⟨_, cap, hv, hn, hm, fun _ => ⟨g, 0, rfl, (Array.getElem?_eq_some_iff.1 hg).1, fun j hj => ?_⟩⟩
    have := h.cells (g := g) (by rw [hv]; rfl) j (.int .u8 l[j].toNat) (by simp [u8s, hj])
    rwa [WideShapes.add_plain] at this
/-- The block of bytes that a call owns is another one. -/
def Off (v : Value) (b : Nat) : Prop := v.ownBlock ≠ some b
theorem Off.nil (b : Nat) : Off (.slice none 0 0) b := by simp [Off, Value.ownBlock]
theorem own_below {w w' : World} {B : Nat} {v : Value} {l : List UInt8} (h : Own w B v l) (hb : Below w.heap.size w w') : Own w' B v l :=
  h.kept (row := none) ⟨hb.os, hb.tape, hb.output, hb.size, fun k hk _ => hb.block k hk⟩ (by cases v.ownBlock <;> simp)
theorem own_alloc {w : World} {B : Nat} {v : Value} {l : List UInt8} (h : Own w B v l) (o : Obj) : Own (w.alloc o) B v l := h.alloc o
/-- More bytes behind those that the call owns: cells that are there. -/
theorem own_app {w : World} {B : Nat} {v : Value} {l : List UInt8} (hown : Own w B v l) (m : List UInt8) (A : Option Addr) (c : Nat) (hr : BytesAt w w.heap.size A m) (hm : l.length + m.length ≤ 100000000) (hB : B ≤ w.heap.size) :
    ∃ v' w', (Builtin.append_ #[34, 34] 34 #[v, .slice A m.length c]).run Tryd.prog w = .ok v' w' ∧ Own w' B v' (l ++ m) ∧ w.grownBy w' v.ownBlock ∧ (v'.ownBlock = v.ownBlock ∨ v'.ownBlock = some w.heap.size) := by
  obtain ⟨i0, hi, hz0, hz1, hz2⟩ := info_parts info5
  rcases Nat.eq_zero_or_pos m.length with h0 | h0
  · have hx := List.eq_nil_of_length_eq_zero h0
    subst hx
    obtain ⟨A', c', rfl, hn⟩ := hown.shape
    refine ⟨.slice A' l.length c', w, run_append_nothing (P := Tryd.prog) w 34 34 34 5 i0 Tryd.underlying34 hi A' l.length c' hn _ ?_, by simpa using hown, ?_, Or.inl rfl⟩
    · cases A with
      | none => exact Src.ofNil w Tryd.underlying34 c
      | some a => exact Src.ofSlice w Tryd.underlying34 a 0 c [] (by simp) (by intro j u h; simp at h) (by simp)
    · exact ⟨rfl, rfl, rfl, Nat.le_refl _, fun _ _ _ => rfl⟩
  · obtain ⟨b, off, rfl, -, -⟩ := hr h0
    obtain ⟨v', w', h1, h2, h3, -, h5⟩ := run_append_own_at (P := Tryd.prog) w B 34 34 5 i0 (.int .u8 0) 1 1 Tryd.underlying34 hi hz0 hz1 hz2 rfl (by decide) v l.length (u8s l) hown ⟨b, off, none⟩ m.length c (u8s m) (by rw [u8s_len]; omega) hr.cells (u8s_one m) (by unfold maxLen; omega) (by omega) hB
    refine ⟨v', w', h1, ?_, h3, h5⟩
    unfold Own
    rw [List.length_append, u8s_append]
    exact h2
/-- .. and a text's bytes. -/
theorem own_str {w : World} {B : Nat} {v : Value} {l : List UInt8} (hown : Own w B v l) (s : ByteArray) (hm : l.length + s.size ≤ 100000000) (hB : B ≤ w.heap.size) :
    ∃ v' w', (Builtin.append_ #[34, 9] 34 #[v, .string s]).run Tryd.prog w = .ok v' w' ∧ Own w' B v' (l ++ s.data.toList) ∧ w.grownBy w' v.ownBlock ∧ (v'.ownBlock = v.ownBlock ∨ v'.ownBlock = some w.heap.size) := by
  obtain ⟨i0, hi, hz0, hz1, hz2⟩ := info_parts info5
  obtain ⟨v', w', h1, h2, h3, h4⟩ := Lib.run_append_own_string (P := Tryd.prog) w B 34 9 34 5 i0 Tryd.underlying34 Tryd.underlying9 hi hz0 hz1 hz2 v l.length (u8s l) hown s (by unfold maxLen; omega) (by omega) hB
  refine ⟨v', w', h1, ?_, h3, ?_⟩
  · unfold Own
    rw [List.length_append, u8s_append, ← u8s_str]
    have e : s.data.toList.length = s.size := by simp
    rw [e]
    exact h2
  · rcases hown.2 with ⟨hv, h0⟩ | ⟨g, cap, cur, hv, _, hg, hn, hm2, hcs, htk⟩
    · subst hv
      rcases Nat.eq_zero_or_pos s.size with hs | hs
      · rw [h4.2 ⟨rfl, hs⟩]; exact Or.inl rfl
      · rw [run_append_nil_string (P := Tryd.prog) w 34 9 34 5 i0 _ Tryd.underlying34 Tryd.underlying9 hi hz0 s hs (by omega) (by rw [hz2]; omega)] at h1
        simp only [Result.ok.injEq] at h1
        rw [← h1.1]
        exact Or.inr rfl
    · subst hv
      by_cases hroom : l.length + s.size ≤ cap
      · rw [Lib.run_append_room_string (P := Tryd.prog) w 34 9 34 5 i0 Tryd.underlying34 Tryd.underlying9 hi hz1 g l.length cap cur hg s hroom (by omega)] at h1
        simp only [Result.ok.injEq] at h1
        rw [← h1.1]
        exact Or.inl rfl
      · rw [Lib.run_append_grow_string (P := Tryd.prog) w 34 9 34 5 i0 _ Tryd.underlying34 Tryd.underlying9 hi hz0 ⟨g, 0, none⟩ l.length cap (u8s l) (by rw [u8s_len, hz1]; omega) (hown.cells rfl) s (by omega) (by omega) (growslice_fits (by omega) (by rw [hz2]; omega))] at h1
        simp only [Result.ok.injEq] at h1
        rw [← h1.1]
        exact Or.inr rfl
theorem grown_below {w0 w w' : World} {B0 B : Nat} {v : Value} {l : List UInt8} (hb : Below B0 w0 w) (hown : Own w B v l) (hg : w.grownBy w' v.ownBlock) (hB : B0 ≤ w.heap.size) (h0 : B0 ≤ B) : Below B0 w0 w' :=
  hb.grown hg hB (fun k hk => Nat.le_trans h0 (hown.lt k hk).1)
theorem cell_in {w : World} {b o : Nat} {v : Value} (h : w.cell? ⟨b, o, none⟩ = some v) : b < w.heap.size := by
  rcases Nat.lt_or_ge b w.heap.size with h' | h'
  · exact h'
  · simp [World.cell?, Array.getElem?_eq_none h'] at h
/-- Bytes as a text. -/
theorem conv_at {w : World} {B : Nat} {A : Option Addr} {c : Nat} {l : List UInt8} (hr : BytesAt w B A l) : (convert 34 9 (.slice A l.length c)).run Tryd.prog w = .ok (.string (str l)) w := by
  rcases Nat.eq_zero_or_pos l.length with h0 | h0
  · have := List.eq_nil_of_length_eq_zero h0
    subst this
    cases A with
    | none =>
      rw [run_convert_bytes_string w 34 9 5 _ _ _ Tryd.underlying34 Tryd.underlying5 Tryd.underlying9]
      simp [Conv.bytesToString]
      rfl
    | some a => exact run_convert_bytes_back w 34 9 5 a c [] Tryd.underlying34 Tryd.underlying5 Tryd.underlying9 (fun j hj => by simp at hj)
  · obtain ⟨b, off, rfl, -, hc⟩ := hr h0
    exact run_convert_bytes_back w 34 9 5 ⟨b, off, none⟩ c l Tryd.underlying34 Tryd.underlying5 Tryd.underlying9 (fun j hj => by rw [WideShapes.add_plain]; exact hc j hj)
/-- A fresh slice of bytes, as bytes in memory. -/
theorem fresh_at {B : Nat} {w : World} {v : Value} {l : List UInt8} (h : Lib.FreshBytes B w v l) (h0 : 0 < l.length) : ∃ g c, v = .slice (some ⟨g, 0, none⟩) l.length c ∧ BytesAt w w.heap.size (some ⟨g, 0, none⟩) l := by
  obtain ⟨g, cap, zs, rfl, -, hlc, -, hz, hzs, hb, hc, -⟩ := h
  refine ⟨g, cap, rfl, fun _ => ⟨g, 0, rfl, cell_in (hc 0 (by omega)), fun j hj => ?_⟩⟩
  rw [Nat.zero_add, hc j (by omega)]
  have hj2 : j < zs.length := by omega
  have e : l[j] = UInt8.ofNat (Int.toNat zs[j]) := by
    have := congrArg (fun m => m[j]?) hb
    simp only [Lib.bytesOf] at this
    rw [List.getElem?_map, List.getElem?_take_of_lt hj, List.getElem?_eq_getElem hj2, List.getElem?_eq_getElem hj] at this
    simp at this
    rw [← this]
  have hr := hzs zs[j] (List.getElem_mem hj2)
  rw [e]
  have : zs.getD j 0 = zs[j] := by simp [hj2]
  rw [this]
  congr 2
  simp
  omega
end Go.Proofs.YtjnecobamobieaaDoor
