/- Plain facts on the order of values and rows (no program): comparing numbers, bytes, values and lists of values is an order: it answers -1, 0 or 1, turned round it is turned round, it is 0 just where both are the same, and it goes on. No condition. -/
import Derived.Lib.Bytealg
import Derived.Sort.Walk0
import Derived.Test.YtcmbdghbicjljaaGreatDoorProg
import Derived.WalkKit
import Derived.WalkSpells
import Derived.WalkLawsBesides
import Derived.Lib.Hide
import Derived.Deep.Light
import Derived.StillTailTactics
import Derived.Deep.AppendLies
import Derived.Deep.Slices
import Derived.Deep.Fields
import Derived.ChangeSame
import Derived.SizedLaws
import Derived.Lib.SmallJoins
import Derived.Test.YtcmbdghbicjljaaGreatDoorShelf
namespace Go.Proofs.YtcmbdghbicjljaaGreatDoor.BV

structure V where
  k : Int
  i : Int
  s : ByteArray

structure CmpOk {α : Type} (c : α → α → Int) : Prop where
  range : ∀ a b, c a b = -1 ∨ c a b = 0 ∨ c a b = 1
  flip : ∀ a b, c b a = - c a b
  zero : ∀ a b, c a b = 0 ↔ a = b
  trans : ∀ a b d, c a b = -1 → c b d = -1 → c a d = -1

def cmpI (a b : Int) : Int := if a < b then -1 else if b < a then 1 else 0
def cmpS (a b : ByteArray) : Int := Lib.compareBytes a.data.toList b.data.toList
def cmpV (k i : Int) (s : ByteArray) (k' i' : Int) (s' : ByteArray) : Int := if cmpI k k' = 0 then (if cmpI i i' = 0 then cmpS s s' else cmpI i i') else cmpI k k'
theorem V.ext {x y : V} (h1 : x.k = y.k) (h2 : x.i = y.i) (h3 : x.s = y.s) : x = y := by
  cases x; cases y; simp_all

theorem CmpOk.le_trans {α : Type} {c : α → α → Int} (h : CmpOk c) {a b d : α} (h1 : c a b ≤ 0) (h2 : c b d ≤ 0) : c a d ≤ 0 := by
  rcases h.range a b with p | p | p
  · rcases h.range b d with q | q | q
    · have := h.trans _ _ _ p q; omega
    · obtain rfl := (h.zero _ _).1 q; omega
    · omega
  · obtain rfl := (h.zero _ _).1 p; omega
  · omega
end Go.Proofs.YtcmbdghbicjljaaGreatDoor.BV
namespace Go.Proofs.YtcmbdghbicjljaaGreatDoor.BV
open Go.RowKit

theorem ret_int {k : IntKind} {a b : Int} (h : a = b) : Ending.returned (.int k a) = .returned (.int k b) := by rw [h]
def emp (s : ByteArray) : Bool := s.toList.isEmpty
def mayB (k i : Int) (s : ByteArray) : Bool :=
  if k == 0 then i == 0 && emp s else if k == 1 then (i == 0 || i == 1) && emp s else if k == 2 then emp s else if k == 3 || k == 4 then i == 0 else false
def sameB (k i : Int) (s : ByteArray) (k' i' : Int) (s' : ByteArray) : Bool := k == k' && (i == i' && s.toList == s'.toList)
def chkI (k i : Int) (s : ByteArray) : Int := if mayB k i s then 0 else 1

set_option maxHeartbeats 400000 in
theorem mayBe_any (k i : Int) (s : ByteArray) (w : World) :
    Calls Tryz.prog 124 #[.agg #[.int .i64 k, .int .i64 i, .string s]] w fun e w' => e = .returned (.bool (mayB k i s)) ∧ Below w.heap.size w w' := by
  go_enter Tryz.func124, Tryz.ntmps124
  go_wp2
  all_goals go_ret
  all_goals refine ⟨?_, (Below.refl _ _).alloc (Nat.le_refl _) _⟩
  all_goals (go_light; simp [mayB, emp, *])

set_option maxHeartbeats 400000 in
theorem check_any (k i : Int) (s : ByteArray) (w : World) :
    Calls Tryz.prog 99 #[.agg #[.int .i64 k, .int .i64 i, .string s]] w fun e w' => e = .returned (.int .i64 (chkI k i s)) ∧ Below w.heap.size w w' := by
  cases hm : mayB k i s
  all_goals
    have HC := mayBe_any k i s
    rw [hm] at HC
    have H : Hid (mayB k i s = _) := hm
    clear hm
    go_enter Tryz.func99, Tryz.ntmps99
    go_wp2_with (go_at_call 124; refine (HC _).mono ?_; rintro e w' ⟨rfl, hb⟩)
    go_ret
    exact ⟨by simp [chkI, H.out], ((Below.refl _ _).alloc (Nat.le_refl _) _).trans (hb.mono (by simp))⟩

end Go.Proofs.YtcmbdghbicjljaaGreatDoor.BV
namespace Go.Proofs.YtcmbdghbicjljaaGreatDoor.BV
open Go.RowKit

def CellsAt (w : World) (b off : Nat) (v : V) : Prop := w.cell? ⟨b, off, none⟩ = some (.int .i64 v.k) ∧ w.cell? ⟨b, off + 1, none⟩ = some (.int .i64 v.i) ∧ w.cell? ⟨b, off + 2, none⟩ = some (.string v.s)
def RowAt (w : World) (B : Nat) (A : Option Addr) (xs : List V) : Prop := 0 < xs.length → ∃ b off, A = some ⟨b, off, none⟩ ∧ b < B ∧ ∀ j (h : j < xs.length), CellsAt w b (off + j * 3) xs[j]
def V.chk (v : V) : Int := chkI v.k v.i v.s
def allOk (xs : List V) : Bool := xs.all fun v => v.chk == 0
def chkR (xs : List V) : Int := if allOk xs then (if 64 < xs.length then 2 else 0) else 1

theorem allOk_snoc {xs : List V} {k : Nat} (h : k < xs.length) (h0 : xs[k].chk = 0) (ha : allOk (xs.take k) = true) : allOk (xs.take (k + 1)) = true := by
  unfold allOk at ha ⊢
  rw [List.take_succ_eq_append_getElem h, List.all_append, ha]
  simp [h0]
theorem chkR_bad {xs : List V} {k : Nat} {r : Int} (h : k < xs.length) (hx : xs[k].chk = r) (hr : ¬ r = 0) : r = chkR xs := by
  have h1 : r = 1 := by
    rw [← hx] at hr ⊢
    unfold V.chk chkI at hr ⊢
    split at hr <;> simp_all
  have h2 : allOk xs = false := by
    unfold allOk
    rw [List.all_eq_false]
    exact ⟨xs[k], List.getElem_mem h, by rw [hx]; simpa using hr⟩
  unfold chkR
  rw [h2, h1]
  rfl
theorem chkR_good {xs : List V} {n : Nat} {r : Int} (hn : n = xs.length) (ha : allOk (xs.take n) = true) (hr : r = if 64 < n then 2 else 0) : r = chkR xs := by
  subst hn
  rw [List.take_length] at ha
  unfold chkR
  rw [ha, hr]
  rfl

theorem RowAt.below {w w' : World} {B : Nat} {A : Option Addr} {xs : List V} (h : RowAt w B A xs) (hb : Below B w w') : RowAt w' B A xs := by
  intro hl
  obtain ⟨b, off, hA, hlt, hc⟩ := h hl
  refine ⟨b, off, hA, hlt, fun j hj => ?_⟩
  obtain ⟨h1, h2, h3⟩ := hc j hj
  exact ⟨(hb.cell (p := ⟨b, _, none⟩) hlt).trans h1, (hb.cell (p := ⟨b, _, none⟩) hlt).trans h2, (hb.cell (p := ⟨b, _, none⟩) hlt).trans h3⟩

theorem RowAt.mono {w : World} {B B' : Nat} {A : Option Addr} {xs : List V} (h : RowAt w B A xs) (hB : B ≤ B') : RowAt w B' A xs := fun hl => by
  obtain ⟨b, off, hA, hlt, hc⟩ := h hl
  exact ⟨b, off, hA, by omega, hc⟩
theorem RowAt.later {w w' : World} {A : Option Addr} {xs : List V} (h : RowAt w w.heap.size A xs) (hb : Below w.heap.size w w') : RowAt w' w'.heap.size A xs := (h.below hb).mono hb.size
theorem bthen {w w1 w2 : World} (h : Below w.heap.size w w1) (h' : Below w1.heap.size w1 w2) : Below w.heap.size w w2 := h.trans (h'.mono h.size)
structure R where
  A : Option Addr
  c : Nat
  xs : List V
def R.val (r : R) : Value := .slice r.A r.xs.length r.c
def RowsAt (w : World) (B : Nat) (A : Option Addr) (rs : List R) : Prop :=
  (0 < rs.length → ∃ b off, A = some ⟨b, off, none⟩ ∧ b < B ∧ ∀ j (h : j < rs.length), w.cell? ⟨b, off + j, none⟩ = some rs[j].val) ∧ ∀ r ∈ rs, RowAt w B r.A r.xs
theorem RowsAt.below {w w' : World} {B : Nat} {A : Option Addr} {rs : List R} (h : RowsAt w B A rs) (hb : Below B w w') : RowsAt w' B A rs := by
  refine ⟨fun hl => ?_, fun r hr => (h.2 r hr).below hb⟩
  obtain ⟨b, off, hA, hlt, hc⟩ := h.1 hl
  exact ⟨b, off, hA, hlt, fun j hj => (hb.cell (p := ⟨b, _, none⟩) hlt).trans (hc j hj)⟩

theorem rows_made (w : World) (rs : List R) (hrs : ∀ r ∈ rs, RowAt w w.heap.size r.A r.xs) (cs : Array Value) (hcs : cs = (rs.map R.val).toArray) (T : TypeId) :
    RowsAt (w.alloc (.cells cs T)) (w.alloc (.cells cs T)).heap.size (some ⟨w.heap.size, 0, none⟩) rs := by
  refine ⟨fun _ => ⟨w.heap.size, 0, rfl, by simp, fun j hj => ?_⟩, fun r hr => (hrs r hr).later (Below.alloc (Below.refl _ _) (Nat.le_refl _) _)⟩
  have hn : (w.alloc (.cells cs T)).heap[w.heap.size]? = some (.cells cs T (0, 0)) := heap_alloc_new w _
  rw [Lib.cell_of_heap hn, hcs]
  simp [hj]
def Box (w : World) (g : Nat) (v : V) : Prop := CellsAt w g 0 v ∧ g < w.heap.size
theorem Box.below {w w' : World} {g : Nat} {v : V} (h : Box w g v) (hb : Below w.heap.size w w') : Box w' g v :=
  ⟨⟨(hb.cell (p := ⟨g, 0, none⟩) h.2).trans h.1.1, (hb.cell (p := ⟨g, 0 + 1, none⟩) h.2).trans h.1.2.1, (hb.cell (p := ⟨g, 0 + 2, none⟩) h.2).trans h.1.2.2⟩, Nat.lt_of_lt_of_le h.2 hb.size⟩
theorem Box.made (w : World) (v : V) : Box (w.alloc (.cells #[.int .i64 v.k, .int .i64 v.i, .string v.s] 23)) w.heap.size v := by
  have hn : (w.alloc (.cells #[.int .i64 v.k, .int .i64 v.i, .string v.s] 23)).heap[w.heap.size]? = some (.cells _ 23 (0, 0)) := heap_alloc_new w _
  exact ⟨⟨by rw [Lib.cell_of_heap hn]; rfl, by rw [Lib.cell_of_heap hn]; rfl, by rw [Lib.cell_of_heap hn]; rfl⟩, by simp⟩
end Go.Proofs.YtcmbdghbicjljaaGreatDoor.BV
namespace Go.Proofs.YtcmbdghbicjljaaGreatDoor.BV
open Go.RowKit
set_option maxHeartbeats 400000 in
theorem rcheck_any (k i : Int) (s : ByteArray) (w : World) :
    Calls Tryz.prog 17 #[.agg #[.int .i64 k, .int .i64 i, .string s]] w fun e w' => e = .returned (.int .i64 (chkI k i s)) ∧ Below w.heap.size w w' := by
  go_enter Tryz.func17, Tryz.ntmps17
  go_wp2
  all_goals go_ret
  all_goals refine ⟨?_, (Below.refl _ _).alloc (Nat.le_refl _) _⟩
  all_goals (go_light; simp_all [chkI, mayB, emp])
end Go.Proofs.YtcmbdghbicjljaaGreatDoor.BV
namespace Go.Proofs.YtcmbdghbicjljaaGreatDoor.BV
open Go.RowKit
def c3 (v : V) : List Value := [.int .i64 v.k, .int .i64 v.i, .string v.s]
def flat (xs : List V) : List Value := xs.flatMap c3
theorem flat_len (xs : List V) : (flat xs).length = xs.length * 3 := by
  induction xs with
  | nil => rfl
  | cons a l ih => show (c3 a ++ flat l).length = _; rw [List.length_append, ih]; simp [c3]; omega
theorem flat_one (xs : List V) : ∀ u ∈ flat xs, u.oneCell' = true := by
  intro u hu
  obtain ⟨v, _, hv⟩ := List.mem_flatMap.1 hu
  simp [c3] at hv
  rcases hv with rfl | rfl | rfl <;> rfl
theorem flat_get (xs : List V) (j t : Nat) (hj : j < xs.length) (ht : t < 3) : (flat xs)[j * 3 + t]? = (c3 xs[j])[t]? := by
  induction xs generalizing j with
  | nil => simp at hj
  | cons a l ih =>
    show (c3 a ++ flat l)[j * 3 + t]? = _
    cases j with
    | zero =>
      rw [List.getElem?_append_left (by simp [c3]; omega)]
      simp
    | succ j =>
      rw [List.getElem?_append_right (by simp [c3]; omega)]
      rw [show (j + 1) * 3 + t - (c3 a).length = j * 3 + t by simp [c3]; omega, ih j (by simpa using hj)]
      simp
theorem RowAt.flat {w : World} {B : Nat} {b off : Nat} {xs : List V} (h : RowAt w B (some ⟨b, off, none⟩) xs) : ∀ j u, (Go.Proofs.YtcmbdghbicjljaaGreatDoor.BV.flat xs)[j]? = some u → w.cell? ((⟨b, off, none⟩ : Addr).add j) = some u := by
  intro j u hu
  have hl : j < xs.length * 3 := by
    have := (List.getElem?_eq_some_iff.1 hu).1
    rwa [flat_len] at this
  obtain ⟨b', off', hA, hlt, hc⟩ := h (by omega)
  simp at hA
  obtain ⟨rfl, rfl⟩ := hA
  have hq : j / 3 < xs.length := by omega
  obtain ⟨h0, h1, h2⟩ := hc (j / 3) hq
  rw [show j = j / 3 * 3 + j % 3 by omega, flat_get xs (j / 3) (j % 3) hq (by omega)] at hu
  rw [WideShapes.add_plain]
  have h3 : j % 3 = 0 ∨ j % 3 = 1 ∨ j % 3 = 2 := by omega
  rcases h3 with h3 | h3 | h3
  · rw [h3] at hu
    simp [c3] at hu
    rw [← hu, show off + j = off + j / 3 * 3 by omega]; exact h0
  · rw [h3] at hu
    simp [c3] at hu
    rw [← hu, show off + j = off + j / 3 * 3 + 1 by omega]; exact h1
  · rw [h3] at hu
    simp [c3] at hu
    rw [← hu, show off + j = off + j / 3 * 3 + 2 by omega]; exact h2
theorem RowAt.of_flat {w : World} {g : Nat} {ys : List V} (h : ∀ j u, (Go.Proofs.YtcmbdghbicjljaaGreatDoor.BV.flat ys)[j]? = some u → w.cell? ((⟨g, 0, none⟩ : Addr).add j) = some u) (hg : g < w.heap.size) : RowAt w w.heap.size (some ⟨g, 0, none⟩) ys := fun _ => by
  refine ⟨g, 0, rfl, hg, fun j hj => ?_⟩
  have e0 := h (j * 3 + 0) _ (flat_get ys j 0 hj (by omega))
  have e1 := h (j * 3 + 1) _ (flat_get ys j 1 hj (by omega))
  have e2 := h (j * 3 + 2) _ (flat_get ys j 2 hj (by omega))
  rw [WideShapes.add_plain] at e0 e1 e2
  exact ⟨e0, e1, e2⟩
end Go.Proofs.YtcmbdghbicjljaaGreatDoor.BV
namespace Go.Proofs.YtcmbdghbicjljaaGreatDoor.BV
open Go.RowKit Go.ChangeShapes Go.WideShapes Go.Deep
section
variable {H : Type} {enc : TypeId × Value → H} {W : World}
theorem weightsAll_mem {P : Program} {e : TypeId} : ∀ {ds : List (DataW H)} {d : DataW H}, d ∈ ds → ∀ n ∈ d.weights P e, n ∈ DataW.weightsAll P e ds
  | d0 :: ds, d, hd, n, hn => by
    simp only [DataW.weightsAll, List.mem_append]
    rcases List.mem_cons.1 hd with rfl | h
    · exact Or.inl hn
    · exact Or.inr (weightsAll_mem h n hn)
theorem weights_elem {P : Program} {t e : TypeId} {ds sp : List (DataW H)} (ht : P.underlying t = some (.slice e)) {d : DataW H} (hd : d ∈ ds) : ∀ n ∈ d.weights P e, n ∈ (DataW.slice ds sp : DataW H).weights P t := fun n hn => by
  simp only [DataW.weights, ht, List.mem_cons, List.mem_append]
  exact Or.inr (Or.inl (weightsAll_mem hd n hn))
theorem cell_in {w : World} {b o : Nat} {v : Value} (h : w.cell? ⟨b, o, none⟩ = some v) : b < w.heap.size := by
  rcases Nat.lt_or_ge b w.heap.size with h' | h'
  · exact h'
  · simp [World.cell?, Array.getElem?_eq_none h'] at h
def V.fits (v : V) : Prop := -9223372036854775808 ≤ v.k ∧ v.k ≤ 9223372036854775807 ∧ -9223372036854775808 ≤ v.i ∧ v.i ≤ 9223372036854775807
theorem wf64 {n : Int} (h : (Lit.int .i64 n).wf = true) : -9223372036854775808 ≤ n ∧ n ≤ 9223372036854775807 := by
  simpa [Lit.wf, IntKind.min, IntKind.max, IntKind.signed, IntKind.bits] using h
theorem len3 {α : Type} {l : List α} (h : l.length = 3) : ∃ a b c, l = [a, b, c] := by
  match l, h with
  | [a, b, c], _ => exact ⟨a, b, c, rfl⟩
set_option maxRecDepth 100000 in
theorem open_vals {ts : TypeId} (hts : Tryz.prog.underlying ts = some (.slice 23)) {fuel : Nat} {a0 : Option Addr} {len cap : Nat} {x : DataW H × List MemPlace} (hf : DataW.trod enc Tryz.prog W 0 (fun _ => true) true fuel ts [.slice a0 len cap] = some x) (hsz : ∀ n ∈ x.1.weights Tryz.prog ts, n ≤ reachBytes) :
    ∃ xs : List V, xs.length = len ∧ RowAt W W.heap.size a0 xs ∧ xs.length ≤ 140737488355328 ∧ (∀ v ∈ xs, v.s.size ≤ 140737488355328) ∧ (∀ v ∈ xs, v.fits) ∧ len ≤ cap ∧ cap ≤ 140737488355328 := by
  rcases open_slice hts hf with ⟨hcs, hx⟩ | ⟨a, len', cap', m, n, D, Pl, hcs, hb, hl, hm, hmm, hx, hi⟩
  · simp at hcs
    obtain ⟨rfl, rfl, rfl⟩ := hcs
    exact ⟨[], rfl, fun h => absurd h (by simp), by simp, by simp, by simp, Nat.le_refl _, by omega⟩
  · simp at hcs
    obtain ⟨rfl, rfl, rfl⟩ := hcs
    subst hx
    simp only [if_true] at hmm
    subst hmm
    have c29 : Tryz.prog.cellsOf 23 = 3 := by kernel_rfl
    have b29 : Tryz.prog.bytesOf 23 = 32 := by kernel_rfl
    have hcap : m ≤ 140737488355328 := by
      have := hsz ((((List.range len).map D).length + ((List.range (m - len)).map fun j => D (len + j)).length) * Tryz.prog.bytesOf 23) (by simp only [DataW.weights, hts, List.mem_cons]; exact Or.inl trivial)
      rw [b29] at this
      simp at this
      have := reachBytes_lt
      omega
    obtain ⟨b, o, spot⟩ := a
    have hspot : 0 < len → spot = none := by
      intro h0
      obtain ⟨cs', hc, _⟩ := hi 0 (by omega)
      rw [c29] at hc
      obtain ⟨_, hcl, hat⟩ := World.cells?_some hc
      obtain ⟨v0, v1, v2, rfl⟩ := len3 hcl
      have q0 := hat 0 (by omega)
      have := World.cell?_spot (show W.cell? _ = some _ from q0)
      simpa [Addr.add] using this
    have key : ∀ i, i < len → ∃ v : V, CellsAt W b (o + i * 3) v ∧ v.fits ∧ D i = .agg [.lit (.int .i64 v.k), .lit (.int .i64 v.i), .lit (.string v.s.data.toList)] := by
      intro i hil
      obtain ⟨cs', hc, ht⟩ := hi i (by omega)
      rw [c29] at hc
      obtain ⟨_, hcl, hat⟩ := World.cells?_some hc
      obtain ⟨ys, n', _, hy, _, hyl, hf'⟩ := DataW.trod_struct Tryz.underlying23 ht
      obtain ⟨y0, y1, y2, rfl⟩ := len3 hyl
      obtain ⟨v0, v1, v2, rfl⟩ := len3 hcl
      have g0 := hf' 0 _ rfl
      have g1 := hf' 1 _ rfl
      have g2 := hf' 2 _ rfl
      have c3 : Tryz.prog.cellsOf 3 = 1 := by kernel_rfl
      have c2 : Tryz.prog.cellsOf 2 = 1 := by kernel_rfl
      have c9 : Tryz.prog.cellsOf 9 = 1 := by kernel_rfl
      obtain ⟨k, e0, e0', wk⟩ := DataW.trod_int Tryz.underlying3 (show DataW.trod enc Tryz.prog W 0 (fun _ => true) true n' 3 (([v0, v1, v2].drop 0).take (Tryz.prog.cellsOf 3)) = some y0 from g0)
      obtain ⟨j, e1, e1', wj⟩ := DataW.trod_int Tryz.underlying2 (show DataW.trod enc Tryz.prog W 0 (fun _ => true) true n' 2 (([v0, v1, v2].drop 1).take (Tryz.prog.cellsOf 2)) = some y1 from g1)
      obtain ⟨s, e2, e2', ws⟩ := DataW.trod_string Tryz.underlying9 (show DataW.trod enc Tryz.prog W 0 (fun _ => true) true n' 9 (([v0, v1, v2].drop 2).take (Tryz.prog.cellsOf 9)) = some y2 from g2)
      rw [c3] at e0
      rw [c2] at e1
      rw [c9] at e2
      simp at e0 e1 e2
      subst e0 e1 e2
      have q0 := hat 0 (by omega)
      have q1 := hat 1 (by omega)
      have q2 := hat 2 (by omega)
      obtain rfl := hspot (by omega)
      rw [add_plain, add_plain] at q0 q1 q2
      simp only [Prod.mk.injEq] at hy
      exact ⟨⟨k, j, s⟩, ⟨q0, q1, q2⟩, ⟨(wf64 wk).1, (wf64 wk).2, (wf64 wj).1, (wf64 wj).2⟩, by rw [hy.1, e0', e1', e2']; rfl⟩
    have : Inhabited V := ⟨⟨0, 0, ⟨#[]⟩⟩⟩
    obtain ⟨F, hF⟩ := choose_lt key
    have hmem : ∀ v ∈ (List.range len).map F, ∃ i, i < len ∧ F i = v := fun v hv => by
      obtain ⟨i, hi', rfl⟩ := List.mem_map.1 hv
      exact ⟨i, List.mem_range.1 hi', rfl⟩
    refine ⟨(List.range len).map F, by simp, fun hl0 => ?_, by simp; omega, fun v hv => ?_, fun v hv => ?_, hl, hcap⟩
    · have hl0' : 0 < len := by simpa using hl0
      obtain rfl := hspot hl0'
      refine ⟨b, o, rfl, cell_in (hF 0 hl0').1.1, fun j hj => ?_⟩
      have hj' : j < len := by simpa using hj
      have := (hF j hj').1
      simpa using this
    · obtain ⟨i, hi', rfl⟩ := hmem v hv
      have h1 := hsz (F i).s.data.toList.length (weights_elem hts (d := D i) (List.mem_map.2 ⟨i, List.mem_range.2 hi', rfl⟩) _ (by
        rw [(hF i hi').2.2]
        simp [DataW.weights, Tryz.underlying23, DataW.weightsEach]))
      have := reachBytes_lt
      have h2 : (F i).s.data.toList.length = (F i).s.size := by simp
      omega
    · obtain ⟨i, hi', rfl⟩ := hmem v hv
      exact (hF i hi').2.1
theorem open_row {fuel : Nat} {a0 : Option Addr} {len cap : Nat} {x : DataW H × List MemPlace} (hf : DataW.trod enc Tryz.prog W 0 (fun _ => true) true fuel 28 [.slice a0 len cap] = some x) (hsz : ∀ n ∈ x.1.weights Tryz.prog 28, n ≤ reachBytes) :
    ∃ xs : List V, xs.length = len ∧ RowAt W W.heap.size a0 xs ∧ xs.length ≤ 140737488355328 ∧ (∀ v ∈ xs, v.s.size ≤ 140737488355328) ∧ (∀ v ∈ xs, v.fits) ∧ len ≤ cap ∧ cap ≤ 140737488355328 := open_vals Tryz.underlying28 hf hsz
set_option maxRecDepth 100000 in
theorem open_value {r : Reach} {b0 : Nat} {v : Value} {d : DataW H} {p : List MemPlace} (hv : Value.okWide Tryz.prog W r b0 23 v) (h : DataW.Trod enc Tryz.prog W 0 (fun _ => true) true 23 v d p) (hsz : ∀ n ∈ d.weights Tryz.prog 23, n ≤ reachBytes) :
    ∃ x : V, v = .agg #[.int .i64 x.k, .int .i64 x.i, .string x.s] ∧ x.s.size ≤ 140737488355328 ∧ x.fits := by
  obtain ⟨v0, v1, v2, y0, y1, y2, n, rfl, rfl, rfl, g0, g1, g2⟩ := Go.Joins.open_agg3 Tryz.underlying23 (by kernel_rfl) (by kernel_rfl) hv h
  obtain ⟨k, e0, e0', wk⟩ := DataW.trod_int Tryz.underlying3 (show DataW.trod enc Tryz.prog W 0 (fun _ => true) true n 3 [v0] = some y0 from g0)
  obtain ⟨j, e1, e1', wj⟩ := DataW.trod_int Tryz.underlying2 (show DataW.trod enc Tryz.prog W 0 (fun _ => true) true n 2 [v1] = some y1 from g1)
  obtain ⟨s, e2, e2', ws⟩ := DataW.trod_string Tryz.underlying9 (show DataW.trod enc Tryz.prog W 0 (fun _ => true) true n 9 [v2] = some y2 from g2)
  simp at e0 e1 e2
  subst e0 e1 e2
  refine ⟨⟨k, j, s⟩, rfl, ?_, ⟨(wf64 wk).1, (wf64 wk).2, (wf64 wj).1, (wf64 wj).2⟩⟩
  have h1 := hsz s.data.toList.length (by rw [e0', e1', e2']; simp [DataW.weights, Tryz.underlying23, DataW.weightsEach])
  have := reachBytes_lt
  have h2 : s.data.toList.length = s.size := by simp
  show s.size ≤ _
  omega
end
end Go.Proofs.YtcmbdghbicjljaaGreatDoor.BV
namespace Go.Proofs.YtcmbdghbicjljaaGreatDoor.BV
open Go.RowKit
set_option maxHeartbeats 400000 in
theorem same_any (k i k' i': Int) (s s' : ByteArray) (w : World) :
    Calls Tryz.prog 117 #[.agg #[.int .i64 k, .int .i64 i, .string s], .agg #[.int .i64 k', .int .i64 i', .string s']] w fun e w' => e = .returned (.bool (sameB k i s k' i' s')) ∧ Below w.heap.size w w' := by
  go_enter Tryz.func117, Tryz.ntmps117
  go_wp2
  all_goals go_ret
  all_goals refine ⟨?_, ((Below.refl _ _).alloc (Nat.le_refl _) _).alloc (by simp) _⟩
  all_goals (go_light; simp [sameB, *])

set_option maxHeartbeats 400000 in
theorem rsame_any (k i k' i': Int) (s s' : ByteArray) (w : World) :
    Calls Tryz.prog 33 #[.agg #[.int .i64 k, .int .i64 i, .string s], .agg #[.int .i64 k', .int .i64 i', .string s']] w fun e w' => e = .returned (.bool (sameB k i s k' i' s')) ∧ Below w.heap.size w w' := by
  go_enter Tryz.func33, Tryz.ntmps33
  go_wp2
  all_goals go_ret
  all_goals refine ⟨?_, ((Below.refl _ _).alloc (Nat.le_refl _) _).alloc (by simp) _⟩
  all_goals (go_light; simp [sameB, *])
end Go.Proofs.YtcmbdghbicjljaaGreatDoor.BV
namespace Go.Proofs.YtcmbdghbicjljaaGreatDoor.BV
open Go.RowKit
set_option maxHeartbeats 400000 in
theorem cmp64_any (a b : Int) (w : World) :
    Calls Tryz.prog 119 #[.int .i64 a, .int .i64 b] w fun e w' => e = .returned (.int .i64 (cmpI a b)) ∧ w = w' := by
  go_enter Tryz.func119, Tryz.ntmps119
  go_wp2
  all_goals go_ret
  all_goals (go_light; refine ⟨ret_int ?_, rfl⟩; unfold cmpI; repeat' split)
  all_goals omega

set_option maxHeartbeats 400000 in
theorem cmpInt_any (a b : Int) (w : World) :
    Calls Tryz.prog 118 #[.int .i64 a, .int .i64 b] w fun e w' => e = .returned (.int .i64 (cmpI a b)) ∧ w = w' := by
  go_enter Tryz.func118, Tryz.ntmps118
  go_wp2
  all_goals go_ret
  all_goals (go_light; refine ⟨ret_int ?_, rfl⟩; unfold cmpI; repeat' split)
  all_goals omega

set_option maxHeartbeats 400000 in
theorem cmpV_any (k i k' i': Int) (s s' : ByteArray) (w : World) :
    Calls Tryz.prog 94 #[.agg #[.int .i64 k, .int .i64 i, .string s], .agg #[.int .i64 k', .int .i64 i', .string s']] w fun e w' => e = .returned (.int .i64 (cmpV k i s k' i' s')) ∧ Below w.heap.size w w' := by
  have h37 := cmpInt_any k k'
  have h38 := cmp64_any i i'
  have h39 : ∀ w, Calls Tryz.prog 120 #[.string s, .string s'] w fun e w' => e = .returned (.int .i64 (cmpS s s')) ∧ w' = w := fun w => Tryz.strings_Compare s s' w
  unfold cmpV
  by_cases hc1 : cmpI k k' = 0
  · rw [if_pos hc1]
    by_cases hc2 : cmpI i i' = 0
    · rw [if_pos hc2]
      rw [hc1] at h37
      rw [hc2] at h38
      clear hc1 hc2
      generalize cmpS s s' = c3 at *
      go_enter Tryz.func94, Tryz.ntmps94
      go_wp2_with (first | (go_at_call 118; refine (h37 _).mono ?_; rintro e w' ⟨rfl, rfl⟩) | (go_at_call 119; refine (h38 _).mono ?_; rintro e w' ⟨rfl, rfl⟩) | (go_at_call 120; refine (h39 _).mono ?_; rintro e w' ⟨rfl, rfl⟩))
      go_ret
      exact ⟨rfl, ((Below.refl _ _).alloc (Nat.le_refl _) _).alloc (by simp) _⟩
    · rw [if_neg hc2]
      rw [hc1] at h37
      clear hc1
      generalize cmpI i i' = c2 at *
      have hb : (c2 != 0) = true := by simpa using hc2
      clear hc2
      go_enter Tryz.func94, Tryz.ntmps94
      go_wp2_with (first | (go_at_call 118; refine (h37 _).mono ?_; rintro e w' ⟨rfl, rfl⟩) | (go_at_call 119; refine (h38 _).mono ?_; rintro e w' ⟨rfl, rfl⟩) | (go_at_call 120; refine (h39 _).mono ?_; rintro e w' ⟨rfl, rfl⟩))
      go_ret
      exact ⟨rfl, ((Below.refl _ _).alloc (Nat.le_refl _) _).alloc (by simp) _⟩
  · rw [if_neg hc1]
    generalize cmpI k k' = c1 at *
    have hb : (c1 != 0) = true := by simpa using hc1
    clear hc1
    go_enter Tryz.func94, Tryz.ntmps94
    go_wp2_with (first | (go_at_call 118; refine (h37 _).mono ?_; rintro e w' ⟨rfl, rfl⟩) | (go_at_call 119; refine (h38 _).mono ?_; rintro e w' ⟨rfl, rfl⟩) | (go_at_call 120; refine (h39 _).mono ?_; rintro e w' ⟨rfl, rfl⟩))
    go_ret
    exact ⟨rfl, ((Below.refl _ _).alloc (Nat.le_refl _) _).alloc (by simp) _⟩
end Go.Proofs.YtcmbdghbicjljaaGreatDoor.BV
namespace Go.Proofs.YtcmbdghbicjljaaGreatDoor.BV
open Go.RowKit
def rowN (xs : List V) : Nat := (xs.map fun v => 1 + v.s.size).sum
def rowsN (rs : List R) : Nat := (rs.map fun r => 1 + rowN r.xs).sum
theorem rowN_snoc {xs : List V} {k : Nat} (h : k < xs.length) : rowN (xs.take (k + 1)) = rowN (xs.take k) + (1 + xs[k].s.size) := by
  unfold rowN; rw [List.take_succ_eq_append_getElem h, List.map_append, List.sum_append]; simp only [List.map_cons, List.map_nil, List.sum_cons, List.sum_nil, Nat.add_zero]
theorem rowsN_snoc {rs : List R} {k : Nat} (h : k < rs.length) : rowsN (rs.take (k + 1)) = rowsN (rs.take k) + (1 + rowN rs[k].xs) := by
  unfold rowsN; rw [List.take_succ_eq_append_getElem h, List.map_append, List.sum_append]; simp only [List.map_cons, List.map_nil, List.sum_cons, List.sum_nil, Nat.add_zero]
theorem sum_take_le (l : List Nat) (k : Nat) : (l.take k).sum ≤ l.sum := by
  induction l generalizing k with
  | nil => simp
  | cons a l ih => cases k with
    | zero => simp
    | succ k => simp; exact ih k
theorem rowN_take (xs : List V) (k : Nat) : rowN (xs.take k) ≤ rowN xs := by unfold rowN; rw [List.map_take]; exact sum_take_le _ _
theorem rowsN_take (rs : List R) (k : Nat) : rowsN (rs.take k) ≤ rowsN rs := by unfold rowsN; rw [List.map_take]; exact sum_take_le _ _
def few (rs : List R) (M : Int) : Bool := decide ((rowsN rs : Int) ≤ M)
theorem few_no {rs : List R} {M : Int} {k j t t' : Nat} (hk : k < rs.length) (hj : j < rs[k].xs.length) (h1 : t = rowsN (rs.take k)) (h2 : t' = t + 1 + rowN (rs[k].xs.take j)) (h3 : M < (t' : Int) + (1 + rs[k].xs[j].s.size)) : few rs M = false := by
  have a := rowsN_snoc hk
  have b := rowsN_take rs (k + 1)
  have c := rowN_snoc hj
  have d := rowN_take rs[k].xs (j + 1)
  unfold few
  simp only [decide_eq_false_iff_not]
  omega
def Small (rs : List R) : Prop := ∀ r ∈ rs, r.xs.length ≤ 140737488355328 ∧ ∀ v ∈ r.xs, v.s.size ≤ 140737488355328
set_option maxRecDepth 100000 in
set_option maxHeartbeats 400000 in
theorem few_any (rs : List R) (A : Option Addr) (c : Nat) (M : Int) (w : World) (hr : RowsAt w w.heap.size A rs) (hm : rs.length ≤ 140737488355328) (hs : Small rs) (hM : 0 ≤ M) (hM' : M ≤ 1000000000) :
    Calls Tryz.prog 26 #[.slice A rs.length c, .int .i64 M] w fun e w' => e = .returned (.bool (few rs M)) ∧ Below w.heap.size w w' := by
  obtain ⟨n, hn⟩ : ∃ n, n = rs.length := ⟨_, rfl⟩
  have HN := Lib.hid hn
  rw [← hn] at hm ⊢
  clear hn
  have HR := Lib.hid hr
  have HS := Lib.hid hs
  clear hr hs
  go_enter Tryz.func26, Tryz.ntmps26
  go_wp2_with fail
  go_loopw [12, 5] (fun i s wr => ∃ k t : Nat, k ≤ n ∧ i = .int .i64 k ∧ s = .int .i64 t ∧ (t : Int) ≤ M + k ∧ Below w.heap.size w wr ∧ Hid (t = rowsN (rs.take k))) (fun i _ _ => n - (intOf i).toNat)
  case atStart => exact ⟨0, 0, Nat.zero_le _, rfl, rfl, by omega, Below.refl _ _, rfl⟩
  case round =>
    obtain ⟨k, t, hk, rfl, rfl, htM, hb, hsum⟩ := hrel
    by_cases hlt : k < n
    · have hkx : k < rs.length := by rw [← HN.out]; exact hlt
      obtain ⟨b, off, hA, hbl, hc⟩ := HR.out.1 (by omega)
      subst hA
      have d1 := (hb.cell (p := ⟨b, _, none⟩) hbl).trans (hc k hkx)
      have hrow := HR.out.2 rs[k] (List.getElem_mem hkx)
      have hsm := HS.out rs[k] (List.getElem_mem hkx)
      have HK : Hid (∀ j t' (hj : j < rs[k].xs.length), t' = t + 1 + rowN (rs[k].xs.take j) → M < (t' : Int) + (1 + rs[k].xs[j].s.size) → few rs M = false) := fun j t' hj h2 h3 => few_no hkx hj hsum.out h2 h3
      have HE : Hid (t + 1 + rowN rs[k].xs = rowsN (rs.take (k + 1))) := by
        have := rowsN_snoc hkx
        have := hsum.out
        show _ = _
        omega
      clear hc
      unfold R.val at d1
      generalize rs[k].xs = xs at *
      generalize rs[k].A = A2 at *
      generalize rs[k].c = c2 at *
      obtain ⟨l, hl⟩ : ∃ l, l = xs.length := ⟨_, rfl⟩
      rw [← hl] at d1 hsm
      have hsm1 := hsm.1
      have HL := Lib.hid hl
      have HW := Lib.hid hrow
      have HZ := Lib.hid hsm.2
      clear hl hrow hsm
      have hbs := hb.size
      go_wp2_with fail
      obtain ⟨wo, rfl⟩ : ∃ wo : World, wo = wr := ⟨_, rfl⟩
      go_loopw [20, 5] (fun i s wr => ∃ k' t' : Nat, k' ≤ l ∧ i = .int .i64 k' ∧ s = .int .i64 t' ∧ (t' : Int) ≤ M + k + 1 ∧ Below w.heap.size w wr ∧ Hid (t' = t + 1 + rowN (xs.take k'))) (fun i _ _ => l - (intOf i).toNat)
      case atStart => exact ⟨0, t + 1, Nat.zero_le _, rfl, by go_num, by omega, hb, rfl⟩
      case round =>
        obtain ⟨k', t', hk', rfl, rfl, htM', hb', hsum'⟩ := hrel
        by_cases hlt' : k' < l
        · have hkx' : k' < xs.length := by rw [← HL.out]; exact hlt'
          obtain ⟨b', off', hA', hbl', hc'⟩ := HW.out (by omega)
          subst hA'
          obtain ⟨c1, c2, c3⟩ := hc' k' hkx'
          have e1 := (hb'.cell (p := ⟨b', _, none⟩) hbl').trans c1
          have e2 := (hb'.cell (p := ⟨b', _, none⟩) hbl').trans c2
          have e3 := (hb'.cell (p := ⟨b', _, none⟩) hbl').trans c3
          have hz := HZ.out xs[k'] (List.getElem_mem hkx')
          have HF : Hid (M < (t' : Int) + (1 + xs[k'].s.size) → few rs M = false) := fun h3 => HK.out k' t' hkx' hsum'.out h3
          have HG : Hid (t' + (1 + xs[k'].s.size) = t + 1 + rowN (xs.take (k' + 1))) := by
            have := rowN_snoc hkx'
            have := hsum'.out
            show _ = _
            omega
          clear c1 c2 c3 hc'
          have hbs' := hb'.size
          generalize xs[k'].k = vk at *
          generalize xs[k'].i = vi at *
          generalize xs[k'].s = vs at *
          by_cases hgt : M < (t' : Int) + (1 + vs.size)
          · go_wp2_with fail
            go_ret
            exact ⟨by rw [HF.out hgt]; rfl, hb'.alloc (by omega) _⟩
          · go_wp2_with fail
            go_roundw
            case rel => exact ⟨k' + 1, t' + (1 + vs.size), by omega, by go_num, by go_num, by omega, hb'.alloc (by omega) _, HG.out⟩
            case measure => simp [intOf]; omega
        · obtain rfl : k' = l := by omega
          go_wp2_with fail
          go_roundw
          case rel => exact ⟨k + 1, t', by omega, by go_num, rfl, by omega, hb', by have := HE.out; have h := hsum'.out; rw [List.take_of_length_le (by rw [← HL.out]; omega)] at h; show _ = _; omega⟩
          case measure => simp [intOf]; omega
    · obtain rfl : k = n := by omega
      have HT : Hid ((t : Int) = rowsN rs) := by have := hsum.out; rw [List.take_of_length_le (by rw [← HN.out]; omega)] at this; show _ = _; omega
      by_cases hle : (t : Int) ≤ M
      · go_wp2_with fail
        go_ret
        exact ⟨by rw [show few rs M = true by unfold few; rw [← HT.out]; simpa using hle]; rfl, hb⟩
      · go_wp2_with fail
        go_ret
        exact ⟨by rw [show few rs M = false by unfold few; rw [← HT.out]; simpa using hle]; rfl, hb⟩
end Go.Proofs.YtcmbdghbicjljaaGreatDoor.BV
namespace Go.Proofs.YtcmbdghbicjljaaGreatDoor.BV
open Go.RowKit
set_option maxHeartbeats 400000 in
theorem rcheckRow_any (xs : List V) (A : Option Addr) (c : Nat) (w : World) (hr : RowAt w w.heap.size A xs) (hm : xs.length ≤ 9223372036854775807) :
    Calls Tryz.prog 14 #[.slice A xs.length c] w fun e w' => e = .returned (.int .i64 (chkR xs)) ∧ Below w.heap.size w w' := by
  obtain ⟨n, hn⟩ : ∃ n, n = xs.length := ⟨_, rfl⟩
  have HN := Lib.hid hn
  rw [← hn] at hm ⊢
  clear hn
  have HR := Lib.hid hr
  clear hr
  go_enter Tryz.func14, Tryz.ntmps14
  go_wp2_with fail
  go_loopw [8] (fun i wr => ∃ k : Nat, k ≤ n ∧ i = .int .i64 k ∧ Below w.heap.size w wr ∧ Hid (allOk (xs.take k) = true)) (fun i _ => n - (intOf i).toNat)
  case atStart => exact ⟨0, Nat.zero_le _, rfl, Below.refl _ _, rfl⟩
  case round =>
    obtain ⟨k, hk, rfl, hb, hall⟩ := hrel
    by_cases hlt : k < n
    · have hkx : k < xs.length := by rw [← HN.out]; exact hlt
      obtain ⟨b, off, hA, hbl, hc⟩ := HR.out (by omega)
      subst hA
      obtain ⟨c1, c2, c3⟩ := hc k hkx
      have d1 := (hb.cell (p := ⟨b, _, none⟩) hbl).trans c1
      have d2 := (hb.cell (p := ⟨b, _, none⟩) hbl).trans c2
      have d3 := (hb.cell (p := ⟨b, _, none⟩) hbl).trans c3
      clear c1 c2 c3 hc
      have hcall := rcheck_any xs[k].k xs[k].i xs[k].s
      obtain ⟨r, hr⟩ : ∃ r, r = chkI xs[k].k xs[k].i xs[k].s := ⟨_, rfl⟩
      rw [← hr] at hcall
      have HX : Hid (xs[k].chk = r) := hr.symm
      clear hr
      generalize xs[k].k = vk at *
      generalize xs[k].i = vi at *
      generalize xs[k].s = vs at *
      by_cases h0 : r = 0
      · subst h0
        go_wp2_with (go_at_call 17; refine (hcall _).mono ?_; rintro e w1 ⟨rfl, hb1⟩)
        go_roundw
        case rel => exact ⟨k + 1, by omega, by go_num, (hb.alloc hb.size _).trans (hb1.mono (by have := hb.size; simp; omega)), allOk_snoc hkx HX.out hall.out⟩
        case measure => simp [intOf]; omega
      · have h1 : (r != 0) = true := by simpa using h0
        have H0 := Lib.hid h0
        clear h0
        go_wp2_with (go_at_call 17; refine (hcall _).mono ?_; rintro e w1 ⟨rfl, hb1⟩)
        go_ret
        exact ⟨ret_int (chkR_bad hkx HX.out H0.out), (hb.alloc hb.size _).trans (hb1.mono (by have := hb.size; simp; omega))⟩
    · obtain rfl : k = n := by omega
      go_wp2_with fail
      all_goals go_ret
      all_goals exact ⟨ret_int (chkR_good HN.out hall.out (by omega)), hb⟩
end Go.Proofs.YtcmbdghbicjljaaGreatDoor.BV
