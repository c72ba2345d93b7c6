import Derived.Test.YtkigddankkoahaaGreatDoorQ37
import Derived.Deep.LoopGhost
import Derived.BigRegion
import Derived.Lib.BufferMore
import Derived.BigQuiet
import Derived.Deep.QuietTactic
import Derived.Deep.Quiet
import Derived.Test.YtkigddankkoahaaGreatDoorQ01
import Derived.Test.YtkigddankkoahaaGreatDoorQ34
import Derived.Test.YtkigddankkoahaaGreatDoorQ04
set_option maxRecDepth 100000
set_option maxHeartbeats 4000000
set_option linter.unusedSimpArgs false
set_option linter.unusedVariables false
namespace Go.Proofs.YtkigddankkoahaaGreatDoor
open Go.RowKit
structure SL (w : World) (b : Nat) (l : List Int) (W : World) : Prop where
 os : W.os = w.os
 tape : W.tape = w.tape
 output : W.output = w.output
 size : w.heap.size ≤ W.heap.size
 other : ∀ k, k < w.heap.size → k ≠ b → W.heap[k]? = w.heap[k]?
 row : W.heap[b]? = some (.cells (l.map (Value.int .i64)).toArray 3 (0, 0))
section
variable {w W W2 : World} {b : Nat} {l : List Int}
theorem SL.lt (h : SL w b l W) : b < W.heap.size := (Array.getElem?_eq_some_iff.1 h.row).1
theorem SL.call (h : SL w b l W) (hb : Below W.heap.size W W2) : SL w b l W2 :=
 ⟨hb.os.trans h.os, hb.tape.trans h.tape, hb.output.trans h.output, Nat.le_trans h.size hb.size, fun k hk hne => (hb.block k (Nat.lt_of_lt_of_le hk h.size)).trans (h.other k hk hne), (hb.block b h.lt).trans h.row⟩
theorem SL.drew (h : SL w b l W) : SL w b l W.drew := h.call (Below.refl _ W).drew
theorem SL.alloc (h : SL w b l W) (o : Obj) : SL w b l (W.alloc o) := h.call ((Below.refl _ W).alloc (Nat.le_refl _) o)
theorem SL.cell (h : SL w b l W) (j : Nat) (hj : j < l.length) : W.cell? ⟨b, j, none⟩ = some (.int .i64 l[j]) := by
 rw [Lib.cell_of_heap h.row]
 simp [hj]
theorem SL.free (h : SL w b l W) (j : Nat) : W.frozen? ⟨b, j, none⟩ = false := Lib.frozen_of_heap h.row j
theorem SL.set (h : SL w b l W) (j : Nat) (x : Int) : SL w b (l.set j x) (W.setCell ⟨b, j, none⟩ (.int .i64 x)) := by
 refine ⟨h.os, h.tape, h.output, by simpa using h.size, fun k hk hne => ?_, ?_⟩
 ·rw [Below.heap_setCell _ _ _ _ (by show k ≠ b; omega)]; exact h.other k hk hne
 ·rw [Lib.heap_setCell_same h.row _]
  simp [List.map_set]
end
theorem set_two (A M B : List Int) (x y : Int) : ((A ++ x :: (M ++ y :: B)).set A.length y).set (A.length + 1 + M.length) x = A ++ y :: (M ++ x :: B) := by
 rw [List.set_append_right _ _ (Nat.le_refl _), Nat.sub_self, List.set_cons_zero, List.set_append_right _ _ (by omega), show A.length + 1 + M.length - A.length = M.length + 1 by omega, List.set_cons_succ, List.set_append_right _ _ (Nat.le_refl _), Nat.sub_self, List.set_cons_zero]
structure Sw (w : World) (b i j : Nat) (x y : Int) (l' : List Int) (W : World) : Prop where
 ci : W.cell? ⟨b, i, none⟩ = some (.int .i64 x)
 cj : W.cell? ⟨b, j, none⟩ = some (.int .i64 y)
 fi : W.frozen? ⟨b, i, none⟩ = false
 fj : W.frozen? ⟨b, j, none⟩ = false
 cij : ∃ u, (W.setCell ⟨b, i, none⟩ (.int .i64 y)).cell? ⟨b, j, none⟩ = some u
 cji : ∃ u, (W.setCell ⟨b, j, none⟩ (.int .i64 x)).cell? ⟨b, i, none⟩ = some u
 got : SL w b l' ((W.setCell ⟨b, i, none⟩ (.int .i64 y)).setCell ⟨b, j, none⟩ (.int .i64 x))
 got' : SL w b l' ((W.setCell ⟨b, j, none⟩ (.int .i64 x)).setCell ⟨b, i, none⟩ (.int .i64 y))
theorem set_two' (A M B : List Int) (x y : Int) : ((A ++ x :: (M ++ y :: B)).set (A.length + 1 + M.length) x).set A.length y = A ++ y :: (M ++ x :: B) := by
 rw [List.set_append_right _ _ (by omega), show A.length + 1 + M.length - A.length = M.length + 1 by omega, List.set_cons_succ, List.set_append_right _ _ (Nat.le_refl _), Nat.sub_self, List.set_cons_zero, List.set_append_right _ _ (Nat.le_refl _), Nat.sub_self, List.set_cons_zero]
theorem SL.swap {w W : World} {b i j : Nat} {l A M B : List Int} {x y : Int} (h : SL w b l W) (hl : l = A ++ x :: (M ++ y :: B)) (hi : i = A.length) (hj : j = A.length + 1 + M.length) : Sw w b i j x y (A ++ y :: (M ++ x :: B)) W := by
 subst hl hi hj
 have e1 : A.length < (A ++ x :: (M ++ y :: B)).length := by simp
 have e2 : A.length + 1 + M.length < (A ++ x :: (M ++ y :: B)).length := by simp; omega
 refine ⟨?_, ?_, h.free _, h.free _, ⟨_, (h.set _ y).cell _ (by simpa using e2)⟩, ⟨_, (h.set _ x).cell _ (by simp)⟩, ?_, ?_⟩
 ·rw [h.cell _ e1]
  simp
 ·rw [h.cell _ e2]
  congr 2
  rw [List.getElem_append_right (by omega)]
  simp only [show A.length + 1 + M.length - A.length = M.length + 1 by omega, List.getElem_cons_succ]
  rw [List.getElem_append_right (Nat.le_refl _)]
  simp
 ·have := (h.set A.length y).set (A.length + 1 + M.length) x
  rwa [set_two] at this
 ·have := (h.set (A.length + 1 + M.length) x).set A.length y
  rwa [set_two'] at this
theorem wp_region_classR {P : Program} {id : Nat} {Q : Exit → Act → World → Prop} {a : Act} {w : World} {l : List Oper} (C : World → Prop) (hm : P.follows .mixedOrders = true) (hB : Region.lexB .any l.toArray = true) (hC : C w.drew) (h : wpQuiet P l.toArray C (fun a' => ∀ w', C w' → Q .normal a' w') l a) : (Code.region id l.toArray true).wp P Q a w :=
 wp_region_quiet (C := C) hm hB hC (by simpa using h)
def TO (cf : Int → Int → Int) (x y : Int) : Prop := cf x y < 0 ∨ (cf x y = 0 ∧ x < y)
structure Rule (P : Int → Prop) (cf : Int → Int → Int) : Prop where
 flip : ∀ x y, P x → P y → (cf x y < 0 ↔ 0 < cf y x)
 trans : ∀ x y z, P x → P y → P z → TO cf x y → TO cf y z → TO cf x z
section
variable {P : Int → Prop} {cf : Int → Int → Int}
theorem Rule.total (h : Rule P cf) {x y : Int} (hx : P x) (hy : P y) (hne : x ≠ y) (hn : ¬ TO cf x y) : TO cf y x := by
 unfold TO at *
 have a := h.flip x y hx hy
 have b := h.flip y x hy hx
 rcases Int.lt_trichotomy (cf y x) 0 with g | g | g
 ·exact .inl g
 ·right
  refine ⟨g, ?_⟩
  have c : cf x y = 0 := by omega
  have d : ¬ x < y := fun e => hn (.inr ⟨c, e⟩)
  omega
 ·exact absurd (.inl (a.2 g)) hn
theorem Rule.asym (h : Rule P cf) {x y : Int} (hx : P x) (hy : P y) (hn : TO cf x y) : ¬ TO cf y x := by
 unfold TO at *
 have a := h.flip x y hx hy
 have b := h.flip y x hy hx
 omega
theorem to_less {x y : Int} (h : y < x) : TO cf x y ↔ cf x y < 0 := by
 unfold TO
 omega
theorem ins_sorted (h : Rule P cf) {Z1 Z2 : List Int} {s : Int} (hp : ∀ z ∈ Z1 ++ Z2, P z) (hs : P s) (hz : (Z1 ++ Z2).Pairwise (TO cf)) (h2 : ∀ z ∈ Z2, TO cf s z) (h1 : ∀ z, Z1.getLast? = some z → TO cf z s) : (Z1 ++ s :: Z2).Pairwise (TO cf) := by
 obtain ⟨p1, p2, p3⟩ := List.pairwise_append.1 hz
 refine List.pairwise_append.2 ⟨p1, List.pairwise_cons.2 ⟨h2, p2⟩, fun a ha b hb => ?_⟩
 have has : TO cf a s := by
  obtain ⟨z, hz1⟩ : ∃ z, Z1.getLast? = some z := by
   cases hq : Z1.getLast? with
   | none => rw [List.getLast?_eq_none_iff] at hq; subst hq; simp at ha
   | some z => exact ⟨z, rfl⟩
  have hzs := h1 z hz1
  obtain ⟨Z0, rfl⟩ : ∃ Z0, Z1 = Z0 ++ [z] := by
   obtain ⟨Z0, h⟩ := List.getLast?_eq_some_iff.1 hz1
   exact ⟨Z0, h⟩
  rcases List.mem_append.1 ha with g | g
  ·have g2 := (List.pairwise_append.1 p1).2.2 a g z (by simp)
   exact h.trans a z s (hp a (by simp [g])) (hp z (by simp)) hs g2 hzs
  ·rw [List.mem_singleton] at g
   rw [g]; exact hzs
 rcases List.mem_cons.1 hb with rfl | hb
 ·exact has
 ·exact p3 a ha b hb
theorem mem_perm_take {S Z : List Int} {t : Nat} (hz : Z.Perm (S.take t)) (hS : S.Pairwise (· < ·)) (ht : t < S.length) : ∀ z ∈ Z, z < S[t] := fun z hzm => by
 have h1 := hz.mem_iff.1 hzm
 obtain ⟨i, hi, rfl⟩ := List.getElem_of_mem h1
 rw [List.length_take] at hi
 rw [List.getElem_take]
 exact List.pairwise_iff_getElem.1 hS i t (by omega) ht (by omega)
theorem perm_next {S Z Z1 Z2 : List Int} {t : Nat} (hz : Z.Perm (S.take t)) (ht : t < S.length) (e : Z1 ++ Z2 = Z) : (Z1 ++ S[t] :: Z2).Perm (S.take (t + 1)) := by
 rw [List.take_succ_eq_append_getElem ht]
 subst e
 exact (List.perm_middle.trans (List.Perm.cons _ hz)).trans (List.perm_append_singleton _ _).symm
end
open Go.Proofs.YtkigddankkoahaaGreatDoor.BV (CmpOk)
structure Ky where
 e : E
 desc : Bool
def kc (k : Ky) (x y : BV.V) : Int := if k.desc then - BV.cmpVV x y else BV.cmpVV x y
def keyC : List Ky → List BV.V → List BV.V → Int
 | [], _, _ => 0
 | _ :: _, [], _ => 0
 | _ :: _, _ :: _, [] => 0
 | k :: ks, a :: ra, b :: rb => if kc k a b = 0 then keyC ks ra rb else kc k a b
theorem kc_ok (k : Ky) : CmpOk (kc k) := by
 have h := BV.cmpVV_ok
 cases hd : k.desc
 ·have e : kc k = BV.cmpVV := by funext x y; simp [kc, hd]
  rw [e]; exact h
 ·have e : ∀ x y, kc k x y = - BV.cmpVV x y := fun x y => by simp [kc, hd]
  exact {
   range := fun a b => by rw [e]; have := h.range a b; omega
   flip := fun a b => by rw [e, e]; have := h.flip a b; omega
   zero := fun a b => by rw [e, ← h.zero a b]; omega
   trans := fun a b d h1 h2 => by
    rw [e] at h1 h2 ⊢
    have a1 := h.flip a b
    have a2 := h.flip b d
    have a3 := h.flip a d
    have := h.trans d b a (by omega) (by omega)
    omega }
theorem keyC_flip (ks : List Ky) : ∀ a b, keyC ks b a = - keyC ks a b := by
 induction ks with
 | nil => intro a b; rfl
 | cons k ks ih =>
  intro a b
  cases a with
  | nil => cases b <;> rfl
  | cons x a =>
   cases b with
   | nil => rfl
   | cons y b =>
    have h := (kc_ok k).flip x y
    simp only [keyC]
    by_cases h0 : kc k x y = 0
    ·rw [if_pos h0, if_pos (by omega), ih]
    ·rw [if_neg h0, if_neg (by omega)]; omega
theorem keyC_trans (ks : List Ky) : ∀ a b d, ks.length ≤ a.length → ks.length ≤ b.length → ks.length ≤ d.length → keyC ks a b ≤ 0 → keyC ks b d ≤ 0 → keyC ks a d ≤ 0 ∧ (keyC ks a d = 0 → keyC ks a b = 0 ∧ keyC ks b d = 0) := by
 induction ks with
 | nil => intro a b d _ _ _ _ _; exact ⟨Int.le_refl _, fun _ => ⟨rfl, rfl⟩⟩
 | cons k ks ih =>
  intro a b d la lb ld h1 h2
  cases a with
  | nil => simp at la
  | cons x a =>
  cases b with
  | nil => simp at lb
  | cons y b =>
  cases d with
  | nil => simp at ld
  | cons z d =>
  simp only [List.length_cons, Nat.add_le_add_iff_right] at la lb ld
  have hk := kc_ok k
  simp only [keyC] at h1 h2 ⊢
  have r1 := hk.range x y
  have r2 := hk.range y z
  by_cases c1 : kc k x y = 0
  ·obtain rfl := (hk.zero _ _).1 c1
   rw [if_pos c1] at h1 ⊢
   by_cases c2 : kc k x z = 0
   ·simp only [if_pos c2] at h2 ⊢
    exact ih a b d la lb ld h1 h2
   ·simp only [if_neg c2] at h2 ⊢
    exact ⟨h2, fun h => absurd h c2⟩
  ·rw [if_neg c1] at h1 ⊢
   by_cases c2 : kc k y z = 0
   ·obtain rfl := (hk.zero _ _).1 c2
    rw [if_neg c1]
    exact ⟨h1, fun h => absurd h c1⟩
   ·rw [if_neg c2] at h2 ⊢
    have t := hk.trans x y z (by omega) (by omega)
    rw [if_neg (by omega)]
    exact ⟨by omega, fun h => by omega⟩
def byC (ks : List Ky) (L : List (List BV.V)) (x y : Int) : Int := keyC ks (L.getD x.toNat []) (L.getD y.toNat [])
theorem byC_at {ks : List Ky} {L : List (List BV.V)} {x y : Nat} (hx : x < L.length) (hy : y < L.length) : byC ks L x y = keyC ks L[x] L[y] := by
 unfold byC
 rw [Int.toNat_natCast, Int.toNat_natCast, List.getD_eq_getElem?_getD, List.getD_eq_getElem?_getD, List.getElem?_eq_getElem hx, List.getElem?_eq_getElem hy]
 rfl
theorem rule_keys (ks : List Ky) (L : List (List BV.V)) (h : ∀ r ∈ L, ks.length ≤ r.length) : Rule (fun x => 0 ≤ x ∧ x < (L.length : Int)) (byC ks L) := by
 have hg : ∀ x : Int, 0 ≤ x ∧ x < (L.length : Int) → ks.length ≤ (L.getD x.toNat []).length := fun x hx => by
  have hl : x.toNat < L.length := by omega
  rw [List.getD_eq_getElem?_getD, List.getElem?_eq_getElem hl]
  exact h _ (List.getElem_mem hl)
 refine ⟨fun x y _ _ => by unfold byC; rw [keyC_flip ks (L.getD x.toNat [])]; omega, fun x y z hx hy hz h1 h2 => ?_⟩
 unfold TO byC at *
 have := keyC_trans ks _ _ _ (hg x hx) (hg y hy) (hg z hz) (by omega) (by omega)
 omega
theorem keyC_at {ks : List Ky} {a b : List BV.V} {i : Nat} (h1 : i < ks.length) (h2 : i < a.length) (h3 : i < b.length) : keyC (ks.drop i) (a.drop i) (b.drop i) = if kc ks[i] a[i] b[i] = 0 then keyC (ks.drop (i + 1)) (a.drop (i + 1)) (b.drop (i + 1)) else kc ks[i] a[i] b[i] := by
 rw [List.drop_eq_getElem_cons h1, List.drop_eq_getElem_cons h2, List.drop_eq_getElem_cons h3]
 rfl
theorem to_unique {P : Int → Prop} {cf : Int → Int → Int} (hr : Rule P cf) : ∀ {Z1 Z2 : List Int}, (∀ z ∈ Z1, P z) → Z1.Perm Z2 → Z1.Pairwise (TO cf) → Z2.Pairwise (TO cf) → Z1 = Z2
 | [], Z2, _, hp, _, _ => by rw [List.nil_perm] at hp; exact hp.symm
 | x :: Z1, [], _, hp, _, _ => by simp at hp
 | x :: Z1, y :: Z2, hP, hp, h1, h2 => by
  have e : x = y := by
   have a := List.pairwise_cons.1 h1
   have b := List.pairwise_cons.1 h2
   rcases List.mem_cons.1 (hp.mem_iff.1 (List.mem_cons_self ..)) with h | h
   ·exact h
   ·rcases List.mem_cons.1 (hp.mem_iff.2 (List.mem_cons_self ..)) with k | k
    ·exact k.symm
    ·exact absurd (b.1 x h) (hr.asym (hP x (by simp)) (hP y (by simp [k])) (a.1 y k))
  subst e
  rw [to_unique hr (fun z hz => hP z (by simp [hz])) ((List.perm_cons x).1 hp) (List.pairwise_cons.1 h1).2 (List.pairwise_cons.1 h2).2]
def plN (n : Nat) : List Int := (List.range n).map Int.ofNat
theorem plN_len (n : Nat) : (plN n).length = n := by simp [plN]
theorem plN_rise (n : Nat) : (plN n).Pairwise (· < ·) := by
 unfold plN
 rw [List.pairwise_map]
 exact List.pairwise_lt_range.imp fun h => by simpa using h
theorem plN_mem {n : Nat} {z : Int} (h : z ∈ plN n) : 0 ≤ z ∧ z < (n : Int) := by
 obtain ⟨k, hk, rfl⟩ := List.mem_map.1 h
 rw [List.mem_range] at hk
 exact ⟨Int.natCast_nonneg _, by simpa using hk⟩
theorem plN_at {n k : Nat} (h : k < n) : (plN n)[k]'(by rw [plN_len]; exact h) = (k : Int) := by simp [plN]
def pick (l : List (List BV.V)) (Z : List Int) : List (List BV.V) := Z.map fun z => l.getD z.toNat []
theorem pick_all (l : List (List BV.V)) : pick l (plN l.length) = l := by
 apply List.ext_getElem
 ·simp [pick, plN]
 ·intro i h1 h2
  simp [pick, plN, h2]
theorem pick_perm {l : List (List BV.V)} {Z : List Int} (h : Z.Perm (plN l.length)) : (pick l Z).Perm l := by
 have := h.map fun z => l.getD z.toNat []
 rw [show (plN l.length).map (fun z => l.getD z.toNat []) = l from pick_all l] at this
 exact this
end Go.Proofs.YtkigddankkoahaaGreatDoor
namespace Go.Proofs.YtkigddankkoahaaGreatDoor
open Go.RowKit
def B8 (w : World) (b : Nat) (c0 c1 c2 c3 c4 c5 c6 c7 : Value) : Prop := w.heap[b]? = some (.cells #[c0, c1, c2, c3, c4, c5, c6, c7] 53 (0, 0))
theorem B8.lt {w : World} {b : Nat} {c0 c1 c2 c3 c4 c5 c6 c7 : Value} (h : B8 w b c0 c1 c2 c3 c4 c5 c6 c7) : b < w.heap.size := (Array.getElem?_eq_some_iff.1 h).1
theorem B8.cells {w : World} {b : Nat} {c0 c1 c2 c3 c4 c5 c6 c7 : Value} (h : B8 w b c0 c1 c2 c3 c4 c5 c6 c7) : w.cell? ⟨b, 0, none⟩ = some c0 ∧ w.cell? ⟨b, 1, none⟩ = some c1 ∧ w.cell? ⟨b, 2, none⟩ = some c2 ∧ w.cell? ⟨b, 3, none⟩ = some c3 ∧ w.cell? ⟨b, 4, none⟩ = some c4 ∧ w.cell? ⟨b, 5, none⟩ = some c5 ∧ w.cell? ⟨b, 6, none⟩ = some c6 ∧ w.cell? ⟨b, 7, none⟩ = some c7 :=
 ⟨by rw [Lib.cell_of_heap h]; rfl, by rw [Lib.cell_of_heap h]; rfl, by rw [Lib.cell_of_heap h]; rfl, by rw [Lib.cell_of_heap h]; rfl, by rw [Lib.cell_of_heap h]; rfl, by rw [Lib.cell_of_heap h]; rfl, by rw [Lib.cell_of_heap h]; rfl, by rw [Lib.cell_of_heap h]; rfl⟩
theorem B8.free {w : World} {b : Nat} {c0 c1 c2 c3 c4 c5 c6 c7 : Value} (h : B8 w b c0 c1 c2 c3 c4 c5 c6 c7) : w.frozen? ⟨b, 0, none⟩ = false ∧ w.frozen? ⟨b, 1, none⟩ = false ∧ w.frozen? ⟨b, 2, none⟩ = false ∧ w.frozen? ⟨b, 3, none⟩ = false ∧ w.frozen? ⟨b, 4, none⟩ = false ∧ w.frozen? ⟨b, 5, none⟩ = false ∧ w.frozen? ⟨b, 6, none⟩ = false ∧ w.frozen? ⟨b, 7, none⟩ = false :=
 ⟨Lib.frozen_of_heap h 0, Lib.frozen_of_heap h 1, Lib.frozen_of_heap h 2, Lib.frozen_of_heap h 3, Lib.frozen_of_heap h 4, Lib.frozen_of_heap h 5, Lib.frozen_of_heap h 6, Lib.frozen_of_heap h 7⟩
theorem B8.made (w : World) (c0 c1 c2 c3 c4 c5 c6 c7 : Value) : B8 (w.alloc (.cells #[c0, c1, c2, c3, c4, c5, c6, c7] 53)) w.heap.size c0 c1 c2 c3 c4 c5 c6 c7 := heap_alloc_new w _
theorem stored8 {w : World} {b : Nat} {x0 x1 x2 x3 x4 x5 x6 x7 : Value} (h : B8 w b x0 x1 x2 x3 x4 x5 x6 x7) (c0 c1 c2 c3 c4 c5 c6 c7 : Value) :
  ∃ W : World, W = ((((((((w.setCell ⟨b, 0, none⟩ c0).setCell ⟨b, 1, none⟩ c1).setCell ⟨b, 2, none⟩ c2).setCell ⟨b, 3, none⟩ c3).setCell ⟨b, 4, none⟩ c4).setCell ⟨b, 5, none⟩ c5).setCell ⟨b, 6, none⟩ c6).setCell ⟨b, 7, none⟩ c7) ∧ B8 W b c0 c1 c2 c3 c4 c5 c6 c7 ∧ W.heap.size = w.heap.size ∧ (∀ k, k ≠ b → W.heap[k]? = w.heap[k]?) ∧ ∀ B, B ≤ b → Below B w W := by
 refine ⟨_, rfl, ?_, ?_, fun k hk => ?_, fun B hB => ?_⟩
 ·unfold B8
  have h0 := heap_set_same c0 (o := 0) h
  have h1 := heap_set_same c1 (o := 1) h0
  have h2 := heap_set_same c2 (o := 2) h1
  have h3 := heap_set_same c3 (o := 3) h2
  have h4 := heap_set_same c4 (o := 4) h3
  have h5 := heap_set_same c5 (o := 5) h4
  have h6 := heap_set_same c6 (o := 6) h5
  have h7 := heap_set_same c7 (o := 7) h6
  simpa only [List.setIfInBounds_toArray, List.set_cons_zero, List.set_cons_succ] using h7
 ·simp only [size_setCell]
 ·rw [Below.heap_setCell _ _ _ _ hk, Below.heap_setCell _ _ _ _ hk, Below.heap_setCell _ _ _ _ hk, Below.heap_setCell _ _ _ _ hk, Below.heap_setCell _ _ _ _ hk, Below.heap_setCell _ _ _ _ hk, Below.heap_setCell _ _ _ _ hk, Below.heap_setCell _ _ _ _ hk]
 ·exact (((((((((Below.refl B w).setCell (p := ⟨b, 0, none⟩) hB _).setCell (p := ⟨b, 1, none⟩) hB _).setCell (p := ⟨b, 2, none⟩) hB _).setCell (p := ⟨b, 3, none⟩) hB _).setCell (p := ⟨b, 4, none⟩) hB _).setCell (p := ⟨b, 5, none⟩) hB _).setCell (p := ⟨b, 6, none⟩) hB _).setCell (p := ⟨b, 7, none⟩) hB _)
theorem made8 (w : World) (c0 c1 c2 c3 c4 c5 c6 c7 : Value) :
  ∃ W1 W : World, W1 = w.alloc (.cells #[.string ⟨#[]⟩, .int .i64 0, .int .i64 0, .string ⟨#[]⟩, .string ⟨#[]⟩, .string ⟨#[]⟩, .slice none 0 0, .bool false] 53) ∧
   W = ((((((((W1.setCell ⟨w.heap.size, 0, none⟩ c0).setCell ⟨w.heap.size, 1, none⟩ c1).setCell ⟨w.heap.size, 2, none⟩ c2).setCell ⟨w.heap.size, 3, none⟩ c3).setCell ⟨w.heap.size, 4, none⟩ c4).setCell ⟨w.heap.size, 5, none⟩ c5).setCell ⟨w.heap.size, 6, none⟩ c6).setCell ⟨w.heap.size, 7, none⟩ c7) ∧
   B8 W1 w.heap.size (.string ⟨#[]⟩) (.int .i64 0) (.int .i64 0) (.string ⟨#[]⟩) (.string ⟨#[]⟩) (.string ⟨#[]⟩) (.slice none 0 0) (.bool false) ∧ B8 W w.heap.size c0 c1 c2 c3 c4 c5 c6 c7 ∧ W.heap.size = w.heap.size + 1 ∧ Below w.heap.size w W1 ∧ Below w.heap.size w W := by
 have h1 := B8.made w (.string ⟨#[]⟩) (.int .i64 0) (.int .i64 0) (.string ⟨#[]⟩) (.string ⟨#[]⟩) (.string ⟨#[]⟩) (.slice none 0 0) (.bool false)
 have hb := (Below.refl w.heap.size w).alloc (Nat.le_refl _) (.cells #[.string ⟨#[]⟩, .int .i64 0, .int .i64 0, .string ⟨#[]⟩, .string ⟨#[]⟩, .string ⟨#[]⟩, .slice none 0 0, .bool false] 53)
 obtain ⟨W, h2, h3, h4, h5, h6⟩ := stored8 h1 c0 c1 c2 c3 c4 c5 c6 c7
 exact ⟨_, W, rfl, h2, h1, h3, by rw [h4]; simp, hb, hb.trans (h6 _ (Nat.le_refl _))⟩
def KyCells (w : World) (b off : Nat) (k : Ky) (x : Value) : Prop :=
 w.cell? ⟨b, off, none⟩ = some (.string (str k.e.op)) ∧ w.cell? ⟨b, off + 1, none⟩ = some (.int .i64 k.e.v.k) ∧ w.cell? ⟨b, off + 2, none⟩ = some (.int .i64 k.e.v.i) ∧ w.cell? ⟨b, off + 3, none⟩ = some (.string (str k.e.v.s)) ∧ w.cell? ⟨b, off + 4, none⟩ = some (.string (str k.e.tb)) ∧ w.cell? ⟨b, off + 5, none⟩ = some (.string (str k.e.nm)) ∧ w.cell? ⟨b, off + 6, none⟩ = some x ∧ w.cell? ⟨b, off + 7, none⟩ = some (.bool k.desc)
theorem KyCells.same {w w' : World} {b off : Nat} {k : Ky} {x : Value} (h : KyCells w b off k x) (hb : w'.heap[b]? = w.heap[b]?) : KyCells w' b off k x := by
 have e : ∀ j, w'.cell? ⟨b, j, none⟩ = w.cell? ⟨b, j, none⟩ := fun j => by simp only [World.cell?, hb]
 obtain ⟨h0, h1, h2, h3, h4, h5, h6, h7⟩ := h
 exact ⟨(e _).trans h0, (e _).trans h1, (e _).trans h2, (e _).trans h3, (e _).trans h4, (e _).trans h5, (e _).trans h6, (e _).trans h7⟩
def KysIn (w : World) (B : Nat) (A : Option Addr) (l : List Ky) : Prop := 0 < l.length → ∃ b off, A = some ⟨b, off, none⟩ ∧ b < B ∧ ∀ j (h : j < l.length), ∃ A' c', KyCells w b (off + j * 8) l[j] (.slice A' l[j].e.l.length c')
theorem KysIn.below {w w' : World} {B : Nat} {A : Option Addr} {l : List Ky} (h : KysIn w B A l) (hb : Below B w w') : KysIn w' B A l := fun h0 => by
 obtain ⟨b, off, hA, hlt, hc⟩ := h h0
 refine ⟨b, off, hA, hlt, fun j hj => ?_⟩
 obtain ⟨A', c', h1⟩ := hc j hj
 exact ⟨A', c', h1.same (hb.block b hlt)⟩
theorem KysIn.mono {w : World} {B B' : Nat} {A : Option Addr} {l : List Ky} (h : KysIn w B A l) (hb : B ≤ B') : KysIn w B' A l := fun h0 => by
 obtain ⟨b, off, hA, hlt, hc⟩ := h h0
 exact ⟨b, off, hA, by omega, hc⟩
def KysAt (S : Nat → Prop) (w : World) (A : Option Addr) (l : List Ky) : Prop := 0 < l.length → ∃ b off, A = some ⟨b, off, none⟩ ∧ b < w.heap.size ∧ ∀ j (h : j < l.length), ∃ A' c', KyCells w b (off + j * 8) l[j] (.slice A' l[j].e.l.length c') ∧ Sub S w l[j].e A' c'
theorem KysAt.inn {S : Nat → Prop} {w : World} {A : Option Addr} {l : List Ky} (h : KysAt S w A l) : KysIn w w.heap.size A l := fun h0 => by
 obtain ⟨b, off, hA, hlt, hc⟩ := h h0
 refine ⟨b, off, hA, hlt, fun j hj => ?_⟩
 obtain ⟨A', c', h1, -⟩ := hc j hj
 exact ⟨A', c', h1⟩
theorem KysAt.later {S : Nat → Prop} {w w' : World} {A : Option Addr} {l : List Ky} (h : KysAt S w A l) (hb : Below w.heap.size w w') : KysAt S w' A l := fun h0 => by
 obtain ⟨b, off, hA, hlt, hc⟩ := h h0
 refine ⟨b, off, hA, Nat.lt_of_lt_of_le hlt hb.size, fun j hj => ?_⟩
 obtain ⟨A', c', h1, h2⟩ := hc j hj
 exact ⟨A', c', h1.same (hb.block b hlt), sub_later h2 hb⟩
def LTT (w : World) : Type := { W : World // Below w.heap.size w W }
theorem compared_any (ks : List Ky) (a b : List BV.V) (w : World) (K A B : Option Addr) (kc' ca cb : Nat) (hk : KysIn w w.heap.size K ks) (ha : BV.RowAt w w.heap.size A a) (hb : BV.RowAt w w.heap.size B b) (hla : ks.length ≤ a.length) (hlb : ks.length ≤ b.length) (hm : ks.length ≤ 2000) :
  Calls Tryz.prog 49 #[.slice K ks.length kc', .slice A a.length ca, .slice B b.length cb] w fun q w' => q = .returned (.int .i64 (keyC ks a b)) ∧ Below w.heap.size w w' := by
 obtain ⟨n, hn⟩ : ∃ n, n = ks.length := ⟨_, rfl⟩
 obtain ⟨la, hla'⟩ : ∃ la, la = a.length := ⟨_, rfl⟩
 obtain ⟨lb, hlb'⟩ : ∃ lb, lb = b.length := ⟨_, rfl⟩
 obtain ⟨R, hR⟩ : ∃ R, R = keyC ks a b := ⟨_, rfl⟩
 have HK := Lib.hid hk
 have HA := Lib.hid ha
 have HB := Lib.hid hb
 have HI : Hid (∀ i, i < n → ∃ (h1 : i < ks.length) (h2 : i < a.length) (h3 : i < b.length), keyC (ks.drop i) (a.drop i) (b.drop i) = if kc ks[i] a[i] b[i] = 0 then keyC (ks.drop (i + 1)) (a.drop (i + 1)) (b.drop (i + 1)) else kc ks[i] a[i] b[i]) := Lib.hid fun i hi => ⟨by omega, by omega, by omega, keyC_at (by omega) (by omega) (by omega)⟩
 have HZ : Hid (keyC (ks.drop n) (a.drop n) (b.drop n) = 0) := Lib.hid (by rw [hn, List.drop_length]; rfl)
 have H0 : Hid (R = keyC (ks.drop 0) (a.drop 0) (b.drop 0)) := Lib.hid (by simpa using hR)
 have HN := Lib.hid hn
 rw [← hR]
 rw [← hn] at hla hlb hm ⊢
 rw [← hla'] at hla ⊢
 rw [← hlb'] at hlb ⊢
 have HLA := Lib.hid hla'
 have HLB := Lib.hid hlb'
 clear hk ha hb hn hR hla' hlb'
 have HF : Hid (Below w.heap.size w w) := Lib.hid (Below.refl _ _)
 go_enter Tryz.func49, Tryz.ntmps49
 go_wp2_with fail
 go_loopw [12] (fun iv wr => ∃ i : Nat, i ≤ n ∧ iv = .int .i64 (i : Int) ∧ Hid (R = keyC (ks.drop i) (a.drop i) (b.drop i)) ∧ Hid (Below w.heap.size w wr)) (fun i _ => n - (intOf i).toNat)
 case atStart => exact ⟨0, Nat.zero_le _, rfl, H0, HF⟩
 case round =>
  clear H0 HF
  obtain ⟨i, hi, rfl, HE, HW⟩ := hrel
  by_cases hlt : i < n
  ·obtain ⟨h1, h2, h3, he⟩ := HI.out i hlt
   obtain ⟨gk, ok, rfl, hgk, hck⟩ := HK.out (by omega)
   obtain ⟨ga, oa, rfl, hga, hca⟩ := HA.out (by omega)
   obtain ⟨gb, ob, rfl, hgb, hcb⟩ := HB.out (by omega)
   obtain ⟨A', c', hkc⟩ := hck i h1
   obtain ⟨i0, i1, i2, i3, i4, i5, i6, i7⟩ := hkc.same (HW.out.block gk hgk)
   obtain ⟨Wa, Wb, hWa, hWb, b1, b2, hz, hb1, hb2⟩ := made8 wr (.string (str ks[i].e.op)) (.int .i64 ks[i].e.v.k) (.int .i64 ks[i].e.v.i) (.string (str ks[i].e.v.s)) (.string (str ks[i].e.tb)) (.string (str ks[i].e.nm)) (.slice A' ks[i].e.l.length c') (.bool ks[i].desc)
   obtain ⟨f10, f11, f12, f13, f14, f15, f16, f17⟩ := b1.free
   obtain ⟨p10, p11, p12, p13, p14, p15, p16, p17⟩ := b1.cells
   have hbw := bthen HW.out hb2
   have hA1 := hca i h2
   have hB1 := hcb i h3
   have LA := Lib.hid (fun (x : LTT Wb) => (show BV.CellsAt x.1 ga (oa + i * 3) a[i] from ⟨((bthen hbw x.2).cell (p := ⟨ga, _, none⟩) hga).trans hA1.1, ((bthen hbw x.2).cell (p := ⟨ga, _, none⟩) hga).trans hA1.2.1, ((bthen hbw x.2).cell (p := ⟨ga, _, none⟩) hga).trans hA1.2.2⟩))
   have LB := Lib.hid (fun (x : LTT Wb) => (show BV.CellsAt x.1 gb (ob + i * 3) b[i] from ⟨((bthen hbw x.2).cell (p := ⟨gb, _, none⟩) hgb).trans hB1.1, ((bthen hbw x.2).cell (p := ⟨gb, _, none⟩) hgb).trans hB1.2.1, ((bthen hbw x.2).cell (p := ⟨gb, _, none⟩) hgb).trans hB1.2.2⟩))
   have LD := Lib.hid (fun (x : LTT Wb) => (x.2.cell (p := ⟨wr.heap.size, 7, none⟩) b2.lt).trans b2.cells.2.2.2.2.2.2.2)
   have CC := Lib.hid (fun W => BV.cmpV_any a[i].k a[i].i b[i].k b[i].i a[i].s b[i].s W)
   have hvv : BV.cmpV a[i].k a[i].i a[i].s b[i].k b[i].i b[i].s = BV.cmpVV a[i] b[i] := rfl
   rw [hvv] at CC
   have hrg := BV.cmpVV_ok.range a[i] b[i]
   have hke : kc ks[i] a[i] b[i] = if ks[i].desc then - BV.cmpVV a[i] b[i] else BV.cmpVV a[i] b[i] := rfl
   rw [hke] at he
   have HWA := Lib.hid hWa
   have HWB := Lib.hid hWb
   have HBB := Lib.hid hbw
   unfold BV.CellsAt at LA LB
   generalize BV.cmpVV a[i] b[i] = r at *
   generalize str ks[i].e.op = s0 at *
   generalize ks[i].e.v.k = s1 at *
   generalize ks[i].e.v.i = s2 at *
   generalize str ks[i].e.v.s = s3 at *
   generalize str ks[i].e.tb = s4 at *
   generalize str ks[i].e.nm = s5 at *
   generalize ks[i].e.l.length = s6 at *
   generalize ks[i].desc = ds at *
   generalize a[i].k = ak at *
   generalize a[i].i = ai at *
   generalize a[i].s = aS at *
   generalize b[i].k = bk at *
   generalize b[i].i = bi at *
   generalize b[i].s = bS at *
   have HEE := Lib.hid (HE.out.trans he)
   have HRG := Lib.hid hrg
   have hina : i < la := by omega
   have hinb : i < lb := by omega
   have hinz : (i : Int) < (n : Int) := by omega
   have HLT := Lib.hid hb2
   clear hkc hWa hWb b1 b2 hb1 hb2 hbw hA1 hB1 hca hcb hck hvv hke he hrg HE hz hgk hga hgb HW HK HA HB HI HZ h1 h2 h3
   go_wp2_with (first | (rw [← HWB.out]) | (rw [← HWA.out]))
   have HNE : Nonempty (LTT Wb) := ⟨⟨Wb, Below.refl _ _⟩⟩
   have a0 := fun x => (LA.out x).1
   have a1 := fun x => (LA.out x).2.1
   have a2 := fun x => (LA.out x).2.2
   have b0 := fun x => (LB.out x).1
   have b1 := fun x => (LB.out x).2.1
   have b2 := fun x => (LB.out x).2.2
   refine wp_region_classR (fun w' => ∃ x : LTT Wb, w' = x.1) (by kernel_rfl) (by kernel_rfl) ⟨⟨_, (Below.refl _ Wb).drew⟩, rfl⟩ ?_
   repeat (go_big_quiet_step ((rename_i x; (go_at_call 68; refine (CC.out _).mono ?_; rintro e w2 ⟨rfl, hb⟩; exact ⟨rfl, ⟨_, bthen x.2 hb⟩, rfl⟩))))
   refine wpQuiet_nil ?_
   rintro Wc ⟨⟨W1, h1⟩, rfl⟩
   have d7 := LD.out ⟨Wc, h1⟩
   have HB2 : Hid (Below w.heap.size w Wc) := Lib.hid (bthen HBB.out h1)
   dsimp only at d7 ⊢
   clear a0 a1 a2 b0 b1 b2 LA LB LD CC h1 HNE HLT HBB
   cases ds
   ·by_cases hr0 : r = 0
    ·subst hr0
     have HE2 : Hid (R = keyC (ks.drop (i + 1)) (a.drop (i + 1)) (b.drop (i + 1))) := Lib.hid (by simpa using HEE.out)
     go_wp2_with fail
     go_roundw
     case measure => simp [intOf]; omega
     case rel => exact ⟨i + 1, by omega, by go_num, HE2, HB2⟩
    ·have hne : (r != 0) = true := by simpa using hr0
     have HE2 : Hid (R = r) := Lib.hid (by simpa [hr0] using HEE.out)
     clear hr0
     go_wp2_with fail
     go_ret
     exact ⟨by rw [HE2.out]; rfl, HB2.out⟩
   ·have hneg : wrap64 (-r) = -r := by
     have := HRG.out
     unfold wrap64; omega
    by_cases hr0 : r = 0
    ·have hw0 : wrap64 0 = 0 := by unfold wrap64; omega
     have hw1 : wrap64 (-0) = 0 := by unfold wrap64; omega
     subst hr0
     clear hneg
     have HE2 : Hid (R = keyC (ks.drop (i + 1)) (a.drop (i + 1)) (b.drop (i + 1))) := Lib.hid (by simpa using HEE.out)
     go_wp2_with fail
     go_roundw
     case measure => simp [intOf]; omega
     case rel => exact ⟨i + 1, by omega, by go_num, HE2, HB2⟩
    ·obtain ⟨r', hr'⟩ : ∃ r', wrap64 (-r) = r' := ⟨_, rfl⟩
     have hrr : r' = -r := by rw [← hr', hneg]
     have hne : (r' != 0) = true := by simp; omega
     have HE2 : Hid (R = r') := Lib.hid (by have := HEE.out; rw [hrr]; simpa [hr0] using this)
     clear hr0 hneg hrr
     go_wp2_with fail
     go_ret
     exact ⟨by rw [HE2.out]; rfl, HB2.out⟩
  ·obtain rfl : i = n := by omega
   have HE2 : Hid (R = 0) := Lib.hid (HE.out.trans HZ.out)
   go_wp2_with fail
   go_ret
   exact ⟨by rw [HE2.out]; rfl, HW.out⟩
theorem clo_any (ks : List Ky) (rs : List BV.R) (w : World) (g1 g2 : Nat) (K A : Option Addr) (kc' ca n : Nat) (hk : KysIn w w.heap.size K ks) (hr : BV.RowsAt w w.heap.size A rs) (hl : ∀ r ∈ rs, ks.length ≤ r.xs.length) (hm : ks.length ≤ 2000) (c1 : w.cell? ⟨g1, 0, none⟩ = some (.slice K ks.length kc')) (c2 : w.cell? ⟨g2, 0, none⟩ = some (.slice A n ca)) (hg1 : g1 < w.heap.size) (hg2 : g2 < w.heap.size) (hn : n = rs.length) (hn2 : n ≤ 1000000) (x y : Nat) (hx : x < rs.length) (hy : y < rs.length) :
  Calls Tryz.prog 48 #[.int .i64 x, .int .i64 y, .pointer (some ⟨g1, 0, none⟩), .pointer (some ⟨g2, 0, none⟩)] w fun q w' => q = .returned (.int .i64 (keyC ks rs[x].xs rs[y].xs)) ∧ Below w.heap.size w w' := by
 have CC := Lib.hid (fun (z : LTT w) => compared_any ks rs[x].xs rs[y].xs z.1 K rs[x].A rs[y].A kc' rs[x].c rs[y].c ((hk.below z.2).mono z.2.size) ((hr.2 rs[x] (List.getElem_mem hx)).later z.2) ((hr.2 rs[y] (List.getElem_mem hy)).later z.2) (hl _ (List.getElem_mem hx)) (hl _ (List.getElem_mem hy)) hm)
 obtain ⟨ga, oa, rfl, hga, hca⟩ := hr.1 (by omega)
 have D1 := Lib.hid (fun (z : LTT w) => (z.2.cell (p := ⟨g1, 0, none⟩) hg1).trans c1)
 have D2 := Lib.hid (fun (z : LTT w) => (z.2.cell (p := ⟨g2, 0, none⟩) hg2).trans c2)
 have D3 := Lib.hid (fun (z : LTT w) => (z.2.cell (p := ⟨ga, _, none⟩) hga).trans (hca x hx))
 have D4 := Lib.hid (fun (z : LTT w) => (z.2.cell (p := ⟨ga, _, none⟩) hga).trans (hca y hy))
 unfold BV.R.val at D3 D4
 generalize keyC ks rs[x].xs rs[y].xs = r at *
 have hxn : x < n := by omega
 have hyn : y < n := by omega
 generalize rs[x].xs.length = lx at *
 generalize rs[y].xs.length = ly at *
 generalize rs[x].A = Ax at *
 generalize rs[y].A = Ay at *
 generalize rs[x].c = cx at *
 generalize rs[y].c = cy at *
 generalize ks.length = kl at *
 clear hk hr hl c1 c2 hca hg1 hg2 hga hn hx hy
 go_enter Tryz.func48, Tryz.ntmps48
 go_wp2_with fail
 have HNE : Nonempty (LTT w) := ⟨⟨w, Below.refl _ _⟩⟩
 have d1 := D1.out
 have d2 := D2.out
 have d3 := D3.out
 have d4 := D4.out
 refine wp_region_classR (fun w' => ∃ x : LTT w, w' = x.1) (by kernel_rfl) (by kernel_rfl) ⟨⟨_, (Below.refl _ w).drew⟩, rfl⟩ ?_
 repeat (go_big_quiet_step ((rename_i z; (go_at_call 49; refine (CC.out z).mono ?_; rintro e w2 ⟨rfl, hb⟩; exact ⟨rfl, ⟨_, bthen z.2 hb⟩, rfl⟩))))
 refine wpQuiet_nil ?_
 rintro Wc ⟨⟨W1, h1⟩, rfl⟩
 have HB2 : Hid (Below w.heap.size w Wc) := Lib.hid h1
 clear d1 d2 d3 d4 D1 D2 D3 D4 CC h1 HNE
 go_wp2_with fail
 go_ret
 exact ⟨rfl, HB2.out⟩
def srL (X U M V Y : List Int) (i : Nat) : List Int := X ++ V.take i ++ U.drop i ++ M ++ U.take i ++ V.drop i ++ Y
theorem sr_zero (X U M V Y : List Int) : srL X U M V Y 0 = X ++ U ++ M ++ V ++ Y := by simp [srL]
theorem sr_all (X U M V Y : List Int) (h : U.length = V.length) : srL X U M V Y U.length = X ++ V ++ M ++ U ++ Y := by
 unfold srL
 rw [List.drop_of_length_le (Nat.le_refl _), List.take_of_length_le (Nat.le_refl U.length), List.take_of_length_le (by omega), List.drop_of_length_le (by omega)]
 simp
theorem sr_step (X U M V Y : List Int) (i : Nat) (h : U.length = V.length) (hi : i < U.length) : ∃ A x N y B, srL X U M V Y i = A ++ x :: (N ++ y :: B) ∧ X.length + i = A.length ∧ X.length + U.length + M.length + i = A.length + 1 + N.length ∧ srL X U M V Y (i + 1) = A ++ y :: (N ++ x :: B) := by
 have hv : i < V.length := by omega
 refine ⟨X ++ V.take i, U[i], U.drop (i + 1) ++ M ++ U.take i, V[i], V.drop (i + 1) ++ Y, ?_, ?_, ?_, ?_⟩
 ·unfold srL
  rw [List.drop_eq_getElem_cons hi, List.drop_eq_getElem_cons hv]
  simp only [List.append_assoc, List.cons_append]
 ·simp; omega
 ·simp; omega
 ·unfold srL
  rw [List.take_succ_eq_append_getElem hi, List.take_succ_eq_append_getElem hv]
  simp only [List.append_assoc, List.cons_append, List.nil_append]
theorem swapRange_any (w : World) (b c n : Nat) (X U M V Y : List Int) (W : World) (fv : Value) (h : SL w b (X ++ U ++ M ++ V ++ Y) W) (hn : (X ++ U ++ M ++ V ++ Y).length = n) (hm : n ≤ 1000000000) (hUV : U.length = V.length) (a0 b0 k : Nat) (ha : a0 = X.length) (hb : b0 = X.length + U.length + M.length) (hk : k = U.length) :
  Calls Tryz.prog 150 #[.slice (some ⟨b, 0, none⟩) n c, .int .i64 a0, .int .i64 b0, .int .i64 k, fv] W fun e w' => e = .returned (.tuple #[]) ∧ SL w b (X ++ V ++ M ++ U ++ Y) w' := by
 have S0 : Hid (SL w b (srL X U M V Y 0) W) := Lib.hid (by rw [sr_zero]; exact h)
 have HSR : Hid (∀ i, i < k → ∃ A x N y B, srL X U M V Y i = A ++ x :: (N ++ y :: B) ∧ a0 + i = A.length ∧ b0 + i = A.length + 1 + N.length ∧ srL X U M V Y (i + 1) = A ++ y :: (N ++ x :: B)) := Lib.hid fun i hi => by rw [ha, hb]; exact sr_step X U M V Y i hUV (by omega)
 have HAL : Hid (srL X U M V Y k = X ++ V ++ M ++ U ++ Y) := Lib.hid (by rw [hk]; exact sr_all X U M V Y hUV)
 have han : a0 + k ≤ n ∧ b0 + k ≤ n := by
  rw [← hn, ha, hb, hk]
  simp only [List.length_append]
  omega
 generalize X ++ V ++ M ++ U ++ Y = RES at *
 generalize srL X U M V Y = SR at *
 clear h hn hUV ha hb hk
 obtain ⟨han, hbn⟩ := han
 go_enter Tryz.func150, Tryz.ntmps150
 go_wp2_with fail
 go_loopw [10] (fun iv wr => ∃ i : Nat, i ≤ k ∧ iv = .int .i64 i ∧ Hid (SL w b (SR i) wr)) (fun i _ => k - (intOf i).toNat)
 case atStart => exact ⟨0, Nat.zero_le _, rfl, S0⟩
 case round =>
  clear S0
  obtain ⟨i, hi, rfl, S1⟩ := hrel
  by_cases hlt : i < k
  ·obtain ⟨A, x, N, y, B, h1, h2, h3, h4⟩ := HSR.out i hlt
   have SW1 := S1.out.swap h1 h2 h3
   rw [← h4] at SW1
   have S2 := Lib.hid SW1.got.drew
   have c1 := SW1.ci
   have c2 := SW1.cj
   have f1 := SW1.fi
   have f2 := SW1.fj
   obtain ⟨u, c3⟩ := SW1.cij
   have hkz : (i : Int) < (k : Int) := by omega
   have w1 : IntKind.i64.wrap ((a0 : Int) + (i : Int)) = ((a0 + i : Nat) : Int) := by rw [IntKind.wrap_i64]; omega
   have w2 : IntKind.i64.wrap ((b0 : Int) + (i : Int)) = ((b0 + i : Nat) : Int) := by rw [IntKind.wrap_i64]; omega
   have e1 : ((a0 + i : Nat) : Int) < (n : Int) := by omega
   have e2 : ((b0 + i : Nat) : Int) < (n : Int) := by omega
   have e3 : ((a0 + i : Nat) : Int).toNat = a0 + i := by omega
   have e4 : ((b0 + i : Nat) : Int).toNat = b0 + i := by omega
   clear SW1 h1 h2 h3 h4 S1
   go_wp2_with fail
   go_big_region
   clear c1 c2 c3 f1 f2
   go_wp2
   go_roundw
   case measure => simp [intOf]; omega
   case rel => exact ⟨i + 1, by omega, by go_num, S2⟩
  ·obtain rfl : i = k := by omega
   go_wp2
   go_end0
   exact ⟨rfl, by rw [← HAL.out]; exact S1.out⟩
theorem rotate_any (w : World) (b c n : Nat) (X U V Y : List Int) (W : World) (fv : Value) (h : SL w b (X ++ U ++ V ++ Y) W) (hn : (X ++ U ++ V ++ Y).length = n) (hm : n ≤ 1000000000) (hU : 0 < U.length) (hV : 0 < V.length) (a0 m0 b0 : Nat) (ha : a0 = X.length) (hmm : m0 = X.length + U.length) (hb : b0 = X.length + U.length + V.length) :
  Calls Tryz.prog 125 #[.slice (some ⟨b, 0, none⟩) n c, .int .i64 a0, .int .i64 m0, .int .i64 b0, fv] W fun e w' => e = .returned (.tuple #[]) ∧ SL w b (X ++ V ++ U ++ Y) w' := by
 obtain ⟨RES, hR⟩ : ∃ RES, X ++ V ++ U ++ Y = RES := ⟨_, rfl⟩
 rw [hR]
 have HST : Hid (∃ X' U' V' Y' : List Int, SL w b (X' ++ U' ++ V' ++ Y') W ∧ (X' ++ U' ++ V' ++ Y').length = n ∧ 0 < U'.length ∧ 0 < V'.length ∧ m0 = X'.length + U'.length ∧ U'.length = m0 - a0 ∧ V'.length = b0 - m0 ∧ X' ++ V' ++ U' ++ Y' = RES) := Lib.hid ⟨X, U, V, Y, h, hn, hU, hV, hmm, by omega, by omega, hR⟩
 have hbn : b0 ≤ n := by rw [← hn]; simp only [List.length_append]; omega
 have hxm : a0 < m0 := by omega
 have hmb : m0 < b0 := by omega
 clear h hn hU hV ha hmm hb hR
 have w1 : IntKind.i64.wrap ((m0 : Int) - (a0 : Int)) = ((m0 - a0 : Nat) : Int) := by rw [IntKind.wrap_i64]; omega
 have w2 : IntKind.i64.wrap ((b0 : Int) - (m0 : Int)) = ((b0 - m0 : Nat) : Int) := by rw [IntKind.wrap_i64]; omega
 go_enter Tryz.func125, Tryz.ntmps125
 go_wp2_with fail
 go_loopw [10, 11] (fun iv jv wr => ∃ (X' U' V' Y' : List Int) (i j : Nat), iv = .int .i64 i ∧ jv = .int .i64 j ∧ 0 < i ∧ 0 < j ∧ i ≤ m0 ∧ m0 + j ≤ n ∧ Hid (SL w b (X' ++ U' ++ V' ++ Y') wr) ∧ Hid ((X' ++ U' ++ V' ++ Y').length = n ∧ U'.length = i ∧ V'.length = j ∧ X'.length = m0 - i ∧ X' ++ V' ++ U' ++ Y' = RES)) (fun i j _ => (intOf i).toNat + (intOf j).toNat)
 case atStart =>
  obtain ⟨X', U', V', Y', h1, h2, h3, h4, h5, h6, h7, h8⟩ := HST.out
  exact ⟨X', U', V', Y', m0 - a0, b0 - m0, by go_num, by go_num, by omega, by omega, by omega, by omega, Lib.hid h1, Lib.hid ⟨h2, h6, h7, by omega, h8⟩⟩
 case round =>
  clear HST w1 w2
  obtain ⟨X', U', V', Y', i, j, rfl, rfl, hi, hj, him, hjm, S1, HL⟩ := hrel
  obtain ⟨L1, L2, L3, L4, L5⟩ := HL.out
  have v1 : IntKind.i64.wrap ((m0 : Int) - (i : Int)) = (m0 : Int) - i := by rw [IntKind.wrap_i64]; omega
  rcases Nat.lt_trichotomy i j with hlt | heq | hgt
  ·have hne : ((i : Int) != (j : Int)) = true := by simp; omega
   have hng : ¬ ((i : Int) > (j : Int)) := by omega
   have hng2 : ¬ ((j : Int) < (i : Int)) := by omega
   have v2 : IntKind.i64.wrap ((m0 : Int) + (j : Int)) = (m0 : Int) + j := by rw [IntKind.wrap_i64]; omega
   have v3 : IntKind.i64.wrap ((m0 : Int) + (j : Int) - (i : Int)) = (m0 : Int) + j - i := by rw [IntKind.wrap_i64]; omega
   have v4 : IntKind.i64.wrap ((j : Int) - (i : Int)) = ((j - i : Nat) : Int) := by rw [IntKind.wrap_i64]; omega
   have e : X' ++ U' ++ V' ++ Y' = X' ++ U' ++ V'.take (j - i) ++ V'.drop (j - i) ++ Y' := by simp
   have HS := swapRange_any w b c n X' U' (V'.take (j - i)) (V'.drop (j - i)) Y' wr fv (by rw [← e]; exact S1.out) (by rw [← e]; exact L1) hm (by rw [List.length_drop]; omega) (m0 - i) (m0 + j - i) i (by omega) (by rw [List.length_take]; omega) L2.symm
   rw [show ((m0 - i : Nat) : Int) = (m0 : Int) - i by omega, show ((m0 + j - i : Nat) : Int) = (m0 : Int) + j - i by omega] at HS
   have HS := Lib.hid HS
   have HL2 : Hid ((X' ++ V'.drop (j - i) ++ V'.take (j - i) ++ (U' ++ Y')).length = n ∧ (V'.drop (j - i)).length = i ∧ (V'.take (j - i)).length = j - i ∧ X'.length = m0 - i ∧ X' ++ V'.take (j - i) ++ V'.drop (j - i) ++ (U' ++ Y') = RES) := Lib.hid ⟨by
    rw [← L1]
    simp only [List.length_append, List.length_take, List.length_drop]
    omega, by rw [List.length_drop]; omega, by rw [List.length_take]; omega, L4, by rw [← L5]; simp⟩
   clear e L1 L2 L3 L4 L5 HL S1
   go_wp2_with fail
   refine (HS.out).mono ?_
   rintro q w3 ⟨rfl, h3⟩
   have S3 : Hid (SL w b (X' ++ V'.drop (j - i) ++ V'.take (j - i) ++ (U' ++ Y')) w3) := Lib.hid (by simpa using h3)
   clear h3 HS
   go_wp2_with fail
   go_roundw
   case measure => simp [intOf]; omega
   case rel => exact ⟨_, _, _, _, i, j - i, rfl, by go_num, hi, by omega, him, by omega, S3, HL2⟩
  ·subst heq
   have hne : ((i : Int) != (i : Int)) = false := by simp
   have HS := swapRange_any w b c n X' U' [] V' Y' wr fv (by simpa using S1.out) (by simpa using L1) hm (by omega) (m0 - i) m0 i (by omega) (by simp; omega) L2.symm
   rw [show ((m0 - i : Nat) : Int) = (m0 : Int) - i by omega] at HS
   have HS := Lib.hid HS
   clear L1 L2 L3 L4 HL S1
   go_wp2_with fail
   refine (HS.out).mono ?_
   rintro q w3 ⟨rfl, h3⟩
   have S3 : Hid (SL w b RES w3) := Lib.hid (by rw [← L5]; simpa using h3)
   clear h3 HS L5
   go_wp2_with fail
   go_end0
   exact ⟨rfl, S3.out⟩
  ·have hne : ((i : Int) != (j : Int)) = true := by simp; omega
   have hng : ((i : Int) > (j : Int)) := by omega
   have hng2 : ((j : Int) < (i : Int)) := by omega
   have v4 : IntKind.i64.wrap ((i : Int) - (j : Int)) = ((i - j : Nat) : Int) := by rw [IntKind.wrap_i64]; omega
   have e : X' ++ U' ++ V' ++ Y' = X' ++ U'.take j ++ U'.drop j ++ V' ++ Y' := by simp
   have HS := swapRange_any w b c n X' (U'.take j) (U'.drop j) V' Y' wr fv (by rw [← e]; exact S1.out) (by rw [← e]; exact L1) hm (by rw [List.length_take]; omega) (m0 - i) m0 j (by omega) (by rw [List.length_take, List.length_drop]; omega) (by rw [List.length_take]; omega)
   rw [show ((m0 - i : Nat) : Int) = (m0 : Int) - i by omega] at HS
   have HS := Lib.hid HS
   have HL2 : Hid ((X' ++ V' ++ U'.drop j ++ U'.take j ++ Y').length = n ∧ (U'.drop j).length = i - j ∧ (U'.take j).length = j ∧ (X' ++ V').length = m0 - (i - j) ∧ X' ++ V' ++ U'.take j ++ U'.drop j ++ Y' = RES) := Lib.hid ⟨by
    rw [← L1]
    simp only [List.length_append, List.length_take, List.length_drop]
    omega, by rw [List.length_drop]; omega, by rw [List.length_take]; omega, by rw [List.length_append]; omega, by rw [← L5]; simp⟩
   clear e L1 L2 L3 L4 L5 HL S1
   go_wp2_with fail
   refine (HS.out).mono ?_
   rintro q w3 ⟨rfl, h3⟩
   have S3 : Hid (SL w b (X' ++ V' ++ U'.drop j ++ U'.take j ++ Y') w3) := Lib.hid h3
   clear h3 HS
   go_wp2_with fail
   go_roundw
   case measure => simp [intOf]; omega
   case rel => exact ⟨_, _, _, _, i - j, j, by go_num, rfl, by omega, hj, by omega, hjm, S3, HL2⟩
end Go.Proofs.YtkigddankkoahaaGreatDoor
