import Derived.Test.YtkigddankkoahaaGreatDoorQ31
import Derived.Deep.Upon
import Derived.Lib.SlFresh
import Derived.Deep.AppendLies
import Derived.Test.YtkigddankkoahaaGreatDoorQ01
import Derived.Test.YtkigddankkoahaaGreatDoorQ29
set_option maxRecDepth 100000
set_option maxHeartbeats 4000000
set_option linter.unusedSimpArgs false
set_option linter.unusedVariables false
namespace Go.Proofs.YtkigddankkoahaaGreatDoor.BV
open Go.RowKit
theorem info28 : (Tryz.prog.info? 41).map (fun i => (i.zero, i.size, i.bytes)) = some (some (.slice none 0 0), 1, 24) := by kernel_rfl
def vals (rs : List R) : List Value := rs.map R.val
theorem vals_len (rs : List R) : (vals rs).length = rs.length := by simp [vals]
theorem vals_one (rs : List R) : ∀ u ∈ vals rs, u.oneCell' = true := by
 intro u hu
 obtain ⟨r, _, rfl⟩ := List.mem_map.1 hu
 rfl
theorem RowsAt.cells {w : World} {B b off : Nat} {rs : List R} (h : RowsAt w B (some ⟨b, off, none⟩) rs) : ∀ j u, (vals rs)[j]? = some u → w.cell? ((⟨b, off, none⟩ : Addr).add j) = some u := by
 intro j u hu
 have hj : j < rs.length := by
  have := (List.getElem?_eq_some_iff.1 hu).1
  rwa [vals_len] at this
 obtain ⟨b', off', hA, -, hc⟩ := h.1 (by omega)
 simp at hA
 obtain ⟨rfl, rfl⟩ := hA
 have := hc j hj
 rw [WideShapes.add_plain]
 simp [vals, hj] at hu
 rw [← hu]
 exact this
theorem own_shape {w : World} {B n : Nat} {v : Value} {xs : List Value} (h : w.ownsRow B 41 1 v n xs) : ∃ A c, v = .slice A n c ∧ n ≤ c := by
 rcases h.2 with ⟨hv, h0⟩ | ⟨g, cap, cur, hv, _, hg, hn, _⟩
 ·exact ⟨none, 0, by rw [hv, h0], by omega⟩
 ·exact ⟨_, cap, hv, by assumption⟩
theorem own_rows {w : World} {B : Nat} {v : Value} {rs : List R} (h : w.ownsRow B 41 1 v rs.length (vals rs)) (hr : ∀ r ∈ rs, RowAt w w.heap.size r.A r.xs) : ∃ A c, v = .slice A rs.length c ∧ rs.length ≤ c ∧ RowsAt w w.heap.size A rs := by
 rcases h.2 with ⟨hv, h0⟩ | ⟨g, cap, cur, hv, _, hg, hn, _⟩
 ·exact ⟨none, 0, by rw [hv, h0], by omega, fun h => by omega, hr⟩
 ·refine ⟨_, cap, hv, hn, fun _ => ⟨g, 0, rfl, (Array.getElem?_eq_some_iff.1 hg).1, fun j hj => ?_⟩, hr⟩
  have := h.cells (g := g) (by rw [hv]; rfl) j rs[j].val (by simp [vals, hj])
  rwa [WideShapes.add_plain] at this
theorem run_append_rows {w : World} {B n : Nat} {v : Value} {xs : List Value} (hown : w.ownsRow B 41 1 v n xs) (rs : List R) (A : Option Addr) (c : Nat) (hr : RowsAt w w.heap.size A rs) (hm : n + rs.length ≤ 1000000) (hB : B ≤ w.heap.size) :
  ∃ v' w', (Builtin.append_ #[22, 22] 22 #[v, .slice A rs.length c]).run Tryz.prog w = .ok v' w' ∧ w'.ownsRow B 41 1 v' (n + rs.length) (xs ++ vals rs) ∧ w.grownBy w' v.ownBlock := by
 obtain ⟨i0, hi, hz0, hz1, hz2⟩ := info_parts info28
 rcases Nat.eq_zero_or_pos rs.length with h0 | h0
 ·have hx := List.eq_nil_of_length_eq_zero h0
  subst hx
  obtain ⟨A', c', rfl, hn⟩ := own_shape hown
  refine ⟨.slice A' n c', w, run_append_nothing (P := Tryz.prog) w 22 22 22 41 i0 Tryz.underlying22 hi A' n c' hn _ ?_, by simpa [vals] using hown, ?_⟩
  ·cases A with
   | none => exact Src.ofNil w Tryz.underlying22 c
   | some a => exact Src.ofSlice w Tryz.underlying22 a 0 c [] (by simp) (by intro j u h; simp at h) (by simp)
  ·exact ⟨rfl, rfl, rfl, Nat.le_refl _, fun _ _ _ => rfl⟩
 ·obtain ⟨b, off, rfl, -, -⟩ := hr.1 h0
  obtain ⟨v', w', h1, h2, h3, -⟩ := run_append_own (P := Tryz.prog) w B 22 22 41 i0 (.slice none 0 0) 1 24 Tryz.underlying22 hi hz0 hz1 hz2 rfl (by decide) v n xs hown ⟨b, off, none⟩ rs.length c (vals rs) (by rw [vals_len]; omega) hr.cells (vals_one rs) (by unfold maxLen; omega) (by omega) hB
  exact ⟨v', w', h1, h2, h3⟩
theorem grown_own {w w' : World} {B n : Nat} {v : Value} {xs : List Value} (hown : w.ownsRow B 41 1 v n xs) (hg : w.grownBy w' v.ownBlock) (hB : B ≤ w.heap.size) : Below B w w' :=
 (Below.refl B w).grown hg hB (fun k hk => (hown.lt k hk).1)
theorem run_append_copy (w : World) (rs : List R) (A : Option Addr) (c : Nat) (hr : RowsAt w w.heap.size A rs) (hm : rs.length ≤ 1000000) :
  ∃ v' w', (Builtin.append_ #[22, 22] 22 #[.slice none 0 0, .slice A rs.length c]).run Tryz.prog w = .ok v' w' ∧ w'.ownsRow w.heap.size 41 1 v' rs.length (vals rs) ∧ Below w.heap.size w w' := by
 have h0 := World.ownsRow_nil w w.heap.size 41 1
 obtain ⟨v', w', h1, h2, h3⟩ := run_append_rows h0 rs A c hr (by omega) (Nat.le_refl _)
 rw [Nat.zero_add, List.nil_append] at h2
 exact ⟨v', w', h1, h2, grown_own h0 h3 (Nat.le_refl _)⟩
theorem RowsAt.after {w w' : World} {A : Option Addr} {rs : List R} (h : RowsAt w w.heap.size A rs) (hb : Below w.heap.size w w') : RowsAt w' w'.heap.size A rs := by
 have h2 := h.below hb
 refine ⟨fun h0 => ?_, fun r hr => (h2.2 r hr).mono hb.size⟩
 obtain ⟨b, off, hA, hlt, hc⟩ := h2.1 h0
 exact ⟨b, off, hA, Nat.lt_of_lt_of_le hlt hb.size, hc⟩
theorem own_later {w w' : World} {base : Nat} {e : TypeId} {size : Nat} {v : Value} {n : Nat} {xs : List Value} (h : w.ownsRow base e size v n xs) (hb : Below w.heap.size w w') : w'.ownsRow base e size v n xs :=
 h.kept (row := none) ⟨hb.os, hb.tape, hb.output, hb.size, fun k hk _ => hb.block k hk⟩ (by cases v.ownBlock <;> simp)
theorem rows_step {w w1 w2 : World} {B n : Nat} {v v' : Value} {out : List R} {r : R} {o : Obj} (hB : Below B w w1) (hBw : B ≤ w1.heap.size) (hown : w1.ownsRow B 41 1 v n (vals out)) (hown' : w2.ownsRow B 41 1 v' (n + 1) (vals out ++ [r.val])) (hgrow : (w1.alloc o).grownBy w2 v.ownBlock) :
  w2.ownsRow B 41 1 v' (n + 1) (vals (out ++ [r])) ∧ Below B w w2 :=
 ⟨by unfold vals at *; rw [List.map_append]; exact hown', (hB.alloc hBw _).grown hgrow (by simp; omega) (fun k hk => (hown.lt k hk).1)⟩
theorem RowsAt.take {w : World} {B : Nat} {A : Option Addr} {rs : List R} (h : RowsAt w B A rs) (k : Nat) : RowsAt w B A (rs.take k) := by
 refine ⟨fun h0 => ?_, fun r hr => h.2 r (List.mem_of_mem_take hr)⟩
 obtain ⟨b, off, hA, hlt, hc⟩ := h.1 (by rw [List.length_take] at h0; omega)
 refine ⟨b, off, hA, hlt, fun j hj => ?_⟩
 have := hc j (by rw [List.length_take] at hj; omega)
 simpa using this
theorem RowsAt.drop {w : World} {B b off : Nat} {rs : List R} (h : RowsAt w B (some ⟨b, off, none⟩) rs) (k : Nat) : RowsAt w B (some ⟨b, off + k, none⟩) (rs.drop k) := by
 refine ⟨fun h0 => ?_, fun r hr => h.2 r (List.mem_of_mem_drop hr)⟩
 obtain ⟨b', off', hA, hlt, hc⟩ := h.1 (by rw [List.length_drop] at h0; omega)
 simp at hA
 obtain ⟨rfl, rfl⟩ := hA
 refine ⟨b, off + k, rfl, hlt, fun j hj => ?_⟩
 have := hc (k + j) (by rw [List.length_drop] at hj; omega)
 rw [Nat.add_assoc]
 simpa using this
def RSorted (rs : List R) (w : World) (e : Ending) (w' : World) : Prop := ∃ A c out, e = .returned (.slice A rs.length c) ∧ rs.length ≤ c ∧ RowsAt w' w'.heap.size A out ∧ out.Perm rs ∧ out.Pairwise leR ∧ Below w.heap.size w w'
def RSortOk (n : Nat) : Prop := ∀ (rs : List R) (A : Option Addr) (c : Nat) (w : World), rs.length = n → RowsAt w w.heap.size A rs → (∀ r ∈ rs, r.xs.length ≤ 140737488355328) → rs.length ≤ c → n ≤ 1000000 → Calls Tryz.prog 39 #[.slice A rs.length c] w (RSorted rs w)
theorem rsort_short (n : Nat) (h2 : n < 2) : RSortOk n := by
 intro rs A c w hn hr hs hc hm
 obtain ⟨v, w2, hrun, ho, hb⟩ := run_append_copy w rs A c hr (by omega)
 obtain ⟨A2, c2, hv, hc2, ha2⟩ := own_rows ho (fun r hr' => (hr.2 r hr').later hb)
 have HP : Hid (RSorted rs w (.returned v) w2) := ⟨A2, c2, rs, by rw [hv], hc2, ha2, List.Perm.refl _, short_sorted (by omega), hb⟩
 clear hr hs ho hb hv hc2 ha2
 rw [hn] at hrun hc ⊢
 clear hn
 have hlt : ((n : Int) < 2) := by omega
 go_enter Tryz.func39, Tryz.ntmps39
 go_wp2_with (at_builtin; refine Lib.wpList_append_run_sl _ rfl _ _ 22 rfl _ _ rfl rfl hrun ?_)
 go_wp2_with fail
 go_ret
 exact HP.out
theorem rsort_end (rs la lb out M : List R) (w w2 wr : World) (v : Value) (Aa Ab : Option Addr) (ca cb na nb no : Nat) (hna : na = la.length) (hnb : nb = lb.length) (hno : no = out.length) (hBw : Below w.heap.size w w2) (hb : Below w2.heap.size w2 wr) (ha : RowsAt w2 w2.heap.size Aa la) (hbb : RowsAt w2 w2.heap.size Ab lb)
  (ho : wr.ownsRow w2.heap.size 41 1 v no (vals out)) (e1 : out ++ (la ++ lb) = M) (hp : M.Perm rs) (hsm : M.Pairwise leR) (hrw : ∀ r ∈ rs, RowAt w2 w2.heap.size r.A r.xs) (hm : rs.length ≤ 1000000) :
  ∃ v1 w3 v2 w4, (Builtin.append_ #[22, 22] 22 #[v, .slice Aa na ca]).run Tryz.prog wr = .ok v1 w3 ∧ (Builtin.append_ #[22, 22] 22 #[v1, .slice Ab nb cb]).run Tryz.prog w3 = .ok v2 w4 ∧ RSorted rs w (.returned v2) w4 := by
 subst hna hnb hno
 have hl : out.length + (la.length + lb.length) = rs.length := by rw [← hp.length_eq, ← e1]; simp
 obtain ⟨v1, w3, hrun1, ho3, hg3⟩ := run_append_rows ho la Aa ca (ha.after hb) (by omega) hb.size
 have hb3 : Below w2.heap.size w2 w3 := hb.trans (grown_own ho hg3 hb.size)
 obtain ⟨v2, w4, hrun2, ho4, hg4⟩ := run_append_rows ho3 lb Ab cb (hbb.after hb3) (by omega) hb3.size
 have hb4 : Below w2.heap.size w2 w4 := hb3.trans (grown_own ho3 hg4 hb3.size)
 refine ⟨v1, w3, v2, w4, hrun1, hrun2, ?_⟩
 have e2 : vals out ++ vals la ++ vals lb = vals M := by rw [← e1]; simp [vals]
 have e3 : out.length + la.length + lb.length = M.length := by rw [← e1]; simp; omega
 rw [e2, e3] at ho4
 obtain ⟨A, c', hv, hc', hR⟩ := own_rows ho4 (fun r hr => (hrw r (hp.mem_iff.1 hr)).later hb4)
 exact ⟨A, c', M, by rw [hv, hp.length_eq], by rw [← hp.length_eq]; exact hc', hR, hp, hsm, bthen hBw hb4⟩
theorem rsort_long (n : Nat) (h2 : 2 ≤ n) (ih : ∀ k, k < n → RSortOk k) : RSortOk n := by
 intro rs A c w hn hr hs hc hm
 obtain ⟨b, off, rfl, -, -⟩ := hr.1 (by omega)
 have H1 : Hid (∀ w', Below w.heap.size w w' → Calls Tryz.prog 39 #[.slice (some ⟨b, off, none⟩) (n / 2) c] w' (RSorted (rs.take (n / 2)) w')) := by
  intro w' hb
  have hl : (rs.take (n / 2)).length = n / 2 := by rw [List.length_take]; omega
  have := ih (n / 2) (by omega) (rs.take (n / 2)) (some ⟨b, off, none⟩) c w' hl (RowsAt.take (hr.after hb) _) (fun r hr' => hs r (List.mem_of_mem_take hr')) (by omega) (by omega)
  rwa [hl] at this
 have H2 : Hid (∀ w', Below w.heap.size w w' → Calls Tryz.prog 39 #[.slice (some ⟨b, off + n / 2, none⟩) (n - n / 2) (c - n / 2)] w' (RSorted (rs.drop (n / 2)) w')) := by
  intro w' hb
  have hl : (rs.drop (n / 2)).length = n - n / 2 := by rw [List.length_drop]; omega
  have := ih (n - n / 2) (by omega) (rs.drop (n / 2)) (some ⟨b, off + n / 2, none⟩) (c - n / 2) w' hl (RowsAt.drop (hr.after hb) _) (fun r hr' => hs r (List.mem_of_mem_drop hr')) (by omega) (by omega)
  rwa [hl] at this
 have HR := Lib.hid hr
 have HS := Lib.hid hs
 have HN := Lib.hid hn
 rw [hn] at hc ⊢
 clear hr hs hn ih
 have hlt : ¬ ((n : Int) < 2) := by omega
 have hq : (n : Int).tdiv 2 = ((n / 2 : Nat) : Int) := rfl
 have hk : n / 2 ≤ n := by omega
 have HK : Hid (n / 2 + n / 2 ≤ n ∧ n ≤ n / 2 + n / 2 + 1) := by show _ ∧ _; omega
 generalize n / 2 = k at *
 go_enter Tryz.func39, Tryz.ntmps39
 go_wp2_with fail
 have HL1 : Hid ((rs.take k).length = k) := by show _ = _; rw [List.length_take, HN.out]; omega
 have HL2 : Hid ((rs.drop k).length = n - k) := by show _ = _; rw [List.length_drop, HN.out]
 have hkc : k < c := by have := HK.out; omega
 have hkc1 : ¬ (c = k) := by omega
 have hkc2 : ¬ (k = c) := by omega
 refine (H1.out w (Below.refl _ w)).mono ?_
 rintro e w1 ⟨A1, c1, l1, rfl, hc1, ha1, hp1, hs1, hb1⟩
 rw [HL1.out] at hc1 ⊢
 have HB1 := Lib.hid hb1
 have HA1 := Lib.hid ha1
 have HP1 := Lib.hid hp1
 have HS1 := Lib.hid hs1
 clear hb1 ha1 hp1 hs1
 go_wp2_with fail
 refine (H2.out w1 HB1.out).mono ?_
 rintro e w2 ⟨A2, c2, l2, rfl, hc2, ha2, hp2, hs2, hb2⟩
 rw [HL2.out] at hc2 ⊢
 have HBw : Hid (Below w.heap.size w w2) := bthen HB1.out hb2
 have HA : Hid (RowsAt w2 w2.heap.size A1 l1) := HA1.out.after hb2
 have HB : Hid (RowsAt w2 w2.heap.size A2 l2) := ha2
 have HPM : Hid ((List.merge l1 l2 rle).Perm rs) := (mrg_perm l1 l2).trans ((HP1.out.append hp2).trans (by rw [List.take_append_drop]))
 have HSM : Hid ((List.merge l1 l2 rle).Pairwise leR) := mrg_sorted HS1.out hs2
 have HRW : Hid (∀ r ∈ rs, RowAt w2 w2.heap.size r.A r.xs) := fun r hr => (HR.out.2 r hr).later HBw.out
 have HN1 : Hid (l1.length = k) := by show _ = _; rw [HP1.out.length_eq, HL1.out]
 have HN2 : Hid (l2.length = n - k) := by show _ = _; rw [hp2.length_eq, HL2.out]
 have HM0 : Hid (([] : List R) ++ List.merge l1 l2 rle = List.merge l1 l2 rle) := rfl
 generalize hM : List.merge l1 l2 rle = M at HPM HSM
 rw [hM] at HM0
 have HM0 : Hid (([] : List R) ++ List.merge l1 l2 rle = M) := hM
 clear hM ha2 hp2 hs2 hb2 H1 H2 HA1 HP1 HS1 HB1 HL1 HL2 hq
 go_wp2_with fail
 go_loopg [3, 4, 5] n (fun g s3 s4 s5 wr => ∃ (Aa : Option Addr) (ca na : Nat) (la : List R) (Ab : Option Addr) (cb nb : Nat) (lb : List R) (no : Nat) (out : List R), s3 = .slice Aa na ca ∧ na ≤ ca ∧ s4 = .slice Ab nb cb ∧ nb ≤ cb ∧ na + nb = g ∧ no + g = n ∧ Hid (na = la.length) ∧ Hid (nb = lb.length) ∧ Hid (no = out.length) ∧ Hid (RowsAt w2 w2.heap.size Aa la) ∧ Hid (RowsAt w2 w2.heap.size Ab lb) ∧ Hid (wr.ownsRow w2.heap.size 41 1 s5 no (vals out)) ∧ Hid (out ++ List.merge la lb rle = M) ∧ Below w2.heap.size w2 wr)
 case atStart =>
  exact ⟨A1, c1, k, l1, A2, c2, n - k, l2, 0, [], rfl, hc1, rfl, hc2, by omega, by omega, HN1.out.symm, HN2.out.symm, rfl, HA, HB, World.ownsRow_nil _ _ _ _, HM0, Below.refl _ _⟩
 case round =>
  obtain ⟨Aa, ca, na, la, Ab, cb, nb, lb, no, out, rfl, hca, rfl, hcb, hg, hog, HNa, HNb, HNo, HAa, HAb, HO, HM, hb⟩ := hrel
  by_cases h0a : na = 0
  ·subst h0a
   obtain ⟨v1, w3, v2, w4, hrun1, hrun2, hP⟩ := rsort_end rs la lb out M w w2 wr _ Aa Ab ca cb _ _ _ HNa.out HNb.out HNo.out HBw.out hb HAa.out HAb.out HO.out (by rw [← HM.out]; congr 1; rw [List.eq_nil_of_length_eq_zero HNa.out.symm]; simp) HPM.out HSM.out HRW.out (by rw [HN.out]; exact hm)
   have HP := Lib.hid hP
   clear hP HO HM HAa HAb
   go_wp2_with (first | (at_builtin; refine Lib.wpList_append_run_sl _ rfl _ _ 22 rfl _ _ rfl rfl hrun1 ?_) | (at_builtin; refine Lib.wpList_append_run_sl _ rfl _ _ 22 rfl _ _ rfl rfl hrun2 ?_))
   go_wp2_with fail
   go_ret
   exact HP.out
  ·by_cases h0b : nb = 0
   ·subst h0b
    obtain ⟨v1, w3, v2, w4, hrun1, hrun2, hP⟩ := rsort_end rs la lb out M w w2 wr _ Aa Ab ca cb _ _ _ HNa.out HNb.out HNo.out HBw.out hb HAa.out HAb.out HO.out (by rw [← HM.out]; congr 1; rw [List.eq_nil_of_length_eq_zero HNb.out.symm]; simp) HPM.out HSM.out HRW.out (by rw [HN.out]; exact hm)
    have HP := Lib.hid hP
    clear hP HO HM HAa HAb
    go_wp2_with (first | (at_builtin; refine Lib.wpList_append_run_sl _ rfl _ _ 22 rfl _ _ rfl rfl hrun1 ?_) | (at_builtin; refine Lib.wpList_append_run_sl _ rfl _ _ 22 rfl _ _ rfl rfl hrun2 ?_))
    go_wp2_with fail
    go_ret
    exact HP.out
   ·have h1a : 0 < na := by omega
    have h1b : 0 < nb := by omega
    obtain ⟨i0, hi, hz0, hz1, hz2⟩ := info_parts info28
    obtain ⟨ra, la, rfl⟩ : ∃ r l, la = r :: l := List.exists_cons_of_length_pos (by rw [← HNa.out]; omega)
    obtain ⟨rb, lb, rfl⟩ : ∃ r l, lb = r :: l := List.exists_cons_of_length_pos (by rw [← HNb.out]; omega)
    obtain ⟨ga, oa, hA, hal, hca'⟩ := HAa.out.1 (by simp)
    obtain ⟨gb, ob, hB, hbl, hcb'⟩ := HAb.out.1 (by simp)
    subst hA hB
    have c0a : w2.cell? ⟨ga, oa, none⟩ = some (.slice ra.A ra.xs.length ra.c) := hca' 0 (by simp)
    have c0b : w2.cell? ⟨gb, ob, none⟩ = some (.slice rb.A rb.xs.length rb.c) := hcb' 0 (by simp)
    clear hca' hcb'
    have d1 := (hb.cell (p := ⟨ga, oa, none⟩) hal).trans c0a
    have d2 := (hb.cell (p := ⟨gb, ob, none⟩) hbl).trans c0b
    have HTa : Hid (RowsAt w2 w2.heap.size (some ⟨ga, oa + 1, none⟩) la) := Lib.hid (by simpa using HAa.out.drop 1)
    have HTb : Hid (RowsAt w2 w2.heap.size (some ⟨gb, ob + 1, none⟩) lb) := Lib.hid (by simpa using HAb.out.drop 1)
    have hmb : rb ∈ rs := HPM.out.mem_iff.1 (by rw [← HM.out]; exact List.mem_append_right _ (List.mem_merge_right _ (by simp)))
    have hcall := rcmpR_any rb.xs ra.xs rb.A ra.A rb.c ra.c wr.drew ((HAb.out.2 rb (by simp)).later hb.drew) ((HAa.out.2 ra (by simp)).later hb.drew) (by have := HS.out rb hmb; omega)
    have HX := Lib.hid hcall
    clear hcall hmb
    by_cases hr : cmpR rb.xs ra.xs < 0
    ·have HMb : Hid ((out ++ [rb]) ++ List.merge (ra :: la) lb rle = M) := by
      have := HM.out
      rw [mrg_right hr] at this
      rw [List.append_assoc]
      exact this
     generalize cmpR rb.xs ra.xs = r at *
     by_cases hone : cb = 1
     ·obtain rfl : nb = 1 := by omega
      subst hone
      have HT0 : Hid (lb = []) := List.eq_nil_of_length_eq_zero (by have := HNb.out; rw [List.length_cons] at this; omega)
      go_wp2_with fail
      go_still_tail 6, (by kernel_rfl)
      change wpList _ _ _ _ _ wr.drew
      go_wp2_with fail
      refine HX.out.mono ?_
      rintro e w3 ⟨rfl, hb3⟩
      have hb3' : Below w2.heap.size w2 w3 := hb.drew.trans (hb3.mono hb.size)
      have HO3 := Lib.hid (own_later HO.out.drew hb3)
      have HB3 := Lib.hid hb3'
      have e1 := (hb3'.cell (p := ⟨gb, ob, none⟩) hbl).trans c0b
      have hz3 := hb3'.size
      clear hb3 d1 d2 HO
      go_wp2_with (at_builtin; refine wpList_append_own _ rfl _ _ 22 rfl w2.heap.size 41 i0 (.slice none 0 0) 1 24 Tryz.underlying22 hi hz0 hz1 hz2 rfl (by decide) _ _ _ rfl (HO3.out.alloc _) ⟨w3.heap.size, 0, none⟩ 1 1 [.slice rb.A rb.xs.length rb.c] rfl rfl (World.news_of_block (heap_alloc_new w3 _)) (by intro u hu; simp at hu; subst hu; rfl) (by unfold maxLen; omega) (by omega) (by simp; omega) ?_)
      intro v5 w4 hown' hgrow _
      obtain ⟨ho4, hb4⟩ := rows_step (r := rb) HB3.out HB3.out.size HO3.out hown' hgrow
      have HO4 := Lib.hid ho4
      clear ho4 hown' hgrow HO3
      go_wp2_with fail
      go_roundg (gk - 1)
      case measure => omega
      case rel => exact ⟨some ⟨ga, oa, none⟩, ca, na, ra :: la, some ⟨gb, ob, none⟩, 0, 0, [], no + 1, out ++ [rb], rfl, hca, rfl, Nat.le_refl _, by omega, by omega, HNa, rfl, by show _ = _; rw [List.length_append, ← HNo.out]; rfl, HAa, ⟨fun h => by simp at h, fun r hr => by simp at hr⟩, HO4, by have h := HMb.out; rw [HT0.out] at h; exact h, hb4⟩
     ·have hone1 : ¬ (1 = cb) := by omega
      have hone2 : 1 < cb := by omega
      go_wp2_with fail
      go_still_tail 6, (by kernel_rfl)
      change wpList _ _ _ _ _ wr.drew
      go_wp2_with fail
      refine HX.out.mono ?_
      rintro e w3 ⟨rfl, hb3⟩
      have hb3' : Below w2.heap.size w2 w3 := hb.drew.trans (hb3.mono hb.size)
      have HO3 := Lib.hid (own_later HO.out.drew hb3)
      have HB3 := Lib.hid hb3'
      have e1 := (hb3'.cell (p := ⟨gb, ob, none⟩) hbl).trans c0b
      have hz3 := hb3'.size
      clear hb3 d1 d2 HO
      go_wp2_with (at_builtin; refine wpList_append_own _ rfl _ _ 22 rfl w2.heap.size 41 i0 (.slice none 0 0) 1 24 Tryz.underlying22 hi hz0 hz1 hz2 rfl (by decide) _ _ _ rfl (HO3.out.alloc _) ⟨w3.heap.size, 0, none⟩ 1 1 [.slice rb.A rb.xs.length rb.c] rfl rfl (World.news_of_block (heap_alloc_new w3 _)) (by intro u hu; simp at hu; subst hu; rfl) (by unfold maxLen; omega) (by omega) (by simp; omega) ?_)
      intro v5 w4 hown' hgrow _
      obtain ⟨ho4, hb4⟩ := rows_step (r := rb) HB3.out HB3.out.size HO3.out hown' hgrow
      have HO4 := Lib.hid ho4
      clear ho4 hown' hgrow HO3
      go_wp2_with fail
      go_roundg (gk - 1)
      case measure => omega
      case rel => exact ⟨some ⟨ga, oa, none⟩, ca, na, ra :: la, some ⟨gb, ob + 1, none⟩, cb - 1, nb - 1, lb, no + 1, out ++ [rb], rfl, hca, rfl, by omega, by omega, by omega, HNa, by show _ = _; have := HNb.out; rw [List.length_cons] at this; omega, by show _ = _; rw [List.length_append, ← HNo.out]; rfl, HAa, HTb, HO4, HMb, hb4⟩
    ·have HMa : Hid ((out ++ [ra]) ++ List.merge la (rb :: lb) rle = M) := by
      have := HM.out
      rw [mrg_left hr] at this
      rw [List.append_assoc]
      exact this
     generalize cmpR rb.xs ra.xs = r at *
     by_cases hone : ca = 1
     ·obtain rfl : na = 1 := by omega
      subst hone
      have HT0 : Hid (la = []) := List.eq_nil_of_length_eq_zero (by have := HNa.out; rw [List.length_cons] at this; omega)
      go_wp2_with fail
      go_still_tail 6, (by kernel_rfl)
      change wpList _ _ _ _ _ wr.drew
      go_wp2_with fail
      refine HX.out.mono ?_
      rintro e w3 ⟨rfl, hb3⟩
      have hb3' : Below w2.heap.size w2 w3 := hb.drew.trans (hb3.mono hb.size)
      have HO3 := Lib.hid (own_later HO.out.drew hb3)
      have HB3 := Lib.hid hb3'
      have e1 := (hb3'.cell (p := ⟨ga, oa, none⟩) hal).trans c0a
      have hz3 := hb3'.size
      clear hb3 d1 d2 HO
      go_wp2_with (at_builtin; refine wpList_append_own _ rfl _ _ 22 rfl w2.heap.size 41 i0 (.slice none 0 0) 1 24 Tryz.underlying22 hi hz0 hz1 hz2 rfl (by decide) _ _ _ rfl (HO3.out.alloc _) ⟨w3.heap.size, 0, none⟩ 1 1 [.slice ra.A ra.xs.length ra.c] rfl rfl (World.news_of_block (heap_alloc_new w3 _)) (by intro u hu; simp at hu; subst hu; rfl) (by unfold maxLen; omega) (by omega) (by simp; omega) ?_)
      intro v5 w4 hown' hgrow _
      obtain ⟨ho4, hb4⟩ := rows_step (r := ra) HB3.out HB3.out.size HO3.out hown' hgrow
      have HO4 := Lib.hid ho4
      clear ho4 hown' hgrow HO3
      go_wp2_with fail
      go_roundg (gk - 1)
      case measure => omega
      case rel => exact ⟨some ⟨ga, oa, none⟩, 0, 0, [], some ⟨gb, ob, none⟩, cb, nb, rb :: lb, no + 1, out ++ [ra], rfl, Nat.le_refl _, rfl, hcb, by omega, by omega, rfl, HNb, by show _ = _; rw [List.length_append, ← HNo.out]; rfl, ⟨fun h => by simp at h, fun r hr => by simp at hr⟩, HAb, HO4, by have h := HMa.out; rw [HT0.out] at h; exact h, hb4⟩
     ·have hone1 : ¬ (1 = ca) := by omega
      have hone2 : 1 < ca := by omega
      go_wp2_with fail
      go_still_tail 6, (by kernel_rfl)
      change wpList _ _ _ _ _ wr.drew
      go_wp2_with fail
      refine HX.out.mono ?_
      rintro e w3 ⟨rfl, hb3⟩
      have hb3' : Below w2.heap.size w2 w3 := hb.drew.trans (hb3.mono hb.size)
      have HO3 := Lib.hid (own_later HO.out.drew hb3)
      have HB3 := Lib.hid hb3'
      have e1 := (hb3'.cell (p := ⟨ga, oa, none⟩) hal).trans c0a
      have hz3 := hb3'.size
      clear hb3 d1 d2 HO
      go_wp2_with (at_builtin; refine wpList_append_own _ rfl _ _ 22 rfl w2.heap.size 41 i0 (.slice none 0 0) 1 24 Tryz.underlying22 hi hz0 hz1 hz2 rfl (by decide) _ _ _ rfl (HO3.out.alloc _) ⟨w3.heap.size, 0, none⟩ 1 1 [.slice ra.A ra.xs.length ra.c] rfl rfl (World.news_of_block (heap_alloc_new w3 _)) (by intro u hu; simp at hu; subst hu; rfl) (by unfold maxLen; omega) (by omega) (by simp; omega) ?_)
      intro v5 w4 hown' hgrow _
      obtain ⟨ho4, hb4⟩ := rows_step (r := ra) HB3.out HB3.out.size HO3.out hown' hgrow
      have HO4 := Lib.hid ho4
      clear ho4 hown' hgrow HO3
      go_wp2_with fail
      go_roundg (gk - 1)
      case measure => omega
      case rel => exact ⟨some ⟨ga, oa + 1, none⟩, ca - 1, na - 1, la, some ⟨gb, ob, none⟩, cb, nb, rb :: lb, no + 1, out ++ [ra], rfl, by omega, rfl, hcb, by omega, by omega, by show _ = _; have := HNa.out; rw [List.length_cons] at this; omega, HNb, by show _ = _; rw [List.length_append, ← HNo.out]; rfl, HTa, HAb, HO4, HMa, hb4⟩
theorem rsort_any (n : Nat) : RSortOk n := by
 induction n using Nat.strongRecOn with
 | _ n ih =>
  by_cases h : n < 2
  ·exact rsort_short n h
  ·exact rsort_long n (by omega) ih
end Go.Proofs.YtkigddankkoahaaGreatDoor.BV
namespace Go.Proofs.YtkigddankkoahaaGreatDoor
open Go.RowKit
noncomputable def bagB (l m : List (List BV.V)) : Bool := @decide (l.Perm m) (Classical.propDecidable _)
theorem bagB_iff {l m : List (List BV.V)} : bagB l m = true ↔ l.Perm m := by unfold bagB; simp
theorem same_iff {l m : List (List BV.V)} : BV.same l m = true ↔ l = m := by unfold BV.same; simp
theorem bag_keys {ls ms l1 l2 : List BV.R} (h1 : l1.Perm ls) (s1 : l1.Pairwise BV.leR) (h2 : l2.Perm ms) (s2 : l2.Pairwise BV.leR) : BV.same (BV.keys l1) (BV.keys l2) = bagB (BV.keys ls) (BV.keys ms) := by
 rw [Bool.eq_iff_iff, same_iff, bagB_iff]
 have p1 : (BV.keys l1).Perm (BV.keys ls) := h1.map _
 have p2 : (BV.keys l2).Perm (BV.keys ms) := h2.map _
 constructor
 ·intro h
  rw [h] at p1
  exact p1.symm.trans p2
 ·intro h
  refine List.Perm.eq_of_pairwise (le := fun a b => BV.cmpR a b ≤ 0) ?_ (List.pairwise_map.2 s1) (List.pairwise_map.2 s2) (p1.trans (h.trans p2.symm))
  intro a b _ _ h3 h4
  have f := BV.cmpR_ok.flip a b
  exact (BV.cmpR_ok.zero a b).1 (by omega)
theorem bag_any (ls ms : List BV.R) (A A' : Option Addr) (c c' : Nat) (w : World) (ha : BV.RowsAt w w.heap.size A ls) (hb : BV.RowsAt w w.heap.size A' ms) (hs : ∀ r ∈ ls, r.xs.length ≤ 140737488355328) (hs' : ∀ r ∈ ms, r.xs.length ≤ 140737488355328) (hc : ls.length ≤ c) (hc' : ms.length ≤ c') (hm : ls.length ≤ 1000000) (hm' : ms.length ≤ 1000000) :
  Calls Tryz.prog 14 #[.slice A ls.length c, .slice A' ms.length c'] w fun e w' => e = .returned (.bool (bagB (BV.keys ls) (BV.keys ms))) ∧ Below w.heap.size w w' := by
 have H1 := Lib.hid (BV.rsort_any _ ls A c w rfl ha hs hc hm)
 have H2 := Lib.hid (fun w' (h : Below w.heap.size w w') => BV.rsort_any _ ms A' c' w' rfl (hb.after h) hs' hc' hm')
 have HS := Lib.hid hs
 clear ha hb hs'
 obtain ⟨n, hn⟩ : ∃ n, n = ls.length := ⟨_, rfl⟩
 obtain ⟨m, hn'⟩ : ∃ m, m = ms.length := ⟨_, rfl⟩
 rw [← hn] at H1 hm ⊢
 rw [← hn'] at H2 ⊢
 have HN := Lib.hid hn
 have HM := Lib.hid hn'
 clear hn hn' hc hc' hm' hs
 go_enter Tryz.func14, Tryz.ntmps14
 go_wp2_with fail
 refine H1.out.mono ?_
 rintro e w1 ⟨A1, c1, l1, rfl, -, ha1, hp1, hs1, hb1⟩
 rw [← HN.out]
 have HA1 := Lib.hid ha1
 have HP1 := Lib.hid hp1
 have HS1 := Lib.hid hs1
 have HB1 := Lib.hid hb1
 clear ha1 hp1 hs1 hb1
 go_wp2_with fail
 refine (H2.out w1 HB1.out).mono ?_
 rintro e w2 ⟨A2, c2, l2, rfl, -, ha2, hp2, hs2, hb2⟩
 rw [← HM.out]
 have hcall := BV.sameRows_any l1 l2 A1 A2 c1 c2 w2 (HA1.out.after hb2) ha2 (fun r hr => HS.out r (HP1.out.mem_iff.1 hr)) (by rw [HP1.out.length_eq, ← HN.out]; omega)
 rw [HP1.out.length_eq, ← HN.out, hp2.length_eq, ← HM.out, bag_keys HP1.out HS1.out hp2 hs2] at hcall
 have HX := Lib.hid hcall
 have HB2 := Lib.hid (BV.bthen HB1.out hb2)
 clear ha2 hp2 hs2 hb2 hcall HA1 HP1 HS1 HB1
 go_wp2_with fail
 refine HX.out.mono ?_
 rintro e w3 ⟨rfl, hb3⟩
 have HB3 := Lib.hid (BV.bthen HB2.out hb3)
 clear hb3
 go_wp2_with fail
 go_ret
 exact ⟨rfl, HB3.out⟩
def LA (w : World) (A : Option Addr) (n c : Nat) (l : List (List BV.V)) : Prop := ∃ rs : List BV.R, rs.length = n ∧ rs.map BV.R.xs = l ∧ n ≤ c ∧ BV.RowsAt w w.heap.size A rs ∧ ∀ r ∈ rs, r.xs.length ≤ r.c
theorem rowsL {w w' : World} {A : Option Addr} {rs : List BV.R} (h : BV.RowsAt w w.heap.size A rs) (hb : Below w.heap.size w w') : BV.RowsAt w' w'.heap.size A rs := by
 have h1 := h.below hb
 exact ⟨fun h0 => by
  obtain ⟨b, off, a, c, d⟩ := h1.1 h0
  exact ⟨b, off, a, Nat.lt_of_lt_of_le c hb.size, d⟩, fun r hr => (h1.2 r hr).mono hb.size⟩
theorem LA.later {w w' : World} {A : Option Addr} {n c : Nat} {l : List (List BV.V)} (h : LA w A n c l) (hb : Below w.heap.size w w') : LA w' A n c l := by
 obtain ⟨rs, h1, h2, h3, h4, h5⟩ := h
 exact ⟨rs, h1, h2, h3, rowsL h4 hb, h5⟩
theorem la_own {w : World} {B : Nat} {v : Value} {l : List (List BV.V)} (h : OwnR w B v l) : ∃ A c, v = .slice A l.length c ∧ LA w A l.length c l := by
 obtain ⟨rs, A, c, hv, hl, hc, hr, hr2⟩ := h.rowsC
 have e : l.length = rs.length := by rw [← hl, List.length_map]
 exact ⟨A, c, by rw [e]; exact hv, rs, e.symm, hl, by omega, hr, hr2⟩
def Told (w : World) (er : Int) (l : List (List BV.V)) (q : Ending) (w' : World) : Prop := ∃ A c, q = .returned (.tuple #[.slice A l.length c, .int .i64 er]) ∧ Hid (LA w' A l.length c l) ∧ Hid (Below w.heap.size w w')
theorem told_of {w : World} {er : Int} {l : List (List BV.V)} {q : Ending} {w' : World} (h : Rows2 w er l q w') : Told w er l q w' := by
 obtain ⟨v, rfl, ho, hb⟩ := h
 obtain ⟨A, c, rfl, hl⟩ := la_own ho.out
 exact ⟨A, c, rfl, Lib.hid hl, hb⟩
theorem asks_of {S : Nat → Prop} {e : E} {xv : Value} {w : World} (hx : EAt S w e xv) (hE : SC.Env w) {a b : List (List BV.V)} (hw : ∀ x ∈ a, ∀ y ∈ b, (x ++ y).length ≤ 100000) (hf : ∀ x ∈ a, ∀ y ∈ b, e.fit deedP (x ++ y)) : Asks w xv (truP e) a b := fun x h1 y h2 W A c hb hr => truth_e (x ++ y) (hw x h1 y h2) e xv S W A c (hx.later hb) hr (hE.later hb) (hf x h1 y h2)
theorem mem_xs {rs : List BV.R} {l : List (List BV.V)} (h : rs.map BV.R.xs = l) {p : List BV.V → Prop} (hp : ∀ x ∈ l, p x) : ∀ r ∈ rs, p r.xs := fun r hr => hp _ (by rw [← h]; exact List.mem_map.2 ⟨r, hr, rfl⟩)
theorem join_la (kind : ByteArray) (lf rt : Bool) (hsides : ∀ W, Calls Tryz.prog 30 #[.string kind] W fun e w' => e = .returned (.tuple #[.bool lf, .bool rt, .bool true]) ∧ Below W.heap.size W w') (hcr : (kind.toList == [99, 114, 111, 115, 115]) = false)
  {a b : List (List BV.V)} {A B : Option Addr} {n ca m cb wa wb : Nat} {S : Nat → Prop} {e : E} {x : Value} {w : World} (ha : LA w A n ca a) (hb : LA w B m cb b) (hx : EAt S w e x) (hE : SC.Env w) (hla : n ≤ 500) (hlb : m ≤ 500) (hwa : ∀ r ∈ a, r.length ≤ 60) (hwb : ∀ r ∈ b, r.length ≤ 60) (hna : wa ≤ 60) (hnb : wb ≤ 60) (hf : ∀ x ∈ a, ∀ y ∈ b, e.fit deedP (x ++ y)) :
  Calls Tryz.prog 9 #[.string kind, .slice A n ca, .slice B m cb, .int .i64 wa, .int .i64 wb, x] w (Told w (errsP (truP e) (pairsP a b)) (JRes (truP e) lf rt a b wa wb)) := by
 have hk := asks_of hx hE (fun x h1 y h2 => by have := hwa x h1; have := hwb y h2; rw [List.length_append]; omega) hf
 obtain ⟨A1, c1, rfl, hs⟩ := hx
 obtain ⟨ra, rfl, rfl, -, h1, -⟩ := ha
 obtain ⟨rb, rfl, rfl, -, h2, -⟩ := hb
 unfold eVal at hk ⊢
 exact (join_kind kind lf rt ra rb A B ca cb wa wb _ _ _ _ _ _ _ (truP e) w hsides hcr h1 h2 hla hlb (mem_xs rfl hwa) (mem_xs rfl hwb) hna hnb hk).mono fun _ _ h => told_of h
theorem same_la {a b : List (List BV.V)} {A B : Option Addr} {n ca m cb : Nat} {w : World} (ha : LA w A n ca a) (hb : LA w B m cb b) (he : a = b) (hla : n ≤ 1000000) (hwa : ∀ r ∈ a, r.length ≤ 100000) :
  Calls Tryz.prog 11 #[.slice A n ca, .slice B m cb] w fun q w' => q = .returned (.bool true) ∧ Below w.heap.size w w' := by
 obtain ⟨ra, rfl, rfl, -, h1, -⟩ := ha
 obtain ⟨rb, rfl, h3, -, h2, -⟩ := hb
 have h := BV.sameRows_any ra rb A B ca cb w h1 h2 (fun r hr => by have := mem_xs rfl hwa r hr; omega) (by omega)
 rw [BV.same_yes (show BV.keys ra = BV.keys rb from he.trans h3.symm)] at h
 exact h
theorem bag_la {a b : List (List BV.V)} {A B : Option Addr} {n ca m cb : Nat} {w : World} (ha : LA w A n ca a) (hb : LA w B m cb b) (he : a.Perm b) (hla : n ≤ 1000000) (hlb : m ≤ 1000000) (hwa : ∀ r ∈ a, r.length ≤ 100000) (hwb : ∀ r ∈ b, r.length ≤ 100000) :
  Calls Tryz.prog 14 #[.slice A n ca, .slice B m cb] w fun q w' => q = .returned (.bool true) ∧ Below w.heap.size w w' := by
 obtain ⟨ra, rfl, rfl, hc, h1, -⟩ := ha
 obtain ⟨rb, rfl, h3, hc', h2, -⟩ := hb
 subst h3
 have h := bag_any ra rb A B ca cb w h1 h2 (fun r hr => by have := mem_xs rfl hwa r hr; omega) (fun r hr => by have := mem_xs rfl hwb r hr; omega) hc hc' hla hlb
 rw [show bagB (BV.keys ra) (BV.keys rb) = true from bagB_iff.2 he] at h
 exact h
theorem sidesLeft (W : World) : Calls Tryz.prog 30 #[.string ⟨#[108, 101, 102, 116]⟩] W fun e w' => e = .returned (.tuple #[.bool true, .bool false, .bool true]) ∧ Below W.heap.size W w' :=
 sides_any ⟨#[108, 101, 102, 116]⟩ false false true false false (by simp only [Lib.toList_data]; rfl) (by simp only [Lib.toList_data]; rfl) (by simp only [Lib.toList_data]; rfl) (by simp only [Lib.toList_data]; rfl) (by simp only [Lib.toList_data]; rfl) W
theorem crossLeft : (((⟨#[108, 101, 102, 116]⟩ : ByteArray)).toList == [99, 114, 111, 115, 115]) = false := by simp only [Lib.toList_data]; rfl
theorem LA.take {w : World} {A : Option Addr} {n c : Nat} {l : List (List BV.V)} (h : LA w A n c l) (k : Nat) (hk : k ≤ n) : LA w A k c (l.take k) := by
 obtain ⟨rs, h1, h2, h3, h4, h5⟩ := h
 refine ⟨rs.take k, by rw [List.length_take]; omega, by rw [List.map_take, h2], by omega, ⟨fun h0 => ?_, fun r hr => h4.2 r (List.mem_of_mem_take hr)⟩, fun r hr => h5 r (List.mem_of_mem_take hr)⟩
 rw [List.length_take] at h0
 obtain ⟨b, off, a, d, e⟩ := h4.1 (by omega)
 refine ⟨b, off, a, d, fun j hj => ?_⟩
 rw [List.length_take] at hj
 rw [List.getElem_take]
 exact e j (by omega)
theorem LA.drop {w : World} {p : Addr} {n c : Nat} {l : List (List BV.V)} (h : LA w (some p) n c l) (k : Nat) (hk : k ≤ n) : LA w (some (p.add k)) (n - k) (c - k) (l.drop k) := by
 obtain ⟨rs, h1, h2, h3, h4, h5⟩ := h
 refine ⟨rs.drop k, by rw [List.length_drop]; omega, by rw [List.map_drop, h2], by omega, ⟨fun h0 => ?_, fun r hr => h4.2 r (List.mem_of_mem_drop hr)⟩, fun r hr => h5 r (List.mem_of_mem_drop hr)⟩
 rw [List.length_drop] at h0
 obtain ⟨b, off, a, d, e⟩ := h4.1 (by omega)
 injection a with a
 subst a
 refine ⟨b, off + k, by simp [Addr.add], d, fun j hj => ?_⟩
 rw [List.length_drop] at hj
 rw [List.getElem_drop]
 have := e (k + j) (by omega)
 rw [show off + k + j = off + (k + j) by omega]
 exact this
theorem LA.nil (w : World) (A : Option Addr) (c : Nat) : LA w A 0 c [] := ⟨[], rfl, rfl, Nat.zero_le _, ⟨fun h => by simp at h, by simp⟩, by simp⟩
def VFit (v : BV.V) : Prop := (-9223372036854775808 ≤ v.i ∧ v.i ≤ 9223372036854775807) ∧ v.s.size ≤ 100000
theorem zW_ok : VFit zW := ⟨by decide, by decide⟩
theorem rowsN_mem {rs : List BV.R} {r : BV.R} (h : r ∈ rs) : 1 + BV.rowN r.xs ≤ BV.rowsN rs := by
 induction rs with
 | nil => simp at h
 | cons a l ih =>
  have e : BV.rowsN (a :: l) = (1 + BV.rowN a.xs) + BV.rowsN l := by simp [BV.rowsN]
  rw [e]
  rcases List.mem_cons.1 h with h | h
  ·subst h; omega
  ·have := ih h; omega
theorem rowN_mem {xs : List BV.V} {v : BV.V} (h : v ∈ xs) : 1 + v.s.size ≤ BV.rowN xs := by
 induction xs with
 | nil => simp at h
 | cons a l ih =>
  have e : BV.rowN (a :: l) = (1 + a.s.size) + BV.rowN l := by simp [BV.rowN]
  rw [e]
  rcases List.mem_cons.1 h with h | h
  ·subst h; omega
  ·have := ih h; omega
structure Ev (l : List (List BV.V)) (w : Nat) : Prop where
 many : l.length ≤ 30
 wide : ∀ r ∈ l, r.length = w
 ok : ∀ r ∈ l, ∀ v ∈ r, VFit v
theorem ev_of {rs : List BV.R} (h : evOk rs = true) (hi : ∀ r ∈ rs, ∀ v ∈ r.xs, -9223372036854775808 ≤ v.i ∧ v.i ≤ 9223372036854775807) (w : Nat) : Ev ((rs.map BV.R.xs).map (evR w)) w := by
 unfold evOk at h
 simp only [Bool.and_eq_true, decide_eq_true_eq] at h
 obtain ⟨⟨h1, h2⟩, -⟩ := h
 unfold BV.few at h2
 simp only [decide_eq_true_eq] at h2
 refine ⟨by simpa using h1, fun r hr => ?_, fun r hr v hv => ?_⟩
 ·obtain ⟨x, -, rfl⟩ := List.mem_map.1 hr
  exact evR_len w x
 ·obtain ⟨x, hx, rfl⟩ := List.mem_map.1 hr
  obtain ⟨q, hq, rfl⟩ := List.mem_map.1 hx
  unfold evR at hv
  rcases List.mem_append.1 hv with hv | hv
  ·have hv := List.mem_of_mem_take hv
   have a := rowsN_mem hq
   have b := rowN_mem hv
   exact ⟨hi q hq v hv, by omega⟩
  ·rw [List.eq_of_mem_replicate hv]; exact zW_ok
end Go.Proofs.YtkigddankkoahaaGreatDoor
