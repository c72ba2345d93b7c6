/- Contract of the reference's Same: whether two lists of tokens are. Condition: no list longer than a million. -/
import Derived.Test.YtjnecobamobieaaDoorTokRow
import Derived.BigRegion
namespace Go.Proofs.YtjnecobamobieaaDoor
open Go.RowKit
theorem T.ext4 {a b : T} (h1 : a.k = b.k) (h2 : a.s = b.s) (h3 : a.i = b.i) (h4 : a.p = b.p) : a = b := by
  cases a; cases b; simp_all
def sameT (ts us : List T) : Bool := decide (ts = us)
theorem same_no {ts us : List T} {k : Nat} (h : k < ts.length) (h' : k < us.length) (hne : ts[k] ≠ us[k]) : sameT ts us = false := decide_eq_false fun e => hne (by subst e; rfl)
theorem same_yes {ts us : List T} (hl : ts.length = us.length) (h : ∀ j (h : j < ts.length) (h' : j < us.length), ts[j] = us[j]) : sameT ts us = true := decide_eq_true (List.ext_getElem hl h)
set_option maxRecDepth 100000 in
set_option maxHeartbeats 2000000 in
theorem same_any (ts us : List T) (A A' : Option Addr) (c c' : Nat) (w : World) (h1 : TAt w w.heap.size A ts) (h2 : TAt w w.heap.size A' us) (hm : ts.length ≤ 1000000) (hm' : us.length ≤ 1000000) :
    Calls Tryd.prog 12 #[.slice A ts.length c, .slice A' us.length c'] w fun e w' => e = .returned (.bool (sameT ts us)) ∧ Below w.heap.size w w' := by
  obtain ⟨n, hn⟩ : ∃ n, n = ts.length := ⟨_, rfl⟩
  obtain ⟨m, hm2⟩ : ∃ m, m = us.length := ⟨_, rfl⟩
  have HN := Lib.hid hn
  have HM := Lib.hid hm2
  rw [← hn] at hm ⊢
  rw [← hm2] at hm' ⊢
  clear hn hm2
  have H1 := Lib.hid h1
  have H2 := Lib.hid h2
  clear h1 h2
  by_cases hnm : n = m
  · subst hnm
    go_enter Tryd.func12, Tryd.ntmps12
    go_wp2_with fail
    go_loopw [13] (fun i wr => ∃ k : Nat, k ≤ n ∧ i = .int .i64 k ∧ Below w.heap.size w wr ∧ Hid (∀ j (h : j < ts.length) (h' : j < us.length), j < k → ts[j] = us[j])) (fun i _ => n - (intOf i).toNat)
    case atStart => exact ⟨0, Nat.zero_le _, rfl, Below.refl _ _, fun j h h' hj => by omega⟩
    case round =>
      obtain ⟨k, hk, rfl, hb, HK⟩ := hrel
      by_cases hlt : k < n
      · have hk1 : k < ts.length := by rw [← HN.out]; exact hlt
        have hk2 : k < us.length := by rw [← HM.out]; exact hlt
        obtain ⟨b, off, rfl, -, d⟩ := (H1.out.below hb) (by omega)
        obtain ⟨b', off', rfl, -, d'⟩ := (H2.out.below hb) (by omega)
        obtain ⟨c0, c1, c2, c3⟩ := d k hk1
        obtain ⟨e0, e1, e2, e3⟩ := d' k hk2
        clear d d'
        have HX := Lib.hid (fun hne => same_no hk1 hk2 hne)
        have HY : Hid (ts[k] = us[k] → ∀ j (h : j < ts.length) (h' : j < us.length), j < k + 1 → ts[j] = us[j]) := fun e j h h' hj => by
          rcases Nat.lt_or_ge j k with h1 | h1
          · exact HK.out j h h' h1
          · have : j = k := by omega
            subst this
            exact e
        clear HK
        generalize ts[k] = t at *
        generalize us[k] = u at *
        by_cases a0 : t.k = u.k
        · by_cases a1 : (str t.s).toList = (str u.s).toList
          · by_cases a2 : t.i = u.i
            · by_cases a3 : (t.p : Int) = (u.p : Int)
              · have HZ := Lib.hid (HY.out (T.ext4 a0 (by rw [Lib.toList_data, Lib.toList_data, str_list, str_list] at a1; exact a1) a2 (by omega)))
                clear HX HY
                go_wp2_with fail
                go_region
                go_wp2_with fail
                go_roundw
                case measure => simp [intOf]; omega
                case rel => exact ⟨k + 1, by omega, by go_num, hb.drew, HZ⟩
              · have HF := Lib.hid (HX.out (fun e => a3 (by rw [e])))
                clear HX HY
                go_wp2_with fail
                go_region
                go_wp2_with fail
                go_ret
                exact ⟨by rw [HF.out]; rfl, hb.drew⟩
            · have HF := Lib.hid (HX.out (fun e => a2 (by rw [e])))
              clear HX HY
              go_wp2_with fail
              go_region
              go_wp2_with fail
              go_ret
              exact ⟨by rw [HF.out]; rfl, hb.drew⟩
          · have HF := Lib.hid (HX.out (fun e => a1 (by rw [e])))
            clear HX HY
            go_wp2_with fail
            go_region
            go_wp2_with fail
            go_ret
            exact ⟨by rw [HF.out]; rfl, hb.drew⟩
        · have HF := Lib.hid (HX.out (fun e => a0 (by rw [e])))
          clear HX HY
          go_wp2_with fail
          go_region
          go_wp2_with fail
          go_ret
          exact ⟨by rw [HF.out]; rfl, hb.drew⟩
      · have hkn : k = n := by omega
        subst hkn
        have HF := Lib.hid (same_yes (by rw [← HN.out, ← HM.out]) (fun j h h' => HK.out j h h' (by rw [HN.out]; exact h)))
        clear HK
        go_wp2_with fail
        go_ret
        exact ⟨by rw [HF.out]; rfl, hb⟩
  · have HF : Hid (sameT ts us = false) := decide_eq_false fun e => hnm (by rw [HN.out, HM.out, e])
    have hz : ((n : Int) != (m : Int)) = true := by
      rw [bne_iff_ne]
      omega
    go_enter Tryd.func12, Tryd.ntmps12
    go_wp2_with fail
    go_ret
    exact ⟨by rw [HF.out]; rfl, Below.refl _ _⟩
end Go.Proofs.YtjnecobamobieaaDoor
