/- Contracts of the library's Cut at a quote, and of its ParseUint at two signs. Conditions: the library's errors are there; the text is no longer than 4096. -/
import Derived.Test.YtjnecobamobieaaDoorTokHex
import Derived.Lib.IndexLaws
import Derived.BigRegion
import Derived.Deep.Quiet
import Derived.Deep.QuietTactic
namespace Go.Proofs.YtjnecobamobieaaDoor
open Go.RowKit
theorem toQ_some {l : List UInt8} {o : Nat} (h1 : l[o]? = some 39) (h2 : ∀ k, k < o → l[k]? ≠ some 39) : 39 ∈ l ∧ toQ l = l.take o := by
  refine ⟨List.mem_of_getElem? h1, ?_⟩
  induction l generalizing o with
  | nil => simp at h1
  | cons c r ih =>
    cases o with
    | zero =>
      simp at h1
      subst h1
      simp [toQ]
    | succ o =>
      have hc : c ≠ 39 := fun h => h2 0 (by omega) (by simp [h])
      have := ih (o := o) (by simpa using h1) (fun k hk => by have := h2 (k + 1) (by omega); simpa using this)
      unfold toQ at this ⊢
      rw [List.takeWhile_cons_of_pos (by simpa using hc), this]
      rfl
theorem toQ_none {l : List UInt8} (h2 : ∀ k : Nat, l[k]? ≠ some 39) : 39 ∉ l := fun h => by
  obtain ⟨i, hi, e⟩ := List.getElem_of_mem h
  exact h2 i (by rw [List.getElem?_eq_getElem hi, e])
def hasQ (l : List UInt8) : Bool := decide (39 ∈ l)
set_option maxRecDepth 100000 in
set_option maxHeartbeats 1000000 in
theorem cutQ_any (s : ByteArray) (w : World) (hs : s.size ≤ 4096) : Calls Tryd.prog 34 #[.string s, .string ⟨#[39]⟩] w fun e w' => (∃ x y : ByteArray, e = .returned (.tuple #[.string x, .string y, .bool (hasQ s.data.toList)]) ∧ (hasQ s.data.toList = true → x.data.toList = toQ s.data.toList)) ∧ Below w.heap.size w w' := by
  have hi := Tryd.stringslite_Index_one s 39 w
  obtain ⟨q, hq⟩ : ∃ q, q = hasQ s.data.toList := ⟨_, rfl⟩
  have HC : Calls Tryd.prog 46 #[.string s, .string ⟨#[39]⟩] w fun e w' => (∃ x y : ByteArray, e = .returned (.tuple #[.string x, .string y, .bool (hasQ s.data.toList)]) ∧ (hasQ s.data.toList = true → x.data.toList = toQ s.data.toList)) ∧ Below w.heap.size w w' := by
    by_cases hz : Lib.indexByte s.data.toList 39 = -1
    · have h2 := toQ_none (Lib.indexByte_none hz)
      rw [hz] at hi
      have h5 : hasQ s.data.toList = false := decide_eq_false h2
      rw [h5]
      clear h2 hz h5
      go_enter Tryd.func46, Tryd.ntmps46
      go_wp2_with (go_at_call 54; refine hi.mono ?_; rintro e w' ⟨rfl, rfl⟩)
      go_ret3
      exact ⟨⟨_, _, rfl, fun h => by cases h⟩, Below.refl _ _⟩
    · obtain ⟨o, ho⟩ : ∃ o : Nat, Lib.indexByte s.data.toList 39 = o := ⟨(Lib.indexByte s.data.toList 39).toNat, by have := Lib.indexByte_ge s.data.toList 39; omega⟩
      obtain ⟨h1, h2⟩ := Lib.indexByte_some ho
      obtain ⟨h3, h4⟩ := toQ_some h1 h2
      have hol : o < s.size := by rw [← size_list]; exact (List.getElem?_eq_some_iff.1 h1).1
      rw [ho] at hi
      have h5 : hasQ s.data.toList = true := decide_eq_true h3
      rw [h5]
      have H4 : Hid ((s.extract 0 o).data.toList = toQ s.data.toList) := by show _ = _; rw [h4, ext_begin]
      clear h1 h2 h3 h4 hz ho h5
      go_enter Tryd.func46, Tryd.ntmps46
      go_wp2_with (go_at_call 54; refine hi.mono ?_; rintro e w' ⟨rfl, rfl⟩)
      go_region
      go_wp2_with fail
      go_ret3
      exact ⟨⟨_, _, rfl, fun _ => H4.out⟩, (Below.refl _ _).drew⟩
  rw [← hq] at HC ⊢
  clear hq hi
  go_enter Tryd.func34, Tryd.ntmps34
  go_wp2_with (go_at_call 46; refine HC.mono ?_; rintro e w' ⟨⟨x, y, rfl, hx⟩, hb⟩)
  go_ret3
  exact ⟨⟨_, _, rfl, hx⟩, hb⟩
/-- ParseUint of two signs. -/
theorem parse16 (t : ByteArray) (c d : UInt8) (ht : t.data.toList = [c, d]) (w : World) (hE : Env w) :
    Calls Tryd.prog 35 #[.string t, .int .i64 16, .int .i64 8] w fun e w' => (∃ x y, e = .returned (.tuple #[.int .u64 x, y]) ∧ match hx c d 2 with
      | some v => x = v ∧ y = .nilIface
      | none => ∃ N, y = .iface 64 (.pointer (some ⟨N, 0, none⟩))) ∧ Below w.heap.size w w' := by
  have hsz : t.size = 2 := by rw [← size_list, ht]; rfl
  have hp := hex_parse t c d ht w
  have hbb := bytes_below w t
  have hE2 := hE.later hbb
  generalize Lib.bytesWorld w 5 t = W1 at *
  obtain ⟨ev, hv, hev⟩ := hE2.syn
  cases hh : hx c d 2 with
  | some v =>
    rw [hh] at hp
    simp only [hexOut] at hp
    clear hE hE2 hv hev hh
    go_enter Tryd.func35, Tryd.ntmps35
    go_wp2_with (go_at_call 47; refine hp.mono ?_; rintro e w' ⟨rfl, rfl⟩)
    go_ret2
    exact ⟨⟨_, _, rfl, rfl, rfl⟩, hbb⟩
  | none =>
    rw [hh] at hp
    simp only [hexOut] at hp
    have HT := Lib.hid (fun fn base b => AnyPu.strconv_toError_syntax { Tryd.laysPu14 with } fn t base b ev W1 (by omega) hv hev)
    clear hE hE2 hv hev hh
    go_enter Tryd.func35, Tryd.ntmps35
    go_wp2_with (go_at_call 47; refine hp.mono ?_; rintro e w' ⟨rfl, rfl⟩)
    refine (HT.out _ _ _).mono ?_
    rintro e w2 ⟨N, rfl, -, -, b2⟩
    go_wp2_with fail
    go_ret2
    exact ⟨⟨_, _, rfl, N, rfl⟩, bthen hbb b2⟩
end Go.Proofs.YtjnecobamobieaaDoor
