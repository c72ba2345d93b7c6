/- Eval of a value's expression, of a place, of coalesce of both, of isnull of a place: what they are. Conditions: the row's values are integers of 64 bits and texts of no more than 100000 bytes; the library's one variable is there. -/
import Derived.Test.YtbhcjaeomoibpaaGreatDoorQ29
import Derived.Test.YtbhcjaeomoibpaaGreatDoorQ01
set_option linter.unusedSimpArgs false
set_option linter.unusedVariables false
namespace Go.Proofs.YtbhcjaeomoibpaaGreatDoor
open Go.RowKit
def callE (m : Int) (v : BV.V) : E := .mk wCall v0 [] fCoalesce [atE m, lit (ofV v)]
def isE (m : Int) : E := op1 wIsnull [atE m]
def OkRow (xs : List BV.V) : Prop := ∀ v ∈ xs, (-9223372036854775808 ≤ v.i ∧ v.i ≤ 9223372036854775807) ∧ v.s.size ≤ 100000
theorem getD_in (xs : List BV.V) (k : Nat) (d : BV.V) (h : k < xs.length) : xs.getD k d = xs[k] := by simp [List.getD, h]
theorem at_mem (xs : List BV.V) (m : Int) (h0 : 0 ≤ m) (h1 : m < xs.length) : atP xs m = (0, xs[m.toNat]'(by omega)) ∧ xs[m.toNat]'(by omega) ∈ xs := by
  refine ⟨?_, List.getElem_mem _⟩
  rw [atP, if_pos ⟨h0, h1⟩, getD_in xs _ _ (by omega)]
theorem fit_atE (xs : List BV.V) (m : Int) (h : -9223372036854775808 ≤ m ∧ m ≤ 9223372036854775807) : (atE m).fit deedP xs := ⟨by simp, h, trivial⟩
theorem fit_lt (xs : List BV.V) (v : BV.V) (h : -9223372036854775808 ≤ v.i ∧ v.i ≤ 9223372036854775807) : (lit (ofV v)).fit deedP xs := ⟨by simp, h, trivial⟩
theorem at_lt (v : BV.V) (S : Nat → Prop) (w : World) : EAt S w (lit (ofV v)) (.agg #[.string ⟨#[108, 105, 116]⟩, .int .i64 v.k, .int .i64 v.i, .string v.s, .string ⟨#[]⟩, .string ⟨#[]⟩, .slice none 0 0]) := by
  refine ⟨none, 0, ?_, sub_none _ _ _ _ _ _⟩
  show _ = Value.agg #[.string (str wLit), .int .i64 v.k, .int .i64 v.i, .string (str v.s.data.toList), .string (str []), .string (str []), .slice none 0 0]
  rw [list_str]
  rfl
theorem ev_call (xs : List BV.V) (m : Int) (v : BV.V) (h0 : 0 ≤ m) (h1 : m < xs.length) (hc : BV.allOk [xs[m.toNat]'(by omega), v] = true) : (callE m v).ev deedP xs = (0, if (xs[m.toNat]'(by omega)).k = 0 then (if v.k = 0 then zW else v) else xs[m.toNat]'(by omega)) := by
  have ha := (ev_at xs m).trans (at_mem xs m h0 h1).1
  have hl : (lit (ofV v)).ev deedP xs = (0, v) := by rw [lit_ev, toV_ofV]
  simp only [callE, E.ev, E.evL, ha, hl, opP, if_true]
  rw [if_neg (by decide), if_neg (by decide), dp_wCall]
  have hlk : SC.look (str fCoalesce) = some ⟨⟨#[99, 111, 97, 108, 101, 115, 99, 101]⟩, 1, (-1), 0, 0, 0, 147⟩ := SC.look_coalesce
  simp only [callP, hlk, callX, hc]
  rw [if_neg (by simp [SC.takesB]), if_pos (by trivial), doP, if_pos rfl]
  simp [firstV]
theorem ev_is (xs : List BV.V) (m : Int) (h0 : 0 ≤ m) (h1 : m < xs.length) : (isE m).ev deedP xs = (0, tru ((xs[m.toNat]'(by omega)).k == 0)) := by
  have ha := (ev_at xs m).trans (at_mem xs m h0 h1).1
  simp only [isE, op1, E.ev, E.evL, ha, opP, if_true]
  rw [if_neg (by decide), if_neg (by decide), dp_wIsnull]
  rfl
theorem c_lit (xs : List BV.V) (A : Option Addr) (c : Nat) (v : BV.V) (w : World) (hl : xs.length ≤ 100000) (hr : BV.RowAt w w.heap.size A xs) (hE : SC.Env w) (hv : -9223372036854775808 ≤ v.i ∧ v.i ≤ 9223372036854775807) : Calls Tryz.prog 11 #[.agg #[.string ⟨#[108, 105, 116]⟩, .int .i64 v.k, .int .i64 v.i, .string v.s, .string ⟨#[]⟩, .string ⟨#[]⟩, .slice none 0 0], .slice A xs.length c] w fun q w' => q = .returned (.tuple #[.agg #[.int .i64 v.k, .int .i64 v.i, .string v.s], .int .i64 0]) ∧ Below w.heap.size w w' := by
  have h := evalE_any xs hl (lit (ofV v)) _ (fun _ => True) w A c (at_lt v _ w) hr hE (fit_lt xs v hv)
  rw [lit_ev, toV_ofV] at h
  exact h
theorem c_at (xs : List BV.V) (A : Option Addr) (c : Nat) (m : Int) (x : BV.V) (w : World) (hl : xs.length ≤ 100000) (hr : BV.RowAt w w.heap.size A xs) (hE : SC.Env w) (h0 : 0 ≤ m) (h1 : m < xs.length) (hx : x = xs[m.toNat]'(by omega)) : Calls Tryz.prog 11 #[.agg #[.string ⟨#[97, 116]⟩, .int .i64 2, .int .i64 m, .string ⟨#[]⟩, .string ⟨#[]⟩, .string ⟨#[]⟩, .slice none 0 0], .slice A xs.length c] w fun q w' => q = .returned (.tuple #[.agg #[.int .i64 x.k, .int .i64 x.i, .string x.s], .int .i64 0]) ∧ Below w.heap.size w w' := by
  have h := evalE_any xs hl (atE m) _ (fun _ => True) w A c ⟨_, _, rfl, sub_none _ _ _ _ _ _⟩ hr hE (fit_atE xs m (by omega))
  rw [ev_at, (at_mem xs m h0 h1).1, ← hx] at h
  exact h
theorem c_call (xs : List BV.V) (A : Option Addr) (c : Nat) (m : Int) (x v : BV.V) (g : Nat) (w : World) (hl : xs.length ≤ 100000) (ho : OkRow xs) (hr : BV.RowAt w w.heap.size A xs) (hE : SC.Env w) (h0 : 0 ≤ m) (h1 : m < xs.length) (hx : x = xs[m.toNat]'(by omega)) (hv : (-9223372036854775808 ≤ v.i ∧ v.i ≤ 9223372036854775807) ∧ v.s.size ≤ 100000) (hc : BV.allOk [x, v] = true)
    (hs : Sub (fun _ => True) w (callE m v) (some ⟨g, 0, none⟩) 2) (y : BV.V) (hy : y = if x.k = 0 then (if v.k = 0 then zW else v) else x) : Calls Tryz.prog 11 #[.agg #[.string ⟨#[99, 97, 108, 108]⟩, .int .i64 0, .int .i64 0, .string ⟨#[]⟩, .string ⟨#[]⟩, .string ⟨#[99, 111, 97, 108, 101, 115, 99, 101]⟩, .slice (some ⟨g, 0, none⟩) 2 2], .slice A xs.length c] w fun q w' => q = .returned (.tuple #[.agg #[.int .i64 y.k, .int .i64 y.i, .string y.s], .int .i64 0]) ∧ Below w.heap.size w w' := by
  have ha := (ev_at xs m).trans (at_mem xs m h0 h1).1
  have hlv : (lit (ofV v)).ev deedP xs = (0, v) := by rw [lit_ev, toV_ofV]
  have hxm := ho _ (at_mem xs m h0 h1).2
  have h := evalE_any xs hl (callE m v) _ (fun _ => True) w A c ⟨_, _, rfl, hs⟩ hr hE ⟨by simp, by decide, ⟨fit_atE xs m (by omega), by rw [ha]; exact ⟨hxm.1, Nat.le_trans hxm.2 (by decide)⟩⟩, ⟨fit_lt xs v hv.1, by rw [hlv]; exact ⟨hv.1, Nat.le_trans hv.2 (by decide)⟩⟩, trivial⟩
  rw [ev_call xs m v h0 h1 (by rw [← hx]; exact hc), ← hx, ← hy] at h
  exact h
theorem c_is (xs : List BV.V) (A : Option Addr) (c : Nat) (m : Int) (x : BV.V) (g : Nat) (w : World) (hl : xs.length ≤ 100000) (ho : OkRow xs) (hr : BV.RowAt w w.heap.size A xs) (hE : SC.Env w) (h0 : 0 ≤ m) (h1 : m < xs.length) (hx : x = xs[m.toNat]'(by omega))
    (hs : Sub (fun _ => True) w (isE m) (some ⟨g, 0, none⟩) 1) : Calls Tryz.prog 11 #[.agg #[.string ⟨#[105, 115, 110, 117, 108, 108]⟩, .int .i64 0, .int .i64 0, .string ⟨#[]⟩, .string ⟨#[]⟩, .string ⟨#[]⟩, .slice (some ⟨g, 0, none⟩) 1 1], .slice A xs.length c] w fun q w' => q = .returned (.tuple #[.agg #[.int .i64 1, .int .i64 (if x.k == 0 then 1 else 0), .string ⟨#[]⟩], .int .i64 0]) ∧ Below w.heap.size w w' := by
  have ha := (ev_at xs m).trans (at_mem xs m h0 h1).1
  have hxm := ho _ (at_mem xs m h0 h1).2
  have h := evalE_any xs hl (isE m) _ (fun _ => True) w A c ⟨_, _, rfl, hs⟩ hr hE ⟨by simp, by decide, ⟨fit_atE xs m (by omega), by rw [ha]; exact ⟨hxm.1, Nat.le_trans hxm.2 (by decide)⟩⟩, trivial⟩
  rw [ev_is xs m h0 h1, ← hx] at h
  exact h
theorem sx_call (w : World) (m : Int) (v : BV.V) : Sub (fun _ => True) (w.alloc (.cells #[.string ⟨#[97, 116]⟩, .int .i64 2, .int .i64 m, .string ⟨#[]⟩, .string ⟨#[]⟩, .string ⟨#[]⟩, .slice none 0 0, .string ⟨#[108, 105, 116]⟩, .int .i64 v.k, .int .i64 v.i, .string v.s, .string ⟨#[]⟩, .string ⟨#[]⟩, .slice none 0 0] 26)) (callE m v) (some ⟨w.heap.size, 0, none⟩) 2 := by
  have h := two_sub (atE m) (lit (ofV v)) none none 0 0 (sub_none (fun _ => True) w _ _ _ _) (sub_none (fun _ => True) w _ _ _ _) wCall v0 [] fCoalesce
  simp only [show (lit (ofV v)).v.s = v.s.data.toList from rfl, list_str] at h
  exact h
theorem sx_is (w : World) (m : Int) : Sub (fun _ => True) (w.alloc (.cells #[.string ⟨#[97, 116]⟩, .int .i64 2, .int .i64 m, .string ⟨#[]⟩, .string ⟨#[]⟩, .string ⟨#[]⟩, .slice none 0 0] 26)) (isE m) (some ⟨w.heap.size, 0, none⟩) 1 :=
  one_sub (atE m) none 0 (sub_none (fun _ => True) w _ _ _ _) wIsnull v0 [] []
end Go.Proofs.YtbhcjaeomoibpaaGreatDoor
namespace Go.Proofs.YtbhcjaeomoibpaaGreatDoor
open Go.RowKit
set_option maxRecDepth 100000 in
set_option maxHeartbeats 4000000 in
theorem bigN_any (xs : List BV.V) (A : Option Addr) (c : Nat) (w : World) (hr : BV.RowAt w w.heap.size A xs) (hl : xs.length ≤ 140737488355328) (ht : ∀ v ∈ xs, v.s.size ≤ 140737488355328) :
    Calls Tryz.prog 8 #[.slice A xs.length c, .slice none 0 0] w fun e w' => e = .returned (.bool (!(BV.few [⟨A, c, xs⟩] 600))) ∧ Below w.heap.size w w' := by
  have hs : BV.Small [⟨A, c, xs⟩] := by
    intro r h
    simp at h
    subst h
    exact ⟨hl, ht⟩
  obtain ⟨W1, hW1⟩ : ∃ W1 : World, W1 = w.alloc (.cells #[.slice A xs.length c] 28) := ⟨_, rfl⟩
  have hra := BV.rows_made w [⟨A, c, xs⟩] (by intro r h; simp at h; subst h; exact hr) #[.slice A xs.length c] (by simp [BV.R.val]) 28
  have hb := bel_allocE (Below.refl w.heap.size w) (.cells #[.slice A xs.length c] 28)
  rw [← hW1] at hb
  have HC := Lib.hid (BV.few_any [⟨A, c, xs⟩] (some ⟨w.heap.size, 0, none⟩) 1 600 W1 (by rw [hW1]; exact hra) (by simp) hs (by omega) (by omega))
  have HB := Lib.hid hb
  have HW := Lib.hid hW1
  clear hr hs hra hb hW1 hl ht
  generalize BV.few [⟨A, c, xs⟩] 600 = b at *
  simp only [List.length_cons, List.length_nil, Nat.zero_add] at HC
  generalize xs.length = n at *
  go_enter Tryz.func8, Tryz.ntmps8
  go_wp2_with fail
  go_loopw [9] (fun i wr => i = .int .i64 0 ∧ wr = w) (fun _ _ => 0)
  case atStart => exact ⟨rfl, rfl⟩
  case round =>
    obtain ⟨rfl, rfl⟩ := hrel
    go_wp2_with (rw [← HW.out])
    refine (HC.out).mono ?_
    rintro e w2 ⟨rfl, b2⟩
    go_wp2_with fail
    exact bodyPost_ret (v := .bool (!b)) (by simp [results, Tryz.results8, go_sem]) rfl ⟨rfl, bthen HB.out b2⟩
end Go.Proofs.YtbhcjaeomoibpaaGreatDoor
