/- Contract of the laws' own live: the chapter's examples go. Condition: the listed variables hold what they hold. -/
import Derived.Test.YtjnecobamobieaaDoorTokCutC
import Derived.Test.YtjnecobamobieaaDoorTokName
namespace Go.Proofs.YtjnecobamobieaaDoor
open Go.RowKit
theorem live1 : cutP 0 [115, 101, 108, 101, 99, 116, 32, 65, 49, 44, 32, 39, 105, 116, 39, 39, 115, 39, 32, 102, 114, 111, 109, 32, 116, 32, 45, 45, 32, 120] = .ok [⟨1, [115, 101, 108, 101, 99, 116], 0, 0⟩, ⟨1, [97, 49], 0, 7⟩, ⟨5, [44], 0, 9⟩, ⟨3, [105, 116, 39, 115], 0, 11⟩, ⟨1, [102, 114, 111, 109], 0, 19⟩, ⟨1, [116], 0, 24⟩, ⟨6, [], 0, 30⟩] := by rfl
theorem live2 : cutP 0 [120, 39, 48, 70, 39] = .ok [⟨4, [15], 0, 0⟩, ⟨6, [], 0, 5⟩] := by rfl
theorem live3 : cutP 0 [49, 50, 97] = .error 0 := by rfl
theorem Gives.ok {w w' : World} {l : List UInt8} {ts : List T} {e : Ending} (h : Gives w l e w') (hc : cutP 0 l = .ok ts) : (∃ A c, e = .returned (.tuple #[.slice A ts.length c, .int .i64 0, .int .i64 0]) ∧ ts.length ≤ c ∧ TAt w' w'.heap.size A ts) ∧ Below w.heap.size w w' := by
  unfold Gives at h
  rw [hc] at h
  exact h
theorem Gives.err {w w' : World} {l : List UInt8} {q : Nat} {e : Ending} (h : Gives w l e w') (hc : cutP 0 l = .error q) : e = .returned (.tuple #[.slice none 0 0, .int .i64 q, .int .i64 60]) ∧ Below w.heap.size w w' := by
  unfold Gives at h
  rw [hc] at h
  exact h
set_option maxRecDepth 100000 in
set_option maxHeartbeats 2000000 in
theorem live_any (w : World) (hE : Env w) : Calls Tryd.prog 9 #[] w fun e w' => e = .returned (.bool true) ∧ Below w.heap.size w w' := by
  have HE := Lib.hid hE
  have HC := Lib.hid (fun s w hE hs => cut_any s w hE hs)
  have HN := Lib.hid (fun w => isName_any ⟨#[97, 49]⟩ w (by decide))
  have HR := Lib.hid (fun w => reserved_any ⟨#[115, 101, 108, 101, 99, 116]⟩ w)
  rw [show nameB (⟨#[97, 49]⟩ : ByteArray).data.toList = true by rfl] at HN
  rw [show resB (⟨#[115, 101, 108, 101, 99, 116]⟩ : ByteArray).data.toList = true by rfl] at HR
  clear hE
  go_enter Tryd.func9, Tryd.ntmps9
  go_wp2_with fail
  refine (HC.out _ _ HE.out (by decide)).mono ?_
  intro e w1 h1
  obtain ⟨⟨A1, k1, rfl, -, t1⟩, b1⟩ := h1.ok live1
  clear h1
  go_wp2_with fail
  refine (HC.out _ _ (HE.out.later b1) (by decide)).mono ?_
  intro e w2 h1
  obtain ⟨⟨A2, k2, rfl, -, t2⟩, b2⟩ := h1.ok live2
  clear h1
  have B2 := bthen b1 b2
  go_wp2_with fail
  refine (HC.out _ _ (HE.out.later B2) (by decide)).mono ?_
  intro e w3 h1
  obtain ⟨rfl, b3⟩ := h1.err live3
  clear h1
  have B3 := bthen B2 b3
  have T1 := (t1.later b2).later b3
  have T2 := t2.later b3
  obtain ⟨p1, o1, rfl, -, d1⟩ := T1 (by decide)
  obtain ⟨p2, o2, rfl, -, d2⟩ := T2 (by decide)
  obtain ⟨-, d11, -, -⟩ := d1 1 (by decide)
  obtain ⟨d30, d31, d32, d33⟩ := d1 3 (by decide)
  obtain ⟨d60, d61, d62, d63⟩ := d1 6 (by decide)
  obtain ⟨-, d21, -, -⟩ := d2 0 (by decide)
  clear d1 d2 t1 t2 T1 T2 b1 b2 b3
  simp only [List.getElem_cons_succ, List.getElem_cons_zero, str] at d11 d30 d31 d32 d33 d60 d61 d62 d63 d21
  go_wp2_with fail
  refine (HN.out _).mono ?_
  rintro e w4 ⟨rfl, b4⟩
  go_wp2_with fail
  refine (HR.out _).mono ?_
  rintro e w5 ⟨rfl, rfl⟩
  go_wp2_with fail
  go_ret
  exact ⟨rfl, bthen B3 b4⟩
end Go.Proofs.YtjnecobamobieaaDoor
