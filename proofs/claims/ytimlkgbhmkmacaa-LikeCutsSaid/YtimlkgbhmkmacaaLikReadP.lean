/- Plain facts on reading a pattern's bytes one by one; what a row of units that a call has made reads as. No condition. -/
import Derived.Test.YtimlkgbhmkmacaaLikStands
namespace Go.Proofs.Ytimlkgbhmkmacaa
open Go.RowKit
theorem info45 : (Try.prog.info? 45).map (fun i => (i.zero, i.size, i.bytes)) = some (some (.int .i16 0), 1, 2) := by kernel_rfl
/-- How far the reading has come: k bytes are read, as the units us. -/
def Rd (l : List UInt8) (k : Nat) (us : List Int) : Prop := rd l = (rd (l.drop k)).map (us ++ ·) ∧ us.length ≤ k
theorem Rd.start (l : List UInt8) : Rd l 0 [] := ⟨by rw [List.drop_zero]; cases rd l <;> simp, Nat.zero_le _⟩
theorem drop_at {l : List UInt8} {k : Nat} (h : k < l.length) : l.drop k = l[k] :: l.drop (k + 1) := List.drop_eq_getElem_cons h
theorem Rd.many {l : List UInt8} {k : Nat} {us : List Int} (h : Rd l k us) (hk : k < l.length) (hc : l[k] = 37) : Rd l (k + 1) (us ++ [-2]) := by
  refine ⟨?_, by have := h.2; simp; omega⟩
  rw [h.1, drop_at hk, hc, rd_cons, if_pos rfl, omap_app]
theorem Rd.one {l : List UInt8} {k : Nat} {us : List Int} (h : Rd l k us) (hk : k < l.length) (hc : l[k] = 95) : Rd l (k + 1) (us ++ [-1]) := by
  refine ⟨?_, by have := h.2; simp; omega⟩
  rw [h.1, drop_at hk, hc, rd_cons, if_neg (by decide), if_pos rfl, omap_app]
theorem Rd.lit {l : List UInt8} {k : Nat} {us : List Int} (h : Rd l k us) (hk : k < l.length) (h1 : l[k] ≠ 37) (h2 : l[k] ≠ 95) (h3 : l[k] ≠ 92) : Rd l (k + 1) (us ++ [(l[k].toNat : Int)]) := by
  refine ⟨?_, by have := h.2; simp; omega⟩
  rw [h.1, drop_at hk, rd_cons, if_neg h1, if_neg h2, if_neg h3, omap_app]
theorem Rd.esc {l : List UInt8} {k : Nat} {us : List Int} (h : Rd l k us) (hk : k + 1 < l.length) (hc : l[k] = 92) (h1 : sp l[k + 1] = true) : Rd l (k + 1 + 1) (us ++ [(l[k + 1].toNat : Int)]) := by
  refine ⟨?_, by have := h.2; simp; omega⟩
  rw [h.1, drop_at (show k < l.length by omega), hc, drop_at hk, rd_cons, if_neg (by decide), if_neg (by decide), if_pos rfl]
  simp only
  rw [if_pos h1, omap_app]
theorem Rd.bad {l : List UInt8} {k : Nat} {us : List Int} (h : Rd l k us) (hk : k + 1 < l.length) (hc : l[k] = 92) (h1 : sp l[k + 1] = false) : rd l = none := by
  rw [h.1, drop_at (show k < l.length by omega), hc, drop_at hk, rd_cons, if_neg (by decide), if_neg (by decide), if_pos rfl]
  simp only
  rw [if_neg (by rw [h1]; decide)]; rfl
theorem Rd.cut {l : List UInt8} {k : Nat} {us : List Int} (h : Rd l k us) (hk : k + 1 = l.length) (hc : l[k] = 92) : rd l = none := by
  rw [h.1, drop_at (show k < l.length by omega), hc, List.drop_of_length_le (by omega), rd_cons, if_neg (by decide), if_neg (by decide), if_pos rfl]
  rfl
theorem Rd.done {l : List UInt8} {k : Nat} {us : List Int} (h : Rd l k us) (hk : k = l.length) : rd l = some us := by
  rw [h.1, hk, List.drop_length]; simp [rd]
/-- A row of units that a call has made, as what was made reads. -/
theorem uat_of {w : World} {B : Nat} {v : Value} {us : List Int} (h : w.ownsRow B 45 1 v us.length (us.map (Value.int .i16))) : ∃ A c, v = .slice A us.length c ∧ UAt w A us ∧ us.length ≤ c := by
  rcases h.2 with ⟨hv, h0⟩ | ⟨g, cap, cur, hv, _, hg, hn, _⟩
  · refine ⟨none, 0, by rw [hv, h0], UAt.nil (List.eq_nil_of_length_eq_zero h0), by omega⟩
  · refine ⟨some ⟨g, 0, none⟩, cap, hv, fun _ => ⟨g, 0, rfl, (Array.getElem?_eq_some_iff.1 hg).1, fun j hj => ?_⟩, hn⟩
    have := h.cells (g := g) (by rw [hv]; rfl) j (.int .i16 us[j]) (by simp [hj])
    rwa [WideShapes.add_plain] at this
/-- What reading leaves. -/
def ReadPost (l : List UInt8) (w : World) (e : Ending) (w' : World) : Prop :=
  ((rd l = none ∧ e = .returned (.tuple #[.slice none 0 0, .int .i64 40])) ∨ ∃ us A c, rd l = some us ∧ e = .returned (.tuple #[.slice A us.length c, .int .i64 0]) ∧ UAt w' A us ∧ us.length ≤ c) ∧ Below w.heap.size w w'
theorem cell_new (w : World) (v : Value) (T : TypeId) : ∀ j u, [v][j]? = some u → (w.alloc (.cells #[v] T)).cell? ((⟨w.heap.size, 0, none⟩ : Addr).add j) = some u := by
  intro j u hj
  match j, hj with
  | 0, hj => simp at hj; subst hj; simp [Addr.add]
theorem one_cell (k : IntKind) (n : Int) : ∀ u ∈ [Value.int k n], u.oneCell' = true := by
  intro u hu
  simp at hu; subst hu; rfl
theorem map_snoc (us : List Int) (u : Int) : us.map (Value.int .i16) ++ [.int .i16 u] = (us ++ [u]).map (Value.int .i16) := by simp
theorem len_snoc (us : List Int) (u : Int) : us.length + 1 = (us ++ [u]).length := by simp
/-- One unit more in a row of the call's own. -/
theorem own_step {w w1 w2 : World} {B : Nat} {v v' : Value} {us : List Int} {u : Int} {o : Obj} (hB : Below B w w1) (hBw : B ≤ w1.heap.size) (hown : w1.ownsRow B 45 1 v us.length (us.map (Value.int .i16))) (hown' : w2.ownsRow B 45 1 v' (us.length + 1) (us.map (Value.int .i16) ++ [.int .i16 u])) (hgrow : (w1.alloc o).grownBy w2 v.ownBlock) :
    w2.ownsRow B 45 1 v' (us ++ [u]).length ((us ++ [u]).map (Value.int .i16)) ∧ Below B w w2 :=
  ⟨by rw [← map_snoc, ← len_snoc]; exact hown', (hB.alloc hBw _).grown hgrow (by simp; omega) (fun k hk => (hown.lt k hk).1)⟩
set_option maxHeartbeats 400000 in
theorem special_any (x : UInt8) (w : World) : Calls Try.prog 18 #[.int .u8 x.toNat] w fun e w' => e = .returned (.bool (sp x)) ∧ w = w' := by
  have HX : Hid (sp x = (((x.toNat : Int) == 37) || (((x.toNat : Int) == 95) || ((x.toNat : Int) == 92)))) := by
    show _ = _
    apply bool_iff
    rw [sp_iff]
    simp only [Bool.or_eq_true, beq_iff_eq]
    constructor
    · rintro (rfl | rfl | rfl) <;> simp
    · rintro (h | h | h)
      · exact Or.inl (UInt8.toNat_inj.1 (by show x.toNat = 37; omega))
      · exact Or.inr (Or.inl (UInt8.toNat_inj.1 (by show x.toNat = 95; omega)))
      · exact Or.inr (Or.inr (UInt8.toNat_inj.1 (by show x.toNat = 92; omega)))
  have hx := UInt8.toNat_lt x
  generalize sp x = q at *
  generalize x.toNat = n at *
  go_enter Try.func18, Try.ntmps18
  go_wp2
  all_goals go_ret
  all_goals refine ⟨ret_bool ?_, rfl⟩
  all_goals (go_light; rw [HX.out]; first | exact Bool.or_assoc _ _ _ | simp_all)
end Go.Proofs.Ytimlkgbhmkmacaa
