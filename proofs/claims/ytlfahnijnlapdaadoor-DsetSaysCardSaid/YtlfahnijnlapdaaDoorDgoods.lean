/-
  What the listed variables give the walks.
-/
import Derived.Test.YtlfahnijnlapdaaDoorDgood
import Derived.Test.YtlfahnijnlapdaaDoorLift
namespace Go.Proofs.YtlfahnijnlapdaaDoor

theorem iface_of_at {P : Program} {W : World} {name n : String} {d : DataW Unit} {g : Nat} {t : TypeId} {ms : Array (String × TypeId)}
    (hg : P.globalNamed name = some g) (hty : (P.globals[g]?).map (·.type) = some t) (ht : P.underlying t = some (.interface ms)) :
    ∀ {laid : List (String × DataW Unit)} {ps : List MemPlace} (i : Nat), DataW.LaidVars P W laid ps → laid[i]? = some (name, .iface n d) → ∃ te pe, W.cell? ⟨g, 0, none⟩ = some (.iface te pe)
  | [], _, i, _, hi => by simp at hi
  | x :: r, ps, 0, h, hi => by
    obtain rfl : x = (name, .iface n d) := by simpa using hi
    obtain ⟨g', t', cs, fuel, p, q, hg', ht', hvar, hd, _, _⟩ := h
    obtain rfl := Option.some.inj (hg.symm.trans hg')
    obtain rfl := Option.some.inj (hty.symm.trans ht')
    have hc := World.var?_cell hg hvar 0
    cases fuel with
    | zero => simp [DataW.trod] at hd
    | succ m =>
      obtain ⟨cs⟩ := cs
      rcases cs with _ | ⟨v, _ | ⟨v2, r2⟩⟩
      · simp [DataW.trod, ht] at hd
      · cases v <;> simp [DataW.trod, ht] at hd
        exact ⟨_, _, hc⟩
      · simp [DataW.trod, ht] at hd
  | x :: r, ps, i + 1, h, hi => by
    obtain ⟨g', t', cs, fuel, p, q, hg', ht', hvar, hd, hr, _⟩ := h
    exact iface_of_at hg hty ht i hr (by simpa using hi)

theorem getD_cast (l : List Nat) (j : Nat) : (l.map fun (x : Nat) => (x : Int)).getD j 0 = ((l.getD j 0 : Nat) : Int) := by
  rw [List.getD_eq_getElem?_getD, List.getD_eq_getElem?_getD, List.getElem?_map]
  cases l[j]? <;> rfl

theorem good_of {W : World} {laid : List (String × DataW Unit)} (h : laidMetH Tryd.prog laid W) (hh : (laid.all fun x => x.2.handleName?.isNone) = true)
    (h1 : laid[1]? = some ("math/bits.deBruijn64tab", Rows.laid_math_bits_deBruijn64tab)) (h2 : laid[2]? = some ("internal/strconv.uint64pow10", Rows.laid_internal_strconv_uint64pow10))
    (h4 : laid[4]? = some ("strconv.ErrRange", Rows.laid_strconv_ErrRange)) (h5 : laid[5]? = some ("strconv.ErrSyntax", Rows.laid_strconv_ErrSyntax)) : Good W where
  tz := fun j hj => by
    have e := tab_cell (k := .u8) (zs := Lib.deBruijn64tab.map fun (x : Nat) => (x : Int)) (n := 64) (t := 71) (e := 5) (g := 0)
      1 hh h h1 (by kernel_rfl) (by kernel_rfl) (by kernel_rfl) (by kernel_rfl) (by kernel_rfl) (by kernel_rfl) j (by rw [List.length_map]; exact hj)
    rw [getD_cast] at e
    exact e
  pow := by
    rw [MakeChecks.laidMetH_plain _ _ _ hh] at h
    obtain ⟨ps, hv, _⟩ := h
    exact tabIs_of_at (g := 6) (t := 110) (e := 24) (n := 20) (by kernel_rfl) (by kernel_rfl) (by kernel_rfl) (by kernel_rfl) (by kernel_rfl) (by kernel_rfl) 2 hv h2
  syn := by
    rw [MakeChecks.laidMetH_plain _ _ _ hh] at h
    obtain ⟨ps, hv, _⟩ := h
    exact iface_of_at (g := 1) (t := 55) (by kernel_rfl) (by kernel_rfl) (Tryd.underlying55) 5 hv h5
  rng := by
    rw [MakeChecks.laidMetH_plain _ _ _ hh] at h
    obtain ⟨ps, hv, _⟩ := h
    exact iface_of_at (g := 2) (t := 55) (by kernel_rfl) (by kernel_rfl) (Tryd.underlying55) 4 hv h4

end Go.Proofs.YtlfahnijnlapdaaDoor
