/-
  What the listed errors give the walks.
-/
import Derived.Test.YtfpfgimgnmhnaaaDoorPar2
import Derived.Test.YtfpfgimgnmhnaaaDoorTabs
namespace Go.Proofs.YtfpfgimgnmhnaaaDoor

theorem iface_of_at {P : Program} {W : World} {name n : String} {d : DataW Unit} {g : Nat} {t : TypeId} {ms : Array (String × TypeId)}
    (hg : P.globalNamed name = some g) (hty : (P.globals[g]?).map (·.type) = some t) (ht : P.underlying t = some (.interface ms)) :
    ∀ {laid : List (String × DataW Unit)} {ps : List MemPlace} (i : Nat), DataW.LaidVars P W laid ps → laid[i]? = some (name, .iface n d) → ∃ te pe, W.cell? ⟨g, 0, none⟩ = some (.iface te pe)
  | [], _, i, _, hi => by simp at hi
  | x :: r, ps, 0, h, hi => by
    obtain rfl : x = (name, .iface n d) := by simpa using hi
    obtain ⟨g', t', cs, fuel, p, q, hg', ht', hvar, hd, _, _⟩ := h
    obtain rfl := Option.some.inj (hg.symm.trans hg')
    obtain rfl := Option.some.inj (hty.symm.trans ht')
    have hc := World.var?_cell hg hvar 0
    cases fuel with
    | zero => simp [DataW.trod] at hd
    | succ m =>
      obtain ⟨cs⟩ := cs
      rcases cs with _ | ⟨v, _ | ⟨v2, r2⟩⟩
      · simp [DataW.trod, ht] at hd
      · cases v <;> simp [DataW.trod, ht] at hd
        exact ⟨_, _, hc⟩
      · simp [DataW.trod, ht] at hd
  | x :: r, ps, i + 1, h, hi => by
    obtain ⟨g', t', cs, fuel, p, q, hg', ht', hvar, hd, hr, _⟩ := h
    exact iface_of_at hg hty ht i hr (by simpa using hi)

/-- The error's fact, where the error stands fifth on the list. -/
theorem syn_of {W : World} {laid : List (String × DataW Unit)} (h : laidMetH Tryd.prog laid W) (hh : (laid.all fun x => x.2.handleName?.isNone) = true)
    (hi : laid[4]? = some ("strconv.ErrSyntax", Rows.laid_strconv_ErrSyntax)) : Syn W := by
  rw [MakeChecks.laidMetH_plain _ _ _ hh] at h
  obtain ⟨ps, hv, _⟩ := h
  exact iface_of_at (g := 1) (t := 47) (by kernel_rfl) (by kernel_rfl) (Tryd.underlying47) 4 hv hi

end Go.Proofs.YtfpfgimgnmhnaaaDoor
