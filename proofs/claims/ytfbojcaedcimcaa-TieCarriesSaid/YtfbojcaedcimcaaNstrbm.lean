import Derived.Test.YtfbojcaedcimcaaMac
import Derived.Deep.Slices
import Derived.Deep.Strs
import Derived.SizedLaws

/-
  Slices of strings that come in, with the bound of their sizes.
-/
namespace Go.Proofs.Ytfbojcaedcimcaa
open Go.ChangeShapes Go.WideShapes Go.ChangeAt Go.RowKit Go.Deep

theorem Try.cells_sv : Try.prog.cellsOf 9 = 1 := by kernel_rfl
theorem Try.cells_uv : Try.prog.cellsOf 33 = 1 := by kernel_rfl

def sOfV : Value → ByteArray
  | .string s => s
  | _ => ⟨#[]⟩
theorem trod_sV {H : Type} {enc : TypeId × Value → H} {P : Program} {w : World} {base : Nat} {spare : Nat → Bool} {held : Bool} {fuel : Nat} {t : TypeId} {v : Value} {x : DataW H × List MemPlace}
    (ht : P.underlying t = some .string) (h : DataW.trod enc P w base spare held fuel t [v] = some x) : v = .string (sOfV v) := by
  cases fuel with
  | zero => simp [DataW.trod] at h
  | succ n =>
    cases v <;> simp [DataW.trod, ht] at h
    rfl
theorem weights_all {H : Type} {P : Program} {e : TypeId} {n : Nat} : ∀ {l : List (DataW H)} {d : DataW H}, d ∈ l → n ∈ d.weights P e → n ∈ DataW.weightsAll P e l
  | d0 :: r, d, hd, hn => by
    rw [DataW.weightsAll, List.mem_append]
    rcases List.mem_cons.1 hd with rfl | hd
    · exact Or.inl hn
    · exact Or.inr (weights_all hd hn)

set_option maxRecDepth 20000 in
/-- Strings, none longer than the reach. -/
theorem is_strb {H : Type} {enc : TypeId × Value → H} {W : World} {v : Value} {d : DataW H} {ps : List MemPlace} {base : Nat} {spare : Nat → Bool} {b0 : Nat} {held : Bool} {ts : List TypeId} {ds : List (DataW H)} {j : Nat}
    (hval : Value.okWide Try.prog W .any base 37 v) (h : DataW.Trod enc Try.prog W b0 spare held 37 v d ps)
    (hlt : ∀ x ∈ ps, x.block < W.heap.size) (hz : (DataW.weightsEach Try.prog ts ds).all (· ≤ reachBytes) = true) (ht : ts[j]? = some 37) (hd : ds[j]? = some d) :
    ∃ (l : List ByteArray) (a : Option Addr) (cap : Nat), v = .slice a l.length cap ∧ StrsB W a cap l := by
  obtain ⟨a0, len, cap, rfl⟩ := okWide_slice Try.underlying37 hval
  obtain ⟨fuel, hf⟩ := h
  rcases open_strs Try.underlying37 Try.underlying9 Try.cells_sv hf with ⟨hcs, hx⟩ | ⟨a, len', cap', m, Sx, hcs, hb, hl, hm, hmm, hx, hcell⟩
  · simp [Value.cells] at hcs
    obtain ⟨rfl, rfl, rfl⟩ := hcs
    exact ⟨[], none, 0, rfl, SlV.none _, fun s hs => by cases hs⟩
  · simp [Value.cells] at hcs
    obtain ⟨rfl, rfl, rfl⟩ := hcs
    by_cases h0 : len = 0
    · subst h0
      exact ⟨[], some a, cap, rfl, ⟨by simp, hm, (fun e => by cases e), fun i hi => by simp at hi⟩, fun s hs => by cases hs⟩
    · have hml : len ≤ m := by rw [hmm]; split <;> omega
      obtain ⟨b, off, spot⟩ := a
      have hspot : spot = none := by simpa [Addr.add] using World.cell?_spot (hcell 0 (by omega)).1
      subst hspot
      have hbW : b < W.heap.size := hlt (.cell b off) (by
        rw [(Prod.mk.inj hx).2]
        exact MemPlace.mem_row.2 ⟨0, by omega, by simp⟩)
      have hd2 := (Prod.mk.inj hx).1
      refine ⟨(List.range len).map Sx, some ⟨b, off, none⟩, cap, by simp, ⟨by simpa using hl, hm, (fun e => by cases e), fun i hi => ?_⟩, fun s hs => ?_⟩
      · have hi2 : i < len := by simpa using hi
        refine ⟨b, off, rfl, hbW, ?_⟩
        have := (hcell i (by omega)).1
        rw [Addr.add_lit] at this
        rw [this]
        simp
      · obtain ⟨i, hi, rfl⟩ := List.mem_map.1 hs
        have hw : (Sx i).data.toList.length ∈ d.weights Try.prog 37 := by
          rw [hd2]
          simp only [DataW.weights, Try.underlying37]
          refine List.mem_cons_of_mem _ (List.mem_append_left _ (weights_all (d := .lit (.string (Sx i).data.toList)) (List.mem_map.2 ⟨i, hi, rfl⟩) ?_))
          simp [DataW.weights]
        have h1 := List.all_eq_true.1 hz _ (DataW.weights_mem_each ht hd _ hw)
        have h2 : (Sx i).data.toList.length ≤ reachBytes := by simpa using h1
        have h3 := reachBytes_lt
        have h4 : (Sx i).size = (Sx i).data.toList.length := Lib.size_eq _
        omega

end Go.Proofs.Ytfbojcaedcimcaa
