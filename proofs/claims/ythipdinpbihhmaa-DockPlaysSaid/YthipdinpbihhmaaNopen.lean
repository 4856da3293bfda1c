/-
  Slices of strings and of data that come in, as the walks ask for them.
-/
import Derived.Test.YthipdinpbihhmaaPopb
import Derived.Test.YthipdinpbihhmaaWzs
import Derived.Test.YthipdinpbihhmaaNply
import Derived.Deep.Slices
import Derived.Deep.Strs
import Derived.SizedLaws
namespace Go.Proofs.Ythipdinpbihhmaa
open Go.ChangeShapes Go.WideShapes Go.ChangeAt Go.RowKit Go.Deep

theorem Try.cells_dt : Try.prog.cellsOf 40 = 2 := by kernel_rfl
theorem Try.cells_sv : Try.prog.cellsOf 9 = 1 := by kernel_rfl
theorem Try.cells_uv : Try.prog.cellsOf 30 = 1 := by kernel_rfl

def sOfV : Value → ByteArray
  | .string s => s
  | _ => ⟨#[]⟩
theorem trod_sV {H : Type} {enc : TypeId × Value → H} {P : Program} {w : World} {base : Nat} {spare : Nat → Bool} {held : Bool} {fuel : Nat} {t : TypeId} {v : Value} {x : DataW H × List MemPlace}
    (ht : P.underlying t = some .string) (h : DataW.trod enc P w base spare held fuel t [v] = some x) : v = .string (sOfV v) := by
  cases fuel with
  | zero => simp [DataW.trod] at h
  | succ n =>
    cases v <;> simp [DataW.trod, ht] at h
    rfl
theorem weights_all {H : Type} {P : Program} {e : TypeId} {n : Nat} : ∀ {l : List (DataW H)} {d : DataW H}, d ∈ l → n ∈ d.weights P e → n ∈ DataW.weightsAll P e l
  | d0 :: r, d, hd, hn => by
    rw [DataW.weightsAll, List.mem_append]
    rcases List.mem_cons.1 hd with rfl | hd
    · exact Or.inl hn
    · exact Or.inr (weights_all hd hn)

/-- Strings, none longer than the reach. -/
theorem is_strb {H : Type} {enc : TypeId × Value → H} {W : World} {v : Value} {d : DataW H} {ps : List MemPlace} {base : Nat} {spare : Nat → Bool} {b0 : Nat} {held : Bool} {ts : List TypeId} {ds : List (DataW H)} {j : Nat}
    (hval : Value.okWide Try.prog W .any base 35 v) (h : DataW.Trod enc Try.prog W b0 spare held 35 v d ps)
    (hlt : ∀ x ∈ ps, x.block < W.heap.size) (hz : (DataW.weightsEach Try.prog ts ds).all (· ≤ reachBytes) = true) (ht : ts[j]? = some 35) (hd : ds[j]? = some d) :
    ∃ (l : List ByteArray) (a : Option Addr) (cap : Nat), v = .slice a l.length cap ∧ StrsB W a cap l := by
  obtain ⟨a0, len, cap, rfl⟩ := okWide_slice Try.underlying35 hval
  obtain ⟨fuel, hf⟩ := h
  rcases open_strs Try.underlying35 Try.underlying9 Try.cells_sv hf with ⟨hcs, hx⟩ | ⟨a, len', cap', m, Sx, hcs, hb, hl, hm, hmm, hx, hcell⟩
  · simp [Value.cells] at hcs
    obtain ⟨rfl, rfl, rfl⟩ := hcs
    exact ⟨[], none, 0, rfl, SlV.none _, fun s hs => by cases hs⟩
  · simp [Value.cells] at hcs
    obtain ⟨rfl, rfl, rfl⟩ := hcs
    by_cases h0 : len = 0
    · subst h0
      exact ⟨[], some a, cap, rfl, ⟨by simp, hm, (fun e => by cases e), fun i hi => by simp at hi⟩, fun s hs => by cases hs⟩
    · have hml : len ≤ m := by rw [hmm]; split <;> omega
      obtain ⟨b, off, spot⟩ := a
      have hspot : spot = none := by simpa [Addr.add] using World.cell?_spot (hcell 0 (by omega)).1
      subst hspot
      have hbW : b < W.heap.size := hlt (.cell b off) (by
        rw [(Prod.mk.inj hx).2]
        exact MemPlace.mem_row.2 ⟨0, by omega, by simp⟩)
      have hd2 := (Prod.mk.inj hx).1
      refine ⟨(List.range len).map Sx, some ⟨b, off, none⟩, cap, by simp, ⟨by simpa using hl, hm, (fun e => by cases e), fun i hi => ?_⟩, fun s hs => ?_⟩
      · have hi2 : i < len := by simpa using hi
        refine ⟨b, off, rfl, hbW, ?_⟩
        have := (hcell i (by omega)).1
        rw [Addr.add_lit] at this
        rw [this]
        simp
      · obtain ⟨i, hi, rfl⟩ := List.mem_map.1 hs
        have hw : (Sx i).data.toList.length ∈ d.weights Try.prog 35 := by
          rw [hd2]
          simp only [DataW.weights, Try.underlying35]
          refine List.mem_cons_of_mem _ (List.mem_append_left _ (weights_all (d := .lit (.string (Sx i).data.toList)) (List.mem_map.2 ⟨i, hi, rfl⟩) ?_))
          simp [DataW.weights]
        have h1 := List.all_eq_true.1 hz _ (DataW.weights_mem_each ht hd _ hw)
        have h2 : (Sx i).data.toList.length ≤ reachBytes := by simpa using h1
        have h3 := reachBytes_lt
        have h4 : (Sx i).size = (Sx i).data.toList.length := Lib.size_eq _
        omega

set_option maxRecDepth 20000 in
theorem is_dt {H : Type} {enc : TypeId × Value → H} {W : World} {cs : List Value} {x : DataW H × List MemPlace} {b0 : Nat} {spare : Nat → Bool} {held : Bool} {fuel : Nat}
    (h : DataW.trod enc Try.prog W b0 spare held fuel 40 cs = some x) : ∃ (q : Nat × ByteArray), cs = [uN q.1, .string q.2] ∧ q.1 < 18446744073709551616 := by
  obtain ⟨y0, y1, n, hx, hl, h0, h1⟩ := trod_struct2 Try.underlying40 h
  rw [Try.cells_dt] at hl
  match cs, hl with
  | [c0, c1], _ =>
    simp only [Try.cells_uv, Try.cells_sv] at h0 h1
    obtain ⟨e0, r0⟩ := trod_u64 Try.underlying30 h0
    have e1 := trod_sV Try.underlying9 h1
    refine ⟨(natOf c0, sOfV c1), ?_, r0⟩
    simp only [List.cons.injEq, and_true]
    exact ⟨e0, e1⟩

set_option maxRecDepth 20000 in
theorem is_dts {H : Type} {enc : TypeId × Value → H} {W : World} {v : Value} {d : DataW H} {ps : List MemPlace} {base : Nat} {spare : Nat → Bool} {b0 : Nat} {held : Bool}
    (hval : Value.okWide Try.prog W .any base 36 v) (h : DataW.Trod enc Try.prog W b0 spare held 36 v d ps)
    (hlt : ∀ x ∈ ps, x.block < W.heap.size) : ∃ (l : List (Nat × ByteArray)) (a : Option Addr) (cap : Nat), v = .slice a l.length cap ∧ DtAt W a cap l := by
  obtain ⟨a0, len, cap, rfl⟩ := okWide_slice Try.underlying36 hval
  obtain ⟨fuel, hf⟩ := h
  rcases open_slice Try.underlying36 hf with ⟨hcs, hx⟩ | ⟨a, len', cap', m, n, D, Pl, hcs, hb, hl, hm, hmm, hx, hcell⟩
  · simp [Value.cells] at hcs
    obtain ⟨rfl, rfl, rfl⟩ := hcs
    exact ⟨[], none, 0, rfl, RowV.none _ _ _, fun x hx => by cases hx⟩
  · simp [Value.cells] at hcs
    obtain ⟨rfl, rfl, rfl⟩ := hcs
    by_cases h0 : len = 0
    · subst h0
      exact ⟨[], some a, cap, rfl, ⟨by simp [dI], by simp, hm, (fun e => by cases e), fun j u hj => by simp [dI] at hj⟩, fun x hx => by cases hx⟩
    · have hml : len ≤ m := by rw [hmm]; split <;> omega
      rw [Try.cells_dt] at hx hcell
      have hps : ps = MemPlace.row a (m * 2) ++ (List.range m).flatMap Pl := (Prod.mk.inj hx).2
      have hone : ∀ i, i < len → ∃ (r : Nat × ByteArray), W.cells? b0 (a.add (i * 2)) 2 = some [uN r.1, .string r.2] ∧ r.1 < 18446744073709551616 := fun i hi => by
        obtain ⟨cs', h1, h2⟩ := hcell i (by omega)
        obtain ⟨q, rfl, hq⟩ := is_dt h2
        exact ⟨q, h1, hq⟩
      obtain ⟨R, hR⟩ := choose_lt hone
      obtain ⟨b, off, spot⟩ := a
      have c0 : W.cell? ((⟨b, off, spot⟩ : Addr).add (0 * 2)) = some _ := (World.cells?_some (hR 0 (by omega)).1).2.2 0 (by omega) |> fun h => by simpa [Addr.add] using h
      have hspot : spot = none := by simpa [Addr.add] using World.cell?_spot c0
      subst hspot
      have hbW : b < W.heap.size := hlt (.cell b off) (by
        rw [hps]
        exact List.mem_append_left _ (MemPlace.mem_row.2 ⟨0, by omega, by simp⟩))
      have hc : ∀ i, i < len → ∀ j, j < 2 → W.cell? ⟨b, off + i * 2 + j, none⟩ = [uN (R i).1, Value.string (R i).2][j]? := fun i hi j hj => by
        have h := (World.cells?_some (hR i hi).1).2.2 j hj
        rw [Addr.add_lit, Addr.add_lit] at h
        exact h
      refine ⟨(List.range len).map R, some ⟨b, off, none⟩, cap, by simp, ⟨by rw [dI_len], by simpa using hl, hm, (fun e => by cases e), fun j u hj => ⟨b, off, rfl, hbW, trivial, ?_⟩⟩, fun x hx => ?_⟩
      · have hjl : j < len * 2 := by
          have := (List.getElem?_eq_some_iff.1 hj).1
          rw [dI_len] at this
          simpa using this
        have hi : j / 2 < ((List.range len).map R).length := by simp; omega
        obtain ⟨x0, x1⟩ := dI_at (j / 2) _ hi
        rcases Nat.mod_two_eq_zero_or_one j with e | e
        · have e2 : j / 2 * 2 = j := by omega
          rw [e2, hj] at x0
          have := hc (j / 2) (by omega) 0 (by decide)
          rw [Nat.add_zero, e2] at this
          rw [this, x0]
          simp
        · have e2 : j / 2 * 2 + 1 = j := by omega
          rw [e2, hj] at x1
          have := hc (j / 2) (by omega) 1 (by decide)
          rw [show off + j / 2 * 2 + 1 = off + j by omega] at this
          rw [this, x1]
          simp
      · obtain ⟨i, hi, rfl⟩ := List.mem_map.1 hx
        exact (hR i (List.mem_range.1 hi)).2

end Go.Proofs.Ythipdinpbihhmaa
