/-
  The document's own meter: what it has taken in, and what it tells.
-/
import Derived.Test.YtlbbbabieepabaaMknown
namespace Go.Proofs.Ytlbbbabieepabaa
open Go.RowKit

def fV (x : Nat) : Value := .float .f64 x

/-- How the document's own meter lies in memory. -/
structure RefAt (w : World) (N r : Nat) (G : Nat → Prop) (xs : List Nat) : Prop where
  low : ∀ k, G k → N ≤ k ∧ k < w.heap.size
  inR : G r
  fz : w.frozen? ⟨r, 0, none⟩ = false
  lt : ∀ x ∈ xs, x < 18446744073709551616
  cell : ∃ v, w.cell? ⟨r, 0, none⟩ = some v ∧ ((v = .slice none 0 0 ∧ xs = []) ∨ ∃ b off cap, v = .slice (some ⟨b, off, none⟩) xs.length cap ∧ G b ∧ b ≠ r ∧ Floats w b off xs)

theorem RefAt.carry {w w' : World} {N r : Nat} {G : Nat → Prop} {xs : List Nat} (h : RefAt w N r G xs) (hs : w.heap.size ≤ w'.heap.size) (hb : ∀ k, G k → w'.heap[k]? = w.heap[k]?) : RefAt w' N r G xs := by
  obtain ⟨v, hc, hv⟩ := h.cell
  refine ⟨fun k g => ⟨(h.low k g).1, Nat.lt_of_lt_of_le (h.low k g).2 hs⟩, h.inR, (World.frozen?_of_block (w := w) (a := ⟨r, 0, none⟩) (hb r h.inR)).trans h.fz, h.lt, v, (World.cell?_of_block (w := w) (a := ⟨r, 0, none⟩) (hb r h.inR)).trans hc, or_map hv id ?_⟩
  rintro ⟨b, off, cap, e, g, hne, hf⟩
  exact ⟨b, off, cap, e, g, hne, hf.lt, fun i hi => (World.cell?_of_block (w := w) (a := ⟨b, off + i, none⟩) (hb b g)).trans (hf.cell i hi)⟩
theorem RefAt.keep {w w' : World} {N r : Nat} {F G : Nat → Prop} {xs : List Nat} (h : RefAt w N r G xs) (hk : Keep F w w') (hd : ∀ k, G k → ¬ F k) : RefAt w' N r G xs :=
  h.carry hk.size (fun k g => hk.block k (h.low k g).2 (hd k g))
theorem RefAt.below {w w' : World} {N r : Nat} {G : Nat → Prop} {xs : List Nat} (h : RefAt w N r G xs) (hb : Below w.heap.size w w') : RefAt w' N r G xs :=
  h.carry hb.size (fun k g => hb.block k (h.low k g).2)

/-- What it holds, told place by place. -/
theorem RefAt.are {w : World} {N r : Nat} {G : Nat → Prop} {xs : List Nat} (h : RefAt w N r G xs) : ∃ ao cap, w.cell? ⟨r, 0, none⟩ = some (.slice ao xs.length cap) ∧ AreF w ao xs := by
  obtain ⟨v, hc, hv⟩ := h.cell
  rcases hv with ⟨rfl, rfl⟩ | ⟨b, off, cap, rfl, g, _, hf⟩
  · exact ⟨none, 0, hc, by simp, fun i hi => by simp at hi⟩
  · exact ⟨_, cap, hc, h.lt, fun i hi => ⟨b, off, rfl, (h.low b g).2, hf.cell i hi⟩⟩

theorem ones_f (xs : List Nat) : ∀ u ∈ xs.map fV, u.oneCell' = true := by
  intro u hu
  obtain ⟨x, _, rfl⟩ := List.mem_map.1 hu
  rfl
theorem Try.infoF : (Try.prog.info? 28).map (fun i => (i.zero, i.size, i.bytes)) = some (some (.float .f64 0), 1, 8) := by kernel_rfl

theorem own_floats {w : World} {base n : Nat} {v : Value} {xs : List Nat} (h : w.ownsRow base 28 1 v n (xs.map fV)) (hl : ∀ x ∈ xs, x < 18446744073709551616) : IsFloats w v xs ∧ n = xs.length := by
  have hn : n = xs.length := by have := h.1; simp at this; omega
  subst hn
  refine ⟨?_, rfl⟩
  rcases h.2 with ⟨rfl, e⟩ | ⟨g, cap, cur, rfl, _, hg, h1, h2, _⟩
  · exact Or.inl ⟨none, 0, rfl, List.length_eq_zero_iff.1 e⟩
  · refine Or.inr ⟨g, 0, cap, rfl, (Array.getElem?_eq_some_iff.1 hg).1, hl, fun i hi => ?_⟩
    rw [Nat.zero_add, h.cellAt i (by omega), List.getElem?_map, List.getElem?_eq_getElem hi]; rfl

theorem floats_news {w : World} {b o : Nat} {xs : List Nat} (h : Floats w b o xs) : ∀ j u, (xs.map fV)[j]? = some u → w.cell? ((⟨b, o, none⟩ : Addr).add j) = some u := by
  intro j u hu
  have hj : j < xs.length := by have := (List.getElem?_eq_some_iff.1 hu).1; simpa using this
  rw [Addr.add_lit]
  refine (h.cell j hj).trans ?_
  rw [List.getElem?_map, List.getElem?_eq_getElem hj] at hu
  exact hu

def RAddPost (W : World) (N r : Nat) (xs : List Nat) (x : Nat) (e : Ending) (w' : World) : Prop :=
  e = .returned (.tuple #[]) ∧ ∃ G', RefAt w' N r G' (xs ++ [x]) ∧ Keep (fun k => k = r) W w' ∧ ∀ k, G' k → k = r ∨ W.heap.size ≤ k

theorem radd_end {W w3 : World} {N r n : Nat} {G : Nat → Prop} {xs : List Nat} {x : Nat} {v3 : Value} (h : RefAt W N r G xs) (hx : x < 18446744073709551616) (hb : Below W.heap.size W w3) (hn : n = xs.length + 1)
    (hown : w3.ownsRow W.heap.size 28 1 v3 n (xs.map fV ++ [fV x])) : RAddPost W N r xs x (.returned (.tuple #[])) (w3.setCell ⟨r, 0, none⟩ v3) := by
  subst hn
  have hrW := (h.low r h.inR).2
  have hrN := (h.low r h.inR).1
  obtain ⟨g, cap, rfl, hg1, hg2⟩ := hown.form (by omega)
  have hl : ∀ y ∈ xs ++ [x], y < 18446744073709551616 := fun y hy => (List.mem_append.1 hy).elim (h.lt y) (fun e => by rw [List.mem_singleton.1 e]; exact hx)
  have e : xs.map fV ++ [fV x] = (xs ++ [x]).map fV := by simp
  rw [e] at hown
  obtain ⟨v, hc, _⟩ := h.cell
  have hc3 := (hb.cell (p := ⟨r, 0, none⟩) hrW).trans hc
  have hgr : g ≠ r := by omega
  refine ⟨rfl, fun k => k = r ∨ k = g, ⟨?_, Or.inl rfl, fz_put ((hb.frozen (p := ⟨r, 0, none⟩) hrW).trans h.fz), hl, _, cell_put hc3, Or.inr ⟨g, 0, cap, by simp, Or.inr rfl, hgr, hl, fun i hi => ?_⟩⟩, ((Keep.ofBelow (F := fun k => k = r) hb).setCell (p := ⟨r, 0, none⟩) rfl _), ?_⟩
  · rintro k (rfl | rfl)
    · exact ⟨hrN, Nat.lt_of_lt_of_le (Nat.lt_of_lt_of_le hrW hb.size) (put_size ..)⟩
    · exact ⟨by omega, Nat.lt_of_lt_of_le hg2 (put_size ..)⟩
  · have hi2 : i < xs.length + 1 := by simpa using hi
    rw [Nat.zero_add]
    refine (World.cell?_of_block (w := w3) (a := ⟨g, i, none⟩) (Below.heap_setCell _ _ _ _ hgr)).trans ?_
    rw [hown.cellAt i (by omega), List.getElem?_map, List.getElem?_eq_getElem hi]; rfl
  · rintro k (rfl | rfl)
    · exact Or.inl rfl
    · exact Or.inr hg1

set_option maxHeartbeats 2000000 in
theorem radd_any (W : World) (N r : Nat) (G : Nat → Prop) (xs : List Nat) (x : Nat) (h : RefAt W N r G xs) (hx : x < 18446744073709551616) (hn : xs.length ≤ 90) :
    Calls Try.prog 22 #[.pointer (some ⟨r, 0, none⟩), .float .f64 x] W (RAddPost W N r xs x) := by
  obtain ⟨i0, hi0, hz0, hz1, hz2⟩ := info_parts Try.infoF
  have hrW := (h.low r h.inR).2
  have hfz := h.fz
  obtain ⟨v, hc, hv⟩ := h.cell
  have H := Lib.hid h
  clear h
  have hown0 := World.ownsRow_lit (base := W.heap.size) (e := 28) (size := 1) W #[] 0 (Nat.le_refl _) (by unfold maxLen; omega) rfl
  have O := Lib.hid hown0
  clear hown0
  rcases hv with ⟨rfl, rfl⟩ | ⟨b, off, cap, rfl, g, hne, hf⟩
  · have NB : Hid (((W.alloc (.cells #[] 28)).alloc (.cells #[fV x] 28)).heap[W.heap.size + 1]? = some (.cells #[fV x] 28 (0, 0))) := by
      have := heap_alloc_new (W.alloc (.cells #[] 28)) (.cells #[fV x] 28)
      rwa [show (W.alloc (.cells #[] 28)).heap.size = W.heap.size + 1 by simp] at this
    go_enter Try.func22, Try.ntmps22
    go_wp2_with (at_builtin; refine wpList_append_own _ rfl (.tmp 10) (.tmp 12) 34 rfl W.heap.size 28 i0 (.float .f64 0) 1 8 Try.underlying34 hi0 hz0 hz1 hz2 rfl (by decide) _ _ _ rfl (World.ownsRow.alloc O.out _) ⟨W.heap.size + 1, 0, none⟩ 1 1 [fV x] rfl rfl (World.news_of_block (cs := #[fV x]) (t := 28) (fr := (0, 0)) NB.out) (by simp [fV, Value.oneCell']) (by unfold maxLen; omega) (by omega) (by simp; omega) ?_
                 intro v3 w3 hown3 hgr3 _
                 have hb3 : Below W.heap.size W w3 := (((Below.refl _ _).alloc (Nat.le_refl _) _).alloc (by simp) _).grown hgr3 (by simp; omega) (fun k h => (O.out.lt k h).1)
                 have k3 := (hb3.cell (p := ⟨r, 0, none⟩) hrW).trans hc
                 have f3 := (hb3.frozen (p := ⟨r, 0, none⟩) hrW).trans hfz
                 have HP := Lib.hid (radd_end (n := 0 + 1) H.out hx hb3 (by simp) (by simpa using hown3))
                 obtain ⟨g3, cap3, rfl, _, _⟩ := hown3.form (by omega)
                 clear hown3 hgr3 hb3)
    go_end0
    exact HP.out
  · have hbW := (H.out.low b g).2
    have FL := Lib.hid hf
    clear hf
    go_enter Try.func22, Try.ntmps22
    go_wp2_with (first
      | (at_builtin; refine wpList_append_own _ rfl (.tmp 5) (.tmp 9) 34 rfl W.heap.size 28 i0 (.float .f64 0) 1 8 Try.underlying34 hi0 hz0 hz1 hz2 rfl (by decide) _ _ _ rfl O.out ⟨b, off, none⟩ _ _ (xs.map fV) rfl (by simp) (floats_news (FL.out.below ((Below.refl _ _).alloc (Nat.le_refl _) _) hbW)) (ones_f _) (by simp; unfold maxLen; omega) (by simp; omega) (by simp) ?_
         intro v2 w2 hown2 hgr2 _
         have hb2 : Below W.heap.size W w2 := ((Below.refl _ _).alloc (Nat.le_refl _) _).grown hgr2 (by simp) (fun k h => (O.out.lt k h).1)
         have O2 := Lib.hid hown2
         have B2 := Lib.hid hb2
         clear hown2 hgr2 hb2)
      | (at_builtin; refine wpList_append_own _ rfl (.tmp 10) (.tmp 12) 34 rfl W.heap.size 28 i0 (.float .f64 0) 1 8 Try.underlying34 hi0 hz0 hz1 hz2 rfl (by decide) _ _ _ rfl (World.ownsRow.alloc O2.out _) ⟨w2.heap.size, 0, none⟩ 1 1 [fV x] rfl rfl (World.news_of_block (heap_alloc_new _ _)) (by simp [fV, Value.oneCell']) (by simp; unfold maxLen; omega) (by simp; omega) (by have := B2.out.size; simp; omega) ?_
         intro v3 w3 hown3 hgr3 _
         have hb3 : Below W.heap.size W w3 := (B2.out.alloc B2.out.size _).grown hgr3 (by have := B2.out.size; simp; omega) (fun k h => (O2.out.lt k h).1)
         have k3 := (hb3.cell (p := ⟨r, 0, none⟩) hrW).trans hc
         have f3 := (hb3.frozen (p := ⟨r, 0, none⟩) hrW).trans hfz
         have HP := Lib.hid (radd_end H.out hx hb3 (by omega) hown3)
         obtain ⟨g3, cap3, rfl, _, _⟩ := hown3.form (by omega)
         clear hown3 hgr3 hb3))
    go_end0
    have := HP.out
    rw [Nat.zero_add] at this
    exact this

end Go.Proofs.Ytlbbbabieepabaa
