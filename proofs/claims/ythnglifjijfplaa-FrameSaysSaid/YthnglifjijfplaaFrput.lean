/-
  A frame as bytes, the document's own.
-/
import Derived.Test.YthnglifjijfplaaFput
namespace Go.Proofs.Ythnglifjijfplaa
open Go.RowKit

theorem wr_slice {W w : World} {N p : Nat} {bs : List Nat} (h : WrOn W N p bs w) : ∃ a cap, w.cell? ⟨p, 0, none⟩ = some (.slice a bs.length cap) ∧ SlAt bV 256 w a cap bs := by
  obtain ⟨⟨F, v, hV⟩, _⟩ := h
  obtain ⟨a, cap, rfl, hs⟩ := hV.slice
  exact ⟨a, cap, hV.cell, hs⟩
theorem wr_new (W : World) (t : TypeId) : WrOn W W.heap.size W.heap.size [] (W.alloc (.cells #[.slice none 0 0] t)) :=
  ⟨⟨_, _, new_wr W W.heap.size (Nat.le_refl _) t⟩, below_alloc (Below.refl _ _) _⟩

set_option maxRecDepth 20000 in
set_option maxHeartbeats 8000000 in
theorem rfput_any (f : Frm) (a : Option Addr) (c : Nat) (W : World) (hs : SlAt bV 256 W a c f.bod) (hn : f.num < 18446744073709551616) :
    Calls Try.prog 11 #[.agg (frmA f a c)] W (BytesPost W (bytesF f)) := by
  have X2 := Fun.new hs 32
  have hfit := hs.fit
  have hmax := hs.max
  unfold maxLen at hmax
  have O := Lib.hid hn
  clear hn hs
  cases hA : f.ack
  · by_cases h0 : f.num = 0
    · have E := Lib.hid (show bytesF f = [] by unfold bytesF; rw [show goodF f = false by simp [goodF, hA, h0]]; rfl)
      go_enter Try.func11, Try.ntmps11
      go_wp2_with fail
      generalize W.alloc (.cells (frmA f a c) 32) = w2 at X2 ⊢
      obtain ⟨j0, j1, j2⟩ := X2.out.bx
      rw [hA] at j0
      rw [h0] at j1
      clear hA h0
      go_wp2_with fail
      go_ret
      rw [E.out]
      exact bytes_none W w2 X2.out.be
    by_cases hl : 30000 < f.bod.length
    · have E := Lib.hid (show bytesF f = [] by unfold bytesF; rw [show goodF f = false by simp [goodF, hA]; omega]; rfl)
      have d1 : ((f.num : Int) == 0) = false := by simp; omega
      have d2 : decide ((30000 : Int) < (f.bod.length : Int)) = true := decide_eq_true (by omega)
      have d3 : decide (30000 < f.bod.length) = true := decide_eq_true hl
      go_enter Try.func11, Try.ntmps11
      go_wp2_with fail
      generalize W.alloc (.cells (frmA f a c) 32) = w2 at X2 ⊢
      obtain ⟨j0, j1, j2⟩ := X2.out.bx
      rw [hA] at j0
      clear hA h0 hl
      go_wp2_with fail
      go_ret
      rw [E.out]
      exact bytes_none W w2 X2.out.be
    have E2 := Lib.hid (show bytesF f = lebL 0 ++ lebL f.num ++ (lebL f.bod.length ++ f.bod) by unfold bytesF; rw [show goodF f = true by simp [goodF, hA]; omega]; unfold putF; rw [hA]; rfl)
    have L := Lib.hid (show (lebL 0).length ≤ 10 ∧ (lebL f.num).length ≤ 10 ∧ f.bod.length ≤ 30000 from ⟨lens _ (by decide), lens _ O.out, by omega⟩)
    have d1 : ((f.num : Int) == 0) = false := by simp; omega
    have d2 : decide ((30000 : Int) < (f.bod.length : Int)) = false := decide_eq_false (by omega)
    have d3 : decide (30000 < f.bod.length) = false := decide_eq_false hl
    go_enter Try.func11, Try.ntmps11
    go_wp2_with fail
    have hsz : (W.alloc (.cells (frmA f a c) 32)).heap.size = W.heap.size + 1 := by simp
    generalize W.alloc (.cells (frmA f a c) 32) = w2 at X2 hsz ⊢
    obtain ⟨j0, j1, j2⟩ := X2.out.bx
    rw [hA] at j0
    clear hA h0 hl
    go_wp2_with fail
    have H0 := Lib.hid (show WrOn w2 w2.heap.size (W.heap.size + 1) [] (w2.alloc (.cells #[.slice none 0 0] 54)) by rw [← hsz]; exact wr_new w2 54)
    clear j0 j1 j2 hsz
    obtain ⟨j0, j1, j2⟩ := X2.out.bx.below H0.out.2
    generalize w2.alloc (.cells #[.slice none 0 0] 54) = w3 at H0 j0 j1 j2 ⊢
    generalize W.heap.size + 1 = p at H0 ⊢
    go_wp2_with fail
    refine (ron_num (n := 0) H0.out rfl (by decide) (by simp)).mono ?_
    rintro e w4 ⟨rfl, h⟩
    rw [List.nil_append] at h
    have H1 := Lib.hid h
    clear j0 j1 j2
    obtain ⟨j0, j1, j2⟩ := (X2.out.bx.below h.2)
    clear h H0
    go_wp2_with fail
    refine (ron_num (n := f.num) H1.out rfl O.out (by have := L.out; omega)).mono ?_
    rintro e w5 ⟨rfl, h⟩
    have H2 := Lib.hid h
    clear j0 j1 j2
    obtain ⟨j0, j1, j2⟩ := (X2.out.bx.below h.2)
    clear h H1
    go_wp2_with fail
    refine (ron_bytes H2.out X2.out.sl rfl (by simp only [List.length_append]; have := L.out; omega) (by have := L.out; omega)).mono ?_
    rintro e w6 ⟨rfl, h⟩
    have H3 := Lib.hid h
    clear h H2 j0 j1 j2
    generalize lebL 0 ++ lebL f.num ++ (lebL f.bod.length ++ f.bod) = q at E2 H3
    obtain ⟨a7, c7, k0, hs7⟩ := wr_slice H3.out
    have B7 := Lib.hid (show Below W.heap.size W w6 from X2.out.be.trans (H3.out.2.mono X2.out.le))
    have S7 := Lib.hid hs7
    clear hs7
    go_wp2_with fail
    go_ret
    rw [E2.out]
    exact ⟨a7, c7, rfl, S7.out, B7.out⟩
  · by_cases hb : f.bod = []
    · have hb0 : f.bod.length = 0 := by rw [hb]; rfl
      have E2 := Lib.hid (show bytesF f = lebL 1 ++ lebL f.num by unfold bytesF; rw [show goodF f = true by simp [goodF, hA, hb]]; unfold putF; rw [hA]; rfl)
      have L := Lib.hid (show (lebL 1).length ≤ 10 ∧ (lebL f.num).length ≤ 10 from ⟨lens _ (by decide), lens _ O.out⟩)
      go_enter Try.func11, Try.ntmps11
      go_wp2_with fail
      have hsz : (W.alloc (.cells (frmA f a c) 32)).heap.size = W.heap.size + 1 := by simp
      generalize W.alloc (.cells (frmA f a c) 32) = w2 at X2 hsz ⊢
      obtain ⟨j0, j1, j2⟩ := X2.out.bx
      rw [hA] at j0
      rw [hb0] at j2
      clear hA hb0 hb
      go_wp2_with fail
      have H0 := Lib.hid (show WrOn w2 w2.heap.size (W.heap.size + 1) [] (w2.alloc (.cells #[.slice none 0 0] 54)) by rw [← hsz]; exact wr_new w2 54)
      clear j0 j1 j2 hsz
      obtain ⟨j0, j1, j2⟩ := X2.out.bx.below H0.out.2
      generalize w2.alloc (.cells #[.slice none 0 0] 54) = w3 at H0 j0 j1 j2 ⊢
      generalize W.heap.size + 1 = p at H0 ⊢
      go_wp2_with fail
      refine (ron_num (n := 1) H0.out rfl (by decide) (by simp)).mono ?_
      rintro e w4 ⟨rfl, h⟩
      rw [List.nil_append] at h
      have H1 := Lib.hid h
      clear j0 j1 j2
      obtain ⟨j0, j1, j2⟩ := (X2.out.bx.below h.2)
      clear h H0
      go_wp2_with fail
      refine (ron_num (n := f.num) H1.out rfl O.out (by have := L.out; omega)).mono ?_
      rintro e w5 ⟨rfl, h⟩
      have H3 := Lib.hid h
      clear h H1 j0 j1 j2
      generalize lebL 1 ++ lebL f.num = q at E2 H3
      obtain ⟨a7, c7, k0, hs7⟩ := wr_slice H3.out
      have B7 := Lib.hid (show Below W.heap.size W w5 from X2.out.be.trans (H3.out.2.mono X2.out.le))
      have S7 := Lib.hid hs7
      clear hs7
      go_wp2_with fail
      go_ret
      rw [E2.out]
      exact ⟨a7, c7, rfl, S7.out, B7.out⟩
    · have E := Lib.hid (show bytesF f = [] by unfold bytesF; rw [show goodF f = false by simp [goodF, hA, hb]]; rfl)
      have hp := List.length_pos_iff.2 hb
      have d2 : decide ((0 : Int) < (f.bod.length : Int)) = true := decide_eq_true (by omega)
      have d3 : decide (0 < f.bod.length) = true := decide_eq_true hp
      obtain ⟨n, hL⟩ : ∃ n, f.bod.length = n := ⟨_, rfl⟩
      go_enter Try.func11, Try.ntmps11
      go_wp2_with fail
      generalize W.alloc (.cells (frmA f a c) 32) = w2 at X2 ⊢
      obtain ⟨j0, j1, j2⟩ := X2.out.bx
      rw [hA] at j0
      rw [hL] at j2 d2 d3
      clear hA hb hp hL
      go_wp2_with fail
      go_ret
      rw [E.out]
      exact bytes_none W w2 X2.out.be
theorem rfput_is {f : Frm} {a : Option Addr} {c : Nat} {W : World} {bs : List Nat} (hs : SlAt bV 256 W a c f.bod) (hn : f.num < 18446744073709551616) (h : bytesF f = bs) :
    Calls Try.prog 11 #[.agg (frmA f a c)] W (BytesPost W bs) := by
  subst h; exact rfput_any f a c W hs hn

end Go.Proofs.Ythnglifjijfplaa
