/-
  Put: a frame as bytes; the program's own and the document's.
-/
import Derived.Test.YthnglifjijfplaaFgd
namespace Go.Proofs.Ythnglifjijfplaa
open Go.RowKit

/-- Bytes are given. -/
def BytesPost (W : World) (bs : List Nat) (e : Ending) (w' : World) : Prop :=
  ∃ a cap, e = .returned (.slice a bs.length cap) ∧ SlAt bV 256 w' a cap bs ∧ Below W.heap.size W w'
theorem bytes_none (W w : World) (hb : Below W.heap.size W w) : BytesPost W [] (.returned (.slice none 0 0)) w := ⟨none, 0, rfl, SlAt.none _ _ _, hb⟩

set_option maxRecDepth 20000 in
set_option maxHeartbeats 8000000 in
theorem fput_any (f : Frm) (a : Option Addr) (c : Nat) (W : World) (hs : SlAt bV 256 W a c f.bod) (hn : f.num < 18446744073709551616) :
    Calls Try.prog 9 #[.agg (frmA f a c)] W (BytesPost W (bytesF f)) := by
  have X1 := Fun.new hs 27
  have hfit := hs.fit
  have O := Lib.hid hn
  clear hn hs
  obtain ⟨r, hr⟩ : ∃ r, goodF f = r := ⟨_, rfl⟩
  have R := Lib.hid hr
  clear hr
  go_enter Try.func9, Try.ntmps9
  go_wp2_with fail
  generalize W.alloc (.cells (frmA f a c) 27) = w1 at X1 ⊢
  obtain ⟨j0, j1, j2⟩ := X1.out.bx
  go_wp2_with fail
  refine (fgood_is X1.out.sl R.out).mono ?_
  rintro e w2 ⟨rfl, hb⟩
  have X2 := Fun.of hb X1
  clear hb X1 j0 j1 j2
  cases r
  · have E := Lib.hid (show bytesF f = [] by unfold bytesF; rw [R.out]; rfl)
    go_wp2_with fail
    go_ret
    rw [E.out]
    exact bytes_none W w2 X2.out.be
  have E := Lib.hid (show bytesF f = putF f by unfold bytesF; rw [R.out]; rfl)
  obtain ⟨j0, j1, j2⟩ := X2.out.bx
  go_wp2_with fail
  refine (wnew_any w2 w2.heap.size (Nat.le_refl _)).mono ?_
  rintro e w3 ⟨rfl, hA, hB⟩
  obtain ⟨p, hp⟩ : ∃ p, w2.heap.size = p := ⟨_, rfl⟩
  have H0 := Lib.hid (show WrOn w2 w2.heap.size w2.heap.size [] w3 from ⟨⟨_, hA⟩, hB⟩)
  have Y := (X2.out.bx.below hB)
  rw [hp] at H0 ⊢
  rw [← hp] at H0
  have H0 := Lib.hid (show WrOn w2 w2.heap.size p [] w3 by rw [← hp]; exact H0.out)
  clear j0 j1 j2
  obtain ⟨j0, j1, j2⟩ := Y
  clear hA hB hp
  cases hA : f.ack
  · rw [hA] at j0
    have E2 := Lib.hid (show bytesF f = lebL 0 ++ lebL f.num ++ (lebL f.bod.length ++ f.bod) by rw [E.out]; unfold putF; rw [hA]; rfl)
    have L := Lib.hid (show (lebL 0).length ≤ 10 ∧ (lebL f.num).length ≤ 10 ∧ f.bod.length ≤ 30000 from ⟨lens _ (by decide), lens _ O.out, by have := R.out; simp only [goodF, hA, Bool.false_eq_true, if_false, decide_eq_true_eq] at this; exact this.2⟩)
    clear hA E
    go_wp2_with fail
    refine (on_numz (n := 0) H0.out rfl (by decide) (by simp)).mono ?_
    rintro e w4 ⟨rfl, h⟩
    rw [List.nil_append] at h
    have H1 := Lib.hid h
    clear j0 j1 j2
    obtain ⟨j0, j1, j2⟩ := (X2.out.bx.below h.2)
    clear h H0
    go_wp2_with fail
    refine (on_numz (n := f.num) H1.out rfl O.out (by have := L.out; omega)).mono ?_
    rintro e w5 ⟨rfl, h⟩
    have H2 := Lib.hid h
    clear j0 j1 j2
    obtain ⟨j0, j1, j2⟩ := (X2.out.bx.below h.2)
    clear h H1
    go_wp2_with fail
    refine (on_bytesz H2.out X2.out.sl rfl (by simp only [List.length_append]; have := L.out; omega) (by have := L.out; omega)).mono ?_
    rintro e w6 ⟨rfl, h⟩
    have H3 := Lib.hid h
    clear h H2 j0 j1 j2
    go_wp2_with fail
    have QL : (lebL 0 ++ lebL f.num ++ (lebL f.bod.length ++ f.bod)).length ≤ 2000000 := by simp only [List.length_append]; have := L.out; have := lens f.bod.length (by omega); omega
    generalize lebL 0 ++ lebL f.num ++ (lebL f.bod.length ++ f.bod) = q at E2 H3 QL
    refine (on_done H3.out QL).mono ?_
    rintro e w7 ⟨a7, c7, rfl, hs7, h, _, _⟩
    have B7 := Lib.hid (show Below W.heap.size W w7 from X2.out.be.trans (h.2.mono X2.out.le))
    have S7 := Lib.hid hs7
    clear h hs7 H3
    go_wp2_with fail
    go_ret
    rw [E2.out]
    exact ⟨a7, c7, rfl, S7.out, B7.out⟩
  · rw [hA] at j0
    have E2 := Lib.hid (show bytesF f = lebL 1 ++ lebL f.num by rw [E.out]; unfold putF; rw [hA]; rfl)
    have L := Lib.hid (show (lebL 1).length ≤ 10 ∧ (lebL f.num).length ≤ 10 from ⟨lens _ (by decide), lens _ O.out⟩)
    clear hA E
    go_wp2_with fail
    refine (on_numz (n := 1) H0.out rfl (by decide) (by simp)).mono ?_
    rintro e w4 ⟨rfl, h⟩
    rw [List.nil_append] at h
    have H1 := Lib.hid h
    clear j0 j1 j2
    obtain ⟨j0, j1, j2⟩ := (X2.out.bx.below h.2)
    clear h H0
    go_wp2_with fail
    refine (on_numz (n := f.num) H1.out rfl O.out (by have := L.out; omega)).mono ?_
    rintro e w5 ⟨rfl, h⟩
    have H3 := Lib.hid h
    clear h H1 j0 j1 j2
    go_wp2_with fail
    have QL : (lebL 1 ++ lebL f.num).length ≤ 2000000 := by simp only [List.length_append]; have := L.out; omega
    generalize lebL 1 ++ lebL f.num = q at E2 H3 QL
    refine (on_done H3.out QL).mono ?_
    rintro e w7 ⟨a7, c7, rfl, hs7, h, _, _⟩
    have B7 := Lib.hid (show Below W.heap.size W w7 from X2.out.be.trans (h.2.mono X2.out.le))
    have S7 := Lib.hid hs7
    clear h hs7 H3
    go_wp2_with fail
    go_ret
    rw [E2.out]
    exact ⟨a7, c7, rfl, S7.out, B7.out⟩
theorem fput_is {f : Frm} {a : Option Addr} {c : Nat} {W : World} {bs : List Nat} (hs : SlAt bV 256 W a c f.bod) (hn : f.num < 18446744073709551616) (h : bytesF f = bs) :
    Calls Try.prog 9 #[.agg (frmA f a c)] W (BytesPost W bs) := by
  subst h; exact fput_any f a c W hs hn

end Go.Proofs.Ythnglifjijfplaa
