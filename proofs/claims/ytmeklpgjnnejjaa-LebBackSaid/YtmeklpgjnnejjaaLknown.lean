/-
  What the chapter tells of ends and of what is no number: the walk of the statement.
-/
import Derived.Test.YtmeklpgjnnejjaaLsmall
namespace Go.Proofs.Ytmeklpgjnnejjaa
open Go.RowKit

/-- A slice that is written out in the text. -/
theorem sl_lit (f : Nat → Value) (M : Nat) (w : World) (xs : List Nat) (cs : Array Value) (t : TypeId) (n : Nat) (hcs : cs = (xs.map f).toArray) (hn : xs.length = n) (hl : ∀ x ∈ xs, x < M) (hm : n ≤ maxLen) : SlAt f M (w.alloc (.cells cs t)) (some ⟨w.heap.size, 0, none⟩) n xs := by
  subst hcs hn
  refine ⟨hl, Nat.le_refl _, hm, (fun e => by cases e), fun i hi => ⟨w.heap.size, 0, rfl, by simp, ?_⟩⟩
  rw [Nat.zero_add]
  have h := World.news_of_block (cs := (xs.map f).toArray) (fr := (0, 0)) (heap_alloc_new w (.cells (xs.map f).toArray t)) i (f xs[i]) (by simp [List.getElem?_eq_getElem hi])
  rw [add_spot, Nat.zero_add] at h
  exact h

theorem get_of {bs : List Nat} {ao : Option Addr} {len cap : Nat} {W : World} {n k : Nat} (hs : SlAt bV 256 W ao cap bs) (hl : bs.length = len) (hg : getN bs = (n, k)) :
    Calls Try.prog 10 #[.slice ao len cap] W fun e w' => e = .returned (.tuple #[.int .u64 (n : Nat), .int .i64 (k : Nat)]) ∧ W = w' := by
  subst hl
  exact get_at hs hg

theorem all_of {bs : List Nat} {ao : Option Addr} {len cap : Nat} {W : World} {l : List Nat} {n : Nat} (hs : SlAt bV 256 W ao cap bs) (hl : bs.length = len) (hb : bs.length ≤ 1000) (hg : allN bs = some l) (hn : l.length = n) :
    Calls Try.prog 11 #[.slice ao len cap] W fun e w' => ∃ a c, e = .returned (.tuple #[.slice a n c, .bool true]) ∧ SlAt qV wordM w' a c l ∧ Below W.heap.size W w' := by
  subst hl hn
  have h := all_any bs ao cap W hs hb
  rw [hg] at h
  exact h
theorem all_not {bs : List Nat} {ao : Option Addr} {len cap : Nat} {W : World} (hs : SlAt bV 256 W ao cap bs) (hl : bs.length = len) (hb : bs.length ≤ 1000) (hg : allN bs = none) :
    Calls Try.prog 11 #[.slice ao len cap] W fun e w' => ∃ a c, e = .returned (.tuple #[.slice a 0 c, .bool false]) ∧ Below W.heap.size W w' := by
  subst hl
  have h := all_any bs ao cap W hs hb
  rw [hg] at h
  refine h.mono ?_
  rintro e w' ⟨a, c, rfl, _, hb⟩
  exact ⟨a, c, rfl, hb⟩

theorem sz_127 : szN 127 = 1 := szN_lo (by decide)
theorem sz_max : szN 18446744073709551615 = 10 := by
  have h1 := szN_word (n := 18446744073709551615) (by decide)
  have h2 := szN_gt 9 18446744073709551615 (by decide)
  omega
theorem all_12 : allN [1, 172, 2] = some [1, 300] := by decide
theorem all_1x : allN [1, 172] = none := by decide
theorem get_nil : getN [] = (0, 0) := by decide
theorem get_128 : getN [128] = (0, 0) := by decide
theorem get_1280 : getN [128, 0] = (0, 0) := by decide
theorem get_much : getN [255, 255, 255, 255, 255, 255, 255, 255, 255, 2] = (0, 0) := by decide

theorem put_nine (W : World) : Calls Try.prog 9 #[.slice (some ⟨W.heap.size, 0, none⟩) 1 1, .int .u64 18446744073709551615] (W.alloc (.cells #[.int .u8 9] 5)) fun e w' =>
    ∃ a cap, e = .returned (.slice a 11 cap) ∧ SlAt bV 256 w' a cap ([9] ++ lebL 18446744073709551615) ∧ Below W.heap.size W w' := by
  have h := put_any [9] (some ⟨W.heap.size, 0, none⟩) 1 18446744073709551615 (W.alloc (.cells #[.int .u8 9] 5)) (sl_lit bV 256 W [9] _ _ 1 rfl rfl (by simp) (by unfold maxLen; omega)) (by decide) (by simp)
  refine Calls.mono h ?_
  rintro e w' ⟨a, cap, rfl, hs, hb⟩
  have hl : ([9] ++ lebL 18446744073709551615).length = 11 := by
    have := sz_max
    unfold szN at this
    simp [this]
  rw [hl]
  exact ⟨a, cap, rfl, hs, ((Below.refl _ _).alloc (Nat.le_refl _) _).trans (hb.mono (by simp))⟩

theorem nine_drop (l : List Nat) : ([9] ++ l).drop 1 = l := rfl
theorem nine_get : getN (([9] ++ lebL 18446744073709551615).drop 1) = (18446744073709551615, 10) := by
  have h := getN_lebL (n := 18446744073709551615) (by decide) []
  rw [List.append_nil, sz_max] at h
  rw [nine_drop]
  exact h
theorem nine_len : (([9] ++ lebL 18446744073709551615).drop 1).length = 10 := by
  rw [nine_drop]
  have h := sz_max
  unfold szN at h
  exact h
theorem nine_fit : ([9] ++ lebL 18446744073709551615).length = 11 := by
  have h := sz_max
  unfold szN at h
  simp [h]

theorem hid_cell {f : Nat → Value} {M : Nat} {w : World} {a : Option Addr} {cap : Nat} {xs : List Nat} (h : SlAt f M w a cap xs) (h0 : 0 < xs.length) : ∃ b off, a = some ⟨b, off, none⟩ := by
  obtain ⟨b, off, e, _⟩ := h.cell 0 h0
  exact ⟨b, off, e⟩

set_option maxRecDepth 20000 in
set_option maxHeartbeats 4000000 in
theorem law_LebKnown (W : World) : Calls Try.prog 3 #[] W (LebOk W) := by
  have hs1 := size_any 127
  rw [sz_127] at hs1
  have hs2 := size_any 18446744073709551615
  rw [sz_max] at hs2
  go_enter Try.func3, Try.ntmps3
  go_wp2_with fail
  refine (awake_any W).mono ?_
  rintro e w0 ⟨rfl, hb0⟩
  have B0 := Lib.hid hb0
  clear hb0
  go_wp2_with fail
  refine (put_nine w0).mono ?_
  rintro e w1 ⟨a1, c1, rfl, hS, hb⟩
  have B1 := Lib.hid (B0.out.trans (hb.mono B0.out.size))
  obtain ⟨b, off, rfl⟩ := hid_cell hS (by simp)
  have hfit := hS.fit
  rw [nine_fit] at hfit
  have HS := Lib.hid (hS.drop 1 (by simp))
  clear hS hb B0
  rw [if_neg (show ¬ c1 = 1 by omega), show (some (⟨b, off, none⟩ : Addr)).map (fun x => x.add 1) = some ⟨b, off + 1, none⟩ by rw [Option.map_some, add_spot]] at HS
  have HG := Lib.hid nine_get
  have HL := Lib.hid nine_len
  generalize ([9] ++ lebL 18446744073709551615).drop 1 = ys at *
  go_wp2_with fail
  refine (get_of HS.out HL.out HG.out).mono ?_
  rintro e w' ⟨rfl, rfl⟩
  clear HS HL HG
  go_wp2_with fail
  refine (get_of (SlAt.none _ _ _) rfl get_nil).mono ?_
  rintro e w' ⟨rfl, rfl⟩
  go_wp2_with fail
  have B2 := Lib.hid (B1.out.alloc B1.out.size (.cells #[.int .u8 128] 5))
  have A2 := Lib.hid (sl_lit bV 256 w1 [128] #[.int .u8 128] 5 1 rfl rfl (by simp) (by unfold maxLen; omega))
  generalize w1.alloc (.cells #[.int .u8 128] 5) = w2 at *
  refine (get_of A2.out rfl get_128).mono ?_
  rintro e w' ⟨rfl, rfl⟩
  clear A2 B1
  go_wp2_with fail
  have B3 := Lib.hid (B2.out.alloc B2.out.size (.cells #[.int .u8 128, .int .u8 0] 5))
  have A3 := Lib.hid (sl_lit bV 256 w2 [128, 0] #[.int .u8 128, .int .u8 0] 5 2 rfl rfl (by simp) (by unfold maxLen; omega))
  generalize w2.alloc (.cells #[.int .u8 128, .int .u8 0] 5) = w3 at *
  refine (get_of A3.out rfl get_1280).mono ?_
  rintro e w' ⟨rfl, rfl⟩
  clear A3 B2
  go_wp2_with fail
  have B4 := Lib.hid (B3.out.alloc B3.out.size (.cells #[.int .u8 255, .int .u8 255, .int .u8 255, .int .u8 255, .int .u8 255, .int .u8 255, .int .u8 255, .int .u8 255, .int .u8 255, .int .u8 2] 5))
  have A4 := Lib.hid (sl_lit bV 256 w3 [255, 255, 255, 255, 255, 255, 255, 255, 255, 2] #[.int .u8 255, .int .u8 255, .int .u8 255, .int .u8 255, .int .u8 255, .int .u8 255, .int .u8 255, .int .u8 255, .int .u8 255, .int .u8 2] 5 10 rfl rfl (by simp) (by unfold maxLen; omega))
  generalize w3.alloc (.cells #[.int .u8 255, .int .u8 255, .int .u8 255, .int .u8 255, .int .u8 255, .int .u8 255, .int .u8 255, .int .u8 255, .int .u8 255, .int .u8 2] 5) = w4 at *
  refine (get_of A4.out rfl get_much).mono ?_
  rintro e w' ⟨rfl, rfl⟩
  clear A4 B3
  go_wp2_with fail
  have B5 := Lib.hid (B4.out.alloc B4.out.size (.cells #[.int .u8 1, .int .u8 172, .int .u8 2] 5))
  have A5 := Lib.hid (sl_lit bV 256 w4 [1, 172, 2] #[.int .u8 1, .int .u8 172, .int .u8 2] 5 3 rfl rfl (by simp) (by unfold maxLen; omega))
  generalize w4.alloc (.cells #[.int .u8 1, .int .u8 172, .int .u8 2] 5) = w5 at *
  refine (all_of A5.out rfl (by simp) all_12 rfl).mono ?_
  rintro e w6 ⟨a6, c6, rfl, h6, hb6⟩
  have B6 := Lib.hid (B5.out.trans (hb6.mono B5.out.size))
  have H6 := Lib.hid h6
  clear h6 hb6 A5 B4 B5
  go_wp2_with fail
  have B7 := Lib.hid (B6.out.alloc B6.out.size (.cells #[.int .u8 1, .int .u8 172] 5))
  have A7 := Lib.hid (sl_lit bV 256 w6 [1, 172] #[.int .u8 1, .int .u8 172] 5 2 rfl rfl (by simp) (by unfold maxLen; omega))
  have H7 := Lib.hid (H6.out.below ((Below.refl _ _).alloc (Nat.le_refl _) (.cells #[.int .u8 1, .int .u8 172] 5)))
  generalize w6.alloc (.cells #[.int .u8 1, .int .u8 172] 5) = w7 at *
  refine (all_not A7.out rfl (by simp) all_1x).mono ?_
  rintro e w8 ⟨a8, c8, rfl, hb8⟩
  have B8 := Lib.hid (B7.out.trans (hb8.mono B7.out.size))
  have H8 := Lib.hid (H7.out.below hb8)
  clear hb8 H6 H7 A7 B6 B7
  go_wp2_with fail
  refine (all_of (SlAt.none _ _ _) rfl (by simp) allN_nil rfl).mono ?_
  rintro e w9 ⟨a9, c9, rfl, _, hb9⟩
  have B9 := Lib.hid (B8.out.trans (hb9.mono B8.out.size))
  have h9 := H8.out.below hb9
  obtain ⟨g, o, rfl, _, hcx⟩ := h9.cell 1 (by simp)
  have k1 : w9.cell? ⟨g, o + 1, none⟩ = some (.int .u64 300) := hcx
  clear hb9 H8 h9 hcx B8
  go_wp2_with fail
  refine (hs1 _ (by decide)).mono ?_
  rintro e w' ⟨rfl, rfl⟩
  go_wp2_with fail
  refine (hs2 _ (by decide)).mono ?_
  rintro e w' ⟨rfl, rfl⟩
  go_wp2_with fail
  go_ret
  exact ⟨rfl, B9.out⟩

end Go.Proofs.Ytmeklpgjnnejjaa
