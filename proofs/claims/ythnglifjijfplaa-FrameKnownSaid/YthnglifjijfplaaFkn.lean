/-
  What chapter 8 says of what is none: the walk of the statement FrameKnown.
-/
import Derived.Test.YthnglifjijfplaaFaw
import Derived.Deep.OwnRows
namespace Go.Proofs.Ythnglifjijfplaa
open Go.RowKit

/-- Seven rows of bytes that are no frames. -/
def NoneAt (w : World) (R : Nat) : Prop :=
  R < w.heap.size ∧ ∀ i, i < 7 → ∃ a cap xs, w.cell? ⟨R, i, none⟩ = some (.slice a (xs : List Nat).length cap) ∧ SlAt bV 256 w a cap xs ∧ okF xs = false ∧ xs.length ≤ 1000000
theorem NoneAt.below {w w' : World} {R : Nat} (h : NoneAt w R) (hb : Below w.heap.size w w') : NoneAt w' R :=
  ⟨Nat.lt_of_lt_of_le h.1 hb.size, fun i hi => by
    obtain ⟨a, cap, xs, hc, hs, ho, hl⟩ := h.2 i hi
    exact ⟨a, cap, xs, cell_go hc hb, hs.below hb, ho, hl⟩⟩

abbrev rowsA (n : Nat) : Array Value := #[.slice none 0 0, .slice (some ⟨n, 0, none⟩) 1 1, .slice (some ⟨n + 1, 0, none⟩) 3 3, .slice (some ⟨n + 2, 0, none⟩) 3 3, .slice (some ⟨n + 3, 0, none⟩) 2 2, .slice (some ⟨n + 4, 0, none⟩) 4 4, .slice (some ⟨n + 5, 0, none⟩) 3 3]
abbrev wlay (w : World) (t : TypeId) : World :=
  (((((w.alloc (.cells #[.int .u8 0] t)).alloc (.cells #[.int .u8 0, .int .u8 0, .int .u8 0] t)).alloc (.cells #[.int .u8 1, .int .u8 5, .int .u8 0] t)).alloc (.cells #[.int .u8 2, .int .u8 1] t)).alloc (.cells #[.int .u8 0, .int .u8 1, .int .u8 2, .int .u8 3] t)).alloc (.cells #[.int .u8 0, .int .u8 1, .int .u8 1] t)

theorem sl_at (w : World) (xs : List Nat) (t : TypeId) (n m : Nat) (hn : w.heap.size = n) (hm : xs.length = m) (hl : ∀ x ∈ xs, x < 256) (hx : m ≤ maxLen) : SlAt bV 256 (w.alloc (.cells (xs.map bV).toArray t)) (some ⟨n, 0, none⟩) m xs := by
  subst hn
  exact sl_lit bV 256 w xs _ t (0, 0) m rfl hm hl hx
theorem wlay_none (w : World) (t u : TypeId) : NoneAt ((wlay w t).alloc (.cells (rowsA w.heap.size) u)) (w.heap.size + 6) ∧ Below w.heap.size w ((wlay w t).alloc (.cells (rowsA w.heap.size) u)) := by
  obtain ⟨w0, h0⟩ : ∃ w0, w = w0 := ⟨_, rfl⟩
  obtain ⟨w1, h1⟩ : ∃ w1, w.alloc (.cells #[.int .u8 0] t) = w1 := ⟨_, rfl⟩
  obtain ⟨w2, h2⟩ : ∃ w2, w1.alloc (.cells #[.int .u8 0, .int .u8 0, .int .u8 0] t) = w2 := ⟨_, rfl⟩
  obtain ⟨w3, h3⟩ : ∃ w3, w2.alloc (.cells #[.int .u8 1, .int .u8 5, .int .u8 0] t) = w3 := ⟨_, rfl⟩
  obtain ⟨w4, h4⟩ : ∃ w4, w3.alloc (.cells #[.int .u8 2, .int .u8 1] t) = w4 := ⟨_, rfl⟩
  obtain ⟨w5, h5⟩ : ∃ w5, w4.alloc (.cells #[.int .u8 0, .int .u8 1, .int .u8 2, .int .u8 3] t) = w5 := ⟨_, rfl⟩
  obtain ⟨w6, h6⟩ : ∃ w6, w5.alloc (.cells #[.int .u8 0, .int .u8 1, .int .u8 1] t) = w6 := ⟨_, rfl⟩
  obtain ⟨w7, h7⟩ : ∃ w7, w6.alloc (.cells (rowsA w.heap.size) u) = w7 := ⟨_, rfl⟩
  have e : (wlay w t).alloc (.cells (rowsA w.heap.size) u) = w7 := by rw [← h7, ← h6, ← h5, ← h4, ← h3, ← h2, ← h1]
  have z1 : w1.heap.size = w.heap.size + 1 := by rw [← h1]; simp
  have z2 : w2.heap.size = w.heap.size + 2 := by rw [← h2]; simp; omega
  have z3 : w3.heap.size = w.heap.size + 3 := by rw [← h3]; simp; omega
  have z4 : w4.heap.size = w.heap.size + 4 := by rw [← h4]; simp; omega
  have z5 : w5.heap.size = w.heap.size + 5 := by rw [← h5]; simp; omega
  have z6 : w6.heap.size = w.heap.size + 6 := by rw [← h6]; simp; omega
  have hx : ∀ m, m ≤ 4 → m ≤ maxLen := fun m hm => by unfold maxLen; omega
  have s1 : SlAt bV 256 w1 (some ⟨w.heap.size, 0, none⟩) 1 [0] := h1 ▸ sl_at w [0] t _ 1 rfl rfl (by decide) (hx _ (by decide))
  have s2 : SlAt bV 256 w2 (some ⟨w.heap.size + 1, 0, none⟩) 3 [0, 0, 0] := h2 ▸ sl_at w1 [0, 0, 0] t _ 3 z1 rfl (by decide) (hx _ (by decide))
  have s3 : SlAt bV 256 w3 (some ⟨w.heap.size + 2, 0, none⟩) 3 [1, 5, 0] := h3 ▸ sl_at w2 [1, 5, 0] t _ 3 z2 rfl (by decide) (hx _ (by decide))
  have s4 : SlAt bV 256 w4 (some ⟨w.heap.size + 3, 0, none⟩) 2 [2, 1] := h4 ▸ sl_at w3 [2, 1] t _ 2 z3 rfl (by decide) (hx _ (by decide))
  have s5 : SlAt bV 256 w5 (some ⟨w.heap.size + 4, 0, none⟩) 4 [0, 1, 2, 3] := h5 ▸ sl_at w4 [0, 1, 2, 3] t _ 4 z4 rfl (by decide) (hx _ (by decide))
  have s6 : SlAt bV 256 w6 (some ⟨w.heap.size + 5, 0, none⟩) 3 [0, 1, 1] := h6 ▸ sl_at w5 [0, 1, 1] t _ 3 z5 rfl (by decide) (hx _ (by decide))
  have b7 : Below w6.heap.size w6 w7 := h7 ▸ below_alloc (Below.refl _ _) _
  have b6 : Below w5.heap.size w5 w7 := (h6 ▸ below_alloc (Below.refl _ w5) _ : Below w5.heap.size w5 w6).trans (b7.mono (by omega))
  have b5 : Below w4.heap.size w4 w7 := (h5 ▸ below_alloc (Below.refl _ w4) _ : Below w4.heap.size w4 w5).trans (b6.mono (by omega))
  have b4 : Below w3.heap.size w3 w7 := (h4 ▸ below_alloc (Below.refl _ w3) _ : Below w3.heap.size w3 w4).trans (b5.mono (by omega))
  have b3 : Below w2.heap.size w2 w7 := (h3 ▸ below_alloc (Below.refl _ w2) _ : Below w2.heap.size w2 w3).trans (b4.mono (by omega))
  have b2 : Below w1.heap.size w1 w7 := (h2 ▸ below_alloc (Below.refl _ w1) _ : Below w1.heap.size w1 w2).trans (b3.mono (by omega))
  have b1 : Below w.heap.size w w7 := (h1 ▸ below_alloc (Below.refl _ w) _ : Below w.heap.size w w1).trans (b2.mono (by omega))
  have hc : ∀ i v, (rowsA w.heap.size)[i]? = some v → w7.cell? ⟨w.heap.size + 6, i, none⟩ = some v := fun i v h => by
    rw [← h7, ← z6]
    have := World.news_of_block (cs := rowsA w.heap.size) (fr := (0, 0)) (heap_alloc_new w6 (.cells (rowsA w.heap.size) u)) i v (by rw [← Array.getElem?_toList] at h; exact h)
    rw [add_spot, Nat.zero_add] at this
    exact this
  rw [e]
  refine ⟨⟨by rw [← h7]; simp; omega, fun i hi => ?_⟩, b1⟩
  rcases (show i = 0 ∨ i = 1 ∨ i = 2 ∨ i = 3 ∨ i = 4 ∨ i = 5 ∨ i = 6 by omega) with rfl | rfl | rfl | rfl | rfl | rfl | rfl
  · exact ⟨none, 0, [], hc 0 _ rfl, SlAt.none _ _ _, by decide +kernel, by decide⟩
  · exact ⟨_, _, [0], hc 1 _ rfl, s1.below b2, by decide +kernel, by decide⟩
  · exact ⟨_, _, [0, 0, 0], hc 2 _ rfl, s2.below b3, by decide +kernel, by decide⟩
  · exact ⟨_, _, [1, 5, 0], hc 3 _ rfl, s3.below b4, by decide +kernel, by decide⟩
  · exact ⟨_, _, [2, 1], hc 4 _ rfl, s4.below b5, by decide +kernel, by decide⟩
  · exact ⟨_, _, [0, 1, 2, 3], hc 5 _ rfl, s5.below b6, by decide +kernel, by decide⟩
  · exact ⟨_, _, [0, 1, 1], hc 6 _ rfl, s6.below b7, by decide +kernel, by decide⟩

theorem fput_of {k : Bool} {n len c : Nat} {z : Int} {xs bs : List Nat} {a : Option Addr} {W : World} (hs : SlAt bV 256 W a c xs) (hl : xs.length = len) (hz : (n : Int) = z) (hn : n < 18446744073709551616) (h : bytesF ⟨k, n, xs⟩ = bs) :
    Calls Try.prog 9 #[.agg #[.bool k, .int .u64 z, .slice a len c]] W (BytesPost W bs) := by
  subst hl hz
  exact fput_is (f := ⟨k, n, xs⟩) hs hn h

/-- Very many noughts. -/
theorem make_many (w : World) : ∃ w' H xs, (Instr.makeSlice 23 (.int .i64 30001) (.int .i64 30001)).run Try.prog w = .ok (.slice (some ⟨H, 0, none⟩) 30001 30001) w' ∧ Below w.heap.size w w' ∧ SlAt bV 256 w' (some ⟨H, 0, none⟩) 30001 xs ∧ xs.length = 30001 := by
  obtain ⟨n, hn⟩ : ∃ n : Nat, n = 30001 := ⟨_, rfl⟩
  have hm := run_make_row' (P := Try.prog) 23 5 (.int .u8 0) 1 Try.underlying23 Try.infoB rfl .i64 .i64 n (by omega) (by omega) w
  have hz : (n : Int) = 30001 := by omega
  rw [hz] at hm
  refine ⟨_, w.heap.size, List.replicate n 0, (by rw [← hn]; exact hm), below_alloc (Below.refl _ _) _, ?_, by rw [List.length_replicate, hn]⟩
  refine ⟨fun x hx => by rw [(List.mem_replicate.1 hx).2]; decide, Nat.le_of_eq (by rw [List.length_replicate, hn]), by unfold maxLen; omega, (fun e => by cases e), fun i hi => ⟨w.heap.size, 0, rfl, by simp, ?_⟩⟩
  have hi' : i < n := by rwa [List.length_replicate] at hi
  have h := World.news_of_block (cs := madeCells #[.int .u8 0] n) (fr := (0, 0)) (heap_alloc_new w (.cells (madeCells #[.int .u8 0] n) 5)) i (bV 0) (by
    rw [toList_madeCells_one, List.getElem?_replicate, if_pos hi']; rfl)
  rw [add_spot] at h
  rw [List.getElem_replicate]
  exact h

theorem got_010 : gotF [0, 1, 0] = ⟨false, 1, []⟩ ∧ okF [0, 1, 0] = true := by
  have h := gotF_put (f := ⟨false, 1, []⟩) (by decide) rfl
  have e : putF ⟨false, 1, []⟩ = [0, 1, 0] := by simp [putF, lebL_lo]
  rw [e] at h
  exact ⟨h.2, h.1⟩
theorem got_10 : gotF [1, 0] = ⟨true, 0, []⟩ ∧ okF [1, 0] = true := by
  have h := gotF_put (f := ⟨true, 0, []⟩) (by decide) rfl
  have e : putF ⟨true, 0, []⟩ = [1, 0] := by simp [putF, lebL_lo]
  rw [e] at h
  exact ⟨h.2, h.1⟩

set_option maxRecDepth 20000 in
set_option maxHeartbeats 16000000 in
theorem law_FrameKnown (W : World) : Calls Try.prog 3 #[] W (Ok W) := by
  go_enter Try.func3, Try.ntmps3
  go_wp2_with fail
  refine (awake_any W).mono ?_
  rintro e w1 ⟨rfl, hb⟩
  have B1 := Lib.hid hb
  obtain ⟨hr, hb2⟩ := wlay_none w1 5 23
  have R2 := Lib.hid hr
  have B2 := Lib.hid (hb.trans (hb2.mono hb.size))
  clear hb hr hb2 B1
  go_wp2_with fail
  generalize (wlay w1 5).alloc (.cells (rowsA w1.heap.size) 23) = w2 at R2 B2 ⊢
  generalize w1.heap.size + 6 = R at R2 ⊢
  go_loopw [2] (fun iv wr => ∃ k : Nat, k ≤ 7 ∧ iv = .int .i64 (k : Nat) ∧ NoneAt wr R ∧ Below W.heap.size W wr) (fun iv _ => 7 - (intOf iv).toNat)
  case atStart => exact ⟨0, by decide, rfl, R2.out, B2.out⟩
  case round =>
    obtain ⟨k, hk, rfl, hR, hB⟩ := hrel
    have RR := Lib.hid hR
    have BB := Lib.hid hB
    clear R2 B2
    by_cases hlt : k < 7
    · obtain ⟨a, cap, xs, hc, hs, ho, hl⟩ := hR.2 k hlt
      have S := Lib.hid hs
      have OO := Lib.hid ho
      have GG := Lib.hid (show gotF xs = zeroF by unfold gotF; rw [ho]; rfl)
      have LL := Lib.hid hl
      clear hR hB hs ho hl
      go_wp2_with fail
      refine (fget_of S.out rfl LL.out GG.out OO.out).mono ?_
      rintro e w3 ⟨a3, c3, rfl, _, hb, _⟩
      have R3 := Lib.hid (RR.out.below (below_alloc hb (.cells (frmA zeroF a3 c3) 27)))
      have B3 := Lib.hid (BB.out.trans ((below_alloc hb (.cells (frmA zeroF a3 c3) 27)).mono BB.out.size))
      clear hb hc
      go_wp2_with fail
      go_roundw
      case rel => exact ⟨k + 1, by omega, by go_num, R3.out, B3.out⟩
      case measure => simp only [intOf]; omega
    · obtain rfl : k = 7 := by omega
      clear hR hB hlt hk RR
      have L4 := Lib.hid (show SlAt bV 256 (wr.alloc (.cells #[.int .u8 0, .int .u8 1, .int .u8 0] 5)) (some ⟨wr.heap.size, 0, none⟩) 3 [0, 1, 0] from sl_at wr [0, 1, 0] 5 _ 3 rfl rfl (by decide) (by unfold maxLen; omega))
      have B4 := Lib.hid (BB.out.alloc BB.out.size (.cells #[.int .u8 0, .int .u8 1, .int .u8 0] 5))
      go_wp2_with fail
      generalize wr.alloc (.cells #[.int .u8 0, .int .u8 1, .int .u8 0] 5) = w4 at L4 B4 ⊢
      refine (fget_of L4.out rfl (by simp) got_010.1 got_010.2).mono ?_
      rintro e w5 ⟨a5, c5, rfl, hs5, hb, _⟩
      have X5 := Fun.lay B4.out B4.out.size hb hs5 27
      clear hb hs5 L4 B4 BB
      go_wp2_with fail
      have z5 : (w5.alloc (.cells (frmA ⟨false, 1, []⟩ a5 c5) 27)).heap.size = w5.heap.size + 1 := by simp
      generalize w5.alloc (.cells (frmA ⟨false, 1, []⟩ a5 c5) 27) = w6 at X5 z5 ⊢
      generalize w5.heap.size = D at X5 z5 ⊢
      have L6 := Lib.hid (show SlAt bV 256 (w6.alloc (.cells #[.int .u8 1, .int .u8 0] 5)) (some ⟨D + 1, 0, none⟩) 2 [1, 0] from sl_at w6 [1, 0] 5 _ 2 z5 rfl (by decide) (by unfold maxLen; omega))
      clear z5
      have X6 := Fun.alloc (o := .cells #[.int .u8 1, .int .u8 0] 5) X5
      clear X5
      go_wp2_with fail
      generalize w6.alloc (.cells #[.int .u8 1, .int .u8 0] 5) = w7 at L6 X6 ⊢
      refine (fget_of L6.out rfl (by simp) got_10.1 got_10.2).mono ?_
      rintro e w8 ⟨a8, c8, rfl, hs8, hb, _⟩
      have X8 := Fun.alloc (o := .cells (frmA ⟨true, 0, []⟩ a8 c8) 27) (Fun.of hb X6)
      have Y8 := Fun.lay X6.out.be X6.out.le hb hs8 27
      clear hb hs8 L6 X6
      have i0 : (w8.alloc (.cells #[.bool true, .int .u64 0, .slice a8 0 c8] 27)).cell? ⟨D, 0, none⟩ = some (.bool false) := X8.out.bx.c0
      have i1 : (w8.alloc (.cells #[.bool true, .int .u64 0, .slice a8 0 c8] 27)).cell? ⟨D, 1, none⟩ = some (.int .u64 1) := X8.out.bx.c1
      have i2 : (w8.alloc (.cells #[.bool true, .int .u64 0, .slice a8 0 c8] 27)).cell? ⟨D, 2, none⟩ = some (.slice a5 0 c5) := X8.out.bx.c2
      have k0 : (w8.alloc (.cells #[.bool true, .int .u64 0, .slice a8 0 c8] 27)).cell? ⟨w8.heap.size, 0, none⟩ = some (.bool true) := Y8.out.bx.c0
      have k1 : (w8.alloc (.cells #[.bool true, .int .u64 0, .slice a8 0 c8] 27)).cell? ⟨w8.heap.size, 1, none⟩ = some (.int .u64 0) := Y8.out.bx.c1
      go_wp2_with fail
      refine (fput_of (k := false) (n := 0) (xs := []) (bs := []) (SlAt.none _ _ _) rfl rfl (by decide) rfl).mono ?_
      rintro e w10 ⟨a10, c10, rfl, _, hb⟩
      have B10 := Lib.hid (X8.out.be.trans (hb.mono X8.out.le))
      clear hb i0 i1 i2 k0 k1 X8 Y8
      have hcv := Lib.run_convert_bytes_const (P := Try.prog) w10 23 5 #[.int .u8 120] 1 1 Try.underlying23 Try.underlying5
      have L11 := Lib.hid (sl_lit bV 256 w10 [120] #[.int .u8 120] 5 (1, 2) 1 rfl rfl (by decide) (by unfold maxLen; omega))
      have B11 := Lib.hid (B10.out.alloc B10.out.size (.cells #[.int .u8 120] 5 (1, 2)))
      go_wp2_with fail
      generalize w10.alloc (.cells #[.int .u8 120] 5 (1, 2)) = w11 at L11 B11 ⊢
      generalize w10.heap.size = H at L11 ⊢
      refine (fput_of (k := true) (n := 1) (xs := [120]) (bs := []) L11.out rfl rfl (by decide) rfl).mono ?_
      rintro e w12 ⟨a12, c12, rfl, _, hb⟩
      have B12 := Lib.hid (B11.out.trans (hb.mono B11.out.size))
      clear hb hcv L11 B10 B11
      obtain ⟨w13, J, xs, hmk, hb, hs, hl⟩ := make_many w12
      have B13 := Lib.hid (B12.out.trans (hb.mono B12.out.size))
      have S13 := Lib.hid hs
      have N13 := Lib.hid hl
      have Z13 := Lib.hid (show bytesF ⟨false, 1, xs⟩ = [] by unfold bytesF; rw [show goodF ⟨false, 1, xs⟩ = false by simp [goodF, hl]]; rfl)
      clear hb hs hl B12
      go_wp2_with fail
      refine (fput_of (k := false) (n := 1) (xs := xs) (bs := []) S13.out N13.out rfl (by decide) Z13.out).mono ?_
      rintro e w14 ⟨a14, c14, rfl, _, hb⟩
      have B14 := Lib.hid (B13.out.trans (hb.mono B13.out.size))
      clear hb
      go_wp2_with fail
      go_ret
      exact ⟨rfl, B14.out⟩

end Go.Proofs.Ythnglifjijfplaa
