/-
  A float is written: eight bytes, the highest first; the program's own and the document's.
-/
import Derived.Test.YtjdnaonhfacpoaaPwr
import Derived.Deep.LoopGhost
namespace Go.Proofs.Ytjdnaonhfacpoaa
open Go.RowKit

/-- A word's byte number i of eight, the highest first. -/
def beB (k i : Nat) : Nat := k / 2 ^ ((7 - i) * 8) % 256
/-- A word in eight bytes, the highest first. -/
def beL (k : Nat) : List Nat := (List.range 8).map (beB k)
theorem beL_len (k : Nat) : (beL k).length = 8 := rfl
theorem beL_lt (k : Nat) : ∀ x ∈ beL k, x < 256 := by
  intro x hx
  obtain ⟨i, _, rfl⟩ := List.mem_map.1 hx
  exact Nat.mod_lt _ (by decide)
theorem beL_take (k j : Nat) (h : j < 8) : (beL k).take (j + 1) = (beL k).take j ++ [beB k j] := by
  rw [List.take_succ_eq_append_getElem (by rw [beL_len]; exact h)]
  congr 1
  simp [beL]
theorem take_len (k j : Nat) (h : j ≤ 8) : ((beL k).take j).length = j := by rw [List.length_take, beL_len]; omega

theorem key_lt (b : Nat) (h : b < 18446744073709551616) : keyN b < 18446744073709551616 := by
  unfold keyN sgnB
  split
  · omega
  · split
    · omega
    · rename_i h2
      have := of_decide_eq_false (by simpa using h2 : decide (9223372036854775808 ≤ b) = false)
      omega

theorem shr_byte {k s j : Nat} (hs : s = (7 - j) * 8) : ∃ B : Nat, IntKind.u8.wrap ((k : Int) / 2 ^ s) = (B : Int) ∧ B = beB k j := by
  subst hs
  exact ⟨_, by rw [IntKind.wrap_u8']; unfold beB; simp, rfl⟩

/-- So many bytes are written. -/
def FltRel (W : World) (N p : Nat) (F : Nat → Prop) (bs : List Nat) (k j : Nat) (wr : World) : Prop :=
  ∃ F', WrAt wr N p F' (bs ++ (beL k).take j) ∧ Keep F W wr ∧ ∀ i, F' i → F i ∨ W.heap.size ≤ i

theorem flt_step {W wr w1 w2 : World} {N p k j : Nat} {F F1 : Nat → Prop} {bs : List Nat} {v v2 : Value} (hj : j < 8) (hk : Keep F W wr) (hF : ∀ i, F1 i → F i ∨ W.heap.size ≤ i) (hV : WrV w1 N p F1 (bs ++ (beL k).take j) v) (hb : Below wr.heap.size wr w1)
    (hown : w2.ownsRow N 5 1 v2 ((bs ++ (beL k).take j).length + 1) ((bs ++ (beL k).take j).map bV ++ [bV (beB k j)])) (hgr : w1.grownBy w2 v.ownBlock) (hat : ∀ i, v2.ownBlock = some i → v.ownBlock = some i ∨ w1.heap.size ≤ i) :
    FltRel W N p F bs k (j + 1) (w2.setCell ⟨p, 0, none⟩ v2) := by
  have hw : WrPost w1 N p F1 ((bs ++ (beL k).take j) ++ [beB k j]) (.returned (.tuple #[])) (w2.setCell ⟨p, 0, none⟩ v2) :=
    hV.post (Keep.refl _ _) rfl hown hgr hat (by intro x hx; rw [List.mem_singleton.1 hx]; exact Nat.mod_lt _ (by decide))
  have ht := WrPost.trans (hk.trans (Keep.ofBelow (F := fun _ => False) hb) (fun _ _ f => f.elim)) hF hw
  rw [List.append_assoc, ← beL_take k j hj] at ht
  obtain ⟨_, F', hA, hK, hF'⟩ := ht
  exact ⟨F', hA, hK, hF'⟩

set_option maxRecDepth 20000 in
set_option maxHeartbeats 2000000 in
theorem wfloat_any (W : World) (N p : Nat) (F : Nat → Prop) (bs : List Nat) (x : Nat) (hA : WrAt W N p F bs) (hx : x < 18446744073709551616) (hl : bs.length ≤ 1000000) :
    Calls Try.prog 29 #[.pointer (some ⟨p, 0, none⟩), .float .f64 x] W (WrPost W N p F (bs ++ beL (keyN x))) := by
  obtain ⟨i0, hi0, hz0, hz1, hz2⟩ := info_parts Try.infoB
  have HA := Lib.hid hA
  have hk := key_lt x hx
  clear hA
  go_enter Try.func29, Try.ntmps29
  go_wp2_with (go_at_call 51; refine (key_any x _ hx).mono ?_; rintro e w' ⟨rfl, rfl⟩)
  generalize keyN x = k at *
  go_loopw [5] (fun i wr => ∃ j r : Nat, j + r = 8 ∧ i = .int .i64 ((r : Int) - 1) ∧ FltRel W N p F bs k j wr) (fun i _ => (intOf i + 1).toNat)
  case atStart => exact ⟨0, 8, rfl, by simp, F, by simpa using HA.out, Keep.refl _ _, fun _ f => Or.inl f⟩
  case round =>
    obtain ⟨j, r, hjr, rfl, F1, ⟨v, hV⟩, hK, hF⟩ := hrel
    cases r with
    | zero =>
      have HV := Lib.hid hV
      have HK := Lib.hid hK
      have HF := Lib.hid hF
      clear hV hK hF
      have E : bs ++ (beL k).take j = bs ++ beL k := by rw [show j = 8 by omega]; rfl
      go_wp2_with fail
      go_end0
      exact ⟨rfl, F1, by rw [← E]; exact ⟨v, HV.out⟩, HK.out, HF.out⟩
    | succ m =>
      have hj : j < 8 := by omega
      have hp := (hV.low p hV.inP).2
      have hNw : N ≤ wr.heap.size := by have := (hV.low p hV.inP).1; omega
      have hlen : (bs ++ (beL k).take j).length ≤ 1000010 := by rw [List.length_append, take_len k j (by omega)]; omega
      obtain ⟨s, hs⟩ : ∃ s : Nat, (m : Int) * 8 = (s : Int) := ⟨m * 8, by simp⟩
      obtain ⟨B, hB, hBe⟩ := shr_byte (k := k) (s := s) (j := j) (by omega)
      have hV1 := hV.drew.below ((Below.refl _ _).alloc (Nat.le_refl _) (.cells #[bV B] 5))
      have c0 := hV.cell
      have c0' : wr.drew.cell? ⟨p, 0, none⟩ = some v := c0
      have HV1 := Lib.hid hV1
      have HO := Lib.hid hV1.own
      have HK := Lib.hid hK
      have HF := Lib.hid hF
      have HB := Lib.hid (show Below wr.heap.size wr (wr.drew.alloc (.cells #[bV B] 5)) from ((⟨rfl, rfl, rfl, Nat.le_refl _, fun _ _ => rfl⟩ : Below wr.heap.size wr wr.drew).alloc (Nat.le_refl _) _))
      clear hV hK hF hV1
      have jw : ((m + 1 : Nat) : Int) - 1 = (m : Int) := by omega
      rw [jw]
      have hs56 : s ≤ 56 := by omega
      have hw64 : IntKind.i64.wrap (s : Int) = (s : Int) := by rw [IntKind.wrap_i64]; omega
      have HBe := Lib.hid hBe
      clear hBe
      go_wp2_with fail
      go_region_law (refine step_append_lies _ rfl (.tmp 16) (.tmp 22) 27 rfl N 5 i0 (.int .u8 0) 1 1 Try.underlying27 hi0 hz0 hz1 hz2 rfl (by decide) _ _ _ (by simp [Act.eval]) HO.out ⟨wr.heap.size, 0, none⟩ 1 1 [bV B] (by simp [Act.eval]) rfl (World.news_of_block (heap_alloc_new _ _)) (by simp [bV, Value.oneCell']) (by omega) (by unfold maxLen; omega) (by omega) (by simp; omega) _ rfl ?_
                     intro g2 cap2 w2 hown2 hgr2 hat2 hlt2
                     have R := Lib.hid (flt_step (k := k) (j := j) hj HK.out HF.out HV1.out HB.out (HBe.out ▸ hown2) hgr2 (lies_at hat2))
                     obtain ⟨c2, f2⟩ := HV1.out.at2 hgr2
                     clear hown2 hgr2 hat2)
      all_goals
        try go_simp
        go_wp2_with fail
        go_roundw
        case rel => exact ⟨j + 1, m, by omega, by simp, by simpa only [List.length_append, List.length_take] using R.out⟩
        case measure => simp only [intOf]; omega

set_option maxRecDepth 20000 in
set_option maxHeartbeats 2000000 in
theorem rwfloat_any (W : World) (N p : Nat) (F : Nat → Prop) (bs : List Nat) (x : Nat) (hA : WrAt W N p F bs) (hx : x < 18446744073709551616) (hl : bs.length ≤ 1000000) :
    Calls Try.prog 37 #[.pointer (some ⟨p, 0, none⟩), .float .f64 x] W (WrPost W N p F (bs ++ beL (keyN x))) := by
  obtain ⟨i0, hi0, hz0, hz1, hz2⟩ := info_parts Try.infoB
  have HA := Lib.hid hA
  have hk := key_lt x hx
  clear hA
  go_enter Try.func37, Try.ntmps37
  go_wp2_with (go_at_call 59; refine (rkey_any x _ hx).mono ?_; rintro e w' ⟨rfl, rfl⟩)
  generalize keyN x = k at *
  go_loopw [5] (fun i wr => ∃ j r : Nat, j + r = 8 ∧ i = .int .i64 (j : Int) ∧ FltRel W N p F bs k j wr) (fun i _ => 8 - (intOf i).toNat)
  case atStart => exact ⟨0, 8, rfl, rfl, F, by simpa using HA.out, Keep.refl _ _, fun _ f => Or.inl f⟩
  case round =>
    obtain ⟨j, r, hjr, rfl, F1, ⟨v, hV⟩, hK, hF⟩ := hrel
    cases r with
    | zero =>
      have HV := Lib.hid hV
      have HK := Lib.hid hK
      have HF := Lib.hid hF
      clear hV hK hF
      have E : bs ++ (beL k).take j = bs ++ beL k := by rw [show j = 8 by omega]; rfl
      go_wp2_with fail
      go_end0
      exact ⟨rfl, F1, by rw [← E]; exact ⟨v, HV.out⟩, HK.out, HF.out⟩
    | succ m =>
      have hj : j < 8 := by omega
      have hp := (hV.low p hV.inP).2
      have hNw : N ≤ wr.heap.size := by have := (hV.low p hV.inP).1; omega
      have hlen : (bs ++ (beL k).take j).length ≤ 1000010 := by rw [List.length_append, take_len k j (by omega)]; omega
      obtain ⟨d, hd⟩ : ∃ d : Nat, 8 * (j : Int) = (d : Int) := ⟨8 * j, by simp⟩
      obtain ⟨s, hs⟩ : ∃ s : Nat, 56 - (d : Int) = (s : Int) := ⟨56 - d, by omega⟩
      have hw1 : IntKind.i64.wrap (d : Int) = (d : Int) := by rw [IntKind.wrap_i64]; omega
      have hw2 : IntKind.u64.wrap (s : Int) = (s : Int) := by rw [IntKind.wrap_u64]; omega
      obtain ⟨B, hB, hBe⟩ := shr_byte (k := k) (s := s) (j := j) (by omega)
      have hV1 := hV.below ((Below.refl _ _).alloc (Nat.le_refl _) (.cells #[bV B] 5))
      have c0 := hV.cell
      have HV1 := Lib.hid hV1
      have HO := Lib.hid hV1.own
      have HK := Lib.hid hK
      have HF := Lib.hid hF
      have HB := Lib.hid (show Below wr.heap.size wr (wr.alloc (.cells #[bV B] 5)) from ((Below.refl _ _).alloc (Nat.le_refl _) _))
      clear hV hK hF hV1
      have hs56 : s ≤ 56 := by omega
      have hw64 : IntKind.i64.wrap (s : Int) = (s : Int) := by rw [IntKind.wrap_i64]; omega
      have HBe := Lib.hid hBe
      clear hBe
      go_wp2_with (at_builtin; refine wpList_append_at rfl (.tmp 16) (.tmp 24) 27 rfl N 5 i0 (.int .u8 0) 1 1 Try.underlying27 hi0 hz0 hz1 hz2 rfl (by decide) _ _ _ rfl HO.out (some ⟨wr.heap.size, 0, none⟩) 1 1 [bV B] rfl rfl (fun e => by cases e) (fun ad e => by cases e; exact World.news_of_block (heap_alloc_new _ _)) (by simp [bV, Value.oneCell']) (by unfold maxLen; omega) (by omega) (by simp; omega) ?_
                   intro v2 w2 hown2 hgr2 hat2
                   obtain ⟨a2, cap2, rfl⟩ := own_form hown2
                   have R := Lib.hid (flt_step (k := k) (j := j) hj HK.out HF.out HV1.out HB.out (HBe.out ▸ hown2) hgr2 hat2)
                   obtain ⟨c2, f2⟩ := HV1.out.at2 hgr2
                   clear hown2 hgr2 hat2)
      go_roundw
      case rel => exact ⟨j + 1, m, by omega, by simp, by simpa only [List.length_append, List.length_take] using R.out⟩
      case measure => simp only [intOf]; omega

end Go.Proofs.Ytjdnaonhfacpoaa
