/-
  What the chapter says of ends and of what has no form: the walk of the statement.
-/
import Derived.Test.YtlfahnijnlapdaaDoorDback
namespace Go.Proofs.YtlfahnijnlapdaaDoor
open Go.RowKit

def wrongs : List ByteArray := [⟨#[]⟩, ⟨#[123]⟩, ⟨#[123, 48, 44, 125]⟩, ⟨#[123, 51, 44, 48, 125]⟩, ⟨#[123, 48, 48, 125]⟩, ⟨#[123, 54, 52, 125]⟩, ⟨#[123, 48, 32, 125]⟩, ⟨#[123, 49, 44, 49, 125]⟩, ⟨#[48]⟩]
theorem wrongs_not : ∀ t ∈ wrongs, t.size ≤ 1000 ∧ showN (setN t.data.toList) ≠ t.data.toList := by
  have key : (wrongs.all fun t => decide (t.size ≤ 1000 ∧ showN (setN t.data.toList) ≠ t.data.toList)) = true := by decide +kernel
  intro t ht
  exact of_decide_eq_true (List.all_eq_true.1 key t ht)

theorem first_is {s n : Nat} {z : Int} {r : Bool} {W : World} (hG : Good W) (hs : s < 18446744073709551616) (hz : (s : Int) = z) (hn : firstN s = n) (hr : decide (s ≠ 0) = r) :
    Calls Tryd.prog 10 #[.int .u64 z] W fun e w' => e = .returned (.tuple #[.int .i64 (n : Nat), .bool r]) ∧ W = w' := by
  subst hz hn hr
  exact first_any s W hs hG.tz
theorem all_is {n : Int} {z : Int} {W : World} (hn : IntOk n) (hz : ((allN n : Nat) : Int) = z) : Calls Tryd.prog 12 #[.int .i64 n] W fun e w' => e = .returned (.int .u64 z) ∧ W = w' := by
  subst hz
  exact all_any n W hn
theorem count_z {s n : Nat} {z : Int} {W : World} (hs : s < 18446744073709551616) (hz : (s : Int) = z) (h : cntN s = n) :
    Calls Tryd.prog 14 #[.int .u64 z] W fun e w' => e = .returned (.int .i64 (n : Nat)) ∧ W = w' := by
  subst hz
  exact count_is hs h
theorem within_z {s t : Nat} {y z : Int} {r : Bool} {W : World} (hs : s < 18446744073709551616) (ht : t < 18446744073709551616) (hy : (s : Int) = y) (hz : (t : Int) = z) (h : decide (butN s t = 0) = r) :
    Calls Tryd.prog 15 #[.int .u64 y, .int .u64 z] W fun e w' => e = .returned (.bool r) ∧ W = w' := by
  subst hy hz
  exact within_is hs ht h

set_option maxRecDepth 20000 in
set_option maxHeartbeats 4000000 in
theorem law_DsetKnown (W : World) (hG : Good W) : Calls Tryd.prog 3 #[] W (OkPost W) := by
  have G := Lib.hid hG
  clear hG
  go_enter Tryd.func3, Tryd.ntmps3
  go_wp2_with fail
  refine (awake_any W G.out).mono ?_
  rintro e w0 ⟨rfl, hb0⟩
  have B0 := Lib.hid hb0
  clear hb0
  go_wp2_with fail
  have B1 := Lib.hid (below_alloc B0.out (.cells (wrongs.map Value.string).toArray 9))
  have S1 := Lib.hid (slv_lit w0 (wrongs.map Value.string) (wrongs.map Value.string).toArray 9 9 rfl rfl (by unfold maxLen; omega))
  have e0 : (wrongs.map Value.string).toArray = #[.string ⟨#[]⟩, .string ⟨#[123]⟩, .string ⟨#[123, 48, 44, 125]⟩, .string ⟨#[123, 51, 44, 48, 125]⟩, .string ⟨#[123, 48, 48, 125]⟩, .string ⟨#[123, 54, 52, 125]⟩, .string ⟨#[123, 48, 32, 125]⟩, .string ⟨#[123, 49, 44, 49, 125]⟩, .string ⟨#[48]⟩] := rfl
  rw [e0] at B1 S1
  clear e0
  generalize w0.alloc (.cells #[.string ⟨#[]⟩, .string ⟨#[123]⟩, .string ⟨#[123, 48, 44, 125]⟩, .string ⟨#[123, 51, 44, 48, 125]⟩, .string ⟨#[123, 48, 48, 125]⟩, .string ⟨#[123, 54, 52, 125]⟩, .string ⟨#[123, 48, 32, 125]⟩, .string ⟨#[123, 49, 44, 49, 125]⟩, .string ⟨#[48]⟩] 9) = w1 at *
  clear B0
  go_loopw [2] (fun i wr => ∃ k : Nat, k ≤ 9 ∧ i = .int .i64 (k : Nat) ∧ Hid (Below W.heap.size W wr ∧ SlV wr (some ⟨w0.heap.size, 0, none⟩) 9 (wrongs.map Value.string))) (fun i _ => 9 - (intOf i).toNat)
  case atStart => exact ⟨0, by decide, rfl, Lib.hid ⟨B1.out, S1.out⟩⟩
  case round =>
    obtain ⟨k, hk, rfl, hw⟩ := hrel
    clear B1 S1
    by_cases hlt : k < 9
    · have hlw : k < wrongs.length := hlt
      obtain ⟨b, off, e, _, hc⟩ := hw.out.2.at k hlw
      cases e
      rw [Nat.zero_add] at hc
      have HN := Lib.hid (wrongs_not wrongs[k] (List.getElem_mem hlw))
      generalize wrongs[k] = t at *
      clear hlw
      go_wp2_with fail
      refine (parse_not HN.out.1 (G.out.below hw.out.1) HN.out.2).mono ?_
      rintro e w2 ⟨rfl, hb2⟩
      have R := Lib.hid (And.intro (hw.out.1.trans (hb2.mono hw.out.1.size)) (hw.out.2.below hb2))
      clear hb2 hc HN
      go_wp2_with fail
      go_roundw
      case rel => exact ⟨k + 1, hlt, by go_num, R⟩
      case measure => simp only [intOf]; omega
    · have B2 := Lib.hid hw.out.1
      clear hw
      go_wp2_with fail
      refine (parse_is (s := ⟨#[123, 125]⟩) (u := 0) (z := 0) (by decide) (G.out.below B2.out) (by decide) (by decide +kernel) rfl).mono ?_
      rintro e w3 ⟨rfl, hb3⟩
      have B3 := Lib.hid (B2.out.trans (hb3.mono B2.out.size))
      have G3 := Lib.hid (G.out.below B3.out)
      clear hb3 B2
      go_wp2_with fail
      refine (first_is (s := 0) (n := 0) (r := false) G3.out (by decide) rfl rfl rfl).mono ?_
      rintro e w' ⟨rfl, rfl⟩
      go_wp2_with fail
      refine (first_is (s := 12) (n := 2) (r := true) G3.out (by decide) rfl (by decide) rfl).mono ?_
      rintro e w' ⟨rfl, rfl⟩
      go_wp2_with fail
      have B4 := Lib.hid (below_alloc B3.out (.cells #[.int .i64 (-1), .int .i64 64, .int .i64 63] 3))
      obtain ⟨w4, hw4⟩ : ∃ w4, w3.alloc (.cells #[.int .i64 (-1), .int .i64 64, .int .i64 63] 3) = w4 := ⟨_, rfl⟩
      rw [hw4] at B4 ⊢
      refine (of_lit (xs := [-1, 64, 63]) (z := 9223372036854775808) #[.int .i64 (-1), .int .i64 64, .int .i64 63] hw4 rfl rfl rfl (by decide) (by intro x hx; unfold IntOk; simp at hx; omega) (by decide)).mono ?_
      rintro e wx ⟨rfl, rfl⟩
      clear G3 B3 hw4
      go_wp2_with fail
      refine (all_is (n := 64) (z := 18446744073709551615) (by unfold IntOk; decide) (by decide +kernel)).mono ?_
      rintro e w' ⟨rfl, rfl⟩
      go_wp2_with fail
      refine (all_is (n := -1) (z := 0) (by unfold IntOk; decide) (by decide +kernel)).mono ?_
      rintro e w' ⟨rfl, rfl⟩
      go_wp2_with fail
      refine (all_is (n := 99) (z := 18446744073709551615) (by unfold IntOk; decide) (by decide +kernel)).mono ?_
      rintro e w' ⟨rfl, rfl⟩
      go_wp2_with fail
      refine (all_is (n := 3) (z := 7) (by unfold IntOk; decide) (by decide +kernel)).mono ?_
      rintro e w' ⟨rfl, rfl⟩
      go_wp2_with fail
      refine (has_is (s := 9223372036854775808) (p := 64) (r := false) (by decide) rfl (by unfold IntOk; decide) (by decide +kernel)).mono ?_
      rintro e wn4 ⟨rfl, hb⟩
      have B5 := Lib.hid (B4.out.trans (hb.mono B4.out.size))
      clear hb B4
      go_wp2_with fail
      refine (has_is (s := 1) (p := -1) (r := false) (by decide) rfl (by unfold IntOk; decide) (by decide +kernel)).mono ?_
      rintro e wn5 ⟨rfl, hb⟩
      have B6 := Lib.hid (B5.out.trans (hb.mono B5.out.size))
      clear hb B5
      go_wp2_with fail
      refine (count_z (s := 18446744073709551615) (n := 64) (by decide) rfl (by decide +kernel)).mono ?_
      rintro e w' ⟨rfl, rfl⟩
      go_wp2_with fail
      refine (within_z (s := 0) (t := 0) (r := true) (by decide) (by decide) rfl rfl (by decide +kernel)).mono ?_
      rintro e w' ⟨rfl, rfl⟩
      go_wp2_with fail
      refine (within_z (s := 1) (t := 3) (r := true) (by decide) (by decide) rfl rfl (by decide +kernel)).mono ?_
      rintro e w' ⟨rfl, rfl⟩
      go_wp2_with fail
      refine (within_z (s := 4) (t := 3) (r := false) (by decide) (by decide) rfl rfl (by decide +kernel)).mono ?_
      rintro e w' ⟨rfl, rfl⟩
      go_wp2_with fail
      go_ret
      exact ⟨rfl, B6.out⟩

end Go.Proofs.YtlfahnijnlapdaaDoor
