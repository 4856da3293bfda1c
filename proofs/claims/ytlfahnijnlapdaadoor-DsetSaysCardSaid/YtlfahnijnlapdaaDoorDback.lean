/-
  A set is that of its list, and of its text; the list rises: the walk of the statement.
-/
import Derived.Test.YtlfahnijnlapdaaDoorDsums
namespace Go.Proofs.YtlfahnijnlapdaaDoor
open Go.RowKit

theorem list_rise {s i : Nat} (h : i + 1 < (listN s).length) : (listN s)[i] < (listN s)[i + 1] := by
  have hp : (listN s).Pairwise (· < ·) := List.Pairwise.filter _ List.pairwise_lt_range
  exact List.pairwise_iff_getElem.1 hp i (i + 1) (by omega) h (by omega)
theorem list_ok (s : Nat) : ∀ x ∈ (listN s).map fun (x : Nat) => (x : Int), IntOk x := by
  intro x hx
  obtain ⟨y, hy, rfl⟩ := List.mem_map.1 hx
  have := toN_lt y hy
  unfold IntOk
  omega
theorem wrap_index (j : Nat) (h : j < 1000) : IntKind.i64.wrap (j : Int) = (j : Int) := by
  simp [IntKind.wrap, IntKind.bits, IntKind.signed]
  omega
theorem of_list_is {s n : Nat} {a : Option Addr} {c : Nat} {W : World} (hs : s < 18446744073709551616) (h : SlV W a c ((listN s).map nV)) (hn : (listN s).length = n) :
    Calls Tryd.prog 11 #[.slice a n c] W fun e w' => e = .returned (.int .u64 (s : Nat)) ∧ W = w' := by
  rw [nV_map] at h
  exact of_end h (list_ok s) (by rw [List.length_map]; exact hn) (of_list hs)

set_option maxRecDepth 20000 in
set_option maxHeartbeats 4000000 in
theorem law_DsetBack (s : Nat) (W : World) (hG : Good W) (hs : s < 18446744073709551616) : Calls Tryd.prog 5 #[.int .u64 (s : Nat)] W (OkPost W) := by
  have G := Lib.hid hG
  clear hG
  have h64 := cntN_le s
  unfold cntN at h64
  go_enter Tryd.func5, Tryd.ntmps5
  go_wp2_with fail
  refine (awake_any W G.out).mono ?_
  rintro e w0 ⟨rfl, hb0⟩
  have B0 := Lib.hid hb0
  clear hb0
  go_wp2_with fail
  refine (list_any s w0 hs).mono ?_
  rintro e w1 ⟨a, c, rfl, hsl, hb1⟩
  have B1 := Lib.hid (B0.out.trans (hb1.mono B0.out.size))
  have S1 := Lib.hid hsl
  clear hsl hb1 B0
  go_wp2_with fail
  refine (show_any s w1 hs (G.out.below B1.out)).mono ?_
  rintro e w2 ⟨rfl, hb2⟩
  have B2 := Lib.hid (B1.out.trans (hb2.mono B1.out.size))
  have S2 := Lib.hid (S1.out.below hb2)
  clear hb2 B1 S1
  have hsz : (⟨(showN s).toArray⟩ : ByteArray).size ≤ 1000 := by
    have h1 := join_len (listN s)
    show (showN s).length ≤ 1000
    unfold showN
    simp
    omega
  have HP := Lib.hid (fun (V : World) (hV : Good V) => parse_is (z := (s : Int)) (W := V) hsz hV hs rfl rfl)
  generalize (⟨(showN s).toArray⟩ : ByteArray) = t at *
  clear hsz
  go_wp2_with fail
  refine (HP.out w2 (G.out.below B2.out)).mono ?_
  rintro e w3 ⟨rfl, hb3⟩
  have B3 := Lib.hid (B2.out.trans (hb3.mono B2.out.size))
  have S3 := Lib.hid (S2.out.below hb3)
  clear hb3 B2 S2 HP
  go_wp2_with fail
  go_loopw [7] (fun i wr => ∃ k q : Nat, k ≤ (listN s).length + 1 ∧ 1 ≤ k ∧ i = .int .i64 (k : Nat) ∧ wr = w3.drewN q) (fun i _ => (listN s).length + 1 - (intOf i).toNat)
  case atStart => exact ⟨1, 0, by omega, by decide, rfl, rfl⟩
  case round =>
    obtain ⟨k, q, hk, hk1, rfl, rfl⟩ := hrel
    obtain ⟨j, rfl⟩ : ∃ j, k = j + 1 := ⟨k - 1, by omega⟩
    by_cases hlt : j + 1 < (listN s).length
    · have hj : j < (listN s).length := by omega
      obtain ⟨g, o, rfl, _, hc1⟩ := S3.out.at (j + 1) hlt
      obtain ⟨g', o', e, _, hc0⟩ := S3.out.at j hj
      cases e
      have hQ := Lib.hid (fun n => (show ∃ q', (w3.drewN q).drewN n = w3.drewN q' from ⟨q + n, by rw [World.drewN_drewN]⟩))
      have k1 : (w3.drewN q).cell? ⟨g, o + (j + 1), none⟩ = some (.int .i64 ((listN s)[j + 1] : Nat)) := hc1
      have k0 : (w3.drewN q).cell? ⟨g, o + j, none⟩ = some (.int .i64 ((listN s)[j] : Nat)) := hc0
      have ib : (j : Int) + 1 < ((listN s).length : Int) := by omega
      have jb : (j : Int) < ((listN s).length : Int) := by omega
      have i0 : (0 : Int) ≤ (j : Int) + 1 := by omega
      have j0 : (0 : Int) ≤ (j : Int) := by omega
      have jw : (j : Int) + 1 - 1 = (j : Int) := by omega
      have jy : IntKind.i64.wrap (j : Int) = (j : Int) := wrap_index j (by omega)
      have jx : IntKind.i64.wrap ((j : Int) + 1 - 1) = (j : Int) := by rw [jw]; exact jy
      have hr := list_rise hlt
      clear hc0 hc1
      generalize (listN s)[j] = y at *
      generalize (listN s)[j + 1] = z at *
      generalize w3.drewN q = ww at *
      have d : decide ((z : Int) ≤ (y : Int)) = false := by simp; omega
      have dN : decide (z ≤ y) = false := by simp; omega
      clear hr
      go_wp2_with fail
      go_quiet (fail)
      go_wp2_with fail
      go_roundw
      case rel => exact (hQ.out _).elim fun q' e => ⟨j + 1 + 1, q', by omega, by omega, by go_num, e⟩
      case measure => simp only [intOf]; omega
    · have B4 := Lib.hid (drewN_below B3.out q)
      have S4 := Lib.hid (S3.out.drewN q)
      have W1 := Lib.hid (show decide (butN s s = 0) = true from decide_eq_true ((but_zero hs hs).2 fun i _ h => h))
      clear B3 S3
      generalize w3.drewN q = ww at *
      go_wp2_with fail
      refine (of_list_is hs S4.out rfl).mono ?_
      rintro e w' ⟨rfl, rfl⟩
      go_wp2_with fail
      refine (count_is hs (show cntN s = (listN s).length from rfl)).mono ?_
      rintro e w' ⟨rfl, rfl⟩
      go_wp2_with fail
      refine (within_is hs hs W1.out).mono ?_
      rintro e w' ⟨rfl, rfl⟩
      go_wp2_with fail
      go_ret
      exact ⟨rfl, B4.out⟩

end Go.Proofs.YtlfahnijnlapdaaDoor
