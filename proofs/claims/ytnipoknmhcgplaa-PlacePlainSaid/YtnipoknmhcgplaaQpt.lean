/-
  Small ones: the walk of the statement PlacePlain: processes that are there.
-/
import Derived.Test.YtnipoknmhcgplaaQpl
import Derived.Deep.RegionHeld3
import Derived.Deep.DrawnRows
namespace Go.Proofs.Ytnipoknmhcgplaa
open Go.RowKit
attribute [local go_sem ↓] Go.wp_at_zero Go.wp_at_succ

set_option maxRecDepth 20000 in
set_option maxHeartbeats 64000000 in
theorem plain_true (n g p : Int) (W : World) (hn : IntOk n) (hg : IntOk g) (hp : IntOk p) (hY : (1 ≤ n ∧ n ≤ 16 ∧ (g == 1) = true ∧ 0 ≤ p ∧ p < n ∧ n ≤ 1 ∧ Hid (Way n g p true true false)) ∨ (1 ≤ n ∧ n ≤ 16 ∧ (g == 1) = true ∧ 0 ≤ p ∧ p < n ∧ 1 < n ∧ Hid (Way n g p true true true)) ∨ (1 ≤ n ∧ n ≤ 16 ∧ (g == 1) = false ∧ (g == 2) = true ∧ 0 ≤ p ∧ p < n ∧ n ≤ 1 ∧ Hid (Way n g p true true false)) ∨ (1 ≤ n ∧ n ≤ 16 ∧ (g == 1) = false ∧ (g == 2) = true ∧ 0 ≤ p ∧ p < n ∧ 1 < n ∧ Hid (Way n g p true true true))) :
    Calls Try.prog 3 #[.int .i64 n, .int .i64 g, .int .i64 p] W (OkPost W) := by

  have N := Lib.hid hn
  have P := Lib.hid hp
  have Z := Lib.hid (ok2 0 0).1
  have R := Lib.hid (rest_lt n p)
  have O := Lib.hid (plain_ok hn hg)
  have eA : bits .andNot .u64 (allN n : Int) (bitN p : Int) = ((restN n p : Nat) : Int) := or_neg_nat (allN n) (bitN p) (allN_lt n) (bitN_lt p)
  clear hn hg hp
  rcases hY with ⟨h1, h2, h3, h4, h5, h6, Y⟩ | ⟨h1, h2, h3, h4, h5, h6, Y⟩ | ⟨h1, h2, h3, h3', h4, h5, h6, Y⟩ | ⟨h1, h2, h3, h3', h4, h5, h6, Y⟩
  all_goals try have d5 : decide (p < n) = false := decide_eq_false (by omega)
  all_goals try have d4 : decide (0 ≤ p) = false := decide_eq_false (by omega)
  all_goals try have d6 : decide (1 < n) = false := decide_eq_false (by omega)
  all_goals
    go_enter Try.func3, Try.ntmps3
    go_wp2_with fail
    refine (awake_any _).mono ?_
    rintro e w1 ⟨rfl, hb⟩
    have B1 := Lib.hid hb
    clear hb
    go_wp2_with fail
    refine (plain_out n g _ N.out).mono ?_
    rintro e w2 ⟨a2, rfl, hs, hb⟩
    have B2 := Lib.hid (B1.out.trans (hb.mono B1.out.size))
    have S2 := Lib.hid hs
    clear hb B1 hs
    have X3 : Hid (Bun W W.heap.size w2.heap.size (plainC n g) a2 1 (w2.alloc (.cells #[.int .i64 n, .slice a2 1 1, .int .i64 2, .int .i64 3, .int .i64 2, .int .i64 8, .int .i64 64, .int .i64 g] 25))) :=
      Lib.hid ⟨below_alloc B2.out _, (below_alloc B2.out _).size, boxed_new w2 (plainC n g) a2 1 _, S2.out.below (below_alloc (Below.refl _ _) _)⟩
    clear S2 B2
    go_wp2_with fail
    generalize w2.heap.size = B at X3 ⊢
    generalize (w2.alloc (.cells #[.int .i64 n, .slice a2 1 1, .int .i64 2, .int .i64 3, .int .i64 2, .int .i64 8, .int .i64 64, .int .i64 g] 25)) = w3 at X3 ⊢
    clear w1 w2
    have X4 := Bun.drew X3
    obtain ⟨k0, k1, k2, k3, k4, k5, k6, k7, _⟩ := Bun.all X4
    go_region_held3 (fun w' => w'.cell? ⟨B, 0, none⟩ = some (.int .i64 n) ∧ w'.cell? ⟨B, 1, none⟩ = some (.slice a2 1 1) ∧ w'.cell? ⟨B, 2, none⟩ = some (.int .i64 2) ∧ w'.cell? ⟨B, 3, none⟩ = some (.int .i64 3) ∧
        w'.cell? ⟨B, 4, none⟩ = some (.int .i64 2) ∧ w'.cell? ⟨B, 5, none⟩ = some (.int .i64 8) ∧ w'.cell? ⟨B, 6, none⟩ = some (.int .i64 64) ∧ w'.cell? ⟨B, 7, none⟩ = some (.int .i64 g) ∧ Hid (Bun W W.heap.size B (plainC n g) a2 1 w'))
      (first | exact Bun.all (by assumption) | (go_split_ands; exact Bun.all (Bun.of (by assumption) (by assumption))) | (go_split_ands; exact Bun.all (by assumption)) | (go_split_ands; exact Bun.all (Bun.alloc (by assumption))) | exact Bun.all (Bun.of (by assumption) (by assumption)) | exact Bun.all (Bun.drew (by assumption)) | exact Bun.all (Bun.alloc (by assumption)))
      (first
        | (go_at_call 7; refine (good_is (c := plainC n g) (Hid.out (by first | assumption | (go_split_ands; assumption) : Hid (Bun W W.heap.size B (plainC n g) a2 1 _))).sl O.out Y.out.g).mono ?_; rintro e w' ⟨rfl, hb⟩)
        | (go_at_call 8; refine (keeps_is (c := plainC n g) (Hid.out (by first | assumption | (go_split_ands; assumption) : Hid (Bun W W.heap.size B (plainC n g) a2 1 _))).sl O.out P.out Z.out Y.out.t).mono ?_; rintro e w' ⟨rfl, hb⟩)
        | (go_at_call 10; refine (all_any n _ N.out).mono ?_; rintro e w' ⟨rfl, rfl⟩)
        | (go_at_call 11; refine (of_one p _ P.out).mono ?_; rintro e w' ⟨rfl, rfl⟩)
        | (go_at_call 9; refine (may_is (c := plainC n g) (Hid.out (by first | assumption | (go_split_ands; assumption) : Hid (Bun W W.heap.size B (plainC n g) a2 1 _))).sl O.out P.out R.out Y.out.m).mono ?_; rintro e w' ⟨rfl, hb⟩))
  all_goals
      go_wp2_with fail
      go_split_ands
      go_ret
      exact ⟨rfl, (Hid.out (by assumption : Hid (Bun W W.heap.size B (plainC n g) a2 1 _))).be⟩

end Go.Proofs.Ytnipoknmhcgplaa
