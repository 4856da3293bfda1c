/-
  What a lane's calls do: lane.Lane[int].
-/
import Derived.Test.YtkbenpfcnhijnaaVdel
import Derived.Deep.RegionLaw
import Derived.BigQuiet
namespace Go.Proofs.Ytkbenpfcnhijnaa
open Go.RowKit

section
variable {W : World} {N p : Nat} {F : Nat → Prop} {S : St Int}

theorem li_room {b : Bool} (hA : LnAt iV 3 W N p F S) (hb : decide (S.l.length < 4096) = b) :
    Calls Try.prog 35 #[.pointer (some ⟨p, 0, none⟩)] W fun e w' => e = .returned (.bool b) ∧ w' = W := by
  obtain ⟨v, hV⟩ := hA
  obtain ⟨a, cap, rfl, _⟩ := hV.slice
  have c0 := hV.c0
  have H := Lib.hid hb
  clear hV hb
  go_enter Try.func35, Try.ntmps35
  go_wp2_with fail
  go_ret
  exact ⟨ret_b (by rw [← H.out]; exact decide_eq_decide.2 (by omega)), rfl⟩

theorem li_has {b : Bool} {k : Int} (hA : LnAt iV 3 W N p F S) (hb : hasZ S.l.length k = b) :
    Calls Try.prog 34 #[.pointer (some ⟨p, 0, none⟩), .int .i64 k] W fun e w' => e = .returned (.bool b) ∧ w' = W := by
  obtain ⟨v, hV⟩ := hA
  obtain ⟨a, cap, rfl, _⟩ := hV.slice
  have c0 := hV.c0
  have H := Lib.hid hb
  clear hV hb
  by_cases h0 : 0 ≤ k
  · go_enter Try.func34, Try.ntmps34
    go_wp2_with fail
    go_ret
    exact ⟨ret_b (by rw [← H.out]; exact decide_eq_decide.2 (by omega)), rfl⟩
  · go_enter Try.func34, Try.ntmps34
    go_wp2_with fail
    go_ret
    exact ⟨ret_b (by rw [← H.out]; exact (decide_eq_false (by omega)).symm), rfl⟩

theorem li_len (hA : LnAt iV 3 W N p F S) :
    Calls Try.prog 16 #[.pointer (some ⟨p, 0, none⟩)] W fun e w' => e = .returned (.int .i64 (S.l.length : Nat)) ∧ w' = W := by
  obtain ⟨v, hV⟩ := hA
  obtain ⟨a, cap, rfl, _⟩ := hV.slice
  have c0 := hV.c0
  clear hV
  go_enter Try.func16, Try.ntmps16
  go_wp2_with fail
  go_ret
  exact ⟨rfl, rfl⟩

theorem li_counts (hA : LnAt iV 3 W N p F S) :
    Calls Try.prog 15 #[.pointer (some ⟨p, 0, none⟩)] W fun e w' => e = .returned (cntT S) ∧ ∃ q, w' = W.drewN q := by
  obtain ⟨v, hV⟩ := hA
  have c1 : W.drew.cell? ⟨p, 1, none⟩ = _ := hV.c1
  have c2 : W.drew.cell? ⟨p, 2, none⟩ = _ := hV.c2
  have c3 : W.drew.cell? ⟨p, 3, none⟩ = _ := hV.c3
  have c4 : W.drew.cell? ⟨p, 4, none⟩ = _ := hV.c4
  clear hV
  go_enter Try.func15, Try.ntmps15
  go_wp2_with fail
  go_region
  all_goals go_wp2_with fail
  refine bodyPost_ret (results_four rfl _ _ _) rfl ?_
  exact ⟨rfl, 1, rfl⟩

theorem li_clone {a : Option Addr} {cap : Nat} {l : List Int} (hs : SlV W a cap (l.map iV)) (hb : l.length ≤ 1000000) :
    Calls Try.prog 37 #[.slice a l.length cap] W (AllPost iV W l) := by
  obtain ⟨i0, hi0, hz0, hz1, hz2⟩ := info_parts li_info
  cases a with
  | none =>
    have hc := hs.nil rfl
    have hf := hs.fit
    rw [List.length_map] at hf
    obtain rfl : l = [] := List.length_eq_zero_iff.1 (by omega)
    subst hc
    have he : ∀ w : World, (binOp .eql 33 (.slice none 0 0) (.slice none 0 0)).run Try.prog w = .ok (.bool true) w := fun _ => rfl
    go_enter Try.func37, Try.ntmps37
    go_wp2_with fail
    go_ret
    exact ⟨none, 0, rfl, SlV.none _, Below.refl _ _⟩
  | some ad =>
    have HS := Lib.hid hs
    clear hs
    have he : ∀ w : World, (binOp .eql 33 (.slice (some ad) l.length cap) (.slice none 0 0)).run Try.prog w = .ok (.bool false) w := fun _ => rfl
    have O := Lib.hid (World.ownsRow_lit (base := W.heap.size) (e := 3) (size := 1) W #[] 0 (Nat.le_refl _) (by unfold maxLen; omega) rfl)
    go_enter Try.func37, Try.ntmps37
    go_wp2_with (at_builtin; refine wpList_append_at rfl (.tmp 5) (.tmp 6) 33 rfl W.heap.size 3 i0 (.int .i64 0) 1 8 Try.underlying33 hi0 hz0 hz1 hz2 rfl (by decide) _ _ _ rfl O.out _ _ _ (l.map iV) rfl (by simp) (fun e => by cases e) (HS.out.below ((Below.refl _ _).alloc (Nat.le_refl _) _)).news (ones_of _ (fun _ => rfl)) (by unfold maxLen; omega) (by omega) (by simp) ?_
                 intro v2 w2 hown2 hgr2 hat2
                 have hb2 : Below W.heap.size W w2 := ((Below.refl _ _).alloc (Nat.le_refl _) _).grown hgr2 (by simp) (fun k h => (O.out.lt k h).1)
                 try rw [Nat.zero_add, List.nil_append] at hown2
                 have R := Lib.hid (own_all hown2 hb2)
                 clear hown2 hgr2 hb2 hat2)
    go_ret
    exact R.out

theorem li_all (hA : LnAt iV 3 W N p F S) (hb : S.l.length ≤ 1000000) :
    Calls Try.prog 23 #[.pointer (some ⟨p, 0, none⟩)] W (AllPost iV W S.l) := by
  obtain ⟨v, hV⟩ := hA
  obtain ⟨a, cap, rfl, hs⟩ := hV.slice
  have c0 := hV.c0
  have HS := Lib.hid hs
  clear hV hs
  go_enter Try.func23, Try.ntmps23
  go_wp2_with (go_at_call 37; refine (li_clone HS.out hb).mono ?_; rintro e w' ⟨a2, cap2, rfl, h2⟩; have R := Lib.hid h2; clear h2)
  go_ret
  exact ⟨a2, cap2, rfl, R.out⟩

theorem li_new (hN : N ≤ W.heap.size) : Calls Try.prog 9 #[] W (NewPost iV 3 W N) := by
  have HN := Lib.hid hN
  go_enter Try.func9, Try.ntmps9
  go_wp2_with fail
  go_ret
  exact ⟨rfl, ⟨_, new_ln _ _ W N HN.out _⟩, (Below.refl _ _).alloc (Nat.le_refl _) _⟩
end

end Go.Proofs.Ytkbenpfcnhijnaa
