/-
  One is added: the walk.
-/
import Derived.Test.YtlbbbabieepabaaMadd
namespace Go.Proofs.Ytlbbbabieepabaa
open Go.RowKit

def AddPost (W : World) (N p : Nat) (F : Nat → Prop) (l : List Nat) (x : Nat) (e : Ending) (w' : World) : Prop :=
  e = .returned (.tuple #[]) ∧ ∃ F', MeterAt w' N p F' (l ++ [x]) ∧ Keep F W w' ∧ ∀ k, F' k → F k ∨ W.heap.size ≤ k

theorem floats_two {w : World} {b a c : Nat} (ha : a < 18446744073709551616) (hc : c < 18446744073709551616) (h0 : w.cell? ⟨b, 0, none⟩ = some (.float .f64 a)) (h1 : w.cell? ⟨b, 1, none⟩ = some (.float .f64 c)) : Floats w b 0 [a, c] := by
  refine ⟨by simpa using ⟨ha, hc⟩, fun i hi => ?_⟩
  match i, hi with
  | 0, _ => simpa using h0
  | 1, _ => simpa using h1

theorem min2_any (a c b cap : Nat) (w : World) (h : Floats w b 0 [a, c]) :
    Calls Try.prog 34 #[.slice (some ⟨b, 0, none⟩) 2 cap] w fun e w' => e = .returned (.float .f64 (minN [a, c])) ∧ w = w' := min_any [a, c] b 0 cap w h (by simp)
theorem max2_any (a c b cap : Nat) (w : World) (h : Floats w b 0 [a, c]) :
    Calls Try.prog 35 #[.slice (some ⟨b, 0, none⟩) 2 cap] w fun e w' => e = .returned (.float .f64 (maxN [a, c])) ∧ w = w' := max_any [a, c] b 0 cap w h (by simp)
theorem key_lt (b : Nat) (h : b < 18446744073709551616) : keyN b < 18446744073709551616 := by
  unfold keyN sgnB
  split
  · omega
  · split
    · omega
    · rename_i h2
      have := of_decide_eq_false (by simpa using h2 : decide (9223372036854775808 ≤ b) = false)
      omega
theorem new_cells {w : World} {a c : Nat} {t : TypeId} (n : Nat) (hn : n = w.heap.size) : (w.alloc (.cells #[.float .f64 a, .float .f64 c] t)).cell? ⟨n, 0, none⟩ = some (.float .f64 a) ∧ (w.alloc (.cells #[.float .f64 a, .float .f64 c] t)).cell? ⟨n, 1, none⟩ = some (.float .f64 c) := by
  subst hn
  exact ⟨by simp, by simp⟩

set_option maxHeartbeats 2000000 in
theorem add_any (W : World) (N p : Nat) (F : Nat → Prop) (l : List Nat) (x : Nat) (hA : MeterAt W N p F l) (hx : x < 18446744073709551616) (hl : ∀ y ∈ l, y < 18446744073709551616) (hn : l.length ≤ 90) :
    Calls Try.prog 11 #[.pointer (some ⟨p, 0, none⟩), .float .f64 x] W (AddPost W N p F l x) := by
  obtain ⟨s, v, vs, rs, hM, hI⟩ := hA
  have hp : p < W.heap.size := (hM.low p hM.inP).2
  have c0 := hM.cells.c0
  have c1 := hM.cells.c1
  have c2 := hM.cells.c2
  have c3 := hM.cells.c3
  have c4 := hM.cells.c4
  have c5 := hM.cells.c5
  have c6 := hM.cells.c6
  have f0 := hM.cells.fz 0
  have f1 := hM.cells.fz 1
  have f2 := hM.cells.fz 2
  have f3 := hM.cells.fz 3
  have f4 := hM.cells.fz 4
  have f5 := hM.cells.fz 5
  have f6 := hM.cells.fz 6
  have b0 : s.all ≤ 90 := by rw [hI.all]; exact hn
  have b1 : s.nums ≤ 90 := by rw [hI.nums]; exact Nat.le_trans (List.length_filter_le ..) hn
  have b2 : s.fin ≤ 90 := by rw [hI.fin]; exact Nat.le_trans (List.length_filter_le ..) hn
  have hfew := hI.few
  have hrl : rs.flatten.length ≤ 90 := by rw [hI.runs.length_eq]; simp; exact Nat.le_trans (List.length_filter_le ..) hn
  have hlts := hM.lts
  have HM := Lib.hid hM
  have HI := Lib.hid hI
  have HL := Lib.hid hl
  have HT := Lib.hid hlts
  have hst := store_float
  clear hM hI hl hlts
  cases hnan : nanB x
  · have H1 := Lib.hid hnan
    obtain ⟨r, q, e1, sm, lt⟩ := op_run .add rfl 28 s.sum x ((W.setCell ⟨p, 0, none⟩ (.int .i64 ((s.all : Int) + 1))).setCell ⟨p, 1, none⟩ (.int .i64 ((s.nums : Int) + 1)))
    have SM := Lib.hid sm
    clear sm
    go_enter Try.func11, Try.ntmps11
    go_wp2_with (go_at_call 36; refine (isNaN_any x _ hx).mono ?_; rintro e w' ⟨rfl, rfl⟩)
    have M4 := ((((HM.out.put0 (z := (s.all : Int) + 1) (s.all + 1) (by simp)).put1 (z := (s.nums : Int) + 1) (s.nums + 1) (by simp)).drewN q).put3 lt).alloc (.cells #[.float .f64 s.least, .float .f64 x] 28)
    have K4 : Keep F W (((((W.setCell ⟨p, 0, none⟩ (.int .i64 ((s.all : Int) + 1))).setCell ⟨p, 1, none⟩ (.int .i64 ((s.nums : Int) + 1))).drewN q).setCell ⟨p, 3, none⟩ (.float .f64 r)).alloc (.cells #[.float .f64 s.least, .float .f64 x] 28)) :=
      (((((Keep.refl F W).setCell (p := ⟨p, 0, none⟩) HM.out.inP _).setCell (p := ⟨p, 1, none⟩) HM.out.inP _).drewN q).setCell (p := ⟨p, 3, none⟩) HM.out.inP _).alloc _
    obtain ⟨g0, g1⟩ := new_cells (w := ((((W.setCell ⟨p, 0, none⟩ (.int .i64 ((s.all : Int) + 1))).setCell ⟨p, 1, none⟩ (.int .i64 ((s.nums : Int) + 1))).drewN q).setCell ⟨p, 3, none⟩ (.float .f64 r))) (a := s.least) (c := x) (t := 28) W.heap.size (by simp [World.setCell])
    clear e1 c0 c1 c2 c3 c4 c5 c6 f0 f1 f2 f3 f4 f5 f6
    generalize (((((W.setCell ⟨p, 0, none⟩ (.int .i64 ((s.all : Int) + 1))).setCell ⟨p, 1, none⟩ (.int .i64 ((s.nums : Int) + 1))).drewN q).setCell ⟨p, 3, none⟩ (.float .f64 r)).alloc (.cells #[.float .f64 s.least, .float .f64 x] 28)) = W4 at M4 K4 g0 g1 ⊢
    refine (min2_any s.least x _ 2 W4 (floats_two HT.out.2.1 hx g0 g1)).mono ?_
    rintro e w' ⟨rfl, rfl⟩
    have hp4 := (M4.low p M4.inP).2
    have c4 := M4.cells.c4
    have c5 := M4.cells.c5
    have f4 := M4.cells.fz 4
    have f5 := M4.cells.fz 5
    have A4 := Lib.hid M4
    have B4 := Lib.hid K4
    clear M4 K4 g0 g1
    have hmin : minN [s.least, x] < 18446744073709551616 := min_lt _ (by simpa using ⟨HT.out.2.1, hx⟩)
    have hmax : maxN [s.most, x] < 18446744073709551616 := max_lt _ (by simpa using ⟨HT.out.2.2.1, hx⟩)
    generalize hmn : minN [s.least, x] = mn at *
    generalize hmx : maxN [s.most, x] = mx at *
    have E1 := Lib.hid hmn
    have E2 := Lib.hid hmx
    clear hmn hmx
    go_wp2_with fail
    have M5 := (A4.out.put4 hmin).alloc (.cells #[.float .f64 s.most, .float .f64 x] 28)
    have K5 := (B4.out.setCell (p := ⟨p, 4, none⟩) HM.out.inP (.float .f64 mn)).alloc (.cells #[.float .f64 s.most, .float .f64 x] 28)
    obtain ⟨g0, g1⟩ := new_cells (w := W4.setCell ⟨p, 4, none⟩ (.float .f64 mn)) (a := s.most) (c := x) (t := 28) W4.heap.size (by simp [World.setCell])
    clear c4 c5 f4 f5
    generalize ((W4.setCell ⟨p, 4, none⟩ (.float .f64 mn)).alloc (.cells #[.float .f64 s.most, .float .f64 x] 28)) = W5 at M5 K5 g0 g1 ⊢
    refine (max2_any s.most x _ 2 W5 (floats_two HT.out.2.2.1 hx g0 g1)).mono ?_
    rintro e w' ⟨rfl, rfl⟩
    rw [E2.out]
    have hp5 := (M5.low p M5.inP).2
    have c5 := M5.cells.c5
    have f5 := M5.cells.fz 5
    have A5 := Lib.hid M5
    have B5 := Lib.hid K5
    clear M5 K5 g0 g1
    go_wp2_with (go_at_call 38; refine (key_any x _ hx).mono ?_; rintro e w' ⟨rfl, rfl⟩)
    have M6 := A5.out.put5 hmax
    have K6 := B5.out.setCell (p := ⟨p, 5, none⟩) HM.out.inP (.float .f64 mx)
    clear c5 f5
    generalize (W5.setCell ⟨p, 5, none⟩ (.float .f64 mx)) = W6 at M6 K6 ⊢
    refine (keep_any W6 N p F _ v vs rs (keyN x) M6 (key_lt x hx) (by omega) (by omega)).mono ?_
    rintro e W7 ⟨rfl, F', v', vs', rs', M7, K7, hF7, hp7, hf7⟩
    have hs6 := K6.size
    have hK : Keep F W W7 := K6.trans K7 (fun _ _ f => f)
    have hF : ∀ k, F' k → F k ∨ W.heap.size ≤ k := fun k f => or_map (hF7 k f) id (fun h => by omega)
    have A7 := Lib.hid M7
    have B7 := Lib.hid hK
    have C7 := Lib.hid hF
    have D7 := Lib.hid hp7
    have G7 := Lib.hid hf7
    have c2 := M7.cells.c2
    have f2 := M7.cells.fz 2
    have hp7' := (M7.low p M7.inP).2
    clear M6 K6 M7 K7 hF7 hp7 hf7 hK hF
    cases hinf : infB x
    · have H2 := Lib.hid hinf
      go_wp2_with (go_at_call 39; refine (isInf_both x _ hx).mono ?_; rintro e w' ⟨rfl, rfl⟩)
      have M8 := A7.out.put2 (z := (s.fin : Int) + 1) (s.fin + 1) (by simp)
      have K8 : Keep F W (W7.setCell ⟨p, 2, none⟩ (.int .i64 ((s.fin : Int) + 1))) := B7.out.setCell (p := ⟨p, 2, none⟩) HM.out.inP _
      clear c2 f2
      generalize (W7.setCell ⟨p, 2, none⟩ (.int .i64 ((s.fin : Int) + 1))) = W8 at M8 K8 ⊢
      refine (follow_any W8 N p F' _ v' vs' rs' x M8 hx).mono ?_
      rintro e W9 ⟨rfl, t, ht, M9, K9⟩
      have hK9 : Keep F W W9 := K8.trans K9 (fun k hk f => (C7.out k f).elim id (fun h => absurd h (by omega)))
      have A9 := Lib.hid M9
      have B9 := Lib.hid hK9
      have T9 := Lib.hid ht
      clear M8 K8 M9 K9 hK9 ht
      go_wp2_with fail
      go_end0
      refine ⟨rfl, F', ⟨_, _, _, _, A9.out, ?_⟩, B9.out, C7.out⟩
      have ht : Sim t (if s.fin = 0 then x else smoothS s.smooth x) := by
        have := T9.out
        by_cases h0 : s.fin = 0
        · simpa [h0] using this
        · simpa [h0] using this
      have := HI.out.whole HL.out H1.out H2.out SM.out ht D7.out G7.out
      rw [E1.out, E2.out] at this
      exact this
    · have H2 := Lib.hid hinf
      go_wp2_with (go_at_call 39; refine (isInf_both x _ hx).mono ?_; rintro e w' ⟨rfl, rfl⟩)
      go_end0
      refine ⟨rfl, F', ⟨_, _, _, _, A7.out, ?_⟩, B7.out, C7.out⟩
      have := HI.out.num HL.out H1.out H2.out SM.out D7.out G7.out
      rw [E1.out, E2.out] at this
      exact this
  · have H1 := Lib.hid hnan
    go_enter Try.func11, Try.ntmps11
    go_wp2_with (go_at_call 36; refine (isNaN_any x _ hx).mono ?_; rintro e w' ⟨rfl, rfl⟩)
    go_end0
    exact ⟨rfl, F, ⟨_, v, vs, rs, HM.out.put0 (s.all + 1) (by simp), HI.out.nan H1.out⟩, (Keep.refl _ _).setCell (p := ⟨p, 0, none⟩) HM.out.inP _, fun k f => Or.inl f⟩

end Go.Proofs.Ytlbbbabieepabaa
